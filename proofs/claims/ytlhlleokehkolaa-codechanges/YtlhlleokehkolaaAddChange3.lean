/-
  Contract of addChange, of a drop.
-/
import Derived.Test.YtlhlleokehkolaaAddChange
namespace Go.Proofs.Ytlhlleokehkolaa
open Go.RowKit
set_option linter.unusedSimpArgs false
set_option linter.unusedVariables false
set_option maxRecDepth 100000

theorem addChange2 (base : Nat) (v : Value) (l : List UInt8) (kind why : UInt8) (t : Nat) (item : Itm) (key : ByteArray) (to : Int) (primary : Bool) (w : World) (hown : Own w base v l) (hbase : base ≤ w.heap.size) (hl : l.length ≤ 80000000)
    (hkind : kind.toNat = 2) (ht : t < 4) (hk : key.size ≤ 32) :
    Calls Try.prog 41 #[v, .agg #[.int .u8 kind.toNat, .int .i64 t, .string item.key, .string item.value, .int .u32 item.flags, .int .i64 item.til, .int .u64 item.unique, .string key, .int .u8 why.toNat, .int .i64 to, .bool primary]] w
      fun e w' => ∃ v', e = .returned v' ∧ Own w' base v' (l ++ ([kind] ++ small t ++ (text key.data.toList ++ [why]))) ∧ Grew w w' v v' := by
  have hbox := Boxed.made hown [.int .u8 kind.toNat, .int .i64 t, .string item.key, .string item.value, .int .u32 item.flags, .int .i64 item.til, .int .u64 item.unique, .string key, .int .u8 why.toNat, .int .i64 to, .bool primary] 41
  have hownB := hown.alloc (.cells #[.int .u8 kind.toNat, .int .i64 t, .string item.key, .string item.value, .int .u32 item.flags, .int .i64 item.til, .int .u64 item.unique, .string key, .int .u8 why.toNat, .int .i64 to, .bool primary] 41)
  have hgB := grew_alloc (w := w) v (.cells #[.int .u8 kind.toNat, .int .i64 t, .string item.key, .string item.value, .int .u32 item.flags, .int .i64 item.til, .int .u64 item.unique, .string key, .int .u8 why.toNat, .int .i64 to, .bool primary] 41)
  have e1 := small_len t
  have hft : Fits t := by unfold Fits; omega
  have hk1 : ((kind.toNat : Int) == 1) = false := by simp [hkind]
  have hk2 : ((kind.toNat : Int) == 2) = true := by simp [hkind]
  have hk3 : ((kind.toNat : Int) == 3) = false := by simp [hkind]
  have hk4 : ((kind.toNat : Int) == 4) = false := by simp [hkind]
  have hk5 : ((kind.toNat : Int) == 5) = false := by simp [hkind]
  have hk6 : ((kind.toNat : Int) == 6) = false := by simp [hkind]
  have hk7 : ((kind.toNat : Int) == 7) = false := by simp [hkind]
  have hten : hasTen kind.toNat = true := by simp [hkind, hasTen]
  have e3 := small_len key.size
  have e4 : (text key.data.toList).length ≤ 42 := by simp [text]; omega
  obtain ⟨k, hke⟩ : ∃ k : Nat, k = kind.toNat := ⟨_, rfl⟩
  have hko : (k : Int) = (kind.toNat : Int) := by omega
  have HKO : Hid ((k : Int) = (kind.toNat : Int)) := hko
  rw [← hke] at hbox hownB hgB hk1 hk2 hk3 hk4 hk5 hk6 hk7 hten ⊢
  clear hke hko hkind
  go_enter Try.func41, Try.ntmps41
  go_wp2_with (first
    | (at_builtin; refine app_oneH rfl (.tmp 5) (.tmp 8) rfl base _ _ hownB rfl _ _ HKO.out rfl _ rfl (by simp) (by omega) (by simp; omega) ?_; intro v1 w1 ho1 hg1; have hbox1 := hbox.grew hg1; have d0 : w1.cell? ⟨w.heap.size, 0, none⟩ = some (.int .u8 k) := hbox1.cells 0 (by simp); have d1 : w1.cell? ⟨w.heap.size, 1, none⟩ = some (.int .i64 t) := hbox1.cells 1 (by simp); have hg01 := hgB.trans hg1; have hs1 : base ≤ w1.heap.size := Nat.le_trans hbase hg01.grown.size)
    | (go_at_call 60; refine (hasTenant_any k _).mono ?_; rintro e w' ⟨rfl, rfl⟩)
    | (go_at_call 38; refine (addSmall_any base v1 _ t w1 ho1 hs1 hft (by simp; omega)).mono ?_; rintro e w2 ⟨v2, rfl, ho2, hg2⟩; have hbox2 := hbox1.grew hg2; have f0 : w2.cell? ⟨w.heap.size, 0, none⟩ = some (.int .u8 k) := hbox2.cells 0 (by simp); have f7 : w2.cell? ⟨w.heap.size, 7, none⟩ = some (.string key) := hbox2.cells 7 (by simp); have f8 : w2.cell? ⟨w.heap.size, 8, none⟩ = some (.int .u8 why.toNat) := hbox2.cells 8 (by simp); have hg02 := hg01.trans hg2; have hs2 : base ≤ w2.heap.size := Nat.le_trans hbase hg02.grown.size))
  have hoD : Own w2.drew base v2 _ := ho2
  have hbD : Boxed w2.drew w.heap.size v2 _ := hbox2.grew (grew_drew v2)
  have hsD : base ≤ w2.drew.heap.size := hs2
  have k7 : w2.drew.cell? ⟨w.heap.size, 7, none⟩ = some (.string key) := hbD.cells 7 (by simp)
  have k8 : w2.drew.cell? ⟨w.heap.size, 8, none⟩ = some (.int .u8 why.toNat) := hbD.cells 8 (by simp)
  have hgD : Grew w w2.drew v v2 := hg02.trans (grew_drew v2)
  have hoE : Own (w2.alloc (.cells #[.int .u8 why.toNat] 5)).drew base v2 (l ++ [kind] ++ small t) := ho2.alloc _
  have hbE : Boxed (w2.alloc (.cells #[.int .u8 why.toNat] 5)).drew w.heap.size v2 _ := (hbox2.alloc _).grew (grew_drew v2)
  have hbX : Boxed (w2.alloc (.cells #[.int .u8 why.toNat] 5)).drew w2.heap.size v2 [.int .u8 why.toNat] := (Boxed.made ho2 [.int .u8 why.toNat] 5).grew (grew_drew v2)
  have hsE : base ≤ (w2.alloc (.cells #[.int .u8 why.toNat] 5)).drew.heap.size := by simp; omega
  have hgE : Grew w (w2.alloc (.cells #[.int .u8 why.toNat] 5)).drew v v2 := (hg02.trans (grew_alloc v2 _)).trans (grew_drew v2)
  go_region_held3 (fun W => W.cell? ⟨w.heap.size, 7, none⟩ = some (.string key) ∧ W.cell? ⟨w.heap.size, 8, none⟩ = some (.int .u8 why.toNat)) (first | exact ⟨k7, k8⟩ | exact ⟨by assumption, by assumption⟩ | exact ⟨hbE.cells 7 (by simp), hbE.cells 8 (by simp)⟩ | exact ⟨(hbox3.alloc _).cells 7 (by simp), (hbox3.alloc _).cells 8 (by simp)⟩)
    (first
      | (refine step_app_one (by rfl) (.tmp 31) (.tmp 34) (by rfl) base _ _ ho3 (by rfl) _ why rfl (by rfl) (by rfl) (by simp; omega) hs3 ?_; intro v4 w4 ho4 hg4; have hbox4 := hbox3.grew hg4; have r7 : w4.cell? ⟨w.heap.size, 7, none⟩ = some (.string key) := hbox4.cells 7 (by simp); have r8 : w4.cell? ⟨w.heap.size, 8, none⟩ = some (.int .u8 why.toNat) := hbox4.cells 8 (by simp); have hgF := hg03.trans hg4)
      | (refine step_app_bytes (by rfl) (.tmp 31) (.tmp 34) (by rfl) base _ _ ho5 (by rfl) (some ⟨w2.heap.size, 0, none⟩) 1 [why] 1 rfl (by rfl) w5.heap.size (by intro e; cases e) hbX5.byte (by simp; omega) hs5 ?_; intro v4 w4 ho4 hg4; have hbox4 := hbox5.grew hg4; have r7 : w4.cell? ⟨w.heap.size, 7, none⟩ = some (.string key) := hbox4.cells 7 (by simp); have r8 : w4.cell? ⟨w.heap.size, 8, none⟩ = some (.int .u8 why.toNat) := hbox4.cells 8 (by simp); have hgF := hg05.trans hg4)
      | (go_at_call 39; refine (addText_any base v2 _ key w2.drew hoD hsD (by simp; omega) (by omega)).mono ?_; rintro e w3 ⟨v3, rfl, ho3, hg3⟩; have hbox3 := hbD.grew hg3; have p7 : w3.cell? ⟨w.heap.size, 7, none⟩ = some (.string key) := hbox3.cells 7 (by simp); have p8 : w3.cell? ⟨w.heap.size, 8, none⟩ = some (.int .u8 why.toNat) := hbox3.cells 8 (by simp); have hs3 : base ≤ w3.heap.size := Nat.le_trans hsD hg3.grown.size; have hg03 := hgD.trans hg3)
      | (go_at_call 39; refine (addText_any base v2 _ key _ hoE hsE (by simp; omega) (by omega)).mono ?_; rintro e w5 ⟨v5, rfl, ho5, hg5⟩; have hbox5 := hbE.grew hg5; have hbX5 := hbX.grew hg5; have p7 : w5.cell? ⟨w.heap.size, 7, none⟩ = some (.string key) := hbox5.cells 7 (by simp); have p8 : w5.cell? ⟨w.heap.size, 8, none⟩ = some (.int .u8 why.toNat) := hbox5.cells 8 (by simp); have hs5 : base ≤ w5.heap.size := Nat.le_trans hsE hg5.grown.size; have hg05 := hgE.trans hg5))
  all_goals
    go_wp2
    go_ret
    exact ⟨_, rfl, by simpa using ho4, hgF⟩
end Go.Proofs.Ytlhlleokehkolaa
