/-
  Contract of addChange, kind by kind.
-/
import Derived.Test.YtlhlleokehkolaaAddChange
namespace Go.Proofs.Ytlhlleokehkolaa
open Go.RowKit
set_option linter.unusedSimpArgs false
set_option linter.unusedVariables false
set_option maxRecDepth 100000

theorem addChange3 (base : Nat) (v : Value) (l : List UInt8) (kind why : UInt8) (t : Nat) (item : Itm) (key : ByteArray) (to : Int) (primary : Bool) (w : World) (hown : Own w base v l) (hbase : base ≤ w.heap.size) (hl : l.length ≤ 80000000)
    (hkind : kind.toNat = 3) (ht : t < 4) :
    Calls Try.prog 41 #[v, .agg #[.int .u8 kind.toNat, .int .i64 t, .string item.key, .string item.value, .int .u32 item.flags, .int .i64 item.til, .int .u64 item.unique, .string key, .int .u8 why.toNat, .int .i64 to, .bool primary]] w
      fun e w' => ∃ v', e = .returned v' ∧ Own w' base v' (l ++ ([kind] ++ small t)) ∧ Grew w w' v v' := by
  have hbox := Boxed.made hown [.int .u8 kind.toNat, .int .i64 t, .string item.key, .string item.value, .int .u32 item.flags, .int .i64 item.til, .int .u64 item.unique, .string key, .int .u8 why.toNat, .int .i64 to, .bool primary] 41
  have hownB := hown.alloc (.cells #[.int .u8 kind.toNat, .int .i64 t, .string item.key, .string item.value, .int .u32 item.flags, .int .i64 item.til, .int .u64 item.unique, .string key, .int .u8 why.toNat, .int .i64 to, .bool primary] 41)
  have hgB := grew_alloc (w := w) v (.cells #[.int .u8 kind.toNat, .int .i64 t, .string item.key, .string item.value, .int .u32 item.flags, .int .i64 item.til, .int .u64 item.unique, .string key, .int .u8 why.toNat, .int .i64 to, .bool primary] 41)
  have e1 := small_len t
  have hft : Fits t := by unfold Fits; omega
  have hk1 : ((kind.toNat : Int) == 1) = false := by simp [hkind]
  have hk2 : ((kind.toNat : Int) == 2) = false := by simp [hkind]
  have hk3 : ((kind.toNat : Int) == 3) = true := by simp [hkind]
  have hk4 : ((kind.toNat : Int) == 4) = false := by simp [hkind]
  have hk5 : ((kind.toNat : Int) == 5) = false := by simp [hkind]
  have hk6 : ((kind.toNat : Int) == 6) = false := by simp [hkind]
  have hk7 : ((kind.toNat : Int) == 7) = false := by simp [hkind]
  have hten : hasTen kind.toNat = true := by simp [hkind, hasTen]
  obtain ⟨k, hke⟩ : ∃ k : Nat, k = kind.toNat := ⟨_, rfl⟩
  have hko : (k : Int) = (kind.toNat : Int) := by omega
  have HKO : Hid ((k : Int) = (kind.toNat : Int)) := hko
  rw [← hke] at hbox hownB hgB hk1 hk2 hk3 hk4 hk5 hk6 hk7 hten ⊢
  clear hke hko hkind
  go_enter Try.func41, Try.ntmps41
  go_wp2_with (first
    | (at_builtin; refine app_oneH rfl (.tmp 5) (.tmp 8) rfl base _ _ hownB rfl _ _ HKO.out rfl _ rfl (by simp) (by omega) (by simp; omega) ?_; intro v1 w1 ho1 hg1; have hbox1 := hbox.grew hg1; have d0 : w1.cell? ⟨w.heap.size, 0, none⟩ = some (.int .u8 k) := hbox1.cells 0 (by simp); have d1 : w1.cell? ⟨w.heap.size, 1, none⟩ = some (.int .i64 t) := hbox1.cells 1 (by simp); have hg01 := hgB.trans hg1; have hs1 : base ≤ w1.heap.size := Nat.le_trans hbase hg01.grown.size)
    | (go_at_call 60; refine (hasTenant_any k _).mono ?_; rintro e w' ⟨rfl, rfl⟩)
    | (go_at_call 38; refine (addSmall_any base v1 _ t w1 ho1 hs1 hft (by simp; omega)).mono ?_; rintro e w2 ⟨v2, rfl, ho2, hg2⟩; have hbox2 := hbox1.grew hg2; have f0 : w2.cell? ⟨w.heap.size, 0, none⟩ = some (.int .u8 k) := hbox2.cells 0 (by simp); have hg02 := hg01.trans hg2; have hs2 : base ≤ w2.heap.size := Nat.le_trans hbase hg02.grown.size))
  go_ret
  exact ⟨_, rfl, by simpa using ho2, hg02⟩

theorem addChange4 (base : Nat) (v : Value) (l : List UInt8) (kind why : UInt8) (t : Int) (item : Itm) (key : ByteArray) (to : Nat) (primary : Bool) (w : World) (hown : Own w base v l) (hbase : base ≤ w.heap.size) (hl : l.length ≤ 80000000)
    (hkind : kind.toNat = 4) (hto : to ≤ 1099511627776) :
    Calls Try.prog 41 #[v, .agg #[.int .u8 kind.toNat, .int .i64 t, .string item.key, .string item.value, .int .u32 item.flags, .int .i64 item.til, .int .u64 item.unique, .string key, .int .u8 why.toNat, .int .i64 to, .bool primary]] w
      fun e w' => ∃ v', e = .returned v' ∧ Own w' base v' (l ++ ([kind] ++ small to)) ∧ Grew w w' v v' := by
  have hbox := Boxed.made hown [.int .u8 kind.toNat, .int .i64 t, .string item.key, .string item.value, .int .u32 item.flags, .int .i64 item.til, .int .u64 item.unique, .string key, .int .u8 why.toNat, .int .i64 to, .bool primary] 41
  have hownB := hown.alloc (.cells #[.int .u8 kind.toNat, .int .i64 t, .string item.key, .string item.value, .int .u32 item.flags, .int .i64 item.til, .int .u64 item.unique, .string key, .int .u8 why.toNat, .int .i64 to, .bool primary] 41)
  have hgB := grew_alloc (w := w) v (.cells #[.int .u8 kind.toNat, .int .i64 t, .string item.key, .string item.value, .int .u32 item.flags, .int .i64 item.til, .int .u64 item.unique, .string key, .int .u8 why.toNat, .int .i64 to, .bool primary] 41)
  have e2 := small_len to
  have hk1 : ((kind.toNat : Int) == 1) = false := by simp [hkind]
  have hk2 : ((kind.toNat : Int) == 2) = false := by simp [hkind]
  have hk3 : ((kind.toNat : Int) == 3) = false := by simp [hkind]
  have hk4 : ((kind.toNat : Int) == 4) = true := by simp [hkind]
  have hk5 : ((kind.toNat : Int) == 5) = false := by simp [hkind]
  have hk6 : ((kind.toNat : Int) == 6) = false := by simp [hkind]
  have hk7 : ((kind.toNat : Int) == 7) = false := by simp [hkind]
  have hten : hasTen kind.toNat = false := by simp [hkind, hasTen]
  have hfto : Fits to := by unfold Fits; omega
  have htoi : (to : Int) ≤ 1099511627776 := by omega
  obtain ⟨k, hke⟩ : ∃ k : Nat, k = kind.toNat := ⟨_, rfl⟩
  have hko : (k : Int) = (kind.toNat : Int) := by omega
  have HKO : Hid ((k : Int) = (kind.toNat : Int)) := hko
  rw [← hke] at hbox hownB hgB hk1 hk2 hk3 hk4 hk5 hk6 hk7 hten ⊢
  clear hke hko hkind
  go_enter Try.func41, Try.ntmps41
  go_wp2_with (first
    | (at_builtin; refine app_oneH rfl (.tmp 5) (.tmp 8) rfl base _ _ hownB rfl _ _ HKO.out rfl _ rfl (by simp) (by omega) (by simp; omega) ?_; intro v1 w1 ho1 hg1; have hbox1 := hbox.grew hg1; have d0 : w1.cell? ⟨w.heap.size, 0, none⟩ = some (.int .u8 k) := hbox1.cells 0 (by simp); have d9 : w1.cell? ⟨w.heap.size, 9, none⟩ = some (.int .i64 to) := hbox1.cells 9 (by simp); have hg01 := hgB.trans hg1; have hs1 : base ≤ w1.heap.size := Nat.le_trans hbase hg01.grown.size)
    | (go_at_call 60; refine (hasTenant_any k _).mono ?_; rintro e w' ⟨rfl, rfl⟩)
    | (go_at_call 38; refine (addSmall_any base v1 _ to w1 ho1 hs1 hfto (by simp; omega)).mono ?_; rintro e w2 ⟨v2, rfl, ho2, hg2⟩))
  go_ret
  exact ⟨_, rfl, by simpa using ho2, hg01.trans hg2⟩

theorem addChange7 (base : Nat) (v : Value) (l : List UInt8) (kind why : UInt8) (t : Int) (item : Itm) (key : ByteArray) (to : Nat) (primary : Bool) (w : World) (hown : Own w base v l) (hbase : base ≤ w.heap.size) (hl : l.length ≤ 80000000)
    (hkind : kind.toNat = 7) (hto : to ≤ 1099511627776) :
    Calls Try.prog 41 #[v, .agg #[.int .u8 kind.toNat, .int .i64 t, .string item.key, .string item.value, .int .u32 item.flags, .int .i64 item.til, .int .u64 item.unique, .string key, .int .u8 why.toNat, .int .i64 to, .bool primary]] w
      fun e w' => ∃ v', e = .returned v' ∧ Own w' base v' (l ++ ([kind] ++ small to)) ∧ Grew w w' v v' := by
  have hbox := Boxed.made hown [.int .u8 kind.toNat, .int .i64 t, .string item.key, .string item.value, .int .u32 item.flags, .int .i64 item.til, .int .u64 item.unique, .string key, .int .u8 why.toNat, .int .i64 to, .bool primary] 41
  have hownB := hown.alloc (.cells #[.int .u8 kind.toNat, .int .i64 t, .string item.key, .string item.value, .int .u32 item.flags, .int .i64 item.til, .int .u64 item.unique, .string key, .int .u8 why.toNat, .int .i64 to, .bool primary] 41)
  have hgB := grew_alloc (w := w) v (.cells #[.int .u8 kind.toNat, .int .i64 t, .string item.key, .string item.value, .int .u32 item.flags, .int .i64 item.til, .int .u64 item.unique, .string key, .int .u8 why.toNat, .int .i64 to, .bool primary] 41)
  have e2 := small_len to
  have hk1 : ((kind.toNat : Int) == 1) = false := by simp [hkind]
  have hk2 : ((kind.toNat : Int) == 2) = false := by simp [hkind]
  have hk3 : ((kind.toNat : Int) == 3) = false := by simp [hkind]
  have hk4 : ((kind.toNat : Int) == 4) = false := by simp [hkind]
  have hk5 : ((kind.toNat : Int) == 5) = false := by simp [hkind]
  have hk6 : ((kind.toNat : Int) == 6) = false := by simp [hkind]
  have hk7 : ((kind.toNat : Int) == 7) = true := by simp [hkind]
  have hten : hasTen kind.toNat = false := by simp [hkind, hasTen]
  have hfto : Fits to := by unfold Fits; omega
  have htoi : (to : Int) ≤ 1099511627776 := by omega
  obtain ⟨k, hke⟩ : ∃ k : Nat, k = kind.toNat := ⟨_, rfl⟩
  have hko : (k : Int) = (kind.toNat : Int) := by omega
  have HKO : Hid ((k : Int) = (kind.toNat : Int)) := hko
  rw [← hke] at hbox hownB hgB hk1 hk2 hk3 hk4 hk5 hk6 hk7 hten ⊢
  clear hke hko hkind
  go_enter Try.func41, Try.ntmps41
  go_wp2_with (first
    | (at_builtin; refine app_oneH rfl (.tmp 5) (.tmp 8) rfl base _ _ hownB rfl _ _ HKO.out rfl _ rfl (by simp) (by omega) (by simp; omega) ?_; intro v1 w1 ho1 hg1; have hbox1 := hbox.grew hg1; have d0 : w1.cell? ⟨w.heap.size, 0, none⟩ = some (.int .u8 k) := hbox1.cells 0 (by simp); have d9 : w1.cell? ⟨w.heap.size, 9, none⟩ = some (.int .i64 to) := hbox1.cells 9 (by simp); have hg01 := hgB.trans hg1; have hs1 : base ≤ w1.heap.size := Nat.le_trans hbase hg01.grown.size)
    | (go_at_call 60; refine (hasTenant_any k _).mono ?_; rintro e w' ⟨rfl, rfl⟩)
    | (go_at_call 38; refine (addSmall_any base v1 _ to w1 ho1 hs1 hfto (by simp; omega)).mono ?_; rintro e w2 ⟨v2, rfl, ho2, hg2⟩))
  go_ret
  exact ⟨_, rfl, by simpa using ho2, hg01.trans hg2⟩

theorem addChange5 (base : Nat) (v : Value) (l : List UInt8) (kind why : UInt8) (t : Nat) (item : Itm) (key : ByteArray) (to : Nat) (primary : Bool) (w : World) (hown : Own w base v l) (hbase : base ≤ w.heap.size) (hl : l.length ≤ 80000000)
    (hkind : kind.toNat = 5) (ht : t < 4) (hto : to ≤ 1099511627776) :
    Calls Try.prog 41 #[v, .agg #[.int .u8 kind.toNat, .int .i64 t, .string item.key, .string item.value, .int .u32 item.flags, .int .i64 item.til, .int .u64 item.unique, .string key, .int .u8 why.toNat, .int .i64 to, .bool primary]] w
      fun e w' => ∃ v', e = .returned v' ∧ Own w' base v' (l ++ ([kind] ++ small t ++ small to)) ∧ Grew w w' v v' := by
  have hbox := Boxed.made hown [.int .u8 kind.toNat, .int .i64 t, .string item.key, .string item.value, .int .u32 item.flags, .int .i64 item.til, .int .u64 item.unique, .string key, .int .u8 why.toNat, .int .i64 to, .bool primary] 41
  have hownB := hown.alloc (.cells #[.int .u8 kind.toNat, .int .i64 t, .string item.key, .string item.value, .int .u32 item.flags, .int .i64 item.til, .int .u64 item.unique, .string key, .int .u8 why.toNat, .int .i64 to, .bool primary] 41)
  have hgB := grew_alloc (w := w) v (.cells #[.int .u8 kind.toNat, .int .i64 t, .string item.key, .string item.value, .int .u32 item.flags, .int .i64 item.til, .int .u64 item.unique, .string key, .int .u8 why.toNat, .int .i64 to, .bool primary] 41)
  have e1 := small_len t
  have hft : Fits t := by unfold Fits; omega
  have e2 := small_len to
  have hk1 : ((kind.toNat : Int) == 1) = false := by simp [hkind]
  have hk2 : ((kind.toNat : Int) == 2) = false := by simp [hkind]
  have hk3 : ((kind.toNat : Int) == 3) = false := by simp [hkind]
  have hk4 : ((kind.toNat : Int) == 4) = false := by simp [hkind]
  have hk5 : ((kind.toNat : Int) == 5) = true := by simp [hkind]
  have hk6 : ((kind.toNat : Int) == 6) = false := by simp [hkind]
  have hk7 : ((kind.toNat : Int) == 7) = false := by simp [hkind]
  have hten : hasTen kind.toNat = true := by simp [hkind, hasTen]
  have hfto : Fits to := by unfold Fits; omega
  have htoi : (to : Int) ≤ 1099511627776 := by omega
  obtain ⟨k, hke⟩ : ∃ k : Nat, k = kind.toNat := ⟨_, rfl⟩
  have hko : (k : Int) = (kind.toNat : Int) := by omega
  have HKO : Hid ((k : Int) = (kind.toNat : Int)) := hko
  rw [← hke] at hbox hownB hgB hk1 hk2 hk3 hk4 hk5 hk6 hk7 hten ⊢
  clear hke hko hkind
  go_enter Try.func41, Try.ntmps41
  go_wp2_with (first
    | (at_builtin; refine app_oneH rfl (.tmp 5) (.tmp 8) rfl base _ _ hownB rfl _ _ HKO.out rfl _ rfl (by simp) (by omega) (by simp; omega) ?_; intro v1 w1 ho1 hg1; have hbox1 := hbox.grew hg1; have d0 : w1.cell? ⟨w.heap.size, 0, none⟩ = some (.int .u8 k) := hbox1.cells 0 (by simp); have d1 : w1.cell? ⟨w.heap.size, 1, none⟩ = some (.int .i64 t) := hbox1.cells 1 (by simp); have hg01 := hgB.trans hg1; have hs1 : base ≤ w1.heap.size := Nat.le_trans hbase hg01.grown.size)
    | (go_at_call 60; refine (hasTenant_any k _).mono ?_; rintro e w' ⟨rfl, rfl⟩)
    | (go_at_call 38; refine (addSmall_any base v2 _ to w2 ho2 hs2 hfto (by simp; omega)).mono ?_; rintro e w3 ⟨v3, rfl, ho3, hg3⟩)
    | (go_at_call 38; refine (addSmall_any base v1 _ t w1 ho1 hs1 hft (by simp; omega)).mono ?_; rintro e w2 ⟨v2, rfl, ho2, hg2⟩; have hbox2 := hbox1.grew hg2; have f0 : w2.cell? ⟨w.heap.size, 0, none⟩ = some (.int .u8 k) := hbox2.cells 0 (by simp); have f9 : w2.cell? ⟨w.heap.size, 9, none⟩ = some (.int .i64 to) := hbox2.cells 9 (by simp); have hg02 := hg01.trans hg2; have hs2 : base ≤ w2.heap.size := Nat.le_trans hbase hg02.grown.size))
  go_ret
  exact ⟨_, rfl, by simpa using ho3, hg02.trans hg3⟩
end Go.Proofs.Ytlhlleokehkolaa
