/-
  Contracts of addItem, addTruth.
-/
import Derived.Test.YtlhlleokehkolaaChg
import Derived.Deep.RegionHeld3
namespace Go.Proofs.Ytlhlleokehkolaa
open Go.RowKit
set_option linter.unusedSimpArgs false
set_option linter.unusedVariables false
set_option maxRecDepth 100000

theorem Grew.cell {w w' : World} {v v' : Value} (h : Grew w w' v v') {b : Nat} (o : Nat) (hb : b < w.heap.size) (hne : v.ownBlock ≠ some b) : w'.cell? ⟨b, o, none⟩ = w.cell? ⟨b, o, none⟩ :=
  World.cell?_of_block (a := ⟨b, o, none⟩) (h.grown.block b hb (fun e => hne e.symm))
theorem Grew.ne {w w' : World} {v v' : Value} (h : Grew w w' v v') {b : Nat} (hb : b < w.heap.size) (hne : v.ownBlock ≠ some b) : v'.ownBlock ≠ some b := fun e => by
  rcases h.lies b e with g | g
  · exact hne g
  · omega
theorem Own.ne {w : World} {base : Nat} {v : Value} {l : List UInt8} (h : Own w base v l) : v.ownBlock ≠ some w.heap.size := fun e => by
  have := (h.lt _ e).2; omega
theorem Own.drew {w : World} {base : Nat} {v : Value} {l : List UInt8} (h : Own w base v l) : Own w.drew base v l := h

/-- a box beside a row that grows: its cells stand -/
structure Boxed (w : World) (b : Nat) (v : Value) (cs : List Value) : Prop where
  lt : b < w.heap.size
  ne : v.ownBlock ≠ some b
  cells : ∀ j (h : j < cs.length), w.cell? ⟨b, j, none⟩ = some cs[j]
theorem Boxed.grew {w w' : World} {b : Nat} {v v' : Value} {cs : List Value} (h : Boxed w b v cs) (hg : Grew w w' v v') : Boxed w' b v' cs :=
  ⟨Nat.lt_of_lt_of_le h.lt hg.grown.size, hg.ne h.lt h.ne, fun j hj => (hg.cell j h.lt h.ne).trans (h.cells j hj)⟩
theorem Boxed.made {w : World} {base : Nat} {v : Value} {l : List UInt8} (h : Own w base v l) (cs : List Value) (t : TypeId) : Boxed (w.alloc (.cells cs.toArray t)) w.heap.size v cs :=
  ⟨by simp, h.ne, fun j hj => by simp [hj]⟩
theorem Boxed.alloc {w : World} {b : Nat} {v : Value} {cs : List Value} (h : Boxed w b v cs) (o : Obj) : Boxed (w.alloc o) b v cs :=
  ⟨Nat.lt_of_lt_of_le h.lt (by simp), h.ne, fun j hj => by rw [World.cell?_alloc_past _ _ _ h.lt]; exact h.cells j hj⟩

theorem grew_alloc {w : World} (v : Value) (o : Obj) : Grew w (w.alloc o) v v := ⟨World.grownBy_alloc w o _, fun k h => .inl h⟩
theorem grew_drew {w : World} (v : Value) : Grew w w.drew v v := ⟨⟨rfl, rfl, rfl, Nat.le_refl _, fun _ _ _ => rfl⟩, fun k h => .inl h⟩

def truthB (b : Bool) : UInt8 := match b with | true => 1 | false => 0
theorem addTruth_any (base : Nat) (v : Value) (l : List UInt8) (b : Bool) (w : World) (hown : Own w base v l) (hbase : base ≤ w.heap.size) (hl : l.length ≤ 100000000) :
    Calls Try.prog 64 #[v, .bool b] w fun e w' => ∃ v', e = .returned v' ∧ Own w' base v' (l ++ [truthB b]) ∧ Grew w w' v v' := by
  cases b with
  | true =>
    go_enter Try.func64, Try.ntmps64
    go_wp2_with (at_builtin; refine app_one (w0 := w) rfl (.tmp 6) (.tmp 7) rfl base _ _ hown rfl _ 1 (by decide) rfl rfl (by omega) hbase ?_; intro v1 w1 ho1 hg1)
    go_ret
    exact ⟨_, rfl, ho1, hg1⟩
  | false =>
    go_enter Try.func64, Try.ntmps64
    go_wp2_with (at_builtin; refine app_one (w0 := w) rfl (.tmp 9) (.tmp 10) rfl base _ _ hown rfl _ 0 (by decide) rfl rfl (by omega) hbase ?_; intro v1 w1 ho1 hg1)
    go_ret
    exact ⟨_, rfl, ho1, hg1⟩

/-- an item's bytes -/
def itmB (x : Itm) : List UInt8 := text x.key.data.toList ++ text x.value.data.toList ++ small x.flags ++ small x.til.toNat ++ small x.unique
/-- an item whose fields fit their kinds -/
structure Itm.Good (x : Itm) : Prop where
  key : x.key.size ≤ 100000000
  value : x.value.size ≤ 100000000
  flags : x.flags ≤ 4294967295
  til0 : 0 ≤ x.til
  til1 : x.til ≤ 9223372036854775807
  unique : Fits x.unique

set_option maxHeartbeats 400000 in
theorem addItem_any (base : Nat) (v : Value) (l : List UInt8) (x : Itm) (w : World) (hown : Own w base v l) (hbase : base ≤ w.heap.size) (hl : l.length ≤ 90000000) (hk : x.key.size ≤ 32) (hv : x.value.size ≤ 512)
    (hf : x.flags ≤ 4294967295) (ht0 : 0 ≤ x.til) (ht1 : x.til ≤ 1099511627776) (hu : Fits x.unique) :
    Calls Try.prog 63 #[v, .agg x.cells.toArray] w fun e w' => ∃ v', e = .returned v' ∧ Own w' base v' (l ++ itmB x) ∧ Grew w w' v v' := by
  obtain ⟨key, value, flags, til, unique⟩ := x
  simp only [] at hk hv hf ht0 ht1 hu
  obtain ⟨t, rfl⟩ : ∃ t : Nat, til = (t : Int) := ⟨til.toNat, by omega⟩
  unfold Itm.cells itmB
  simp only [Int.toNat_natCast]
  have hbox := Boxed.made hown (Itm.cells ⟨key, value, flags, t, unique⟩) 39
  unfold Itm.cells at hbox
  simp only [] at hbox
  have hownD : Own (w.alloc (.cells #[.string key, .string value, .int .u32 flags, .int .i64 t, .int .u64 unique] 39)).drew base v l := hown.alloc _
  have hboxD : Boxed (w.alloc (.cells #[.string key, .string value, .int .u32 flags, .int .i64 t, .int .u64 unique] 39)).drew w.heap.size v [.string key, .string value, .int .u32 flags, .int .i64 t, .int .u64 unique] := hbox.grew (grew_drew v)
  have hszD : base ≤ (w.alloc (.cells #[.string key, .string value, .int .u32 flags, .int .i64 t, .int .u64 unique] 39)).drew.heap.size := by simp; omega
  have hgrD : Grew w (w.alloc (.cells #[.string key, .string value, .int .u32 flags, .int .i64 t, .int .u64 unique] 39)).drew v v := (grew_alloc v _).trans (grew_drew v)
  have k0 : (w.alloc (.cells #[.string key, .string value, .int .u32 flags, .int .i64 t, .int .u64 unique] 39)).drew.cell? ⟨w.heap.size, 0, none⟩ = some (.string key) := hboxD.cells 0 (by simp)
  have k1 : (w.alloc (.cells #[.string key, .string value, .int .u32 flags, .int .i64 t, .int .u64 unique] 39)).drew.cell? ⟨w.heap.size, 1, none⟩ = some (.string value) := hboxD.cells 1 (by simp)
  have e1 := small_len key.size
  have e2 := small_len value.size
  have e3 := small_len flags
  have e4 := small_len t
  have e5 : key.data.toList.length = key.size := by simp
  have e6 : value.data.toList.length = value.size := by simp
  have e7 : (text key.data.toList).length ≤ 42 := by simp [text]; omega
  have e8 : (text value.data.toList).length ≤ 522 := by simp [text]; omega
  have hf1 : Fits flags := by unfold Fits; omega
  have ht2 : Fits t := by unfold Fits; omega
  have ht3 : (t : Int) ≤ 1099511627776 := ht1
  have hfi : (flags : Int) ≤ 4294967295 := by omega
  go_enter Try.func63, Try.ntmps63
  go_wp2
  go_region_held3 (fun W => W.cell? ⟨w.heap.size, 0, none⟩ = some (.string key) ∧ W.cell? ⟨w.heap.size, 1, none⟩ = some (.string value)) (first | exact ⟨k0, k1⟩ | exact ⟨by assumption, by assumption⟩)
    (first
      | (go_at_call 39; refine (addText_any base v1 _ value _ ho1 hs1 (by simp; omega) (by omega)).mono ?_; rintro e w2 ⟨v2, rfl, ho2, hg2⟩; have hbox2 := hbox1.grew hg2; have c20 : w2.cell? ⟨w.heap.size, 0, none⟩ = some (.string key) := hbox2.cells 0 (by simp); have c21 : w2.cell? ⟨w.heap.size, 1, none⟩ = some (.string value) := hbox2.cells 1 (by simp))
      | (go_at_call 39; refine (addText_any base v l key _ hownD hszD (by omega) (by omega)).mono ?_; rintro e w1 ⟨v1, rfl, ho1, hg1⟩; have hbox1 := hboxD.grew hg1; have c10 : w1.cell? ⟨w.heap.size, 0, none⟩ = some (.string key) := hbox1.cells 0 (by simp); have c11 : w1.cell? ⟨w.heap.size, 1, none⟩ = some (.string value) := hbox1.cells 1 (by simp); have hg01 := hgrD.trans hg1; have hs1 : base ≤ w1.heap.size := Nat.le_trans hbase hg01.grown.size))
  have c22 : w2.cell? ⟨w.heap.size, 2, none⟩ = some (.int .u32 flags) := hbox2.cells 2 (by simp)
  have hg02 := hg01.trans hg2
  have hs2 : base ≤ w2.heap.size := Nat.le_trans hbase hg02.grown.size
  clear hboxD hownD hszD hgrD k0 k1 hbox hbox1 c10 c11 hg1 hg2 hg01 ho1
  go_wp2_with (first
    | (go_at_call 38; refine (addSmall_any base v4 _ unique w4 ho4 hs4 hu (by simp; omega)).mono ?_; rintro e w5 ⟨v5, rfl, ho5, hg5⟩)
    | (go_at_call 38; refine (addSmall_any base v3 _ t w3 ho3 hs3 ht2 (by simp; omega)).mono ?_; rintro e w4 ⟨v4, rfl, ho4, hg4⟩; have hbox4 := hbox3.grew hg4; have c44 : w4.cell? ⟨w.heap.size, 4, none⟩ = some (.int .u64 unique) := hbox4.cells 4 (by simp); have hs4 : base ≤ w4.heap.size := Nat.le_trans hs3 hg4.grown.size)
    | (go_at_call 38; refine (addSmall_any base v2 _ flags w2 ho2 hs2 hf1 (by simp; omega)).mono ?_; rintro e w3 ⟨v3, rfl, ho3, hg3⟩; have hbox3 := hbox2.grew hg3; have c33 : w3.cell? ⟨w.heap.size, 3, none⟩ = some (.int .i64 t) := hbox3.cells 3 (by simp); have hs3 : base ≤ w3.heap.size := Nat.le_trans hs2 hg3.grown.size))
  go_ret
  exact ⟨_, rfl, by simpa using ho5, ((hg02.trans hg3).trans hg4).trans hg5⟩
end Go.Proofs.Ytlhlleokehkolaa
