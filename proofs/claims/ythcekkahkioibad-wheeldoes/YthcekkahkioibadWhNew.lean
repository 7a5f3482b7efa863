/-
  New, and the small calls: their contracts.
-/
import Derived.Test.YthcekkahkioibadWhSorts
namespace Go.Proofs.Ythcekkahkioibad
open Go.RowKit
set_option linter.unusedSimpArgs false
set_option linter.unusedVariables false
set_option maxRecDepth 100000

/-- a wheel's cells at its making -/
def wheel0 (now : Int) (b : Nat) : Array Value := (Value.pointer none :: .int .i64 now :: .map (some b) :: List.replicate 448 (.map none)).toArray
theorem zero0 (now : Int) (b : Nat) : (Try.zeroCells40.setIfInBounds 1 (.int .i64 now)).setIfInBounds 2 (.map (some b)) = wheel0 now b := by kernel_rfl
set_option maxHeartbeats 400000 in
theorem new_any (w : World) (now : Nat) (hn : now ≤ 1099511627776) :
    Calls Try.prog 10 #[.int .i64 now] w fun e w' => ∃ p, e = .returned (.tuple #[.pointer (some ⟨p, 0, none⟩), .int .i64 0]) ∧ w.heap.size ≤ p ∧ Below w.heap.size w w' ∧ ∃ b0, Wh w' p now [] [] b0 (fun _ => none) 0 ∧ w.heap.size ≤ b0 := by
  have h1 : ¬ (now : Int) < 0 := by omega
  have h2 : ¬ (1099511627776 : Int) < (now : Int) := by omega
  have hd1 : decide ((now : Int) < 0) = false := by simp
  have hd2 : decide ((1099511627776 : Int) < (now : Int)) = false := by simp; omega
  have hmm := @run_makeMap Try.prog
  go_enter Try.func10, Try.ntmps10
  go_upto_region 4 with fail
  obtain ⟨wA, hwA⟩ : ∃ wA, wA = (w.alloc (.map #[] 0)).alloc (.cells (wheel0 now w.heap.size) 40) := ⟨_, rfl⟩
  have hbA : Below w.heap.size w wA := by rw [hwA]; exact ((Below.refl _ _).alloc (Nat.le_refl _) _).alloc (by simp) _
  have hc : ∀ j, wA.cell? ⟨w.heap.size + 1, j, none⟩ = (wheel0 now w.heap.size)[j]? := fun j => by
    rw [hwA]
    simp
  have hf : ∀ j, wA.frozen? ⟨w.heap.size + 1, j, none⟩ = false := fun j => by
    rw [hwA]
    simp
  have hm : Mp wA w.heap.size 0 [] := by
    rw [hwA]
    exact (Mp.made w).kept (World.grownBy_alloc _ _ none) (by simp)
  have hc0 : wA.cell? ⟨w.heap.size + 1, 0, none⟩ = some (.pointer none) := (hc 0).trans rfl
  have hf0 := hf 0
  have HC := Hid.mk2 hc
  have HF := Hid.mk2 hf
  rw [zero0 now w.heap.size, ← hwA]
  clear hwA hc hf hmm
  go_wp2
  go_ret2
  have hne : ∀ j, j ≠ 0 → (wA.setCell ⟨w.heap.size + 1, 0, none⟩ (.pointer (some ⟨w.heap.size + 1, 0, none⟩))).cell? ⟨w.heap.size + 1, j, none⟩ = (wheel0 now w.heap.size)[j]? := fun j hj => by
    rw [World.cell?_setCell_other _ _ _ _ (fun e => by first | exact hj (congrArg Addr.off e) | exact hj (congrArg Addr.off e).symm)]
    exact HC.out j
  refine ⟨w.heap.size + 1, rfl, by omega, hbA.setCell (by simp) _, w.heap.size, ⟨World.cell?_setCell_same _ _ _ hc0, (hne 1 (by omega)).trans rfl, (hne 2 (by omega)).trans rfl, fun i hi => ?_, fun i => ?_, hn, hm.setCell (by simp) _, fun i b hi e => (by cases e), fun i hi e q hq => (by cases hq), fun q hq => (by cases hq), List.Pairwise.nil, fun i j b hi hj e => (by cases e), by omega, fun i hi e => (by cases e), fun i hi e => (by cases e)⟩, Nat.le_refl _⟩
  · rw [hne (3 + i) (by omega)]
    unfold wheel0
    rw [List.getElem?_toArray, show 3 + i = i + 1 + 1 + 1 by omega, List.getElem?_cons_succ, List.getElem?_cons_succ, List.getElem?_cons_succ]
    rw [List.getElem?_replicate, if_pos hi]
  · rw [World.frozen?_setCell]
    exact HF.out i
theorem new_bad (w : World) (now : Int) (hn : now < 0 ∨ 1099511627776 < now) :
    Calls Try.prog 10 #[.int .i64 now] w fun e w' => e = .returned (.tuple #[.pointer none, .int .i64 2]) ∧ w' = w := by
  by_cases h1 : now < 0
  · go_enter Try.func10, Try.ntmps10
    go_wp2
    go_ret2
    exact ⟨rfl, rfl⟩
  · have hd1 : decide (now < 0) = false := by simpa using h1
    have h2 : 1099511627776 < now := by omega
    go_enter Try.func10, Try.ntmps10
    go_wp2
    go_ret2
    exact ⟨rfl, rfl⟩
theorem ptr_same (p : Nat) (W : World) : (binOp .eql 25 (.pointer (some ⟨p, 0, none⟩)) (.pointer (some ⟨p, 0, none⟩))).run Try.prog W = .ok (.bool true) W := by
  have h9 : (Op.equalIn (9999 + 1) 25 (.pointer (some ⟨p, 0, none⟩)) (.pointer (some ⟨p, 0, none⟩))).run Try.prog W = .ok true W := by
    have hse : (Go.sizeOf 40).run Try.prog W = .ok 451 W := by kernel_rfl
    rw [Op.equalIn]
    simp only [Sem.run_bind, run_underlying Try.underlying25, Result.andThen_ok]
    simp [hse, sameAddr]
  simp only [binOp]
  have : (Op.equal 25 (.pointer (some ⟨p, 0, none⟩)) (.pointer (some ⟨p, 0, none⟩))).run Try.prog W = .ok true W := h9
  simp [this]
theorem isMade_any (w : World) (p : Nat) (h : w.cell? ⟨p, 0, none⟩ = some (.pointer (some ⟨p, 0, none⟩))) :
    Calls Try.prog 34 #[.pointer (some ⟨p, 0, none⟩)] w fun e w' => e = .returned (.bool true) ∧ w' = w := by
  have hps := fun W => ptr_same p W
  go_enter Try.func34, Try.ntmps34
  go_wp2
  go_ret
  exact ⟨rfl, rfl⟩
theorem mayBe_any (w : World) (y : Nm) :
    Calls Try.prog 35 #[.agg #[.int .i64 y.tenant, .string y.key]] w fun e w' => e = .returned (.bool (decide y.ok)) ∧ w' = w.alloc (.cells #[.int .i64 y.tenant, .string y.key] 24) := by
  obtain ⟨t, k⟩ := y
  unfold Nm.ok
  simp only []
  by_cases h1 : 0 ≤ t
  · by_cases h2 : t < 4
    · by_cases h3 : 1 ≤ (k.size : Int)
      · by_cases h4 : (k.size : Int) ≤ 32
        · go_enter Try.func35, Try.ntmps35
          go_wp2
          go_ret
          exact ⟨by simp [h1, h2]; omega, rfl⟩
        · have h4' : decide ((k.size : Int) ≤ 32) = false := by simpa using h4
          go_enter Try.func35, Try.ntmps35
          go_wp2
          go_ret
          exact ⟨by simp [h1, h2]; omega, rfl⟩
      · have h3' : decide (1 ≤ (k.size : Int)) = false := by simpa using h3
        go_enter Try.func35, Try.ntmps35
        go_wp2
        go_ret
        exact ⟨by simp [h1, h2]; omega, rfl⟩
    · have h2' : decide (t < 4) = false := by simpa using h2
      go_enter Try.func35, Try.ntmps35
      go_wp2
      go_ret
      exact ⟨by simp [h1, h2], rfl⟩
  · have h1' : decide (0 ≤ t) = false := by simpa using h1
    have hz : decide (0 ≤ t ∧ t < 4 ∧ 1 ≤ k.size ∧ k.size ≤ 32) = false := decide_eq_false (fun h => h1 h.1)
    rw [hz]
    clear hz
    go_enter Try.func35, Try.ntmps35
    go_wp2
    go_ret
    exact ⟨rfl, rfl⟩
theorem len_any (w : World) (p now : Nat) (L : List NU) (b0 : Nat) (mb : Nat → Option Nat) (N : Nat) (h : Wh w p now L L b0 mb N) :
    Calls Try.prog 15 #[.pointer (some ⟨p, 0, none⟩)] w fun e w' => e = .returned (.tuple #[.int .i64 (L.length : Nat), .int .i64 0]) ∧ w' = w := by
  have h1 := isMade_any w p h.self
  have h2 := h.untilc
  have h3 := mp_len_run h.um
  clear h
  go_enter Try.func15, Try.ntmps15
  go_wp2_with (go_at_call 34; refine h1.mono ?_; rintro e w' ⟨rfl, rfl⟩)
  go_ret2
  exact ⟨rfl, rfl⟩
theorem now_any (w : World) (p now : Nat) (L : List NU) (b0 : Nat) (mb : Nat → Option Nat) (N : Nat) (h : Wh w p now L L b0 mb N) :
    Calls Try.prog 16 #[.pointer (some ⟨p, 0, none⟩)] w fun e w' => e = .returned (.tuple #[.int .i64 now, .int .i64 0]) ∧ w' = w := by
  have h1 := isMade_any w p h.self
  have h2 := h.nowc
  clear h
  go_enter Try.func16, Try.ntmps16
  go_wp2_with (go_at_call 34; refine h1.mono ?_; rintro e w' ⟨rfl, rfl⟩)
  go_ret2
  exact ⟨rfl, rfl⟩
theorem until_any (w : World) (p now : Nat) (L : List NU) (b0 : Nat) (mb : Nat → Option Nat) (N : Nat) (h : Wh w p now L L b0 mb N) (y : Nm) :
    Calls Try.prog 13 #[.pointer (some ⟨p, 0, none⟩), .agg #[.int .i64 y.tenant, .string y.key]] w fun e w' => Below w.heap.size w w' ∧
      ((¬ y.ok ∧ e = .returned (.tuple #[.int .i64 0, .int .i64 8])) ∨ (y.ok ∧ (∀ q ∈ L, q.1 ≠ y) ∧ e = .returned (.tuple #[.int .i64 0, .int .i64 6])) ∨ (y.ok ∧ ∃ u, (y, u) ∈ L ∧ e = .returned (.tuple #[.int .i64 u, .int .i64 0]))) := by
  have hbA : Below w.heap.size w (w.alloc (.cells #[.int .i64 y.tenant, .string y.key] 24)) := alb w _
  have hlt := h.lt (.inl rfl)
  obtain ⟨wA, hwA⟩ : ∃ wA, wA = w.alloc (.cells #[.int .i64 y.tenant, .string y.key] 24) := ⟨_, rfl⟩
  rw [← hwA] at hbA
  have hA := h.below hbA
  have x0 : wA.cell? ⟨w.heap.size, 0, none⟩ = some (.int .i64 y.tenant) := by rw [hwA]; simp
  have x1 : wA.cell? ⟨w.heap.size, 1, none⟩ = some (.string y.key) := by rw [hwA]; simp
  have hsA : wA.heap.size = w.heap.size + 1 := by rw [hwA]; simp
  have HI := Hid.mk2 (isMade_any wA p hA.self)
  have HM := Hid.mk2 (mayBe_any wA y)
  by_cases hy : y.ok
  · have hyd : decide y.ok = true := by simpa using hy
    rw [hyd] at HM
    obtain ⟨wB, hwB⟩ : ∃ wB, wB = wA.alloc (.cells #[.int .i64 y.tenant, .string y.key] 24) := ⟨_, rfl⟩
    have hbB : Below wA.heap.size wA wB := by rw [hwB]; exact alb _ _
    rw [← hwB] at HM
    have hB := hA.below hbB
    have z0 := (hbB.cell (p := ⟨w.heap.size, 0, none⟩) (by show w.heap.size < wA.heap.size; omega)).trans x0
    have z1 := (hbB.cell (p := ⟨w.heap.size, 1, none⟩) (by show w.heap.size < wA.heap.size; omega)).trans x1
    have huc := hB.untilc
    have HBE : Hid (Below w.heap.size w wB.drew) := (hbA.trans (hbB.mono (by omega))).drew
    rcases mp_look_run hB.drew.um y hy with ⟨u, hm, hr⟩ | ⟨hno, hr⟩
    · have HME := Hid.mk2 hm
      clear hm hA hB hbA hbB h hwB
      go_enter Try.func13, Try.ntmps13
      go_upto_region 1 with fail
      rw [← hwA]
      clear hwA
      go_upto_region 5 with (first
        | (go_at_call 34; refine HI.out.mono ?_; rintro e w' ⟨rfl, rfl⟩)
        | (go_at_call 35; refine HM.out.mono ?_; rintro e w' ⟨rfl, rfl⟩))
      go_region
      go_wp2
      go_ret2
      exact ⟨HBE.out, .inr (.inr ⟨hy, u, HME.out, rfl⟩)⟩
    · have HNO := Hid.mk2 hno
      clear hno hA hB hbA hbB h hwB
      go_enter Try.func13, Try.ntmps13
      go_upto_region 1 with fail
      rw [← hwA]
      clear hwA
      go_upto_region 5 with (first
        | (go_at_call 34; refine HI.out.mono ?_; rintro e w' ⟨rfl, rfl⟩)
        | (go_at_call 35; refine HM.out.mono ?_; rintro e w' ⟨rfl, rfl⟩))
      go_region
      go_wp2
      go_ret2
      exact ⟨HBE.out, .inr (.inl ⟨hy, HNO.out, rfl⟩)⟩
  · have hyd : decide y.ok = false := by simpa using hy
    rw [hyd] at HM
    have HBE : Hid (Below w.heap.size w (wA.alloc (.cells #[.int .i64 y.tenant, .string y.key] 24))) := hbA.alloc (by omega) _
    clear hA hbA h
    go_enter Try.func13, Try.ntmps13
    go_upto_region 1 with fail
    rw [← hwA]
    clear hwA
    go_wp2_with (first
      | (go_at_call 34; refine HI.out.mono ?_; rintro e w' ⟨rfl, rfl⟩)
      | (go_at_call 35; refine HM.out.mono ?_; rintro e w' ⟨rfl, rfl⟩))
    go_ret2
    exact ⟨HBE.out, .inl ⟨hy, rfl⟩⟩
end Go.Proofs.Ythcekkahkioibad
