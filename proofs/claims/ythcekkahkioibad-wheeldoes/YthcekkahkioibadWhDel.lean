/-
  Del; and all calls of what New did not make: their contracts.
-/
import Derived.Test.YthcekkahkioibadWhAlive
namespace Go.Proofs.Ythcekkahkioibad
open Go.RowKit
set_option linter.unusedSimpArgs false
set_option linter.unusedVariables false
set_option maxRecDepth 100000

theorem ptr_none (p : Nat) (W : World) : (binOp .eql 25 (.pointer none) (.pointer (some ⟨p, 0, none⟩))).run Try.prog W = .ok (.bool false) W := by
  have h9 : (Op.equalIn (9999 + 1) 25 (.pointer none) (.pointer (some ⟨p, 0, none⟩))).run Try.prog W = .ok false W := by
    rw [Op.equalIn]
    simp only [Sem.run_bind, run_underlying Try.underlying25, Result.andThen_ok]
    simp
  simp only [binOp]
  have : (Op.equal 25 (.pointer none) (.pointer (some ⟨p, 0, none⟩))).run Try.prog W = .ok false W := h9
  simp [this]
/-- what New did not make: nil, or a wheel that is all zero -/
def NotMade (w : World) (v : Value) : Prop := v = .pointer none ∨ ∃ p, v = .pointer (some ⟨p, 0, none⟩) ∧ w.cell? ⟨p, 0, none⟩ = some (.pointer none)
theorem NotMade.below {w w' : World} {v : Value} (h : NotMade w v) (hb : Below w.heap.size w w') : NotMade w' v := by
  rcases h with h | ⟨p, h1, h2⟩
  · exact .inl h
  · exact .inr ⟨p, h1, (hb.cell (p := ⟨p, 0, none⟩) (World.block_lt_of_cell? w _ h2)).trans h2⟩
theorem isMade_not (w : World) (v : Value) (h : NotMade w v) : Calls Try.prog 34 #[v] w fun e w' => e = .returned (.bool false) ∧ w' = w := by
  rcases h with rfl | ⟨p, rfl, hc⟩
  · go_enter Try.func34, Try.ntmps34
    go_wp2
    go_ret
    exact ⟨rfl, rfl⟩
  · have hps := fun W => ptr_none p W
    go_enter Try.func34, Try.ntmps34
    go_wp2
    go_ret
    exact ⟨rfl, rfl⟩
theorem tick_not (w : World) (v : Value) (h : NotMade w v) (t : Int) : Calls Try.prog 12 #[v, .int .i64 t] w fun e w' => e = .returned (.tuple #[.slice none 0 0, .int .i64 1]) ∧ w' = w := by
  have h1 := isMade_not w v h
  clear h
  go_enter Try.func12, Try.ntmps12
  go_wp2_with (go_at_call 34; refine h1.mono ?_; rintro e w' ⟨rfl, rfl⟩)
  go_ret2
  exact ⟨rfl, rfl⟩
theorem len_not (w : World) (v : Value) (h : NotMade w v) : Calls Try.prog 15 #[v] w fun e w' => e = .returned (.tuple #[.int .i64 0, .int .i64 1]) ∧ w' = w := by
  have h1 := isMade_not w v h
  clear h
  go_enter Try.func15, Try.ntmps15
  go_wp2_with (go_at_call 34; refine h1.mono ?_; rintro e w' ⟨rfl, rfl⟩)
  go_ret2
  exact ⟨rfl, rfl⟩
theorem now_not (w : World) (v : Value) (h : NotMade w v) : Calls Try.prog 16 #[v] w fun e w' => e = .returned (.tuple #[.int .i64 0, .int .i64 1]) ∧ w' = w := by
  have h1 := isMade_not w v h
  clear h
  go_enter Try.func16, Try.ntmps16
  go_wp2_with (go_at_call 34; refine h1.mono ?_; rintro e w' ⟨rfl, rfl⟩)
  go_ret2
  exact ⟨rfl, rfl⟩
theorem add_not (w : World) (v : Value) (h : NotMade w v) (y : Nm) (u : Int) : Calls Try.prog 11 #[v, .agg #[.int .i64 y.tenant, .string y.key], .int .i64 u] w fun e w' => e = .returned (.int .i64 1) ∧ Below w.heap.size w w' := by
  have h1 := isMade_not _ v (h.below (alb w (.cells #[.int .i64 y.tenant, .string y.key] 24)))
  clear h
  go_enter Try.func11, Try.ntmps11
  go_wp2_with (go_at_call 34; refine h1.mono ?_; rintro e w' ⟨rfl, rfl⟩)
  go_ret
  exact ⟨rfl, alb _ _⟩
theorem until_not (w : World) (v : Value) (h : NotMade w v) (y : Nm) : Calls Try.prog 13 #[v, .agg #[.int .i64 y.tenant, .string y.key]] w fun e w' => e = .returned (.tuple #[.int .i64 0, .int .i64 1]) ∧ Below w.heap.size w w' := by
  have h1 := isMade_not _ v (h.below (alb w (.cells #[.int .i64 y.tenant, .string y.key] 24)))
  clear h
  go_enter Try.func13, Try.ntmps13
  go_wp2_with (go_at_call 34; refine h1.mono ?_; rintro e w' ⟨rfl, rfl⟩)
  go_ret2
  exact ⟨rfl, alb _ _⟩
theorem del_not (w : World) (v : Value) (h : NotMade w v) (y : Nm) : Calls Try.prog 14 #[v, .agg #[.int .i64 y.tenant, .string y.key]] w fun e w' => e = .returned (.int .i64 1) ∧ Below w.heap.size w w' := by
  have h1 := until_not _ v (h.below (alb w (.cells #[.int .i64 y.tenant, .string y.key] 24))) y
  clear h
  go_enter Try.func14, Try.ntmps14
  go_wp2_with (go_at_call 13; refine h1.mono ?_; rintro e w1 ⟨rfl, hb1⟩)
  go_ret
  exact ⟨rfl, below_alloc hb1⟩
/-- what Del answers -/
def delE (L : List NU) (y : Nm) : Int := if y.ok then (if ∀ q ∈ L, q.1 ≠ y then 6 else 0) else 8
set_option maxHeartbeats 1000000 in
theorem del_any (w : World) (p now : Nat) (L : List NU) (b0 : Nat) (mb : Nat → Option Nat) (N : Nat) (h : Wh w p now L L b0 mb N) (y : Nm) :
    Calls Try.prog 14 #[.pointer (some ⟨p, 0, none⟩), .agg #[.int .i64 y.tenant, .string y.key]] w fun e w' => e = .returned (.int .i64 (delE L y)) ∧
      ∃ mb', Wh w' p now (if y.ok then strike y L else L) (if y.ok then strike y L else L) b0 mb' N ∧ Kept (Foot p b0 mb) w w' ∧ ∀ k, Foot p b0 mb' k → Foot p b0 mb k ∨ w.heap.size ≤ k := by
  have hbA : Below w.heap.size w (w.alloc (.cells #[.int .i64 y.tenant, .string y.key] 24)) := alb w _
  obtain ⟨wA, hwA⟩ : ∃ wA, wA = w.alloc (.cells #[.int .i64 y.tenant, .string y.key] 24) := ⟨_, rfl⟩
  rw [← hwA] at hbA
  have hA := h.below hbA
  have x0 : wA.cell? ⟨w.heap.size, 0, none⟩ = some (.int .i64 y.tenant) := by rw [hwA]; simp
  have x1 : wA.cell? ⟨w.heap.size, 1, none⟩ = some (.string y.key) := by rw [hwA]; simp
  have hsA : wA.heap.size = w.heap.size + 1 := by rw [hwA]; simp
  have HU := Hid.mk2 (until_any wA p now L b0 mb N hA y)
  have HW := Hid.mk2 hA
  have HB := Hid.mk2 hbA
  clear h hA hbA
  go_enter Try.func14, Try.ntmps14
  go_upto_region 1 with fail
  rw [← hwA]
  clear hwA
  go_wp2_with (first
    | (go_at_call 13; refine HU.out.mono ?_; rintro e w1 ⟨hb1, hc⟩; have y0 := (hb1.cell (p := ⟨w.heap.size, 0, none⟩) (by show w.heap.size < wA.heap.size; omega)).trans x0; have y1 := (hb1.cell (p := ⟨w.heap.size, 1, none⟩) (by show w.heap.size < wA.heap.size; omega)).trans x1; rcases hc with ⟨hy, rfl⟩ | ⟨hy, hno, rfl⟩ | ⟨hy, u, hm, rfl⟩)
    | (go_at_call 36; refine (leave_any w1 p now L b0 mb N (HW.out.below hb1) y hy).mono ?_; rintro e w2 ⟨rfl, mb2, hW2, hK2, hF2⟩))
  · go_ret
    have e1 : delE L y = 8 := by unfold delE; rw [if_neg hy]
    rw [e1]
    try rw [if_neg hy]
    exact ⟨rfl, mb, HW.out.below hb1, (Kept.below (F := Foot p b0 mb) HB.out).trans (Kept.below (F := Foot p b0 mb) hb1) (fun k hk => .inl hk), fun k hk => .inl hk⟩
  · go_ret
    have e1 : delE L y = 6 := by unfold delE; rw [if_pos hy, if_pos hno]
    rw [e1]
    try rw [if_pos hy]
    rw [strike_none hno]
    exact ⟨rfl, mb, HW.out.below hb1, (Kept.below (F := Foot p b0 mb) HB.out).trans (Kept.below (F := Foot p b0 mb) hb1) (fun k hk => .inl hk), fun k hk => .inl hk⟩
  · go_ret
    have e1 : delE L y = 0 := by unfold delE; rw [if_pos hy, if_neg (fun hno => hno (y, u) hm rfl)]
    rw [e1]
    try rw [if_pos hy]
    refine ⟨rfl, mb2, hW2, ((Kept.below (F := Foot p b0 mb) HB.out).trans (Kept.below (F := Foot p b0 mb) hb1) (fun k hk => .inl hk)).trans hK2 (fun k hk => .inl hk), fun k hk => (hF2 k hk).imp id (fun g => ?_)⟩
    have h1 := HB.out.size
    have h2 := hb1.size
    omega
theorem del_wl (w : World) (B p now : Nat) (L : List NU) (N : Nat) (h : Wl w B p now L N) (hB : B ≤ w.heap.size) (y : Nm) :
    Calls Try.prog 14 #[.pointer (some ⟨p, 0, none⟩), .agg #[.int .i64 y.tenant, .string y.key]] w fun e w' => e = .returned (.int .i64 (delE L y)) ∧ Wl w' B p now (if y.ok then strike y L else L) N ∧ Below B w w' := by
  obtain ⟨b0, mb, h1, h2⟩ := h
  refine (del_any w p now L b0 mb N h1 y).mono ?_
  rintro e w' ⟨rfl, mb', hW, hK, hF⟩
  exact ⟨rfl, ⟨b0, mb', hW, fun k hk => (hF k hk).elim (h2 k) (fun g => by omega)⟩, hK.to_below hB h2⟩
end Go.Proofs.Ythcekkahkioibad
