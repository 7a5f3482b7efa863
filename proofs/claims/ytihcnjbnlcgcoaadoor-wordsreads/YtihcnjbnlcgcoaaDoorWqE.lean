/-
  The document's answer of one line, as data, against the program's.
-/
import Derived.Test.YtihcnjbnlcgcoaaDoorWqD
import Derived.Test.YtihcnjbnlcgcoaaDoorWpM
namespace Go.Proofs.YtihcnjbnlcgcoaaDoor
open Go.Proofs.YtihcnjbnlcgcoaaDoor.It
open Go.RowKit
set_option linter.unusedSimpArgs false
set_option linter.unusedVariables false
set_option maxRecDepth 100000

/-- the document's answer of one line -/
def qone (of_ : Int) (s : ByteArray) : Option An := if of_ = 1 ∧ s = sEND then none else ansOf of_ s
def noB (s : ByteArray) : Bool := (bl s).all fun c => decide (c ≠ 32)
theorem noB_ne {s : ByteArray} (h : noB s = true) : ∀ c ∈ bl s, c ≠ 32 := by
  intro c hc
  have := List.all_eq_true.1 h c hc
  simpa using this
theorem lw_pre {W : ByteArray} (h : noB W = true) (r : List UInt8) : lw (bl W ++ 32 :: r) = W :: lw r := by
  unfold lw
  rw [wsp_app _ _ (noB_ne h), List.map_cons, mkB_bl]
theorem lw_self {W : ByteArray} (h : noB W = true) : lw (bl W) = [W] := by
  unfold lw
  rw [wsp_plain _ (noB_ne h), List.map_cons, mkB_bl]
  rfl
theorem lw_one {s W : ByteArray} (h : lw (bl s) = [W]) : s = W := by
  apply bl_inj
  have e := joinW_lw (bl s)
  rw [h, joinW_cons] at e
  simpa using e.symm
theorem lw_two {s W : ByteArray} {x : ByteArray} {t : List ByteArray} (h : lw (bl s) = W :: x :: t) : bl s = bl W ++ 32 :: joinW (x :: t) := by
  have e := joinW_lw (bl s)
  rw [h, joinW_cons, List.flatMap_cons, List.cons_append, ← joinW_cons] at e
  exact e.symm
/-- the first word of a line tells that it isn't another word -/
theorem lw_other {s W h0 : ByteArray} {t : List ByteArray} (h : lw (bl s) = h0 :: t) (hW : noB W = true) (hne : h0 ≠ W) : s ≠ W := by
  intro e
  rw [e, lw_self hW] at h
  exact hne (List.cons.inj h).1.symm
theorem lw_npre {s W h0 : ByteArray} {t : List ByteArray} (h : lw (bl s) = h0 :: t) (hW : noB W = true) (hne : h0 ≠ W) : ¬ (bl s).take ((bl W).length + 1) = bl W ++ [32] := by
  intro e
  have e2 : bl s = bl W ++ 32 :: (bl s).drop ((bl W).length + 1) := by
    conv => lhs; rw [← List.take_append_drop ((bl W).length + 1) (bl s), e]
    simp
  rw [e2, lw_pre hW] at h
  exact hne (List.cons.inj h).1.symm
theorem doneW_noB (o : Int) : noB (doneW o) = true := by
  unfold doneW
  repeat (first | decide | split)
theorem joinW_has (x y : ByteArray) (t : List ByteArray) : (32 : UInt8) ∈ joinW (x :: y :: t) := by
  rw [joinW_cons, List.flatMap_cons]
  simp
theorem isNum_noB {l : List UInt8} (h : isNum l = true) : ∀ c ∈ l, c ≠ 32 := by
  intro c hc e
  have h1 := decL_numV h
  rw [← h1] at hc
  have h2 := List.all_eq_true.1 (decL_all _) c hc
  rw [e] at h2
  revert h2
  decide
theorem wordOk_noB {s : ByteArray} {m : Nat} (h : wordOk s m = true) : ∀ c ∈ bl s, c ≠ 32 := by
  unfold wordOk at h
  simp only [Bool.and_eq_true] at h
  exact fun c hc => (word_bytes h.2 c hc).1
theorem qone_word (of_ k : Int) (h2 : 2 ≤ k) (h7 : k ≤ 7) : qone of_ (resW k) = if isCmd of_ = true then some ⟨1, of_, k, [], 0, false, ⟨#[]⟩⟩ else none := by
  have hc : k = 2 ∨ k = 3 ∨ k = 4 ∨ k = 5 ∨ k = 6 ∨ k = 7 := by omega
  unfold qone
  rw [if_neg (fun h => absurd h.2 (by rcases hc with rfl | rfl | rfl | rfl | rfl | rfl <;> decide))]
  rcases hc with rfl | rfl | rfl | rfl | rfl | rfl
  all_goals
    unfold ansOf resOf
    repeat rw [if_neg (by decide)]
    cases isCmd of_ <;> rfl
/-- what stands ahead of all that an answer's line may be -/
structure Fwd (s : ByteArray) : Prop where
  f1 : s ≠ sWELCOME
  f2 : s ≠ sUNKNOWN
  f3 : s ≠ sTRACKED
  f4 : s ≠ sUNTRACKED
  f5 : s ≠ sPONG
  f6 : s ≠ sBYE
  f7 : s ≠ sERROR
structure Frw (s : ByteArray) : Prop where
  r2 : s ≠ sNOTFOUND
  r3 : s ≠ sEXISTS
  r4 : s ≠ sTOOLARGE
  r5 : s ≠ sNOMEMORY
  r6 : s ≠ sNOTNUMBER
  r7 : s ≠ sDENIED
theorem ansOf_f {of_ : Int} {s : ByteArray} (h : Fwd s) (hp : ¬ (bl s).take 5 = bl sPUSH ++ [32]) : ansOf of_ s = match resOf of_ s with | none => none | some (rk, n) => some ⟨1, of_, rk, [], n, false, ⟨#[]⟩⟩ := by
  unfold ansOf
  rw [if_neg h.f1, if_neg h.f2, if_neg h.f3, if_neg h.f4, if_neg h.f5, if_neg h.f6, if_neg h.f7, if_neg hp]
  rfl
theorem resOf_r {of_ : Int} {s : ByteArray} (h : Frw s) : resOf of_ s = if isCmd of_ = false then none else doneOf of_ s := by
  unfold resOf
  by_cases hc : isCmd of_ = false
  · rw [if_pos hc, if_pos hc]
  · rw [if_neg hc, if_neg hc, if_neg h.r2, if_neg h.r3, if_neg h.r4, if_neg h.r5, if_neg h.r6, if_neg h.r7]
/-- a line whose first word is none of the others' -/
theorem fwd_of {s h0 : ByteArray} {t : List ByteArray} (h : lw (bl s) = h0 :: t) (d : ∀ W ∈ [sWELCOME, sUNKNOWN, sTRACKED, sUNTRACKED, sPONG, sBYE, sERROR], h0 ≠ W) : Fwd s :=
  ⟨lw_other h (by decide) (d _ (by simp)), lw_other h (by decide) (d _ (by simp)), lw_other h (by decide) (d _ (by simp)), lw_other h (by decide) (d _ (by simp)), lw_other h (by decide) (d _ (by simp)), lw_other h (by decide) (d _ (by simp)), lw_other h (by decide) (d _ (by simp))⟩
theorem frw_of {s h0 : ByteArray} {t : List ByteArray} (h : lw (bl s) = h0 :: t) (d : ∀ W ∈ [sNOTFOUND, sEXISTS, sTOOLARGE, sNOMEMORY, sNOTNUMBER, sDENIED], h0 ≠ W) : Frw s :=
  ⟨lw_other h (by decide) (d _ (by simp)), lw_other h (by decide) (d _ (by simp)), lw_other h (by decide) (d _ (by simp)), lw_other h (by decide) (d _ (by simp)), lw_other h (by decide) (d _ (by simp)), lw_other h (by decide) (d _ (by simp))⟩
theorem doneW_f (o : Int) : (∀ W ∈ [sWELCOME, sUNKNOWN, sTRACKED, sUNTRACKED, sPONG, sBYE, sERROR], doneW o ≠ W) ∧ (∀ W ∈ [sNOTFOUND, sEXISTS, sTOOLARGE, sNOMEMORY, sNOTNUMBER, sDENIED], doneW o ≠ W) ∧ doneW o ≠ sPUSH := by
  unfold doneW
  repeat (first | decide | split)
/-- a line whose first word is the command's -/
theorem qone_row {of_ : Int} {s : ByteArray} {t : List ByteArray} (hc : isCmd of_ = true) (h1 : of_ ≠ 1) (h : lw (bl s) = doneW of_ :: t) : qone of_ s = match doneOf of_ s with | none => none | some (rk, n) => some ⟨1, of_, rk, [], n, false, ⟨#[]⟩⟩ := by
  unfold qone
  obtain ⟨d1, d2, d3⟩ := doneW_f of_
  rw [if_neg (fun e => h1 e.1), ansOf_f (fwd_of h d1) (lw_npre h (W := sPUSH) (by decide) d3), resOf_r (frw_of h d2), if_neg (by rw [hc]; decide)]
theorem doneOf_plain {of_ : Int} {s : ByteArray} {t : List ByteArray} (hm : mostN of_ = 0) (h : lw (bl s) = doneW of_ :: t) : doneOf of_ s = if t = [] then some (1, 0) else none := by
  unfold doneOf
  rw [if_pos hm]
  by_cases ht : t = []
  · rw [if_pos ht, if_pos (lw_one (by rw [h, ht]))]
  · rw [if_neg ht, if_neg (fun e => by
      rw [e, lw_self (doneW_noB _)] at h
      exact ht (List.cons.inj h).2.symm)]
theorem doneOf_num {of_ : Int} {s : ByteArray} {x : ByteArray} (hm : mostN of_ ≠ 0) (h : lw (bl s) = [doneW of_, x]) : doneOf of_ s = if numU (mostN of_).toNat x = true then some (1, (numV (bl x) : Int)) else none := by
  have e : bl s = bl (doneW of_) ++ 32 :: bl x := by
    have := lw_two h
    rw [joinW_cons] at this
    simpa using this
  have e0 : bl (doneW of_) ++ 32 :: bl x = (bl (doneW of_) ++ [32]) ++ bl x := by simp
  have e1 : (bl s).take ((bl (doneW of_)).length + 1) = bl (doneW of_) ++ [32] := by rw [e, e0]; exact List.take_left' (by simp)
  have e2 : (bl s).drop ((bl (doneW of_)).length + 1) = bl x := by rw [e, e0]; exact List.drop_left' (by simp)
  unfold doneOf
  rw [if_neg hm, e1, e2, mkB_bl]
  by_cases hn : numU (mostN of_).toNat x = true
  · rw [if_pos ⟨rfl, hn⟩, if_pos hn]
  · rw [if_neg (fun e => hn e.2), if_neg hn]
theorem doneOf_bad {of_ : Int} {s : ByteArray} {t : List ByteArray} (hm : mostN of_ ≠ 0) (h : lw (bl s) = doneW of_ :: t) (ht : t.length ≠ 1) : doneOf of_ s = none := by
  unfold doneOf
  rw [if_neg hm, if_neg]
  rintro ⟨e1, e2⟩
  match t, ht, h with
  | [], _, h =>
    have e := lw_one h
    rw [e] at e1
    have := congrArg List.length e1
    simp at this
  | x :: y :: t, _, h =>
    have e := lw_two h
    have e3 : (bl s).drop ((bl (doneW of_)).length + 1) = joinW (x :: y :: t) := by rw [e]; simp [List.drop_append]
    rw [e3] at e2
    unfold numU at e2
    simp only [Bool.and_eq_true] at e2
    rw [bl_mkB] at e2
    exact isNum_noB e2.1 32 (joinW_has _ _ _) rfl
theorem push_f : (∀ W ∈ [sWELCOME, sUNKNOWN, sTRACKED, sUNTRACKED, sPONG, sBYE, sERROR], sPUSH ≠ W) ∧ (∀ W ∈ [sNOTFOUND, sEXISTS, sTOOLARGE, sNOMEMORY, sNOTNUMBER, sDENIED], sPUSH ≠ W) := by decide
theorem done_no {of_ : Int} {s h0 : ByteArray} {t : List ByteArray} (h : lw (bl s) = h0 :: t) (hd : h0 ≠ doneW of_) : doneOf of_ s = none := by
  unfold doneOf
  by_cases hm : mostN of_ = 0
  · rw [if_pos hm, if_neg (lw_other h (doneW_noB _) hd)]
  · rw [if_neg hm, if_neg (fun e => lw_npre h (doneW_noB _) hd e.1)]
theorem qone_push {of_ : Int} {s x : ByteArray} (h : lw (bl s) = [sPUSH, x]) : qone of_ s = if wordOk x 32 = true then some { az with kind := 7, key := x } else none := by
  have e : bl s = bl sPUSH ++ 32 :: bl x := by
    have := lw_two h
    rw [joinW_cons] at this
    simpa using this
  have f := fwd_of h push_f.1
  unfold qone ansOf
  rw [if_neg (fun q => lw_other h (W := sEND) (by decide) (by decide) q.2), if_neg f.f1, if_neg f.f2, if_neg f.f3, if_neg f.f4, if_neg f.f5, if_neg f.f6, if_neg f.f7, e]
  have e2 : (bl sPUSH ++ 32 :: bl x).drop 5 = bl x := rfl
  rw [if_pos (show (bl sPUSH ++ 32 :: bl x).take 5 = bl sPUSH ++ [32] from rfl), e2, mkB_bl]
theorem qone_pbad {of_ : Int} {s : ByteArray} {t : List ByteArray} (h : lw (bl s) = sPUSH :: t) (ht : t.length ≠ 1) : qone of_ s = none := by
  have f := fwd_of h push_f.1
  match t, ht, h with
  | [], _, h =>
    unfold qone
    have e := lw_one h
    rw [if_neg (fun q => lw_other h (W := sEND) (by decide) (by decide) q.2), ansOf_f f (by rw [e]; decide), resOf_r (frw_of h push_f.2)]
    rw [done_no h (fun q => (doneW_f of_).2.2 q.symm)]
    cases isCmd of_ <;> rfl
  | x :: y :: t, _, h =>
    have e := lw_two h
    unfold qone ansOf
    rw [if_neg (fun q => lw_other h (W := sEND) (by decide) (by decide) q.2), if_neg f.f1, if_neg f.f2, if_neg f.f3, if_neg f.f4, if_neg f.f5, if_neg f.f6, if_neg f.f7, e]
    have e2 : (bl sPUSH ++ 32 :: joinW (x :: y :: t)).drop 5 = joinW (x :: y :: t) := rfl
    rw [if_pos (show (bl sPUSH ++ 32 :: joinW (x :: y :: t)).take 5 = bl sPUSH ++ [32] from rfl), e2, if_neg]
    intro hw
    have := wordOk_noB hw 32 (by rw [bl_mkB]; exact joinW_has _ _ _)
    exact this rfl
theorem qone_none {of_ : Int} {s h0 : ByteArray} {t : List ByteArray} (h : lw (bl s) = h0 :: t) (hr : Frw s) (hf : Fwd s) (hp : h0 ≠ sPUSH) (hd : isCmd of_ = true → of_ ≠ 1 → h0 ≠ doneW of_) : qone of_ s = none := by
  unfold qone
  by_cases h1 : of_ = 1 ∧ s = sEND
  · rw [if_pos h1]
  · rw [if_neg h1, ansOf_f hf (lw_npre h (W := sPUSH) (by decide) hp), resOf_r hr]
    by_cases hc : isCmd of_ = false
    · rw [if_pos hc]
    · rw [if_neg hc]
      have hc2 : isCmd of_ = true := by cases hq : isCmd of_ with | false => exact absurd hq hc | true => rfl
      by_cases h2 : of_ = 1
      · subst h2
        have hs : s ≠ sEND := fun e => h1 ⟨rfl, e⟩
        have e : doneOf 1 s = none := by
          unfold doneOf
          rw [if_pos (by decide), if_neg (show ¬ s = doneW 1 from hs)]
        rw [e]
      · rw [done_no h (hd hc2 h2)]
theorem qwsp_len : ∀ l : List UInt8, (wsp l).length ≤ l.length + 1
  | [] => by simp [wsp]
  | c :: l => by
    have ih := qwsp_len l
    unfold wsp
    split
    · simp; omega
    · simp; omega
theorem qlw_len (l : List UInt8) : (lw l).length ≤ l.length + 1 := by unfold lw; rw [List.length_map]; exact qwsp_len l
/-- an answer of a kind, as the document tries it -/
def cand (k y : Int) : An := { az with kind := k, yes := y == 1 }
def candL (k y : Int) : ByteArray := if k = 2 then (if y = 1 then sWELCOME else sUNKNOWN) else if k = 3 then (if y = 1 then sTRACKED else sUNTRACKED) else if k = 4 then sPONG else if k = 5 then sBYE else sERROR
theorem cand_may {k y : Int} (hk : 2 ≤ k ∧ k ≤ 6) (hy : 0 ≤ y ∧ y ≤ 1) : (cand k y).may = decide (k ≤ 3 ∨ y = 0) := by
  have hc : k = 2 ∨ k = 3 ∨ k = 4 ∨ k = 5 ∨ k = 6 := by omega
  have hc2 : y = 0 ∨ y = 1 := by omega
  have e0 : (⟨#[]⟩ : ByteArray).toList.isEmpty = true := by rw [memp]; rfl
  unfold An.may cand az noRes
  dsimp only
  rw [e0]
  rcases hc with rfl | rfl | rfl | rfl | rfl <;> rcases hc2 with rfl | rfl <;> rfl
theorem cand_hasL (k y : Int) : (cand k y).hasL = true := rfl
theorem cand_fit (k y : Int) : (cand k y).Fit := ⟨Int.le_refl _, (by decide : (0 : Int) < 18446744073709551616), fun x hx => by cases hx⟩
theorem cand_lines {k y : Int} (hk : 2 ≤ k ∧ k ≤ 6) (hy : 0 ≤ y ∧ y ≤ 1) : (cand k y).lines = bl (candL k y) ++ [13, 10] := by
  have hc : k = 2 ∨ k = 3 ∨ k = 4 ∨ k = 5 ∨ k = 6 := by omega
  have hc2 : y = 0 ∨ y = 1 := by omega
  rcases hc with rfl | rfl | rfl | rfl | rfl <;> rcases hc2 with rfl | rfl <;> rfl
theorem qone_hit {of_ k y : Int} (hk : 2 ≤ k ∧ k ≤ 6) (hy : 0 ≤ y ∧ y ≤ 1) : qone of_ (candL k y) = some (cand k (if k ≤ 3 then y else 0)) := by
  have hc : k = 2 ∨ k = 3 ∨ k = 4 ∨ k = 5 ∨ k = 6 := by omega
  have hc2 : y = 0 ∨ y = 1 := by omega
  unfold qone
  rw [if_neg (fun h => absurd h.2 (by rcases hc with rfl | rfl | rfl | rfl | rfl <;> rcases hc2 with rfl | rfl <;> decide))]
  rcases hc with rfl | rfl | rfl | rfl | rfl <;> rcases hc2 with rfl | rfl <;> rfl
theorem fwd_all {s : ByteArray} (h : ∀ k y : Int, 2 ≤ k → k ≤ 6 → 0 ≤ y → y ≤ 1 → (k ≤ 3 ∨ y = 0) → s ≠ candL k y) : Fwd s :=
  ⟨h 2 1 (by decide) (by decide) (by decide) (by decide) (by decide), h 2 0 (by decide) (by decide) (by decide) (by decide) (by decide), h 3 1 (by decide) (by decide) (by decide) (by decide) (by decide), h 3 0 (by decide) (by decide) (by decide) (by decide) (by decide), h 4 0 (by decide) (by decide) (by decide) (by decide) (by decide), h 5 0 (by decide) (by decide) (by decide) (by decide) (by decide), h 6 0 (by decide) (by decide) (by decide) (by decide) (by decide)⟩
theorem frw_all {s : ByteArray} (h : ∀ k : Int, 2 ≤ k → k ≤ 7 → s ≠ resW k) : Frw s :=
  ⟨h 2 (by decide) (by decide), h 3 (by decide) (by decide), h 4 (by decide) (by decide), h 5 (by decide) (by decide), h 6 (by decide) (by decide), h 7 (by decide) (by decide)⟩
end Go.Proofs.YtihcnjbnlcgcoaaDoor
