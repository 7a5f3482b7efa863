/-
  What is read was written so (data): P15.4, the other way about.
-/
import Derived.Test.YtfmpbddhejpjaaaDoorWoF
namespace Go.Proofs.YtfmpbddhejpjaaaDoor
open Go.Proofs.YtfmpbddhejpjaaaDoor.It
open Go.RowKit
set_option linter.unusedSimpArgs false
set_option linter.unusedVariables false
set_option maxRecDepth 100000

theorem numU_some {m : Nat} {s : ByteArray} (h : numU m s = true) : dec (numV (bl s) : Int) = s ∧ numV (bl s) ≤ m ∧ numV (bl s) < 18446744073709551616 := by
  unfold numU at h
  simp only [Bool.and_eq_true, decide_eq_true_eq] at h
  refine ⟨bl_inj ?_, h.2, numV_lt _⟩
  unfold dec
  rw [bl_mk]
  simpa using decL_numV h.1
theorem cutL_some {b line : List UInt8} {n : Nat} (h : cutL b = (line, n, 0)) (hn : n ≠ 0) : b = line ++ 13 :: 10 :: b.drop n ∧ n = line.length + 2 ∧ n ≤ b.length := by
  unfold cutL at h
  cases he : eol (b.take 514) with
  | none =>
    rw [he] at h
    simp only [Prod.mk.injEq] at h
    exact absurd h.2.1.symm hn
  | some e =>
    rw [he] at h
    simp only [Prod.mk.injEq] at h
    obtain ⟨rfl, rfl, -⟩ := h
    have he2 := eol_more (b.take 514) (b.drop 514) e he
    rw [List.take_append_drop] at he2
    obtain ⟨h1, h2⟩ := eol_some b e he2
    refine ⟨h2, ?_, h1⟩
    rw [List.length_take]
    omega
theorem cutL_err {b : List UInt8} (h : (cutL b).2.1 ≠ 0) : (cutL b).2.2 = 0 := by
  unfold cutL at h ⊢
  cases he : eol (b.take 514) with
  | none => rw [he] at h; exact absurd rfl h
  | some e => rfl
theorem itemW_some {ws : List ByteArray} {x : Im} {k : Nat} (h : itemW ws = some (x, k)) : ws = [x.key, dec x.flags, dec x.till, dec x.unique, dec (k : Int)] ∧ wordOk x.key 32 = true ∧ k ≤ 512 ∧ (0 ≤ x.till ∧ x.till ≤ 1099511627776) ∧ (0 ≤ x.flags ∧ x.flags < 4294967296) ∧ (0 ≤ x.unique ∧ x.unique < 18446744073709551616) := by
  match ws, h with
  | [a, f, t, u, v], h =>
    have h : (if wordOk a 32 = true ∧ numU 4294967295 f = true ∧ numU 1099511627776 t = true ∧ numU 18446744073709551615 u = true ∧ numU 512 v = true then some ((⟨a, ⟨#[]⟩, (numV (bl f) : Int), (numV (bl t) : Int), (numV (bl u) : Int)⟩ : Im), numV (bl v)) else none) = some (x, k) := h
    by_cases hc : wordOk a 32 = true ∧ numU 4294967295 f = true ∧ numU 1099511627776 t = true ∧ numU 18446744073709551615 u = true ∧ numU 512 v = true
    · rw [if_pos hc] at h
      simp only [Option.some.injEq, Prod.mk.injEq] at h
      obtain ⟨rfl, rfl⟩ := h
      obtain ⟨f1, f2, f3⟩ := numU_some hc.2.1
      obtain ⟨t1, t2, t3⟩ := numU_some hc.2.2.1
      obtain ⟨u1, u2, u3⟩ := numU_some hc.2.2.2.1
      obtain ⟨v1, v2, v3⟩ := numU_some hc.2.2.2.2
      refine ⟨?_, hc.1, v2, ⟨by dsimp only; omega, by dsimp only; omega⟩, ⟨by dsimp only; omega, by dsimp only; omega⟩, ⟨by dsimp only; omega, by dsimp only; omega⟩⟩
      dsimp only
      rw [f1, t1, u1, v1]
    · rw [if_neg hc] at h; cases h
theorem isVal_words {line : List UInt8} (h : isVal line = true) : lw line = sVALUE :: (lw line).tail := by
  unfold isVal at h
  have h1 : line.take 6 = bl sVALUE ++ [32] := of_decide_eq_true h
  have h2 : line = bl sVALUE ++ 32 :: line.drop 6 := by
    have := List.take_append_drop 6 line
    rw [h1, List.append_assoc] at this
    exact this.symm
  have h3 : wsp line = bl sVALUE :: wsp (line.drop 6) := by
    have := wsp_app (bl sVALUE) (line.drop 6) (by decide)
    rw [← h2] at this
    exact this
  unfold lw
  rw [h3, List.map_cons, List.tail_cons, mkB_bl]
theorem cutI_some {line behind : List UInt8} {x : Im} {m : Nat} (hv : isVal line = true) (h : cutI line behind = (x, m, 0)) (hm : m ≠ 0) : x.ok ∧ joinW x.words = line ∧ m = x.value.size + 2 ∧ m ≤ behind.length ∧ behind = bl x.value ++ 13 :: 10 :: behind.drop m := by
  unfold cutI at h
  cases hi : itemW (lw line).tail with
  | none => rw [hi] at h; simp only [Prod.mk.injEq] at h; exact absurd h.2.1.symm hm
  | some q =>
    obtain ⟨y, n⟩ := q
    rw [hi] at h
    dsimp only at h
    obtain ⟨h1, h2, h3, h4, h5, h6⟩ := itemW_some hi
    by_cases hl : behind.length < n + 2
    · rw [if_pos hl] at h
      simp only [Prod.mk.injEq] at h
      exact absurd h.2.1.symm hm
    · rw [if_neg hl] at h
      by_cases hc : (behind.drop n).take 2 = [13, 10]
      · rw [if_pos hc] at h
        simp only [Prod.mk.injEq] at h
        obtain ⟨rfl, rfl, -⟩ := h
        have hs : (mkB (behind.take n)).size = n := by
          rw [← bl_len, bl_mkB, List.length_take]; omega
        refine ⟨⟨h2, by dsimp only; rw [hs]; exact h3, h4, h5, h6⟩, ?_, by dsimp only; rw [hs], by omega, ?_⟩
        · have hw := isVal_words hv
          rw [h1] at hw
          unfold Im.words
          dsimp only
          rw [hs, ← hw, joinW_lw]
        · dsimp only
          rw [bl_mkB]
          have e1 := List.take_append_drop n behind
          have e2 := List.take_append_drop 2 (behind.drop n)
          rw [hc, List.drop_drop] at e2
          have e3 : [13, 10] ++ behind.drop (n + 2) = 13 :: 10 :: behind.drop (n + 2) := rfl
          rw [← e3, e2, e1]
      · rw [if_neg hc] at h
        simp only [Prod.mk.injEq] at h
        exact absurd h.2.1.symm hm
/-- an answer that a line told: it may be, has lines, and its last line is that line -/
structure Told15 (a : An) (line : List UInt8) (of_ : Int) : Prop where
  may : a.may = true
  seen : a.hasL = true
  line : joinW a.last = line
  of_ : a.kind ≠ 1 ∨ a.of_ = of_
  fit : a.Fit
theorem em0 : (⟨#[]⟩ : ByteArray).toList.isEmpty = true := by rw [ByteArray.toList_eq]; rfl
theorem seen0 : seen ⟨#[]⟩ = true := by rfl
theorem hasL_nil {a : An} (h : a.items = []) (hk : seen a.key = true) : a.hasL = true := by unfold An.hasL; rw [h, hk]; rfl
theorem noRes0 : noRes 0 0 [] 0 = true := by rfl
theorem az_plain (k : Int) (y : Bool) (s : ByteArray) (of_ : Int) (hk : k = 2 ∨ k = 3 ∨ ((k = 4 ∨ k = 5 ∨ k = 6) ∧ y = false)) (hl : (An.mk k 0 0 [] 0 y ⟨#[]⟩).last = [s]) : Told15 ⟨k, 0, 0, [], 0, y, ⟨#[]⟩⟩ (bl s) of_ := by
  refine ⟨?_, hasL_nil rfl seen0, by rw [hl, joinW_one], .inl (by dsimp only; omega), ⟨Int.le_refl 0, (by show (0 : Int) < 18446744073709551616; decide), fun x hx => by cases hx⟩⟩
  unfold An.may
  dsimp only
  rw [if_neg (by omega)]
  rcases hk with h | h | ⟨h, hy⟩
  · rw [if_pos (.inl h), em0, noRes0]; rfl
  · rw [if_pos (.inr h), em0, noRes0]; rfl
  · rw [if_neg (by omega), if_neg (by omega), if_pos h, em0, noRes0, hy]; rfl
theorem push_told {s : ByteArray} (of_ : Int) (h : (bl s).take 5 = bl sPUSH ++ [32]) (hw : wordOk (mkB ((bl s).drop 5)) 32 = true) : Told15 { az with kind := 7, key := mkB ((bl s).drop 5) } (bl s) of_ := by
  unfold wordOk at hw
  simp only [Bool.and_eq_true, decide_eq_true_eq] at hw
  refine ⟨?_, hasL_nil rfl hw.2, ?_, .inl (by show (7 : Int) ≠ 1; decide), ⟨Int.le_refl 0, (by show (0 : Int) < 18446744073709551616; decide), fun x hx => by cases hx⟩⟩
  · unfold An.may az
    dsimp only
    rw [if_neg (by decide), if_neg (by decide), if_pos rfl, noRes0]
    simp
    omega
  · show joinW [sPUSH, mkB ((bl s).drop 5)] = bl s
    rw [joinW_two, bl_mkB]
    have := List.take_append_drop 5 (bl s)
    rw [h, List.append_assoc] at this
    exact this
theorem done_some {of_ : Int} {s : ByteArray} {rk n : Int} (hc : isCmd of_ = true) (h : doneOf of_ s = some (rk, n)) : rk = 1 ∧ 0 ≤ n ∧ n < 18446744073709551616 ∧ n ≤ mostN of_ ∧ (if 0 < mostN of_ then joinW [doneW of_, dec n] = bl s else joinW [doneW of_] = bl s) := by
  unfold doneOf at h
  have hM : 0 ≤ mostN of_ ∧ mostN of_ < 18446744073709551616 := by unfold mostN; split <;> (try split) <;> omega
  by_cases h0 : mostN of_ = 0
  · rw [if_pos h0] at h
    by_cases hs : s = doneW of_
    · rw [if_pos hs] at h
      simp only [Option.some.injEq, Prod.mk.injEq] at h
      obtain ⟨rfl, rfl⟩ := h
      refine ⟨rfl, by decide, by decide, by omega, ?_⟩
      rw [if_neg (by omega), joinW_one, hs]
    · rw [if_neg hs] at h; cases h
  · rw [if_neg h0] at h
    by_cases hs : (bl s).take ((bl (doneW of_)).length + 1) = bl (doneW of_) ++ [32] ∧ numU (mostN of_).toNat (mkB ((bl s).drop ((bl (doneW of_)).length + 1))) = true
    · rw [if_pos hs] at h
      simp only [Option.some.injEq, Prod.mk.injEq] at h
      obtain ⟨rfl, rfl⟩ := h
      obtain ⟨n1, n2, n3⟩ := numU_some hs.2
      rw [bl_mkB] at n1 n2 n3
      refine ⟨rfl, by omega, by omega, by omega, ?_⟩
      rw [if_pos (by omega), joinW_two, n1, bl_mkB]
      have := List.take_append_drop ((bl (doneW of_)).length + 1) (bl s)
      rw [hs.1, List.append_assoc] at this
      exact this
    · rw [if_neg hs] at h; cases h
theorem res_some {of_ : Int} {s : ByteArray} {rk n : Int} (h : resOf of_ s = some (rk, n)) : isCmd of_ = true ∧ 0 ≤ n ∧ n < 18446744073709551616 ∧ ((rk = 1 ∧ n ≤ mostN of_ ∧ (if 0 < mostN of_ then joinW [doneW of_, dec n] = bl s else joinW [doneW of_] = bl s)) ∨ (2 ≤ rk ∧ rk ≤ 7 ∧ n = 0 ∧ s = resW rk ∧ s ≠ sEND)) := by
  unfold resOf at h
  by_cases hc : isCmd of_ = false
  · rw [if_pos hc] at h; cases h
  rw [if_neg hc] at h
  simp only [Bool.not_eq_false] at hc
  refine ⟨hc, ?_⟩
  by_cases h2 : s = sNOTFOUND
  · rw [if_pos h2] at h; simp only [Option.some.injEq, Prod.mk.injEq] at h; obtain ⟨rfl, rfl⟩ := h
    exact ⟨by decide, by decide, .inr ⟨by decide, by decide, rfl, h2, by rw [h2]; decide⟩⟩
  rw [if_neg h2] at h
  by_cases h3 : s = sEXISTS
  · rw [if_pos h3] at h; simp only [Option.some.injEq, Prod.mk.injEq] at h; obtain ⟨rfl, rfl⟩ := h
    exact ⟨by decide, by decide, .inr ⟨by decide, by decide, rfl, h3, by rw [h3]; decide⟩⟩
  rw [if_neg h3] at h
  by_cases h4 : s = sTOOLARGE
  · rw [if_pos h4] at h; simp only [Option.some.injEq, Prod.mk.injEq] at h; obtain ⟨rfl, rfl⟩ := h
    exact ⟨by decide, by decide, .inr ⟨by decide, by decide, rfl, h4, by rw [h4]; decide⟩⟩
  rw [if_neg h4] at h
  by_cases h5 : s = sNOMEMORY
  · rw [if_pos h5] at h; simp only [Option.some.injEq, Prod.mk.injEq] at h; obtain ⟨rfl, rfl⟩ := h
    exact ⟨by decide, by decide, .inr ⟨by decide, by decide, rfl, h5, by rw [h5]; decide⟩⟩
  rw [if_neg h5] at h
  by_cases h6 : s = sNOTNUMBER
  · rw [if_pos h6] at h; simp only [Option.some.injEq, Prod.mk.injEq] at h; obtain ⟨rfl, rfl⟩ := h
    exact ⟨by decide, by decide, .inr ⟨by decide, by decide, rfl, h6, by rw [h6]; decide⟩⟩
  rw [if_neg h6] at h
  by_cases h7 : s = sDENIED
  · rw [if_pos h7] at h; simp only [Option.some.injEq, Prod.mk.injEq] at h; obtain ⟨rfl, rfl⟩ := h
    exact ⟨by decide, by decide, .inr ⟨by decide, by decide, rfl, h7, by rw [h7]; decide⟩⟩
  rw [if_neg h7] at h
  obtain ⟨d1, d2, d3, d4, d5⟩ := done_some hc h
  exact ⟨d2, d3, .inl ⟨d1, d4, d5⟩⟩
/-- the items of an answer that is read: they may be, and stand beside a get's answer alone -/
structure Its (L : List Im) (of_ : Int) : Prop where
  ok : ∀ x ∈ L, x.ok
  many : (L.length : Int) ≤ mostI of_
theorem Im.ok.good {x : Im} (h : x.ok) : badI x = false := by
  have hk := h.key
  unfold wordOk at hk
  simp only [Bool.and_eq_true, decide_eq_true_eq] at hk
  unfold badI ckE
  have e : x.it.key = x.key ∧ x.it.value = x.value ∧ x.it.till = x.till := ⟨rfl, rfl, rfl⟩
  rw [e.1, e.2.1, e.2.2, if_neg (by have := h.val; omega), if_pos (by unfold mom; simp only [Bool.and_eq_true, decide_eq_true_eq]; exact h.till)]
  rfl
theorem Im.ok.seen {x : Im} (h : x.ok) : seen x.key = true := by
  have hk := h.key
  unfold wordOk at hk
  simp only [Bool.and_eq_true] at hk
  exact hk.2
theorem res_told {of_ : Int} {s : ByteArray} {rk n : Int} {L : List Im} (h : resOf of_ s = some (rk, n)) (hL : Its L of_) (hE : L = [] ∨ s = sEND) : Told15 ⟨1, of_, rk, L, n, false, ⟨#[]⟩⟩ (bl s) of_ := by
  obtain ⟨hc, n0, n1, hr⟩ := res_some h
  have hbad : L.any badI = false := by
    rw [List.any_eq_false]
    intro x hx
    rw [(hL.ok x hx).good]
    decide
  have hc2 := hc
  unfold isCmd at hc2
  simp only [Bool.and_eq_true, decide_eq_true_eq] at hc2
  refine ⟨?_, ?_, ?_, .inr rfl, ⟨n0, n1, fun x hx => ⟨(hL.ok x hx).flags.1, (hL.ok x hx).flags.2, (hL.ok x hx).uniq.1, (hL.ok x hx).uniq.2⟩⟩⟩
  · unfold An.may
    dsimp only
    rw [if_pos rfl, em0]
    unfold resOk
    rw [hc, hbad]
    rcases hr with ⟨rfl, hm, _⟩ | ⟨r2, r7, rfl, hs, hne⟩
    · rw [if_pos rfl, if_pos rfl]
      simp [hL.many, hm]
    · rcases hE with rfl | hE
      · rw [if_neg (by omega), if_neg (by omega)]
        simp
        omega
      · exact absurd hE hne
  · unfold An.hasL
    dsimp only
    rw [seen0, Bool.true_and, List.all_eq_true]
    exact fun x hx => (hL.ok x hx).seen
  · show joinW (if (1 : Int) = 2 then _ else if (1 : Int) = 3 then _ else if (1 : Int) = 4 then _ else if (1 : Int) = 5 then _ else if (1 : Int) = 6 then _ else if (1 : Int) = 7 then _ else if rk = 1 then (if 0 < mostN of_ then [doneW of_, dec n] else [doneW of_]) else [resW rk]) = bl s
    rw [if_neg (by decide), if_neg (by decide), if_neg (by decide), if_neg (by decide), if_neg (by decide), if_neg (by decide)]
    rcases hr with ⟨rfl, hm, hj⟩ | ⟨r2, r7, rfl, hs, hne⟩
    · rw [if_pos rfl]
      by_cases hN : 0 < mostN of_
      · rw [if_pos hN] at hj ⊢; exact hj
      · rw [if_neg hN] at hj ⊢; exact hj
    · rw [if_neg (by omega), joinW_one, hs]
theorem ans_told {of_ : Int} {s : ByteArray} {a : An} {L : List Im} (h : ansOf of_ s = some a) (hL : Its L of_) (hE : L = [] ∨ s = sEND) : Told15 { a with items := L } (bl s) of_ := by
  unfold ansOf at h
  by_cases h1 : s = sWELCOME
  · rw [if_pos h1] at h; obtain rfl := Option.some.inj h
    rcases hE with rfl | hE
    · rw [h1]; exact az_plain 2 true sWELCOME of_ (.inl rfl) rfl
    · rw [hE] at h1; exact absurd h1 (by decide)
  rw [if_neg h1] at h
  by_cases h2 : s = sUNKNOWN
  · rw [if_pos h2] at h; obtain rfl := Option.some.inj h
    rcases hE with rfl | hE
    · rw [h2]; exact az_plain 2 false sUNKNOWN of_ (.inl rfl) rfl
    · rw [hE] at h2; exact absurd h2 (by decide)
  rw [if_neg h2] at h
  by_cases h3 : s = sTRACKED
  · rw [if_pos h3] at h; obtain rfl := Option.some.inj h
    rcases hE with rfl | hE
    · rw [h3]; exact az_plain 3 true sTRACKED of_ (.inr (.inl rfl)) rfl
    · rw [hE] at h3; exact absurd h3 (by decide)
  rw [if_neg h3] at h
  by_cases h4 : s = sUNTRACKED
  · rw [if_pos h4] at h; obtain rfl := Option.some.inj h
    rcases hE with rfl | hE
    · rw [h4]; exact az_plain 3 false sUNTRACKED of_ (.inr (.inl rfl)) rfl
    · rw [hE] at h4; exact absurd h4 (by decide)
  rw [if_neg h4] at h
  by_cases h5 : s = sPONG
  · rw [if_pos h5] at h; obtain rfl := Option.some.inj h
    rcases hE with rfl | hE
    · rw [h5]; exact az_plain 4 false sPONG of_ (.inr (.inr ⟨.inl rfl, rfl⟩)) rfl
    · rw [hE] at h5; exact absurd h5 (by decide)
  rw [if_neg h5] at h
  by_cases h6 : s = sBYE
  · rw [if_pos h6] at h; obtain rfl := Option.some.inj h
    rcases hE with rfl | hE
    · rw [h6]; exact az_plain 5 false sBYE of_ (.inr (.inr ⟨.inr (.inl rfl), rfl⟩)) rfl
    · rw [hE] at h6; exact absurd h6 (by decide)
  rw [if_neg h6] at h
  by_cases h7 : s = sERROR
  · rw [if_pos h7] at h; obtain rfl := Option.some.inj h
    rcases hE with rfl | hE
    · rw [h7]; exact az_plain 6 false sERROR of_ (.inr (.inr ⟨.inr (.inr rfl), rfl⟩)) rfl
    · rw [hE] at h7; exact absurd h7 (by decide)
  rw [if_neg h7] at h
  by_cases h8 : (bl s).take 5 = bl sPUSH ++ [32]
  · rw [if_pos h8] at h
    by_cases h9 : wordOk (mkB ((bl s).drop 5)) 32 = true
    · rw [if_pos h9] at h; obtain rfl := Option.some.inj h
      rcases hE with rfl | hE
      · exact push_told of_ h8 h9
      · rw [hE] at h8; exact absurd h8 (by decide)
    · rw [if_neg h9] at h; cases h
  rw [if_neg h8] at h
  cases hr : resOf of_ s with
  | none => rw [hr] at h; cases h
  | some q =>
    obtain ⟨rk, n⟩ := q
    rw [hr] at h
    obtain rfl := Option.some.inj h
    exact res_told hr hL hE
theorem last_told {of_ : Int} {line : List UInt8} {a : An} {L : List Im} (h : lastOf line of_ L = some a) (hL : Its L of_) : Told15 a line of_ ∧ a.items = L := by
  unfold lastOf at h
  cases ha : ansOf of_ (mkB line) with
  | none => rw [ha] at h; cases h
  | some b =>
    rw [ha] at h
    dsimp only at h
    by_cases hc : L ≠ [] ∧ mkB line ≠ sEND
    · rw [if_pos hc] at h; cases h
    · rw [if_neg hc] at h
      obtain rfl := Option.some.inj h
      have hE : L = [] ∨ mkB line = sEND := by
        by_cases h1 : L = []
        · exact .inl h1
        · by_cases h2 : mkB line = sEND
          · exact .inr h2
          · exact absurd ⟨h1, h2⟩ hc
      have := ans_told ha hL hE
      rw [bl_mkB] at this
      exact ⟨this, rfl⟩
theorem readN_told : ∀ (f : Nat) (L : List Im) (b : List UInt8) (rd : Nat) (of_ : Int) (a : An) (n : Nat), readN f L b rd of_ = (a, n, 0) → n ≠ 0 → Its L of_ → ∃ (line : List UInt8) (M : List Im) (k : Nat), Told15 a line of_ ∧ a.items = L ++ M ∧ n = rd + k ∧ k ≤ b.length ∧ b.take k = M.flatMap Im.lines ++ (joinW a.last ++ [13, 10])
  | 0, L, b, rd, of_, a, n, h, hn, _ => by
    simp only [readN, Prod.mk.injEq] at h
    exact absurd h.2.1.symm hn
  | f + 1, L, b, rd, of_, a, n, h, hn, hL => by
    unfold readN at h
    by_cases h0 : (cutL b).2.1 = 0
    · rw [if_pos h0] at h
      simp only [Prod.mk.injEq] at h
      exact absurd h.2.1.symm hn
    rw [if_neg h0] at h
    have hcut : cutL b = ((cutL b).1, (cutL b).2.1, 0) := by
      have := cutL_err h0
      rw [← this]
    obtain ⟨c1, c2, c3⟩ := cutL_some hcut h0
    by_cases hc : (L.length : Int) = mostI of_ ∨ isVal (cutL b).1 = false
    · rw [if_pos hc] at h
      cases hl : lastOf (cutL b).1 of_ L with
      | none => rw [hl] at h; simp only [Prod.mk.injEq] at h; exact absurd h.2.1.symm hn
      | some a2 =>
        rw [hl] at h
        simp only [Prod.mk.injEq] at h
        obtain ⟨rfl, rfl, -⟩ := h
        obtain ⟨ht, hi⟩ := last_told hl hL
        refine ⟨_, [], (cutL b).2.1, ht, by rw [hi, List.append_nil], rfl, c3, ?_⟩
        rw [ht.line, List.flatMap_nil, List.nil_append]
        obtain ⟨cn, hcn⟩ : ∃ cn, cn = (cutL b).2.1 := ⟨_, rfl⟩
        rw [← hcn] at c1 c2 ⊢
        have c4 : b = ((cutL b).1 ++ [13, 10]) ++ b.drop cn := by rw [List.append_assoc]; exact c1
        obtain ⟨ln, hln⟩ : ∃ ln, ln = (cutL b).1 := ⟨_, rfl⟩
        rw [← hln] at c2 c4 ⊢
        rw [c4]
        exact List.take_left' (by simp [c2])
    rw [if_neg hc] at h
    have hne : (L.length : Int) ≠ mostI of_ := fun e => hc (.inl e)
    have hv : isVal (cutL b).1 = true := by
      cases hx : isVal (cutL b).1 with
      | true => rfl
      | false => exact absurd (.inr hx) hc
    by_cases hi0 : (cutI (cutL b).1 (b.drop (cutL b).2.1)).2.1 = 0
    · rw [if_pos hi0] at h
      simp only [Prod.mk.injEq] at h
      exact absurd h.2.1.symm hn
    rw [if_neg hi0] at h
    obtain ⟨x, m, e, hq⟩ : ∃ x m e, cutI (cutL b).1 (b.drop (cutL b).2.1) = (x, m, e) := ⟨_, _, _, rfl⟩
    rw [hq] at h hi0
    dsimp only at h hi0
    have he : e = 0 := by
      unfold cutI at hq
      split at hq
      · simp only [Prod.mk.injEq] at hq; exact absurd hq.2.1.symm hi0
      · split at hq
        · simp only [Prod.mk.injEq] at hq; exact hq.2.2.symm
        · split at hq
          · simp only [Prod.mk.injEq] at hq; exact hq.2.2.symm
          · simp only [Prod.mk.injEq] at hq; exact absurd hq.2.1.symm hi0
    subst he
    obtain ⟨i1, i2, i3, i4, i5⟩ := cutI_some hv hq hi0
    rw [List.length_drop] at i4
    obtain ⟨line, M, k, t1, t2, t3, t4, t5⟩ := readN_told f (L ++ [x]) (b.drop ((cutL b).2.1 + m)) (rd + (cutL b).2.1 + m) of_ a n h hn ⟨fun y hy => by
      rcases List.mem_append.1 hy with hy | hy
      · exact hL.ok y hy
      · rw [List.mem_singleton] at hy; subst hy; exact i1, by have := hL.many; rw [List.length_append]; simp; omega⟩
    rw [List.length_drop] at t4
    refine ⟨line, x :: M, (cutL b).2.1 + m + k, t1, by rw [t2]; simp, by omega, by omega, ?_⟩
    have hx : b = x.lines ++ b.drop ((cutL b).2.1 + m) := by
      conv => lhs; rw [c1, i5]
      rw [List.drop_drop]
      unfold Im.lines
      rw [i2]
      simp
    have hxl : x.lines.length = (cutL b).2.1 + m := by
      have := congrArg List.length hx
      rw [List.length_append, List.length_drop] at this
      omega
    obtain ⟨N, hN⟩ : ∃ N, N = (cutL b).2.1 + m := ⟨_, rfl⟩
    rw [← hN] at hx hxl t5 ⊢
    have e1 : b.take (N + k) = x.lines ++ (b.drop N).take k := by
      conv => lhs; rw [hx]
      rw [List.take_append, List.take_of_length_le (by omega), hxl, show N + k - N = k by omega]
    rw [e1, t5, List.flatMap_cons, List.append_assoc]
/-- what is read may be, and is written as the bytes that it was read of -/
theorem wr_read {b : List UInt8} {of_ : Int} {a : An} {n : Nat} (h : readW b of_ = (a, n, 0)) (hn : n ≠ 0) : a.may = true ∧ a.wrE = 0 ∧ a.wr = b.take n ∧ n ≤ b.length ∧ (a.kind ≠ 1 ∨ a.of_ = of_) ∧ a.Fit := by
  have hmi : 0 ≤ mostI of_ := by unfold mostI; split <;> decide
  obtain ⟨line, M, k, t1, t2, t3, t4, t5⟩ := readN_told _ [] b 0 of_ a n h hn ⟨fun x hx => (by cases hx), hmi⟩
  have hE : a.wrE = 0 := by unfold An.wrE; rw [if_pos ⟨t1.may, t1.seen⟩]
  rw [List.nil_append] at t2
  rw [Nat.zero_add] at t3
  subst t3
  refine ⟨t1.may, hE, ?_, t4, t1.of_, t1.fit⟩
  unfold An.wr An.lines
  rw [if_pos hE, t5, t2]
end Go.Proofs.YtfmpbddhejpjaaaDoor
