/-
  What is written is read back, by its own command, whatever comes behind (data): P15.4.
-/
import Derived.Test.YtihcnjbnlcgcoaaDoorWoE
namespace Go.Proofs.YtihcnjbnlcgcoaaDoor
open Go.Proofs.YtihcnjbnlcgcoaaDoor.It
open Go.RowKit
set_option linter.unusedSimpArgs false
set_option linter.unusedVariables false
set_option maxRecDepth 100000

theorem isEmpty_eq {s : ByteArray} (h : s.toList.isEmpty = true) : s = ⟨#[]⟩ := by
  rw [ByteArray.toList_eq] at h
  apply bl_inj
  have h2 : (bl s).isEmpty = true := h
  cases e : bl s with
  | nil => rfl
  | cons a l => rw [e] at h2; simp at h2

theorem isVal_head {l : List UInt8} (h : l.head? ≠ some 86) : isVal l = false := by
  unfold isVal
  apply decide_eq_false
  intro e
  apply h
  cases l with
  | nil => simp [sVALUE, bl] at e
  | cons a t =>
    have h2 := congrArg List.head? e
    simpa [sVALUE, bl] using h2
theorem joinW_one (s : ByteArray) : joinW [s] = bl s := by rw [joinW_cons]; simp
theorem joinW_two (s t : ByteArray) : joinW [s, t] = bl s ++ 32 :: bl t := by rw [joinW_cons]; simp
/-- what an answer's last line tells -/
structure LastOk (a : An) : Prop where
  wl : Wl a.last
  val : isVal (joinW a.last) = false
  tell : lastOf (joinW a.last) a.of_ a.items = some a
theorem word_wl {s : ByteArray} (h : s.size ≤ 32 ∧ ∀ c ∈ bl s, c ≠ 32 ∧ c ≠ 13) : Wl [s] := ⟨by simp, by simp, fun x hx => by simp at hx; subst hx; exact h⟩
theorem two_wl {s t : ByteArray} (h : s.size ≤ 32 ∧ ∀ c ∈ bl s, c ≠ 32 ∧ c ≠ 13) (h2 : t.size ≤ 32 ∧ ∀ c ∈ bl t, c ≠ 32 ∧ c ≠ 13) : Wl [s, t] := ⟨by simp, by simp, fun x hx => by simp at hx; rcases hx with rfl | rfl <;> assumption⟩
theorem an_eq {a b : An} (h1 : a.kind = b.kind) (h2 : a.of_ = b.of_) (h3 : a.rk = b.rk) (h4 : a.items = b.items) (h5 : a.num = b.num) (h6 : a.yes = b.yes) (h7 : a.key = b.key) : a = b := by
  cases a; cases b; simp_all
theorem noRes_parts {of_ rk n : Int} {L : List Im} (h : noRes of_ rk L n = true) : of_ = 0 ∧ rk = 0 ∧ L = [] ∧ n = 0 := by
  unfold noRes at h
  simp only [Bool.and_eq_true, beq_iff_eq] at h
  exact ⟨h.1, h.2.1.1, List.eq_nil_of_length_eq_zero (by omega), h.2.2⟩
/-- a plain line of one word -/
theorem last_plain {a : An} {s : ByteArray} (hl : a.last = [s]) (hw : s.size ≤ 32 ∧ ∀ c ∈ bl s, c ≠ 32 ∧ c ≠ 13) (hv : (bl s).head? ≠ some 86) {b : An} (ha : ansOf a.of_ s = some b) (hi : a.items = [] ∨ s = sEND) (he : { b with items := a.items } = a) : LastOk a := by
  refine ⟨by rw [hl]; exact word_wl hw, by rw [hl, joinW_one]; exact isVal_head hv, ?_⟩
  unfold lastOf
  rw [hl, joinW_one, mkB_bl, ha]
  dsimp only
  rw [if_neg (by rintro ⟨h1, h2⟩; rcases hi with h | h; exact h1 h; exact h2 h), he]
theorem last_ok {a : An} (hE : a.wrE = 0) (hf : a.Fit) : LastOk a := by
  have hE2 : a.may = true ∧ a.hasL = true := by
    unfold An.wrE at hE
    by_cases h : a.may = true ∧ a.hasL = true
    · exact h
    · rw [if_neg h] at hE; cases hE
  obtain ⟨hm, hl⟩ := hE2
  have hkey : seen a.key = true := by unfold An.hasL at hl; simp only [Bool.and_eq_true] at hl; exact hl.1
  have hn0 := hf.n0
  have hn1 := hf.n1
  clear hE hf
  unfold An.may at hm
  by_cases k1 : a.kind = 1
  · rw [if_pos k1] at hm
    simp only [Bool.and_eq_true, Bool.not_eq_true'] at hm
    obtain ⟨⟨hr, hy⟩, hk⟩ := hm
    have hk2 := isEmpty_eq hk
    unfold resOk isCmd at hr
    simp only [Bool.and_eq_true, decide_eq_true_eq] at hr
    obtain ⟨⟨⟨⟨⟨⟨o1, o2⟩, r1⟩, r2⟩, hlen⟩, hnum⟩, -⟩ := hr
    have hlast : a.last = if a.rk = 1 then (if 0 < mostN a.of_ then [doneW a.of_, dec a.num] else [doneW a.of_]) else [resW a.rk] := by
      unfold An.last
      rw [if_neg (by omega), if_neg (by omega), if_neg (by omega), if_neg (by omega), if_neg (by omega), if_neg (by omega)]
    have hcmd : isCmd a.of_ = true := by unfold isCmd; simp [o1, o2]
    by_cases hrk : a.rk = 1
    · rw [if_pos hrk] at hlast hlen hnum
      by_cases hN : 0 < mostN a.of_
      · rw [if_pos hN] at hlast
        have hi : a.items = [] := by
          have h0 : mostI a.of_ = 0 := by
            unfold mostI
            rw [if_neg]
            intro e
            rw [e] at hN
            simp [mostN] at hN
          exact List.eq_nil_of_length_eq_zero (by omega)
        have hM : mostN a.of_ ≤ 18446744073709551615 := by unfold mostN; repeat' split
                                                           all_goals omega
        obtain ⟨u1, u2⟩ := numU_decI (m := (mostN a.of_).toNat) hn0 (by omega) (by omega)
        have hW : doneW a.of_ = sNUMBER ∨ doneW a.of_ = sDELETED := by
          unfold mostN at hN
          unfold doneW
          by_cases h6 : a.of_ = 6 ∨ a.of_ = 7
          · rw [if_neg (by omega), if_pos h6]; exact .inl rfl
          · rw [if_neg h6] at hN
            by_cases h10 : a.of_ = 10
            · rw [if_neg (by omega), if_neg h6, if_neg (by omega), if_neg (by omega), if_pos h10]; exact .inr rfl
            · rw [if_neg h10] at hN; omega
        obtain ⟨D, hD⟩ : ∃ D, D = doneW a.of_ := ⟨_, rfl⟩
        rw [← hD] at hlast hW
        have hfin : (D.size ≤ 32 ∧ ∀ c ∈ bl D, c ≠ 32 ∧ c ≠ 13) ∧ (bl D).head? ≠ some 86 ∧ (bl D).head? ≠ none ∧ (∀ c ∈ [sWELCOME, sUNKNOWN, sTRACKED, sUNTRACKED, sPONG, sBYE, sERROR, sNOTFOUND, sEXISTS, sTOOLARGE, sNOMEMORY, sNOTNUMBER, sDENIED], ∀ t, bl D ++ 32 :: t ≠ bl c) ∧ (∀ t, (bl D ++ 32 :: t).take 5 ≠ bl sPUSH ++ [32]) := by
          rcases hW with rfl | rfl
          · refine ⟨by decide, by decide, by decide, ?_, ?_⟩
            · intro c hc t
              simp only [List.mem_cons, List.not_mem_nil, or_false] at hc
              rcases hc with rfl | rfl | rfl | rfl | rfl | rfl | rfl | rfl | rfl | rfl | rfl | rfl | rfl <;> simp [bl, sNUMBER, sWELCOME, sUNKNOWN, sTRACKED, sUNTRACKED, sPONG, sBYE, sERROR, sNOTFOUND, sEXISTS, sTOOLARGE, sNOMEMORY, sNOTNUMBER, sDENIED]
            · intro t; simp [bl, sNUMBER, sPUSH]
          · refine ⟨by decide, by decide, by decide, ?_, ?_⟩
            · intro c hc t
              simp only [List.mem_cons, List.not_mem_nil, or_false] at hc
              rcases hc with rfl | rfl | rfl | rfl | rfl | rfl | rfl | rfl | rfl | rfl | rfl | rfl | rfl <;> simp [bl, sDELETED, sWELCOME, sUNKNOWN, sTRACKED, sUNTRACKED, sPONG, sBYE, sERROR, sNOTFOUND, sEXISTS, sTOOLARGE, sNOMEMORY, sNOTNUMBER, sDENIED]
            · intro t; simp [bl, sDELETED, sPUSH]
        obtain ⟨w1, w2, w3, w4, w5⟩ := hfin
        have hS : bl (mkB (bl D ++ 32 :: bl (dec a.num))) = bl D ++ 32 :: bl (dec a.num) := bl_mkB _
        have hne : ∀ c ∈ [sWELCOME, sUNKNOWN, sTRACKED, sUNTRACKED, sPONG, sBYE, sERROR, sNOTFOUND, sEXISTS, sTOOLARGE, sNOMEMORY, sNOTNUMBER, sDENIED], mkB (bl D ++ 32 :: bl (dec a.num)) ≠ c := by
          intro c hc e
          have := congrArg bl e
          rw [hS] at this
          exact w4 c hc _ this
        have hdone : doneOf a.of_ (mkB (bl D ++ 32 :: bl (dec a.num))) = some (1, a.num) := by
          unfold doneOf
          rw [if_neg (by omega), ← hD, hS]
          have e1 : (bl D ++ 32 :: bl (dec a.num)).take ((bl D).length + 1) = bl D ++ [32] := by
            rw [List.take_append, List.take_of_length_le (by omega), Nat.add_sub_cancel_left]
            rfl
          have e2 : (bl D ++ 32 :: bl (dec a.num)).drop ((bl D).length + 1) = bl (dec a.num) := by
            rw [List.drop_append, List.drop_of_length_le (by omega), Nat.add_sub_cancel_left]
            rfl
          rw [e1, e2, mkB_bl, if_pos ⟨rfl, u1⟩, u2]
        have hans : ansOf a.of_ (mkB (bl D ++ 32 :: bl (dec a.num))) = some ⟨1, a.of_, 1, [], a.num, false, ⟨#[]⟩⟩ := by
          unfold ansOf
          rw [if_neg (hne _ (by simp)), if_neg (hne _ (by simp)), if_neg (hne _ (by simp)), if_neg (hne _ (by simp)), if_neg (hne _ (by simp)), if_neg (hne _ (by simp)), if_neg (hne _ (by simp)), hS, if_neg (w5 _)]
          unfold resOf
          rw [if_neg (by rw [hcmd]; decide), if_neg (hne _ (by simp)), if_neg (hne _ (by simp)), if_neg (hne _ (by simp)), if_neg (hne _ (by simp)), if_neg (hne _ (by simp)), if_neg (hne _ (by simp)), hdone]
        refine ⟨?_, ?_, ?_⟩
        · rw [hlast]
          exact two_wl w1 ⟨Nat.le_trans (dec_size' hn0 hn1) (by decide), dec_bytes⟩
        · rw [hlast, joinW_two]
          apply isVal_head
          cases hb : bl D with
          | nil => rw [hb] at w3; exact absurd rfl w3
          | cons c t => rw [hb] at w2; simpa using w2
        · unfold lastOf
          rw [hlast, joinW_two, hans, hi]
          dsimp only
          rw [if_neg (by rintro ⟨h, _⟩; exact h rfl)]
          congr 1
          exact an_eq k1.symm rfl hrk.symm hi.symm rfl hy.symm hk2.symm
      · rw [if_neg hN] at hlast
        have hN0 : mostN a.of_ = 0 := by
          unfold mostN at hN ⊢
          repeat' split at hN
          all_goals first | omega | (split <;> omega) | skip
        have hnum0 : a.num = 0 := by omega
        have hdone : doneOf a.of_ (doneW a.of_) = some (1, 0) := by unfold doneOf; rw [if_pos hN0, if_pos rfl]
        have hc : doneW a.of_ = sSTORED ∨ doneW a.of_ = sTOUCHED ∨ doneW a.of_ = sFLUSHED ∨ doneW a.of_ = sEND := by
          unfold mostN at hN0
          unfold doneW
          by_cases c1 : a.of_ = 2 ∨ a.of_ = 3 ∨ a.of_ = 4 ∨ a.of_ = 5 ∨ a.of_ = 8
          · rw [if_pos c1]; exact .inl rfl
          · rw [if_neg c1]
            by_cases c2 : a.of_ = 6 ∨ a.of_ = 7
            · rw [if_pos c2] at hN0; cases hN0
            · rw [if_neg c2] at hN0 ⊢
              by_cases c3 : a.of_ = 9
              · rw [if_pos c3]; exact .inr (.inl rfl)
              · rw [if_neg c3]
                by_cases c4 : a.of_ = 11
                · rw [if_pos c4]; exact .inr (.inr (.inl rfl))
                · rw [if_neg c4]
                  by_cases c5 : a.of_ = 10
                  · rw [if_pos c5] at hN0; cases hN0
                  · rw [if_neg c5]; exact .inr (.inr (.inr rfl))
        have hi : a.items = [] ∨ doneW a.of_ = sEND := by
          by_cases c1 : a.of_ = 1
          · right
            unfold doneW
            rw [if_neg (by omega), if_neg (by omega), if_neg (by omega), if_neg (by omega), if_neg (by omega)]
          · left
            have h0 : mostI a.of_ = 0 := by unfold mostI; rw [if_neg c1]
            exact List.eq_nil_of_length_eq_zero (by omega)
        obtain ⟨D, hD⟩ : ∃ D, D = doneW a.of_ := ⟨_, rfl⟩
        rw [← hD] at hlast hdone hc hi
        have hans : ansOf a.of_ D = some ⟨1, a.of_, 1, [], 0, false, ⟨#[]⟩⟩ := by
          have e2 : resOf a.of_ D = some (1, 0) := by
            unfold resOf
            rw [if_neg (by rw [hcmd]; decide)]
            rcases hc with rfl | rfl | rfl | rfl <;> (rw [if_neg (by decide), if_neg (by decide), if_neg (by decide), if_neg (by decide), if_neg (by decide), if_neg (by decide)]; exact hdone)
          unfold ansOf
          rcases hc with rfl | rfl | rfl | rfl <;> (rw [if_neg (by decide), if_neg (by decide), if_neg (by decide), if_neg (by decide), if_neg (by decide), if_neg (by decide), if_neg (by decide), if_neg (by decide), e2])
        refine last_plain hlast ?_ ?_ hans hi (an_eq k1.symm rfl hrk.symm rfl hnum0.symm hy.symm hk2.symm)
        · rcases hc with rfl | rfl | rfl | rfl <;> decide
        · rcases hc with rfl | rfl | rfl | rfl <;> decide
    · rw [if_neg hrk] at hlast hlen hnum
      have hi : a.items = [] := List.eq_nil_of_length_eq_zero (by omega)
      have hnum0 : a.num = 0 := by omega
      have hans : ansOf a.of_ (resW a.rk) = some ⟨1, a.of_, a.rk, [], 0, false, ⟨#[]⟩⟩ := by
        rcases (by omega : a.rk = 2 ∨ a.rk = 3 ∨ a.rk = 4 ∨ a.rk = 5 ∨ a.rk = 6 ∨ a.rk = 7) with e | e | e | e | e | e <;>
        · rw [e]
          unfold ansOf resOf
          rw [hcmd]
          rfl
      have hww : ((resW a.rk).size ≤ 32 ∧ ∀ c ∈ bl (resW a.rk), c ≠ 32 ∧ c ≠ 13) ∧ (bl (resW a.rk)).head? ≠ some 86 := by
        rcases (by omega : a.rk = 2 ∨ a.rk = 3 ∨ a.rk = 4 ∨ a.rk = 5 ∨ a.rk = 6 ∨ a.rk = 7) with e | e | e | e | e | e <;> (rw [e]; decide)
      exact last_plain hlast hww.1 hww.2 hans (.inl hi) (an_eq k1.symm rfl rfl rfl hnum0.symm hy.symm hk2.symm)
  rw [if_neg k1] at hm
  by_cases k23 : a.kind = 2 ∨ a.kind = 3
  · rw [if_pos k23] at hm
    simp only [Bool.and_eq_true] at hm
    obtain ⟨p1, p2, p3, p4⟩ := noRes_parts hm.1
    have hk2 := isEmpty_eq hm.2
    rcases k23 with k | k
    · cases hy : a.yes with
      | true => exact last_plain (s := sWELCOME) (by unfold An.last; rw [if_pos k, hy]; rfl) (by decide) (by decide) (b := { az with kind := 2, yes := true }) rfl (.inl p3) (an_eq k.symm p1.symm p2.symm rfl p4.symm hy.symm hk2.symm)
      | false => exact last_plain (s := sUNKNOWN) (by unfold An.last; rw [if_pos k, hy]; rfl) (by decide) (by decide) (b := { az with kind := 2 }) rfl (.inl p3) (an_eq k.symm p1.symm p2.symm rfl p4.symm hy.symm hk2.symm)
    · cases hy : a.yes with
      | true => exact last_plain (s := sTRACKED) (by unfold An.last; rw [if_neg (by omega), if_pos k, hy]; rfl) (by decide) (by decide) (b := { az with kind := 3, yes := true }) rfl (.inl p3) (an_eq k.symm p1.symm p2.symm rfl p4.symm hy.symm hk2.symm)
      | false => exact last_plain (s := sUNTRACKED) (by unfold An.last; rw [if_neg (by omega), if_pos k, hy]; rfl) (by decide) (by decide) (b := { az with kind := 3 }) rfl (.inl p3) (an_eq k.symm p1.symm p2.symm rfl p4.symm hy.symm hk2.symm)
  rw [if_neg k23] at hm
  by_cases k7 : a.kind = 7
  · rw [if_pos k7] at hm
    simp only [Bool.and_eq_true, Bool.not_eq_true', decide_eq_true_eq] at hm
    obtain ⟨⟨⟨z1, z2⟩, hr⟩, hy⟩ := hm
    obtain ⟨p1, p2, p3, p4⟩ := noRes_parts hr
    have hlast : a.last = [sPUSH, a.key] := by
      unfold An.last
      rw [if_neg (by omega), if_neg (by omega), if_neg (by omega), if_neg (by omega), if_neg (by omega), if_pos k7]
    have hS : bl (mkB (bl sPUSH ++ 32 :: bl a.key)) = bl sPUSH ++ 32 :: bl a.key := bl_mkB _
    have hne : ∀ c ∈ [sWELCOME, sUNKNOWN, sTRACKED, sUNTRACKED, sPONG, sBYE, sERROR], mkB (bl sPUSH ++ 32 :: bl a.key) ≠ c := by
      intro c hc e
      have h := congrArg bl e
      rw [hS] at h
      simp only [List.mem_cons, List.not_mem_nil, or_false] at hc
      rcases hc with rfl | rfl | rfl | rfl | rfl | rfl | rfl <;> simp [bl, sPUSH, sWELCOME, sUNKNOWN, sTRACKED, sUNTRACKED, sPONG, sBYE, sERROR] at h
    have hwo : wordOk a.key 32 = true := by unfold wordOk; rw [hkey]; simp [z1, z2]
    have hans : ansOf a.of_ (mkB (bl sPUSH ++ 32 :: bl a.key)) = some { az with kind := 7, key := a.key } := by
      unfold ansOf
      have e1 : (bl sPUSH ++ 32 :: bl a.key).take 5 = bl sPUSH ++ [32] := rfl
      have e2 : (bl sPUSH ++ 32 :: bl a.key).drop 5 = bl a.key := rfl
      rw [if_neg (hne _ (by simp)), if_neg (hne _ (by simp)), if_neg (hne _ (by simp)), if_neg (hne _ (by simp)), if_neg (hne _ (by simp)), if_neg (hne _ (by simp)), if_neg (hne _ (by simp)), hS, if_pos e1, e2, mkB_bl, if_pos hwo]
    refine ⟨?_, ?_, ?_⟩
    · rw [hlast]
      exact two_wl (by decide) ⟨z2, word_bytes hkey⟩
    · rw [hlast, joinW_two]
      exact isVal_head (by simp [bl, sPUSH])
    · unfold lastOf
      rw [hlast, joinW_two, hans]
      dsimp only
      rw [if_neg (by rintro ⟨h, _⟩; exact h p3)]
      congr 1
      exact an_eq k7.symm p1.symm p2.symm rfl p4.symm hy.symm rfl
  rw [if_neg k7] at hm
  by_cases k456 : a.kind = 4 ∨ a.kind = 5 ∨ a.kind = 6
  · rw [if_pos k456] at hm
    simp only [Bool.and_eq_true, Bool.not_eq_true'] at hm
    obtain ⟨⟨hr, hy⟩, hk⟩ := hm
    obtain ⟨p1, p2, p3, p4⟩ := noRes_parts hr
    have hk2 := isEmpty_eq hk
    rcases k456 with k | k | k
    · exact last_plain (s := sPONG) (by unfold An.last; rw [if_neg (by omega), if_neg (by omega), if_pos k]) (by decide) (by decide) (b := { az with kind := 4 }) rfl (.inl p3) (an_eq k.symm p1.symm p2.symm rfl p4.symm hy.symm hk2.symm)
    · exact last_plain (s := sBYE) (by unfold An.last; rw [if_neg (by omega), if_neg (by omega), if_neg (by omega), if_pos k]) (by decide) (by decide) (b := { az with kind := 5 }) rfl (.inl p3) (an_eq k.symm p1.symm p2.symm rfl p4.symm hy.symm hk2.symm)
    · exact last_plain (s := sERROR) (by unfold An.last; rw [if_neg (by omega), if_neg (by omega), if_neg (by omega), if_neg (by omega), if_pos k]) (by decide) (by decide) (b := { az with kind := 6 }) rfl (.inl p3) (an_eq k.symm p1.symm p2.symm rfl p4.symm hy.symm hk2.symm)
  · rw [if_neg k456] at hm
    cases hm
/-- items that were written are read, one by one, then what ends the answer -/
theorem readN_back {a : An} (hl : LastOk a) (more : List UInt8) : ∀ (L done : List Im) (f rd : Nat), (∀ x ∈ L, x.ok) → a.items = done ++ L → (L ≠ [] → mostI a.of_ = 8 ∧ a.items.length ≤ 8) → L.length < f →
    readN f done (L.flatMap Im.lines ++ (joinW a.last ++ 13 :: 10 :: more)) rd a.of_ = (a, rd + (L.flatMap Im.lines ++ (joinW a.last ++ [13, 10])).length, 0)
  | [], done, 0, _, _, _, _, h => by simp at h
  | [], done, f + 1, rd, _, hi, _, _ => by
    have hc := cutL_app hl.wl more
    have hd : a.items = done := by simpa using hi
    rw [List.flatMap_nil, List.nil_append, List.nil_append]
    unfold readN
    rw [hc]
    dsimp only
    rw [if_neg (by omega), if_pos (.inr hl.val), ← hd, hl.tell]
    dsimp only
    rw [List.length_append]
    rfl
  | x :: L, done, 0, _, _, _, _, h => by simp at h
  | x :: L, done, f + 1, rd, hok, hi, h8, hf => by
    have hx := hok x (by simp)
    obtain ⟨m1, m2⟩ := h8 (by simp)
    have hlen : done.length < 8 := by rw [hi, List.length_append, List.length_cons] at m2; omega
    obtain ⟨R, hR⟩ : ∃ R, R = L.flatMap Im.lines ++ (joinW a.last ++ 13 :: 10 :: more) := ⟨_, rfl⟩
    have hb : (x :: L).flatMap Im.lines ++ (joinW a.last ++ 13 :: 10 :: more) = joinW x.words ++ 13 :: 10 :: (bl x.value ++ 13 :: 10 :: R) := by
      rw [List.flatMap_cons, hR]
      unfold Im.lines
      simp
    have hc := cutL_app hx.wl (bl x.value ++ 13 :: 10 :: R)
    have hd1 := drop_line (joinW x.words) (bl x.value ++ 13 :: 10 :: R)
    have hi2 := cutI_app hx R
    have hd2 : (joinW x.words ++ 13 :: 10 :: (bl x.value ++ 13 :: 10 :: R)).drop ((joinW x.words).length + 2 + (x.value.size + 2)) = R := by
      rw [← List.drop_drop, hd1, ← bl_len x.value, drop_line]
    have ih := readN_back hl more L (done ++ [x]) f (rd + ((joinW x.words).length + 2) + (x.value.size + 2)) (fun y hy => hok y (by simp [hy])) (by rw [hi]; simp) (fun _ => ⟨m1, m2⟩) (by simp at hf; omega)
    rw [hb]
    unfold readN
    rw [hc]
    dsimp only
    rw [if_neg (by omega), if_neg (by rw [isVal_item]; intro h; rcases h with h | h; omega; cases h), hd1, hi2]
    dsimp only
    rw [if_neg (by omega), hd2, hR, ih]
    have e : ((x :: L).flatMap Im.lines ++ (joinW a.last ++ [13, 10])).length = (joinW x.words).length + 2 + (x.value.size + 2) + (L.flatMap Im.lines ++ (joinW a.last ++ [13, 10])).length := by
      rw [List.flatMap_cons]
      simp [Im.lines, bl_len]
      omega
    rw [e]
    congr 2
    omega
/-- P15.4: what is written is read back, by its own command, whatever comes behind -/
theorem read_wr {a : An} (hE : a.wrE = 0) (hf : a.Fit) (more : List UInt8) : readW (a.wr ++ more) a.of_ = (a, a.wr.length, 0) := by
  have hl := last_ok hE hf
  have hE2 : a.may = true ∧ a.hasL = true := by
    unfold An.wrE at hE
    by_cases h : a.may = true ∧ a.hasL = true
    · exact h
    · rw [if_neg h] at hE; cases hE
  have hw : a.wr = a.items.flatMap Im.lines ++ (joinW a.last ++ [13, 10]) := by unfold An.wr An.lines; rw [if_pos hE]
  have hseen : ∀ x ∈ a.items, seen x.key = true := by
    have h := hE2.2
    unfold An.hasL at h
    simp only [Bool.and_eq_true, List.all_eq_true] at h
    exact h.2
  have hres : a.items ≠ [] → (∀ x ∈ a.items, badI x = false) ∧ mostI a.of_ = 8 ∧ a.items.length ≤ 8 := by
    intro hne
    have hm := hE2.1
    unfold An.may at hm
    by_cases k1 : a.kind = 1
    · rw [if_pos k1] at hm
      simp only [Bool.and_eq_true, Bool.not_eq_true'] at hm
      have hr := hm.1.1
      unfold resOk at hr
      simp only [Bool.and_eq_true, decide_eq_true_eq, Bool.not_eq_true'] at hr
      have h1 := hr.1.1.2
      have hpos : 0 < a.items.length := by
        cases h : a.items with
        | nil => exact absurd h hne
        | cons x t => simp
      by_cases hrk : a.rk = 1
      · rw [if_pos hrk] at h1
        by_cases ho : a.of_ = 1
        · have h8 : mostI a.of_ = 8 := by unfold mostI; rw [if_pos ho]
          refine ⟨?_, h8, by omega⟩
          have h2 := hr.2
          rw [List.any_eq_false] at h2
          intro x hx
          have := h2 x hx
          simpa using this
        · have h0 : mostI a.of_ = 0 := by unfold mostI; rw [if_neg ho]
          omega
      · rw [if_neg hrk] at h1
        omega
    · rw [if_neg k1] at hm
      exfalso
      by_cases k23 : a.kind = 2 ∨ a.kind = 3
      · rw [if_pos k23] at hm
        simp only [Bool.and_eq_true] at hm
        exact hne (noRes_parts hm.1).2.2.1
      rw [if_neg k23] at hm
      by_cases k7 : a.kind = 7
      · rw [if_pos k7] at hm
        simp only [Bool.and_eq_true] at hm
        exact hne (noRes_parts hm.1.2).2.2.1
      rw [if_neg k7] at hm
      by_cases k456 : a.kind = 4 ∨ a.kind = 5 ∨ a.kind = 6
      · rw [if_pos k456] at hm
        simp only [Bool.and_eq_true] at hm
        exact hne (noRes_parts hm.1.1).2.2.1
      rw [if_neg k456] at hm
      cases hm
  have hok : ∀ x ∈ a.items, x.ok := by
    intro x hx
    have hne : a.items ≠ [] := by intro e; rw [e] at hx; cases hx
    exact Im.ok_of ((hres hne).1 x hx) (hseen x hx) (hf.it x hx)
  have hb : a.wr ++ more = a.items.flatMap Im.lines ++ (joinW a.last ++ 13 :: 10 :: more) := by rw [hw]; simp
  have hlen : a.items.length < (a.wr ++ more).length + 1 := by
    have h : ∀ L : List Im, L.length ≤ (L.flatMap Im.lines).length := by
      intro L
      induction L with
      | nil => simp
      | cons x t ih => rw [List.flatMap_cons, List.length_append, List.length_cons]; simp only [Im.lines, List.length_append, List.length_cons]; omega
    have h2 := h a.items
    rw [hw]
    simp only [List.length_append]
    omega
  unfold readW
  rw [hb] at hlen ⊢
  rw [readN_back hl more a.items [] _ 0 hok rfl (fun h => ⟨(hres h).2.1, (hres h).2.2⟩) hlen, Nat.zero_add, ← hw]
end Go.Proofs.YtihcnjbnlcgcoaaDoor
