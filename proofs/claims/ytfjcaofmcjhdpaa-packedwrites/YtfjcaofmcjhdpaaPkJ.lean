/-
  Packed answers as data: what is written is read back; what is read was written so.
-/
import Derived.Test.YtfjcaofmcjhdpaaPkI
namespace Go.Proofs.Ytfjcaofmcjhdpaa
open Go.Proofs.Ytfjcaofmcjhdpaa.It
open Go.RowKit
set_option linter.unusedSimpArgs false
set_option linter.unusedVariables false
set_option maxRecDepth 100000

theorem n8_nat (x : UInt8) : n8 (x.toNat : Int) = x := by
  unfold n8
  rw [Int.toNat_natCast]
  exact UInt8.ofNat_toNat
theorem pemp_eq {s : ByteArray} (h : s.toList.isEmpty = true) : s = ⟨#[]⟩ := by
  have := pemp_size h
  cases s with
  | mk d =>
    have h2 : d.size = 0 := this
    have : d = #[] := Array.eq_empty_of_size_eq_zero h2
    rw [this]
theorem pnoRes {of_ rk n : Int} {L : List Im} (h : noRes of_ rk L n = true) : of_ = 0 ∧ rk = 0 ∧ L = [] ∧ n = 0 := by
  unfold noRes at h
  simp only [Bool.and_eq_true, beq_iff_eq] at h
  exact ⟨h.1, h.2.1.1, List.eq_nil_of_length_eq_zero (by omega), h.2.2⟩
/-- an answer that may be is one of these -/
theorem may_forms {a : An} (h : a.may = true) : (∃ o r L n, a = ⟨1, o, r, L, n, false, ⟨#[]⟩⟩) ∨ (∃ y, a = ⟨2, 0, 0, [], 0, y, ⟨#[]⟩⟩) ∨ (∃ y, a = ⟨3, 0, 0, [], 0, y, ⟨#[]⟩⟩) ∨ (∃ k, a = ⟨7, 0, 0, [], 0, false, k⟩) ∨ a = ⟨4, 0, 0, [], 0, false, ⟨#[]⟩⟩ ∨ a = ⟨5, 0, 0, [], 0, false, ⟨#[]⟩⟩ ∨ a = ⟨6, 0, 0, [], 0, false, ⟨#[]⟩⟩ := by
  obtain ⟨kind, of_, rk, L, num, yes, key⟩ := a
  unfold An.may at h
  dsimp only at h
  split at h
  · rename_i k1
    simp only [Bool.and_eq_true, Bool.not_eq_true'] at h
    have h3 := pemp_eq h.2
    refine .inl ⟨of_, rk, L, num, ?_⟩
    rw [k1, h.1.2, h3]
  split at h
  · rename_i k23
    simp only [Bool.and_eq_true] at h
    have h3 := pemp_eq h.2
    obtain ⟨e1, e2, e3, e4⟩ := pnoRes h.1
    subst e1 e2 e3 e4 h3
    rcases k23 with rfl | rfl
    · exact .inr (.inl ⟨_, rfl⟩)
    · exact .inr (.inr (.inl ⟨_, rfl⟩))
  split at h
  · rename_i k7
    simp only [Bool.and_eq_true, decide_eq_true_eq, Bool.not_eq_true'] at h
    obtain ⟨e1, e2, e3, e4⟩ := pnoRes h.1.2
    have h5 := h.2
    subst e1 e2 e3 e4 h5 k7
    exact .inr (.inr (.inr (.inl ⟨_, rfl⟩)))
  split at h
  · rename_i k456
    simp only [Bool.and_eq_true, Bool.not_eq_true'] at h
    have h3 := pemp_eq h.2
    obtain ⟨e1, e2, e3, e4⟩ := pnoRes h.1.1
    have h5 := h.1.2
    subst e1 e2 e3 e4 h3 h5
    rcases k456 with rfl | rfl | rfl
    · exact .inr (.inr (.inr (.inr (.inl rfl))))
    · exact .inr (.inr (.inr (.inr (.inr (.inl rfl)))))
    · exact .inr (.inr (.inr (.inr (.inr (.inr rfl)))))
  · cases h
theorem good_fine {x : Im} (h : x.good) : x.fine := by
  refine ⟨?_, ?_, h.till, h.flags, h.uniq⟩
  · rw [bl1_len]; have := h.key; show _ < 18446744073709551616; omega
  · rw [bl1_len]; have := h.val; show _ < 18446744073709551616; omega
theorem pAns_body {a : An} (h : a.may = true) (hf : a.Pf) : pAns (n8 a.kind) a.body = (a, ⟨[], false⟩) := by
  obtain ⟨_, h8, hg, _⟩ := may_parts h hf
  rcases may_forms h with ⟨o, r, L, n, rfl⟩ | ⟨y, rfl⟩ | ⟨y, rfl⟩ | ⟨k, rfl⟩ | rfl | rfl | rfl
  · have ho := hf.o
    have hr := hf.r
    have hn := hf.n
    dsimp only at ho hr hn h8 hg
    have eb : (An.mk 1 o r L n false ⟨#[]⟩).body = n8 o :: n8 r :: (small n.toNat ++ (small L.length ++ (L.flatMap Im.pb ++ []))) := by
      unfold An.body
      rw [if_pos rfl, List.append_nil]
    have e1 : n8 (1 : Int) = 1 := rfl
    show pAns (n8 1) _ = _
    rw [eb, e1]
    unfold pAns
    rw [if_pos rfl]
    dsimp only [pSingle]
    rw [pSmall_back 18446744073709551615 n.toNat (show n.toNat < 18446744073709551616 by omega) (by omega)]
    dsimp only
    rw [pSmall_back 8 L.length (show L.length < 18446744073709551616 by omega) h8]
    dsimp only
    rw [pItems_back L [] false (fun x hx => good_fine (hg x hx))]
    dsimp only
    rw [n8_of ho.1 ho.2, n8_of hr.1 hr.2, Int.toNat_of_nonneg hn.1]
  · cases y <;> rfl
  · cases y <;> rfl
  · show pAns (n8 7) (bl1 k) = _
    have e1 : n8 (7 : Int) = 7 := rfl
    rw [e1]
    unfold pAns
    rw [if_neg (by decide), if_neg (by decide), if_pos rfl, mk1_bl]
  · rfl
  · rfl
  · rfl
theorem wpE_parts {a : An} (h : a.wpE = 0) : a.may = true ∧ a.body.length ≤ 4096 ∧ a.wp = pkt 178 (n8 a.kind) a.body := by
  have hw : a.wp = pkt 178 (n8 a.kind) a.body := by unfold An.wp; rw [if_pos h]
  unfold An.wpE at h
  split at h
  · rename_i hm
    split at h
    · cases h
    · exact ⟨hm, by omega, hw⟩
  · cases h
theorem wp_len {a : An} (h : a.wpE = 0) : a.wp.length ≤ 4102 := by
  obtain ⟨_, h1, h2⟩ := wpE_parts h
  rw [h2, pkt_len]
  omega
theorem wp_nil {a : An} (h : ¬ a.wpE = 0) : a.wp = [] := by unfold An.wp; rw [if_neg h]
/-- what is written is read back, whatever stands behind -/
theorem read_wp {a : An} (h : a.wpE = 0) (hf : a.Pf) (more : List UInt8) (hl : (a.wp ++ more).length ≤ 16384) : readQ (a.wp ++ more) = (a, a.wp.length, 0) := by
  obtain ⟨h1, h2, h3⟩ := wpE_parts h
  have hc : cutQ 178 (a.wp ++ more) = ⟨n8 a.kind, a.body, 6 + a.body.length, 0⟩ := by
    have e : cutQ 178 (a.wp ++ more) = cutP 178 (a.wp ++ more) := if_neg (by omega)
    rw [e, h3]
    exact cut_pkt 178 (n8 a.kind) a.body more h2
  have hp := pAns_body h1 hf
  have hg := readQ_go (L := a.wp ++ more) (by rw [hc]) (by rw [hc]; dsimp only; omega)
  rw [hg, hc]
  dsimp only
  rw [hp]
  dsimp only
  rw [if_pos ⟨by unfold okP; rw [hp]; rfl, h1⟩, h3, pkt_len]
/-- nothing is told where nothing is there -/
theorem readQ_none {L : List UInt8} {a : An} {n : Nat} {e : Int} (h : readQ L = (a, n, e)) : (n = 0 → a = zan) ∧ (e ≠ 0 → n = 0) := by
  by_cases h0 : (cutQ 178 L).e ≠ 0 ∨ (cutQ 178 L).n = 0
  · rw [readQ_no h0] at h
    cases h
    exact ⟨fun _ => rfl, fun _ => rfl⟩
  · have h1 : (cutQ 178 L).e = 0 := by
      by_cases h9 : (cutQ 178 L).e = 0
      · exact h9
      · exact absurd (.inl h9) h0
    have h2 : (cutQ 178 L).n ≠ 0 := fun h9 => h0 (.inr h9)
    rw [readQ_go h1 h2] at h
    split at h
    · cases h
      exact ⟨fun h9 => absurd h9 h2, fun h9 => absurd rfl h9⟩
    · cases h
      exact ⟨fun _ => rfl, fun _ => rfl⟩
theorem z255 : (0 : Int) ≤ 0 ∧ (0 : Int) ≤ 255 := ⟨by decide, by decide⟩
theorem z64 : (0 : Int) ≤ 0 ∧ (0 : Int) < 18446744073709551616 := ⟨by decide, by decide⟩
theorem one255 : (0 : Int) ≤ 1 ∧ (1 : Int) ≤ 255 := ⟨by decide, by decide⟩
theorem sev255 : (0 : Int) ≤ 7 ∧ (7 : Int) ≤ 255 := ⟨by decide, by decide⟩
theorem body_pAns {c : UInt8} {b : List UInt8} {a : An} (h : pAns c b = (a, ⟨[], false⟩)) (hm : a.may = true) : n8 a.kind = c ∧ a.body = b ∧ a.Pf := by
  unfold pAns at h
  by_cases h1 : c = 1
  · rw [if_pos h1] at h
    dsimp only at h
    obtain ⟨⟨x1, s1⟩, e1⟩ : ∃ q, q = pSingle ⟨b, false⟩ := ⟨_, rfl⟩
    rw [← e1] at h
    obtain ⟨⟨x2, s2⟩, e2⟩ : ∃ q, q = pSingle s1 := ⟨_, rfl⟩
    dsimp only at h
    rw [← e2] at h
    obtain ⟨⟨x3, s3⟩, e3⟩ : ∃ q, q = pSmall 18446744073709551615 s2 := ⟨_, rfl⟩
    dsimp only at h
    rw [← e3] at h
    obtain ⟨⟨x4, s4⟩, e4⟩ : ∃ q, q = pSmall 8 s3 := ⟨_, rfl⟩
    dsimp only at h
    rw [← e4] at h
    obtain ⟨⟨x5, s5⟩, e5⟩ : ∃ q, q = pItems x4 s4 := ⟨_, rfl⟩
    dsimp only at h
    rw [← e5] at h
    simp only [Prod.mk.injEq] at h
    obtain ⟨ha, hs⟩ := h
    have q5 := pItems_inv x4 s4 (by rw [← e5]; show s5.bad = false; rw [hs])
    rw [← e5] at q5
    obtain ⟨b5, l5, n5, f5⟩ := q5
    have q4 := pSmall_inv (most := 8) (s := s3) (by rw [← e4]; exact b5)
    rw [← e4] at q4
    obtain ⟨b4, l4, f4, _⟩ := q4
    have q3 := pSmall_inv (most := 18446744073709551615) (s := s2) (by rw [← e3]; exact b4)
    rw [← e3] at q3
    obtain ⟨b3, l3, f3, m3⟩ := q3
    have q2 := pSingle_inv (s := s1) (by rw [← e2]; exact b3)
    rw [← e2] at q2
    obtain ⟨b2, l2⟩ := q2
    have q1 := pSingle_inv (s := ⟨b, false⟩) (by rw [← e1]; exact b2)
    rw [← e1] at q1
    obtain ⟨_, l1⟩ := q1
    dsimp only at l1 l2 l3 l4 l5 n5 f5 f3 m3
    have hx3 : x3 < 18446744073709551616 := f3
    subst ha
    refine ⟨by rw [h1]; rfl, ?_, ⟨one255, ?_, ?_, ?_, f5⟩⟩
    · unfold An.body
      rw [if_pos rfl]
      dsimp only
      rw [n8_nat, n8_nat, Int.toNat_natCast, n5]
      have l6 : s5.l = [] := by rw [hs]
      rw [l6, List.append_nil] at l5
      rw [l1, l2, l3, l4, l5]
    · have := x1.toNat_lt; exact ⟨by dsimp only; omega, by dsimp only; omega⟩
    · have := x2.toNat_lt; exact ⟨by dsimp only; omega, by dsimp only; omega⟩
    · exact ⟨by dsimp only; omega, by dsimp only; omega⟩
  rw [if_neg h1] at h
  have hk : (0 : Int) ≤ (c.toNat : Int) ∧ (c.toNat : Int) ≤ 255 := by have := c.toNat_lt; omega
  by_cases h23 : c = 2 ∨ c = 3
  · rw [if_pos h23] at h
    simp only [Prod.mk.injEq] at h
    obtain ⟨ha, hs⟩ := h
    have q1 := pTruth_inv (s := ⟨b, false⟩) (by rw [hs])
    rw [hs] at q1
    obtain ⟨_, l1⟩ := q1
    dsimp only at l1
    subst ha
    refine ⟨n8_nat c, ?_, ⟨hk, z255, z255, z64, fun x hx => by cases hx⟩⟩
    unfold An.body
    dsimp only
    rw [if_neg (by rcases h23 with rfl | rfl <;> decide), if_pos (by rcases h23 with rfl | rfl <;> decide)]
    exact l1.symm
  rw [if_neg h23] at h
  by_cases h7 : c = 7
  · rw [if_pos h7] at h
    simp only [Prod.mk.injEq, and_true] at h
    subst h h7
    refine ⟨rfl, ?_, ⟨sev255, z255, z255, z64, fun x hx => by cases hx⟩⟩
    show bl1 (mk1 b) = b
    exact bl1_mk b
  · rw [if_neg h7] at h
    simp only [Prod.mk.injEq, Ps.mk.injEq, and_true] at h
    obtain ⟨ha, hb⟩ := h
    subst ha hb
    refine ⟨n8_nat c, ?_, ⟨hk, z255, z255, z64, fun x hx => by cases hx⟩⟩
    have n1 : ¬ ((c.toNat : Int) = 1) := fun e => h1 (UInt8.toNat_inj.1 (by show c.toNat = 1; omega))
    have n2 : ¬ ((c.toNat : Int) = 2 ∨ (c.toNat : Int) = 3) := by
      rintro (e | e)
      · exact h23 (.inl (UInt8.toNat_inj.1 (by show c.toNat = 2; omega)))
      · exact h23 (.inr (UInt8.toNat_inj.1 (by show c.toNat = 3; omega)))
    have n7 : ¬ ((c.toNat : Int) = 7) := fun e => h7 (UInt8.toNat_inj.1 (by show c.toNat = 7; omega))
    unfold An.body
    dsimp only
    rw [if_neg n1, if_neg n2, if_neg n7]
/-- what is read may be, and is written as the bytes that it was read of -/
theorem wp_read {L : List UInt8} {a : An} {n : Nat} (h : readQ L = (a, n, 0)) (hn : n ≠ 0) : a.may = true ∧ a.wpE = 0 ∧ a.wp = L.take n ∧ n ≤ L.length ∧ a.Pf := by
  by_cases h0 : (cutQ 178 L).e ≠ 0 ∨ (cutQ 178 L).n = 0
  · rw [readQ_no h0] at h
    simp only [Prod.mk.injEq] at h
    exact absurd h.2.1.symm hn
  · have h1 : (cutQ 178 L).e = 0 := by
      by_cases h9 : (cutQ 178 L).e = 0
      · exact h9
      · exact absurd (.inl h9) h0
    have h2 : (cutQ 178 L).n ≠ 0 := fun h9 => h0 (.inr h9)
    rw [readQ_go h1 h2] at h
    have hle : ¬ 16384 < L.length := by
      intro h9
      have e : cutQ 178 L = ⟨0, [], 0, 3⟩ := if_pos h9
      rw [e] at h2
      exact h2 rfl
    have e : cutQ 178 L = cutP 178 L := if_neg hle
    rw [e] at h h1 h2
    obtain ⟨c, hc⟩ : ∃ c, c = cutP 178 L := ⟨_, rfl⟩
    obtain ⟨c1, _, c3, c4, c5, _⟩ := cut_only (f := 178) (L := L) (c := c) hc.symm (by rw [hc]; exact h2)
    rw [← hc] at h
    split at h
    · rename_i hq
      simp only [Prod.mk.injEq] at h
      obtain ⟨ha, hnn, _⟩ := h
      have hok := hq.1
      unfold okP at hok
      simp only [Bool.and_eq_true, Bool.not_eq_true', decide_eq_true_eq] at hok
      obtain ⟨⟨a2, l2, b2⟩, hp⟩ : ∃ q, q = pAns c.k c.b := ⟨_, rfl⟩
      rw [← hp] at hok ha hq
      dsimp only at hok ha hq
      have hl : l2 = [] := List.eq_nil_of_length_eq_zero hok.2
      have hb : b2 = false := hok.1
      subst ha hl hb
      obtain ⟨k1, k2, k3⟩ := body_pAns hp.symm hq.2
      have hwe : a2.wpE = 0 := by
        unfold An.wpE
        rw [if_pos hq.2, if_neg (by rw [k2]; omega)]
      refine ⟨hq.2, hwe, ?_, by omega, k3⟩
      rw [(wpE_parts hwe).2.2, k1, k2, ← hnn]
      exact c5.symm
    · simp only [Prod.mk.injEq] at h
      exact absurd h.2.1.symm hn
end Go.Proofs.Ytfjcaofmcjhdpaa
