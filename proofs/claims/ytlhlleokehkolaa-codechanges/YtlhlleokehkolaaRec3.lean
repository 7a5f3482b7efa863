/-
  Changes are read again as they were written: plain lists.
-/
import Derived.Test.YtlhlleokehkolaaRec2
namespace Go.Proofs.Ytlhlleokehkolaa
open Go.RowKit
set_option linter.unusedSimpArgs false
set_option linter.unusedVariables false

theorem empty_of {s : ByteArray} (h : s.toList = []) : s = ⟨#[]⟩ := by
  rw [ByteArray.toList_eq] at h
  obtain ⟨a⟩ := s
  have : a = #[] := by simpa using h
  rw [this]
theorem back_text (s : ByteArray) (r : List UInt8) (b : Bool) (h : s.size ≤ 100000) : sText ⟨text s.data.toList ++ r, b⟩ = (s.data.toList, ⟨r, b⟩) :=
  sText_back _ _ _ (by unfold Fits; simp; omega)
theorem sItem_back (x : Itm) (r : List UInt8) (b : Bool) (hok : itmOk x = true) (hf : x.flags ≤ 4294967295) (hu : Fits x.unique) : sItem ⟨itmB x ++ r, b⟩ = (x, ⟨r, b⟩) := by
  obtain ⟨h1, h2, h3, h4⟩ := itmOk_parts hok
  have h5 := (keyOk_le h1).2
  obtain ⟨key, value, flags, til, unique⟩ := x
  simp only [] at h2 h3 h4 h5 hf hu
  obtain ⟨t, rfl⟩ : ∃ t : Nat, til = (t : Int) := ⟨til.toNat, by omega⟩
  have hu' : unique < 18446744073709551616 := hu
  unfold sItem itmB
  simp only [List.append_assoc, Int.toNat_natCast]
  rw [back_text key _ _ (by omega)]
  simp only []
  rw [back_text value _ _ (by omega)]
  simp only []
  rw [sSmall_back 4294967295 flags (by unfold Fits; omega) hf]
  simp only []
  rw [sSmall_back 9223372036854775807 t (by unfold Fits; omega) (by omega)]
  simp only []
  rw [sSmall_back 18446744073709551615 unique hu (by omega)]
theorem noItm_eq {x : Itm} (h : noItm x = true) : x = zItm := by
  obtain ⟨key, value, flags, til, unique⟩ := x
  simp [noItm] at h
  obtain ⟨h1, h2, h3, h4, h5⟩ := h
  rw [empty_of h1, empty_of h2, h3, h4, h5]
  rfl
theorem noDrop_eq {c : Chg} (h : noDrop c = true) : c.key = ⟨#[]⟩ ∧ c.why = 0 := by
  simp [noDrop] at h
  exact ⟨empty_of h.1, UInt8.toNat_inj.1 (by simpa using h.2)⟩
theorem single_cons (x : UInt8) (r : List UInt8) (b : Bool) : sSingle ⟨x :: r, b⟩ = (x, ⟨r, b⟩) := rfl
theorem truth_back (p : Bool) (r : List UInt8) (b : Bool) : sTruth ⟨truthB p :: r, b⟩ = (p, ⟨r, b⟩) := by
  cases p <;> simp [sTruth, single_cons, truthB]

theorem kind_1 (kind : UInt8) (R : List UInt8) (b : Bool) (hk : kind.toNat = 1) : sChange ⟨kind :: R, b⟩ = sChange1 ⟨kind :: R, b⟩ := by
  unfold sChange
  rw [single_cons]
  simp [hk]
theorem kind_2 (kind : UInt8) (R : List UInt8) (b : Bool) (hk : kind.toNat = 2) : sChange ⟨kind :: R, b⟩ = sChange2 ⟨kind :: R, b⟩ := by
  unfold sChange
  rw [single_cons]
  simp [hk]
theorem kind_3 (kind : UInt8) (R : List UInt8) (b : Bool) (hk : kind.toNat = 3) : sChange ⟨kind :: R, b⟩ = sChange3 ⟨kind :: R, b⟩ := by
  unfold sChange
  rw [single_cons]
  simp [hk]
theorem kind_4 (kind : UInt8) (R : List UInt8) (b : Bool) (hk : kind.toNat = 4) : sChange ⟨kind :: R, b⟩ = sChange4 ⟨kind :: R, b⟩ := by
  unfold sChange
  rw [single_cons]
  simp [hk]
theorem kind_5 (kind : UInt8) (R : List UInt8) (b : Bool) (hk : kind.toNat = 5) : sChange ⟨kind :: R, b⟩ = sChange5 ⟨kind :: R, b⟩ := by
  unfold sChange
  rw [single_cons]
  simp [hk]
theorem kind_6 (kind : UInt8) (R : List UInt8) (b : Bool) (hk : kind.toNat = 6) : sChange ⟨kind :: R, b⟩ = sChange6 ⟨kind :: R, b⟩ := by
  unfold sChange
  rw [single_cons]
  simp [hk]
theorem kind_7 (kind : UInt8) (R : List UInt8) (b : Bool) (hk : kind.toNat = 7) : sChange ⟨kind :: R, b⟩ = sChange7 ⟨kind :: R, b⟩ := by
  unfold sChange
  rw [single_cons]
  simp [hk]
theorem sChange_back (c : Chg) (r : List UInt8) (b : Bool) (hok : chgOk c = true) (hg : c.Good) : sChange ⟨chgB c ++ r, b⟩ = (c, ⟨r, b⟩) := by
  have hten := chgOk_ten' hok
  have hten2 := chgOk_ten hok
  have hto := chgOk_to hok
  have h1 := @chgOk_1 c hok
  have h2 := @chgOk_2 c hok
  have h6 := @chgOk_6 c hok
  have hr := @chgOk_r c hok
  have hkb := chgOk_kind hok
  have hgf := hg.flags
  have hgu := hg.unique
  have hnd := @noDrop_eq c
  clear hg hok
  obtain ⟨kind, tenant, item, key, why, to, primary⟩ := c
  simp only [] at hten hten2 hto h1 h2 h6 hr hkb hgf hgu hnd
  obtain ⟨t, rfl⟩ : ∃ t : Nat, tenant = (t : Int) := ⟨tenant.toNat, by omega⟩
  obtain ⟨q, rfl⟩ : ∃ q : Nat, to = (q : Int) := ⟨to.toNat, by omega⟩
  have ft : Fits t := by unfold Fits; omega
  have ht : t ≤ 9223372036854775807 := by omega
  rcases (show kind.toNat = 1 ∨ kind.toNat = 2 ∨ kind.toNat = 3 ∨ kind.toNat = 4 ∨ kind.toNat = 5 ∨ kind.toNat = 6 ∨ kind.toNat = 7 by omega) with hk | hk | hk | hk | hk | hk | hk
  · obtain ⟨hi, hd, rfl⟩ := h1 hk
    obtain ⟨rfl, rfl⟩ := hnd hd
    have hq0 : q = 0 := by simp [hk, mostTo] at hto; omega
    subst hq0
    have hB : chgB ⟨kind, t, item, ⟨#[]⟩, 0, ((0 : Nat) : Int), false⟩ ++ r = kind :: (small t ++ (itmB item ++ r)) := by simp [chgB, hk, hasTen]
    rw [hB, kind_1 _ _ _ hk]
    unfold sChange1
    rw [single_cons]
    try simp only []
    rw [sSmall_back _ t ft ht]
    try simp only []
    rw [sItem_back item _ _ hi hgf hgu]
    try simp only []
    all_goals first | rfl | simp
  · obtain ⟨hi, hky, _, rfl⟩ := h2 hk
    have hie := noItm_eq hi
    subst hie
    have hks := (keyOk_le hky).2
    have hq0 : q = 0 := by simp [hk, mostTo] at hto; omega
    subst hq0
    have hB : chgB ⟨kind, t, zItm, key, why, ((0 : Nat) : Int), false⟩ ++ r = kind :: (small t ++ (text key.data.toList ++ (why :: r))) := by simp [chgB, hk, hasTen]
    rw [hB, kind_2 _ _ _ hk]
    unfold sChange2
    rw [single_cons]
    try simp only []
    rw [sSmall_back _ t ft ht]
    try simp only []
    rw [back_text key _ _ (by omega)]
    try simp only []
    rw [single_cons]
    try simp only []
    all_goals first | rfl | simp
  · obtain ⟨hi, hd, rfl⟩ := hr (by omega)
    obtain ⟨rfl, rfl⟩ := hnd hd
    have hie := noItm_eq hi
    subst hie
    have hq0 : q = 0 := by simp [hk, mostTo] at hto; omega
    subst hq0
    have hB : chgB ⟨kind, t, zItm, ⟨#[]⟩, 0, ((0 : Nat) : Int), false⟩ ++ r = kind :: (small t ++ r) := by simp [chgB, hk, hasTen]
    rw [hB, kind_3 _ _ _ hk]
    unfold sChange3
    rw [single_cons]
    try simp only []
    rw [sSmall_back _ t ft ht]
    try simp only []
    all_goals first | rfl | simp
  · obtain ⟨hi, hd, rfl⟩ := hr (by omega)
    obtain ⟨rfl, rfl⟩ := hnd hd
    have hie := noItm_eq hi
    subst hie
    have ht0 : t = 0 := by
      rcases hten2 with h | h
      · omega
      · rw [hk] at h; exact absurd h.1 (by decide)
    subst ht0
    have hqb : q ≤ 1099511627776 := by simp [hk, mostTo] at hto; omega
    have fq : Fits q := by unfold Fits; omega
    have hq : q ≤ 9223372036854775807 := by omega
    have hB : chgB ⟨kind, ((0 : Nat) : Int), zItm, ⟨#[]⟩, 0, q, false⟩ ++ r = kind :: (small q ++ r) := by simp [chgB, hk, hasTen]
    rw [hB, kind_4 _ _ _ hk]
    unfold sChange4
    rw [single_cons]
    try simp only []
    rw [sSmall_back _ q fq hq]
    try simp only []
    all_goals first | rfl | simp
  · obtain ⟨hi, hd, rfl⟩ := hr (by omega)
    obtain ⟨rfl, rfl⟩ := hnd hd
    have hie := noItm_eq hi
    subst hie
    have hqb : q ≤ 1099511627776 := by simp [hk, mostTo] at hto; omega
    have fq : Fits q := by unfold Fits; omega
    have hq : q ≤ 9223372036854775807 := by omega
    have hB : chgB ⟨kind, t, zItm, ⟨#[]⟩, 0, q, false⟩ ++ r = kind :: (small t ++ (small q ++ r)) := by simp [chgB, hk, hasTen]
    rw [hB, kind_5 _ _ _ hk]
    unfold sChange5
    rw [single_cons]
    try simp only []
    rw [sSmall_back _ t ft ht]
    try simp only []
    rw [sSmall_back _ q fq hq]
    try simp only []
    all_goals first | rfl | simp
  · obtain ⟨hi, hd⟩ := h6 hk
    obtain ⟨rfl, rfl⟩ := hnd hd
    have hie := noItm_eq hi
    subst hie
    have ht0 : t = 0 := by
      rcases hten2 with h | h
      · omega
      · rw [hk] at h; exact absurd h.1 (by decide)
    subst ht0
    have hqb : q ≤ 1099511627776 := by simp [hk, mostTo] at hto; omega
    have fq : Fits q := by unfold Fits; omega
    have hq : q ≤ 9223372036854775807 := by omega
    have hB : chgB ⟨kind, ((0 : Nat) : Int), zItm, ⟨#[]⟩, 0, q, primary⟩ ++ r = kind :: (small q ++ (truthB primary :: r)) := by simp [chgB, hk, hasTen]
    rw [hB, kind_6 _ _ _ hk]
    unfold sChange6
    rw [single_cons]
    try simp only []
    rw [sSmall_back _ q fq hq]
    try simp only []
    rw [truth_back]
    try simp only []
    all_goals first | rfl | simp
  · obtain ⟨hi, hd, rfl⟩ := hr (by omega)
    obtain ⟨rfl, rfl⟩ := hnd hd
    have hie := noItm_eq hi
    subst hie
    have ht0 : t = 0 := by
      rcases hten2 with h | h
      · omega
      · rw [hk] at h; exact absurd h.1 (by decide)
    subst ht0
    have hqb : q ≤ 1099511627776 := by simp [hk, mostTo] at hto; omega
    have fq : Fits q := by unfold Fits; omega
    have hq : q ≤ 9223372036854775807 := by omega
    have hB : chgB ⟨kind, ((0 : Nat) : Int), zItm, ⟨#[]⟩, 0, q, false⟩ ++ r = kind :: (small q ++ r) := by simp [chgB, hk, hasTen]
    rw [hB, kind_7 _ _ _ hk]
    unfold sChange7
    rw [single_cons]
    try simp only []
    rw [sSmall_back _ q fq hq]
    try simp only []
    all_goals first | rfl | simp

theorem many_back : ∀ (cs : List Chg) (r : List UInt8), (∀ c ∈ cs, chgOk c = true) → (∀ c ∈ cs, c.Good) → readMany cs.length ⟨cs.flatMap chgB ++ r, false⟩ = some (cs, ⟨r, false⟩)
  | [], r, _, _ => by simp [readMany]
  | c :: cs, r, h, g => by
    have h1 := sChange_back c (cs.flatMap chgB ++ r) false (h c (by simp)) (g c (by simp))
    have h2 := many_back cs r (fun d hd => h d (by simp [hd])) (fun d hd => g d (by simp [hd]))
    have e : (c :: cs).flatMap chgB ++ r = chgB c ++ (cs.flatMap chgB ++ r) := by simp
    rw [e, List.length_cons, many_on (by rw [h1]) (by rw [h1]; exact h c (by simp)), h1]
    simp only []
    rw [h2]
    rfl
theorem chsE_zero {cs : List Chg} (h : chsE cs = 0) : cs.length ≤ 4096 ∧ (∀ c ∈ cs, chgOk c = true) ∧ (chsBytes cs).length ≤ 65536 ∧ chsB cs = chsBytes cs := by
  unfold chsE at h
  by_cases h1 : 4096 < cs.length
  · rw [if_pos h1] at h; cases h
  · rw [if_neg h1] at h
    by_cases h2 : allOk cs = false
    · rw [if_pos h2] at h; cases h
    · rw [if_neg h2] at h
      by_cases h3 : 65536 < (chsBytes cs).length
      · rw [if_pos h3] at h; cases h
      · refine ⟨by omega, ?_, by omega, by unfold chsB; rw [if_neg h1, if_neg h2, if_neg h3]⟩
        have h4 : allOk cs = true := by simpa using h2
        exact fun c hc => List.all_eq_true.1 h4 c hc
theorem chsE_cases (cs : List Chg) : chsE cs = 0 ∨ (chsE cs ≠ 0 ∧ chsB cs = []) := by
  unfold chsE chsB
  by_cases h1 : 4096 < cs.length
  · rw [if_pos h1, if_pos h1]; exact .inr ⟨by decide, rfl⟩
  · rw [if_neg h1, if_neg h1]
    by_cases h2 : allOk cs = false
    · rw [if_pos h2, if_pos h2]; exact .inr ⟨by decide, rfl⟩
    · rw [if_neg h2, if_neg h2]
      by_cases h3 : 65536 < (chsBytes cs).length
      · rw [if_pos h3, if_pos h3]; exact .inr ⟨by decide, rfl⟩
      · rw [if_neg h3]; exact .inl rfl
/-- P1.3, P1.6: changes are read again as they were written -/
theorem of_back {cs : List Chg} (h : chsE cs = 0) (hg : ∀ c ∈ cs, c.Good) : ofChs (chsB cs) = (cs, 0) := by
  obtain ⟨h1, h2, h3, h4⟩ := chsE_zero h
  rw [h4]
  unfold ofChs
  rw [if_neg (by omega)]
  unfold chsBytes
  have e := sSmall_back 4096 cs.length (by unfold Fits; omega) h1 (cs.flatMap chgB) false
  rw [e]
  simp only []
  have h5 := many_back cs [] h2 hg
  rw [List.append_nil] at h5
  rw [h5]
  simp [ofRead]
theorem many_inv : ∀ (n : Nat) (s : St) (cs : List Chg) (s' : St), readMany n s = some (cs, s') → s'.bad = false → s.bad = false ∧ s.l = cs.flatMap chgB ++ s'.l ∧ cs.length = n ∧ (∀ c ∈ cs, chgOk c = true) ∧ ∀ c ∈ cs, c.Good
  | 0, s, cs, s', h, hb => by
    simp only [readMany, Option.some.injEq, Prod.mk.injEq] at h
    obtain ⟨rfl, rfl⟩ := h
    exact ⟨hb, by simp, rfl, by simp, by simp⟩
  | n + 1, s, cs, s', h, hb => by
    rw [readMany] at h
    by_cases hc : (sChange s).2.bad = true ∨ chgOk (sChange s).1 = false
    · rw [if_pos hc] at h; cases h
    · rw [if_neg hc] at h
      have h1 : (sChange s).2.bad = false := by
        cases e : (sChange s).2.bad with
        | true => exact absurd (.inl e) hc
        | false => rfl
      have h2 : chgOk (sChange s).1 = true := by
        cases e : chgOk (sChange s).1 with
        | true => rfl
        | false => exact absurd (.inr e) hc
      cases hm : readMany n (sChange s).2 with
      | none => rw [hm] at h; cases h
      | some q =>
        obtain ⟨ds, t⟩ := q
        rw [hm] at h
        simp only [Option.map_some, Option.some.injEq, Prod.mk.injEq] at h
        obtain ⟨rfl, rfl⟩ := h
        obtain ⟨i1, i2, i3, i4, i5⟩ := many_inv n _ ds t hm hb
        obtain ⟨j1, j2, j3⟩ := sChange_inv h1 h2
        refine ⟨j1, ?_, by simp [i3], ?_, ?_⟩
        · rw [j2, i2]; simp
        · intro c hc
          rcases List.mem_cons.1 hc with rfl | hc
          · exact h2
          · exact i4 c hc
        · intro c hc
          rcases List.mem_cons.1 hc with rfl | hc
          · exact j3
          · exact i5 c hc
theorem of_cases (l : List UInt8) : ((ofChs l).2 = 0 ∧ chsE (ofChs l).1 = 0 ∧ chsB (ofChs l).1 = l ∧ ∀ c ∈ (ofChs l).1, c.Good) ∨ ((ofChs l).2 ≠ 0 ∧ (ofChs l).1 = []) := by
  unfold ofChs
  by_cases h0 : 65536 < l.length
  · rw [if_pos h0]; exact .inr ⟨by decide, rfl⟩
  · rw [if_neg h0]
    obtain ⟨⟨N, st⟩, hp⟩ : ∃ p, p = sSmall 4096 ⟨l, false⟩ := ⟨_, rfl⟩
    have hinv := @sSmall_inv 4096 ⟨l, false⟩
    rw [← hp] at hinv ⊢
    simp only [] at hinv ⊢
    cases hm : readMany N st with
    | none => exact .inr ⟨by decide, rfl⟩
    | some q =>
      obtain ⟨cs, t⟩ := q
      unfold ofRead
      simp only []
      by_cases ht : t.bad = false ∧ t.l = []
      · rw [if_pos ht]
        left
        obtain ⟨i1, i2, i3, i4, i5⟩ := many_inv N st cs t hm ht.1
        obtain ⟨j1, j2, j3, j4⟩ := hinv i1
        have hl : l = chsBytes cs := by
          rw [j2, i2, ht.2, List.append_nil, ← i3]; rfl
        have hall : allOk cs = true := List.all_eq_true.2 i4
        have a1 : ¬ 4096 < cs.length := by omega
        have a2 : ¬ allOk cs = false := by rw [hall]; decide
        have a3 : ¬ 65536 < (chsBytes cs).length := by rw [← hl]; exact h0
        refine ⟨rfl, by unfold chsE; rw [if_neg a1, if_neg a2, if_neg a3], ?_, i5⟩
        simp only []
        unfold chsB
        rw [if_neg a1, if_neg a2, if_neg a3]
        exact hl.symm
      · rw [if_neg ht]
        exact .inr ⟨by decide, rfl⟩
end Go.Proofs.Ytlhlleokehkolaa
