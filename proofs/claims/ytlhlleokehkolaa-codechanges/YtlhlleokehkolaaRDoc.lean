/-
  What the document's Reader reads as items and changes, and that this is what the code reads.
-/
import Derived.Test.YtlhlleokehkolaaRCmd3
import Derived.Test.YtlhlleokehkolaaRec3
namespace Go.Proofs.Ytlhlleokehkolaa
open Go.RowKit
set_option linter.unusedSimpArgs false
set_option linter.unusedVariables false
set_option maxRecDepth 100000

def dItem (s : St) : Itm × St :=
  (⟨⟨(dText s).1.toArray⟩, ⟨(dText (dText s).2).1.toArray⟩, (dNum 4294967295 (dText (dText s).2).2).1, ((dNum 1099511627776 (dNum 4294967295 (dText (dText s).2).2).2).1 : Int), (dNum 18446744073709551615 (dNum 1099511627776 (dNum 4294967295 (dText (dText s).2).2).2).2).1⟩,
   (dNum 18446744073709551615 (dNum 1099511627776 (dNum 4294967295 (dText (dText s).2).2).2).2).2)
def dChg1 (s : St) : Chg × St := (⟨(dByte s).1, (((dNum 4 (dByte s).2).1 : Nat) : Int), (dItem (dNum 4 (dByte s).2).2).1, ⟨#[]⟩, 0, 0, false⟩, (dItem (dNum 4 (dByte s).2).2).2)
def dChg2 (s : St) : Chg × St := (⟨(dByte s).1, (((dNum 4 (dByte s).2).1 : Nat) : Int), zItm, ⟨(dText (dNum 4 (dByte s).2).2).1.toArray⟩, (dByte (dText (dNum 4 (dByte s).2).2).2).1, 0, false⟩, (dByte (dText (dNum 4 (dByte s).2).2).2).2)
def dChg3 (s : St) : Chg × St := (⟨(dByte s).1, (((dNum 4 (dByte s).2).1 : Nat) : Int), zItm, ⟨#[]⟩, 0, 0, false⟩, (dNum 4 (dByte s).2).2)
def dChg4 (s : St) : Chg × St := (⟨(dByte s).1, 0, zItm, ⟨#[]⟩, 0, (((dNum 1099511627776 (dByte s).2).1 : Nat) : Int), false⟩, (dNum 1099511627776 (dByte s).2).2)
def dChg5 (s : St) : Chg × St := (⟨(dByte s).1, (((dNum 4 (dByte s).2).1 : Nat) : Int), zItm, ⟨#[]⟩, 0, (((dNum 16 (dNum 4 (dByte s).2).2).1 : Nat) : Int), false⟩, (dNum 16 (dNum 4 (dByte s).2).2).2)
def dChg6 (s : St) : Chg × St := (⟨(dByte s).1, 0, zItm, ⟨#[]⟩, 0, (((dNum 2147483647 (dByte s).2).1 : Nat) : Int), decide ((dByte (dNum 2147483647 (dByte s).2).2).1.toNat = 1)⟩, (dByte (dNum 2147483647 (dByte s).2).2).2)
def dChg7 (s : St) : Chg × St := (⟨(dByte s).1, 0, zItm, ⟨#[]⟩, 0, (((dNum 2147483647 (dByte s).2).1 : Nat) : Int), false⟩, (dNum 2147483647 (dByte s).2).2)
def dChg0 (s : St) : Chg × St := (⟨(dByte s).1, 0, zItm, ⟨#[]⟩, 0, 0, false⟩, ⟨(dByte s).2.l, true⟩)
def dChg (s : St) : Chg × St :=
  if (dByte s).1.toNat = 1 then dChg1 s else if (dByte s).1.toNat = 2 then dChg2 s else if (dByte s).1.toNat = 3 then dChg3 s else if (dByte s).1.toNat = 4 then dChg4 s
  else if (dByte s).1.toNat = 5 then dChg5 s else if (dByte s).1.toNat = 6 then dChg6 s else if (dByte s).1.toNat = 7 then dChg7 s else dChg0 s

theorem dItem_good (s : St) : (dItem s).1.flags ≤ 4294967295 ∧ Fits (dItem s).1.unique := by
  unfold dItem
  exact ⟨dNum_le _ _, dNum_fits _⟩
theorem zItm_good : zItm.flags ≤ 4294967295 ∧ Fits zItm.unique := by
  unfold zItm Fits
  exact ⟨by simp, by simp⟩
theorem dChg_good (s : St) : (dChg s).1.Good := by
  unfold dChg
  repeat' split
  · exact ⟨(dItem_good _).1, (dItem_good _).2⟩
  all_goals exact ⟨zItm_good.1, zItm_good.2⟩

theorem dItem_back (x : Itm) (r : List UInt8) (b : Bool) (hok : itmOk x = true) (hf : x.flags ≤ 4294967295) (hu : Fits x.unique) : dItem ⟨itmB x ++ r, b⟩ = (x, ⟨r, b⟩) := by
  obtain ⟨key, value, flags, til, unique⟩ := x
  have hk := keyOk_le (show keyOk key = true by unfold itmOk at hok; simp only [Bool.and_eq_true] at hok; exact hok.1.1)
  have hv : value.size ≤ 512 := by unfold itmOk at hok; simp only [Bool.and_eq_true, decide_eq_true_eq] at hok; exact hok.1.2
  have hm : 0 ≤ til ∧ til ≤ 1099511627776 := by unfold itmOk momOk at hok; simp only [Bool.and_eq_true, decide_eq_true_eq] at hok; exact hok.2
  simp only [] at hf hu
  obtain ⟨u, rfl⟩ : ∃ u : Nat, til = (u : Int) := ⟨til.toNat, by omega⟩
  have ff : Fits flags := by unfold Fits; omega
  have fu : Fits u := by unfold Fits; omega
  have fk : Fits key.data.toList.length := by unfold Fits; simp; omega
  have fv : Fits value.data.toList.length := by unfold Fits; simp; omega
  have e : itmB ⟨key, value, flags, (u : Int), unique⟩ ++ r = text key.data.toList ++ (text value.data.toList ++ (small flags ++ (small u ++ (small unique ++ r)))) := by simp [itmB]
  rw [e]
  unfold dItem
  rw [dText_back _ _ _ fk]
  simp only []
  rw [dText_back _ _ _ fv]
  simp only []
  rw [dNum_back _ _ ff hf]
  simp only []
  rw [dNum_back _ _ fu (by omega)]
  simp only []
  rw [dNum_back _ _ hu (by unfold Fits at hu; omega)]

theorem byte_cons (x : UInt8) (r : List UInt8) (b : Bool) : dByte ⟨x :: r, b⟩ = (x, ⟨r, b⟩) := rfl
theorem truth_is (p : Bool) : decide ((truthB p).toNat = 1) = p := by cases p <;> rfl
theorem dkind_1 (kind : UInt8) (R : List UInt8) (b : Bool) (hk : kind.toNat = 1) : dChg ⟨kind :: R, b⟩ = dChg1 ⟨kind :: R, b⟩ := by
  unfold dChg
  rw [byte_cons]
  simp [hk]
theorem dkind_2 (kind : UInt8) (R : List UInt8) (b : Bool) (hk : kind.toNat = 2) : dChg ⟨kind :: R, b⟩ = dChg2 ⟨kind :: R, b⟩ := by
  unfold dChg
  rw [byte_cons]
  simp [hk]
theorem dkind_3 (kind : UInt8) (R : List UInt8) (b : Bool) (hk : kind.toNat = 3) : dChg ⟨kind :: R, b⟩ = dChg3 ⟨kind :: R, b⟩ := by
  unfold dChg
  rw [byte_cons]
  simp [hk]
theorem dkind_4 (kind : UInt8) (R : List UInt8) (b : Bool) (hk : kind.toNat = 4) : dChg ⟨kind :: R, b⟩ = dChg4 ⟨kind :: R, b⟩ := by
  unfold dChg
  rw [byte_cons]
  simp [hk]
theorem dkind_5 (kind : UInt8) (R : List UInt8) (b : Bool) (hk : kind.toNat = 5) : dChg ⟨kind :: R, b⟩ = dChg5 ⟨kind :: R, b⟩ := by
  unfold dChg
  rw [byte_cons]
  simp [hk]
theorem dkind_6 (kind : UInt8) (R : List UInt8) (b : Bool) (hk : kind.toNat = 6) : dChg ⟨kind :: R, b⟩ = dChg6 ⟨kind :: R, b⟩ := by
  unfold dChg
  rw [byte_cons]
  simp [hk]
theorem dkind_7 (kind : UInt8) (R : List UInt8) (b : Bool) (hk : kind.toNat = 7) : dChg ⟨kind :: R, b⟩ = dChg7 ⟨kind :: R, b⟩ := by
  unfold dChg
  rw [byte_cons]
  simp [hk]
theorem dChg_back (c : Chg) (r : List UInt8) (b : Bool) (hok : chgOk c = true) (hg : c.Good) : dChg ⟨chgB c ++ r, b⟩ = (c, ⟨r, b⟩) := by
  have hten := chgOk_ten' hok
  have hten2 := chgOk_ten hok
  have hto := chgOk_to hok
  have h1 := @chgOk_1 c hok
  have h2 := @chgOk_2 c hok
  have h6 := @chgOk_6 c hok
  have hr := @chgOk_r c hok
  have hkb := chgOk_kind hok
  have hgf := hg.flags
  have hgu := hg.unique
  have hnd := @noDrop_eq c
  clear hg hok
  obtain ⟨kind, tenant, item, key, why, to, primary⟩ := c
  simp only [] at hten hten2 hto h1 h2 h6 hr hkb hgf hgu hnd
  obtain ⟨t, rfl⟩ : ∃ t : Nat, tenant = (t : Int) := ⟨tenant.toNat, by omega⟩
  obtain ⟨q, rfl⟩ : ∃ q : Nat, to = (q : Int) := ⟨to.toNat, by omega⟩
  have ft : Fits t := by unfold Fits; omega
  have ht : t ≤ 9223372036854775807 := by omega
  rcases (show kind.toNat = 1 ∨ kind.toNat = 2 ∨ kind.toNat = 3 ∨ kind.toNat = 4 ∨ kind.toNat = 5 ∨ kind.toNat = 6 ∨ kind.toNat = 7 by omega) with hk | hk | hk | hk | hk | hk | hk
  · obtain ⟨hi, hd, rfl⟩ := h1 hk
    obtain ⟨rfl, rfl⟩ := hnd hd
    have hq0 : q = 0 := by simp [hk, mostTo] at hto; omega
    subst hq0
    have hB : chgB ⟨kind, t, item, ⟨#[]⟩, 0, ((0 : Nat) : Int), false⟩ ++ r = kind :: (small t ++ (itmB item ++ r)) := by simp [chgB, hk, hasTen]
    rw [hB, dkind_1 _ _ _ hk]
    unfold dChg1
    rw [byte_cons]
    try simp only []
    rw [dNum_back _ t ft (by omega)]
    try simp only []
    rw [dItem_back item _ _ hi hgf hgu]
    try simp only []
    all_goals first | rfl | (simp; done) | (simp; exact truth_is _)
  · obtain ⟨hi, hky, _, rfl⟩ := h2 hk
    have hie := noItm_eq hi
    subst hie
    have hks := (keyOk_le hky).2
    have hq0 : q = 0 := by simp [hk, mostTo] at hto; omega
    subst hq0
    have hB : chgB ⟨kind, t, zItm, key, why, ((0 : Nat) : Int), false⟩ ++ r = kind :: (small t ++ (text key.data.toList ++ (why :: r))) := by simp [chgB, hk, hasTen]
    rw [hB, dkind_2 _ _ _ hk]
    unfold dChg2
    rw [byte_cons]
    try simp only []
    rw [dNum_back _ t ft (by omega)]
    try simp only []
    rw [dText_back _ _ _ (show Fits key.data.toList.length by unfold Fits; simp; omega)]
    try simp only []
    rw [byte_cons]
    try simp only []
    all_goals first | rfl | (simp; done) | (simp; exact truth_is _)
  · obtain ⟨hi, hd, rfl⟩ := hr (by omega)
    obtain ⟨rfl, rfl⟩ := hnd hd
    have hie := noItm_eq hi
    subst hie
    have hq0 : q = 0 := by simp [hk, mostTo] at hto; omega
    subst hq0
    have hB : chgB ⟨kind, t, zItm, ⟨#[]⟩, 0, ((0 : Nat) : Int), false⟩ ++ r = kind :: (small t ++ r) := by simp [chgB, hk, hasTen]
    rw [hB, dkind_3 _ _ _ hk]
    unfold dChg3
    rw [byte_cons]
    try simp only []
    rw [dNum_back _ t ft (by omega)]
    try simp only []
    all_goals first | rfl | (simp; done) | (simp; exact truth_is _)
  · obtain ⟨hi, hd, rfl⟩ := hr (by omega)
    obtain ⟨rfl, rfl⟩ := hnd hd
    have hie := noItm_eq hi
    subst hie
    have ht0 : t = 0 := by
      rcases hten2 with h | h
      · omega
      · rw [hk] at h; exact absurd h.1 (by decide)
    subst ht0
    have hqb := hto.2
    rw [hk] at hqb
    simp only [mostTo] at hqb
    have fq : Fits q := by unfold Fits; omega
    have hq : q ≤ 9223372036854775807 := by omega
    have hB : chgB ⟨kind, ((0 : Nat) : Int), zItm, ⟨#[]⟩, 0, q, false⟩ ++ r = kind :: (small q ++ r) := by simp [chgB, hk, hasTen]
    rw [hB, dkind_4 _ _ _ hk]
    unfold dChg4
    rw [byte_cons]
    try simp only []
    rw [dNum_back _ q fq (by omega)]
    try simp only []
    all_goals first | rfl | (simp; done) | (simp; exact truth_is _)
  · obtain ⟨hi, hd, rfl⟩ := hr (by omega)
    obtain ⟨rfl, rfl⟩ := hnd hd
    have hie := noItm_eq hi
    subst hie
    have hqb := hto.2
    rw [hk] at hqb
    simp only [mostTo] at hqb
    have fq : Fits q := by unfold Fits; omega
    have hq : q ≤ 9223372036854775807 := by omega
    have hB : chgB ⟨kind, t, zItm, ⟨#[]⟩, 0, q, false⟩ ++ r = kind :: (small t ++ (small q ++ r)) := by simp [chgB, hk, hasTen]
    rw [hB, dkind_5 _ _ _ hk]
    unfold dChg5
    rw [byte_cons]
    try simp only []
    rw [dNum_back _ t ft (by omega)]
    try simp only []
    rw [dNum_back _ q fq (by omega)]
    try simp only []
    all_goals first | rfl | (simp; done) | (simp; exact truth_is _)
  · obtain ⟨hi, hd⟩ := h6 hk
    obtain ⟨rfl, rfl⟩ := hnd hd
    have hie := noItm_eq hi
    subst hie
    have ht0 : t = 0 := by
      rcases hten2 with h | h
      · omega
      · rw [hk] at h; exact absurd h.1 (by decide)
    subst ht0
    have hqb := hto.2
    rw [hk] at hqb
    simp only [mostTo] at hqb
    have fq : Fits q := by unfold Fits; omega
    have hq : q ≤ 9223372036854775807 := by omega
    have hB : chgB ⟨kind, ((0 : Nat) : Int), zItm, ⟨#[]⟩, 0, q, primary⟩ ++ r = kind :: (small q ++ (truthB primary :: r)) := by simp [chgB, hk, hasTen]
    rw [hB, dkind_6 _ _ _ hk]
    unfold dChg6
    rw [byte_cons]
    try simp only []
    rw [dNum_back _ q fq (by omega)]
    try simp only []
    rw [byte_cons]
    try simp only []
    all_goals first | rfl | (simp; done) | (simp; exact truth_is _)
  · obtain ⟨hi, hd, rfl⟩ := hr (by omega)
    obtain ⟨rfl, rfl⟩ := hnd hd
    have hie := noItm_eq hi
    subst hie
    have ht0 : t = 0 := by
      rcases hten2 with h | h
      · omega
      · rw [hk] at h; exact absurd h.1 (by decide)
    subst ht0
    have hqb := hto.2
    rw [hk] at hqb
    simp only [mostTo] at hqb
    have fq : Fits q := by unfold Fits; omega
    have hq : q ≤ 9223372036854775807 := by omega
    have hB : chgB ⟨kind, ((0 : Nat) : Int), zItm, ⟨#[]⟩, 0, q, false⟩ ++ r = kind :: (small q ++ r) := by simp [chgB, hk, hasTen]
    rw [hB, dkind_7 _ _ _ hk]
    unfold dChg7
    rw [byte_cons]
    try simp only []
    rw [dNum_back _ q fq (by omega)]
    try simp only []
    all_goals first | rfl | (simp; done) | (simp; exact truth_is _)


def dMany : Nat → St → List Chg × St
  | 0, s => ([], s)
  | n + 1, s => if s.bad = true then ([], s) else ((dChg s).1 :: (dMany n (dChg s).2).1, (dMany n (dChg s).2).2)
theorem dMany_bad (n : Nat) (s : St) (h : s.bad = true) : dMany n s = ([], s) := by
  cases n with
  | zero => rfl
  | succ n => simp [dMany, h]
theorem dMany_step {n k : Nat} {s st : St} {cs : List Chg} (h : dMany n s = (cs ++ (dMany (n - k) st).1, (dMany (n - k) st).2)) (hk : k < n) (hb : st.bad = false) :
    dMany n s = ((cs ++ [(dChg st).1]) ++ (dMany (n - (k + 1)) (dChg st).2).1, (dMany (n - (k + 1)) (dChg st).2).2) := by
  rw [h]
  have e : n - k = (n - (k + 1)) + 1 := by omega
  rw [e]
  simp [dMany, hb]
theorem dMany_len : ∀ (n : Nat) (s : St), (dMany n s).1.length ≤ n
  | 0, s => by simp [dMany]
  | n + 1, s => by
    unfold dMany
    split
    · simp
    · have := dMany_len n (dChg s).2
      simp; omega
theorem dMany_good : ∀ (n : Nat) (s : St), ∀ c ∈ (dMany n s).1, c.Good
  | 0, s => by simp [dMany]
  | n + 1, s => by
    unfold dMany
    split
    · simp
    · intro c hc
      rcases List.mem_cons.1 hc with rfl | hc
      · exact dChg_good s
      · exact dMany_good n _ c hc
theorem dMany_back : ∀ (cs : List Chg) (r : List UInt8), (∀ c ∈ cs, chgOk c = true) → (∀ c ∈ cs, c.Good) → dMany cs.length ⟨cs.flatMap chgB ++ r, false⟩ = (cs, ⟨r, false⟩)
  | [], r, _, _ => by simp [dMany]
  | c :: cs, r, h, g => by
    have h1 := dChg_back c (cs.flatMap chgB ++ r) false (h c (by simp)) (g c (by simp))
    have h2 := dMany_back cs r (fun d hd => h d (by simp [hd])) (fun d hd => g d (by simp [hd]))
    have e : (c :: cs).flatMap chgB ++ r = chgB c ++ (cs.flatMap chgB ++ r) := by simp
    rw [e, List.length_cons]
    simp only [dMany]
    rw [h1]
    simp only []
    rw [h2]
    rfl
/-- what the document answers for a record's bytes -/
def docEnd (l : List UInt8) (q : List Chg × St) : List Chg × Int :=
  if q.2.bad = true then ([], 8) else if chsE q.1 = 0 ∧ chsB q.1 = l then (q.1, 0) else ([], 8)
def docChs (l : List UInt8) : List Chg × Int :=
  if 65536 < l.length then ([], 3) else docEnd l (dMany (dNum 4096 ⟨l, false⟩).1 (dNum 4096 ⟨l, false⟩).2)
theorem ofChs_8 {l : List UInt8} (h : ¬ 65536 < l.length) : (ofChs l).2 = 0 ∨ (ofChs l).2 = 8 := by
  unfold ofChs
  rw [if_neg h]
  unfold ofRead
  repeat' split
  · exact .inr rfl
  · exact .inl rfl
  · exact .inr rfl
theorem doc_chs (l : List UInt8) : docChs l = ofChs l := by
  by_cases hb : 65536 < l.length
  · unfold docChs ofChs
    rw [if_pos hb, if_pos hb]
  · have h8 := ofChs_8 hb
    have hgood := dMany_good (dNum 4096 ⟨l, false⟩).1 (dNum 4096 ⟨l, false⟩).2
    unfold docChs
    rw [if_neg hb]
    obtain ⟨q, hq⟩ : ∃ q, q = dMany (dNum 4096 ⟨l, false⟩).1 (dNum 4096 ⟨l, false⟩).2 := ⟨_, rfl⟩
    rw [← hq] at hgood ⊢
    have refuse : ¬ (q.2.bad = false ∧ chsE q.1 = 0 ∧ chsB q.1 = l) → ([], 8) = ofChs l := by
      intro hn
      rcases of_cases l with ⟨c1, c2, c3, c4⟩ | ⟨c1, c2⟩
      · exfalso
        apply hn
        obtain ⟨z1, z2, z3, z4⟩ := chsE_zero c2
        have e : l = small (ofChs l).1.length ++ ((ofChs l).1.flatMap chgB ++ []) := by
          rw [List.append_nil]
          conv => lhs; rw [← c3, z4]
          rfl
        have hb1 := dNum_back 4096 (ofChs l).1.length (by unfold Fits; omega) z1 ((ofChs l).1.flatMap chgB ++ []) false
        rw [← e] at hb1
        rw [hb1] at hq
        simp only [] at hq
        rw [dMany_back _ _ z2 c4] at hq
        rw [hq]
        exact ⟨rfl, c2, c3⟩
      · rcases h8 with h8 | h8
        · exact absurd h8 c1
        · exact Prod.ext c2.symm h8.symm
    unfold docEnd
    by_cases h1 : q.2.bad = true
    · rw [if_pos h1]
      exact refuse (fun h => by rw [h1] at h; cases h.1)
    · rw [if_neg h1]
      by_cases h2 : chsE q.1 = 0 ∧ chsB q.1 = l
      · rw [if_pos h2]
        have := of_back h2.1 hgood
        rw [h2.2] at this
        exact this.symm
      · rw [if_neg h2]
        exact refuse (fun h => h2 h.2)
end Go.Proofs.Ytlhlleokehkolaa
