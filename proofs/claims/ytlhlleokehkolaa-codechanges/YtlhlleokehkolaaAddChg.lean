/-
  Contract of addChange, of any change that may be.
-/
import Derived.Test.YtlhlleokehkolaaAddChange2
import Derived.Test.YtlhlleokehkolaaAddChange3
import Derived.Test.YtlhlleokehkolaaAddChange6
namespace Go.Proofs.Ytlhlleokehkolaa
open Go.RowKit
set_option linter.unusedSimpArgs false
set_option linter.unusedVariables false
set_option maxRecDepth 100000

theorem chgOk_own {c : Chg} (h : chgOk c = true) : ownOk c = true := by
  unfold chgOk at h; simp at h; exact h.2.2
theorem chgOk_ten {c : Chg} (h : chgOk c = true) : c.tenant = 0 ∨ (hasTen c.kind.toNat = true ∧ 0 ≤ c.tenant ∧ c.tenant < 4) := by
  unfold chgOk at h
  by_cases h0 : c.tenant = 0
  · exact .inl h0
  · right
    simp [h0, tenOk] at h
    exact ⟨h.1.1, h.1.2.1, h.1.2.2⟩
theorem chgOk_to {c : Chg} (h : chgOk c = true) : 0 ≤ c.to ∧ c.to ≤ mostTo c.kind.toNat := by
  unfold chgOk at h; simp at h; exact ⟨by omega, by omega⟩
theorem chgOk_ten' {c : Chg} (h : chgOk c = true) : 0 ≤ c.tenant ∧ c.tenant < 4 := by
  rcases chgOk_ten h with h | h
  · omega
  · exact h.2
theorem chgOk_kind {c : Chg} (h : chgOk c = true) : 1 ≤ c.kind.toNat ∧ c.kind.toNat ≤ 7 := by
  have := chgOk_own h
  unfold ownOk at this
  split at this
  · omega
  · split at this
    · omega
    · split at this
      · omega
      · split at this
        · omega
        · cases this
theorem chgOk_1 {c : Chg} (h : chgOk c = true) (hk : c.kind.toNat = 1) : itmOk c.item = true ∧ noDrop c = true ∧ c.primary = false := by
  have := chgOk_own h
  unfold ownOk at this
  rw [if_pos hk] at this
  simp at this
  exact ⟨this.1.1, this.1.2, this.2⟩
theorem chgOk_2 {c : Chg} (h : chgOk c = true) (hk : c.kind.toNat = 2) : noItm c.item = true ∧ keyOk c.key = true ∧ whyOk c.why.toNat = true ∧ c.primary = false := by
  have := chgOk_own h
  unfold ownOk at this
  rw [if_neg (by omega), if_pos hk] at this
  simp at this
  exact ⟨this.1.1.1, this.1.1.2, this.1.2, this.2⟩
theorem chgOk_6 {c : Chg} (h : chgOk c = true) (hk : c.kind.toNat = 6) : noItm c.item = true ∧ noDrop c = true := by
  have := chgOk_own h
  unfold ownOk at this
  rw [if_neg (by omega), if_neg (by omega), if_pos hk] at this
  simpa using this
theorem chgOk_r {c : Chg} (h : chgOk c = true) (hk : c.kind.toNat = 3 ∨ c.kind.toNat = 4 ∨ c.kind.toNat = 5 ∨ c.kind.toNat = 7) : noItm c.item = true ∧ noDrop c = true ∧ c.primary = false := by
  have := chgOk_own h
  unfold ownOk at this
  rw [if_neg (by omega), if_neg (by omega), if_neg (by omega), if_pos hk] at this
  simp at this
  exact ⟨this.1.1, this.1.2, this.2⟩
theorem itmOk_parts {x : Itm} (h : itmOk x = true) : keyOk x.key = true ∧ x.value.size ≤ 512 ∧ 0 ≤ x.til ∧ x.til ≤ 1099511627776 := by
  unfold itmOk momOk at h; simp at h
  exact ⟨h.1.1, h.1.2, h.2.1, h.2.2⟩
theorem keyOk_le {s : ByteArray} (h : keyOk s = true) : 1 ≤ s.size ∧ s.size ≤ 32 := by simpa [keyOk] using h

theorem addChange_any (base : Nat) (v : Value) (l : List UInt8) (c : Chg) (w : World) (hown : Own w base v l) (hbase : base ≤ w.heap.size) (hl : l.length ≤ 80000000) (hok : chgOk c = true) (hg : c.Good) :
    Calls Try.prog 41 #[v, c.val] w fun e w' => ∃ v', e = .returned v' ∧ Own w' base v' (l ++ chgB c) ∧ Grew w w' v v' := by
  have hten := chgOk_ten' hok
  have hto := chgOk_to hok
  obtain ⟨t, ht⟩ : ∃ t : Nat, c.tenant = (t : Int) := ⟨c.tenant.toNat, by omega⟩
  obtain ⟨q, hq⟩ : ∃ q : Nat, c.to = (q : Int) := ⟨c.to.toNat, by omega⟩
  have h1 := @chgOk_1 c hok
  have h2 := @chgOk_2 c hok
  have hkb := chgOk_kind hok
  have hgf := hg.flags
  have hgu := hg.unique
  clear hg hok
  obtain ⟨kind, tenant, item, key, why, to, primary⟩ := c
  simp only [] at hten hto ht hq h1 h2 hkb hgf hgu
  subst ht hq
  unfold Chg.val Chg.cells bcell chgB
  simp only [Int.toNat_natCast]
  have ht4 : t < 4 := by omega
  rcases (show kind.toNat = 1 ∨ kind.toNat = 2 ∨ kind.toNat = 3 ∨ kind.toNat = 4 ∨ kind.toNat = 5 ∨ kind.toNat = 6 ∨ kind.toNat = 7 by omega) with hk | hk | hk | hk | hk | hk | hk
  · obtain ⟨hi, _, _⟩ := h1 hk
    obtain ⟨ik, iv, i0, i1⟩ := itmOk_parts hi
    have e : ([kind] ++ (if hasTen kind.toNat then small t else []) ++ (if kind.toNat = 1 then itmB item else if kind.toNat = 2 then text key.data.toList ++ [why] else if kind.toNat = 4 ∨ kind.toNat = 5 ∨ kind.toNat = 7 then small q else if kind.toNat = 6 then small q ++ [truthB primary] else [])) = [kind] ++ small t ++ itmB item := by simp [hk, hasTen]
    rw [e]
    exact addChange1 base v l kind why t item key q primary w hown hbase hl hk ht4 (keyOk_le ik).2 iv hgf i0 i1 hgu
  · obtain ⟨_, hi, _, _⟩ := h2 hk
    have e : ([kind] ++ (if hasTen kind.toNat then small t else []) ++ (if kind.toNat = 1 then itmB item else if kind.toNat = 2 then text key.data.toList ++ [why] else if kind.toNat = 4 ∨ kind.toNat = 5 ∨ kind.toNat = 7 then small q else if kind.toNat = 6 then small q ++ [truthB primary] else [])) = [kind] ++ small t ++ (text key.data.toList ++ [why]) := by simp [hk, hasTen]
    rw [e]
    exact addChange2 base v l kind why t item key q primary w hown hbase hl hk ht4 (keyOk_le hi).2
  · have e : ([kind] ++ (if hasTen kind.toNat then small t else []) ++ (if kind.toNat = 1 then itmB item else if kind.toNat = 2 then text key.data.toList ++ [why] else if kind.toNat = 4 ∨ kind.toNat = 5 ∨ kind.toNat = 7 then small q else if kind.toNat = 6 then small q ++ [truthB primary] else [])) = [kind] ++ small t := by simp [hk, hasTen]
    rw [e]
    exact addChange3 base v l kind why t item key q primary w hown hbase hl hk ht4
  · have e : ([kind] ++ (if hasTen kind.toNat then small t else []) ++ (if kind.toNat = 1 then itmB item else if kind.toNat = 2 then text key.data.toList ++ [why] else if kind.toNat = 4 ∨ kind.toNat = 5 ∨ kind.toNat = 7 then small q else if kind.toNat = 6 then small q ++ [truthB primary] else [])) = [kind] ++ small q := by simp [hk, hasTen]
    rw [e]
    exact addChange4 base v l kind why t item key q primary w hown hbase hl hk (by simp [hk, mostTo] at hto; omega)
  · have e : ([kind] ++ (if hasTen kind.toNat then small t else []) ++ (if kind.toNat = 1 then itmB item else if kind.toNat = 2 then text key.data.toList ++ [why] else if kind.toNat = 4 ∨ kind.toNat = 5 ∨ kind.toNat = 7 then small q else if kind.toNat = 6 then small q ++ [truthB primary] else [])) = [kind] ++ small t ++ small q := by simp [hk, hasTen]
    rw [e]
    exact addChange5 base v l kind why t item key q primary w hown hbase hl hk ht4 (by simp [hk, mostTo] at hto; omega)
  · have e : ([kind] ++ (if hasTen kind.toNat then small t else []) ++ (if kind.toNat = 1 then itmB item else if kind.toNat = 2 then text key.data.toList ++ [why] else if kind.toNat = 4 ∨ kind.toNat = 5 ∨ kind.toNat = 7 then small q else if kind.toNat = 6 then small q ++ [truthB primary] else [])) = [kind] ++ (small q ++ [truthB primary]) := by simp [hk, hasTen]
    rw [e]
    exact addChange6 base v l kind why t item key q primary w hown hbase hl hk (by simp [hk, mostTo] at hto; omega)
  · have e : ([kind] ++ (if hasTen kind.toNat then small t else []) ++ (if kind.toNat = 1 then itmB item else if kind.toNat = 2 then text key.data.toList ++ [why] else if kind.toNat = 4 ∨ kind.toNat = 5 ∨ kind.toNat = 7 then small q else if kind.toNat = 6 then small q ++ [truthB primary] else [])) = [kind] ++ small q := by simp [hk, hasTen]
    rw [e]
    exact addChange7 base v l kind why t item key q primary w hown hbase hl hk (by simp [hk, mostTo] at hto; omega)

theorem itmB_len (x : Itm) (hk : x.key.size ≤ 32) (hv : x.value.size ≤ 512) : (itmB x).length ≤ 594 := by
  have e1 := small_len x.key.size
  have e2 := small_len x.value.size
  have e3 := small_len x.flags
  have e4 := small_len x.til.toNat
  have e5 := small_len x.unique
  simp [itmB, text]; omega
theorem chgB_len {c : Chg} (hok : chgOk c = true) : (chgB c).length ≤ 605 := by
  have e1 := small_len c.tenant.toNat
  have e2 := small_len c.to.toNat
  have hkb := chgOk_kind hok
  unfold chgB
  have hA : (if hasTen c.kind.toNat then small c.tenant.toNat else []).length ≤ 10 := by
    split
    · exact e1
    · simp
  simp only [List.length_append, List.length_singleton]
  have hB : (if c.kind.toNat = 1 then itmB c.item else if c.kind.toNat = 2 then text c.key.data.toList ++ [c.why] else if c.kind.toNat = 4 ∨ c.kind.toNat = 5 ∨ c.kind.toNat = 7 then small c.to.toNat else if c.kind.toNat = 6 then small c.to.toNat ++ [truthB c.primary] else []).length ≤ 594 := by
    split
    · next h =>
      obtain ⟨hi, _, _⟩ := chgOk_1 hok h
      obtain ⟨ik, iv, _, _⟩ := itmOk_parts hi
      exact itmB_len _ (keyOk_le ik).2 iv
    · split
      · next h =>
        obtain ⟨_, hi, _, _⟩ := chgOk_2 hok h
        have := (keyOk_le hi).2
        have e3 := small_len c.key.size
        simp [text]; omega
      · split
        · omega
        · split
          · simp; omega
          · simp
  omega
end Go.Proofs.Ytlhlleokehkolaa
