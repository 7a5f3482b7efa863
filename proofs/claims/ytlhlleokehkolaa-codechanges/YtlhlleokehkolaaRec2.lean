/-
  A change is read again as it was written, and nothing else is read as one: plain lists.
-/
import Derived.Test.YtlhlleokehkolaaRec
namespace Go.Proofs.Ytlhlleokehkolaa
open Go.RowKit
set_option linter.unusedSimpArgs false
set_option linter.unusedVariables false

theorem sChange_inv {s : St} (h : (sChange s).2.bad = false) (hok : chgOk (sChange s).1 = true) : s.bad = false ∧ s.l = chgB (sChange s).1 ++ (sChange s).2.l ∧ (sChange s).1.Good := by
  have hz : zItm.flags ≤ 4294967295 ∧ Fits zItm.unique := ⟨by decide, by unfold Fits; decide⟩
  unfold sChange at h hok ⊢
  by_cases h1 : (sSingle s).1.toNat = 1
  · rw [if_pos h1] at h hok ⊢
    unfold sChange1 at h ⊢
    simp only [] at h ⊢
    obtain ⟨a3, b3, c3, d3⟩ := sItem_inv h
    obtain ⟨a2, b2, c2, _⟩ := sSmall_inv a3
    obtain ⟨a1, b1⟩ := sSingle_inv a2
    refine ⟨a1, ?_, ⟨c3, d3⟩⟩
    simp only [chgB, h1, hasTen, Int.toNat_natCast]
    simp only [List.append_assoc]
    rw [b1, b2, b3]
    simp
  rw [if_neg h1] at h hok ⊢
  by_cases h2 : (sSingle s).1.toNat = 2
  · rw [if_pos h2] at h hok ⊢
    unfold sChange2 at h ⊢
    simp only [] at h ⊢
    obtain ⟨a4, b4⟩ := sSingle_inv h
    obtain ⟨a3, b3⟩ := sText_inv a4
    obtain ⟨a2, b2, c2, _⟩ := sSmall_inv a3
    obtain ⟨a1, b1⟩ := sSingle_inv a2
    refine ⟨a1, ?_, ⟨hz.1, hz.2⟩⟩
    simp only [chgB, h2, hasTen, Int.toNat_natCast]
    simp only [List.append_assoc]
    rw [b1, b2, b3, b4]
    simp
  rw [if_neg h2] at h hok ⊢
  by_cases h3 : (sSingle s).1.toNat = 3
  · rw [if_pos h3] at h hok ⊢
    unfold sChange3 at h ⊢
    simp only [] at h ⊢
    obtain ⟨a2, b2, c2, _⟩ := sSmall_inv h
    obtain ⟨a1, b1⟩ := sSingle_inv a2
    refine ⟨a1, ?_, ⟨hz.1, hz.2⟩⟩
    simp only [chgB, h3, hasTen, Int.toNat_natCast]
    simp only [List.append_assoc]
    rw [b1, b2]
    simp
  rw [if_neg h3] at h hok ⊢
  by_cases h4 : (sSingle s).1.toNat = 4
  · rw [if_pos h4] at h hok ⊢
    unfold sChange4 at h ⊢
    simp only [] at h ⊢
    obtain ⟨a2, b2, c2, _⟩ := sSmall_inv h
    obtain ⟨a1, b1⟩ := sSingle_inv a2
    refine ⟨a1, ?_, ⟨hz.1, hz.2⟩⟩
    simp only [chgB, h4, hasTen, Int.toNat_natCast]
    simp only [List.append_assoc]
    rw [b1, b2]
    simp
  rw [if_neg h4] at h hok ⊢
  by_cases h5 : (sSingle s).1.toNat = 5
  · rw [if_pos h5] at h hok ⊢
    unfold sChange5 at h ⊢
    simp only [] at h ⊢
    obtain ⟨a3, b3, c3, _⟩ := sSmall_inv h
    obtain ⟨a2, b2, c2, _⟩ := sSmall_inv a3
    obtain ⟨a1, b1⟩ := sSingle_inv a2
    refine ⟨a1, ?_, ⟨hz.1, hz.2⟩⟩
    simp only [chgB, h5, hasTen, Int.toNat_natCast]
    simp only [List.append_assoc]
    rw [b1, b2, b3]
    simp
  rw [if_neg h5] at h hok ⊢
  by_cases h6 : (sSingle s).1.toNat = 6
  · rw [if_pos h6] at h hok ⊢
    unfold sChange6 at h ⊢
    simp only [] at h ⊢
    obtain ⟨a3, b3⟩ := sTruth_inv h
    obtain ⟨a2, b2, c2, _⟩ := sSmall_inv a3
    obtain ⟨a1, b1⟩ := sSingle_inv a2
    refine ⟨a1, ?_, ⟨hz.1, hz.2⟩⟩
    simp only [chgB, h6, hasTen, Int.toNat_natCast]
    simp only [List.append_assoc]
    rw [b1, b2, b3]
    simp
  rw [if_neg h6] at h hok ⊢
  by_cases h7 : (sSingle s).1.toNat = 7
  · rw [if_pos h7] at h hok ⊢
    unfold sChange7 at h ⊢
    simp only [] at h ⊢
    obtain ⟨a2, b2, c2, _⟩ := sSmall_inv h
    obtain ⟨a1, b1⟩ := sSingle_inv a2
    refine ⟨a1, ?_, ⟨hz.1, hz.2⟩⟩
    simp only [chgB, h7, hasTen, Int.toNat_natCast]
    simp only [List.append_assoc]
    rw [b1, b2]
    simp
  rw [if_neg h7] at h hok ⊢
  exfalso
  have := chgOk_kind hok
  unfold sChange0 at this
  simp only [] at this
  omega
end Go.Proofs.Ytlhlleokehkolaa
