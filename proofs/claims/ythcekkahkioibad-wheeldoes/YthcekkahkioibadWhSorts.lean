/-
  The sort of names by their moments: its contract.
-/
import Derived.Test.YthcekkahkioibadWhBy
import Derived.Sort.OwnSorted
namespace Go.Proofs.Ythcekkahkioibad
open Go.RowKit Go.Shelf Go.Lib Go.Sort
set_option linter.unusedSimpArgs false
set_option linter.unusedVariables false
set_option maxRecDepth 100000

instance : Inhabited Nm := ⟨⟨0, ⟨#[]⟩⟩⟩
def sortT (D : List NU) : List NU := D.mergeSort (fun x y => !(ltOf cmpT y x))
theorem sortT_perm (D : List NU) : (sortT D).Perm D := List.mergeSort_perm _ _
theorem sortT_rise {D : List NU} (h : D.Pairwise (fun p q => p.1 ≠ q.1)) : (sortT D).Pairwise tlt := by
  have h1 : (sortT D).Pairwise (fun x y => (!(ltOf cmpT y x)) = true) := List.pairwise_mergeSort (fun a b c hab hbc => by
    rw [cmpT_lt] at *
    simp at *
    exact tlt_ntrans hbc hab) (fun a b => by
    rw [cmpT_lt, cmpT_lt]
    simp
    by_cases hba : tlt b a
    · exact .inr (fun hab => tlt_irrefl a (tlt_trans hab hba))
    · exact .inl hba) D
  have h2 : (sortT D).Pairwise (fun p q => p.1 ≠ q.1) := ((sortT_perm D).symm.pairwise_iff (fun {_ _} hne => Ne.symm hne)).1 h
  refine (h1.and h2).imp (fun {x y} hxy => ?_)
  obtain ⟨a, b⟩ := hxy
  rw [cmpT_lt] at a
  simp at a
  refine Classical.byContradiction fun hn => b ?_
  rw [tlt_total hn a]
theorem grownBy_sortK {w : World} {g n : Nat} {os : Array Obj} (d : Array NU) : w.grownBy (sortWorldK tcells 3 w g 0 n d os) (some g) := by
  unfold sortWorldK putRowK
  refine ⟨rfl, rfl, rfl, by simp, fun k hk hne => ?_⟩
  rw [heap_grow_old _ _ (by simpa using hk)]
  have : g ≠ k := fun e => hne (by rw [e])
  simp [putRow, mapBlock, Sort.ahead, Array.getElem?_modify, this]
theorem sort_any (w : World) (base : Nat) (v : Value) (D : List NU) (hT : OwnT w base v D) (hlen : D.length ≤ 100000000) :
    Calls Try.prog 40 #[v, .func (.func 41) #[] #[]] w fun e w' => e = .returned (.tuple #[]) ∧ w.grownBy w' v.ownBlock ∧ ∃ ao cap, v = .slice ao (sortT D).length cap ∧ (sortT D).length ≤ cap ∧ cap ≤ maxLen ∧ TAt w' ao (sortT D) := by
  have hSl : (sortT D).length = D.length := (sortT_perm D).length_eq
  rcases h2 : hT.2 with ⟨e1, hn⟩ | ⟨g, cap, cur, e1, hb, hg, hnc, hcm, hcs, htake⟩
  · have hD : D = [] := List.eq_nil_of_length_eq_zero hn
    subst hD e1
    refine (AnyF.slices_SortFunc_none Try.sortT none 0 (.func (.func 41) #[] #[]) w).mono ?_
    rintro e w' ⟨rfl, rfl⟩
    exact ⟨rfl, World.grownBy.refl _ _, none, 0, by rw [hSl]; rfl, by simp [sortT], by simp [maxLen], .inl (by simp [sortT])⟩
  · subst e1
    have hgl : g < w.heap.size := (Array.getElem?_eq_some_iff.1 hg).1
    have hH : HoldsK tcells 3 w g 0 D.toArray := by
      intro j hj
      have hj2 : j < D.length * 3 := by simpa using hj
      have hi : j / 3 < D.length := by omega
      refine ⟨?_, by simp [World.frozen?, hg]⟩
      have h1 := flatT_get D (j / 3) (j % 3) hi (by omega)
      rw [show j / 3 * 3 + j % 3 = j by omega] at h1
      have h3 := World.ownsRow.cells hT (g := g) rfl j _ h1
      rw [addr_add] at h3
      rw [h3, get_flatK _ _ _ _ (by simpa using hj2)]
      congr 1
      have e2 : D.toArray[j / 3]! = D[j / 3] := by simp [hi]
      rw [e2]
      show _ = id _
      have : j % 3 = 0 ∨ j % 3 = 1 ∨ j % 3 = 2 := by omega
      rcases this with h | h | h <;> simp [h, tcells]
    have eg : ∀ args w, (callFunc 41 args).run Try.prog w = .ok (.enter 41 args) w := enters_of Try.func41 (by kernel_rfl) rfl
    have hcon := AnyQ.slices_SortFunc_total Try.sortT 3 Try.isAgg85 Try.sizeOf85 tcells (fun _ => rfl) tcells_one cmpT cmpT_swo 41 #[] g 0 cap D.toArray w eg (fun _ _ _ _ x y => byMoment_any x y _) hH hgl (by simp; omega) cmpT_total
    have hl : D.toArray.size = D.length := by simp
    rw [hl] at hcon
    refine hcon.mono ?_
    rintro e w' ⟨rfl, n, os, rfl⟩
    refine ⟨rfl, grownBy_sortK _, some ⟨g, 0, none⟩, cap, by rw [hSl], by omega, hcm, .inr ⟨g, 0, rfl, ?_, fun i hi => ?_⟩⟩
    · exact Nat.lt_of_lt_of_le hgl (grownBy_sortK (w := w) (g := g) (n := n) (os := os) _).size
    · have hK := holdsK_sortWorldK_c tcells 3 w g 0 D.toArray (sortT D).toArray n os hH hgl (by simp [hSl])
      have e2 : (sortT D).toArray[i]! = (sortT D)[i] := by simp [hi]
      have a0 := (hK.cell (i := i) (c := 0) (by simpa using hi) (by omega)).1
      have a1 := (hK.cell (i := i) (c := 1) (by simpa using hi) (by omega)).1
      have a2 := (hK.cell (i := i) (c := 2) (by simpa using hi) (by omega)).1
      rw [e2] at a0 a1 a2
      exact ⟨a0, a1, a2⟩
end Go.Proofs.Ythcekkahkioibad
