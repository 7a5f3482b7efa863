/-
  Names that are gathered (the slice that owns them), and the sort of names: its contract.
-/
import Derived.Test.YtlomciinkpecpaaTbRise
import Derived.Sort.OwnSorted
namespace Go.Proofs.Ytlomciinkpecpaa
open Go.RowKit Go.Shelf Go.Lib Go.Sort
set_option linter.unusedSimpArgs false
set_option linter.unusedVariables false
set_option maxRecDepth 100000

def ncells (y : Nm) : List Value := [.int .i64 y.tenant, .string y.key]
theorem ncells_len (y : Nm) : (ncells y).length = 2 := rfl
theorem ncells_one (ns : List Nm) : ∀ u ∈ ns.flatMap ncells, u.oneCell' = true := by
  intro u hu
  obtain ⟨y, _, h⟩ := List.mem_flatMap.1 hu
  simp only [ncells, List.mem_cons, List.not_mem_nil, or_false] at h
  rcases h with rfl | rfl <;> rfl
theorem flatN_len (ns : List Nm) : (ns.flatMap ncells).length = ns.length * 2 := by
  induction ns with
  | nil => rfl
  | cons y ns ih => rw [List.flatMap_cons, List.length_append, ih, ncells_len, List.length_cons]; omega
theorem flatN_get (T : List Nm) (i j : Nat) (hi : i < T.length) (hj : j < 2) : (T.flatMap ncells)[i * 2 + j]? = some ((ncells T[i])[j]'(by rw [ncells_len]; exact hj)) := by
  induction T generalizing i with
  | nil => simp at hi
  | cons c T ih =>
    rw [List.flatMap_cons]
    cases i with
    | zero =>
      rw [List.getElem?_append_left (by rw [ncells_len]; omega)]
      simp [ncells_len, hj]
    | succ i =>
      rw [List.getElem?_append_right (by rw [ncells_len]; omega), ncells_len, show (i + 1) * 2 + j - 2 = i * 2 + j by omega]
      exact ih i (by simpa using hi)
/-- the slice v owns the names ns, in a block from base on -/
def OwnN (w : World) (base : Nat) (v : Value) (ns : List Nm) : Prop := w.ownsRow base 28 2 v ns.length (ns.flatMap ncells)
theorem OwnN.nil (w : World) (base : Nat) : OwnN w base (.slice none 0 0) [] := World.ownsRow_nil w base _ 2

theorem OwnN.lt {w : World} {base : Nat} {v : Value} {T : List Nm} (h : OwnN w base v T) (g : Nat) (hg : v.ownBlock = some g) : base ≤ g ∧ g < w.heap.size := World.ownsRow.lt h g hg
theorem OwnN.same {w w' : World} {base : Nat} {v : Value} {T : List Nm} (h : OwnN w base v T) (e : ∀ g, v.ownBlock = some g → w'.heap[g]? = w.heap[g]?) : OwnN w' base v T := ⟨h.1, by
  rcases h.2 with h1 | ⟨g, cap, cur, h1, h2, h3, h4⟩
  · exact .inl h1
  · exact .inr ⟨g, cap, cur, h1, h2, (e g (by rw [h1]; rfl)).trans h3, h4⟩⟩
theorem OwnN.kept {w w' : World} {base : Nat} {v : Value} {T : List Nm} (hT : OwnN w base v T) {F : Nat → Prop} (hk : Kept F w w') (hF : ∀ g, v.ownBlock = some g → ¬ F g) : OwnN w' base v T :=
  hT.same (fun g hg => hk.block g (hT.lt g hg).2 (hF g hg))
theorem OwnN.below {w w' : World} {base : Nat} {v : Value} {T : List Nm} (hT : OwnN w base v T) (hb : Below w.heap.size w w') : OwnN w' base v T := hT.same (fun g hg => hb.block g (hT.lt g hg).2)
theorem Try.infoName : (Try.prog.info? 28).map (fun i => (i.zero, i.size, i.bytes)) = some (some (.agg #[.int .i64 0, .string ⟨#[]⟩]), 2, 24) := by kernel_rfl
instance : Inhabited Nm := ⟨⟨0, ⟨#[]⟩⟩⟩
def sortN (D : List Nm) : List Nm := D.mergeSort (fun x y => !(ltOf cmpN y x))
theorem sortN_perm (D : List Nm) : (sortN D).Perm D := List.mergeSort_perm _ _
theorem sortN_len (D : List Nm) : (sortN D).length = D.length := (sortN_perm D).length_eq
theorem sortN_rise {D : List Nm} (h : D.Pairwise (fun p q => p ≠ q)) : (sortN D).Pairwise nlt := by
  have h1 : (sortN D).Pairwise (fun x y => (!(ltOf cmpN y x)) = true) := List.pairwise_mergeSort (fun a b c hab hbc => by
    rw [cmpN_lt] at *
    simp at *
    exact nlt_ntrans hbc hab) (fun a b => by
    rw [cmpN_lt, cmpN_lt]
    simp
    by_cases hba : nlt b a
    · exact .inr (fun hab => nlt_irrefl a (nlt_trans hab hba))
    · exact .inl hba) D
  have h2 : (sortN D).Pairwise (fun p q => p ≠ q) := ((sortN_perm D).symm.pairwise_iff (fun {_ _} hne => Ne.symm hne)).1 h
  refine (h1.and h2).imp (fun {x y} hxy => ?_)
  obtain ⟨a, b⟩ := hxy
  rw [cmpN_lt] at a
  simp at a
  refine Classical.byContradiction fun hn => b ?_
  rw [nlt_total hn a]
theorem grownBy_sortN {w : World} {g n : Nat} {os : Array Obj} (d : Array Nm) : w.grownBy (sortWorldK ncells 2 w g 0 n d os) (some g) := by
  unfold sortWorldK putRowK
  refine ⟨rfl, rfl, rfl, by simp, fun k hk hne => ?_⟩
  rw [heap_grow_old _ _ (by simpa using hk)]
  have : g ≠ k := fun e => hne (by rw [e])
  simp [putRow, mapBlock, Sort.ahead, Array.getElem?_modify, this]
/-- names lie at the address -/
def NsAt (w : World) (ao : Option Addr) (ns : List Nm) : Prop :=
  ns = [] ∨ ∃ b, ao = some ⟨b, 0, none⟩ ∧ b < w.heap.size ∧ ∀ i (hi : i < ns.length), w.cell? ⟨b, i * 2, none⟩ = some (.int .i64 ns[i].tenant) ∧ w.cell? ⟨b, i * 2 + 1, none⟩ = some (.string ns[i].key)
theorem sort_any (w : World) (base : Nat) (v : Value) (D : List Nm) (hT : OwnN w base v D) (hlen : D.length ≤ 100000000) :
    Calls Try.prog 27 #[v, .func (.func 28) #[] #[]] w fun e w' => e = .returned (.tuple #[]) ∧ w.grownBy w' v.ownBlock ∧ ∃ ao cap, v = .slice ao (sortN D).length cap ∧ (sortN D).length ≤ cap ∧ cap ≤ maxLen ∧ NsAt w' ao (sortN D) := by
  have hSl : (sortN D).length = D.length := (sortN_perm D).length_eq
  rcases h2 : hT.2 with ⟨e1, hn⟩ | ⟨g, cap, cur, e1, hb, hg, hnc, hcm, hcs, htake⟩
  · have hD : D = [] := List.eq_nil_of_length_eq_zero hn
    subst hD e1
    refine (AnyF.slices_SortFunc_none Try.sortN none 0 (.func (.func 28) #[] #[]) w).mono ?_
    rintro e w' ⟨rfl, rfl⟩
    exact ⟨rfl, World.grownBy.refl _ _, none, 0, by rw [hSl]; rfl, by simp [sortN], by simp [maxLen], .inl (by simp [sortN])⟩
  · subst e1
    have hgl : g < w.heap.size := (Array.getElem?_eq_some_iff.1 hg).1
    have hH : HoldsK ncells 2 w g 0 D.toArray := by
      intro j hj
      have hj2 : j < D.length * 2 := by simpa using hj
      have hi : j / 2 < D.length := by omega
      refine ⟨?_, by simp [World.frozen?, hg]⟩
      have h1 := flatN_get D (j / 2) (j % 2) hi (by omega)
      rw [show j / 2 * 2 + j % 2 = j by omega] at h1
      have h3 := World.ownsRow.cells hT (g := g) rfl j _ h1
      rw [addr_add] at h3
      rw [h3, get_flatK _ _ _ _ (by simpa using hj2)]
      congr 1
      have e2 : D.toArray[j / 2]! = D[j / 2] := by simp [hi]
      rw [e2]
      show _ = id _
      have : j % 2 = 0 ∨ j % 2 = 1 := by omega
      rcases this with h | h <;> simp [h, ncells]
    have eg : ∀ args w, (callFunc 28 args).run Try.prog w = .ok (.enter 28 args) w := enters_of Try.func28 (by kernel_rfl) rfl
    have hcon := AnyQ.slices_SortFunc_total Try.sortN 2 Try.isAgg28 Try.sizeOf28 ncells (fun _ => rfl) (fun y u hu => ncells_one [y] u (by simpa using hu)) cmpN cmpN_swo 28 #[] g 0 cap D.toArray w eg (fun _ _ _ _ x y => rising_any x y _) hH hgl (by simp; omega) cmpN_total
    have hl : D.toArray.size = D.length := by simp
    rw [hl] at hcon
    refine hcon.mono ?_
    rintro e w' ⟨rfl, n, os, rfl⟩
    refine ⟨rfl, grownBy_sortN _, some ⟨g, 0, none⟩, cap, by rw [hSl], by omega, hcm, .inr ⟨g, rfl, ?_, fun i hi => ?_⟩⟩
    · exact Nat.lt_of_lt_of_le hgl (grownBy_sortN (w := w) (g := g) (n := n) (os := os) _).size
    · have hK := holdsK_sortWorldK_c ncells 2 w g 0 D.toArray (sortN D).toArray n os hH hgl (by simp [hSl])
      have e2 : (sortN D).toArray[i]! = (sortN D)[i] := by simp [hi]
      have a0 := (hK.cell (i := i) (c := 0) (by simpa using hi) (by omega)).1
      have a1 := (hK.cell (i := i) (c := 1) (by simpa using hi) (by omega)).1
      rw [e2] at a0 a1
      simp only [Nat.zero_add] at a0 a1
      exact ⟨a0, a1⟩
end Go.Proofs.Ytlomciinkpecpaa
