/-
  The library's Split at a blank; cutItem of package words.
-/
import Derived.Test.YtihcnjbnlcgcoaaDoorWoI
namespace Go.Proofs.YtihcnjbnlcgcoaaDoor
open Go.Proofs.YtihcnjbnlcgcoaaDoor.It
open Go.RowKit
set_option linter.unusedSimpArgs false
set_option linter.unusedVariables false
set_option maxRecDepth 100000

theorem idx32 : ∀ l : List UInt8, (Lib.index l [32] = -1 ∧ ∀ c ∈ l, c ≠ 32) ∨ ∃ i : Nat, Lib.index l [32] = (i : Int) ∧ i < l.length ∧ l = l.take i ++ 32 :: l.drop (i + 1) ∧ ∀ c ∈ l.take i, c ≠ 32
  | [] => .inl ⟨rfl, by simp⟩
  | c :: l => by
    by_cases hc : c = 32
    · subst hc
      exact .inr ⟨0, by simp [Lib.index], by simp, by simp, by simp⟩
    · have hp : ([32] : List UInt8).isPrefixOf (c :: l) = false := by
        simp [List.isPrefixOf]
        exact fun h => hc h.symm
      rcases idx32 l with ⟨h1, h2⟩ | ⟨i, h1, h2, h3, h4⟩
      · refine .inl ⟨by simp [Lib.index, hp, h1], ?_⟩
        intro x hx
        rcases List.mem_cons.1 hx with rfl | hx
        · exact hc
        · exact h2 x hx
      · refine .inr ⟨i + 1, ?_, by simp; omega, ?_, ?_⟩
        · unfold Lib.index
          rw [hp, h1]
          have : ((i : Int) == -1) = false := by simp
          simp [this]
        · rw [List.take_succ_cons, List.drop_succ_cons, List.cons_append]
          exact congrArg (c :: ·) h3
        · intro x hx
          rw [List.take_succ_cons] at hx
          rcases List.mem_cons.1 hx with rfl | hx
          · exact hc
          · exact h4 x hx
theorem split_wsp : ∀ (n : Nat) (l : List UInt8), l.length = n → Lib.splitK [32] 0 (Lib.count l [32]) l = wsp l := by
  intro n
  induction n using Nat.strongRecOn with
  | ind n ih =>
    intro l hn
    rcases idx32 l with ⟨h1, h2⟩ | ⟨i, h1, h2, h3, h4⟩
    · rw [Lib.count_miss h1, wsp_plain l h2]
      rfl
    · rw [Lib.count_hit (by simp) h1, Nat.add_comm]
      have e : (Lib.index l [32] == -1) = false := by rw [h1]; simp
      have e2 : (Lib.index l [32]).toNat = i := by rw [h1]; rfl
      unfold Lib.splitK
      rw [e]
      simp only [Bool.false_eq_true, if_false, e2]
      rw [ih (l.drop (i + 1)).length (by simp; omega) (l.drop (i + ([32] : List UInt8).length)) rfl]
      conv => rhs; rw [h3]
      rw [wsp_app _ _ h4]
      rfl
theorem wsp_len : ∀ l : List UInt8, (wsp l).length ≤ l.length + 1
  | [] => by simp [wsp]
  | c :: l => by
    have ih := wsp_len l
    have hc := wsp_cons l
    unfold wsp
    split
    · simp; omega
    · have : (wsp l).length = (wsp l).tail.length + 1 := by rw [hc]; simp
      simp only [List.length_cons]
      omega
theorem wsp_count : ∀ (n : Nat) (l : List UInt8), l.length = n → Lib.count l [32] + 1 = (wsp l).length := by
  intro n
  induction n using Nat.strongRecOn with
  | ind n ih =>
    intro l hn
    rcases idx32 l with ⟨h1, h2⟩ | ⟨i, h1, h2, h3, h4⟩
    · rw [Lib.count_miss h1, wsp_plain l h2]
      rfl
    · rw [Lib.count_hit (by simp) h1]
      have := ih (l.drop (i + 1)).length (by simp; omega) (l.drop (i + 1)) rfl
      conv => rhs; rw [h3]
      rw [wsp_app _ _ h4]
      show 1 + Lib.count (l.drop (i + 1)) [32] + 1 = (wsp (l.drop (i + 1))).length + 1
      omega
theorem wsp_mem_len : ∀ (l : List UInt8), ∀ x ∈ wsp l, x.length ≤ l.length
  | [], x, h => by simp [wsp] at h; subst h; simp
  | c :: l, x, h => by
    have ih := wsp_mem_len l
    have hc := wsp_cons l
    unfold wsp at h
    split at h
    · rcases List.mem_cons.1 h with rfl | h
      · simp
      · have := ih x h; simp; omega
    · rcases List.mem_cons.1 h with rfl | h
      · have := ih ((wsp l).headD []) (by rw [hc]; simp)
        simp only [List.length_cons]; omega
      · have := ih x (by rw [hc]; exact List.mem_cons_of_mem _ h)
        simp; omega
theorem splitB_lw (s : ByteArray) : Lib.splitB ⟨#[32]⟩ 0 (Lib.countB s ⟨#[32]⟩) s = lw (bl s) := by
  have h := Lib.splitB_data ⟨#[32]⟩ 0 (Lib.countB s ⟨#[32]⟩) s
  have h2 : Lib.splitK [32] 0 (Lib.count (bl s) [32]) (bl s) = wsp (bl s) := split_wsp _ (bl s) rfl
  have h3 : (Lib.splitB ⟨#[32]⟩ 0 (Lib.countB s ⟨#[32]⟩) s).map bl = wsp (bl s) := h.trans h2
  unfold lw
  rw [← h3, List.map_map]
  have : (mkB ∘ bl) = id := by funext x; exact mk_bl x
  rw [this, List.map_id]
theorem countB_lw (s : ByteArray) : Lib.countB s ⟨#[32]⟩ + 1 = (lw (bl s)).length := by
  have h : Lib.count (bl s) [32] + 1 = (wsp (bl s)).length := wsp_count _ (bl s) rfl
  unfold lw
  rw [List.length_map]
  exact h
theorem wsplit_any (s : ByteArray) (V : World) (hs : s.size ≤ 600) (hg : Gw V) :
    Calls Tryd.prog 42 #[.string s, .string ⟨#[32]⟩] V fun e V' => e = .returned (.slice (some ⟨V.heap.size, 0, none⟩) (lw (bl s)).length (lw (bl s)).length) ∧ GRd ES V' (some ⟨V.heap.size, 0, none⟩) (lw (bl s)) (lw (bl s)).length ∧ Below V.heap.size V V' := by
  obtain ⟨mx, hmx⟩ := hg.ml
  have c := Any.strings_Split Tryd.laySplit (by kernel_rfl) s ⟨#[32]⟩ mx V (by omega) hmx (by decide)
  rw [countB_lw, splitB_lw] at c
  refine c.mono ?_
  rintro e V' ⟨rfl, rfl⟩
  refine ⟨rfl, ⟨Nat.le_refl _, ?_, (fun e => by cases e), ?_⟩, g_alloc _ _⟩
  · have h1 := wsp_len (bl s)
    unfold lw
    rw [List.length_map]
    rw [bl_len] at h1
    omega
  · refine .inr ⟨V.heap.size, 0, rfl, by show _ < _; simp, fun i hi j hj => ?_⟩
    have hj0 : j = 0 := by have : j < 1 := hj; omega
    subst hj0
    have h2 : i < ((lw (bl s)).map Value.string).length := by simpa using hi
    show World.cell? (V.alloc _) ⟨V.heap.size, 0 + i * 1 + 0, none⟩ = _
    rw [show 0 + i * 1 + 0 = i by omega]
    simp [ES, hi]
end Go.Proofs.YtihcnjbnlcgcoaaDoor
