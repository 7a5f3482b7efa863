/-
  Disks and writes as data: what Check, Do and Left answer, and that parts come to the whole.
-/
import Derived.Test.YtgfhjkphdmkmoabMem
namespace Go.Proofs.Ytgfhjkphdmkmoab
set_option linter.unusedSimpArgs false
set_option linter.unusedVariables false

structure Pt where
  n : Int
  data : List UInt8
/-- P2.1: a disk of so many bytes may be -/
def dOk (L : Nat) : Bool := decide (64 ≤ L ∧ L ≤ 262144 ∧ L % 64 = 0)
def dE (L : Nat) : Int := if dOk L = true then 0 else 20
/-- the number of a block -/
def inD (L : Nat) (n : Int) : Bool := decide (0 ≤ n ∧ n < ((L / 64 : Nat) : Int))
/-- P2.2: what is wrong with a write -/
def ptE (L : Nat) (p : Pt) : Int := if inD L p.n = false then 2 else if p.data.length ≠ 64 then 3 else 0
def ptsE (L : Nat) : List Pt → Int
  | [] => 0
  | p :: ps => if ptE L p = 0 then ptsE L ps else ptE L p
def cutOk (n : Nat) (m : Int) : Bool := decide (0 ≤ m ∧ m ≤ (n : Int))
/-- P2.3: what Do answers -/
def doE (L : Nat) (ps : List Pt) (m : Int) : Int := if dOk L = false then 20 else if ptsE L ps ≠ 0 then ptsE L ps else if cutOk ps.length m = false then 2 else 0
def put1 (d : List UInt8) (p : Pt) : List UInt8 := d.take (64 * p.n.toNat) ++ p.data ++ d.drop (64 * p.n.toNat + p.data.length)
def puts (d : List UInt8) (ps : List Pt) : List UInt8 := ps.foldl put1 d
def doB (d : List UInt8) (ps : List Pt) (m : Int) : List UInt8 := if doE d.length ps m = 0 then puts d (ps.take m.toNat) else []
/-- P2.3: what Left answers -/
def leftE (ps : List Pt) (m : Int) : Int := if cutOk ps.length m = false then 2 else 0
def leftP (ps : List Pt) (m : Int) : List Pt := if cutOk ps.length m = false then [] else ps.drop m.toNat

theorem ptE_zero {L : Nat} {p : Pt} (h : ptE L p = 0) : 0 ≤ p.n ∧ 64 * p.n.toNat + 64 ≤ L ∧ p.data.length = 64 := by
  unfold ptE inD at h
  split at h
  · omega
  · split at h
    · omega
    · rename_i h1 h2
      simp at h1
      have : p.data.length = 64 := by omega
      exact ⟨h1.1, by omega, this⟩
theorem put1_len {d : List UInt8} {p : Pt} (h : ptE d.length p = 0) : (put1 d p).length = d.length := by
  have := ptE_zero h
  simp [put1]; omega
theorem ptsE_zero {L : Nat} : ∀ {ps : List Pt}, ptsE L ps = 0 ↔ ∀ p ∈ ps, ptE L p = 0
  | [] => by simp [ptsE]
  | p :: ps => by
    unfold ptsE
    split
    · rename_i h
      rw [ptsE_zero]; simp [h]
    · rename_i h
      simp [h]
theorem ptsE_drop {L : Nat} {ps : List Pt} : ∀ (k : Nat), (∀ i (hi : i < ps.length), i < k → ptE L ps[i] = 0) → ptsE L ps = ptsE L (ps.drop k)
  | 0, _ => by simp
  | k + 1, h => by
    cases ps with
    | nil => simp
    | cons p ps =>
      have h0 := h 0 (by simp) (by omega)
      simp at h0
      rw [List.drop_succ_cons, ptsE, if_pos h0]
      exact ptsE_drop k (fun i hi hk => by
        have := h (i + 1) (by simp; omega) (by omega)
        simpa using this)
theorem ptsE_at {L : Nat} {ps : List Pt} {k : Nat} (hk : k < ps.length) (h : ∀ i (hi : i < ps.length), i < k → ptE L ps[i] = 0) (hb : ptE L ps[k] ≠ 0) : ptsE L ps = ptE L ps[k] := by
  rw [ptsE_drop k h, List.drop_eq_getElem_cons hk, ptsE, if_neg hb]
theorem puts_len : ∀ {ps : List Pt} {d : List UInt8}, (∀ p ∈ ps, ptE d.length p = 0) → (puts d ps).length = d.length
  | [], _, _ => rfl
  | p :: ps, d, h => by
    have h1 := put1_len (h p (by simp))
    have : puts d (p :: ps) = puts (put1 d p) ps := rfl
    rw [this, puts_len (ps := ps) (d := put1 d p) (fun q hq => by rw [h1]; exact h q (by simp [hq])), h1]
theorem puts_snoc {d : List UInt8} {ps : List Pt} {k : Nat} (hk : k < ps.length) : puts d (ps.take (k + 1)) = put1 (puts d (ps.take k)) ps[k] := by
  unfold puts
  rw [List.take_succ_eq_append_getElem hk, List.foldl_append]; rfl
theorem doE_cases (L : Nat) (ps : List Pt) (m : Int) :
    (dOk L = false ∧ doE L ps m = 20) ∨ (dOk L = true ∧ ptsE L ps ≠ 0 ∧ doE L ps m = ptsE L ps) ∨ (dOk L = true ∧ ptsE L ps = 0 ∧ cutOk ps.length m = false ∧ doE L ps m = 2) ∨
    (dOk L = true ∧ ptsE L ps = 0 ∧ cutOk ps.length m = true ∧ doE L ps m = 0) := by
  unfold doE
  by_cases h1 : dOk L = false
  · exact .inl ⟨h1, by rw [if_pos h1]⟩
  · have h1' : dOk L = true := by simpa using h1
    by_cases h2 : ptsE L ps ≠ 0
    · exact .inr (.inl ⟨h1', h2, by rw [if_neg h1, if_pos h2]⟩)
    · by_cases h3 : cutOk ps.length m = false
      · exact .inr (.inr (.inl ⟨h1', by simpa using h2, h3, by rw [if_neg h1, if_neg h2, if_pos h3]⟩))
      · exact .inr (.inr (.inr ⟨h1', by simpa using h2, by simpa using h3, by rw [if_neg h1, if_neg h2, if_neg h3]⟩))
theorem cutOk_all (n : Nat) : cutOk n n = true := by simp [cutOk]
/-- P2.5: some of the writes, and then those that are left, come to all -/
theorem parts {d : List UInt8} {ps : List Pt} {m : Int} (h : doE d.length ps m = 0) :
    doE d.length ps ps.length = 0 ∧ doE (doB d ps m).length (leftP ps m) (leftP ps m).length = 0 ∧ doB (doB d ps m) (leftP ps m) (leftP ps m).length = doB d ps ps.length ∧ leftE ps m = 0 ∧ ((leftP ps m).length : Int) = ps.length - m := by
  rcases doE_cases d.length ps m with ⟨_, e⟩ | ⟨_, h2, e⟩ | ⟨_, _, _, e⟩ | ⟨h1, h2, h3, _⟩
  · omega
  · omega
  · omega
  · have hall : doE d.length ps ps.length = 0 := by
      unfold doE; rw [if_neg (by simp [h1]), if_neg (by simp [h2]), if_neg (by simp [cutOk_all])]
    have hm : 0 ≤ m ∧ m ≤ (ps.length : Int) := by simpa [cutOk] using h3
    have hz := ptsE_zero.1 h2
    have hl : leftP ps m = ps.drop m.toNat := by unfold leftP; rw [if_neg (by simp [h3])]
    have hb : doB d ps m = puts d (ps.take m.toNat) := by unfold doB; rw [if_pos h]
    have hlen : (doB d ps m).length = d.length := by rw [hb]; exact puts_len (fun p hp => hz p (List.mem_of_mem_take hp))
    have hle : doE (doB d ps m).length (leftP ps m) (leftP ps m).length = 0 := by
      rw [hlen, hl]
      unfold doE
      rw [if_neg (by simp [h1]), if_neg (by
        have : ptsE d.length (ps.drop m.toNat) = 0 := ptsE_zero.2 (fun p hp => hz p (List.mem_of_mem_drop hp))
        simp [this]), if_neg (by simp [cutOk_all])]
    refine ⟨hall, hle, ?_, by unfold leftE; rw [if_neg (by simp [h3])], by rw [hl]; simp; omega⟩
    have e1 : doB (doB d ps m) (leftP ps m) (leftP ps m).length = puts (doB d ps m) (leftP ps m) := by
      unfold doB at hle ⊢
      rw [if_pos hle]; simp
    have e2 : doB d ps ps.length = puts d ps := by
      unfold doB
      rw [if_pos hall]; simp
    rw [e1, e2, hb, hl]
    unfold puts
    rw [← List.foldl_append, List.take_append_drop]
theorem parts_bad {L : Nat} {ps : List Pt} {m : Int} (h : doE L ps m ≠ 0) : doE L ps ps.length = doE L ps m ∨ (doE L ps ps.length = 0 ∧ doE L ps m = 2 ∧ leftE ps m = 2) := by
  rcases doE_cases L ps m with ⟨h1, e⟩ | ⟨h1, h2, e⟩ | ⟨h1, h2, h3, e⟩ | ⟨h1, h2, h3, e⟩
  · left; rw [e]; unfold doE; rw [if_pos h1]
  · left; rw [e]; unfold doE; rw [if_neg (by simp [h1]), if_pos h2]
  · right
    refine ⟨?_, e, by unfold leftE; rw [if_pos h3]⟩
    unfold doE; rw [if_neg (by simp [h1]), if_neg (by simp [h2]), if_neg (by simp [cutOk_all])]
  · exact absurd e h
end Go.Proofs.Ytgfhjkphdmkmoab
