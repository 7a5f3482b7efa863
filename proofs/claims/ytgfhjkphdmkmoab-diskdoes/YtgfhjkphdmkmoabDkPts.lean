/-
  Lists of writes in memory.
-/
import Derived.Test.YtgfhjkphdmkmoabDkCalls
namespace Go.Proofs.Ytgfhjkphdmkmoab
open Go.RowKit
set_option linter.unusedSimpArgs false
set_option linter.unusedVariables false
set_option maxRecDepth 100000

/-- a write's two cells -/
def PtLies (w : World) (B : Nat) (b o : Nat) (p : Pt) : Prop :=
  w.cell? ⟨b, o, none⟩ = some (.int .i64 p.n) ∧ ∃ v, w.cell? ⟨b, o + 1, none⟩ = some v ∧ DtAt w B v p.data
theorem PtLies.below {w w' : World} {B B' b o : Nat} {p : Pt} (h : PtLies w B b o p) (hb : Below B w w') (hlt : b < B) (hB : B ≤ B') : PtLies w' B' b o p := by
  obtain ⟨h1, v, h2, h3⟩ := h
  exact ⟨(hb.cell (p := ⟨b, o, none⟩) hlt).trans h1, v, (hb.cell (p := ⟨b, o + 1, none⟩) hlt).trans h2, h3.below hb hB⟩
/-- the writes ps lie at the address, below block B -/
def PtAt (w : World) (B : Nat) (ao : Option Addr) (ps : List Pt) : Prop :=
  ps = [] ∨ ∃ b off, ao = some ⟨b, off, none⟩ ∧ b < B ∧ ∀ i (hi : i < ps.length), PtLies w B b (off + i * 2) ps[i]
theorem PtAt.below {w w' : World} {B B' : Nat} {ao : Option Addr} {ps : List Pt} (h : PtAt w B ao ps) (hb : Below B w w') (hB : B ≤ B') : PtAt w' B' ao ps := by
  rcases h with rfl | ⟨b, off, rfl, hlt, hc⟩
  · exact .inl rfl
  · exact .inr ⟨b, off, rfl, by omega, fun i hi => (hc i hi).below hb hlt hB⟩

/-- Do, of no disk that may be -/
theorem do_bad (w : World) (ao : Option Addr) (d : List UInt8) (cap : Nat) (hL : d.length ≤ 9223372036854775807) (po : Option Addr) (ps : List Pt) (pc : Nat) (m : Int) (k1 : dOk d.length = false) :
    Calls Try.prog 26 #[.agg #[.slice ao d.length cap], .slice po ps.length pc, .int .i64 m] w fun e w' => ∃ v', e = .returned (.tuple #[.agg #[v'], .int .i64 (doE d.length ps m)]) ∧ Fresh w' w.heap.size v' (doB d ps m) ∧ Below w.heap.size w w' := by
  have e1 : dE d.length = 20 := by unfold dE; rw [if_neg (by simp [k1])]
  have e2 : doE d.length ps m = 20 := by unfold doE; rw [if_pos k1]
  have e3 : doB d ps m = [] := by unfold doB; rw [if_neg (by rw [e2]; decide)]
  rw [e2, e3]
  have hc := fun W => check_any ao d.length cap W hL
  rw [e1] at hc
  clear e1 e2 e3 k1
  go_enter Try.func26, Try.ntmps26
  go_wp2_with (go_at_call 29; refine (hc _).mono ?_; rintro e w1 ⟨rfl, hb1⟩; have hc1 := below_cells hb1; have hf1 := below_frozen hb1)
  have z : w1.cell? ⟨w.heap.size + 1, 0, none⟩ = some (.slice none 0 0) := by rw [hc1 _ _ (by simp)]; simp
  have z0 : (w1.setCell ⟨w.heap.size + 1, 0, none⟩ (.slice none 0 0)).cell? ⟨w.heap.size + 1, 0, none⟩ = some (.slice none 0 0) := World.cell?_setCell_same _ _ _ z
  try simp only [Exit.inBlock, Exit.then]
  refine bodyPost_ret (v := .tuple #[.agg #[.slice none 0 0], .int .i64 20]) (by simp [results, Try.results26, go_sem, z0]) rfl ⟨_, rfl, Fresh.nil _ _, ?_⟩
  exact (below_alloc (below_alloc hb1)).setCell (by simp) _
end Go.Proofs.Ytgfhjkphdmkmoab
