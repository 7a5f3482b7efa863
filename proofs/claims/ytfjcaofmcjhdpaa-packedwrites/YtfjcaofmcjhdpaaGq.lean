/-
  (shaken)
-/
import Derived.Test.YtfjcaofmcjhdpaaGr
import Derived.Deep.QuietTactic
import Derived.BigQuiet
namespace Go.Proofs.Ytfjcaofmcjhdpaa
open Go.RowKit
set_option linter.unusedSimpArgs false
set_option linter.unusedVariables false
set_option maxRecDepth 100000

/-- a world behind w: nothing that lay is turned -/
structure Beh (w : World) where
  v : World
  ok : Below w.heap.size w v
instance (w : World) : Inhabited (Beh w) := ⟨⟨w, Below.refl _ _⟩⟩
theorem wp_region_quiet_beh {P : Program} {id : Nat} {Q : Exit → Act → World → Prop} {a : Act} {w : World} {l : List Oper} (hm : P.follows .mixedOrders = true) (hB : Region.lexB .any l.toArray = true)
    (h : wpQuiet P l.toArray (fun w' => ∃ p : Beh w, w' = p.v) (fun a' => ∀ w', (∃ p : Beh w, w' = p.v) → Q .normal a' w') l a) : (Code.region id l.toArray true).wp P Q a w :=
  wp_region_quiet (C := fun w' => ∃ p : Beh w, w' = p.v) hm hB ⟨⟨w.drew, (Below.refl _ _).drew⟩, rfl⟩ (by simpa using h)
theorem cell_beh {w : World} {a : Addr} {v : Value} (hb : a.block < w.heap.size) (h : w.cell? a = some v) (p : Beh w) : p.v.cell? a = some v := (p.ok.cell hb).trans h
theorem Calls.beh_of {P : Program} {f : FuncId} {args : Array Value} {w : World} {p : Beh w} {v : Value}
    (h : Calls P f args p.v fun e w' => e = .returned v ∧ Below p.v.heap.size p.v w') : Calls P f args p.v fun e w'' => e = .returned v ∧ ∃ q : Beh w, w'' = q.v :=
  h.mono fun _ w'' ⟨he, hb⟩ => ⟨he, ⟨w'', g_on p.ok hb⟩, rfl⟩
theorem Calls.beh_same {P : Program} {f : FuncId} {args : Array Value} {w : World} {p : Beh w} {v : Value}
    (h : Calls P f args p.v fun e w' => e = .returned v ∧ w' = p.v) : Calls P f args p.v fun e w'' => e = .returned v ∧ ∃ q : Beh w, w'' = q.v :=
  h.mono fun _ w'' ⟨he, hb⟩ => ⟨he, p, hb⟩
theorem GOwn.rdOf {α : Type} {E : GEl α} (K : GOk E) {w : World} {base : Nat} {a : Option Addr} {n cp : Nat} {l : List α} (h : GOwn E w base (.slice a n cp) l) : GRd E w a l cp := by
  obtain ⟨ao, cap, e, hr⟩ := h.rd K
  injection e with e1 e2 e3
  subst e1 e3
  exact hr
end Go.Proofs.Ytfjcaofmcjhdpaa
