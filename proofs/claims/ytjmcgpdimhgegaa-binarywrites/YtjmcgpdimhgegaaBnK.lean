/-
  The document's Write of requests as packets, whole.
-/
import Derived.Test.YtjmcgpdimhgegaaBnG
import Derived.Test.YtjmcgpdimhgegaaBnH
import Derived.Test.YtjmcgpdimhgegaaBnJ
namespace Go.Proofs.Ytjmcgpdimhgegaa
open Go.Proofs.Ytjmcgpdimhgegaa.It
open Go.RowKit
set_option linter.unusedSimpArgs false
set_option linter.unusedVariables false
set_option maxRecDepth 100000

theorem rwrite16_any (r : Rq) (ko : Option Addr) (kc : Nat) (w : World) (h : GRd ES w ko r.cmd.keys kc) (hf : CmFit r.cmd) :
    Calls Try.prog 7 #[.agg (r.arr (.slice ko r.cmd.keys.length kc))] w fun e w' => ∃ v, e = .returned (.tuple #[v, .int .i64 r.wbE]) ∧ GOwn EY w' w.heap.size v r.wb ∧ Below w.heap.size w w' := by
  cases hR : r.hasRow with
  | false =>
    have e1 : r.wbE = 8 := by unfold Rq.wbE; rw [hR]; rfl
    have e2 : r.wb = [] := Rq.wb_bad (by rw [e1]; decide)
    rw [e1, e2]
    exact rwriteBad_any r ko kc w h hR
  | true =>
    have e1 := wbE_row hR
    have e2 : r.wb = if r.bE = 0 then pkt 177 (UInt8.ofNat r.kind.toNat) r.body else [] := by unfold Rq.wb; rw [e1]
    rw [e1, e2]
    have hk := (row_parts hR).1
    have hk2 : r.kind = 1 ∨ r.kind = 2 ∨ r.kind = 3 ∨ r.kind = 4 ∨ r.kind = 5 := by omega
    rcases hk2 with e | e | e | e | e
    · exact rwriteG1_any r ko kc w h hf hR e
    · exact rwriteG2_any r ko kc w h hf hR e
    · exact rwriteG3_any r ko kc w h hf hR e
    · exact rwriteG4_any r ko kc w h hf hR e
    · exact rwriteG5_any r ko kc w h hf hR e
end Go.Proofs.Ytjmcgpdimhgegaa
