/-
  The law's alive: the shards of a flush, and a command that may not be.
-/
import Derived.Test.YtiefdflkbihmkaaOrPf
import Derived.Test.YtiefdflkbihmkaaOrPt
namespace Go.Proofs.Ytiefdflkbihmkaa
open Go.RowKit
set_option linter.unusedSimpArgs false
set_option linter.unusedVariables false
set_option maxRecDepth 100000

def flushC : Cm := ⟨11, 0, [], ⟨#[]⟩, 0, 0, 0, 0⟩
def noKeyC : Cm := ⟨1, 0, [], ⟨#[]⟩, 0, 0, 0, 0⟩
theorem flush_sh : flushC.shE 3 = 0 ∧ flushC.shL 3 = [0, 1, 2] := by decide
theorem noKey_ck : noKeyC.chkE = 100 := by decide
set_option maxHeartbeats 1000000 in
theorem alive10_any (w : World) :
    Calls Try.prog 11 #[] w fun e w' => e = .returned (.bool true) ∧ Below w.heap.size w w' := by
  have HS := Hid.mk2 (fun W => pshards_any flushC none 0 3 W (GRd.nil W))
  have HC := Hid.mk2 (fun W => pcheck_any noKeyC none 0 W (GRd.nil W))
  rw [flush_sh.1, flush_sh.2] at HS
  rw [noKey_ck] at HC
  unfold flushC Cm.arr at HS
  unfold noKeyC Cm.arr at HC
  dsimp only [List.length_nil] at HS HC
  go_enter Try.func11, Try.ntmps11
  go_wp2_with (first
    | (go_at_call 8; refine (HS.out _).mono ?_; rintro e w1 ⟨v1, rfl, hO1, hb1⟩; obtain ⟨sa, sc, hv1, hS⟩ := hO1.rd okI; subst hv1; obtain ⟨b, off, rfl, hbl, hcs⟩ := hS.int (by simp); have r2 := hcs 2 (by simp); simp only [List.getElem_cons_zero, List.getElem_cons_succ] at r2; have HB1 := Hid.mk2 hb1; clear hO1 hb1 hS hcs)
    | (go_at_call 18; refine (HC.out _).mono ?_; rintro e w2 ⟨rfl, hb2⟩))
  all_goals go_ret
  all_goals exact ⟨by simp, g_on HB1.out hb2⟩
end Go.Proofs.Ytiefdflkbihmkaa
