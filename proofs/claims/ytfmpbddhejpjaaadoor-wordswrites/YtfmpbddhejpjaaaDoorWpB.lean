/-
  The chapter's first example: got, alive.
-/
import Derived.Test.YtfmpbddhejpjaaaDoorWpV
import Derived.Test.YtfmpbddhejpjaaaDoorWoW
import Derived.Test.YtfmpbddhejpjaaaDoorG01
import Derived.Test.YtfmpbddhejpjaaaDoorWoX
namespace Go.Proofs.YtfmpbddhejpjaaaDoor
open Go.Proofs.YtfmpbddhejpjaaaDoor.It
open Go.RowKit
set_option linter.unusedSimpArgs false
set_option linter.unusedVariables false
set_option maxRecDepth 100000

def gotI : Im := ⟨⟨#[107]⟩, ⟨#[97, 98]⟩, 7, 0, 3⟩
def gotA : An := ⟨1, 1, 1, [gotI], 0, false, ⟨#[]⟩⟩
theorem ans7 (a : An) (v : Value) : (Tryd.prog.info? 27).map (·.size) = some (a.cl v).length := by
  show (Tryd.prog.info? 27).map (·.size) = some 7
  kernel_rfl
theorem ancl_one (a : An) (ao : Option Addr) (n c : Nat) : ∀ v ∈ a.cl (.slice ao n c), v.oneCell' = true := by
  intro v hv
  simp only [An.cl, List.mem_cons, List.not_mem_nil, or_false] at hv
  rcases hv with rfl | rfl | rfl | rfl | rfl | rfl | rfl <;> rfl
theorem dec_lt10 {n : Int} (h : n.toNat < 10) : dec n = ⟨#[dig n.toNat]⟩ := by
  unfold dec
  rw [decL_small h]
theorem gotA_may : gotA.may = true := by
  unfold An.may gotA
  rw [if_pos rfl]
  dsimp only
  rw [em0]
  rfl
theorem gotA_wr : gotA.wrE = 0 ∧ gotA.wr = [86, 65, 76, 85, 69, 32, 107, 32, 55, 32, 48, 32, 51, 32, 50, 13, 10, 97, 98, 13, 10, 69, 78, 68, 13, 10] := by
  have hE : gotA.wrE = 0 := by
    unfold An.wrE
    rw [gotA_may]
    rfl
  refine ⟨hE, ?_⟩
  unfold An.wr
  rw [if_pos hE]
  have e1 : dec 7 = ⟨#[55]⟩ := dec_lt10 (by decide)
  have e2 : dec 0 = ⟨#[48]⟩ := dec_lt10 (by decide)
  have e3 : dec 3 = ⟨#[51]⟩ := dec_lt10 (by decide)
  have e4 : dec ((⟨#[97, 98]⟩ : ByteArray).size : Int) = ⟨#[50]⟩ := dec_lt10 (by decide)
  have e : gotI.words = [sVALUE, ⟨#[107]⟩, ⟨#[55]⟩, ⟨#[48]⟩, ⟨#[51]⟩, ⟨#[50]⟩] := by
    show [sVALUE, (⟨#[107]⟩ : ByteArray), dec 7, dec 0, dec 3, dec ((⟨#[97, 98]⟩ : ByteArray).size : Int)] = _
    rw [e1, e2, e3, e4]
  have el : gotA.last = [sEND] := rfl
  unfold An.lines
  rw [el]
  show (gotI.lines ++ []) ++ _ = _
  unfold Im.lines
  rw [e]
  rfl
theorem gotA_fit : gotA.Fit := ⟨by decide, by decide, fun x hx => by
  have : x = gotI := by simpa [gotA] using hx
  subst this
  exact ⟨by decide, by decide, by decide, by decide⟩⟩
theorem got_any (w : World) : Calls Tryd.prog 28 #[] w fun e w' => (∃ g, e = .returned (.agg (gotA.arr (.slice (some ⟨g, 0, none⟩) 1 1))) ∧ GRd EM w' (some ⟨g, 0, none⟩) gotA.items 1) ∧ Below w.heap.size w w' := by
  go_enter Tryd.func28, Tryd.ntmps28
  go_wp2
  obtain ⟨W1, hW1⟩ : ∃ W1, W1 = w.alloc (.cells #[.int .u8 1, .int .u8 1, .int .u8 1, .slice (some ⟨w.heap.size + 1 + 1, 0, none⟩) 1 1, .int .u64 0, .bool false, .string ⟨#[]⟩] 27) := ⟨_, rfl⟩
  have h1 : W1.heap.size = w.heap.size + 1 := by rw [hW1]; simp
  have hX : GBx W1 w.heap.size (gotA.cl (.slice (some ⟨w.heap.size + 1 + 1, 0, none⟩) 1 1)) := by rw [hW1]; exact GBx.made w (gotA.cl (.slice (some ⟨w.heap.size + 1 + 1, 0, none⟩) 1 1)) _
  have b1 : Below w.heap.size w W1 := by rw [hW1]; exact g_alloc _ _
  rw [← hW1]
  obtain ⟨W2, hW2⟩ : ∃ W2, W2 = W1.alloc (.cells #[.string ⟨#[107]⟩, .string ⟨#[97, 98]⟩, .int .u32 7, .int .i64 0, .int .u64 3] 53) := ⟨_, rfl⟩
  have h2 : W2.heap.size = w.heap.size + 1 + 1 := by rw [hW2]; simp [h1]
  have b2 : Below W1.heap.size W1 W2 := by rw [hW2]; exact g_alloc _ _
  rw [← hW2]
  have hG := g_new okM W2 gotI
  rw [h2] at hG
  refine bodyPost_ret (zres_cell1 rfl rfl (load_var ((hX.below b2).alloc _) 27 _ Tryd.underlying27 rfl (ans7 gotA _))) rfl ?_
  exact ⟨⟨_, rfl, hG⟩, g_on (g_on b1 b2) (g_alloc _ _)⟩

set_option maxHeartbeats 2000000 in
theorem alive15_any (V : World) (hv : Vw V) : Calls Tryd.prog 11 #[] V fun e w' => e = .returned (.bool true) ∧ Below V.heap.size V w' := by
  have HG := Hid.mk2 (got_any V)
  have HW : Hid (∀ W, Below V.heap.size V W → ∀ g, GRd EM W (some ⟨g, 0, none⟩) gotA.items 1 → Calls Tryd.prog 10 #[.agg (gotA.arr (.slice (some ⟨g, 0, none⟩) 1 1))] W fun e w' => ∃ ao cap, e = .returned (.tuple #[.slice ao 26 cap, .int .i64 0]) ∧ GRd EY w' ao [86, 65, 76, 85, 69, 32, 107, 32, 55, 32, 48, 32, 51, 32, 50, 13, 10, 97, 98, 13, 10, 69, 78, 68, 13, 10] cap ∧ Below W.heap.size W w') := by
    intro W hW g hg
    refine (wWrite_any gotA _ 1 W hg (by decide) (fun x hx => by
      have : x = gotI := by simpa [gotA] using hx
      subst this
      decide) gotA_fit (hv.below hW).tab (hv.below hW).rt).mono ?_
    rintro e w' ⟨⟨ao, cap, h1, h2⟩, h3⟩
    rw [gotA_wr.1, gotA_wr.2] at h1
    rw [gotA_wr.2] at h2
    exact ⟨ao, cap, h1, h2, h3⟩
  clear hv
  obtain ⟨AR, hAR⟩ : ∃ AR, AR = fun g => gotA.arr (.slice (some ⟨g, 0, none⟩) 1 1) := ⟨_, rfl⟩
  have HG2 : Hid (Calls Tryd.prog 28 #[] V fun e w' => (∃ g, e = .returned (.agg (AR g)) ∧ GRd EM w' (some ⟨g, 0, none⟩) gotA.items 1) ∧ Below V.heap.size V w') := by rw [hAR]; exact HG.out
  have HW2 : Hid (∀ W, Below V.heap.size V W → ∀ g, GRd EM W (some ⟨g, 0, none⟩) gotA.items 1 → Calls Tryd.prog 10 #[.agg (AR g)] W fun e w' => ∃ ao cap, e = .returned (.tuple #[.slice ao 26 cap, .int .i64 0]) ∧ GRd EY w' ao [86, 65, 76, 85, 69, 32, 107, 32, 55, 32, 48, 32, 51, 32, 50, 13, 10, 97, 98, 13, 10, 69, 78, 68, 13, 10] cap ∧ Below W.heap.size W w') := by rw [hAR]; exact HW.out
  clear HG HW hAR
  go_enter Tryd.func11, Tryd.ntmps11
  go_upto_region 2 with (first
    | (go_at_call 28; refine HG2.out.mono ?_; rintro e w1 ⟨⟨g, rfl, hg⟩, hb1⟩; have HB1 := Hid.mk2 hb1; have HI1 := Hid.mk2 hg; clear hb1 hg)
    | (go_at_call 10; refine (HW2.out w1 HB1.out _ HI1.out).mono ?_; rintro e w2 ⟨ao, cap, rfl, hr2, hb2⟩; have HB2 := Hid.mk2 (g_on HB1.out hb2); have HR2 := Hid.mk2 hr2; clear hb2 hr2))
  have hcv := conv_rd HR2.out
  simp only [List.length_cons, List.length_nil] at hcv
  go_wp2
  go_ret
  exact ⟨by first | rfl | simp, HB2.out⟩
end Go.Proofs.YtfmpbddhejpjaaaDoor
