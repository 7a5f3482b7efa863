/-
  P16.5 as data: what is written is read back, alone, whatever comes behind; what is read is written as its bytes.
-/
import Derived.Test.YtjmcgpdimhgegaaBnA
namespace Go.Proofs.Ytjmcgpdimhgegaa
open Go.Proofs.Ytjmcgpdimhgegaa.It
open Go.RowKit
set_option linter.unusedSimpArgs false
set_option linter.unusedVariables false
set_option maxRecDepth 100000

theorem logOk_iff (t : Int) (n : Nat) : logOk t n = true ↔ (0 ≤ t ∧ t < 4 ∧ 1 ≤ n ∧ n ≤ 16) := by
  unfold logOk
  simp only [Bool.and_eq_true, decide_eq_true_eq]
  omega
theorem row_parts {r : Rq} (h : r.hasRow = true) : (1 ≤ r.kind ∧ r.kind ≤ 5) ∧ r.close = false ∧ (r.kind ≠ 1 → r.cmd = cz) ∧ (r.kind ≠ 3 → r.on = false) ∧ (r.kind ≠ 2 → r.tenant = 0 ∧ r.secret = ⟨#[]⟩) ∧ (r.kind = 2 → 0 ≤ r.tenant ∧ r.tenant < 4 ∧ 1 ≤ r.secret.size ∧ r.secret.size ≤ 16) := by
  unfold Rq.hasRow at h
  simp only [Bool.and_eq_true, Bool.or_eq_true, Bool.not_eq_true', decide_eq_true_eq, decide_eq_false_iff_not, List.isEmpty_iff, logOk_iff] at h
  obtain ⟨⟨⟨⟨⟨h1, h2⟩, h3⟩, h4⟩, h5⟩, h6⟩ := h
  refine ⟨h1, h2, fun hk => isNone_cz (h3.resolve_left hk), fun hk => h4.resolve_left hk, fun hk => ?_, fun hk => h6.resolve_left (fun e => e hk)⟩
  obtain ⟨e1, e2⟩ := h5.resolve_left hk
  rw [ByteArray.toList_eq] at e2
  exact ⟨e1, bl_inj2 e2⟩
theorem wbE_zero {r : Rq} (h : r.wbE = 0) : r.hasRow = true ∧ (r.kind = 1 → r.cmd.may = true ∧ r.cmd.tenant = 0) := by
  unfold Rq.wbE at h
  by_cases h0 : r.hasRow = true
  case neg => rw [if_neg h0] at h; cases h
  rw [if_pos h0] at h
  refine ⟨h0, fun h1 => ?_⟩
  rw [if_pos h1] at h
  unfold Cm.ckE at h
  by_cases h2 : r.cmd.may = true
  · rw [if_pos h2] at h
    by_cases h3 : r.cmd.tenant = 0
    · exact ⟨h2, h3⟩
    · rw [if_neg h3] at h; cases h
  · rw [if_neg h2] at h; cases h
theorem ckE_zero {c : Cm} (h : c.may = true) (h0 : c.tenant = 0) : c.ckE = 0 := by unfold Cm.ckE; rw [if_pos h, if_pos h0]
theorem body_len {r : Rq} (h : r.wbE = 0) (hf : CmFit r.cmd) : r.body.length ≤ 1000 := by
  obtain ⟨h1, h2⟩ := wbE_zero h
  obtain ⟨_, _, _, _, _, h3⟩ := row_parts h1
  unfold Rq.body
  by_cases k1 : r.kind = 1
  · rw [if_pos k1]; exact cmdB_len (may_ok (h2 k1).1 hf)
  · rw [if_neg k1]
    by_cases k2 : r.kind = 2
    · rw [if_pos k2, List.length_cons, bl_len]; have := h3 k2; omega
    · rw [if_neg k2]
      split <;> simp
theorem wb_len {r : Rq} (hf : CmFit r.cmd) : r.wb.length ≤ 1006 := by
  unfold Rq.wb
  by_cases h : r.wbE = 0
  · rw [if_pos h, pkt_len]; have := body_len h hf; omega
  · rw [if_neg h]; simp
end Go.Proofs.Ytjmcgpdimhgegaa
