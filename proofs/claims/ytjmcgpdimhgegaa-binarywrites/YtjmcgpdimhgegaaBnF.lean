/-
  The document's Write of requests as packets, where a request has a row: what its walks share.
-/
import Derived.Test.YtjmcgpdimhgegaaBnV
namespace Go.Proofs.Ytjmcgpdimhgegaa
open Go.Proofs.Ytjmcgpdimhgegaa.It
open Go.RowKit
set_option linter.unusedSimpArgs false
set_option linter.unusedVariables false
set_option maxRecDepth 100000

theorem GOwn.rdOf1 {w : World} {base g : Nat} {l : List UInt8} {n cap : Nat} (h : GOwn EY w base (.slice (some ⟨g, 0, none⟩) n cap) l) : GRd EY w (some ⟨g, 0, none⟩) l cap := by
  obtain ⟨ao, c, e, hr⟩ := h.rd okY
  cases e
  exact hr
theorem rmadeI_any (k : Int) (hk : 0 ≤ k ∧ k ≤ 255) (V : World) (ao : Option Addr) (L : List UInt8) (cap : Nat) (hr : GRd EY V ao L cap) (m : Nat) (hm : m = L.length) (hL : L.length ≤ 4096) :
    Calls Try.prog 17 #[.int .u8 177, .int .u8 k, .slice ao m cap] V fun e V' => ∃ v, e = .returned v ∧ GOwn EY V' V.heap.size v (pkt 177 (UInt8.ofNat k.toNat) L) ∧ Below V.heap.size V V' := by
  have h := rmade_any 177 (UInt8.ofNat k.toNat) V ao L cap hr m hm hL
  have e : ((UInt8.ofNat k.toNat).toNat : Int) = k := by rw [UInt8.toNat_ofNat']; omega
  rw [e] at h
  exact h
theorem cz_isNone : cz.isNone = true := by
  unfold Cm.isNone cz
  rw [em0]
  rfl
/-- a walk's beginning: the request in its box -/
structure Wb (r : Rq) (ko : Option Addr) (kc : Nat) (w W : World) : Prop where
  B : Below w.heap.size w W
  X : GBx W w.heap.size (r.cl (.slice ko r.cmd.keys.length kc))
  K : GRd ES W ko r.cmd.keys kc
theorem Wb.made (r : Rq) (ko : Option Addr) (kc : Nat) (w : World) (h : GRd ES w ko r.cmd.keys kc) : Wb r ko kc w (w.alloc (.cells (r.arr (.slice ko r.cmd.keys.length kc)) 28)) :=
  ⟨g_alloc _ _, GBx.made w (r.cl _) _, h.alloc _⟩
end Go.Proofs.Ytjmcgpdimhgegaa
