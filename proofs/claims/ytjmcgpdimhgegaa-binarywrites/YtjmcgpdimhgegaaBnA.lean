/-
  Requests as packets, as data: packets, what is cut off, the first request of bytes, what Write answers; what is written is read back; what is read is written so.
-/
import Derived.Test.YtjmcgpdimhgegaaBnP
import Derived.Test.YtjmcgpdimhgegaaTxA
import Derived.Test.YtjmcgpdimhgegaaCmd6
namespace Go.Proofs.Ytjmcgpdimhgegaa
open Go.Proofs.Ytjmcgpdimhgegaa.It
open Go.RowKit
set_option linter.unusedSimpArgs false
set_option linter.unusedVariables false
set_option maxRecDepth 100000

/-- a command of the code's words in the document's, and back -/
def Cmd.cm (c : Cmd) : Cm := ⟨c.kind.toNat, c.tenant, c.keys, c.value, c.flags, c.dur, c.unique, c.by_⟩
def Cm.cmd (c : Cm) : Cmd := ⟨UInt8.ofNat c.kind.toNat, c.tenant, c.keys, c.value, c.flags.toNat, c.life, c.unique.toNat, c.by_.toNat⟩
theorem Cmd.cm_cmd (c : Cmd) : c.cm.cmd = c := by
  obtain ⟨k, t, ks, v, f, d, u, b⟩ := c
  simp [Cmd.cm, Cm.cmd]
structure CmFit (c : Cm) : Prop where
  k0 : 0 ≤ c.kind
  k1 : c.kind ≤ 255
  f0 : 0 ≤ c.flags
  f1 : c.flags < 4294967296
  u0 : 0 ≤ c.unique
  u1 : c.unique < 18446744073709551616
  b0 : 0 ≤ c.by_
  b1 : c.by_ < 18446744073709551616
theorem Cm.cmd_cm {c : Cm} (h : CmFit c) : c.cmd.cm = c := by
  obtain ⟨k, t, ks, v, f, d, u, b⟩ := c
  obtain ⟨k0, k1, f0, f1, u0, u1, b0, b1⟩ := h
  dsimp only at *
  unfold Cmd.cm Cm.cmd
  simp only [Cm.mk.injEq, true_and]
  refine ⟨?_, by omega, by omega, by omega⟩
  have : (UInt8.ofNat k.toNat).toNat = k.toNat := by rw [UInt8.toNat_ofNat']; omega
  rw [this]; omega
theorem Cmd.good_fit {c : Cmd} (h : c.Good) : CmFit c.cm := by
  obtain ⟨k, t, ks, v, f, d, u, b⟩ := c
  obtain ⟨h1, h2, h3⟩ := h
  unfold Fits at h2 h3
  have := k.toNat_lt
  unfold Cmd.cm
  dsimp only at *
  refine ⟨?_, ?_, ?_, ?_, ?_, ?_, ?_, ?_⟩ <;> dsimp only <;> omega
theorem CmFit.good {c : Cm} (h : CmFit c) : c.cmd.Good := by
  obtain ⟨k0, k1, f0, f1, u0, u1, b0, b1⟩ := h
  unfold Cm.cmd
  refine ⟨?_, ?_, ?_⟩ <;> (try unfold Fits) <;> dsimp only <;> omega
theorem may_ok {c : Cm} (h : c.may = true) (hf : CmFit c) : cmdOk c.cmd = true := by
  unfold Cm.may at h
  simp only [Bool.and_eq_true, decide_eq_true_eq] at h
  obtain ⟨⟨⟨⟨⟨⟨h1, h2⟩, h3⟩, h4⟩, h5⟩, h6⟩, h7⟩ := h
  unfold Cm.vOk at h4
  unfold Cm.lOk at h5
  simp only [Bool.and_eq_true, decide_eq_true_eq] at h4 h5
  have hk : c.keys.length ≤ 8 ∧ c.keys.all keyOk = true := by
    unfold Cm.kOk at h3
    split at h3
    · have : c.keys = [] := List.eq_nil_of_length_eq_zero (by simpa using h3)
      rw [this]; simp
    · simp only [Bool.and_eq_true, decide_eq_true_eq] at h3
      exact ⟨h3.1.1.2.1, h3.1.2⟩
  have e : (UInt8.ofNat c.kind.toNat).toNat = c.kind.toNat := by rw [UInt8.toNat_ofNat']; have := hf.k1; omega
  unfold cmdOk Cm.cmd momOk
  dsimp only
  rw [e, hk.2]
  simp only [Bool.and_eq_true, decide_eq_true_eq]
  exact ⟨⟨⟨⟨⟨by omega, h2⟩, hk.1⟩, trivial⟩, h4.1⟩, h5.1⟩
theorem cmdB_len {c : Cmd} (h : cmdOk c = true) : (cmdB c).length ≤ 1000 := by
  have hf := cmdOk_fit h
  have h1 := keysB_len c.keys hf.keys
  have h2 := small_len c.tenant.toNat
  have h3 := small_len c.keys.length
  have h4 := small_len c.value.data.toList.length
  have h5 := small_len c.flags
  have h6 := small_len c.dur.toNat
  have h7 := small_len c.unique
  have h8 := small_len c.by_
  have h9 := hf.many
  have h10 := hf.value
  have h11 : c.value.data.toList.length = c.value.size := by simp
  unfold cmdB text
  simp only [List.length_append, List.length_cons, List.length_nil]
  omega
theorem arr_cells (c : Cmd) (v : Value) : (c.cells v).toArray = c.cm.arr v := rfl

/-- a request of a kind alone -/
def rqk (k : Int) : Rq := ⟨k, cz, 0, ⟨#[]⟩, false, false⟩
def rbad : Rq := ⟨6, cz, 0, ⟨#[]⟩, false, false⟩
def rshut : Rq := ⟨6, cz, 0, ⟨#[]⟩, false, true⟩
def logOk (t : Int) (n : Nat) : Bool := decide (0 ≤ t) && decide (t < 4) && decide (1 ≤ n) && decide (n ≤ 16)
/-- a command's errors: order.Check's, then the tenant's -/
def Cm.ckE (c : Cm) : Int := if c.may = true then (if c.tenant = 0 then 0 else 8) else 100
/-- the request of a packet's body -/
def reqOf (k : UInt8) (B : List UInt8) : Rq :=
  if (k = 4 ∨ k = 5) ∧ B = [] then rqk k.toNat
  else if k = 3 ∧ B = [1] then ⟨3, cz, 0, ⟨#[]⟩, true, false⟩
  else if k = 3 ∧ B = [0] then rqk 3
  else if k = 2 ∧ 0 < B.length ∧ logOk (B.headD 0).toNat (B.length - 1) = true then ⟨2, cz, (B.headD 0).toNat, ⟨(B.drop 1).toArray⟩, false, false⟩
  else if k = 1 ∧ ofCmdE B = 0 ∧ (ofCmd B).cm.ckE = 0 then ⟨1, (ofCmd B).cm, 0, ⟨#[]⟩, false, false⟩
  else rbad
def isRq (k : UInt8) : Bool := decide (1 ≤ k.toNat) && decide (k.toNat ≤ 5)
/-- P16.2: the first request of bytes -/
def firstB (L : List UInt8) : Rq × Nat :=
  if (cutP 177 L).e ≠ 0 ∨ 1 < L.length ∧ isRq (kind2 L) = false then (rshut, L.length)
  else if (cutP 177 L).n = 0 then (rz, 0) else (reqOf (cutP 177 L).k (cutP 177 L).b, (cutP 177 L).n)
/-- P16.3: what Write looks at -/
def Rq.hasRow (r : Rq) : Bool :=
  decide (1 ≤ r.kind ∧ r.kind ≤ 5) && !r.close && (decide (r.kind = 1) || r.cmd.isNone) && (decide (r.kind = 3) || !r.on) && (decide (r.kind = 2) || (decide (r.tenant = 0) && r.secret.toList.isEmpty)) && (!decide (r.kind = 2) || logOk r.tenant r.secret.size)
def Rq.wbE (r : Rq) : Int := if r.hasRow = true then (if r.kind = 1 then r.cmd.ckE else 0) else 8
def Rq.body (r : Rq) : List UInt8 :=
  if r.kind = 1 then cmdB r.cmd.cmd else if r.kind = 2 then UInt8.ofNat r.tenant.toNat :: bl r.secret else if r.kind = 3 then [if r.on = true then 1 else 0] else []
def Rq.wb (r : Rq) : List UInt8 := if r.wbE = 0 then pkt 177 (UInt8.ofNat r.kind.toNat) r.body else []
theorem bl_inj2 {s t : ByteArray} (h : bl s = bl t) : s = t := by
  have h2 : s.data.toList = t.data.toList := h
  have h3 : s.data = t.data := Array.toList_inj.1 h2
  cases s; cases t; simpa using h3
theorem isNone_cz {c : Cm} (h : c.isNone = true) : c = cz := by
  obtain ⟨k, t, ks, v, f, d, u, b⟩ := c
  unfold Cm.isNone at h
  simp only [Bool.and_eq_true, beq_iff_eq, List.isEmpty_iff] at h
  obtain ⟨⟨⟨⟨⟨⟨⟨h1, h2⟩, h3⟩, h4⟩, h5⟩, h6⟩, h7⟩, h8⟩ := h
  have h3' : ks = [] := List.eq_nil_of_length_eq_zero (by omega)
  rw [ByteArray.toList_eq] at h4
  have h4' : v = ⟨#[]⟩ := bl_inj2 h4
  subst h1 h2 h3' h4' h5 h6 h7 h8
  rfl
end Go.Proofs.Ytjmcgpdimhgegaa
