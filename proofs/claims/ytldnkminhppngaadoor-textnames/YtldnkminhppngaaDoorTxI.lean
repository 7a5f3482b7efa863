/-
  The document's lines (cloakroomref14): contract of Write: what the document says is written, or the error.
-/
import Derived.Test.YtldnkminhppngaaDoorTxH
import Derived.Lib.SlBytesConst
namespace Go.Proofs.YtldnkminhppngaaDoor
open Go.Proofs.YtldnkminhppngaaDoor.It
open Go.RowKit
set_option linter.unusedSimpArgs false
set_option linter.unusedVariables false
set_option maxRecDepth 100000

theorem rd_mark (w : World) (l : List UInt8) (cs : List Value) (m : Nat × Nat) (hcs : cs = l.map fun c => .int .u8 (c.toNat : Int)) (hl : l.length ≤ 1000) : GRd EY (w.alloc (.cells cs.toArray 5 m)) (some ⟨w.heap.size, 0, none⟩) l l.length := by
  subst hcs
  refine ⟨Nat.le_refl _, by omega, (fun e => by cases e), .inr ⟨w.heap.size, 0, rfl, by show _ < (w.heap.push _).size; simp, fun i hi j hj => ?_⟩⟩
  have hj0 : j = 0 := by have : j < 1 := hj; omega
  subst hj0
  have h := World.cell?_alloc_mark w (l.map fun c => Value.int .u8 (c.toNat : Int)).toArray 5 m i
  have e : (0 + i * EY.sz + 0) = i := by show 0 + i * 1 + 0 = i; omega
  rw [e, h]
  simp [EY, hi]
theorem u64w {n : Nat} (h : n < 18446744073709551616) : IntKind.u64.wrap (n : Int) = (n : Int) := by
  have e : IntKind.u64.wrap (n : Int) = (n : Int) % 18446744073709551616 := rfl
  rw [e]; omega
/-- what the document's first test says -/
def Rq.bare (r : Rq) : Bool := r.close || (r.on && (r.kind != 3)) || ((r.kind != 2) && ((r.tenant != 0) || !r.secret.toList.isEmpty)) || ((r.kind != 1) && !r.cmd.isNone)
theorem bare_true {r : Rq} (h : r.bare = true) : r.wrE = 8 := by
  have : r.hasLine = false := by
    unfold Rq.bare at h
    unfold Rq.hasLine
    revert h
    generalize r.cmd.isNone = N
    generalize r.secret.toList.isEmpty = E
    generalize wordOk r.secret 16 = K
    cases r.close <;> cases r.on <;> cases N <;> cases E <;> intro h
    all_goals
      by_cases k1 : r.kind = 1
      · rw [if_pos k1]; rw [k1] at h; revert h; by_cases t : r.tenant = 0 <;> simp [t]
      rw [if_neg k1]
      by_cases k2 : r.kind = 2
      · rw [if_pos k2]; rw [k2] at h; revert h; by_cases t : r.tenant = 0 <;> simp [t]
      rw [if_neg k2]
      by_cases k3 : r.kind = 3
      · rw [if_pos k3]; rw [k3] at h; revert h; by_cases t : r.tenant = 0 <;> simp [t]
      rw [if_neg k3]
      by_cases k45 : r.kind = 4 ∨ r.kind = 5
      · rw [if_pos k45]; revert h; by_cases t : r.tenant = 0 <;> simp [t]
      rw [if_neg k45]
  unfold Rq.wrE
  rw [this]
  rfl
theorem bare_false {r : Rq} (h : r.bare = false) : r.hasLine = (if r.kind = 2 then decide (0 ≤ r.tenant ∧ r.tenant < 4) && wordOk r.secret 16 else decide (r.kind = 1 ∨ r.kind = 3 ∨ r.kind = 4 ∨ r.kind = 5)) := by
  unfold Rq.bare at h
  unfold Rq.hasLine
  revert h
  generalize r.cmd.isNone = N
  generalize r.secret.toList.isEmpty = E
  generalize wordOk r.secret 16 = K
  cases r.close <;> cases r.on <;> cases N <;> cases E <;> intro h
  all_goals
    by_cases k1 : r.kind = 1
    · rw [if_pos k1]; rw [k1] at h ⊢; revert h; by_cases t : r.tenant = 0 <;> simp [t]
    rw [if_neg k1]
    by_cases k2 : r.kind = 2
    · rw [if_pos k2, if_pos k2]; rw [k2] at h; revert h; by_cases t : r.tenant = 0 <;> simp [t]
    rw [if_neg k2, if_neg k2]
    by_cases k3 : r.kind = 3
    · rw [if_pos k3]; rw [k3] at h ⊢; revert h; by_cases t : r.tenant = 0 <;> simp [t]
    rw [if_neg k3]
    by_cases k45 : r.kind = 4 ∨ r.kind = 5
    · rw [if_pos k45]; revert h; by_cases t : r.tenant = 0 <;> simp [t, k1, k2, k3, k45]
    rw [if_neg k45]
    simp [k1, k3, k45]
theorem wr_cmd {r : Rq} (h : r.wrE = 0) (hk : r.kind = 1) : r.wr = r.cmd.wrL := by
  unfold Rq.wr Rq.wrL Rq.line Cm.wrL Rq.words
  rw [if_pos h, hk]
  rfl
theorem wr_le {r : Rq} (h : r.wrE = 0) (hf : r.Fit) : r.wr.length ≤ 31000 := by
  have h1 := joinW_le h hf
  have h2 := val_small h
  unfold Rq.wr Rq.wrL Rq.line
  rw [if_pos h]
  split
  · rename_i hv
    have h3 := h2 hv
    simp only [List.length_append, bl_len]
    have e : ([13, 10] : List UInt8).length = 2 := rfl
    omega
  · simp only [List.length_append]
    have e : ([13, 10] : List UInt8).length = 2 := rfl
    have e2 : ([] : List UInt8).length = 0 := rfl
    omega
theorem wr_none {r : Rq} (h : ¬ r.wrE = 0) : r.wr = [] := by unfold Rq.wr; rw [if_neg h]
theorem wr_other {r : Rq} (h : r.wrE = 0) (hk : ¬ r.kind = 1) : r.wr = r.line := by
  unfold Rq.wr Rq.wrL
  rw [if_pos h, hasLine_none (wrE_zero h).1 hk]
  show r.line ++ _ = _
  rw [if_neg (by decide), List.append_nil]

set_option maxHeartbeats 8000000 in
theorem rwrite14_any (r : Rq) (ko : Option Addr) (kc : Nat) (w : World) (h : GRd ES w ko r.cmd.keys kc) (hk : ∀ k ∈ r.cmd.keys, k.size ≤ maxLen) (hsec : r.secret.size ≤ maxLen) (hf : r.Fit) :
    Calls Tryd.prog 17 #[.agg (r.arr (.slice ko r.cmd.keys.length kc))] w fun e w' => ∃ ao cap, e = .returned (.tuple #[.slice ao r.wr.length cap, .int .i64 r.wrE]) ∧ GRd EY w' ao r.wr cap ∧ Below w.heap.size w w' := by
  have HNO := Hid.mk2 (fun W => none_any r.cmd ko kc W h.len)
  have HC := Hid.mk2 (fun V (hV : Below w.heap.size w V) => rcheck10_any r.cmd ko kc V (h.below hV))
  have HP := Hid.mk2 (fun (s : ByteArray) (hs : s.size ≤ maxLen) V => plain_any s 32 hs (by decide) V)
  have HP16 := Hid.mk2 (fun V => plain_any r.secret 16 hsec (by decide) V)
  have HLI := Hid.mk2 (fun (hm : r.cmd.may = true) V (hV : Below w.heap.size w V) => (let p := Cm.may_parts14 hm; rline_any r.cmd ko kc V (h.below hV) p.2.2.1 p.2.2.2.2.2.2 p.1 p.2.1 p.2.2.2.1 hf.f0 hf.f1 p.2.2.2.2.1 p.2.2.2.2.2.1 hf.u0 hf.u1 hf.b0 hf.b1))
  have HWE : Hid (r.bare = true → r.wrE = 8) := bare_true
  have HWN := Hid.mk2 (@wr_none r)
  have HWC := Hid.mk2 (@wr_cmd r)
  have HWO := Hid.mk2 (@wr_other r)
  have HHL := Hid.mk2 (@bare_false r)
  have HEd : Hid (r.wrE = if r.hasLine = true then (if r.kind = 1 then (if r.cmd.may = true then (if r.cmd.tenant = 0 ∧ r.cmd.keys.all seen = true then 0 else 8) else 100) else 0) else 8) := rfl
  have HLd : Hid (r.line = joinW r.words ++ [13, 10]) := rfl
  have HWd : Hid (r.words = if r.kind = 2 then [⟨#[117, 115, 101, 114]⟩, dec r.tenant, r.secret] else if r.kind = 3 then [⟨#[116, 114, 97, 99, 107]⟩, if r.on = true then ⟨#[111, 110]⟩ else ⟨#[111, 102, 102]⟩] else if r.kind = 4 then [⟨#[112, 105, 110, 103]⟩] else if r.kind = 5 then [⟨#[113, 117, 105, 116]⟩] else r.cmd.words) := rfl
  have HBd : Hid (r.bare = (r.close || (r.on && (r.kind != 3)) || ((r.kind != 2) && ((r.tenant != 0) || !r.secret.toList.isEmpty)) || ((r.kind != 1) && !r.cmd.isNone))) := rfl
  have HSZ := Hid.mk2 (fun h0 => wr_le (r := r) h0 hf)
  have HS16 : Hid (wordOk r.secret 16 = true → r.secret.size ≤ 16) := by
    intro h0
    unfold wordOk at h0
    simp only [Bool.and_eq_true, decide_eq_true_eq] at h0
    exact h0.1.2
  have HCk : Hid (r.cmd.chkE = if r.cmd.may = true then 0 else 100) := rfl
  have HKo : Hid (r.cmd.may = true → ∀ k ∈ r.cmd.keys, wordOk k 32 = seen k) := by
    intro hm k hk
    have h2 := (Cm.may_parts14 hm).2.2.2.2.2.2 k hk
    have h1 : 0 < k.size := by
      unfold Cm.may at hm
      simp only [Bool.and_eq_true, decide_eq_true_eq] at hm
      obtain ⟨⟨⟨⟨⟨⟨_, _⟩, h3⟩, _⟩, _⟩, _⟩, _⟩ := hm
      unfold Cm.kOk at h3
      split at h3
      · simp at h3; rw [h3] at hk; cases hk
      · simp only [Bool.and_eq_true, decide_eq_true_eq, List.all_eq_true] at h3
        have := h3.1.2 k hk
        unfold keyOk at this
        simp at this
        omega
    unfold wordOk
    rw [decide_eq_true h1, decide_eq_true h2]
    rfl
  have HKZ := Hid.mk2 hk
  have HR := Hid.mk2 h
  have hlen := h.len
  obtain ⟨RW, hRW⟩ : ∃ RW, RW = r.wr := ⟨_, rfl⟩
  obtain ⟨RE, hRE⟩ : ∃ RE, RE = r.wrE := ⟨_, rfl⟩
  obtain ⟨RB, hRB⟩ : ∃ RB, RB = r.bare := ⟨_, rfl⟩
  obtain ⟨RH, hRH⟩ : ∃ RH, RH = r.hasLine := ⟨_, rfl⟩
  obtain ⟨RL, hRL⟩ : ∃ RL, RL = r.line := ⟨_, rfl⟩
  obtain ⟨RS, hRS⟩ : ∃ RS, RS = r.words := ⟨_, rfl⟩
  obtain ⟨NO, hNO⟩ : ∃ NO, NO = r.cmd.isNone := ⟨_, rfl⟩
  obtain ⟨MY, hMY⟩ : ∃ MY, MY = r.cmd.may := ⟨_, rfl⟩
  obtain ⟨CE, hCE⟩ : ∃ CE, CE = r.cmd.chkE := ⟨_, rfl⟩
  obtain ⟨CL, hCL⟩ : ∃ CL, CL = r.cmd.wrL := ⟨_, rfl⟩
  obtain ⟨PW, hPW⟩ : ∃ PW, PW = wordOk r.secret 16 := ⟨_, rfl⟩
  rw [← hRW, ← hRE]
  rw [← hRB, ← hRE] at HWE
  rw [← hRE, ← hRW] at HWN
  rw [← hRE, ← hRW, ← hCL] at HWC
  rw [← hRE, ← hRW, ← hRL] at HWO
  rw [← hRB, ← hRH, ← hPW] at HHL
  rw [← hRE, ← hRH, ← hMY] at HEd
  rw [← hRL, ← hRS] at HLd
  rw [← hRS] at HWd
  rw [← hRB, ← hNO] at HBd
  rw [← hCE, ← hMY] at HCk
  rw [← hMY] at HKo HLI
  rw [← hNO] at HNO
  rw [← hCE] at HC
  rw [← hCL] at HLI
  rw [← hPW] at HP16 HS16
  rw [← hRE, ← hRW] at HSZ
  clear hRW hRE hRB hRH hRL hRS hNO hMY hCE hCL hPW h hk hsec hf
  obtain ⟨W, hW⟩ : ∃ W, W = w.alloc (.cells (r.arr (.slice ko r.cmd.keys.length kc)) 28) := ⟨_, rfl⟩
  have HB : Hid (Below w.heap.size w W) := by rw [hW]; exact g_alloc _ _
  have HX : Hid (GBx W w.heap.size (r.cl (.slice ko r.cmd.keys.length kc))) := by rw [hW]; exact GBx.made w (r.cl _) _
  obtain ⟨rk, ⟨kind, tenant, keys, value, flags, life, unique, by_⟩, rt, secret, on, close⟩ := r
  unfold Rq.arr Rq.cl at *
  unfold Cm.arr at HNO HC HLI
  dsimp only at *
  have c0 := HX.out.c 0 (by simp)
  have c1 := HX.out.c 1 (by simp)
  have c2 := HX.out.c 2 (by simp)
  have c3 := HX.out.c 3 (by simp)
  have c4 := HX.out.c 4 (by simp)
  have c5 := HX.out.c 5 (by simp)
  have c6 := HX.out.c 6 (by simp)
  have c7 := HX.out.c 7 (by simp)
  have c8 := HX.out.c 8 (by simp)
  have c9 := HX.out.c 9 (by simp)
  have c10 := HX.out.c 10 (by simp)
  have c11 := HX.out.c 11 (by simp)
  have c12 := HX.out.c 12 (by simp)
  simp only [List.getElem_cons_zero, List.getElem_cons_succ] at c0 c1 c2 c3 c4 c5 c6 c7 c8 c9 c10 c11 c12
  have hlt := HX.out.lt
  go_enter Tryd.func17, Tryd.ntmps17
  go_upto_region 1 with (fail)
  rw [← hW]
  clear hW
  go_cut [42] from 4 (fun s42 wx => s42 = .bool RB ∧ Hid (Below W.heap.size W wx))
  case first =>
    cases close
    case true =>
      have e : RB = true := by rw [HBd.out]; simp
      subst e
      go_wp2
      go_meet
      case rel => exact ⟨rfl, Below.refl _ _⟩
    by_cases k1 : rk = 1
    · subst k1
      cases on
      case true =>
        have e : RB = true := by rw [HBd.out]; simp
        subst e
        go_wp2
        go_meet
        case rel => exact ⟨rfl, Below.refl _ _⟩
      by_cases t0 : rt = 0
      case neg =>
        have e : RB = true := by rw [HBd.out]; simp [t0]
        subst e
        go_wp2
        go_meet
        case rel => exact ⟨rfl, Below.refl _ _⟩
      subst t0
      cases s0 : secret.toList.isEmpty
      · have e : RB = true := by rw [HBd.out]; simp [s0]
        subst e
        go_wp2
        go_meet
        case rel => exact ⟨rfl, Below.refl _ _⟩
      · have e : RB = false := by rw [HBd.out]; simp [s0]
        subst e
        go_wp2
        go_meet
        case rel => exact ⟨rfl, Below.refl _ _⟩
    by_cases k2 : rk = 2
    · subst k2
      cases on
      case true =>
        have e : RB = true := by rw [HBd.out]; simp
        subst e
        go_wp2
        go_meet
        case rel => exact ⟨rfl, Below.refl _ _⟩
      have e : RB = !NO := by rw [HBd.out]; simp
      subst e
      go_wp2_with (go_at_call 26; refine (HNO.out _).mono ?_; rintro e w3 ⟨rfl, hb3⟩)
      go_meet
      case rel => exact ⟨rfl, hb3⟩
    by_cases k3 : rk = 3
    · subst k3
      by_cases t0 : rt = 0
      case neg =>
        have e : RB = true := by rw [HBd.out]; simp [t0]
        subst e
        cases on
        all_goals
          go_wp2
          go_meet
          case rel => exact ⟨rfl, Below.refl _ _⟩
      subst t0
      cases s0 : secret.toList.isEmpty
      · have e : RB = true := by rw [HBd.out]; simp [s0]
        subst e
        cases on
        all_goals
          go_wp2
          go_meet
          case rel => exact ⟨rfl, Below.refl _ _⟩
      · have e : RB = !NO := by rw [HBd.out]; simp [s0]
        subst e
        cases on
        all_goals
          go_wp2_with (go_at_call 26; refine (HNO.out _).mono ?_; rintro e w3 ⟨rfl, hb3⟩)
          go_meet
          case rel => exact ⟨rfl, hb3⟩
    cases on
    case true =>
      have e : RB = true := by rw [HBd.out]; simp [k3]
      subst e
      go_wp2
      go_meet
      case rel => exact ⟨rfl, Below.refl _ _⟩
    by_cases t0 : rt = 0
    case neg =>
      have e : RB = true := by rw [HBd.out]; simp [t0, k2]
      subst e
      go_wp2
      go_meet
      case rel => exact ⟨rfl, Below.refl _ _⟩
    subst t0
    cases s0 : secret.toList.isEmpty
    · have e : RB = true := by rw [HBd.out]; simp [s0, k2]
      subst e
      go_wp2
      go_meet
      case rel => exact ⟨rfl, Below.refl _ _⟩
    · have e : RB = !NO := by rw [HBd.out]; simp [s0, k1]
      have HK1 := Hid.mk2 k1
      subst e
      go_wp2_with (go_at_call 26; refine (HNO.out _).mono ?_; rintro e w3 ⟨rfl, hb3⟩)
      go_meet
      case rel => exact ⟨by first | rfl | simp [HK1.out], hb3⟩
  case rest =>
  obtain ⟨rfl, HBc⟩ := hcut
  obtain ⟨w2, hw2⟩ : ∃ w2, w2 = wc := ⟨_, rfl⟩
  rw [← hw2] at HBc ⊢
  clear hw2 c0 c1 c2 c3 c4 c5 c6 c7 c8 c9 c10 c11 c12 hlt HBd HNO
  have HX2 := Hid.mk2 (HX.out.below HBc.out)
  have HB2 := Hid.mk2 (g_on HB.out HBc.out)
  have HR2 := Hid.mk2 (HR.out.below HB2.out)
  have d0 := HX2.out.c 0 (by simp)
  have d1 := HX2.out.c 1 (by simp)
  have d2 := HX2.out.c 2 (by simp)
  have d3 := HX2.out.c 3 (by simp)
  have d4 := HX2.out.c 4 (by simp)
  have d5 := HX2.out.c 5 (by simp)
  have d6 := HX2.out.c 6 (by simp)
  have d7 := HX2.out.c 7 (by simp)
  have d8 := HX2.out.c 8 (by simp)
  have d9 := HX2.out.c 9 (by simp)
  have d10 := HX2.out.c 10 (by simp)
  have d11 := HX2.out.c 11 (by simp)
  have d12 := HX2.out.c 12 (by simp)
  simp only [List.getElem_cons_zero, List.getElem_cons_succ] at d0 d1 d2 d3 d4 d5 d6 d7 d8 d9 d10 d11 d12
  have hlt := HX2.out.lt
  clear HX HBc HB HR
  cases RB
  case true =>
    have e := HWE.out rfl
    have e2 := HWN.out (by rw [e]; decide)
    subst e e2
    go_wp2
    go_ret2
    exact ⟨none, 0, rfl, GRd.nil _, HB2.out⟩
  have HHE := Hid.mk2 (HHL.out rfl)
  clear HWE HHL
  by_cases k1 : rk = 1
  · subst k1
    have eH : RH = true := by rw [HHE.out, if_neg (by decide)]; rfl
    have HE1 : Hid (RE = if MY = true then (if tenant = 0 ∧ keys.all seen = true then 0 else 8) else 100) := by show RE = _; rw [HEd.out, eH, if_pos rfl, if_pos rfl]
    clear HEd HHE HLd HWd HWO HP16
    cases MY
    · have e1 : CE = 100 := HCk.out
      have e2 : RE = 100 := HE1.out
      have e3 := HWN.out (by rw [e2]; decide)
      subst e1 e2 e3
      go_wp2_with (go_at_call 27; refine (HC.out _ HB2.out).mono ?_; rintro e w3 ⟨rfl, hb3⟩)
      go_ret2
      exact ⟨none, 0, rfl, GRd.nil _, g_on HB2.out hb3⟩
    have e1 : CE = 0 := HCk.out
    have HE2 : Hid (RE = if tenant = 0 ∧ keys.all seen = true then 0 else 8) := HE1.out
    have HLN := Hid.mk2 (HLI.out rfl)
    have HKW := Hid.mk2 (HKo.out rfl)
    subst e1
    clear HE1 HLI HKo HCk
    go_wp2_with (go_at_call 27; refine (HC.out _ HB2.out).mono ?_; rintro e w3 ⟨rfl, hb3⟩; have HX3 := Hid.mk2 (HX2.out.below hb3); have HB3 := Hid.mk2 (g_on HB2.out hb3); have HR3 := Hid.mk2 (HR2.out.below hb3); have q0 := HX3.out.c 0 (by simp); have q1 := HX3.out.c 1 (by simp); have q2 := HX3.out.c 2 (by simp); have q3 := HX3.out.c 3 (by simp); have q4 := HX3.out.c 4 (by simp); have q5 := HX3.out.c 5 (by simp); have q6 := HX3.out.c 6 (by simp); have q7 := HX3.out.c 7 (by simp); have q8 := HX3.out.c 8 (by simp); have q9 := HX3.out.c 9 (by simp); have q10 := HX3.out.c 10 (by simp); have q11 := HX3.out.c 11 (by simp); have q12 := HX3.out.c 12 (by simp); simp only [List.getElem_cons_zero, List.getElem_cons_succ] at q0 q1 q2 q3 q4 q5 q6 q7 q8 q9 q10 q11 q12; have hlt3 := HX3.out.lt; clear hb3 d0 d1 d2 d3 d4 d5 d6 d7 d8 d9 d10 d11 d12 HX2 HB2 HR2)
    go_loopw [5] (fun i wr => ∃ k : Nat, k ≤ keys.length ∧ i = .int .i64 k ∧ wr = w3 ∧ Hid (∀ j (hj : j < keys.length), j < k → seen keys[j] = true)) (fun i _ => keys.length - (intOf i).toNat)
    case atStart => exact ⟨0, Nat.zero_le _, rfl, rfl, fun _ _ h => absurd h (by omega)⟩
    case round =>
      obtain ⟨k, hk, rfl, rfl, HA⟩ := hrel
      by_cases hkl : k < keys.length
      · have hkl2 : (k : Int) < (keys.length : Int) := by omega
        have hne : keys ≠ [] := by intro e; rw [e] at hkl; simp at hkl
        obtain ⟨b, off, rfl, hbl, hcs⟩ := HR3.out.str hne
        have r0 := hcs k hkl
        have HPk := Hid.mk2 (HP.out keys[k] (HKZ.out _ (List.getElem_mem hkl)))
        have hww := HKW.out keys[k] (List.getElem_mem hkl)
        rw [hww] at HPk
        cases hb : seen keys[k]
        · have e2 : RE = 8 := by
            rw [HE2.out, if_neg]
            rintro ⟨_, ha⟩
            have := List.all_eq_true.1 ha keys[k] (List.getElem_mem hkl)
            rw [hb] at this
            cases this
          have e3 := HWN.out (by rw [e2]; decide)
          rw [hb] at HPk
          subst e2 e3
          obtain ⟨p, hp⟩ : ∃ p, p = keys[k] := ⟨_, rfl⟩
          rw [← hp] at HPk r0
          clear hp hb hww hcs hne HA HE2 HKW HKZ HWN HWC HLN HC HP
          go_wp2_with (go_at_call 28; refine (HPk.out _).mono ?_; rintro e w5 ⟨rfl, hw5⟩; replace hw5 := hw5.symm; subst hw5)
          go_ret2
          exact ⟨none, 0, rfl, GRd.nil _, HB3.out⟩
        · have HA2 : Hid (∀ j (hj : j < keys.length), j < k + 1 → seen keys[j] = true) := by
            intro j hj hjk
            by_cases e : j = k
            · subst e; exact hb
            · exact HA.out j hj (by omega)
          rw [hb] at HPk
          obtain ⟨p, hp⟩ : ∃ p, p = keys[k] := ⟨_, rfl⟩
          rw [← hp] at HPk r0
          clear hp hb hww hcs hne HA HE2 HKW HKZ HWN HWC HLN HC HP
          go_wp2_with (go_at_call 28; refine (HPk.out _).mono ?_; rintro e w5 ⟨rfl, hw5⟩; replace hw5 := hw5.symm; subst hw5)
          go_roundw
          case rel => exact ⟨k + 1, by omega, by go_num, by first | rfl | trivial, HA2⟩
          case measure => simp [intOf]; omega
      · have hkl2 : ¬ (k : Int) < (keys.length : Int) := by omega
        have ha : keys.all seen = true := by
          rw [List.all_eq_true]
          intro x hx
          obtain ⟨j, hj, rfl⟩ := List.getElem_of_mem hx
          exact HA.out j hj (by omega)
        have HE3 : Hid (RE = if tenant = 0 then 0 else 8) := by show RE = _; rw [HE2.out, ha]; simp
        clear HE2 HA ha HKW HKZ HP HC
        by_cases t0 : tenant = 0
        case neg =>
          have e2 : RE = 8 := by rw [HE3.out, if_neg t0]
          have e3 := HWN.out (by rw [e2]; decide)
          subst e2 e3
          clear HE3 HWN HWC HLN
          go_wp2
          go_ret2
          exact ⟨none, 0, rfl, GRd.nil _, HB3.out⟩
        have e2 : RE = 0 := by rw [HE3.out, if_pos t0]
        have e3 := HWC.out e2 (by first | rfl | trivial)
        have HZL := Hid.mk2 (HSZ.out e2)
        subst t0 e2 e3
        clear HE3 HWN HWC
        go_wp2_with (go_at_call 29; refine (HLN.out _ HB3.out).mono ?_; rintro e w5 ⟨S, rfl, hS, hb5⟩; have HS := Hid.mk2 hS; have HB5 := Hid.mk2 (g_on HB3.out hb5); have hcv := conv_str S; clear hS hb5)
        go_ret2
        exact ⟨_, _, by rw [← HS.out, bl_len]; rfl, by rw [← HS.out]; exact bsW_rd _ _ (by have := HZL.out; rw [← HS.out, bl_len] at this; exact Nat.le_trans this (by decide)), g_on HB5.out (bsW_below _ _)⟩
  have HE0 : Hid (RE = if RH = true then 0 else 8) := by show RE = _; rw [HEd.out, if_neg k1]
  have HW1 := Hid.mk2 (fun h => HWO.out h k1)
  clear HEd HWO HWC HLI HC HP HCk HKo HKZ HR2
  by_cases k2 : rk = 2
  · subst k2
    have HH2 : Hid (RH = (decide (0 ≤ rt ∧ rt < 4) && PW)) := by show RH = _; rw [HHE.out, if_pos rfl]
    clear HHE
    by_cases h0 : rt < 0
    · have e : RH = false := by rw [HH2.out, decide_eq_false (by omega)]; rfl
      have e2 : RE = 8 := by rw [HE0.out, e]; rfl
      have e3 := HWN.out (by rw [e2]; decide)
      subst e2 e3
      clear HH2 HE0 HW1 HWN HLd HWd
      go_wp2
      go_ret2
      exact ⟨none, 0, rfl, GRd.nil _, HB2.out⟩
    by_cases h4 : 4 ≤ rt
    · have e : RH = false := by rw [HH2.out, decide_eq_false (by omega)]; rfl
      have e2 : RE = 8 := by rw [HE0.out, e]; rfl
      have e3 := HWN.out (by rw [e2]; decide)
      subst e2 e3
      clear HH2 HE0 HW1 HWN HLd HWd
      go_wp2
      go_ret2
      exact ⟨none, 0, rfl, GRd.nil _, HB2.out⟩
    cases PW
    · have e : RH = false := by rw [HH2.out]; simp
      have e2 : RE = 8 := by rw [HE0.out, e]; rfl
      have e3 := HWN.out (by rw [e2]; decide)
      subst e2 e3
      clear HH2 HE0 HW1 HWN HLd HWd
      go_wp2_with (go_at_call 28; refine (HP16.out _).mono ?_; rintro e w5 ⟨rfl, hw5⟩; replace hw5 := hw5.symm; subst hw5)
      go_ret2
      exact ⟨none, 0, rfl, GRd.nil _, HB2.out⟩
    have e : RH = true := by rw [HH2.out, decide_eq_true (by omega)]; rfl
    have e2 : RE = 0 := by rw [HE0.out, e]; rfl
    have e3 := HW1.out e2
    obtain ⟨tn, rfl⟩ : ∃ tn : Nat, rt = tn := ⟨rt.toNat, by omega⟩
    have hs16 : secret.size ≤ 16 := HS16.out rfl
    have HTX := Hid.mk2 (rtext_d tn (by omega))
    have ht4 : (tn : Int) < 4 := by omega
    have ht0 : (0 : Int) ≤ (tn : Int) := by omega
    have hwr : IntKind.u64.wrap (tn : Int) = (tn : Int) := u64w (by omega)
    have d := dec_size (n := tn) (by omega)
    obtain ⟨D, hD⟩ : ∃ D, D = dec (tn : Int) := ⟨_, rfl⟩
    rw [← hD] at HTX d HWd
    have HLE : Hid (RW = bl (⟨#[117, 115, 101, 114, 32]⟩ ++ D ++ ⟨#[32]⟩ ++ secret ++ ⟨#[13, 10]⟩)) := by
      show RW = _
      rw [e3, HLd.out, HWd.out, if_pos rfl, joinW_cons]
      simp [bl_app, bl]
    obtain ⟨X1, hX1⟩ : ∃ X : ByteArray, X = ⟨#[117, 115, 101, 114, 32]⟩ ++ D := ⟨_, rfl⟩
    obtain ⟨X2, hX2⟩ : ∃ X : ByteArray, X = X1 ++ ⟨#[32]⟩ := ⟨_, rfl⟩
    obtain ⟨X3, hX3⟩ : ∃ X : ByteArray, X = X2 ++ secret := ⟨_, rfl⟩
    obtain ⟨X4, hX4⟩ : ∃ X : ByteArray, X = X3 ++ ⟨#[13, 10]⟩ := ⟨_, rfl⟩
    have z1 : X1.size = 5 + D.size := by rw [hX1, sz_app]; rfl
    have z2 : X2.size = X1.size + 1 := by rw [hX2, sz_app]; rfl
    have z3 : X3.size = X2.size + secret.size := by rw [hX3, sz_app]
    have y1 : ∀ V, (Op.stringOp .add ⟨#[117, 115, 101, 114, 32]⟩ D).run Tryd.prog V = .ok (.string X1) V := fun V => by rw [hX1]; exact run_string_add_sum _ _ _ (by show 5 + D.size ≤ _; omega)
    have y2 : ∀ V, (Op.stringOp .add X1 ⟨#[32]⟩).run Tryd.prog V = .ok (.string X2) V := fun V => by rw [hX2]; exact run_string_add_sum _ _ _ (by show X1.size + 1 ≤ _; omega)
    have y3 : ∀ V, (Op.stringOp .add X2 secret).run Tryd.prog V = .ok (.string X3) V := fun V => by rw [hX3]; exact run_string_add_sum _ _ _ (by omega)
    have y4 : ∀ V, (Op.stringOp .add X3 ⟨#[13, 10]⟩).run Tryd.prog V = .ok (.string X4) V := fun V => by rw [hX4]; exact run_string_add_sum _ _ _ (by show X3.size + 2 ≤ _; omega)
    have hcv := conv_str X4
    rw [← hX1, ← hX2, ← hX3, ← hX4] at HLE
    clear hX1 hX2 hX3 hX4 z1 z2 z3
    have HZL := Hid.mk2 (HSZ.out e2)
    rw [HLE.out, bl_len] at HZL
    subst e2
    clear HH2 HE0 HW1 HWN HLd HWd e e3 hD hs16
    have HSV : Hid (∀ V, Below w2.heap.size w2 V → V.cell? ⟨w.heap.size, 9, none⟩ = some (.int .i64 tn) ∧ V.cell? ⟨w.heap.size, 10, none⟩ = some (.string secret)) := fun V hV => ⟨(hV.cell (p := ⟨w.heap.size, 9, none⟩) hlt).trans d9, (hV.cell (p := ⟨w.heap.size, 10, none⟩) hlt).trans d10⟩
    go_wp2_with (go_at_call 28; refine (HP16.out _).mono ?_; rintro e w5 ⟨rfl, hw5⟩; replace hw5 := hw5.symm; subst hw5)
    go_region_with (first | (go_at_call 30; (try rw [hwr]); with_reducible refine (HTX.out _).mono ?_; rintro e w5 ⟨rfl, hw5⟩; replace hw5 := hw5.symm; subst hw5))
    all_goals go_wp2_with fail
    all_goals go_ret2
    all_goals exact ⟨_, _, by rw [HLE.out, bl_len]; rfl, by rw [HLE.out]; exact bsW_rd _ _ (Nat.le_trans HZL.out (by decide)), g_on HB2.out (by first | exact g_on ((Below.refl _ _).drew) (bsW_below _ _) | exact g_on (g_on ((Below.refl _ _).drew) (g_drewN _)) (bsW_below _ _) | exact bsW_below _ _)⟩
  have hcc := fun C n c => Lib.run_convert_bytes_const (P := Tryd.prog) w2 34 5 C n c Tryd.underlying34 Tryd.underlying5
  have HH3 : Hid (RH = decide (rk = 1 ∨ rk = 3 ∨ rk = 4 ∨ rk = 5)) := by show RH = _; rw [HHE.out, if_neg k2]
  clear HHE HP16
  by_cases k3 : rk = 3
  · subst k3
    have e : RH = true := by rw [HH3.out]; rfl
    have e2 : RE = 0 := by rw [HE0.out, e]; rfl
    have e3 := HW1.out e2
    rw [HLd.out, HWd.out, if_neg (by decide), if_pos rfl] at e3
    cases on
    · have e4 : RW = [116, 114, 97, 99, 107, 32, 111, 102, 102, 13, 10] := e3
      subst e2 e4
      clear HH3 HE0 HW1 HWN HLd HWd e e3
      go_wp2
      go_ret2
      exact ⟨_, _, rfl, rd_mark w2 [116, 114, 97, 99, 107, 32, 111, 102, 102, 13, 10] [.int .u8 116, .int .u8 114, .int .u8 97, .int .u8 99, .int .u8 107, .int .u8 32, .int .u8 111, .int .u8 102, .int .u8 102, .int .u8 13, .int .u8 10] _ rfl (by decide), g_on HB2.out (g_alloc _ _)⟩
    · have e4 : RW = [116, 114, 97, 99, 107, 32, 111, 110, 13, 10] := e3
      subst e2 e4
      clear HH3 HE0 HW1 HWN HLd HWd e e3
      go_wp2
      go_ret2
      exact ⟨_, _, rfl, rd_mark w2 [116, 114, 97, 99, 107, 32, 111, 110, 13, 10] [.int .u8 116, .int .u8 114, .int .u8 97, .int .u8 99, .int .u8 107, .int .u8 32, .int .u8 111, .int .u8 110, .int .u8 13, .int .u8 10] _ rfl (by decide), g_on HB2.out (g_alloc _ _)⟩
  by_cases k4 : rk = 4
  · subst k4
    have e : RH = true := by rw [HH3.out]; rfl
    have e2 : RE = 0 := by rw [HE0.out, e]; rfl
    have e3 := HW1.out e2
    rw [HLd.out, HWd.out, if_neg (by decide), if_neg (by decide), if_pos rfl] at e3
    have e4 : RW = [112, 105, 110, 103, 13, 10] := e3
    subst e2 e4
    clear HH3 HE0 HW1 HWN HLd HWd e e3
    go_wp2
    go_ret2
    exact ⟨_, _, rfl, rd_mark w2 [112, 105, 110, 103, 13, 10] [.int .u8 112, .int .u8 105, .int .u8 110, .int .u8 103, .int .u8 13, .int .u8 10] _ rfl (by decide), g_on HB2.out (g_alloc _ _)⟩
  by_cases k5 : rk = 5
  · subst k5
    have e : RH = true := by rw [HH3.out]; rfl
    have e2 : RE = 0 := by rw [HE0.out, e]; rfl
    have e3 := HW1.out e2
    rw [HLd.out, HWd.out, if_neg (by decide), if_neg (by decide), if_neg (by decide), if_pos rfl] at e3
    have e4 : RW = [113, 117, 105, 116, 13, 10] := e3
    subst e2 e4
    clear HH3 HE0 HW1 HWN HLd HWd e e3
    go_wp2
    go_ret2
    exact ⟨_, _, rfl, rd_mark w2 [113, 117, 105, 116, 13, 10] [.int .u8 113, .int .u8 117, .int .u8 105, .int .u8 116, .int .u8 13, .int .u8 10] _ rfl (by decide), g_on HB2.out (g_alloc _ _)⟩
  have e : RH = false := by rw [HH3.out]; exact decide_eq_false (by omega)
  have e2 : RE = 8 := by rw [HE0.out, e]; rfl
  have e3 := HWN.out (by rw [e2]; decide)
  subst e2 e3
  clear HH3 HE0 HW1 HWN HLd HWd e
  go_wp2
  go_ret2
  exact ⟨none, 0, rfl, GRd.nil _, HB2.out⟩
end Go.Proofs.YtldnkminhppngaaDoor
