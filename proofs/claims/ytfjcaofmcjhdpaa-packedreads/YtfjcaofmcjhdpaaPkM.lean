/-
  The document's items of an answer's body, walked.
-/
import Derived.Test.YtfjcaofmcjhdpaaPkL
namespace Go.Proofs.Ytfjcaofmcjhdpaa
open Go.Proofs.Ytfjcaofmcjhdpaa.It
open Go.RowKit
set_option linter.unusedSimpArgs false
set_option linter.unusedVariables false
set_option maxRecDepth 100000

/-- what items answers -/
structure ItsR (w w' : World) (B : List UInt8) (n : Nat) (e : Ending) : Prop where
  ex : ∃ (lo : Option Addr) (L : List Im) (lc : Nat) (ro : Option Addr) (r : List UInt8) (rc : Nat) (ok : Bool), e = .returned (.tuple #[.slice lo L.length lc, .slice ro r.length rc, .bool ok]) ∧ GRd EM w' lo L lc ∧ (∀ a, lo = some a → w.heap.size ≤ a.block) ∧ (ok = true → pItems n ⟨B, false⟩ = (L, ⟨r, false⟩)) ∧ (ok = false → (pItems n ⟨B, false⟩).2.bad = true)
  below : Below w.heap.size w w'
theorem itsR_no {w w' : World} {B : List UInt8} {n : Nat} (h : (pItems n ⟨B, false⟩).2.bad = true) (hb : Below w.heap.size w w') : ItsR w w' B n (.returned (.tuple #[.slice none 0 0, .slice none 0 0, .bool false])) :=
  ⟨⟨none, [], 0, none, [], 0, false, rfl, GRd.nil _, (fun a e => by cases e), (fun e => by cases e), (fun _ => h)⟩, hb⟩
theorem restA_blk {ao : Option Addr} {k cap n : Nat} (h : ∀ a, ao = some a → n ≤ a.block) : ∀ a, restA ao k cap = some a → n ≤ a.block := by
  intro a ha
  unfold restA at ha
  split at ha
  · exact h a ha
  · cases ao with
    | none => simp at ha
    | some c =>
      simp only [Option.map_some, Option.some.injEq] at ha
      have h1 := h c rfl
      rw [← ha]
      exact Nat.le_trans h1 (Nat.le_of_eq (by unfold Addr.add; split <;> rfl))
def c3 (ns : List Nat) : List Value := [.int .u64 (ns.getD 0 0 : Nat), .int .u64 (ns.getD 1 0 : Nat), .int .u64 (ns.getD 2 0 : Nat)]
theorem c3_set (ns : List Nat) (n : Nat) (h : ns.length < 3) : (c3 ns).set ns.length (.int .u64 (n : Nat)) = c3 (ns ++ [n]) := by
  match ns, h with
  | [], _ => rfl
  | [a], _ => rfl
  | [a, b], _ => rfl
theorem qnum_step {l r : List UInt8} {j n k : Nat} {ns : List Nat} (h : qnum j l = some (ns, r)) (hr : readL r = some (n, k)) : qnum (j + 1) l = some (ns ++ [n], r.drop k) := by
  show (match qnum j l with | none => none | some (ns, r) => _) = _
  rw [h]
  dsimp only
  rw [hr]
theorem qnum_stop {l r : List UInt8} {j : Nat} {ns : List Nat} (h : qnum j l = some (ns, r)) (hr : readL r = none) : qnum (j + 1) l = none := by
  show (match qnum j l with | none => none | some (ns, r) => _) = _
  rw [h]
  dsimp only
  rw [hr]
theorem ditem_q {l : List UInt8} (h1 : cutE l = 0) (h2 : cutE (cutR l) = 0) : ditem l = match qnum 3 (cutR (cutR l)) with
    | some ([n0, n1, n2], r) => if 4294967295 < n0 ∨ 1099511627776 < n1 then none else some (⟨mk1 (cutT l), mk1 (cutT (cutR l)), (n0 : Int), (n1 : Int), (n2 : Int)⟩, r)
    | _ => none := if_neg (fun q => q.elim (fun q => q h1) (fun q => q h2))
theorem kwrap64 {n : Nat} (h1 : n ≤ 1099511627776) : wrap64 (n : Int) = n := by
  unfold wrap64
  first | omega | (simp; omega) | (simp only [IntKind.wrap_i64]; omega)
set_option maxHeartbeats 8000000 in
theorem rItems_any (w : World) (ao : Option Addr) (B : List UInt8) (cap : Nat) (h : GRd EY w ao B cap) (hB : B.length ≤ 5000) (n : Nat) (hn : n ≤ 8) (m : Nat) (hm : m = B.length) :
    Calls Try.prog 48 #[.slice ao m cap, .int .i64 (n : Int)] w fun e w' => ItsR w w' B n e := by
  have HH := Hid.mk2 h
  have HM := Hid.mk2 hm
  have HBL := Hid.mk2 hB
  clear h hm hB
  go_enter Try.func48, Try.ntmps48
  go_wp2
  go_loopw [0, 7, 8, 9, 10, 11, 12, 13, 14, 15, 16, 17, 18, 19] (fun s0 s7 s8 _ _ _ _ _ _ _ _ _ _ _ wr => ∃ (i : Nat) (L : List Im) (r : List UInt8) (ro : Option Addr) (rN rc : Nat), s0 = .slice ro rN rc ∧ s8 = .int .i64 (i : Int) ∧ i ≤ n ∧ Hid (rN = r.length) ∧ Hid (Qi B i L r) ∧ Hid (GOwn EM wr w.heap.size s7 L) ∧ Hid (GRd EY wr ro r rc) ∧ Hid (Below w.heap.size w wr)) (fun _ _ s8 _ _ _ _ _ _ _ _ _ _ _ _ => n - (intOf s8).toNat)
  case atStart => exact ⟨0, [], B, ao, m, cap, rfl, rfl, Nat.zero_le _, HM.out, Qi.start B, GOwn.nil _ _, HH.out, Below.refl _ _⟩
  case round =>
    obtain ⟨i, L, r, ro, rN, rc, rfl, rfl, hi, HRN, HQ, HO, HR, HBw⟩ := hrel
    by_cases hin : i < n
    case neg =>
      have hini : ¬ (i : Int) < (n : Int) := by omega
      have hie : i = n := by omega
      subst hie
      obtain ⟨lo, lc, hv, hr⟩ := HO.out.rd okM
      subst hv
      have HRL := Hid.mk2 hr
      have HRG : Hid (∀ a, lo = some a → w.heap.size ≤ a.block) := fun a q => (HO.out.lt a.block (by rw [q]; rfl)).1
      clear hr
      go_wp2
      go_ret3
      exact ⟨⟨lo, L, lc, ro, r, rc, true, by rw [← HRN.out]; rfl, HRL.out, HRG.out, (fun _ => HQ.out.eq), (fun e => by cases e)⟩, HBw.out⟩
    have hini : (i : Int) < (n : Int) := by omega
    have hrl := HQ.out.len.2
    obtain ⟨BZ, hBZ⟩ : ∃ z, z = wr.heap.size := ⟨_, rfl⟩
    have HBZ := Hid.mk2 hBZ
    clear hBZ
    have HBAD := Hid.mk2 (fun (e : ditem r = none) => HQ.out.bad e hin)
    have HSTEP := Hid.mk2 (fun x r' (e : ditem r = some (x, r')) => HQ.out.step e)
    have HLN := Hid.mk2 HQ.out.len.1
    have HC1 := Hid.mk2 (rcut1_any wr ro r rc HR.out (by have := HBL.out; omega) rN HRN.out)
    have hcl := cutR_len r
    have hcl2 := cutR_len (cutR r)
    obtain ⟨S, hS⟩ : ∃ S, S = cutR r := ⟨_, rfl⟩
    have HC2 := Hid.mk2 (fun V o c (h : GRd EY V o S c) => rcut1_any V o S c h (by have := HBL.out; rw [hS]; omega) S.length rfl)
    obtain ⟨T, hT⟩ : ∃ T, T = cutR S := ⟨_, rfl⟩
    have HDI : Hid ((cutE r ≠ 0 ∨ cutE S ≠ 0 → ditem r = none) ∧ (cutE r = 0 → cutE S = 0 → ditem r = match qnum 3 T with
      | some ([n0, n1, n2], r') => if 4294967295 < n0 ∨ 1099511627776 < n1 then none else some (⟨mk1 (cutT r), mk1 (cutT S), (n0 : Int), (n1 : Int), (n2 : Int)⟩, r')
      | _ => none)) := ⟨fun q => by rw [hS] at q; exact if_pos q, fun h1 h2 => by rw [hT, hS]; rw [hS] at h2; exact ditem_q h1 h2⟩
    have hTl : T.length ≤ 5000 := by have := HBL.out; rw [hT, hS]; omega
    rw [← hS] at HC1
    rw [← hT] at HC2
    obtain ⟨E1, hE1⟩ : ∃ E, E = cutE r := ⟨_, rfl⟩
    obtain ⟨E2, hE2⟩ : ∃ E, E = cutE S := ⟨_, rfl⟩
    obtain ⟨KS, hKS⟩ : ∃ E, E = mk1 (cutT r) := ⟨_, rfl⟩
    obtain ⟨VS, hVS⟩ : ∃ E, E = mk1 (cutT S) := ⟨_, rfl⟩
    obtain ⟨SN, hSN⟩ : ∃ E, E = S.length := ⟨_, rfl⟩
    obtain ⟨TN, hTN⟩ : ∃ E, E = T.length := ⟨_, rfl⟩
    rw [← hE1, ← hKS, ← hSN] at HC1
    rw [← hE2, ← hVS, ← hSN, ← hTN] at HC2
    rw [← hE1, ← hE2, ← hKS, ← hVS] at HDI
    have HTN := Hid.mk2 hTN
    have HTL := Hid.mk2 hTl
    clear hS hT hE1 hE2 hKS hVS hSN hTN hTl hcl hcl2 hrl HQ
    go_upto_region 7 with (first
      | (go_at_call 58; with_reducible refine (HC1.out).mono ?_; rintro e w2 ⟨⟨o1, c1, rfl, hr1, _⟩, hb2⟩; have HR2 := Hid.mk2 hr1; have HB2 := Hid.mk2 hb2; clear hr1 hb2)
      | (go_at_call 58; with_reducible refine (HC2.out _ _ _ HR2.out).mono ?_; rintro e w3 ⟨⟨o2, c2, rfl, hr3, hg3⟩, hb3⟩; have HG4 := Hid.mk2 hg3; clear hg3; have HR3 := Hid.mk2 hr3; have HB3 := Hid.mk2 (g_on HB2.out hb3); clear hr3 hb3))
    have HG3 : Hid (∀ a, o2 = some a → BZ ≤ a.block) := fun a q => Nat.le_trans (Nat.le_trans (Nat.le_of_eq HBZ.out) HB2.out.size) (HG4.out a q)
    clear HG4
    by_cases hE : E1 ≠ 0 ∨ E2 ≠ 0
    · have HE := Hid.mk2 (HBAD.out (HDI.out.1 hE))
      have HW := Hid.mk2 (g_on HBw.out HB3.out)
      clear HDI HBAD HSTEP
      by_cases h1 : E1 = 0
      · have q1 : (E1 != 0) = false := by rw [h1]; rfl
        have q2 : (E2 != 0) = true := by have := hE.resolve_left (fun q => q h1); simpa using this
        clear hE h1
        go_wp2
        go_ret3
        exact itsR_no HE.out HW.out
      · have q1 : (E1 != 0) = true := by simpa using h1
        clear hE h1
        go_wp2
        go_ret3
        exact itsR_no HE.out HW.out
    have h1 : E1 = 0 := by
      by_cases q : E1 = 0
      · exact q
      · exact absurd (.inl q) hE
    have h2 : E2 = 0 := by
      by_cases q : E2 = 0
      · exact q
      · exact absurd (.inr q) hE
    subst h1 h2
    have HDJ := Hid.mk2 (HDI.out.2 rfl rfl)
    clear hE HDI
    go_upto_region 11 with (fail)
    obtain ⟨W4, hW4⟩ : ∃ W4, W4 = w3.alloc (.cells #[.int .u64 0, .int .u64 0, .int .u64 0] 92) := ⟨_, rfl⟩
    have HX4 : Hid (GBx W4 w3.heap.size (c3 [])) := by rw [hW4]; exact GBx.made w3 (c3 []) _
    have hb4 : Below w3.heap.size w3 W4 := by rw [hW4]; exact g_alloc _ _
    have HB4 := Hid.mk2 (g_on HBw.out (g_on HB3.out hb4))
    have HO4 := Hid.mk2 (HO.out.below (g_on HB3.out hb4))
    have HR4 := HR3
    rw [← hW4]
    have hX4 : w3.heap.size ≤ w3.heap.size := Nat.le_refl _
    have HB34 := Hid.mk2 hb4
    clear hW4 hb4
    obtain ⟨X, hX⟩ : ∃ X, X = w3.heap.size := ⟨_, rfl⟩
    have HXE := Hid.mk2 hX
    rw [← hX] at HX4 ⊢
    clear hX hX4
    go_wp2
    go_loopw [0, 16, 17, 18, 19] (fun s0 s16 _ _ _ wr => ∃ (j : Nat) (ns : List Nat) (t : List UInt8) (ta : Option Addr) (tN tc : Nat), s0 = .slice ta tN tc ∧ s16 = .int .i64 (j : Int) ∧ j ≤ 3 ∧ Hid (tN = t.length) ∧ Hid (qnum j T = some (ns, t)) ∧ Hid (GRd EY w3 ta t tc) ∧ Hid (∀ a, ta = some a → BZ ≤ a.block) ∧ Hid (GBx wr X (c3 ns)) ∧ Hid (Below w3.heap.size w3 wr)) (fun _ s16 _ _ _ _ => 3 - (intOf s16).toNat)
    case atStart => exact ⟨0, [], T, o2, TN, c2, rfl, rfl, by omega, HTN.out, rfl, HR3.out, HG3.out, HX4.out, HB34.out⟩
    case round =>
      obtain ⟨j, ns, t, ta, tN, tc, rfl, rfl, hj, HTT, HQN, HRT, HGT, HXr, HBr⟩ := hrel
      have HLT := Hid.mk2 (qnum_len HQN.out)
      by_cases hj3 : j < 3
      · have hj3i : (j : Int) < 3 := by omega
        have HRD := Hid.mk2 (rread1_any wr ta t tc (HRT.out.below HBr.out) (by have h1 := HLT.out.2; have h2 := HTL.out; omega) tN HTT.out)
        have HDN : Hid (readL t = none → ditem r = none) := fun e => by
          have h1 := qnum_none (qnum_stop HQN.out e) (by omega : j + 1 ≤ 3)
          have h2 := HDJ.out
          rw [h1] at h2
          exact h2
        cases hr : readL t with
        | none =>
          obtain ⟨e1, e2, e3⟩ := read_none hr
          rw [e1, e2, e3] at HRD
          have HE := Hid.mk2 (HBAD.out (HDN.out hr))
          have HW := Hid.mk2 (g_on (g_on HBw.out HB3.out) HBr.out)
          clear hr e1 e2 e3 HDN HDJ HBAD HSTEP
          go_wp2_with (go_at_call 47; refine HRD.out.mono ?_; rintro e w5 ⟨rfl, hw5⟩; replace hw5 := hw5.symm; subst hw5)
          go_ret3
          exact itsR_no HE.out HW.out
        | some p =>
          obtain ⟨v, k⟩ := p
          obtain ⟨e1, e2, e3⟩ := read_some hr
          obtain ⟨hk, hk0, hv⟩ := readL_le hr
          rw [e1, e2, e3] at HRD
          have HQ2 := Hid.mk2 (qnum_step HQN.out hr)
          have hns : ns.length = j := HLT.out.1
          have hktn : k ≤ tN := by rw [HTT.out]; exact hk
          have xj := HXr.out.c j (by simp [c3]; omega)
          have xf := HXr.out.f j
          have HX2 : Hid (∀ u, GBx (wr.setCell ⟨X, j, none⟩ u) X ((c3 ns).set j u)) := fun u => HXr.out.set j u (by simp [c3]; omega)
          have HC3 : Hid ((c3 ns).set j (.int .u64 (v : Nat)) = c3 (ns ++ [v])) := by
            show _ = _
            rw [← hns]
            exact c3_set ns v (by omega)
          obtain ⟨cv, hcv⟩ : ∃ cv, cv = (c3 ns)[j]'(by simp [c3]; omega) := ⟨_, rfl⟩
          rw [← hcv] at xj
          have HRT2 := Hid.mk2 (rest_rd HRT.out k (by rw [← HTT.out]; exact hktn))
          have HN2 : Hid (tN - k = (t.drop k).length) := by show _ = _; rw [List.length_drop, HTT.out]
          clear hr e1 e2 e3 HDN hns hcv
          go_wp2_with (first
            | (go_at_call 47; refine HRD.out.mono ?_; rintro e w5 ⟨rfl, hw5⟩; replace hw5 := hw5.symm; subst hw5)
            | (refine wpl_slice_l rfl _ _ rfl ta k tN tc rfl rfl hktn ?_))
          have hXX := HX2.out (.int .u64 (v : Nat))
          rw [HC3.out] at hXX
          refine ⟨⟨j + 1, ns ++ [v], t.drop k, restA ta k tc, tN - k, tc - k, rfl, by go_num, by omega, HN2.out, HQ2.out, HRT2.out, restA_blk HGT.out, hXX, HBr.out.setCell (p := ⟨X, j, none⟩) (by show w3.heap.size ≤ X; rw [HXE.out]; exact Nat.le_refl _) _⟩, by simp [intOf]; omega⟩
      · have hje : j = 3 := by omega
        subst hje
        have hj3i : ¬ ((3 : Nat) : Int) < 3 := by omega
        obtain ⟨n0, k0, n1, k1, n2, k2, r0, r1, r2, rfl, rfl⟩ := qnum3_inv HQN.out
        have HX9 : Hid (GBx wr X [.int .u64 (n0 : Nat), .int .u64 (n1 : Nat), .int .u64 (n2 : Nat)]) := HXr.out
        have x0 := HX9.out.c 0 (by simp)
        have x1 := HX9.out.c 1 (by simp)
        have x2 := HX9.out.c 2 (by simp)
        simp only [List.getElem_cons_zero, List.getElem_cons_succ] at x0 x1 x2
        have hd := HDJ.out
        rw [HQN.out] at hd
        dsimp only at hd
        have HWr := Hid.mk2 (g_on (g_on HBw.out HB3.out) HBr.out)
        obtain ⟨t, ht⟩ : ∃ t', t' = ((T.drop k0).drop k1).drop k2 := ⟨_, rfl⟩
        rw [← ht] at hd HTT HRT
        have hv2 := (readL_le r2).2.2
        by_cases hl : 4294967295 < n0 ∨ 1099511627776 < n1
        · rw [if_pos hl] at hd
          have HE := Hid.mk2 (HBAD.out hd)
          by_cases hl0 : 4294967295 < n0
          · have q0 : (4294967295 : Int) < (n0 : Int) := by omega
            clear HDJ HBAD HSTEP hd hl hl0 r0 r1 r2 HQN HLT
            go_wp2
            go_ret3
            exact itsR_no HE.out HWr.out
          · have q0 : ¬ (4294967295 : Int) < (n0 : Int) := by omega
            have q1 : (1099511627776 : Int) < (n1 : Int) := by omega
            clear HDJ HBAD HSTEP hd hl hl0 r0 r1 r2 HQN HLT
            go_wp2
            go_ret3
            exact itsR_no HE.out HWr.out
        · rw [if_neg hl] at hd
          have HST := Hid.mk2 (HSTEP.out _ _ hd)
          have q0 : ¬ (4294967295 : Int) < (n0 : Int) := by omega
          have q1 : ¬ (1099511627776 : Int) < (n1 : Int) := by omega
          have HN0 : Hid ((n0 : Int) % 4294967296 = n0) := by show _ = _; omega
          have HN1 : Hid (wrap64 (n1 : Int) = n1) := kwrap64 (by omega)
          have HOr := Hid.mk2 (HO.out.below (g_on HB3.out HBr.out))
          have hbz : w.heap.size ≤ wr.heap.size := HWr.out.size
          have HL1 : Hid (L.length + 1 ≤ 1000000) := by show _ ≤ _; rw [HLN.out]; omega
          clear HDJ HBAD HSTEP hd hl r0 r1 r2 HQN HLT
          go_wp2_with (at_builtin; refine g_one (w0 := wr) okM rfl _ _ _ rfl rfl w.heap.size _ L HOr.out rfl (Im.mk KS VS (n0 : Int) (n1 : Int) (n2 : Int)) rfl _ rfl rfl HL1.out hbz ?_; intro v9 w9 hO9 hG9; have HO9 := Hid.mk2 hO9; have HB9 := Hid.mk2 (HWr.out.trans (hG9.below HOr.out hbz)); have HR9 : Hid (GRd EY w9 ta t tc) := grd_grown (HRT.out.below HBr.out) hG9.grown (fun g off q _ q2 => by have h1 : BZ ≤ g := HGT.out _ q; have h2 := (HO.out.lt g q2).2; have h3 := HBZ.out; omega); clear hO9 hG9)
          have hO9 := HO9.out
          exact ⟨⟨i + 1, _, t, ta, tN, tc, by first | rfl | trivial, by go_num, by omega, HTT.out, HST.out, hO9, HR9.out, HB9.out⟩, by simp [intOf]; omega⟩
end Go.Proofs.Ytfjcaofmcjhdpaa
