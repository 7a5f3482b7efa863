/-
  The statement's own meet and orderly (layer 12), where all is in order.
-/
import Derived.Test.YtpnmokmadbapoaaTkY
namespace Go.Proofs.Ytpnmokmadbapoaa
open Go.RowKit
set_option linter.unusedSimpArgs false
set_option linter.unusedVariables false
set_option maxRecDepth 100000

set_option maxHeartbeats 2000000 in
theorem meet_no (L M : List Int) (hd : ∀ x ∈ L, x ∉ M) (ao bo : Option Addr) (ca cb : Nat) (w : World) (h : GRd EI w ao L ca) (h' : GRd EI w bo M cb) :
    Calls Try.prog 78 #[.slice ao L.length ca, .slice bo M.length cb] w fun e w' => e = .returned (.bool false) ∧ Below w.heap.size w w' := by
  have hl := h.len
  have hl' := h'.len
  have HR := Hid.mk2 h
  have HR' := Hid.mk2 h'
  have HD := Hid.mk2 hd
  clear h h' hd
  go_enter Try.func78, Try.ntmps78
  go_wp2
  go_loopw [5, 6] (fun i _ wr => ∃ k n : Nat, k ≤ L.length ∧ i = .int .i64 k ∧ wr = w.drewN n) (fun i _ _ => L.length - (intOf i).toNat)
  case atStart => exact ⟨0, 0, Nat.zero_le _, rfl, rfl⟩
  case round =>
    obtain ⟨k, n, hk, rfl, hw⟩ := hrel
    rw [hw]
    clear hw
    by_cases hkl : k < L.length
    · have hkl2 : (k : Int) < (L.length : Int) := by omega
      have hne : L ≠ [] := by intro e; rw [e] at hkl; simp at hkl
      obtain ⟨b, off, rfl, hbl, hcs⟩ := HR.out.int hne
      have r0 := hcs k hkl
      have HDK := Hid.mk2 (HD.out L[k] (List.getElem_mem hkl))
      obtain ⟨p, hp⟩ : ∃ p, p = L[k] := ⟨_, rfl⟩
      rw [← hp] at r0 HDK
      clear hp hcs hne
      go_wp2
      go_loopw [6] (fun i wr => ∃ j m : Nat, j ≤ M.length ∧ i = .int .i64 j ∧ wr = w.drewN m) (fun i _ => M.length - (intOf i).toNat)
      case atStart => exact ⟨0, n, Nat.zero_le _, rfl, rfl⟩
      case round =>
        obtain ⟨j, m, hj, rfl, hw⟩ := hrel
        rw [hw]
        clear hw
        by_cases hjl : j < M.length
        · have hjl2 : (j : Int) < (M.length : Int) := by omega
          have hne' : M ≠ [] := by intro e; rw [e] at hjl; simp at hjl
          obtain ⟨b', off', rfl, hbl', hcs'⟩ := HR'.out.int hne'
          have r1 := hcs' j hjl
          have hpq : (p == M[j]) = false := by rw [beq_eq_false_iff_ne]; intro e; exact HDK.out (by rw [e]; exact List.getElem_mem hjl)
          obtain ⟨q, hq⟩ : ∃ q, q = M[j] := ⟨_, rfl⟩
          rw [← hq] at r1 hpq
          clear hq hcs' hne'
          go_wp2
          go_quiet (fail)
          go_wp2
          go_roundw
          case rel => exact ⟨j + 1, _, by omega, by go_num, by first | rfl | exact World.drewN_drewN _ _ _⟩
          case measure => simp [intOf]; omega
        · have hjl2 : ¬ ((j : Int) < (M.length : Int)) := by omega
          go_wp2
          go_roundw
          case rel => exact ⟨k + 1, m, by omega, by go_num, rfl⟩
          case measure => simp [intOf]; omega
    · have hkl2 : ¬ ((k : Int) < (L.length : Int)) := by omega
      go_wp2
      go_ret
      exact ⟨rfl, g_drewN n⟩
/-- each that was put was taken once, and in order -/
structure InOrder (n : Nat) (P T : List Td) : Prop where
  once : ∀ i (hi : i < P.length), ∃ k, ∃ hk : k < T.length, T[k].t = P[i].t ∧ ∀ k' (hk' : k' < T.length), T[k'].t.num = P[i].t.num → k' = k
  may : ∀ d ∈ T, d.t.may = true
  ahead : ∀ i k (hi : i < T.length) (hk : k < T.length), i < k → T[k].t.num < T[i].t.num → ∀ x ∈ T[i].t.needs n, x ∉ T[k].t.needs n
theorem InOrder.same {n : Nat} {P T : List Td} (h : InOrder n P T) (i k : Nat) (hi : i < P.length) (hk : k < T.length) : P[i].t = T[k].t ∨ P[i].t.num ≠ T[k].t.num := by
  obtain ⟨k0, hk0, e0, hu⟩ := h.once i hi
  by_cases e : P[i].t.num = T[k].t.num
  · have := hu k hk e.symm
    subst this
    exact .inl e0.symm
  · exact .inr e

set_option maxHeartbeats 4000000 in
theorem orderly_ok (n : Nat) (hn0 : 1 ≤ n) (hn1 : n ≤ 4) (P T : List Td) (hO : InOrder n P T) (po uo : Option Addr) (pc tc : Nat) (hTl : T.length ≤ 1000) (w : World) (hP : GRd ET w po P pc) (hT : GRd ET w uo T tc) (kP : ∀ d ∈ P, GRd ES w d.so d.t.c.keys d.sc) (kT : ∀ d ∈ T, GRd ES w d.so d.t.c.keys d.sc) :
    Calls Try.prog 46 #[.slice po P.length pc, .slice uo T.length tc, .int .i64 n] w fun e w' => e = .returned (.bool true) ∧ Below w.heap.size w w' := by
  have mixed : Try.prog.follows .mixedOrders = true := by kernel_rfl
  have hpl := hP.len
  have htl := hT.len
  have HO := Hid.mk2 hO
  have HP := Hid.mk2 hP
  have HT := Hid.mk2 hT
  have HKP := Hid.mk2 kP
  have HKT := Hid.mk2 kT
  clear hO hP hT kP kT
  go_enter Try.func46, Try.ntmps46
  go_wp2
  go_loopw [7, 8, 9] (fun i _ _ wr => ∃ k : Nat, k ≤ P.length ∧ i = .int .i64 k ∧ Hid (Below w.heap.size w wr)) (fun i _ _ _ => P.length - (intOf i).toNat)
  case atStart => exact ⟨0, Nat.zero_le _, rfl, Below.refl _ _⟩
  case round =>
    obtain ⟨i, hi, rfl, HB0⟩ := hrel
    by_cases hil : i < P.length
    · have hil2 : (i : Int) < (P.length : Int) := by omega
      have hneP : P ≠ [] := by intro e; rw [e] at hil; simp at hil
      obtain ⟨k0, hk0, he0, hu0⟩ := HO.out.once i hil
      have HU0 := Hid.mk2 hu0
      have HSM := Hid.mk2 (fun k hk => HO.out.same i k hil hk)
      have HKI := Hid.mk2 (HKP.out P[i] (List.getElem_mem hil))
      have HE0 : Hid (T[k0].t.num = P[i].t.num) := by show _ = _; rw [he0]
      obtain ⟨b, off, rfl, hbl, hcs⟩ := HP.out.tks hneP
      obtain ⟨r0, r1, r2, r3, r4, r5, r6, r7, r8, r9, r10, r11⟩ := hcs i hil
      obtain ⟨d, hd⟩ : ∃ d, d = P[i] := ⟨_, rfl⟩
      rw [← hd] at r0 r1 r2 r3 r4 r5 r6 r7 r8 r9 r10 r11 HU0 HKI HE0
      have HSM2 : Hid (∀ k (hk : k < T.length), d.t = T[k].t ∨ d.t.num ≠ T[k].t.num) := by intro k hk; rw [hd]; exact HSM.out k hk
      clear hd hcs hneP he0 hu0 HSM
      go_wp2
      go_loopw [8, 9] (fun a j wr => ∃ k : Nat, k ≤ T.length ∧ j = .int .i64 k ∧ a = .int .i64 ((if k0 < k then 1 else 0 : Nat) : Int) ∧ Hid (Below w.heap.size w wr)) (fun _ j _ => T.length - (intOf j).toNat)
      case atStart => exact ⟨0, Nat.zero_le _, rfl, by simp, HB0⟩
      case round =>
        obtain ⟨k, hk, rfl, rfl, HBW⟩ := hrel
        by_cases hkl : k < T.length
        · have hkl2 : (k : Int) < (T.length : Int) := by omega
          have hneT : T ≠ [] := by intro e; rw [e] at hkl; simp at hkl
          obtain ⟨b1, off1, rfl, hbl1, hcs1⟩ := HT.out.tks hneT
          obtain ⟨z0, z1, z2, z3, z4, z5, z6, z7, z8, z9, z10, z11⟩ := hcs1 k hkl
          have HS := Hid.mk2 (fun p : Beh wr => rsame12 d.t T[k].t (HSM2.out k hkl) d.so T[k].so d.sc T[k].sc p.v ((HKI.out.below HBW.out).below p.ok) (((HKT.out T[k] (List.getElem_mem hkl)).below HBW.out).below p.ok))
          have HUK : Hid (decide (d.t.num = T[k].t.num) = decide (k = k0)) := by
            show _ = _
            rw [Bool.eq_iff_iff, decide_eq_true_iff, decide_eq_true_iff]
            exact ⟨fun e => HU0.out k hkl e.symm, fun e => by subst e; exact HE0.out.symm⟩
          rw [HUK.out] at HS
          obtain ⟨d1, hd1⟩ : ∃ d1, d1 = T[k] := ⟨_, rfl⟩
          rw [← hd1] at z0 z1 z2 z3 z4 z5 z6 z7 z8 z9 z10 z11 HS
          obtain ⟨G, hG⟩ : ∃ G, G = decide (k = k0) := ⟨_, rfl⟩
          have HGG := Hid.mk2 hG
          rw [← hG] at HS
          obtain ⟨C0, hC0⟩ : ∃ C0 : Nat, C0 = if k0 < k then 1 else 0 := ⟨_, rfl⟩
          have HC0 := Hid.mk2 hC0
          rw [← hC0]
          have hC1 : C0 ≤ 1 := by rw [hC0]; split <;> omega
          unfold Tk.arr at HS
          have q0 : ∀ p : Beh wr, _ := cell_beh2 HBW.out (a := ⟨b, off + i * 12, none⟩) hbl r0
          have s0 : ∀ p : Beh wr, _ := cell_beh2 HBW.out (a := ⟨b1, off1 + k * 12, none⟩) hbl1 z0
          have q1 : ∀ p : Beh wr, _ := cell_beh2 HBW.out (a := ⟨b, off + i * 12 + 1, none⟩) hbl r1
          have s1 : ∀ p : Beh wr, _ := cell_beh2 HBW.out (a := ⟨b1, off1 + k * 12 + 1, none⟩) hbl1 z1
          have q2 : ∀ p : Beh wr, _ := cell_beh2 HBW.out (a := ⟨b, off + i * 12 + 2, none⟩) hbl r2
          have s2 : ∀ p : Beh wr, _ := cell_beh2 HBW.out (a := ⟨b1, off1 + k * 12 + 2, none⟩) hbl1 z2
          have q3 : ∀ p : Beh wr, _ := cell_beh2 HBW.out (a := ⟨b, off + i * 12 + 3, none⟩) hbl r3
          have s3 : ∀ p : Beh wr, _ := cell_beh2 HBW.out (a := ⟨b1, off1 + k * 12 + 3, none⟩) hbl1 z3
          have q4 : ∀ p : Beh wr, _ := cell_beh2 HBW.out (a := ⟨b, off + i * 12 + 4, none⟩) hbl r4
          have s4 : ∀ p : Beh wr, _ := cell_beh2 HBW.out (a := ⟨b1, off1 + k * 12 + 4, none⟩) hbl1 z4
          have q5 : ∀ p : Beh wr, _ := cell_beh2 HBW.out (a := ⟨b, off + i * 12 + 5, none⟩) hbl r5
          have s5 : ∀ p : Beh wr, _ := cell_beh2 HBW.out (a := ⟨b1, off1 + k * 12 + 5, none⟩) hbl1 z5
          have q6 : ∀ p : Beh wr, _ := cell_beh2 HBW.out (a := ⟨b, off + i * 12 + 6, none⟩) hbl r6
          have s6 : ∀ p : Beh wr, _ := cell_beh2 HBW.out (a := ⟨b1, off1 + k * 12 + 6, none⟩) hbl1 z6
          have q7 : ∀ p : Beh wr, _ := cell_beh2 HBW.out (a := ⟨b, off + i * 12 + 7, none⟩) hbl r7
          have s7 : ∀ p : Beh wr, _ := cell_beh2 HBW.out (a := ⟨b1, off1 + k * 12 + 7, none⟩) hbl1 z7
          have q8 : ∀ p : Beh wr, _ := cell_beh2 HBW.out (a := ⟨b, off + i * 12 + 8, none⟩) hbl r8
          have s8 : ∀ p : Beh wr, _ := cell_beh2 HBW.out (a := ⟨b1, off1 + k * 12 + 8, none⟩) hbl1 z8
          have q9 : ∀ p : Beh wr, _ := cell_beh2 HBW.out (a := ⟨b, off + i * 12 + 9, none⟩) hbl r9
          have s9 : ∀ p : Beh wr, _ := cell_beh2 HBW.out (a := ⟨b1, off1 + k * 12 + 9, none⟩) hbl1 z9
          have q10 : ∀ p : Beh wr, _ := cell_beh2 HBW.out (a := ⟨b, off + i * 12 + 10, none⟩) hbl r10
          have s10 : ∀ p : Beh wr, _ := cell_beh2 HBW.out (a := ⟨b1, off1 + k * 12 + 10, none⟩) hbl1 z10
          have q11 : ∀ p : Beh wr, _ := cell_beh2 HBW.out (a := ⟨b, off + i * 12 + 11, none⟩) hbl r11
          have s11 : ∀ p : Beh wr, _ := cell_beh2 HBW.out (a := ⟨b1, off1 + k * 12 + 11, none⟩) hbl1 z11
          clear hd1 hcs1 hneT hG hC0 HUK z0 z1 z2 z3 z4 z5 z6 z7 z8 z9 z10 z11
          cases G
          · have HC2 : Hid ((if k0 < k + 1 then 1 else 0 : Nat) = C0) := by
              have h1 : ¬ k = k0 := of_decide_eq_false HGG.out.symm
              show _ = _
              rw [HC0.out]
              split <;> split <;> omega
            go_wp2
            refine wp_region_quiet_beh (by assumption) (by kernel_rfl) ?_
            repeat (first | go_big_quiet_skip | (quiet_step (first | (go_at_call 42; exact Calls.beh_of (HS.out _)))))
            refine wpQuiet_nil ?_
            intro w5 hw'
            obtain ⟨⟨wq, hq⟩, hw''⟩ := hw'
            subst hw''
            clear HS q0 s0 q1 s1 q2 s2 q3 s3 q4 s4 q5 s5 q6 s6 q7 s7 q8 s8 q9 s9 q10 s10 q11 s11
            go_wp2
            go_roundw
            case rel => exact ⟨k + 1, by omega, by go_num, by rw [HC2.out], g_on HBW.out hq⟩
            case measure => simp [intOf]; omega
          · have HC2 : Hid ((if k0 < k + 1 then 1 else 0 : Nat) = 1) := by
              have h1 : k = k0 := of_decide_eq_true HGG.out.symm
              show _ = _
              rw [if_pos (by omega)]
            have hC3 : C0 = 0 := by
              have h1 : k = k0 := of_decide_eq_true HGG.out.symm
              rw [HC0.out, if_neg (by omega)]
            subst hC3
            go_wp2
            refine wp_region_quiet_beh (by assumption) (by kernel_rfl) ?_
            repeat (first | go_big_quiet_skip | (quiet_step (first | (go_at_call 42; exact Calls.beh_of (HS.out _)))))
            refine wpQuiet_nil ?_
            intro w5 hw'
            obtain ⟨⟨wq, hq⟩, hw''⟩ := hw'
            subst hw''
            clear HS q0 s0 q1 s1 q2 s2 q3 s3 q4 s4 q5 s5 q6 s6 q7 s7 q8 s8 q9 s9 q10 s10 q11 s11
            go_wp2
            go_roundw
            case rel => exact ⟨k + 1, by omega, by go_num, by rw [HC2.out]; rfl, g_on HBW.out hq⟩
            case measure => simp [intOf]; omega
        · have hkl2 : ¬ ((k : Int) < (T.length : Int)) := by omega
          have hk1 : (if k0 < k then 1 else 0 : Nat) = 1 := if_pos (by omega)
          rw [hk1]
          go_wp2
          go_roundw
          case rel => exact ⟨i + 1, by omega, by go_num, HBW⟩
          case measure => simp [intOf]; omega
    · have hil2 : ¬ ((i : Int) < (P.length : Int)) := by omega
      have HSH := Hid.mk2 (fun (d : Td) (hd : d ∈ T) V (hV : Below w.heap.size w V) => tshards_ok d.t n hn0 hn1 (HO.out.may d hd) d.so d.sc V ((HKT.out d hd).below hV))
      have HMT := Hid.mk2 (fun (L M : List Int) hd x1 x2 x3 x4 wx g1 g2 => meet_no L M hd x1 x2 x3 x4 wx g1 g2)
      clear HKP HP
      go_wp2
      go_loopw [10, 11, 12, 13, 14, 15] (fun a _ _ _ _ _ wr => ∃ i : Nat, i ≤ T.length ∧ a = .int .i64 i ∧ Hid (Below w.heap.size w wr)) (fun a _ _ _ _ _ _ => T.length - (intOf a).toNat)
      case atStart => exact ⟨0, Nat.zero_le _, rfl, HB0⟩
      case round =>
        obtain ⟨u, hu, rfl, HB1⟩ := hrel
        by_cases hul : u < T.length
        · have hul2 : (u : Int) < (T.length : Int) := by omega
          have hneT : T ≠ [] := by intro e; rw [e] at hul; simp at hul
          have HSU := Hid.mk2 (HSH.out T[u] (List.getElem_mem hul) wr HB1.out)
          have HAU := Hid.mk2 (fun k hk => HO.out.ahead u k hul hk)
          obtain ⟨b, off, rfl, hbl, hcs⟩ := HT.out.tks hneT
          obtain ⟨z0, z1, z2, z3, z4, z5, z6, z7, z8, z9, z10, z11⟩ := hcs u hul
          obtain ⟨d, hd⟩ : ∃ d, d = T[u] := ⟨_, rfl⟩
          rw [← hd] at z0 z1 z2 z3 z4 z5 z6 z7 z8 z9 z10 z11 HSU HAU
          unfold Tk.arr at HSU
          obtain ⟨NL, hNL⟩ : ∃ NL, NL = d.t.needs n := ⟨_, rfl⟩
          rw [← hNL] at HSU HAU
          have y0 := (HB1.out.cell (p := ⟨b, off + u * 12, none⟩) hbl).trans z0
          have y1 := (HB1.out.cell (p := ⟨b, off + u * 12 + 1, none⟩) hbl).trans z1
          have y2 := (HB1.out.cell (p := ⟨b, off + u * 12 + 2, none⟩) hbl).trans z2
          have y3 := (HB1.out.cell (p := ⟨b, off + u * 12 + 3, none⟩) hbl).trans z3
          have y4 := (HB1.out.cell (p := ⟨b, off + u * 12 + 4, none⟩) hbl).trans z4
          have y5 := (HB1.out.cell (p := ⟨b, off + u * 12 + 5, none⟩) hbl).trans z5
          have y6 := (HB1.out.cell (p := ⟨b, off + u * 12 + 6, none⟩) hbl).trans z6
          have y7 := (HB1.out.cell (p := ⟨b, off + u * 12 + 7, none⟩) hbl).trans z7
          have y8 := (HB1.out.cell (p := ⟨b, off + u * 12 + 8, none⟩) hbl).trans z8
          have y9 := (HB1.out.cell (p := ⟨b, off + u * 12 + 9, none⟩) hbl).trans z9
          have y10 := (HB1.out.cell (p := ⟨b, off + u * 12 + 10, none⟩) hbl).trans z10
          have y11 := (HB1.out.cell (p := ⟨b, off + u * 12 + 11, none⟩) hbl).trans z11
          have blt := Nat.lt_of_lt_of_le hbl HB1.out.size
          clear hd hneT hNL
          go_upto_region 16 with (go_at_call 35; refine HSU.out.mono ?_; rintro e w2 ⟨v2, rfl, hO2, hb2⟩; obtain ⟨a2, c2, hv2, hR2⟩ := hO2.rd okI; subst hv2; have HR2 := Hid.mk2 hR2; have HB2 := Hid.mk2 (g_on HB1.out hb2); clear hO2 hb2 hR2)
          clear blt y0 y1 y2 y3 y4 y5 y6 y7 y8 y9 y10 y11 HSU
          have hu1 : (u : Int) + 1 ≤ (T.length : Int) := by omega
          go_wp2
          go_loopw [13, 14, 15] (fun a _ _ wr => ∃ k : Nat, u < k ∧ k ≤ T.length ∧ a = .int .i64 k ∧ Hid (Below w2.heap.size w2 wr)) (fun a _ _ _ => T.length - (intOf a).toNat)
          case atStart => exact ⟨u + 1, by omega, by omega, by go_num, Below.refl _ _⟩
          case round =>
            obtain ⟨k, huk, hk, rfl, HB3⟩ := hrel
            by_cases hkl : k < T.length
            · have hkl2 : (k : Int) < (T.length : Int) := by omega
              have HW3 : Hid (Below w.heap.size w wr) := g_on HB2.out HB3.out
              have HSK := Hid.mk2 (HSH.out T[k] (List.getElem_mem hkl) wr HW3.out)
              have HAK := Hid.mk2 (HAU.out k hkl huk)
              obtain ⟨x0, x1, x2, x3, x4, x5, x6, x7, x8, x9, x10, x11⟩ := hcs k hkl
              obtain ⟨d1, hd1⟩ : ∃ d1, d1 = T[k] := ⟨_, rfl⟩
              rw [← hd1] at x0 x1 x2 x3 x4 x5 x6 x7 x8 x9 x10 x11 HSK HAK
              unfold Tk.arr at HSK
              obtain ⟨ML, hML⟩ : ∃ ML, ML = d1.t.needs n := ⟨_, rfl⟩
              rw [← hML] at HSK HAK
              have v0 := (HW3.out.cell (p := ⟨b, off + k * 12, none⟩) hbl).trans x0
              have v1 := (HW3.out.cell (p := ⟨b, off + k * 12 + 1, none⟩) hbl).trans x1
              have v2 := (HW3.out.cell (p := ⟨b, off + k * 12 + 2, none⟩) hbl).trans x2
              have v3 := (HW3.out.cell (p := ⟨b, off + k * 12 + 3, none⟩) hbl).trans x3
              have v4 := (HW3.out.cell (p := ⟨b, off + k * 12 + 4, none⟩) hbl).trans x4
              have v5 := (HW3.out.cell (p := ⟨b, off + k * 12 + 5, none⟩) hbl).trans x5
              have v6 := (HW3.out.cell (p := ⟨b, off + k * 12 + 6, none⟩) hbl).trans x6
              have v7 := (HW3.out.cell (p := ⟨b, off + k * 12 + 7, none⟩) hbl).trans x7
              have v8 := (HW3.out.cell (p := ⟨b, off + k * 12 + 8, none⟩) hbl).trans x8
              have v9 := (HW3.out.cell (p := ⟨b, off + k * 12 + 9, none⟩) hbl).trans x9
              have v10 := (HW3.out.cell (p := ⟨b, off + k * 12 + 10, none⟩) hbl).trans x10
              have v11 := (HW3.out.cell (p := ⟨b, off + k * 12 + 11, none⟩) hbl).trans x11
              have blt3 := Nat.lt_of_lt_of_le hbl HW3.out.size
              clear hd1 hML
              go_upto_region 20 with (go_at_call 35; refine HSK.out.mono ?_; rintro e w4 ⟨v4, rfl, hO4, hb4⟩; obtain ⟨a4, c4, hv4, hR4⟩ := hO4.rd okI; subst hv4; have HR4 := Hid.mk2 hR4; have HB4 := Hid.mk2 hb4; clear hO4 hb4 hR4)
              clear blt3 v0 v1 v2 v3 v4 v5 v6 v7 v8 v9 v10 v11 HSK
              have HW4 : Hid (Below w.heap.size w w4) := g_on HW3.out HB4.out
              have z0' : ∀ p : Beh w4, _ := cell_beh2 HW4.out (a := ⟨b, off + u * 12, none⟩) hbl z0
              have x0' : ∀ p : Beh w4, _ := cell_beh2 HW4.out (a := ⟨b, off + k * 12, none⟩) hbl x0
              by_cases hlt : d1.t.num < d.t.num
              · have HMM := Hid.mk2 (fun p : Beh w4 => HMT.out NL ML (HAK.out hlt) a2 a4 c2 c4 p.v ((HR2.out.below (g_on HB3.out HB4.out)).below p.ok) (HR4.out.below p.ok))
                go_upto_region 22 with (fail)
                refine wp_region_quiet_beh (by assumption) (by kernel_rfl) ?_
                repeat (first | go_big_quiet_skip | (quiet_step (first | (go_at_call 78; exact Calls.beh_of (HMM.out _)))))
                refine wpQuiet_nil ?_
                intro w5 hw'
                obtain ⟨⟨wq, hq⟩, hw''⟩ := hw'
                subst hw''
                clear z0' x0' HMM
                go_wp2
                go_roundw
                case rel => exact ⟨k + 1, by omega, by omega, by go_num, g_on (g_on HB3.out HB4.out) hq⟩
                case measure => simp [intOf]; omega
              · go_upto_region 22 with (fail)
                refine wp_region_quiet_beh (by assumption) (by kernel_rfl) ?_
                repeat (first | go_big_quiet_skip | (quiet_step (fail)))
                refine wpQuiet_nil ?_
                intro w5 hw'
                obtain ⟨⟨wq, hq⟩, hw''⟩ := hw'
                subst hw''
                clear z0' x0'
                go_wp2
                go_roundw
                case rel => exact ⟨k + 1, by omega, by omega, by go_num, g_on (g_on HB3.out HB4.out) hq⟩
                case measure => simp [intOf]; omega
            · have hkl2 : ¬ ((k : Int) < (T.length : Int)) := by omega
              go_wp2
              go_roundw
              case rel => exact ⟨u + 1, by omega, by go_num, g_on HB2.out HB3.out⟩
              case measure => simp [intOf]; omega
        · have hul2 : ¬ ((u : Int) < (T.length : Int)) := by omega
          go_wp2
          go_ret
          exact ⟨rfl, HB1.out⟩
end Go.Proofs.Ytpnmokmadbapoaa
