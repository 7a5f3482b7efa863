/-
  The walk of SlabBack, where a chunk is given back.
-/
import Derived.Test.YtfdnkcahblpanaeSbBack2
namespace Go.Proofs.Ytfdnkcahblpanae
open Go.RowKit
set_option linter.unusedSimpArgs false
set_option linter.unusedVariables false
set_option maxRecDepth 100000

theorem wrapC (C : Nat) (h : C ≤ 16) : IntKind.i64.wrap (C : Int) = C := by
  have h2 : C = 0 ∨ C = 1 ∨ C = 2 ∨ C = 3 ∨ C = 4 ∨ C = 5 ∨ C = 6 ∨ C = 7 ∨ C = 8 ∨ C = 9 ∨ C = 10 ∨ C = 11 ∨ C = 12 ∨ C = 13 ∨ C = 14 ∨ C = 15 ∨ C = 16 := by omega
  rcases h2 with rfl | rfl | rfl | rfl | rfl | rfl | rfl | rfl | rfl | rfl | rfl | rfl | rfl | rfl | rfl | rfl | rfl <;> rfl
set_option maxHeartbeats 4000000 in
theorem back_ny (w : World) (b off : Nat) (ps : List Pg) (cap : Nat) (h : Sb w (some ⟨b, off, none⟩) ps cap) (ho : sOk ps = true) (hbl : b < w.heap.size) (hcs : ∀ i (hi : i < ps.length), PgLies w b (off + i * 3) ps[i]) (t c q : Int) (I K : Nat) (E : Int) (hE : takeE ps t c q = E) (hE0 : ¬ E = 0) (hI : I < ps.length) (hKb : hasK ps[I] K = true) :
    Calls Try.prog 6 #[.agg #[.slice (some ⟨b, off, none⟩) ps.length cap], .int .i64 t, .int .i64 c, .int .i64 q, .int .i64 I, .int .i64 K] w fun e w' => e = .returned (.bool true) ∧ Below w.heap.size w w' := by
  have hlen := sOk_len ho
  have HS := Hid.mk2 h
  have HC := Hid.mk2 hcs
  have HCK := Hid.mk2 (fun W (hb : Below w.heap.size w W) => scheck_any W _ ps cap (h.below hb))
  rw [show sE ps = 0 by unfold sE; rw [ho]; rfl] at HCK
  have HO := Hid.mk2 ho
  have h100 : decide ((100 : Int) < ps.length) = false := by simp; omega
  have h100n : decide (100 < ps.length) = false := by simp; omega
  have hR : takeR ps t c q = ([], 0, 0) := by unfold takeR; rw [if_neg (by rw [hE]; exact hE0)]
  have HTK := Hid.mk2 (fun W (hb : Below w.heap.size w W) => take_sb W _ ps cap (h.below hb) t c q E [] 0 0 hE hR)
  rw [List.length_nil] at HTK
  have e0 : (E == 0) = false := by simp [hE0]
  clear hE hR hE0
  have hKl := hasK_lt (sOk_pg ho I hI) hKb
  have hK16 : K < 16 := by have := chunks_le (pOk_c (sOk_pg ho I hI)); omega
  have hbt : ps[I].u.testBit K = true := by have := hKl.2.2; rwa [Int.toNat_natCast] at this
  have ePg : pgAt ps I = ps[I] := by unfold pgAt; rw [Int.toNat_natCast, List.getElem?_eq_getElem hI]; rfl
  have eIn : inP ps I = true := by unfold inP; simp; omega
  have hF : freeE ps I K = 0 := by unfold freeE; rw [if_neg (by rw [ho]; decide), if_neg (by rw [eIn]; decide), if_neg (by rw [ePg, hKb]; decide)]
  have hR2 : freeR ps I K = ps.set I (given ps[I] K) := by unfold freeR; rw [if_pos hF, ePg, Int.toNat_natCast, Int.toNat_natCast]
  have HF2 := Hid.mk2 (fun W (hb : Below w.heap.size w W) => free_sb W _ ps cap (h.below hb) I K 0 (ps.set I (given ps[I] K)) hF hR2)
  have HGO := Hid.mk2 (given_slab (k := K) ho hI)
  have HGC := Hid.mk2 (given_cnt hK16 hbt)
  have HGE := Hid.mk2 (given_end (p := ps[I]) (k := K))
  obtain ⟨G, hG⟩ : ∃ G, G = given ps[I] K := ⟨_, rfl⟩
  rw [← hG] at HF2 HGO HGC HGE
  rw [List.length_set] at HF2
  have HRN := Hid.mk2 (show ps.set I G ≠ [] by intro e; have := congrArg List.length e; simp at this; subst this; simp at hI)
  clear hKl hbt ePg eIn hF hR2 hG hKb
  clear h hcs ho
  go_enter Try.func6, Try.ntmps6
  go_upto_region 1 with (fail)
  obtain ⟨w0, hw0⟩ : ∃ w0, w0 = w.alloc (Obj.cells #[Value.slice (some ⟨b, off, none⟩) ps.length cap] 24) := ⟨_, rfl⟩
  rw [← hw0]
  have T0 : OW w w0 (.slice (some ⟨b, off, none⟩) ps.length cap) := by rw [hw0]; exact OW.begin _ _ _
  have HT0 := Hid.mk2 T0
  clear hw0 T0
  go_upto_region 6 with (first
    | (go_at_call 30; refine (alive_any _).mono ?_; rintro e w1 ⟨rfl, hb1⟩; have HT1 := Hid.mk2 (HT0.out.step hb1); have a1 := HT1.out.c0; have x1 := HT1.out.x0; clear hb1 HT0)
    | (go_at_call 16; refine (HCK.out _ HT1.out.below).mono ?_; rintro e w2 ⟨rfl, hb2⟩; have HT2 := Hid.mk2 (HT1.out.step hb2); have a2 := HT2.out.c0; have x2 := HT2.out.x0; clear hb2 a1 x1))
  go_upto_region 7 with (go_at_call 11; refine (HTK.out _ HT2.out.below).mono ?_; rintro e w3 ⟨ro, rc, rfl, hs3, -, hb3⟩; have HT3 := Hid.mk2 (HT2.out.step hb3); have a3 := HT3.out.c0; have x3 := HT3.out.x0; have HS3 := Hid.mk2 hs3; clear hb3 hs3 a2 x2)
  obtain ⟨w7, hw7⟩ : ∃ w7, w7 = w3.alloc (Obj.cells #[Value.slice ro 0 rc] 24) := ⟨_, rfl⟩
  obtain ⟨ab, hab⟩ : ∃ ab, ab = w3.heap.size := ⟨_, rfl⟩
  rw [← hw7, ← hab]
  have hb7 : Below w3.heap.size w3 w7 := by rw [hw7]; exact (Below.refl _ _).alloc (Nat.le_refl _) _
  have a7 : w7.cell? ⟨ab, 0, none⟩ = some (.slice ro 0 rc) := by rw [hw7, hab]; simp
  have x7 : ab < w7.heap.size := by rw [hw7, hab]; simp
  have HT7 := Hid.mk2 (HT3.out.step hb7)
  have HS7 := Hid.mk2 (HS3.out.below hb7)
  have c7 := HT7.out.c0
  have y7 := HT7.out.x0
  clear hw7 hab hb7
  clear HT1 HT2 HT3 HS3 HCK HTK a3 x3 HS7 a7 x7
  go_upto_region 11 with (fail)
  go_upto_region 12 with (go_at_call 13; refine (HF2.out _ HT7.out.below).mono ?_; rintro e w8 ⟨ro8, rc8, rfl, hs8, -, hb8⟩; have HT8 := Hid.mk2 (HT7.out.step hb8); have HS8 := Hid.mk2 hs8; clear hb8 hs8)
  obtain ⟨w9, hw9⟩ : ∃ w9, w9 = w8.alloc (Obj.cells #[Value.slice ro8 ps.length rc8] 24) := ⟨_, rfl⟩
  obtain ⟨bb, hbb⟩ : ∃ bb, bb = w8.heap.size := ⟨_, rfl⟩
  rw [← hw9, ← hbb]
  have hb9 : Below w8.heap.size w8 w9 := by rw [hw9]; exact (Below.refl _ _).alloc (Nat.le_refl _) _
  have a9 : w9.cell? ⟨bb, 0, none⟩ = some (.slice ro8 ps.length rc8) := by rw [hw9, hbb]; simp
  have x9 : bb < w9.heap.size := by rw [hw9, hbb]; simp
  have HT9 := Hid.mk2 (HT8.out.step hb9)
  have HS9 := Hid.mk2 (HS8.out.below hb9)
  have c9 := HT9.out.c0
  have y9 := HT9.out.x0
  clear hw9 hbb hb9
  clear HT8 HS8 HF2 HT7 c7 y7
  obtain ⟨b2, off2, hro, hb2l, hcs2⟩ := HS9.out.lies HRN.out
  subst hro
  have hrc : ps.length ≤ rc8 := by have := HS9.out.hl; simpa using this
  have HC2 := Hid.mk2 hcs2
  have HCK2 := Hid.mk2 (fun W (hb : Below w9.heap.size w9 W) => scheck_any W _ _ rc8 (HS9.out.below hb))
  rw [show sE (ps.set I G) = 0 by unfold sE; rw [HGO.out]; rfl, List.length_set] at HCK2
  clear hcs2
  have hbw : b < w9.heap.size := Nat.lt_trans hbl y9
  obtain ⟨r0, r1, r2⟩ := (HC.out I hI).below HT9.out.below hbl
  obtain ⟨s0, s1, s2⟩ := HC2.out I (by simpa using hI)
  have e7 : (ps.set I G)[I]'(by simpa using hI) = G := by simp
  rw [e7] at s0 s1 s2
  clear e7
  have hcg := cnt_le G.u 16
  have huG := fun W => used_any G W
  have huP := fun W => used_any ps[I] W
  rw [← HGC.out] at huP
  obtain ⟨CG, hCG⟩ : ∃ CG, CG = cnt G.u 16 := ⟨_, rfl⟩
  rw [← hCG] at huG huP hcg HGE
  clear hCG HGC
  obtain ⟨x, hx⟩ : ∃ x, x = ps[I] := ⟨_, rfl⟩
  rw [← hx] at huP r0 r1 r2
  clear hx
  have HUG := Hid.mk2 huG
  have HUP := Hid.mk2 huP
  clear huG huP
  have HKP := Hid.mk2 (fun W (hb : Below w9.heap.size w9 W) => show W.cell? ⟨w.heap.size, 0, none⟩ = some (.slice (some ⟨b, off, none⟩) ps.length cap) ∧ W.cell? ⟨bb, 0, none⟩ = some (.slice (some ⟨b2, off2, none⟩) ps.length rc8) ∧ W.cell? ⟨b, off + I * 3, none⟩ = some (.int .i64 x.t) ∧ W.cell? ⟨b, off + I * 3 + 1, none⟩ = some (.int .i64 x.c) ∧ W.cell? ⟨b, off + I * 3 + 2, none⟩ = some (.int .u16 (x.u : Int)) ∧ W.cell? ⟨b2, off2 + I * 3, none⟩ = some (.int .i64 G.t) ∧ W.cell? ⟨b2, off2 + I * 3 + 1, none⟩ = some (.int .i64 G.c) ∧ W.cell? ⟨b2, off2 + I * 3 + 2, none⟩ = some (.int .u16 (G.u : Int)) from
    ⟨(below_cells hb _ 0 y9).trans c9, (below_cells hb _ 0 x9).trans a9, (below_cells hb _ _ hbw).trans r0, (below_cells hb _ _ hbw).trans r1, (below_cells hb _ _ hbw).trans r2, (below_cells hb _ _ hb2l).trans s0, (below_cells hb _ _ hb2l).trans s1, (below_cells hb _ _ hb2l).trans s2⟩)
  have q1 : decide ((I : Int) < 0) = false := by simp
  have q2 : decide ((ps.length : Int) ≤ (I : Int)) = false := by simp; omega
  have q2n : decide (ps.length ≤ I) = false := by simp; omega
  go_upto_region 14 with (fail)
  go_cut [117] from 79 (fun s117 wx => s117 = .bool false ∧ Hid (Below w9.heap.size w9 wx))
  case first =>
    go_region_held3 (fun W => W.cell? ⟨w.heap.size, 0, none⟩ = some (.slice (some ⟨b, off, none⟩) ps.length cap) ∧ W.cell? ⟨bb, 0, none⟩ = some (.slice (some ⟨b2, off2, none⟩) ps.length rc8) ∧ W.cell? ⟨b, off + I * 3, none⟩ = some (.int .i64 x.t) ∧ W.cell? ⟨b, off + I * 3 + 1, none⟩ = some (.int .i64 x.c) ∧ W.cell? ⟨b, off + I * 3 + 2, none⟩ = some (.int .u16 (x.u : Int)) ∧ W.cell? ⟨b2, off2 + I * 3, none⟩ = some (.int .i64 G.t) ∧ W.cell? ⟨b2, off2 + I * 3 + 1, none⟩ = some (.int .i64 G.c) ∧ W.cell? ⟨b2, off2 + I * 3 + 2, none⟩ = some (.int .u16 (G.u : Int)))
      (first
        | exact HKP.out _ HQC.out
        | exact HKP.out _ HQB.out
        | exact HKP.out _ HQA.out
        | exact HKP.out _ (Below.refl _ _)
        | exact HKP.out _ (below_drew1 (Below.refl _ _)))
      (first
        | (go_at_call_of 31 (Value.agg #[Value.int IntKind.i64 G.t, Value.int IntKind.i64 G.c, Value.int IntKind.u16 (G.u : Int)]); refine (HUG.out _).mono ?_; rintro e wc ⟨rfl, hbc⟩; have HQC : Hid (Below w9.heap.size w9 wc) := (by first | exact HQB.out.trans (hbc.mono HQB.out.size) | exact HQA.out.trans (hbc.mono HQA.out.size)))
        | (go_at_call 31; refine (HUP.out _).mono ?_; rintro e wb ⟨rfl, hbb⟩; have HQB : Hid (Below w9.heap.size w9 wb) := (by first | exact HQC.out.trans (hbb.mono HQC.out.size) | exact HQA.out.trans (hbb.mono HQA.out.size)))
        | (go_at_call 16; refine (HCK2.out _ (by first | exact Below.refl _ _ | exact below_drew1 (Below.refl _ _))).mono ?_; rintro e wa ⟨rfl, hba⟩; have HQA : Hid (Below w9.heap.size w9 wa) := (by first | exact hba | exact (below_drew1 (Below.refl _ _)).trans hba | exact (below_drew1 (Below.refl _ _)).trans (hba.mono (Nat.le_refl _)))))
    all_goals
      go_wp2
      go_meet
      case rel =>
        first
          | exact ⟨by first | rfl | (rw [wrapC CG hcg]; simp; done), HQC⟩
          | exact ⟨by first | rfl | (rw [wrapC CG hcg]; simp; done), HQB⟩
  case rest =>
  obtain ⟨rfl, HX0⟩ := hcut
  obtain ⟨wm, hwm⟩ : ∃ wm, wm = wc := ⟨_, rfl⟩
  rw [← hwm] at HX0 ⊢
  clear hwm HUP HCK2 HKP q1 q2 q2n r0 r1 r2 s0 s1 s2
  have m0 := (below_cells HX0.out _ 0 y9).trans c9
  have m1 := (below_cells HX0.out _ 0 x9).trans a9
  have m2 := Nat.lt_of_lt_of_le y9 HX0.out.size
  have m3 := Nat.lt_of_lt_of_le x9 HX0.out.size
  go_wp2
  go_loopw [22] (fun s22 wx => ∃ j : Nat, j ≤ ps.length ∧ s22 = .int .i64 j ∧ Hid (Below w9.heap.size w9 wx)) (fun s22 _ => ps.length - (intOf s22).toNat)
  case atStart => exact ⟨0, Nat.zero_le _, rfl, HX0⟩
  case round =>
    obtain ⟨j, hj, rfl, HX⟩ := hrel
    have hsx := HX.out.size
    have d6 := (below_cells HX.out _ 0 y9).trans c9
    have e6 := (below_cells HX.out _ 0 x9).trans a9
    have z8 := Nat.lt_of_lt_of_le y9 hsx
    have z9 := Nat.lt_of_lt_of_le x9 hsx
    have hb6 := Nat.lt_of_lt_of_le hbw hsx
    have hb7 := Nat.lt_of_lt_of_le hb2l hsx
    have HXW := Hid.mk2 (HT9.out.below.trans (HX.out.mono (Nat.le_of_lt y9)))
    clear m0 m1 m2 m3
    by_cases hjl : j < ps.length
    · have hjl2 : (j : Int) < (ps.length : Int) := by omega
      obtain ⟨r0, r1, r2⟩ := (HC.out j hjl).below HXW.out hbl
      obtain ⟨s0, s1, s2⟩ := (HC2.out j (by simpa using hjl)).below HX.out hb2l
      by_cases hji : j = I
      · have g5 : ((j : Int) != (I : Int)) = false := by simp [hji]
        clear hji s0 s1 s2
        go_upto_region 19 with (fail)
        go_big_quiet (fail)
        go_wp2
        go_roundw
        case rel => exact ⟨j + 1, by omega, by go_num, below_drewN HX.out _⟩
        case measure => simp [intOf]; omega
      · have g5 : ((j : Int) != (I : Int)) = true := by simp; omega
        have e7 : (ps.set I G)[j]'(by simpa using hjl) = ps[j] := by rw [List.getElem_set_ne (fun h => hji h.symm)]
        rw [e7] at s0 s1 s2
        clear hji e7
        go_upto_region 19 with (fail)
        go_big_quiet (fail)
        go_wp2
        go_roundw
        case rel => exact ⟨j + 1, by omega, by go_num, below_drewN HX.out _⟩
        case measure => simp [intOf]; omega
    · have hjl2 : decide ((j : Int) < (ps.length : Int)) = false := by simp; omega
      obtain ⟨s0, s1, s2⟩ := (HC2.out I (by simpa using hI)).below HX.out hb2l
      have e7 : (ps.set I G)[I]'(by simpa using hI) = G := by simp
      rw [e7] at s0 s1 s2
      clear e7
      rcases HGE.out with hpos | hz
      · have g6 : decide ((0 : Int) < (CG : Int)) = true := by simp; omega
        have g6n : decide (0 < CG) = true := by simp; omega
        go_wp2_with (go_at_call 31; refine (HUG.out _).mono ?_; rintro e wu ⟨rfl, hbu⟩; have HBU := Hid.mk2 (HXW.out.trans (hbu.mono (Nat.le_of_lt z8))); clear hbu)
        go_ret
        exact ⟨rfl, HBU.out⟩
      · subst hz
        have t0 : wr.cell? ⟨b2, off2 + I * 3, none⟩ = some (.int .i64 0) := s0
        have t1 : wr.cell? ⟨b2, off2 + I * 3 + 1, none⟩ = some (.int .i64 0) := s1
        have t2 : wr.cell? ⟨b2, off2 + I * 3 + 2, none⟩ = some (.int .u16 0) := s2
        have HUZ : Hid (∀ W, Calls Try.prog 31 #[.agg #[.int .i64 0, .int .i64 0, .int .u16 0]] W fun e w' => e = .returned (.int .i64 CG) ∧ Below W.heap.size W w') := HUG.out
        clear s0 s1 s2 HUG
        by_cases hcg0 : 0 < CG
        · have g6 : decide ((0 : Int) < (CG : Int)) = true := by simp; omega
          have g6n : decide (0 < CG) = true := by simp; omega
          go_wp2_with (go_at_call 31; refine (HUZ.out _).mono ?_; rintro e wu ⟨rfl, hbu⟩; have HBU := Hid.mk2 (HXW.out.trans (hbu.mono (Nat.le_of_lt z8))); clear hbu)
          go_ret
          exact ⟨rfl, HBU.out⟩
        · have hc0 : CG = 0 := by omega
          subst hc0
          clear hcg0
          go_wp2_with (go_at_call 31; refine (HUZ.out _).mono ?_; rintro e wu ⟨rfl, hbu⟩; have HBU := Hid.mk2 (HXW.out.trans (hbu.mono (Nat.le_of_lt z8))); have u0 := (below_cells hbu _ 0 z9).trans e6; have v0 := (below_cells hbu _ _ hb7).trans t0; have v1 := (below_cells hbu _ _ hb7).trans t1; have v2 := (below_cells hbu _ _ hb7).trans t2; have u1 := Nat.lt_of_lt_of_le z9 hbu.size; have u2 := Nat.lt_of_lt_of_le hb7 hbu.size; clear hbu)
          go_ret
          exact ⟨rfl, HBU.out⟩
set_option maxHeartbeats 4000000 in
theorem back_yy (w : World) (b off : Nat) (ps : List Pg) (cap : Nat) (h : Sb w (some ⟨b, off, none⟩) ps cap) (ho : sOk ps = true) (hbl : b < w.heap.size) (hcs : ∀ i (hi : i < ps.length), PgLies w b (off + i * 3) ps[i]) (t c q : Int) (I K : Nat) (ht : isT t = true) (hc : isC c = true) (hq : isQ q = true) (I0 K0 : Nat) (hp : place ps t c q = some (I0, K0)) (hI : I < ps.length) (hKb : hasK ps[I] K = true) :
    Calls Try.prog 6 #[.agg #[.slice (some ⟨b, off, none⟩) ps.length cap], .int .i64 t, .int .i64 c, .int .i64 q, .int .i64 I, .int .i64 K] w fun e w' => e = .returned (.bool true) ∧ Below w.heap.size w w' := by
  have hlen := sOk_len ho
  have HS := Hid.mk2 h
  have HC := Hid.mk2 hcs
  have HCK := Hid.mk2 (fun W (hb : Below w.heap.size w W) => scheck_any W _ ps cap (h.below hb))
  rw [show sE ps = 0 by unfold sE; rw [ho]; rfl] at HCK
  have HO := Hid.mk2 ho
  have h100 : decide ((100 : Int) < ps.length) = false := by simp; omega
  have h100n : decide (100 < ps.length) = false := by simp; omega
  have hE : takeE ps t c q = 0 := by unfold takeE; rw [if_neg (by rw [ho]; decide), if_neg (by rw [ht]; decide), if_neg (by rw [hc]; decide), if_neg (by rw [hq]; decide), if_neg (by rw [hp]; simp)]
  have hR : takeR ps t c q = (ps.set I0 (taken ps t c I0 K0), I0, K0) := by unfold takeR; rw [if_pos hE, hp]
  have HTK := Hid.mk2 (fun W (hb : Below w.heap.size w W) => take_sb W _ ps cap (h.below hb) t c q 0 (ps.set I0 (taken ps t c I0 K0)) I0 K0 hE hR)
  have HBK := Hid.mk2 (back_eq ho ht hc hp)
  obtain ⟨R, hRR⟩ : ∃ R, R = ps.set I0 (taken ps t c I0 K0) := ⟨_, rfl⟩
  have hRl : R.length = ps.length := by rw [hRR]; simp
  rw [← hRR] at HTK HBK
  have HFR := Hid.mk2 (fun W ro rc (hb : Sb W ro R rc) => free_sb W ro R rc hb I0 K0 0 ps HBK.out.1 HBK.out.2)
  rw [hRl] at HTK HFR
  clear hE hR hRR hRl hp ht hc hq
  have hKl := hasK_lt (sOk_pg ho I hI) hKb
  have hK16 : K < 16 := by have := chunks_le (pOk_c (sOk_pg ho I hI)); omega
  have hbt : ps[I].u.testBit K = true := by have := hKl.2.2; rwa [Int.toNat_natCast] at this
  have ePg : pgAt ps I = ps[I] := by unfold pgAt; rw [Int.toNat_natCast, List.getElem?_eq_getElem hI]; rfl
  have eIn : inP ps I = true := by unfold inP; simp; omega
  have hF : freeE ps I K = 0 := by unfold freeE; rw [if_neg (by rw [ho]; decide), if_neg (by rw [eIn]; decide), if_neg (by rw [ePg, hKb]; decide)]
  have hR2 : freeR ps I K = ps.set I (given ps[I] K) := by unfold freeR; rw [if_pos hF, ePg, Int.toNat_natCast, Int.toNat_natCast]
  have HF2 := Hid.mk2 (fun W (hb : Below w.heap.size w W) => free_sb W _ ps cap (h.below hb) I K 0 (ps.set I (given ps[I] K)) hF hR2)
  have HGO := Hid.mk2 (given_slab (k := K) ho hI)
  have HGC := Hid.mk2 (given_cnt hK16 hbt)
  have HGE := Hid.mk2 (given_end (p := ps[I]) (k := K))
  obtain ⟨G, hG⟩ : ∃ G, G = given ps[I] K := ⟨_, rfl⟩
  rw [← hG] at HF2 HGO HGC HGE
  rw [List.length_set] at HF2
  have HRN := Hid.mk2 (show ps.set I G ≠ [] by intro e; have := congrArg List.length e; simp at this; subst this; simp at hI)
  clear hKl hbt ePg eIn hF hR2 hG hKb
  clear h hcs ho
  go_enter Try.func6, Try.ntmps6
  go_upto_region 1 with (fail)
  obtain ⟨w0, hw0⟩ : ∃ w0, w0 = w.alloc (Obj.cells #[Value.slice (some ⟨b, off, none⟩) ps.length cap] 24) := ⟨_, rfl⟩
  rw [← hw0]
  have T0 : OW w w0 (.slice (some ⟨b, off, none⟩) ps.length cap) := by rw [hw0]; exact OW.begin _ _ _
  have HT0 := Hid.mk2 T0
  clear hw0 T0
  go_upto_region 6 with (first
    | (go_at_call 30; refine (alive_any _).mono ?_; rintro e w1 ⟨rfl, hb1⟩; have HT1 := Hid.mk2 (HT0.out.step hb1); have a1 := HT1.out.c0; have x1 := HT1.out.x0; clear hb1 HT0)
    | (go_at_call 16; refine (HCK.out _ HT1.out.below).mono ?_; rintro e w2 ⟨rfl, hb2⟩; have HT2 := Hid.mk2 (HT1.out.step hb2); have a2 := HT2.out.c0; have x2 := HT2.out.x0; clear hb2 a1 x1))
  go_upto_region 7 with (go_at_call 11; refine (HTK.out _ HT2.out.below).mono ?_; rintro e w3 ⟨ro, rc, rfl, hs3, -, hb3⟩; have HT3 := Hid.mk2 (HT2.out.step hb3); have a3 := HT3.out.c0; have x3 := HT3.out.x0; have HS3 := Hid.mk2 hs3; clear hb3 hs3 a2 x2)
  obtain ⟨w4, hw4⟩ : ∃ w4, w4 = w3.alloc (Obj.cells #[Value.slice ro ps.length rc] 24) := ⟨_, rfl⟩
  obtain ⟨ab, hab⟩ : ∃ ab, ab = w3.heap.size := ⟨_, rfl⟩
  rw [← hw4, ← hab]
  have hb4 : Below w3.heap.size w3 w4 := by rw [hw4]; exact (Below.refl _ _).alloc (Nat.le_refl _) _
  have a4 : w4.cell? ⟨ab, 0, none⟩ = some (.slice ro ps.length rc) := by rw [hw4, hab]; simp
  have x4 : ab < w4.heap.size := by rw [hw4, hab]; simp
  have HT4 := Hid.mk2 (HT3.out.step hb4)
  have HS4 := Hid.mk2 (HS3.out.below hb4)
  have c4 := HT4.out.c0
  have y4 := HT4.out.x0
  clear hw4 hab hb4
  clear HT1 HT2 HT3 HS3 HCK HTK a3 x3
  go_upto_region 9 with (go_at_call 13; refine (HFR.out _ _ _ HS4.out).mono ?_; rintro e w5 ⟨ro5, rc5, rfl, hs5, -, hb5⟩; have HT5 := Hid.mk2 (HT4.out.step hb5); have HS5 := Hid.mk2 hs5; clear hb5 hs5)
  obtain ⟨w6, hw6⟩ : ∃ w6, w6 = w5.alloc (Obj.cells #[Value.slice ro5 ps.length rc5] 24) := ⟨_, rfl⟩
  obtain ⟨ab6, hab6⟩ : ∃ ab6, ab6 = w5.heap.size := ⟨_, rfl⟩
  rw [← hw6, ← hab6]
  have hb6 : Below w5.heap.size w5 w6 := by rw [hw6]; exact (Below.refl _ _).alloc (Nat.le_refl _) _
  have a6 : w6.cell? ⟨ab6, 0, none⟩ = some (.slice ro5 ps.length rc5) := by rw [hw6, hab6]; simp
  have x6 : ab6 < w6.heap.size := by rw [hw6, hab6]; simp
  have HT6 := Hid.mk2 (HT5.out.step hb6)
  have HS6 := Hid.mk2 (HS5.out.below hb6)
  have c6 := HT6.out.c0
  have y6 := HT6.out.x0
  clear hw6 hab6 hb6
  clear HT4 HT5 HS5 HFR HS4 HBK a4 x4 c4 y4
  have HSM := Hid.mk2 (same_eq w6 _ _ ps rc5 cap HS6.out (HS.out.below HT6.out.below) (by omega))
  go_upto_region 11 with (go_at_call 15; refine HSM.out.mono ?_; rintro e w7 ⟨rfl, hb7⟩; have HT7 := Hid.mk2 (HT6.out.step hb7); have c7 := HT7.out.c0; have y7 := HT7.out.x0; clear hb7)
  clear HSM HT6 HS6 a6 x6 c6 y6
  go_upto_region 12 with (go_at_call 13; refine (HF2.out _ HT7.out.below).mono ?_; rintro e w8 ⟨ro8, rc8, rfl, hs8, -, hb8⟩; have HT8 := Hid.mk2 (HT7.out.step hb8); have HS8 := Hid.mk2 hs8; clear hb8 hs8)
  obtain ⟨w9, hw9⟩ : ∃ w9, w9 = w8.alloc (Obj.cells #[Value.slice ro8 ps.length rc8] 24) := ⟨_, rfl⟩
  obtain ⟨bb, hbb⟩ : ∃ bb, bb = w8.heap.size := ⟨_, rfl⟩
  rw [← hw9, ← hbb]
  have hb9 : Below w8.heap.size w8 w9 := by rw [hw9]; exact (Below.refl _ _).alloc (Nat.le_refl _) _
  have a9 : w9.cell? ⟨bb, 0, none⟩ = some (.slice ro8 ps.length rc8) := by rw [hw9, hbb]; simp
  have x9 : bb < w9.heap.size := by rw [hw9, hbb]; simp
  have HT9 := Hid.mk2 (HT8.out.step hb9)
  have HS9 := Hid.mk2 (HS8.out.below hb9)
  have c9 := HT9.out.c0
  have y9 := HT9.out.x0
  clear hw9 hbb hb9
  clear HT8 HS8 HF2 HT7 c7 y7
  obtain ⟨b2, off2, hro, hb2l, hcs2⟩ := HS9.out.lies HRN.out
  subst hro
  have hrc : ps.length ≤ rc8 := by have := HS9.out.hl; simpa using this
  have HC2 := Hid.mk2 hcs2
  have HCK2 := Hid.mk2 (fun W (hb : Below w9.heap.size w9 W) => scheck_any W _ _ rc8 (HS9.out.below hb))
  rw [show sE (ps.set I G) = 0 by unfold sE; rw [HGO.out]; rfl, List.length_set] at HCK2
  clear hcs2
  have hbw : b < w9.heap.size := Nat.lt_trans hbl y9
  obtain ⟨r0, r1, r2⟩ := (HC.out I hI).below HT9.out.below hbl
  obtain ⟨s0, s1, s2⟩ := HC2.out I (by simpa using hI)
  have e7 : (ps.set I G)[I]'(by simpa using hI) = G := by simp
  rw [e7] at s0 s1 s2
  clear e7
  have hcg := cnt_le G.u 16
  have huG := fun W => used_any G W
  have huP := fun W => used_any ps[I] W
  rw [← HGC.out] at huP
  obtain ⟨CG, hCG⟩ : ∃ CG, CG = cnt G.u 16 := ⟨_, rfl⟩
  rw [← hCG] at huG huP hcg HGE
  clear hCG HGC
  obtain ⟨x, hx⟩ : ∃ x, x = ps[I] := ⟨_, rfl⟩
  rw [← hx] at huP r0 r1 r2
  clear hx
  have HUG := Hid.mk2 huG
  have HUP := Hid.mk2 huP
  clear huG huP
  have HKP := Hid.mk2 (fun W (hb : Below w9.heap.size w9 W) => show W.cell? ⟨w.heap.size, 0, none⟩ = some (.slice (some ⟨b, off, none⟩) ps.length cap) ∧ W.cell? ⟨bb, 0, none⟩ = some (.slice (some ⟨b2, off2, none⟩) ps.length rc8) ∧ W.cell? ⟨b, off + I * 3, none⟩ = some (.int .i64 x.t) ∧ W.cell? ⟨b, off + I * 3 + 1, none⟩ = some (.int .i64 x.c) ∧ W.cell? ⟨b, off + I * 3 + 2, none⟩ = some (.int .u16 (x.u : Int)) ∧ W.cell? ⟨b2, off2 + I * 3, none⟩ = some (.int .i64 G.t) ∧ W.cell? ⟨b2, off2 + I * 3 + 1, none⟩ = some (.int .i64 G.c) ∧ W.cell? ⟨b2, off2 + I * 3 + 2, none⟩ = some (.int .u16 (G.u : Int)) from
    ⟨(below_cells hb _ 0 y9).trans c9, (below_cells hb _ 0 x9).trans a9, (below_cells hb _ _ hbw).trans r0, (below_cells hb _ _ hbw).trans r1, (below_cells hb _ _ hbw).trans r2, (below_cells hb _ _ hb2l).trans s0, (below_cells hb _ _ hb2l).trans s1, (below_cells hb _ _ hb2l).trans s2⟩)
  have q1 : decide ((I : Int) < 0) = false := by simp
  have q2 : decide ((ps.length : Int) ≤ (I : Int)) = false := by simp; omega
  have q2n : decide (ps.length ≤ I) = false := by simp; omega
  go_upto_region 14 with (fail)
  go_cut [117] from 79 (fun s117 wx => s117 = .bool false ∧ Hid (Below w9.heap.size w9 wx))
  case first =>
    go_region_held3 (fun W => W.cell? ⟨w.heap.size, 0, none⟩ = some (.slice (some ⟨b, off, none⟩) ps.length cap) ∧ W.cell? ⟨bb, 0, none⟩ = some (.slice (some ⟨b2, off2, none⟩) ps.length rc8) ∧ W.cell? ⟨b, off + I * 3, none⟩ = some (.int .i64 x.t) ∧ W.cell? ⟨b, off + I * 3 + 1, none⟩ = some (.int .i64 x.c) ∧ W.cell? ⟨b, off + I * 3 + 2, none⟩ = some (.int .u16 (x.u : Int)) ∧ W.cell? ⟨b2, off2 + I * 3, none⟩ = some (.int .i64 G.t) ∧ W.cell? ⟨b2, off2 + I * 3 + 1, none⟩ = some (.int .i64 G.c) ∧ W.cell? ⟨b2, off2 + I * 3 + 2, none⟩ = some (.int .u16 (G.u : Int)))
      (first
        | exact HKP.out _ HQC.out
        | exact HKP.out _ HQB.out
        | exact HKP.out _ HQA.out
        | exact HKP.out _ (Below.refl _ _)
        | exact HKP.out _ (below_drew1 (Below.refl _ _)))
      (first
        | (go_at_call_of 31 (Value.agg #[Value.int IntKind.i64 G.t, Value.int IntKind.i64 G.c, Value.int IntKind.u16 (G.u : Int)]); refine (HUG.out _).mono ?_; rintro e wc ⟨rfl, hbc⟩; have HQC : Hid (Below w9.heap.size w9 wc) := (by first | exact HQB.out.trans (hbc.mono HQB.out.size) | exact HQA.out.trans (hbc.mono HQA.out.size)))
        | (go_at_call 31; refine (HUP.out _).mono ?_; rintro e wb ⟨rfl, hbb⟩; have HQB : Hid (Below w9.heap.size w9 wb) := (by first | exact HQC.out.trans (hbb.mono HQC.out.size) | exact HQA.out.trans (hbb.mono HQA.out.size)))
        | (go_at_call 16; refine (HCK2.out _ (by first | exact Below.refl _ _ | exact below_drew1 (Below.refl _ _))).mono ?_; rintro e wa ⟨rfl, hba⟩; have HQA : Hid (Below w9.heap.size w9 wa) := (by first | exact hba | exact (below_drew1 (Below.refl _ _)).trans hba | exact (below_drew1 (Below.refl _ _)).trans (hba.mono (Nat.le_refl _)))))
    all_goals
      go_wp2
      go_meet
      case rel =>
        first
          | exact ⟨by first | rfl | (rw [wrapC CG hcg]; simp; done), HQC⟩
          | exact ⟨by first | rfl | (rw [wrapC CG hcg]; simp; done), HQB⟩
  case rest =>
  obtain ⟨rfl, HX0⟩ := hcut
  obtain ⟨wm, hwm⟩ : ∃ wm, wm = wc := ⟨_, rfl⟩
  rw [← hwm] at HX0 ⊢
  clear hwm HUP HCK2 HKP q1 q2 q2n r0 r1 r2 s0 s1 s2
  have m0 := (below_cells HX0.out _ 0 y9).trans c9
  have m1 := (below_cells HX0.out _ 0 x9).trans a9
  have m2 := Nat.lt_of_lt_of_le y9 HX0.out.size
  have m3 := Nat.lt_of_lt_of_le x9 HX0.out.size
  go_wp2
  go_loopw [22] (fun s22 wx => ∃ j : Nat, j ≤ ps.length ∧ s22 = .int .i64 j ∧ Hid (Below w9.heap.size w9 wx)) (fun s22 _ => ps.length - (intOf s22).toNat)
  case atStart => exact ⟨0, Nat.zero_le _, rfl, HX0⟩
  case round =>
    obtain ⟨j, hj, rfl, HX⟩ := hrel
    have hsx := HX.out.size
    have d6 := (below_cells HX.out _ 0 y9).trans c9
    have e6 := (below_cells HX.out _ 0 x9).trans a9
    have z8 := Nat.lt_of_lt_of_le y9 hsx
    have z9 := Nat.lt_of_lt_of_le x9 hsx
    have hb6 := Nat.lt_of_lt_of_le hbw hsx
    have hb7 := Nat.lt_of_lt_of_le hb2l hsx
    have HXW := Hid.mk2 (HT9.out.below.trans (HX.out.mono (Nat.le_of_lt y9)))
    clear m0 m1 m2 m3
    by_cases hjl : j < ps.length
    · have hjl2 : (j : Int) < (ps.length : Int) := by omega
      obtain ⟨r0, r1, r2⟩ := (HC.out j hjl).below HXW.out hbl
      obtain ⟨s0, s1, s2⟩ := (HC2.out j (by simpa using hjl)).below HX.out hb2l
      by_cases hji : j = I
      · have g5 : ((j : Int) != (I : Int)) = false := by simp [hji]
        clear hji s0 s1 s2
        go_upto_region 19 with (fail)
        go_big_quiet (fail)
        go_wp2
        go_roundw
        case rel => exact ⟨j + 1, by omega, by go_num, below_drewN HX.out _⟩
        case measure => simp [intOf]; omega
      · have g5 : ((j : Int) != (I : Int)) = true := by simp; omega
        have e7 : (ps.set I G)[j]'(by simpa using hjl) = ps[j] := by rw [List.getElem_set_ne (fun h => hji h.symm)]
        rw [e7] at s0 s1 s2
        clear hji e7
        go_upto_region 19 with (fail)
        go_big_quiet (fail)
        go_wp2
        go_roundw
        case rel => exact ⟨j + 1, by omega, by go_num, below_drewN HX.out _⟩
        case measure => simp [intOf]; omega
    · have hjl2 : decide ((j : Int) < (ps.length : Int)) = false := by simp; omega
      obtain ⟨s0, s1, s2⟩ := (HC2.out I (by simpa using hI)).below HX.out hb2l
      have e7 : (ps.set I G)[I]'(by simpa using hI) = G := by simp
      rw [e7] at s0 s1 s2
      clear e7
      rcases HGE.out with hpos | hz
      · have g6 : decide ((0 : Int) < (CG : Int)) = true := by simp; omega
        have g6n : decide (0 < CG) = true := by simp; omega
        go_wp2_with (go_at_call 31; refine (HUG.out _).mono ?_; rintro e wu ⟨rfl, hbu⟩; have HBU := Hid.mk2 (HXW.out.trans (hbu.mono (Nat.le_of_lt z8))); clear hbu)
        go_ret
        exact ⟨rfl, HBU.out⟩
      · subst hz
        have t0 : wr.cell? ⟨b2, off2 + I * 3, none⟩ = some (.int .i64 0) := s0
        have t1 : wr.cell? ⟨b2, off2 + I * 3 + 1, none⟩ = some (.int .i64 0) := s1
        have t2 : wr.cell? ⟨b2, off2 + I * 3 + 2, none⟩ = some (.int .u16 0) := s2
        have HUZ : Hid (∀ W, Calls Try.prog 31 #[.agg #[.int .i64 0, .int .i64 0, .int .u16 0]] W fun e w' => e = .returned (.int .i64 CG) ∧ Below W.heap.size W w') := HUG.out
        clear s0 s1 s2 HUG
        by_cases hcg0 : 0 < CG
        · have g6 : decide ((0 : Int) < (CG : Int)) = true := by simp; omega
          have g6n : decide (0 < CG) = true := by simp; omega
          go_wp2_with (go_at_call 31; refine (HUZ.out _).mono ?_; rintro e wu ⟨rfl, hbu⟩; have HBU := Hid.mk2 (HXW.out.trans (hbu.mono (Nat.le_of_lt z8))); clear hbu)
          go_ret
          exact ⟨rfl, HBU.out⟩
        · have hc0 : CG = 0 := by omega
          subst hc0
          clear hcg0
          go_wp2_with (go_at_call 31; refine (HUZ.out _).mono ?_; rintro e wu ⟨rfl, hbu⟩; have HBU := Hid.mk2 (HXW.out.trans (hbu.mono (Nat.le_of_lt z8))); have u0 := (below_cells hbu _ 0 z9).trans e6; have v0 := (below_cells hbu _ _ hb7).trans t0; have v1 := (below_cells hbu _ _ hb7).trans t1; have v2 := (below_cells hbu _ _ hb7).trans t2; have u1 := Nat.lt_of_lt_of_le z9 hbu.size; have u2 := Nat.lt_of_lt_of_le hb7 hbu.size; clear hbu)
          go_ret
          exact ⟨rfl, HBU.out⟩
end Go.Proofs.Ytfdnkcahblpanae
