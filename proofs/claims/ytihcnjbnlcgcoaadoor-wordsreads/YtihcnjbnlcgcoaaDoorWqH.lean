/-
  The document's Read of answers, walked.
-/
import Derived.Test.YtihcnjbnlcgcoaaDoorG02
namespace Go.Proofs.YtihcnjbnlcgcoaaDoor
open Go.Proofs.YtihcnjbnlcgcoaaDoor.It
open Go.RowKit
set_option linter.unusedSimpArgs false
set_option linter.unusedVariables false
set_option maxRecDepth 100000

theorem wpl_slice_lh {ops : Array Oper} {rest : List Oper} {o : Oper} {a : Act} {w : World} {Q : Exit → Act → World → Prop} (hgd : o.guard = none) (s x y : Operand) (ho : o.op = .slice 31 s (some x) (some y) none) (ao : Option Addr) (j k m cap : Nat) (hs : a.eval s = .slice ao m cap) (hx : a.eval x = .int .i64 (j : Int)) (hy : a.eval y = .int .i64 (k : Int)) (hj : j ≤ k) (hk : k ≤ cap)
    (h : wpList Tryd.prog ops Q rest (a.put o.dst (.slice (restA ao j cap) (k - j) (cap - j))) w) : wpList Tryd.prog ops Q (o :: rest) a w := by
  refine wpList_plain hgd fun K hK => ?_
  have he : Tryd.prog.elem 31 = 5 := by kernel_rfl
  have hu : Tryd.prog.underlying 31 = some (.slice (Tryd.prog.elem 31)) := by rw [he]; exact Tryd.underlying31
  have h1 : (Instr.sliceAt 31 (.slice ao m cap) (some (.int .i64 (j : Int))) (some (.int .i64 (k : Int))) none).run Tryd.prog w = .ok (.slice (restA ao j cap) (k - j) (cap - j)) w := by
    rw [run_sliceAt_slice w 31 _ _ _ _ hu, run_slice_lh w 31 ao m cap hu .i64 .i64 (j : Int) (k : Int) (by omega) (by omega) (by omega), he, Tryd.sizeOf5]
    show Result.ok (sliced ao (j : Int).toNat (k : Int).toNat cap 1) w = _
    rw [Int.toNat_natCast, Int.toNat_natCast, sliced_l]
  unfold Oper.wp execOp
  simp only [ho, hs, hx, hy, Option.map_some, Option.map_none, Sem.run_bind, Sem.run_pure, Result.andThen_ok, h1]
  exact hK _ _ h
def yz (of_ : Int) (v : Value) : List Value := [.int .u8 1, .int .u8 of_, .int .u8 1, v, .int .u64 0, .bool false, .string ⟨#[]⟩]
/-- what the loop of the document's Read keeps -/
structure Qk (W wr : World) (Y : Nat) (b : List UInt8) (of_ : Int) (R : An × Nat × Int) (L : List Im) (v : Value) (rd : Nat) : Prop where
  below : Below W.heap.size W wr
  box : GBx wr Y (yz of_ v)
  own : GOwn EM wr (Y + 1) v L
  le : rd ≤ b.length
  many : L.length ≤ rd
  one : of_ ≠ 1 → L = []
  nil : L = [] ↔ rd = 0
  f : ∃ f, b.length - rd < f ∧ readN f L (b.drop rd) rd of_ = R
theorem lw_sizes {s : ByteArray} (hs : s.size ≤ 600) : ∀ x ∈ lw (bl s), x.size ≤ maxLen := by
  intro x hx
  unfold lw at hx
  obtain ⟨y, hy, rfl⟩ := List.mem_map.1 hx
  have h1 := wsp_mem_len (bl s) y hy
  rw [bl_len] at h1
  have : (mkB y).size = y.length := by simp [mkB, ByteArray.size]
  have h3 : maxLen = 9223372036854775807 := rfl
  omega
theorem lEnd_of (B : List UInt8) : (eol (B.take 514) = none ∧ lEnd B = -1) ∨ ∃ e : Nat, eol (B.take 514) = some e ∧ lEnd B = (e : Int) := by
  unfold lEnd
  cases h : eol (B.take 514) with
  | none => exact .inl ⟨rfl, rfl⟩
  | some e => exact .inr ⟨e, rfl, rfl⟩
theorem readR_none {w w' : World} {n : Nat} {er : Int} (hb : Below w.heap.size w w') : ReadR w w' (az, n, er) (.returned (.tuple #[.agg #[.int .u8 0, .int .u8 0, .int .u8 0, .slice none 0 0, .int .u64 0, .bool false, .string ⟨#[]⟩], .int .i64 (n : Int), .int .i64 er])) :=
  ⟨⟨none, 0, rfl, GRd.nil _⟩, hb⟩
set_option maxHeartbeats 8000000 in
theorem rRead_any (V : World) (ao : Option Addr) (b : List UInt8) (cap : Nat) (hr : GRd EY V ao b cap) (hL : b.length ≤ 17000) (of_ : Int) (m : Nat) (hm : m = b.length) :
    Calls Tryd.prog 16 #[.slice ao m cap, .int .u8 of_] V fun e V' => ReadR V V' (if b.length ≤ 16384 then readW b of_ else (az, 0, 3)) e := by
  have mixed : Tryd.prog.follows .mixedOrders = true := by kernel_rfl
  obtain ⟨W, hW⟩ : ∃ W, W = V.alloc (.cells #[.int .u8 0, .int .u8 0, .int .u8 0, .slice none 0 0, .int .u64 0, .bool false, .string ⟨#[]⟩] 27) := ⟨_, rfl⟩
  have hB0 : Below V.heap.size V W := by rw [hW]; exact g_alloc _ _
  have HB : Hid (Below V.heap.size V W) := hB0
  have HX : Hid (GBx W V.heap.size anz) := by rw [hW]; exact GBx.made V anz _
  have HR := Hid.mk2 (hr.below hB0)
  have HM := Hid.mk2 hm
  have hm17 : m ≤ 17000 := by rw [hm]; exact hL
  have HRR : Hid ((16384 < m → (if b.length ≤ 16384 then readW b of_ else (az, 0, 3)) = (az, 0, 3)) ∧ (m ≤ 16384 → (if b.length ≤ 16384 then readW b of_ else (az, 0, 3)) = readN (b.length + 1) [] b 0 of_)) :=
    ⟨fun h => if_neg (by omega), fun h => if_pos (by omega)⟩
  obtain ⟨R, hRd⟩ : ∃ R, R = (if b.length ≤ 16384 then readW b of_ else (az, 0, 3)) := ⟨_, rfl⟩
  rw [← hRd] at HRR ⊢
  clear hRd hB0 hr hL hm
  go_enter Tryd.func16, Tryd.ntmps16
  go_upto_region 1 with (fail)
  rw [← hW]
  clear hW
  have z0 := HX.out.c 0 (by simp [anz]); have z1 := HX.out.c 1 (by simp [anz]); have z2 := HX.out.c 2 (by simp [anz]); have z3 := HX.out.c 3 (by simp [anz]); have z4 := HX.out.c 4 (by simp [anz]); have z5 := HX.out.c 5 (by simp [anz]); have z6 := HX.out.c 6 (by simp [anz]); simp only [anz, List.getElem_cons_zero, List.getElem_cons_succ] at z0 z1 z2 z3 z4 z5 z6; have zf0 := HX.out.f 0; have zf1 := HX.out.f 1; have zf2 := HX.out.f 2; have zf3 := HX.out.f 3; have zf4 := HX.out.f 4; have zf5 := HX.out.f 5; have zf6 := HX.out.f 6
  by_cases hg : 16384 < m
  · have hgi : (16384 : Int) < (m : Int) := by omega
    have HE := Hid.mk2 (HRR.out.1 hg)
    clear HRR hg
    go_wp2
    refine bodyPost_ret (res_cell3 rfl rfl (load_var (zset7 HX.out rfl _ _ _ _ _ _ _) 27 _ Tryd.underlying27 rfl answer_info)) rfl ?_
    rw [HE.out]
    exact readR_none (zbelow7 HB.out (Nat.le_refl _) _ _ _ _ _ _ _)
  have hm2 : m ≤ 16384 := by omega
  have HF := Hid.mk2 (HRR.out.2 hm2).symm
  have hgi : ¬ (16384 : Int) < (m : Int) := by omega
  clear HRR hg hm17
  go_upto_region 4 with (fail)
  clear z0 z1 z2 z3 z4 z5 z6 zf0 zf1 zf2 zf3 zf4 zf5 zf6
  obtain ⟨W1, hW1⟩ : ∃ W1, W1 = W.alloc (.cells #[.int .u8 1, .int .u8 of_, .int .u8 1, .slice none 0 0, .int .u64 0, .bool false, .string ⟨#[]⟩] 27) := ⟨_, rfl⟩
  have HY1 : Hid (GBx W1 W.heap.size (yz of_ (.slice none 0 0))) := by rw [hW1]; exact GBx.made W (yz of_ (.slice none 0 0)) _
  have HB1 : Hid (Below W.heap.size W W1) := by rw [hW1]; exact g_alloc _ _
  rw [← hW1]
  clear hW1
  obtain ⟨Y, hY⟩ : ∃ Y, Y = W.heap.size := ⟨_, rfl⟩
  rw [← hY] at HY1 ⊢
  have HYE := Hid.mk2 hY
  have hYV : V.heap.size < Y := by rw [hY]; exact HX.out.lt
  clear hY
  go_wp2
  go_loopw [8, 9, 10, 11, 12, 13, 14, 15, 16] (fun s8 _ _ _ _ _ _ _ _ wr => ∃ (L : List Im) (v : Value) (rd : Nat), s8 = .int .i64 (rd : Int) ∧ Qk W wr Y b of_ R L v rd) (fun s8 _ _ _ _ _ _ _ _ _ => b.length - (intOf s8).toNat)
  case atStart => exact ⟨[], .slice none 0 0, 0, rfl, ⟨HB1.out, HY1.out, GOwn.nil _ _, Nat.zero_le _, Nat.le_refl _, fun _ => rfl, ⟨fun _ => rfl, fun _ => rfl⟩, _, Nat.lt_succ_self _, HF.out⟩⟩
  case round =>
    obtain ⟨L, v, rd, rfl, hq⟩ := hrel
    obtain ⟨f, hf1, hf2⟩ := hq.f
    cases f with
    | zero => omega
    | succ f =>
    obtain ⟨lo, lc, hv, hrd⟩ := hq.own.rd okM
    subst hv
    have HQ := Hid.mk2 hq
    obtain ⟨B, hB⟩ : ∃ B, B = b.drop rd := ⟨_, rfl⟩
    obtain ⟨n, hn⟩ : ∃ n, n = L.length := ⟨_, rfl⟩
    have hBl : B.length = b.length - rd := by rw [hB, List.length_drop]
    have hle := hq.le
    have hrdm : rd ≤ m := by rw [HM.out]; exact hle
    have hrdi : (rd : Int) ≤ (m : Int) := by omega
    have hmi2 : (m : Int) ≤ 16384 := by omega
    obtain ⟨M2, hM2⟩ : ∃ M2, M2 = m - rd := ⟨_, rfl⟩
    obtain ⟨C2, hC2⟩ : ∃ C2, C2 = cap - rd := ⟨_, rfl⟩
    obtain ⟨RA, hRA⟩ : ∃ RA, RA = restA ao rd cap := ⟨_, rfl⟩
    have hMB : M2 = B.length := by rw [hM2, hBl, HM.out]
    have HRA : Hid (GRd EY wr RA B C2) := by
      have h1 := rest_rd (HR.out.below hq.below) rd hle
      rw [← hB, ← hRA, ← hC2] at h1
      exact h1
    have HLE := Hid.mk2 (rlineEnd_any wr RA B C2 HRA.out M2 hMB (by omega))
    have hmul : (M2 : Int) ≤ 16384 := by omega
    rw [← hB] at hf2
    have HF2 := Hid.mk2 hf2
    have HF1 := Hid.mk2 hf1
    have HN := Hid.mk2 hn
    have HBD := Hid.mk2 hB
    have HM2 := Hid.mk2 hM2
    have HMB := Hid.mk2 hMB
    have hM2i : (M2 : Int) = (m : Int) - (rd : Int) := by omega
    rw [← hn] at HQ
    clear hq hrd hB hBl hf1 hf2 hn hMB HF
    go_upto_region 7 with (refine wpl_slice_l rfl _ _ rfl ao rd m cap rfl rfl hrdm ?_)
    rw [← hM2, ← hC2, ← hRA]
    clear hM2 hC2 hRA
    rcases lEnd_of B with ⟨he, hle2⟩ | ⟨e, he, hle2⟩
    · rw [hle2] at HLE
      have HE := Hid.mk2 (HF2.out.symm.trans (qread_none he))
      have HX2 := Hid.mk2 (HX.out.below HQ.out.below)
      have z0 := HX2.out.c 0 (by simp [anz]); have z1 := HX2.out.c 1 (by simp [anz]); have z2 := HX2.out.c 2 (by simp [anz]); have z3 := HX2.out.c 3 (by simp [anz]); have z4 := HX2.out.c 4 (by simp [anz]); have z5 := HX2.out.c 5 (by simp [anz]); have z6 := HX2.out.c 6 (by simp [anz]); simp only [anz, List.getElem_cons_zero, List.getElem_cons_succ] at z0 z1 z2 z3 z4 z5 z6; have zf0 := HX2.out.f 0; have zf1 := HX2.out.f 1; have zf2 := HX2.out.f 2; have zf3 := HX2.out.f 3; have zf4 := HX2.out.f 4; have zf5 := HX2.out.f 5; have zf6 := HX2.out.f 6
      clear he hle2 HF2
      by_cases h514 : M2 < 514
      · have h514i : (M2 : Int) < 514 := by omega
        have e5 : (if B.length < 514 then (0 : Int) else 8) = 0 := if_pos (by rw [← HMB.out]; exact h514)
        rw [e5] at HE
        clear e5 h514
        go_wp2_with (go_at_call 33; refine (HLE.out).mono ?_; rintro e w2 ⟨rfl, hw2⟩; replace hw2 := hw2.symm; subst hw2)
        refine bodyPost_ret (res_cell3 rfl rfl (load_var (zset7 HX2.out rfl _ _ _ _ _ _ _) 27 _ Tryd.underlying27 rfl answer_info)) rfl ?_
        rw [HE.out]
        exact readR_none (zbelow7 (g_on HB.out HQ.out.below) (Nat.le_refl _) _ _ _ _ _ _ _)
      · have h514i : ¬ (M2 : Int) < 514 := by omega
        have e5 : (if B.length < 514 then (0 : Int) else 8) = 8 := if_neg (by rw [← HMB.out]; exact h514)
        rw [e5] at HE
        clear e5 h514
        go_wp2_with (go_at_call 33; refine (HLE.out).mono ?_; rintro e w2 ⟨rfl, hw2⟩; replace hw2 := hw2.symm; subst hw2)
        refine bodyPost_ret (res_cell3 rfl rfl (load_var (zset7 HX2.out rfl _ _ _ _ _ _ _) 27 _ Tryd.underlying27 rfl answer_info)) rfl ?_
        rw [HE.out]
        exact readR_none (zbelow7 (g_on HB.out HQ.out.below) (Nat.le_refl _) _ _ _ _ _ _ _)
    · rw [hle2] at HLE
      have HEO := Hid.mk2 he
      obtain ⟨he5, heB⟩ := eol_514 he
      have heM : e + 2 ≤ M2 := by rw [HMB.out]; exact heB
      have hneB : B ≠ [] := by intro q; rw [q] at heB; simp at heB
      obtain ⟨g, off, rfl, hgl, hgc⟩ := HRA.out.uy hneB
      have HGC := Hid.mk2 hgc
      have hMC : M2 ≤ C2 := by rw [HMB.out]; exact HRA.out.hl
      have heC : e ≤ C2 := by omega
      have h0i : ¬ (e : Int) < 0 := by omega
      have kc1 := conv_rd (head_rd HRA.out e (by omega))
      rw [show (B.take e).length = e by rw [List.length_take]; omega] at kc1
      obtain ⟨S, hS⟩ : ∃ S, S = mkB (B.take e) := ⟨_, rfl⟩
      rw [show (⟨(B.take e).toArray⟩ : ByteArray) = S from hS.symm] at kc1
      have hbS : bl S = B.take e := by rw [hS, bl_mkB]
      have HBS := Hid.mk2 hbS
      have hSs : S.size ≤ 600 := by rw [← bl_len, hbS, List.length_take]; omega
      have HSS := Hid.mk2 hSs
      have HSZ := Hid.mk2 (lw_sizes hSs)
      have HCW := Hid.mk2 (fun V => rcut14_any S (by omega) V)
      obtain ⟨l, hl⟩ : ∃ l, l = lw (bl S) := ⟨_, rfl⟩
      rw [← hl] at HCW HSZ
      have HLL : Hid (l = lw (B.take e)) := by show _ = _; rw [hl, hbS]
      have HIT := Hid.mk2 (fun V lo lc h => ritem15_any V lo l lc h HSZ.out)
      have HMS := Hid.mk2 hS.symm
      clear he hle2 heB hneB hgc hS hbS hl
      go_upto_region 14 with (first
        | (go_at_call 33; refine (HLE.out).mono ?_; rintro e w2 ⟨rfl, hw2⟩; replace hw2 := hw2.symm; subst hw2)
        | (refine wpl_slice_h rfl _ _ rfl (some ⟨g, off, none⟩) e M2 C2 rfl rfl heC ?_)
        | (go_at_call 35; refine (HCW.out _).mono ?_; rintro e w2 ⟨⟨co, cc, rfl, hrc⟩, hb2⟩; have HRC := Hid.mk2 hrc; have HB2 := Hid.mk2 hb2; clear hrc hb2)
        | (go_at_call 34; refine (HIT.out _ _ _ HRC.out).mono ?_; rintro e w3 ⟨⟨⟨⟨xk, xv, xf, xt, xu⟩, nn, bb, rfl, ht, hf⟩⟩, hb3⟩; have HT := Hid.mk2 ht; have HFF := Hid.mk2 hf; have HB3 := Hid.mk2 (g_on HB2.out hb3); clear ht hf hb3))
      obtain ⟨W4, hW4⟩ : ∃ W4, W4 = w3.alloc (.cells #[.string xk, .string xv, .int .u32 xf, .int .i64 xt, .int .u64 xu] 53) := ⟨_, rfl⟩
      have HI4 : Hid (GBx W4 w3.heap.size [.string xk, .string xv, .int .u32 xf, .int .i64 xt, .int .u64 xu]) := by rw [hW4]; exact GBx.made w3 [.string xk, .string xv, .int .u32 xf, .int .i64 xt, .int .u64 xu] _
      have HB4 : Hid (Below wr.heap.size wr W4) := by rw [hW4]; exact g_on HB3.out (g_alloc _ _)
      have hXX : wr.heap.size ≤ w3.heap.size := HB3.out.size
      rw [← hW4]
      clear hW4
      obtain ⟨X, hX⟩ : ∃ X, X = w3.heap.size := ⟨_, rfl⟩
      rw [← hX] at HI4 hXX ⊢
      clear hX
      have HBW : Hid (Below W.heap.size W W4) := g_on HQ.out.below HB4.out
      have HX4 := Hid.mk2 (HX.out.below HBW.out)
      have HY4 := Hid.mk2 (HQ.out.box.below HB4.out)
      have HO4 := Hid.mk2 (HQ.out.own.below HB4.out)
      have HG4 := Hid.mk2 (HRA.out.below HB4.out)
      have hYX : Y < X := Nat.lt_of_lt_of_le HQ.out.box.lt hXX
      have HVB : Hid (Below V.heap.size V W4) := g_on HB.out HBW.out
      have hC : ∃ C : Bool, C = true ↔ (of_ ≠ 1 ∨ bb = false ∨ n = 8) := ⟨decide (of_ ≠ 1 ∨ bb = false ∨ n = 8), by simp⟩
      obtain ⟨C, hC⟩ := hC
      have HC := Hid.mk2 hC
      clear hC kc1
      go_cut [67] from 55 to 66 (fun s67 wx => s67 = .bool C ∧ W4 = wx)
      case first =>
        have h := HC.out
        have y3 := HY4.out.c 3 (by simp [yz])
        simp only [yz, List.getElem_cons_zero, List.getElem_cons_succ] at y3
        by_cases h1 : of_ = 1
        · have q1 : (of_ != 1) = false := by rw [h1]; rfl
          cases bb with
          | false =>
            have e : C = true := h.2 (.inr (.inl rfl))
            subst e
            clear h h1
            go_wp2
            go_meet
            case rel => exact ⟨by first | rfl | simp, rfl⟩
          | true =>
            by_cases h8 : n = 8
            · have e : C = true := h.2 (.inr (.inr h8))
              have q8 : ((n : Int) == 8) = true := by rw [h8]; rfl
              subst e
              clear h h1 h8
              go_wp2
              go_meet
              case rel => exact ⟨by first | rfl | simp, rfl⟩
            · have e : C = false := by cases C with | false => rfl | true => exact absurd (h.1 rfl) (by simp [h1, h8])
              have q8 : ((n : Int) == 8) = false := beq_eq_false_iff_ne.2 (by omega)
              subst e
              clear h h1 h8
              go_wp2
              go_meet
              case rel => exact ⟨by first | rfl | simp, rfl⟩
        · have q1 : (of_ != 1) = true := by simpa using h1
          have e : C = true := h.2 (.inl h1)
          subst e
          clear h h1
          go_wp2
          go_meet
          case rel => exact ⟨by first | rfl | simp, rfl⟩
      case rest =>
        rename_i hK
        refine hK _ _ ?_
        clear hK
        obtain ⟨rfl, rfl⟩ := hcut
        cases C with
        | true =>
          by_cases hE : of_ = 1 ∧ S = sEND
          · obtain ⟨rfl, hS⟩ := hE
            have qS : (S.toList == [69, 78, 68]) = true := seq_l hS
            have HE : Hid (R = (⟨1, 1, 1, L, 0, false, ⟨#[]⟩⟩, rd + (e + 2), 0)) := HF2.out.symm.trans (qread_end HEO.out (by rw [HMS.out]; exact hS))
            have hki : (((rd + (e + 2) : Nat)) : Int) = (rd : Int) + (e : Int) + 2 := by omega
            have HKI := Hid.mk2 hki
            have y0 := HY4.out.c 0 (by simp [yz])
            have y1 := HY4.out.c 1 (by simp [yz])
            have y2 := HY4.out.c 2 (by simp [yz])
            have y3 := HY4.out.c 3 (by simp [yz])
            have y4 := HY4.out.c 4 (by simp [yz])
            have y5 := HY4.out.c 5 (by simp [yz])
            have y6 := HY4.out.c 6 (by simp [yz])
            simp only [yz, List.getElem_cons_zero, List.getElem_cons_succ] at y0 y1 y2 y3 y4 y5 y6
            have z0 := HX4.out.c 0 (by simp [anz]); have z1 := HX4.out.c 1 (by simp [anz]); have z2 := HX4.out.c 2 (by simp [anz]); have z3 := HX4.out.c 3 (by simp [anz]); have z4 := HX4.out.c 4 (by simp [anz]); have z5 := HX4.out.c 5 (by simp [anz]); have z6 := HX4.out.c 6 (by simp [anz]); simp only [anz, List.getElem_cons_zero, List.getElem_cons_succ] at z0 z1 z2 z3 z4 z5 z6; have zf0 := HX4.out.f 0; have zf1 := HX4.out.f 1; have zf2 := HX4.out.f 2; have zf3 := HX4.out.f 3; have zf4 := HX4.out.f 4; have zf5 := HX4.out.f 5; have zf6 := HX4.out.f 6
            clear hS hki HF2
            go_wp2
            refine bodyPost_ret (res_cell3 rfl rfl (load_var (zset7 HX4.out rfl _ _ _ _ _ _ _) 27 _ Tryd.underlying27 rfl answer_info)) rfl ?_
            rw [HE.out]
            obtain ⟨lo', lc', e', hr'⟩ := (zown7 HO4.out (show V.heap.size < Y + 1 by omega) _ _ _ _ _ _ _).rd okM
            cases e'
            exact ⟨⟨_, _, by rw [HKI.out, ← HN.out]; rfl, hr'⟩, zbelow7 HVB.out (Nat.le_refl _) _ _ _ _ _ _ _⟩
          · have HER : Hid (R = match (if L = [] then qone of_ S else none) with | none => (az, 0, 8) | some a => (a, rd + (e + 2), 0)) := by
              have h := HF2.out.symm.trans (qread_line HEO.out (by rw [HMS.out]; exact hE) HQ.out.one (by
                rcases HC.out.1 rfl with q | q | q
                · exact .inl q
                · exact .inr (.inl (by rw [← HLL.out]; exact HFF.out q))
                · exact .inr (.inr (by rw [← HN.out]; exact q))))
              rw [HMS.out] at h
              exact h
            go_upto_region 15 with (fail)
            go_cut [73] from 68 to 72 (fun s73 wx => s73 = .bool false ∧ W4 = wx)
            case first =>
              by_cases h1 : of_ = 1
              · have q1 : (of_ == 1) = true := by rw [h1]; rfl
                have qS : (S.toList == [69, 78, 68]) = false := sne_l (fun e => hE ⟨h1, e⟩)
                clear hE h1
                go_wp2
                go_meet
                case rel => exact ⟨by first | rfl | simp, rfl⟩
              · have q1 : (of_ == 1) = false := by simpa using h1
                clear hE h1
                go_wp2
                go_meet
                case rel => exact ⟨by first | rfl | simp, rfl⟩
            case rest =>
              rename_i hK
              refine hK _ _ ?_
              clear hK
              obtain ⟨rfl, rfl⟩ := hcut
              have HON := Hid.mk2 (fun V => rone15_any S HSS.out of_ V)
              have HNL := Hid.mk2 HQ.out.nil
              obtain ⟨O, hO⟩ : ∃ O, O = qone of_ S := ⟨_, rfl⟩
              have HOI : Hid (∀ a, O = some a → a.items = []) := fun a h => by
                rw [hO] at h
                unfold qone at h
                split at h
                · cases h
                · exact qans_items h
              rw [← hO] at HON HER
              clear hO hE HF2 HT HFF HIT HCW
              go_upto_region 18 with (go_at_call 36; refine (HON.out _).mono ?_; rintro e w5 ⟨⟨ya, yb, rfl, hy⟩, hb5⟩; obtain ⟨ak, ao2, ar, ai, an, ay, akey⟩ := ya; have HYA := Hid.mk2 hy; have HB5 := Hid.mk2 (g_on HVB.out hb5); have HX5 := Hid.mk2 (HX4.out.below hb5); simp only [An.arr]; clear hb5 hy)
              cases yb with
              | false =>
                have hn0 : O = none := by
                  rcases HYA.out with q | q
                  · exact absurd q.1 (by decide)
                  · exact q.2
                have HE : Hid (R = (az, 0, 8)) := by
                  show _ = _
                  rw [HER.out, hn0]
                  have e9 : (if L = [] then (none : Option An) else none) = none := by split <;> rfl
                  rw [e9]
                clear hn0 HER
                obtain ⟨W6, hW6⟩ : ∃ W6, W6 = w5.alloc (.cells #[.int .u8 ak, .int .u8 ao2, .int .u8 ar, .slice none 0 0, .int .u64 an, .bool ay, .string akey] 27) := ⟨_, rfl⟩
                have HX6 : Hid (GBx W6 V.heap.size anz) := by rw [hW6]; exact HX5.out.alloc _
                have HB6 : Hid (Below V.heap.size V W6) := by rw [hW6]; exact g_on HB5.out (g_alloc _ _)
                rw [← hW6]
                clear hW6
                have z0 := HX6.out.c 0 (by simp [anz]); have z1 := HX6.out.c 1 (by simp [anz]); have z2 := HX6.out.c 2 (by simp [anz]); have z3 := HX6.out.c 3 (by simp [anz]); have z4 := HX6.out.c 4 (by simp [anz]); have z5 := HX6.out.c 5 (by simp [anz]); have z6 := HX6.out.c 6 (by simp [anz]); simp only [anz, List.getElem_cons_zero, List.getElem_cons_succ] at z0 z1 z2 z3 z4 z5 z6; have zf0 := HX6.out.f 0; have zf1 := HX6.out.f 1; have zf2 := HX6.out.f 2; have zf3 := HX6.out.f 3; have zf4 := HX6.out.f 4; have zf5 := HX6.out.f 5; have zf6 := HX6.out.f 6
                go_wp2
                refine bodyPost_ret (res_cell3 rfl rfl (load_var (zset7 HX6.out rfl _ _ _ _ _ _ _) 27 _ Tryd.underlying27 rfl answer_info)) rfl ?_
                rw [HE.out]
                exact readR_none (zbelow7 HB6.out (Nat.le_refl _) _ _ _ _ _ _ _)
              | true =>
                have hn0 : O = some ⟨ak, ao2, ar, ai, an, ay, akey⟩ := by
                  rcases HYA.out with q | q
                  · exact q.2
                  · exact absurd q.1 (by decide)
                have hai : ai = [] := HOI.out _ hn0
                subst hai
                by_cases h0 : rd = 0
                · have HE : Hid (R = (⟨ak, ao2, ar, [], an, ay, akey⟩, 0 + (e + 2), 0)) := by
                    show _ = _
                    rw [HER.out, hn0, if_pos (HNL.out.2 h0), h0]
                  subst h0
                  have hki : (((0 + (e + 2) : Nat)) : Int) = (e : Int) + 2 := by omega
                  have HKI := Hid.mk2 hki
                  clear hn0 HER hki
                  obtain ⟨W6, hW6⟩ : ∃ W6, W6 = w5.alloc (.cells #[.int .u8 ak, .int .u8 ao2, .int .u8 ar, .slice none 0 0, .int .u64 an, .bool ay, .string akey] 27) := ⟨_, rfl⟩
                  have HX6 : Hid (GBx W6 V.heap.size anz) := by rw [hW6]; exact HX5.out.alloc _
                  have HP6 : Hid (GBx W6 w5.heap.size [.int .u8 ak, .int .u8 ao2, .int .u8 ar, .slice none 0 0, .int .u64 an, .bool ay, .string akey]) := by rw [hW6]; exact GBx.made w5 [.int .u8 ak, .int .u8 ao2, .int .u8 ar, .slice none 0 0, .int .u64 an, .bool ay, .string akey] _
                  have HB6 : Hid (Below V.heap.size V W6) := by rw [hW6]; exact g_on HB5.out (g_alloc _ _)
                  rw [← hW6]
                  clear hW6
                  obtain ⟨P, hP⟩ : ∃ P, P = w5.heap.size := ⟨_, rfl⟩
                  rw [← hP] at HP6 ⊢
                  clear hP
                  have z0 := HX6.out.c 0 (by simp [anz]); have z1 := HX6.out.c 1 (by simp [anz]); have z2 := HX6.out.c 2 (by simp [anz]); have z3 := HX6.out.c 3 (by simp [anz]); have z4 := HX6.out.c 4 (by simp [anz]); have z5 := HX6.out.c 5 (by simp [anz]); have z6 := HX6.out.c 6 (by simp [anz]); simp only [anz, List.getElem_cons_zero, List.getElem_cons_succ] at z0 z1 z2 z3 z4 z5 z6; have zf0 := HX6.out.f 0; have zf1 := HX6.out.f 1; have zf2 := HX6.out.f 2; have zf3 := HX6.out.f 3; have zf4 := HX6.out.f 4; have zf5 := HX6.out.f 5; have zf6 := HX6.out.f 6
                  have y0 := HP6.out.c 0 (by simp)
                  have y1 := HP6.out.c 1 (by simp)
                  have y2 := HP6.out.c 2 (by simp)
                  have y3 := HP6.out.c 3 (by simp)
                  have y4 := HP6.out.c 4 (by simp)
                  have y5 := HP6.out.c 5 (by simp)
                  have y6 := HP6.out.c 6 (by simp)
                  simp only [List.getElem_cons_zero, List.getElem_cons_succ] at y0 y1 y2 y3 y4 y5 y6
                  go_wp2
                  refine bodyPost_ret (res_cell3 rfl rfl (load_var (zset7 HX6.out rfl _ _ _ _ _ _ _) 27 _ Tryd.underlying27 rfl answer_info)) rfl ?_
                  rw [HE.out]
                  exact ⟨⟨none, 0, by rw [HKI.out]; rfl, GRd.nil _⟩, zbelow7 HB6.out (Nat.le_refl _) _ _ _ _ _ _ _⟩
                · have h0i : (0 : Int) < (rd : Int) := by omega
                  have HE : Hid (R = (az, 0, 8)) := by
                    show _ = _
                    rw [HER.out, if_neg (fun q => h0 (HNL.out.1 q))]
                  clear hn0 HER h0
                  obtain ⟨W6, hW6⟩ : ∃ W6, W6 = w5.alloc (.cells #[.int .u8 ak, .int .u8 ao2, .int .u8 ar, .slice none 0 0, .int .u64 an, .bool ay, .string akey] 27) := ⟨_, rfl⟩
                  have HX6 : Hid (GBx W6 V.heap.size anz) := by rw [hW6]; exact HX5.out.alloc _
                  have HB6 : Hid (Below V.heap.size V W6) := by rw [hW6]; exact g_on HB5.out (g_alloc _ _)
                  rw [← hW6]
                  clear hW6
                  have z0 := HX6.out.c 0 (by simp [anz]); have z1 := HX6.out.c 1 (by simp [anz]); have z2 := HX6.out.c 2 (by simp [anz]); have z3 := HX6.out.c 3 (by simp [anz]); have z4 := HX6.out.c 4 (by simp [anz]); have z5 := HX6.out.c 5 (by simp [anz]); have z6 := HX6.out.c 6 (by simp [anz]); simp only [anz, List.getElem_cons_zero, List.getElem_cons_succ] at z0 z1 z2 z3 z4 z5 z6; have zf0 := HX6.out.f 0; have zf1 := HX6.out.f 1; have zf2 := HX6.out.f 2; have zf3 := HX6.out.f 3; have zf4 := HX6.out.f 4; have zf5 := HX6.out.f 5; have zf6 := HX6.out.f 6
                  go_wp2
                  refine bodyPost_ret (res_cell3 rfl rfl (load_var (zset7 HX6.out rfl _ _ _ _ _ _ _) 27 _ Tryd.underlying27 rfl answer_info)) rfl ?_
                  rw [HE.out]
                  exact readR_none (zbelow7 HB6.out (Nat.le_refl _) _ _ _ _ _ _ _)
        | false =>
          have hcc : of_ = 1 ∧ bb = true ∧ n ≠ 8 := by
            refine ⟨?_, ?_, fun q => absurd (HC.out.2 (.inr (.inr q))) (by decide)⟩
            · by_cases q : of_ = 1
              · exact q
              · exact absurd (HC.out.2 (.inl q)) (by decide)
            · cases bb with
              | true => rfl
              | false => exact absurd (HC.out.2 (.inr (.inl rfl))) (by decide)
          obtain ⟨rfl, rfl, hn8⟩ := hcc
          obtain ⟨mm, rfl, hqi⟩ := HT.out rfl
          obtain ⟨hm512, hxv, hRI⟩ := qread_item (f := f) (L := L) (rd := rd) HEO.out (by rw [← HN.out]; exact hn8) (by rw [← HLL.out]; exact hqi)
          have hxv2 : xv = ⟨#[]⟩ := hxv
          subst hxv2
          have HRI := Hid.mk2 (HF2.out.symm.trans hRI)
          obtain ⟨D, hD⟩ : ∃ D, D = B.drop (e + 2) := ⟨_, rfl⟩
          rw [← hD] at HRI
          have hDl : D.length = M2 - (e + 2) := by rw [hD, List.length_drop, HMB.out]
          have HDD := Hid.mk2 hD
          have hei : (e : Int) ≤ 512 := by omega
          have hmi : (mm : Int) ≤ 512 := by omega
          clear hqi hxv hRI HC HF2 HT HFF HIT HCW hD
          by_cases h1 : D.length < mm + 2
          · have h1i : (M2 : Int) < (e : Int) + 4 + (mm : Int) := by omega
            have HE := Hid.mk2 (HRI.out.trans (if_pos h1))
            have z0 := HX4.out.c 0 (by simp [anz]); have z1 := HX4.out.c 1 (by simp [anz]); have z2 := HX4.out.c 2 (by simp [anz]); have z3 := HX4.out.c 3 (by simp [anz]); have z4 := HX4.out.c 4 (by simp [anz]); have z5 := HX4.out.c 5 (by simp [anz]); have z6 := HX4.out.c 6 (by simp [anz]); simp only [anz, List.getElem_cons_zero, List.getElem_cons_succ] at z0 z1 z2 z3 z4 z5 z6; have zf0 := HX4.out.f 0; have zf1 := HX4.out.f 1; have zf2 := HX4.out.f 2; have zf3 := HX4.out.f 3; have zf4 := HX4.out.f 4; have zf5 := HX4.out.f 5; have zf6 := HX4.out.f 6
            clear HRI h1 hDl
            go_wp2
            refine bodyPost_ret (res_cell3 rfl rfl (load_var (zset7 HX4.out rfl _ _ _ _ _ _ _) 27 _ Tryd.underlying27 rfl answer_info)) rfl ?_
            rw [HE.out]
            exact readR_none (zbelow7 HVB.out (Nat.le_refl _) _ _ _ _ _ _ _)
          have h1i : ¬ (M2 : Int) < (e : Int) + 4 + (mm : Int) := by omega
          have hlen : e + 4 + mm ≤ M2 := by omega
          have HRJ := Hid.mk2 (HRI.out.trans (if_neg h1))
          have hB1 : e + 2 + mm < B.length := by rw [← HMB.out]; omega
          have hB2 : e + 2 + mm + 1 < B.length := by rw [← HMB.out]; omega
          obtain ⟨g5, off5, hge, _, hgc5⟩ := HG4.out.uy (by intro q; rw [q] at hB1; simp at hB1)
          have eg1 : g = g5 := by have := congrArg Addr.block (Option.some.inj hge); exact this
          have eg2 : off = off5 := by have := congrArg Addr.off (Option.some.inj hge); exact this
          subst eg1 eg2
          have r0 := hgc5 (e + 2 + mm) hB1
          have r1 := hgc5 (e + 2 + mm + 1) hB2
          have htw : (D.drop mm).take 2 = [B[e + 2 + mm], B[e + 2 + mm + 1]] := by rw [HDD.out, List.drop_drop]; exact qtwo B (e + 2 + mm) hB2
          have a1 : ((((⟨g, off, none⟩ : Addr)).off : Int) + ((e : Int) + 2 + (mm : Int))).toNat = off + (e + 2 + mm) := by simp; omega
          have a2 : ((((⟨g, off, none⟩ : Addr)).off : Int) + ((e : Int) + 3 + (mm : Int))).toNat = off + (e + 2 + mm + 1) := by simp; omega
          have b1 : (e : Int) + 2 + (mm : Int) < (M2 : Int) := by omega
          have b2 : (e : Int) + 3 + (mm : Int) < (M2 : Int) := by omega
          obtain ⟨c, hc⟩ : ∃ c, c = B[e + 2 + mm] := ⟨_, rfl⟩
          obtain ⟨d, hd⟩ : ∃ d, d = B[e + 2 + mm + 1] := ⟨_, rfl⟩
          rw [← hc] at r0 htw
          rw [← hd] at r1 htw
          rw [show e + 2 + mm + 1 = e + 3 + mm by omega] at r1
          rw [htw] at HRJ
          obtain ⟨q, hq⟩ : ∃ q : Nat, q = c.toNat := ⟨_, rfl⟩
          obtain ⟨p, hp⟩ : ∃ p : Nat, p = d.toNat := ⟨_, rfl⟩
          rw [← hq] at r0
          rw [← hp] at r1
          have HC13 : Hid (q = 13 ↔ c = 13) := by
            constructor
            · intro h; exact UInt8.toNat.inj (by rw [← hq, h]; rfl)
            · intro h; rw [hq, h]; rfl
          have HD10 : Hid (p = 10 ↔ d = 10) := by
            constructor
            · intro h; exact UInt8.toNat.inj (by rw [← hp, h]; rfl)
            · intro h; rw [hp, h]; rfl
          have HNO : Hid (¬ (q = 13 ∧ p = 10) → R = (az, 0, 8)) := fun h => HRJ.out.trans (if_neg (fun e => h ⟨HC13.out.2 (List.cons.inj e).1, HD10.out.2 (List.cons.inj (List.cons.inj e).2).1⟩))
          clear hgc5 hge htw hc hd hq hp HRI h1 hDl
          by_cases hq13 : q = 13
          case neg =>
            have q13 : ((q : Int) != 13) = true := by simp; omega
            have HE := Hid.mk2 (HNO.out (fun h => hq13 h.1))
            have z0 := HX4.out.c 0 (by simp [anz]); have z1 := HX4.out.c 1 (by simp [anz]); have z2 := HX4.out.c 2 (by simp [anz]); have z3 := HX4.out.c 3 (by simp [anz]); have z4 := HX4.out.c 4 (by simp [anz]); have z5 := HX4.out.c 5 (by simp [anz]); have z6 := HX4.out.c 6 (by simp [anz]); simp only [anz, List.getElem_cons_zero, List.getElem_cons_succ] at z0 z1 z2 z3 z4 z5 z6; have zf0 := HX4.out.f 0; have zf1 := HX4.out.f 1; have zf2 := HX4.out.f 2; have zf3 := HX4.out.f 3; have zf4 := HX4.out.f 4; have zf5 := HX4.out.f 5; have zf6 := HX4.out.f 6
            clear HRJ HNO hq13
            go_wp2
            refine bodyPost_ret (res_cell3 rfl rfl (load_var (zset7 HX4.out rfl _ _ _ _ _ _ _) 27 _ Tryd.underlying27 rfl answer_info)) rfl ?_
            rw [HE.out]
            exact readR_none (zbelow7 HVB.out (Nat.le_refl _) _ _ _ _ _ _ _)
          have q13 : ((q : Int) != 13) = false := by rw [hq13]; rfl
          by_cases hp10 : p = 10
          case neg =>
            have p10 : ((p : Int) != 10) = true := by simp; omega
            have HE := Hid.mk2 (HNO.out (fun h => hp10 h.2))
            have z0 := HX4.out.c 0 (by simp [anz]); have z1 := HX4.out.c 1 (by simp [anz]); have z2 := HX4.out.c 2 (by simp [anz]); have z3 := HX4.out.c 3 (by simp [anz]); have z4 := HX4.out.c 4 (by simp [anz]); have z5 := HX4.out.c 5 (by simp [anz]); have z6 := HX4.out.c 6 (by simp [anz]); simp only [anz, List.getElem_cons_zero, List.getElem_cons_succ] at z0 z1 z2 z3 z4 z5 z6; have zf0 := HX4.out.f 0; have zf1 := HX4.out.f 1; have zf2 := HX4.out.f 2; have zf3 := HX4.out.f 3; have zf4 := HX4.out.f 4; have zf5 := HX4.out.f 5; have zf6 := HX4.out.f 6
            clear HRJ HNO hq13 hp10
            go_wp2
            refine bodyPost_ret (res_cell3 rfl rfl (load_var (zset7 HX4.out rfl _ _ _ _ _ _ _) 27 _ Tryd.underlying27 rfl answer_info)) rfl ?_
            rw [HE.out]
            exact readR_none (zbelow7 HVB.out (Nat.le_refl _) _ _ _ _ _ _ _)
          have p10 : ((p : Int) != 10) = false := by rw [hp10]; rfl
          have HRK := Hid.mk2 (HRJ.out.trans (if_pos (by rw [HC13.out.1 hq13, HD10.out.1 hp10])))
          obtain ⟨VAL, hVAL⟩ : ∃ v, v = mkB (D.take mm) := ⟨_, rfl⟩
          rw [← hVAL] at HRK
          have heB2 : e + 2 ≤ B.length := by omega
          have kc2 := conv_rd (take_rd (rest_rd HG4.out (e + 2) heB2) mm)
          rw [show ((B.drop (e + 2)).take mm).length = mm by rw [List.length_take, List.length_drop]; omega] at kc2
          rw [show (⟨((B.drop (e + 2)).take mm).toArray⟩ : ByteArray) = VAL by rw [hVAL, HDD.out]; rfl] at kc2
          have hj1 : e + 2 ≤ e + 2 + mm := by omega
          have hj2 : e + 2 + mm ≤ C2 := by omega
          have i0 := HI4.out.c 0 (by simp)
          have i1 := HI4.out.c 1 (by simp)
          have i2 := HI4.out.c 2 (by simp)
          have i3 := HI4.out.c 3 (by simp)
          have i4 := HI4.out.c 4 (by simp)
          simp only [List.getElem_cons_zero, List.getElem_cons_succ] at i0 i1 i2 i3 i4
          have if1 := HI4.out.f 1
          clear HRJ HNO hq13 hp10 hVAL hB1 hB2
          go_upto_region 26 with (refine wpl_slice_lh rfl _ _ _ rfl (some ⟨g, off, none⟩) (e + 2) (e + 2 + mm) M2 C2 rfl (by rw [Int.natCast_add]; rfl) (by rw [Int.natCast_add, Int.natCast_add]; rfl) hj1 hj2 ?_)
          obtain ⟨W5, hW5⟩ : ∃ W5, W5 = W4.setCell ⟨X, 1, none⟩ (.string VAL) := ⟨_, rfl⟩
          have HI5 : Hid (GBx W5 X [.string xk, .string VAL, .int .u32 xf, .int .i64 xt, .int .u64 xu]) := by rw [hW5]; exact HI4.out.set 1 _ (by simp)
          have HY5 : Hid (GBx W5 Y (yz 1 (.slice lo n lc))) := by rw [hW5]; exact HY4.out.other 1 _ (by omega)
          have HO5 : Hid (GOwn EM W5 (Y + 1) (.slice lo n lc) L) := by
            show GOwn _ _ _ _ _
            rw [hW5]
            exact HO4.out.grown (g_set W4 ⟨X, 1, none⟩ _) (by intro k hk q; have h1 := (HQ.out.own.lt k hk).2; have h2 : X = k := Option.some.inj q; omega)
          have HB5 : Hid (Below Y W W5) := by
            show Below _ _ _
            rw [hW5, HYE.out]
            exact HBW.out.setCell (p := ⟨X, 1, none⟩) (by show W.heap.size ≤ X; rw [← HYE.out]; omega) _
          have hz5 : Y + 1 ≤ W5.heap.size := HY5.out.lt
          rw [← hW5]
          clear hW5 i0 i1 i2 i3 i4 if1
          have i0 := HI5.out.c 0 (by simp)
          have i1 := HI5.out.c 1 (by simp)
          have i2 := HI5.out.c 2 (by simp)
          have i3 := HI5.out.c 3 (by simp)
          have i4 := HI5.out.c 4 (by simp)
          simp only [List.getElem_cons_zero, List.getElem_cons_succ] at i0 i1 i2 i3 i4
          have y3 := HY5.out.c 3 (by simp [yz])
          simp only [yz, List.getElem_cons_zero, List.getElem_cons_succ] at y3
          have HLN : Hid (L.length + 1 ≤ 1000000) := by show _ ≤ _; have h1 := HQ.out.many; omega
          clear kc2
          go_wp2_with (at_builtin; refine g_one (w0 := W5) okM rfl _ _ _ rfl rfl (Y + 1) _ L HO5.out rfl (Im.mk xk VAL xf xt xu) rfl _ rfl rfl HLN.out hz5 ?_; intro v9 w9 hO9 hG9; obtain ⟨lo9, lc9, hv9, _⟩ := hO9.rd okM; obtain ⟨n9, hn9⟩ : ∃ q, q = (L ++ [Im.mk xk VAL xf xt xu]).length := ⟨_, rfl⟩; rw [← hn9] at hv9; subst hv9; clear hn9; have HO9 := Hid.mk2 hO9; have HB9 : Hid (Below Y W w9) := HB5.out.trans ((hG9.below HO5.out hz5).mono (Nat.le_succ Y)); have HY9 : Hid (GBx w9 Y (yz 1 (.slice lo n lc))) := HY5.out.grown hG9.grown (by intro q; have h1 := (HO5.out.lt Y q).1; omega); have y39 := HY9.out.c 3 (by simp [yz]); simp only [yz, List.getElem_cons_zero, List.getElem_cons_succ] at y39; have yf39 := HY9.out.f 3; clear hO9 hG9)
          have hR := HRK.out
          have hBW9 := HB9.out
          rw [HYE.out] at hBW9
          refine ⟨⟨L ++ [⟨xk, VAL, xf, xt, xu⟩], .slice lo9 n9 lc9, rd + (e + 4 + mm), by first | rfl | (simp only [Int.natCast_add]; rfl) | (congr 1; omega), ⟨?_, ?_, ?_, ?_, ?_, ?_, ?_, f, ?_, ?_⟩⟩, ?_⟩
          · exact hBW9.setCell (p := ⟨Y, 3, none⟩) (by show W.heap.size ≤ Y; rw [← HYE.out]; exact Nat.le_refl _) _
          · exact HY9.out.set 3 _ (by simp [yz])
          · exact HO9.out.other Y 3 _ (Nat.lt_succ_self Y)
          · have := HM.out; have := HM2.out; omega
          · have := HQ.out.many; rw [List.length_append]; simp; omega
          · exact fun h => absurd rfl h
          · exact ⟨fun h => by simp at h, fun h => by omega⟩
          · have := HF1.out; have := HM.out; omega
          · rw [hR, HBD.out, List.drop_drop]
            have e1 : rd + (e + 4 + mm) = rd + ((e + 2) + (mm + 2)) := by omega
            have e2 : rd + (e + 2) + (mm + 2) = rd + ((e + 2) + (mm + 2)) := by omega
            rw [e1, e2]
          · have := HM.out
            have := HM2.out
            simp [intOf]
            omega
end Go.Proofs.YtihcnjbnlcgcoaaDoor
