/-
  Read of package words.
-/
import Derived.Test.YtihcnjbnlcgcoaaDoorWoQ
namespace Go.Proofs.YtihcnjbnlcgcoaaDoor
open Go.Proofs.YtihcnjbnlcgcoaaDoor.It
open Go.RowKit
set_option linter.unusedSimpArgs false
set_option linter.unusedVariables false
set_option maxRecDepth 100000

/-- what Read answers -/
structure ReadR (w w' : World) (o : An × Nat × Int) (e : Ending) : Prop where
  ex : ∃ lo lc, e = .returned (.tuple #[.agg (o.1.arr (.slice lo o.1.items.length lc)), .int .i64 (o.2.1 : Int), .int .i64 o.2.2]) ∧ GRd EM w' lo o.1.items lc
  below : Below w.heap.size w w'
theorem whasPre_any (s : ByteArray) (w : World) : Calls Tryd.prog 20 #[.string s, .string ⟨#[86, 65, 76, 85, 69, 32]⟩] w fun e w' => e = .returned (.bool (isVal (bl s))) ∧ w' = w := by
  have c := Any.strings_HasPrefix Tryd.layHasPrefix s ⟨#[86, 65, 76, 85, 69, 32]⟩ w
  refine c.mono ?_
  rintro e w' ⟨rfl, rfl⟩
  refine ⟨?_, rfl⟩
  have h := pre_iff [86, 65, 76, 85, 69, 32] (bl s)
  have h2 : Lib.hasPrefix s.data.toList (⟨#[86, 65, 76, 85, 69, 32]⟩ : ByteArray).data.toList = isVal (bl s) := h
  rw [h2]
/-- what the loop of Read keeps -/
structure Rk (V W wr : World) (b : List UInt8) (of_ : Int) (R : An × Nat × Int) (L : List Im) (v : Value) (rd : Nat) : Prop where
  below : Below W.heap.size W wr
  own : GOwn EM wr W.heap.size v L
  le : rd ≤ b.length
  many : L.length ≤ rd
  f : ∃ f, b.length - rd < f ∧ readN f L (b.drop rd) rd of_ = R
theorem cutL_le (b : List UInt8) : (cutL b).2.1 ≤ b.length := by
  unfold cutL
  cases h : eol (b.take 514) with
  | none => simp
  | some e =>
    obtain ⟨h1, _⟩ := eol_some _ _ h
    have : (b.take 514).length ≤ b.length := by simp; omega
    dsimp only
    omega
theorem cutL_len (b : List UInt8) : (cutL b).1.length ≤ 514 := by
  unfold cutL
  cases h : eol (b.take 514) with
  | none => simp
  | some e =>
    obtain ⟨h1, _⟩ := eol_some _ _ h
    dsimp only
    rw [List.length_take]
    simp at h1
    omega
theorem zown7 {α : Type} {E : GEl α} {w : World} {base b : Nat} {v : Value} {l : List α} (h : GOwn E w base v l) (hb : b < base) (a0 a1 a2 a3 a4 a5 a6 : Value) : GOwn E (((((((w.setCell ⟨b, 0, none⟩ a0).setCell ⟨b, 1, none⟩ a1).setCell ⟨b, 2, none⟩ a2).setCell ⟨b, 3, none⟩ a3).setCell ⟨b, 4, none⟩ a4).setCell ⟨b, 5, none⟩ a5).setCell ⟨b, 6, none⟩ a6) base v l :=
  ((((((h.other b 0 a0 hb).other b 1 a1 hb).other b 2 a2 hb).other b 3 a3 hb).other b 4 a4 hb).other b 5 a5 hb).other b 6 a6 hb
theorem lastOf_items {l : List UInt8} {of_ : Int} {L : List Im} {a : An} (h : lastOf l of_ L = some a) : a.items = L := by
  unfold lastOf at h
  cases hq : ansOf of_ (mkB l) with
  | none => rw [hq] at h; cases h
  | some c =>
    rw [hq] at h
    dsimp only at h
    by_cases hc : L ≠ [] ∧ mkB l ≠ sEND
    · rw [if_pos hc] at h; cases h
    · rw [if_neg hc] at h; cases h; rfl
set_option maxHeartbeats 4000000 in
theorem wRead_any (V : World) (ao : Option Addr) (b : List UInt8) (cap : Nat) (hr : GRd EY V ao b cap) (hL : b.length ≤ 16384) (of_ : Int) (hg : Gw V) (ht : Rt V) (m : Nat) (hm : m = b.length) :
    Calls Tryd.prog 8 #[.slice ao m cap, .int .u8 of_] V fun e V' => ReadR V V' (readW b of_) e := by
  obtain ⟨W, hW⟩ : ∃ W, W = V.alloc (.cells #[.int .u8 0, .int .u8 0, .int .u8 0, .slice none 0 0, .int .u64 0, .bool false, .string ⟨#[]⟩] 27) := ⟨_, rfl⟩
  have hB0 : Below V.heap.size V W := by rw [hW]; exact g_alloc _ _
  have HB : Hid (Below V.heap.size V W) := hB0
  have HX : Hid (GBx W V.heap.size anz) := by rw [hW]; exact GBx.made V anz _
  have HR := Hid.mk2 (hr.below hB0)
  have HG := Hid.mk2 (hg.below hB0)
  have HT := Hid.mk2 (ht.below hB0)
  have HM := Hid.mk2 hm
  have HL := Hid.mk2 hL
  have hmi : ¬ (16384 : Int) < (m : Int) := by omega
  obtain ⟨R, hR⟩ : ∃ R, R = readW b of_ := ⟨_, rfl⟩
  have HF : Hid (readN (b.length + 1) [] b 0 of_ = R) := hR.symm
  rw [← hR]
  clear hR hB0 hr hL hg ht hm
  go_enter Tryd.func8, Tryd.ntmps8
  go_upto_region 1 with (fail)
  rw [← hW]
  clear hW
  go_wp2
  go_loopw [7, 8] (fun s7 s8 wr => ∃ (L : List Im) (rd : Nat), s8 = .int .i64 (rd : Int) ∧ Rk V W wr b of_ R L s7 rd) (fun _ s8 _ => b.length - (intOf s8).toNat)
  case atStart => exact ⟨[], 0, rfl, ⟨Below.refl _ _, GOwn.nil _ _, Nat.zero_le _, Nat.le_refl _, _, Nat.lt_succ_self _, HF.out⟩⟩
  case round =>
    obtain ⟨L, rd, rfl, hb, ho, hle, hmany, f, hf1, hf2⟩ := hrel
    cases f with
    | zero => omega
    | succ f =>
    obtain ⟨lo, lc, hv, hrd⟩ := ho.rd okM
    subst hv
    have HBB := Hid.mk2 hb
    have HO := Hid.mk2 ho
    have HRD := Hid.mk2 hrd
    obtain ⟨B, hB⟩ : ∃ B, B = b.drop rd := ⟨_, rfl⟩
    obtain ⟨n, hn⟩ : ∃ n, n = L.length := ⟨_, rfl⟩
    have hBl : B.length = b.length - rd := by rw [hB, List.length_drop]
    have HCL : Hid (∀ w0, Below wr.heap.size wr w0 → Calls Tryd.prog 18 #[.slice (restA ao rd cap) (m - rd) (cap - rd)] w0 fun e V' => e = .returned (.tuple #[.string (mkB (cutL B).1), .int .i64 ((cutL B).2.1 : Int), .int .i64 (cutL B).2.2]) ∧ Below w0.heap.size w0 V') := by
      intro w0 h0
      have h1 := rest_rd (HR.out.below (g_on hb h0)) rd hle
      rw [← hB] at h1
      exact cutLine_any w0 _ B _ h1 (by have := HL.out; omega) (HG.out.below (g_on hb h0)) (m - rd) (by rw [hBl, HM.out])
    have hc1 := cutL_le B
    have hc2 := cutL_len B
    have hF : R = if (cutL B).2.1 = 0 then (az, 0, (cutL B).2.2) else if (L.length : Int) = mostI of_ ∨ isVal (cutL B).1 = false then (match lastOf (cutL B).1 of_ L with | none => (az, 0, 8) | some a => (a, rd + (cutL B).2.1, 0)) else if (cutI (cutL B).1 (B.drop (cutL B).2.1)).2.1 = 0 then (az, 0, (cutI (cutL B).1 (B.drop (cutL B).2.1)).2.2) else readN f (L ++ [(cutI (cutL B).1 (B.drop (cutL B).2.1)).1]) (B.drop ((cutL B).2.1 + (cutI (cutL B).1 (B.drop (cutL B).2.1)).2.1)) (rd + (cutL B).2.1 + (cutI (cutL B).1 (B.drop (cutL B).2.1)).2.1) of_ := by rw [← hf2, ← hB]; rfl
    obtain ⟨⟨ll, cn, ce⟩, hcc⟩ : ∃ c, c = cutL B := ⟨_, rfl⟩
    rw [← hcc] at HCL hc1 hc2 hF
    dsimp only at HCL hc1 hc2 hF
    have HFF := Hid.mk2 hF
    have HN := Hid.mk2 hn
    have HBD := Hid.mk2 hB
    have hrdm : rd ≤ m := by rw [HM.out]; exact hle
    have hm2 : m ≤ 16384 := by rw [HM.out]; exact HL.out
    have hcn : rd + cn ≤ m := by rw [HM.out]; omega
    have hmc : m ≤ cap := by rw [HM.out]; exact HR.out.hl
    have hrdi : (rd : Int) ≤ (m : Int) := by omega
    have hmi2 : (m : Int) ≤ 16384 := by omega
    have hsum : (rd : Int) + (cn : Int) ≤ 16384 := by omega
    have HLL := Hid.mk2 hc2
    have HMN := Hid.mk2 hmany
    have HF1 := Hid.mk2 hf1
    rw [← hn]
    clear hb ho hrd hB hBl hc1 hcc hF hn hf1 hf2 hc2 hmany hle HF
    by_cases h0 : cn = 0
    · subst h0
      have HRR : Hid (R = (az, 0, ce)) := HFF.out.trans (if_pos rfl)
      clear HFF
      go_wp2_with (first
        | (refine wpl_slice_l rfl _ _ rfl ao rd m cap rfl rfl hrdm ?_)
        | (go_at_call 18; refine (HCL.out wr (Below.refl _ _)).mono ?_; rintro e w1 ⟨rfl, hb1⟩; have HB1 := Hid.mk2 (g_on HBB.out hb1); have HX1 := Hid.mk2 (HX.out.below HB1.out); have HO1 := Hid.mk2 (HO.out.below hb1); have z0 := HX1.out.c 0 (by simp [anz]); have z1 := HX1.out.c 1 (by simp [anz]); have z2 := HX1.out.c 2 (by simp [anz]); have z3 := HX1.out.c 3 (by simp [anz]); have z4 := HX1.out.c 4 (by simp [anz]); have z5 := HX1.out.c 5 (by simp [anz]); have z6 := HX1.out.c 6 (by simp [anz]); simp only [anz, List.getElem_cons_zero, List.getElem_cons_succ] at z0 z1 z2 z3 z4 z5 z6; have zf0 := HX1.out.f 0; have zf1 := HX1.out.f 1; have zf2 := HX1.out.f 2; have zf3 := HX1.out.f 3; have zf4 := HX1.out.f 4; have zf5 := HX1.out.f 5; have zf6 := HX1.out.f 6; clear hb1))
      refine bodyPost_ret (res_cell3 rfl rfl (load_var (zset7 HX1.out rfl _ _ _ _ _ _ _) 27 _ Tryd.underlying27 rfl answer_info)) rfl ?_
      rw [HRR.out]
      exact ⟨⟨none, 0, rfl, GRd.nil _⟩, zbelow7 (g_on HB.out HB1.out) (Nat.le_refl _) _ _ _ _ _ _ _⟩
    have h0i : ¬ (cn : Int) = 0 := by omega
    have h0b : ((cn : Int) == 0) = false := by simpa using h0i
    have HF2 := Hid.mk2 (HFF.out.trans (if_neg h0))
    clear HFF
    go_upto_region 9 with (first
      | (refine wpl_slice_l rfl _ _ rfl ao rd m cap rfl rfl hrdm ?_)
      | (go_at_call 18; refine (HCL.out wr (Below.refl _ _)).mono ?_; rintro e w1 ⟨rfl, hb1⟩; have HB1 := Hid.mk2 (g_on HBB.out hb1); have HX1 := Hid.mk2 (HX.out.below HB1.out); have HO1 := Hid.mk2 (HO.out.below hb1); clear hb1))
    have HMI := Hid.mk2 (fun W => wmostItems_any of_ W)
    have HHP := Hid.mk2 (fun W => whasPre_any (mkB ll) W)
    have hbll : bl (mkB ll) = ll := bl_mk ll
    rw [hbll] at HHP
    obtain ⟨S, hS⟩ : ∃ S, S = mkB ll := ⟨_, rfl⟩
    rw [← hS] at HHP hbll ⊢
    have hSs : S.size ≤ 600 := by
      rw [← bl_len, hbll]
      have := HLL.out
      omega
    have HBL := Hid.mk2 hbll
    have HSS := Hid.mk2 hSs
    clear hbll hS hSs
    obtain ⟨IV, hIV⟩ : ∃ IV, IV = isVal ll := ⟨_, rfl⟩
    rw [← hIV] at HHP HF2
    obtain ⟨MI, hMI⟩ : ∃ MI, MI = mostI of_ := ⟨_, rfl⟩
    rw [← hMI] at HMI HF2
    clear hIV hMI
    have hC : ∃ C : Bool, C = true ↔ ((n : Int) = MI ∨ IV = false) := ⟨decide ((n : Int) = MI ∨ IV = false), by simp⟩
    obtain ⟨C, hC⟩ := hC
    have HC := Hid.mk2 hC
    clear hC
    go_cut [41] from 32 to 40 (fun s41 wx => s41 = .bool C ∧ w1 = wx)
    case first =>
      have hn0 := HN.out
      by_cases he : (n : Int) = MI
      · have hCt : C = true := HC.out.2 (.inl he)
        have heb : ((n : Int) == MI) = true := by simpa using he
        subst hCt
        clear hn0 he
        go_wp2_with (go_at_call 19; refine (HMI.out _).mono ?_; rintro e w2 ⟨rfl, rfl⟩)
        go_meet
        case rel => exact ⟨by first | rfl | simp, rfl⟩
      · have heb : ((n : Int) == MI) = false := by simpa using he
        have hCe : C = !IV := by
          have h := HC.out
          cases IV <;> cases C <;> simp [he] at h ⊢
        subst hCe
        clear hn0 he
        go_wp2_with (first
          | (go_at_call 19; refine (HMI.out _).mono ?_; rintro e w2 ⟨rfl, rfl⟩)
          | (go_at_call 20; refine (HHP.out _).mono ?_; rintro e w3 ⟨rfl, rfl⟩))
        go_meet
        case rel => exact ⟨by first | rfl | simp, rfl⟩
    case rest =>
      rename_i hK
      refine hK _ _ ?_
      clear hK
      obtain ⟨rfl, rfl⟩ := hcut
      cases C with
      | true =>
        have hcond := HC.out.1 rfl
        have HRR : Hid (R = (match lastOf ll of_ L with | none => (az, 0, 8) | some a => (a, rd + cn, 0))) := HF2.out.trans (if_pos (by rw [← HN.out]; exact hcond))
        have HLA := Hid.mk2 (fun W0 (h0 : Below W.heap.size W W0) => wlastOf_any S HSS.out of_ W0 (HT.out.below h0) lo L n lc HN.out (by have := HMN.out; have := HN.out; omega) ((rd : Int) + (cn : Int)))
        have hbl2 := HBL.out
        rw [hbl2] at HLA
        have HLB : Hid (∀ W0, Below W.heap.size W W0 → Calls Tryd.prog 21 #[.string S, .int .u8 of_, .slice lo n lc, .int .i64 ((rd : Int) + (cn : Int))] W0 fun e w' => (∃ (a : An) (l2 : Option Addr) (n2 c2 : Nat) (kk er : Int), e = .returned (.tuple #[.agg (a.arr (.slice l2 n2 c2)), .int .i64 kk, .int .i64 er]) ∧ ((a = az ∧ (l2 = none ∧ n2 = 0 ∧ c2 = 0) ∧ kk = 0 ∧ er = 8 ∧ R = (az, 0, 8)) ∨ (a.items = L ∧ (l2 = lo ∧ n2 = n ∧ c2 = lc) ∧ kk = (rd : Int) + (cn : Int) ∧ er = 0 ∧ R = (a, rd + cn, 0)))) ∧ Below W0.heap.size W0 w') := by
          intro W0 h0
          refine (HLA.out W0 h0).mono ?_
          rintro e w' ⟨hex, hb⟩
          refine ⟨?_, hb⟩
          rcases hex with ⟨h1, h2⟩ | ⟨a, h1, h2⟩
          · exact ⟨az, _, _, _, _, _, h2, .inl ⟨rfl, ⟨rfl, rfl, rfl⟩, rfl, rfl, by rw [HRR.out, h1]⟩⟩
          · exact ⟨a, _, _, _, _, _, h2, .inr ⟨lastOf_items h1, ⟨rfl, rfl, rfl⟩, rfl, rfl, by rw [HRR.out, h1]⟩⟩
        clear hcond HF2 HHP HMI HCL hbl2 HLA HRR
        go_wp2_with (go_at_call 21; refine (HLB.out w1 HB1.out).mono ?_; rintro e w4 ⟨⟨a, l2, n2, c2, kk, er, rfl, hres⟩, hb4⟩; obtain ⟨ak, ao2, ar, ai, an, ay, akey⟩ := a; have HRES := Hid.mk2 hres; have HX4 := Hid.mk2 (HX1.out.below hb4); have HB4 := Hid.mk2 (g_on HB1.out hb4); have HO4 := Hid.mk2 (HO1.out.below hb4); have z0 := HX4.out.c 0 (by simp [anz]); have z1 := HX4.out.c 1 (by simp [anz]); have z2 := HX4.out.c 2 (by simp [anz]); have z3 := HX4.out.c 3 (by simp [anz]); have z4 := HX4.out.c 4 (by simp [anz]); have z5 := HX4.out.c 5 (by simp [anz]); have z6 := HX4.out.c 6 (by simp [anz]); simp only [anz, List.getElem_cons_zero, List.getElem_cons_succ] at z0 z1 z2 z3 z4 z5 z6; have zf0 := HX4.out.f 0; have zf1 := HX4.out.f 1; have zf2 := HX4.out.f 2; have zf3 := HX4.out.f 3; have zf4 := HX4.out.f 4; have zf5 := HX4.out.f 5; have zf6 := HX4.out.f 6; simp only [An.arr]; clear hb4 hres)
        refine bodyPost_ret (res_cell3 rfl rfl (load_var (zset7 HX4.out rfl _ _ _ _ _ _ _) 27 _ Tryd.underlying27 rfl answer_info)) rfl ?_
        rcases HRES.out with ⟨h1, ⟨rfl, rfl, rfl⟩, rfl, rfl, h5⟩ | ⟨h1, ⟨rfl, rfl, rfl⟩, rfl, rfl, h5⟩
        · rw [h5]
          cases h1
          exact ⟨⟨none, 0, rfl, GRd.nil _⟩, zbelow7 (g_on HB.out HB4.out) (Nat.le_refl _) _ _ _ _ _ _ _⟩
        · rw [h5]
          have h1 : ai = L := h1
          subst h1
          have hlt : V.heap.size < W.heap.size := HX.out.lt
          obtain ⟨lo', lc', e', hr'⟩ := (zown7 HO4.out hlt _ _ _ _ _ _ _).rd okM
          cases e'
          exact ⟨⟨_, _, by rw [← HN.out]; rfl, hr'⟩, zbelow7 (g_on HB.out HB4.out) (Nat.le_refl _) _ _ _ _ _ _ _⟩
      | false =>
        have hcond : ¬ ((n : Int) = MI ∨ IV = false) := fun h => by have := HC.out.2 h; cases this
        have HRR := Hid.mk2 (HF2.out.trans (if_neg (by rw [← HN.out]; exact hcond)))
        have hkm : rd + cn ≤ b.length := by rw [← HM.out]; exact hcn
        have hBd : b.drop (rd + cn) = B.drop cn := by rw [HBD.out, List.drop_drop]
        have HCI : Hid (∀ W0, Below W.heap.size W W0 → Calls Tryd.prog 22 #[.string S, .slice (restA ao (rd + cn) cap) (m - (rd + cn)) (cap - (rd + cn))] W0 fun e w' => CutI W0 w' (cutI ll (B.drop cn)) e) := by
          intro W0 h0
          have h1 := rest_rd (HR.out.below h0) (rd + cn) hkm
          have h2 := cutItem_any S HSS.out W0 (HG.out.below h0) _ _ _ h1 (by rw [List.length_drop]; have := HL.out; omega) (m - (rd + cn)) (by rw [List.length_drop, HM.out])
          rw [HBL.out, hBd] at h2
          exact h2
        have hin : (cutI ll (B.drop cn)).2.1 ≤ (B.drop cn).length := by
          unfold cutI
          cases itemW (lw ll).tail with
          | none => simp
          | some q =>
            obtain ⟨x, k⟩ := q
            dsimp only
            split
            · simp
            · split
              · dsimp only; omega
              · simp
        obtain ⟨⟨⟨xk, xv, xf, xt, xu⟩, inn, ie⟩, hci⟩ : ∃ c, c = cutI ll (B.drop cn) := ⟨_, rfl⟩
        rw [← hci] at HCI HRR hin
        have hinl : rd + cn + inn ≤ m := by
          dsimp only at hin
          rw [← hBd, List.length_drop, ← HM.out] at hin
          omega
        have HBd := Hid.mk2 hBd
        clear hcond HF2 HHP HMI HCL hci hin hBd hkm
        dsimp only at HRR
        go_upto_region 12 with (first
          | (refine wpl_slice_l rfl _ _ rfl ao (rd + cn) m cap rfl (by rw [Int.natCast_add]; rfl) hcn ?_)
          | (go_at_call 22; refine (HCI.out w1 HB1.out).mono ?_; rintro e w4 ⟨rfl, hb4⟩; have HX4 := Hid.mk2 (HX1.out.below hb4); have HB4 := Hid.mk2 (g_on HB1.out hb4); have HO4 := Hid.mk2 (HO1.out.below hb4); simp only [Im.ar]; clear hb4))
        obtain ⟨W5, hW5⟩ : ∃ W5, W5 = w4.alloc (.cells #[.string xk, .string xv, .int .u32 xf, .int .i64 xt, .int .u64 xu] 53) := ⟨_, rfl⟩
        have HX5 : Hid (GBx W5 V.heap.size anz) := by rw [hW5]; exact HX4.out.alloc _
        have HY5 : Hid (GBx W5 w4.heap.size [.string xk, .string xv, .int .u32 xf, .int .i64 xt, .int .u64 xu]) := by rw [hW5]; exact GBx.made w4 [.string xk, .string xv, .int .u32 xf, .int .i64 xt, .int .u64 xu] _
        have HB5 : Hid (Below W.heap.size W W5) := by rw [hW5]; exact g_on HB4.out (g_alloc _ _)
        have HO5 : Hid (GOwn EM W5 W.heap.size (.slice lo n lc) L) := by rw [hW5, HN.out]; exact HO4.out.alloc _
        rw [← hW5]
        clear hW5
        obtain ⟨Y, hY⟩ : ∃ Y, Y = w4.heap.size := ⟨_, rfl⟩
        rw [← hY] at HY5 ⊢
        clear hY
        by_cases hi0 : inn = 0
        · subst hi0
          have HR3 : Hid (R = (az, 0, ie)) := HRR.out.trans (if_pos rfl)
          clear HRR
          have z0 := HX5.out.c 0 (by simp [anz])
          have z1 := HX5.out.c 1 (by simp [anz])
          have z2 := HX5.out.c 2 (by simp [anz])
          have z3 := HX5.out.c 3 (by simp [anz])
          have z4 := HX5.out.c 4 (by simp [anz])
          have z5 := HX5.out.c 5 (by simp [anz])
          have z6 := HX5.out.c 6 (by simp [anz])
          simp only [anz, List.getElem_cons_zero, List.getElem_cons_succ] at z0 z1 z2 z3 z4 z5 z6
          have zf0 := HX5.out.f 0
          have zf1 := HX5.out.f 1
          have zf2 := HX5.out.f 2
          have zf3 := HX5.out.f 3
          have zf4 := HX5.out.f 4
          have zf5 := HX5.out.f 5
          have zf6 := HX5.out.f 6
          go_wp2
          refine bodyPost_ret (res_cell3 rfl rfl (load_var (zset7 HX5.out rfl _ _ _ _ _ _ _) 27 _ Tryd.underlying27 rfl answer_info)) rfl ?_
          rw [HR3.out]
          exact ⟨⟨none, 0, rfl, GRd.nil _⟩, zbelow7 (g_on HB.out HB5.out) (Nat.le_refl _) _ _ _ _ _ _ _⟩
        have hi0i : ¬ (inn : Int) = 0 := by omega
        have hi0b : ((inn : Int) == 0) = false := by simpa using hi0i
        have HR3 := Hid.mk2 (HRR.out.trans (if_neg hi0))
        clear HRR
        have y0 := HY5.out.c 0 (by simp)
        have y1 := HY5.out.c 1 (by simp)
        have y2 := HY5.out.c 2 (by simp)
        have y3 := HY5.out.c 3 (by simp)
        have y4 := HY5.out.c 4 (by simp)
        simp only [List.getElem_cons_zero, List.getElem_cons_succ] at y0 y1 y2 y3 y4
        have hsum2 : (rd : Int) + (cn : Int) + (inn : Int) ≤ 16384 := by omega
        go_wp2_with (at_builtin; refine g_one (w0 := W5) okM rfl _ _ _ rfl rfl W.heap.size _ L HO5.out rfl (Im.mk xk xv xf xt xu) rfl _ rfl rfl (by have := HMN.out; omega) HB5.out.size ?_; intro v9 w9 hO9 hG9; have HO9 := Hid.mk2 hO9; have HB9 := Hid.mk2 (HB5.out.trans (hG9.below HO5.out HB5.out.size)); clear hO9 hG9)
        refine ⟨⟨L ++ [⟨xk, xv, xf, xt, xu⟩], rd + cn + inn, by first | rfl | (rw [Int.natCast_add, Int.natCast_add]), ⟨HB9.out, HO9.out, by rw [← HM.out]; exact hinl, by have := HMN.out; simp; omega, f, ?_, ?_⟩⟩, ?_⟩
        · have := HF1.out
          have := HM.out
          omega
        · have h := HR3.out
          rw [h, HBD.out, List.drop_drop, Nat.add_assoc rd cn inn]
        · have := HM.out
          simp [intOf]
          omega
end Go.Proofs.YtihcnjbnlcgcoaaDoor
