/-
  The document's Read of packets, walked.
-/
import Derived.Test.YtfjcaofmcjhdpaaPkO
import Derived.Test.YtfjcaofmcjhdpaaBnS
namespace Go.Proofs.Ytfjcaofmcjhdpaa
open Go.Proofs.Ytfjcaofmcjhdpaa.It
open Go.RowKit
set_option linter.unusedSimpArgs false
set_option linter.unusedVariables false
set_option maxRecDepth 100000

set_option maxHeartbeats 8000000 in
theorem rRead17_any (V : World) (ao : Option Addr) (L : List UInt8) (cap : Nat) (hr : GRd EY V ao L cap) (m : Nat) (hm : m = L.length) (hL : L.length ≤ 20000) :
    Calls Try.prog 13 #[.slice ao m cap] V fun e V' => PrR V V' (readQ L) e := by
  obtain ⟨W, hW⟩ : ∃ W, W = V.alloc (.cells #[.int .u8 0, .int .u8 0, .int .u8 0, .slice none 0 0, .int .u64 0, .bool false, .string ⟨#[]⟩] 31) := ⟨_, rfl⟩
  have hb0 : Below V.heap.size V W := by rw [hW]; exact g_alloc _ _
  have HP0 : Hid (GBx W V.heap.size azc) := by rw [hW]; exact GBx.made V azc _
  have HB0 := Hid.mk2 hb0
  have HC := Hid.mk2 (rcut_any 178 W ao L cap (hr.below hb0) m hm hL)
  have hln := cutQ_len L
  have HNO := Hid.mk2 (@readQ_no L)
  have HGO := Hid.mk2 (@readQ_go L)
  obtain ⟨⟨ck, cb, cn, ce⟩, hc⟩ : ∃ c, c = cutQ 178 L := ⟨_, rfl⟩
  rw [← hc] at HC hln HNO HGO
  have HC2 : Hid (Calls Try.prog 23 #[.int .u8 178, .slice ao m cap] W fun e V' => (∃ v, e = .returned (.tuple #[.int .u8 (ck.toNat : Int), v, .int .i64 (cn : Int), .int .i64 ce]) ∧ GOwn EY V' W.heap.size v cb) ∧ Below W.heap.size W V') := HC.out.mono fun e V' q => ⟨q.ex, q.below⟩
  dsimp only at hln HNO HGO
  obtain ⟨RQ, hRQ⟩ : ∃ r, r = readQ L := ⟨_, rfl⟩
  rw [← hRQ] at HNO HGO ⊢
  obtain ⟨P, hP⟩ : ∃ P, P = V.heap.size := ⟨_, rfl⟩
  have HPV := Hid.mk2 hP
  rw [← hP] at HP0
  have HLN := Hid.mk2 hln
  clear HC hc hRQ hr hm hL hb0 hln
  by_cases hno : ce ≠ 0 ∨ cn = 0
  · have HE := Hid.mk2 (HNO.out hno)
    clear HNO HGO
    have HFIN : Hid (∀ wz e, Below V.heap.size V wz → e = .returned (.tuple #[.agg #[.int .u8 0, .int .u8 0, .int .u8 0, .slice none 0 0, .int .u64 0, .bool false, .string ⟨#[]⟩], .int .i64 0, .int .i64 ce]) → PrR V wz RQ e) := by
      rintro wz e hb rfl
      rw [HE.out]
      exact ⟨⟨none, 0, rfl, GRd.nil _⟩, hb⟩
    by_cases hce : ce = 0
    · have hn0 : cn = 0 := hno.elim (fun h => absurd hce h) id
      subst hce hn0
      go_enter Try.func13, Try.ntmps13
      go_upto_region 1 with (fail)
      rw [← hW, ← hP]
      clear hW hP
      go_wp2_with (go_at_call 23; refine HC2.out.mono ?_; rintro e w1 ⟨⟨v1, rfl, ho1⟩, hb1⟩; have HB1 := Hid.mk2 (g_on HB0.out hb1); have HP1 := Hid.mk2 (HP0.out.below hb1); have z0 := HP1.out.c 0 (by simp [azc]); have z1 := HP1.out.c 1 (by simp [azc]); have z2 := HP1.out.c 2 (by simp [azc]); have z3 := HP1.out.c 3 (by simp [azc]); have z4 := HP1.out.c 4 (by simp [azc]); have z5 := HP1.out.c 5 (by simp [azc]); have z6 := HP1.out.c 6 (by simp [azc]); simp only [azc, List.getElem_cons_zero, List.getElem_cons_succ] at z0 z1 z2 z3 z4 z5 z6; have zf0 := HP1.out.f 0; have zf1 := HP1.out.f 1; have zf2 := HP1.out.f 2; have zf3 := HP1.out.f 3; have zf4 := HP1.out.f 4; have zf5 := HP1.out.f 5; have zf6 := HP1.out.f 6; clear ho1 hb1)
      refine bodyPost_ret (res_cell3 rfl rfl (load_var (pset7 HP1.out rfl _ _ _ _ _ _ _) 31 _ Try.underlying31 rfl (by kernel_rfl))) rfl ?_
      exact HFIN.out _ _ (grown_below HB1.out (pset7_gr w1 P _ _ _ _ _ _ _) (Nat.le_of_eq HPV.out.symm)) rfl
    · have hcb : (ce != 0) = true := by simpa using hce
      go_enter Try.func13, Try.ntmps13
      go_upto_region 1 with (fail)
      rw [← hW, ← hP]
      clear hW hP
      go_wp2_with (go_at_call 23; refine HC2.out.mono ?_; rintro e w1 ⟨⟨v1, rfl, ho1⟩, hb1⟩; have HB1 := Hid.mk2 (g_on HB0.out hb1); have HP1 := Hid.mk2 (HP0.out.below hb1); have z0 := HP1.out.c 0 (by simp [azc]); have z1 := HP1.out.c 1 (by simp [azc]); have z2 := HP1.out.c 2 (by simp [azc]); have z3 := HP1.out.c 3 (by simp [azc]); have z4 := HP1.out.c 4 (by simp [azc]); have z5 := HP1.out.c 5 (by simp [azc]); have z6 := HP1.out.c 6 (by simp [azc]); simp only [azc, List.getElem_cons_zero, List.getElem_cons_succ] at z0 z1 z2 z3 z4 z5 z6; have zf0 := HP1.out.f 0; have zf1 := HP1.out.f 1; have zf2 := HP1.out.f 2; have zf3 := HP1.out.f 3; have zf4 := HP1.out.f 4; have zf5 := HP1.out.f 5; have zf6 := HP1.out.f 6; clear ho1 hb1)
      refine bodyPost_ret (res_cell3 rfl rfl (load_var (pset7 HP1.out rfl _ _ _ _ _ _ _) 31 _ Try.underlying31 rfl (by kernel_rfl))) rfl ?_
      exact HFIN.out _ _ (grown_below HB1.out (pset7_gr w1 P _ _ _ _ _ _ _) (Nat.le_of_eq HPV.out.symm)) rfl
  have hce : ce = 0 := by
    by_cases h : ce = 0
    · exact h
    · exact absurd (.inl h) hno
  have hcn : cn ≠ 0 := fun h => hno (.inr h)
  have HE := Hid.mk2 (HGO.out hce hcn)
  subst hce
  have hni : ¬ (cn : Int) = 0 := by omega
  have hnb : ((cn : Int) == 0) = false := by simpa using hni
  have HOF := Hid.mk2 (fun V o c (h : GRd EY V o cb c) => rOf_any V ck o cb c h (by have := HLN.out; omega) cb.length rfl)
  obtain ⟨BN, hBN⟩ : ∃ n, n = cb.length := ⟨_, rfl⟩
  rw [← hBN] at HOF
  have HBN := Hid.mk2 hBN
  clear hBN HNO HGO hno hcn
  go_enter Try.func13, Try.ntmps13
  go_upto_region 1 with (fail)
  rw [← hW, ← hP]
  clear hW hP
  go_upto_region 5 with (first
    | (go_at_call 23; refine HC2.out.mono ?_; rintro e w1 ⟨⟨v1, rfl, ho1⟩, hb1⟩; obtain ⟨o1, c1, hv1, hr1, _⟩ := gown_rd2 ho1; rw [← HBN.out] at hv1; subst hv1; have HR1 := Hid.mk2 hr1; have HB1 := Hid.mk2 (g_on HB0.out hb1); have HP1 := Hid.mk2 (HP0.out.below hb1); clear ho1 hb1 hr1)
    | (go_at_call 24; refine (HOF.out _ _ _ HR1.out).mono ?_; rintro e w2 ⟨⟨⟨ak, ak2, ar, I, an, ay, akey⟩, lo, lc, ok, rfl, hI, hlg, hok, hpa⟩, hb2⟩; have HI2 := Hid.mk2 hI; have HLG := Hid.mk2 hlg; have HOK := Hid.mk2 hok; have HPA := Hid.mk2 hpa; have HB2 := Hid.mk2 (g_on HB1.out hb2); have HP2 := Hid.mk2 (HP1.out.below hb2); simp only [An.arr]; clear hI hlg hok hpa hb2))
  obtain ⟨IN, hIN⟩ : ∃ n, n = I.length := ⟨_, rfl⟩
  rw [← hIN]
  have HIN := Hid.mk2 hIN
  clear hIN
  obtain ⟨W3, hW3⟩ : ∃ W3, W3 = w2.alloc (.cells #[.int .u8 ak, .int .u8 ak2, .int .u8 ar, .slice lo IN lc, .int .u64 an, .bool ay, .string akey] 31) := ⟨_, rfl⟩
  have hb3 : Below w2.heap.size w2 W3 := by rw [hW3]; exact g_alloc _ _
  have HQ3 : Hid (GBx W3 w2.heap.size [.int .u8 ak, .int .u8 ak2, .int .u8 ar, .slice lo IN lc, .int .u64 an, .bool ay, .string akey]) := by rw [hW3]; exact GBx.made w2 [.int .u8 ak, .int .u8 ak2, .int .u8 ar, .slice lo IN lc, .int .u64 an, .bool ay, .string akey] _
  have HP3 := Hid.mk2 (HP2.out.below hb3)
  have HB3 := Hid.mk2 (g_on HB2.out hb3)
  have HI3 := Hid.mk2 (HI2.out.below hb3)
  rw [← hW3]
  clear hW3 hb3
  obtain ⟨Q, hQ⟩ : ∃ Q, Q = w2.heap.size := ⟨_, rfl⟩
  rw [← hQ] at HQ3 ⊢
  clear hQ
  have hPw : P < w1.heap.size := HP1.out.lt
  have z0 := HP3.out.c 0 (by simp [azc]); have z1 := HP3.out.c 1 (by simp [azc]); have z2 := HP3.out.c 2 (by simp [azc]); have z3 := HP3.out.c 3 (by simp [azc]); have z4 := HP3.out.c 4 (by simp [azc]); have z5 := HP3.out.c 5 (by simp [azc]); have z6 := HP3.out.c 6 (by simp [azc]); simp only [azc, List.getElem_cons_zero, List.getElem_cons_succ] at z0 z1 z2 z3 z4 z5 z6; have zf0 := HP3.out.f 0; have zf1 := HP3.out.f 1; have zf2 := HP3.out.f 2; have zf3 := HP3.out.f 3; have zf4 := HP3.out.f 4; have zf5 := HP3.out.f 5; have zf6 := HP3.out.f 6
  cases ok with
  | false =>
    have HE2 : Hid (RQ = (zan, 0, 8)) := HE.out.trans (if_neg (fun q => by have := HOK.out; rw [q.1, q.2] at this; cases this))
    go_wp2
    refine bodyPost_ret (res_cell3 rfl rfl (load_var (pset7 HP3.out rfl _ _ _ _ _ _ _) 31 _ Try.underlying31 rfl (by kernel_rfl))) rfl ?_
    rw [HE2.out]
    exact ⟨⟨none, 0, rfl, GRd.nil _⟩, grown_below HB3.out (pset7_gr W3 P _ _ _ _ _ _ _) (Nat.le_of_eq HPV.out.symm)⟩
  | true =>
    have hkk : okP ck cb = true ∧ (pAns ck cb).1.may = true := by have := HOK.out.symm; simpa using this
    have HE2 : Hid (RQ = (⟨ak, ak2, ar, I, an, ay, akey⟩, cn, 0)) := HE.out.trans ((if_pos hkk).trans (by rw [HPA.out rfl]))
    clear hkk
    have y0 := HQ3.out.c 0 (by simp)
    have y1 := HQ3.out.c 1 (by simp)
    have y2 := HQ3.out.c 2 (by simp)
    have y3 := HQ3.out.c 3 (by simp)
    have y4 := HQ3.out.c 4 (by simp)
    have y5 := HQ3.out.c 5 (by simp)
    have y6 := HQ3.out.c 6 (by simp)
    simp only [List.getElem_cons_zero, List.getElem_cons_succ] at y0 y1 y2 y3 y4 y5 y6
    go_wp2
    refine bodyPost_ret (res_cell3 rfl rfl (load_var (pset7 HP3.out rfl _ _ _ _ _ _ _) 31 _ Try.underlying31 rfl (by kernel_rfl))) rfl ?_
    rw [HE2.out]
    exact ⟨⟨lo, lc, by rw [HIN.out]; rfl, grd_grown HI3.out (pset7_gr W3 P _ _ _ _ _ _ _) (fun g off q _ q2 => by have h4 : w1.heap.size ≤ g := HLG.out _ q; have h5 : P = g := Option.some.inj q2; omega)⟩, grown_below HB3.out (pset7_gr W3 P _ _ _ _ _ _ _) (Nat.le_of_eq HPV.out.symm)⟩
end Go.Proofs.Ytfjcaofmcjhdpaa
