/-
  The document's result of an answer's body, walked.
-/
import Derived.Test.YtfjcaofmcjhdpaaPkM
import Derived.Test.YtfjcaofmcjhdpaaPkI
namespace Go.Proofs.Ytfjcaofmcjhdpaa
open Go.Proofs.Ytfjcaofmcjhdpaa.It
open Go.RowKit
set_option linter.unusedSimpArgs false
set_option linter.unusedVariables false
set_option maxRecDepth 100000

theorem pAns1_eq {x y : UInt8} {r : List UInt8} {n k m wd : Nat} (h1 : readL r = some (n, k)) (h2 : readL (r.drop k) = some (m, wd)) (hm : m ≤ 8) :
    pAns 1 (x :: y :: r) = (⟨1, (x.toNat : Int), (y.toNat : Int), (pItems m ⟨(r.drop k).drop wd, false⟩).1, (n : Int), false, ⟨#[]⟩⟩, (pItems m ⟨(r.drop k).drop wd, false⟩).2) := by
  unfold pAns
  rw [if_pos rfl]
  dsimp only [pSingle]
  rw [pSmall_ok h1 (by have := (readL_le h1).2.2; omega)]
  dsimp only
  rw [pSmall_ok h2 hm]
theorem pAns1_good {b : List UInt8} (h : (pAns 1 b).2.bad = false) : ∃ x y r n k m wd, b = x :: y :: r ∧ readL r = some (n, k) ∧ readL (r.drop k) = some (m, wd) ∧ m ≤ 8 := by
  unfold pAns at h
  rw [if_pos rfl] at h
  dsimp only at h
  obtain ⟨i1, _⟩ := pItems_inv _ _ h
  obtain ⟨a0, m, wd, a1, a2, a3⟩ := pSmall_good i1
  obtain ⟨b0, n, k, b1, b2, b3⟩ := pSmall_good a0
  obtain ⟨c0, c1⟩ := pSingle_inv b0
  obtain ⟨d0, d1⟩ := pSingle_inv c0
  dsimp only at d1
  rw [c1] at d1
  refine ⟨_, _, _, n, k, m, wd, d1, b1, ?_, a2⟩
  rw [b3] at a1
  exact a1
/-- what result answers -/
structure ResQ (w w' : World) (b : List UInt8) (e : Ending) : Prop where
  ex : ∃ (a : An) (lo : Option Addr) (lc : Nat) (ok : Bool), e = .returned (.tuple #[.agg (a.arr (.slice lo a.items.length lc)), .bool ok]) ∧ GRd EM w' lo a.items lc ∧ (∀ x, lo = some x → w.heap.size ≤ x.block) ∧ (0 ≤ a.num ∧ a.num < 18446744073709551616) ∧ a.key = ⟨#[]⟩ ∧ ok = okP 1 b ∧ (ok = true → (pAns 1 b).1 = a)
  below : Below w.heap.size w w'
theorem okP_bad {c : UInt8} {b : List UInt8} (h : (pAns c b).2.bad = true) : okP c b = false := by
  unfold okP
  rw [h]
  rfl
theorem pAns1_no {b : List UInt8} (h : ∀ x y r n k m wd, b = x :: y :: r → readL r = some (n, k) → readL (r.drop k) = some (m, wd) → m ≤ 8 → False) : okP 1 b = false := by
  refine okP_bad ?_
  cases hb : (pAns 1 b).2.bad with
  | true => rfl
  | false =>
    obtain ⟨x, y, r, n, k, m, wd, h1, h2, h3, h4⟩ := pAns1_good hb
    exact (h x y r n k m wd h1 h2 h3 h4).elim
theorem resQ_no {w w' : World} {b : List UInt8} (h : okP 1 b = false) (hb : Below w.heap.size w w') : ResQ w w' b (.returned (.tuple #[.agg #[.int .u8 0, .int .u8 0, .int .u8 0, .slice none 0 0, .int .u64 0, .bool false, .string ⟨#[]⟩], .bool false])) :=
  ⟨⟨zan, none, 0, false, rfl, GRd.nil _, (fun a e => by cases e), ⟨by decide, by decide⟩, rfl, h.symm, (fun e => by cases e)⟩, hb⟩
set_option maxHeartbeats 8000000 in
theorem rResult_any (w : World) (ao : Option Addr) (b : List UInt8) (cap : Nat) (h : GRd EY w ao b cap) (hb : b.length ≤ 5000) (m : Nat) (hm : m = b.length) :
    Calls Try.prog 38 #[.slice ao m cap] w fun e w' => ResQ w w' b e := by
  have mixed : Try.prog.follows .mixedOrders = true := by kernel_rfl
  obtain ⟨W, hW⟩ : ∃ W, W = w.alloc (.cells #[.int .u8 0, .int .u8 0, .int .u8 0, .slice none 0 0, .int .u64 0, .bool false, .string ⟨#[]⟩] 31) := ⟨_, rfl⟩
  have hB0 : Below w.heap.size w W := by rw [hW]; exact g_alloc _ _
  have HB : Hid (Below w.heap.size w W) := hB0
  have HX : Hid (GBx W w.heap.size azc) := by rw [hW]; exact GBx.made w azc _
  have HH := Hid.mk2 (h.below hB0)
  have HM := Hid.mk2 hm
  obtain ⟨P, hP⟩ : ∃ P, P = w.heap.size := ⟨_, rfl⟩
  have HPE := Hid.mk2 hP
  rw [← hP] at HX
  have hPW : P < W.heap.size := HX.out.lt
  clear hB0 h
  by_cases h2 : b.length < 2
  · have h2i : (m : Int) < 2 := by omega
    have HNO : Hid (okP 1 b = false) := pAns1_no (fun x y r n k m wd e _ _ _ => by rw [e] at h2; simp at h2; omega)
    clear hb hm h2
    go_enter Try.func38, Try.ntmps38
    go_upto_region 1 with (fail)
    rw [← hW, ← hP]
    clear hW hP
    have z0 := HX.out.c 0 (by simp [azc]); have z1 := HX.out.c 1 (by simp [azc]); have z2 := HX.out.c 2 (by simp [azc]); have z3 := HX.out.c 3 (by simp [azc]); have z4 := HX.out.c 4 (by simp [azc]); have z5 := HX.out.c 5 (by simp [azc]); have z6 := HX.out.c 6 (by simp [azc]); simp only [azc, List.getElem_cons_zero, List.getElem_cons_succ] at z0 z1 z2 z3 z4 z5 z6; have zf0 := HX.out.f 0; have zf1 := HX.out.f 1; have zf2 := HX.out.f 2; have zf3 := HX.out.f 3; have zf4 := HX.out.f 4; have zf5 := HX.out.f 5; have zf6 := HX.out.f 6
    go_wp2
    refine bodyPost_ret (res_cell rfl rfl (load_var (pset7 HX.out rfl _ _ _ _ _ _ _) 31 _ Try.underlying31 rfl (by kernel_rfl))) rfl ?_
    exact resQ_no HNO.out (grown_below HB.out (pset7_gr W P _ _ _ _ _ _ _) (Nat.le_of_eq HPE.out.symm))
  obtain ⟨x, y, r, rfl⟩ : ∃ x y r, b = x :: y :: r := by
    match b, h2 with
    | x :: y :: r, _ => exact ⟨x, y, r, rfl⟩
    | [], h => exact absurd (by simp) h
    | [_], h => exact absurd (by simp) h
  have h2i : ¬ (m : Int) < 2 := by omega
  have h2n : 2 ≤ m := by omega
  have hi0 : (0 : Int) < (m : Int) := by omega
  have hi0n : 0 < m := by omega
  have hi0t : ((0 : Int) ≤ 0 ∧ (0 : Int) < (m : Int)) := ⟨Int.le_refl _, hi0⟩
  have hi1 : (1 : Int) < (m : Int) := by omega
  obtain ⟨g, off, rfl, hgl, hgc⟩ := HH.out.uy (by simp)
  have r0 := hgc 0 (by simp)
  have r1 := hgc 1 (by simp)
  simp only [List.getElem_cons_zero, List.getElem_cons_succ] at r0 r1
  rw [Nat.add_zero] at r0
  have HRr := Hid.mk2 (rest_rd HH.out 2 (by simp))
  simp only [List.drop_succ_cons, List.drop_zero] at HRr
  have HRN : Hid (m - 2 = r.length) := by show _ = _; rw [hm]; simp
  have HRL : Hid (r.length ≤ 5000) := by show _ ≤ _; simp at hb; omega
  have hgP : g < W.heap.size := hgl
  have HSW : Hid (∀ V, Below W.heap.size W V → V.cell? ⟨g, off, none⟩ = some (.int .u8 (x.toNat : Int)) ∧ V.cell? ⟨g, off + 1, none⟩ = some (.int .u8 (y.toNat : Int))) := fun V hV => ⟨(hV.cell (p := ⟨g, off, none⟩) hgl).trans r0, (hV.cell (p := ⟨g, off + 1, none⟩) hgl).trans r1⟩
  clear hb hm h2 hgc
  go_enter Try.func38, Try.ntmps38
  go_upto_region 1 with (fail)
  rw [← hW, ← hP]
  clear hW hP
  go_upto_region 3 with (fail)
  go_cut [4] from 18 to 25 (fun s4 wx => ∃ Y, s4 = .pointer (some ⟨Y, 0, none⟩) ∧ W.heap.size ≤ Y ∧ Hid (GBx wx Y [.int .u8 1, .int .u8 (x.toNat : Int), .int .u8 (y.toNat : Int), .slice none 0 0, .int .u64 0, .bool false, .string ⟨#[]⟩]) ∧ Hid (Below W.heap.size W wx))
  case first =>
    go_region_held3 (fun V => V.cell? ⟨g, off, none⟩ = some (.int .u8 (x.toNat : Int)) ∧ V.cell? ⟨g, off + 1, none⟩ = some (.int .u8 (y.toNat : Int))) (exact HSW.out _ (by repeat' (first | with_reducible exact Below.refl _ _ | with_reducible refine Below.drew ?_ | with_reducible refine Below.setCell ?_ (Nat.le_refl _) _ | with_reducible refine g_on ?_ (g_alloc _ _)))) (fail)
    all_goals
      go_wp2
      go_meet
      case rel => exact ⟨W.heap.size, rfl, Nat.le_refl _, (GBx.made W [.int .u8 1, .int .u8 (x.toNat : Int), .int .u8 (y.toNat : Int), .slice none 0 0, .int .u64 0, .bool false, .string ⟨#[]⟩] 31).below (Below.refl _ _).drew, (g_alloc _ _).drew⟩
  case rest =>
    rename_i hK
    refine hK _ _ ?_
    clear hK hi0 hi0n hi0t hi1
    obtain ⟨Y, rfl, hWY, HYx, HBx⟩ := hcut
    have HX1 := Hid.mk2 (HX.out.below HBx.out)
    have HWB := Hid.mk2 (g_on HB.out HBx.out)
    have HR1 := Hid.mk2 (HRr.out.below HBx.out)
    have HRD := Hid.mk2 (rread1_any wc _ r _ HR1.out (by have := HRL.out; omega) (m - 2) HRN.out)
    obtain ⟨RA, hRA⟩ : ∃ q, q = restA (some ⟨g, off, none⟩) 2 cap := ⟨_, rfl⟩
    obtain ⟨RN, hRN⟩ : ∃ q, q = m - 2 := ⟨_, rfl⟩
    obtain ⟨RC, hRC⟩ : ∃ q, q = cap - 2 := ⟨_, rfl⟩
    rw [← hRA, ← hRC] at HR1
    rw [← hRA, ← hRN, ← hRC] at HRD
    rw [← hRN] at HRN
    have hPY : P < Y := Nat.lt_of_lt_of_le hPW hWY
    clear HSW r0 r1
    go_upto_region 5 with (refine wpl_slice_l rfl _ _ rfl (some ⟨g, off, none⟩) 2 m cap rfl rfl h2n ?_)
    rw [← hRA, ← hRN, ← hRC]
    clear hRA hRN hRC
    cases hr : readL r with
    | none =>
      obtain ⟨e1, e2, e3⟩ := read_none hr
      rw [e1, e2, e3] at HRD
      have HNO : Hid (okP 1 (x :: y :: r) = false) := pAns1_no (fun x' y' r' n k m wd e h1 _ _ => by cases e; rw [hr] at h1; cases h1)
      clear hr e1 e2 e3
      have z0 := HX1.out.c 0 (by simp [azc]); have z1 := HX1.out.c 1 (by simp [azc]); have z2 := HX1.out.c 2 (by simp [azc]); have z3 := HX1.out.c 3 (by simp [azc]); have z4 := HX1.out.c 4 (by simp [azc]); have z5 := HX1.out.c 5 (by simp [azc]); have z6 := HX1.out.c 6 (by simp [azc]); simp only [azc, List.getElem_cons_zero, List.getElem_cons_succ] at z0 z1 z2 z3 z4 z5 z6; have zf0 := HX1.out.f 0; have zf1 := HX1.out.f 1; have zf2 := HX1.out.f 2; have zf3 := HX1.out.f 3; have zf4 := HX1.out.f 4; have zf5 := HX1.out.f 5; have zf6 := HX1.out.f 6
      go_wp2_with (go_at_call 47; refine HRD.out.mono ?_; rintro e w2 ⟨rfl, hw2⟩; replace hw2 := hw2.symm; subst hw2)
      refine bodyPost_ret (res_cell rfl rfl (load_var (pset7 HX1.out rfl _ _ _ _ _ _ _) 31 _ Try.underlying31 rfl (by kernel_rfl))) rfl ?_
      exact resQ_no HNO.out (grown_below HWB.out (pset7_gr _ P _ _ _ _ _ _ _) (Nat.le_of_eq HPE.out.symm))
    | some p =>
    obtain ⟨n, k⟩ := p
    obtain ⟨e1, e2, e3⟩ := read_some hr
    obtain ⟨hk, hk0, hnb⟩ := readL_le hr
    rw [e1, e2, e3] at HRD
    have hkRN : k ≤ RN := by rw [HRN.out]; exact hk
    have HR2 := Hid.mk2 (rest_rd HR1.out k hk)
    have HN2 : Hid (RN - k = (r.drop k).length) := by show _ = _; rw [List.length_drop, HRN.out]
    have HRD2 := Hid.mk2 (rread1_any wc _ (r.drop k) _ HR2.out (by have := HRL.out; rw [List.length_drop]; omega) (RN - k) HN2.out)
    have HHR := Hid.mk2 hr
    obtain ⟨RB, hRB⟩ : ∃ q, q = restA RA k RC := ⟨_, rfl⟩
    obtain ⟨SN, hSN⟩ : ∃ q, q = RN - k := ⟨_, rfl⟩
    obtain ⟨SC, hSC⟩ : ∃ q, q = RC - k := ⟨_, rfl⟩
    obtain ⟨D, hD⟩ : ∃ q, q = r.drop k := ⟨_, rfl⟩
    rw [← hRB, ← hSC, ← hD] at HR2
    rw [← hRB, ← hSN, ← hSC, ← hD] at HRD2
    rw [← hSN, ← hD] at HN2
    have HDD := Hid.mk2 hD
    have HDL : Hid (D.length ≤ 5000) := by show _ ≤ _; have := HRL.out; rw [hD, List.length_drop]; omega
    clear hr e1 e2 e3 hD hk
    go_upto_region 9 with (first
      | (go_at_call 47; refine HRD.out.mono ?_; rintro e w2 ⟨rfl, hw2⟩; replace hw2 := hw2.symm; subst hw2)
      | (refine wpl_slice_l rfl _ _ rfl RA k RN RC rfl rfl hkRN ?_))
    rw [← hRB, ← hSN, ← hSC]
    clear hRB hSN hSC
    cases hr : readL D with
    | none =>
      obtain ⟨e1, e2, e3⟩ := read_none hr
      rw [e1, e2, e3] at HRD2
      have HNO : Hid (okP 1 (x :: y :: r) = false) := pAns1_no (fun x' y' r' n' k' m wd e h1 h2 _ => by
        cases e
        rw [HHR.out] at h1
        cases h1
        rw [← HDD.out, hr] at h2
        cases h2)
      clear hr e1 e2 e3
      have z0 := HX1.out.c 0 (by simp [azc]); have z1 := HX1.out.c 1 (by simp [azc]); have z2 := HX1.out.c 2 (by simp [azc]); have z3 := HX1.out.c 3 (by simp [azc]); have z4 := HX1.out.c 4 (by simp [azc]); have z5 := HX1.out.c 5 (by simp [azc]); have z6 := HX1.out.c 6 (by simp [azc]); simp only [azc, List.getElem_cons_zero, List.getElem_cons_succ] at z0 z1 z2 z3 z4 z5 z6; have zf0 := HX1.out.f 0; have zf1 := HX1.out.f 1; have zf2 := HX1.out.f 2; have zf3 := HX1.out.f 3; have zf4 := HX1.out.f 4; have zf5 := HX1.out.f 5; have zf6 := HX1.out.f 6
      go_wp2_with (go_at_call 47; refine HRD2.out.mono ?_; rintro e w2 ⟨rfl, hw2⟩; replace hw2 := hw2.symm; subst hw2)
      refine bodyPost_ret (res_cell rfl rfl (load_var (pset7 HX1.out rfl _ _ _ _ _ _ _) 31 _ Try.underlying31 rfl (by kernel_rfl))) rfl ?_
      exact resQ_no HNO.out (grown_below HWB.out (pset7_gr _ P _ _ _ _ _ _ _) (Nat.le_of_eq HPE.out.symm))
    | some p =>
    obtain ⟨mm, wd⟩ := p
    obtain ⟨e1, e2, e3⟩ := read_some hr
    obtain ⟨hwd, hwd0, hmb⟩ := readL_le hr
    rw [e1, e2, e3] at HRD2
    have HHD := Hid.mk2 hr
    clear e1 e2 e3 hr
    by_cases hm8 : mm ≤ 8
    case neg =>
      have hm8i : (8 : Int) < (mm : Int) := by omega
      have HNO : Hid (okP 1 (x :: y :: r) = false) := pAns1_no (fun x' y' r' n' k' m wd e h1 h2 h3 => by
        cases e
        rw [HHR.out] at h1
        cases h1
        rw [← HDD.out, HHD.out] at h2
        cases h2
        exact hm8 h3)
      clear hm8
      have z0 := HX1.out.c 0 (by simp [azc]); have z1 := HX1.out.c 1 (by simp [azc]); have z2 := HX1.out.c 2 (by simp [azc]); have z3 := HX1.out.c 3 (by simp [azc]); have z4 := HX1.out.c 4 (by simp [azc]); have z5 := HX1.out.c 5 (by simp [azc]); have z6 := HX1.out.c 6 (by simp [azc]); simp only [azc, List.getElem_cons_zero, List.getElem_cons_succ] at z0 z1 z2 z3 z4 z5 z6; have zf0 := HX1.out.f 0; have zf1 := HX1.out.f 1; have zf2 := HX1.out.f 2; have zf3 := HX1.out.f 3; have zf4 := HX1.out.f 4; have zf5 := HX1.out.f 5; have zf6 := HX1.out.f 6
      go_wp2_with (go_at_call 47; refine HRD2.out.mono ?_; rintro e w2 ⟨rfl, hw2⟩; replace hw2 := hw2.symm; subst hw2)
      refine bodyPost_ret (res_cell rfl rfl (load_var (pset7 HX1.out rfl _ _ _ _ _ _ _) 31 _ Try.underlying31 rfl (by kernel_rfl))) rfl ?_
      exact resQ_no HNO.out (grown_below HWB.out (pset7_gr _ P _ _ _ _ _ _ _) (Nat.le_of_eq HPE.out.symm))
    have q8 : decide ((8 : Int) < (mm : Int)) = false := decide_eq_false (by omega)
    have HM8 : Hid ((mm : Int) ≤ 8) := by show _ ≤ _; omega
    have hwSN : wd ≤ SN := by rw [HN2.out]; exact hwd
    have HR3 := Hid.mk2 (rest_rd HR2.out wd hwd)
    have HEQ := Hid.mk2 (pAns1_eq (x := x) (y := y) HHR.out (by rw [← HDD.out]; exact HHD.out) hm8)
    rw [← HDD.out] at HEQ
    obtain ⟨T, hT⟩ : ∃ q, q = D.drop wd := ⟨_, rfl⟩
    rw [← hT] at HR3 HEQ
    have HTL : Hid (T.length ≤ 5000) := by show _ ≤ _; have := HDL.out; rw [hT, List.length_drop]; omega
    have HTN : Hid (SN - wd = T.length) := by show _ = _; rw [hT, List.length_drop, HN2.out]
    have HIT := Hid.mk2 (rItems_any wc _ T _ HR3.out HTL.out mm hm8 (SN - wd) HTN.out)
    clear hT hm8 hwd
    have HNB : Hid ((n : Int) < 18446744073709551616) := by show _ < _; omega
    clear hmb hnb hwd0 hk0
    go_upto_region 12 with (first
      | (go_at_call 47; refine HRD2.out.mono ?_; rintro e w2 ⟨rfl, hw2⟩; replace hw2 := hw2.symm; subst hw2))
    clear q8
    have hm8j := HM8.out
    go_upto_region 13 with (first
      | (refine wpl_slice_l rfl _ _ rfl RB wd SN SC rfl rfl hwSN ?_)
      | (go_at_call 48; refine HIT.out.mono ?_; rintro e w3 ⟨⟨lo, L, lc, ro, q, rc, ok, rfl, hL, hlg, hok1, hok2⟩, hb3⟩; have HLL := Hid.mk2 hL; have HLG := Hid.mk2 hlg; have HK1 := Hid.mk2 hok1; have HK2 := Hid.mk2 hok2; have HB3 := Hid.mk2 hb3; clear hL hlg hok1 hok2 hb3))
    have HX3 := Hid.mk2 (HX1.out.below HB3.out)
    have HY3 := Hid.mk2 (HYx.out.below HB3.out)
    have y4 := HY3.out.c 4 (by simp)
    have y3 := HY3.out.c 3 (by simp)
    simp only [List.getElem_cons_zero, List.getElem_cons_succ] at y3 y4
    have yf3 := HY3.out.f 3
    have yf4 := HY3.out.f 4
    obtain ⟨LN, hLN⟩ : ∃ q, q = L.length := ⟨_, rfl⟩
    obtain ⟨QN, hQN⟩ : ∃ x, x = q.length := ⟨_, rfl⟩
    rw [← hLN, ← hQN]
    have HLN := Hid.mk2 hLN
    have HQN := Hid.mk2 hQN
    clear hLN hQN
    go_upto_region 15 with (fail)
    obtain ⟨W5, hW5⟩ : ∃ W5, W5 = (w3.setCell ⟨Y, 4, none⟩ (.int .u64 (n : Int))).setCell ⟨Y, 3, none⟩ (.slice lo LN lc) := ⟨_, rfl⟩
    have HX5 : Hid (GBx W5 P azc) := by rw [hW5]; exact (HX3.out.other 4 _ (by omega)).other 3 _ (by omega)
    have HY5 : Hid (GBx W5 Y [.int .u8 1, .int .u8 (x.toNat : Int), .int .u8 (y.toNat : Int), .slice lo LN lc, .int .u64 (n : Int), .bool false, .string ⟨#[]⟩]) := by rw [hW5]; exact (HY3.out.set 4 _ (by simp)).set 3 _ (by simp)
    have hYc : Y < wc.heap.size := HYx.out.lt
    have HL5 : Hid (GRd EM W5 lo L lc) := by
      show GRd _ _ _ _ _
      rw [hW5]
      exact (HLL.out.other Y 4 _ (fun g off q _ => by have h1 : wc.heap.size ≤ g := HLG.out _ q; omega)).other Y 3 _ (fun g off q _ => by have h1 : wc.heap.size ≤ g := HLG.out _ q; omega)
    have HB5 : Hid (Below w.heap.size w W5) := by
      show Below _ _ _
      rw [hW5]
      exact ((g_on HWB.out HB3.out).setCell (p := ⟨Y, 4, none⟩) (by show w.heap.size ≤ Y; rw [← HPE.out]; omega) _).setCell (p := ⟨Y, 3, none⟩) (by show w.heap.size ≤ Y; rw [← HPE.out]; omega) _
    rw [← hW5]
    clear hW5 y3 y4 yf3 yf4
    have z0 := HX5.out.c 0 (by simp [azc]); have z1 := HX5.out.c 1 (by simp [azc]); have z2 := HX5.out.c 2 (by simp [azc]); have z3 := HX5.out.c 3 (by simp [azc]); have z4 := HX5.out.c 4 (by simp [azc]); have z5 := HX5.out.c 5 (by simp [azc]); have z6 := HX5.out.c 6 (by simp [azc]); simp only [azc, List.getElem_cons_zero, List.getElem_cons_succ] at z0 z1 z2 z3 z4 z5 z6; have zf0 := HX5.out.f 0; have zf1 := HX5.out.f 1; have zf2 := HX5.out.f 2; have zf3 := HX5.out.f 3; have zf4 := HX5.out.f 4; have zf5 := HX5.out.f 5; have zf6 := HX5.out.f 6
    have y0 := HY5.out.c 0 (by simp)
    have y1 := HY5.out.c 1 (by simp)
    have y2 := HY5.out.c 2 (by simp)
    have y3 := HY5.out.c 3 (by simp)
    have y4 := HY5.out.c 4 (by simp)
    have y5 := HY5.out.c 5 (by simp)
    have y6 := HY5.out.c 6 (by simp)
    simp only [List.getElem_cons_zero, List.getElem_cons_succ] at y0 y1 y2 y3 y4 y5 y6
    have HFIN : Hid (∀ (okk : Bool) wz e, okk = okP 1 (x :: y :: r) → (okk = true → (pAns 1 (x :: y :: r)).1 = ⟨1, (x.toNat : Int), (y.toNat : Int), L, (n : Int), false, ⟨#[]⟩⟩) → W5.grownBy wz (some P) → e = .returned (.tuple #[.agg #[.int .u8 1, .int .u8 (x.toNat : Int), .int .u8 (y.toNat : Int), .slice lo LN lc, .int .u64 (n : Int), .bool false, .string ⟨#[]⟩], .bool okk]) → ResQ w wz (x :: y :: r) e) := by
      rintro okk wz e h1 h2 h3 rfl
      refine ⟨⟨⟨1, (x.toNat : Int), (y.toNat : Int), L, (n : Int), false, ⟨#[]⟩⟩, lo, lc, okk, by rw [HLN.out]; rfl, grd_grown HL5.out h3 (fun g off q _ q2 => by have h4 : wc.heap.size ≤ g := HLG.out _ q; have h5 : P = g := Option.some.inj q2; omega), (fun a q => Nat.le_trans HWB.out.size (HLG.out a q)), ⟨by show (0 : Int) ≤ (n : Int); omega, HNB.out⟩, rfl, h1, h2⟩, grown_below HB5.out h3 (Nat.le_of_eq HPE.out.symm)⟩
    cases ok with
    | false =>
      have HOK : Hid (false = okP 1 (x :: y :: r)) := (okP_bad (by rw [HEQ.out]; exact HK2.out rfl)).symm
      go_wp2
      refine bodyPost_ret (res_cell rfl rfl (load_var (pset7 HX5.out rfl _ _ _ _ _ _ _) 31 _ Try.underlying31 rfl (by kernel_rfl))) rfl ?_
      exact HFIN.out false _ _ HOK.out (fun e => by cases e) (pset7_gr _ P _ _ _ _ _ _ _) rfl
    | true =>
      have hpi := HK1.out rfl
      have hpa := HEQ.out
      rw [hpi] at hpa
      have HPA := Hid.mk2 hpa
      clear hpi hpa
      by_cases h0 : QN = 0
      · have q0 : ((QN : Int) == 0) = true := by rw [h0]; rfl
        have HOK : Hid (true = okP 1 (x :: y :: r)) := by
          show _ = _
          unfold okP
          rw [HPA.out]
          dsimp only
          rw [← HQN.out, h0]
          rfl
        clear h0
        go_wp2
        refine bodyPost_ret (res_cell rfl rfl (load_var (pset7 HX5.out rfl _ _ _ _ _ _ _) 31 _ Try.underlying31 rfl (by kernel_rfl))) rfl ?_
        exact HFIN.out true _ _ HOK.out (fun _ => by rw [HPA.out]) (pset7_gr _ P _ _ _ _ _ _ _) rfl
      · have q0 : ((QN : Int) == 0) = false := beq_eq_false_iff_ne.2 (by omega)
        have HOK : Hid (false = okP 1 (x :: y :: r)) := by
          show _ = _
          unfold okP
          rw [HPA.out]
          dsimp only
          rw [← HQN.out, decide_eq_false h0]
          rfl
        clear h0
        go_wp2
        refine bodyPost_ret (res_cell rfl rfl (load_var (pset7 HX5.out rfl _ _ _ _ _ _ _) 31 _ Try.underlying31 rfl (by kernel_rfl))) rfl ?_
        exact HFIN.out false _ _ HOK.out (fun e => by cases e) (pset7_gr _ P _ _ _ _ _ _ _) rfl
end Go.Proofs.Ytfjcaofmcjhdpaa
