/-
  Read of package packed.
-/
import Derived.Test.YtfjcaofmcjhdpaaPkH
namespace Go.Proofs.Ytfjcaofmcjhdpaa
open Go.Proofs.Ytfjcaofmcjhdpaa.It
open Go.RowKit
set_option linter.unusedSimpArgs false
set_option linter.unusedVariables false
set_option maxRecDepth 100000

/-- what Read answers, as data -/
def readQ (L : List UInt8) : An × Nat × Int := if 16384 < L.length then (zan, 0, 3) else readP L
structure PrR (w w' : World) (o : An × Nat × Int) (e : Ending) : Prop where
  ex : ∃ lo lc, e = .returned (.tuple #[.agg (o.1.arr (.slice lo o.1.items.length lc)), .int .i64 (o.2.1 : Int), .int .i64 o.2.2]) ∧ GRd EM w' lo o.1.items lc
  below : Below w.heap.size w w'
theorem pAns_key (c : UInt8) (b : List UInt8) : (pAns c b).1.key.size ≤ b.length := by
  unfold pAns
  split
  · exact Nat.zero_le _
  split
  · exact Nat.zero_le _
  split
  · exact Nat.le_of_eq (by show (⟨b.toArray⟩ : ByteArray).size = _; simp [ByteArray.size])
  · exact Nat.zero_le _
theorem ancl_one (a : An) (ao : Option Addr) (n c : Nat) : ∀ v ∈ a.cl (.slice ao n c), v.oneCell' = true := by
  intro v hv
  simp only [An.cl, List.mem_cons, List.not_mem_nil, or_false] at hv
  rcases hv with rfl | rfl | rfl | rfl | rfl | rfl | rfl <;> rfl
theorem cutQ_len (L : List UInt8) : (cutQ 178 L).b.length ≤ 4096 := by
  unfold cutQ
  split
  · simp
  · exact cutE_pos 178 L
theorem readQ_no {L : List UInt8} (h : (cutQ 178 L).e ≠ 0 ∨ (cutQ 178 L).n = 0) : readQ L = (zan, 0, (cutQ 178 L).e) := by
  by_cases h0 : 16384 < L.length
  · have e : cutQ 178 L = ⟨0, [], 0, 3⟩ := if_pos h0
    rw [e]
    exact if_pos h0
  · have e : cutQ 178 L = cutP 178 L := if_neg h0
    rw [e] at h ⊢
    have e2 : readQ L = readP L := if_neg h0
    rw [e2]
    exact if_pos h
theorem readQ_go {L : List UInt8} (h1 : (cutQ 178 L).e = 0) (h2 : (cutQ 178 L).n ≠ 0) : readQ L = if okP (cutQ 178 L).k (cutQ 178 L).b = true ∧ (pAns (cutQ 178 L).k (cutQ 178 L).b).1.may = true then ((pAns (cutQ 178 L).k (cutQ 178 L).b).1, (cutQ 178 L).n, 0) else (zan, 0, 8) := by
  by_cases h0 : 16384 < L.length
  · have e : cutQ 178 L = ⟨0, [], 0, 3⟩ := if_pos h0
    rw [e] at h2
    exact absurd rfl h2
  · have e : cutQ 178 L = cutP 178 L := if_neg h0
    rw [e] at h1 h2 ⊢
    have e2 : readQ L = readP L := if_neg h0
    rw [e2]
    unfold readP
    rw [if_neg (fun h => h.elim (fun h => h h1) h2)]
    unfold okP
    obtain ⟨⟨a, l, b⟩, hq⟩ : ∃ q, q = pAns (cutP 178 L).k (cutP 178 L).b := ⟨_, rfl⟩
    rw [← hq]
    dsimp only
    cases b <;> cases l <;> cases hm : a.may <;> simp [hm]
set_option maxHeartbeats 4000000 in
theorem pread_any (V : World) (ao : Option Addr) (L : List UInt8) (cap : Nat) (hr : GRd EY V ao L cap) (m : Nat) (hm : m = L.length) (hL : L.length ≤ 20000) :
    Calls Try.prog 9 #[.slice ao m cap] V fun e V' => PrR V V' (readQ L) e := by
  obtain ⟨W, hW⟩ : ∃ W, W = V.alloc (.cells #[.int .u8 0, .int .u8 0, .int .u8 0, .slice none 0 0, .int .u64 0, .bool false, .string ⟨#[]⟩] 31) := ⟨_, rfl⟩
  have hb0 : Below V.heap.size V W := by rw [hW]; exact g_alloc _ _
  have HP0 : Hid (GBx W V.heap.size azc) := by rw [hW]; exact GBx.made V azc _
  have HB0 := Hid.mk2 hb0
  have HC := Hid.mk2 (cutc_any 178 W ao L cap (hr.below hb0) m hm hL)
  have hln := cutQ_len L
  have HNO := Hid.mk2 (@readQ_no L)
  have HGO := Hid.mk2 (@readQ_go L)
  obtain ⟨⟨ck, cb, cn, ce⟩, hc⟩ : ∃ c, c = cutQ 178 L := ⟨_, rfl⟩
  rw [← hc] at HC hln HNO HGO
  have HC2 : Hid (Calls Try.prog 18 #[.int .u8 178, .slice ao m cap] W fun e V' => (∃ v, e = .returned (.tuple #[.int .u8 (ck.toNat : Int), v, .int .i64 (cn : Int), .int .i64 ce]) ∧ GOwn EY V' W.heap.size v cb) ∧ Below W.heap.size W V') := HC.out.mono fun e V' q => ⟨q.ex, q.below⟩
  dsimp only at hln HNO HGO
  obtain ⟨RQ, hRQ⟩ : ∃ r, r = readQ L := ⟨_, rfl⟩
  rw [← hRQ] at HNO HGO ⊢
  obtain ⟨P, hP⟩ : ∃ P, P = V.heap.size := ⟨_, rfl⟩
  have HPV := Hid.mk2 hP
  rw [← hP] at HP0
  have HLN := Hid.mk2 hln
  clear HC hc hRQ hr hm hL hb0 hln
  by_cases hno : ce ≠ 0 ∨ cn = 0
  · have HE := Hid.mk2 (HNO.out hno)
    clear HNO HGO
    have HFIN : Hid (∀ wz e, Below V.heap.size V wz → e = .returned (.tuple #[.agg #[.int .u8 0, .int .u8 0, .int .u8 0, .slice none 0 0, .int .u64 0, .bool false, .string ⟨#[]⟩], .int .i64 0, .int .i64 ce]) → PrR V wz RQ e) := by
      rintro wz e hb rfl
      rw [HE.out]
      exact ⟨⟨none, 0, rfl, GRd.nil _⟩, hb⟩
    by_cases hce : ce = 0
    · have hn0 : cn = 0 := hno.elim (fun h => absurd hce h) id
      subst hce hn0
      go_enter Try.func9, Try.ntmps9
      go_upto_region 1 with (fail)
      rw [← hW, ← hP]
      clear hW hP
      go_wp2_with (first
        | (go_at_call 18; refine HC2.out.mono ?_; rintro e w1 ⟨⟨v1, rfl, ho1⟩, hb1⟩; have HB1 := Hid.mk2 (g_on HB0.out hb1); have HP1 := Hid.mk2 (HP0.out.below hb1); have z0 := HP1.out.c 0 (by simp [azc]); have z1 := HP1.out.c 1 (by simp [azc]); have z2 := HP1.out.c 2 (by simp [azc]); have z3 := HP1.out.c 3 (by simp [azc]); have z4 := HP1.out.c 4 (by simp [azc]); have z5 := HP1.out.c 5 (by simp [azc]); have z6 := HP1.out.c 6 (by simp [azc]); simp only [azc, List.getElem_cons_zero, List.getElem_cons_succ] at z0 z1 z2 z3 z4 z5 z6; have zf0 := HP1.out.f 0; have zf1 := HP1.out.f 1; have zf2 := HP1.out.f 2; have zf3 := HP1.out.f 3; have zf4 := HP1.out.f 4; have zf5 := HP1.out.f 5; have zf6 := HP1.out.f 6; clear ho1 hb1))
      refine bodyPost_ret (res_cell3 rfl rfl (load_var (pset7 HP1.out rfl _ _ _ _ _ _ _) 31 _ Try.underlying31 rfl (by kernel_rfl))) rfl ?_
      exact HFIN.out _ _ (grown_below HB1.out (pset7_gr w1 P _ _ _ _ _ _ _) (Nat.le_of_eq HPV.out.symm)) rfl
    · have hcb : (ce != 0) = true := by simpa using hce
      go_enter Try.func9, Try.ntmps9
      go_upto_region 1 with (fail)
      rw [← hW, ← hP]
      clear hW hP
      go_wp2_with (first
        | (go_at_call 18; refine HC2.out.mono ?_; rintro e w1 ⟨⟨v1, rfl, ho1⟩, hb1⟩; have HB1 := Hid.mk2 (g_on HB0.out hb1); have HP1 := Hid.mk2 (HP0.out.below hb1); have z0 := HP1.out.c 0 (by simp [azc]); have z1 := HP1.out.c 1 (by simp [azc]); have z2 := HP1.out.c 2 (by simp [azc]); have z3 := HP1.out.c 3 (by simp [azc]); have z4 := HP1.out.c 4 (by simp [azc]); have z5 := HP1.out.c 5 (by simp [azc]); have z6 := HP1.out.c 6 (by simp [azc]); simp only [azc, List.getElem_cons_zero, List.getElem_cons_succ] at z0 z1 z2 z3 z4 z5 z6; have zf0 := HP1.out.f 0; have zf1 := HP1.out.f 1; have zf2 := HP1.out.f 2; have zf3 := HP1.out.f 3; have zf4 := HP1.out.f 4; have zf5 := HP1.out.f 5; have zf6 := HP1.out.f 6; clear ho1 hb1))
      refine bodyPost_ret (res_cell3 rfl rfl (load_var (pset7 HP1.out rfl _ _ _ _ _ _ _) 31 _ Try.underlying31 rfl (by kernel_rfl))) rfl ?_
      exact HFIN.out _ _ (grown_below HB1.out (pset7_gr w1 P _ _ _ _ _ _ _) (Nat.le_of_eq HPV.out.symm)) rfl
  have hce : ce = 0 := by
    by_cases h : ce = 0
    · exact h
    · exact absurd (.inl h) hno
  have hcn : cn ≠ 0 := fun h => hno (.inr h)
  have HE := Hid.mk2 (HGO.out hce hcn)
  subst hce
  have hni : ¬ (cn : Int) = 0 := by omega
  have hnb : ((cn : Int) == 0) = false := by simpa using hni
  have HAN := Hid.mk2 (fun V o c (h : GRd EY V o cb c) (hlt : ∀ a, o = some a → a.block < V.heap.size) => panswer_any V ck o cb c h hlt (by have := HLN.out; omega) cb.length rfl)
  have hky := pAns_key ck cb
  obtain ⟨OK, hOK⟩ : ∃ o, o = okP ck cb := ⟨_, rfl⟩
  rw [← hOK] at HE HAN
  obtain ⟨a, ha⟩ : ∃ a, a = (pAns ck cb).1 := ⟨_, rfl⟩
  rw [← ha] at HE HAN hky
  have HKY : Hid (a.key.size ≤ maxLen) := by
    have h1 : cb.length ≤ 4096 := HLN.out
    have h2 : (4096 : Nat) ≤ maxLen := by decide
    exact Nat.le_trans hky (Nat.le_trans h1 h2)
  have HCK := Hid.mk2 (fun V io ic (h : GRd EM V io a.items ic) => wCheck_any a io ic V h HKY.out)
  obtain ⟨MB, hMB⟩ : ∃ b, b = a.may := ⟨_, rfl⟩
  rw [← hMB] at HE HCK
  clear HNO HGO hno hOK ha hky hMB
  have CUTARM : Hid True := trivial
  cases OK with
  | false =>
    have HE2 : Hid (RQ = (zan, 0, 8)) := HE.out.trans (if_neg (by simp))
    have HFIN : Hid (∀ wz e, Below V.heap.size V wz → e = .returned (.tuple #[.agg #[.int .u8 0, .int .u8 0, .int .u8 0, .slice none 0 0, .int .u64 0, .bool false, .string ⟨#[]⟩], .int .i64 0, .int .i64 8]) → PrR V wz RQ e) := by
      rintro wz e hb rfl
      rw [HE2.out]
      exact ⟨⟨none, 0, rfl, GRd.nil _⟩, hb⟩
    go_enter Try.func9, Try.ntmps9
    go_upto_region 1 with (fail)
    rw [← hW, ← hP]
    clear hW hP
    go_wp2_with (first
      | (go_at_call 18; refine HC2.out.mono ?_; rintro e w1 ⟨⟨v1, rfl, ho1⟩, hb1⟩; obtain ⟨o1, c1, rfl, hr1, hl1⟩ := gown_rd3 ho1; have HR1 := Hid.mk2 hr1; have HL1 := Hid.mk2 hl1; have HB1 := Hid.mk2 (g_on HB0.out hb1); have HP1 := Hid.mk2 (HP0.out.below hb1); clear ho1 hb1 hr1 hl1)
      | (go_at_call 19; refine (HAN.out w1 o1 c1 HR1.out (fun q e => (HL1.out q e).2)).mono ?_; rintro e w2 ⟨⟨lo, lc, rfl, hi2, hf2⟩, hb2⟩; have HF2 : Hid (∀ q, lo = some q → P < q.block) := (fun q e => by have h8 := hf2 q e; have h7 := HP1.out.lt; omega); have HI2 := Hid.mk2 hi2; have HB2 := Hid.mk2 (g_on HB1.out hb2); have HP2 := Hid.mk2 (HP1.out.below hb2); obtain ⟨CS, hCS⟩ : ∃ CS, CS = a.cl (.slice lo a.items.length lc) := ⟨_, rfl⟩; have hAS : a.arr (.slice lo a.items.length lc) = CS.toArray := (by rw [hCS]; rfl); rw [hAS]; have HCS : Hid (CS.length = 7 ∧ ∀ v ∈ CS, v.oneCell' = true) := (by rw [hCS]; exact ⟨rfl, ancl_one _ _ _ _⟩); clear hi2 hb2 hCS hAS hf2)
      | (refine ywpl_store rfl 31 _ _ rfl w2.heap.size CS azc rfl rfl (by rw [HCS.out.1]; kernel_rfl) (GBx.made w2 azc _) (by rw [HCS.out.1]; rfl) HCS.out.2 ?_; obtain ⟨w3, hw3⟩ : ∃ w3, w3 = ysets (w2.alloc (.cells azc.toArray 31)) w2.heap.size 0 CS := ⟨_, rfl⟩; (first | rw [← hw3] | (change wpList _ _ _ _ _ (ysets (w2.alloc (.cells azc.toArray 31)) w2.heap.size 0 CS); rw [← hw3])); have hb3 : Below w2.heap.size w2 w3 := (by rw [hw3]; exact (g_alloc w2 _).grown (ysets_grown _ _ _ _) (by simp) (fun k hk => by cases hk; exact Nat.le_refl _)); have HB3 := Hid.mk2 (g_on HB2.out hb3); have HP3 := Hid.mk2 (HP2.out.below hb3); have z0 := HP3.out.c 0 (by simp [azc]); have z1 := HP3.out.c 1 (by simp [azc]); have z2 := HP3.out.c 2 (by simp [azc]); have z3 := HP3.out.c 3 (by simp [azc]); have z4 := HP3.out.c 4 (by simp [azc]); have z5 := HP3.out.c 5 (by simp [azc]); have z6 := HP3.out.c 6 (by simp [azc]); simp only [azc, List.getElem_cons_zero, List.getElem_cons_succ] at z0 z1 z2 z3 z4 z5 z6; have zf0 := HP3.out.f 0; have zf1 := HP3.out.f 1; have zf2 := HP3.out.f 2; have zf3 := HP3.out.f 3; have zf4 := HP3.out.f 4; have zf5 := HP3.out.f 5; have zf6 := HP3.out.f 6; clear hw3 hb3))
    refine bodyPost_ret (res_cell3 rfl rfl (load_var (pset7 HP3.out rfl _ _ _ _ _ _ _) 31 _ Try.underlying31 rfl (by kernel_rfl))) rfl ?_
    exact HFIN.out _ _ (grown_below HB3.out (pset7_gr w3 P _ _ _ _ _ _ _) (Nat.le_of_eq HPV.out.symm)) rfl
  | true =>
    cases MB with
    | false =>
      have HE2 : Hid (RQ = (zan, 0, 8)) := HE.out.trans (if_neg (by simp))
      have HFIN : Hid (∀ wz e, Below V.heap.size V wz → e = .returned (.tuple #[.agg #[.int .u8 0, .int .u8 0, .int .u8 0, .slice none 0 0, .int .u64 0, .bool false, .string ⟨#[]⟩], .int .i64 0, .int .i64 8]) → PrR V wz RQ e) := by
        rintro wz e hb rfl
        rw [HE2.out]
        exact ⟨⟨none, 0, rfl, GRd.nil _⟩, hb⟩
      go_enter Try.func9, Try.ntmps9
      go_upto_region 1 with (fail)
      rw [← hW, ← hP]
      clear hW hP
      go_wp2_with (first
        | (go_at_call 18; refine HC2.out.mono ?_; rintro e w1 ⟨⟨v1, rfl, ho1⟩, hb1⟩; obtain ⟨o1, c1, rfl, hr1, hl1⟩ := gown_rd3 ho1; have HR1 := Hid.mk2 hr1; have HL1 := Hid.mk2 hl1; have HB1 := Hid.mk2 (g_on HB0.out hb1); have HP1 := Hid.mk2 (HP0.out.below hb1); clear ho1 hb1 hr1 hl1)
        | (go_at_call 19; refine (HAN.out w1 o1 c1 HR1.out (fun q e => (HL1.out q e).2)).mono ?_; rintro e w2 ⟨⟨lo, lc, rfl, hi2, hf2⟩, hb2⟩; have HF2 : Hid (∀ q, lo = some q → P < q.block) := (fun q e => by have h8 := hf2 q e; have h7 := HP1.out.lt; omega); have HI2 := Hid.mk2 hi2; have HB2 := Hid.mk2 (g_on HB1.out hb2); have HP2 := Hid.mk2 (HP1.out.below hb2); obtain ⟨CS, hCS⟩ : ∃ CS, CS = a.cl (.slice lo a.items.length lc) := ⟨_, rfl⟩; have hAS : a.arr (.slice lo a.items.length lc) = CS.toArray := (by rw [hCS]; rfl); rw [hAS]; have HAS := Hid.mk2 hAS; have HCS : Hid (CS.length = 7 ∧ ∀ v ∈ CS, v.oneCell' = true) := (by rw [hCS]; exact ⟨rfl, ancl_one _ _ _ _⟩); clear hi2 hb2 hCS hAS hf2)
        | (refine ywpl_store rfl 31 _ _ rfl w2.heap.size CS azc rfl rfl (by rw [HCS.out.1]; kernel_rfl) (GBx.made w2 azc _) (by rw [HCS.out.1]; rfl) HCS.out.2 ?_; obtain ⟨w3, hw3⟩ : ∃ w3, w3 = ysets (w2.alloc (.cells azc.toArray 31)) w2.heap.size 0 CS := ⟨_, rfl⟩; (first | rw [← hw3] | (change wpList _ _ _ _ _ (ysets (w2.alloc (.cells azc.toArray 31)) w2.heap.size 0 CS); rw [← hw3])); have hb3 : Below w2.heap.size w2 w3 := (by rw [hw3]; exact (g_alloc w2 _).grown (ysets_grown _ _ _ _) (by simp) (fun k hk => by cases hk; exact Nat.le_refl _)); have HD3 : Hid (GBx w3 w2.heap.size CS) := (by rw [hw3]; exact ybox (GBx.made w2 azc _) _ (by rw [HCS.out.1]; rfl)); have HB3 := Hid.mk2 (g_on HB2.out hb3); have HP3 := Hid.mk2 (HP2.out.below hb3); have HI3 := Hid.mk2 (HI2.out.below hb3); clear hw3 hb3)
        | (refine ywpl_load_g (by first | rfl | simp [Region.wanted, yielded]) 31 _ rfl w2.heap.size rfl CS HD3.out _ Try.underlying31 rfl (by rw [HCS.out.1]; kernel_rfl) ?_)
        | (go_at_call 15; rw [← HAS.out]; refine (HCK.out w3 lo lc HI3.out).mono ?_; rintro e w4 ⟨rfl, hb4⟩; have HB4 := Hid.mk2 (g_on HB3.out hb4); have HP4 := Hid.mk2 (HP3.out.below hb4); have z0 := HP4.out.c 0 (by simp [azc]); have z1 := HP4.out.c 1 (by simp [azc]); have z2 := HP4.out.c 2 (by simp [azc]); have z3 := HP4.out.c 3 (by simp [azc]); have z4 := HP4.out.c 4 (by simp [azc]); have z5 := HP4.out.c 5 (by simp [azc]); have z6 := HP4.out.c 6 (by simp [azc]); simp only [azc, List.getElem_cons_zero, List.getElem_cons_succ] at z0 z1 z2 z3 z4 z5 z6; have zf0 := HP4.out.f 0; have zf1 := HP4.out.f 1; have zf2 := HP4.out.f 2; have zf3 := HP4.out.f 3; have zf4 := HP4.out.f 4; have zf5 := HP4.out.f 5; have zf6 := HP4.out.f 6; clear hb4))
      refine bodyPost_ret (res_cell3 rfl rfl (load_var (pset7 HP4.out rfl _ _ _ _ _ _ _) 31 _ Try.underlying31 rfl (by kernel_rfl))) rfl ?_
      exact HFIN.out _ _ (grown_below HB4.out (pset7_gr w4 P _ _ _ _ _ _ _) (Nat.le_of_eq HPV.out.symm)) rfl
    | true =>
      have HE2 : Hid (RQ = (a, cn, 0)) := HE.out.trans (if_pos ⟨rfl, rfl⟩)
      have HFIN : Hid (∀ wz e lo lc, Below V.heap.size V wz → GRd EM wz lo a.items lc → e = .returned (.tuple #[.agg (a.arr (.slice lo a.items.length lc)), .int .i64 (cn : Int), .int .i64 0]) → PrR V wz RQ e) := by
        rintro wz e lo lc hb hi rfl
        rw [HE2.out]
        exact ⟨⟨lo, lc, rfl, hi⟩, hb⟩
      go_enter Try.func9, Try.ntmps9
      go_upto_region 1 with (fail)
      rw [← hW, ← hP]
      clear hW hP
      go_wp2_with (first
        | (go_at_call 18; refine HC2.out.mono ?_; rintro e w1 ⟨⟨v1, rfl, ho1⟩, hb1⟩; obtain ⟨o1, c1, rfl, hr1, hl1⟩ := gown_rd3 ho1; have HR1 := Hid.mk2 hr1; have HL1 := Hid.mk2 hl1; have HB1 := Hid.mk2 (g_on HB0.out hb1); have HP1 := Hid.mk2 (HP0.out.below hb1); clear ho1 hb1 hr1 hl1)
        | (go_at_call 19; refine (HAN.out w1 o1 c1 HR1.out (fun q e => (HL1.out q e).2)).mono ?_; rintro e w2 ⟨⟨lo, lc, rfl, hi2, hf2⟩, hb2⟩; have HF2 : Hid (∀ q, lo = some q → P < q.block) := (fun q e => by have h8 := hf2 q e; have h7 := HP1.out.lt; omega); have HI2 := Hid.mk2 hi2; have HB2 := Hid.mk2 (g_on HB1.out hb2); have HP2 := Hid.mk2 (HP1.out.below hb2); obtain ⟨CS, hCS⟩ : ∃ CS, CS = a.cl (.slice lo a.items.length lc) := ⟨_, rfl⟩; have hAS : a.arr (.slice lo a.items.length lc) = CS.toArray := (by rw [hCS]; rfl); rw [hAS]; have HAS := Hid.mk2 hAS; have HCS : Hid (CS.length = 7 ∧ ∀ v ∈ CS, v.oneCell' = true) := (by rw [hCS]; exact ⟨rfl, ancl_one _ _ _ _⟩); clear hi2 hb2 hCS hAS hf2)
        | (refine ywpl_store rfl 31 _ _ rfl w2.heap.size CS azc rfl rfl (by rw [HCS.out.1]; kernel_rfl) (GBx.made w2 azc _) (by rw [HCS.out.1]; rfl) HCS.out.2 ?_; obtain ⟨w3, hw3⟩ : ∃ w3, w3 = ysets (w2.alloc (.cells azc.toArray 31)) w2.heap.size 0 CS := ⟨_, rfl⟩; (first | rw [← hw3] | (change wpList _ _ _ _ _ (ysets (w2.alloc (.cells azc.toArray 31)) w2.heap.size 0 CS); rw [← hw3])); have hb3 : Below w2.heap.size w2 w3 := (by rw [hw3]; exact (g_alloc w2 _).grown (ysets_grown _ _ _ _) (by simp) (fun k hk => by cases hk; exact Nat.le_refl _)); have HD3 : Hid (GBx w3 w2.heap.size CS) := (by rw [hw3]; exact ybox (GBx.made w2 azc _) _ (by rw [HCS.out.1]; rfl)); have HB3 := Hid.mk2 (g_on HB2.out hb3); have HP3 := Hid.mk2 (HP2.out.below hb3); have HI3 := Hid.mk2 (HI2.out.below hb3); clear hw3 hb3)
        | (have h9 := HB4; refine ywpl_load_g (by first | rfl | simp [Region.wanted, yielded]) 31 _ rfl w2.heap.size rfl CS HD4.out _ Try.underlying31 rfl (by rw [HCS.out.1]; kernel_rfl) ?_)
        | (refine ywpl_load_g (by first | rfl | simp [Region.wanted, yielded]) 31 _ rfl w2.heap.size rfl CS HD3.out _ Try.underlying31 rfl (by rw [HCS.out.1]; kernel_rfl) ?_)
        | (go_at_call 15; rw [← HAS.out]; refine (HCK.out w3 lo lc HI3.out).mono ?_; rintro e w4 ⟨rfl, hb4⟩; have HB4 := Hid.mk2 (g_on HB3.out hb4); have HP4 := Hid.mk2 (HP3.out.below hb4); have HI4 := Hid.mk2 (HI3.out.below hb4); have HD4 := Hid.mk2 (HD3.out.below hb4); clear hb4)
        | (have h9 := HB4; refine ywpl_store rfl 31 _ _ rfl P CS azc rfl rfl (by rw [HCS.out.1]; kernel_rfl) HP4.out (by rw [HCS.out.1]; rfl) HCS.out.2 ?_))
      refine bodyPost_ret (res_cell3 rfl rfl (load_var (ybox HP4.out CS (by rw [HCS.out.1]; rfl)) 31 _ Try.underlying31 rfl (by rw [HCS.out.1]; kernel_rfl))) rfl ?_
      exact HFIN.out _ _ lo lc (grown_below HB4.out (ysets_grown P CS w4 0) (Nat.le_of_eq HPV.out.symm)) (grd_grown HI4.out (ysets_grown P CS w4 0) (fun g off e hne e2 => by have h9 := HF2.out _ e; have := Option.some.inj e2; dsimp only at h9; omega)) (by rw [HAS.out]; rfl)
end Go.Proofs.Ytfjcaofmcjhdpaa
