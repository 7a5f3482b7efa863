/-
  Several texts in one: PkI, PkJ, Gi, WpI, WoW, Gq, PkK, WpC.
-/
import Derived.Test.YtblbabekbpcdiaaGreatDoorPkH
import Derived.Test.YtblbabekbpcdiaaGreatDoorGr
import Derived.ShutString
import Derived.ChangeOld
import Derived.Deep.Slices
import Derived.SliceStrings
import Derived.SizedLaws
import Derived.ChangeMaps
import Derived.Carry
import Derived.Test.YtblbabekbpcdiaaGreatDoorWoE
import Derived.Test.YtblbabekbpcdiaaGreatDoorChecked
import Derived.OpenShut
import Derived.Test.YtblbabekbpcdiaaGreatDoorWoB
import Derived.Deep.QuietTactic
import Derived.BigQuiet
import Derived.Test.YtblbabekbpcdiaaGreatDoorG01
import Derived.Test.YtblbabekbpcdiaaGreatDoorWoF
/-
  (shaken)
-/
namespace Go.Proofs.YtblbabekbpcdiaaGreatDoor
open Go.Proofs.YtblbabekbpcdiaaGreatDoor.It
open Go.RowKit
set_option linter.unusedSimpArgs false
set_option linter.unusedVariables false
set_option maxRecDepth 100000

/-- what Read answers, as data -/
def readQ (L : List UInt8) : An × Nat × Int := if 16384 < L.length then (zan, 0, 3) else readP L
structure PrR (w w' : World) (o : An × Nat × Int) (e : Ending) : Prop where
  ex : ∃ lo lc, e = .returned (.tuple #[.agg (o.1.arr (.slice lo o.1.items.length lc)), .int .i64 (o.2.1 : Int), .int .i64 o.2.2]) ∧ GRd EM w' lo o.1.items lc
  below : Below w.heap.size w w'
theorem pAns_key (c : UInt8) (b : List UInt8) : (pAns c b).1.key.size ≤ b.length := by
  unfold pAns
  split
  · exact Nat.zero_le _
  split
  · exact Nat.zero_le _
  split
  · exact Nat.le_of_eq (by show (⟨b.toArray⟩ : ByteArray).size = _; simp [ByteArray.size])
  · exact Nat.zero_le _
theorem ancl_one (a : An) (ao : Option Addr) (n c : Nat) : ∀ v ∈ a.cl (.slice ao n c), v.oneCell' = true := by
  intro v hv
  simp only [An.cl, List.mem_cons, List.not_mem_nil, or_false] at hv
  rcases hv with rfl | rfl | rfl | rfl | rfl | rfl | rfl <;> rfl
theorem cutQ_len (L : List UInt8) : (cutQ 178 L).b.length ≤ 4096 := by
  unfold cutQ
  split
  · simp
  · exact cutE_pos 178 L
theorem readQ_no {L : List UInt8} (h : (cutQ 178 L).e ≠ 0 ∨ (cutQ 178 L).n = 0) : readQ L = (zan, 0, (cutQ 178 L).e) := by
  by_cases h0 : 16384 < L.length
  · have e : cutQ 178 L = ⟨0, [], 0, 3⟩ := if_pos h0
    rw [e]
    exact if_pos h0
  · have e : cutQ 178 L = cutP 178 L := if_neg h0
    rw [e] at h ⊢
    have e2 : readQ L = readP L := if_neg h0
    rw [e2]
    exact if_pos h
theorem readQ_go {L : List UInt8} (h1 : (cutQ 178 L).e = 0) (h2 : (cutQ 178 L).n ≠ 0) : readQ L = if okP (cutQ 178 L).k (cutQ 178 L).b = true ∧ (pAns (cutQ 178 L).k (cutQ 178 L).b).1.may = true then ((pAns (cutQ 178 L).k (cutQ 178 L).b).1, (cutQ 178 L).n, 0) else (zan, 0, 8) := by
  by_cases h0 : 16384 < L.length
  · have e : cutQ 178 L = ⟨0, [], 0, 3⟩ := if_pos h0
    rw [e] at h2
    exact absurd rfl h2
  · have e : cutQ 178 L = cutP 178 L := if_neg h0
    rw [e] at h1 h2 ⊢
    have e2 : readQ L = readP L := if_neg h0
    rw [e2]
    unfold readP
    rw [if_neg (fun h => h.elim (fun h => h h1) h2)]
    unfold okP
    obtain ⟨⟨a, l, b⟩, hq⟩ : ∃ q, q = pAns (cutP 178 L).k (cutP 178 L).b := ⟨_, rfl⟩
    rw [← hq]
    dsimp only
    cases b <;> cases l <;> cases hm : a.may <;> simp [hm]
set_option maxHeartbeats 4000000 in
theorem pread_any (V : World) (ao : Option Addr) (L : List UInt8) (cap : Nat) (hr : GRd EY V ao L cap) (m : Nat) (hm : m = L.length) (hL : L.length ≤ 20000) :
    Calls Tryz.prog 9 #[.slice ao m cap] V fun e V' => PrR V V' (readQ L) e := by
  obtain ⟨W, hW⟩ : ∃ W, W = V.alloc (.cells #[.int .u8 0, .int .u8 0, .int .u8 0, .slice none 0 0, .int .u64 0, .bool false, .string ⟨#[]⟩] 27) := ⟨_, rfl⟩
  have hb0 : Below V.heap.size V W := by rw [hW]; exact g_alloc _ _
  have HP0 : Hid (GBx W V.heap.size azc) := by rw [hW]; exact GBx.made V azc _
  have HB0 := Hid.mk2 hb0
  have HC := Hid.mk2 (cutc_any 178 W ao L cap (hr.below hb0) m hm hL)
  have hln := cutQ_len L
  have HNO := Hid.mk2 (@readQ_no L)
  have HGO := Hid.mk2 (@readQ_go L)
  obtain ⟨⟨ck, cb, cn, ce⟩, hc⟩ : ∃ c, c = cutQ 178 L := ⟨_, rfl⟩
  rw [← hc] at HC hln HNO HGO
  have HC2 : Hid (Calls Tryz.prog 24 #[.int .u8 178, .slice ao m cap] W fun e V' => (∃ v, e = .returned (.tuple #[.int .u8 (ck.toNat : Int), v, .int .i64 (cn : Int), .int .i64 ce]) ∧ GOwn EY V' W.heap.size v cb) ∧ Below W.heap.size W V') := HC.out.mono fun e V' q => ⟨q.ex, q.below⟩
  dsimp only at hln HNO HGO
  obtain ⟨RQ, hRQ⟩ : ∃ r, r = readQ L := ⟨_, rfl⟩
  rw [← hRQ] at HNO HGO ⊢
  obtain ⟨P, hP⟩ : ∃ P, P = V.heap.size := ⟨_, rfl⟩
  have HPV := Hid.mk2 hP
  rw [← hP] at HP0
  have HLN := Hid.mk2 hln
  clear HC hc hRQ hr hm hL hb0 hln
  by_cases hno : ce ≠ 0 ∨ cn = 0
  · have HE := Hid.mk2 (HNO.out hno)
    clear HNO HGO
    have HFIN : Hid (∀ wz e, Below V.heap.size V wz → e = .returned (.tuple #[.agg #[.int .u8 0, .int .u8 0, .int .u8 0, .slice none 0 0, .int .u64 0, .bool false, .string ⟨#[]⟩], .int .i64 0, .int .i64 ce]) → PrR V wz RQ e) := by
      rintro wz e hb rfl
      rw [HE.out]
      exact ⟨⟨none, 0, rfl, GRd.nil _⟩, hb⟩
    by_cases hce : ce = 0
    · have hn0 : cn = 0 := hno.elim (fun h => absurd hce h) id
      subst hce hn0
      go_enter Tryz.func9, Tryz.ntmps9
      go_upto_region 1 with (fail)
      rw [← hW, ← hP]
      clear hW hP
      go_wp2_with (first
        | (go_at_call 24; refine HC2.out.mono ?_; rintro e w1 ⟨⟨v1, rfl, ho1⟩, hb1⟩; have HB1 := Hid.mk2 (g_on HB0.out hb1); have HP1 := Hid.mk2 (HP0.out.below hb1); have z0 := HP1.out.c 0 (by simp [azc]); have z1 := HP1.out.c 1 (by simp [azc]); have z2 := HP1.out.c 2 (by simp [azc]); have z3 := HP1.out.c 3 (by simp [azc]); have z4 := HP1.out.c 4 (by simp [azc]); have z5 := HP1.out.c 5 (by simp [azc]); have z6 := HP1.out.c 6 (by simp [azc]); simp only [azc, List.getElem_cons_zero, List.getElem_cons_succ] at z0 z1 z2 z3 z4 z5 z6; have zf0 := HP1.out.f 0; have zf1 := HP1.out.f 1; have zf2 := HP1.out.f 2; have zf3 := HP1.out.f 3; have zf4 := HP1.out.f 4; have zf5 := HP1.out.f 5; have zf6 := HP1.out.f 6; clear ho1 hb1))
      refine bodyPost_ret (res_cell3 rfl rfl (load_var (pset7 HP1.out rfl _ _ _ _ _ _ _) 27 _ Tryz.underlying27 rfl (by kernel_rfl))) rfl ?_
      exact HFIN.out _ _ (grown_below HB1.out (pset7_gr w1 P _ _ _ _ _ _ _) (Nat.le_of_eq HPV.out.symm)) rfl
    · have hcb : (ce != 0) = true := by simpa using hce
      go_enter Tryz.func9, Tryz.ntmps9
      go_upto_region 1 with (fail)
      rw [← hW, ← hP]
      clear hW hP
      go_wp2_with (first
        | (go_at_call 24; refine HC2.out.mono ?_; rintro e w1 ⟨⟨v1, rfl, ho1⟩, hb1⟩; have HB1 := Hid.mk2 (g_on HB0.out hb1); have HP1 := Hid.mk2 (HP0.out.below hb1); have z0 := HP1.out.c 0 (by simp [azc]); have z1 := HP1.out.c 1 (by simp [azc]); have z2 := HP1.out.c 2 (by simp [azc]); have z3 := HP1.out.c 3 (by simp [azc]); have z4 := HP1.out.c 4 (by simp [azc]); have z5 := HP1.out.c 5 (by simp [azc]); have z6 := HP1.out.c 6 (by simp [azc]); simp only [azc, List.getElem_cons_zero, List.getElem_cons_succ] at z0 z1 z2 z3 z4 z5 z6; have zf0 := HP1.out.f 0; have zf1 := HP1.out.f 1; have zf2 := HP1.out.f 2; have zf3 := HP1.out.f 3; have zf4 := HP1.out.f 4; have zf5 := HP1.out.f 5; have zf6 := HP1.out.f 6; clear ho1 hb1))
      refine bodyPost_ret (res_cell3 rfl rfl (load_var (pset7 HP1.out rfl _ _ _ _ _ _ _) 27 _ Tryz.underlying27 rfl (by kernel_rfl))) rfl ?_
      exact HFIN.out _ _ (grown_below HB1.out (pset7_gr w1 P _ _ _ _ _ _ _) (Nat.le_of_eq HPV.out.symm)) rfl
  have hce : ce = 0 := by
    by_cases h : ce = 0
    · exact h
    · exact absurd (.inl h) hno
  have hcn : cn ≠ 0 := fun h => hno (.inr h)
  have HE := Hid.mk2 (HGO.out hce hcn)
  subst hce
  have hni : ¬ (cn : Int) = 0 := by omega
  have hnb : ((cn : Int) == 0) = false := by simpa using hni
  have HAN := Hid.mk2 (fun V o c (h : GRd EY V o cb c) (hlt : ∀ a, o = some a → a.block < V.heap.size) => panswer_any V ck o cb c h hlt (by have := HLN.out; omega) cb.length rfl)
  have hky := pAns_key ck cb
  obtain ⟨OK, hOK⟩ : ∃ o, o = okP ck cb := ⟨_, rfl⟩
  rw [← hOK] at HE HAN
  obtain ⟨a, ha⟩ : ∃ a, a = (pAns ck cb).1 := ⟨_, rfl⟩
  rw [← ha] at HE HAN hky
  have HKY : Hid (a.key.size ≤ maxLen) := by
    have h1 : cb.length ≤ 4096 := HLN.out
    have h2 : (4096 : Nat) ≤ maxLen := by decide
    exact Nat.le_trans hky (Nat.le_trans h1 h2)
  have HCK := Hid.mk2 (fun V io ic (h : GRd EM V io a.items ic) => wCheck_any a io ic V h HKY.out)
  obtain ⟨MB, hMB⟩ : ∃ b, b = a.may := ⟨_, rfl⟩
  rw [← hMB] at HE HCK
  clear HNO HGO hno hOK ha hky hMB
  have CUTARM : Hid True := trivial
  cases OK with
  | false =>
    have HE2 : Hid (RQ = (zan, 0, 8)) := HE.out.trans (if_neg (by simp))
    have HFIN : Hid (∀ wz e, Below V.heap.size V wz → e = .returned (.tuple #[.agg #[.int .u8 0, .int .u8 0, .int .u8 0, .slice none 0 0, .int .u64 0, .bool false, .string ⟨#[]⟩], .int .i64 0, .int .i64 8]) → PrR V wz RQ e) := by
      rintro wz e hb rfl
      rw [HE2.out]
      exact ⟨⟨none, 0, rfl, GRd.nil _⟩, hb⟩
    go_enter Tryz.func9, Tryz.ntmps9
    go_upto_region 1 with (fail)
    rw [← hW, ← hP]
    clear hW hP
    go_wp2_with (first
      | (go_at_call 24; refine HC2.out.mono ?_; rintro e w1 ⟨⟨v1, rfl, ho1⟩, hb1⟩; obtain ⟨o1, c1, rfl, hr1, hl1⟩ := gown_rd3 ho1; have HR1 := Hid.mk2 hr1; have HL1 := Hid.mk2 hl1; have HB1 := Hid.mk2 (g_on HB0.out hb1); have HP1 := Hid.mk2 (HP0.out.below hb1); clear ho1 hb1 hr1 hl1)
      | (go_at_call 25; refine (HAN.out w1 o1 c1 HR1.out (fun q e => (HL1.out q e).2)).mono ?_; rintro e w2 ⟨⟨lo, lc, rfl, hi2, hf2⟩, hb2⟩; have HF2 : Hid (∀ q, lo = some q → P < q.block) := (fun q e => by have h8 := hf2 q e; have h7 := HP1.out.lt; omega); have HI2 := Hid.mk2 hi2; have HB2 := Hid.mk2 (g_on HB1.out hb2); have HP2 := Hid.mk2 (HP1.out.below hb2); obtain ⟨CS, hCS⟩ : ∃ CS, CS = a.cl (.slice lo a.items.length lc) := ⟨_, rfl⟩; have hAS : a.arr (.slice lo a.items.length lc) = CS.toArray := (by rw [hCS]; rfl); rw [hAS]; have HCS : Hid (CS.length = 7 ∧ ∀ v ∈ CS, v.oneCell' = true) := (by rw [hCS]; exact ⟨rfl, ancl_one _ _ _ _⟩); clear hi2 hb2 hCS hAS hf2)
      | (refine ywpl_store rfl 27 _ _ rfl w2.heap.size CS azc rfl rfl (by rw [HCS.out.1]; kernel_rfl) (GBx.made w2 azc _) (by rw [HCS.out.1]; rfl) HCS.out.2 ?_; obtain ⟨w3, hw3⟩ : ∃ w3, w3 = ysets (w2.alloc (.cells azc.toArray 27)) w2.heap.size 0 CS := ⟨_, rfl⟩; (first | rw [← hw3] | (change wpList _ _ _ _ _ (ysets (w2.alloc (.cells azc.toArray 27)) w2.heap.size 0 CS); rw [← hw3])); have hb3 : Below w2.heap.size w2 w3 := (by rw [hw3]; exact (g_alloc w2 _).grown (ysets_grown _ _ _ _) (by simp) (fun k hk => by cases hk; exact Nat.le_refl _)); have HB3 := Hid.mk2 (g_on HB2.out hb3); have HP3 := Hid.mk2 (HP2.out.below hb3); have z0 := HP3.out.c 0 (by simp [azc]); have z1 := HP3.out.c 1 (by simp [azc]); have z2 := HP3.out.c 2 (by simp [azc]); have z3 := HP3.out.c 3 (by simp [azc]); have z4 := HP3.out.c 4 (by simp [azc]); have z5 := HP3.out.c 5 (by simp [azc]); have z6 := HP3.out.c 6 (by simp [azc]); simp only [azc, List.getElem_cons_zero, List.getElem_cons_succ] at z0 z1 z2 z3 z4 z5 z6; have zf0 := HP3.out.f 0; have zf1 := HP3.out.f 1; have zf2 := HP3.out.f 2; have zf3 := HP3.out.f 3; have zf4 := HP3.out.f 4; have zf5 := HP3.out.f 5; have zf6 := HP3.out.f 6; clear hw3 hb3))
    refine bodyPost_ret (res_cell3 rfl rfl (load_var (pset7 HP3.out rfl _ _ _ _ _ _ _) 27 _ Tryz.underlying27 rfl (by kernel_rfl))) rfl ?_
    exact HFIN.out _ _ (grown_below HB3.out (pset7_gr w3 P _ _ _ _ _ _ _) (Nat.le_of_eq HPV.out.symm)) rfl
  | true =>
    cases MB with
    | false =>
      have HE2 : Hid (RQ = (zan, 0, 8)) := HE.out.trans (if_neg (by simp))
      have HFIN : Hid (∀ wz e, Below V.heap.size V wz → e = .returned (.tuple #[.agg #[.int .u8 0, .int .u8 0, .int .u8 0, .slice none 0 0, .int .u64 0, .bool false, .string ⟨#[]⟩], .int .i64 0, .int .i64 8]) → PrR V wz RQ e) := by
        rintro wz e hb rfl
        rw [HE2.out]
        exact ⟨⟨none, 0, rfl, GRd.nil _⟩, hb⟩
      go_enter Tryz.func9, Tryz.ntmps9
      go_upto_region 1 with (fail)
      rw [← hW, ← hP]
      clear hW hP
      go_wp2_with (first
        | (go_at_call 24; refine HC2.out.mono ?_; rintro e w1 ⟨⟨v1, rfl, ho1⟩, hb1⟩; obtain ⟨o1, c1, rfl, hr1, hl1⟩ := gown_rd3 ho1; have HR1 := Hid.mk2 hr1; have HL1 := Hid.mk2 hl1; have HB1 := Hid.mk2 (g_on HB0.out hb1); have HP1 := Hid.mk2 (HP0.out.below hb1); clear ho1 hb1 hr1 hl1)
        | (go_at_call 25; refine (HAN.out w1 o1 c1 HR1.out (fun q e => (HL1.out q e).2)).mono ?_; rintro e w2 ⟨⟨lo, lc, rfl, hi2, hf2⟩, hb2⟩; have HF2 : Hid (∀ q, lo = some q → P < q.block) := (fun q e => by have h8 := hf2 q e; have h7 := HP1.out.lt; omega); have HI2 := Hid.mk2 hi2; have HB2 := Hid.mk2 (g_on HB1.out hb2); have HP2 := Hid.mk2 (HP1.out.below hb2); obtain ⟨CS, hCS⟩ : ∃ CS, CS = a.cl (.slice lo a.items.length lc) := ⟨_, rfl⟩; have hAS : a.arr (.slice lo a.items.length lc) = CS.toArray := (by rw [hCS]; rfl); rw [hAS]; have HAS := Hid.mk2 hAS; have HCS : Hid (CS.length = 7 ∧ ∀ v ∈ CS, v.oneCell' = true) := (by rw [hCS]; exact ⟨rfl, ancl_one _ _ _ _⟩); clear hi2 hb2 hCS hAS hf2)
        | (refine ywpl_store rfl 27 _ _ rfl w2.heap.size CS azc rfl rfl (by rw [HCS.out.1]; kernel_rfl) (GBx.made w2 azc _) (by rw [HCS.out.1]; rfl) HCS.out.2 ?_; obtain ⟨w3, hw3⟩ : ∃ w3, w3 = ysets (w2.alloc (.cells azc.toArray 27)) w2.heap.size 0 CS := ⟨_, rfl⟩; (first | rw [← hw3] | (change wpList _ _ _ _ _ (ysets (w2.alloc (.cells azc.toArray 27)) w2.heap.size 0 CS); rw [← hw3])); have hb3 : Below w2.heap.size w2 w3 := (by rw [hw3]; exact (g_alloc w2 _).grown (ysets_grown _ _ _ _) (by simp) (fun k hk => by cases hk; exact Nat.le_refl _)); have HD3 : Hid (GBx w3 w2.heap.size CS) := (by rw [hw3]; exact ybox (GBx.made w2 azc _) _ (by rw [HCS.out.1]; rfl)); have HB3 := Hid.mk2 (g_on HB2.out hb3); have HP3 := Hid.mk2 (HP2.out.below hb3); have HI3 := Hid.mk2 (HI2.out.below hb3); clear hw3 hb3)
        | (refine ywpl_load_g (by first | rfl | simp [Region.wanted, yielded]) 27 _ rfl w2.heap.size rfl CS HD3.out _ Tryz.underlying27 rfl (by rw [HCS.out.1]; kernel_rfl) ?_)
        | (go_at_call 11; rw [← HAS.out]; refine (HCK.out w3 lo lc HI3.out).mono ?_; rintro e w4 ⟨rfl, hb4⟩; have HB4 := Hid.mk2 (g_on HB3.out hb4); have HP4 := Hid.mk2 (HP3.out.below hb4); have z0 := HP4.out.c 0 (by simp [azc]); have z1 := HP4.out.c 1 (by simp [azc]); have z2 := HP4.out.c 2 (by simp [azc]); have z3 := HP4.out.c 3 (by simp [azc]); have z4 := HP4.out.c 4 (by simp [azc]); have z5 := HP4.out.c 5 (by simp [azc]); have z6 := HP4.out.c 6 (by simp [azc]); simp only [azc, List.getElem_cons_zero, List.getElem_cons_succ] at z0 z1 z2 z3 z4 z5 z6; have zf0 := HP4.out.f 0; have zf1 := HP4.out.f 1; have zf2 := HP4.out.f 2; have zf3 := HP4.out.f 3; have zf4 := HP4.out.f 4; have zf5 := HP4.out.f 5; have zf6 := HP4.out.f 6; clear hb4))
      refine bodyPost_ret (res_cell3 rfl rfl (load_var (pset7 HP4.out rfl _ _ _ _ _ _ _) 27 _ Tryz.underlying27 rfl (by kernel_rfl))) rfl ?_
      exact HFIN.out _ _ (grown_below HB4.out (pset7_gr w4 P _ _ _ _ _ _ _) (Nat.le_of_eq HPV.out.symm)) rfl
    | true =>
      have HE2 : Hid (RQ = (a, cn, 0)) := HE.out.trans (if_pos ⟨rfl, rfl⟩)
      have HFIN : Hid (∀ wz e lo lc, Below V.heap.size V wz → GRd EM wz lo a.items lc → e = .returned (.tuple #[.agg (a.arr (.slice lo a.items.length lc)), .int .i64 (cn : Int), .int .i64 0]) → PrR V wz RQ e) := by
        rintro wz e lo lc hb hi rfl
        rw [HE2.out]
        exact ⟨⟨lo, lc, rfl, hi⟩, hb⟩
      go_enter Tryz.func9, Tryz.ntmps9
      go_upto_region 1 with (fail)
      rw [← hW, ← hP]
      clear hW hP
      go_wp2_with (first
        | (go_at_call 24; refine HC2.out.mono ?_; rintro e w1 ⟨⟨v1, rfl, ho1⟩, hb1⟩; obtain ⟨o1, c1, rfl, hr1, hl1⟩ := gown_rd3 ho1; have HR1 := Hid.mk2 hr1; have HL1 := Hid.mk2 hl1; have HB1 := Hid.mk2 (g_on HB0.out hb1); have HP1 := Hid.mk2 (HP0.out.below hb1); clear ho1 hb1 hr1 hl1)
        | (go_at_call 25; refine (HAN.out w1 o1 c1 HR1.out (fun q e => (HL1.out q e).2)).mono ?_; rintro e w2 ⟨⟨lo, lc, rfl, hi2, hf2⟩, hb2⟩; have HF2 : Hid (∀ q, lo = some q → P < q.block) := (fun q e => by have h8 := hf2 q e; have h7 := HP1.out.lt; omega); have HI2 := Hid.mk2 hi2; have HB2 := Hid.mk2 (g_on HB1.out hb2); have HP2 := Hid.mk2 (HP1.out.below hb2); obtain ⟨CS, hCS⟩ : ∃ CS, CS = a.cl (.slice lo a.items.length lc) := ⟨_, rfl⟩; have hAS : a.arr (.slice lo a.items.length lc) = CS.toArray := (by rw [hCS]; rfl); rw [hAS]; have HAS := Hid.mk2 hAS; have HCS : Hid (CS.length = 7 ∧ ∀ v ∈ CS, v.oneCell' = true) := (by rw [hCS]; exact ⟨rfl, ancl_one _ _ _ _⟩); clear hi2 hb2 hCS hAS hf2)
        | (refine ywpl_store rfl 27 _ _ rfl w2.heap.size CS azc rfl rfl (by rw [HCS.out.1]; kernel_rfl) (GBx.made w2 azc _) (by rw [HCS.out.1]; rfl) HCS.out.2 ?_; obtain ⟨w3, hw3⟩ : ∃ w3, w3 = ysets (w2.alloc (.cells azc.toArray 27)) w2.heap.size 0 CS := ⟨_, rfl⟩; (first | rw [← hw3] | (change wpList _ _ _ _ _ (ysets (w2.alloc (.cells azc.toArray 27)) w2.heap.size 0 CS); rw [← hw3])); have hb3 : Below w2.heap.size w2 w3 := (by rw [hw3]; exact (g_alloc w2 _).grown (ysets_grown _ _ _ _) (by simp) (fun k hk => by cases hk; exact Nat.le_refl _)); have HD3 : Hid (GBx w3 w2.heap.size CS) := (by rw [hw3]; exact ybox (GBx.made w2 azc _) _ (by rw [HCS.out.1]; rfl)); have HB3 := Hid.mk2 (g_on HB2.out hb3); have HP3 := Hid.mk2 (HP2.out.below hb3); have HI3 := Hid.mk2 (HI2.out.below hb3); clear hw3 hb3)
        | (have h9 := HB4; refine ywpl_load_g (by first | rfl | simp [Region.wanted, yielded]) 27 _ rfl w2.heap.size rfl CS HD4.out _ Tryz.underlying27 rfl (by rw [HCS.out.1]; kernel_rfl) ?_)
        | (refine ywpl_load_g (by first | rfl | simp [Region.wanted, yielded]) 27 _ rfl w2.heap.size rfl CS HD3.out _ Tryz.underlying27 rfl (by rw [HCS.out.1]; kernel_rfl) ?_)
        | (go_at_call 11; rw [← HAS.out]; refine (HCK.out w3 lo lc HI3.out).mono ?_; rintro e w4 ⟨rfl, hb4⟩; have HB4 := Hid.mk2 (g_on HB3.out hb4); have HP4 := Hid.mk2 (HP3.out.below hb4); have HI4 := Hid.mk2 (HI3.out.below hb4); have HD4 := Hid.mk2 (HD3.out.below hb4); clear hb4)
        | (have h9 := HB4; refine ywpl_store rfl 27 _ _ rfl P CS azc rfl rfl (by rw [HCS.out.1]; kernel_rfl) HP4.out (by rw [HCS.out.1]; rfl) HCS.out.2 ?_))
      refine bodyPost_ret (res_cell3 rfl rfl (load_var (ybox HP4.out CS (by rw [HCS.out.1]; rfl)) 27 _ Tryz.underlying27 rfl (by rw [HCS.out.1]; kernel_rfl))) rfl ?_
      exact HFIN.out _ _ lo lc (grown_below HB4.out (ysets_grown P CS w4 0) (Nat.le_of_eq HPV.out.symm)) (grd_grown HI4.out (ysets_grown P CS w4 0) (fun g off e hne e2 => by have h9 := HF2.out _ e; have := Option.some.inj e2; dsimp only at h9; omega)) (by rw [HAS.out]; rfl)
end Go.Proofs.YtblbabekbpcdiaaGreatDoor
/-
  (shaken)
-/
namespace Go.Proofs.YtblbabekbpcdiaaGreatDoor
open Go.Proofs.YtblbabekbpcdiaaGreatDoor.It
open Go.RowKit
set_option linter.unusedSimpArgs false
set_option linter.unusedVariables false
set_option maxRecDepth 100000

theorem n8_nat (x : UInt8) : n8 (x.toNat : Int) = x := by
  unfold n8
  rw [Int.toNat_natCast]
  exact UInt8.ofNat_toNat
theorem pemp_eq {s : ByteArray} (h : s.toList.isEmpty = true) : s = ⟨#[]⟩ := by
  have := pemp_size h
  cases s with
  | mk d =>
    have h2 : d.size = 0 := this
    have : d = #[] := Array.eq_empty_of_size_eq_zero h2
    rw [this]
theorem pnoRes {of_ rk n : Int} {L : List Im} (h : noRes of_ rk L n = true) : of_ = 0 ∧ rk = 0 ∧ L = [] ∧ n = 0 := by
  unfold noRes at h
  simp only [Bool.and_eq_true, beq_iff_eq] at h
  exact ⟨h.1, h.2.1.1, List.eq_nil_of_length_eq_zero (by omega), h.2.2⟩
/-- an answer that may be is one of these -/
theorem may_forms {a : An} (h : a.may = true) : (∃ o r L n, a = ⟨1, o, r, L, n, false, ⟨#[]⟩⟩) ∨ (∃ y, a = ⟨2, 0, 0, [], 0, y, ⟨#[]⟩⟩) ∨ (∃ y, a = ⟨3, 0, 0, [], 0, y, ⟨#[]⟩⟩) ∨ (∃ k, a = ⟨7, 0, 0, [], 0, false, k⟩) ∨ a = ⟨4, 0, 0, [], 0, false, ⟨#[]⟩⟩ ∨ a = ⟨5, 0, 0, [], 0, false, ⟨#[]⟩⟩ ∨ a = ⟨6, 0, 0, [], 0, false, ⟨#[]⟩⟩ := by
  obtain ⟨kind, of_, rk, L, num, yes, key⟩ := a
  unfold An.may at h
  dsimp only at h
  split at h
  · rename_i k1
    simp only [Bool.and_eq_true, Bool.not_eq_true'] at h
    have h3 := pemp_eq h.2
    refine .inl ⟨of_, rk, L, num, ?_⟩
    rw [k1, h.1.2, h3]
  split at h
  · rename_i k23
    simp only [Bool.and_eq_true] at h
    have h3 := pemp_eq h.2
    obtain ⟨e1, e2, e3, e4⟩ := pnoRes h.1
    subst e1 e2 e3 e4 h3
    rcases k23 with rfl | rfl
    · exact .inr (.inl ⟨_, rfl⟩)
    · exact .inr (.inr (.inl ⟨_, rfl⟩))
  split at h
  · rename_i k7
    simp only [Bool.and_eq_true, decide_eq_true_eq, Bool.not_eq_true'] at h
    obtain ⟨e1, e2, e3, e4⟩ := pnoRes h.1.2
    have h5 := h.2
    subst e1 e2 e3 e4 h5 k7
    exact .inr (.inr (.inr (.inl ⟨_, rfl⟩)))
  split at h
  · rename_i k456
    simp only [Bool.and_eq_true, Bool.not_eq_true'] at h
    have h3 := pemp_eq h.2
    obtain ⟨e1, e2, e3, e4⟩ := pnoRes h.1.1
    have h5 := h.1.2
    subst e1 e2 e3 e4 h3 h5
    rcases k456 with rfl | rfl | rfl
    · exact .inr (.inr (.inr (.inr (.inl rfl))))
    · exact .inr (.inr (.inr (.inr (.inr (.inl rfl)))))
    · exact .inr (.inr (.inr (.inr (.inr (.inr rfl)))))
  · cases h
theorem good_fine {x : Im} (h : x.good) : x.fine := by
  refine ⟨?_, ?_, h.till, h.flags, h.uniq⟩
  · rw [bl1_len]; have := h.key; show _ < 18446744073709551616; omega
  · rw [bl1_len]; have := h.val; show _ < 18446744073709551616; omega
theorem pAns_body {a : An} (h : a.may = true) (hf : a.Pf) : pAns (n8 a.kind) a.body = (a, ⟨[], false⟩) := by
  obtain ⟨_, h8, hg, _⟩ := may_parts h hf
  rcases may_forms h with ⟨o, r, L, n, rfl⟩ | ⟨y, rfl⟩ | ⟨y, rfl⟩ | ⟨k, rfl⟩ | rfl | rfl | rfl
  · have ho := hf.o
    have hr := hf.r
    have hn := hf.n
    dsimp only at ho hr hn h8 hg
    have eb : (An.mk 1 o r L n false ⟨#[]⟩).body = n8 o :: n8 r :: (small n.toNat ++ (small L.length ++ (L.flatMap Im.pb ++ []))) := by
      unfold An.body
      rw [if_pos rfl, List.append_nil]
    have e1 : n8 (1 : Int) = 1 := rfl
    show pAns (n8 1) _ = _
    rw [eb, e1]
    unfold pAns
    rw [if_pos rfl]
    dsimp only [pSingle]
    rw [pSmall_back 18446744073709551615 n.toNat (show n.toNat < 18446744073709551616 by omega) (by omega)]
    dsimp only
    rw [pSmall_back 8 L.length (show L.length < 18446744073709551616 by omega) h8]
    dsimp only
    rw [pItems_back L [] false (fun x hx => good_fine (hg x hx))]
    dsimp only
    rw [n8_of ho.1 ho.2, n8_of hr.1 hr.2, Int.toNat_of_nonneg hn.1]
  · cases y <;> rfl
  · cases y <;> rfl
  · show pAns (n8 7) (bl1 k) = _
    have e1 : n8 (7 : Int) = 7 := rfl
    rw [e1]
    unfold pAns
    rw [if_neg (by decide), if_neg (by decide), if_pos rfl, mk1_bl]
  · rfl
  · rfl
  · rfl
theorem wpE_parts {a : An} (h : a.wpE = 0) : a.may = true ∧ a.body.length ≤ 4096 ∧ a.wp = pkt 178 (n8 a.kind) a.body := by
  have hw : a.wp = pkt 178 (n8 a.kind) a.body := by unfold An.wp; rw [if_pos h]
  unfold An.wpE at h
  split at h
  · rename_i hm
    split at h
    · cases h
    · exact ⟨hm, by omega, hw⟩
  · cases h
theorem wp_len {a : An} (h : a.wpE = 0) : a.wp.length ≤ 4102 := by
  obtain ⟨_, h1, h2⟩ := wpE_parts h
  rw [h2, pkt_len]
  omega
theorem wp_nil {a : An} (h : ¬ a.wpE = 0) : a.wp = [] := by unfold An.wp; rw [if_neg h]
/-- what is written is read back, whatever stands behind -/
theorem read_wp {a : An} (h : a.wpE = 0) (hf : a.Pf) (more : List UInt8) (hl : (a.wp ++ more).length ≤ 16384) : readQ (a.wp ++ more) = (a, a.wp.length, 0) := by
  obtain ⟨h1, h2, h3⟩ := wpE_parts h
  have hc : cutQ 178 (a.wp ++ more) = ⟨n8 a.kind, a.body, 6 + a.body.length, 0⟩ := by
    have e : cutQ 178 (a.wp ++ more) = cutP 178 (a.wp ++ more) := if_neg (by omega)
    rw [e, h3]
    exact cut_pkt 178 (n8 a.kind) a.body more h2
  have hp := pAns_body h1 hf
  have hg := readQ_go (L := a.wp ++ more) (by rw [hc]) (by rw [hc]; dsimp only; omega)
  rw [hg, hc]
  dsimp only
  rw [hp]
  dsimp only
  rw [if_pos ⟨by unfold okP; rw [hp]; rfl, h1⟩, h3, pkt_len]
/-- nothing is told where nothing is there -/
theorem readQ_none {L : List UInt8} {a : An} {n : Nat} {e : Int} (h : readQ L = (a, n, e)) : (n = 0 → a = zan) ∧ (e ≠ 0 → n = 0) := by
  by_cases h0 : (cutQ 178 L).e ≠ 0 ∨ (cutQ 178 L).n = 0
  · rw [readQ_no h0] at h
    cases h
    exact ⟨fun _ => rfl, fun _ => rfl⟩
  · have h1 : (cutQ 178 L).e = 0 := by
      by_cases h9 : (cutQ 178 L).e = 0
      · exact h9
      · exact absurd (.inl h9) h0
    have h2 : (cutQ 178 L).n ≠ 0 := fun h9 => h0 (.inr h9)
    rw [readQ_go h1 h2] at h
    split at h
    · cases h
      exact ⟨fun h9 => absurd h9 h2, fun h9 => absurd rfl h9⟩
    · cases h
      exact ⟨fun _ => rfl, fun _ => rfl⟩
theorem z255 : (0 : Int) ≤ 0 ∧ (0 : Int) ≤ 255 := ⟨by decide, by decide⟩
theorem z64 : (0 : Int) ≤ 0 ∧ (0 : Int) < 18446744073709551616 := ⟨by decide, by decide⟩
theorem one255 : (0 : Int) ≤ 1 ∧ (1 : Int) ≤ 255 := ⟨by decide, by decide⟩
theorem sev255 : (0 : Int) ≤ 7 ∧ (7 : Int) ≤ 255 := ⟨by decide, by decide⟩
theorem body_pAns {c : UInt8} {b : List UInt8} {a : An} (h : pAns c b = (a, ⟨[], false⟩)) (hm : a.may = true) : n8 a.kind = c ∧ a.body = b ∧ a.Pf := by
  unfold pAns at h
  by_cases h1 : c = 1
  · rw [if_pos h1] at h
    dsimp only at h
    obtain ⟨⟨x1, s1⟩, e1⟩ : ∃ q, q = pSingle ⟨b, false⟩ := ⟨_, rfl⟩
    rw [← e1] at h
    obtain ⟨⟨x2, s2⟩, e2⟩ : ∃ q, q = pSingle s1 := ⟨_, rfl⟩
    dsimp only at h
    rw [← e2] at h
    obtain ⟨⟨x3, s3⟩, e3⟩ : ∃ q, q = pSmall 18446744073709551615 s2 := ⟨_, rfl⟩
    dsimp only at h
    rw [← e3] at h
    obtain ⟨⟨x4, s4⟩, e4⟩ : ∃ q, q = pSmall 8 s3 := ⟨_, rfl⟩
    dsimp only at h
    rw [← e4] at h
    obtain ⟨⟨x5, s5⟩, e5⟩ : ∃ q, q = pItems x4 s4 := ⟨_, rfl⟩
    dsimp only at h
    rw [← e5] at h
    simp only [Prod.mk.injEq] at h
    obtain ⟨ha, hs⟩ := h
    have q5 := pItems_inv x4 s4 (by rw [← e5]; show s5.bad = false; rw [hs])
    rw [← e5] at q5
    obtain ⟨b5, l5, n5, f5⟩ := q5
    have q4 := pSmall_inv (most := 8) (s := s3) (by rw [← e4]; exact b5)
    rw [← e4] at q4
    obtain ⟨b4, l4, f4, _⟩ := q4
    have q3 := pSmall_inv (most := 18446744073709551615) (s := s2) (by rw [← e3]; exact b4)
    rw [← e3] at q3
    obtain ⟨b3, l3, f3, m3⟩ := q3
    have q2 := pSingle_inv (s := s1) (by rw [← e2]; exact b3)
    rw [← e2] at q2
    obtain ⟨b2, l2⟩ := q2
    have q1 := pSingle_inv (s := ⟨b, false⟩) (by rw [← e1]; exact b2)
    rw [← e1] at q1
    obtain ⟨_, l1⟩ := q1
    dsimp only at l1 l2 l3 l4 l5 n5 f5 f3 m3
    have hx3 : x3 < 18446744073709551616 := f3
    subst ha
    refine ⟨by rw [h1]; rfl, ?_, ⟨one255, ?_, ?_, ?_, f5⟩⟩
    · unfold An.body
      rw [if_pos rfl]
      dsimp only
      rw [n8_nat, n8_nat, Int.toNat_natCast, n5]
      have l6 : s5.l = [] := by rw [hs]
      rw [l6, List.append_nil] at l5
      rw [l1, l2, l3, l4, l5]
    · have := x1.toNat_lt; exact ⟨by dsimp only; omega, by dsimp only; omega⟩
    · have := x2.toNat_lt; exact ⟨by dsimp only; omega, by dsimp only; omega⟩
    · exact ⟨by dsimp only; omega, by dsimp only; omega⟩
  rw [if_neg h1] at h
  have hk : (0 : Int) ≤ (c.toNat : Int) ∧ (c.toNat : Int) ≤ 255 := by have := c.toNat_lt; omega
  by_cases h23 : c = 2 ∨ c = 3
  · rw [if_pos h23] at h
    simp only [Prod.mk.injEq] at h
    obtain ⟨ha, hs⟩ := h
    have q1 := pTruth_inv (s := ⟨b, false⟩) (by rw [hs])
    rw [hs] at q1
    obtain ⟨_, l1⟩ := q1
    dsimp only at l1
    subst ha
    refine ⟨n8_nat c, ?_, ⟨hk, z255, z255, z64, fun x hx => by cases hx⟩⟩
    unfold An.body
    dsimp only
    rw [if_neg (by rcases h23 with rfl | rfl <;> decide), if_pos (by rcases h23 with rfl | rfl <;> decide)]
    exact l1.symm
  rw [if_neg h23] at h
  by_cases h7 : c = 7
  · rw [if_pos h7] at h
    simp only [Prod.mk.injEq, and_true] at h
    subst h h7
    refine ⟨rfl, ?_, ⟨sev255, z255, z255, z64, fun x hx => by cases hx⟩⟩
    show bl1 (mk1 b) = b
    exact bl1_mk b
  · rw [if_neg h7] at h
    simp only [Prod.mk.injEq, Ps.mk.injEq, and_true] at h
    obtain ⟨ha, hb⟩ := h
    subst ha hb
    refine ⟨n8_nat c, ?_, ⟨hk, z255, z255, z64, fun x hx => by cases hx⟩⟩
    have n1 : ¬ ((c.toNat : Int) = 1) := fun e => h1 (UInt8.toNat_inj.1 (by show c.toNat = 1; omega))
    have n2 : ¬ ((c.toNat : Int) = 2 ∨ (c.toNat : Int) = 3) := by
      rintro (e | e)
      · exact h23 (.inl (UInt8.toNat_inj.1 (by show c.toNat = 2; omega)))
      · exact h23 (.inr (UInt8.toNat_inj.1 (by show c.toNat = 3; omega)))
    have n7 : ¬ ((c.toNat : Int) = 7) := fun e => h7 (UInt8.toNat_inj.1 (by show c.toNat = 7; omega))
    unfold An.body
    dsimp only
    rw [if_neg n1, if_neg n2, if_neg n7]
/-- what is read may be, and is written as the bytes that it was read of -/
theorem wp_read {L : List UInt8} {a : An} {n : Nat} (h : readQ L = (a, n, 0)) (hn : n ≠ 0) : a.may = true ∧ a.wpE = 0 ∧ a.wp = L.take n ∧ n ≤ L.length ∧ a.Pf := by
  by_cases h0 : (cutQ 178 L).e ≠ 0 ∨ (cutQ 178 L).n = 0
  · rw [readQ_no h0] at h
    simp only [Prod.mk.injEq] at h
    exact absurd h.2.1.symm hn
  · have h1 : (cutQ 178 L).e = 0 := by
      by_cases h9 : (cutQ 178 L).e = 0
      · exact h9
      · exact absurd (.inl h9) h0
    have h2 : (cutQ 178 L).n ≠ 0 := fun h9 => h0 (.inr h9)
    rw [readQ_go h1 h2] at h
    have hle : ¬ 16384 < L.length := by
      intro h9
      have e : cutQ 178 L = ⟨0, [], 0, 3⟩ := if_pos h9
      rw [e] at h2
      exact h2 rfl
    have e : cutQ 178 L = cutP 178 L := if_neg hle
    rw [e] at h h1 h2
    obtain ⟨c, hc⟩ : ∃ c, c = cutP 178 L := ⟨_, rfl⟩
    obtain ⟨c1, _, c3, c4, c5, _⟩ := cut_only (f := 178) (L := L) (c := c) hc.symm (by rw [hc]; exact h2)
    rw [← hc] at h
    split at h
    · rename_i hq
      simp only [Prod.mk.injEq] at h
      obtain ⟨ha, hnn, _⟩ := h
      have hok := hq.1
      unfold okP at hok
      simp only [Bool.and_eq_true, Bool.not_eq_true', decide_eq_true_eq] at hok
      obtain ⟨⟨a2, l2, b2⟩, hp⟩ : ∃ q, q = pAns c.k c.b := ⟨_, rfl⟩
      rw [← hp] at hok ha hq
      dsimp only at hok ha hq
      have hl : l2 = [] := List.eq_nil_of_length_eq_zero hok.2
      have hb : b2 = false := hok.1
      subst ha hl hb
      obtain ⟨k1, k2, k3⟩ := body_pAns hp.symm hq.2
      have hwe : a2.wpE = 0 := by
        unfold An.wpE
        rw [if_pos hq.2, if_neg (by rw [k2]; omega)]
      refine ⟨hq.2, hwe, ?_, by omega, k3⟩
      rw [(wpE_parts hwe).2.2, k1, k2, ← hnn]
      exact c5.symm
    · simp only [Prod.mk.injEq] at h
      exact absurd h.2.1.symm hn
end Go.Proofs.YtblbabekbpcdiaaGreatDoor
/-
  (shaken)
-/
namespace Go.Proofs.YtblbabekbpcdiaaGreatDoor
open Go.ChangeShapes Go.WideShapes Go.ChangeAt Go.RowKit
open Go.ChangeMaps (open_string shut_string)
set_option linter.unusedSimpArgs false
set_option linter.unusedVariables false
set_option maxRecDepth 100000

theorem g_open {α : Type} [Inhabited α] {E : GEl α} (K : GOk E) {H : Type} {enc : TypeId × Value → H} {W : World} {base : Nat} {sp : Nat → Bool} {bb : Bool} (hce : Tryz.prog.cellsOf E.e = E.sz) (Q : α → Prop) (hsp : ∀ b, sp b = true)
    (hel : ∀ (fuel : Nat) (cs : List Value) (x : DataW H × List MemPlace), DataW.trod enc Tryz.prog W base sp bb fuel E.e cs = some x → ∃ a, cs = E.cells a ∧ Q a)
    {fuel : Nat} {v : Value} {x : DataW H × List MemPlace} (hf : DataW.trod enc Tryz.prog W base sp bb fuel E.st [v] = some x) :
    ∃ (ao : Option Addr) (l : List α) (cap : Nat), v = .slice ao l.length cap ∧ GRd E W ao l cap ∧ ∀ i (hi : i < l.length), Q l[i] := by
  have hpos := K.pos
  rcases Deep.open_slice K.und hf with ⟨hcs, _⟩ | ⟨y, len, c, m, n, D, Pl, hcs, _, hl, hm, hz, _, hall⟩
  · simp at hcs
    subst hcs
    exact ⟨none, [], 0, rfl, GRd.nil W, fun i hi => by simp at hi⟩
  · simp at hcs
    subst hcs
    rw [if_pos (hsp _)] at hz
    subst hz
    rw [hce] at hall
    have hex : ∀ i, i < len → ∃ a : α, (∀ j (hj : j < (E.cells a).length), W.cell? (y.add (i * E.sz + j)) = some (E.cells a)[j]) ∧ Q a := by
      intro i hi
      obtain ⟨cs', h1, h2⟩ := hall i (by omega)
      obtain ⟨a, rfl, hq⟩ := hel _ _ _ h2
      refine ⟨a, fun j hj => ?_, hq⟩
      have h3 := (World.cells?_some h1).2.2 j (by have := K.len a; omega)
      rw [Deep.add_add] at h3
      rw [h3, List.getElem?_eq_getElem hj]
    obtain ⟨f, hfs⟩ := Deep.choose_lt hex
    have hlen : ((List.range len).map f).length = len := by simp
    refine ⟨some y, (List.range len).map f, m, by rw [hlen], ⟨by rw [hlen]; exact hl, hm, (by intro e; cases e), ?_⟩, fun i hi => by
      have hi' : i < len := by simpa using hi
      simpa using (hfs i hi').2⟩
    by_cases h0 : len = 0
    · subst h0; exact .inl rfl
    · obtain ⟨b, off, spot⟩ := y
      have hl0 : 0 < (E.cells (f 0)).length := by rw [K.len]; exact hpos
      have h00 := (hfs 0 (by omega)).1 0 hl0
      have hspot : spot = none := by simpa [Addr.add] using World.cell?_spot h00
      subst hspot
      refine .inr ⟨b, off, rfl, by rw [g_add] at h00; exact World.block_lt_of_cell? W ⟨b, off + (0 * E.sz + 0), none⟩ h00, fun i hi j hj => ?_⟩
      have hi' : i < len := by simpa using hi
      have hj' : j < (E.cells (f i)).length := by rw [K.len]; exact hj
      have := (hfs i hi').1 j hj'
      rw [g_add, ← Nat.add_assoc] at this
      simp only [List.getElem_map, List.getElem_range]
      rw [this, List.getElem?_eq_getElem hj']
end Go.Proofs.YtblbabekbpcdiaaGreatDoor
/-
  (shaken)
-/
namespace Go.Proofs.YtblbabekbpcdiaaGreatDoor
open Go.Proofs.YtblbabekbpcdiaaGreatDoor.It
open Go.ChangeShapes Go.WideShapes Go.ChangeAt Go.RowKit
open Go.ChangeMaps (open_string shut_string)
set_option linter.unusedSimpArgs false
set_option linter.unusedVariables false
set_option maxRecDepth 100000

theorem laidOut_all : laidOutB Tryz.prog = true := by kernel_rfl
theorem own : ownKnob Tryz.prog.godebug = none := by kernel_rfl
theorem Tryz.k8 : Tryz.prog.cellsOf 5 = 1 := by kernel_rfl
theorem Tryz.k64 : Tryz.prog.cellsOf 3 = 1 := by kernel_rfl
theorem Tryz.kstr : Tryz.prog.cellsOf 9 = 1 := by kernel_rfl
theorem Tryz.ku32 : Tryz.prog.cellsOf 38 = 1 := by kernel_rfl
theorem Tryz.ku64 : Tryz.prog.cellsOf 23 = 1 := by kernel_rfl
theorem Tryz.kbool : Tryz.prog.cellsOf 4 = 1 := by kernel_rfl
theorem Tryz.kims : Tryz.prog.cellsOf 22 = 1 := by kernel_rfl
theorem Tryz.kitem : Tryz.prog.cellsOf 40 = 5 := by kernel_rfl
theorem Tryz.kres : Tryz.prog.cellsOf 25 = 3 := by kernel_rfl
theorem Tryz.kans : Tryz.prog.cellsOf 27 = 7 := by kernel_rfl
instance : Inhabited ByteArray := ⟨⟨#[]⟩⟩
instance : Inhabited Im := ⟨⟨⟨#[]⟩, ⟨#[]⟩, 0, 0, 0⟩⟩
variable {H : Type} {enc : TypeId × Value → H} {W : World} {base : Nat} {sp : Nat → Bool} {bb : Bool}
/-- what is known of an item that came in -/
def ImIn (x : Im) : Prop := (x.key.size ≤ maxLen ∧ x.value.size ≤ maxLen) ∧ (0 ≤ x.flags ∧ x.flags < 4294967296 ∧ 0 ≤ x.unique ∧ x.unique < 18446744073709551616)
theorem im_of_cells {fuel : Nat} {cs : List Value} {x : DataW H × List MemPlace} (h : DataW.trod enc Tryz.prog W base sp bb fuel 40 cs = some x) : ∃ y : Im, cs = EM.cells y ∧ ImIn y := by
  obtain ⟨xs, n, _, _, hlen, hxl, hf⟩ := DataW.trod_struct Tryz.underlying40 h
  rw [Tryz.kitem] at hlen
  match cs, hlen, xs, hxl with
  | [v0, v1, v2, v3, v4], _, [y0, y1, y2, y3, y4], _ =>
    have f0 := hf 0 _ rfl
    have f1 := hf 1 _ rfl
    have f2 := hf 2 _ rfl
    have f3 := hf 3 _ rfl
    have f4 := hf 4 _ rfl
    simp [Tryz.kstr, Tryz.ku32, Tryz.k64, Tryz.ku64] at f0 f1 f2 f3 f4
    obtain ⟨s0, e0, _, g0⟩ := DataW.trod_string Tryz.underlying9 f0
    obtain ⟨s1, e1, _, g1⟩ := DataW.trod_string Tryz.underlying9 f1
    obtain ⟨n2, e2, _, g2⟩ := DataW.trod_int Tryz.underlying38 f2
    obtain ⟨n3, e3, _, g3⟩ := DataW.trod_int Tryz.underlying3 f3
    obtain ⟨n4, e4, _, g4⟩ := DataW.trod_int Tryz.underlying23 f4
    simp at e0 e1 e2 e3 e4
    subst e0 e1 e2 e3 e4
    have c2 := bounds_u32 g2
    have c4 := bounds_u64 g4
    exact ⟨⟨s0, s1, n2, n3, n4⟩, rfl, ⟨g0, g1⟩, by dsimp only; omega, by dsimp only; omega, by dsimp only; omega, by dsimp only; omega⟩
/-- an answer that came in -/
structure AnIn (W : World) (a : An) (io : Option Addr) (ic : Nat) : Prop where
  rd : GRd EM W io a.items ic
  key : a.key.size ≤ maxLen
  its : ∀ x ∈ a.items, ImIn x
  kind : 0 ≤ a.kind ∧ a.kind ≤ 255
  of_ : 0 ≤ a.of_ ∧ a.of_ ≤ 255
  rk : 0 ≤ a.rk ∧ a.rk ≤ 255
  num : 0 ≤ a.num ∧ a.num < 18446744073709551616
theorem AnIn.fit {W : World} {a : An} {io : Option Addr} {ic : Nat} (h : AnIn W a io ic) : a.Fit := ⟨h.num.1, h.num.2, fun x hx => (h.its x hx).2⟩
theorem inAns_of {v : Value} {r : Reach} {b0 : Nat} {d : DataW H} {p : List MemPlace} (hsp : ∀ b, sp b = true) (hv : Value.okWide Tryz.prog W r b0 27 v)
    (hf : DataW.Trod enc Tryz.prog W base sp bb 27 v d p) : ∃ (a : An) (io : Option Addr) (ic : Nat), v = .agg (a.arr (.slice io a.items.length ic)) ∧ AnIn W a io ic := by
  obtain ⟨cs, rfl, hs⟩ := okWide_struct Tryz.underlying27 hv
  obtain ⟨fuel, hf⟩ := hf
  obtain ⟨xs, n, _, hx, hlen, hxl, hfs⟩ := DataW.trod_struct Tryz.underlying27 hf
  rw [Tryz.kans] at hs hlen
  obtain ⟨z0, z1, u0, u1, u2, z3, z4, rfl⟩ : ∃ z0 z1 u0 u1 u2 z3 z4, cs = #[z0, z1, u0, u1, u2, z3, z4] := by
    cases cs with | mk l =>
    match l, hs with
    | [z0, z1, u0, u1, u2, z3, z4], _ => exact ⟨z0, z1, u0, u1, u2, z3, z4, rfl⟩
  match xs, hxl with
  | [y0, y1, y2, y3, y4], _ =>
    have f0 := hfs 0 _ rfl
    have f1 := hfs 1 _ rfl
    have f2 := hfs 2 _ rfl
    have f3 := hfs 3 _ rfl
    have f4 := hfs 4 _ rfl
    simp [Tryz.k8, Tryz.kstr, Tryz.kbool, Tryz.kres, Value.cells] at f0 f1 f2 f3 f4
    obtain ⟨m0, e0, _, g0⟩ := DataW.trod_int Tryz.underlying5 f0
    obtain ⟨m1, e1, _, g1⟩ := DataW.trod_int Tryz.underlying5 f1
    obtain ⟨m3, e3, _⟩ := DataW.trod_bool Tryz.underlying4 f3
    obtain ⟨m4, e4, _, g4⟩ := DataW.trod_string Tryz.underlying9 f4
    obtain ⟨xs1, n1, _, hx1, hlen1, hxl1, hfs1⟩ := DataW.trod_struct Tryz.underlying25 f2
    match xs1, hxl1 with
    | [t0, t1, t2], _ =>
      have a0 := hfs1 0 _ rfl
      have a1 := hfs1 1 _ rfl
      have a2 := hfs1 2 _ rfl
      simp [Tryz.k8, Tryz.kims, Tryz.ku64, Value.cells] at a0 a1 a2
      obtain ⟨n0, b0, _, q0⟩ := DataW.trod_int Tryz.underlying5 a0
      obtain ⟨n2, b2, _, q2⟩ := DataW.trod_int Tryz.underlying23 a2
      obtain ⟨io, l, ic, b1, hg, hp⟩ := g_open okM Tryz.kitem ImIn hsp (fun _ _ _ hx => im_of_cells hx) a1
      simp at e0 e1 e3 e4 b0 b2
      subst e0 e1 e3 e4 b0 b1 b2
      have c0 := bounds_u8 g0
      have c1 := bounds_u8 g1
      have c2 := bounds_u8 q0
      have c3 := bounds_u64 q2
      exact ⟨⟨m0, m1, n0, l, n2, m3, m4⟩, io, ic, rfl, hg, g4, (fun x hx => by obtain ⟨i, hi, rfl⟩ := List.getElem_of_mem hx; exact hp i hi), by dsimp only; omega, by dsimp only; omega, by dsimp only; omega, by dsimp only; omega⟩
/-- bytes that came in -/
theorem inBytes14_of {v : Value} {r : Reach} {b0 : Nat} {d : DataW H} {p : List MemPlace} (hsp : ∀ b, sp b = true) (hv : Value.okWide Tryz.prog W r b0 30 v)
    (hf : DataW.Trod enc Tryz.prog W base sp bb 30 v d p) : ∃ (ao : Option Addr) (l : List UInt8) (cap : Nat), v = .slice ao l.length cap ∧ GRd EY W ao l cap := by
  obtain ⟨a, len, cap, rfl⟩ := okWide_slice Tryz.underlying30 hv
  obtain ⟨fuel, hf⟩ := hf
  obtain ⟨ao, l, c, e, hg, _⟩ := g_open okY Tryz.k8 (fun _ => True) hsp (fun _ cs _ hx => by
    obtain ⟨n, e, _, g⟩ := DataW.trod_int Tryz.underlying5 hx
    have hb := bounds_u8 g
    refine ⟨UInt8.ofNat n.toNat, ?_, trivial⟩
    rw [e]
    have : ((UInt8.ofNat n.toNat).toNat : Int) = n := by
      have h2 : n.toNat < 256 := by omega
      rw [UInt8.toNat_ofNat_of_lt' h2]
      omega
    show [Value.int .u8 n] = [.int .u8 ((UInt8.ofNat n.toNat).toNat : Int)]
    rw [this]) (show DataW.trod enc Tryz.prog W base sp bb fuel 30 [.slice a len cap] = _ from hf)
  exact ⟨ao, l, c, e, hg⟩
end Go.Proofs.YtblbabekbpcdiaaGreatDoor
/-
  (shaken)
-/
namespace Go.Proofs.YtblbabekbpcdiaaGreatDoor
open Go.Proofs.YtblbabekbpcdiaaGreatDoor.It
open Go.RowKit
set_option linter.unusedSimpArgs false
set_option linter.unusedVariables false
set_option maxRecDepth 100000

def longI (x : Im) : Bool := decide (1000 < x.key.size) || decide (1000 < x.value.size)
/-- is an answer longer than statements go through? -/
def An.lg (a : An) : Bool := decide (1000 < a.key.size) || decide (40 < a.items.length) || a.items.any longI
set_option maxHeartbeats 2000000 in
theorem long15_any (a : An) (io : Option Addr) (ic : Nat) (w : World) (hi : GRd EM w io a.items ic) (hk : a.key.size ≤ maxLen) (hs : ∀ x ∈ a.items, x.key.size ≤ maxLen ∧ x.value.size ≤ maxLen) :
    Calls Tryz.prog 5 #[.agg (a.arr (.slice io a.items.length ic))] w fun e w' => e = .returned (.bool a.lg) ∧ Below w.heap.size w w' := by
  obtain ⟨W, hW⟩ : ∃ W, W = w.alloc (.cells (a.arr (.slice io a.items.length ic)) 27) := ⟨_, rfl⟩
  have HB : Hid (Below w.heap.size w W) := by rw [hW]; exact g_alloc _ _
  have HX : Hid (GBx W w.heap.size (a.cl (.slice io a.items.length ic))) := by rw [hW]; exact GBx.made w (a.cl _) _
  obtain ⟨kind, of_, rk, L, num, yes, key⟩ := a
  unfold An.arr at hW ⊢
  unfold An.cl at HX
  unfold An.lg
  dsimp only at *
  have HI := Hid.mk2 (hi.below HB.out)
  have hlen := hi.len
  have hni : (L.length : Int) ≤ 9223372036854775807 := by omega
  have hm : maxLen = 9223372036854775807 := rfl
  have hki : (key.size : Int) ≤ 9223372036854775807 := by omega
  have x2 := HX.out.c 3 (by simp)
  have x6 := HX.out.c 6 (by simp)
  simp only [List.getElem_cons_zero, List.getElem_cons_succ] at x2 x6
  have HS := Hid.mk2 hs
  clear hi hs hk HX
  obtain ⟨N, hN⟩ : ∃ N, N = L.length := ⟨_, rfl⟩
  have HN := Hid.mk2 hN
  rw [← hN] at hW hni x2 hlen ⊢
  clear hN hm
  by_cases h1 : 1000 < key.size
  · have h1i : (1000 : Int) < (key.size : Int) := by omega
    rw [decide_eq_true h1, Bool.true_or, Bool.true_or]
    clear h1
    go_enter Tryz.func5, Tryz.ntmps5
    go_upto_region 1 with (fail)
    rw [← hW]
    clear hW
    go_wp2
    go_ret
    exact ⟨rfl, HB.out⟩
  have h1i : ¬ (1000 : Int) < (key.size : Int) := by omega
  by_cases h2 : 40 < N
  · have h2i : (40 : Int) < (N : Int) := by omega
    rw [decide_eq_true h2, decide_eq_false h1, Bool.false_or, Bool.true_or]
    clear h1 h2
    go_enter Tryz.func5, Tryz.ntmps5
    go_upto_region 1 with (fail)
    rw [← hW]
    clear hW
    go_wp2
    go_ret
    exact ⟨rfl, HB.out⟩
  have h2i : ¬ (40 : Int) < (N : Int) := by omega
  rw [decide_eq_false h1, decide_eq_false h2, Bool.false_or, Bool.false_or]
  have HA1 : Hid (∀ k, k < L.length → (∃ h : k < L.length, longI L[k] = true) → L.any longI = true) := fun k hk ⟨h, e⟩ => List.any_eq_true.2 ⟨L[k], List.getElem_mem h, e⟩
  have HA2 : Hid ((∀ j (hj : j < L.length), longI L[j] = false) → L.any longI = false) := by
    intro h
    rw [List.any_eq_false]
    intro x hx
    obtain ⟨j, hj, rfl⟩ := List.getElem_of_mem hx
    rw [h j hj]
    decide
  obtain ⟨R, hR⟩ : ∃ R, R = L.any longI := ⟨_, rfl⟩
  rw [← hR] at HA1 HA2 ⊢
  clear hR h1 h2
  go_enter Tryz.func5, Tryz.ntmps5
  go_upto_region 1 with (fail)
  rw [← hW]
  clear hW
  go_wp2
  go_loopw [3] (fun i wr => ∃ k : Nat, k ≤ N ∧ i = .int .i64 k ∧ wr = W ∧ Hid (∀ j (hj : j < L.length), j < k → longI L[j] = false)) (fun i _ => N - (intOf i).toNat)
  case atStart => exact ⟨0, Nat.zero_le _, rfl, rfl, fun _ _ h => absurd h (by omega)⟩
  case round =>
    obtain ⟨k, hk, rfl, rfl, HA⟩ := hrel
    by_cases hkl : k < N
    · have hkl2 : (k : Int) < (N : Int) := by omega
      have hkL : k < L.length := by rw [← HN.out]; exact hkl
      have hne : L ≠ [] := by intro e; rw [e] at hkL; simp at hkL
      obtain ⟨b, off, rfl, hbl, hcs⟩ := HI.out.im hne
      obtain ⟨r0, r1, r2, r3, r4⟩ := hcs k hkL
      have hsz := HS.out L[k] (List.getElem_mem hkL)
      have HLI : Hid (∀ y, y = L[k] → (longI y = true → R = true) ∧ (longI y = false → ∀ j (hj : j < L.length), j < k + 1 → longI L[j] = false)) := by
        intro y hy
        subst hy
        refine ⟨fun h => HA1.out k hkL ⟨hkL, h⟩, fun h j hj hjk => ?_⟩
        by_cases e : j = k
        · subst e; exact h
        · exact HA.out j hj (by omega)
      obtain ⟨y, hye⟩ : ∃ y, y = L[k] := ⟨_, rfl⟩
      have HLI2 := Hid.mk2 (HLI.out y hye)
      rw [← hye] at r0 r1 hsz
      clear HA HA1 HA2 hcs hne hye HLI r2 r3 r4 hkL
      obtain ⟨yk, yv, yf, yt, yu⟩ := y
      dsimp only at r0 r1 hsz
      have hm : maxLen = 9223372036854775807 := rfl
      have hq1 : (yk.size : Int) ≤ 9223372036854775807 := by omega
      have hq2 : (yv.size : Int) ≤ 9223372036854775807 := by omega
      clear hm hsz
      by_cases g1 : 1000 < yk.size
      · have g1i : (1000 : Int) < (yk.size : Int) := by omega
        have HE := Hid.mk2 (HLI2.out.1 (by unfold longI; dsimp only; rw [decide_eq_true g1, Bool.true_or]))
        clear g1 HLI2
        go_wp2
        go_ret
        exact ⟨by rw [HE.out]; rfl, HB.out⟩
      have g1i : ¬ (1000 : Int) < (yk.size : Int) := by omega
      by_cases g2 : 1000 < yv.size
      · have g2i : (1000 : Int) < (yv.size : Int) := by omega
        have HE := Hid.mk2 (HLI2.out.1 (by unfold longI; dsimp only; rw [decide_eq_true g2, Bool.or_true]))
        clear g1 g2 HLI2
        go_wp2
        go_ret
        exact ⟨by rw [HE.out]; rfl, HB.out⟩
      have g2i : ¬ (1000 : Int) < (yv.size : Int) := by omega
      have HE := Hid.mk2 (HLI2.out.2 (by unfold longI; dsimp only; rw [decide_eq_false g1, decide_eq_false g2]; rfl))
      clear g1 g2 HLI2
      go_wp2
      exact ⟨⟨k + 1, by omega, by go_num, by first | rfl | trivial, HE⟩, by simp [intOf]; omega⟩
    · have e := HA2.out (fun j hj => HA.out j hj (by have := HN.out; omega))
      subst e
      have hkl2 : ¬ (k : Int) < (N : Int) := by omega
      clear HA1 HA2 HA
      go_wp2
      go_ret
      exact ⟨rfl, HB.out⟩

set_option maxHeartbeats 2000000 in
theorem same15_any (a : An) (ko : Option Addr) (kc : Nat) (mo : Option Addr) (mc : Nat) (w : World) (h1 : GRd EM w ko a.items kc) (h2 : GRd EM w mo a.items mc) :
    Calls Tryz.prog 10 #[.agg (a.arr (.slice ko a.items.length kc)), .agg (a.arr (.slice mo a.items.length mc))] w fun e w' => e = .returned (.bool true) ∧ Below w.heap.size w w' := by
  obtain ⟨W, hW⟩ : ∃ W, W = (w.alloc (.cells (a.arr (.slice ko a.items.length kc)) 27)).alloc (.cells (a.arr (.slice mo a.items.length mc)) 27) := ⟨_, rfl⟩
  have HB : Hid (Below w.heap.size w W) := by rw [hW]; exact g_on (g_alloc _ _) (g_alloc _ _)
  have HX : Hid (GBx W w.heap.size (a.cl (.slice ko a.items.length kc))) := by rw [hW]; exact (GBx.made w (a.cl (.slice ko a.items.length kc)) _).alloc _
  have HY : Hid (GBx W (w.heap.size + 1) (a.cl (.slice mo a.items.length mc))) := by
    rw [hW]
    have := GBx.made (w.alloc (.cells (a.arr (.slice ko a.items.length kc)) 27)) (a.cl (.slice mo a.items.length mc)) 27
    rw [show (w.alloc (.cells (a.arr (.slice ko a.items.length kc)) 27)).heap.size = w.heap.size + 1 by simp] at this
    exact this
  have HS := Hid.mk2 (same10_any a.rk a.num a.items ko mo kc mc W (h1.below HB.out) (h2.below HB.out))
  obtain ⟨kind, of_, rk, L, num, yes, key⟩ := a
  unfold An.arr at *
  unfold An.cl at HX HY
  dsimp only at *
  obtain ⟨N, hN⟩ : ∃ N, N = L.length := ⟨_, rfl⟩
  rw [← hN] at HX HY HS hW ⊢
  clear hN h1 h2
  have x0 := HX.out.c 0 (by simp)
  have x1 := HX.out.c 1 (by simp)
  have x2 := HX.out.c 2 (by simp)
  have x3 := HX.out.c 3 (by simp)
  have x4 := HX.out.c 4 (by simp)
  have x5 := HX.out.c 5 (by simp)
  have x6 := HX.out.c 6 (by simp)
  have y0 := HY.out.c 0 (by simp)
  have y1 := HY.out.c 1 (by simp)
  have y2 := HY.out.c 2 (by simp)
  have y3 := HY.out.c 3 (by simp)
  have y4 := HY.out.c 4 (by simp)
  have y5 := HY.out.c 5 (by simp)
  have y6 := HY.out.c 6 (by simp)
  simp only [List.getElem_cons_zero, List.getElem_cons_succ] at x0 x1 x2 x3 x4 x5 x6 y0 y1 y2 y3 y4 y5 y6
  have q1 : (key.toList == key.toList) = true := by simp
  have q2 : (kind == kind) = true := by simp
  have q3 : (of_ == of_) = true := by simp
  have q4 : (yes == yes) = true := by simp
  go_enter Tryz.func10, Tryz.ntmps10
  go_upto_region 1 with (fail)
  rw [← hW]
  clear hW
  go_wp2_with (go_at_call 26; refine HS.out.mono ?_; rintro e w1 ⟨rfl, hb⟩; have HB1 := Hid.mk2 (g_on HB.out hb); have z5 := HX.out.below hb; have z6 := HY.out.below hb; have x5 := z5.c 5 (by simp); have x6 := z5.c 6 (by simp); have y5 := z6.c 5 (by simp); have y6 := z6.c 6 (by simp); simp only [List.getElem_cons_zero, List.getElem_cons_succ] at x5 x6 y5 y6; clear hb)
  go_ret
  exact ⟨by first | rfl | simp, HB1.out⟩
end Go.Proofs.YtblbabekbpcdiaaGreatDoor
/-
  (shaken)
-/
namespace Go.Proofs.YtblbabekbpcdiaaGreatDoor
open Go.RowKit
set_option linter.unusedSimpArgs false
set_option linter.unusedVariables false
set_option maxRecDepth 100000

/-- a world behind w: nothing that lay is turned -/
structure Beh (w : World) where
  v : World
  ok : Below w.heap.size w v
instance (w : World) : Inhabited (Beh w) := ⟨⟨w, Below.refl _ _⟩⟩
theorem wp_region_quiet_beh {P : Program} {id : Nat} {Q : Exit → Act → World → Prop} {a : Act} {w : World} {l : List Oper} (hm : P.follows .mixedOrders = true) (hB : Region.lexB .any l.toArray = true)
    (h : wpQuiet P l.toArray (fun w' => ∃ p : Beh w, w' = p.v) (fun a' => ∀ w', (∃ p : Beh w, w' = p.v) → Q .normal a' w') l a) : (Code.region id l.toArray true).wp P Q a w :=
  wp_region_quiet (C := fun w' => ∃ p : Beh w, w' = p.v) hm hB ⟨⟨w.drew, (Below.refl _ _).drew⟩, rfl⟩ (by simpa using h)
theorem cell_beh {w : World} {a : Addr} {v : Value} (hb : a.block < w.heap.size) (h : w.cell? a = some v) (p : Beh w) : p.v.cell? a = some v := (p.ok.cell hb).trans h
theorem Calls.beh_of {P : Program} {f : FuncId} {args : Array Value} {w : World} {p : Beh w} {v : Value}
    (h : Calls P f args p.v fun e w' => e = .returned v ∧ Below p.v.heap.size p.v w') : Calls P f args p.v fun e w'' => e = .returned v ∧ ∃ q : Beh w, w'' = q.v :=
  h.mono fun _ w'' ⟨he, hb⟩ => ⟨he, ⟨w'', g_on p.ok hb⟩, rfl⟩
theorem Calls.beh_same {P : Program} {f : FuncId} {args : Array Value} {w : World} {p : Beh w} {v : Value}
    (h : Calls P f args p.v fun e w' => e = .returned v ∧ w' = p.v) : Calls P f args p.v fun e w'' => e = .returned v ∧ ∃ q : Beh w, w'' = q.v :=
  h.mono fun _ w'' ⟨he, hb⟩ => ⟨he, p, hb⟩
theorem GOwn.rdOf {α : Type} {E : GEl α} (K : GOk E) {w : World} {base : Nat} {a : Option Addr} {n cp : Nat} {l : List α} (h : GOwn E w base (.slice a n cp) l) : GRd E w a l cp := by
  obtain ⟨ao, cap, e, hr⟩ := h.rd K
  injection e with e1 e2 e3
  subst e1 e3
  exact hr
end Go.Proofs.YtblbabekbpcdiaaGreatDoor
/-
  (shaken)
-/
namespace Go.Proofs.YtblbabekbpcdiaaGreatDoor
open Go.Proofs.YtblbabekbpcdiaaGreatDoor.It
open Go.RowKit
set_option linter.unusedSimpArgs false
set_option linter.unusedVariables false
set_option maxRecDepth 100000

def al17 : An := ⟨1, 6, 1, [], 300, false, ⟨#[]⟩⟩
theorem pem0 : (⟨#[]⟩ : ByteArray).toList.isEmpty = true := by rw [ByteArray.toList_eq]; rfl
theorem al17_may : al17.may = true := by
  unfold An.may al17
  rw [if_pos rfl]
  dsimp only
  rw [pem0]
  rfl
theorem al17_body : al17.body = [6, 1, 172, 2, 0] := by
  unfold An.body al17
  rw [if_pos rfl]
  rfl
theorem al17_wp : al17.wpE = 0 ∧ al17.wp = [178, 1, 0, 0, 0, 5, 6, 1, 172, 2, 0] := by
  have hE : al17.wpE = 0 := by
    unfold An.wpE
    rw [if_pos al17_may, al17_body]
    rfl
  refine ⟨hE, ?_⟩
  unfold An.wp
  rw [if_pos hE, al17_body]
  rfl
theorem al17_pf : al17.Pf := ⟨by decide, by decide, by decide, by decide, fun x hx => by cases hx⟩
theorem gbx_get {w : World} {b : Nat} {vs : List Value} (h : GBx w b vs) : ∀ j v, vs[j]? = some v → w.cell? ⟨b, j, none⟩ = some v := by
  intro j v hv
  obtain ⟨hj, e⟩ := List.getElem?_eq_some_iff.1 hv
  rw [h.c j hj, e]
theorem gr_take {α : Type} {E : GEl α} {w : World} {ao : Option Addr} {l : List α} {cap : Nat} (h : GRd E w ao l cap) (k : Nat) : GRd E w ao (l.take k) cap := by
  refine ⟨by have := h.hl; simp; omega, h.hc, h.hn, ?_⟩
  rcases h.at_ with rfl | ⟨b, off, e, hb, hc⟩
  · exact .inl (by simp)
  · refine .inr ⟨b, off, e, hb, fun i hi j hj => ?_⟩
    rw [List.length_take] at hi
    simpa [List.getElem_take] using hc i (by omega) j (by simpa [List.getElem_take] using hj)
theorem seven {l : List Value} (h : l.length = 7) : ∃ a b c d e f g, l = [a, b, c, d, e, f, g] := by
  match l, h with
  | [a, b, c, d, e, f, g], _ => exact ⟨a, b, c, d, e, f, g, rfl⟩
theorem zan_arr : zan.arr (.slice none zan.items.length 0) = #[.int .u8 0, .int .u8 0, .int .u8 0, .slice none 0 0, .int .u64 0, .bool false, .string ⟨#[]⟩] := rfl
theorem pmay_short {a : An} (h : a.may = true) (hf : a.Pf) : a.key.size ≤ maxLen := Nat.le_trans (may_parts h hf).2.2.2 (by decide)
set_option maxHeartbeats 2000000 in
theorem alive17_any (V : World) : Calls Tryz.prog 4 #[] V fun e w' => e = .returned (.bool true) ∧ Below V.heap.size V w' := by
  have HW : Hid (Calls Tryz.prog 7 #[.agg #[.int .u8 1, .int .u8 6, .int .u8 1, .slice none 0 0, .int .u64 300, .bool false, .string ⟨#[]⟩]] V fun e w' => (∃ ao cap, e = .returned (.tuple #[.slice ao 11 cap, .int .i64 0]) ∧ GRd EY w' ao [178, 1, 0, 0, 0, 5, 6, 1, 172, 2, 0] cap) ∧ Below V.heap.size V w') := by
    refine (pwrite_any al17 none 0 V (GRd.nil V) (by decide) al17_pf).mono ?_
    rintro e w' ⟨⟨ao, cap, h1, h2⟩, h3⟩
    rw [al17_wp.1, al17_wp.2] at h1
    rw [al17_wp.2] at h2
    exact ⟨⟨ao, cap, h1, h2⟩, h3⟩
  go_enter Tryz.func4, Tryz.ntmps4
  go_upto_region 2 with (go_at_call 7; refine HW.out.mono ?_; rintro e w2 ⟨⟨ao, cap, rfl, hr2⟩, hb2⟩; have HB2 := Hid.mk2 hb2; have HR2 := Hid.mk2 hr2; clear hb2 hr2)
  have hcv : (convert 30 9 (.slice ao 11 cap)).run Tryz.prog w2 = .ok (.string ⟨#[178, 1, 0, 0, 0, 5, 6, 1, 172, 2, 0]⟩) w2 := conv_rd HR2.out
  have hcv2 : (convert 30 9 (.slice (some ⟨w2.heap.size, 0, none⟩) 11 11)).run Tryz.prog (w2.alloc (.cells #[.int .u8 178, .int .u8 1, .int .u8 0, .int .u8 0, .int .u8 0, .int .u8 5, .int .u8 6, .int .u8 1, .int .u8 172, .int .u8 2, .int .u8 0] 5)) = .ok (.string ⟨#[178, 1, 0, 0, 0, 5, 6, 1, 172, 2, 0]⟩) (w2.alloc (.cells #[.int .u8 178, .int .u8 1, .int .u8 0, .int .u8 0, .int .u8 0, .int .u8 5, .int .u8 6, .int .u8 1, .int .u8 172, .int .u8 2, .int .u8 0] 5)) := conv_rd (g_news okY w2 [178, 1, 0, 0, 0, 5, 6, 1, 172, 2, 0] [.int .u8 178, .int .u8 1, .int .u8 0, .int .u8 0, .int .u8 0, .int .u8 5, .int .u8 6, .int .u8 1, .int .u8 172, .int .u8 2, .int .u8 0] rfl (by decide))
  have hxx : ((⟨#[178, 1, 0, 0, 0, 5, 6, 1, 172, 2, 0]⟩ : ByteArray).toList == (⟨#[178, 1, 0, 0, 0, 5, 6, 1, 172, 2, 0]⟩ : ByteArray).toList) = true := by simp
  have HBE : Hid (∀ o, Below V.heap.size V (w2.alloc o)) := fun o => g_on HB2.out (g_alloc _ _)
  go_wp2
  go_ret
  exact ⟨by first | rfl | simp, HBE.out _⟩
end Go.Proofs.YtblbabekbpcdiaaGreatDoor
/-
  (shaken)
-/
namespace Go.Proofs.YtblbabekbpcdiaaGreatDoor
open Go.Proofs.YtblbabekbpcdiaaGreatDoor.It
open Go.RowKit
set_option linter.unusedSimpArgs false
set_option linter.unusedVariables false
set_option maxRecDepth 100000

theorem lines_len7 {x : Im} (h : x.ok) : x.lines.length ≤ 700 := by
  have h1 : (joinW x.words).length ≤ 170 := by
    have h3 := h.wl.each
    unfold Im.words at h3 ⊢
    rw [joinW_cons, List.length_append, bl_len]
    have h5 := joinW_len 32 [x.key, dec x.flags, dec x.till, dec x.unique, dec (x.value.size : Int)] (fun y hy => (h3 y (List.mem_cons_of_mem _ hy)).1)
    have h4 : sVALUE.size = 5 := rfl
    simp only [List.length_cons, List.length_nil] at h5
    omega
  unfold Im.lines
  simp only [List.length_append, List.length_cons, List.length_nil, bl_len]
  have := h.val
  omega
theorem flat_len7 : ∀ L : List Im, (∀ x ∈ L, x.ok) → (L.flatMap Im.lines).length ≤ L.length * 700
  | [], _ => by simp
  | a :: t, h => by
    have h1 := lines_len7 (h a (by simp))
    have h2 := flat_len7 t (fun x hx => h x (by simp [hx]))
    rw [List.flatMap_cons, List.length_append, List.length_cons, Nat.add_mul]
    omega
theorem wrE_parts {a : An} (hE : a.wrE = 0) : a.may = true ∧ a.hasL = true := by
  unfold An.wrE at hE
  by_cases h : a.may = true ∧ a.hasL = true
  · exact h
  · rw [if_neg h] at hE; cases hE
end Go.Proofs.YtblbabekbpcdiaaGreatDoor
