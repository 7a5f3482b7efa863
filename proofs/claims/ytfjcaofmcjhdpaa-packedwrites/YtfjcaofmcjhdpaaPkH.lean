/-
  answerOf of package packed.
-/
import Derived.Test.YtfjcaofmcjhdpaaPkG
namespace Go.Proofs.Ytfjcaofmcjhdpaa
open Go.Proofs.Ytfjcaofmcjhdpaa.It
open Go.RowKit
set_option linter.unusedSimpArgs false
set_option linter.unusedVariables false
set_option maxRecDepth 100000

def okP (c : UInt8) (b : List UInt8) : Bool := !(pAns c b).2.bad && decide ((pAns c b).2.l.length = 0)
def azc : List Value := [.int .u8 0, .int .u8 0, .int .u8 0, .slice none 0 0, .int .u64 0, .bool false, .string ⟨#[]⟩]
/-- what stands before the end -/
structure An7 (V : World) (R A P : Nat) (K : Nat → Prop) (a : An) (s : Ps) (wx : World) (lo : Option Addr) (lc : Nat) (ao : Option Addr) (m cap : Nat) : Prop where
  bx : GBx wx A (a.cl (.slice lo a.items.length lc))
  its : GRd EM wx lo a.items lc
  far : ∀ q, lo = some q → P < q.block
  rdr : Rdr wx R K s ao m cap
  p : GBx wx P azc
  bel : Below V.heap.size V wx
theorem grown_below {V a b : World} {row : Nat} (h : Below V.heap.size V a) (g : a.grownBy b (some row)) (hr : V.heap.size ≤ row) : Below V.heap.size V b :=
  h.grown g h.size (fun k e => by have := Option.some.inj e; omega)
theorem sets4 {w : World} {A : Nat} {k o r i n y s : Value} {o' r' i' n' : Value} (h : GBx w A [k, o, r, i, n, y, s]) : GBx ((((w.setCell ⟨A, 1, none⟩ o').setCell ⟨A, 2, none⟩ r').setCell ⟨A, 3, none⟩ i').setCell ⟨A, 4, none⟩ n') A [k, o', r', i', n', y, s] :=
  (((h.set 1 o' (by simp)).set 2 r' (by simp)).set 3 i' (by simp)).set 4 n' (by simp)
theorem sets4_gr (w : World) (A : Nat) (o' r' i' n' : Value) : w.grownBy ((((w.setCell ⟨A, 1, none⟩ o').setCell ⟨A, 2, none⟩ r').setCell ⟨A, 3, none⟩ i').setCell ⟨A, 4, none⟩ n') (some A) :=
  (((g_set w ⟨A, 1, none⟩ o').trans (g_set _ ⟨A, 2, none⟩ r')).trans (g_set _ ⟨A, 3, none⟩ i')).trans (g_set _ ⟨A, 4, none⟩ n')
theorem pset7 {w : World} {b : Nat} {vs : List Value} (h : GBx w b vs) (hl : vs.length = 7) (a0 a1 a2 a3 a4 a5 a6 : Value) : GBx (((((((w.setCell ⟨b, 0, none⟩ a0).setCell ⟨b, 1, none⟩ a1).setCell ⟨b, 2, none⟩ a2).setCell ⟨b, 3, none⟩ a3).setCell ⟨b, 4, none⟩ a4).setCell ⟨b, 5, none⟩ a5).setCell ⟨b, 6, none⟩ a6) b [a0, a1, a2, a3, a4, a5, a6] := by
  match vs, hl with
  | [u0, u1, u2, u3, u4, u5, u6], _ =>
    exact ((((((h.set 0 a0 (by simp)).set 1 a1 (by simp)).set 2 a2 (by simp)).set 3 a3 (by simp)).set 4 a4 (by simp)).set 5 a5 (by simp)).set 6 a6 (by simp)
theorem pset7_gr (w : World) (b : Nat) (a0 a1 a2 a3 a4 a5 a6 : Value) : w.grownBy (((((((w.setCell ⟨b, 0, none⟩ a0).setCell ⟨b, 1, none⟩ a1).setCell ⟨b, 2, none⟩ a2).setCell ⟨b, 3, none⟩ a3).setCell ⟨b, 4, none⟩ a4).setCell ⟨b, 5, none⟩ a5).setCell ⟨b, 6, none⟩ a6) (some b) :=
  ((((((g_set w ⟨b, 0, none⟩ a0).trans (g_set _ ⟨b, 1, none⟩ a1)).trans (g_set _ ⟨b, 2, none⟩ a2)).trans (g_set _ ⟨b, 3, none⟩ a3)).trans (g_set _ ⟨b, 4, none⟩ a4)).trans (g_set _ ⟨b, 5, none⟩ a5)).trans (g_set _ ⟨b, 6, none⟩ a6)
theorem pAns_one (b : List UInt8) : pAns 1 b = (⟨1, ((pSingle ⟨b, false⟩).1.toNat : Int), ((pRes (pSingle ⟨b, false⟩).2).1.1.toNat : Int), (pRes (pSingle ⟨b, false⟩).2).1.2.2, ((pRes (pSingle ⟨b, false⟩).2).1.2.1 : Int), false, ⟨#[]⟩⟩, (pRes (pSingle ⟨b, false⟩).2).2) := rfl
set_option maxHeartbeats 4000000 in
theorem panswer_any (V : World) (c : UInt8) (ao : Option Addr) (b : List UInt8) (cap : Nat) (hr : GRd EY V ao b cap) (hlt : ∀ a, ao = some a → a.block < V.heap.size) (hL : b.length ≤ 5000) (m : Nat) (hm : m = b.length) :
    Calls Try.prog 19 #[.int .u8 (c.toNat : Int), .slice ao m cap] V fun e V' => (∃ lo lc, e = .returned (.tuple #[.agg ((pAns c b).1.arr (.slice lo (pAns c b).1.items.length lc)), .bool (okP c b)]) ∧ GRd EM V' lo (pAns c b).1.items lc ∧ ∀ q, lo = some q → V.heap.size < q.block) ∧ Below V.heap.size V V' := by
  obtain ⟨W, hW⟩ : ∃ W, W = V.alloc (.cells #[.int .u8 0, .int .u8 0, .int .u8 0, .slice none 0 0, .int .u64 0, .bool false, .string ⟨#[]⟩] 31) := ⟨_, rfl⟩
  have hb0 : Below V.heap.size V W := by rw [hW]; exact g_alloc _ _
  have hws : W.heap.size = V.heap.size + 1 := by rw [hW]; simp
  have HP0 : Hid (GBx W V.heap.size azc) := by rw [hW]; exact GBx.made V azc _
  have HB0 := Hid.mk2 hb0
  have HWS := Hid.mk2 hws
  have HM := Hid.mk2 hm
  have HLT := Hid.mk2 hlt
  have HRD := Hid.mk2 hr
  have HL := Hid.mk2 hL
  obtain ⟨P, hP⟩ : ∃ P, P = V.heap.size := ⟨_, rfl⟩
  have HP := Hid.mk2 hP
  rw [← hP] at HP0
  have HOK : Hid (okP c b = (!(pAns c b).2.bad && decide ((pAns c b).2.l.length = 0))) := rfl
  obtain ⟨OK, hOK⟩ : ∃ o, o = okP c b := ⟨_, rfl⟩
  rw [← hOK] at HOK ⊢
  obtain ⟨⟨a, s⟩, hq⟩ : ∃ q, q = pAns c b := ⟨_, rfl⟩
  rw [← hq] at HOK ⊢
  have HQ := Hid.mk2 hq
  dsimp only at HOK ⊢
  obtain ⟨kc, hkc⟩ : ∃ k : Int, k = (c.toNat : Int) := ⟨_, rfl⟩
  have HKC := Hid.mk2 hkc
  rw [← hkc]
  clear hr hlt hL hm hb0 hws hOK hq hkc
  go_enter Try.func19, Try.ntmps19
  go_upto_region 1 with (fail)
  rw [← hW, ← hP]
  clear hW hP
  go_upto_region 2 with (refine ywpl_store rfl 60 _ _ rfl W.heap.size [.slice ao m cap, .bool false] [.slice none 0 0, .bool false] rfl (by first | rfl | simp) (by kernel_rfl) (GBx.made W [.slice none 0 0, .bool false] _) rfl (by intro v hv; simp at hv; rcases hv with rfl | rfl <;> rfl) ?_)
  obtain ⟨W2, hW2⟩ : ∃ W2, W2 = ysets (W.alloc (.cells #[.slice none 0 0, .bool false] 60)) W.heap.size 0 [.slice ao m cap, .bool false] := ⟨_, rfl⟩
  have hb2 : Below W.heap.size W W2 := by rw [hW2]; exact (g_alloc W _).grown (ysets_grown _ _ _ _) (by simp) (fun k hk => by cases hk; exact Nat.le_refl _)
  have HR2 : Hid (GBx W2 W.heap.size [.slice ao m cap, .bool false]) := by rw [hW2]; exact ybox (GBx.made W [.slice none 0 0, .bool false] _) _ rfl
  have HB2 : Hid (Below V.heap.size V W2) := g_on HB0.out hb2
  have HP2 := Hid.mk2 (HP0.out.below hb2)
  have HS2 : Hid (W.heap.size < W2.heap.size) := HR2.out.lt
  first
    | rw [← hW2]
    | (change Code.wp _ _ _ _ (ysets (W.alloc (.cells #[.slice none 0 0, .bool false] 60)) W.heap.size 0 [.slice ao m cap, .bool false]); rw [← hW2])
  obtain ⟨R, hR⟩ : ∃ R, R = W.heap.size := ⟨_, rfl⟩
  rw [← hR] at HR2 HS2 ⊢
  have HPR : Hid (P < R) := by have h1 := HWS.out; have h2 := HP.out; show P < R; omega
  clear hW2 hb2 hR HB0 HP0 HWS
  go_upto_region 3 with (refine ywpl_store rfl 31 _ _ rfl W2.heap.size [.int .u8 kc, .int .u8 0, .int .u8 0, .slice none 0 0, .int .u64 0, .bool false, .string ⟨#[]⟩] azc rfl (by first | rfl | simp) (by kernel_rfl) (GBx.made W2 azc _) rfl (by intro v hv; simp at hv; rcases hv with rfl | rfl | rfl | rfl | rfl | rfl | rfl <;> rfl) ?_)
  obtain ⟨W3, hW3⟩ : ∃ W3, W3 = ysets (W2.alloc (.cells azc.toArray 31)) W2.heap.size 0 [.int .u8 kc, .int .u8 0, .int .u8 0, .slice none 0 0, .int .u64 0, .bool false, .string ⟨#[]⟩] := ⟨_, rfl⟩
  have hb3 : Below W2.heap.size W2 W3 := by rw [hW3]; exact (g_alloc W2 _).grown (ysets_grown _ _ _ _) (by simp) (fun k hk => by cases hk; exact Nat.le_refl _)
  have HA3 : Hid (GBx W3 W2.heap.size [.int .u8 kc, .int .u8 0, .int .u8 0, .slice none 0 0, .int .u64 0, .bool false, .string ⟨#[]⟩]) := by rw [hW3]; exact ybox (GBx.made W2 azc _) _ rfl
  have HB3 : Hid (Below V.heap.size V W3) := g_on HB2.out hb3
  have HP3 := Hid.mk2 (HP2.out.below hb3)
  have HR3 := Hid.mk2 (HR2.out.below hb3)
  have HS3 : Hid (W2.heap.size < W3.heap.size) := HA3.out.lt
  first
    | rw [← hW3]
    | (change Code.wp _ _ _ _ (ysets (W2.alloc (.cells azc.toArray 31)) W2.heap.size 0 [.int .u8 kc, .int .u8 0, .int .u8 0, .slice none 0 0, .int .u64 0, .bool false, .string ⟨#[]⟩]); rw [← hW3])
  obtain ⟨A, hA⟩ : ∃ A, A = W2.heap.size := ⟨_, rfl⟩
  rw [← hA] at HA3 HS2 HS3 ⊢
  obtain ⟨K, hK⟩ : ∃ K : Nat → Prop, K = fun x => x = R ∨ x = A ∨ x = P := ⟨_, rfl⟩
  have HKK : Hid (K R ∧ K A ∧ K P) := by rw [hK]; exact ⟨.inl rfl, .inr (.inl rfl), .inr (.inr rfl)⟩
  have HLTS : Hid (V.heap.size = P ∧ P < R ∧ R < A ∧ A < W3.heap.size) := ⟨HP.out.symm, HPR.out, HS2.out, HS3.out⟩
  have HRR : Hid (Rdr W3 R K ⟨b, false⟩ ao m cap) := by
    have hq := HLTS.out
    refine ⟨HM.out, HR3.out, HRD.out.below HB3.out, fun x e hk => ?_, fun x e => Nat.lt_of_lt_of_le (HLT.out x e) HB3.out.size, HKK.out.1, fun x hk => ?_, Nat.le_trans HL.out (by decide)⟩
    · have h1 := HLT.out x e
      rw [hK] at hk
      rcases hk with hk | hk | hk <;> omega
    · rw [hK] at hk
      rcases hk with hk | hk | hk <;> omega
  clear hW3 hb3 hA hK HP2 HR2 HB2 HR3 HM HLT HRD HL HP HPR HS2 HS3
  have xf := HA3.out.f
  have x0 := HA3.out.c 0 (by simp)
  have x1 := HA3.out.c 1 (by simp)
  have x2 := HA3.out.c 2 (by simp)
  have x3 := HA3.out.c 3 (by simp)
  have x4 := HA3.out.c 4 (by simp)
  have x5 := HA3.out.c 5 (by simp)
  have x6 := HA3.out.c 6 (by simp)
  simp only [List.getElem_cons_zero, List.getElem_cons_succ] at x0 x1 x2 x3 x4 x5 x6
  (try simp only [Act.put])
  go_cut [12] from 13 (fun s12 wx => s12 = .int .u8 kc ∧ W3 = wx)
  case first =>
    go_wp2
    go_meet
    case rel => exact ⟨rfl, rfl⟩
  case rest =>
    rename_i hK0
    refine hK0 _ _ ?_
    clear hK0
    obtain ⟨rfl, rfl⟩ := hcut
    go_cut [] from 13 (fun wx => Hid (∃ lo lc ao m cap, An7 V R A P K a s wx lo lc ao m cap))
    case first =>
      by_cases h1 : kc = 1
      · have hc1 : c = 1 := by apply UInt8.toNat_inj.1; have := HKC.out; show c.toNat = 1; omega
        subst hc1
        have hq := HQ.out
        rw [pAns_one] at hq
        have HSI := Hid.mk2 (psingle_any W3 R K ⟨b, false⟩ ao m cap HRR.out)
        obtain ⟨⟨oc, s1⟩, hs1⟩ : ∃ q, q = pSingle ⟨b, false⟩ := ⟨_, rfl⟩
        rw [← hs1] at hq HSI
        dsimp only at hq
        have HRE := Hid.mk2 (fun w ao m cap (h : Rdr w R K s1 ao m cap) => presult_any w R K s1 ao m cap h)
        obtain ⟨⟨⟨rc, nn, its⟩, s2⟩, hs2⟩ : ∃ q, q = pRes s1 := ⟨_, rfl⟩
        rw [← hs2] at hq HRE
        dsimp only at hq
        cases hq
        have D1 : Hid (Calls Try.prog 29 #[.pointer (some ⟨R, 0, none⟩)] W3 fun e w' => e = .returned (.int .u8 (oc.toNat : Int)) ∧ RdX W3 w' R K s1) := HSI.out
        have D2 : Hid (∀ w ao m cap, Rdr w R K s1 ao m cap → Calls Try.prog 30 #[.pointer (some ⟨R, 0, none⟩)] w fun e w' => (∃ lo lc, e = .returned (.agg #[.int .u8 (rc.toNat : Int), .slice lo its.length lc, .int .u64 (nn : Int)]) ∧ GRd EM w' lo its lc ∧ ∀ a, lo = some a → w.heap.size < a.block ∧ a.block < w'.heap.size) ∧ RdX w w' R K s) := HRE.out
        subst h1
        clear HSI HRE hs1 hs2 HQ x0 x1 x2 x3 x4 x5 x6 xf
        go_wp2_with (first
          | (have h9 := HG4; go_at_call 30; refine (D2.out _ _ _ _ HR4.out).mono ?_; rintro e w5 ⟨⟨lo, lc, rfl, hi5, hf5⟩, ⟨a5, m5, c5, hr5⟩, hg5⟩; have HR5 := Hid.mk2 hr5; have HG5 := Hid.mk2 (HG4.out.trans hg5); have HI5 := Hid.mk2 hi5; have HF5 : Hid (∀ q, lo = some q → A < q.block ∧ q.block < w5.heap.size) := (fun q e => ⟨by have h8 := (hf5 q e).1; have h7 := HLTS.out; have h6 := HG4.out.size; omega, (hf5 q e).2⟩); have HA5 := Hid.mk2 (HA3.out.grown HG5.out (by have := HLTS.out; intro e; have := Option.some.inj e; omega)); have zf1 := HA5.out.f 1; have zf2 := HA5.out.f 2; have zf3 := HA5.out.f 3; have zf4 := HA5.out.f 4; have z1 := HA5.out.c 1 (by simp); have z2 := HA5.out.c 2 (by simp); have z3 := HA5.out.c 3 (by simp); have z4 := HA5.out.c 4 (by simp); simp only [List.getElem_cons_zero, List.getElem_cons_succ] at z1 z2 z3 z4; clear hi5 hf5 hr5 hg5)
          | (go_at_call 29; refine D1.out.mono ?_; rintro e w4 ⟨rfl, ⟨a4, m4, c4, hr4⟩, hg4⟩; have HR4 := Hid.mk2 hr4; have HG4 := Hid.mk2 hg4; clear hr4 hg4))
        go_meet
        case rel =>
          have hgs := sets4_gr w5 A (.int .u8 (oc.toNat : Int)) (.int .u8 (rc.toNat : Int)) (.slice lo its.length lc) (.int .u64 (nn : Int))
          have hq := HLTS.out
          exact ⟨lo, lc, a5, m5, c5, sets4 HA5.out, grd_grown HI5.out hgs (fun g off e _ e2 => by have := (HF5.out _ e).1; have := Option.some.inj e2; dsimp only at *; omega), fun q e => by have := (HF5.out q e).1; omega, HR5.out.grown hgs (fun e => by have := Option.some.inj e; omega) (fun x e => .inl (by rw [← Option.some.inj e]; exact HKK.out.2.1)), (HP3.out.grown HG5.out (fun e => by have := Option.some.inj e; omega)).grown hgs (fun e => by have := Option.some.inj e; omega), grown_below (grown_below HB3.out HG5.out (by omega)) hgs (by omega)⟩
      have c1 : c ≠ 1 := fun e => h1 (by rw [HKC.out, e]; rfl)
      by_cases h23 : kc = 2 ∨ kc = 3
      · have hc23 : c = 2 ∨ c = 3 := by
          rcases h23 with h | h
          · exact .inl (UInt8.toNat_inj.1 (by have := HKC.out; show c.toNat = 2; omega))
          · exact .inr (UInt8.toNat_inj.1 (by have := HKC.out; show c.toNat = 3; omega))
        have hq := HQ.out
        have e1 : pAns c b = (⟨(c.toNat : Int), 0, 0, [], 0, (pTruth ⟨b, false⟩).1, ⟨#[]⟩⟩, (pTruth ⟨b, false⟩).2) := by unfold pAns; rw [if_neg c1, if_pos hc23]
        rw [e1, ← HKC.out] at hq
        have HTR := Hid.mk2 (ptruth_any W3 R K ⟨b, false⟩ ao m cap HRR.out)
        obtain ⟨⟨yy, s1⟩, hs1⟩ : ∃ q, q = pTruth ⟨b, false⟩ := ⟨_, rfl⟩
        rw [← hs1] at hq HTR
        dsimp only at hq
        cases hq
        have D1 : Hid (Calls Try.prog 31 #[.pointer (some ⟨R, 0, none⟩)] W3 fun e w' => e = .returned (.bool yy) ∧ RdX W3 w' R K s) := HTR.out
        have HZN : Hid (GRd EM W3 none [] 0) := GRd.nil _
        clear HTR hs1 HQ x0 x1 x2 x3 x4 x5 x6 xf c1 hc23 e1
        rcases h23 with rfl | rfl
        all_goals
          go_wp2_with (go_at_call 31; refine D1.out.mono ?_; rintro e w5 ⟨rfl, ⟨a5, m5, c5, hr5⟩, hg5⟩; have HR5 := Hid.mk2 hr5; have HG5 := Hid.mk2 hg5; have HA5 := Hid.mk2 (HA3.out.grown hg5 (by have := HLTS.out; intro e; have := Option.some.inj e; omega)); have zf := HA5.out.f 5; have z5 := HA5.out.c 5 (by simp); simp only [List.getElem_cons_zero, List.getElem_cons_succ] at z5; clear hr5 hg5)
          go_meet
          case rel =>
            have hgs : w5.grownBy (w5.setCell ⟨A, 5, none⟩ (.bool yy)) (some A) := g_set w5 ⟨A, 5, none⟩ (.bool yy)
            have hq := HLTS.out
            exact ⟨none, 0, a5, m5, c5, HA5.out.set 5 (.bool yy) (by simp), GRd.nil _, fun q e => (by cases e), HR5.out.grown hgs (fun e => by have := Option.some.inj e; omega) (fun x e => .inl (by rw [← Option.some.inj e]; exact HKK.out.2.1)), (HP3.out.grown HG5.out (fun e => by have := Option.some.inj e; omega)).grown hgs (fun e => by have := Option.some.inj e; omega), grown_below (grown_below HB3.out HG5.out (by omega)) hgs (by show V.heap.size ≤ A; omega)⟩
      have c23 : ¬ (c = 2 ∨ c = 3) := by
        rintro (e | e)
        · exact h23 (.inl (by rw [HKC.out, e]; rfl))
        · exact h23 (.inr (by rw [HKC.out, e]; rfl))
      have k2 : kc ≠ 2 := fun e => h23 (.inl e)
      have k3 : kc ≠ 3 := fun e => h23 (.inr e)
      have b1 : (kc == 1) = false := by simpa using h1
      have b2 : (kc == 2) = false := by simpa using k2
      have b3 : (kc == 3) = false := by simpa using k3
      by_cases h7 : kc = 7
      · have hc7 : c = 7 := UInt8.toNat_inj.1 (by have := HKC.out; show c.toNat = 7; omega)
        subst hc7
        have hq := HQ.out
        have e1 : pAns 7 b = (⟨7, 0, 0, [], 0, false, mk1 b⟩, ⟨[], false⟩) := rfl
        rw [e1] at hq
        cases hq
        have D1 := Hid.mk2 (pall_any W3 R K ⟨b, false⟩ ao m cap HRR.out)
        have D2 : Hid (Calls Try.prog 32 #[.pointer (some ⟨R, 0, none⟩)] W3 fun e w' => e = .returned (.string (mk1 b)) ∧ RdX W3 w' R K ⟨[], false⟩) := D1.out
        obtain ⟨kk, hkk⟩ : ∃ q, q = mk1 b := ⟨_, rfl⟩
        rw [← hkk] at D2
        subst h7
        clear D1 HQ x0 x1 x2 x3 x4 x5 x6 xf c1 c23 e1 b1 b2 b3
        go_wp2_with (go_at_call 32; refine D2.out.mono ?_; rintro e w5 ⟨rfl, ⟨a5, m5, c5, hr5⟩, hg5⟩; have HR5 := Hid.mk2 hr5; have HG5 := Hid.mk2 hg5; have HA5 := Hid.mk2 (HA3.out.grown hg5 (by have := HLTS.out; intro e; have := Option.some.inj e; omega)); have zf := HA5.out.f 6; have z6 := HA5.out.c 6 (by simp); simp only [List.getElem_cons_zero, List.getElem_cons_succ] at z6; clear hr5 hg5)
        go_meet
        case rel =>
          have hgs : w5.grownBy (w5.setCell ⟨A, 6, none⟩ (.string kk)) (some A) := g_set w5 ⟨A, 6, none⟩ (.string kk)
          have hq := HLTS.out
          rw [← hkk]
          exact ⟨none, 0, a5, m5, c5, HA5.out.set 6 (.string kk) (by simp), GRd.nil _, fun q e => (by cases e), HR5.out.grown hgs (fun e => by have := Option.some.inj e; omega) (fun x e => .inl (by rw [← Option.some.inj e]; exact HKK.out.2.1)), (HP3.out.grown HG5.out (fun e => by have := Option.some.inj e; omega)).grown hgs (fun e => by have := Option.some.inj e; omega), grown_below (grown_below HB3.out HG5.out (by omega)) hgs (by show V.heap.size ≤ A; omega)⟩
      · have b7 : (kc == 7) = false := by simpa using h7
        have c7 : ¬ c = 7 := fun e => h7 (by rw [HKC.out, e]; rfl)
        have hq := HQ.out
        have e1 : pAns c b = (⟨(c.toNat : Int), 0, 0, [], 0, false, ⟨#[]⟩⟩, ⟨b, false⟩) := by unfold pAns; rw [if_neg c1, if_neg c23, if_neg c7]
        rw [e1, ← HKC.out] at hq
        cases hq
        clear HQ x0 x1 x2 x3 x4 x5 x6 xf c1 c23 e1 c7
        go_wp2
        go_meet
        case rel => exact ⟨none, 0, ao, m, cap, HA3.out, GRd.nil _, fun q e => (by cases e), HRR.out, HP3.out, HB3.out⟩
    case rest =>
      apply_assumption
      obtain ⟨lo, lc, ao2, m2, cap2, hz⟩ := hcut
      obtain ⟨w5, hw5⟩ : ∃ w5, w5 = wc := ⟨_, rfl⟩
      rw [← hw5] at hz ⊢
      obtain ⟨k0, k1, k2, L, k4, k5, k6⟩ := a
      obtain ⟨sl, sb⟩ := s
      have HZ := Hid.mk2 hz
      have HPZ := Hid.mk2 hz.p
      have hm2 : m2 = sl.length := hz.rdr.len
      have HOK2 : Hid (OK = (!sb && decide (sl.length = 0))) := HOK.out
      have HNE : Hid (P ≠ A ∧ P ≠ R ∧ V.heap.size ≤ P) := by have h9 := HLTS.out; exact ⟨by omega, by omega, by omega⟩
      obtain ⟨n0, hn0⟩ : ∃ n0, n0 = L.length := ⟨_, rfl⟩
      have HN0 := Hid.mk2 hn0
      have HBX : Hid (GBx w5 A [.int .u8 k0, .int .u8 k1, .int .u8 k2, .slice lo n0 lc, .int .u64 k4, .bool k5, .string k6]) := by rw [hn0]; exact hz.bx
      have HRB : Hid (GBx w5 R [.slice ao2 m2 cap2, .bool sb]) := hz.rdr.box
      obtain ⟨WF, hWF⟩ : ∃ WF, WF = ((((((w5.setCell ⟨P, 0, none⟩ (.int .u8 k0)).setCell ⟨P, 1, none⟩ (.int .u8 k1)).setCell ⟨P, 2, none⟩ (.int .u8 k2)).setCell ⟨P, 3, none⟩ (.slice lo n0 lc)).setCell ⟨P, 4, none⟩ (.int .u64 k4)).setCell ⟨P, 5, none⟩ (.bool k5)).setCell ⟨P, 6, none⟩ (.string k6) := ⟨_, rfl⟩
      have hgf := pset7_gr w5 P (.int .u8 k0) (.int .u8 k1) (.int .u8 k2) (.slice lo n0 lc) (.int .u64 k4) (.bool k5) (.string k6)
      rw [← hWF] at hgf
      have HWP : Hid (GBx WF P [.int .u8 k0, .int .u8 k1, .int .u8 k2, .slice lo n0 lc, .int .u64 k4, .bool k5, .string k6]) := by rw [hWF]; exact pset7 HPZ.out rfl _ _ _ _ _ _ _
      have HWA := Hid.mk2 (HBX.out.grown hgf (fun e => HNE.out.1 (Option.some.inj e)))
      have HWR := Hid.mk2 (HRB.out.grown hgf (fun e => HNE.out.2.1 (Option.some.inj e)))
      have HWI : Hid (GRd EM WF lo L lc ∧ Below V.heap.size V WF) := ⟨grd_grown hz.its hgf (fun g off e _ e2 => by have h9 := hz.far _ e; have := Option.some.inj e2; dsimp only at h9; omega), grown_below hz.bel hgf HNE.out.2.2⟩
      have HWF := Hid.mk2 hWF
      have pf0 := HPZ.out.f 0
      have pf1 := HPZ.out.f 1
      have pf2 := HPZ.out.f 2
      have pf3 := HPZ.out.f 3
      have pf4 := HPZ.out.f 4
      have pf5 := HPZ.out.f 5
      have pf6 := HPZ.out.f 6
      have y0 := HPZ.out.c 0 (by simp [azc])
      have y1 := HPZ.out.c 1 (by simp [azc])
      have y2 := HPZ.out.c 2 (by simp [azc])
      have y3 := HPZ.out.c 3 (by simp [azc])
      have y4 := HPZ.out.c 4 (by simp [azc])
      have y5 := HPZ.out.c 5 (by simp [azc])
      have y6 := HPZ.out.c 6 (by simp [azc])
      simp only [azc, List.getElem_cons_zero, List.getElem_cons_succ] at y0 y1 y2 y3 y4 y5 y6
      have HFR : Hid (∀ q, lo = some q → V.heap.size < q.block) := fun q e => by have h9 := hz.far q e; have := HLTS.out; omega
      have HEND : Hid (∀ e : Ending, e = .returned (.tuple #[.agg #[.int .u8 k0, .int .u8 k1, .int .u8 k2, .slice lo n0 lc, .int .u64 k4, .bool k5, .string k6], .bool OK]) → (∃ lo lc, e = .returned (.tuple #[.agg ((An.mk k0 k1 k2 L k4 k5 k6).arr (.slice lo L.length lc)), .bool OK]) ∧ GRd EM WF.drew lo L lc ∧ ∀ q, lo = some q → V.heap.size < q.block) ∧ Below V.heap.size V WF.drew) := by
        rintro e rfl
        exact ⟨⟨lo, lc, by rw [HN0.out]; rfl, HWI.out.1.below ((Below.refl _ _).drew), HFR.out⟩, HWI.out.2.drew⟩
      (try dsimp only)
      clear hz hw5 hn0 hWF hgf HOK HZ
      cases sb with
      | true =>
        have hok : OK = false := HOK2.out
        subst hok
        have HS : Hid (GBx w5.drew A [.int .u8 k0, .int .u8 k1, .int .u8 k2, .slice lo n0 lc, .int .u64 k4, .bool k5, .string k6] ∧ GBx w5.drew R [.slice ao2 m2 cap2, .bool true]) := ⟨HBX.out.below ((Below.refl _ _).drew), HRB.out.below ((Below.refl _ _).drew)⟩
        have HSF : Hid (GBx WF.drew A [.int .u8 k0, .int .u8 k1, .int .u8 k2, .slice lo n0 lc, .int .u64 k4, .bool k5, .string k6] ∧ GBx WF.drew R [.slice ao2 m2 cap2, .bool true]) := ⟨HWA.out.below ((Below.refl _ _).drew), HWR.out.below ((Below.refl _ _).drew)⟩
        clear hm2
        go_upto_region 11 with (fail)
        refine wp_region_noPanic ?_
        refine wp_region_held_drew (S := (fun V => GBx V A [.int .u8 k0, .int .u8 k1, .int .u8 k2, .slice lo n0 lc, .int .u64 k4, .bool k5, .string k6] ∧ GBx V R [.slice ao2 m2 cap2, .bool true])) (by kernel_rfl) HS.out (fun _ => ?_)
        refine wpAnyH_take (i := 0) (v := .agg #[.int .u8 k0, .int .u8 k1, .int .u8 k2, .slice lo n0 lc, .int .u64 k4, .bool k5, .string k6]) rfl (by kernel_rfl) (by kernel_rfl) (by kernel_rfl) (fun _ _ _ h => h) (Or.inl ⟨by kernel_rfl, fun W hW => by have q0 := hW.1.c 0 (by simp); have q1 := hW.1.c 1 (by simp); have q2 := hW.1.c 2 (by simp); have q3 := hW.1.c 3 (by simp); have q4 := hW.1.c 4 (by simp); have q5 := hW.1.c 5 (by simp); have q6 := hW.1.c 6 (by simp); simp only [List.getElem_cons_zero, List.getElem_cons_succ] at q0 q1 q2 q3 q4 q5 q6; go_simp⟩) HS.out ?_
        try simp only [List.getElem_toArray, List.getElem_cons_zero, List.getElem_cons_succ, Act.put, List.setIfInBounds_toArray, List.set_cons_zero, List.set_cons_succ, List.append_eq, List.cons_append, List.nil_append]
        refine wpAnyH_take (i := 1) (v := .pointer (some ⟨R, 1, none⟩)) rfl (by kernel_rfl) (by kernel_rfl) (by kernel_rfl) (fun _ _ _ h => h) (Or.inl ⟨by kernel_rfl, fun W hW => by go_simp⟩) HS.out ?_
        try simp only [List.getElem_toArray, List.getElem_cons_zero, List.getElem_cons_succ, Act.put, List.setIfInBounds_toArray, List.set_cons_zero, List.set_cons_succ, List.append_eq, List.cons_append, List.nil_append]
        refine wpAnyH_take (i := 2) (v := .bool true) rfl (by kernel_rfl) (by kernel_rfl) (by kernel_rfl) (fun _ _ _ h => h) (Or.inl ⟨by kernel_rfl, fun W hW => by have q1 := hW.2.c 1 (by simp); simp only [List.getElem_cons_zero, List.getElem_cons_succ] at q1; go_simp⟩) HS.out ?_
        try simp only [List.getElem_toArray, List.getElem_cons_zero, List.getElem_cons_succ, Act.put, List.setIfInBounds_toArray, List.set_cons_zero, List.set_cons_succ, List.append_eq, List.cons_append, List.nil_append]
        refine wpAnyH_take (i := 3) (v := .bool false) rfl (by kernel_rfl) (by kernel_rfl) (by kernel_rfl) (fun _ _ _ h => h) (Or.inl ⟨by kernel_rfl, fun W hW => by go_simp⟩) HS.out ?_
        try simp only [List.getElem_toArray, List.getElem_cons_zero, List.getElem_cons_succ, Act.put, List.setIfInBounds_toArray, List.set_cons_zero, List.set_cons_succ, List.append_eq, List.cons_append, List.nil_append]
        refine wpAnyH_take (i := 4) (v := .bool false) rfl (by kernel_rfl) (by kernel_rfl) (by kernel_rfl) (fun _ _ _ h => h) (Or.inl ⟨by kernel_rfl, fun W hW => by kernel_rfl⟩) HS.out ?_
        try simp only [List.getElem_toArray, List.getElem_cons_zero, List.getElem_cons_succ, Act.put, List.setIfInBounds_toArray, List.set_cons_zero, List.set_cons_succ, List.append_eq, List.cons_append, List.nil_append]
        refine wpAnyH_take (i := 5) (v := undef) rfl (by kernel_rfl) (by kernel_rfl) (by kernel_rfl) (fun _ _ _ h => h) (Or.inr ⟨by kernel_rfl, rfl⟩) HS.out ?_
        try simp only [List.getElem_toArray, List.getElem_cons_zero, List.getElem_cons_succ, Act.put, List.setIfInBounds_toArray, List.set_cons_zero, List.set_cons_succ, List.append_eq, List.cons_append, List.nil_append]
        refine wpAnyH_take (i := 6) (v := undef) rfl (by kernel_rfl) (by kernel_rfl) (by kernel_rfl) (fun _ _ _ h => h) (Or.inr ⟨by kernel_rfl, rfl⟩) HS.out ?_
        try simp only [List.getElem_toArray, List.getElem_cons_zero, List.getElem_cons_succ, Act.put, List.setIfInBounds_toArray, List.set_cons_zero, List.set_cons_succ, List.append_eq, List.cons_append, List.nil_append]
        refine wpAnyH_take (i := 7) (v := undef) rfl (by kernel_rfl) (by kernel_rfl) (by kernel_rfl) (fun _ _ _ h => h) (Or.inr ⟨by kernel_rfl, rfl⟩) HS.out ?_
        try simp only [List.getElem_toArray, List.getElem_cons_zero, List.getElem_cons_succ, Act.put, List.setIfInBounds_toArray, List.set_cons_zero, List.set_cons_succ, List.append_eq, List.cons_append, List.nil_append]
        refine wpAnyH_take (i := 8) (v := undef) rfl (by kernel_rfl) (by kernel_rfl) (by kernel_rfl) (fun _ _ _ h => h) (Or.inr ⟨by kernel_rfl, rfl⟩) HS.out ?_
        try simp only [List.getElem_toArray, List.getElem_cons_zero, List.getElem_cons_succ, Act.put, List.setIfInBounds_toArray, List.set_cons_zero, List.set_cons_succ, List.append_eq, List.cons_append, List.nil_append]
        refine wpAnyH_take (i := 9) (v := .bool false) rfl (by kernel_rfl) (by kernel_rfl) (by kernel_rfl) (fun _ _ _ h => h) (Or.inl ⟨by kernel_rfl, fun W hW => by go_simp⟩) HS.out ?_
        try simp only [List.getElem_toArray, List.getElem_cons_zero, List.getElem_cons_succ, Act.put, List.setIfInBounds_toArray, List.set_cons_zero, List.set_cons_succ, List.append_eq, List.cons_append, List.nil_append]
        refine wpAnyH_ready (rs := [10]) (by kernel_rfl) (by simp) ?_
        refine AllReadyH.cons rfl (fun K hK => ?_) AllReadyH.nil
        try simp only [List.getElem_toArray, List.getElem_cons_zero, List.getElem_cons_succ]
        go_simp
        rw [← HWF.out]
        refine hK.out _ _ HSF.out (fun _ => ?_)
        clear hK K
        try simp only [List.getElem_toArray, List.getElem_cons_zero, List.getElem_cons_succ, Act.put, List.setIfInBounds_toArray, List.set_cons_zero, List.set_cons_succ, List.append_eq, List.cons_append, List.nil_append]
        refine wpAnyH_ready (rs := [11]) (by kernel_rfl) (by simp) ?_
        refine AllReadyH.cons rfl (fun K hK => ?_) AllReadyH.nil
        try simp only [List.getElem_toArray, List.getElem_cons_zero, List.getElem_cons_succ]
        go_simp
        refine hK.out _ _ HSF.out (fun _ => ?_)
        clear hK K
        try simp only [List.getElem_toArray, List.getElem_cons_zero, List.getElem_cons_succ, Act.put, List.setIfInBounds_toArray, List.set_cons_zero, List.set_cons_succ, List.append_eq, List.cons_append, List.nil_append]
        refine wpAnyH_done (by kernel_rfl) ?_ _
        refine NoPanic.normal ?_
        go_wp2_with fail
        refine bodyPost_ret (res_cell rfl rfl (load_var (HWP.out.below ((Below.refl _ _).drew)) 31 _ Try.underlying31 rfl (by kernel_rfl))) rfl ?_
        exact HEND.out _ rfl
      | false =>
        have HS : Hid (GBx w5.drew A [.int .u8 k0, .int .u8 k1, .int .u8 k2, .slice lo n0 lc, .int .u64 k4, .bool k5, .string k6] ∧ GBx w5.drew R [.slice ao2 m2 cap2, .bool false]) := ⟨HBX.out.below ((Below.refl _ _).drew), HRB.out.below ((Below.refl _ _).drew)⟩
        have HSF : Hid (GBx WF.drew A [.int .u8 k0, .int .u8 k1, .int .u8 k2, .slice lo n0 lc, .int .u64 k4, .bool k5, .string k6] ∧ GBx WF.drew R [.slice ao2 m2 cap2, .bool false]) := ⟨HWA.out.below ((Below.refl _ _).drew), HWR.out.below ((Below.refl _ _).drew)⟩
        by_cases h0 : m2 = 0
        · have hok : OK = true := by rw [HOK2.out, decide_eq_true (by omega)]; rfl
          subst hok h0
          clear hm2
          go_upto_region 11 with (fail)
          refine wp_region_noPanic ?_
          refine wp_region_held_drew (S := (fun V => GBx V A [.int .u8 k0, .int .u8 k1, .int .u8 k2, .slice lo n0 lc, .int .u64 k4, .bool k5, .string k6] ∧ GBx V R [.slice ao2 0 cap2, .bool false])) (by kernel_rfl) HS.out (fun _ => ?_)
          refine wpAnyH_take (i := 0) (v := .agg #[.int .u8 k0, .int .u8 k1, .int .u8 k2, .slice lo n0 lc, .int .u64 k4, .bool k5, .string k6]) rfl (by kernel_rfl) (by kernel_rfl) (by kernel_rfl) (fun _ _ _ h => h) (Or.inl ⟨by kernel_rfl, fun W hW => by have q0 := hW.1.c 0 (by simp); have q1 := hW.1.c 1 (by simp); have q2 := hW.1.c 2 (by simp); have q3 := hW.1.c 3 (by simp); have q4 := hW.1.c 4 (by simp); have q5 := hW.1.c 5 (by simp); have q6 := hW.1.c 6 (by simp); simp only [List.getElem_cons_zero, List.getElem_cons_succ] at q0 q1 q2 q3 q4 q5 q6; go_simp⟩) HS.out ?_
          try simp only [List.getElem_toArray, List.getElem_cons_zero, List.getElem_cons_succ, Act.put, List.setIfInBounds_toArray, List.set_cons_zero, List.set_cons_succ, List.append_eq, List.cons_append, List.nil_append]
          refine wpAnyH_take (i := 1) (v := .pointer (some ⟨R, 1, none⟩)) rfl (by kernel_rfl) (by kernel_rfl) (by kernel_rfl) (fun _ _ _ h => h) (Or.inl ⟨by kernel_rfl, fun W hW => by go_simp⟩) HS.out ?_
          try simp only [List.getElem_toArray, List.getElem_cons_zero, List.getElem_cons_succ, Act.put, List.setIfInBounds_toArray, List.set_cons_zero, List.set_cons_succ, List.append_eq, List.cons_append, List.nil_append]
          refine wpAnyH_take (i := 2) (v := .bool false) rfl (by kernel_rfl) (by kernel_rfl) (by kernel_rfl) (fun _ _ _ h => h) (Or.inl ⟨by kernel_rfl, fun W hW => by have q1 := hW.2.c 1 (by simp); simp only [List.getElem_cons_zero, List.getElem_cons_succ] at q1; go_simp⟩) HS.out ?_
          try simp only [List.getElem_toArray, List.getElem_cons_zero, List.getElem_cons_succ, Act.put, List.setIfInBounds_toArray, List.set_cons_zero, List.set_cons_succ, List.append_eq, List.cons_append, List.nil_append]
          refine wpAnyH_take (i := 3) (v := .bool true) rfl (by kernel_rfl) (by kernel_rfl) (by kernel_rfl) (fun _ _ _ h => h) (Or.inl ⟨by kernel_rfl, fun W hW => by go_simp⟩) HS.out ?_
          try simp only [List.getElem_toArray, List.getElem_cons_zero, List.getElem_cons_succ, Act.put, List.setIfInBounds_toArray, List.set_cons_zero, List.set_cons_succ, List.append_eq, List.cons_append, List.nil_append]
          refine wpAnyH_take (i := 4) (v := .bool true) rfl (by kernel_rfl) (by kernel_rfl) (by kernel_rfl) (fun _ _ _ h => h) (Or.inl ⟨by kernel_rfl, fun W hW => by kernel_rfl⟩) HS.out ?_
          try simp only [List.getElem_toArray, List.getElem_cons_zero, List.getElem_cons_succ, Act.put, List.setIfInBounds_toArray, List.set_cons_zero, List.set_cons_succ, List.append_eq, List.cons_append, List.nil_append]
          refine wpAnyH_take (i := 5) (v := .pointer (some ⟨R, 0, none⟩)) rfl (by kernel_rfl) (by kernel_rfl) (by kernel_rfl) (fun _ _ _ h => h) (Or.inl ⟨by kernel_rfl, fun W hW => by go_simp⟩) HS.out ?_
          try simp only [List.getElem_toArray, List.getElem_cons_zero, List.getElem_cons_succ, Act.put, List.setIfInBounds_toArray, List.set_cons_zero, List.set_cons_succ, List.append_eq, List.cons_append, List.nil_append]
          refine wpAnyH_take (i := 6) (v := .slice ao2 0 cap2) rfl (by kernel_rfl) (by kernel_rfl) (by kernel_rfl) (fun _ _ _ h => h) (Or.inl ⟨by kernel_rfl, fun W hW => by have q0 := hW.2.c 0 (by simp); simp only [List.getElem_cons_zero, List.getElem_cons_succ] at q0; go_simp⟩) HS.out ?_
          try simp only [List.getElem_toArray, List.getElem_cons_zero, List.getElem_cons_succ, Act.put, List.setIfInBounds_toArray, List.set_cons_zero, List.set_cons_succ, List.append_eq, List.cons_append, List.nil_append]
          refine wpAnyH_take (i := 7) (v := .int .i64 (0 : Int)) rfl (by kernel_rfl) (by kernel_rfl) (by kernel_rfl) (fun _ _ _ h => h) (Or.inl ⟨by kernel_rfl, fun W hW => by go_simp⟩) HS.out ?_
          try simp only [List.getElem_toArray, List.getElem_cons_zero, List.getElem_cons_succ, Act.put, List.setIfInBounds_toArray, List.set_cons_zero, List.set_cons_succ, List.append_eq, List.cons_append, List.nil_append]
          refine wpAnyH_take (i := 8) (v := .bool true) rfl (by kernel_rfl) (by kernel_rfl) (by kernel_rfl) (fun _ _ _ h => h) (Or.inl ⟨by kernel_rfl, fun W hW => by go_simp⟩) HS.out ?_
          try simp only [List.getElem_toArray, List.getElem_cons_zero, List.getElem_cons_succ, Act.put, List.setIfInBounds_toArray, List.set_cons_zero, List.set_cons_succ, List.append_eq, List.cons_append, List.nil_append]
          refine wpAnyH_take (i := 9) (v := .bool true) rfl (by kernel_rfl) (by kernel_rfl) (by kernel_rfl) (fun _ _ _ h => h) (Or.inl ⟨by kernel_rfl, fun W hW => by go_simp⟩) HS.out ?_
          try simp only [List.getElem_toArray, List.getElem_cons_zero, List.getElem_cons_succ, Act.put, List.setIfInBounds_toArray, List.set_cons_zero, List.set_cons_succ, List.append_eq, List.cons_append, List.nil_append]
          refine wpAnyH_ready (rs := [10]) (by kernel_rfl) (by simp) ?_
          refine AllReadyH.cons rfl (fun K hK => ?_) AllReadyH.nil
          try simp only [List.getElem_toArray, List.getElem_cons_zero, List.getElem_cons_succ]
          go_simp
          rw [← HWF.out]
          refine hK.out _ _ HSF.out (fun _ => ?_)
          clear hK K
          try simp only [List.getElem_toArray, List.getElem_cons_zero, List.getElem_cons_succ, Act.put, List.setIfInBounds_toArray, List.set_cons_zero, List.set_cons_succ, List.append_eq, List.cons_append, List.nil_append]
          refine wpAnyH_ready (rs := [11]) (by kernel_rfl) (by simp) ?_
          refine AllReadyH.cons rfl (fun K hK => ?_) AllReadyH.nil
          try simp only [List.getElem_toArray, List.getElem_cons_zero, List.getElem_cons_succ]
          go_simp
          refine hK.out _ _ HSF.out (fun _ => ?_)
          clear hK K
          try simp only [List.getElem_toArray, List.getElem_cons_zero, List.getElem_cons_succ, Act.put, List.setIfInBounds_toArray, List.set_cons_zero, List.set_cons_succ, List.append_eq, List.cons_append, List.nil_append]
          refine wpAnyH_done (by kernel_rfl) ?_ _
          refine NoPanic.normal ?_
          go_wp2_with fail
          refine bodyPost_ret (res_cell rfl rfl (load_var (HWP.out.below ((Below.refl _ _).drew)) 31 _ Try.underlying31 rfl (by kernel_rfl))) rfl ?_
          exact HEND.out _ rfl
        · have hok : OK = false := by rw [HOK2.out, decide_eq_false (by omega)]; rfl
          subst hok
          have hmb : ((m2 : Int) == 0) = false := by simpa using h0
          clear hm2
          go_upto_region 11 with (fail)
          refine wp_region_noPanic ?_
          refine wp_region_held_drew (S := (fun V => GBx V A [.int .u8 k0, .int .u8 k1, .int .u8 k2, .slice lo n0 lc, .int .u64 k4, .bool k5, .string k6] ∧ GBx V R [.slice ao2 m2 cap2, .bool false])) (by kernel_rfl) HS.out (fun _ => ?_)
          refine wpAnyH_take (i := 0) (v := .agg #[.int .u8 k0, .int .u8 k1, .int .u8 k2, .slice lo n0 lc, .int .u64 k4, .bool k5, .string k6]) rfl (by kernel_rfl) (by kernel_rfl) (by kernel_rfl) (fun _ _ _ h => h) (Or.inl ⟨by kernel_rfl, fun W hW => by have q0 := hW.1.c 0 (by simp); have q1 := hW.1.c 1 (by simp); have q2 := hW.1.c 2 (by simp); have q3 := hW.1.c 3 (by simp); have q4 := hW.1.c 4 (by simp); have q5 := hW.1.c 5 (by simp); have q6 := hW.1.c 6 (by simp); simp only [List.getElem_cons_zero, List.getElem_cons_succ] at q0 q1 q2 q3 q4 q5 q6; go_simp⟩) HS.out ?_
          try simp only [List.getElem_toArray, List.getElem_cons_zero, List.getElem_cons_succ, Act.put, List.setIfInBounds_toArray, List.set_cons_zero, List.set_cons_succ, List.append_eq, List.cons_append, List.nil_append]
          refine wpAnyH_take (i := 1) (v := .pointer (some ⟨R, 1, none⟩)) rfl (by kernel_rfl) (by kernel_rfl) (by kernel_rfl) (fun _ _ _ h => h) (Or.inl ⟨by kernel_rfl, fun W hW => by go_simp⟩) HS.out ?_
          try simp only [List.getElem_toArray, List.getElem_cons_zero, List.getElem_cons_succ, Act.put, List.setIfInBounds_toArray, List.set_cons_zero, List.set_cons_succ, List.append_eq, List.cons_append, List.nil_append]
          refine wpAnyH_take (i := 2) (v := .bool false) rfl (by kernel_rfl) (by kernel_rfl) (by kernel_rfl) (fun _ _ _ h => h) (Or.inl ⟨by kernel_rfl, fun W hW => by have q1 := hW.2.c 1 (by simp); simp only [List.getElem_cons_zero, List.getElem_cons_succ] at q1; go_simp⟩) HS.out ?_
          try simp only [List.getElem_toArray, List.getElem_cons_zero, List.getElem_cons_succ, Act.put, List.setIfInBounds_toArray, List.set_cons_zero, List.set_cons_succ, List.append_eq, List.cons_append, List.nil_append]
          refine wpAnyH_take (i := 3) (v := .bool true) rfl (by kernel_rfl) (by kernel_rfl) (by kernel_rfl) (fun _ _ _ h => h) (Or.inl ⟨by kernel_rfl, fun W hW => by go_simp⟩) HS.out ?_
          try simp only [List.getElem_toArray, List.getElem_cons_zero, List.getElem_cons_succ, Act.put, List.setIfInBounds_toArray, List.set_cons_zero, List.set_cons_succ, List.append_eq, List.cons_append, List.nil_append]
          refine wpAnyH_take (i := 4) (v := .bool true) rfl (by kernel_rfl) (by kernel_rfl) (by kernel_rfl) (fun _ _ _ h => h) (Or.inl ⟨by kernel_rfl, fun W hW => by kernel_rfl⟩) HS.out ?_
          try simp only [List.getElem_toArray, List.getElem_cons_zero, List.getElem_cons_succ, Act.put, List.setIfInBounds_toArray, List.set_cons_zero, List.set_cons_succ, List.append_eq, List.cons_append, List.nil_append]
          refine wpAnyH_take (i := 5) (v := .pointer (some ⟨R, 0, none⟩)) rfl (by kernel_rfl) (by kernel_rfl) (by kernel_rfl) (fun _ _ _ h => h) (Or.inl ⟨by kernel_rfl, fun W hW => by go_simp⟩) HS.out ?_
          try simp only [List.getElem_toArray, List.getElem_cons_zero, List.getElem_cons_succ, Act.put, List.setIfInBounds_toArray, List.set_cons_zero, List.set_cons_succ, List.append_eq, List.cons_append, List.nil_append]
          refine wpAnyH_take (i := 6) (v := .slice ao2 m2 cap2) rfl (by kernel_rfl) (by kernel_rfl) (by kernel_rfl) (fun _ _ _ h => h) (Or.inl ⟨by kernel_rfl, fun W hW => by have q0 := hW.2.c 0 (by simp); simp only [List.getElem_cons_zero, List.getElem_cons_succ] at q0; go_simp⟩) HS.out ?_
          try simp only [List.getElem_toArray, List.getElem_cons_zero, List.getElem_cons_succ, Act.put, List.setIfInBounds_toArray, List.set_cons_zero, List.set_cons_succ, List.append_eq, List.cons_append, List.nil_append]
          refine wpAnyH_take (i := 7) (v := .int .i64 (m2 : Int)) rfl (by kernel_rfl) (by kernel_rfl) (by kernel_rfl) (fun _ _ _ h => h) (Or.inl ⟨by kernel_rfl, fun W hW => by go_simp⟩) HS.out ?_
          try simp only [List.getElem_toArray, List.getElem_cons_zero, List.getElem_cons_succ, Act.put, List.setIfInBounds_toArray, List.set_cons_zero, List.set_cons_succ, List.append_eq, List.cons_append, List.nil_append]
          refine wpAnyH_take (i := 8) (v := .bool false) rfl (by kernel_rfl) (by kernel_rfl) (by kernel_rfl) (fun _ _ _ h => h) (Or.inl ⟨by kernel_rfl, fun W hW => by go_simp⟩) HS.out ?_
          try simp only [List.getElem_toArray, List.getElem_cons_zero, List.getElem_cons_succ, Act.put, List.setIfInBounds_toArray, List.set_cons_zero, List.set_cons_succ, List.append_eq, List.cons_append, List.nil_append]
          refine wpAnyH_take (i := 9) (v := .bool false) rfl (by kernel_rfl) (by kernel_rfl) (by kernel_rfl) (fun _ _ _ h => h) (Or.inl ⟨by kernel_rfl, fun W hW => by go_simp⟩) HS.out ?_
          try simp only [List.getElem_toArray, List.getElem_cons_zero, List.getElem_cons_succ, Act.put, List.setIfInBounds_toArray, List.set_cons_zero, List.set_cons_succ, List.append_eq, List.cons_append, List.nil_append]
          refine wpAnyH_ready (rs := [10]) (by kernel_rfl) (by simp) ?_
          refine AllReadyH.cons rfl (fun K hK => ?_) AllReadyH.nil
          try simp only [List.getElem_toArray, List.getElem_cons_zero, List.getElem_cons_succ]
          go_simp
          rw [← HWF.out]
          refine hK.out _ _ HSF.out (fun _ => ?_)
          clear hK K
          try simp only [List.getElem_toArray, List.getElem_cons_zero, List.getElem_cons_succ, Act.put, List.setIfInBounds_toArray, List.set_cons_zero, List.set_cons_succ, List.append_eq, List.cons_append, List.nil_append]
          refine wpAnyH_ready (rs := [11]) (by kernel_rfl) (by simp) ?_
          refine AllReadyH.cons rfl (fun K hK => ?_) AllReadyH.nil
          try simp only [List.getElem_toArray, List.getElem_cons_zero, List.getElem_cons_succ]
          go_simp
          refine hK.out _ _ HSF.out (fun _ => ?_)
          clear hK K
          try simp only [List.getElem_toArray, List.getElem_cons_zero, List.getElem_cons_succ, Act.put, List.setIfInBounds_toArray, List.set_cons_zero, List.set_cons_succ, List.append_eq, List.cons_append, List.nil_append]
          refine wpAnyH_done (by kernel_rfl) ?_ _
          refine NoPanic.normal ?_
          go_wp2_with fail
          refine bodyPost_ret (res_cell rfl rfl (load_var (HWP.out.below ((Below.refl _ _).drew)) 31 _ Try.underlying31 rfl (by kernel_rfl))) rfl ?_
          exact HEND.out _ rfl
end Go.Proofs.Ytfjcaofmcjhdpaa
