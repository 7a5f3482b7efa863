/-
  PackedNames: the chapter's examples. No condition.
-/
import Derived.Test.YtblbabekbpcdiaaPkK
namespace Go.Proofs.Ytblbabekbpcdiaa
open Go.Proofs.Ytblbabekbpcdiaa.It
open Go.ChangeShapes Go.WideShapes Go.ChangeAt Go.RowKit
open Go.ChangeMaps (open_string shut_string)
set_option linter.unusedSimpArgs false
set_option linter.unusedVariables false
set_option maxRecDepth 100000

def gI17 : Im := ⟨⟨#[107]⟩, ⟨#[97, 98]⟩, 7, 0, 3⟩
def gA17 : An := ⟨1, 1, 1, [gI17], 0, false, ⟨#[]⟩⟩
def pA17 : An := ⟨4, 0, 0, [], 0, false, ⟨#[]⟩⟩
theorem gA17_may : gA17.may = true := by
  unfold An.may gA17
  rw [if_pos rfl]
  dsimp only
  rw [pem0]
  rfl
theorem gA17_body : gA17.body = [1, 1, 0, 1, 1, 107, 2, 97, 98, 7, 0, 3] := by
  unfold An.body gA17
  rw [if_pos rfl]
  rfl
theorem gA17_wp : gA17.wpE = 0 ∧ gA17.wp = [178, 1, 0, 0, 0, 12, 1, 1, 0, 1, 1, 107, 2, 97, 98, 7, 0, 3] := by
  have hE : gA17.wpE = 0 := by
    unfold An.wpE
    rw [if_pos gA17_may, gA17_body]
    rfl
  refine ⟨hE, ?_⟩
  unfold An.wp
  rw [if_pos hE, gA17_body]
  rfl
theorem gA17_pf : gA17.Pf := ⟨by decide, by decide, by decide, by decide, fun x hx => by
  have : x = gI17 := by simpa [gA17] using hx
  subst this
  exact ⟨⟨by decide, by decide⟩, ⟨by decide, by decide⟩⟩⟩
theorem pA17_may : pA17.may = true := by
  unfold An.may pA17
  rw [if_neg (by decide), if_neg (by decide), if_neg (by decide), if_pos (by decide)]
  dsimp only
  rw [pem0]
  rfl
theorem pA17_wp : pA17.wpE = 0 ∧ pA17.wp = [178, 4, 0, 0, 0, 0] := by
  have hE : pA17.wpE = 0 := by
    unfold An.wpE
    rw [if_pos pA17_may]
    rfl
  refine ⟨hE, ?_⟩
  unfold An.wp
  rw [if_pos hE]
  rfl
theorem zan_pf : zan.Pf := ⟨by decide, by decide, by decide, by decide, fun x hx => by cases hx⟩
theorem pA17_pf : pA17.Pf := ⟨by decide, by decide, by decide, by decide, fun x hx => by cases hx⟩
theorem zan_wp : zan.wpE = 8 ∧ zan.wp = [] := ⟨rfl, rfl⟩
theorem pnames_r0 : readQ [178, 4, 0, 0, 0] = (zan, 0, 0) := by kernel_rfl
theorem pnames_r1 : readQ [177] = (zan, 0, 8) := by kernel_rfl
theorem pnames_r2 : readQ [178, 9, 0, 0, 0, 0] = (zan, 0, 8) := by kernel_rfl
/-- more bytes than there may be -/
theorem cut_long (V : World) (ao : Option Addr) (m cap : Nat) (hm : 16384 < m) (hm2 : m ≤ 9223372036854775807) : Calls Try.prog 18 #[.int .u8 178, .slice ao m cap] V fun e V' => e = .returned (.tuple #[.int .u8 0, .slice none 0 0, .int .i64 0, .int .i64 3]) ∧ Below V.heap.size V V' := by
  have hmi : (16384 : Int) < (m : Int) := by omega
  have hm3 : (m : Int) ≤ 9223372036854775807 := by omega
  clear hm hm2
  go_enter Try.func18, Try.ntmps18
  go_wp2
  (try simp only [Exit.inBlock, Exit.then])
  refine bodyPost_ret (results_tmp4 rfl _ _ _) rfl ?_
  exact ⟨rfl, Below.refl _ _⟩
theorem pRead_long (V : World) (ao : Option Addr) (m cap : Nat) (hm : 16384 < m) (hm2 : m ≤ 9223372036854775807) : Calls Try.prog 9 #[.slice ao m cap] V fun e V' => e = .returned (.tuple #[.agg #[.int .u8 0, .int .u8 0, .int .u8 0, .slice none 0 0, .int .u64 0, .bool false, .string ⟨#[]⟩], .int .i64 0, .int .i64 3]) ∧ Below V.heap.size V V' := by
  obtain ⟨W, hW⟩ : ∃ W, W = V.alloc (.cells #[.int .u8 0, .int .u8 0, .int .u8 0, .slice none 0 0, .int .u64 0, .bool false, .string ⟨#[]⟩] 31) := ⟨_, rfl⟩
  have HP0 : Hid (GBx W V.heap.size azc) := by rw [hW]; exact GBx.made V azc _
  have HB0 : Hid (Below V.heap.size V W) := by rw [hW]; exact g_alloc _ _
  have HC := Hid.mk2 (cut_long W ao m cap hm hm2)
  obtain ⟨P, hP⟩ : ∃ P, P = V.heap.size := ⟨_, rfl⟩
  have HPV := Hid.mk2 hP
  rw [← hP] at HP0
  clear hm hm2
  go_enter Try.func9, Try.ntmps9
  go_upto_region 1 with (fail)
  rw [← hW, ← hP]
  clear hW hP
  go_wp2_with (go_at_call 18; refine HC.out.mono ?_; rintro e w1 ⟨rfl, hb1⟩; have HB1 := Hid.mk2 (g_on HB0.out hb1); have HP1 := Hid.mk2 (HP0.out.below hb1); have z0 := HP1.out.c 0 (by simp [azc]); have z1 := HP1.out.c 1 (by simp [azc]); have z2 := HP1.out.c 2 (by simp [azc]); have z3 := HP1.out.c 3 (by simp [azc]); have z4 := HP1.out.c 4 (by simp [azc]); have z5 := HP1.out.c 5 (by simp [azc]); have z6 := HP1.out.c 6 (by simp [azc]); simp only [azc, List.getElem_cons_zero, List.getElem_cons_succ] at z0 z1 z2 z3 z4 z5 z6; have zf0 := HP1.out.f 0; have zf1 := HP1.out.f 1; have zf2 := HP1.out.f 2; have zf3 := HP1.out.f 3; have zf4 := HP1.out.f 4; have zf5 := HP1.out.f 5; have zf6 := HP1.out.f 6; clear hb1)
  refine bodyPost_ret (res_cell3 rfl rfl (load_var (pset7 HP1.out rfl _ _ _ _ _ _ _) 31 _ Try.underlying31 rfl (by kernel_rfl))) rfl ?_
  exact ⟨rfl, grown_below HB1.out (pset7_gr w1 P _ _ _ _ _ _ _) (Nat.le_of_eq HPV.out.symm)⟩
set_option maxHeartbeats 4000000 in
theorem packedNames_walk (V : World) : Calls Try.prog 3 #[] V fun e w' => e = .returned (.bool true) ∧ Below V.heap.size V w' := by
  have HA : Hid (∀ W, Calls Try.prog 10 #[] W fun e w' => e = .returned (.bool true) ∧ Below W.heap.size W w') := fun W => alive17_any W
  have H1 : Hid (∀ W, Calls Try.prog 8 #[.agg #[.int .u8 4, .int .u8 0, .int .u8 0, .slice none 0 0, .int .u64 0, .bool false, .string ⟨#[]⟩]] W fun e w' => (∃ ao cap, e = .returned (.tuple #[.slice ao 6 cap, .int .i64 0]) ∧ GRd EY w' ao [178, 4, 0, 0, 0, 0] cap) ∧ Below W.heap.size W w') := by
    intro W
    refine (pwrite_any pA17 none 0 W (GRd.nil W) (by decide) pA17_pf).mono ?_
    rintro e w' ⟨⟨ao, cap, h1, h2⟩, h3⟩
    rw [pA17_wp.1, pA17_wp.2] at h1
    rw [pA17_wp.2] at h2
    exact ⟨⟨ao, cap, h1, h2⟩, h3⟩
  have H2 : Hid (∀ W g, GRd EM W (some ⟨g, 0, none⟩) [gI17] 1 → Calls Try.prog 8 #[.agg #[.int .u8 1, .int .u8 1, .int .u8 1, .slice (some ⟨g, 0, none⟩) 1 1, .int .u64 0, .bool false, .string ⟨#[]⟩]] W fun e w' => (∃ ao cap, e = .returned (.tuple #[.slice ao 18 cap, .int .i64 0]) ∧ GRd EY w' ao [178, 1, 0, 0, 0, 12, 1, 1, 0, 1, 1, 107, 2, 97, 98, 7, 0, 3] cap) ∧ Below W.heap.size W w') := by
    intro W g hg
    refine (pwrite_any gA17 _ 1 W hg (by decide) gA17_pf).mono ?_
    rintro e w' ⟨⟨ao, cap, h1, h2⟩, h3⟩
    rw [gA17_wp.1, gA17_wp.2] at h1
    rw [gA17_wp.2] at h2
    exact ⟨⟨ao, cap, h1, h2⟩, h3⟩
  have H3 : Hid (∀ W, Calls Try.prog 8 #[.agg #[.int .u8 0, .int .u8 0, .int .u8 0, .slice none 0 0, .int .u64 0, .bool false, .string ⟨#[]⟩]] W fun e w' => (∃ ao cap, e = .returned (.tuple #[.slice ao 0 cap, .int .i64 8])) ∧ Below W.heap.size W w') := by
    intro W
    refine (pwrite_any zan none 0 W (GRd.nil W) (by decide) zan_pf).mono ?_
    rintro e w' ⟨⟨ao, cap, h1, h2⟩, h3⟩
    rw [zan_wp.1, zan_wp.2] at h1
    exact ⟨⟨ao, cap, h1⟩, h3⟩
  have HR0 : Hid (∀ W o, GRd EY W o [178, 4, 0, 0, 0] 5 → Calls Try.prog 9 #[.slice o 5 5] W fun e w' => (∃ lo lc, e = .returned (.tuple #[.agg #[.int .u8 0, .int .u8 0, .int .u8 0, .slice lo 0 lc, .int .u64 0, .bool false, .string ⟨#[]⟩], .int .i64 0, .int .i64 0])) ∧ Below W.heap.size W w') := by
    intro W o ho
    refine (pread_any W o [178, 4, 0, 0, 0] 5 ho 5 rfl (by decide)).mono ?_
    rintro e w' ⟨⟨lo, lc, h1, h2⟩, h3⟩
    rw [pnames_r0] at h1
    exact ⟨⟨lo, lc, h1⟩, h3⟩
  have HR1 : Hid (∀ W o, GRd EY W o [177] 1 → Calls Try.prog 9 #[.slice o 1 1] W fun e w' => (∃ lo lc, e = .returned (.tuple #[.agg #[.int .u8 0, .int .u8 0, .int .u8 0, .slice lo 0 lc, .int .u64 0, .bool false, .string ⟨#[]⟩], .int .i64 0, .int .i64 8])) ∧ Below W.heap.size W w') := by
    intro W o ho
    refine (pread_any W o [177] 1 ho 1 rfl (by decide)).mono ?_
    rintro e w' ⟨⟨lo, lc, h1, h2⟩, h3⟩
    rw [pnames_r1] at h1
    exact ⟨⟨lo, lc, h1⟩, h3⟩
  have HR2 : Hid (∀ W o, GRd EY W o [178, 9, 0, 0, 0, 0] 6 → Calls Try.prog 9 #[.slice o 6 6] W fun e w' => (∃ lo lc, e = .returned (.tuple #[.agg #[.int .u8 0, .int .u8 0, .int .u8 0, .slice lo 0 lc, .int .u64 0, .bool false, .string ⟨#[]⟩], .int .i64 0, .int .i64 8])) ∧ Below W.heap.size W w') := by
    intro W o ho
    refine (pread_any W o [178, 9, 0, 0, 0, 0] 6 ho 6 rfl (by decide)).mono ?_
    rintro e w' ⟨⟨lo, lc, h1, h2⟩, h3⟩
    rw [pnames_r2] at h1
    exact ⟨⟨lo, lc, h1⟩, h3⟩
  go_enter Try.func3, Try.ntmps3
  go_upto_region 2 with (go_at_call 8; refine (H1.out _).mono ?_; rintro e w1 ⟨⟨ao, ac, rfl, hr1⟩, hb1⟩; have HB := Hid.mk2 hb1; have HRA := Hid.mk2 hr1; clear hb1 hr1)
  go_upto_region 3 with (refine ywpl_store rfl 34 _ _ rfl w1.heap.size [.string ⟨#[107]⟩, .string ⟨#[97, 98]⟩, .int .u32 7, .int .i64 0, .int .u64 3] imzc rfl (by first | rfl | simp) (by kernel_rfl) (GBx.made w1 imzc _) rfl (by intro v hv; simp at hv; rcases hv with rfl | rfl | rfl | rfl | rfl <;> rfl) ?_)
  obtain ⟨w2, hw2⟩ : ∃ w2, w2 = ysets (w1.alloc (.cells imzc.toArray 34)) w1.heap.size 0 [.string ⟨#[107]⟩, .string ⟨#[97, 98]⟩, .int .u32 7, .int .i64 0, .int .u64 3] := ⟨_, rfl⟩
  have hb2 : Below w1.heap.size w1 w2 := by rw [hw2]; exact (g_alloc w1 _).grown (ysets_grown _ _ _ _) (by simp) (fun k hk => by cases hk; exact Nat.le_refl _)
  have HX2 : Hid (GBx w2 w1.heap.size [.string ⟨#[107]⟩, .string ⟨#[97, 98]⟩, .int .u32 7, .int .i64 0, .int .u64 3]) := by rw [hw2]; exact ybox (GBx.made w1 imzc _) _ rfl
  first
    | rw [← hw2]
    | (change Code.wp _ _ _ _ (ysets (w1.alloc (.cells imzc.toArray 34)) w1.heap.size 0 [.string ⟨#[107]⟩, .string ⟨#[97, 98]⟩, .int .u32 7, .int .i64 0, .int .u64 3]); rw [← hw2])
  have HB2 := Hid.mk2 (g_on HB.out hb2)
  have HRA2 := Hid.mk2 (HRA.out.below hb2)
  clear hw2 hb2 HB HRA
  (try simp only [Act.put])
  have HG2 : Hid (GRd EM (w2.alloc (.cells #[.string ⟨#[107]⟩, .string ⟨#[97, 98]⟩, .int .u32 7, .int .i64 0, .int .u64 3] 34)) (some ⟨w2.heap.size, 0, none⟩) [gI17] 1) := g_new okM w2 gI17
  have HGA2 : Hid (∀ o, Below w2.heap.size w2 (w2.alloc o)) := fun o => g_alloc _ _
  go_upto_region 4 with (first
    | (refine ywpl_load_g (by first | rfl | simp [Region.wanted, yielded]) 34 _ rfl w1.heap.size rfl _ HX2.out _ Try.underlying34 rfl (by kernel_rfl) ?_)
    | (go_at_call 8; refine (H2.out _ w2.heap.size HG2.out).mono ?_; rintro e w3 ⟨⟨bo, bc, rfl, hr3⟩, hb3⟩; have hb4 := g_on (HGA2.out _) hb3; have HB3 := Hid.mk2 (g_on HB2.out hb4); have HRB3 := Hid.mk2 hr3; have HRA3 := Hid.mk2 (HRA2.out.below hb4); clear hb3 hr3 hb4))
  clear HX2 HG2 HGA2
  go_upto_region 5 with (go_at_call 8; refine (H3.out _).mono ?_; rintro e w4 ⟨⟨zo, zc, rfl⟩, hb4⟩; have HB4 := Hid.mk2 (g_on HB3.out hb4); have HRB4 := Hid.mk2 (HRB3.out.below hb4); have HRA4 := Hid.mk2 (HRA3.out.below hb4); clear hb4)
  have HN0 : Hid (GRd EY (w4.alloc (.cells #[.int .u8 178, .int .u8 4, .int .u8 0, .int .u8 0, .int .u8 0] 5)) (some ⟨w4.heap.size, 0, none⟩) [178, 4, 0, 0, 0] 5) := g_news okY w4 [178, 4, 0, 0, 0] [.int .u8 178, .int .u8 4, .int .u8 0, .int .u8 0, .int .u8 0] rfl (by decide)
  have HGA0 : Hid (∀ o, Below w4.heap.size w4 (w4.alloc o)) := fun o => g_alloc _ _
  go_upto_region 6 with (first
    | (go_at_call 9; refine (HR0.out _ _ HN0.out).mono ?_; rintro e w5 ⟨⟨lo0, lc0, rfl⟩, hb5⟩; have hb6 := g_on (HGA0.out _) hb5; have HB5 := Hid.mk2 (g_on HB4.out hb6); have HRB5 := Hid.mk2 (HRB4.out.below hb6); have HRA5 := Hid.mk2 (HRA4.out.below hb6); clear hb5 hb6)
    | (refine ywpl_store rfl 31 _ _ rfl w5.heap.size [.int .u8 0, .int .u8 0, .int .u8 0, .slice lo0 0 lc0, .int .u64 0, .bool false, .string ⟨#[]⟩] azc rfl rfl (by kernel_rfl) (GBx.made w5 azc _) rfl (by intro v hv; simp at hv; rcases hv with rfl | rfl | rfl | rfl | rfl | rfl | rfl <;> rfl) ?_; obtain ⟨w6, hw7⟩ : ∃ wq, wq = ysets (w5.alloc (.cells azc.toArray 31)) w5.heap.size 0 [.int .u8 0, .int .u8 0, .int .u8 0, .slice lo0 0 lc0, .int .u64 0, .bool false, .string ⟨#[]⟩] := ⟨_, rfl⟩; (first | rw [← hw7] | (change wpList _ _ _ _ _ (ysets (w5.alloc (.cells azc.toArray 31)) w5.heap.size 0 [.int .u8 0, .int .u8 0, .int .u8 0, .slice lo0 0 lc0, .int .u64 0, .bool false, .string ⟨#[]⟩]); rw [← hw7])); have hb7 : Below w5.heap.size w5 w6 := (by rw [hw7]; exact (g_alloc w5 _).grown (ysets_grown _ _ _ _) (by simp) (fun k hk => by cases hk; exact Nat.le_refl _)); have HB6 := Hid.mk2 (g_on HB5.out hb7); have HRB6 := Hid.mk2 (HRB5.out.below hb7); have HRA6 := Hid.mk2 (HRA5.out.below hb7); clear hw7 hb7))
  clear HN0 HGA0 HR0
  have HN1 : Hid (GRd EY (w6.alloc (.cells #[.int .u8 177] 5)) (some ⟨w6.heap.size, 0, none⟩) [177] 1) := g_news okY w6 [177] [.int .u8 177] rfl (by decide)
  have HGA1 : Hid (∀ o, Below w6.heap.size w6 (w6.alloc o)) := fun o => g_alloc _ _
  go_upto_region 7 with (first
    | (go_at_call 9; refine (HR1.out _ _ HN1.out).mono ?_; rintro e w7 ⟨⟨lo1, lc1, rfl⟩, hb5⟩; have hb6 := g_on (HGA1.out _) hb5; have HB7 := Hid.mk2 (g_on HB6.out hb6); have HRB7 := Hid.mk2 (HRB6.out.below hb6); have HRA7 := Hid.mk2 (HRA6.out.below hb6); clear hb5 hb6)
    | (refine ywpl_store rfl 31 _ _ rfl w7.heap.size [.int .u8 0, .int .u8 0, .int .u8 0, .slice lo1 0 lc1, .int .u64 0, .bool false, .string ⟨#[]⟩] azc rfl rfl (by kernel_rfl) (GBx.made w7 azc _) rfl (by intro v hv; simp at hv; rcases hv with rfl | rfl | rfl | rfl | rfl | rfl | rfl <;> rfl) ?_; obtain ⟨w8, hw7⟩ : ∃ wq, wq = ysets (w7.alloc (.cells azc.toArray 31)) w7.heap.size 0 [.int .u8 0, .int .u8 0, .int .u8 0, .slice lo1 0 lc1, .int .u64 0, .bool false, .string ⟨#[]⟩] := ⟨_, rfl⟩; (first | rw [← hw7] | (change wpList _ _ _ _ _ (ysets (w7.alloc (.cells azc.toArray 31)) w7.heap.size 0 [.int .u8 0, .int .u8 0, .int .u8 0, .slice lo1 0 lc1, .int .u64 0, .bool false, .string ⟨#[]⟩]); rw [← hw7])); have hb7 : Below w7.heap.size w7 w8 := (by rw [hw7]; exact (g_alloc w7 _).grown (ysets_grown _ _ _ _) (by simp) (fun k hk => by cases hk; exact Nat.le_refl _)); have HB8 := Hid.mk2 (g_on HB7.out hb7); have HRB8 := Hid.mk2 (HRB7.out.below hb7); have HRA8 := Hid.mk2 (HRA7.out.below hb7); clear hw7 hb7))
  clear HN1 HGA1 HR1
  have HN2 : Hid (GRd EY (w8.alloc (.cells #[.int .u8 178, .int .u8 9, .int .u8 0, .int .u8 0, .int .u8 0, .int .u8 0] 5)) (some ⟨w8.heap.size, 0, none⟩) [178, 9, 0, 0, 0, 0] 6) := g_news okY w8 [178, 9, 0, 0, 0, 0] [.int .u8 178, .int .u8 9, .int .u8 0, .int .u8 0, .int .u8 0, .int .u8 0] rfl (by decide)
  have HGA2 : Hid (∀ o, Below w8.heap.size w8 (w8.alloc o)) := fun o => g_alloc _ _
  go_upto_region 8 with (first
    | (go_at_call 9; refine (HR2.out _ _ HN2.out).mono ?_; rintro e w9 ⟨⟨lo2, lc2, rfl⟩, hb5⟩; have hb6 := g_on (HGA2.out _) hb5; have HB9 := Hid.mk2 (g_on HB8.out hb6); have HRB9 := Hid.mk2 (HRB8.out.below hb6); have HRA9 := Hid.mk2 (HRA8.out.below hb6); clear hb5 hb6)
    | (refine ywpl_store rfl 31 _ _ rfl w9.heap.size [.int .u8 0, .int .u8 0, .int .u8 0, .slice lo2 0 lc2, .int .u64 0, .bool false, .string ⟨#[]⟩] azc rfl rfl (by kernel_rfl) (GBx.made w9 azc _) rfl (by intro v hv; simp at hv; rcases hv with rfl | rfl | rfl | rfl | rfl | rfl | rfl <;> rfl) ?_; obtain ⟨w10, hw7⟩ : ∃ wq, wq = ysets (w9.alloc (.cells azc.toArray 31)) w9.heap.size 0 [.int .u8 0, .int .u8 0, .int .u8 0, .slice lo2 0 lc2, .int .u64 0, .bool false, .string ⟨#[]⟩] := ⟨_, rfl⟩; (first | rw [← hw7] | (change wpList _ _ _ _ _ (ysets (w9.alloc (.cells azc.toArray 31)) w9.heap.size 0 [.int .u8 0, .int .u8 0, .int .u8 0, .slice lo2 0 lc2, .int .u64 0, .bool false, .string ⟨#[]⟩]); rw [← hw7])); have hb7 : Below w9.heap.size w9 w10 := (by rw [hw7]; exact (g_alloc w9 _).grown (ysets_grown _ _ _ _) (by simp) (fun k hk => by cases hk; exact Nat.le_refl _)); have HB10 := Hid.mk2 (g_on HB9.out hb7); have HRB10 := Hid.mk2 (HRB9.out.below hb7); have HRA10 := Hid.mk2 (HRA9.out.below hb7); clear hw7 hb7))
  clear HN2 HGA2 HR2
  obtain ⟨i0, hi, hz0, hz1, hz2⟩ := info_parts okY.info
  have hz2' : i0.bytes = 1 := hz2
  go_upto_region 9 with (first
    | (at_make; refine wpList_make_full _ rfl _ _ 22 rfl w10.heap.size 5 i0 _ 1 Try.underlying22 hi hz0 hz1 .i64 .i64 _ _ 16385 rfl rfl (by rfl) (by rfl) (by rw [hz2']; decide) (by decide) (Nat.le_refl _) ?_; intro w11 _ hg11; have hb11 := g_grown_below hg11; have HB11 := Hid.mk2 (g_on HB10.out hb11); have HRB11 := Hid.mk2 (HRB10.out.below hb11); have HRA11 := Hid.mk2 (HRA10.out.below hb11); clear hg11 hb11)
    | (go_at_call 9; refine (pRead_long w11 _ 16385 16385 (by decide) (by decide)).mono ?_; rintro e w12 ⟨rfl, hb12⟩; have HB12 := Hid.mk2 (g_on HB11.out hb12); have HRB12 := Hid.mk2 (HRB11.out.below hb12); have HRA12 := Hid.mk2 (HRA11.out.below hb12); clear hb12)
    | (refine ywpl_store rfl 31 _ _ rfl w12.heap.size azc azc rfl rfl (by kernel_rfl) (GBx.made w12 azc _) rfl (by intro v hv; simp [azc] at hv; rcases hv with rfl | rfl | rfl | rfl | rfl | rfl | rfl <;> rfl) ?_; obtain ⟨w13, hw7⟩ : ∃ wq, wq = ysets (w12.alloc (.cells azc.toArray 31)) w12.heap.size 0 azc := ⟨_, rfl⟩; (first | rw [← hw7] | (change wpList _ _ _ _ _ (ysets (w12.alloc (.cells azc.toArray 31)) w12.heap.size 0 azc); rw [← hw7])); have hb7 : Below w12.heap.size w12 w13 := (by rw [hw7]; exact (g_alloc w12 _).grown (ysets_grown _ _ _ _) (by simp) (fun k hk => by cases hk; exact Nat.le_refl _)); have HB13 := Hid.mk2 (g_on HB12.out hb7); have HRB13 := Hid.mk2 (HRB12.out.below hb7); have HRA13 := Hid.mk2 (HRA12.out.below hb7); clear hw7 hb7))
  clear hi hz0 hz1 hz2 hz2'
  have hc1 : (convert 22 9 (.slice ao 6 ac)).run Try.prog w13 = .ok (.string ⟨#[178, 4, 0, 0, 0, 0]⟩) w13 := conv_rd HRA13.out
  have hc2 : (convert 22 9 (.slice (some ⟨w13.heap.size, 0, none⟩) 6 6)).run Try.prog (w13.alloc (.cells #[.int .u8 178, .int .u8 4, .int .u8 0, .int .u8 0, .int .u8 0, .int .u8 0] 5)) = .ok (.string ⟨#[178, 4, 0, 0, 0, 0]⟩) (w13.alloc (.cells #[.int .u8 178, .int .u8 4, .int .u8 0, .int .u8 0, .int .u8 0, .int .u8 0] 5)) := conv_rd (g_news okY w13 [178, 4, 0, 0, 0, 0] [.int .u8 178, .int .u8 4, .int .u8 0, .int .u8 0, .int .u8 0, .int .u8 0] rfl (by decide))
  have hc3 : (convert 22 9 (.slice bo 18 bc)).run Try.prog (w13.alloc (.cells #[.int .u8 178, .int .u8 4, .int .u8 0, .int .u8 0, .int .u8 0, .int .u8 0] 5)) = .ok (.string ⟨#[178, 1, 0, 0, 0, 12, 1, 1, 0, 1, 1, 107, 2, 97, 98, 7, 0, 3]⟩) (w13.alloc (.cells #[.int .u8 178, .int .u8 4, .int .u8 0, .int .u8 0, .int .u8 0, .int .u8 0] 5)) := conv_rd (HRB13.out.alloc _)
  have hc4 : (convert 22 9 (.slice (some ⟨w13.heap.size + 1, 0, none⟩) 18 18)).run Try.prog ((w13.alloc (.cells #[.int .u8 178, .int .u8 4, .int .u8 0, .int .u8 0, .int .u8 0, .int .u8 0] 5)).alloc (.cells #[.int .u8 178, .int .u8 1, .int .u8 0, .int .u8 0, .int .u8 0, .int .u8 12, .int .u8 1, .int .u8 1, .int .u8 0, .int .u8 1, .int .u8 1, .int .u8 107, .int .u8 2, .int .u8 97, .int .u8 98, .int .u8 7, .int .u8 0, .int .u8 3] 5)) = .ok (.string ⟨#[178, 1, 0, 0, 0, 12, 1, 1, 0, 1, 1, 107, 2, 97, 98, 7, 0, 3]⟩) ((w13.alloc (.cells #[.int .u8 178, .int .u8 4, .int .u8 0, .int .u8 0, .int .u8 0, .int .u8 0] 5)).alloc (.cells #[.int .u8 178, .int .u8 1, .int .u8 0, .int .u8 0, .int .u8 0, .int .u8 12, .int .u8 1, .int .u8 1, .int .u8 0, .int .u8 1, .int .u8 1, .int .u8 107, .int .u8 2, .int .u8 97, .int .u8 98, .int .u8 7, .int .u8 0, .int .u8 3] 5)) := by
    have h := conv_rd (g_news okY (w13.alloc (.cells #[.int .u8 178, .int .u8 4, .int .u8 0, .int .u8 0, .int .u8 0, .int .u8 0] 5)) [178, 1, 0, 0, 0, 12, 1, 1, 0, 1, 1, 107, 2, 97, 98, 7, 0, 3] [.int .u8 178, .int .u8 1, .int .u8 0, .int .u8 0, .int .u8 0, .int .u8 12, .int .u8 1, .int .u8 1, .int .u8 0, .int .u8 1, .int .u8 1, .int .u8 107, .int .u8 2, .int .u8 97, .int .u8 98, .int .u8 7, .int .u8 0, .int .u8 3] rfl (by decide))
    rw [show (w13.alloc (.cells #[.int .u8 178, .int .u8 4, .int .u8 0, .int .u8 0, .int .u8 0, .int .u8 0] 5)).heap.size = w13.heap.size + 1 by simp] at h
    exact h
  have hxa : ((⟨#[178, 4, 0, 0, 0, 0]⟩ : ByteArray).toList == (⟨#[178, 4, 0, 0, 0, 0]⟩ : ByteArray).toList) = true := by simp
  have hxb : ((⟨#[178, 1, 0, 0, 0, 12, 1, 1, 0, 1, 1, 107, 2, 97, 98, 7, 0, 3]⟩ : ByteArray).toList == (⟨#[178, 1, 0, 0, 0, 12, 1, 1, 0, 1, 1, 107, 2, 97, 98, 7, 0, 3]⟩ : ByteArray).toList) = true := by simp
  have HBE : Hid (∀ o o', Below V.heap.size V ((w13.alloc o).alloc o')) := fun o o' => g_on HB13.out (g_on (g_alloc _ _) (g_alloc _ _))
  go_wp2_with (go_at_call 10; refine (HA.out _).mono ?_; rintro e wz ⟨rfl, hbz⟩; have HBZ := Hid.mk2 (g_on (HBE.out _ _) hbz); clear hbz)
  go_ret
  exact ⟨by first | rfl | simp, HBZ.out⟩

set_option maxRecDepth 100000 in
theorem packedNames_lifted (os : Os) (started : os.Started) (H : Type) (enc : TypeId × Value → H) :
    ReturnsInHanded {} Try.checked os 3 .any (Rows.packedNamesSpec.pre6 enc Try.prog Try.f3 Rows.packedNamesRow.domain false) (Rows.packedNamesSpec.post enc Try.prog Try.f3 false true false false) := by
  refine returnsInHanded_of_change (C := Try.checked) (by kernel_rfl) started (by kernel_rfl) Try.func3
    (ChangeSpec.witness6 (enc := enc) (C := Try.checked) false ⟨#[], #[], []⟩ 8 (by kernel_rfl) (by kernel_rfl) (by kernel_rfl) (by kernel_rfl)) ?_
  intro W base args ds gs before hval0 hW hcnd _
  have hval : ∀ (j : Nat) t v, Try.f3.params[j]? = some t → args[j]? = some v → Value.okWide Try.prog W .any base t v := hval0
  have hW' := hW
  obtain ⟨p, q, hA0, hV, rfl, hfz, hnd⟩ := hW
  have hA : DataW.TrodAll enc Try.prog W 0 (fun _ => true) true Try.f3.params.toList args.toList ds p := hA0
  rw [Try.params3] at hA hval
  obtain ⟨rfl, rfl, rfl⟩ := trodAll_none hA
  obtain ⟨rfl, rfl⟩ := trodVars_none hV
  clear hA0 hval0
  refine (packedNames_walk W ).mono fun e W' ⟨he, bel⟩ => ?_
  subst he
  exact ⟨_, rfl, _, _, _, [], _, [], hW', trodAll_mk1 (shut_bool Try.underlying4 _), trodAll_mk0, rfl, bel.frame _, fun h => by cases h⟩

theorem packedNames_proved : Rows.PackedNamesSaid :=
  OpenClaim.holds_of_wide 3 Try.f3 rfl rfl rfl rfl rfl rfl rfl ⟨rfl, rfl, rfl, rfl, rfl⟩ rfl rfl rfl rfl rfl (by kernel_rfl) Try.func3 (by kernel_rfl)
    (of_decide_eq_true (by kernel_rfl)) (by unfold Func.isWrapper; first | (rw [if_pos (by decide +kernel)]; kernel_rfl) | (rw [if_neg (by decide +kernel)]; exact ⟨rfl, rfl⟩))
    (fun os started H enc _ => packedNames_lifted os started H enc)
#print axioms packedNames_proved
end Go.Proofs.Ytblbabekbpcdiaa
