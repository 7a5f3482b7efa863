/-
  Package order: contracts of needs and Shards.
-/
import Derived.Test.YtpnmokmadbapoaaOrPc
import Derived.Test.YtpnmokmadbapoaaOrLc
import Derived.Test.YtpnmokmadbapoaaGb
namespace Go.Proofs.Ytpnmokmadbapoaa
open Go.RowKit Go.Sort Go.Shelf
set_option linter.unusedSimpArgs false
set_option linter.unusedVariables false
set_option maxRecDepth 100000

set_option maxHeartbeats 1000000 in
theorem pneeds_any (c : Cm) (ko : Option Addr) (kc : Nat) (i n : Nat) (hn0 : 1 ≤ n) (hn1 : n ≤ 4) (ht : tenOk c.tenant = true) (hk : ∀ k ∈ c.keys, keyOk k = true) (w : World) (h : GRd ES w ko c.keys kc) :
    Calls Try.prog 47 #[.agg (c.arr (.slice ko c.keys.length kc)), .int .i64 i, .int .i64 n] w fun e w' => e = .returned (.bool (c.isIn n i)) ∧ RowKit.Below w.heap.size w w' := by
  obtain ⟨W, hW⟩ : ∃ W, W = ((w.alloc (.cells (c.arr (.slice ko c.keys.length kc)) 27)).alloc (.cells #[.int .i64 i] 3)).alloc (.cells #[.int .i64 n] 3) := ⟨_, rfl⟩
  have HB : Hid (RowKit.Below w.heap.size w W) := by rw [hW]; exact g_on (g_on (g_alloc _ _) (g_alloc _ _)) (g_alloc _ _)
  have HM : Hid (c.At (.slice ko c.keys.length kc) W w.heap.size) := by
    rw [hW]
    exact ((Cm.At.made c (.slice ko c.keys.length kc) w).below (g_alloc _ _)).below (g_alloc _ _)
  have HS1 : Hid (GBx W (w.heap.size + 1) [.int .i64 i]) := by
    rw [hW]
    have := GBx.made (w.alloc (.cells (c.arr (.slice ko c.keys.length kc)) 27)) [.int .i64 i] 3
    rw [show (w.alloc (.cells (c.arr (.slice ko c.keys.length kc)) 27)).heap.size = w.heap.size + 1 by simp] at this
    exact this.alloc _
  have HS2 : Hid (GBx W (w.heap.size + 2) [.int .i64 n]) := by
    rw [hW]
    have := GBx.made ((w.alloc (.cells (c.arr (.slice ko c.keys.length kc)) 27)).alloc (.cells #[.int .i64 i] 3)) [.int .i64 n] 3
    rw [show ((w.alloc (.cells (c.arr (.slice ko c.keys.length kc)) 27)).alloc (.cells #[.int .i64 i] 3)).heap.size = w.heap.size + 2 by simp] at this
    exact this
  have eg : ∀ args w, (callFunc 80 args).run Try.prog w = .ok (.enter 80 args) w := enters_of Try.func80 (by kernel_rfl) rfl
  have HF : Hid (FnSays W none 80 #[.pointer (some ⟨w.heap.size, 0, none⟩), .pointer (some ⟨w.heap.size + 2, 0, none⟩), .pointer (some ⟨w.heap.size + 1, 0, none⟩)] (fun k => c.of n k == (i : Int)) c.keys) := by
    intro W' hW' x hx
    have hb := g_grown_below hW'
    have m := HM.out.below hb
    refine (needs1_g c.tenant x n i w.heap.size (w.heap.size + 2) (w.heap.size + 1) W' ht (hk x hx) (by omega) (by omega) m.lt (HS2.out.below hb).lt (HS1.out.below hb).lt m.c1 ((HS2.out.below hb).c 0 (by simp)) ((HS1.out.below hb).c 0 (by simp))).mono ?_
    rintro e w' ⟨rfl, q, os, rfl⟩
    exact ⟨rfl, g_grow _ _ _⟩
  have HC := Hid.mk2 (containsF_any 80 _ _ c.keys ko kc W none eg (h.below HB.out) HF.out)
  unfold Cm.isIn
  obtain ⟨Y, hY⟩ : ∃ Y, Y = c.keys.any fun k => c.of n k == (i : Int) := ⟨_, rfl⟩
  rw [← hY] at HC ⊢
  clear HF hY h ht hk hn0 hn1 eg HS1 HS2
  obtain ⟨kind, tenant, keys, value, flags, life, unique, by_⟩ := c
  unfold Cm.arr at *
  dsimp only at *
  obtain ⟨hlt, c0, c1, c2, c3, c4, c5, c6, c7⟩ := HM.out
  dsimp only at c0 c1 c2 c3 c4 c5 c6 c7
  by_cases hk11 : kind = 11
  · subst hk11
    go_enter Try.func47, Try.ntmps47
    go_upto_region 1 with (fail)
    rw [← hW]
    clear hW
    go_wp2
    go_ret
    exact ⟨by simp, HB.out⟩
  · have hk' : (kind == 11) = false := beq_eq_false_iff_ne.2 hk11
    rw [decide_eq_false hk11, Bool.false_or]
    clear hk11
    go_enter Try.func47, Try.ntmps47
    go_upto_region 1 with (fail)
    rw [← hW]
    clear hW
    go_wp2_with (go_at_call 79; refine HC.out.mono ?_; rintro e w1 ⟨rfl, hb1⟩)
    go_ret
    exact ⟨rfl, g_on HB.out hb1⟩

set_option maxHeartbeats 4000000 in
theorem pshards_any (c : Cm) (ko : Option Addr) (kc : Nat) (n : Int) (w : World) (h : GRd ES w ko c.keys kc) :
    Calls Try.prog 11 #[.agg (c.arr (.slice ko c.keys.length kc)), .int .i64 n] w fun e w' => ∃ v, e = .returned (.tuple #[v, .int .i64 (c.shE n)]) ∧ GOwn EI w' w.heap.size v (c.shL n) ∧ RowKit.Below w.heap.size w w' := by
  have HK := Hid.mk2 (fun W (hW : RowKit.Below w.heap.size w W) => pcheck_any c ko kc W (h.below hW))
  have HM := Hid.mk2 (Cm.At.made c (.slice ko c.keys.length kc) w)
  have HND := Hid.mk2 (fun (i m : Nat) hm0 hm1 (hmay : c.may = true) W (hW : RowKit.Below w.heap.size w W) => pneeds_any c ko kc i m hm0 hm1 (Cm.may_parts hmay).2.1 (Cm.kOk_keys (Cm.may_parts hmay).2.2.1) W (h.below hW))
  have hE1 : c.may = false → c.shE n = 100 ∧ c.shL n = [] := fun e => by unfold Cm.shE Cm.shL; simp [e]
  have hE2 : c.may = true → ¬ (1 ≤ n ∧ n ≤ 4) → c.shE n = 2 ∧ c.shL n = [] := fun e e2 => by unfold Cm.shE Cm.shL; rw [if_pos e, if_neg e2, if_neg (fun x => e2 x.2)]; exact ⟨rfl, rfl⟩
  have hE3 : c.may = true → (1 ≤ n ∧ n ≤ 4) → c.shE n = 0 ∧ c.shL n = c.needsTo n.toNat n.toNat := fun e e2 => by unfold Cm.shE Cm.shL; rw [if_pos e, if_pos e2, if_pos ⟨e, e2⟩, Cm.needsTo_all]; exact ⟨rfl, rfl⟩
  have HN := Hid.mk2 (fun n i => @Cm.needsTo_in c n i)
  have HO := Hid.mk2 (fun n i => @Cm.needsTo_out c n i)
  have HLE := Hid.mk2 (fun n i => c.needsTo_len n i)
  unfold Cm.chkE at HK
  obtain ⟨M, hM⟩ : ∃ M, M = c.may := ⟨_, rfl⟩
  rw [← hM] at HK HND hE1 hE2 hE3
  obtain ⟨E, hEe⟩ : ∃ E, E = c.shE n := ⟨_, rfl⟩
  obtain ⟨L, hLe⟩ : ∃ L, L = c.shL n := ⟨_, rfl⟩
  rw [← hEe, ← hLe] at hE1 hE2 hE3 ⊢
  obtain ⟨NT, hNT⟩ : ∃ NT : Nat → Nat → List Int, ∀ n i, NT n i = c.needsTo n i := ⟨_, fun _ _ => rfl⟩
  have HNT0 : Hid (∀ n, NT n 0 = []) := fun n => by rw [hNT]; rfl
  simp only [← hNT] at HN HO HLE hE3
  obtain ⟨II, hII⟩ : ∃ II : Nat → Nat → Bool, ∀ n i, II n i = c.isIn n i := ⟨_, fun _ _ => rfl⟩
  simp only [← hII] at HN HO HND
  have H1 := Hid.mk2 hE1
  have H2 := Hid.mk2 hE2
  have H3 := Hid.mk2 hE3
  clear hM h hE1 hE2 hE3 hEe hLe hNT hII
  obtain ⟨kind, tenant, keys, value, flags, life, unique, by_⟩ := c
  unfold Cm.arr at *
  dsimp only at *
  obtain ⟨W, hW⟩ : ∃ W, W = w.alloc (.cells #[.int .u8 kind, .int .i64 tenant, .slice ko keys.length kc, .string value, .int .u32 flags, .int .i64 life, .int .u64 unique, .int .u64 by_] 27) := ⟨_, rfl⟩
  have HB : Hid (RowKit.Below w.heap.size w W) := by rw [hW]; exact g_alloc _ _
  rw [← hW] at HM
  obtain ⟨hlt, c0, c1, c2, c3, c4, c5, c6, c7⟩ := HM.out
  dsimp only at c0 c1 c2 c3 c4 c5 c6 c7
  go_enter Try.func11, Try.ntmps11
  go_upto_region 1 with (fail)
  rw [← hW]
  clear hW
  cases M
  · obtain ⟨rfl, rfl⟩ := H1.out rfl
    rw [if_neg (by decide)] at HK
    clear H1 H2 H3 HND
    go_wp2_with (go_at_call 21; refine (HK.out _ HB.out).mono ?_; rintro e w1 ⟨rfl, hb1⟩)
    go_ret2
    exact ⟨_, rfl, GOwn.nil _ _, g_on HB.out hb1⟩
  rw [if_pos rfl] at HK
  by_cases hn : 1 ≤ n ∧ n ≤ 4
  · obtain ⟨rfl, rfl⟩ := H3.out rfl hn
    obtain ⟨m, rfl⟩ : ∃ m : Nat, n = m := ⟨n.toNat, by omega⟩
    have hm0 : 1 ≤ m := by omega
    have hm1 : m ≤ 4 := by omega
    have a1 : ¬ ((m : Int) < 1) := by omega
    have a2 : ¬ ((4 : Int) < (m : Int)) := by omega
    have hto : ((m : Int)).toNat = m := by omega
    have HTO := Hid.mk2 hto
    have hm1' : (m : Int) ≤ 4 := by omega
    clear H1 H2 H3 hn hto
    go_wp2_with (go_at_call 21; refine (HK.out _ HB.out).mono ?_; rintro e w1 ⟨rfl, hb1⟩; have HB1 := Hid.mk2 (g_on HB.out hb1); have HM1 := Hid.mk2 (HM.out.below hb1); clear hb1)
    clear c0 c1 c2 c3 c4 c5 c6 c7 hlt HM HB HK
    go_loopw [7, 8, 21] (fun v _ i wr => ∃ (k : Nat) (v5 : Value), k ≤ m ∧ i = .int .i64 k ∧ v = v5 ∧ Hid (RowKit.Below w1.heap.size w1 wr) ∧ Hid (GOwn EI wr w1.heap.size v5 (NT m k))) (fun _ _ i _ => m - (RowKit.intOf i).toNat)
    case atStart => exact ⟨0, _, Nat.zero_le _, rfl, rfl, RowKit.Below.refl _ _, by show GOwn _ _ _ _ _; rw [HNT0.out]; exact GOwn.nil _ _⟩
    case round =>
      obtain ⟨k, v5, hkn, rfl, rfl, HBW, HOW⟩ := hrel
      by_cases hkl : k < m
      · have hkl2 : (k : Int) < (m : Int) := by omega
        obtain ⟨hlt, c0, c1, c2, c3, c4, c5, c6, c7⟩ := HM1.out.below HBW.out
        dsimp only at c0 c1 c2 c3 c4 c5 c6 c7
        have HC := Hid.mk2 (HND.out k m hm0 hm1 (by first | rfl | trivial) wr (g_on HB1.out HBW.out))
        have HNK := Hid.mk2 (HN.out m k)
        have HOK := Hid.mk2 (HO.out m k)
        have hll := HLE.out m k
        obtain ⟨Y, hY⟩ : ∃ Y, Y = II m k := ⟨_, rfl⟩
        rw [← hY] at HC HNK HOK
        clear hY HND HN HO HLE
        cases Y
        · have HE := Hid.mk2 (HOK.out rfl)
          clear HNK HOK
          go_wp2_with (go_at_call 47; refine HC.out.mono ?_; rintro e w2 ⟨rfl, hb2⟩; have HB2 := Hid.mk2 hb2; clear hb2)
          go_roundw
          case rel => exact ⟨k + 1, _, by omega, by go_num, rfl, g_on HBW.out HB2.out, by show GOwn _ _ _ _ _; rw [HE.out]; exact HOW.out.below HB2.out⟩
          case measure => simp [RowKit.intOf]; omega
        · have HE := Hid.mk2 (HNK.out rfl)
          clear HNK HOK
          go_wp2_with (first
            | (go_at_call 47; refine HC.out.mono ?_; rintro e w2 ⟨rfl, hb2⟩; have HB2 := Hid.mk2 (g_on HBW.out hb2); have HO2 := Hid.mk2 (HOW.out.below hb2); have hbz := Nat.le_trans HBW.out.size hb2.size; clear hb2)
            | (at_builtin; refine g_one (w0 := w2) okI rfl _ _ _ rfl rfl w1.heap.size _ (NT m k) HO2.out rfl (k : Int) rfl _ rfl rfl (by omega) hbz ?_; intro v7 w7 hO7 hG7; have HO7 := Hid.mk2 hO7; have HG7 := Hid.mk2 hG7; clear hO7 hG7))
          go_roundw
          case rel => exact ⟨k + 1, v7, by omega, by go_num, rfl, HB2.out.trans (HG7.out.below HO2.out hbz), by show GOwn _ _ _ _ _; rw [HE.out]; exact HO7.out⟩
          case measure => simp [RowKit.intOf]; omega
      · have ek : k = m := by omega
        have hkl2 : ¬ ((k : Int) < (m : Int)) := by omega
        subst ek
        clear HND HN HO HLE
        go_wp2
        go_ret2
        exact ⟨_, rfl, by first | exact HOW.out.down HB1.out.size | (rw [HTO.out]; exact HOW.out.down HB1.out.size), g_on HB1.out HBW.out⟩
  · obtain ⟨rfl, rfl⟩ := H2.out rfl hn
    clear H1 H2 H3 HND
    have hc : n < 1 ∨ (¬ n < 1 ∧ 4 < n) := by omega
    clear hn
    rcases hc with a1 | ⟨a1, a2⟩
    · go_wp2_with (go_at_call 21; refine (HK.out _ HB.out).mono ?_; rintro e w1 ⟨rfl, hb1⟩)
      go_ret2
      exact ⟨_, rfl, GOwn.nil _ _, g_on HB.out hb1⟩
    · go_wp2_with (go_at_call 21; refine (HK.out _ HB.out).mono ?_; rintro e w1 ⟨rfl, hb1⟩)
      go_ret2
      exact ⟨_, rfl, GOwn.nil _ _, g_on HB.out hb1⟩
end Go.Proofs.Ytpnmokmadbapoaa
