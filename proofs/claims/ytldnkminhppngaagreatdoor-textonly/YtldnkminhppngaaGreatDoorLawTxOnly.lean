/-
  TextOnly: a request that was read, and is not rubbish, is written as the bytes that it was read of, and is told of them with more behind; rubbish has no fields beside Close. Condition: the listed variables are as their texts lay them (the card ties them).
-/
import Derived.Test.YtldnkminhppngaaGreatDoorG04
import Derived.Test.YtldnkminhppngaaGreatDoorG05
import Derived.Test.YtldnkminhppngaaGreatDoorTyV
namespace Go.Proofs.YtldnkminhppngaaGreatDoor
open Go.Proofs.YtldnkminhppngaaGreatDoor.It
open Go.ChangeShapes Go.WideShapes Go.ChangeAt Go.RowKit
open Go.ChangeMaps (open_string shut_string)
set_option linter.unusedSimpArgs false
set_option linter.unusedVariables false
set_option maxRecDepth 100000

/-- a request that may be written has short texts -/
theorem wr_short {r : Rq} (hE : r.wrE = 0) : (∀ k ∈ r.cmd.keys, k.size ≤ maxLen) ∧ r.secret.size ≤ maxLen := by
  obtain ⟨hline, hcmd⟩ := wrE_zero hE
  have hm : (1000 : Nat) ≤ maxLen := by decide
  constructor
  · intro k hk
    by_cases h1 : r.kind = 1
    · have := (Cm.may_parts14 (hcmd h1).1).2.2.2.2.2.2 k hk
      omega
    · have hn : r.cmd.isNone = true := by
        unfold Rq.hasLine at hline
        rw [if_neg h1] at hline
        split at hline
        · simp only [Bool.and_eq_true] at hline; exact hline.1.1.2
        split at hline
        · simp only [Bool.and_eq_true] at hline; exact hline.1.1.1
        split at hline
        · simp only [Bool.and_eq_true] at hline; exact hline.1.1.1.1
        · cases hline
      rw [isNone_eq hn] at hk
      cases hk
  · by_cases h2 : r.kind = 2
    · rcases hasLine_kinds hline with h | ⟨_, _, _, h⟩ | h | h | h <;> omega
    · have he : r.secret.toList.isEmpty = true := by
        unfold Rq.hasLine at hline
        rw [if_neg h2] at hline
        split at hline
        · simp only [Bool.and_eq_true] at hline; exact hline.1.1.2
        split at hline
        · simp only [Bool.and_eq_true] at hline; exact hline.1.2
        split at hline
        · simp only [Bool.and_eq_true] at hline; exact hline.1.1.2
        · cases hline
      rw [isEmpty_eq he]
      exact Nat.zero_le _
theorem zero_arr : rz.arr (.slice none rz.cmd.keys.length 0) = #[.int .u8 0, .int .u8 0, .int .i64 0, .slice none 0 0, .string ⟨#[]⟩, .int .u32 0, .int .i64 0, .int .u64 0, .int .u64 0, .int .i64 0, .string ⟨#[]⟩, .bool false, .bool false] := rfl
theorem bad_arr (c : Bool) : (bad c).arr (.slice none (bad c).cmd.keys.length 0) = #[.int .u8 6, .int .u8 0, .int .i64 0, .slice none 0 0, .string ⟨#[]⟩, .int .u32 0, .int .i64 0, .int .u64 0, .int .u64 0, .int .i64 0, .string ⟨#[]⟩, .bool false, .bool c] := rfl

set_option maxHeartbeats 4000000 in
theorem textOnly_walk (w : World) (hg : Gl w) (hkw : KwT w) (bo : Option Addr) (L : List UInt8) (bc : Nat) (hl : GRd EY w bo L bc) (mo : Option Addr) (M : List UInt8) (mc : Nat) (hm : GRd EY w mo M mc) :
    Calls Tryz.prog 4 #[.slice bo L.length bc, .slice mo M.length mc] w fun e w' => e = .returned (.bool true) ∧ Below w.heap.size w w' := by
  have HA := Hid.mk2 (fun V (hV : Below w.heap.size w V) => alive14_any V (hg.below hV))
  have HG := Hid.mk2 (fun V (hV : Below w.heap.size w V) => hg.below hV)
  have HKW := Hid.mk2 (fun V (hV : Below w.heap.size w V) => hkw.below hV)
  have HL := Hid.mk2 (fun V (hV : Below w.heap.size w V) => hl.below hV)
  have HM := Hid.mk2 (fun V (hV : Below w.heap.size w V) => hm.below hV)
  have hll : (L.length : Int) ≤ 9223372036854775807 := by have := hl.len; omega
  have hml : (M.length : Int) ≤ 9223372036854775807 := by have := hm.len; omega
  obtain ⟨LL, hLL⟩ : ∃ n, n = L.length := ⟨_, rfl⟩
  obtain ⟨ML, hML⟩ : ∃ n, n = M.length := ⟨_, rfl⟩
  have HLL := Hid.mk2 hLL
  have HML := Hid.mk2 hML
  rw [← hLL] at hll
  rw [← hML] at hml
  rw [← hLL, ← hML]
  by_cases h1 : (3000 : Int) < (LL : Int)
  · clear hm hg hkw hl hLL hML
    go_enter Tryz.func4, Tryz.ntmps4
    go_wp2_with (go_at_call 5; refine (HA.out _ (Below.refl _ _)).mono ?_; rintro e w0 ⟨rfl, hb0⟩; have HB0 := Hid.mk2 hb0; clear hb0)
    go_ret
    exact ⟨rfl, HB0.out⟩
  by_cases h2 : (10000 : Int) < (ML : Int)
  · clear hm hg hkw hl hLL hML
    go_enter Tryz.func4, Tryz.ntmps4
    go_wp2_with (go_at_call 5; refine (HA.out _ (Below.refl _ _)).mono ?_; rintro e w0 ⟨rfl, hb0⟩; have HB0 := Hid.mk2 hb0; clear hb0)
    go_ret
    exact ⟨rfl, HB0.out⟩
  obtain ⟨⟨x, n⟩, hX⟩ : ∃ q, q = firstW L := ⟨_, rfl⟩
  have HFW : Hid (firstW L = (x, n)) := hX.symm
  have HN : Hid (∀ V, Below w.heap.size w V → Calls Tryz.prog 8 #[.slice bo LL bc] V fun e V' => NextR V V' (firstW L).1 (firstW L).2 0 e) := fun V hV => next14_any V bo L bc (HL.out V hV) (by omega) (HG.out V hV) LL hLL
  obtain ⟨o1, o2, o3⟩ := first_only HFW.out
  have hn1 : ¬ (LL : Int) < (n : Int) := by omega
  have hn2 : ¬ (n : Int) < 0 := by omega
  by_cases h0 : n = 0
  · subst h0
    have hx := o2 rfl
    subst hx
    clear hm hg hkw hl hLL hML hX o1 o2 o3
    have HZ := Hid.mk2 zero_arr
    go_enter Tryz.func4, Tryz.ntmps4
    go_wp2_with (first
      | (go_at_call 5; refine (HA.out _ (Below.refl _ _)).mono ?_; rintro e w0 ⟨rfl, hb0⟩; have HB0 := Hid.mk2 hb0; clear hb0)
      | (go_at_call 8; refine (HN.out w0 HB0.out).mono ?_; rintro e w1 hN1; rw [HFW.out] at hN1; obtain ⟨⟨k1, c1, he1, hk1⟩, hb1⟩ := hN1; dsimp only at he1 hk1; obtain ⟨CS1, hCS⟩ : ∃ CS, CS = rz.cl (.slice k1 rz.cmd.keys.length c1) := ⟨_, rfl⟩; have hAS : rz.arr (.slice k1 rz.cmd.keys.length c1) = CS1.toArray := (by rw [hCS]; rfl); rw [hAS] at he1; subst he1; have HK1 := Hid.mk2 hk1; have HB1 := Hid.mk2 (g_on HB0.out hb1); have HAS1 := Hid.mk2 hAS; have HCS1 : Hid (CS1.length = 13 ∧ (∀ v ∈ CS1, v.oneCell' = true) ∧ CS1[0]? = some (.int .u8 0) ∧ CS1[12]? = some (.bool rz.close)) := (by rw [hCS]; exact ⟨rfl, rqcl_one _ _ _ _, rfl, rfl⟩); clear hk1 hb1 hCS hAS)
      | (refine ywpl_store rfl 28 _ _ rfl w1.heap.size CS1 (rz.cl (.slice none 0 0)) rfl rfl (by rw [HCS1.out.1]; kernel_rfl) (GBx.made w1 _ _) (by rw [HCS1.out.1]; rfl) HCS1.out.2.1 ?_; obtain ⟨w2, hw2⟩ : ∃ w2, w2 = ysets (w1.alloc (.cells (rz.cl (.slice none 0 0)).toArray 28)) w1.heap.size 0 CS1 := ⟨_, rfl⟩; (first | rw [← hw2] | (change wpList _ _ _ _ _ (ysets (w1.alloc (.cells (rz.cl (.slice none 0 0)).toArray 28)) w1.heap.size 0 CS1); rw [← hw2])); have hb2 : Below w1.heap.size w1 w2 := (by rw [hw2]; exact (g_alloc w1 _).grown (ysets_grown _ _ _ _) (by simp) (fun k hk => by cases hk; exact Nat.le_refl _)); have HD2 : Hid (GBx w2 w1.heap.size CS1) := (by rw [hw2]; exact ybox (GBx.made w1 _ _) _ (by rw [HCS1.out.1]; rfl)); have HB2 := Hid.mk2 (g_on HB1.out hb2); have HK2 := Hid.mk2 (HK1.out.below hb2); have d0 := HD2.out.get 0 _ HCS1.out.2.2.1; have d12 := HD2.out.get 12 _ HCS1.out.2.2.2; have hlt2 := HD2.out.lt; clear hw2 hb2)
      | (refine ywpl_load rfl 28 _ rfl w1.heap.size rfl CS1 HD2.out _ Tryz.underlying28 rfl (by rw [HCS1.out.1]; kernel_rfl) ?_)
      | (go_at_call 9; rw [← HAS1.out, ← HZ.out]; refine (rsame14_any rz _ none _ 0 w2 HK2.out (GRd.nil _)).mono ?_; rintro e w9 ⟨rfl, hb9⟩; have HB9 := Hid.mk2 (g_on HB2.out hb9); clear hb9))
    go_ret
    exact ⟨by first | rfl | simp, HB9.out⟩
  have h0i : ¬ ((n : Int) = 0) := by omega
  have h0b : ((n : Int) == 0) = false := by simpa using h0
  rcases o3 h0 with ⟨c, rfl⟩ | ⟨hk6, hwE, hft, hwr⟩
  · clear hm hg hkw hl hLL hML hX o1 o2 o3
    have HZ := Hid.mk2 (bad_arr c)
    go_enter Tryz.func4, Tryz.ntmps4
    go_wp2_with (first
      | (go_at_call 5; refine (HA.out _ (Below.refl _ _)).mono ?_; rintro e w0 ⟨rfl, hb0⟩; have HB0 := Hid.mk2 hb0; clear hb0)
      | (go_at_call 8; refine (HN.out w0 HB0.out).mono ?_; rintro e w1 hN1; rw [HFW.out] at hN1; obtain ⟨⟨k1, c1, he1, hk1⟩, hb1⟩ := hN1; dsimp only at he1 hk1; obtain ⟨CS1, hCS⟩ : ∃ CS, CS = (bad c).cl (.slice k1 (bad c).cmd.keys.length c1) := ⟨_, rfl⟩; have hAS : (bad c).arr (.slice k1 (bad c).cmd.keys.length c1) = CS1.toArray := (by rw [hCS]; rfl); rw [hAS] at he1; subst he1; have HK1 := Hid.mk2 hk1; have HB1 := Hid.mk2 (g_on HB0.out hb1); have HAS1 := Hid.mk2 hAS; have HCS1 : Hid (CS1.length = 13 ∧ (∀ v ∈ CS1, v.oneCell' = true) ∧ CS1[0]? = some (.int .u8 6) ∧ CS1[12]? = some (.bool c)) := (by rw [hCS]; exact ⟨rfl, rqcl_one _ _ _ _, rfl, rfl⟩); clear hk1 hb1 hCS hAS)
      | (refine ywpl_store rfl 28 _ _ rfl w1.heap.size CS1 (rz.cl (.slice none 0 0)) rfl rfl (by rw [HCS1.out.1]; kernel_rfl) (GBx.made w1 _ _) (by rw [HCS1.out.1]; rfl) HCS1.out.2.1 ?_; obtain ⟨w2, hw2⟩ : ∃ w2, w2 = ysets (w1.alloc (.cells (rz.cl (.slice none 0 0)).toArray 28)) w1.heap.size 0 CS1 := ⟨_, rfl⟩; (first | rw [← hw2] | (change wpList _ _ _ _ _ (ysets (w1.alloc (.cells (rz.cl (.slice none 0 0)).toArray 28)) w1.heap.size 0 CS1); rw [← hw2])); have hb2 : Below w1.heap.size w1 w2 := (by rw [hw2]; exact (g_alloc w1 _).grown (ysets_grown _ _ _ _) (by simp) (fun k hk => by cases hk; exact Nat.le_refl _)); have HD2 : Hid (GBx w2 w1.heap.size CS1) := (by rw [hw2]; exact ybox (GBx.made w1 _ _) _ (by rw [HCS1.out.1]; rfl)); have HB2 := Hid.mk2 (g_on HB1.out hb2); have HK2 := Hid.mk2 (HK1.out.below hb2); have d0 := HD2.out.get 0 _ HCS1.out.2.2.1; have d12 := HD2.out.get 12 _ HCS1.out.2.2.2; have hlt2 := HD2.out.lt; clear hw2 hb2)
      | (refine ywpl_load rfl 28 _ rfl w1.heap.size rfl CS1 HD2.out _ Tryz.underlying28 rfl (by rw [HCS1.out.1]; kernel_rfl) ?_)
      | (go_at_call 9; rw [← HAS1.out, ← HZ.out]; refine (rsame14_any (bad c) _ none _ 0 w2 HK2.out (GRd.nil _)).mono ?_; rintro e w9 ⟨rfl, hb9⟩; have HB9 := Hid.mk2 (g_on HB2.out hb9); clear hb9))
    go_ret
    exact ⟨by first | rfl | simp, HB9.out⟩
  · have hk6b : (x.kind == 6) = false := by simpa using hk6
    have hcl : x.close = false := by
      cases hc : x.close with
      | false => rfl
      | true => exact absurd (close_bad HFW.out hc) hk6
    have HFM : Hid (firstW (L ++ M) = (x, n)) := first_more HFW.out h0 hcl
    have HWL : Hid (x.wr.length = n) := by show _ = _; rw [hwr, List.length_take]; omega
    have HWR := Hid.mk2 hwr
    have HWS := Hid.mk2 (wr_short hwE)
    have HFT := Hid.mk2 hft
    have hne : L ≠ [] := by intro e; rw [e] at hLL; simp at hLL; omega
    obtain ⟨b, off, rfl, _, _⟩ := hl.uy hne
    have hbc : (n : Int) ≤ (bc : Int) := by have := hl.hl; omega
    have hbcc : (bc : Int) ≤ 9223372036854775807 := by have := hl.hc; omega
    have hn0 : (0 : Int) ≤ (n : Int) := by omega
    obtain ⟨X, hXX⟩ : ∃ X : ByteArray, X = ⟨(L.take n).toArray⟩ := ⟨_, rfl⟩
    have HXX := Hid.mk2 hXX
    have hxx : (X.toList == X.toList) = true := by simp
    have HWE0 := Hid.mk2 hwE
    have HKD := Hid.mk2 hk6
    have HO1 := Hid.mk2 o1
    obtain ⟨xk, hxk⟩ : ∃ k, k = x.kind := ⟨_, rfl⟩
    have HXK := Hid.mk2 hxk
    rw [← hxk] at hk6b hk6
    have hAL : (L ++ M).length = LL + ML := by rw [List.length_append, ← hLL, ← hML]
    have HAL := Hid.mk2 hAL
    have q1 : ((n : Int) == (n : Int)) = true := by simp
    clear hm hg hkw hl hLL hML hX o1 o2 o3 hwr hft hne hXX hwE hxk hAL hcl
    go_enter Tryz.func4, Tryz.ntmps4
    go_upto_region 12 with (first
      | (go_at_call 5; refine (HA.out _ (Below.refl _ _)).mono ?_; rintro e w0 ⟨rfl, hb0⟩; have HB0 := Hid.mk2 hb0; clear hb0)
      | (go_at_call 8; refine (HN.out w0 HB0.out).mono ?_; rintro e w1 hN1; rw [HFW.out] at hN1; obtain ⟨⟨k1, c1, he1, hk1⟩, hb1⟩ := hN1; dsimp only at he1 hk1; obtain ⟨CS1, hCS⟩ : ∃ CS, CS = x.cl (.slice k1 x.cmd.keys.length c1) := ⟨_, rfl⟩; have hAS : x.arr (.slice k1 x.cmd.keys.length c1) = CS1.toArray := (by rw [hCS]; rfl); rw [hAS] at he1; subst he1; have HK1 := Hid.mk2 hk1; have HB1 := Hid.mk2 (g_on HB0.out hb1); have HAS1 := Hid.mk2 hAS; have HCS1 : Hid (CS1.length = 13 ∧ (∀ v ∈ CS1, v.oneCell' = true) ∧ CS1[0]? = some (.int .u8 xk) ∧ CS1[12]? = some (.bool x.close)) := (by rw [hCS]; exact ⟨rfl, rqcl_one _ _ _ _, by rw [HXK.out]; rfl, rfl⟩); clear hk1 hb1 hCS hAS)
      | (refine ywpl_store rfl 28 _ _ rfl w1.heap.size CS1 (rz.cl (.slice none 0 0)) rfl rfl (by rw [HCS1.out.1]; kernel_rfl) (GBx.made w1 _ _) (by rw [HCS1.out.1]; rfl) HCS1.out.2.1 ?_; obtain ⟨w2, hw2⟩ : ∃ w2, w2 = ysets (w1.alloc (.cells (rz.cl (.slice none 0 0)).toArray 28)) w1.heap.size 0 CS1 := ⟨_, rfl⟩; (first | rw [← hw2] | (change wpList _ _ _ _ _ (ysets (w1.alloc (.cells (rz.cl (.slice none 0 0)).toArray 28)) w1.heap.size 0 CS1); rw [← hw2])); have hb2 : Below w1.heap.size w1 w2 := (by rw [hw2]; exact (g_alloc w1 _).grown (ysets_grown _ _ _ _) (by simp) (fun k hk => by cases hk; exact Nat.le_refl _)); have HD2 : Hid (GBx w2 w1.heap.size CS1) := (by rw [hw2]; exact ybox (GBx.made w1 _ _) _ (by rw [HCS1.out.1]; rfl)); have HB2 := Hid.mk2 (g_on HB1.out hb2); have HK2 := Hid.mk2 (HK1.out.below hb2); have d0 := HD2.out.get 0 _ HCS1.out.2.2.1; have d12 := HD2.out.get 12 _ HCS1.out.2.2.2; have hlt2 := HD2.out.lt; clear hw2 hb2)
      | (refine ywpl_load rfl 28 _ rfl w1.heap.size rfl CS1 HD2.out _ Tryz.underlying28 rfl (by rw [HCS1.out.1]; kernel_rfl) ?_)
      | (go_at_call 7; rw [← HAS1.out]; refine (write14_any x k1 c1 w2 HK2.out HWS.out.1 HWS.out.2 HFT.out (HG.out _ HB2.out).tab (HKW.out _ HB2.out)).mono ?_; rintro e w3 ⟨a3, c3, he3, hg3, hb3⟩; rw [HWE0.out, HWL.out] at he3; subst he3; rw [HWR.out] at hg3; have HG3 := Hid.mk2 hg3; have HB3 := Hid.mk2 (g_on HB2.out hb3); have HD3 := Hid.mk2 (HD2.out.below hb3); have HK3 := Hid.mk2 (HK2.out.below hb3); clear hb3 hg3 d0 d12 hlt2))
    have hcv1 : ∀ j, (convert 29 9 (.slice a3 n c3)).run Tryz.prog (w3.drewN j) = .ok (.string X) (w3.drewN j) := by
      intro j
      have h := conv_rd (HG3.out.below (y_drewN (Below.refl w3.heap.size w3) j))
      rw [List.length_take, ← HLL.out, show min n LL = n by have := HO1.out; have := HLL.out; omega, ← HXX.out] at h
      exact h
    have hcv2 : ∀ j, (convert 29 9 (.slice (some ⟨b, off, none⟩) n bc)).run Tryz.prog (w3.drewN j) = .ok (.string X) (w3.drewN j) := by
      intro j
      have h := conv_rd (((HL.out w3 HB3.out).tk2 n).below (y_drewN (Below.refl w3.heap.size w3) j))
      rw [List.length_take, ← HLL.out, show min n LL = n by have := HO1.out; have := HLL.out; omega, ← HXX.out] at h
      exact h
    go_quiet (fail)
    obtain ⟨w4, hw4⟩ : ∃ w4, w4 = w3.drewN nq := ⟨_, rfl⟩
    have HB34 : Hid (Below w3.heap.size w3 w4) := by rw [hw4]; exact y_drewN (Below.refl _ _) _
    rw [← hw4]
    clear hw4 hcv1 hcv2
    have HB4 := Hid.mk2 (g_on HB3.out HB34.out)
    have HD4 := Hid.mk2 (HD3.out.below HB34.out)
    have HK4 := Hid.mk2 (HK3.out.below HB34.out)
    have hbc2 : LL ≤ bc := by have := (HL.out _ HB4.out).hl; have := HLL.out; omega
    go_wp2_with (first
      | (refine g_app okY rfl _ _ _ rfl rfl w4.heap.size _ [] (GOwn.nil _ _) rfl (some ⟨b, off, none⟩) bc L LL HLL.out rfl (HL.out _ HB4.out) (by have := HLL.out; simp; omega) (Nat.le_refl _) ?_; intro v5 w5 hO5 hgr5; have hb5 := hgr5.below (GOwn.nil (E := EY) w4 w4.heap.size) (Nat.le_refl _); have HB5 := Hid.mk2 (g_on HB4.out hb5); rw [List.nil_append] at hO5; have HO5 := Hid.mk2 hO5; have HD5 := Hid.mk2 (HD4.out.below hb5); have HK5 := Hid.mk2 (HK4.out.below hb5); have HS5 : Hid (w4.heap.size ≤ w5.heap.size) := hgr5.grown.size; have HE5 := Hid.mk2 hb5; clear hO5 hgr5 hb5)
      | (refine g_app okY rfl _ _ _ rfl rfl w4.heap.size _ L HO5.out rfl mo mc M ML HML.out rfl (HM.out _ HB5.out) (by have := HLL.out; have := HML.out; omega) HS5.out ?_; intro v6 w6 hO6 hgr6; have hb6 : Below w4.heap.size w5 w6 := hgr6.below HO5.out HS5.out; have HB6 : Hid (Below w.heap.size w w6) := HB5.out.trans (hb6.mono HB4.out.size); have hb46 : Below w4.heap.size w4 w6 := HE5.out.trans hb6; have HD6 := Hid.mk2 (HD4.out.below hb46); have HK6 := Hid.mk2 (HK4.out.below hb46); obtain ⟨a6, c6, hv6, hr6⟩ := hO6.rd okY; rw [HAL.out] at hv6; subst hv6; have HR6 := Hid.mk2 hr6; clear hO6 hgr6 hb6 hb46 hr6)
      | (go_at_call 8; refine (next14_any w6 a6 (L ++ M) c6 HR6.out (by rw [List.length_append]; have := HLL.out; have := HML.out; omega) (HG.out _ HB6.out) (LL + ML) HAL.out.symm).mono ?_; rintro e w7 hN7; rw [HFM.out] at hN7; obtain ⟨⟨k7, c7, he7, hk7⟩, hb7⟩ := hN7; dsimp only at he7 hk7; obtain ⟨CS7, hCS⟩ : ∃ CS, CS = x.cl (.slice k7 x.cmd.keys.length c7) := ⟨_, rfl⟩; have hAS : x.arr (.slice k7 x.cmd.keys.length c7) = CS7.toArray := (by rw [hCS]; rfl); rw [hAS] at he7; subst he7; have HK7 := Hid.mk2 hk7; have HB7 := Hid.mk2 (g_on HB6.out hb7); have HD7 := Hid.mk2 (HD6.out.below hb7); have HJ7 := Hid.mk2 (HK6.out.below hb7); have HAS7 := Hid.mk2 hAS; have HCS7 : Hid (CS7.length = 13 ∧ ∀ v ∈ CS7, v.oneCell' = true) := (by rw [hCS]; exact ⟨rfl, rqcl_one _ _ _ _⟩); clear hk7 hb7 hCS hAS)
      | (refine ywpl_store rfl 28 _ _ rfl w7.heap.size CS7 (rz.cl (.slice none 0 0)) rfl rfl (by rw [HCS7.out.1]; kernel_rfl) (GBx.made w7 _ _) (by rw [HCS7.out.1]; rfl) HCS7.out.2 ?_; obtain ⟨w8, hw8⟩ : ∃ w8, w8 = ysets (w7.alloc (.cells (rz.cl (.slice none 0 0)).toArray 28)) w7.heap.size 0 CS7 := ⟨_, rfl⟩; (first | rw [← hw8] | (change wpList _ _ _ _ _ (ysets (w7.alloc (.cells (rz.cl (.slice none 0 0)).toArray 28)) w7.heap.size 0 CS7); rw [← hw8])); have hb8 : Below w7.heap.size w7 w8 := (by rw [hw8]; exact (g_alloc w7 _).grown (ysets_grown _ _ _ _) (by simp) (fun k hk => by cases hk; exact Nat.le_refl _)); have HE8 : Hid (GBx w8 w7.heap.size CS7) := (by rw [hw8]; exact ybox (GBx.made w7 _ _) _ (by rw [HCS7.out.1]; rfl)); have HB8 := Hid.mk2 (g_on HB7.out hb8); have HK8 := Hid.mk2 (HK7.out.below hb8); have HD8 := Hid.mk2 (HD7.out.below hb8); have HJ8 := Hid.mk2 (HJ7.out.below hb8); clear hw8 hb8)
      | (refine ywpl_load_g (by first | rfl | simp [Region.wanted, yielded]) 28 _ rfl w7.heap.size rfl CS7 HE8.out _ Tryz.underlying28 rfl (by rw [HCS7.out.1]; kernel_rfl) ?_)
      | (refine ywpl_load_g (by first | rfl | simp [Region.wanted, yielded]) 28 _ rfl w1.heap.size rfl CS1 HD8.out _ Tryz.underlying28 rfl (by rw [HCS1.out.1]; kernel_rfl) ?_)
      | (go_at_call 9; rw [← HAS7.out, ← HAS1.out]; refine (rsame14_any x _ _ _ _ w8 HK8.out HJ8.out).mono ?_; rintro e w9 ⟨rfl, hb9⟩; have HB9 := Hid.mk2 (g_on HB8.out hb9); clear hb9))
    go_ret
    exact ⟨by first | rfl | simp, HB9.out⟩

set_option maxRecDepth 100000 in
theorem textOnly_lifted (os : Os) (started : os.Started) (H : Type) (enc : TypeId × Value → H) :
    ReturnsInHanded {} Tryz.checked os 4 .any (fun w args => (Rows.textOnlySpec.pre enc Tryz.prog Tryz.f4 [] false w args ∧ laidMetH Tryz.prog laid8 w) ∧ sizedMet enc Tryz.prog Tryz.f4 (OpenSpec.ofChange Rows.textOnlySpec) false w args) (Rows.textOnlySpec.post enc Tryz.prog Tryz.f4 false true false false) := by
  refine handed_shaped_and (C := Tryz.checked) (X := fun w _ => laidMetH Tryz.prog laid8 w) (fun _ _ _ hh h => h.of_heap hh) own started (by kernel_rfl) Tryz.func4
    (ChangeSpec.witness_shaped (enc := enc) (C := Tryz.checked) (os := os) (X := fun w _ => laidMetH Tryz.prog laid8 w) false (World.laidAll Tryz.prog os laid8) #[.slice none 0 0, .slice none 0 0] 8 (World.laidAll_os _ _ _)
      (World.shaped_of_ZipB (by kernel_rfl) (by kernel_rfl)) (by kernel_rfl) (by kernel_rfl) (by kernel_rfl)
      (by rw [MakeChecks.laidMetH_plain _ _ _ (by kernel_rfl)]; exact laidMet_laidAll _ (by kernel_rfl) (by kernel_rfl))) ?_
  intro W base args ds gs before hval0 hW hcnd _ hL hsh
  have hval : ∀ (j : Nat) t v, Tryz.f4.params[j]? = some t → args[j]? = some v → Value.okWide Tryz.prog W .any base t v := hval0
  have hW' := hW
  obtain ⟨p, q, hA0, hV, rfl, hfz, hnd⟩ := hW
  have hA : DataW.TrodAll enc Tryz.prog W 0 (fun _ => true) true Tryz.f4.params.toList args.toList ds p := hA0
  rw [Tryz.params4] at hA hval
  obtain ⟨v0, vs0, d0, ds0, p0, q0, hargs, rfl, rfl, h0, r0⟩ := trodAll_cons hA
  obtain ⟨v1, vs1, d1, ds1, p1, q1, rfl, rfl, rfl, h1, r1⟩ := trodAll_cons r0
  obtain ⟨rfl, rfl, rfl⟩ := trodAll_nil r1
  obtain rfl : args = #[v0, v1] := by cases args; simp_all
  obtain ⟨rfl, rfl⟩ := trodVars_none hV
  have k0 := h0
  have lt0 : ∀ x ∈ p0, x.block < W.heap.size := by obtain ⟨m, hm⟩ := k0; exact DataW.trod_lt m _ _ _ hm
  obtain ⟨ao0, l0, cap0, rfl, g0⟩ := inBytes14_of (fun _ => rfl) (hval 0 29 v0 rfl rfl) h0
  have k1 := h1
  have lt1 : ∀ x ∈ p1, x.block < W.heap.size := by obtain ⟨m, hm⟩ := k1; exact DataW.trod_lt m _ _ _ hm
  obtain ⟨ao1, l1, cap1, rfl, g1⟩ := inBytes14_of (fun _ => rfl) (hval 1 29 v1 rfl rfl) h1
  clear hA0 hval0
  refine (textOnly_walk W (gl_of8 hL hsh) (kw_of8 hL) ao0 l0 cap0 g0 ao1 l1 cap1 g1).mono fun e W' ⟨he, bel⟩ => ?_
  subst he
  exact ⟨_, rfl, _, _, _, [], _, [], hW', trodAll_mk1 (shut_bool Tryz.underlying4 _), (trodAll_cons_mk (Below.trod laidOut_all (by kernel_rfl) (of_decide_eq_true (by kernel_rfl)) k0 bel lt0) (trodAll_cons_mk (Below.trod laidOut_all (by kernel_rfl) (of_decide_eq_true (by kernel_rfl)) k1 bel lt1) trodAll_mk0)), rfl, bel.frame _, fun h => by cases h⟩

theorem textOnly_proved : Rows.TextOnlySaid :=
  OpenClaim.holds_of_wide 4 Tryz.f4 rfl rfl rfl rfl rfl rfl rfl ⟨rfl, rfl, rfl, rfl, rfl⟩ rfl rfl rfl rfl rfl (by kernel_rfl) Tryz.func4 (by kernel_rfl)
    (of_decide_eq_true (by kernel_rfl)) (by unfold Func.isWrapper; first | (rw [if_pos (by decide +kernel)]; kernel_rfl) | (rw [if_neg (by decide +kernel)]; exact ⟨rfl, rfl⟩))
    (fun os started H enc _ => textOnly_lifted os started H enc)

theorem textOnly_card : Rows.TextOnlyCardSaid :=
  Claim7.holds_tied_plain_at .later [] [.data, .data, .data, .data, .sentinel, .sentinel, .data, .pinned] true Rows.textOnlyCard.stood.harness true
    textOnly_proved (fun _ h => by cases h) (by kernel_rfl) (fun _ h => by cases h) textOnly_row_tie rfl ⟨rfl, rfl⟩ (by kernel_rfl) rfl
    (fun f fn hf hfn => by
      obtain rfl : f = 4 := Option.some.inj ((show Tryz.prog.funcNamed "cloakroom/cloakroomlaw14.TextOnly" = some 4 by kernel_rfl).symm.trans hf) |>.symm
      obtain rfl : fn = Tryz.f4 := (Option.some.inj (Tryz.func4.symm.trans hfn)).symm
      exact ⟨by kernel_rfl, fun j t ht => by
        rw [Tryz.params4] at ht
        have hm : t ∈ ([29, 29] : List TypeId) := by simpa using Array.mem_of_getElem? ht
        have hall : (([29, 29] : List TypeId).all fun u => !Tryz.prog.wantsStandIn u) = true := by kernel_rfl
        exact (show Tryz.prog.wantsStandIn t = false by simpa using List.all_eq_true.1 hall t hm)⟩)
    (by kernel_rfl)
#print axioms textOnly_card
end Go.Proofs.YtldnkminhppngaaGreatDoor
