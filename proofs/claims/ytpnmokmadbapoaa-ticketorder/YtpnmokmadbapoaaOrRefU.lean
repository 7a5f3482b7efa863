/-
  The document's commands (cloakroomref10): contracts of Shards and Names.
-/
import Derived.Test.YtpnmokmadbapoaaOrRefT
namespace Go.Proofs.Ytpnmokmadbapoaa
open Go.RowKit Go.Sort Go.Shelf
set_option linter.unusedSimpArgs false
set_option linter.unusedVariables false
set_option maxRecDepth 100000

theorem Cm.may_parts {c : Cm} (h : c.may = true) : (1 ≤ c.kind ∧ c.kind ≤ 11) ∧ tenOk c.tenant = true ∧ c.kOk = true ∧ c.vOk = true ∧ c.lOk = true ∧ c.fOk = true ∧ c.bOk = true := by
  unfold Cm.may at h
  simp only [Bool.and_eq_true, decide_eq_true_eq] at h
  obtain ⟨⟨⟨⟨⟨⟨h1, h2⟩, h3⟩, h4⟩, h5⟩, h6⟩, h7⟩ := h
  exact ⟨h1, h2, h3, h4, h5, h6, h7⟩
theorem Cm.kOk_keys {c : Cm} (h : c.kOk = true) : ∀ k ∈ c.keys, keyOk k = true := by
  unfold Cm.kOk at h
  split at h
  · intro k hk
    have h0 : c.keys.length = 0 := by simpa using h
    rw [List.eq_nil_of_length_eq_zero h0] at hk
    simp at hk
  · simp only [Bool.and_eq_true, List.all_eq_true] at h
    exact h.1.2
theorem Cm.kOk_len {c : Cm} (h : c.kOk = true) : c.keys.length ≤ 8 := by
  unfold Cm.kOk at h
  split at h
  · have h0 : c.keys.length = 0 := by simpa using h
    omega
  · simp only [Bool.and_eq_true, decide_eq_true_eq] at h
    exact h.1.1.2.1

set_option maxHeartbeats 2000000 in
theorem rshards_any (c : Cm) (ko : Option Addr) (kc : Nat) (n : Int) (w : World) (h : GRd ES w ko c.keys kc) :
    Calls Try.prog 18 #[.agg (c.arr (.slice ko c.keys.length kc)), .int .i64 n] w fun e w' => ∃ v, e = .returned (.tuple #[v, .int .i64 (c.shE n)]) ∧ GOwn EI w' w.heap.size v (c.shL n) ∧ RowKit.Below w.heap.size w w' := by
  have HK := Hid.mk2 (fun W (hW : RowKit.Below w.heap.size w W) => rmay_any c ko kc W (h.below hW))
  have HM := Hid.mk2 (Cm.At.made c (.slice ko c.keys.length kc) w)
  have HND := Hid.mk2 (fun (m : Nat) hm0 hm1 (hmay : c.may = true) W (hW : RowKit.Below w.heap.size w W) => rneeds_any c ko kc m hm0 hm1 (Cm.may_parts hmay).2.1 (Cm.kOk_keys (Cm.may_parts hmay).2.2.1) W (h.below hW))
  have hE1 : c.may = false → c.shE n = 100 ∧ c.shL n = [] := fun e => by unfold Cm.shE Cm.shL; simp [e]
  have hE2 : c.may = true → ¬ (1 ≤ n ∧ n ≤ 4) → c.shE n = 2 ∧ c.shL n = [] := fun e e2 => by unfold Cm.shE Cm.shL; rw [if_pos e, if_neg e2, if_neg (fun x => e2 x.2)]; exact ⟨rfl, rfl⟩
  have hE3 : c.may = true → (1 ≤ n ∧ n ≤ 4) → c.shE n = 0 ∧ c.shL n = c.needs n.toNat := fun e e2 => by unfold Cm.shE Cm.shL; rw [if_pos e, if_pos e2, if_pos ⟨e, e2⟩]; exact ⟨rfl, rfl⟩
  obtain ⟨M, hM⟩ : ∃ M, M = c.may := ⟨_, rfl⟩
  rw [← hM] at HK HND hE1 hE2 hE3
  obtain ⟨E, hEe⟩ : ∃ E, E = c.shE n := ⟨_, rfl⟩
  obtain ⟨L, hLe⟩ : ∃ L, L = c.shL n := ⟨_, rfl⟩
  rw [← hEe, ← hLe] at hE1 hE2 hE3 ⊢
  obtain ⟨ND, hND⟩ : ∃ ND : Nat → List Int, ∀ m, ND m = c.needs m := ⟨_, fun _ => rfl⟩
  simp only [← hND] at HND hE3
  have H1 := Hid.mk2 hE1
  have H2 := Hid.mk2 hE2
  have H3 := Hid.mk2 hE3
  clear hM h hE1 hE2 hE3 hEe hLe hND
  obtain ⟨kind, tenant, keys, value, flags, life, unique, by_⟩ := c
  unfold Cm.arr at *
  dsimp only at *
  obtain ⟨W, hW⟩ : ∃ W, W = w.alloc (.cells #[.int .u8 kind, .int .i64 tenant, .slice ko keys.length kc, .string value, .int .u32 flags, .int .i64 life, .int .u64 unique, .int .u64 by_] 27) := ⟨_, rfl⟩
  have HB : Hid (RowKit.Below w.heap.size w W) := by rw [hW]; exact g_alloc _ _
  rw [← hW] at HM
  obtain ⟨hlt, c0, c1, c2, c3, c4, c5, c6, c7⟩ := HM.out
  dsimp only at c0 c1 c2 c3 c4 c5 c6 c7
  go_enter Try.func18, Try.ntmps18
  go_upto_region 1 with (fail)
  rw [← hW]
  clear hW
  cases M
  · obtain ⟨rfl, rfl⟩ := H1.out rfl
    clear H1 H2 H3 HND
    go_wp2_with (go_at_call 53; refine (HK.out _ HB.out).mono ?_; rintro e w1 ⟨rfl, hb1⟩)
    go_ret2
    exact ⟨_, rfl, GOwn.nil _ _, g_on HB.out hb1⟩
  by_cases hn : 1 ≤ n ∧ n ≤ 4
  · obtain ⟨rfl, rfl⟩ := H3.out rfl hn
    obtain ⟨m, rfl⟩ : ∃ m : Nat, n = m := ⟨n.toNat, by omega⟩
    have hm0 : 1 ≤ m := by omega
    have hm1 : m ≤ 4 := by omega
    have a1 : ¬ ((m : Int) < 1) := by omega
    have a2 : ¬ ((4 : Int) < (m : Int)) := by omega
    have hto : ((m : Int)).toNat = m := by omega
    have HTO := Hid.mk2 hto
    clear H1 H2 H3 hn hto
    go_wp2_with (first
      | (go_at_call 53; refine (HK.out _ HB.out).mono ?_; rintro e w1 ⟨rfl, hb1⟩; have HB1 := Hid.mk2 (g_on HB.out hb1); clear c0 c1 c2 c3 c4 c5 c6 c7 hlt; obtain ⟨hlt, c0, c1, c2, c3, c4, c5, c6, c7⟩ := HM.out.below hb1; dsimp only at c0 c1 c2 c3 c4 c5 c6 c7; clear hb1)
      | (go_at_call 54; refine (HND.out m hm0 hm1 (by first | rfl | trivial) _ HB1.out).mono ?_; rintro e w2 ⟨v, rfl, hO, hb2⟩))
    go_ret2
    exact ⟨_, rfl, by rw [HTO.out]; exact hO.down HB1.out.size, g_on HB1.out hb2⟩
  · obtain ⟨rfl, rfl⟩ := H2.out rfl hn
    clear H1 H2 H3 HND
    have hc : n < 1 ∨ (¬ n < 1 ∧ 4 < n) := by omega
    clear hn
    rcases hc with a1 | ⟨a1, a2⟩
    · go_wp2_with (go_at_call 53; refine (HK.out _ HB.out).mono ?_; rintro e w1 ⟨rfl, hb1⟩)
      go_ret2
      exact ⟨_, rfl, GOwn.nil _ _, g_on HB.out hb1⟩
    · go_wp2_with (go_at_call 53; refine (HK.out _ HB.out).mono ?_; rintro e w1 ⟨rfl, hb1⟩)
      go_ret2
      exact ⟨_, rfl, GOwn.nil _ _, g_on HB.out hb1⟩

theorem names_step {c : Cm} {k : Nat} (h : k < c.keys.length) : c.names.take (k + 1) = c.names.take k ++ [(c.tenant, c.keys[k])] := by
  unfold Cm.names
  rw [List.take_add_one, List.getElem?_eq_getElem (by simpa using h)]
  simp

set_option maxHeartbeats 4000000 in
theorem rnames_any (c : Cm) (ko : Option Addr) (kc : Nat) (w : World) (h : GRd ES w ko c.keys kc) :
    Calls Try.prog 17 #[.agg (c.arr (.slice ko c.keys.length kc))] w fun e w' => ∃ v, e = .returned (.tuple #[v, .int .i64 c.chkE]) ∧ GOwn EN w' w.heap.size v c.nmL ∧ RowKit.Below w.heap.size w w' := by
  have HK := Hid.mk2 (fun W (hW : RowKit.Below w.heap.size w W) => rmay_any c ko kc W (h.below hW))
  have HM := Hid.mk2 (Cm.At.made c (.slice ko c.keys.length kc) w)
  have HR := Hid.mk2 h
  have hlen := h.len
  have HST := Hid.mk2 (fun k hk => @names_step c k hk)
  have HNL : Hid (c.names.length = c.keys.length) := by show _ = _; simp [Cm.names]
  have HL8 : Hid (c.may = true → c.keys.length ≤ 8) := fun e => Cm.kOk_len (Cm.may_parts e).2.2.1
  unfold Cm.chkE Cm.nmL
  obtain ⟨M, hM⟩ : ∃ M, M = c.may := ⟨_, rfl⟩
  rw [← hM] at HK HL8 ⊢
  obtain ⟨N, hN⟩ : ∃ N, N = c.names := ⟨_, rfl⟩
  rw [← hN] at HST HNL ⊢
  clear hM hN h
  obtain ⟨kind, tenant, keys, value, flags, life, unique, by_⟩ := c
  unfold Cm.arr at *
  dsimp only at *
  obtain ⟨W, hW⟩ : ∃ W, W = w.alloc (.cells #[.int .u8 kind, .int .i64 tenant, .slice ko keys.length kc, .string value, .int .u32 flags, .int .i64 life, .int .u64 unique, .int .u64 by_] 27) := ⟨_, rfl⟩
  have HB : Hid (RowKit.Below w.heap.size w W) := by rw [hW]; exact g_alloc _ _
  rw [← hW] at HM
  obtain ⟨hlt, c0, c1, c2, c3, c4, c5, c6, c7⟩ := HM.out
  dsimp only at c0 c1 c2 c3 c4 c5 c6 c7
  go_enter Try.func17, Try.ntmps17
  go_upto_region 1 with (fail)
  rw [← hW]
  clear hW
  cases M
  · go_wp2_with (go_at_call 53; refine (HK.out _ HB.out).mono ?_; rintro e w1 ⟨rfl, hb1⟩)
    go_ret2
    exact ⟨_, rfl, GOwn.nil _ _, g_on HB.out hb1⟩
  have hl8 := HL8.out rfl
  go_wp2_with (go_at_call 53; refine (HK.out _ HB.out).mono ?_; rintro e w1 ⟨rfl, hb1⟩; have HB1 := Hid.mk2 (g_on HB.out hb1); have HM1 := Hid.mk2 (HM.out.below hb1); clear hb1)
  clear c0 c1 c2 c3 c4 c5 c6 c7 hlt HM HB HK HL8
  go_loopw [4, 5] (fun v i wr => ∃ (k : Nat) (v5 : Value), k ≤ keys.length ∧ i = .int .i64 k ∧ v = v5 ∧ RowKit.Below w1.heap.size w1 wr ∧ GOwn EN wr w1.heap.size v5 (N.take k)) (fun _ i _ => keys.length - (RowKit.intOf i).toNat)
  case atStart => exact ⟨0, _, Nat.zero_le _, rfl, rfl, RowKit.Below.refl _ _, by rw [List.take_zero]; exact GOwn.nil _ _⟩
  case round =>
    obtain ⟨k, v5, hkn, rfl, rfl, hbw, how⟩ := hrel
    have HBW := Hid.mk2 hbw
    have HOW := Hid.mk2 how
    have hbz := hbw.size
    clear hbw how
    obtain ⟨hlt, c0, c1, c2, c3, c4, c5, c6, c7⟩ := HM1.out.below HBW.out
    dsimp only at c0 c1 c2 c3 c4 c5 c6 c7
    by_cases hkl : k < keys.length
    · have hkl2 : (k : Int) < (keys.length : Int) := by omega
      have hne : keys ≠ [] := by intro e; rw [e] at hkl; simp at hkl
      obtain ⟨b, off, rfl, hbl, hcs⟩ := ((HR.out.below HB1.out).below HBW.out).str hne
      have r0 := hcs k hkl
      obtain ⟨p, hpe⟩ : ∃ p, p = keys[k] := ⟨_, rfl⟩
      have HE := Hid.mk2 (HST.out k hkl)
      rw [← hpe] at r0 HE
      have HLT : Hid ((N.take k).length + 1 ≤ 1000000) := by show _ ≤ _; rw [List.length_take, HNL.out]; omega
      have HOD := Hid.mk2 (HOW.out.below ((RowKit.Below.refl wr.heap.size wr).drew))
      clear hcs hne hpe
      go_wp2
      go_region_law (refine g_step_one (w0 := wr.drew) okN (by rfl) (.tmp 16) (.tmp 25) _ (by rfl) (by rfl) w1.heap.size _ (N.take k) HOD.out (by rfl) (tenant, p) (by rfl) _ (by rfl) (by rfl) HLT.out hbz ?_; intro v7 w7 hO7 hG7; have HO7 := Hid.mk2 hO7; have HG7 := Hid.mk2 hG7; clear hO7 hG7)
      all_goals
        go_wp2
        go_roundw
        case rel => exact ⟨k + 1, v7, by omega, by go_num, rfl, HBW.out.trans (HG7.out.drew.below HOW.out hbz), by rw [HE.out]; exact HO7.out⟩
        case measure => simp [RowKit.intOf]; omega
    · have ek : N.take k = N := List.take_of_length_le (by rw [HNL.out]; omega)
      rw [ek] at HOW
      have hkl2 : ¬ ((k : Int) < (keys.length : Int)) := by omega
      clear ek
      go_wp2
      go_ret2
      exact ⟨_, rfl, HOW.out.down HB1.out.size, g_on HB1.out HBW.out⟩
end Go.Proofs.Ytpnmokmadbapoaa
