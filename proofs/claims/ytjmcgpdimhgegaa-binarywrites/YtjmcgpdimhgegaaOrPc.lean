/-
  (shaken)
-/
import Derived.Test.YtjmcgpdimhgegaaOrPb
namespace Go.Proofs.Ytjmcgpdimhgegaa
open Go.RowKit Go.Sort Go.Shelf
set_option linter.unusedSimpArgs false
set_option linter.unusedVariables false
set_option maxRecDepth 100000

theorem GRd.take {α : Type} {E : GEl α} {w : World} {ao : Option Addr} {l : List α} {cap : Nat} (h : GRd E w ao l cap) (k : Nat) : GRd E w ao (l.take k) cap := by
  refine ⟨by have := h.hl; simp; omega, h.hc, h.hn, ?_⟩
  rcases h.at_ with rfl | ⟨b, off, e, hb, hc⟩
  · exact .inl (by simp)
  · refine .inr ⟨b, off, e, hb, fun i hi j hj => ?_⟩
    have hi' : i < l.length := by simp at hi; omega
    rw [List.getElem_take]
    exact hc i hi' j hj
theorem keysC_false {l : List ByteArray} {k : Nat} (hk : k < l.length) (h : keyOk l[k] = false ∨ l[k] ∈ l.take k) : keysC l = false := by
  unfold keysC
  rcases h with h | h
  · have : l.all keyOk = false := by
      rw [List.all_eq_false]
      exact ⟨l[k], List.getElem_mem hk, by simp [h]⟩
    simp [this]
  · have : ¬ l.Nodup := fun hn => takes_of_nodup hn k hk h
    simp [this]
theorem keysC_true {l : List ByteArray} (h8 : l.length ≤ 8) (h : ∀ j (hj : j < l.length), keyOk l[j] = true ∧ l[j] ∉ l.take j) : keysC l = true := by
  unfold keysC
  have h1 : l.all keyOk = true := by
    rw [List.all_eq_true]
    intro x hx
    obtain ⟨j, hj, rfl⟩ := List.getElem_of_mem hx
    exact (h j hj).1
  have h2 : l.Nodup := nodup_of_takes (fun j hj => (h j hj).2)
  simp [h1, h2, h8]

set_option maxHeartbeats 1000000 in
theorem keysMayBe_any (l : List ByteArray) (ao : Option Addr) (cap : Nat) (w : World) (h : GRd ES w ao l cap) :
    Calls Try.prog 39 #[.slice ao l.length cap] w fun e w' => e = .returned (.bool (keysC l)) ∧ w' = w := by
  have hlen := h.len
  have hcap := h.hl
  have hcm := h.hc
  have HR := Hid.mk2 h
  by_cases h8 : 8 < l.length
  · have e : keysC l = false := by unfold keysC; rw [decide_eq_false (by omega)]; rfl
    rw [e]
    have h8' : (8 : Int) < (l.length : Int) := by omega
    clear h e
    go_enter Try.func39, Try.ntmps39
    go_wp2
    go_ret
    exact ⟨rfl, rfl⟩
  have h8' : ¬ (8 : Int) < (l.length : Int) := by omega
  have HF := Hid.mk2 (fun k hk => @keysC_false l k hk)
  have HT := Hid.mk2 (@keysC_true l (by omega))
  obtain ⟨R, hR⟩ : ∃ R, R = keysC l := ⟨_, rfl⟩
  rw [← hR] at HF HT ⊢
  clear hR h
  go_enter Try.func39, Try.ntmps39
  go_wp2
  go_loopw [3, 4, 10] (fun _ _ i wr => ∃ k : Nat, k ≤ l.length ∧ i = .int .i64 k ∧ wr = w ∧ Hid (∀ j (hj : j < l.length), j < k → keyOk l[j] = true ∧ l[j] ∉ l.take j)) (fun _ _ i _ => l.length - (intOf i).toNat)
  case atStart => exact ⟨0, Nat.zero_le _, rfl, rfl, fun _ _ h => absurd h (by omega)⟩
  case round =>
    obtain ⟨k, hk, rfl, hwr, HA⟩ := hrel
    have hwr := hwr.symm
    subst hwr
    by_cases hkl : k < l.length
    · have hkl2 : (k : Int) < (l.length : Int) := by omega
      have hne : l ≠ [] := by intro e; rw [e] at hkl; simp at hkl
      obtain ⟨b, off, rfl, hbl, hcs⟩ := HR.out.str hne
      have r0 := hcs k hkl
      obtain ⟨y, hye⟩ : ∃ y, y = l[k] := ⟨_, rfl⟩
      rw [← hye] at r0
      have HFK := HF.out k hkl
      rw [← hye] at HFK
      have HFK := Hid.mk2 HFK
      by_cases s1 : y.size < 1
      · have s1' : (y.size : Int) < 1 := by omega
        have e : R = false := HFK.out (.inl (by simp [keyOk]; omega))
        subst e
        clear HF HT HA HFK hcs hne hye
        go_wp2
        go_ret
        exact ⟨rfl, rfl⟩
      have s1' : ¬ (y.size : Int) < 1 := by omega
      by_cases s2 : 32 < y.size
      · have s2' : (32 : Int) < (y.size : Int) := by omega
        have e : R = false := HFK.out (.inl (by simp [keyOk]; omega))
        subst e
        clear HF HT HA HFK hcs hne hye
        go_wp2
        go_ret
        exact ⟨rfl, rfl⟩
      have s2' : ¬ (32 : Int) < (y.size : Int) := by omega
      have HC := Hid.mk2 (containsS_any (l.take k) (some ⟨b, off, none⟩) cap k (by simp; omega) y w (HR.out.take k))
      have hkc : k ≤ cap := by omega
      have hkc2 : (k : Int) ≤ (cap : Int) := by omega
      obtain ⟨Z, hZ⟩ : ∃ Z : Bool, Z = decide (y ∈ l.take k) := ⟨_, rfl⟩
      rw [← hZ] at HC
      cases Z
      · have hn : y ∉ l.take k := by simpa using hZ.symm
        have HA2 : Hid (∀ j (hj : j < l.length), j < k + 1 → keyOk l[j] = true ∧ l[j] ∉ l.take j) := by
          intro j hj hjk
          by_cases e : j = k
          · subst e; rw [← hye]; exact ⟨by simp [keyOk]; omega, hn⟩
          · exact HA.out j hj (by omega)
        clear HF HT HA HFK hcs hne hye hn hZ
        go_wp2_with (go_at_call 45; refine HC.out.mono ?_; rintro e w1 ⟨rfl, hw1⟩; have hw1 := hw1.symm; subst hw1)
        go_roundw
        case rel => exact ⟨k + 1, by omega, by go_num, by first | rfl | trivial, HA2⟩
        case measure => simp [intOf]; omega
      · have hn : y ∈ l.take k := by simpa using hZ.symm
        have e : R = false := HFK.out (.inr hn)
        subst e
        clear HF HT HA HFK hcs hne hye hn hZ
        go_wp2_with (go_at_call 45; refine HC.out.mono ?_; rintro e w1 ⟨rfl, hw1⟩; have hw1 := hw1.symm; subst hw1)
        go_ret
        exact ⟨rfl, rfl⟩
    · have e := HT.out (fun j hj => HA.out j hj (by omega))
      subst e
      have hkl2 : ¬ (k : Int) < (l.length : Int) := by omega
      clear HF HT HA
      go_wp2
      go_ret
      exact ⟨rfl, rfl⟩

set_option maxHeartbeats 2000000 in
theorem pcheck_any (c : Cm) (ko : Option Addr) (kc : Nat) (w : World) (h : GRd ES w ko c.keys kc) :
    Calls Try.prog 30 #[.agg (c.arr (.slice ko c.keys.length kc))] w fun e w' => e = .returned (.int .i64 c.chkE) ∧ RowKit.Below w.heap.size w w' := by
  have mixed : Try.prog.follows .mixedOrders = true := by kernel_rfl
  have HK := Hid.mk2 (fun W (hW : RowKit.Below w.heap.size w W) => keysMayBe_any c.keys ko kc W (h.below hW))
  have HHS : Hid (∀ W, Calls Try.prog 37 #[.agg (c.arr (.slice ko c.keys.length kc))] W fun e w' => e = .returned (.int .u64 (c.hasN : Nat)) ∧ ∃ q os', w' = grow (W.drewN q) os') := fun W => (has_any c ko kc W).mono (by rintro e w' ⟨rfl, rfl⟩; exact ⟨rfl, 0, _, alloc_eq_grow _ _⟩)
  have HMH : Hid (∀ W, Calls Try.prog 38 #[.int .u8 c.kind] W fun e w' => e = .returned (.int .u64 (mayN c.kind : Nat)) ∧ ∃ q os', w' = grow (W.drewN q) os') := fun W => (mayHave_any c.kind W).mono (by rintro e w' ⟨rfl, rfl⟩; exact ⟨rfl, grow_same _⟩)
  have HM := Hid.mk2 (Cm.At.made c (.slice ko c.keys.length kc) w)
  unfold Cm.chkE
  rw [c.may_code]
  obtain ⟨B, hB⟩ : ∃ B, B = c.bad := ⟨_, rfl⟩
  obtain ⟨T, hT⟩ : ∃ T, T = tenOk c.tenant := ⟨_, rfl⟩
  obtain ⟨K, hK⟩ : ∃ K, K = keysC c.keys := ⟨_, rfl⟩
  have hB' := hB
  unfold Cm.bad at hB'
  rw [← hB, ← hT, ← hK]
  rw [← hK] at HK
  obtain ⟨E, hE⟩ : ∃ E : Int, E = if (!B && T && K && decide (c.value.size ≤ 512) && decide (0 ≤ c.life ∧ c.life ≤ 1099511627776)) = true then 0 else 100 := ⟨_, rfl⟩
  rw [← hE]
  have HE := Hid.mk2 hE
  clear hE
  obtain ⟨HN, hHN⟩ : ∃ HN, HN = c.hasN := ⟨_, rfl⟩
  obtain ⟨MN, hMN⟩ : ∃ MN, MN = mayN c.kind := ⟨_, rfl⟩
  rw [← hHN, ← hMN] at hB'
  rw [← hHN] at HHS
  rw [← hMN] at HMH
  obtain ⟨Z, hZ⟩ : ∃ Z, Z = bits BinOp.andNot IntKind.u64 (HN : Int) (MN : Int) := ⟨_, rfl⟩
  rw [← hZ] at hB'
  have hz := hZ.symm
  have HBZ := Hid.mk2 hB'
  have HT := Hid.mk2 hT
  clear hB hK hHN hMN h hT hB' hZ
  obtain ⟨kind, tenant, keys, value, flags, life, unique, by_⟩ := c
  unfold Cm.arr at *
  dsimp only at *
  obtain ⟨W, hW⟩ : ∃ W, W = w.alloc (.cells #[.int .u8 kind, .int .i64 tenant, .slice ko keys.length kc, .string value, .int .u32 flags, .int .i64 life, .int .u64 unique, .int .u64 by_] 26) := ⟨_, rfl⟩
  have HB : Hid (RowKit.Below w.heap.size w W) := by rw [hW]; exact g_alloc _ _
  rw [← hW] at HM
  obtain ⟨hlt, c0, c1, c2, c3, c4, c5, c6, c7⟩ := HM.out
  dsimp only at c0 c1 c2 c3 c4 c5 c6 c7
  go_enter Try.func30, Try.ntmps30
  go_upto_region 1 with (fail)
  rw [← hW]
  clear hW
  have d0 : ∀ n os, (grow (W.drewN n) os).cell? ⟨w.heap.size, 0, none⟩ = _ := cell_grown hlt c0
  have d1 : ∀ n os, (grow (W.drewN n) os).cell? ⟨w.heap.size, 1, none⟩ = _ := cell_grown hlt c1
  have d2 : ∀ n os, (grow (W.drewN n) os).cell? ⟨w.heap.size, 2, none⟩ = _ := cell_grown hlt c2
  have d3 : ∀ n os, (grow (W.drewN n) os).cell? ⟨w.heap.size, 3, none⟩ = _ := cell_grown hlt c3
  have d4 : ∀ n os, (grow (W.drewN n) os).cell? ⟨w.heap.size, 4, none⟩ = _ := cell_grown hlt c4
  have d5 : ∀ n os, (grow (W.drewN n) os).cell? ⟨w.heap.size, 5, none⟩ = _ := cell_grown hlt c5
  have d6 : ∀ n os, (grow (W.drewN n) os).cell? ⟨w.heap.size, 6, none⟩ = _ := cell_grown hlt c6
  have d7 : ∀ n os, (grow (W.drewN n) os).cell? ⟨w.heap.size, 7, none⟩ = _ := cell_grown hlt c7
  clear c0 c1 c2 c3 c4 c5 c6 c7
  go_cut [3] from 4 (fun s3 wx => s3 = .bool B ∧ Hid (RowKit.Below W.heap.size W wx))
  case first =>
    go_quiet_grown (first
      | (go_at_call 37; exact Calls.grown_of (HHS.out _))
      | (go_at_call 38; exact Calls.grown_of (HMH.out _)))
    go_wp2
    go_meet
    case rel => exact ⟨by rw [HBZ.out], g_grow _ _ _⟩
  case rest =>
  obtain ⟨rfl, HBC⟩ := hcut
  have HB2 := Hid.mk2 (g_on HB.out HBC.out)
  obtain ⟨hlt2, c0, c1, c2, c3, c4, c5, c6, c7⟩ := HM.out.below HBC.out
  dsimp only at c0 c1 c2 c3 c4 c5 c6 c7
  clear d0 d1 d2 d3 d4 d5 d6 d7 hz HBZ HHS HMH HBC HB
  cases B
  case true =>
    go_wp2
    go_ret
    exact ⟨by rw [HE.out]; simp, HB2.out⟩
  by_cases t1 : tenant < 0
  · have e : T = false := by rw [HT.out]; simp [tenOk]; omega
    subst e
    go_wp2
    go_ret
    exact ⟨by rw [HE.out]; simp, HB2.out⟩
  by_cases t2 : 4 ≤ tenant
  · have e : T = false := by rw [HT.out]; simp [tenOk]; omega
    subst e
    go_wp2
    go_ret
    exact ⟨by rw [HE.out]; simp, HB2.out⟩
  have e : T = true := by rw [HT.out]; simp [tenOk]; omega
  subst e
  clear HT
  cases K
  case false =>
    go_wp2_with (go_at_call 39; refine (HK.out _ HB2.out).mono ?_; rintro e w1 ⟨rfl, hw1⟩; have hw1 := hw1.symm; subst hw1)
    go_ret
    exact ⟨by rw [HE.out]; simp, HB2.out⟩
  by_cases v1 : 512 < value.size
  · have v1' : (512 : Int) < (value.size : Int) := by omega
    go_wp2_with (go_at_call 39; refine (HK.out _ HB2.out).mono ?_; rintro e w1 ⟨rfl, hw1⟩; have hw1 := hw1.symm; subst hw1)
    go_ret
    exact ⟨by rw [HE.out, if_neg (by simp; omega)]; rfl, HB2.out⟩
  have v1' : ¬ (512 : Int) < (value.size : Int) := by omega
  by_cases l1 : life < 0
  · go_wp2_with (go_at_call 39; refine (HK.out _ HB2.out).mono ?_; rintro e w1 ⟨rfl, hw1⟩; have hw1 := hw1.symm; subst hw1)
    go_ret
    exact ⟨by rw [HE.out, if_neg (by simp; omega)]; rfl, HB2.out⟩
  by_cases l2 : 1099511627776 < life
  · go_wp2_with (go_at_call 39; refine (HK.out _ HB2.out).mono ?_; rintro e w1 ⟨rfl, hw1⟩; have hw1 := hw1.symm; subst hw1)
    go_ret
    exact ⟨by rw [HE.out, if_neg (by simp; omega)]; rfl, HB2.out⟩
  go_wp2_with (go_at_call 39; refine (HK.out _ HB2.out).mono ?_; rintro e w1 ⟨rfl, hw1⟩; have hw1 := hw1.symm; subst hw1)
  go_ret
  exact ⟨by rw [HE.out, if_pos (by simp; omega)]; rfl, HB2.out⟩
end Go.Proofs.Ytjmcgpdimhgegaa
