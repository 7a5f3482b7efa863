/-
  Several texts in one: OrPb, OrPc, BnW, BnB, BnX, BnM, BnQ.
-/
import Derived.Test.YtjmcgpdimhgegaaG01
import Derived.Test.YtjmcgpdimhgegaaGy
import Derived.Test.YtjmcgpdimhgegaaBnP
/-
  (shaken)
-/
namespace Go.Proofs.Ytjmcgpdimhgegaa
open Go.RowKit Go.Sort Go.Shelf
set_option linter.unusedSimpArgs false
set_option linter.unusedVariables false
set_option maxRecDepth 100000

/-- how many keys: none, one, more -/
def mvN : Fin 3 → Nat
  | 0 => 1
  | 1 => 2
  | 2 => 4
def hv (m : Fin 3) (v f l u y : Bool) : Nat := orIf y (orIf u (orIf l (orIf f (orIf v (mvN m) 8) 16) 32) 64) 128
def mcl (n : Nat) : Fin 3 := if n = 0 then 0 else if n = 1 then 1 else 2
theorem mvN_mcl (n : Nat) : mvN (mcl n) = manyN n := by
  unfold mcl manyN
  by_cases h0 : n = 0
  · rw [if_pos h0, if_pos h0]; rfl
  · rw [if_neg h0, if_neg h0]
    by_cases h1 : n = 1
    · rw [if_pos h1, if_pos h1]; rfl
    · rw [if_neg h1, if_neg h1]; rfl
theorem mcl_0 (n : Nat) : mcl n = 0 ↔ n = 0 := by
  unfold mcl
  by_cases h0 : n = 0
  · simp [h0]
  · rw [if_neg h0]
    by_cases h1 : n = 1
    · simp [h1]
    · simp [h0, h1]
theorem mcl_1 (n : Nat) : mcl n = 1 ↔ n = 1 := by
  unfold mcl
  by_cases h0 : n = 0
  · simp [h0]
  · rw [if_neg h0]
    by_cases h1 : n = 1
    · simp [h1]
    · simp [h0, h1]
theorem bits_6 : ∀ (m : Fin 3) (v f l u y : Bool), (bits BinOp.andNot IntKind.u64 ((hv m v f l u y : Nat) : Int) 6 != 0) = !(decide (m ≠ 0) && !v && !f && !l && !u && !y) := by decide +kernel
theorem bits_58 : ∀ (m : Fin 3) (v f l u y : Bool), (bits BinOp.andNot IntKind.u64 ((hv m v f l u y : Nat) : Int) 58 != 0) = !(decide (m = 1) && !u && !y) := by decide +kernel
theorem bits_122 : ∀ (m : Fin 3) (v f l u y : Bool), (bits BinOp.andNot IntKind.u64 ((hv m v f l u y : Nat) : Int) 122 != 0) = !(decide (m = 1) && !y) := by decide +kernel
theorem bits_130 : ∀ (m : Fin 3) (v f l u y : Bool), (bits BinOp.andNot IntKind.u64 ((hv m v f l u y : Nat) : Int) 130 != 0) = !(decide (m = 1) && !v && !f && !l && !u) := by decide +kernel
theorem bits_10 : ∀ (m : Fin 3) (v f l u y : Bool), (bits BinOp.andNot IntKind.u64 ((hv m v f l u y : Nat) : Int) 10 != 0) = !(decide (m = 1) && !f && !l && !u && !y) := by decide +kernel
theorem bits_34 : ∀ (m : Fin 3) (v f l u y : Bool), (bits BinOp.andNot IntKind.u64 ((hv m v f l u y : Nat) : Int) 34 != 0) = !(decide (m = 1) && !v && !f && !u && !y) := by decide +kernel
theorem bits_1 : ∀ (m : Fin 3) (v f l u y : Bool), (bits BinOp.andNot IntKind.u64 ((hv m v f l u y : Nat) : Int) 1 != 0) = !(decide (m = 0) && !v && !f && !l && !u && !y) := by decide +kernel
theorem bits_0 : ∀ (m : Fin 3) (v f l u y : Bool), (bits BinOp.andNot IntKind.u64 ((hv m v f l u y : Nat) : Int) 0 != 0) = !false := by decide +kernel
/-- its bits, held against those of its kind -/
def Cm.bad (c : Cm) : Bool := bits BinOp.andNot IntKind.u64 ((c.hasN : Nat) : Int) ((mayN c.kind : Nat) : Int) != 0
def keysC (l : List ByteArray) : Bool := decide (l.length ≤ 8) && l.all keyOk && decide l.Nodup
theorem Cm.hasN_hv (c : Cm) : c.hasN = hv (mcl c.keys.length) (!decide (c.value.size = 0)) (!decide (c.flags = 0)) (!decide (c.life = 0)) (!decide (c.unique = 0)) (!decide (c.by_ = 0)) := by
  unfold Cm.hasN hv
  rw [mvN_mcl]
theorem Cm.may_code (c : Cm) : c.may = (!c.bad && tenOk c.tenant && keysC c.keys && decide (c.value.size ≤ 512) && decide (0 ≤ c.life ∧ c.life ≤ 1099511627776)) := by
  unfold Cm.bad
  rw [c.hasN_hv]
  obtain ⟨kind, tenant, keys, value, flags, life, unique, by_⟩ := c
  unfold Cm.may Cm.kOk Cm.vOk Cm.lOk Cm.fOk Cm.bOk Cm.puts keysC
  dsimp only
  have h0 : keys.length = 0 → keys.all keyOk = true ∧ decide keys.Nodup = true := by
    intro e
    have := List.eq_nil_of_length_eq_zero e
    subst this
    exact ⟨rfl, by simp⟩
  have c0 := mcl_0 keys.length
  have c1 := mcl_1 keys.length
  generalize mcl keys.length = m at c0 c1 ⊢
  generalize keys.length = n at h0 c0 c1 ⊢
  generalize keys.all keyOk = A at h0 ⊢
  generalize decide keys.Nodup = N at h0 ⊢
  generalize tenOk tenant = T
  generalize value.size = vs
  by_cases k1 : kind = 1
  · subst k1
    rw [show ((mayN 1 : Nat) : Int) = 6 from rfl, bits_6]
    rw [Bool.eq_iff_iff]
    cases A <;> cases N <;> cases T <;> simp [c0, c1] at h0 ⊢ <;> omega
  by_cases k2 : kind = 2
  · subst k2
    rw [show ((mayN 2 : Nat) : Int) = 58 from rfl, bits_58]
    rw [Bool.eq_iff_iff]
    cases A <;> cases N <;> cases T <;> simp [c0, c1] at h0 ⊢ <;> omega
  by_cases k3 : kind = 3
  · subst k3
    rw [show ((mayN 3 : Nat) : Int) = 58 from rfl, bits_58]
    rw [Bool.eq_iff_iff]
    cases A <;> cases N <;> cases T <;> simp [c0, c1] at h0 ⊢ <;> omega
  by_cases k4 : kind = 4
  · subst k4
    rw [show ((mayN 4 : Nat) : Int) = 58 from rfl, bits_58]
    rw [Bool.eq_iff_iff]
    cases A <;> cases N <;> cases T <;> simp [c0, c1] at h0 ⊢ <;> omega
  by_cases k5 : kind = 5
  · subst k5
    rw [show ((mayN 5 : Nat) : Int) = 122 from rfl, bits_122]
    rw [Bool.eq_iff_iff]
    cases A <;> cases N <;> cases T <;> simp [c0, c1] at h0 ⊢ <;> omega
  by_cases k6 : kind = 6
  · subst k6
    rw [show ((mayN 6 : Nat) : Int) = 130 from rfl, bits_130]
    rw [Bool.eq_iff_iff]
    cases A <;> cases N <;> cases T <;> simp [c0, c1] at h0 ⊢ <;> omega
  by_cases k7 : kind = 7
  · subst k7
    rw [show ((mayN 7 : Nat) : Int) = 130 from rfl, bits_130]
    rw [Bool.eq_iff_iff]
    cases A <;> cases N <;> cases T <;> simp [c0, c1] at h0 ⊢ <;> omega
  by_cases k8 : kind = 8
  · subst k8
    rw [show ((mayN 8 : Nat) : Int) = 10 from rfl, bits_10]
    rw [Bool.eq_iff_iff]
    cases A <;> cases N <;> cases T <;> simp [c0, c1] at h0 ⊢ <;> omega
  by_cases k9 : kind = 9
  · subst k9
    rw [show ((mayN 9 : Nat) : Int) = 34 from rfl, bits_34]
    rw [Bool.eq_iff_iff]
    cases A <;> cases N <;> cases T <;> simp [c0, c1] at h0 ⊢ <;> omega
  by_cases k10 : kind = 10
  · subst k10
    rw [show ((mayN 10 : Nat) : Int) = 6 from rfl, bits_6]
    rw [Bool.eq_iff_iff]
    cases A <;> cases N <;> cases T <;> simp [c0, c1] at h0 ⊢ <;> omega
  by_cases k11 : kind = 11
  · subst k11
    rw [show ((mayN 11 : Nat) : Int) = 1 from rfl, bits_1]
    rw [Bool.eq_iff_iff]
    cases A <;> cases N <;> cases T <;> simp [c0, c1] at h0 ⊢ <;> omega
  have e0 : mayN kind = 0 := by unfold mayN; simp [k1, k2, k3, k4, k5, k6, k7, k8, k9, k10, k11]
  rw [e0, show ((0 : Nat) : Int) = 0 from rfl, bits_0]
  have e1 : ¬ (1 ≤ kind ∧ kind ≤ 11) := by omega
  simp [e1]
end Go.Proofs.Ytjmcgpdimhgegaa
/-
  (shaken)
-/
namespace Go.Proofs.Ytjmcgpdimhgegaa
open Go.RowKit Go.Sort Go.Shelf
set_option linter.unusedSimpArgs false
set_option linter.unusedVariables false
set_option maxRecDepth 100000

theorem GRd.take {α : Type} {E : GEl α} {w : World} {ao : Option Addr} {l : List α} {cap : Nat} (h : GRd E w ao l cap) (k : Nat) : GRd E w ao (l.take k) cap := by
  refine ⟨by have := h.hl; simp; omega, h.hc, h.hn, ?_⟩
  rcases h.at_ with rfl | ⟨b, off, e, hb, hc⟩
  · exact .inl (by simp)
  · refine .inr ⟨b, off, e, hb, fun i hi j hj => ?_⟩
    have hi' : i < l.length := by simp at hi; omega
    rw [List.getElem_take]
    exact hc i hi' j hj
theorem keysC_false {l : List ByteArray} {k : Nat} (hk : k < l.length) (h : keyOk l[k] = false ∨ l[k] ∈ l.take k) : keysC l = false := by
  unfold keysC
  rcases h with h | h
  · have : l.all keyOk = false := by
      rw [List.all_eq_false]
      exact ⟨l[k], List.getElem_mem hk, by simp [h]⟩
    simp [this]
  · have : ¬ l.Nodup := fun hn => takes_of_nodup hn k hk h
    simp [this]
theorem keysC_true {l : List ByteArray} (h8 : l.length ≤ 8) (h : ∀ j (hj : j < l.length), keyOk l[j] = true ∧ l[j] ∉ l.take j) : keysC l = true := by
  unfold keysC
  have h1 : l.all keyOk = true := by
    rw [List.all_eq_true]
    intro x hx
    obtain ⟨j, hj, rfl⟩ := List.getElem_of_mem hx
    exact (h j hj).1
  have h2 : l.Nodup := nodup_of_takes (fun j hj => (h j hj).2)
  simp [h1, h2, h8]

set_option maxHeartbeats 1000000 in
theorem keysMayBe_any (l : List ByteArray) (ao : Option Addr) (cap : Nat) (w : World) (h : GRd ES w ao l cap) :
    Calls Try.prog 39 #[.slice ao l.length cap] w fun e w' => e = .returned (.bool (keysC l)) ∧ w' = w := by
  have hlen := h.len
  have hcap := h.hl
  have hcm := h.hc
  have HR := Hid.mk2 h
  by_cases h8 : 8 < l.length
  · have e : keysC l = false := by unfold keysC; rw [decide_eq_false (by omega)]; rfl
    rw [e]
    have h8' : (8 : Int) < (l.length : Int) := by omega
    clear h e
    go_enter Try.func39, Try.ntmps39
    go_wp2
    go_ret
    exact ⟨rfl, rfl⟩
  have h8' : ¬ (8 : Int) < (l.length : Int) := by omega
  have HF := Hid.mk2 (fun k hk => @keysC_false l k hk)
  have HT := Hid.mk2 (@keysC_true l (by omega))
  obtain ⟨R, hR⟩ : ∃ R, R = keysC l := ⟨_, rfl⟩
  rw [← hR] at HF HT ⊢
  clear hR h
  go_enter Try.func39, Try.ntmps39
  go_wp2
  go_loopw [3, 4, 10] (fun _ _ i wr => ∃ k : Nat, k ≤ l.length ∧ i = .int .i64 k ∧ wr = w ∧ Hid (∀ j (hj : j < l.length), j < k → keyOk l[j] = true ∧ l[j] ∉ l.take j)) (fun _ _ i _ => l.length - (intOf i).toNat)
  case atStart => exact ⟨0, Nat.zero_le _, rfl, rfl, fun _ _ h => absurd h (by omega)⟩
  case round =>
    obtain ⟨k, hk, rfl, hwr, HA⟩ := hrel
    have hwr := hwr.symm
    subst hwr
    by_cases hkl : k < l.length
    · have hkl2 : (k : Int) < (l.length : Int) := by omega
      have hne : l ≠ [] := by intro e; rw [e] at hkl; simp at hkl
      obtain ⟨b, off, rfl, hbl, hcs⟩ := HR.out.str hne
      have r0 := hcs k hkl
      obtain ⟨y, hye⟩ : ∃ y, y = l[k] := ⟨_, rfl⟩
      rw [← hye] at r0
      have HFK := HF.out k hkl
      rw [← hye] at HFK
      have HFK := Hid.mk2 HFK
      by_cases s1 : y.size < 1
      · have s1' : (y.size : Int) < 1 := by omega
        have e : R = false := HFK.out (.inl (by simp [keyOk]; omega))
        subst e
        clear HF HT HA HFK hcs hne hye
        go_wp2
        go_ret
        exact ⟨rfl, rfl⟩
      have s1' : ¬ (y.size : Int) < 1 := by omega
      by_cases s2 : 32 < y.size
      · have s2' : (32 : Int) < (y.size : Int) := by omega
        have e : R = false := HFK.out (.inl (by simp [keyOk]; omega))
        subst e
        clear HF HT HA HFK hcs hne hye
        go_wp2
        go_ret
        exact ⟨rfl, rfl⟩
      have s2' : ¬ (32 : Int) < (y.size : Int) := by omega
      have HC := Hid.mk2 (containsS_any (l.take k) (some ⟨b, off, none⟩) cap k (by simp; omega) y w (HR.out.take k))
      have hkc : k ≤ cap := by omega
      have hkc2 : (k : Int) ≤ (cap : Int) := by omega
      obtain ⟨Z, hZ⟩ : ∃ Z : Bool, Z = decide (y ∈ l.take k) := ⟨_, rfl⟩
      rw [← hZ] at HC
      cases Z
      · have hn : y ∉ l.take k := by simpa using hZ.symm
        have HA2 : Hid (∀ j (hj : j < l.length), j < k + 1 → keyOk l[j] = true ∧ l[j] ∉ l.take j) := by
          intro j hj hjk
          by_cases e : j = k
          · subst e; rw [← hye]; exact ⟨by simp [keyOk]; omega, hn⟩
          · exact HA.out j hj (by omega)
        clear HF HT HA HFK hcs hne hye hn hZ
        go_wp2_with (go_at_call 45; refine HC.out.mono ?_; rintro e w1 ⟨rfl, hw1⟩; have hw1 := hw1.symm; subst hw1)
        go_roundw
        case rel => exact ⟨k + 1, by omega, by go_num, by first | rfl | trivial, HA2⟩
        case measure => simp [intOf]; omega
      · have hn : y ∈ l.take k := by simpa using hZ.symm
        have e : R = false := HFK.out (.inr hn)
        subst e
        clear HF HT HA HFK hcs hne hye hn hZ
        go_wp2_with (go_at_call 45; refine HC.out.mono ?_; rintro e w1 ⟨rfl, hw1⟩; have hw1 := hw1.symm; subst hw1)
        go_ret
        exact ⟨rfl, rfl⟩
    · have e := HT.out (fun j hj => HA.out j hj (by omega))
      subst e
      have hkl2 : ¬ (k : Int) < (l.length : Int) := by omega
      clear HF HT HA
      go_wp2
      go_ret
      exact ⟨rfl, rfl⟩

set_option maxHeartbeats 2000000 in
theorem pcheck_any (c : Cm) (ko : Option Addr) (kc : Nat) (w : World) (h : GRd ES w ko c.keys kc) :
    Calls Try.prog 30 #[.agg (c.arr (.slice ko c.keys.length kc))] w fun e w' => e = .returned (.int .i64 c.chkE) ∧ RowKit.Below w.heap.size w w' := by
  have mixed : Try.prog.follows .mixedOrders = true := by kernel_rfl
  have HK := Hid.mk2 (fun W (hW : RowKit.Below w.heap.size w W) => keysMayBe_any c.keys ko kc W (h.below hW))
  have HHS : Hid (∀ W, Calls Try.prog 37 #[.agg (c.arr (.slice ko c.keys.length kc))] W fun e w' => e = .returned (.int .u64 (c.hasN : Nat)) ∧ ∃ q os', w' = grow (W.drewN q) os') := fun W => (has_any c ko kc W).mono (by rintro e w' ⟨rfl, rfl⟩; exact ⟨rfl, 0, _, alloc_eq_grow _ _⟩)
  have HMH : Hid (∀ W, Calls Try.prog 38 #[.int .u8 c.kind] W fun e w' => e = .returned (.int .u64 (mayN c.kind : Nat)) ∧ ∃ q os', w' = grow (W.drewN q) os') := fun W => (mayHave_any c.kind W).mono (by rintro e w' ⟨rfl, rfl⟩; exact ⟨rfl, grow_same _⟩)
  have HM := Hid.mk2 (Cm.At.made c (.slice ko c.keys.length kc) w)
  unfold Cm.chkE
  rw [c.may_code]
  obtain ⟨B, hB⟩ : ∃ B, B = c.bad := ⟨_, rfl⟩
  obtain ⟨T, hT⟩ : ∃ T, T = tenOk c.tenant := ⟨_, rfl⟩
  obtain ⟨K, hK⟩ : ∃ K, K = keysC c.keys := ⟨_, rfl⟩
  have hB' := hB
  unfold Cm.bad at hB'
  rw [← hB, ← hT, ← hK]
  rw [← hK] at HK
  obtain ⟨E, hE⟩ : ∃ E : Int, E = if (!B && T && K && decide (c.value.size ≤ 512) && decide (0 ≤ c.life ∧ c.life ≤ 1099511627776)) = true then 0 else 100 := ⟨_, rfl⟩
  rw [← hE]
  have HE := Hid.mk2 hE
  clear hE
  obtain ⟨HN, hHN⟩ : ∃ HN, HN = c.hasN := ⟨_, rfl⟩
  obtain ⟨MN, hMN⟩ : ∃ MN, MN = mayN c.kind := ⟨_, rfl⟩
  rw [← hHN, ← hMN] at hB'
  rw [← hHN] at HHS
  rw [← hMN] at HMH
  obtain ⟨Z, hZ⟩ : ∃ Z, Z = bits BinOp.andNot IntKind.u64 (HN : Int) (MN : Int) := ⟨_, rfl⟩
  rw [← hZ] at hB'
  have hz := hZ.symm
  have HBZ := Hid.mk2 hB'
  have HT := Hid.mk2 hT
  clear hB hK hHN hMN h hT hB' hZ
  obtain ⟨kind, tenant, keys, value, flags, life, unique, by_⟩ := c
  unfold Cm.arr at *
  dsimp only at *
  obtain ⟨W, hW⟩ : ∃ W, W = w.alloc (.cells #[.int .u8 kind, .int .i64 tenant, .slice ko keys.length kc, .string value, .int .u32 flags, .int .i64 life, .int .u64 unique, .int .u64 by_] 26) := ⟨_, rfl⟩
  have HB : Hid (RowKit.Below w.heap.size w W) := by rw [hW]; exact g_alloc _ _
  rw [← hW] at HM
  obtain ⟨hlt, c0, c1, c2, c3, c4, c5, c6, c7⟩ := HM.out
  dsimp only at c0 c1 c2 c3 c4 c5 c6 c7
  go_enter Try.func30, Try.ntmps30
  go_upto_region 1 with (fail)
  rw [← hW]
  clear hW
  have d0 : ∀ n os, (grow (W.drewN n) os).cell? ⟨w.heap.size, 0, none⟩ = _ := cell_grown hlt c0
  have d1 : ∀ n os, (grow (W.drewN n) os).cell? ⟨w.heap.size, 1, none⟩ = _ := cell_grown hlt c1
  have d2 : ∀ n os, (grow (W.drewN n) os).cell? ⟨w.heap.size, 2, none⟩ = _ := cell_grown hlt c2
  have d3 : ∀ n os, (grow (W.drewN n) os).cell? ⟨w.heap.size, 3, none⟩ = _ := cell_grown hlt c3
  have d4 : ∀ n os, (grow (W.drewN n) os).cell? ⟨w.heap.size, 4, none⟩ = _ := cell_grown hlt c4
  have d5 : ∀ n os, (grow (W.drewN n) os).cell? ⟨w.heap.size, 5, none⟩ = _ := cell_grown hlt c5
  have d6 : ∀ n os, (grow (W.drewN n) os).cell? ⟨w.heap.size, 6, none⟩ = _ := cell_grown hlt c6
  have d7 : ∀ n os, (grow (W.drewN n) os).cell? ⟨w.heap.size, 7, none⟩ = _ := cell_grown hlt c7
  clear c0 c1 c2 c3 c4 c5 c6 c7
  go_cut [3] from 4 (fun s3 wx => s3 = .bool B ∧ Hid (RowKit.Below W.heap.size W wx))
  case first =>
    go_quiet_grown (first
      | (go_at_call 37; exact Calls.grown_of (HHS.out _))
      | (go_at_call 38; exact Calls.grown_of (HMH.out _)))
    go_wp2
    go_meet
    case rel => exact ⟨by rw [HBZ.out], g_grow _ _ _⟩
  case rest =>
  obtain ⟨rfl, HBC⟩ := hcut
  have HB2 := Hid.mk2 (g_on HB.out HBC.out)
  obtain ⟨hlt2, c0, c1, c2, c3, c4, c5, c6, c7⟩ := HM.out.below HBC.out
  dsimp only at c0 c1 c2 c3 c4 c5 c6 c7
  clear d0 d1 d2 d3 d4 d5 d6 d7 hz HBZ HHS HMH HBC HB
  cases B
  case true =>
    go_wp2
    go_ret
    exact ⟨by rw [HE.out]; simp, HB2.out⟩
  by_cases t1 : tenant < 0
  · have e : T = false := by rw [HT.out]; simp [tenOk]; omega
    subst e
    go_wp2
    go_ret
    exact ⟨by rw [HE.out]; simp, HB2.out⟩
  by_cases t2 : 4 ≤ tenant
  · have e : T = false := by rw [HT.out]; simp [tenOk]; omega
    subst e
    go_wp2
    go_ret
    exact ⟨by rw [HE.out]; simp, HB2.out⟩
  have e : T = true := by rw [HT.out]; simp [tenOk]; omega
  subst e
  clear HT
  cases K
  case false =>
    go_wp2_with (go_at_call 39; refine (HK.out _ HB2.out).mono ?_; rintro e w1 ⟨rfl, hw1⟩; have hw1 := hw1.symm; subst hw1)
    go_ret
    exact ⟨by rw [HE.out]; simp, HB2.out⟩
  by_cases v1 : 512 < value.size
  · have v1' : (512 : Int) < (value.size : Int) := by omega
    go_wp2_with (go_at_call 39; refine (HK.out _ HB2.out).mono ?_; rintro e w1 ⟨rfl, hw1⟩; have hw1 := hw1.symm; subst hw1)
    go_ret
    exact ⟨by rw [HE.out, if_neg (by simp; omega)]; rfl, HB2.out⟩
  have v1' : ¬ (512 : Int) < (value.size : Int) := by omega
  by_cases l1 : life < 0
  · go_wp2_with (go_at_call 39; refine (HK.out _ HB2.out).mono ?_; rintro e w1 ⟨rfl, hw1⟩; have hw1 := hw1.symm; subst hw1)
    go_ret
    exact ⟨by rw [HE.out, if_neg (by simp; omega)]; rfl, HB2.out⟩
  by_cases l2 : 1099511627776 < life
  · go_wp2_with (go_at_call 39; refine (HK.out _ HB2.out).mono ?_; rintro e w1 ⟨rfl, hw1⟩; have hw1 := hw1.symm; subst hw1)
    go_ret
    exact ⟨by rw [HE.out, if_neg (by simp; omega)]; rfl, HB2.out⟩
  go_wp2_with (go_at_call 39; refine (HK.out _ HB2.out).mono ?_; rintro e w1 ⟨rfl, hw1⟩; have hw1 := hw1.symm; subst hw1)
  go_ret
  exact ⟨by rw [HE.out, if_pos (by simp; omega)]; rfl, HB2.out⟩
end Go.Proofs.Ytjmcgpdimhgegaa
/-
  Package binary: isNothing, loginMayBe, isRequest, checkCommand.
-/
namespace Go.Proofs.Ytjmcgpdimhgegaa
open Go.Proofs.Ytjmcgpdimhgegaa.It
open Go.RowKit
set_option linter.unusedSimpArgs false
set_option linter.unusedVariables false
set_option maxRecDepth 100000

theorem isReq_any (k : UInt8) (w : World) : Calls Try.prog 20 #[.int .u8 (k.toNat : Int)] w fun e w' => e = .returned (.bool (isRq k)) ∧ w' = w := by
  have h256 := k.toNat_lt
  unfold isRq
  by_cases h1 : 1 ≤ k.toNat
  · have i1 : (1 : Int) ≤ (k.toNat : Int) := by omega
    by_cases h2 : k.toNat ≤ 5
    · have i2 : (k.toNat : Int) ≤ 5 := by omega
      go_enter Try.func20, Try.ntmps20
      go_wp2
      go_ret
      exact ⟨by simp [h1, h2], rfl⟩
    · have i2 : ¬ (k.toNat : Int) ≤ 5 := by omega
      go_enter Try.func20, Try.ntmps20
      go_wp2
      go_ret
      exact ⟨by simp [h1, h2], rfl⟩
  · have i1 : ¬ (1 : Int) ≤ (k.toNat : Int) := by omega
    go_enter Try.func20, Try.ntmps20
    go_wp2
    go_ret
    exact ⟨by simp [h1], rfl⟩
theorem isReqI_any (k : Int) (hk : 0 ≤ k ∧ k ≤ 255) (w : World) : Calls Try.prog 20 #[.int .u8 k] w fun e w' => e = .returned (.bool (decide (1 ≤ k ∧ k ≤ 5))) ∧ w' = w := by
  have h := isReq_any (UInt8.ofNat k.toNat) w
  have e : ((UInt8.ofNat k.toNat).toNat : Int) = k := by rw [UInt8.toNat_ofNat']; omega
  have e2 : isRq (UInt8.ofNat k.toNat) = decide (1 ≤ k ∧ k ≤ 5) := by
    unfold isRq
    rw [show (UInt8.ofNat k.toNat).toNat = k.toNat by omega, ← Bool.decide_and]
    exact decide_eq_decide.2 (by omega)
  rw [e, e2] at h
  exact h
theorem loginMay_any (t : Int) (n : Nat) (w : World) : Calls Try.prog 22 #[.int .i64 t, .int .i64 (n : Int)] w fun e w' => e = .returned (.bool (logOk t n)) ∧ w' = w := by
  by_cases h1 : 0 ≤ t
  case neg =>
    have e : logOk t n = false := by unfold logOk; rw [decide_eq_false h1]; rfl
    rw [e]
    go_enter Try.func22, Try.ntmps22
    go_wp2
    go_ret
    exact ⟨rfl, rfl⟩
  by_cases h2 : t < 4
  case neg =>
    have e : logOk t n = false := by unfold logOk; rw [decide_eq_false h2]; cases decide (0 ≤ t) <;> rfl
    rw [e]
    go_enter Try.func22, Try.ntmps22
    go_wp2
    go_ret
    exact ⟨rfl, rfl⟩
  by_cases h3 : 1 ≤ n
  case neg =>
    have e : logOk t n = false := by unfold logOk; rw [decide_eq_false h3]; cases decide (0 ≤ t) <;> cases decide (t < 4) <;> rfl
    rw [e]
    have i3 : ¬ (1 : Int) ≤ (n : Int) := by omega
    clear h3
    go_enter Try.func22, Try.ntmps22
    go_wp2
    go_ret
    exact ⟨rfl, rfl⟩
  have i3 : (1 : Int) ≤ (n : Int) := by omega
  by_cases h4 : n ≤ 16
  · have e : logOk t n = true := by unfold logOk; rw [decide_eq_true h1, decide_eq_true h2, decide_eq_true h3, decide_eq_true h4]; rfl
    rw [e]
    have i4 : (n : Int) ≤ 16 := by omega
    go_enter Try.func22, Try.ntmps22
    go_wp2
    go_ret
    exact ⟨rfl, rfl⟩
  · have e : logOk t n = false := by unfold logOk; rw [decide_eq_false h4]; cases decide (0 ≤ t) <;> cases decide (t < 4) <;> cases decide (1 ≤ n) <;> rfl
    rw [e]
    have i4 : ¬ (n : Int) ≤ 16 := by omega
    clear h4
    go_enter Try.func22, Try.ntmps22
    go_wp2
    go_ret
    exact ⟨rfl, rfl⟩
set_option maxHeartbeats 2000000 in
theorem isNothing_any (c : Cm) (ko : Option Addr) (kc : Nat) (w : World) (hlen : c.keys.length ≤ 9223372036854775807) :
    Calls Try.prog 21 #[.agg (c.arr (.slice ko c.keys.length kc))] w fun e w' => e = .returned (.bool c.isNone) ∧ Below w.heap.size w w' := by
  have HB := Hid.mk2 (g_alloc w (.cells (c.arr (.slice ko c.keys.length kc)) 26))
  obtain ⟨kind, tenant, keys, value, flags, life, unique, by_⟩ := c
  unfold Cm.isNone
  unfold Cm.arr at *
  dsimp only at *
  obtain ⟨n, hn⟩ : ∃ n, n = keys.length := ⟨_, rfl⟩
  rw [← hn] at HB hlen ⊢
  clear hn
  by_cases h0 : kind = 0
  case neg =>
    go_enter Try.func21, Try.ntmps21
    go_wp2
    go_ret
    exact ⟨by simp [h0], HB.out⟩
  subst h0
  by_cases h1 : tenant = 0
  case neg =>
    go_enter Try.func21, Try.ntmps21
    go_wp2
    go_ret
    exact ⟨by simp [h1], HB.out⟩
  subst h1
  by_cases h2 : flags = 0
  case neg =>
    go_enter Try.func21, Try.ntmps21
    go_wp2
    go_ret
    exact ⟨by simp [h2], HB.out⟩
  subst h2
  by_cases h3 : life = 0
  case neg =>
    go_enter Try.func21, Try.ntmps21
    go_wp2
    go_ret
    exact ⟨by simp [h3], HB.out⟩
  subst h3
  by_cases h4 : unique = 0
  case neg =>
    go_enter Try.func21, Try.ntmps21
    go_wp2
    go_ret
    exact ⟨by simp [h4], HB.out⟩
  subst h4
  by_cases h5 : by_ = 0
  case neg =>
    go_enter Try.func21, Try.ntmps21
    go_wp2
    go_ret
    exact ⟨by simp [h5], HB.out⟩
  subst h5
  by_cases h6 : n = 0
  case neg =>
    have i6 : ¬ (n : Int) = 0 := by omega
    have j6 : ((n : Int) == 0) = false := by simpa using i6
    go_enter Try.func21, Try.ntmps21
    go_wp2
    go_ret
    exact ⟨by first | rfl | simp [j6] | simp [h6], HB.out⟩
  subst h6
  go_enter Try.func21, Try.ntmps21
  go_wp2
  go_ret
  exact ⟨by first | rfl | simp, HB.out⟩
set_option maxHeartbeats 1000000 in
theorem checkCommand_any (c : Cm) (ko : Option Addr) (kc : Nat) (w : World) (h : GRd ES w ko c.keys kc) :
    Calls Try.prog 23 #[.agg (c.arr (.slice ko c.keys.length kc))] w fun e w' => e = .returned (.int .i64 c.ckE) ∧ Below w.heap.size w w' := by
  have HC := Hid.mk2 (fun W (hW : Below w.heap.size w W) => pcheck_any c ko kc W (h.below hW))
  have hE : c.ckE = if c.chkE = 0 then (if c.tenant = 0 then 0 else 8) else 100 := by
    unfold Cm.ckE Cm.chkE
    cases c.may <;> simp
  have hc2 : c.chkE = 0 ∨ c.chkE = 100 := by unfold Cm.chkE; split <;> simp
  obtain ⟨E, hEe⟩ : ∃ E, E = c.ckE := ⟨_, rfl⟩
  obtain ⟨F, hF⟩ : ∃ F, F = c.chkE := ⟨_, rfl⟩
  rw [← hEe, ← hF] at hE
  rw [← hEe]
  rw [← hF] at HC hc2
  clear hEe hF h
  obtain ⟨W, hW⟩ : ∃ W, W = w.alloc (.cells (c.arr (.slice ko c.keys.length kc)) 26) := ⟨_, rfl⟩
  have HB : Hid (Below w.heap.size w W) := by rw [hW]; exact g_alloc _ _
  have HX : Hid (c.At (.slice ko c.keys.length kc) W w.heap.size) := by rw [hW]; exact Cm.At.made c _ w
  obtain ⟨kind, tenant, keys, value, flags, life, unique, by_⟩ := c
  have c0 := HX.out.c0
  have c1 := HX.out.c1
  have c2 := HX.out.c2
  have c3 := HX.out.c3
  have c4 := HX.out.c4
  have c5 := HX.out.c5
  have c6 := HX.out.c6
  have c7 := HX.out.c7
  have hlt := HX.out.lt
  unfold Cm.arr at *
  dsimp only at *
  go_enter Try.func23, Try.ntmps23
  go_upto_region 1 with (fail)
  rw [← hW]
  clear hW
  rcases hc2 with hc2 | hc2
  case inr =>
    subst hc2
    rw [if_neg (by decide)] at hE
    subst hE
    go_wp2_with (go_at_call 30; refine (HC.out _ HB.out).mono ?_; rintro e w1 ⟨rfl, hb1⟩)
    go_ret
    exact ⟨rfl, g_on HB.out hb1⟩
  subst hc2
  rw [if_pos rfl] at hE
  by_cases h0 : tenant = 0
  case neg =>
    rw [if_neg h0] at hE
    subst hE
    go_wp2_with (go_at_call 30; refine (HC.out _ HB.out).mono ?_; rintro e w1 ⟨rfl, hb1⟩; have HX1 := Hid.mk2 (HX.out.below hb1); have d1 := HX1.out.c1; have hlt1 := HX1.out.lt; have HB1 := Hid.mk2 (g_on HB.out hb1); clear hb1)
    go_ret
    exact ⟨rfl, HB1.out⟩
  rw [if_pos h0] at hE
  subst h0 hE
  go_wp2_with (go_at_call 30; refine (HC.out _ HB.out).mono ?_; rintro e w1 ⟨rfl, hb1⟩; have HX1 := Hid.mk2 (HX.out.below hb1); have d1 := HX1.out.c1; have hlt1 := HX1.out.lt; have HB1 := Hid.mk2 (g_on HB.out hb1); dsimp only at d1; clear hb1)
  go_ret
  exact ⟨rfl, HB1.out⟩
end Go.Proofs.Ytjmcgpdimhgegaa
/-
  P16.5 as data: what is written is read back, alone, whatever comes behind; what is read is written as its bytes.
-/
namespace Go.Proofs.Ytjmcgpdimhgegaa
open Go.Proofs.Ytjmcgpdimhgegaa.It
open Go.RowKit
set_option linter.unusedSimpArgs false
set_option linter.unusedVariables false
set_option maxRecDepth 100000

theorem logOk_iff (t : Int) (n : Nat) : logOk t n = true ↔ (0 ≤ t ∧ t < 4 ∧ 1 ≤ n ∧ n ≤ 16) := by
  unfold logOk
  simp only [Bool.and_eq_true, decide_eq_true_eq]
  omega
theorem row_parts {r : Rq} (h : r.hasRow = true) : (1 ≤ r.kind ∧ r.kind ≤ 5) ∧ r.close = false ∧ (r.kind ≠ 1 → r.cmd = cz) ∧ (r.kind ≠ 3 → r.on = false) ∧ (r.kind ≠ 2 → r.tenant = 0 ∧ r.secret = ⟨#[]⟩) ∧ (r.kind = 2 → 0 ≤ r.tenant ∧ r.tenant < 4 ∧ 1 ≤ r.secret.size ∧ r.secret.size ≤ 16) := by
  unfold Rq.hasRow at h
  simp only [Bool.and_eq_true, Bool.or_eq_true, Bool.not_eq_true', decide_eq_true_eq, decide_eq_false_iff_not, List.isEmpty_iff, logOk_iff] at h
  obtain ⟨⟨⟨⟨⟨h1, h2⟩, h3⟩, h4⟩, h5⟩, h6⟩ := h
  refine ⟨h1, h2, fun hk => isNone_cz (h3.resolve_left hk), fun hk => h4.resolve_left hk, fun hk => ?_, fun hk => h6.resolve_left (fun e => e hk)⟩
  obtain ⟨e1, e2⟩ := h5.resolve_left hk
  rw [ByteArray.toList_eq] at e2
  exact ⟨e1, bl_inj2 e2⟩
theorem wbE_zero {r : Rq} (h : r.wbE = 0) : r.hasRow = true ∧ (r.kind = 1 → r.cmd.may = true ∧ r.cmd.tenant = 0) := by
  unfold Rq.wbE at h
  by_cases h0 : r.hasRow = true
  case neg => rw [if_neg h0] at h; cases h
  rw [if_pos h0] at h
  refine ⟨h0, fun h1 => ?_⟩
  rw [if_pos h1] at h
  unfold Cm.ckE at h
  by_cases h2 : r.cmd.may = true
  · rw [if_pos h2] at h
    by_cases h3 : r.cmd.tenant = 0
    · exact ⟨h2, h3⟩
    · rw [if_neg h3] at h; cases h
  · rw [if_neg h2] at h; cases h
theorem ckE_zero {c : Cm} (h : c.may = true) (h0 : c.tenant = 0) : c.ckE = 0 := by unfold Cm.ckE; rw [if_pos h, if_pos h0]
theorem body_len {r : Rq} (h : r.wbE = 0) (hf : CmFit r.cmd) : r.body.length ≤ 1000 := by
  obtain ⟨h1, h2⟩ := wbE_zero h
  obtain ⟨_, _, _, _, _, h3⟩ := row_parts h1
  unfold Rq.body
  by_cases k1 : r.kind = 1
  · rw [if_pos k1]; exact cmdB_len (may_ok (h2 k1).1 hf)
  · rw [if_neg k1]
    by_cases k2 : r.kind = 2
    · rw [if_pos k2, List.length_cons, bl_len]; have := h3 k2; omega
    · rw [if_neg k2]
      split <;> simp
theorem wb_len {r : Rq} (hf : CmFit r.cmd) : r.wb.length ≤ 1006 := by
  unfold Rq.wb
  by_cases h : r.wbE = 0
  · rw [if_pos h, pkt_len]; have := body_len h hf; omega
  · rw [if_neg h]; simp
end Go.Proofs.Ytjmcgpdimhgegaa
/-
  Package binary: hasRow.
-/
namespace Go.Proofs.Ytjmcgpdimhgegaa
open Go.Proofs.Ytjmcgpdimhgegaa.It
open Go.RowKit
set_option linter.unusedSimpArgs false
set_option linter.unusedVariables false
set_option maxRecDepth 100000

set_option maxHeartbeats 4000000 in
theorem hasRow_any (r : Rq) (ko : Option Addr) (kc : Nat) (w : World) (hlen : r.cmd.keys.length ≤ 9223372036854775807) (hkd : 0 ≤ r.kind ∧ r.kind ≤ 255) :
    Calls Try.prog 12 #[.agg (r.arr (.slice ko r.cmd.keys.length kc))] w fun e w' => e = .returned (.bool r.hasRow) ∧ Below w.heap.size w w' := by
  have HQ := Hid.mk2 (fun W => isReqI_any r.kind hkd W)
  have HN := Hid.mk2 (fun W => isNothing_any r.cmd ko kc W hlen)
  have HL := Hid.mk2 (fun W => loginMay_any r.tenant r.secret.size W)
  have HR : Hid (r.hasRow = (decide (1 ≤ r.kind ∧ r.kind ≤ 5) && !r.close && (decide (r.kind = 1) || r.cmd.isNone) && (decide (r.kind = 3) || !r.on) && (decide (r.kind = 2) || (decide (r.tenant = 0) && r.secret.toList.isEmpty)) && (!decide (r.kind = 2) || logOk r.tenant r.secret.size))) := rfl
  obtain ⟨R, hR⟩ : ∃ R, R = r.hasRow := ⟨_, rfl⟩
  rw [← hR] at HR ⊢
  obtain ⟨NN, hNN⟩ : ∃ NN, NN = r.cmd.isNone := ⟨_, rfl⟩
  rw [← hNN] at HR HN
  obtain ⟨LO, hLO⟩ : ∃ LO, LO = logOk r.tenant r.secret.size := ⟨_, rfl⟩
  rw [← hLO] at HR HL
  clear hR hNN hLO hlen
  obtain ⟨W, hW⟩ : ∃ W, W = w.alloc (.cells (r.arr (.slice ko r.cmd.keys.length kc)) 28) := ⟨_, rfl⟩
  have HB : Hid (Below w.heap.size w W) := by rw [hW]; exact g_alloc _ _
  have HX : Hid (GBx W w.heap.size (r.cl (.slice ko r.cmd.keys.length kc))) := by rw [hW]; exact GBx.made w (r.cl _) _
  obtain ⟨kind, ⟨ck, ct, keys, cv, cf, cl, cu, cb⟩, tenant, secret, on, close⟩ := r
  unfold Rq.arr Rq.cl at *
  unfold Cm.arr at HN
  dsimp only at *
  have c0 := HX.out.c 0 (by simp)
  have c1 := HX.out.c 1 (by simp)
  have c2 := HX.out.c 2 (by simp)
  have c3 := HX.out.c 3 (by simp)
  have c4 := HX.out.c 4 (by simp)
  have c5 := HX.out.c 5 (by simp)
  have c6 := HX.out.c 6 (by simp)
  have c7 := HX.out.c 7 (by simp)
  have c8 := HX.out.c 8 (by simp)
  have c9 := HX.out.c 9 (by simp)
  have c10 := HX.out.c 10 (by simp)
  have c11 := HX.out.c 11 (by simp)
  have c12 := HX.out.c 12 (by simp)
  have hlt := HX.out.lt
  simp only [List.getElem_cons_zero, List.getElem_cons_succ] at c0 c1 c2 c3 c4 c5 c6 c7 c8 c9 c10 c11 c12
  by_cases hk : 1 ≤ kind ∧ kind ≤ 5
  case neg =>
    have hq : decide (1 ≤ kind ∧ kind ≤ 5) = false := decide_eq_false hk
    rw [hq] at HQ HR
    have hR2 : R = false := by rw [HR.out]; simp
    subst hR2
    clear hk hq hkd
    go_enter Try.func12, Try.ntmps12
    go_upto_region 1 with (fail)
    rw [← hW]
    clear hW
    go_wp2_with (go_at_call 20; refine (HQ.out _).mono ?_; rintro e w1 ⟨rfl, rfl⟩)
    go_ret
    exact ⟨rfl, HB.out⟩
  have hq : decide (1 ≤ kind ∧ kind ≤ 5) = true := decide_eq_true hk
  rw [hq] at HQ HR
  cases close with
  | true =>
    have hR2 : R = false := by rw [HR.out]; simp
    subst hR2
    clear hk hq hkd
    go_enter Try.func12, Try.ntmps12
    go_upto_region 1 with (fail)
    rw [← hW]
    clear hW
    go_wp2_with (go_at_call 20; refine (HQ.out _).mono ?_; rintro e w1 ⟨rfl, rfl⟩)
    go_ret
    exact ⟨rfl, HB.out⟩
  | false =>
  have hk5 : kind = 1 ∨ kind = 2 ∨ kind = 3 ∨ kind = 4 ∨ kind = 5 := by omega
  clear hk hq hkd
  rcases hk5 with rfl | rfl | rfl | rfl | rfl
  · cases on with
    | true =>
      have HR2 : Hid (R = (false)) := by show _ = _; rw [HR.out]; simp
      go_enter Try.func12, Try.ntmps12
      go_upto_region 1 with (fail)
      rw [← hW]
      clear hW
      go_wp2_with (first
        | (go_at_call 20; refine (HQ.out _).mono ?_; rintro e w1 ⟨rfl, rfl⟩)
        | (go_at_call 21; refine (HN.out _).mono ?_; rintro e w2 ⟨rfl, hb2⟩; have HX2 := Hid.mk2 (HX.out.below hb2); have HB2 := Hid.mk2 (g_on HB.out hb2); have d0 := HX2.out.c 0 (by simp); have d9 := HX2.out.c 9 (by simp); have d10 := HX2.out.c 10 (by simp); have d11 := HX2.out.c 11 (by simp); have d12 := HX2.out.c 12 (by simp); simp only [List.getElem_cons_zero, List.getElem_cons_succ] at d0 d9 d10 d11 d12; have hlt2 := HX2.out.lt; clear hb2)
        | (go_at_call 22; refine (HL.out _).mono ?_; rintro e w3 ⟨rfl, rfl⟩))
      all_goals (go_ret; exact ⟨by rw [HR2.out]; first | rfl | simp_all, HB.out⟩)
    | false =>
      have HR2 : Hid (R = (decide (tenant = 0) && secret.toList.isEmpty)) := by show _ = _; rw [HR.out]; simp
      go_enter Try.func12, Try.ntmps12
      go_upto_region 1 with (fail)
      rw [← hW]
      clear hW
      go_wp2_with (first
        | (go_at_call 20; refine (HQ.out _).mono ?_; rintro e w1 ⟨rfl, rfl⟩)
        | (go_at_call 21; refine (HN.out _).mono ?_; rintro e w2 ⟨rfl, hb2⟩; have HX2 := Hid.mk2 (HX.out.below hb2); have HB2 := Hid.mk2 (g_on HB.out hb2); have d0 := HX2.out.c 0 (by simp); have d9 := HX2.out.c 9 (by simp); have d10 := HX2.out.c 10 (by simp); have d11 := HX2.out.c 11 (by simp); have d12 := HX2.out.c 12 (by simp); simp only [List.getElem_cons_zero, List.getElem_cons_succ] at d0 d9 d10 d11 d12; have hlt2 := HX2.out.lt; clear hb2)
        | (go_at_call 22; refine (HL.out _).mono ?_; rintro e w3 ⟨rfl, rfl⟩))
      all_goals (go_ret; exact ⟨by rw [HR2.out]; first | rfl | simp_all, HB.out⟩)
  · cases NN with
    | false =>
      have HR2 : Hid (R = false) := by show _ = _; rw [HR.out]; simp
      go_enter Try.func12, Try.ntmps12
      go_upto_region 1 with (fail)
      rw [← hW]
      clear hW
      go_wp2_with (first
        | (go_at_call 20; refine (HQ.out _).mono ?_; rintro e w1 ⟨rfl, rfl⟩)
        | (go_at_call 21; refine (HN.out _).mono ?_; rintro e w2 ⟨rfl, hb2⟩; have HX2 := Hid.mk2 (HX.out.below hb2); have HB2 := Hid.mk2 (g_on HB.out hb2); have d0 := HX2.out.c 0 (by simp); have d9 := HX2.out.c 9 (by simp); have d10 := HX2.out.c 10 (by simp); have d11 := HX2.out.c 11 (by simp); have d12 := HX2.out.c 12 (by simp); simp only [List.getElem_cons_zero, List.getElem_cons_succ] at d0 d9 d10 d11 d12; have hlt2 := HX2.out.lt; clear hb2)
        | (go_at_call 22; refine (HL.out _).mono ?_; rintro e w3 ⟨rfl, rfl⟩))
      all_goals (go_ret; exact ⟨by rw [HR2.out]; first | rfl | simp_all, HB2.out⟩)
    | true =>
      cases on with
      | true =>
        have HR2 : Hid (R = false) := by show _ = _; rw [HR.out]; simp
        go_enter Try.func12, Try.ntmps12
        go_upto_region 1 with (fail)
        rw [← hW]
        clear hW
        go_wp2_with (first
          | (go_at_call 20; refine (HQ.out _).mono ?_; rintro e w1 ⟨rfl, rfl⟩)
          | (go_at_call 21; refine (HN.out _).mono ?_; rintro e w2 ⟨rfl, hb2⟩; have HX2 := Hid.mk2 (HX.out.below hb2); have HB2 := Hid.mk2 (g_on HB.out hb2); have d0 := HX2.out.c 0 (by simp); have d9 := HX2.out.c 9 (by simp); have d10 := HX2.out.c 10 (by simp); have d11 := HX2.out.c 11 (by simp); have d12 := HX2.out.c 12 (by simp); simp only [List.getElem_cons_zero, List.getElem_cons_succ] at d0 d9 d10 d11 d12; have hlt2 := HX2.out.lt; clear hb2)
          | (go_at_call 22; refine (HL.out _).mono ?_; rintro e w3 ⟨rfl, rfl⟩))
        all_goals (go_ret; exact ⟨by rw [HR2.out]; first | rfl | simp_all, HB2.out⟩)
      | false =>
        have HR2 : Hid (R = (LO)) := by show _ = _; rw [HR.out]; simp
        go_enter Try.func12, Try.ntmps12
        go_upto_region 1 with (fail)
        rw [← hW]
        clear hW
        go_wp2_with (first
          | (go_at_call 20; refine (HQ.out _).mono ?_; rintro e w1 ⟨rfl, rfl⟩)
          | (go_at_call 21; refine (HN.out _).mono ?_; rintro e w2 ⟨rfl, hb2⟩; have HX2 := Hid.mk2 (HX.out.below hb2); have HB2 := Hid.mk2 (g_on HB.out hb2); have d0 := HX2.out.c 0 (by simp); have d9 := HX2.out.c 9 (by simp); have d10 := HX2.out.c 10 (by simp); have d11 := HX2.out.c 11 (by simp); have d12 := HX2.out.c 12 (by simp); simp only [List.getElem_cons_zero, List.getElem_cons_succ] at d0 d9 d10 d11 d12; have hlt2 := HX2.out.lt; clear hb2)
          | (go_at_call 22; refine (HL.out _).mono ?_; rintro e w3 ⟨rfl, rfl⟩))
        all_goals (go_ret; exact ⟨by rw [HR2.out]; first | rfl | simp_all, HB2.out⟩)
  · cases NN with
    | false =>
      have HR2 : Hid (R = false) := by show _ = _; rw [HR.out]; simp
      go_enter Try.func12, Try.ntmps12
      go_upto_region 1 with (fail)
      rw [← hW]
      clear hW
      go_wp2_with (first
        | (go_at_call 20; refine (HQ.out _).mono ?_; rintro e w1 ⟨rfl, rfl⟩)
        | (go_at_call 21; refine (HN.out _).mono ?_; rintro e w2 ⟨rfl, hb2⟩; have HX2 := Hid.mk2 (HX.out.below hb2); have HB2 := Hid.mk2 (g_on HB.out hb2); have d0 := HX2.out.c 0 (by simp); have d9 := HX2.out.c 9 (by simp); have d10 := HX2.out.c 10 (by simp); have d11 := HX2.out.c 11 (by simp); have d12 := HX2.out.c 12 (by simp); simp only [List.getElem_cons_zero, List.getElem_cons_succ] at d0 d9 d10 d11 d12; have hlt2 := HX2.out.lt; clear hb2)
        | (go_at_call 22; refine (HL.out _).mono ?_; rintro e w3 ⟨rfl, rfl⟩))
      all_goals (go_ret; exact ⟨by rw [HR2.out]; first | rfl | simp_all, HB2.out⟩)
    | true =>
      have HR2 : Hid (R = (decide (tenant = 0) && secret.toList.isEmpty)) := by show _ = _; rw [HR.out]; simp
      go_enter Try.func12, Try.ntmps12
      go_upto_region 1 with (fail)
      rw [← hW]
      clear hW
      go_wp2_with (first
        | (go_at_call 20; refine (HQ.out _).mono ?_; rintro e w1 ⟨rfl, rfl⟩)
        | (go_at_call 21; refine (HN.out _).mono ?_; rintro e w2 ⟨rfl, hb2⟩; have HX2 := Hid.mk2 (HX.out.below hb2); have HB2 := Hid.mk2 (g_on HB.out hb2); have d0 := HX2.out.c 0 (by simp); have d9 := HX2.out.c 9 (by simp); have d10 := HX2.out.c 10 (by simp); have d11 := HX2.out.c 11 (by simp); have d12 := HX2.out.c 12 (by simp); simp only [List.getElem_cons_zero, List.getElem_cons_succ] at d0 d9 d10 d11 d12; have hlt2 := HX2.out.lt; clear hb2)
        | (go_at_call 22; refine (HL.out _).mono ?_; rintro e w3 ⟨rfl, rfl⟩))
      all_goals (go_ret; exact ⟨by rw [HR2.out]; first | rfl | simp_all, HB2.out⟩)
  · cases NN with
    | false =>
      have HR2 : Hid (R = false) := by show _ = _; rw [HR.out]; simp
      go_enter Try.func12, Try.ntmps12
      go_upto_region 1 with (fail)
      rw [← hW]
      clear hW
      go_wp2_with (first
        | (go_at_call 20; refine (HQ.out _).mono ?_; rintro e w1 ⟨rfl, rfl⟩)
        | (go_at_call 21; refine (HN.out _).mono ?_; rintro e w2 ⟨rfl, hb2⟩; have HX2 := Hid.mk2 (HX.out.below hb2); have HB2 := Hid.mk2 (g_on HB.out hb2); have d0 := HX2.out.c 0 (by simp); have d9 := HX2.out.c 9 (by simp); have d10 := HX2.out.c 10 (by simp); have d11 := HX2.out.c 11 (by simp); have d12 := HX2.out.c 12 (by simp); simp only [List.getElem_cons_zero, List.getElem_cons_succ] at d0 d9 d10 d11 d12; have hlt2 := HX2.out.lt; clear hb2)
        | (go_at_call 22; refine (HL.out _).mono ?_; rintro e w3 ⟨rfl, rfl⟩))
      all_goals (go_ret; exact ⟨by rw [HR2.out]; first | rfl | simp_all, HB2.out⟩)
    | true =>
      cases on with
      | true =>
        have HR2 : Hid (R = false) := by show _ = _; rw [HR.out]; simp
        go_enter Try.func12, Try.ntmps12
        go_upto_region 1 with (fail)
        rw [← hW]
        clear hW
        go_wp2_with (first
          | (go_at_call 20; refine (HQ.out _).mono ?_; rintro e w1 ⟨rfl, rfl⟩)
          | (go_at_call 21; refine (HN.out _).mono ?_; rintro e w2 ⟨rfl, hb2⟩; have HX2 := Hid.mk2 (HX.out.below hb2); have HB2 := Hid.mk2 (g_on HB.out hb2); have d0 := HX2.out.c 0 (by simp); have d9 := HX2.out.c 9 (by simp); have d10 := HX2.out.c 10 (by simp); have d11 := HX2.out.c 11 (by simp); have d12 := HX2.out.c 12 (by simp); simp only [List.getElem_cons_zero, List.getElem_cons_succ] at d0 d9 d10 d11 d12; have hlt2 := HX2.out.lt; clear hb2)
          | (go_at_call 22; refine (HL.out _).mono ?_; rintro e w3 ⟨rfl, rfl⟩))
        all_goals (go_ret; exact ⟨by rw [HR2.out]; first | rfl | simp_all, HB2.out⟩)
      | false =>
        have HR2 : Hid (R = (decide (tenant = 0) && secret.toList.isEmpty)) := by show _ = _; rw [HR.out]; simp
        go_enter Try.func12, Try.ntmps12
        go_upto_region 1 with (fail)
        rw [← hW]
        clear hW
        go_wp2_with (first
          | (go_at_call 20; refine (HQ.out _).mono ?_; rintro e w1 ⟨rfl, rfl⟩)
          | (go_at_call 21; refine (HN.out _).mono ?_; rintro e w2 ⟨rfl, hb2⟩; have HX2 := Hid.mk2 (HX.out.below hb2); have HB2 := Hid.mk2 (g_on HB.out hb2); have d0 := HX2.out.c 0 (by simp); have d9 := HX2.out.c 9 (by simp); have d10 := HX2.out.c 10 (by simp); have d11 := HX2.out.c 11 (by simp); have d12 := HX2.out.c 12 (by simp); simp only [List.getElem_cons_zero, List.getElem_cons_succ] at d0 d9 d10 d11 d12; have hlt2 := HX2.out.lt; clear hb2)
          | (go_at_call 22; refine (HL.out _).mono ?_; rintro e w3 ⟨rfl, rfl⟩))
        all_goals (go_ret; exact ⟨by rw [HR2.out]; first | rfl | simp_all, HB2.out⟩)
  · cases NN with
    | false =>
      have HR2 : Hid (R = false) := by show _ = _; rw [HR.out]; simp
      go_enter Try.func12, Try.ntmps12
      go_upto_region 1 with (fail)
      rw [← hW]
      clear hW
      go_wp2_with (first
        | (go_at_call 20; refine (HQ.out _).mono ?_; rintro e w1 ⟨rfl, rfl⟩)
        | (go_at_call 21; refine (HN.out _).mono ?_; rintro e w2 ⟨rfl, hb2⟩; have HX2 := Hid.mk2 (HX.out.below hb2); have HB2 := Hid.mk2 (g_on HB.out hb2); have d0 := HX2.out.c 0 (by simp); have d9 := HX2.out.c 9 (by simp); have d10 := HX2.out.c 10 (by simp); have d11 := HX2.out.c 11 (by simp); have d12 := HX2.out.c 12 (by simp); simp only [List.getElem_cons_zero, List.getElem_cons_succ] at d0 d9 d10 d11 d12; have hlt2 := HX2.out.lt; clear hb2)
        | (go_at_call 22; refine (HL.out _).mono ?_; rintro e w3 ⟨rfl, rfl⟩))
      all_goals (go_ret; exact ⟨by rw [HR2.out]; first | rfl | simp_all, HB2.out⟩)
    | true =>
      cases on with
      | true =>
        have HR2 : Hid (R = false) := by show _ = _; rw [HR.out]; simp
        go_enter Try.func12, Try.ntmps12
        go_upto_region 1 with (fail)
        rw [← hW]
        clear hW
        go_wp2_with (first
          | (go_at_call 20; refine (HQ.out _).mono ?_; rintro e w1 ⟨rfl, rfl⟩)
          | (go_at_call 21; refine (HN.out _).mono ?_; rintro e w2 ⟨rfl, hb2⟩; have HX2 := Hid.mk2 (HX.out.below hb2); have HB2 := Hid.mk2 (g_on HB.out hb2); have d0 := HX2.out.c 0 (by simp); have d9 := HX2.out.c 9 (by simp); have d10 := HX2.out.c 10 (by simp); have d11 := HX2.out.c 11 (by simp); have d12 := HX2.out.c 12 (by simp); simp only [List.getElem_cons_zero, List.getElem_cons_succ] at d0 d9 d10 d11 d12; have hlt2 := HX2.out.lt; clear hb2)
          | (go_at_call 22; refine (HL.out _).mono ?_; rintro e w3 ⟨rfl, rfl⟩))
        all_goals (go_ret; exact ⟨by rw [HR2.out]; first | rfl | simp_all, HB2.out⟩)
      | false =>
        have HR2 : Hid (R = (decide (tenant = 0) && secret.toList.isEmpty)) := by show _ = _; rw [HR.out]; simp
        go_enter Try.func12, Try.ntmps12
        go_upto_region 1 with (fail)
        rw [← hW]
        clear hW
        go_wp2_with (first
          | (go_at_call 20; refine (HQ.out _).mono ?_; rintro e w1 ⟨rfl, rfl⟩)
          | (go_at_call 21; refine (HN.out _).mono ?_; rintro e w2 ⟨rfl, hb2⟩; have HX2 := Hid.mk2 (HX.out.below hb2); have HB2 := Hid.mk2 (g_on HB.out hb2); have d0 := HX2.out.c 0 (by simp); have d9 := HX2.out.c 9 (by simp); have d10 := HX2.out.c 10 (by simp); have d11 := HX2.out.c 11 (by simp); have d12 := HX2.out.c 12 (by simp); simp only [List.getElem_cons_zero, List.getElem_cons_succ] at d0 d9 d10 d11 d12; have hlt2 := HX2.out.lt; clear hb2)
          | (go_at_call 22; refine (HL.out _).mono ?_; rintro e w3 ⟨rfl, rfl⟩))
        all_goals (go_ret; exact ⟨by rw [HR2.out]; first | rfl | simp_all, HB2.out⟩)
end Go.Proofs.Ytjmcgpdimhgegaa
/-
  Bytes in memory: b[k:], literals that a call made.
-/
namespace Go.Proofs.Ytjmcgpdimhgegaa
open Go.Proofs.Ytjmcgpdimhgegaa.It
open Go.RowKit
set_option linter.unusedSimpArgs false
set_option linter.unusedVariables false
set_option maxRecDepth 100000

theorem g_news {α : Type} {E : GEl α} (K : GOk E) (w : World) (l : List α) (cs : List Value) (hcs : cs = l.flatMap E.cells) (hl : l.length ≤ 1000) : GRd E (w.alloc (.cells cs.toArray E.e)) (some ⟨w.heap.size, 0, none⟩) l l.length := by
  subst hcs
  refine ⟨Nat.le_refl _, by omega, (by intro e; cases e), .inr ⟨w.heap.size, 0, rfl, by simp, fun i hi j hj => ?_⟩⟩
  have h1 := K.flat_get l i j hi hj
  simp only [Nat.zero_add]
  rw [← h1]
  simp
theorem GOwn.fresh {α : Type} {E : GEl α} (K : GOk E) (w : World) (l : List α) (cs : List Value) (hcs : cs = l.flatMap E.cells) (hl : l.length ≤ 1000) : GOwn E (w.alloc (.cells cs.toArray E.e)) w.heap.size (.slice (some ⟨w.heap.size, 0, none⟩) l.length l.length) l := by
  subst hcs
  have hn := K.flat_len l
  refine ⟨hn, .inr ⟨w.heap.size, l.length, (l.flatMap E.cells).toArray, rfl, Nat.le_refl _, ?_, Nat.le_refl _, ?_, ?_, ?_⟩⟩
  · show (w.heap.push _)[w.heap.size]? = _
    simp
  · have : maxLen = 9223372036854775807 := rfl
    omega
  · simpa using hn
  · rw [List.take_of_length_le (by show (l.flatMap E.cells).length ≤ _; omega)]

def restA (ao : Option Addr) (k cap : Nat) : Option Addr := if cap = k then ao else ao.map (·.add k)
theorem rest_rd {V : World} {ao : Option Addr} {L : List UInt8} {cap : Nat} (h : GRd EY V ao L cap) (k : Nat) (hk : k ≤ L.length) : GRd EY V (restA ao k cap) (L.drop k) (cap - k) := by
  have hl := h.hl
  refine ⟨by rw [List.length_drop]; omega, Nat.le_trans (Nat.sub_le _ _) h.hc, fun e => ?_, ?_⟩
  · unfold restA at e
    split at e
    · omega
    · cases ao with
      | none => have := h.hn rfl; omega
      | some a => cases e
  · by_cases hne : L.drop k = []
    · exact .inl hne
    · have hlt : k < L.length := by
        rcases Nat.lt_or_ge k L.length with h1 | h1
        · exact h1
        · exact absurd (List.drop_of_length_le h1) hne
      obtain ⟨b, off, rfl, hb, hc⟩ := h.lies (by intro e; rw [e] at hlt; simp at hlt)
      refine .inr ⟨b, off + k, ?_, hb, fun i hi j hj => ?_⟩
      · unfold restA
        rw [if_neg (by omega)]
        simp [g_add]
      · rw [List.length_drop] at hi
        have h2 := hc (k + i) (by omega) j hj
        have e : off + k + i * EY.sz + j = off + (k + i) * EY.sz + j := by show off + k + i * 1 + j = off + (k + i) * 1 + j; omega
        rw [e, h2, List.getElem_drop]
theorem sliced_l (ao : Option Addr) (k m cap : Nat) : sliced ao k m cap 1 = .slice (restA ao k cap) (m - k) (cap - k) := by
  unfold sliced restA
  rw [Nat.mul_one]
theorem wpl_slice_l {ops : Array Oper} {rest : List Oper} {o : Oper} {a : Act} {w : World} {Q : Exit → Act → World → Prop} (hgd : o.guard = none) (s x : Operand) (ho : o.op = .slice 30 s (some x) none none) (ao : Option Addr) (k m cap : Nat) (hs : a.eval s = .slice ao m cap) (hx : a.eval x = .int .i64 (k : Int)) (hk : k ≤ m)
    (h : wpList Try.prog ops Q rest (a.put o.dst (.slice (restA ao k cap) (m - k) (cap - k))) w) : wpList Try.prog ops Q (o :: rest) a w := by
  refine wpList_plain hgd fun K hK => ?_
  have he : Try.prog.elem 30 = 5 := by kernel_rfl
  have hu : Try.prog.underlying 30 = some (.slice (Try.prog.elem 30)) := by rw [he]; exact Try.underlying30
  have h1 : (Instr.sliceAt 30 (.slice ao m cap) (some (.int .i64 (k : Int))) none none).run Try.prog w = .ok (.slice (restA ao k cap) (m - k) (cap - k)) w := by
    rw [run_sliceAt_slice w 30 _ _ _ _ hu, run_slice_l w 30 ao m cap hu .i64 (k : Int) (by omega) (by omega), he, Try.sizeOf5]
    show Result.ok (sliced ao (k : Int).toNat m cap 1) w = _
    rw [Int.toNat_natCast, sliced_l]
  unfold Oper.wp execOp
  simp only [ho, hs, hx, Option.map_some, Option.map_none, Sem.run_bind, Sem.run_pure, Result.andThen_ok, h1]
  exact hK _ _ h
end Go.Proofs.Ytjmcgpdimhgegaa
/-
  Package binary: cut.
-/
namespace Go.Proofs.Ytjmcgpdimhgegaa
open Go.Proofs.Ytjmcgpdimhgegaa.It
open Go.RowKit
set_option linter.unusedSimpArgs false
set_option linter.unusedVariables false
set_option maxRecDepth 100000

theorem mid_rd {V : World} {b off cap : Nat} {L : List UInt8} (h : GRd EY V (some ⟨b, off, none⟩) L cap) (i n : Nat) (hn : i + n ≤ L.length) (c : Nat) (hc : n ≤ c) (hcc : c ≤ 9223372036854775807) : GRd EY V (some ⟨b, off + i, none⟩) ((L.drop i).take n) c := by
  have hl : ((L.drop i).take n).length = n := by rw [List.length_take, List.length_drop]; omega
  refine ⟨by rw [hl]; exact hc, hcc, (fun e => by cases e), ?_⟩
  by_cases hne : (L.drop i).take n = []
  · exact .inl hne
  · have hn0 : 0 < n := by
      rcases Nat.eq_zero_or_pos n with e | e
      · rw [e] at hne; simp at hne
      · exact e
    have hL : L ≠ [] := by intro e; rw [e] at hn; simp at hn; omega
    obtain ⟨b', off', e, hb, hcc2⟩ := h.lies hL
    cases e
    refine .inr ⟨b, off + i, rfl, hb, fun j hj j2 hj2 => ?_⟩
    rw [hl] at hj
    have h2 := hcc2 (i + j) (by omega) j2 hj2
    have e : off + i + j * EY.sz + j2 = off + (i + j) * EY.sz + j2 := by show off + i + j * 1 + j2 = off + (i + j) * 1 + j2; omega
    rw [e, h2, List.getElem_take, List.getElem_drop]

theorem results_tmp4 {fn : Func} {t u v x : Tmp} (h : fn.results = #[.tmp t, .tmp u, .tmp v, .tmp x]) (tmps : Array Value) (P : Program) (w : World) :
    (results fn tmps).run P w = .ok (.tuple #[tmps.getD t undef, tmps.getD u undef, tmps.getD v undef, tmps.getD x undef]) w := by
  simp [results, h]
/-- what cut answers: a piece of the bytes where they stand -/
structure CutR (V V' : World) (c : Ct) (e : Ending) : Prop where
  ex : ∃ vo vc, e = .returned (.tuple #[.int .u8 (c.k.toNat : Int), .slice vo c.b.length vc, .int .i64 (c.n : Int), .int .i64 c.e]) ∧ GRd EY V vo c.b vc
  below : Below V.heap.size V V'

set_option maxHeartbeats 1000000 in
theorem cut_any (f : UInt8) (V : World) (ao : Option Addr) (L : List UInt8) (cap : Nat) (hr : GRd EY V ao L cap) (m : Nat) (hm : m = L.length) (hL : L.length ≤ 20000) :
    Calls Try.prog 18 #[.int .u8 (f.toNat : Int), .slice ao m cap] V fun e V' => CutR V V' (cutP f L) e := by
  have nilR : ∀ (k : Int) (W : World), Below V.heap.size V W → CutR V W ⟨0, [], 0, k⟩ (.returned (.tuple #[.int .u8 0, .slice none 0 0, .int .i64 0, .int .i64 k])) := fun k W h => ⟨⟨none, 0, rfl, GRd.nil V⟩, h⟩
  cases L with
  | nil =>
    have hm0 : m = 0 := by simpa using hm
    subst hm0
    have e : cutP f [] = ⟨0, [], 0, 0⟩ := rfl
    rw [e]
    have H := Hid.mk2 nilR
    clear nilR hr hm e hL
    go_enter Try.func18, Try.ntmps18
    go_wp2
    (try simp only [Exit.inBlock, Exit.then])
    refine bodyPost_ret (results_tmp4 rfl _ _ _) rfl ?_
    exact H.out 0 _ (Below.refl _ _)
  | cons x l =>
    obtain ⟨b, off, rfl, hb, hc⟩ := hr.uy (by simp)
    have hm1 : (m : Int) ≠ 0 := by simp at hm; omega
    have hm2 : 0 < m := by simp at hm; omega
    have hmm : (m : Int) ≤ 20000 := by omega
    have hmc : m ≤ cap := by rw [hm]; exact hr.hl
    have hcp := hr.hc
    have c0 : V.cell? ⟨b, off, none⟩ = some (.int .u8 (x.toNat : Int)) := hc 0 (by simp)
    have HC := Hid.mk2 hc
    have H := Hid.mk2 nilR
    have HR := Hid.mk2 hr
    have hx256 := x.toNat_lt
    have hf256 := f.toNat_lt
    by_cases h0 : x = f
    case neg =>
      have e : cutP f (x :: l) = ⟨0, [], 0, 8⟩ := by unfold cutP; exact if_pos h0
      rw [e]
      have hne : ((x.toNat : Int) == (f.toNat : Int)) = false := by
        simp only [beq_eq_false_iff_ne, ne_eq]
        intro e2; exact h0 (UInt8.toNat_inj.1 (by omega))
      have hne2 : ¬ (x.toNat : Int) = (f.toNat : Int) := by simpa using hne
      clear nilR hr hm e hL hc hb
      go_enter Try.func18, Try.ntmps18
      go_wp2
      (try simp only [Exit.inBlock, Exit.then])
      refine bodyPost_ret (results_tmp4 rfl _ _ _) rfl ?_
      exact H.out 8 _ (Below.refl _ _)
    subst h0
    by_cases h1 : (x :: l).length < 6
    · have e : cutP x (x :: l) = ⟨0, [], 0, 0⟩ := by unfold cutP; dsimp only; rw [if_neg (by simp), if_pos h1]
      rw [e]
      have hm6 : (m : Int) < 6 := by omega
      clear nilR hr hm e hL hc hb h1
      go_enter Try.func18, Try.ntmps18
      go_wp2
      (try simp only [Exit.inBlock, Exit.then])
      refine bodyPost_ret (results_tmp4 rfl _ _ _) rfl ?_
      exact H.out 0 _ (Below.refl _ _)
    obtain ⟨k, a1, a2, a3, a4, l6, rfl⟩ : ∃ k a1 a2 a3 a4 l6, l = k :: a1 :: a2 :: a3 :: a4 :: l6 := by
      match l, h1 with
      | k :: a1 :: a2 :: a3 :: a4 :: l6, _ => exact ⟨k, a1, a2, a3, a4, l6, rfl⟩
      | [], h => simp at h
      | [_], h => simp at h
      | [_, _], h => simp at h
      | [_, _, _], h => simp at h
      | [_, _, _, _], h => simp at h
    have hm6 : ¬ (m : Int) < 6 := by omega
    have c1 : V.cell? ⟨b, off + 1, none⟩ = some (.int .u8 (k.toNat : Int)) := hc 1 (by simp)
    have c2 : V.cell? ⟨b, off + 2, none⟩ = some (.int .u8 (a1.toNat : Int)) := hc 2 (by simp)
    have c3 : V.cell? ⟨b, off + 3, none⟩ = some (.int .u8 (a2.toNat : Int)) := hc 3 (by simp)
    have c4 : V.cell? ⟨b, off + 4, none⟩ = some (.int .u8 (a3.toNat : Int)) := hc 4 (by simp)
    have c5 : V.cell? ⟨b, off + 5, none⟩ = some (.int .u8 (a4.toNat : Int)) := hc 5 (by simp)
    have hN : len4 (x :: k :: a1 :: a2 :: a3 :: a4 :: l6) = a1.toNat * 16777216 + a2.toNat * 65536 + a3.toNat * 256 + a4.toNat := rfl
    have hb4 := or4 a1.toNat a2.toNat a3.toNat a4.toNat a1.toNat_lt a2.toNat_lt a3.toNat_lt a4.toNat_lt
    rw [← hN] at hb4
    have s1 := shl_u32 a1.toNat 24 (by have := a1.toNat_lt; omega)
    have s2 := shl_u32 a2.toNat 16 (by have := a2.toNat_lt; omega)
    have s3 := shl_u32 a3.toNat 8 (by have := a3.toNat_lt; omega)
    have w1 : IntKind.u32.wrap (a1.toNat : Int) = (a1.toNat : Int) := by rw [IntKind.wrap_u32]; have := a1.toNat_lt; omega
    have w2 : IntKind.u32.wrap (a2.toNat : Int) = (a2.toNat : Int) := by rw [IntKind.wrap_u32]; have := a2.toNat_lt; omega
    have w3 : IntKind.u32.wrap (a3.toNat : Int) = (a3.toNat : Int) := by rw [IntKind.wrap_u32]; have := a3.toNat_lt; omega
    have w4 : IntKind.u32.wrap (a4.toNat : Int) = (a4.toNat : Int) := by rw [IntKind.wrap_u32]; have := a4.toNat_lt; omega
    have hNlt := len4_lt (x :: k :: a1 :: a2 :: a3 :: a4 :: l6)
    have hcut : cutP x (x :: k :: a1 :: a2 :: a3 :: a4 :: l6) = if 4096 < len4 (x :: k :: a1 :: a2 :: a3 :: a4 :: l6) then ⟨0, [], 0, 8⟩ else if m < 6 + len4 (x :: k :: a1 :: a2 :: a3 :: a4 :: l6) then ⟨0, [], 0, 0⟩ else ⟨k, ((x :: k :: a1 :: a2 :: a3 :: a4 :: l6).drop 6).take (len4 (x :: k :: a1 :: a2 :: a3 :: a4 :: l6)), 6 + len4 (x :: k :: a1 :: a2 :: a3 :: a4 :: l6), 0⟩ := by
      unfold cutP; dsimp only; rw [if_neg (by simp), if_neg h1, ← hm]; rfl
    rw [hcut]
    obtain ⟨N, hNN⟩ : ∃ N, N = len4 (x :: k :: a1 :: a2 :: a3 :: a4 :: l6) := ⟨_, rfl⟩
    rw [← hNN] at hb4 hNlt ⊢
    have w5 : IntKind.i64.wrap (N : Int) = (N : Int) := by rw [IntKind.wrap_i64]; omega
    have e1 : ((a1.toNat : Int) % 4294967296 * 16777216 % 4294967296) = ((a1.toNat * 16777216 : Nat) : Int) := by have := a1.toNat_lt; omega
    have e2 : ((a2.toNat : Int) % 4294967296 * 65536 % 4294967296) = ((a2.toNat * 65536 : Nat) : Int) := by have := a2.toNat_lt; omega
    have e3 : ((a3.toNat : Int) % 4294967296 * 256 % 4294967296) = ((a3.toNat * 256 : Nat) : Int) := by have := a3.toNat_lt; omega
    have e4 : ((a4.toNat : Int) % 4294967296) = (a4.toNat : Int) := by have := a4.toNat_lt; omega
    have HE : Hid (bits BinOp.or IntKind.u32 (bits BinOp.or IntKind.u32 (bits BinOp.or IntKind.u32 ((a1.toNat : Int) % 4294967296 * 16777216 % 4294967296) ((a2.toNat : Int) % 4294967296 * 65536 % 4294967296)) ((a3.toNat : Int) % 4294967296 * 256 % 4294967296)) ((a4.toNat : Int) % 4294967296) = (N : Int)) := by
      show _ = _
      rw [e1, e2, e3, e4, hb4]
    have HM := Hid.mk2 hm
    have HH1 := Hid.mk2 h1
    clear hcut hN hNN h1 hc nilR hr hm hb4 s1 s2 s3 w1 w2 w3 w4 e1 e2 e3 e4 hL hx256 hf256 hm1
    have hB0 : ∀ n, Below V.heap.size V (V.drewN n) := fun n => ⟨rfl, rfl, rfl, Nat.le_refl _, fun _ _ => rfl⟩
    have HB0 := Hid.mk2 hB0
    clear hB0
    by_cases h2 : 4096 < N
    · rw [if_pos h2]
      have h2i : (4096 : Int) < (N : Int) := by omega
      go_enter Try.func18, Try.ntmps18
      go_wp2
      go_quiet (fail)
      rw [HE.out]
      go_wp2
      (try simp only [Exit.inBlock, Exit.then])
      refine bodyPost_ret (results_tmp4 rfl _ _ _) rfl ?_
      exact H.out 8 _ (HB0.out _)
    rw [if_neg h2]
    have h2i : ¬ (4096 : Int) < (N : Int) := by omega
    have w6 : IntKind.i64.wrap (6 + (N : Int)) = 6 + (N : Int) := by rw [IntKind.wrap_i64]; omega
    by_cases h3 : m < 6 + N
    · rw [if_pos h3]
      have h3i : (m : Int) < 6 + (N : Int) := by omega
      go_enter Try.func18, Try.ntmps18
      go_wp2
      go_quiet (fail)
      rw [HE.out]
      go_wp2
      (try simp only [Exit.inBlock, Exit.then])
      refine bodyPost_ret (results_tmp4 rfl _ _ _) rfl ?_
      exact H.out 0 _ (HB0.out _)
    rw [if_neg h3]
    have h3i : ¬ (m : Int) < 6 + (N : Int) := by omega
    have h4i : 6 + (N : Int) ≤ (cap : Int) := by omega
    have h5i : (6 : Int) ≤ 6 + (N : Int) := by omega
    have hlen : (((x :: k :: a1 :: a2 :: a3 :: a4 :: l6).drop 6).take N).length = N := by
      have h := HM.out
      rw [List.length_take, List.length_drop, ← h]; omega
    have HF : Hid (∀ vo vc, GRd EY V vo (((x :: k :: a1 :: a2 :: a3 :: a4 :: l6).drop 6).take N) vc → ∀ W, Below V.heap.size V W → CutR V W ⟨k, ((x :: k :: a1 :: a2 :: a3 :: a4 :: l6).drop 6).take N, 6 + N, 0⟩ (.returned (.tuple #[.int .u8 (k.toNat : Int), .slice vo (6 + N - 6) vc, .int .i64 (6 + (N : Int)), .int .i64 0]))) := by
      intro vo vc hv W hW
      refine ⟨⟨vo, vc, ?_, hv⟩, hW⟩
      dsimp only
      rw [hlen, show 6 + N - 6 = N by omega]
      rfl
    clear hlen
    by_cases h6 : cap = 6
    · have hN0 : N = 0 := by omega
      have hrd : Hid (GRd EY V (some ⟨b, off, none⟩) (((x :: k :: a1 :: a2 :: a3 :: a4 :: l6).drop 6).take N) 0) := by
        rw [hN0, List.take_zero]
        exact ⟨by simp, by omega, (fun e => by cases e), .inl rfl⟩
      clear hN0
      go_enter Try.func18, Try.ntmps18
      go_wp2
      go_quiet (fail)
      rw [HE.out]
      go_wp2
      go_quiet (fail)
      go_wp2
      (try simp only [Exit.inBlock, Exit.then])
      refine bodyPost_ret (results_tmp4 rfl _ _ _) rfl ?_
      exact HF.out _ _ hrd.out _ ⟨rfl, rfl, rfl, Nat.le_refl _, fun _ _ => rfl⟩
    · have hrd : Hid (GRd EY V (some ⟨b, off + 6, none⟩) (((x :: k :: a1 :: a2 :: a3 :: a4 :: l6).drop 6).take N) (cap - 6)) :=
        mid_rd HR.out 6 N (by rw [← HM.out]; omega) (cap - 6) (by omega) (by omega)
      go_enter Try.func18, Try.ntmps18
      go_wp2
      go_quiet (fail)
      rw [HE.out]
      go_wp2
      go_quiet (fail)
      go_wp2
      (try simp only [Exit.inBlock, Exit.then])
      refine bodyPost_ret (results_tmp4 rfl _ _ _) rfl ?_
      exact HF.out _ _ hrd.out _ ⟨rfl, rfl, rfl, Nat.le_refl _, fun _ _ => rfl⟩
end Go.Proofs.Ytjmcgpdimhgegaa
