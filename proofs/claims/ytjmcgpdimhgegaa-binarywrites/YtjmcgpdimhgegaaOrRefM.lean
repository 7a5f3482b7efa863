/-
  (shaken)
-/
import Derived.Test.YtjmcgpdimhgegaaOrRefB
namespace Go.Proofs.Ytjmcgpdimhgegaa
open Go.RowKit
set_option linter.unusedSimpArgs false
set_option linter.unusedVariables false
set_option maxRecDepth 100000

/-- the first test: its kind, its tenant, its keys -/
def Cm.aOk (c : Cm) : Bool := decide (1 ≤ c.kind ∧ c.kind ≤ 11) && tenOk c.tenant && c.kOk
theorem ba_empty {s : ByteArray} (h : s.size = 0) : s.toList.isEmpty = true := by
  rw [ByteArray.toList_eq]
  have : s.data.toList.length = 0 := by rw [Array.length_toList]; exact h
  cases e : s.data.toList with
  | nil => rfl
  | cons a l => rw [e] at this; simp at this
theorem ba_full {s : ByteArray} (h : ¬ s.size = 0) : s.toList.isEmpty = false := by
  rw [ByteArray.toList_eq]
  have : ¬ s.data.toList.length = 0 := by rw [Array.length_toList]; exact h
  cases e : s.data.toList with
  | nil => rw [e] at this; simp at this
  | cons a l => rfl

set_option maxHeartbeats 4000000 in
theorem rmay_any (c : Cm) (ko : Option Addr) (kc : Nat) (w : World) (h : GRd ES w ko c.keys kc) :
    Calls Try.prog 25 #[.agg (c.arr (.slice ko c.keys.length kc))] w fun e w' => e = .returned (.bool c.may) ∧ Below w.heap.size w w' := by
  have HK := Hid.mk2 (fun W (hW : Below w.heap.size w W) => rkeys_any c ko kc W (h.below hW))
  have HM := Hid.mk2 (Cm.At.made c (.slice ko c.keys.length kc) w)
  obtain ⟨A, hA⟩ : ∃ A, A = c.aOk := ⟨_, rfl⟩
  obtain ⟨P, hP⟩ : ∃ P, P = c.puts := ⟨_, rfl⟩
  obtain ⟨V, hV⟩ : ∃ V, V = c.vOk := ⟨_, rfl⟩
  obtain ⟨L, hL⟩ : ∃ L, L = c.lOk := ⟨_, rfl⟩
  obtain ⟨F, hF⟩ : ∃ F, F = c.fOk := ⟨_, rfl⟩
  obtain ⟨Y, hY⟩ : ∃ Y, Y = c.bOk := ⟨_, rfl⟩
  have hmay : c.may = (A && V && L && F && Y) := by rw [hA, hV, hL, hF, hY]; rfl
  rw [hmay]
  obtain ⟨K, hK⟩ : ∃ K, K = c.kOk := ⟨_, rfl⟩
  rw [← hK] at HK
  unfold Cm.aOk at hA
  unfold Cm.puts at hP
  unfold Cm.vOk at hV
  unfold Cm.lOk at hL
  unfold Cm.fOk at hF
  unfold Cm.bOk at hY
  rw [← hK] at hA
  unfold Cm.puts at hV hL hF
  rw [← hP] at hV hL hF
  have HA := Hid.mk2 hA
  have HP := Hid.mk2 hP
  have HV := Hid.mk2 hV
  have HL := Hid.mk2 hL
  have HF := Hid.mk2 hF
  have HY := Hid.mk2 hY
  clear hA hP hV hL hF hY hK hmay h
  obtain ⟨kind, tenant, keys, value, flags, life, unique, by_⟩ := c
  unfold Cm.arr at *
  dsimp only at *
  obtain ⟨W, hW⟩ : ∃ W, W = w.alloc (.cells #[.int .u8 kind, .int .i64 tenant, .slice ko keys.length kc, .string value, .int .u32 flags, .int .i64 life, .int .u64 unique, .int .u64 by_] 26) := ⟨_, rfl⟩
  have HB : Hid (Below w.heap.size w W) := by rw [hW]; exact g_alloc _ _
  rw [← hW] at HM
  obtain ⟨hlt, c0, c1, c2, c3, c4, c5, c6, c7⟩ := HM.out
  dsimp only at c0 c1 c2 c3 c4 c5 c6 c7
  go_enter Try.func25, Try.ntmps25
  go_upto_region 1 with (fail)
  rw [← hW]
  clear hW
  go_cut [26] from 4 (fun s26 wx => s26 = .bool (!A) ∧ Below W.heap.size W wx)
  case first =>
    by_cases a1 : kind < 1
    · have e : A = false := by rw [HA.out]; simp; omega
      subst e
      go_wp2
      go_meet
      case rel => exact ⟨rfl, Below.refl _ _⟩
    by_cases a2 : 11 < kind
    · have e : A = false := by rw [HA.out]; simp; omega
      subst e
      go_wp2
      go_meet
      case rel => exact ⟨rfl, Below.refl _ _⟩
    by_cases a3 : tenant < 0
    · have e : A = false := by rw [HA.out]; simp [tenOk]; omega
      subst e
      go_wp2
      go_meet
      case rel => exact ⟨rfl, Below.refl _ _⟩
    by_cases a4 : 4 ≤ tenant
    · have e : A = false := by rw [HA.out]; simp [tenOk]; omega
      subst e
      go_wp2
      go_meet
      case rel => exact ⟨rfl, Below.refl _ _⟩
    have e : A = K := by
      rw [HA.out]
      have h1 : decide (1 ≤ kind ∧ kind ≤ 11) = true := by simp; omega
      have h2 : tenOk tenant = true := by simp [tenOk]; omega
      rw [h1, h2]
      rfl
    subst e
    go_wp2_with (go_at_call 34; refine (HK.out _ HB.out).mono ?_; rintro e w1 ⟨rfl, hb1⟩)
    go_meet
    case rel => exact ⟨rfl, hb1⟩
  case rest =>
  obtain ⟨rfl, hbc⟩ := hcut
  obtain ⟨wa, hwa⟩ : ∃ wa, wa = wc := ⟨_, rfl⟩
  rw [← hwa] at hbc ⊢
  clear hwa
  have HB1 : Hid (Below w.heap.size w wa) := g_on HB.out hbc
  have hAt := HM.out.below hbc
  clear c0 c1 c2 c3 c4 c5 c6 c7 hlt HM HB HK hbc
  have HM := Hid.mk2 hAt
  obtain ⟨hlt, c0, c1, c2, c3, c4, c5, c6, c7⟩ := hAt
  dsimp only at c0 c1 c2 c3 c4 c5 c6 c7
  cases A
  · go_wp2
    go_ret
    exact ⟨by simp, HB1.out⟩
  clear HA
  go_upto_region 3 with (fail)
  go_cut [3] from 4 (fun s3 wx => s3 = .bool P ∧ wx = wa)
  case first =>
    by_cases a1 : 2 ≤ kind
    · by_cases a2 : kind ≤ 5
      · have e : P = true := by rw [HP.out]; simp [a1, a2]
        subst e
        go_wp2
        go_meet
        case rel => exact ⟨rfl, rfl⟩
      · have e : P = false := by rw [HP.out]; simp [a2]
        subst e
        go_wp2
        go_meet
        case rel => exact ⟨rfl, rfl⟩
    · have e : P = false := by rw [HP.out]; simp [a1]
      subst e
      go_wp2
      go_meet
      case rel => exact ⟨rfl, rfl⟩
  case rest =>
  obtain ⟨rfl, hw⟩ := hcut
  have hw := hw.symm
  subst hw
  clear HP
  go_upto_region 4 with (fail)
  go_cut [52] from 4 (fun s52 wx => s52 = .bool (!V) ∧ wx = wa)
  case first =>
    by_cases a1 : 512 < value.size
    · have e : V = false := by rw [HV.out]; simp [show ¬ value.size ≤ 512 by omega]
      have a1' : (512 : Int) < (value.size : Int) := by omega
      subst e
      go_wp2
      go_meet
      case rel => exact ⟨rfl, rfl⟩
    have a1' : ¬ ((512 : Int) < (value.size : Int)) := by omega
    have hle : decide (value.size ≤ 512) = true := by simp; omega
    by_cases a2 : value.size = 0
    · have e : V = true := by rw [HV.out, hle]; simp [a2]
      have a2' := ba_empty a2
      subst e
      clear a2 hle
      go_wp2
      go_meet
      case rel => exact ⟨rfl, rfl⟩
    have a2' := ba_full a2
    cases P
    · by_cases a3 : kind = 8
      · have e : V = true := by rw [HV.out, hle]; simp [a3]
        have a3' := bne_f a3
        subst e
        clear a2 hle a3
        go_wp2
        go_meet
        case rel => exact ⟨rfl, rfl⟩
      · have e : V = false := by rw [HV.out, hle]; simp [a2, a3]
        have a3' := bne_t a3
        subst e
        clear a2 hle a3
        go_wp2
        go_meet
        case rel => exact ⟨rfl, rfl⟩
    · have e : V = true := by rw [HV.out, hle]; simp
      subst e
      clear a2 hle
      go_wp2
      go_meet
      case rel => exact ⟨rfl, rfl⟩
  case rest =>
  obtain ⟨rfl, hw⟩ := hcut
  have hw := hw.symm
  subst hw
  cases V
  · go_wp2
    go_ret
    exact ⟨by simp, HB1.out⟩
  clear HV
  go_upto_region 6 with (fail)
  go_cut [74] from 4 (fun s74 wx => s74 = .bool (!L) ∧ wx = wa)
  case first =>
    by_cases a1 : life < 0
    · have e : L = false := by rw [HL.out]; simp; omega
      subst e
      go_wp2
      go_meet
      case rel => exact ⟨rfl, rfl⟩
    by_cases a2 : 1099511627776 < life
    · have e : L = false := by rw [HL.out]; simp; omega
      subst e
      go_wp2
      go_meet
      case rel => exact ⟨rfl, rfl⟩
    have hle : decide (0 ≤ life ∧ life ≤ 1099511627776) = true := by simp; omega
    by_cases a3 : life = 0
    · have e : L = true := by rw [HL.out, hle]; simp [a3]
      subst e
      subst a3
      clear hle
      go_wp2
      go_meet
      case rel => exact ⟨rfl, rfl⟩
    have a3' := bne_t a3
    cases P
    · by_cases a4 : kind = 9
      · have e : L = true := by rw [HL.out, hle]; simp [a4]
        have a4' := bne_f a4
        subst e
        clear hle a3 a4
        go_wp2
        go_meet
        case rel => exact ⟨rfl, rfl⟩
      · have e : L = false := by rw [HL.out, hle]; simp [a3, a4]
        have a4' := bne_t a4
        subst e
        clear hle a3 a4
        go_wp2
        go_meet
        case rel => exact ⟨rfl, rfl⟩
    · have e : L = true := by rw [HL.out, hle]; simp
      subst e
      clear hle a3
      go_wp2
      go_meet
      case rel => exact ⟨rfl, rfl⟩
  case rest =>
  obtain ⟨rfl, hw⟩ := hcut
  have hw := hw.symm
  subst hw
  cases L
  · go_wp2
    go_ret
    exact ⟨by simp, HB1.out⟩
  clear HL
  go_upto_region 8 with (fail)
  go_cut [91] from 4 (fun s91 wx => s91 = .bool (!F) ∧ wx = wa)
  case first =>
    have hfl : (flags = 0 ∨ P = true) ∨ (¬ flags = 0 ∧ P = false) := by
      by_cases a : flags = 0
      · exact .inl (.inl a)
      · cases P
        · exact .inr ⟨a, rfl⟩
        · exact .inl (.inr rfl)
    rcases hfl with hfl | ⟨a1, rfl⟩
    case inr =>
      have e : F = false := by rw [HF.out]; simp [a1]
      have a1' := bne_t a1
      subst e
      clear a1
      go_wp2
      go_meet
      case rel => exact ⟨rfl, rfl⟩
    have hd : (decide (flags = 0) || P) = true := by rcases hfl with h | h <;> simp [h]
    by_cases a2 : unique = 0
    · have e : F = true := by rw [HF.out, hd]; simp [a2]
      subst e
      subst a2
      clear hd
      by_cases a1 : flags = 0
      · subst a1
        go_wp2
        go_meet
        case rel => exact ⟨rfl, rfl⟩
      · have a1' := bne_t a1
        have hp : P = true := by rcases hfl with h | h; exact absurd h a1; exact h
        subst hp
        clear a1 hfl
        go_wp2
        go_meet
        case rel => exact ⟨rfl, rfl⟩
    have a2' := bne_t a2
    by_cases a3 : kind = 5
    · have e : F = true := by rw [HF.out, hd]; simp [a3]
      have a3' := bne_f a3
      subst e
      clear hd a2 a3
      by_cases a1 : flags = 0
      · subst a1
        go_wp2
        go_meet
        case rel => exact ⟨rfl, rfl⟩
      · have a1' := bne_t a1
        have hp : P = true := by rcases hfl with h | h; exact absurd h a1; exact h
        subst hp
        clear a1 hfl
        go_wp2
        go_meet
        case rel => exact ⟨rfl, rfl⟩
    · have e : F = false := by rw [HF.out, hd]; simp [a2, a3]
      have a3' := bne_t a3
      subst e
      clear hd a2 a3
      by_cases a1 : flags = 0
      · subst a1
        go_wp2
        go_meet
        case rel => exact ⟨rfl, rfl⟩
      · have a1' := bne_t a1
        have hp : P = true := by rcases hfl with h | h; exact absurd h a1; exact h
        subst hp
        clear a1 hfl
        go_wp2
        go_meet
        case rel => exact ⟨rfl, rfl⟩
  case rest =>
  obtain ⟨rfl, hw⟩ := hcut
  have hw := hw.symm
  subst hw
  cases F
  · go_wp2
    go_ret
    exact ⟨by simp, HB1.out⟩
  clear HF
  by_cases a1 : by_ = 0
  · have e : Y = true := by rw [HY.out]; simp [a1]
    subst e
    subst a1
    go_wp2
    go_ret
    exact ⟨by simp, HB1.out⟩
  have a1' := beq_f a1
  by_cases a2 : kind = 6
  · have e : Y = true := by rw [HY.out]; simp [a2]
    subst e
    subst a2
    clear a1
    go_wp2
    go_ret
    exact ⟨by simp, HB1.out⟩
  have a2' := beq_f a2
  by_cases a3 : kind = 7
  · have e : Y = true := by rw [HY.out]; simp [a3]
    subst e
    subst a3
    clear a1 a2
    go_wp2
    go_ret
    exact ⟨by simp, HB1.out⟩
  · have e : Y = false := by rw [HY.out]; simp [a1, a2, a3]
    have a3' := beq_f a3
    subst e
    clear a1 a2 a3
    go_wp2
    go_ret
    exact ⟨by simp, HB1.out⟩
end Go.Proofs.Ytjmcgpdimhgegaa
