/-
  (shaken)
-/
import Derived.Test.YtjmcgpdimhgegaaOrRefA
namespace Go.Proofs.Ytjmcgpdimhgegaa
open Go.RowKit
set_option linter.unusedSimpArgs false
set_option linter.unusedVariables false
set_option maxRecDepth 100000

theorem beq_f {a b : Int} (h : ¬ a = b) : (a == b) = false := by simpa using h
theorem bne_t {a b : Int} (h : ¬ a = b) : (a != b) = true := by simpa using h
theorem bne_f {a b : Int} (h : a = b) : (a != b) = false := by simpa using h

set_option maxHeartbeats 2000000 in
theorem rkeys_any (c : Cm) (ko : Option Addr) (kc : Nat) (w : World) (h : GRd ES w ko c.keys kc) :
    Calls Try.prog 34 #[.agg (c.arr (.slice ko c.keys.length kc))] w fun e w' => e = .returned (.bool c.kOk) ∧ Below w.heap.size w w' := by
  have HR := Hid.mk2 h
  have hlen := h.len
  clear h
  obtain ⟨kind, tenant, keys, value, flags, life, unique, by_⟩ := c
  unfold Cm.kOk Cm.arr
  dsimp only at *
  by_cases h11 : kind = 11
  · subst h11
    rw [if_pos rfl]
    clear HR
    by_cases hz : keys.length = 0
    · rw [decide_eq_true hz]
      have hz1 : ((keys.length : Int) == 0) = true := by simp [hz]
      have HZ := Hid.mk2 hz
      clear hz
      go_enter Try.func34, Try.ntmps34
      go_wp2
      go_ret
      refine ⟨?_, g_alloc _ _⟩
      simp [HZ.out]
    · rw [decide_eq_false hz]
      go_enter Try.func34, Try.ntmps34
      go_wp2
      go_ret
      refine ⟨?_, g_alloc _ _⟩
      simp [hz]
  rw [if_neg h11]
  have k11 := beq_f h11
  by_cases hn : 1 ≤ keys.length ∧ keys.length ≤ 8 ∧ (keys.length ≤ 1 ∨ kind = 1 ∨ kind = 10)
  case neg =>
    rw [decide_eq_false hn]
    have hcase : keys.length < 1 ∨ (¬ keys.length < 1 ∧ 8 < keys.length) ∨ (¬ keys.length < 1 ∧ ¬ 8 < keys.length ∧ 1 < keys.length ∧ ¬ kind = 1 ∧ ¬ kind = 10) := by omega
    clear hn h11 HR
    rcases hcase with hc | ⟨hc, hd⟩ | ⟨hc, hd, he, hf, hg⟩
    · have hc1 : (keys.length : Int) < 1 := by omega
      go_enter Try.func34, Try.ntmps34
      go_wp2
      go_ret
      exact ⟨rfl, g_alloc _ _⟩
    · have hc1 : ¬ ((keys.length : Int) < 1) := by omega
      have hd1 : (8 : Int) < (keys.length : Int) := by omega
      go_enter Try.func34, Try.ntmps34
      go_wp2
      go_ret
      exact ⟨rfl, g_alloc _ _⟩
    · have hc1 : ¬ ((keys.length : Int) < 1) := by omega
      have hd1 : ¬ ((8 : Int) < (keys.length : Int)) := by omega
      have he1 : (1 : Int) < (keys.length : Int) := by omega
      have hf1 := bne_t hf
      have hg1 := bne_t hg
      clear hf hg
      go_enter Try.func34, Try.ntmps34
      go_wp2
      go_ret
      exact ⟨rfl, g_alloc _ _⟩
  rw [decide_eq_true hn]
  obtain ⟨hn1, hn8, hcase⟩ := hn
  have hc1 : ¬ ((keys.length : Int) < 1) := by omega
  have hd1 : ¬ ((8 : Int) < (keys.length : Int)) := by omega
  have hne : keys ≠ [] := by intro e; rw [e] at hn1; simp at hn1
  obtain ⟨b, off, rfl, hbl, hcs⟩ := HR.out.str hne
  have HC := Hid.mk2 hcs
  obtain ⟨R, hRe⟩ : ∃ R, R = (true && keys.all keyOk && decide keys.Nodup) := ⟨_, rfl⟩
  rw [← hRe]
  have HRE := Hid.mk2 hRe
  have HTW := Hid.mk2 (fun W (hW : Below w.heap.size w W) => twice_any keys (some ⟨b, off, none⟩) kc W (HR.out.below hW))
  clear hRe hcs hne h11 HR
  have hgo : (¬ ((1 : Int) < (keys.length : Int))) ∨ (((1 : Int) < (keys.length : Int)) ∧ (kind != 1) = false) ∨ (((1 : Int) < (keys.length : Int)) ∧ (kind != 1) = true ∧ (kind != 10) = false) := by
    by_cases ha : 1 < keys.length
    · by_cases hb : kind = 1
      · exact .inr (.inl ⟨by omega, bne_f hb⟩)
      · exact .inr (.inr ⟨by omega, bne_t hb, bne_f (by omega)⟩)
    · exact .inl (by omega)
  clear hcase
  rcases hgo with hg | ⟨hg, hg2⟩ | ⟨hg, hg2, hg3⟩
  · go_enter Try.func34, Try.ntmps34
    go_wp2
    go_loopw [4] (fun i wr => ∃ k : Nat, k ≤ keys.length ∧ i = .int .i64 k ∧ wr = w.alloc (.cells #[.int .u8 kind, .int .i64 tenant, .slice (some ⟨b, off, none⟩) keys.length kc, .string value, .int .u32 flags, .int .i64 life, .int .u64 unique, .int .u64 by_] 26) ∧ Hid (∀ j (hj : j < keys.length), j < k → keyOk keys[j] = true)) (fun i _ => keys.length - (intOf i).toNat)
    case atStart => exact ⟨0, Nat.zero_le _, rfl, rfl, fun _ _ h => absurd h (by omega)⟩
    case round =>
      obtain ⟨k, hk, rfl, rfl, HA⟩ := hrel
      by_cases hlt : k < keys.length
      · have hlt2 : (k : Int) < (keys.length : Int) := by omega
        have r0 : (w.alloc (.cells #[.int .u8 kind, .int .i64 tenant, .slice (some ⟨b, off, none⟩) keys.length kc, .string value, .int .u32 flags, .int .i64 life, .int .u64 unique, .int .u64 by_] 26)).cell? ⟨b, off + k, none⟩ = _ := ((g_alloc w _).cell (p := ⟨b, off + k, none⟩) hbl).trans (HC.out k hlt)
        obtain ⟨p, hpe⟩ : ∃ p, p = keys[k] := ⟨_, rfl⟩
        rw [← hpe] at r0
        cases hko : keyOk p
        · have e1 : R = false := by
            rw [HRE.out]
            have : keys.all keyOk = false := by
              rw [List.all_eq_false]
              exact ⟨keys[k], List.getElem_mem hlt, by rw [← hpe, hko]; simp⟩
            rw [this]
            rfl
          subst e1
          have hp : p.size < 1 ∨ (¬ p.size < 1 ∧ 32 < p.size) := by
            simp only [keyOk, decide_eq_false_iff_not] at hko
            omega
          clear HRE HTW HA HC hpe hko
          rcases hp with hp | ⟨hp, hq⟩
          · have hp1 : (p.size : Int) < 1 := by omega
            go_wp2
            go_ret
            exact ⟨rfl, g_alloc _ _⟩
          · have hp1 : ¬ ((p.size : Int) < 1) := by omega
            have hq1 : (32 : Int) < (p.size : Int) := by omega
            go_wp2
            go_ret
            exact ⟨rfl, g_alloc _ _⟩
        · have hp : 1 ≤ p.size ∧ p.size ≤ 32 := by simpa [keyOk] using hko
          have hp1 : ¬ ((p.size : Int) < 1) := by omega
          have hq1 : ¬ ((32 : Int) < (p.size : Int)) := by omega
          have HA2 : Hid (∀ j (hj : j < keys.length), j < k + 1 → keyOk keys[j] = true) := by
            intro j hj hjk
            by_cases e : j = k
            · subst e; rw [← hpe]; exact hko
            · exact HA.out j hj (by omega)
          clear HA hpe hko hp
          go_wp2
          go_roundw
          case rel => exact ⟨k + 1, by omega, by go_num, by first | rfl | trivial, HA2⟩
          case measure => simp [intOf]; omega
      · have hall : keys.all keyOk = true := by
          rw [List.all_eq_true]
          intro x hx
          obtain ⟨j, hj, rfl⟩ := List.getElem_of_mem hx
          exact HA.out j hj (by omega)
        have e1 : R = decide keys.Nodup := by rw [HRE.out, hall]; simp
        subst e1
        clear HRE HA HC hall
        go_wp2_with (go_at_call 43; refine (HTW.out _ (g_alloc _ _)).mono ?_; rintro e w1 ⟨rfl, n, rfl⟩)
        go_ret
        exact ⟨by simp, g_quiet_on n (g_alloc _ _)⟩
  · go_enter Try.func34, Try.ntmps34
    go_wp2
    go_loopw [4] (fun i wr => ∃ k : Nat, k ≤ keys.length ∧ i = .int .i64 k ∧ wr = w.alloc (.cells #[.int .u8 kind, .int .i64 tenant, .slice (some ⟨b, off, none⟩) keys.length kc, .string value, .int .u32 flags, .int .i64 life, .int .u64 unique, .int .u64 by_] 26) ∧ Hid (∀ j (hj : j < keys.length), j < k → keyOk keys[j] = true)) (fun i _ => keys.length - (intOf i).toNat)
    case atStart => exact ⟨0, Nat.zero_le _, rfl, rfl, fun _ _ h => absurd h (by omega)⟩
    case round =>
      obtain ⟨k, hk, rfl, rfl, HA⟩ := hrel
      by_cases hlt : k < keys.length
      · have hlt2 : (k : Int) < (keys.length : Int) := by omega
        have r0 : (w.alloc (.cells #[.int .u8 kind, .int .i64 tenant, .slice (some ⟨b, off, none⟩) keys.length kc, .string value, .int .u32 flags, .int .i64 life, .int .u64 unique, .int .u64 by_] 26)).cell? ⟨b, off + k, none⟩ = _ := ((g_alloc w _).cell (p := ⟨b, off + k, none⟩) hbl).trans (HC.out k hlt)
        obtain ⟨p, hpe⟩ : ∃ p, p = keys[k] := ⟨_, rfl⟩
        rw [← hpe] at r0
        cases hko : keyOk p
        · have e1 : R = false := by
            rw [HRE.out]
            have : keys.all keyOk = false := by
              rw [List.all_eq_false]
              exact ⟨keys[k], List.getElem_mem hlt, by rw [← hpe, hko]; simp⟩
            rw [this]
            rfl
          subst e1
          have hp : p.size < 1 ∨ (¬ p.size < 1 ∧ 32 < p.size) := by
            simp only [keyOk, decide_eq_false_iff_not] at hko
            omega
          clear HRE HTW HA HC hpe hko
          rcases hp with hp | ⟨hp, hq⟩
          · have hp1 : (p.size : Int) < 1 := by omega
            go_wp2
            go_ret
            exact ⟨rfl, g_alloc _ _⟩
          · have hp1 : ¬ ((p.size : Int) < 1) := by omega
            have hq1 : (32 : Int) < (p.size : Int) := by omega
            go_wp2
            go_ret
            exact ⟨rfl, g_alloc _ _⟩
        · have hp : 1 ≤ p.size ∧ p.size ≤ 32 := by simpa [keyOk] using hko
          have hp1 : ¬ ((p.size : Int) < 1) := by omega
          have hq1 : ¬ ((32 : Int) < (p.size : Int)) := by omega
          have HA2 : Hid (∀ j (hj : j < keys.length), j < k + 1 → keyOk keys[j] = true) := by
            intro j hj hjk
            by_cases e : j = k
            · subst e; rw [← hpe]; exact hko
            · exact HA.out j hj (by omega)
          clear HA hpe hko hp
          go_wp2
          go_roundw
          case rel => exact ⟨k + 1, by omega, by go_num, by first | rfl | trivial, HA2⟩
          case measure => simp [intOf]; omega
      · have hall : keys.all keyOk = true := by
          rw [List.all_eq_true]
          intro x hx
          obtain ⟨j, hj, rfl⟩ := List.getElem_of_mem hx
          exact HA.out j hj (by omega)
        have e1 : R = decide keys.Nodup := by rw [HRE.out, hall]; simp
        subst e1
        clear HRE HA HC hall
        go_wp2_with (go_at_call 43; refine (HTW.out _ (g_alloc _ _)).mono ?_; rintro e w1 ⟨rfl, n, rfl⟩)
        go_ret
        exact ⟨by simp, g_quiet_on n (g_alloc _ _)⟩
  · go_enter Try.func34, Try.ntmps34
    go_wp2
    go_loopw [4] (fun i wr => ∃ k : Nat, k ≤ keys.length ∧ i = .int .i64 k ∧ wr = w.alloc (.cells #[.int .u8 kind, .int .i64 tenant, .slice (some ⟨b, off, none⟩) keys.length kc, .string value, .int .u32 flags, .int .i64 life, .int .u64 unique, .int .u64 by_] 26) ∧ Hid (∀ j (hj : j < keys.length), j < k → keyOk keys[j] = true)) (fun i _ => keys.length - (intOf i).toNat)
    case atStart => exact ⟨0, Nat.zero_le _, rfl, rfl, fun _ _ h => absurd h (by omega)⟩
    case round =>
      obtain ⟨k, hk, rfl, rfl, HA⟩ := hrel
      by_cases hlt : k < keys.length
      · have hlt2 : (k : Int) < (keys.length : Int) := by omega
        have r0 : (w.alloc (.cells #[.int .u8 kind, .int .i64 tenant, .slice (some ⟨b, off, none⟩) keys.length kc, .string value, .int .u32 flags, .int .i64 life, .int .u64 unique, .int .u64 by_] 26)).cell? ⟨b, off + k, none⟩ = _ := ((g_alloc w _).cell (p := ⟨b, off + k, none⟩) hbl).trans (HC.out k hlt)
        obtain ⟨p, hpe⟩ : ∃ p, p = keys[k] := ⟨_, rfl⟩
        rw [← hpe] at r0
        cases hko : keyOk p
        · have e1 : R = false := by
            rw [HRE.out]
            have : keys.all keyOk = false := by
              rw [List.all_eq_false]
              exact ⟨keys[k], List.getElem_mem hlt, by rw [← hpe, hko]; simp⟩
            rw [this]
            rfl
          subst e1
          have hp : p.size < 1 ∨ (¬ p.size < 1 ∧ 32 < p.size) := by
            simp only [keyOk, decide_eq_false_iff_not] at hko
            omega
          clear HRE HTW HA HC hpe hko
          rcases hp with hp | ⟨hp, hq⟩
          · have hp1 : (p.size : Int) < 1 := by omega
            go_wp2
            go_ret
            exact ⟨rfl, g_alloc _ _⟩
          · have hp1 : ¬ ((p.size : Int) < 1) := by omega
            have hq1 : (32 : Int) < (p.size : Int) := by omega
            go_wp2
            go_ret
            exact ⟨rfl, g_alloc _ _⟩
        · have hp : 1 ≤ p.size ∧ p.size ≤ 32 := by simpa [keyOk] using hko
          have hp1 : ¬ ((p.size : Int) < 1) := by omega
          have hq1 : ¬ ((32 : Int) < (p.size : Int)) := by omega
          have HA2 : Hid (∀ j (hj : j < keys.length), j < k + 1 → keyOk keys[j] = true) := by
            intro j hj hjk
            by_cases e : j = k
            · subst e; rw [← hpe]; exact hko
            · exact HA.out j hj (by omega)
          clear HA hpe hko hp
          go_wp2
          go_roundw
          case rel => exact ⟨k + 1, by omega, by go_num, by first | rfl | trivial, HA2⟩
          case measure => simp [intOf]; omega
      · have hall : keys.all keyOk = true := by
          rw [List.all_eq_true]
          intro x hx
          obtain ⟨j, hj, rfl⟩ := List.getElem_of_mem hx
          exact HA.out j hj (by omega)
        have e1 : R = decide keys.Nodup := by rw [HRE.out, hall]; simp
        subst e1
        clear HRE HA HC hall
        go_wp2_with (go_at_call 43; refine (HTW.out _ (g_alloc _ _)).mono ?_; rintro e w1 ⟨rfl, n, rfl⟩)
        go_ret
        exact ⟨by simp, g_quiet_on n (g_alloc _ _)⟩
end Go.Proofs.Ytjmcgpdimhgegaa
