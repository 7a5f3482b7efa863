/-
  (shaken)
-/
import Derived.Test.YtldnkminhppngaaDoorTxA
import Derived.Test.YtldnkminhppngaaDoorOrRefX
import Derived.Test.YtldnkminhppngaaDoorItText
import Derived.Test.YtldnkminhppngaaDoorItRefB
namespace Go.Proofs.YtldnkminhppngaaDoor
open Go.Proofs.YtldnkminhppngaaDoor.It
open Go.RowKit
set_option linter.unusedSimpArgs false
set_option linter.unusedVariables false
set_option maxRecDepth 100000

theorem seen_false {s : ByteArray} {k : Nat} (hk : k < (bl s).length) (h : seenB (bl s)[k] = false) : seen s = false := by
  unfold seen
  rw [List.all_eq_false]
  exact ⟨(bl s)[k], List.getElem_mem hk, by simp [h]⟩
theorem seen_true {s : ByteArray} (h : ∀ j (hj : j < (bl s).length), seenB (bl s)[j] = true) : seen s = true := by
  unfold seen
  rw [List.all_eq_true]
  intro x hx
  obtain ⟨j, hj, rfl⟩ := List.getElem_of_mem hx
  exact h j hj
theorem seenB_iff (c : UInt8) : seenB c = false ↔ (c.toNat < 33 ∨ 126 < c.toNat) := by
  unfold seenB
  simp
  omega

set_option maxHeartbeats 1000000 in
theorem isSeen_any (s : ByteArray) (hs : s.size ≤ maxLen) (w : World) :
    Calls Tryd.prog 84 #[.string s] w fun e w' => e = .returned (.bool (seen s)) ∧ Below w.heap.size w w' := by
  have hcv := conv_str s
  have HR := Hid.mk2 (bsW_rd w s hs)
  have HB := Hid.mk2 (bsW_below w s)
  have hl := bl_len s
  have hm : (s.size : Int) ≤ 9223372036854775807 := by have h2 : maxLen ≤ 9223372036854775807 := by decide
                                                       omega
  have HF := Hid.mk2 (fun (k : Nat) (hk : k < (bl s).length) (h : seenB (bl s)[k] = false) => seen_false hk h)
  have HT := Hid.mk2 (@seen_true s)
  obtain ⟨R, hR⟩ : ∃ R, R = seen s := ⟨_, rfl⟩
  rw [← hR] at HF HT ⊢
  have HL := Hid.mk2 hl
  obtain ⟨W, hW⟩ : ∃ W, W = bsW w s := ⟨_, rfl⟩
  rw [← hW] at HR HB
  have hcw := hcv w
  rw [← hW] at hcw
  obtain ⟨C, hC⟩ : ∃ C, C = capS w s := ⟨_, rfl⟩
  rw [← hC] at hcw HR
  clear hcv hl hR hW hC
  go_enter Tryd.func84, Tryd.ntmps84
  go_wp2
  go_loopw [4, 8] (fun _ i wr => ∃ k : Nat, k ≤ s.size ∧ i = .int .i64 k ∧ wr = W ∧ Hid (∀ j (hj : j < (bl s).length), j < k → seenB (bl s)[j] = true)) (fun _ i _ => s.size - (intOf i).toNat)
  case atStart => exact ⟨0, Nat.zero_le _, rfl, rfl, fun _ _ h => absurd h (by omega)⟩
  case round =>
    obtain ⟨k, hk, rfl, rfl, HA⟩ := hrel
    have hl := HL.out
    by_cases hkl : k < s.size
    · have hkl2 : (k : Int) < (s.size : Int) := by omega
      have hkb : k < (bl s).length := by omega
      have hne : bl s ≠ [] := by intro e; rw [e] at hkb; simp at hkb
      obtain ⟨b, off, hbo, hbl, hcs⟩ := HR.out.uy hne
      have hbo2 := Option.some.inj hbo
      have e1 : b = w.heap.size := by have := congrArg Addr.block hbo2; exact this.symm
      have e2 : off = 0 := by have := congrArg Addr.off hbo2; exact this.symm
      subst e1 e2
      have r0 := hcs k hkb
      rw [Nat.zero_add] at r0
      obtain ⟨c, hc⟩ : ∃ c, c = (bl s)[k] := ⟨_, rfl⟩
      rw [← hc] at r0
      obtain ⟨q, hq⟩ : ∃ q : Nat, q = c.toNat := ⟨_, rfl⟩
      rw [← hq] at r0
      cases hb : seenB c
      · have e := HF.out k hkb (by rw [← hc]; exact hb)
        subst e
        have h33 := (seenB_iff c).1 hb
        rw [← hq] at h33
        by_cases h1 : q < 33
        · have h1' : (q : Int) < 33 := by omega
          clear HF HT HA hcs hne hc hb h33 hbo hbo2 hl HL hq
          go_wp2
          go_ret
          exact ⟨rfl, HB.out⟩
        · have h1' : ¬ (q : Int) < 33 := by omega
          have h2' : (126 : Int) < q := by omega
          clear HF HT HA hcs hne hc hb h33 hbo hbo2 hl HL hq
          go_wp2
          go_ret
          exact ⟨rfl, HB.out⟩
      · have HA2 : Hid (∀ j (hj : j < (bl s).length), j < k + 1 → seenB (bl s)[j] = true) := by
          intro j hj hjk
          by_cases e : j = k
          · subst e; rw [← hc]; exact hb
          · exact HA.out j hj (by omega)
        have h33 : ¬ (c.toNat < 33 ∨ 126 < c.toNat) := fun h => by rw [(seenB_iff c).2 h] at hb; cases hb
        rw [← hq] at h33
        have h1' : ¬ (q : Int) < 33 := by omega
        have h2' : ¬ (126 : Int) < q := by omega
        clear HF HT HA hcs hne hc hb h33 hbo hbo2 hl HL hq
        go_wp2
        go_roundw
        case rel => exact ⟨k + 1, by omega, by go_num, by first | rfl | trivial, HA2⟩
        case measure => simp [intOf]; omega
    · have e := HT.out (fun j hj => HA.out j hj (by omega))
      subst e
      have hkl2 : ¬ (k : Int) < (s.size : Int) := by omega
      clear HF HT HA HL hl
      go_wp2
      go_ret
      exact ⟨rfl, HB.out⟩

theorem isNotSeen_any (s : ByteArray) (hs : s.size ≤ maxLen) (w : World) :
    Calls Tryd.prog 78 #[.string s] w fun e w' => e = .returned (.bool (!seen s)) ∧ Below w.heap.size w w' := by
  have HS := Hid.mk2 (isSeen_any s hs w)
  obtain ⟨R, hR⟩ : ∃ R, R = seen s := ⟨_, rfl⟩
  rw [← hR] at HS ⊢
  clear hR hs
  go_enter Tryd.func78, Tryd.ntmps78
  go_wp2_with (go_at_call 84; refine HS.out.mono ?_; rintro e w1 ⟨rfl, hb1⟩)
  go_ret
  exact ⟨rfl, hb1⟩

theorem isWord_any (s : ByteArray) (m : Nat) (hs : s.size ≤ maxLen) (hm : m ≤ 1000) (w : World) :
    Calls Tryd.prog 57 #[.string s, .int .i64 m] w fun e w' => e = .returned (.bool (wordOk s m)) ∧ Below w.heap.size w w' := by
  have HS := Hid.mk2 (isSeen_any s hs w)
  unfold wordOk
  obtain ⟨R, hR⟩ : ∃ R, R = seen s := ⟨_, rfl⟩
  rw [← hR] at HS ⊢
  clear hR hs
  by_cases h0 : 0 < s.size
  · have h0' : (0 : Int) < (s.size : Int) := by omega
    rw [decide_eq_true h0]
    by_cases h1 : s.size ≤ m
    · have h1' : (s.size : Int) ≤ (m : Int) := by omega
      rw [decide_eq_true h1]
      clear h0 h1
      go_enter Tryd.func57, Tryd.ntmps57
      go_wp2_with (go_at_call 84; refine HS.out.mono ?_; rintro e w1 ⟨rfl, hb1⟩)
      go_ret
      exact ⟨by simp, hb1⟩
    · have h1' : ¬ (s.size : Int) ≤ (m : Int) := by omega
      rw [decide_eq_false h1]
      clear h0 h1
      go_enter Tryd.func57, Tryd.ntmps57
      go_wp2
      go_ret
      exact ⟨by simp, Below.refl _ _⟩
  · have h0' : ¬ (0 : Int) < (s.size : Int) := by omega
    rw [decide_eq_false h0]
    clear h0
    go_enter Tryd.func57, Tryd.ntmps57
    go_wp2
    go_ret
    exact ⟨by simp, Below.refl _ _⟩

set_option maxHeartbeats 1000000 in
theorem plain_any (s : ByteArray) (m : Nat) (hs : s.size ≤ maxLen) (hm : m ≤ 1000) (w : World) :
    Calls Tryd.prog 28 #[.string s, .int .i64 m] w fun e w' => e = .returned (.bool (wordOk s m)) ∧ w' = w := by
  have hl := bl_len s
  have hmx : (s.size : Int) ≤ 9223372036854775807 := by have h2 : maxLen ≤ 9223372036854775807 := by decide
                                                        omega
  have HF := Hid.mk2 (fun (k : Nat) (hk : k < (bl s).length) (h : seenB (bl s)[k] = false) => show wordOk s m = false by unfold wordOk; rw [seen_false hk h]; simp)
  have HT := Hid.mk2 (fun h => show wordOk s m = (decide (0 < s.size) && decide (s.size ≤ m)) by unfold wordOk; rw [@seen_true s h]; simp)
  have hem : s.toList.isEmpty = !decide (0 < s.size) := by
    rw [ByteArray.toList_eq]
    show (bl s).isEmpty = _
    rw [← hl]
    cases bl s <;> simp
  obtain ⟨R, hR⟩ : ∃ R, R = wordOk s m := ⟨_, rfl⟩
  rw [← hR] at HF HT ⊢
  have HL := Hid.mk2 hl
  have HEM := Hid.mk2 hem
  clear hR hl hem
  go_enter Tryd.func28, Tryd.ntmps28
  go_wp2
  go_loopw [5] (fun i wr => ∃ k : Nat, k ≤ s.size ∧ i = .int .i64 k ∧ wr = w ∧ Hid (∀ j (hj : j < (bl s).length), j < k → seenB (bl s)[j] = true)) (fun i _ => s.size - (intOf i).toNat)
  case atStart => exact ⟨0, Nat.zero_le _, rfl, rfl, fun _ _ h => absurd h (by omega)⟩
  case round =>
    obtain ⟨k, hk, rfl, rfl, HA⟩ := hrel
    have hl := HL.out
    by_cases hkl : k < s.size
    · have hkl2 : (k : Int) < (s.size : Int) := by omega
      have hkb : k < (bl s).length := by omega
      have hx := idx_of s k hkl hkb
      obtain ⟨c, hc⟩ : ∃ c, c = (bl s)[k] := ⟨_, rfl⟩
      rw [← hc] at hx
      obtain ⟨q, hq⟩ : ∃ q : Nat, q = c.toNat := ⟨_, rfl⟩
      rw [← hq] at hx
      cases hb : seenB c
      · have e := HF.out k hkb (by rw [← hc]; exact hb)
        subst e
        have h33 := (seenB_iff c).1 hb
        rw [← hq] at h33
        by_cases h1 : q < 33
        · have h1' : (q : Int) < 33 := by omega
          clear HF HT HA hc hb h33 hl HL hq HEM
          go_wp2
          go_ret
          exact ⟨rfl, rfl⟩
        · have h1' : ¬ (q : Int) < 33 := by omega
          have h2' : (126 : Int) < q := by omega
          clear HF HT HA hc hb h33 hl HL hq HEM
          go_wp2
          go_ret
          exact ⟨rfl, rfl⟩
      · have HA2 : Hid (∀ j (hj : j < (bl s).length), j < k + 1 → seenB (bl s)[j] = true) := by
          intro j hj hjk
          by_cases e : j = k
          · subst e; rw [← hc]; exact hb
          · exact HA.out j hj (by omega)
        have h33 : ¬ (c.toNat < 33 ∨ 126 < c.toNat) := fun h => by rw [(seenB_iff c).2 h] at hb; cases hb
        rw [← hq] at h33
        have h1' : ¬ (q : Int) < 33 := by omega
        have h2' : ¬ (126 : Int) < q := by omega
        clear HF HT HA hc hb h33 hl HL hq HEM
        go_wp2
        go_roundw
        case rel => exact ⟨k + 1, by omega, by go_num, by first | rfl | trivial, HA2⟩
        case measure => simp [intOf]; omega
    · have e := HT.out (fun j hj => HA.out j hj (by omega))
      have hkl2 : ¬ (k : Int) < (s.size : Int) := by omega
      have hem := HEM.out
      clear HF HT HA HL hl HEM
      by_cases h0 : 0 < s.size
      · rw [decide_eq_true h0] at hem e
        have hem2 : s.toList.isEmpty = false := hem
        have e2 : R = decide ((s.size : Int) ≤ (m : Int)) := by rw [e]; simp
        clear hem e h0
        subst e2
        go_wp2
        go_ret
        exact ⟨by simp, rfl⟩
      · rw [decide_eq_false h0] at hem e
        have hem2 : s.toList.isEmpty = true := hem
        have e2 : R = false := by rw [e]; simp
        clear hem e h0
        subst e2
        go_wp2
        go_ret
        exact ⟨by simp, rfl⟩

theorem isEmpty_eq {s : ByteArray} (h : s.toList.isEmpty = true) : s = ⟨#[]⟩ := by
  rw [ByteArray.toList_eq] at h
  apply bl_inj
  have h2 : (bl s).isEmpty = true := h
  cases e : bl s with
  | nil => rfl
  | cons a l => rw [e] at h2; simp at h2
theorem em0 : (⟨#[]⟩ : ByteArray).toList.isEmpty = true := by rw [ByteArray.toList_eq]; rfl

set_option maxHeartbeats 4000000 in
theorem isNothing_any (c : Cm) (ko : Option Addr) (kc : Nat) (w : World) (hlen : c.keys.length ≤ 9223372036854775807) :
    Calls Tryd.prog 75 #[.agg (c.arr (.slice ko c.keys.length kc))] w fun e w' => e = .returned (.bool c.isNone) ∧ Below w.heap.size w w' := by
  have HB := Hid.mk2 (g_alloc w (.cells (c.arr (.slice ko c.keys.length kc)) 26))
  obtain ⟨kind, tenant, keys, value, flags, life, unique, by_⟩ := c
  unfold Cm.isNone
  unfold Cm.arr at *
  dsimp only at *
  by_cases h0 : kind = 0
  case neg =>
    have n0 := h0
    clear h0
    go_enter Tryd.func75, Tryd.ntmps75
    go_wp2
    go_ret
    exact ⟨by simp [n0], HB.out⟩
  case pos =>
  subst h0
  by_cases h1 : tenant = 0
  case neg =>
    have n1 := h1
    clear h1
    go_enter Tryd.func75, Tryd.ntmps75
    go_wp2
    go_ret
    exact ⟨by simp [n1], HB.out⟩
  case pos =>
  subst h1
  by_cases h2 : keys = []
  case neg =>
    have n2 := h2
    have m2 : ((keys.length : Int) != 0) = true := by simp [h2]
    clear h2
    go_enter Tryd.func75, Tryd.ntmps75
    go_wp2
    go_ret
    exact ⟨by simp [n2], HB.out⟩
  case pos =>
  subst h2
  by_cases h3 : value = ⟨#[]⟩
  case neg =>
    have n3 : value.toList.isEmpty = false := by cases e : value.toList.isEmpty; rfl; exact absurd (isEmpty_eq e) h3
    clear h3
    go_enter Tryd.func75, Tryd.ntmps75
    go_wp2
    go_ret
    exact ⟨by simp [n3], HB.out⟩
  case pos =>
  subst h3
  by_cases h4 : flags = 0
  case neg =>
    have n4 := h4
    clear h4
    go_enter Tryd.func75, Tryd.ntmps75
    go_wp2
    go_ret
    exact ⟨by simp [n4], HB.out⟩
  case pos =>
  subst h4
  by_cases h5 : life = 0
  case neg =>
    have n5 := h5
    clear h5
    go_enter Tryd.func75, Tryd.ntmps75
    go_wp2
    go_ret
    exact ⟨by simp [n5], HB.out⟩
  case pos =>
  subst h5
  by_cases h6 : unique = 0
  case neg =>
    have n6 := h6
    clear h6
    go_enter Tryd.func75, Tryd.ntmps75
    go_wp2
    go_ret
    exact ⟨by simp [n6], HB.out⟩
  case pos =>
  subst h6
  by_cases h7 : by_ = 0
  case neg =>
    have n7 := h7
    clear h7
    go_enter Tryd.func75, Tryd.ntmps75
    go_wp2
    go_ret
    exact ⟨by simp [n7], HB.out⟩
  case pos =>
  subst h7
  go_enter Tryd.func75, Tryd.ntmps75
  go_wp2
  go_ret
  exact ⟨by simp [em0], HB.out⟩

set_option maxHeartbeats 4000000 in
theorem samez_any (c : Cm) (ko : Option Addr) (kc : Nat) (w : World) (hlen : c.keys.length ≤ 9223372036854775807) :
    Calls Tryd.prog 21 #[.agg (c.arr (.slice ko c.keys.length kc)), .agg (cz.arr (.slice none 0 0))] w fun e w' => e = .returned (.bool c.isNone) ∧ Below w.heap.size w w' := by
  have HB := Hid.mk2 (g_on (g_alloc w (.cells (c.arr (.slice ko c.keys.length kc)) 26)) (g_alloc _ (.cells (cz.arr (.slice none 0 0)) 26)))
  obtain ⟨kind, tenant, keys, value, flags, life, unique, by_⟩ := c
  unfold Cm.isNone
  unfold Cm.arr cz at *
  dsimp only at *
  by_cases h0 : kind = 0
  case neg =>
    have n0 := h0
    clear h0
    go_enter Tryd.func21, Tryd.ntmps21
    go_wp2
    go_ret
    exact ⟨by simp [n0], HB.out⟩
  case pos =>
  subst h0
  by_cases h1 : tenant = 0
  case neg =>
    have n1 := h1
    clear h1
    go_enter Tryd.func21, Tryd.ntmps21
    go_wp2
    go_ret
    exact ⟨by simp [n1], HB.out⟩
  case pos =>
  subst h1
  by_cases h3 : value = ⟨#[]⟩
  case neg =>
    have n3 : value.toList.isEmpty = false := by cases e : value.toList.isEmpty; rfl; exact absurd (isEmpty_eq e) h3
    clear h3
    go_enter Tryd.func21, Tryd.ntmps21
    go_wp2
    go_ret
    exact ⟨by simp [n3], HB.out⟩
  case pos =>
  subst h3
  by_cases h4 : flags = 0
  case neg =>
    have n4 := h4
    clear h4
    go_enter Tryd.func21, Tryd.ntmps21
    go_wp2
    go_ret
    exact ⟨by simp [n4], HB.out⟩
  case pos =>
  subst h4
  by_cases h5 : life = 0
  case neg =>
    have n5 := h5
    clear h5
    go_enter Tryd.func21, Tryd.ntmps21
    go_wp2
    go_ret
    exact ⟨by simp [n5], HB.out⟩
  case pos =>
  subst h5
  by_cases h6 : unique = 0
  case neg =>
    have n6 := h6
    clear h6
    go_enter Tryd.func21, Tryd.ntmps21
    go_wp2
    go_ret
    exact ⟨by simp [n6], HB.out⟩
  case pos =>
  subst h6
  by_cases h7 : by_ = 0
  case neg =>
    have n7 := h7
    clear h7
    go_enter Tryd.func21, Tryd.ntmps21
    go_wp2
    go_ret
    exact ⟨by simp [n7], HB.out⟩
  case pos =>
  subst h7
  by_cases h2 : keys = []
  case neg =>
    have n2 := h2
    have m2 : ((keys.length : Int) != 0) = true := by simp [h2]
    clear h2
    go_enter Tryd.func21, Tryd.ntmps21
    go_wp2
    go_ret
    exact ⟨by simp [n2], HB.out⟩
  case pos =>
  subst h2
  go_enter Tryd.func21, Tryd.ntmps21
  go_wp2
  go_loopw [5] (fun i wr => i = .int .i64 0 ∧ wr = (w.alloc (.cells #[.int .u8 0, .int .i64 0, .slice ko 0 kc, .string ⟨#[]⟩, .int .u32 0, .int .i64 0, .int .u64 0, .int .u64 0] 26)).alloc (.cells #[.int .u8 0, .int .i64 0, .slice none 0 0, .string ⟨#[]⟩, .int .u32 0, .int .i64 0, .int .u64 0, .int .u64 0] 26)) (fun i _ => 0)
  case atStart => exact ⟨rfl, rfl⟩
  case round =>
    obtain ⟨rfl, rfl⟩ := hrel
    go_wp2
    go_ret
    exact ⟨by simp [em0], HB.out⟩

theorem none_any (c : Cm) (ko : Option Addr) (kc : Nat) (w : World) (hlen : c.keys.length ≤ 9223372036854775807) :
    Calls Tryd.prog 26 #[.agg (c.arr (.slice ko c.keys.length kc))] w fun e w' => e = .returned (.bool c.isNone) ∧ Below w.heap.size w w' := by
  have HS := Hid.mk2 (fun W => samez_any c ko kc W hlen)
  have HB := Hid.mk2 (g_alloc w (.cells (c.arr (.slice ko c.keys.length kc)) 26))
  obtain ⟨R, hR⟩ : ∃ R, R = c.isNone := ⟨_, rfl⟩
  rw [← hR] at HS ⊢
  clear hR hlen
  obtain ⟨kind, tenant, keys, value, flags, life, unique, by_⟩ := c
  unfold Cm.arr cz at *
  dsimp only at *
  go_enter Tryd.func26, Tryd.ntmps26
  go_wp2_with (go_at_call 21; refine (HS.out _).mono ?_; rintro e w1 ⟨rfl, hb1⟩)
  go_ret
  exact ⟨rfl, g_on HB.out hb1⟩

theorem hasValue_any (k : Int) (w : World) : Calls Tryd.prog 25 #[.int .u8 k] w fun e w' => e = .returned (.bool (hasVal k)) ∧ w' = w := by
  by_cases h : k = 2 ∨ k = 3 ∨ k = 4 ∨ k = 5 ∨ k = 8
  · rcases h with rfl | rfl | rfl | rfl | rfl <;> (go_enter Tryd.func25, Tryd.ntmps25; go_wp2; go_ret; exact ⟨rfl, rfl⟩)
  · have e : hasVal k = false := by unfold hasVal; exact decide_eq_false h
    rw [e]
    have h2 : ¬ k = 2 := fun e => h (by omega)
    have h3 : ¬ k = 3 := fun e => h (by omega)
    have h4 : ¬ k = 4 := fun e => h (by omega)
    have h5 : ¬ k = 5 := fun e => h (by omega)
    have h8 : ¬ k = 8 := fun e => h (by omega)
    clear h e
    go_enter Tryd.func25, Tryd.ntmps25
    go_wp2
    go_ret
    exact ⟨rfl, rfl⟩

theorem fmt_any (n : Nat) (hn : n < 18446744073709551616) (w : World) (ht : Tab w) :
    Calls Tryd.prog 81 #[.int .u64 n, .int .i64 10] w fun e w' => e = .returned (.string (dec n)) ∧ Below w.heap.size w w' := by
  have HF := Hid.mk2 (formatUint_any n hn w ht)
  have e : dec n = ⟨(decL n).toArray⟩ := rfl
  rw [e]
  clear e
  obtain ⟨D, hD⟩ : ∃ D : ByteArray, D = ⟨(decL n).toArray⟩ := ⟨_, rfl⟩
  rw [← hD] at HF ⊢
  clear hD
  go_enter Tryd.func81, Tryd.ntmps81
  go_wp2_with (go_at_call 98; refine HF.out.mono ?_; rintro e w' ⟨rfl, k, os, rfl⟩)
  go_ret
  exact ⟨rfl, below_grow1 _ _ _⟩
theorem decI_any (n : Nat) (hn : n ≤ 9223372036854775807) (w : World) (ht : Tab w) :
    Calls Tryd.prog 52 #[.int .i64 n] w fun e w' => e = .returned (.string (dec n)) ∧ Below w.heap.size w w' := by
  have HF := Hid.mk2 (fmt_any n (by omega) w ht)
  obtain ⟨D, hD⟩ : ∃ D : ByteArray, D = dec n := ⟨_, rfl⟩
  rw [← hD] at HF ⊢
  have hn2 : (n : Int) ≤ 9223372036854775807 := by omega
  clear hD ht hn
  go_enter Tryd.func52, Tryd.ntmps52
  go_wp2_with (go_at_call 81; refine HF.out.mono ?_; rintro e w' ⟨rfl, hb⟩)
  go_ret
  exact ⟨rfl, hb⟩
theorem dec64_any (n : Nat) (hn : n < 18446744073709551616) (w : World) (ht : Tab w) :
    Calls Tryd.prog 61 #[.int .u64 n] w fun e w' => e = .returned (.string (dec n)) ∧ Below w.heap.size w w' := by
  have HF := Hid.mk2 (fmt_any n hn w ht)
  obtain ⟨D, hD⟩ : ∃ D : ByteArray, D = dec n := ⟨_, rfl⟩
  rw [← hD] at HF ⊢
  clear hD ht hn
  go_enter Tryd.func61, Tryd.ntmps61
  go_wp2_with (go_at_call 81; refine HF.out.mono ?_; rintro e w' ⟨rfl, hb⟩)
  go_ret
  exact ⟨rfl, hb⟩
theorem dec32_any (n : Nat) (hn : n < 4294967296) (w : World) (ht : Tab w) :
    Calls Tryd.prog 82 #[.int .u32 n] w fun e w' => e = .returned (.string (dec n)) ∧ Below w.heap.size w w' := by
  have HF := Hid.mk2 (fmt_any n (by omega) w ht)
  obtain ⟨D, hD⟩ : ∃ D : ByteArray, D = dec n := ⟨_, rfl⟩
  rw [← hD] at HF ⊢
  have hn2 : (n : Int) < 4294967296 := by omega
  clear hD ht hn
  go_enter Tryd.func82, Tryd.ntmps82
  go_wp2_with (go_at_call 81; refine HF.out.mono ?_; rintro e w' ⟨rfl, hb⟩)
  go_ret
  exact ⟨rfl, hb⟩
end Go.Proofs.YtldnkminhppngaaDoor
