/-
  Words that may be seen, keys, numbers up to so much; a command's done word: package words' and the document's.
-/
import Derived.Test.YtihcnjbnlcgcoaaDoorWoC
import Derived.Test.YtihcnjbnlcgcoaaDoorTxA
import Derived.Test.YtihcnjbnlcgcoaaDoorItNum
namespace Go.Proofs.YtihcnjbnlcgcoaaDoor
open Go.Proofs.YtihcnjbnlcgcoaaDoor.It
open Go.RowKit
set_option linter.unusedSimpArgs false
set_option linter.unusedVariables false
set_option maxRecDepth 100000

theorem idx_of (s : ByteArray) (k : Nat) (h : k < s.size) (h' : k < (bl s).length) (w : World) : (Instr.index 9 (.string s) (.int .i64 (k : Int))).run Tryd.prog w = .ok (.int .u8 ((bl s)[k].toNat : Int)) w := by
  rw [run_index_string w 9 s .i64 (k : Int) Tryd.underlying9, dif_pos ⟨by omega, by omega⟩]
  rfl
theorem seen_false {s : ByteArray} {k : Nat} (hk : k < (bl s).length) (h : seenB (bl s)[k] = false) : seen s = false := by
  unfold seen
  rw [List.all_eq_false]
  exact ⟨(bl s)[k], List.getElem_mem hk, by simp [h]⟩
theorem seen_true {s : ByteArray} (h : ∀ j (hj : j < (bl s).length), seenB (bl s)[j] = true) : seen s = true := by
  unfold seen
  rw [List.all_eq_true]
  intro x hx
  obtain ⟨j, hj, rfl⟩ := List.getElem_of_mem hx
  exact h j hj
theorem seenB_iff (c : UInt8) : seenB c = false ↔ (c.toNat < 33 ∨ 126 < c.toNat) := by
  unfold seenB
  simp
  omega

set_option maxHeartbeats 1000000 in
theorem wisSeen_any (s : ByteArray) (hs : s.size ≤ maxLen) (w : World) :
    Calls Tryd.prog 43 #[.string s] w fun e w' => e = .returned (.bool (seen s)) ∧ Below w.heap.size w w' := by
  have hcv := conv_str s
  have HR := Hid.mk2 (bsW_rd w s hs)
  have HB := Hid.mk2 (bsW_below w s)
  have hl := bl_len s
  have hm : (s.size : Int) ≤ 9223372036854775807 := by have h2 : maxLen ≤ 9223372036854775807 := by decide
                                                       omega
  have HF := Hid.mk2 (fun (k : Nat) (hk : k < (bl s).length) (h : seenB (bl s)[k] = false) => seen_false hk h)
  have HT := Hid.mk2 (@seen_true s)
  obtain ⟨R, hR⟩ : ∃ R, R = seen s := ⟨_, rfl⟩
  rw [← hR] at HF HT ⊢
  have HL := Hid.mk2 hl
  obtain ⟨W, hW⟩ : ∃ W, W = bsW w s := ⟨_, rfl⟩
  rw [← hW] at HR HB
  have hcw := hcv w
  rw [← hW] at hcw
  obtain ⟨C, hC⟩ : ∃ C, C = capS w s := ⟨_, rfl⟩
  rw [← hC] at hcw HR
  clear hcv hl hR hW hC
  go_enter Tryd.func43, Tryd.ntmps43
  go_wp2
  go_loopw [4, 8] (fun _ i wr => ∃ k : Nat, k ≤ s.size ∧ i = .int .i64 k ∧ wr = W ∧ Hid (∀ j (hj : j < (bl s).length), j < k → seenB (bl s)[j] = true)) (fun _ i _ => s.size - (intOf i).toNat)
  case atStart => exact ⟨0, Nat.zero_le _, rfl, rfl, fun _ _ h => absurd h (by omega)⟩
  case round =>
    obtain ⟨k, hk, rfl, rfl, HA⟩ := hrel
    have hl := HL.out
    by_cases hkl : k < s.size
    · have hkl2 : (k : Int) < (s.size : Int) := by omega
      have hkb : k < (bl s).length := by omega
      have hne : bl s ≠ [] := by intro e; rw [e] at hkb; simp at hkb
      obtain ⟨b, off, hbo, hbl, hcs⟩ := HR.out.uy hne
      have hbo2 := Option.some.inj hbo
      have e1 : b = w.heap.size := by have := congrArg Addr.block hbo2; exact this.symm
      have e2 : off = 0 := by have := congrArg Addr.off hbo2; exact this.symm
      subst e1 e2
      have r0 := hcs k hkb
      rw [Nat.zero_add] at r0
      obtain ⟨c, hc⟩ : ∃ c, c = (bl s)[k] := ⟨_, rfl⟩
      rw [← hc] at r0
      obtain ⟨q, hq⟩ : ∃ q : Nat, q = c.toNat := ⟨_, rfl⟩
      rw [← hq] at r0
      cases hb : seenB c
      · have e := HF.out k hkb (by rw [← hc]; exact hb)
        subst e
        have h33 := (seenB_iff c).1 hb
        rw [← hq] at h33
        by_cases h1 : q < 33
        · have h1' : (q : Int) < 33 := by omega
          clear HF HT HA hcs hne hc hb h33 hbo hbo2 hl HL hq
          go_wp2
          go_ret
          exact ⟨rfl, HB.out⟩
        · have h1' : ¬ (q : Int) < 33 := by omega
          have h2' : (126 : Int) < q := by omega
          clear HF HT HA hcs hne hc hb h33 hbo hbo2 hl HL hq
          go_wp2
          go_ret
          exact ⟨rfl, HB.out⟩
      · have HA2 : Hid (∀ j (hj : j < (bl s).length), j < k + 1 → seenB (bl s)[j] = true) := by
          intro j hj hjk
          by_cases e : j = k
          · subst e; rw [← hc]; exact hb
          · exact HA.out j hj (by omega)
        have h33 : ¬ (c.toNat < 33 ∨ 126 < c.toNat) := fun h => by rw [(seenB_iff c).2 h] at hb; cases hb
        rw [← hq] at h33
        have h1' : ¬ (q : Int) < 33 := by omega
        have h2' : ¬ (126 : Int) < q := by omega
        clear HF HT HA hcs hne hc hb h33 hbo hbo2 hl HL hq
        go_wp2
        go_roundw
        case rel => exact ⟨k + 1, by omega, by go_num, by first | rfl | trivial, HA2⟩
        case measure => simp [intOf]; omega
    · have e := HT.out (fun j hj => HA.out j hj (by omega))
      subst e
      have hkl2 : ¬ (k : Int) < (s.size : Int) := by omega
      clear HF HT HA HL hl
      go_wp2
      go_ret
      exact ⟨rfl, HB.out⟩

set_option maxHeartbeats 1000000 in
theorem plain_any (s : ByteArray) (m : Nat) (hs : s.size ≤ maxLen) (hm : m ≤ 1000) (w : World) :
    Calls Tryd.prog 52 #[.string s, .int .i64 m] w fun e w' => e = .returned (.bool (wordOk s m)) ∧ w' = w := by
  have hl := bl_len s
  have hmx : (s.size : Int) ≤ 9223372036854775807 := by have h2 : maxLen ≤ 9223372036854775807 := by decide
                                                        omega
  have HF := Hid.mk2 (fun (k : Nat) (hk : k < (bl s).length) (h : seenB (bl s)[k] = false) => show wordOk s m = false by unfold wordOk; rw [seen_false hk h]; simp)
  have HT := Hid.mk2 (fun h => show wordOk s m = (decide (0 < s.size) && decide (s.size ≤ m)) by unfold wordOk; rw [@seen_true s h]; simp)
  have hem : s.toList.isEmpty = !decide (0 < s.size) := by
    rw [ByteArray.toList_eq]
    show (bl s).isEmpty = _
    rw [← hl]
    cases bl s <;> simp
  obtain ⟨R, hR⟩ : ∃ R, R = wordOk s m := ⟨_, rfl⟩
  rw [← hR] at HF HT ⊢
  have HL := Hid.mk2 hl
  have HEM := Hid.mk2 hem
  clear hR hl hem
  go_enter Tryd.func52, Tryd.ntmps52
  go_wp2
  go_loopw [5] (fun i wr => ∃ k : Nat, k ≤ s.size ∧ i = .int .i64 k ∧ wr = w ∧ Hid (∀ j (hj : j < (bl s).length), j < k → seenB (bl s)[j] = true)) (fun i _ => s.size - (intOf i).toNat)
  case atStart => exact ⟨0, Nat.zero_le _, rfl, rfl, fun _ _ h => absurd h (by omega)⟩
  case round =>
    obtain ⟨k, hk, rfl, rfl, HA⟩ := hrel
    have hl := HL.out
    by_cases hkl : k < s.size
    · have hkl2 : (k : Int) < (s.size : Int) := by omega
      have hkb : k < (bl s).length := by omega
      have hx := idx_of s k hkl hkb
      obtain ⟨c, hc⟩ : ∃ c, c = (bl s)[k] := ⟨_, rfl⟩
      rw [← hc] at hx
      obtain ⟨q, hq⟩ : ∃ q : Nat, q = c.toNat := ⟨_, rfl⟩
      rw [← hq] at hx
      cases hb : seenB c
      · have e := HF.out k hkb (by rw [← hc]; exact hb)
        subst e
        have h33 := (seenB_iff c).1 hb
        rw [← hq] at h33
        by_cases h1 : q < 33
        · have h1' : (q : Int) < 33 := by omega
          clear HF HT HA hc hb h33 hl HL hq HEM
          go_wp2
          go_ret
          exact ⟨rfl, rfl⟩
        · have h1' : ¬ (q : Int) < 33 := by omega
          have h2' : (126 : Int) < q := by omega
          clear HF HT HA hc hb h33 hl HL hq HEM
          go_wp2
          go_ret
          exact ⟨rfl, rfl⟩
      · have HA2 : Hid (∀ j (hj : j < (bl s).length), j < k + 1 → seenB (bl s)[j] = true) := by
          intro j hj hjk
          by_cases e : j = k
          · subst e; rw [← hc]; exact hb
          · exact HA.out j hj (by omega)
        have h33 : ¬ (c.toNat < 33 ∨ 126 < c.toNat) := fun h => by rw [(seenB_iff c).2 h] at hb; cases hb
        rw [← hq] at h33
        have h1' : ¬ (q : Int) < 33 := by omega
        have h2' : ¬ (126 : Int) < q := by omega
        clear HF HT HA hc hb h33 hl HL hq HEM
        go_wp2
        go_roundw
        case rel => exact ⟨k + 1, by omega, by go_num, by first | rfl | trivial, HA2⟩
        case measure => simp [intOf]; omega
    · have e := HT.out (fun j hj => HA.out j hj (by omega))
      have hkl2 : ¬ (k : Int) < (s.size : Int) := by omega
      have hem := HEM.out
      clear HF HT HA HL hl HEM
      by_cases h0 : 0 < s.size
      · rw [decide_eq_true h0] at hem e
        have hem2 : s.toList.isEmpty = false := hem
        have e2 : R = decide ((s.size : Int) ≤ (m : Int)) := by rw [e]; simp
        clear hem e h0
        subst e2
        go_wp2
        go_ret
        exact ⟨by simp, rfl⟩
      · rw [decide_eq_false h0] at hem e
        have hem2 : s.toList.isEmpty = true := hem
        have e2 : R = false := by rw [e]; simp
        clear hem e h0
        subst e2
        go_wp2
        go_ret
        exact ⟨by simp, rfl⟩


theorem wisKey_any (s : ByteArray) (hs : s.size ≤ maxLen) (w : World) : Calls Tryd.prog 65 #[.string s] w fun e w' => e = .returned (.bool (wordOk s 32)) ∧ Below w.heap.size w w' := by
  have HS := Hid.mk2 (wisSeen_any s hs w)
  have hsz : (s.size : Int) ≤ 9223372036854775807 := by have e : maxLen = 9223372036854775807 := rfl; omega
  have hs0 : (0 : Int) ≤ (s.size : Int) := by omega
  unfold wordOk
  obtain ⟨R, hR⟩ : ∃ R, R = seen s := ⟨_, rfl⟩
  rw [← hR] at HS ⊢
  clear hR hs
  by_cases h0 : 0 < s.size
  · have h0i : (0 : Int) < (s.size : Int) := by omega
    rw [decide_eq_true h0]
    by_cases h1 : s.size ≤ 32
    · have h1i : (s.size : Int) ≤ 32 := by omega
      rw [decide_eq_true h1]
      clear h0 h1
      go_enter Tryd.func65, Tryd.ntmps65
      go_wp2_with (go_at_call 43; refine HS.out.mono ?_; rintro e w1 ⟨rfl, hb⟩)
      go_ret
      exact ⟨rfl, hb⟩
    · have h1i : ¬ (s.size : Int) ≤ 32 := by omega
      rw [decide_eq_false h1]
      clear h0 h1
      go_enter Tryd.func65, Tryd.ntmps65
      go_wp2
      go_ret
      exact ⟨rfl, Below.refl _ _⟩
  · have h0i : ¬ (0 : Int) < (s.size : Int) := by omega
    rw [decide_eq_false h0]
    clear h0
    go_enter Tryd.func65, Tryd.ntmps65
    go_wp2
    go_ret
    exact ⟨rfl, Below.refl _ _⟩
/-- a number's word, up to m -/
def numU (m : Nat) (s : ByteArray) : Bool := isNum (bl s) && decide (numV (bl s) ≤ m)
theorem wnumberUpTo_any (m : Nat) (hm : m < 18446744073709551616) (s : ByteArray) (w : World) : Calls Tryd.prog 67 #[.int .u64 (m : Int), .string s] w fun e w' => e = .returned (.tuple #[.int .u64 (numV (bl s) : Int), .bool (numU m s)]) ∧ Below w.heap.size w w' := by
  have HN := Hid.mk2 (number_any s w)
  unfold numU
  obtain ⟨n, hn⟩ : ∃ n, n = numV (bl s) := ⟨_, rfl⟩
  obtain ⟨R, hR⟩ : ∃ R, R = isNum (bl s) := ⟨_, rfl⟩
  rw [← hn, ← hR] at HN ⊢
  clear hn hR
  cases R with
  | false =>
    go_enter Tryd.func67, Tryd.ntmps67
    go_wp2_with (go_at_call 82; refine HN.out.mono ?_; rintro e w1 ⟨rfl, hw⟩; have HB1 : Hid (Below w.heap.size w w1) := (by obtain ⟨pos, rfl⟩ := hw; exact (Below.refl _ _).alloc (Nat.le_refl _) _); clear hw)
    refine bodyPost_ret (results_tmp2 rfl _ _ _) rfl ?_
    exact ⟨rfl, HB1.out⟩
  | true =>
    by_cases hl : n ≤ m
    · have hli : (n : Int) ≤ (m : Int) := by omega
      rw [decide_eq_true hl]
      clear hl
      go_enter Tryd.func67, Tryd.ntmps67
      go_wp2_with (go_at_call 82; refine HN.out.mono ?_; rintro e w1 ⟨rfl, hw⟩; have HB1 : Hid (Below w.heap.size w w1) := (by obtain ⟨pos, rfl⟩ := hw; exact (Below.refl _ _).alloc (Nat.le_refl _) _); clear hw)
      refine bodyPost_ret (results_tmp2 rfl _ _ _) rfl ?_
      exact ⟨rfl, HB1.out⟩
    · have hli : ¬ (n : Int) ≤ (m : Int) := by omega
      have hld := decide_eq_false hl
      go_enter Tryd.func67, Tryd.ntmps67
      go_wp2_with (go_at_call 82; refine HN.out.mono ?_; rintro e w1 ⟨rfl, hw⟩; have HB1 : Hid (Below w.heap.size w w1) := (by obtain ⟨pos, rfl⟩ := hw; exact (Below.refl _ _).alloc (Nat.le_refl _) _); clear hw)
      refine bodyPost_ret (results_tmp2 rfl _ _ _) rfl ?_
      exact ⟨by first | rfl | simp [hl], HB1.out⟩
/-- an item whose key has no line -/
theorem wputSeen_en : ∀ args w, (callFunc 45 args).run Tryd.prog w = .ok (.enter 45 args) w := enters_of Tryd.func45 (by kernel_rfl) rfl
theorem whasNoLine_any (x : Im) (hs : x.key.size ≤ maxLen) (w : World) : Calls Tryd.prog 45 #[.agg #[.string x.key, .string x.value, .int .u32 x.flags, .int .i64 x.till, .int .u64 x.unique]] w fun e w' => e = .returned (.bool (!seen x.key)) ∧ Below w.heap.size w w' := by
  have HS := Hid.mk2 (fun V => wisSeen_any x.key hs V)
  obtain ⟨R, hR⟩ : ∃ R, R = seen x.key := ⟨_, rfl⟩
  rw [← hR] at HS ⊢
  clear hR
  go_enter Tryd.func45, Tryd.ntmps45
  go_wp2_with (go_at_call 43; refine (HS.out _).mono ?_; rintro e w1 ⟨rfl, hb⟩)
  go_ret
  exact ⟨rfl, g_behind hb⟩
end Go.Proofs.YtihcnjbnlcgcoaaDoor
