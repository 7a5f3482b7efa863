/-
  The document's row, word and plain of answers.
-/
import Derived.Test.YtfmpbddhejpjaaaDoorWpN
import Derived.Test.YtfmpbddhejpjaaaDoorWoV
namespace Go.Proofs.YtfmpbddhejpjaaaDoor
open Go.Proofs.YtfmpbddhejpjaaaDoor.It
open Go.RowKit
set_option linter.unusedSimpArgs false
set_option linter.unusedVariables false
set_option maxRecDepth 100000

/-- the document's row of words of what commands did -/
def rowW (o : Int) : ByteArray := if o < 1 then ⟨#[]⟩ else doneW o
set_option maxHeartbeats 1000000 in
theorem plain2_any (s : ByteArray) (m : Nat) (hs : s.size ≤ maxLen) (hm : m ≤ 3000) (w : World) :
    Calls Tryd.prog 52 #[.string s, .int .i64 m] w fun e w' => e = .returned (.bool (wordOk s m)) ∧ w' = w := by
  have hl := bl_len s
  have hmx : (s.size : Int) ≤ 9223372036854775807 := by have h2 : maxLen ≤ 9223372036854775807 := by decide
                                                        omega
  have HF := Hid.mk2 (fun (k : Nat) (hk : k < (bl s).length) (h : seenB (bl s)[k] = false) => show wordOk s m = false by unfold wordOk; rw [seen_false hk h]; simp)
  have HT := Hid.mk2 (fun h => show wordOk s m = (decide (0 < s.size) && decide (s.size ≤ m)) by unfold wordOk; rw [@seen_true s h]; simp)
  have hem : s.toList.isEmpty = !decide (0 < s.size) := by
    rw [ByteArray.toList_eq]
    show (bl s).isEmpty = _
    rw [← hl]
    cases bl s <;> simp
  obtain ⟨R, hR⟩ : ∃ R, R = wordOk s m := ⟨_, rfl⟩
  rw [← hR] at HF HT ⊢
  have HL := Hid.mk2 hl
  have HEM := Hid.mk2 hem
  clear hR hl hem
  go_enter Tryd.func52, Tryd.ntmps52
  go_wp2
  go_loopw [5] (fun i wr => ∃ k : Nat, k ≤ s.size ∧ i = .int .i64 k ∧ wr = w ∧ Hid (∀ j (hj : j < (bl s).length), j < k → seenB (bl s)[j] = true)) (fun i _ => s.size - (intOf i).toNat)
  case atStart => exact ⟨0, Nat.zero_le _, rfl, rfl, fun _ _ h => absurd h (by omega)⟩
  case round =>
    obtain ⟨k, hk, rfl, rfl, HA⟩ := hrel
    have hl := HL.out
    by_cases hkl : k < s.size
    · have hkl2 : (k : Int) < (s.size : Int) := by omega
      have hkb : k < (bl s).length := by omega
      have hx := idx_of s k hkl hkb
      obtain ⟨c, hc⟩ : ∃ c, c = (bl s)[k] := ⟨_, rfl⟩
      rw [← hc] at hx
      obtain ⟨q, hq⟩ : ∃ q : Nat, q = c.toNat := ⟨_, rfl⟩
      rw [← hq] at hx
      cases hb : seenB c
      · have e := HF.out k hkb (by rw [← hc]; exact hb)
        subst e
        have h33 := (seenB_iff c).1 hb
        rw [← hq] at h33
        by_cases h1 : q < 33
        · have h1' : (q : Int) < 33 := by omega
          clear HF HT HA hc hb h33 hl HL hq HEM
          go_wp2
          go_ret
          exact ⟨rfl, rfl⟩
        · have h1' : ¬ (q : Int) < 33 := by omega
          have h2' : (126 : Int) < q := by omega
          clear HF HT HA hc hb h33 hl HL hq HEM
          go_wp2
          go_ret
          exact ⟨rfl, rfl⟩
      · have HA2 : Hid (∀ j (hj : j < (bl s).length), j < k + 1 → seenB (bl s)[j] = true) := by
          intro j hj hjk
          by_cases e : j = k
          · subst e; rw [← hc]; exact hb
          · exact HA.out j hj (by omega)
        have h33 : ¬ (c.toNat < 33 ∨ 126 < c.toNat) := fun h => by rw [(seenB_iff c).2 h] at hb; cases hb
        rw [← hq] at h33
        have h1' : ¬ (q : Int) < 33 := by omega
        have h2' : ¬ (126 : Int) < q := by omega
        clear HF HT HA hc hb h33 hl HL hq HEM
        go_wp2
        go_roundw
        case rel => exact ⟨k + 1, by omega, by go_num, by first | rfl | trivial, HA2⟩
        case measure => simp [intOf]; omega
    · have e := HT.out (fun j hj => HA.out j hj (by omega))
      have hkl2 : ¬ (k : Int) < (s.size : Int) := by omega
      have hem := HEM.out
      clear HF HT HA HL hl HEM
      by_cases h0 : 0 < s.size
      · rw [decide_eq_true h0] at hem e
        have hem2 : s.toList.isEmpty = false := hem
        have e2 : R = decide ((s.size : Int) ≤ (m : Int)) := by rw [e]; simp
        clear hem e h0
        subst e2
        go_wp2
        go_ret
        exact ⟨by simp, rfl⟩
      · rw [decide_eq_false h0] at hem e
        have hem2 : s.toList.isEmpty = true := hem
        have e2 : R = false := by rw [e]; simp
        clear hem e h0
        subst e2
        go_wp2
        go_ret
        exact ⟨by simp, rfl⟩



theorem seen_nil {s : ByteArray} (h : s.size = 0) : seen s = true := by
  have : bl s = [] := by have := bl_len s; cases hb : bl s with | nil => rfl | cons a l => rw [hb] at this; simp at this; omega
  unfold seen; rw [this]; rfl
set_option maxHeartbeats 2000000 in
theorem rplain15_any (s : ByteArray) (hs : s.size ≤ 2000) (w : World) : Calls Tryd.prog 30 #[.string s] w fun e w' => e = .returned (.bool (seen s)) ∧ w' = w := by
  have hm : s.size ≤ maxLen := by have h2 : maxLen = 9223372036854775807 := rfl
                                  omega
  have HP := Hid.mk2 (plain2_any s 2000 hm (by decide) w)
  by_cases h0 : s.size = 0
  · have hE : s.toList = [] := by have := memp s; rw [decide_eq_true h0] at this; exact List.isEmpty_iff.1 this
    have HS : Hid (seen s = true) := seen_nil h0
    obtain ⟨S, hS⟩ : ∃ S, S = seen s := ⟨_, rfl⟩
    rw [← hS] at HS ⊢
    clear h0 hs hm HP hS
    go_enter Tryd.func30, Tryd.ntmps30
    go_wp2
    go_ret
    exact ⟨by rw [HS.out]; rfl, rfl⟩
  · have hE0 := memp s
    rw [decide_eq_false h0] at hE0
    have hE : ¬ s.toList = [] := fun e => by rw [e] at hE0; cases hE0
    have HE0 := Hid.mk2 hE0
    clear hE0
    have HS : Hid (wordOk s 2000 = seen s) := by
      show _ = _
      unfold wordOk
      rw [decide_eq_true (by omega : 0 < s.size), decide_eq_true hs]; rfl
    obtain ⟨S, hS⟩ : ∃ S, S = seen s := ⟨_, rfl⟩
    rw [← hS] at HS ⊢
    rw [HS.out] at HP
    clear h0 hs hm HS hS
    go_enter Tryd.func30, Tryd.ntmps30
    go_wp2_with (go_at_call 52; refine (HP.out).mono ?_; rintro e w1 ⟨rfl, rfl⟩)
    go_ret
    exact ⟨by show Ending.returned (.bool (s.toList.isEmpty || S)) = _; rw [HE0.out]; rfl, rfl⟩

set_option maxHeartbeats 4000000 in
theorem rrow15_any (o : Int) (h0 : 0 ≤ o) (h1 : o < 12) (w : World) : Calls Tryd.prog 55 #[.int .u8 o] w fun e w' => e = .returned (.string (rowW o)) ∧ Below w.heap.size w w' := by
  have hc : o = 0 ∨ o = 1 ∨ o = 2 ∨ o = 3 ∨ o = 4 ∨ o = 5 ∨ o = 6 ∨ o = 7 ∨ o = 8 ∨ o = 9 ∨ o = 10 ∨ o = 11 := by omega
  clear h0 h1
  rcases hc with rfl | rfl | rfl | rfl | rfl | rfl | rfl | rfl | rfl | rfl | rfl | rfl
  all_goals
    go_enter Tryd.func55, Tryd.ntmps55
    go_wp2
    go_ret
    exact ⟨rfl, (Below.refl _ _).alloc (Nat.le_refl _) _⟩

set_option maxHeartbeats 4000000 in
theorem rword15_any (o : Int) (h0 : 0 ≤ o) (h1 : o < 8) (w : World) : Calls Tryd.prog 53 #[.int .u8 o] w fun e w' => e = .returned (.string (resW o)) ∧ Below w.heap.size w w' := by
  have hc : o = 0 ∨ o = 1 ∨ o = 2 ∨ o = 3 ∨ o = 4 ∨ o = 5 ∨ o = 6 ∨ o = 7 := by omega
  clear h0 h1
  rcases hc with rfl | rfl | rfl | rfl | rfl | rfl | rfl | rfl
  all_goals
    go_enter Tryd.func53, Tryd.ntmps53
    go_wp2
    go_ret
    exact ⟨rfl, (Below.refl _ _).alloc (Nat.le_refl _) _⟩

end Go.Proofs.YtfmpbddhejpjaaaDoor
