/-
  (shaken)
-/
import Derived.Test.YtfjcaofmcjhdpaaSmall
namespace Go.Proofs.Ytfjcaofmcjhdpaa
open Go.RowKit
set_option linter.unusedSimpArgs false
set_option linter.unusedVariables false
set_option maxRecDepth 100000

/-- what the loop of Read knows behind k bytes -/
def Led (l : List UInt8) (k n : Nat) : Prop := k ≤ 10 ∧ k ≤ l.length ∧ (∀ j (h : j < l.length), j < k → 128 ≤ l[j].toNat) ∧ n = val (l.take k)
theorem Led.start (l : List UInt8) : Led l 0 0 := ⟨by omega, by omega, fun j h1 h2 => absurd h2 (by omega), by simp [val]⟩
theorem Led.lt {l : List UInt8} {k n : Nat} (h : Led l k n) : n < 128 ^ k := by
  have := val_lt (l.take k)
  rw [List.length_take, Nat.min_eq_left h.2.1] at this
  rw [h.2.2.2]; exact this
theorem val_take_succ {l : List UInt8} {k : Nat} (hk : k < l.length) : val (l.take (k + 1)) = val (l.take k) + l[k].toNat % 128 * 128 ^ k := by
  rw [List.take_succ_eq_append_getElem hk, val_snoc, List.length_take, Nat.min_eq_left (by omega)]
theorem Led.step {l : List UInt8} {k n : Nat} (h : Led l k n) (hk : k < 10) (hl : k < l.length) (hx : 128 ≤ l[k].toNat) : Led l (k + 1) (n + l[k].toNat % 128 * 128 ^ k) := by
  refine ⟨by omega, by omega, fun j h1 h2 => ?_, ?_⟩
  · by_cases e : j = k
    · subst e; exact hx
    · exact h.2.2.1 j h1 (by omega)
  · rw [val_take_succ hl, ← h.2.2.2]
theorem Led.ends {l : List UInt8} {k n : Nat} (h : Led l k n) (hk : ¬ (k < 10 ∧ k < l.length)) : readL l = none := by
  have := lead_ge l k h.2.1 h.2.2.1
  have h1 := h.1; have h2 := h.2.1
  unfold readL
  rw [if_neg (by omega)]
theorem Led.over {l : List UInt8} {k n : Nat} (h : Led l k n) (hk : k < 10) (hl : k < l.length) (hf : fits7 (l[k].toNat % 128) k = false) : readL l = none := by
  obtain ⟨rfl, hy⟩ := (fits7_iff _ k (by omega) hk).1 hf
  unfold readL
  by_cases hx : 128 ≤ l[9].toNat
  · have := lead_ge l 10 (by omega) (fun j h1 h2 => by
      by_cases e : j = 9
      · subst e; exact hx
      · exact h.2.2.1 j h1 (by omega))
    rw [if_neg (by omega)]
  · have := lead_eq l 9 hl h.2.2.1 (by omega)
    rw [if_neg]
    rw [this]
    rintro ⟨_, _, h3, _⟩
    exact h3 ⟨rfl, by simp [hl]; omega⟩
theorem Led.zero {l : List UInt8} {k n : Nat} (h : Led l k n) (hk : k < 10) (hl : k < l.length) (h0 : 0 < k) (hx : l[k].toNat = 0) : readL l = none := by
  have := lead_eq l k hl h.2.2.1 (by omega)
  unfold readL
  rw [if_neg]
  rw [this]
  rintro ⟨_, _, _, h4⟩
  exact h4 ⟨h0, by simp [hl, hx]⟩
theorem Led.done {l : List UInt8} {k n : Nat} (h : Led l k n) (hk : k < 10) (hl : k < l.length) (hf : fits7 (l[k].toNat % 128) k = true) (hx : l[k].toNat < 128) (h0 : ¬ (0 < k ∧ l[k].toNat = 0)) :
    readL l = some (n + l[k].toNat % 128 * 128 ^ k, k + 1) := by
  have hle := lead_eq l k hl h.2.2.1 hx
  have h9 : ¬ (k = 9 ∧ 2 ≤ l[k].toNat % 128) := fun e => by have := (fits7_iff _ k (by omega) hk).2 e; rw [hf] at this; cases this
  unfold readL
  rw [hle, if_pos, val_take_succ hl, ← h.2.2.2]
  refine ⟨hl, hk, ?_, ?_⟩
  · rintro ⟨rfl, h2⟩
    have : 1 < l[9].toNat := by simpa [hl] using h2
    omega
  · rintro ⟨h1, h2⟩
    exact h0 ⟨h1, by simpa [hl] using h2⟩

theorem ret_read_none {l : List UInt8} (h : readL l = none) :
    Ending.returned (.tuple #[.int .u64 0, .int .i64 0, .int .i64 8]) = .returned (.tuple #[.int .u64 (readN l), .int .i64 (readK l), .int .i64 (readE l)]) := by
  obtain ⟨e1, e2, e3⟩ := read_none h
  rw [e1, e2, e3]; rfl
theorem ret_read_some {l : List UInt8} {n k : Nat} {a c : Int} (h : readL l = some (n, k)) (ha : a = n) (hc : c = k) :
    Ending.returned (.tuple #[.int .u64 a, .int .i64 c, .int .i64 0]) = .returned (.tuple #[.int .u64 (readN l), .int .i64 (readK l), .int .i64 (readE l)]) := by
  obtain ⟨e1, e2, e3⟩ := read_some h
  rw [e1, e2, e3, ha, hc]

theorem read_row (w : World) (b off : Nat) (l : List UInt8) (cap : Nat) (hcap : l.length ≤ cap) (hl0 : 0 < l.length) (hm : l.length ≤ maxLen) (hc : ∀ j (hj : j < l.length), w.cell? ⟨b, off + j, none⟩ = some (bcell l[j])) :
    Calls Try.prog 56 #[.slice (some ⟨b, off, none⟩) l.length cap] w fun e w' => e = .returned (.tuple #[.int .u64 (readN l), .int .i64 (readK l), .int .i64 (readE l)]) ∧ w = w' := by
  unfold maxLen at hm
  have HC : Hid (∀ j (hj : j < l.length), w.cell? ⟨b, off + j, none⟩ = some (bcell l[j])) := hc
  clear hc
  by_cases hq : (10 : Int) < (l.length : Int)
  all_goals
    go_enter Try.func56, Try.ntmps56
    go_wp2
    go_loop [5, 16] (fun n i => ∃ k n' : Nat, Led l k n' ∧ i = .int .i64 k ∧ n = .int .u64 n') (fun _ i => 10 - (intOf i).toNat)
    case atStart => exact ⟨0, 0, Led.start l, rfl, rfl⟩
    case round =>
      obtain ⟨k, n, hled, rfl, rfl⟩ := hrel
      have hk10 : k ≤ 10 := hled.1
      have hkl : k ≤ l.length := hled.2.1
      have HN : Hid (n < 128 ^ k) := hled.lt
      have HL : Hid (Led l k n) := hled
      clear hled
      by_cases hlt : k < 10 ∧ k < l.length
      · obtain ⟨hk9, hkl2⟩ := hlt
        have hx : w.cell? ⟨b, off + k, none⟩ = some (.int .u8 (l[k].toNat : Int)) := HC.out k (by omega)
        obtain ⟨x, hxe⟩ : ∃ x : Nat, x = l[k].toNat := ⟨_, rfl⟩
        rw [← hxe] at hx
        have hx2 : x < 256 := by rw [hxe]; exact UInt8.toNat_lt _
        obtain ⟨y, hye⟩ : ∃ y : Nat, y = x % 128 := ⟨_, rfl⟩
        have hA : bits BinOp.andNot IntKind.u8 (x : Int) 128 = (y : Int) := by rw [andNot128 x hx2, hye]
        have hy2 : y < 128 := by omega
        have HX : Hid (x = l[k].toNat) := hxe
        have HY : Hid (y = x % 128) := hye
        clear hxe hye
        by_cases hf : fits7 y k = true
        · obtain ⟨z, hze⟩ : ∃ z : Nat, z = y * 128 ^ k := ⟨_, rfl⟩
          have hS : IntKind.u64.wrap ((y : Int) * 2 ^ (7 * k)) = (z : Int) := by rw [shl_form y k hf, hze]
          have hR : (z : Int) / 2 ^ (7 * k) = (y : Int) := by rw [hze, shr_form y k]
          have hO : bits BinOp.or IntKind.u64 (n : Int) (z : Int) = ((n + z : Nat) : Int) := by rw [hze, or_form n y k hk9 HN.out hf]
          have HZ : Hid (z = y * 128 ^ k) := hze
          have HF : Hid (fits7 y k = true) := hf
          clear hze hf
          by_cases hx8 : (128 : Int) ≤ (x : Int)
          · go_wp2
            go_round
            case rel => exact ⟨k + 1, n + z, by rw [HZ.out, HY.out, HX.out]; exact HL.out.step hk9 hkl2 (by rw [← HX.out]; omega), by go_num, by go_num⟩
            case measure => simp [intOf]; omega
          · have hx9 : (x : Int) < 128 := by omega
            by_cases hx0 : x = 0
            · have HX0 : Hid (x = 0) := hx0
              have hxi : ((x : Int) == 0) = true := by simp [hx0]
              clear hx0
              by_cases hk0 : (0 : Int) < (k : Int)
              · have HE : Hid (readL l = none) := HL.out.zero hk9 hkl2 (by omega) (by rw [← HX.out]; exact HX0.out)
                go_wp2
                all_goals
                  go_ret3
                  exact ⟨ret_read_none HE.out, rfl⟩
              · have HE : Hid (readL l = some (n + z, k + 1)) := by
                  show readL l = some (n + z, k + 1)
                  rw [HZ.out, HY.out, HX.out]
                  exact HL.out.done hk9 hkl2 (by rw [← HX.out, ← HY.out]; exact HF.out) (by rw [← HX.out]; omega) (by omega)
                have hd : decide ((0 : Int) < (k : Int)) = false := by simpa using hk0
                go_wp2
                all_goals
                  go_ret3
                  exact ⟨ret_read_some HE.out (by simp) (by simp), rfl⟩
            · have HX0 : Hid (¬ x = 0) := hx0
              have hxi : ((x : Int) == 0) = false := by simp [hx0]
              clear hx0
              have HE : Hid (readL l = some (n + z, k + 1)) := by
                show readL l = some (n + z, k + 1)
                rw [HZ.out, HY.out, HX.out]
                exact HL.out.done hk9 hkl2 (by rw [← HX.out, ← HY.out]; exact HF.out) (by rw [← HX.out]; omega) (by rw [← HX.out]; exact fun e => HX0.out e.2)
              go_wp2
              all_goals
                go_ret3
                exact ⟨ret_read_some HE.out (by simp) (by simp), rfl⟩
        · have hff : fits7 y k = false := by simpa using hf
          clear hf
          have hT := over_form y k hy2 hk9 hff
          have HE : Hid (readL l = none) := HL.out.over hk9 hkl2 (by rw [← HX.out, ← HY.out]; exact hff)
          clear hff
          go_wp2
          go_ret3
          exact ⟨ret_read_none HE.out, rfl⟩
      · have HE : Hid (readL l = none) := HL.out.ends hlt
        go_wp2
        go_ret3
        exact ⟨ret_read_none HE.out, rfl⟩

/-- Read of no bytes -/
theorem read_empty (w : World) (ao : Option Addr) (cap : Nat) :
    Calls Try.prog 56 #[.slice ao 0 cap] w fun e w' => e = .returned (.tuple #[.int .u64 (readN []), .int .i64 (readK []), .int .i64 (readE [])]) ∧ w = w' := by
  go_enter Try.func56, Try.ntmps56
  go_wp2
  refine wp_loop_rounds 1 ?_
  rw [rounds_succ]
  go_wp2
  go_ret3
  exact ⟨ret_read_none rfl, rfl⟩

theorem read_any (w : World) (B : Nat) (ao : Option Addr) (l : List UInt8) (cap : Nat) (hcap : l.length ≤ cap) (hm : l.length ≤ maxLen) (h : BsAt w B ao l) :
    Calls Try.prog 56 #[.slice ao l.length cap] w fun e w' => e = .returned (.tuple #[.int .u64 (readN l), .int .i64 (readK l), .int .i64 (readE l)]) ∧ w = w' := by
  rcases h with rfl | ⟨b, off, rfl, _, hc⟩
  · exact read_empty w ao cap
  · by_cases hl : l.length = 0
    · have : l = [] := List.eq_nil_of_length_eq_zero hl
      subst this
      exact read_empty w _ cap
    · exact read_row w b off l cap hcap (by omega) hm hc
end Go.Proofs.Ytfjcaofmcjhdpaa
