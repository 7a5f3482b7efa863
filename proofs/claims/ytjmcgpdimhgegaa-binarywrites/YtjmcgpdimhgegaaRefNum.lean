/-
  (shaken)
-/
import Derived.Test.YtjmcgpdimhgegaaCut
namespace Go.Proofs.Ytjmcgpdimhgegaa
open Go.RowKit
set_option linter.unusedSimpArgs false
set_option linter.unusedVariables false
set_option maxRecDepth 100000

theorem on_byte (m : Nat) : (m : Int) % 128 + 128 = ((UInt8.ofNat (m % 128 + 128)).toNat : Int) := by
  have : (UInt8.ofNat (m % 128 + 128)).toNat = m % 128 + 128 := by simp; omega
  rw [this]; omega

theorem refSmall_any (n : Nat) (w : World) (hn : Fits n) :
    Calls Try.prog 29 #[.int .u64 n] w fun e w' => ∃ v', e = .returned v' ∧ Own w' w.heap.size v' (small n) ∧ Below w.heap.size w w' := by
  have hsl := small_len n
  go_enter Try.func29, Try.ntmps29
  go_wp2
  go_loopw [0, 3] (fun i u wr => ∃ (m : Nat) (p : List UInt8), Fits m ∧ i = .int .u64 m ∧ p ++ small m = small n ∧ Own wr w.heap.size u p ∧ Grew w wr (.slice none 0 0) u) (fun i _ _ => (intOf i).toNat)
  case atStart => exact ⟨n, [], hn, rfl, rfl, Own.nil _ _, Grew.refl _ _⟩
  case round =>
    obtain ⟨m, p, hm, rfl, hp, ho, hg⟩ := hrel
    have hpl : p.length + (small m).length ≤ 10 := by rw [← List.length_append, hp]; exact hsl
    have hbr : w.heap.size ≤ wr.heap.size := hg.grown.size
    have hlp : p.length + 1 ≤ 140737488355328 := by omega
    have HP : Hid (p ++ small m = small n) := hp
    clear hp hsl hpl hn
    by_cases hlt : 128 ≤ m
    · have HM : Hid (Fits m) := hm
      have hMi : (m : Int) ≤ 18446744073709551615 := by have : m < 18446744073709551616 := hm
                                                        omega
      clear hm
      go_wp2_with (at_builtin; refine app_one (w0 := wr) rfl (.tmp 6) (.tmp 11) rfl w.heap.size _ _ ho rfl _ _ (on_byte m) rfl rfl hlp hbr ?_; intro v1 w1 ho1 hg1)
      have hM : m < 18446744073709551616 := HM.out
      go_roundw
      case rel => exact ⟨m / 128, p ++ [UInt8.ofNat (m % 128 + 128)], by unfold Fits; omega, by go_num, by rw [← HP.out, small_ge hlt hM]; simp, ho1, hg.trans hg1⟩
      case measure => simp [intOf]; omega
    · have h0 : (m : Int) < 128 := by omega
      go_wp2_with (at_builtin; refine app_one (w0 := wr) rfl (.tmp 15) (.tmp 18) rfl w.heap.size _ _ ho rfl _ _ (last_byte m (by omega)) rfl rfl hlp hbr ?_; intro v1 w1 ho1 hg1)
      go_ret
      exact ⟨_, rfl, by rw [← HP.out, small_lt (by omega)]; exact ho1, (hg.trans hg1).below_nil⟩

theorem refText_any (s : ByteArray) (w : World) (hs : s.size ≤ 100000000) :
    Calls Try.prog 28 #[.string s] w fun e w' => ∃ v', e = .returned v' ∧ Own w' w.heap.size v' (text s.data.toList) ∧ Below w.heap.size w w' := by
  have hsl := small_len s.size
  go_enter Try.func28, Try.ntmps28
  go_wp2_with (first
    | (go_at_call 29; refine (refSmall_any s.size w (fits_size s hs)).mono ?_; rintro e w1 ⟨v1, rfl, ho1, hb1⟩)
    | (at_builtin; refine app_text rfl (.tmp 6) (.tmp 7) rfl w.heap.size _ _ ho1 rfl s rfl (by omega) hb1.size ?_; intro v2 w2 ho2 hg2))
  go_ret
  exact ⟨_, rfl, by simpa [text] using ho2, hb1.trans (hg2.below ho1 hb1.size)⟩

end Go.Proofs.Ytjmcgpdimhgegaa
