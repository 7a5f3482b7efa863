/-
  (shaken)
-/
import Derived.Test.YtfjcaofmcjhdpaaMem
namespace Go.Proofs.Ytfjcaofmcjhdpaa
open Go.RowKit
set_option linter.unusedSimpArgs false
set_option linter.unusedVariables false
set_option maxRecDepth 100000

theorem addSmall_any (base : Nat) (v : Value) (l : List UInt8) (n : Nat) (w : World) (hown : Own w base v l) (hbase : base ≤ w.heap.size) (hn : Fits n) (hl : l.length ≤ 100000000) :
    Calls Try.prog 54 #[v, .int .u64 n] w fun e w' => ∃ v', e = .returned v' ∧ Own w' base v' (l ++ small n) ∧ Grew w w' v v' := by
  have hsl := small_len n
  go_enter Try.func54, Try.ntmps54
  go_wp2
  go_loopw [0, 1] (fun u i wr => ∃ (m : Nat) (p : List UInt8), Fits m ∧ i = .int .u64 m ∧ p ++ small m = small n ∧ Own wr base u (l ++ p) ∧ Grew w wr v u) (fun _ i _ => (intOf i).toNat)
  case atStart => exact ⟨n, [], hn, rfl, rfl, by simpa using hown, Grew.refl _ _⟩
  case round =>
    obtain ⟨m, p, hm, rfl, hp, ho, hg⟩ := hrel
    have hpl : p.length + (small m).length ≤ 10 := by rw [← List.length_append, hp]; exact hsl
    have hbr : base ≤ wr.heap.size := Nat.le_trans hbase hg.grown.size
    have hlp : (l ++ p).length + 1 ≤ 140737488355328 := by rw [List.length_append]; omega
    have HP : Hid (p ++ small m = small n) := hp
    clear hp hown hbase hl hsl hpl hn
    by_cases hlt : 128 ≤ m
    · have HM : Hid (Fits m) := hm
      clear hm
      go_wp2_with (at_builtin; refine app_one (w0 := wr) rfl (.tmp 9) (.tmp 13) rfl base _ _ ho rfl _ _ (or128 m) rfl rfl hlp hbr ?_; intro v1 w1 ho1 hg1)
      have hM : m < 18446744073709551616 := HM.out
      go_roundw
      case rel => exact ⟨m / 128, p ++ [UInt8.ofNat (m % 128 + 128)], by unfold Fits; omega, by go_num, by rw [← HP.out, small_ge hlt hM]; simp, by simpa using ho1, hg.trans hg1⟩
      case measure => simp [intOf]; omega
    · have h0 : (m : Int) < 128 := by omega
      go_wp2_with (at_builtin; refine app_one (w0 := wr) rfl (.tmp 15) (.tmp 18) rfl base _ _ ho rfl _ _ (last_byte m (by omega)) rfl rfl hlp hbr ?_; intro v1 w1 ho1 hg1)
      go_ret
      exact ⟨_, rfl, by rw [← HP.out, small_lt (by omega)]; simpa using ho1, hg.trans hg1⟩

theorem small_any (n : Nat) (w : World) (hn : Fits n) :
    Calls Try.prog 42 #[.int .u64 n] w fun e w' => ∃ v', e = .returned v' ∧ Own w' w.heap.size v' (small n) ∧ Below w.heap.size w w' := by
  go_enter Try.func42, Try.ntmps42
  go_wp2_with (go_at_call 54; refine (addSmall_any w.heap.size _ [] n w (Own.nil _ _) (Nat.le_refl _) hn (by simp)).mono ?_; rintro e w1 ⟨v1, rfl, ho1, hg1⟩)
  go_ret
  exact ⟨_, rfl, by simpa using ho1, hg1.below_nil⟩

/-- a text's bytes -/
theorem fits_size (s : ByteArray) (hs : s.size ≤ 100000000) : Fits s.size := by unfold Fits; omega

theorem addText_any (base : Nat) (v : Value) (l : List UInt8) (s : ByteArray) (w : World) (hown : Own w base v l) (hbase : base ≤ w.heap.size) (hl : l.length ≤ 100000000) (hs : s.size ≤ 100000000) :
    Calls Try.prog 55 #[v, .string s] w fun e w' => ∃ v', e = .returned v' ∧ Own w' base v' (l ++ text s.data.toList) ∧ Grew w w' v v' := by
  have hsl := small_len s.size
  go_enter Try.func55, Try.ntmps55
  go_wp2_with (first
    | (go_at_call 54; refine (addSmall_any base _ l s.size w hown hbase (fits_size s hs) hl).mono ?_; rintro e w1 ⟨v1, rfl, ho1, hg1⟩)
    | (at_builtin; refine app_text rfl (.tmp 9) (.tmp 10) rfl base _ _ ho1 rfl s rfl (by simp; omega) (Nat.le_trans hbase hg1.grown.size) ?_; intro v2 w2 ho2 hg2))
  go_ret
  exact ⟨_, rfl, by simpa [text] using ho2, hg1.trans hg2⟩

end Go.Proofs.Ytfjcaofmcjhdpaa
