/-
  (shaken)
-/
import Derived.Test.YtfjcaofmcjhdpaaReader
namespace Go.Proofs.Ytfjcaofmcjhdpaa
open Go.RowKit
set_option linter.unusedSimpArgs false
set_option linter.unusedVariables false
set_option maxRecDepth 100000

theorem text_any (s : ByteArray) (w : World) (hs : s.size ≤ 100000000) :
    Calls Try.prog 43 #[.string s] w fun e w' => ∃ v', e = .returned v' ∧ Own w' w.heap.size v' (text s.data.toList) ∧ Below w.heap.size w w' := by
  go_enter Try.func43, Try.ntmps43
  go_wp2_with (go_at_call 55; refine (addText_any w.heap.size _ [] s w (Own.nil _ _) (Nat.le_refl _) (by simp) hs).mono ?_; rintro e w1 ⟨v1, rfl, ho1, hg1⟩)
  go_ret
  exact ⟨_, rfl, by simpa using ho1, hg1.below_nil⟩

theorem cut_any (w : World) (B : Nat) (ao : Option Addr) (l : List UInt8) (cap : Nat) (hb : BsAt w B ao l) (h1 : l.length ≤ cap) (h2 : cap ≤ maxLen) (h3 : ao = none → cap = 0) (hB : B ≤ w.heap.size) (hl : l.length ≤ 100000000) :
    Calls Try.prog 61 #[.slice ao l.length cap] w fun e w' => ∃ v', e = .returned (.tuple #[.string ⟨(cutT l).toArray⟩, v', .int .i64 (cutE l)]) ∧ Own w' w.heap.size v' (cutR l) ∧ Below w.heap.size w w' := by
  have hrd := Rd.made w B ao l cap hb h1 h2 h3 hB
  clear hb h1 h2 h3
  have hc := rtext_any _ B w.heap.size ⟨l, false⟩ hrd
  have hlen := sText_len ⟨l, false⟩
  unfold cutT cutR cutE
  obtain ⟨p, hp⟩ : ∃ p, p = sText ⟨l, false⟩ := ⟨_, rfl⟩
  rw [← hp] at hc hlen ⊢
  obtain ⟨t, l', bad⟩ := p
  simp only [] at hc hlen ⊢
  clear hp hrd
  cases bad with
  | true =>
    go_enter Try.func61, Try.ntmps61
    go_wp2_with (go_at_call 63; refine hc.mono ?_; rintro e w1 ⟨rfl, h1, h2⟩; have c1 := h1.flag)
    go_ret3
    exact ⟨_, rfl, Own.nil _ _, ((Below.refl _ _).alloc (Nat.le_refl _) _).grown h2 (by simp) (fun k hk => by cases hk; exact Nat.le_refl _)⟩
  | false =>
    go_enter Try.func61, Try.ntmps61
    go_wp2_with (first
      | (go_at_call 63; refine hc.mono ?_; rintro e w1 ⟨rfl, h1, h2⟩; have c1 := h1.flag; obtain ⟨ao', cap', c0, hb', _, _, h3'⟩ := h1.ex; have H3 : Hid (ao' = none → cap' = 0) := h3'; clear h3'; have hsz := h2.size; simp at hsz)
      | (at_builtin; refine app_bytes rfl (.const (.slice none 0 0)) (.tmp 14) rfl w.heap.size _ [] (Own.nil _ _) rfl ao' cap' l' _ rfl rfl B H3.out hb' (by simp; omega) (by omega) ?_; intro v2 w2 ho2 hg2))
    go_ret3
    refine ⟨_, rfl, by simpa using ho2, ?_⟩
    exact (((Below.refl _ _).alloc (Nat.le_refl _) _).grown h2 (by simp) (fun k hk => by cases hk; exact Nat.le_refl _)).trans (hg2.below_nil.mono (by omega))
end Go.Proofs.Ytfjcaofmcjhdpaa
