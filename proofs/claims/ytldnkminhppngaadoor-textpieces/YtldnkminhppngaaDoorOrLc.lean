/-
  (shaken)
-/
import Derived.Test.YtldnkminhppngaaDoorOrLa
import Derived.Shelf.Abstract
import Derived.Lib.SliceRun
namespace Go.Proofs.YtldnkminhppngaaDoor
open Go.RowKit
set_option linter.unusedSimpArgs false
set_option linter.unusedVariables false
set_option maxRecDepth 100000

/-- the first text of which it holds, or -1 -/
def ixF (p : ByteArray → Bool) (L : List ByteArray) : Int := if L.any p = true then (L.findIdx p : Nat) else -1
theorem ixF_hit {p : ByteArray → Bool} {L : List ByteArray} {k : Nat} (hk : k < L.length) (h : p L[k] = true) (ha : ∀ j (hj : j < L.length), j < k → p L[j] = false) : ixF p L = (k : Int) := by
  have hm : L.any p = true := List.any_eq_true.2 ⟨L[k], List.getElem_mem hk, h⟩
  unfold ixF
  rw [if_pos hm]
  congr 1
  rw [List.findIdx_eq hk]
  exact ⟨h, fun j hj => ha j (by omega) hj⟩
theorem ixF_miss {p : ByteArray → Bool} {L : List ByteArray} (ha : ∀ j (hj : j < L.length), p L[j] = false) : ixF p L = -1 := by
  unfold ixF
  rw [if_neg]
  intro hm
  obtain ⟨x, hx, e⟩ := List.any_eq_true.1 hm
  obtain ⟨j, hj, rfl⟩ := List.getElem_of_mem hx
  rw [ha j hj] at e
  cases e
theorem ixF_any (p : ByteArray → Bool) (L : List ByteArray) : decide (0 ≤ ixF p L) = L.any p := by
  unfold ixF
  by_cases h : L.any p = true
  · rw [if_pos h, h]; simp
  · rw [if_neg h]; simp at h; simp; exact h

/-- a function of a text that answers p, and may lay blocks: in every world behind w -/
def FnSays (w : World) (row : Option Nat) (g : Nat) (lb : Array Value) (p : ByteArray → Bool) (L : List ByteArray) : Prop :=
  ∀ W, w.grownBy W row → ∀ x ∈ L, Calls Tryd.prog g (#[.string x] ++ lb) W fun e w' => e = .returned (.bool (p x)) ∧ Below W.heap.size W w'
theorem FnSays.on {w w' : World} {row : Option Nat} {g : Nat} {lb : Array Value} {p : ByteArray → Bool} {L : List ByteArray} (h : FnSays w row g lb p L) (hw : w.grownBy w' row) : FnSays w' row g lb p L :=
  fun W hW x hx => h W (hw.trans hW) x hx

theorem indexF_any (g : Nat) (lb : Array Value) (p : ByteArray → Bool) (L : List ByteArray) (ao : Option Addr) (cap : Nat) (w : World) (row : Option Nat) (eg : ∀ args w, (callFunc g args).run Tryd.prog w = .ok (.enter g args) w) (h : GRd ES w ao L cap) (hf : FnSays w row g lb p L) :
    Calls Tryd.prog 95 #[.slice ao L.length cap, .func (.func g) #[] lb] w fun e w' => e = .returned (.int .i64 (ixF p L)) ∧ Below w.heap.size w w' := by
  have hlen := h.len
  have HR := Hid.mk2 h
  have HF := Hid.mk2 hf
  have HH := Hid.mk2 (fun k hk => @ixF_hit p L k hk)
  have HM := Hid.mk2 (@ixF_miss p L)
  obtain ⟨R, hR⟩ : ∃ R, R = ixF p L := ⟨_, rfl⟩
  rw [← hR] at HH HM ⊢
  clear hR h hf
  go_enter Tryd.func95, Tryd.ntmps95
  go_wp2
  go_loopw [5, 8] (fun _ i wr => ∃ k : Nat, k ≤ L.length ∧ i = .int .i64 k ∧ Hid (Below w.heap.size w wr) ∧ Hid (∀ j (hj : j < L.length), j < k → p L[j] = false)) (fun _ i _ => L.length - (intOf i).toNat)
  case atStart => exact ⟨0, Nat.zero_le _, rfl, Below.refl _ _, fun _ _ h => absurd h (by omega)⟩
  case round =>
    obtain ⟨k, hk, rfl, HB, HA⟩ := hrel
    by_cases hkl : k < L.length
    · have hkl2 : (k : Int) < (L.length : Int) := by omega
      have hne : L ≠ [] := by intro e; rw [e] at hkl; simp at hkl
      obtain ⟨b, off, rfl, hbl, hcs⟩ := (HR.out.below HB.out).str hne
      have r0 := hcs k hkl
      obtain ⟨y, hye⟩ : ∃ y, y = L[k] := ⟨_, rfl⟩
      rw [← hye] at r0
      have HC := Hid.mk2 (HF.out wr (g_grown HB.out row) y (by rw [hye]; exact List.getElem_mem hkl))
      obtain ⟨Y, hY⟩ : ∃ Y, Y = p y := ⟨_, rfl⟩
      rw [← hY] at HC
      cases Y
      · have HA2 : Hid (∀ j (hj : j < L.length), j < k + 1 → p L[j] = false) := by
          intro j hj hjk
          by_cases e : j = k
          · subst e; rw [← hye, ← hY]
          · exact HA.out j hj (by omega)
        clear HA hcs hne hye hY HF
        go_wp2_with (go_at_fn g; refine HC.out.mono ?_; rintro e w1 ⟨rfl, hb1⟩)
        go_roundw
        case rel => exact ⟨k + 1, by omega, by go_num, g_on HB.out hb1, HA2⟩
        case measure => simp [intOf]; omega
      · have e := HH.out k hkl (by rw [← hye, ← hY]) HA.out
        subst e
        clear HH HM HA hcs hne hye hY HF
        go_wp2_with (go_at_fn g; refine HC.out.mono ?_; rintro e w1 ⟨rfl, hb1⟩)
        go_ret
        exact ⟨rfl, g_on HB.out hb1⟩
    · have e := HM.out (fun j hj => HA.out j hj (by omega))
      subst e
      have hkl2 : ¬ (k : Int) < (L.length : Int) := by omega
      clear HH HM HA HF
      go_wp2
      go_ret
      exact ⟨rfl, HB.out⟩
theorem containsF_any (g : Nat) (lb : Array Value) (p : ByteArray → Bool) (L : List ByteArray) (ao : Option Addr) (cap : Nat) (w : World) (row : Option Nat) (eg : ∀ args w, (callFunc g args).run Tryd.prog w = .ok (.enter g args) w) (h : GRd ES w ao L cap) (hf : FnSays w row g lb p L) :
    Calls Tryd.prog 77 #[.slice ao L.length cap, .func (.func g) #[] lb] w fun e w' => e = .returned (.bool (L.any p)) ∧ Below w.heap.size w w' := by
  have HI := Hid.mk2 (indexF_any g lb p L ao cap w row eg h hf)
  rw [← ixF_any]
  obtain ⟨R, hR⟩ : ∃ R, R = ixF p L := ⟨_, rfl⟩
  rw [← hR] at HI ⊢
  clear hR h hf
  go_enter Tryd.func77, Tryd.ntmps77
  go_wp2_with (go_at_call 95; refine HI.out.mono ?_; rintro e w1 ⟨rfl, hb1⟩)
  go_ret
  exact ⟨rfl, hb1⟩
end Go.Proofs.YtldnkminhppngaaDoor
