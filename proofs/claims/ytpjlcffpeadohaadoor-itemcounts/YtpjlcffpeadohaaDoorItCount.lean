/-
  Contract of item.Count, and the law's alive.
-/
import Derived.Test.YtpjlcffpeadohaaDoorItText
namespace Go.Proofs.YtpjlcffpeadohaaDoor
open Go.RowKit Go.Shelf Go.Lib Go.Sort
set_option linter.unusedSimpArgs false
set_option linter.unusedVariables false
set_option maxRecDepth 100000

/-- counted up, and round behind the greatest; or down, as far as 0 -/
def cntN (n b : Nat) (down : Bool) : Nat := if down = true then n - b else (n + b) % 18446744073709551616
def cV (s : ByteArray) (b : Nat) (down : Bool) : Nat := if isNum (bl s) = true then cntN (numV (bl s)) b down else 0
def cS (s : ByteArray) (b : Nat) (down : Bool) : ByteArray := if isNum (bl s) = true then ⟨(decL (cntN (numV (bl s)) b down)).toArray⟩ else ⟨#[]⟩
theorem cntN_lt {n b : Nat} (down : Bool) (h : n < 18446744073709551616) : cntN n b down < 18446744073709551616 := by
  unfold cntN
  split
  · omega
  · exact Nat.mod_lt _ (by decide)

set_option maxHeartbeats 2000000 in
theorem count_any (s : ByteArray) (b : Nat) (hb : b < 18446744073709551616) (down : Bool) (w : World) (ht : Tab w) :
    Calls Tryd.prog 9 #[.string s, .int .u64 b, .bool down] w fun e w' => e = .returned (.tuple #[.string (cS s b down), .int .u64 (cV s b down), .bool (isNum (bl s))]) ∧ RowKit.Below w.heap.size w w' := by
  have HN := Hid.mk2 (number_any s w)
  have hlt := numV_lt (bl s)
  have HT := Hid.mk2 (fun u hu W hW => text_any u hu W (ht.below hW))
  unfold cS cV
  cases hi : isNum (bl s)
  · rw [hi] at HN
    have e0 : numV (bl s) = 0 := numV_not hi
    rw [e0] at HN
    clear hi hlt e0 HT
    go_enter Tryd.func9, Tryd.ntmps9
    go_wp2_with (go_at_call 8; refine HN.out.mono ?_; rintro e w1 ⟨rfl, pos, rfl⟩)
    go_ret3
    exact ⟨rfl, below_iter _ _ _⟩
  rw [if_pos rfl, if_pos rfl]
  rw [hi] at HN
  obtain ⟨n, hn⟩ : ∃ n, n = numV (bl s) := ⟨_, rfl⟩
  rw [← hn] at HN hlt ⊢
  have HC := Hid.mk2 (fun W hW => text_any (cntN n b down) (cntN_lt down hlt) W (ht.below hW))
  obtain ⟨L, hL⟩ : ∃ L : ByteArray, L = ⟨(decL (cntN n b down)).toArray⟩ := ⟨_, rfl⟩
  rw [← hL] at HC ⊢
  obtain ⟨m, hm⟩ : ∃ m, m = cntN n b down := ⟨_, rfl⟩
  rw [← hm] at HC ⊢
  clear hL hn hi HT ht
  have hb' : (b : Int) < 18446744073709551616 := by omega
  have hn' : (n : Int) < 18446744073709551616 := by omega
  cases down
  · have hm1 : m = (n + b) % 18446744073709551616 := by rw [hm]; rfl
    have hw1 : IntKind.u64.wrap ((n : Int) + (b : Int)) = (m : Int) := by rw [IntKind.wrap_u64, hm1]; omega
    clear hm hm1
    go_enter Tryd.func9, Tryd.ntmps9
    go_wp2_with (first
      | (go_at_call 8; refine HN.out.mono ?_; rintro e w1 ⟨rfl, pos, rfl⟩)
      | (go_at_call 16; refine (HC.out _ (below_iter _ _ _)).mono ?_; rintro e w2 ⟨rfl, k, os, rfl⟩))
    go_ret3
    exact ⟨rfl, (below_iter _ _ _).trans ((below_grow1 _ _ _).mono (below_iter _ _ _).size)⟩
  · have hm1 : m = n - b := by rw [hm]; rfl
    by_cases hg : n < b
    · have hm2 : m = 0 := by omega
      subst hm2
      clear hm hm1
      go_enter Tryd.func9, Tryd.ntmps9
      go_wp2_with (first
        | (go_at_call 8; refine HN.out.mono ?_; rintro e w1 ⟨rfl, pos, rfl⟩)
        | (go_at_call 16; refine (HC.out _ (below_iter _ _ _)).mono ?_; rintro e w2 ⟨rfl, k, os, rfl⟩))
      go_ret3
      exact ⟨rfl, (below_iter _ _ _).trans ((below_grow1 _ _ _).mono (below_iter _ _ _).size)⟩
    · have hw1 : IntKind.u64.wrap ((n : Int) - (b : Int)) = (m : Int) := by rw [IntKind.wrap_u64]; omega
      clear hm hm1
      go_enter Tryd.func9, Tryd.ntmps9
      go_wp2_with (first
        | (go_at_call 8; refine HN.out.mono ?_; rintro e w1 ⟨rfl, pos, rfl⟩)
        | (go_at_call 16; refine (HC.out _ (below_iter _ _ _)).mono ?_; rintro e w2 ⟨rfl, k, os, rfl⟩))
      go_ret3
      exact ⟨rfl, (below_iter _ _ _).trans ((below_grow1 _ _ _).mono (below_iter _ _ _).size)⟩

set_option maxHeartbeats 2000000 in
theorem alive9_any (w : World) (ht : Tab w) :
    Calls Tryd.prog 11 #[] w fun e w' => e = .returned (.bool true) ∧ RowKit.Below w.heap.size w w' := by
  have HS := Hid.mk2 (fun W => isize_any ⟨⟨#[107]⟩, ⟨#[97, 98, 99]⟩, 0, 0, 0⟩ W)
  have HC := Hid.mk2 (fun W hW => count_any ⟨#[49, 48]⟩ 3 (by decide) false W (ht.below hW))
  have e1 : szV ⟨⟨#[107]⟩, ⟨#[97, 98, 99]⟩, 0, 0, 0⟩ = 12 := by decide
  have e2 : ckE ⟨⟨#[107]⟩, ⟨#[97, 98, 99]⟩, 0, 0, 0⟩ = 0 := by decide
  have e0 : isNum (bl ⟨#[49, 48]⟩) = true := by decide
  have e6 : numV (bl ⟨#[49, 48]⟩) = 10 := by decide
  have e3 : cS ⟨#[49, 48]⟩ 3 false = ⟨#[49, 51]⟩ := by
    unfold cS
    rw [if_pos e0, e6]
    have : decL (cntN 10 3 false) = [49, 51] := by
      show decL 13 = _
      rw [decL_great (by decide), decL_small (by decide)]
      rfl
    rw [this]
  have e4 : cV ⟨#[49, 48]⟩ 3 false = 13 := by unfold cV; rw [if_pos e0, e6]; rfl
  rw [e1, e2] at HS
  rw [e3, e4, e0] at HC
  unfold It.v It.obj at HS
  dsimp only at HS
  clear e1 e2 e3 e4 e0 e6 ht
  go_enter Tryd.func11, Tryd.ntmps11
  go_wp2_with (first
    | (go_at_call 20; refine (HS.out _).mono ?_; rintro e w1 ⟨rfl, rfl⟩)
    | (go_at_call 9; refine (HC.out _ (((RowKit.Below.refl _ _).alloc (Nat.le_refl _) _).alloc (by simp) _)).mono ?_; rintro e w2 ⟨rfl, hb2⟩))
  go_ret
  exact ⟨rfl, (((RowKit.Below.refl _ _).alloc (Nat.le_refl _) _).alloc (by simp) _).trans (hb2.mono (by simp; omega))⟩
end Go.Proofs.YtpjlcffpeadohaaDoor
