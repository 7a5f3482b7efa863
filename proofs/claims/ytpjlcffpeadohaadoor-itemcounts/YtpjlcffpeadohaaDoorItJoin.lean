/-
  Contract of item.Join.
-/
import Derived.Test.YtpjlcffpeadohaaDoorItNum
import Derived.Test.YtpjlcffpeadohaaDoorItLay
namespace Go.Proofs.YtpjlcffpeadohaaDoor
open Go.RowKit Go.Shelf Go.Lib Go.Sort
set_option linter.unusedSimpArgs false
set_option linter.unusedVariables false
set_option maxRecDepth 100000

theorem joinExtra : Builder.Extra Tryd.prog Tryd.layJoin_ren where
  sizeBuilder := by kernel_rfl
  liesBuilder := by kernel_rfl
  t5 := by kernel_rfl
  a5 := fun _ => by kernel_rfl
  z5 := fun _ => by kernel_rfl
  v5 := fun _ => by kernel_rfl
  infoByte := by kernel_rfl
  cellsByte := by kernel_rfl
  sizeByte := by kernel_rfl
  neB5 := by decide
/-- two values together -/
def jnE (s t : ByteArray) : Int := if s.size + t.size ≤ 512 then 0 else 3
def jnV (s t : ByteArray) : ByteArray := if s.size + t.size ≤ 512 then ⟨(bl s ++ bl t).toArray⟩ else ⟨#[]⟩

theorem strJoin_any (bk : Nat) (s t : ByteArray) (w : World) (h0 : w.cell? ⟨bk, 0, none⟩ = some (.string s)) (h1 : w.cell? ⟨bk, 1, none⟩ = some (.string t)) (hb : bk < w.heap.size) (hs : s.size + t.size ≤ 512) :
    Calls Tryd.prog 21 #[.slice (some ⟨bk, 0, none⟩) 2 2, .string ⟨#[]⟩] w fun e w' => e = .returned (.string ⟨(bl s ++ bl t).toArray⟩) ∧ RowKit.Below w.heap.size w w' := by
  have hj : Lib.join ([s, t].map (·.data.toList)) (⟨#[]⟩ : ByteArray).data.toList = bl s ++ bl t := by simp [Lib.join, bl]
  have hl : (bl s ++ bl t).length ≤ 140737488355328 := by rw [List.length_append, bl_len, bl_len]; omega
  have h := Any.strings_Join Tryd.layJoin joinExtra bk 0 2 [s, t] ⟨#[]⟩ w (fun j x hx => by
    match j, hx with
    | 0, hx => simp at hx; subst hx; exact h0
    | 1, hx => simp at hx; subst hx; exact h1) hb (by simp) (by simp) (by rw [hj]; exact hl)
  rw [hj] at h
  exact h

theorem join_any (s t : ByteArray) (hs : s.size ≤ 2000) (ht : t.size ≤ 2000) (w : World) :
    Calls Tryd.prog 14 #[.string s, .string t] w fun e w' => e = .returned (.tuple #[.string (jnV s t), .int .i64 (jnE s t)]) ∧ RowKit.Below w.heap.size w w' := by
  unfold jnE jnV
  by_cases h : s.size + t.size ≤ 512
  · rw [if_pos h, if_pos h]
    have h1 : decide ((512 : Int) < (s.size : Int) + (t.size : Int)) = false := by simp; omega
    have HJ := Hid.mk2 (fun bk W h0 h1 hb => strJoin_any bk s t W h0 h1 hb h)
    obtain ⟨J, hJ⟩ : ∃ J : ByteArray, J = ⟨(bl s ++ bl t).toArray⟩ := ⟨_, rfl⟩
    rw [← hJ] at HJ ⊢
    have b1 : (s.size : Int) ≤ 512 := by omega
    have b2 : (t.size : Int) ≤ 512 := by omega
    clear hs ht h hJ
    go_enter Tryd.func14, Tryd.ntmps14
    go_wp2_with (go_at_call 21; refine (HJ.out _ _ (by simp) (by simp) (by simp)).mono ?_; rintro e w' ⟨rfl, hb⟩)
    go_ret2
    exact ⟨rfl, ((RowKit.Below.refl _ _).alloc (Nat.le_refl _) _).trans (hb.mono (by simp))⟩
  · rw [if_neg h, if_neg h]
    have h1 : decide ((512 : Int) < (s.size : Int) + (t.size : Int)) = true := by simp; omega
    have b1 : (s.size : Int) ≤ 2000 := by omega
    have b2 : (t.size : Int) ≤ 2000 := by omega
    clear hs ht h
    go_enter Tryd.func14, Tryd.ntmps14
    go_wp2
    go_ret2
    exact ⟨rfl, RowKit.Below.refl _ _⟩
end Go.Proofs.YtpjlcffpeadohaaDoor
