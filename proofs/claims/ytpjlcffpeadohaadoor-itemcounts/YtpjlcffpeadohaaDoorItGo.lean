/-
  The calls of package item as a walk meets them one behind another: what each answers, and that nothing that was there is changed.
-/
import Derived.Test.YtpjlcffpeadohaaDoorItCount
import Derived.Test.YtpjlcffpeadohaaDoorItDoor
namespace Go.Proofs.YtpjlcffpeadohaaDoor
open Go.RowKit Go.Shelf Go.Lib Go.Sort
set_option linter.unusedSimpArgs false
set_option linter.unusedVariables false
set_option maxRecDepth 100000

theorem number_b (s : ByteArray) (w : World) :
    Calls Tryd.prog 8 #[.string s] w fun e w' => e = .returned (.tuple #[.int .u64 (numV (bl s)), .bool (isNum (bl s))]) ∧ RowKit.Below w.heap.size w w' := by
  refine (number_any s w).mono ?_
  rintro e w' ⟨rfl, p, rfl⟩
  exact ⟨rfl, below_iter _ _ _⟩
theorem text_b (u : Nat) (hu : u < 18446744073709551616) (w : World) (ht : Tab w) :
    Calls Tryd.prog 16 #[.int .u64 u] w fun e w' => e = .returned (.string ⟨(decL u).toArray⟩) ∧ RowKit.Below w.heap.size w w' := by
  refine (text_any u hu w ht).mono ?_
  rintro e w' ⟨rfl, k, os, rfl⟩
  exact ⟨rfl, below_grow1 _ _ _⟩
theorem icheck_b (x : It) (w : World) :
    Calls Tryd.prog 10 #[x.v] w fun e w' => e = .returned (.int .i64 (ckE x)) ∧ RowKit.Below w.heap.size w w' := by
  refine (icheck_any x w).mono ?_
  rintro e w' ⟨rfl, rfl⟩
  exact ⟨rfl, (RowKit.Below.refl _ _).alloc (Nat.le_refl _) _⟩
theorem idue_b (x : It) (now : Int) (w : World) :
    Calls Tryd.prog 18 #[x.v, .int .i64 now] w fun e w' => e = .returned (.bool (dueV x now)) ∧ RowKit.Below w.heap.size w w' := by
  refine (idue_any x now w).mono ?_
  rintro e w' ⟨rfl, rfl⟩
  exact ⟨rfl, (RowKit.Below.refl _ _).alloc (Nat.le_refl _) _⟩
theorem below_on {w v v' : World} (h : RowKit.Below w.heap.size w v) (h' : RowKit.Below v.heap.size v v') : RowKit.Below w.heap.size w v' := h.trans (h'.mono h.size)
/-- an item's cells -/
def It.At (x : It) (w : World) (b : Nat) : Prop :=
  b < w.heap.size ∧ w.cell? ⟨b, 0, none⟩ = some (.string x.key) ∧ w.cell? ⟨b, 1, none⟩ = some (.string x.value) ∧ w.cell? ⟨b, 2, none⟩ = some (.int .u32 x.flags) ∧ w.cell? ⟨b, 3, none⟩ = some (.int .i64 x.till) ∧ w.cell? ⟨b, 4, none⟩ = some (.int .u64 x.unique)
theorem It.At.below {x : It} {w w' : World} {b : Nat} (h : x.At w b) (hb : RowKit.Below w.heap.size w w') : x.At w' b := by
  obtain ⟨h, h0, h1, h2, h3, h4⟩ := h
  exact ⟨Nat.lt_of_lt_of_le h hb.size, (hb.cell (p := ⟨b, 0, none⟩) h).trans h0, (hb.cell (p := ⟨b, 1, none⟩) h).trans h1, (hb.cell (p := ⟨b, 2, none⟩) h).trans h2, (hb.cell (p := ⟨b, 3, none⟩) h).trans h3, (hb.cell (p := ⟨b, 4, none⟩) h).trans h4⟩
theorem It.At.made (x : It) (w : World) : x.At (w.alloc x.obj) w.heap.size := by
  unfold It.obj
  refine ⟨by simp, ?_, ?_, ?_, ?_, ?_⟩ <;> simp
theorem text_back {n : Nat} (h : n < 18446744073709551616) : isNum (bl ⟨(decL n).toArray⟩) = true ∧ numV (bl ⟨(decL n).toArray⟩) = n := by
  rw [bl_mk]
  exact ⟨isNum_decL h, numV_decL h⟩
theorem count_text {n : Nat} (h : n < 18446744073709551616) (b : Nat) (down : Bool) :
    cS ⟨(decL n).toArray⟩ b down = ⟨(decL (cntN n b down)).toArray⟩ ∧ cV ⟨(decL n).toArray⟩ b down = cntN n b down := by
  obtain ⟨e1, e2⟩ := text_back h
  unfold cS cV
  rw [if_pos e1, if_pos e1, e2]
  exact ⟨rfl, rfl⟩
end Go.Proofs.YtpjlcffpeadohaaDoor
