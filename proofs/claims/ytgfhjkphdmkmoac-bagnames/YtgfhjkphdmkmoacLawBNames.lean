/-
  BagNames is true: the limits, kinds and errors have their numbers, and the chapter's examples are so; no condition.
-/
import Derived.Test.YtgfhjkphdmkmoacBgPieces
import Derived.Test.YtgfhjkphdmkmoacBgAlive
import Derived.Test.YtgfhjkphdmkmoacBgRows
import Derived.Deep.Cut
namespace Go.Proofs.Ytgfhjkphdmkmoac
open Go.ChangeShapes Go.WideShapes Go.ChangeAt Go.RowKit
open Go.ChangeMaps (open_string shut_string)
set_option linter.unusedSimpArgs false
set_option linter.unusedVariables false
set_option maxRecDepth 100000

/-- a literal of bytes, in a block of its own -/
theorem sl_lit (W : World) (l : List UInt8) (n g : Nat) (hg : g = W.heap.size) (hn : l.length = n) (hs : n ≤ 1000) : Sl (W.alloc (.cells (l.map bcell).toArray 5)) (some ⟨g, 0, none⟩) l n := by
  subst hn; subst hg
  refine ⟨Nat.le_refl _, by omega, (by intro e; cases e), .inr ⟨W.heap.size, 0, rfl, by simp, fun j hj => ?_⟩⟩
  rw [World.cell?_alloc_at _ _ _ _ rfl]
  simp [hj]
theorem il_lit (W : World) (l : List Int) (n g : Nat) (hg : g = W.heap.size) (hn : l.length = n) (hs : n ≤ 1000) : Il (W.alloc (.cells (l.map fun x => Value.int .i64 x).toArray 3)) (some ⟨g, 0, none⟩) l n := by
  subst hn; subst hg
  refine ⟨Nat.le_refl _, by omega, (by intro e; cases e), .inr ⟨W.heap.size, 0, rfl, by simp, fun j hj => ?_⟩⟩
  rw [World.cell?_alloc_at _ _ _ _ rfl]
  simp [hj]
theorem dt_of_sl {w : World} {ao : Option Addr} {l : List UInt8} {cap : Nat} (h : Sl w ao l cap) : DtAt w w.heap.size (.slice ao l.length cap) l := ⟨ao, cap, rfl, h.hl, h.hc, h.hn, h.at_⟩
/-- a literal of lists, in a block of its own -/
theorem ll_lit (W : World) (ls : List (List UInt8)) (vs : List Value) (n g : Nat) (hg : g = W.heap.size) (hn : ls.length = n) (hv : vs.length = n) (hs : n ≤ 1000) (h : ∀ i (hi : i < ls.length) (hj : i < vs.length), DtAt W W.heap.size vs[i] ls[i]) : Ll (W.alloc (.cells vs.toArray 22)) (some ⟨g, 0, none⟩) ls n := by
  subst hn; subst hg
  refine ⟨Nat.le_refl _, by omega, (by intro e; cases e), .inr ⟨W.heap.size, 0, rfl, by simp, fun i hi => ?_⟩⟩
  have hj : i < vs.length := by omega
  refine ⟨vs[i], ?_, (h i hi hj).below ((Below.refl _ _).alloc (Nat.le_refl _) _) (by simp)⟩
  rw [World.cell?_alloc_at _ _ _ _ rfl]
  simp [hj]
theorem al1 (W : World) (o : Obj) : Below W.heap.size W (W.alloc o) := (Below.refl _ _).alloc (Nat.le_refl _) o

theorem pN1 : piecesE [1, 2, 3] [1, 1] = 0 ∧ piecesL [1, 2, 3] [1, 1] = [[1], [], [2, 3]] := by decide
theorem pN2 : piecesE [1, 2] [] = 0 ∧ piecesL [1, 2] [] = [[1, 2]] := by decide
theorem pN3 : piecesE [1, 2] [2, 1] = 2 ∧ piecesL [1, 2] [2, 1] = [] := by decide
theorem pN4 : piecesE [1, 2] [3] = 2 ∧ piecesL [1, 2] [3] = [] := by decide
theorem sN5 : stepE 3 0 1 = 0 ∧ stepL thr 0 1 = [[1], [3]] ∧ stepO thr 0 1 = [2] := by decide
theorem sN6 : stepE 3 2 1 = 0 ∧ stepL thr 2 1 = [[1], [3]] ∧ stepO thr 2 1 = [] := by decide
theorem sN7 : stepE 0 0 0 = 6 ∧ stepL [] 0 0 = [] ∧ stepO [] 0 0 = [] := by decide
theorem sN8 : stepE 3 3 0 = 2 ∧ stepL thr 3 0 = [] ∧ stepO thr 3 0 = [] := by decide

/-- what Pieces comes to -/
def PcPost (W : World) (E : Int) (L : List (List UInt8)) (e : Ending) (w' : World) : Prop := ∃ ao cap, e = .returned (.tuple #[.slice ao L.length cap, .int .i64 E]) ∧ Ll w' ao L cap ∧ Below W.heap.size W w'
theorem pc_of {W : World} {E : Int} {L : List (List UInt8)} {e : Ending} {w' : World} (h : ∃ v', e = .returned (.tuple #[v', .int .i64 E]) ∧ OwnLs w' W.heap.size v' L ∧ Below W.heap.size W w') : PcPost W E L e w' := by
  obtain ⟨v', rfl, ho, hb⟩ := h
  obtain ⟨ao, cap, rfl, hl⟩ := ho.ll
  exact ⟨ao, cap, rfl, hl, hb⟩
/-- a bag of empty messages, made at once -/
theorem ll_made {w1 : World} {B g n : Nat} (ho : w1.ownsRow B 22 1 (.slice (some ⟨g, 0, none⟩) n n) n (madeCells (Value.slice none 0 0).cells (n * 1)).toList) (hn : n ≤ 1000) : Ll w1 (some ⟨g, 0, none⟩) (List.replicate n []) n := by
  refine ⟨by simp, by omega, (by intro e; cases e), ?_⟩
  rcases ho.2 with ⟨h, _⟩ | ⟨g', cap, cur, h, hb, hg, hnc, hcm, hcs, htake⟩
  · cases h
  · cases h
    refine .inr ⟨g, 0, rfl, (Array.getElem?_eq_some_iff.1 hg).1, fun i hi => ?_⟩
    have hin : i < n := by simpa using hi
    have c := World.ownsRow.cells ho (g := g) rfl i (.slice none 0 0) (by simp [madeCells, Value.cells, hin, Nat.mod_one])
    rw [addr_add] at c
    refine ⟨_, c, ?_⟩
    have e : (List.replicate n ([] : List UInt8))[i] = [] := by simp
    rw [e]
    exact ⟨none, 0, rfl, by simp, by simp [maxLen], fun _ => rfl, .inl rfl⟩
theorem mN (n : Nat) (hn : n = 64 ∨ n = 65) : sendE (List.replicate n []) [] = (if n = 64 then 9 else 4) ∧ sendL (List.replicate n []) [] = [] := by
  rcases hn with rfl | rfl <;> decide

set_option maxHeartbeats 400000 in
theorem bagNames_walk (w : World) :
    Calls Try.prog 4 #[] w fun e w' => e = .returned (.bool true) ∧ Below w.heap.size w w' := by
  obtain ⟨i0, hi, hz0, hz1, hz2⟩ := info_parts Try.infoBytes
  have HT : Hid (∀ W, Calls Try.prog 17 #[] W fun e w' => ∃ g, e = .returned (.slice (some ⟨g, 0, none⟩) 3 3) ∧ Ll w' (some ⟨g, 0, none⟩) thr 3 ∧ Below W.heap.size W w') := fun W => three3_any W
  have P1 : Hid (∀ W g g2, Sl W (some ⟨g, 0, none⟩) [1, 2, 3] 3 → Il W (some ⟨g2, 0, none⟩) [1, 1] 2 → Calls Try.prog 15 #[.slice (some ⟨g, 0, none⟩) 3 3, .slice (some ⟨g2, 0, none⟩) 2 2] W (PcPost W 0 [[1], [], [2, 3]])) := by
    intro W g g2 h1 h2
    have hx := (pieces_any W _ [1, 2, 3] 3 h1 _ [1, 1] 2 h2).mono (fun e w' h => pc_of h)
    rw [pN1.1, pN1.2] at hx; exact hx
  have P2 : Hid (∀ W g, Sl W (some ⟨g, 0, none⟩) [1, 2] 2 → Calls Try.prog 15 #[.slice (some ⟨g, 0, none⟩) 2 2, .slice none 0 0] W (PcPost W 0 [[1, 2]])) := by
    intro W g h1
    have hx := (pieces_any W _ [1, 2] 2 h1 none [] 0 ⟨by simp, by omega, fun _ => rfl, .inl rfl⟩).mono (fun e w' h => pc_of h)
    rw [pN2.1, pN2.2] at hx; exact hx
  have P3 : Hid (∀ W g g2, Sl W (some ⟨g, 0, none⟩) [1, 2] 2 → Il W (some ⟨g2, 0, none⟩) [2, 1] 2 → Calls Try.prog 15 #[.slice (some ⟨g, 0, none⟩) 2 2, .slice (some ⟨g2, 0, none⟩) 2 2] W (PcPost W 2 [])) := by
    intro W g g2 h1 h2
    have hx := (pieces_any W _ [1, 2] 2 h1 _ [2, 1] 2 h2).mono (fun e w' h => pc_of h)
    rw [pN3.1, pN3.2] at hx; exact hx
  have P4 : Hid (∀ W g g2, Sl W (some ⟨g, 0, none⟩) [1, 2] 2 → Il W (some ⟨g2, 0, none⟩) [3] 1 → Calls Try.prog 15 #[.slice (some ⟨g, 0, none⟩) 2 2, .slice (some ⟨g2, 0, none⟩) 1 1] W (PcPost W 2 [])) := by
    intro W g g2 h1 h2
    have hx := (pieces_any W _ [1, 2] 2 h1 _ [3] 1 h2).mono (fun e w' h => pc_of h)
    rw [pN4.1, pN4.2] at hx; exact hx
  have S5 : Hid (∀ W g, Ll W (some ⟨g, 0, none⟩) thr 3 → Calls Try.prog 16 #[.slice (some ⟨g, 0, none⟩) 3 3, .int .u8 0, .int .i64 1] W (StepPost W 0 [[1], [3]] [2])) := by
    intro W g h
    have hx := step_any W (some ⟨g, 0, none⟩) thr 3 h (by decide) 0 1
    rw [show thr.length = 3 from rfl, sN5.1, sN5.2.1, sN5.2.2] at hx; exact hx
  have S6 : Hid (∀ W g, Ll W (some ⟨g, 0, none⟩) thr 3 → Calls Try.prog 16 #[.slice (some ⟨g, 0, none⟩) 3 3, .int .u8 2, .int .i64 1] W (StepPost W 0 [[1], [3]] [])) := by
    intro W g h
    have hx := step_any W (some ⟨g, 0, none⟩) thr 3 h (by decide) 2 1
    rw [show thr.length = 3 from rfl, sN6.1, sN6.2.1, sN6.2.2] at hx; exact hx
  have S7 : Hid (∀ W, Calls Try.prog 16 #[.slice none 0 0, .int .u8 0, .int .i64 0] W (StepPost W 6 [] [])) := by
    intro W
    have hx := step_any W none [] 0 ⟨by simp, by omega, fun _ => rfl, .inl rfl⟩ (by simp) 0 0
    rw [List.length_nil, sN7.1, sN7.2.1, sN7.2.2] at hx; exact hx
  have S8 : Hid (∀ W g, Ll W (some ⟨g, 0, none⟩) thr 3 → Calls Try.prog 16 #[.slice (some ⟨g, 0, none⟩) 3 3, .int .u8 3, .int .i64 0] W (StepPost W 2 [] [])) := by
    intro W g h
    have hx := step_any W (some ⟨g, 0, none⟩) thr 3 h (by decide) 3 0
    rw [show thr.length = 3 from rfl, sN8.1, sN8.2.1, sN8.2.2] at hx; exact hx
  have M9 : Hid (∀ W g, Ll W (some ⟨g, 0, none⟩) (List.replicate 64 []) 64 → Calls Try.prog 18 #[.slice (some ⟨g, 0, none⟩) 64 64, .slice none 0 0] W (PcPost W 9 [])) := by
    intro W g h
    have hx := (send_any W _ (List.replicate 64 []) 64 h (by simp) none [] 0 ⟨by simp, by omega, fun _ => rfl, .inl rfl⟩).mono (fun e w' h => pc_of h)
    rw [(mN 64 (.inl rfl)).1, (mN 64 (.inl rfl)).2] at hx; exact hx
  have M10 : Hid (∀ W g, Ll W (some ⟨g, 0, none⟩) (List.replicate 65 []) 65 → Calls Try.prog 18 #[.slice (some ⟨g, 0, none⟩) 65 65, .slice none 0 0] W (PcPost W 4 [])) := by
    intro W g h
    have hx := (send_any W _ (List.replicate 65 []) 65 h (by simp) none [] 0 ⟨by simp, by omega, fun _ => rfl, .inl rfl⟩).mono (fun e w' h => pc_of h)
    rw [(mN 65 (.inr rfl)).1, (mN 65 (.inr rfl)).2] at hx; exact hx
  go_enter Try.func4, Try.ntmps4
  go_upto_region 1 with fail
  obtain ⟨W0, hW0⟩ : ∃ W0, W0 = w := ⟨_, rfl⟩
  have B0 : Below w.heap.size w W0 := by rw [hW0]; exact Below.refl _ _
  rw [← hW0]
  clear hW0
  go_cut [1, 2] from 27 (fun s1 s2 wx => (∃ ao cp, s1 = .slice ao 3 cp ∧ s2 = .int .i64 0 ∧ Ll wx ao [[1], [], [2, 3]] cp) ∧ Below W0.heap.size W0 wx)
  case first =>
    go_wp2_with (go_at_call 15; refine (P1.out ((W0.alloc (Obj.cells #[Value.int IntKind.u8 1, Value.int IntKind.u8 2, Value.int IntKind.u8 3] 5)).alloc (Obj.cells #[Value.int IntKind.i64 1, Value.int IntKind.i64 1] 3)) W0.heap.size (W0.heap.size + 1) ((sl_lit W0 [1, 2, 3] 3 W0.heap.size rfl rfl (by omega)).below (al1 _ _)) (il_lit (W0.alloc (Obj.cells #[Value.int IntKind.u8 1, Value.int IntKind.u8 2, Value.int IntKind.u8 3] 5)) [1, 1] 2 (W0.heap.size + 1) (by simp) rfl (by omega))).mono ?_; rintro e wp ⟨ao, cp, rfl, hl, hb⟩; have hbW : Below W0.heap.size W0 wp := ((al1 W0 (Obj.cells #[Value.int IntKind.u8 1, Value.int IntKind.u8 2, Value.int IntKind.u8 3] 5)).alloc (by simp) (Obj.cells #[Value.int IntKind.i64 1, Value.int IntKind.i64 1] 3)).trans (hb.mono (by simp; try omega)))
    go_meet
    case rel => exact ⟨⟨ao, cp, rfl, rfl, hl⟩, hbW⟩
  case rest =>
  obtain ⟨⟨ao1, cp1, rfl, rfl, hl1⟩, hbW⟩ := hcut
  obtain ⟨W1, hW1⟩ : ∃ W1, W1 = wc := ⟨_, rfl⟩
  rw [← hW1] at hbW ⊢
  have B1 : Below w.heap.size w W1 := B0.trans (hbW.mono B0.size)
  rw [← hW1] at hl1
  clear hbW hW1
  go_upto_region 2 with fail
  go_cut [3, 4] from 27 (fun s3 s4 wx => (∃ ao cp, s3 = .slice ao 1 cp ∧ s4 = .int .i64 0 ∧ Ll wx ao [[1, 2]] cp) ∧ Below W1.heap.size W1 wx)
  case first =>
    go_wp2_with (go_at_call 15; refine (P2.out (W1.alloc (Obj.cells #[Value.int IntKind.u8 1, Value.int IntKind.u8 2] 5)) W1.heap.size (sl_lit W1 [1, 2] 2 W1.heap.size rfl rfl (by omega))).mono ?_; rintro e wp ⟨ao, cp, rfl, hl, hb⟩; have hbW : Below W1.heap.size W1 wp := (al1 W1 _).trans (hb.mono (by simp; try omega)))
    go_meet
    case rel => exact ⟨⟨ao, cp, rfl, rfl, hl⟩, hbW⟩
  case rest =>
  obtain ⟨⟨ao2, cp2, rfl, rfl, hl2⟩, hbW⟩ := hcut
  obtain ⟨W2, hW2⟩ : ∃ W2, W2 = wc := ⟨_, rfl⟩
  rw [← hW2] at hbW ⊢
  have B2 : Below w.heap.size w W2 := B1.trans (hbW.mono B1.size)
  have hl1 := hl1.below hbW
  rw [← hW2] at hl2
  clear hbW hW2
  go_upto_region 3 with fail
  go_cut [5, 6] from 27 (fun s5 s6 wx => s6 = .int .i64 2 ∧ Below W2.heap.size W2 wx)
  case first =>
    go_wp2_with (go_at_call 15; refine (P3.out ((W2.alloc (Obj.cells #[Value.int IntKind.u8 1, Value.int IntKind.u8 2] 5)).alloc (Obj.cells #[Value.int IntKind.i64 2, Value.int IntKind.i64 1] 3)) W2.heap.size (W2.heap.size + 1) ((sl_lit W2 [1, 2] 2 W2.heap.size rfl rfl (by omega)).below (al1 _ _)) (il_lit (W2.alloc (Obj.cells #[Value.int IntKind.u8 1, Value.int IntKind.u8 2] 5)) [2, 1] 2 (W2.heap.size + 1) (by simp) rfl (by omega))).mono ?_; rintro e wp ⟨ao, cp, rfl, hl, hb⟩; have hbW : Below W2.heap.size W2 wp := ((al1 W2 (Obj.cells #[Value.int IntKind.u8 1, Value.int IntKind.u8 2] 5)).alloc (by simp) (Obj.cells #[Value.int IntKind.i64 2, Value.int IntKind.i64 1] 3)).trans (hb.mono (by simp; try omega)))
    go_meet
    case rel => exact ⟨rfl, hbW⟩
  case rest =>
  obtain ⟨rfl, hbW⟩ := hcut
  obtain ⟨W3, hW3⟩ : ∃ W3, W3 = wc := ⟨_, rfl⟩
  rw [← hW3] at hbW ⊢
  have B3 : Below w.heap.size w W3 := B2.trans (hbW.mono B2.size)
  have hl1 := hl1.below hbW
  have hl2 := hl2.below hbW
  clear hbW hW3
  go_upto_region 4 with fail
  go_cut [7, 8] from 27 (fun s7 s8 wx => s8 = .int .i64 2 ∧ Below W3.heap.size W3 wx)
  case first =>
    go_wp2_with (go_at_call 15; refine (P4.out ((W3.alloc (Obj.cells #[Value.int IntKind.u8 1, Value.int IntKind.u8 2] 5)).alloc (Obj.cells #[Value.int IntKind.i64 3] 3)) W3.heap.size (W3.heap.size + 1) ((sl_lit W3 [1, 2] 2 W3.heap.size rfl rfl (by omega)).below (al1 _ _)) (il_lit (W3.alloc (Obj.cells #[Value.int IntKind.u8 1, Value.int IntKind.u8 2] 5)) [3] 1 (W3.heap.size + 1) (by simp) rfl (by omega))).mono ?_; rintro e wp ⟨ao, cp, rfl, hl, hb⟩; have hbW : Below W3.heap.size W3 wp := ((al1 W3 (Obj.cells #[Value.int IntKind.u8 1, Value.int IntKind.u8 2] 5)).alloc (by simp) (Obj.cells #[Value.int IntKind.i64 3] 3)).trans (hb.mono (by simp; try omega)))
    go_meet
    case rel => exact ⟨rfl, hbW⟩
  case rest =>
  obtain ⟨rfl, hbW⟩ := hcut
  obtain ⟨W4, hW4⟩ : ∃ W4, W4 = wc := ⟨_, rfl⟩
  rw [← hW4] at hbW ⊢
  have B4 : Below w.heap.size w W4 := B3.trans (hbW.mono B3.size)
  have hl1 := hl1.below hbW
  have hl2 := hl2.below hbW
  clear hbW hW4
  go_upto_region 5 with fail
  go_cut [9, 10, 11] from 27 (fun s9 s10 s11 wx => (∃ vo vc oo oc, s9 = .slice vo 2 vc ∧ s10 = .slice oo 1 oc ∧ s11 = .int .i64 0 ∧ Ll wx vo [[1], [3]] vc ∧ Sl wx oo [2] oc) ∧ Below W4.heap.size W4 wx)
  case first =>
    go_wp2_with (first
      | (go_at_call 17; refine (HT.out W4).mono ?_; rintro e wt ⟨gt, rfl, hlt, hbt⟩)
      | (go_at_call 16; refine (S5.out wt gt hlt).mono ?_; rintro e ws ⟨v5, o5, rfl, ho5, hf5, hbs⟩; obtain ⟨vo, vc, hv5, hl5⟩ := ho5.ll; subst hv5; obtain ⟨oo, oc, hv6, hs6⟩ := hf5.sl; subst hv6; have hbW : Below W4.heap.size W4 ws := hbt.trans (hbs.mono hbt.size)))
    go_meet
    case rel => exact ⟨⟨vo, vc, oo, oc, rfl, rfl, rfl, hl5, hs6⟩, hbW⟩
  case rest =>
  obtain ⟨⟨vo5, vc5, oo5, oc5, rfl, rfl, rfl, hl5, hs5⟩, hbW⟩ := hcut
  obtain ⟨W5, hW5⟩ : ∃ W5, W5 = wc := ⟨_, rfl⟩
  rw [← hW5] at hbW ⊢
  have B5 : Below w.heap.size w W5 := B4.trans (hbW.mono B4.size)
  have hl1 := hl1.below hbW
  have hl2 := hl2.below hbW
  rw [← hW5] at hl5
  rw [← hW5] at hs5
  clear hbW hW5
  go_upto_region 6 with fail
  go_cut [12, 13, 14] from 27 (fun s12 s13 s14 wx => (∃ vo vc oo oc, s12 = .slice vo 2 vc ∧ s13 = .slice oo 0 oc ∧ s14 = .int .i64 0 ∧ Ll wx vo [[1], [3]] vc ∧ Sl wx oo [] oc) ∧ Below W5.heap.size W5 wx)
  case first =>
    go_wp2_with (first
      | (go_at_call 17; refine (HT.out W5).mono ?_; rintro e wt ⟨gt, rfl, hlt, hbt⟩)
      | (go_at_call 16; refine (S6.out wt gt hlt).mono ?_; rintro e ws ⟨v5, o5, rfl, ho5, hf5, hbs⟩; obtain ⟨vo, vc, hv5, hl5⟩ := ho5.ll; subst hv5; obtain ⟨oo, oc, hv6, hs6⟩ := hf5.sl; subst hv6; have hbW : Below W5.heap.size W5 ws := hbt.trans (hbs.mono hbt.size)))
    go_meet
    case rel => exact ⟨⟨vo, vc, oo, oc, rfl, rfl, rfl, hl5, hs6⟩, hbW⟩
  case rest =>
  obtain ⟨⟨vo6, vc6, oo6, oc6, rfl, rfl, rfl, hl6, hs6⟩, hbW⟩ := hcut
  obtain ⟨W6, hW6⟩ : ∃ W6, W6 = wc := ⟨_, rfl⟩
  rw [← hW6] at hbW ⊢
  have B6 : Below w.heap.size w W6 := B5.trans (hbW.mono B5.size)
  have hl1 := hl1.below hbW
  have hl2 := hl2.below hbW
  have hl5 := hl5.below hbW
  have hs5 := hs5.below hbW
  rw [← hW6] at hl6
  clear hbW hW6
  go_upto_region 7 with fail
  go_cut [15, 16, 17] from 27 (fun s15 s16 s17 wx => s17 = .int .i64 6 ∧ Below W6.heap.size W6 wx)
  case first =>
    go_wp2_with (first
      | (go_at_call 16; refine (S7.out W6).mono ?_; rintro e ws ⟨v5, o5, rfl, ho5, hf5, hbs⟩; obtain ⟨vo, vc, hv5, hl5⟩ := ho5.ll; subst hv5; obtain ⟨oo, oc, hv6, hs6⟩ := hf5.sl; subst hv6; have hbW : Below W6.heap.size W6 ws := hbs))
    go_meet
    case rel => exact ⟨rfl, hbW⟩
  case rest =>
  obtain ⟨rfl, hbW⟩ := hcut
  obtain ⟨W7, hW7⟩ : ∃ W7, W7 = wc := ⟨_, rfl⟩
  rw [← hW7] at hbW ⊢
  have B7 : Below w.heap.size w W7 := B6.trans (hbW.mono B6.size)
  have hl1 := hl1.below hbW
  have hl2 := hl2.below hbW
  have hl5 := hl5.below hbW
  have hs5 := hs5.below hbW
  have hl6 := hl6.below hbW
  clear hbW hW7
  go_upto_region 8 with fail
  go_cut [18, 19, 20] from 27 (fun s18 s19 s20 wx => s20 = .int .i64 2 ∧ Below W7.heap.size W7 wx)
  case first =>
    go_wp2_with (first
      | (go_at_call 17; refine (HT.out W7).mono ?_; rintro e wt ⟨gt, rfl, hlt, hbt⟩)
      | (go_at_call 16; refine (S8.out wt gt hlt).mono ?_; rintro e ws ⟨v5, o5, rfl, ho5, hf5, hbs⟩; obtain ⟨vo, vc, hv5, hl5⟩ := ho5.ll; subst hv5; obtain ⟨oo, oc, hv6, hs6⟩ := hf5.sl; subst hv6; have hbW : Below W7.heap.size W7 ws := hbt.trans (hbs.mono hbt.size)))
    go_meet
    case rel => exact ⟨rfl, hbW⟩
  case rest =>
  obtain ⟨rfl, hbW⟩ := hcut
  obtain ⟨W8, hW8⟩ : ∃ W8, W8 = wc := ⟨_, rfl⟩
  rw [← hW8] at hbW ⊢
  have B8 : Below w.heap.size w W8 := B7.trans (hbW.mono B7.size)
  have hl1 := hl1.below hbW
  have hl2 := hl2.below hbW
  have hl5 := hl5.below hbW
  have hs5 := hs5.below hbW
  have hl6 := hl6.below hbW
  clear hbW hW8
  go_upto_region 9 with fail
  go_cut [21, 22] from 27 (fun s21 s22 wx => s22 = .int .i64 9 ∧ Below W8.heap.size W8 wx)
  case first =>
    go_wp2_with (first
      | (at_make; refine wpList_make_full _ rfl (.const (.int .i64 64)) (.const (.int .i64 64)) 36 rfl W8.heap.size 22 i0 _ 1 Try.underlying36 hi hz0 hz1 .i64 .i64 _ _ 64 rfl rfl (by rfl) (by rfl) (by rw [hz2]; omega) (by unfold maxLen; omega) (Nat.le_refl _) ?_; intro wm hom hgm; have hlm := ll_made hom (by omega); have hbm : Below W8.heap.size W8 wm := (Below.refl _ _).grown hgm (Nat.le_refl _) (fun k hk => by cases hk))
      | (go_at_call 18; refine (M9.out wm W8.heap.size hlm).mono ?_; rintro e wp ⟨ao, cp, rfl, hl, hb⟩; have hbW : Below W8.heap.size W8 wp := hbm.trans (hb.mono hbm.size)))
    go_meet
    case rel => exact ⟨rfl, hbW⟩
  case rest =>
  obtain ⟨rfl, hbW⟩ := hcut
  obtain ⟨W9, hW9⟩ : ∃ W9, W9 = wc := ⟨_, rfl⟩
  rw [← hW9] at hbW ⊢
  have B9 : Below w.heap.size w W9 := B8.trans (hbW.mono B8.size)
  have hl1 := hl1.below hbW
  have hl2 := hl2.below hbW
  have hl5 := hl5.below hbW
  have hs5 := hs5.below hbW
  have hl6 := hl6.below hbW
  clear hbW hW9
  go_upto_region 10 with fail
  go_cut [23, 24] from 27 (fun s23 s24 wx => s24 = .int .i64 4 ∧ Below W9.heap.size W9 wx)
  case first =>
    go_wp2_with (first
      | (at_make; refine wpList_make_full _ rfl (.const (.int .i64 65)) (.const (.int .i64 65)) 36 rfl W9.heap.size 22 i0 _ 1 Try.underlying36 hi hz0 hz1 .i64 .i64 _ _ 65 rfl rfl (by rfl) (by rfl) (by rw [hz2]; omega) (by unfold maxLen; omega) (Nat.le_refl _) ?_; intro wm hom hgm; have hlm := ll_made hom (by omega); have hbm : Below W9.heap.size W9 wm := (Below.refl _ _).grown hgm (Nat.le_refl _) (fun k hk => by cases hk))
      | (go_at_call 18; refine (M10.out wm W9.heap.size hlm).mono ?_; rintro e wp ⟨ao, cp, rfl, hl, hb⟩; have hbW : Below W9.heap.size W9 wp := hbm.trans (hb.mono hbm.size)))
    go_meet
    case rel => exact ⟨rfl, hbW⟩
  case rest =>
  obtain ⟨rfl, hbW⟩ := hcut
  obtain ⟨W10, hW10⟩ : ∃ W10, W10 = wc := ⟨_, rfl⟩
  rw [← hW10] at hbW ⊢
  have B10 : Below w.heap.size w W10 := B9.trans (hbW.mono B9.size)
  have hl1 := hl1.below hbW
  have hl2 := hl2.below hbW
  have hl5 := hl5.below hbW
  have hs5 := hs5.below hbW
  have hl6 := hl6.below hbW
  clear hbW hW10
  go_upto_region 11 with fail
  go_cut [25] from 27 (fun s25 wx => (∃ g, s25 = .slice (some ⟨g, 0, none⟩) 2 2 ∧ Ll wx (some ⟨g, 0, none⟩) [[1], [3]] 2) ∧ Below W10.heap.size W10 wx)
  case first =>
    go_wp2_with (fail)
    go_meet
    case rel => exact ⟨⟨_, rfl, ll_lit ((W10.alloc (Obj.cells #[Value.int IntKind.u8 1] 5)).alloc (Obj.cells #[Value.int IntKind.u8 3] 5)) [[1], [3]] [.slice (some ⟨W10.heap.size, 0, none⟩) 1 1, .slice (some ⟨W10.heap.size + 1, 0, none⟩) 1 1] 2 (W10.heap.size + 1 + 1) (by simp) rfl rfl (by omega) (fun i hi hj => by
      match i, hi with
      | 0, _ => exact dt_of_sl ((sl_lit W10 [1] 1 W10.heap.size rfl rfl (by omega)).below (al1 _ _))
      | 1, _ => exact dt_of_sl (sl_lit (W10.alloc (Obj.cells #[Value.int IntKind.u8 1] 5)) [3] 1 (W10.heap.size + 1) (by simp) rfl (by omega)))⟩, ((al1 W10 _).alloc (by simp) _).alloc (by simp; omega) _⟩
  case rest =>
  obtain ⟨⟨g11, rfl, hl11⟩, hbW⟩ := hcut
  obtain ⟨W11, hW11⟩ : ∃ W11, W11 = wc := ⟨_, rfl⟩
  rw [← hW11] at hbW ⊢
  have B11 : Below w.heap.size w W11 := B10.trans (hbW.mono B10.size)
  have hl1 := hl1.below hbW
  have hl2 := hl2.below hbW
  have hl5 := hl5.below hbW
  have hs5 := hs5.below hbW
  have hl6 := hl6.below hbW
  rw [← hW11] at hl11
  clear hbW hW11
  go_upto_region 12 with fail
  have L3 : Ll (((W11.alloc (Obj.cells #[Value.int IntKind.u8 1] 5)).alloc (Obj.cells #[Value.int IntKind.u8 2, Value.int IntKind.u8 3] 5)).alloc (.cells ([.slice (some ⟨W11.heap.size, 0, none⟩) 1 1, .slice none 0 0, .slice (some ⟨W11.heap.size + 1, 0, none⟩) 2 2] : List Value).toArray 22)) (some ⟨W11.heap.size + 1 + 1, 0, none⟩) [[1], [], [2, 3]] 3 := ll_lit ((W11.alloc (Obj.cells #[Value.int IntKind.u8 1] 5)).alloc (Obj.cells #[Value.int IntKind.u8 2, Value.int IntKind.u8 3] 5)) [[1], [], [2, 3]] [.slice (some ⟨W11.heap.size, 0, none⟩) 1 1, .slice none 0 0, .slice (some ⟨W11.heap.size + 1, 0, none⟩) 2 2] 3 (W11.heap.size + 1 + 1) (by simp) rfl rfl (by omega) (fun i hi hj => by
      match i, hi with
      | 0, _ => exact dt_of_sl ((sl_lit W11 [1] 1 W11.heap.size rfl rfl (by omega)).below (al1 _ _))
      | 1, _ => exact ⟨none, 0, rfl, by simp, by simp [maxLen], fun _ => rfl, .inl rfl⟩
      | 2, _ => exact dt_of_sl (sl_lit (W11.alloc (Obj.cells #[Value.int IntKind.u8 1] 5)) [2, 3] 2 (W11.heap.size + 1) (by simp) rfl (by omega)))
  have HL3 : Hid (Ll (((W11.alloc (Obj.cells #[Value.int IntKind.u8 1] 5)).alloc (Obj.cells #[Value.int IntKind.u8 2, Value.int IntKind.u8 3] 5)).alloc (.cells ([.slice (some ⟨W11.heap.size, 0, none⟩) 1 1, .slice none 0 0, .slice (some ⟨W11.heap.size + 1, 0, none⟩) 2 2] : List Value).toArray 22)) (some ⟨W11.heap.size + 1 + 1, 0, none⟩) [[1], [], [2, 3]] 3) := L3
  have b3W : Below W11.heap.size W11 (((W11.alloc (Obj.cells #[Value.int IntKind.u8 1] 5)).alloc (Obj.cells #[Value.int IntKind.u8 2, Value.int IntKind.u8 3] 5)).alloc (.cells ([.slice (some ⟨W11.heap.size, 0, none⟩) 1 1, .slice none 0 0, .slice (some ⟨W11.heap.size + 1, 0, none⟩) 2 2] : List Value).toArray 22)) := ((al1 W11 _).alloc (by simp) _).alloc (by simp; omega) _
  clear L3
  go_cut [26] from 27 (fun s26 wx => s26 = .bool true ∧ Below W11.heap.size W11 wx)
  case first =>
    go_wp2_with (first
      | (go_at_call 19; have hq := hmk; refine (lsame_sl _ ao2 (some ⟨wS.heap.size + 1, 0, none⟩) [[1, 2]] cp2 1 (hl2.below (hbS.trans ((al1 wS _).alloc (by simp) _ |>.mono hbS.size))) (ll_lit (wS.alloc (Obj.cells #[Value.int IntKind.u8 1, Value.int IntKind.u8 2] 5)) [[1, 2]] [.slice (some ⟨wS.heap.size, 0, none⟩) 2 2] 1 (wS.heap.size + 1) (by simp) rfl rfl (by omega) (fun i hi hj => by
          match i, hi with
          | 0, _ => exact dt_of_sl (sl_lit wS [1, 2] 2 wS.heap.size rfl rfl (by omega))))).mono ?_; rintro e wR ⟨rfl, hbR⟩; have hbW : Below W11.heap.size W11 wR := hbS.trans ((((al1 wS _).alloc (by simp) _).trans (hbR.mono (by simp; try omega))).mono hbS.size))
      | (go_at_call 19; (fail_if_success have hq := hmk); refine (lsame_sl _ ao1 (some ⟨W11.heap.size + 1 + 1, 0, none⟩) [[1], [], [2, 3]] cp1 3 (hl1.below b3W) HL3.out).mono ?_; rintro e wS ⟨rfl, hbS0⟩; have hmk := True.intro; have hbS : Below W11.heap.size W11 wS := b3W.trans (hbS0.mono b3W.size)))
    go_meet
    case rel => exact ⟨rfl, hbW⟩
  case rest =>
  obtain ⟨rfl, hbW⟩ := hcut
  obtain ⟨W12, hW12⟩ : ∃ W12, W12 = wc := ⟨_, rfl⟩
  rw [← hW12] at hbW ⊢
  have B12 : Below w.heap.size w W12 := B11.trans (hbW.mono B11.size)
  have hl5 := hl5.below hbW
  have hs5 := hs5.below hbW
  have hl6 := hl6.below hbW
  have hl11 := hl11.below hbW
  clear hbW hW12
  go_upto_region 13 with fail
  have hal := balive_any W12
  go_wp2_with (first
    | (go_at_call 20; refine hal.mono ?_; rintro e wA ⟨rfl, hbA⟩)
    | (go_at_call 19; have hq := hmk3; refine (lsame_sl wC vo6 (some ⟨g11, 0, none⟩) [[1], [3]] vc6 2 (hl6.below hbC) (hl11.below hbC)).mono ?_; rintro e wD ⟨rfl, hbD⟩)
    | (go_at_call 19; (fail_if_success have hq := hmk3); refine (lsame_sl wA vo5 (some ⟨g11, 0, none⟩) [[1], [3]] vc5 2 (hl5.below hbA) (hl11.below hbA)).mono ?_; rintro e wC ⟨rfl, hbC0⟩; have hmk3 := True.intro; have hbC := hbA.trans (hbC0.mono hbA.size); have q5 := hs5.conv (n := 1) rfl wC hbC))
  go_ret
  exact ⟨rfl, B12.trans ((hbC.trans (hbD.mono hbC.size)).mono B12.size)⟩

set_option maxRecDepth 100000 in
theorem bagNames_lifted (os : Os) (started : os.Started) (H : Type) (enc : TypeId × Value → H) :
    ReturnsInHanded {} Try.checked os 4 .any (Rows.bagNamesSpec.pre6 enc Try.prog Try.f4 Rows.bagNamesRow.domain false) (Rows.bagNamesSpec.post enc Try.prog Try.f4 false true false false) := by
  refine returnsInHanded_of_change (C := Try.checked) (by kernel_rfl) started (by kernel_rfl) Try.func4
    (ChangeSpec.witness6 (enc := enc) (C := Try.checked) false ⟨#[], #[], []⟩ 8 (by kernel_rfl) (by kernel_rfl) (by kernel_rfl) (by kernel_rfl)) ?_
  intro W base args ds gs before hval0 hW hcnd _
  have hval : ∀ (j : Nat) t v, Try.f4.params[j]? = some t → args[j]? = some v → Value.okWide Try.prog W .any base t v := hval0
  have hW' := hW
  obtain ⟨p, q, hA0, hV, rfl, hfz, hnd⟩ := hW
  have hA : DataW.TrodAll enc Try.prog W 0 (fun _ => true) true Try.f4.params.toList args.toList ds p := hA0
  rw [Try.params4] at hA hval
  obtain ⟨rfl, rfl, rfl⟩ := trodAll_none hA
  obtain ⟨rfl, rfl⟩ := trodVars_none hV
  clear hA0 hval0
  refine (bagNames_walk W ).mono fun e W' ⟨he, bel⟩ => ?_
  subst he
  exact ⟨_, rfl, _, _, _, [], _, [], hW', trodAll_mk1 (shut_bool Try.underlying4 _), trodAll_mk0, rfl, bel.frame _, fun h => by cases h⟩

theorem bagNames_proved : Rows.BagNamesSaid :=
  OpenClaim.holds_of_wide 4 Try.f4 rfl rfl rfl rfl rfl rfl rfl ⟨rfl, rfl, rfl, rfl, rfl⟩ rfl rfl rfl rfl rfl (by kernel_rfl) Try.func4 (by kernel_rfl)
    (of_decide_eq_true (by kernel_rfl)) (by unfold Func.isWrapper; first | (rw [if_pos (by decide +kernel)]; kernel_rfl) | (rw [if_neg (by decide +kernel)]; exact ⟨rfl, rfl⟩))
    (fun os started H enc _ => bagNames_lifted os started H enc)
#print axioms bagNames_proved
end Go.Proofs.Ytgfhjkphdmkmoac
