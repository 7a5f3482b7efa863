/-
  putLine of package words: words put behind one another in a strings.Builder.
-/
import Derived.Test.YtfmpbddhejpjaaaDoorWoE
import Derived.Shelf.Lay
import Derived.Shelf.Strings.BuilderK
import Derived.Ground.NamesProg
namespace Go.Proofs
open Go.Shelf Go.RowKit Go.Lib
def Tryd.layWriteString_ren : Go.Shelf.Ren := ⟨fun | 166 => 47 | 240 => 71 | 276 => 87 | 169 => 27 | n => n, fun | 0 => 0 | 3 => 3 | 4 => 4 | 5 => 5 | 9 => 9 | 20 => 20 | 37 => 31 | 70 => 56 | 72 => 58 | 75 => 80 | 80 => 63 | 164 => 115 | 127 => 85 | n => n, fun | n => n⟩
theorem Tryd.layWriteString : Lays.n166 Tryd.prog Tryd.layWriteString_ren where
  mixed := by kernel_rfl
  f166 := Tryd.func47.trans (congrArg some (by kernel_rfl))
  f240 := Tryd.func71.trans (congrArg some (by kernel_rfl))
  f276 := Tryd.func87.trans (congrArg some (by kernel_rfl))
  t0 := Tryd.underlying0
  a0 := Tryd.isAgg0
  z0 := Tryd.sizeOf0
  v0 := Tryd.zeroValue0
  t3 := Tryd.underlying3
  a3 := Tryd.isAgg3
  z3 := Tryd.sizeOf3
  v3 := Tryd.zeroValue3
  t4 := Tryd.underlying4
  a4 := Tryd.isAgg4
  z4 := Tryd.sizeOf4
  v4 := Tryd.zeroValue4
  t9 := Tryd.underlying9
  a9 := Tryd.isAgg9
  z9 := Tryd.sizeOf9
  v9 := Tryd.zeroValue9
  t20 := Tryd.underlying20
  a20 := Tryd.isAgg20
  z20 := Tryd.sizeOf20
  v20 := Tryd.zeroValue20
  t37 := Tryd.underlying31
  a37 := Tryd.isAgg31
  z37 := Tryd.sizeOf31
  v37 := Tryd.zeroValue31
  t70 := Tryd.underlying56
  a70 := Tryd.isAgg56
  z70 := Tryd.sizeOf56
  v70 := Tryd.zeroValue56
  t72 := Tryd.underlying58
  a72 := Tryd.isAgg58
  z72 := Tryd.sizeOf58
  v72 := Tryd.zeroValue58
  t75 := Tryd.underlying80
  a75 := Tryd.isAgg80
  z75 := Tryd.sizeOf80
  v75 := Tryd.zeroValue80
  t164 := Tryd.underlying115
  a164 := Tryd.isAgg115
  z164 := Tryd.sizeOf115
  v164 := Tryd.zeroValue115
def Tryd.layBString_ren : Go.Shelf.Ren := ⟨fun | 166 => 47 | 240 => 71 | 276 => 87 | 169 => 27 | n => n, fun | 0 => 0 | 3 => 3 | 4 => 4 | 5 => 5 | 9 => 9 | 20 => 20 | 37 => 31 | 70 => 56 | 72 => 58 | 75 => 80 | 80 => 63 | 164 => 115 | 127 => 85 | n => n, fun | n => n⟩
theorem Tryd.layBString : Lays.n169 Tryd.prog Tryd.layBString_ren where
  mixed := by kernel_rfl
  f169 := Tryd.func27.trans (congrArg some (by kernel_rfl))
  t0 := Tryd.underlying0
  a0 := Tryd.isAgg0
  z0 := Tryd.sizeOf0
  v0 := Tryd.zeroValue0
  t3 := Tryd.underlying3
  a3 := Tryd.isAgg3
  z3 := Tryd.sizeOf3
  v3 := Tryd.zeroValue3
  t9 := Tryd.underlying9
  a9 := Tryd.isAgg9
  z9 := Tryd.sizeOf9
  v9 := Tryd.zeroValue9
  t37 := Tryd.underlying31
  a37 := Tryd.isAgg31
  z37 := Tryd.sizeOf31
  v37 := Tryd.zeroValue31
  t70 := Tryd.underlying56
  a70 := Tryd.isAgg56
  z70 := Tryd.sizeOf56
  v70 := Tryd.zeroValue56
  t72 := Tryd.underlying58
  a72 := Tryd.isAgg58
  z72 := Tryd.sizeOf58
  v72 := Tryd.zeroValue58
  t127 := Tryd.underlying85
  a127 := Tryd.isAgg85
  z127 := Tryd.sizeOf85
  v127 := Tryd.zeroValue85
end Go.Proofs
namespace Go.Proofs.YtfmpbddhejpjaaaDoor
open Go.Proofs.YtfmpbddhejpjaaaDoor.It
open Go.RowKit
set_option linter.unusedSimpArgs false
set_option linter.unusedVariables false
set_option maxRecDepth 100000

theorem writeExtra : Builder.Extra Tryd.prog Tryd.layWriteString_ren where
  sizeBuilder := by kernel_rfl
  liesBuilder := by kernel_rfl
  t5 := by kernel_rfl
  a5 := fun _ => by kernel_rfl
  z5 := fun _ => by kernel_rfl
  v5 := fun _ => by kernel_rfl
  infoByte := by kernel_rfl
  cellsByte := by kernel_rfl
  sizeByte := by kernel_rfl
  neB5 := by decide
theorem bstrExtra : Builder.Extra Tryd.prog Tryd.layBString_ren where
  sizeBuilder := by kernel_rfl
  liesBuilder := by kernel_rfl
  t5 := by kernel_rfl
  a5 := fun _ => by kernel_rfl
  z5 := fun _ => by kernel_rfl
  v5 := fun _ => by kernel_rfl
  infoByte := by kernel_rfl
  cellsByte := by kernel_rfl
  sizeByte := by kernel_rfl
  neB5 := by decide
/-- the builder at b, from base on, holds these bytes -/
def Bu (w : World) (base b : Nat) (l : List UInt8) : Prop := Lib.IsBuilderF 58 5 base b (Lib.byteCells l) w
/-- what is neither the builder nor a row of bytes stands as it stood -/
def Oth (w w' : World) (b : Nat) : Prop := Lib.OthersKept 5 (some b) w w'
theorem Oth.refl (w : World) (b : Nat) : Oth w w b := Lib.OthersKept.refl _ _ w
theorem Oth.trans {w w1 w2 : World} {b : Nat} (h : Oth w w1 b) (h2 : Oth w1 w2 b) : Oth w w2 b := Lib.OthersKept.trans h h2
theorem Oth.of_below {w w' : World} {b : Nat} (h : Below w.heap.size w w') : Oth w w' b := by
  intro k o hk _ _
  rw [h.block k (Array.getElem?_eq_some_iff.1 hk).1]
  exact hk
theorem Bu.below {w w' : World} {base b : Nat} {l : List UInt8} (h : Bu w base b l) (hb : Below w.heap.size w w') : Bu w' base b l := by
  have key : ∀ p, Lib.BuilderAtF 58 5 base b p (Lib.byteCells l) w → Lib.BuilderAtF 58 5 base b p (Lib.byteCells l) w' := by
    rintro p ⟨hB, v, hk, ho, hn⟩
    exact ⟨hB, v, by rw [hb.block b (Array.getElem?_eq_some_iff.1 hk).1]; exact hk, World.ownsRowF.kept (row := none) ho (g_grown hb none) (by cases v.ownBlock with | none => exact .inl rfl | some k => exact .inr (by simp)), hn⟩
  rcases h with h | h
  · exact .inl (key _ h)
  · exact .inr (key _ h)
theorem Bu.lt {w : World} {base b : Nat} {l : List UInt8} (h : Bu w base b l) : base ≤ b ∧ b < w.heap.size := by
  rcases h with h | h
  · exact ⟨h.1, h.lt⟩
  · exact ⟨h.1, h.lt⟩
theorem wstr_any (w : World) (base b : Nat) (l : List UInt8) (s : ByteArray) (h : Bu w base b l) (hl : l.length + s.size ≤ 1000000) (hb : base ≤ w.heap.size) :
    Calls Tryd.prog 47 #[.pointer (some ⟨b, 0, none⟩), .string s] w fun e w' => e = .returned (.tuple #[.int .i64 s.size, .nilIface]) ∧ Bu w' base b (l ++ bl s) ∧ Below base w w' ∧ Oth w w' b := by
  refine (Any.Builder_WriteString_k Tryd.layWriteString writeExtra base b (Lib.byteCells l) s w h (by rw [Lib.byteCells_length]; omega) hb).mono ?_
  rintro e w' ⟨he, h1, h2, h3⟩
  refine ⟨he, .inr ?_, h2, h3⟩
  rw [Lib.byteCells_append]
  exact h1
theorem bstr_any (w : World) (base b : Nat) (l : List UInt8) (h : Bu w base b l) (hb : base ≤ w.heap.size) :
    Calls Tryd.prog 27 #[.pointer (some ⟨b, 0, none⟩)] w fun e w' => e = .returned (.string (mkB l)) ∧ Bu w' base b l ∧ Below base w w' ∧ Oth w w' b := by
  refine (Any.Builder_String_any_k Tryd.layBString bstrExtra base b l w h hb).mono ?_
  rintro e w' ⟨he, h1, h2, h3⟩
  exact ⟨he, h1, h2, h3⟩

/-- words that lie in a row of their own -/
def Sx (w : World) (b : Nat) (ao : Option Addr) (ws : List ByteArray) : Prop :=
  ws = [] ∨ ∃ g cur fz, ao = some ⟨g, 0, none⟩ ∧ g ≠ b ∧ w.heap[g]? = some (.cells cur 9 fz) ∧ ∀ i (hi : i < ws.length), cur[i]? = some (.string ws[i])
theorem Sx.oth {w w' : World} {b : Nat} {ao : Option Addr} {ws : List ByteArray} (h : Sx w b ao ws) (ho : Oth w w' b) : Sx w' b ao ws := by
  rcases h with h | ⟨g, cur, fz, h1, h2, h3, h4⟩
  · exact .inl h
  · exact .inr ⟨g, cur, fz, h1, h2, ho g _ h3 (fun e => h2 (Option.some.inj e)) (fun c f e => by injection e with _ e2; exact absurd e2 (by decide)), h4⟩
theorem Sx.cell {w : World} {b : Nat} {ao : Option Addr} {ws : List ByteArray} (h : Sx w b ao ws) (i : Nat) (hi : i < ws.length) : ∃ g, ao = some ⟨g, 0, none⟩ ∧ w.cell? ⟨g, i, none⟩ = some (.string ws[i]) := by
  rcases h with h | ⟨g, cur, fz, h1, h2, h3, h4⟩
  · rw [h] at hi; simp at hi
  · exact ⟨g, h1, by rw [g_cell h3, h4 i hi]⟩
theorem joinW_nil : joinW [] = [] := rfl
theorem joinW_snoc (ws : List ByteArray) (s : ByteArray) : joinW (ws ++ [s]) = (if ws = [] then [] else joinW ws ++ [32]) ++ bl s := by
  cases ws with
  | nil => rw [List.nil_append, joinW_cons]; simp
  | cons a t =>
    rw [if_neg (by simp), List.cons_append, joinW_cons, joinW_cons, List.flatMap_append]
    simp
theorem joinW_le (ws : List ByteArray) (i : Nat) : (joinW (ws.take i)).length ≤ (joinW ws).length := by
  cases ws with
  | nil => simp
  | cons a t =>
    cases i with
    | zero => rw [List.take_zero, joinW_nil]; simp
    | succ k =>
      rw [List.take_succ_cons, joinW_cons, joinW_cons, List.length_append, List.length_append]
      have h : (t.flatMap fun x => 32 :: bl x) = ((t.take k).flatMap fun x => 32 :: bl x) ++ ((t.drop k).flatMap fun x => 32 :: bl x) := by
        rw [← List.flatMap_append, List.take_append_drop]
      rw [h, List.length_append]
      omega

set_option maxHeartbeats 2000000 in
theorem putLine_any (w : World) (base b : Nat) (l : List UInt8) (ws : List ByteArray) (ao : Option Addr) (cap : Nat) (h : Bu w base b l) (hb : base ≤ w.heap.size) (hx : Sx w b ao ws) (hl : l.length + (joinW ws).length + 2 ≤ 1000000) (m : Nat) (hm : m = ws.length) (hm2 : m ≤ 1000) :
    Calls Tryd.prog 25 #[.pointer (some ⟨b, 0, none⟩), .slice ao m cap] w fun e w' => e = .returned (.tuple #[]) ∧ Bu w' base b (l ++ (joinW ws ++ [13, 10])) ∧ Below base w w' ∧ Oth w w' b := by
  have HW := Hid.mk2 (fun W x s (h : Bu W base b x) hl hb => wstr_any W base b x s h hl hb)
  have HX := Hid.mk2 hx
  have HM := Hid.mk2 hm
  have HL := Hid.mk2 hl
  have HB := Hid.mk2 h
  have HS := Hid.mk2 hb
  have hmi : (m : Int) ≤ 1000 := by omega
  clear h hb hx hl hm
  go_enter Tryd.func25, Tryd.ntmps25
  go_wp2
  go_loopw [4, 5, 8] (fun _ _ i wr => ∃ k : Nat, k ≤ m ∧ i = .int .i64 k ∧ Hid (Below base w wr) ∧ Hid (Oth w wr b) ∧ Hid (Bu wr base b (l ++ joinW (ws.take k)))) (fun _ _ i _ => m - (intOf i).toNat)
  case atStart => exact ⟨0, Nat.zero_le _, rfl, Below.refl _ _, Oth.refl _ _, by rw [List.take_zero, joinW_nil, List.append_nil]; exact HB.out⟩
  case round =>
    obtain ⟨k, hk, rfl, HB1, HO1, HU1⟩ := hrel
    by_cases hkl : k < m
    · have hkl2 : (k : Int) < (m : Int) := by omega
      have hkw : k < ws.length := by rw [← HM.out]; exact hkl
      obtain ⟨g, hg, hc⟩ := (HX.out.oth HO1.out).cell k hkw
      have HT : Hid (joinW (ws.take (k + 1)) = (if ws.take k = [] then [] else joinW (ws.take k) ++ [32]) ++ bl ws[k]) := by
        have := joinW_snoc (ws.take k) ws[k]
        rw [← List.take_append_getElem hkw]
        exact this
      have HLE := Hid.mk2 (joinW_le ws (k + 1))
      obtain ⟨s, hs⟩ : ∃ s, s = ws[k] := ⟨_, rfl⟩
      rw [← hs] at hc HT
      have hsb : (bl s).length = s.size := bl_len s
      subst hg
      clear hs
      by_cases hk0 : k = 0
      · subst hk0
        have HN : Hid (l ++ joinW (ws.take 0) ++ bl s = l ++ joinW (ws.take (0 + 1)) ∧ (l ++ joinW (ws.take 0)).length + s.size ≤ 1000000) := by
          have h1 := HT.out
          rw [List.take_zero, if_pos rfl, List.nil_append] at h1
          refine ⟨by rw [h1, List.take_zero, joinW_nil, List.append_nil], ?_⟩
          have h2 := HLE.out
          have h3 := HL.out
          rw [h1] at h2
          rw [List.take_zero, joinW_nil, List.append_nil]
          omega
        clear HT HLE hsb
        go_wp2_with (go_at_call 47; refine (HW.out _ _ s HU1.out HN.out.2 (Nat.le_trans HS.out HB1.out.size)).mono ?_; rintro e w1 ⟨rfl, hu, hbl, ho⟩; have HB2 := Hid.mk2 (HB1.out.trans hbl); have HO2 := Hid.mk2 (HO1.out.trans ho); have HU2 := Hid.mk2 hu; clear hu hbl ho)
        go_roundw
        case rel => exact ⟨1, by omega, by go_num, HB2, HO2, by rw [← HN.out.1]; exact HU2.out⟩
        case measure => simp [intOf]; omega
      · have hk0i : (0 : Int) < (k : Int) := by omega
        have HN : Hid (l ++ joinW (ws.take k) ++ bl ⟨#[32]⟩ ++ bl s = l ++ joinW (ws.take (k + 1)) ∧ (l ++ joinW (ws.take k)).length + (⟨#[32]⟩ : ByteArray).size ≤ 1000000 ∧ (l ++ joinW (ws.take k) ++ bl ⟨#[32]⟩).length + s.size ≤ 1000000) := by
          have h1 := HT.out
          rw [if_neg (by intro e; have := congrArg List.length e; rw [List.length_take, List.length_nil, Nat.min_eq_left (Nat.le_of_lt hkw)] at this; exact hk0 this)] at h1
          have e32 : bl ⟨#[32]⟩ = [32] := rfl
          have e1 : (⟨#[32]⟩ : ByteArray).size = 1 := rfl
          have h2 := HLE.out
          have h3 := HL.out
          rw [h1] at h2
          simp only [List.length_append, List.length_cons, List.length_nil] at h2
          rw [e32, e1, h1]
          refine ⟨by simp, by rw [List.length_append]; omega, by simp only [List.length_append, List.length_cons, List.length_nil]; omega⟩
        clear HT HLE hsb hk0
        go_wp2_with (first
          | ((fail_if_success have hq := HU2); go_at_call 47; refine (HW.out _ _ _ HU1.out HN.out.2.1 (Nat.le_trans HS.out HB1.out.size)).mono ?_; rintro e w1 ⟨rfl, hu, hbl, ho⟩; have hc := hc; have HB2 := Hid.mk2 (HB1.out.trans hbl); have HO2 := Hid.mk2 (HO1.out.trans ho); have HU2 := Hid.mk2 hu; clear hu hbl ho)
          | (have hq := HU2; go_at_call 47; refine (HW.out _ _ s HU2.out HN.out.2.2 (Nat.le_trans HS.out HB2.out.size)).mono ?_; rintro e w2 ⟨rfl, hu, hbl, ho⟩; have HB3 := Hid.mk2 (HB2.out.trans hbl); have HO3 := Hid.mk2 (HO2.out.trans ho); have HU3 := Hid.mk2 hu; clear hu hbl ho))
        go_roundw
        case rel => exact ⟨k + 1, by omega, by go_num, HB3, HO3, by rw [← HN.out.1]; exact HU3.out⟩
        case measure => simp [intOf]; omega
    · have hkl2 : ¬ (k : Int) < (m : Int) := by omega
      have HN : Hid (l ++ joinW (ws.take k) ++ bl ⟨#[13, 10]⟩ = l ++ (joinW ws ++ [13, 10]) ∧ (l ++ joinW (ws.take k)).length + (⟨#[13, 10]⟩ : ByteArray).size ≤ 1000000) := by
        have h1 : ws.take k = ws := List.take_of_length_le (by rw [← HM.out]; omega)
        have e1 : (⟨#[13, 10]⟩ : ByteArray).size = 2 := rfl
        have h3 := HL.out
        rw [h1, e1]
        exact ⟨by rw [List.append_assoc]; rfl, by rw [List.length_append]; omega⟩
      go_wp2_with (go_at_call 47; refine (HW.out _ _ _ HU1.out HN.out.2 (Nat.le_trans HS.out HB1.out.size)).mono ?_; rintro e w1 ⟨rfl, hu, hbl, ho⟩; have HB2 := Hid.mk2 (HB1.out.trans hbl); have HO2 := Hid.mk2 (HO1.out.trans ho); have HU2 := Hid.mk2 hu; clear hu hbl ho)

      refine bodyPost_end (results_none rfl _ _ _) rfl ?_
      exact ⟨rfl, by rw [← HN.out.1]; exact HU2.out, HB2.out, HO2.out⟩
end Go.Proofs.YtfmpbddhejpjaaaDoor
