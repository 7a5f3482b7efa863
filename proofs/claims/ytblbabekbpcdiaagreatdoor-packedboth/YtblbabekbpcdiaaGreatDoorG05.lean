/-
  Several texts in one: WoS, ItLay, ItText, WpA, WoT, WoM, WoN.
-/
import Derived.Test.YtblbabekbpcdiaaGreatDoorWoE
import Derived.Shelf.Lay
import Derived.Shelf.Strings.BuilderK
import Derived.Ground.NamesProg
import Derived.Test.YtblbabekbpcdiaaGreatDoorRows
import Derived.Shelf.Strconv.Itoa1
import Derived.Shelf.Strconv.Itoa2
import Derived.Shelf.Strings.OnBuilder
import Derived.Test.YtblbabekbpcdiaaGreatDoorItNum
import Derived.Lib.AppendIntMem
import Derived.Lib.ItoaLen
import Derived.Test.YtblbabekbpcdiaaGreatDoorWoF
import Derived.Test.YtblbabekbpcdiaaGreatDoorG04
import Derived.Test.YtblbabekbpcdiaaGreatDoorG01
/-
  (shaken)
-/
namespace Go.Proofs
open Go.Shelf Go.RowKit Go.Lib
def Tryz.layWriteString_ren : Go.Shelf.Ren := ⟨fun | 166 => 32 | 240 => 50 | 276 => 71 | 169 => 16 | n => n, fun | 0 => 0 | 3 => 3 | 4 => 4 | 5 => 5 | 9 => 9 | 20 => 20 | 37 => 30 | 70 => 42 | 72 => 44 | 75 => 69 | 80 => 49 | 164 => 110 | 127 => 74 | n => n, fun | n => n⟩
theorem Tryz.layWriteString : Lays.n166 Tryz.prog Tryz.layWriteString_ren where
  mixed := by kernel_rfl
  f166 := Tryz.func32.trans (congrArg some (by kernel_rfl))
  f240 := Tryz.func50.trans (congrArg some (by kernel_rfl))
  f276 := Tryz.func71.trans (congrArg some (by kernel_rfl))
  t0 := Tryz.underlying0
  a0 := Tryz.isAgg0
  z0 := Tryz.sizeOf0
  v0 := Tryz.zeroValue0
  t3 := Tryz.underlying3
  a3 := Tryz.isAgg3
  z3 := Tryz.sizeOf3
  v3 := Tryz.zeroValue3
  t4 := Tryz.underlying4
  a4 := Tryz.isAgg4
  z4 := Tryz.sizeOf4
  v4 := Tryz.zeroValue4
  t9 := Tryz.underlying9
  a9 := Tryz.isAgg9
  z9 := Tryz.sizeOf9
  v9 := Tryz.zeroValue9
  t20 := Tryz.underlying20
  a20 := Tryz.isAgg20
  z20 := Tryz.sizeOf20
  v20 := Tryz.zeroValue20
  t37 := Tryz.underlying30
  a37 := Tryz.isAgg30
  z37 := Tryz.sizeOf30
  v37 := Tryz.zeroValue30
  t70 := Tryz.underlying42
  a70 := Tryz.isAgg42
  z70 := Tryz.sizeOf42
  v70 := Tryz.zeroValue42
  t72 := Tryz.underlying44
  a72 := Tryz.isAgg44
  z72 := Tryz.sizeOf44
  v72 := Tryz.zeroValue44
  t75 := Tryz.underlying69
  a75 := Tryz.isAgg69
  z75 := Tryz.sizeOf69
  v75 := Tryz.zeroValue69
  t164 := Tryz.underlying110
  a164 := Tryz.isAgg110
  z164 := Tryz.sizeOf110
  v164 := Tryz.zeroValue110
def Tryz.layBString_ren : Go.Shelf.Ren := ⟨fun | 166 => 32 | 240 => 50 | 276 => 71 | 169 => 16 | n => n, fun | 0 => 0 | 3 => 3 | 4 => 4 | 5 => 5 | 9 => 9 | 20 => 20 | 37 => 30 | 70 => 42 | 72 => 44 | 75 => 69 | 80 => 49 | 164 => 110 | 127 => 74 | n => n, fun | n => n⟩
theorem Tryz.layBString : Lays.n169 Tryz.prog Tryz.layBString_ren where
  mixed := by kernel_rfl
  f169 := Tryz.func16.trans (congrArg some (by kernel_rfl))
  t0 := Tryz.underlying0
  a0 := Tryz.isAgg0
  z0 := Tryz.sizeOf0
  v0 := Tryz.zeroValue0
  t3 := Tryz.underlying3
  a3 := Tryz.isAgg3
  z3 := Tryz.sizeOf3
  v3 := Tryz.zeroValue3
  t9 := Tryz.underlying9
  a9 := Tryz.isAgg9
  z9 := Tryz.sizeOf9
  v9 := Tryz.zeroValue9
  t37 := Tryz.underlying30
  a37 := Tryz.isAgg30
  z37 := Tryz.sizeOf30
  v37 := Tryz.zeroValue30
  t70 := Tryz.underlying42
  a70 := Tryz.isAgg42
  z70 := Tryz.sizeOf42
  v70 := Tryz.zeroValue42
  t72 := Tryz.underlying44
  a72 := Tryz.isAgg44
  z72 := Tryz.sizeOf44
  v72 := Tryz.zeroValue44
  t127 := Tryz.underlying74
  a127 := Tryz.isAgg74
  z127 := Tryz.sizeOf74
  v127 := Tryz.zeroValue74
end Go.Proofs
namespace Go.Proofs.YtblbabekbpcdiaaGreatDoor
open Go.Proofs.YtblbabekbpcdiaaGreatDoor.It
open Go.RowKit
set_option linter.unusedSimpArgs false
set_option linter.unusedVariables false
set_option maxRecDepth 100000

theorem writeExtra : Builder.Extra Tryz.prog Tryz.layWriteString_ren where
  sizeBuilder := by kernel_rfl
  liesBuilder := by kernel_rfl
  t5 := by kernel_rfl
  a5 := fun _ => by kernel_rfl
  z5 := fun _ => by kernel_rfl
  v5 := fun _ => by kernel_rfl
  infoByte := by kernel_rfl
  cellsByte := by kernel_rfl
  sizeByte := by kernel_rfl
  neB5 := by decide
theorem bstrExtra : Builder.Extra Tryz.prog Tryz.layBString_ren where
  sizeBuilder := by kernel_rfl
  liesBuilder := by kernel_rfl
  t5 := by kernel_rfl
  a5 := fun _ => by kernel_rfl
  z5 := fun _ => by kernel_rfl
  v5 := fun _ => by kernel_rfl
  infoByte := by kernel_rfl
  cellsByte := by kernel_rfl
  sizeByte := by kernel_rfl
  neB5 := by decide
/-- the builder at b, from base on, holds these bytes -/
def Bu (w : World) (base b : Nat) (l : List UInt8) : Prop := Lib.IsBuilderF 44 5 base b (Lib.byteCells l) w
/-- what is neither the builder nor a row of bytes stands as it stood -/
def Oth (w w' : World) (b : Nat) : Prop := Lib.OthersKept 5 (some b) w w'
theorem Oth.refl (w : World) (b : Nat) : Oth w w b := Lib.OthersKept.refl _ _ w
theorem Oth.trans {w w1 w2 : World} {b : Nat} (h : Oth w w1 b) (h2 : Oth w1 w2 b) : Oth w w2 b := Lib.OthersKept.trans h h2
theorem Oth.of_below {w w' : World} {b : Nat} (h : Below w.heap.size w w') : Oth w w' b := by
  intro k o hk _ _
  rw [h.block k (Array.getElem?_eq_some_iff.1 hk).1]
  exact hk
theorem Bu.below {w w' : World} {base b : Nat} {l : List UInt8} (h : Bu w base b l) (hb : Below w.heap.size w w') : Bu w' base b l := by
  have key : ∀ p, Lib.BuilderAtF 44 5 base b p (Lib.byteCells l) w → Lib.BuilderAtF 44 5 base b p (Lib.byteCells l) w' := by
    rintro p ⟨hB, v, hk, ho, hn⟩
    exact ⟨hB, v, by rw [hb.block b (Array.getElem?_eq_some_iff.1 hk).1]; exact hk, World.ownsRowF.kept (row := none) ho (g_grown hb none) (by cases v.ownBlock with | none => exact .inl rfl | some k => exact .inr (by simp)), hn⟩
  rcases h with h | h
  · exact .inl (key _ h)
  · exact .inr (key _ h)
theorem Bu.lt {w : World} {base b : Nat} {l : List UInt8} (h : Bu w base b l) : base ≤ b ∧ b < w.heap.size := by
  rcases h with h | h
  · exact ⟨h.1, h.lt⟩
  · exact ⟨h.1, h.lt⟩
theorem wstr_any (w : World) (base b : Nat) (l : List UInt8) (s : ByteArray) (h : Bu w base b l) (hl : l.length + s.size ≤ 1000000) (hb : base ≤ w.heap.size) :
    Calls Tryz.prog 32 #[.pointer (some ⟨b, 0, none⟩), .string s] w fun e w' => e = .returned (.tuple #[.int .i64 s.size, .nilIface]) ∧ Bu w' base b (l ++ bl s) ∧ Below base w w' ∧ Oth w w' b := by
  refine (Any.Builder_WriteString_k Tryz.layWriteString writeExtra base b (Lib.byteCells l) s w h (by rw [Lib.byteCells_length]; omega) hb).mono ?_
  rintro e w' ⟨he, h1, h2, h3⟩
  refine ⟨he, .inr ?_, h2, h3⟩
  rw [Lib.byteCells_append]
  exact h1
theorem bstr_any (w : World) (base b : Nat) (l : List UInt8) (h : Bu w base b l) (hb : base ≤ w.heap.size) :
    Calls Tryz.prog 16 #[.pointer (some ⟨b, 0, none⟩)] w fun e w' => e = .returned (.string (mkB l)) ∧ Bu w' base b l ∧ Below base w w' ∧ Oth w w' b := by
  refine (Any.Builder_String_any_k Tryz.layBString bstrExtra base b l w h hb).mono ?_
  rintro e w' ⟨he, h1, h2, h3⟩
  exact ⟨he, h1, h2, h3⟩

/-- words that lie in a row of their own -/
def Sx (w : World) (b : Nat) (ao : Option Addr) (ws : List ByteArray) : Prop :=
  ws = [] ∨ ∃ g cur fz, ao = some ⟨g, 0, none⟩ ∧ g ≠ b ∧ w.heap[g]? = some (.cells cur 9 fz) ∧ ∀ i (hi : i < ws.length), cur[i]? = some (.string ws[i])
theorem Sx.oth {w w' : World} {b : Nat} {ao : Option Addr} {ws : List ByteArray} (h : Sx w b ao ws) (ho : Oth w w' b) : Sx w' b ao ws := by
  rcases h with h | ⟨g, cur, fz, h1, h2, h3, h4⟩
  · exact .inl h
  · exact .inr ⟨g, cur, fz, h1, h2, ho g _ h3 (fun e => h2 (Option.some.inj e)) (fun c f e => by injection e with _ e2; exact absurd e2 (by decide)), h4⟩
theorem Sx.cell {w : World} {b : Nat} {ao : Option Addr} {ws : List ByteArray} (h : Sx w b ao ws) (i : Nat) (hi : i < ws.length) : ∃ g, ao = some ⟨g, 0, none⟩ ∧ w.cell? ⟨g, i, none⟩ = some (.string ws[i]) := by
  rcases h with h | ⟨g, cur, fz, h1, h2, h3, h4⟩
  · rw [h] at hi; simp at hi
  · exact ⟨g, h1, by rw [g_cell h3, h4 i hi]⟩
theorem joinW_nil : joinW [] = [] := rfl
theorem joinW_snoc (ws : List ByteArray) (s : ByteArray) : joinW (ws ++ [s]) = (if ws = [] then [] else joinW ws ++ [32]) ++ bl s := by
  cases ws with
  | nil => rw [List.nil_append, joinW_cons]; simp
  | cons a t =>
    rw [if_neg (by simp), List.cons_append, joinW_cons, joinW_cons, List.flatMap_append]
    simp
theorem joinW_le (ws : List ByteArray) (i : Nat) : (joinW (ws.take i)).length ≤ (joinW ws).length := by
  cases ws with
  | nil => simp
  | cons a t =>
    cases i with
    | zero => rw [List.take_zero, joinW_nil]; simp
    | succ k =>
      rw [List.take_succ_cons, joinW_cons, joinW_cons, List.length_append, List.length_append]
      have h : (t.flatMap fun x => 32 :: bl x) = ((t.take k).flatMap fun x => 32 :: bl x) ++ ((t.drop k).flatMap fun x => 32 :: bl x) := by
        rw [← List.flatMap_append, List.take_append_drop]
      rw [h, List.length_append]
      omega

set_option maxHeartbeats 2000000 in
theorem putLine_any (w : World) (base b : Nat) (l : List UInt8) (ws : List ByteArray) (ao : Option Addr) (cap : Nat) (h : Bu w base b l) (hb : base ≤ w.heap.size) (hx : Sx w b ao ws) (hl : l.length + (joinW ws).length + 2 ≤ 1000000) (m : Nat) (hm : m = ws.length) (hm2 : m ≤ 1000) :
    Calls Tryz.prog 14 #[.pointer (some ⟨b, 0, none⟩), .slice ao m cap] w fun e w' => e = .returned (.tuple #[]) ∧ Bu w' base b (l ++ (joinW ws ++ [13, 10])) ∧ Below base w w' ∧ Oth w w' b := by
  have HW := Hid.mk2 (fun W x s (h : Bu W base b x) hl hb => wstr_any W base b x s h hl hb)
  have HX := Hid.mk2 hx
  have HM := Hid.mk2 hm
  have HL := Hid.mk2 hl
  have HB := Hid.mk2 h
  have HS := Hid.mk2 hb
  have hmi : (m : Int) ≤ 1000 := by omega
  clear h hb hx hl hm
  go_enter Tryz.func14, Tryz.ntmps14
  go_wp2
  go_loopw [4, 5, 8] (fun _ _ i wr => ∃ k : Nat, k ≤ m ∧ i = .int .i64 k ∧ Hid (Below base w wr) ∧ Hid (Oth w wr b) ∧ Hid (Bu wr base b (l ++ joinW (ws.take k)))) (fun _ _ i _ => m - (intOf i).toNat)
  case atStart => exact ⟨0, Nat.zero_le _, rfl, Below.refl _ _, Oth.refl _ _, by rw [List.take_zero, joinW_nil, List.append_nil]; exact HB.out⟩
  case round =>
    obtain ⟨k, hk, rfl, HB1, HO1, HU1⟩ := hrel
    by_cases hkl : k < m
    · have hkl2 : (k : Int) < (m : Int) := by omega
      have hkw : k < ws.length := by rw [← HM.out]; exact hkl
      obtain ⟨g, hg, hc⟩ := (HX.out.oth HO1.out).cell k hkw
      have HT : Hid (joinW (ws.take (k + 1)) = (if ws.take k = [] then [] else joinW (ws.take k) ++ [32]) ++ bl ws[k]) := by
        have := joinW_snoc (ws.take k) ws[k]
        rw [← List.take_append_getElem hkw]
        exact this
      have HLE := Hid.mk2 (joinW_le ws (k + 1))
      obtain ⟨s, hs⟩ : ∃ s, s = ws[k] := ⟨_, rfl⟩
      rw [← hs] at hc HT
      have hsb : (bl s).length = s.size := bl_len s
      subst hg
      clear hs
      by_cases hk0 : k = 0
      · subst hk0
        have HN : Hid (l ++ joinW (ws.take 0) ++ bl s = l ++ joinW (ws.take (0 + 1)) ∧ (l ++ joinW (ws.take 0)).length + s.size ≤ 1000000) := by
          have h1 := HT.out
          rw [List.take_zero, if_pos rfl, List.nil_append] at h1
          refine ⟨by rw [h1, List.take_zero, joinW_nil, List.append_nil], ?_⟩
          have h2 := HLE.out
          have h3 := HL.out
          rw [h1] at h2
          rw [List.take_zero, joinW_nil, List.append_nil]
          omega
        clear HT HLE hsb
        go_wp2_with (go_at_call 32; refine (HW.out _ _ s HU1.out HN.out.2 (Nat.le_trans HS.out HB1.out.size)).mono ?_; rintro e w1 ⟨rfl, hu, hbl, ho⟩; have HB2 := Hid.mk2 (HB1.out.trans hbl); have HO2 := Hid.mk2 (HO1.out.trans ho); have HU2 := Hid.mk2 hu; clear hu hbl ho)
        go_roundw
        case rel => exact ⟨1, by omega, by go_num, HB2, HO2, by rw [← HN.out.1]; exact HU2.out⟩
        case measure => simp [intOf]; omega
      · have hk0i : (0 : Int) < (k : Int) := by omega
        have HN : Hid (l ++ joinW (ws.take k) ++ bl ⟨#[32]⟩ ++ bl s = l ++ joinW (ws.take (k + 1)) ∧ (l ++ joinW (ws.take k)).length + (⟨#[32]⟩ : ByteArray).size ≤ 1000000 ∧ (l ++ joinW (ws.take k) ++ bl ⟨#[32]⟩).length + s.size ≤ 1000000) := by
          have h1 := HT.out
          rw [if_neg (by intro e; have := congrArg List.length e; rw [List.length_take, List.length_nil, Nat.min_eq_left (Nat.le_of_lt hkw)] at this; exact hk0 this)] at h1
          have e32 : bl ⟨#[32]⟩ = [32] := rfl
          have e1 : (⟨#[32]⟩ : ByteArray).size = 1 := rfl
          have h2 := HLE.out
          have h3 := HL.out
          rw [h1] at h2
          simp only [List.length_append, List.length_cons, List.length_nil] at h2
          rw [e32, e1, h1]
          refine ⟨by simp, by rw [List.length_append]; omega, by simp only [List.length_append, List.length_cons, List.length_nil]; omega⟩
        clear HT HLE hsb hk0
        go_wp2_with (first
          | ((fail_if_success have hq := HU2); go_at_call 32; refine (HW.out _ _ _ HU1.out HN.out.2.1 (Nat.le_trans HS.out HB1.out.size)).mono ?_; rintro e w1 ⟨rfl, hu, hbl, ho⟩; have hc := hc; have HB2 := Hid.mk2 (HB1.out.trans hbl); have HO2 := Hid.mk2 (HO1.out.trans ho); have HU2 := Hid.mk2 hu; clear hu hbl ho)
          | (have hq := HU2; go_at_call 32; refine (HW.out _ _ s HU2.out HN.out.2.2 (Nat.le_trans HS.out HB2.out.size)).mono ?_; rintro e w2 ⟨rfl, hu, hbl, ho⟩; have HB3 := Hid.mk2 (HB2.out.trans hbl); have HO3 := Hid.mk2 (HO2.out.trans ho); have HU3 := Hid.mk2 hu; clear hu hbl ho))
        go_roundw
        case rel => exact ⟨k + 1, by omega, by go_num, HB3, HO3, by rw [← HN.out.1]; exact HU3.out⟩
        case measure => simp [intOf]; omega
    · have hkl2 : ¬ (k : Int) < (m : Int) := by omega
      have HN : Hid (l ++ joinW (ws.take k) ++ bl ⟨#[13, 10]⟩ = l ++ (joinW ws ++ [13, 10]) ∧ (l ++ joinW (ws.take k)).length + (⟨#[13, 10]⟩ : ByteArray).size ≤ 1000000) := by
        have h1 : ws.take k = ws := List.take_of_length_le (by rw [← HM.out]; omega)
        have e1 : (⟨#[13, 10]⟩ : ByteArray).size = 2 := rfl
        have h3 := HL.out
        rw [h1, e1]
        exact ⟨by rw [List.append_assoc]; rfl, by rw [List.length_append]; omega⟩
      go_wp2_with (go_at_call 32; refine (HW.out _ _ _ HU1.out HN.out.2 (Nat.le_trans HS.out HB1.out.size)).mono ?_; rintro e w1 ⟨rfl, hu, hbl, ho⟩; have HB2 := Hid.mk2 (HB1.out.trans hbl); have HO2 := Hid.mk2 (HO1.out.trans ho); have HU2 := Hid.mk2 hu; clear hu hbl ho)

      refine bodyPost_end (results_none rfl _ _ _) rfl ?_
      exact ⟨rfl, by rw [← HN.out.1]; exact HU2.out, HB2.out, HO2.out⟩
end Go.Proofs.YtblbabekbpcdiaaGreatDoor
/-
  (shaken)
-/
namespace Go.Proofs
open Go.Shelf Go.RowKit Go.Lib Go.Sort
shelf_lay Lays.n283 Nm 283 at Tryz as Tryz.laySmall
shelf_lay LaysM.n284 Nm 284 at Tryz as Tryz.layDigits
shelf_lay Lays.n285 Nm 285 at Tryz as Tryz.layBase10
end Go.Proofs
/-
  (shaken)
-/
namespace Go.Proofs.YtblbabekbpcdiaaGreatDoor.It
open Go.RowKit Go.Shelf Go.Lib Go.Sort
set_option linter.unusedSimpArgs false
set_option linter.unusedVariables false
set_option maxRecDepth 100000

theorem decL_dec (n : Nat) : Lib.decDigits n = decL n := by
  induction n using Nat.strongRecOn with
  | ind n ih =>
    by_cases h : n < 10
    · rw [decL_small h, Lib.decDigits_one h]; rfl
    · rw [decL_great h, Lib.decDigits, dif_neg h, ih (n / 10) (by omega)]
      rfl
/-- the table of powers of ten is as its text lays it -/
def Tab (w : World) : Prop := Lib.TabIs Tryz.prog w "internal/strconv.uint64pow10" .u64 Lib.pow10Tab
theorem Tab.below {w w' : World} (h : Tab w) (hb : RowKit.Below w.heap.size w w') : Tab w' := by
  unfold Tab Lib.TabIs World.var? at *
  cases hg : Tryz.prog.globalNamed "internal/strconv.uint64pow10" with
  | none => simp [hg] at h
  | some g =>
    simp only [hg, Option.bind_some] at h ⊢
    have hlt : g < w.heap.size := by
      rcases Nat.lt_or_ge g w.heap.size with h1 | h1
      · exact h1
      · rw [Array.getElem?_eq_none h1] at h
        simp at h
    rw [hb.block g hlt]
    exact h
theorem below_grow1 (w : World) (n : Nat) (os : Array Obj) : RowKit.Below w.heap.size w (grow (w.drewN n) os) := Lib.below_grow _ _ (Nat.le_refl _) _ _
theorem small_any (i : Nat) (h : i < 100) (w : World) : Calls Tryz.prog 85 #[.int .i64 i] w fun e w' => e = .returned (.string ⟨(Lib.decDigits i).toArray⟩) ∧ w' = w :=
  Any.internal_strconv_small Tryz.laySmall i h w
theorem digits_any (u : Nat) (h1 : 1 ≤ u) (h2 : u < 18446744073709551616) (w : World) (ht : Tab w) : Calls Tryz.prog 86 #[.int .u64 u] w fun e w' => e = .returned (.int .i64 (Lib.nDigits u)) ∧ w' = w :=
  Any.internal_strconv_numDigits Tryz.layDigits u h1 h2 w ht
theorem base10_any (blk off cap : Nat) (u : Nat) (d : Array UInt8) (w : World) (hH : Holds (fun (b : UInt8) => Value.int .u8 (b.toNat : Int)) w blk off d) (hu : u < 10 ^ d.size) (hu64 : u < 18446744073709551616) (hsz : d.size < 4611686018427387904) :
    Calls Tryz.prog 87 #[.slice (some ⟨blk, off, none⟩) d.size cap, .int .u64 u] w fun e w' =>
      e = .returned (.tuple #[]) ∧ ∃ (n v' : Nat) (dk : Array UInt8), w' = (putRow (fun (b : UInt8) => Value.int .u8 (b.toNat : Int)) w blk off dk).drewN n ∧ FmtInv d.size u 0 v' dk :=
  Any.internal_strconv_formatBase10 Tryz.layBase10 blk off cap u d w hH hu hu64 hsz

set_option maxHeartbeats 4000000 in
theorem formatUint_any (u : Nat) (hu64 : u < 18446744073709551616) (w : World) (ht : Tab w) :
    Calls Tryz.prog 70 #[.int .u64 u, .int .i64 10] w fun e w' => e = .returned (.string ⟨(decL u).toArray⟩) ∧ ∃ k os, w' = grow (w.drewN k) os := by
  rw [← decL_dec]
  by_cases hs : u < 100
  · have hs' : (u : Int) < 100 := by omega
    go_enter Tryz.func70, Tryz.ntmps70
    go_wp2_with (go_at_call 85; refine (small_any u hs _).mono ?_; rintro e w' ⟨rfl, rfl⟩)
    go_ret
    exact ⟨rfl, 0, #[], by simp [World.drewN_zero, grow]⟩
  · have hu1 : 1 ≤ u := by omega
    have hnd20 : Lib.nDigits u ≤ 20 := Lib.nDigits_le20 u hu64
    have hal : Tryz.prog.arrayLen 124 = 24 := by kernel_rfl
    have hsl : ∀ W, (Instr.sliceAt 124 (.pointer (some ⟨w.heap.size, 0, none⟩)) none (some (.int .i64 (Lib.nDigits u : Int))) none).run Tryz.prog W = .ok (.slice (some ⟨w.heap.size, 0, none⟩) (Lib.nDigits u) 24) W := fun W => by
      rw [run_sliceAt_array_h W 124 ⟨w.heap.size, 0, none⟩ (by kernel_rfl) .i64 (Lib.nDigits u : Int) (by omega) (by rw [hal]; omega)]
      go_simp
    have hH0 := Lib.holds_zero0 w 124 (Lib.nDigits u) (by omega)
    have hfmt := base10_any w.heap.size 0 24 u (Array.replicate (Lib.nDigits u) 0) (w.alloc (.cells Lib.zeros24 124)) hH0 (by rw [Array.size_replicate]; exact Lib.lt_pow_nDigits u) hu64 (by rw [Array.size_replicate]; omega)
    rw [Array.size_replicate] at hfmt
    have HH0 := Lib.hid hH0
    have iu : ¬ ((u : Int) < 100) := by omega
    have HT := Lib.hid ht
    clear hH0 hal ht
    go_enter Tryz.func70, Tryz.ntmps70
    go_wp2_with (go_at_call 86; refine (digits_any u hu1 hu64 _ (HT.out.below ((RowKit.Below.refl _ _).alloc (Nat.le_refl _) _))).mono ?_; rintro e w' ⟨rfl, rfl⟩)
    go_at_call 87
    refine hfmt.mono ?_
    rintro e w' ⟨rfl, k, v', dk, rfl, hF⟩
    have hcv : (convert 30 9 (.slice (some ⟨w.heap.size, 0, none⟩) (Lib.nDigits u) 24)).run Tryz.prog ((putRow (fun (b : UInt8) => Value.int .u8 (b.toNat : Int)) (w.alloc (.cells Lib.zeros24 124)) w.heap.size 0 dk).drewN k) = .ok (.string ⟨(Lib.decDigits u).toArray⟩) ((putRow (fun (b : UInt8) => Value.int .u8 (b.toNat : Int)) (w.alloc (.cells Lib.zeros24 124)) w.heap.size 0 dk).drewN k) := by
      have h := run_convert_bytes_back (P := Tryz.prog) ((putRow (fun (b : UInt8) => Value.int .u8 (b.toNat : Int)) (w.alloc (.cells Lib.zeros24 124)) w.heap.size 0 dk).drewN k) 30 9 5 ⟨w.heap.size, 0, none⟩ 24 (Lib.decDigits u) Tryz.underlying30 Tryz.underlying5 Tryz.underlying9 (fun j hj => by
        rw [Lib.row_is_numeral hF j hj, Lib.add_plain, World.cell?_drewN]
        exact cell?_putRow (fun (b : UInt8) => Value.int .u8 (b.toNat : Int)) _ w.heap.size 0 _ dk HH0.out (by rw [hF.size, Array.size_replicate]) j (by rw [hF.size]; rw [Lib.decDigits_length] at hj; exact hj))
      rw [Lib.decDigits_length] at h
      exact h
    go_wp2
    go_ret
    obtain ⟨os, eo⟩ := Lib.fin_at w (.cells Lib.zeros24 124) dk k 0
    exact ⟨rfl, k, os, eo⟩

/-- item.Text: a number's digits -/
theorem text_any (u : Nat) (hu : u < 18446744073709551616) (w : World) (ht : Tab w) :
    Calls Tryz.prog 31 #[.int .u64 u] w fun e w' => e = .returned (.string ⟨(decL u).toArray⟩) ∧ ∃ k os, w' = grow (w.drewN k) os := by
  have HF := Hid.mk2 (formatUint_any u hu w ht)
  have HG : Calls Tryz.prog 49 #[.int .u64 u, .int .i64 10] w fun e w' => e = .returned (.string ⟨(decL u).toArray⟩) ∧ ∃ k os, w' = grow (w.drewN k) os := by
    go_enter Tryz.func49, Tryz.ntmps49
    go_wp2_with (go_at_call 70; refine HF.out.mono ?_; rintro e w' ⟨rfl, k, os, rfl⟩)
    go_ret
    exact ⟨rfl, k, os, rfl⟩
  go_enter Tryz.func31, Tryz.ntmps31
  go_wp2_with (go_at_call 49; refine HG.mono ?_; rintro e w' ⟨rfl, k, os, rfl⟩)
  go_ret
  exact ⟨rfl, k, os, rfl⟩
end Go.Proofs.YtblbabekbpcdiaaGreatDoor.It
/-
  (shaken)
-/
namespace Go.Proofs.YtblbabekbpcdiaaGreatDoor
open Go.Proofs.YtblbabekbpcdiaaGreatDoor.It
open Go.RowKit
set_option linter.unusedSimpArgs false
set_option linter.unusedVariables false
set_option maxRecDepth 100000

def Im.ar2 (x : Im) : Array Value := #[.string x.key, .string x.value, .int .u32 x.flags, .int .i64 x.till, .int .u64 x.unique]
theorem wtext_any (n : Int) (h0 : 0 ≤ n) (h1 : n < 18446744073709551616) (w : World) (ht : Tab w) : Calls Tryz.prog 31 #[.int .u64 n] w fun e w' => e = .returned (.string (dec n)) ∧ Below w.heap.size w w' := by
  obtain ⟨k, rfl⟩ : ∃ k : Nat, n = (k : Int) := ⟨n.toNat, by omega⟩
  refine (It.text_any k (by omega) w ht).mono ?_
  rintro e w' ⟨rfl, q, os, rfl⟩
  refine ⟨?_, below_grow1 w q os⟩
  unfold dec
  rw [Int.toNat_natCast]
theorem u64w {x : Int} (h0 : 0 ≤ x) (h1 : x < 18446744073709551616) : IntKind.u64.wrap x = x := by
  have e : IntKind.u64.wrap x = x % 18446744073709551616 := rfl
  rw [e]; omega
end Go.Proofs.YtblbabekbpcdiaaGreatDoor
/-
  (shaken)
-/
namespace Go.Proofs.YtblbabekbpcdiaaGreatDoor
open Go.Proofs.YtblbabekbpcdiaaGreatDoor.It
open Go.RowKit
set_option linter.unusedSimpArgs false
set_option linter.unusedVariables false
set_option maxRecDepth 100000

theorem blk_new (w : World) (o : Obj) : (w.alloc o).heap[w.heap.size]? = some o := by
  show (w.heap.push o)[w.heap.size]? = some o
  simp
theorem Sx.made (w : World) (b : Nat) (ws : List ByteArray) (hb : b < w.heap.size) : Sx (w.alloc (.cells (ws.map Value.string).toArray 9)) b (some ⟨w.heap.size, 0, none⟩) ws :=
  .inr ⟨w.heap.size, _, (0, 0), rfl, by omega, blk_new _ _, fun i hi => by simp [hi]⟩
theorem box_oth {w w' : World} {b X : Nat} {cur : Array Value} {t : TypeId} (h : w.heap[X]? = some (.cells cur t (0, 0))) (hX : X ≠ b) (ht : t ≠ 5) (ho : Oth w w' b) : w'.heap[X]? = some (.cells cur t (0, 0)) :=
  ho X _ h (fun e => hX (Option.some.inj e)) (fun c f e => by injection e with _ e2; exact ht e2)
theorem cell_box {w : World} {X : Nat} {cur : Array Value} {t : TypeId} (h : w.heap[X]? = some (.cells cur t (0, 0))) (j : Nat) (v : Value) (hv : cur[j]? = some v) : w.cell? ⟨X, j, none⟩ = some v := by rw [g_cell h, hv]

set_option maxHeartbeats 4000000 in
theorem putItem_any (w : World) (base b : Nat) (l : List UInt8) (x : Im) (hx : x.ok) (ht : Tab w) (h : Bu w base b l) (hb : base ≤ w.heap.size) (hl : l.length + x.lines.length ≤ 900000) :
    Calls Tryz.prog 13 #[.pointer (some ⟨b, 0, none⟩), .agg x.ar2] w fun e w' => e = .returned (.tuple #[]) ∧ Bu w' base b (l ++ x.lines) ∧ Below base w w' ∧ Oth w w' b := by
  obtain ⟨xk, xv, xf, xt, xu⟩ := x
  obtain ⟨hk, hv, ⟨t0, t1⟩, ⟨f0, f1⟩, ⟨u0, u1⟩⟩ := hx
  dsimp only at hk hv t0 t1 f0 f1 u0 u1
  have hvl : ((xv.size : Nat) : Int) ≤ 512 := by omega
  obtain ⟨W, hW⟩ : ∃ W, W = w.alloc (.cells #[.string xk, .string xv, .int .u32 xf, .int .i64 xt, .int .u64 xu] 40) := ⟨_, rfl⟩
  have hB0 : Below w.heap.size w W := by rw [hW]; exact g_alloc _ _
  have HB := Hid.mk2 hB0
  have HX : Hid (W.heap[w.heap.size]? = some (.cells #[.string xk, .string xv, .int .u32 xf, .int .i64 xt, .int .u64 xu] 40 (0, 0))) := by show _ = _; rw [hW]; exact blk_new _ _
  have HU := Hid.mk2 (h.below hB0)
  have hbl := h.lt
  have HSB := Hid.mk2 hb
  have HXb : Hid (w.heap.size ≠ b ∧ b < W.heap.size ∧ base ≤ W.heap.size) := ⟨by omega, Nat.lt_of_lt_of_le hbl.2 hB0.size, Nat.le_trans hb hB0.size⟩
  have HT : Hid (∀ (n : Int), 0 ≤ n → n < 18446744073709551616 → ∀ V, Below W.heap.size W V → Calls Tryz.prog 31 #[.int .u64 n] V fun e w' => e = .returned (.string (dec n)) ∧ Below V.heap.size V w') := fun n h0 h1 V hV => wtext_any n h0 h1 V ((ht.below hB0).below hV)
  have HT1 := Hid.mk2 (HT.out xf f0 (by omega))
  have HT2 := Hid.mk2 (HT.out xt t0 (by omega))
  have HT3 := Hid.mk2 (HT.out xu u0 u1)
  have HT4 := Hid.mk2 (HT.out (xv.size : Int) (by omega) (by omega))
  have HPL := Hid.mk2 (fun V l ws ao cap h hb hx hl m hm hm2 => putLine_any V base b l ws ao cap h hb hx hl m hm hm2)
  have HL : Hid (l.length + (joinW [sVALUE, xk, dec xf, dec xt, dec xu, dec (xv.size : Int)]).length + 2 ≤ 1000000 ∧ (l ++ (joinW [sVALUE, xk, dec xf, dec xt, dec xu, dec (xv.size : Int)] ++ [13, 10])).length + (joinW [xv]).length + 2 ≤ 1000000) := by
    show _ ∧ _
    have h1 := hl
    unfold Im.lines Im.words at h1
    dsimp only at h1
    rw [joinW_one]
    simp only [List.length_append, List.length_cons, List.length_nil] at h1 ⊢
    omega
  have HLN : Hid ((l ++ (joinW [sVALUE, xk, dec xf, dec xt, dec xu, dec (xv.size : Int)] ++ [13, 10])) ++ (joinW [xv] ++ [13, 10]) = l ++ (Im.mk xk xv xf xt xu).lines) := by
    show _ = _
    unfold Im.lines Im.words
    dsimp only
    rw [joinW_one]
    simp
  obtain ⟨LN, hLN⟩ : ∃ LN, LN = (Im.mk xk xv xf xt xu).lines := ⟨_, rfl⟩
  rw [← hLN] at HLN ⊢
  obtain ⟨D1, hD1⟩ : ∃ D, D = dec xf := ⟨_, rfl⟩
  obtain ⟨D2, hD2⟩ : ∃ D, D = dec xt := ⟨_, rfl⟩
  obtain ⟨D3, hD3⟩ : ∃ D, D = dec xu := ⟨_, rfl⟩
  obtain ⟨D4, hD4⟩ : ∃ D, D = dec (xv.size : Int) := ⟨_, rfl⟩
  rw [← hD1] at HT1 HL HLN
  rw [← hD2] at HT2 HL HLN
  rw [← hD3] at HT3 HL HLN
  rw [← hD4] at HT4 HL HLN
  have wf : IntKind.u64.wrap xf = xf := u64w f0 (by omega)
  have wt : IntKind.u64.wrap xt = xt := u64w t0 (by omega)
  have wv : IntKind.u64.wrap (xv.size : Int) = (xv.size : Int) := u64w (by omega) (by omega)
  have x0 := cell_box HX.out 0 (.string xk) rfl
  have x1 := cell_box HX.out 1 (.string xv) rfl
  have x2 := cell_box HX.out 2 (.int .u32 xf) rfl
  have x3 := cell_box HX.out 3 (.int .i64 xt) rfl
  have x4 := cell_box HX.out 4 (.int .u64 xu) rfl
  clear hLN hD1 hD2 hD3 hD4 hB0 hbl hl ht h hb hk hv HT
  unfold Im.ar2
  dsimp only
  go_enter Tryz.func13, Tryz.ntmps13
  go_upto_region 1 with (fail)
  rw [← hW]
  clear hW
  go_cut [4, 5, 6] from 7 (fun s4 s5 s6 wx => s4 = .int .u64 xf ∧ s5 = .int .u64 xt ∧ s6 = .int .u64 (xv.size : Int) ∧ Hid (Below W.heap.size W wx))
  case first =>
    go_quiet (fail)
    go_wp2
    go_meet
    case rel => exact ⟨by first | rfl | rw [wf], by first | rfl | rw [wt], by first | rfl | rw [wv], (Below.refl _ _).trans ⟨rfl, rfl, rfl, Nat.le_refl _, fun _ _ => rfl⟩⟩
  case rest =>
    rename_i hK
    refine hK _ _ ?_
    clear hK
    obtain ⟨rfl, rfl, rfl, HBX⟩ := hcut
    obtain ⟨w0, hw0⟩ : ∃ w0, w0 = wc := ⟨_, rfl⟩
    rw [← hw0] at HBX ⊢
    clear hw0 x0 x1 x2 x3 x4 wf wt wv
    have HX0 : Hid (w0.heap[w.heap.size]? = some (.cells #[.string xk, .string xv, .int .u32 xf, .int .i64 xt, .int .u64 xu] 40 (0, 0))) := by
      show _ = _
      rw [HBX.out.block _ (Array.getElem?_eq_some_iff.1 HX.out).1]
      exact HX.out
    have HU0 := Hid.mk2 (HU.out.below HBX.out)
    have HB0 := Hid.mk2 (g_on HB.out HBX.out)
    have HXb0 : Hid (w.heap.size ≠ b ∧ b < w0.heap.size ∧ base ≤ w0.heap.size) := ⟨HXb.out.1, Nat.lt_of_lt_of_le HXb.out.2.1 HBX.out.size, Nat.le_trans HXb.out.2.2 HBX.out.size⟩
    have x0 := cell_box HX0.out 0 (.string xk) rfl
    have x4 := cell_box HX0.out 4 (.int .u64 xu) rfl
    have HSW : Hid (∀ V, Below w0.heap.size w0 V → V.cell? ⟨w.heap.size, 0, none⟩ = some (.string xk) ∧ V.cell? ⟨w.heap.size, 4, none⟩ = some (.int .u64 xu)) := fun V hV => ⟨(hV.cell (p := ⟨w.heap.size, 0, none⟩) (Array.getElem?_eq_some_iff.1 HX0.out).1).trans x0, (hV.cell (p := ⟨w.heap.size, 4, none⟩) (Array.getElem?_eq_some_iff.1 HX0.out).1).trans x4⟩
    go_upto_region 2 with (fail)
    go_cut [3] from 7 (fun s3 wx => s3 = .pointer (some ⟨w.heap.size, 0, none⟩) ∧ Hid (Bu wx base b (l ++ (joinW [sVALUE, xk, D1, D2, D3, D4] ++ [13, 10])) ∧ Below base w0 wx ∧ Oth w0 wx b))
    case first =>
      go_region_held3 (fun V => V.cell? ⟨w.heap.size, 0, none⟩ = some (.string xk) ∧ V.cell? ⟨w.heap.size, 4, none⟩ = some (.int .u64 xu)) (first | exact HSP.out | exact HSW.out _ (by repeat' (first | with_reducible exact HB4.out | with_reducible exact HB3.out | with_reducible exact HB2.out | with_reducible exact HB1.out | with_reducible exact Below.refl _ _ | with_reducible refine Below.drew ?_ | with_reducible refine g_on ?_ (g_alloc _ _))))
        (first
        | (have h9 := HB3; go_at_call 31; refine (HT4.out _ (g_on HBX.out HB3.out)).mono ?_; rintro e w4 ⟨rfl, hb4⟩; have HB4 := Hid.mk2 (g_on HB3.out hb4); clear hb4)
        | (have h9 := HB2; go_at_call 31; refine (HT3.out _ (g_on HBX.out HB2.out)).mono ?_; rintro e w3 ⟨rfl, hb3⟩; have HB3 := Hid.mk2 (g_on HB2.out hb3); clear hb3)
        | (have h9 := HB1; go_at_call 31; refine (HT2.out _ (g_on HBX.out HB1.out)).mono ?_; rintro e w2 ⟨rfl, hb2⟩; have HB2 := Hid.mk2 (g_on HB1.out hb2); clear hb2)
        | (go_at_call 31; refine (HT1.out _ (HBX.out.drew)).mono ?_; rintro e w1 ⟨rfl, hb1⟩; have HB1 : Hid (Below w0.heap.size w0 w1) := g_drew hb1; clear hb1)
        | (go_at_call 14; have h9 := HB4; refine (HPL.out _ l [sVALUE, xk, D1, D2, D3, D4] _ _ (HU0.out.below (g_on HB4.out (g_alloc _ _))) (Nat.le_trans HXb0.out.2.2 (g_on HB4.out (g_alloc _ _)).size) (Sx.made w4 b [sVALUE, xk, D1, D2, D3, D4] (Nat.lt_of_lt_of_le HXb0.out.2.1 HB4.out.size)) HL.out.1 6 rfl (by decide)).mono ?_; rintro e w5 ⟨rfl, hu5, hb5, ho5⟩; have HU5 := Hid.mk2 hu5; have HB5 : Hid (Below base w0 w5) := ((g_on HB4.out (g_alloc _ _)).mono HXb0.out.2.2).trans hb5; have HO5 : Hid (Oth w0 w5 b) := (Oth.of_below (g_on HB4.out (g_alloc _ _))).trans ho5; have HX5 := Hid.mk2 (box_oth HX0.out HXb0.out.1 (by decide) HO5.out); have HSP : Hid (w5.cell? ⟨w.heap.size, 0, none⟩ = some (.string xk) ∧ w5.cell? ⟨w.heap.size, 4, none⟩ = some (.int .u64 xu)) := ⟨cell_box HX5.out 0 _ rfl, cell_box HX5.out 4 _ rfl⟩; clear hu5 hb5 ho5))
      all_goals
        go_wp2_with fail
        go_meet
        case rel => exact ⟨rfl, HU5.out, HB5.out, HO5.out⟩
    case rest =>
      obtain ⟨rfl, HC⟩ := hcut
      obtain ⟨w5, hw5⟩ : ∃ w5, w5 = wc := ⟨_, rfl⟩
      rw [← hw5] at HC ⊢
      clear hw5 x0 x4
      have HX5 := Hid.mk2 (box_oth HX0.out HXb0.out.1 (by decide) HC.out.2.2)
      have y1 := cell_box HX5.out 1 (.string xv) rfl
      have HXb5 : Hid (b < w5.heap.size ∧ base ≤ w5.heap.size) := ⟨Nat.lt_of_lt_of_le HXb0.out.2.1 HC.out.2.1.size, Nat.le_trans HXb0.out.2.2 HC.out.2.1.size⟩
      go_wp2_with (go_at_call 14; refine (HPL.out _ _ [xv] _ _ (HC.out.1.below (g_alloc _ _)) (Nat.le_trans HXb5.out.2 (g_alloc _ _).size) (Sx.made w5 b [xv] HXb5.out.1) HL.out.2 1 rfl (by decide)).mono ?_; rintro e w6 ⟨rfl, hu6, hb6, ho6⟩)
      refine bodyPost_end (results_none rfl _ _ _) rfl ?_
      refine ⟨rfl, by rw [← HLN.out]; exact hu6, ?_, ?_⟩
      · exact (HB0.out.mono HSB.out).trans (HC.out.2.1.trans (((Below.refl _ _).alloc HXb5.out.2 _).trans hb6))
      · exact (Oth.of_below HB0.out).trans (HC.out.2.2.trans ((Oth.of_below (g_alloc _ _)).trans ho6))
end Go.Proofs.YtblbabekbpcdiaaGreatDoor
/-
  (shaken)
-/
namespace Go.Proofs.YtblbabekbpcdiaaGreatDoor
open Go.Proofs.YtblbabekbpcdiaaGreatDoor.It
open Go.RowKit
set_option linter.unusedSimpArgs false
set_option linter.unusedVariables false
set_option maxRecDepth 100000

/-- what is answered of a result that a line tells -/
structure ResR (w w' : World) (o : Option (Int × Int)) (e : Ending) : Prop where
  ex : ∃ (rk num : Int) (b : Bool), e = .returned (.tuple #[.agg #[.int .u8 rk, .slice none 0 0, .int .u64 num], .bool b]) ∧ ((b = true ∧ o = some (rk, num)) ∨ (b = false ∧ o = none))
  below : Below w.heap.size w w'
theorem sne_b {s t : ByteArray} (h : ¬ s = t) : (s.toList == t.toList) = false := by
  rw [ByteArray.toList_eq, ByteArray.toList_eq]
  simp only [beq_eq_false_iff_ne, ne_eq]
  intro e
  exact h (by cases s; cases t; simp at e ⊢; exact e)
def rez : List Value := [.int .u8 0, .slice none 0 0, .int .u64 0]

set_option maxHeartbeats 2000000 in
theorem wdoneOf_any (s : ByteArray) (of_ : Int) (V : World) :
    Calls Tryz.prog 77 #[.string s, .int .u8 of_] V fun e V' => ResR V V' (doneOf of_ s) e := by
  obtain ⟨W, hW⟩ : ∃ W, W = V.alloc (.cells #[.int .u8 0, .slice none 0 0, .int .u64 0] 25) := ⟨_, rfl⟩
  have HB : Hid (Below V.heap.size V W) := by rw [hW]; exact g_alloc _ _
  have HX : Hid (GBx W V.heap.size rez) := by rw [hW]; exact GBx.made V rez _
  have HM := Hid.mk2 (fun W => wmostNumber_any of_ W)
  have HD := Hid.mk2 (fun W => wdoneWord_any of_ W)
  have HDO : Hid (doneOf of_ s = if mostN of_ = 0 then (if s = doneW of_ then some (1, 0) else none) else if (bl s).take ((bl (doneW of_)).length + 1) = bl (doneW of_) ++ [32] ∧ numU (mostN of_).toNat (mkB ((bl s).drop ((bl (doneW of_)).length + 1))) = true then some (1, (numV ((bl s).drop ((bl (doneW of_)).length + 1)) : Int)) else none) := rfl
  obtain ⟨O, hO⟩ : ∃ O, O = doneOf of_ s := ⟨_, rfl⟩
  rw [← hO] at HDO ⊢
  clear hO
  by_cases h0 : mostN of_ = 0
  · rw [h0] at HM
    rw [if_pos h0] at HDO
    obtain ⟨D, hD⟩ : ∃ D, D = doneW of_ := ⟨_, rfl⟩
    rw [← hD] at HD HDO
    clear h0 hD
    have z0 := HX.out.c 0 (by simp [rez])
    have z1 := HX.out.c 1 (by simp [rez])
    have z2 := HX.out.c 2 (by simp [rez])
    simp only [rez, List.getElem_cons_zero, List.getElem_cons_succ] at z0 z1 z2
    have zf0 := HX.out.f 0
    have zf1 := HX.out.f 1
    have zf2 := HX.out.f 2
    have zlt := HX.out.lt
    by_cases hs : s = D
    · subst hs
      rw [if_pos rfl] at HDO
      have q1 : (s.toList == s.toList) = true := by simp
      go_enter Tryz.func77, Tryz.ntmps77
      go_upto_region 1 with (fail)
      rw [← hW]
      clear hW
      go_wp2_with (first
        | (go_at_call 51; refine (HM.out _).mono ?_; rintro e w1 ⟨rfl, rfl⟩)
        | (go_at_call 52; refine (HD.out _).mono ?_; rintro e w2 ⟨rfl, rfl⟩))
      refine bodyPost_ret (res_cell rfl rfl (load_var (zset3 HX.out rfl _ _ _) 25 _ Tryz.underlying25 rfl result_info)) rfl ?_
      exact ⟨⟨1, 0, true, rfl, .inl ⟨rfl, HDO.out⟩⟩, zbelow3 HB.out (Nat.le_refl _) _ _ _⟩
    · rw [if_neg hs] at HDO
      have q1 : (s.toList == D.toList) = false := sne_b hs
      clear hs
      go_enter Tryz.func77, Tryz.ntmps77
      go_upto_region 1 with (fail)
      rw [← hW]
      clear hW
      go_wp2_with (first
        | (go_at_call 51; refine (HM.out _).mono ?_; rintro e w1 ⟨rfl, rfl⟩)
        | (go_at_call 52; refine (HD.out _).mono ?_; rintro e w2 ⟨rfl, rfl⟩))
      refine bodyPost_ret (res_cell rfl rfl (load_var (zset3 HX.out rfl _ _ _) 25 _ Tryz.underlying25 rfl result_info)) rfl ?_
      exact ⟨⟨1, 0, false, rfl, .inr ⟨rfl, HDO.out⟩⟩, zbelow3 HB.out (Nat.le_refl _) _ _ _⟩
  · rw [if_neg h0] at HDO
    have hM : ∃ M : Nat, mostN of_ = (M : Int) ∧ M < 18446744073709551616 := by
      unfold mostN
      split
      · exact ⟨18446744073709551615, rfl, by decide⟩
      · split
        · exact ⟨8, rfl, by decide⟩
        · exact ⟨0, rfl, by decide⟩
    obtain ⟨M, hMe, hMl⟩ := hM
    rw [hMe] at HM HDO h0
    rw [Int.toNat_natCast] at HDO
    have hM0 : ((M : Int) == 0) = false := by simpa using h0
    have hsz : (doneW of_).size ≤ 10 := by
      unfold doneW
      repeat' split
      all_goals decide
    obtain ⟨D, hD⟩ : ∃ D, D = doneW of_ := ⟨_, rfl⟩
    rw [← hD] at HD HDO hsz
    have hszn : ¬ 9223372036854775807 < D.size + 1 := by omega
    clear hD hMe hsz
    have hbl : bl (D ++ ⟨#[32]⟩) = bl D ++ [32] := by
      unfold bl
      simp
    have hll : (bl (D ++ ⟨#[32]⟩)).length = (bl D).length + 1 := by rw [hbl]; simp
    have hcp := fun W => wcutPre_any s (D ++ ⟨#[32]⟩) W
    rw [hbl] at hcp
    have hl2 : (bl D ++ ([32] : List UInt8)).length = (bl D).length + 1 := by simp
    rw [hl2] at hcp
    clear hbl hll
    by_cases hp : (bl s).take ((bl D).length + 1) = bl D ++ [32]
    · simp only [if_pos hp] at hcp
      have HCP := Hid.mk2 hcp
      obtain ⟨T, hT⟩ : ∃ T, T = mkB ((bl s).drop ((bl D).length + 1)) := ⟨_, rfl⟩
      have hbT : bl T = (bl s).drop ((bl D).length + 1) := by rw [hT]; exact bl_mk _
      have hnu := fun W => wnumberUpTo_any M hMl T W
      rw [← hT] at HCP HDO
      rw [hbT] at hnu
      obtain ⟨N, hN⟩ : ∃ N, N = numV ((bl s).drop ((bl D).length + 1)) := ⟨_, rfl⟩
      rw [← hN] at hnu HDO
      obtain ⟨BB, hBB⟩ : ∃ BB, BB = numU M T := ⟨_, rfl⟩
      rw [← hBB] at hnu HDO
      have HNU := Hid.mk2 hnu
      clear hcp hT hbT hnu hN hBB hMl
      cases BB with
      | true =>
        rw [if_pos ⟨hp, rfl⟩] at HDO
        clear hp
        go_enter Tryz.func77, Tryz.ntmps77
        go_upto_region 1 with (fail)
        rw [← hW]
        clear hW
        go_wp2_with (first
          | (go_at_call 51; refine (HM.out _).mono ?_; rintro e w1 ⟨rfl, rfl⟩)
          | (go_at_call 52; refine (HD.out _).mono ?_; rintro e w2 ⟨rfl, rfl⟩)
          | (go_at_call 61; refine (HCP.out _).mono ?_; rintro e w3 ⟨rfl, rfl⟩)
          | (go_at_call 64; refine (HNU.out _).mono ?_; rintro e w4 ⟨rfl, hb4⟩; have HX4 := Hid.mk2 (HX.out.below hb4); have HB4 := Hid.mk2 (g_on HB.out hb4); have z0 := HX4.out.c 0 (by simp [rez]); have z1 := HX4.out.c 1 (by simp [rez]); have z2 := HX4.out.c 2 (by simp [rez]); simp only [rez, List.getElem_cons_zero, List.getElem_cons_succ] at z0 z1 z2; have zf0 := HX4.out.f 0; have zf1 := HX4.out.f 1; have zf2 := HX4.out.f 2; have zlt := HX4.out.lt; clear hb4))
        refine bodyPost_ret (res_cell rfl rfl (load_var (zset3 HX4.out rfl _ _ _) 25 _ Tryz.underlying25 rfl result_info)) rfl ?_
        exact ⟨⟨1, N, true, rfl, .inl ⟨rfl, HDO.out⟩⟩, zbelow3 HB4.out (Nat.le_refl _) _ _ _⟩
      | false =>
        rw [if_neg (by rintro ⟨_, h⟩; cases h)] at HDO
        clear hp
        go_enter Tryz.func77, Tryz.ntmps77
        go_upto_region 1 with (fail)
        rw [← hW]
        clear hW
        go_wp2_with (first
          | (go_at_call 51; refine (HM.out _).mono ?_; rintro e w1 ⟨rfl, rfl⟩)
          | (go_at_call 52; refine (HD.out _).mono ?_; rintro e w2 ⟨rfl, rfl⟩)
          | (go_at_call 61; refine (HCP.out _).mono ?_; rintro e w3 ⟨rfl, rfl⟩)
          | (go_at_call 64; refine (HNU.out _).mono ?_; rintro e w4 ⟨rfl, hb4⟩; have HX4 := Hid.mk2 (HX.out.below hb4); have HB4 := Hid.mk2 (g_on HB.out hb4); have z0 := HX4.out.c 0 (by simp [rez]); have z1 := HX4.out.c 1 (by simp [rez]); have z2 := HX4.out.c 2 (by simp [rez]); simp only [rez, List.getElem_cons_zero, List.getElem_cons_succ] at z0 z1 z2; have zf0 := HX4.out.f 0; have zf1 := HX4.out.f 1; have zf2 := HX4.out.f 2; have zlt := HX4.out.lt; clear hb4))
        refine bodyPost_ret (res_cell rfl rfl (load_var (zset3 HX4.out rfl _ _ _) 25 _ Tryz.underlying25 rfl result_info)) rfl ?_
        exact ⟨⟨1, N, false, rfl, .inr ⟨rfl, HDO.out⟩⟩, zbelow3 HB4.out (Nat.le_refl _) _ _ _⟩
    · simp only [if_neg hp] at hcp
      have HCP := Hid.mk2 hcp
      rw [if_neg (fun h => hp h.1)] at HDO
      have HNU := Hid.mk2 (fun W => wnumberUpTo_any M hMl s W)
      obtain ⟨N, hN⟩ : ∃ N, N = numV (bl s) := ⟨_, rfl⟩
      obtain ⟨BB, hBB⟩ : ∃ BB, BB = numU M s := ⟨_, rfl⟩
      rw [← hN, ← hBB] at HNU
      clear hcp hN hBB hMl hp
      go_enter Tryz.func77, Tryz.ntmps77
      go_upto_region 1 with (fail)
      rw [← hW]
      clear hW
      go_wp2_with (first
        | (go_at_call 51; refine (HM.out _).mono ?_; rintro e w1 ⟨rfl, rfl⟩)
        | (go_at_call 52; refine (HD.out _).mono ?_; rintro e w2 ⟨rfl, rfl⟩)
        | (go_at_call 61; refine (HCP.out _).mono ?_; rintro e w3 ⟨rfl, rfl⟩)
        | (go_at_call 64; refine (HNU.out _).mono ?_; rintro e w4 ⟨rfl, hb4⟩; have HX4 := Hid.mk2 (HX.out.below hb4); have HB4 := Hid.mk2 (g_on HB.out hb4); have z0 := HX4.out.c 0 (by simp [rez]); have z1 := HX4.out.c 1 (by simp [rez]); have z2 := HX4.out.c 2 (by simp [rez]); simp only [rez, List.getElem_cons_zero, List.getElem_cons_succ] at z0 z1 z2; have zf0 := HX4.out.f 0; have zf1 := HX4.out.f 1; have zf2 := HX4.out.f 2; have zlt := HX4.out.lt; clear hb4))
      refine bodyPost_ret (res_cell rfl rfl (load_var (zset3 HX4.out rfl _ _ _) 25 _ Tryz.underlying25 rfl result_info)) rfl ?_
      exact ⟨⟨1, N, false, rfl, .inr ⟨rfl, HDO.out⟩⟩, zbelow3 HB4.out (Nat.le_refl _) _ _ _⟩
end Go.Proofs.YtblbabekbpcdiaaGreatDoor
/-
  (shaken)
-/
namespace Go.Proofs.YtblbabekbpcdiaaGreatDoor
open Go.Proofs.YtblbabekbpcdiaaGreatDoor.It
open Go.RowKit
set_option linter.unusedSimpArgs false
set_option linter.unusedVariables false
set_option maxRecDepth 100000

/-- the words of results lie as their text lays them -/
structure Rt (V : World) : Prop where
  at_ : ∀ i : Nat, i < 8 → V.cell? ⟨0, i, none⟩ = some (.string (resW i))
theorem Rt.below {V V' : World} (h : Rt V) (hb : Below V.heap.size V V') : Rt V' :=
  ⟨fun i hi => (hb.cell (p := ⟨0, i, none⟩) (World.block_lt_of_cell? _ _ (h.at_ i hi))).trans (h.at_ i hi)⟩

set_option maxHeartbeats 4000000 in
theorem wresultOf_any (s : ByteArray) (of_ : Int) (V : World) (hr : Rt V) :
    Calls Tryz.prog 63 #[.string s, .int .u8 of_] V fun e V' => ResR V V' (resOf of_ s) e := by
  obtain ⟨W, hW⟩ : ∃ W, W = V.alloc (.cells #[.int .u8 0, .slice none 0 0, .int .u64 0] 25) := ⟨_, rfl⟩
  have hB0 : Below V.heap.size V W := by rw [hW]; exact g_alloc _ _
  have HB : Hid (Below V.heap.size V W) := hB0
  have HX : Hid (GBx W V.heap.size rez) := by rw [hW]; exact GBx.made V rez _
  have hrt := (hr.below hB0).at_
  have HC := Hid.mk2 (fun W => wisCommand_any of_ W)
  have HD := Hid.mk2 (fun W => wdoneOf_any s of_ W)
  have HRO : Hid (resOf of_ s = if isCmd of_ = false then none else if s = sNOTFOUND then some (2, 0) else if s = sEXISTS then some (3, 0) else if s = sTOOLARGE then some (4, 0) else if s = sNOMEMORY then some (5, 0) else if s = sNOTNUMBER then some (6, 0) else if s = sDENIED then some (7, 0) else doneOf of_ s) := rfl
  obtain ⟨O, hO⟩ : ∃ O, O = resOf of_ s := ⟨_, rfl⟩
  obtain ⟨D, hD⟩ : ∃ D, D = doneOf of_ s := ⟨_, rfl⟩
  rw [← hO, ← hD] at HRO
  rw [← hO]
  rw [← hD] at HD
  obtain ⟨IC, hIC⟩ : ∃ IC, IC = isCmd of_ := ⟨_, rfl⟩
  rw [← hIC] at HC HRO
  clear hO hD hIC hB0 hr
  have z0 := HX.out.c 0 (by simp [rez])
  have z1 := HX.out.c 1 (by simp [rez])
  have z2 := HX.out.c 2 (by simp [rez])
  simp only [rez, List.getElem_cons_zero, List.getElem_cons_succ] at z0 z1 z2
  have zf0 := HX.out.f 0
  have zf1 := HX.out.f 1
  have zf2 := HX.out.f 2
  have zlt := HX.out.lt
  cases IC with
  | false =>
    have HO : Hid (O = none) := by show _ = _; rw [HRO.out, if_pos rfl]
    clear hrt HRO
    go_enter Tryz.func63, Tryz.ntmps63
    go_upto_region 1 with (fail)
    rw [← hW]
    clear hW
    go_wp2_with (go_at_call 68; refine (HC.out _).mono ?_; rintro e w1 ⟨rfl, rfl⟩)
    refine bodyPost_ret (res_cell rfl rfl (load_var (zset3 HX.out rfl _ _ _) 25 _ Tryz.underlying25 rfl result_info)) rfl ?_
    exact ⟨⟨0, 0, false, rfl, .inr ⟨rfl, HO.out⟩⟩, zbelow3 HB.out (Nat.le_refl _) _ _ _⟩
  | true =>
    have HRO2 := Hid.mk2 (HRO.out.trans (if_neg (by decide)))
    clear HRO
    have c0 : W.cell? ⟨0, 0, none⟩ = some (.string ⟨#[]⟩) := hrt 0 (by decide)
    have c1 : W.cell? ⟨0, 1, none⟩ = some (.string ⟨#[]⟩) := hrt 1 (by decide)
    have c2 : W.cell? ⟨0, 2, none⟩ = some (.string sNOTFOUND) := hrt 2 (by decide)
    have c3 : W.cell? ⟨0, 3, none⟩ = some (.string sEXISTS) := hrt 3 (by decide)
    have c4 : W.cell? ⟨0, 4, none⟩ = some (.string sTOOLARGE) := hrt 4 (by decide)
    have c5 : W.cell? ⟨0, 5, none⟩ = some (.string sNOMEMORY) := hrt 5 (by decide)
    have c6 : W.cell? ⟨0, 6, none⟩ = some (.string sNOTNUMBER) := hrt 6 (by decide)
    have c7 : W.cell? ⟨0, 7, none⟩ = some (.string sDENIED) := hrt 7 (by decide)
    clear hrt
    go_enter Tryz.func63, Tryz.ntmps63
    go_upto_region 1 with (fail)
    rw [← hW]
    clear hW
    go_wp2_with (go_at_call 68; refine (HC.out _).mono ?_; rintro e w1 ⟨rfl, rfl⟩)
    go_loopw [6, 7, 13] (fun _ _ s13 wr => ∃ j : Int, s13 = .int .i64 j ∧ 0 ≤ j ∧ j ≤ 8 ∧ wr = w1 ∧ ∀ i : Nat, 2 ≤ i → (i : Int) < j → ¬ s = resW i) (fun _ _ s13 _ => 8 - (intOf s13).toNat)
    case atStart => exact ⟨0, by first | rfl | simp, by decide, by decide, by first | rfl | trivial, fun i _ h => by omega⟩
    case round =>
      obtain ⟨j, rfl, hj0, hj, rfl, hno⟩ := hrel
      have hcases : j = 0 ∨ j = 1 ∨ j = 2 ∨ j = 3 ∨ j = 4 ∨ j = 5 ∨ j = 6 ∨ j = 7 ∨ j = 8 := by omega
      have HNO := Hid.mk2 hno
      clear hj0 hj hno
      rcases hcases with rfl | rfl | rfl | rfl | rfl | rfl | rfl | rfl | rfl
      · by_cases he : s = ⟨#[]⟩
        · subst he
          have q1 : ((⟨#[]⟩ : ByteArray).toList == (⟨#[]⟩ : ByteArray).toList) = true := by simp
          go_wp2
          rename_i hK
          refine hK _ _ ?_
          change wpList Tryz.prog _ _ _ (Act.put _ _ (.string ⟨#[]⟩)) _
          clear hK
          go_wp2
          all_goals exact ⟨⟨1, by first | rfl | simp, by decide, by decide, by first | rfl | trivial, fun i h1 h2 => by omega⟩, by simp [intOf]⟩
        · have q1 : ((⟨#[]⟩ : ByteArray).toList == s.toList) = false := sne_b (fun e => he e.symm)
          go_wp2
          rename_i hK
          refine hK _ _ ?_
          change wpList Tryz.prog _ _ _ (Act.put _ _ (.string ⟨#[]⟩)) _
          clear hK
          go_wp2
          all_goals exact ⟨⟨1, by first | rfl | simp, by decide, by decide, by first | rfl | trivial, fun i h1 h2 => by omega⟩, by simp [intOf]⟩
      · by_cases he : s = ⟨#[]⟩
        · subst he
          have q1 : ((⟨#[]⟩ : ByteArray).toList == (⟨#[]⟩ : ByteArray).toList) = true := by simp
          go_wp2
          rename_i hK
          refine hK _ _ ?_
          change wpList Tryz.prog _ _ _ (Act.put _ _ (.string ⟨#[]⟩)) _
          clear hK
          go_wp2
          all_goals exact ⟨⟨2, by first | rfl | simp, by decide, by decide, by first | rfl | trivial, fun i h1 h2 => by omega⟩, by simp [intOf]⟩
        · have q1 : ((⟨#[]⟩ : ByteArray).toList == s.toList) = false := sne_b (fun e => he e.symm)
          go_wp2
          rename_i hK
          refine hK _ _ ?_
          change wpList Tryz.prog _ _ _ (Act.put _ _ (.string ⟨#[]⟩)) _
          clear hK
          go_wp2
          all_goals exact ⟨⟨2, by first | rfl | simp, by decide, by decide, by first | rfl | trivial, fun i h1 h2 => by omega⟩, by simp [intOf]⟩
      · by_cases he : s = sNOTFOUND
        · have q1 : (sNOTFOUND.toList == s.toList) = true := by rw [he]; simp
          have q2 : sNOTFOUND.toList.isEmpty = false := by rw [ByteArray.toList_eq]; rfl
          have HO : Hid (O = some (2, 0)) := by show _ = _; rw [HRO2.out, if_pos he]
          clear he HRO2 HNO
          go_wp2
          rename_i hK
          refine hK _ _ ?_
          change wpList Tryz.prog _ _ _ (Act.put _ _ (.string sNOTFOUND)) _
          clear hK
          go_wp2
          refine bodyPost_ret (res_cell rfl rfl (load_var (zset3 HX.out rfl _ _ _) 25 _ Tryz.underlying25 rfl result_info)) rfl ?_
          exact ⟨⟨2, 0, true, rfl, .inl ⟨rfl, HO.out⟩⟩, zbelow3 HB.out (Nat.le_refl _) _ _ _⟩
        · have q1 : (sNOTFOUND.toList == s.toList) = false := sne_b (fun e => he e.symm)
          have HE := Hid.mk2 he
          clear he
          go_wp2
          rename_i hK
          refine hK _ _ ?_
          change wpList Tryz.prog _ _ _ (Act.put _ _ (.string sNOTFOUND)) _
          clear hK
          go_wp2
          all_goals exact ⟨⟨3, by first | rfl | simp, by decide, by decide, by first | rfl | trivial, fun i h1 h2 => by
            rcases Nat.lt_or_ge i 2 with h | h
            · exact HNO.out i h1 (by omega)
            · have : i = 2 := by omega
              subst this; exact HE.out⟩, by simp [intOf]⟩
      · by_cases he : s = sEXISTS
        · have q1 : (sEXISTS.toList == s.toList) = true := by rw [he]; simp
          have q2 : sEXISTS.toList.isEmpty = false := by rw [ByteArray.toList_eq]; rfl
          have HO : Hid (O = some (3, 0)) := by show _ = _; rw [HRO2.out, if_neg (show ¬ s = sNOTFOUND from HNO.out 2 (by decide) (by decide)), if_pos he]
          clear he HRO2 HNO
          go_wp2
          rename_i hK
          refine hK _ _ ?_
          change wpList Tryz.prog _ _ _ (Act.put _ _ (.string sEXISTS)) _
          clear hK
          go_wp2
          refine bodyPost_ret (res_cell rfl rfl (load_var (zset3 HX.out rfl _ _ _) 25 _ Tryz.underlying25 rfl result_info)) rfl ?_
          exact ⟨⟨3, 0, true, rfl, .inl ⟨rfl, HO.out⟩⟩, zbelow3 HB.out (Nat.le_refl _) _ _ _⟩
        · have q1 : (sEXISTS.toList == s.toList) = false := sne_b (fun e => he e.symm)
          have HE := Hid.mk2 he
          clear he
          go_wp2
          rename_i hK
          refine hK _ _ ?_
          change wpList Tryz.prog _ _ _ (Act.put _ _ (.string sEXISTS)) _
          clear hK
          go_wp2
          all_goals exact ⟨⟨4, by first | rfl | simp, by decide, by decide, by first | rfl | trivial, fun i h1 h2 => by
            rcases Nat.lt_or_ge i 3 with h | h
            · exact HNO.out i h1 (by omega)
            · have : i = 3 := by omega
              subst this; exact HE.out⟩, by simp [intOf]⟩
      · by_cases he : s = sTOOLARGE
        · have q1 : (sTOOLARGE.toList == s.toList) = true := by rw [he]; simp
          have q2 : sTOOLARGE.toList.isEmpty = false := by rw [ByteArray.toList_eq]; rfl
          have HO : Hid (O = some (4, 0)) := by show _ = _; rw [HRO2.out, if_neg (show ¬ s = sNOTFOUND from HNO.out 2 (by decide) (by decide)), if_neg (show ¬ s = sEXISTS from HNO.out 3 (by decide) (by decide)), if_pos he]
          clear he HRO2 HNO
          go_wp2
          rename_i hK
          refine hK _ _ ?_
          change wpList Tryz.prog _ _ _ (Act.put _ _ (.string sTOOLARGE)) _
          clear hK
          go_wp2
          refine bodyPost_ret (res_cell rfl rfl (load_var (zset3 HX.out rfl _ _ _) 25 _ Tryz.underlying25 rfl result_info)) rfl ?_
          exact ⟨⟨4, 0, true, rfl, .inl ⟨rfl, HO.out⟩⟩, zbelow3 HB.out (Nat.le_refl _) _ _ _⟩
        · have q1 : (sTOOLARGE.toList == s.toList) = false := sne_b (fun e => he e.symm)
          have HE := Hid.mk2 he
          clear he
          go_wp2
          rename_i hK
          refine hK _ _ ?_
          change wpList Tryz.prog _ _ _ (Act.put _ _ (.string sTOOLARGE)) _
          clear hK
          go_wp2
          all_goals exact ⟨⟨5, by first | rfl | simp, by decide, by decide, by first | rfl | trivial, fun i h1 h2 => by
            rcases Nat.lt_or_ge i 4 with h | h
            · exact HNO.out i h1 (by omega)
            · have : i = 4 := by omega
              subst this; exact HE.out⟩, by simp [intOf]⟩
      · by_cases he : s = sNOMEMORY
        · have q1 : (sNOMEMORY.toList == s.toList) = true := by rw [he]; simp
          have q2 : sNOMEMORY.toList.isEmpty = false := by rw [ByteArray.toList_eq]; rfl
          have HO : Hid (O = some (5, 0)) := by show _ = _; rw [HRO2.out, if_neg (show ¬ s = sNOTFOUND from HNO.out 2 (by decide) (by decide)), if_neg (show ¬ s = sEXISTS from HNO.out 3 (by decide) (by decide)), if_neg (show ¬ s = sTOOLARGE from HNO.out 4 (by decide) (by decide)), if_pos he]
          clear he HRO2 HNO
          go_wp2
          rename_i hK
          refine hK _ _ ?_
          change wpList Tryz.prog _ _ _ (Act.put _ _ (.string sNOMEMORY)) _
          clear hK
          go_wp2
          refine bodyPost_ret (res_cell rfl rfl (load_var (zset3 HX.out rfl _ _ _) 25 _ Tryz.underlying25 rfl result_info)) rfl ?_
          exact ⟨⟨5, 0, true, rfl, .inl ⟨rfl, HO.out⟩⟩, zbelow3 HB.out (Nat.le_refl _) _ _ _⟩
        · have q1 : (sNOMEMORY.toList == s.toList) = false := sne_b (fun e => he e.symm)
          have HE := Hid.mk2 he
          clear he
          go_wp2
          rename_i hK
          refine hK _ _ ?_
          change wpList Tryz.prog _ _ _ (Act.put _ _ (.string sNOMEMORY)) _
          clear hK
          go_wp2
          all_goals exact ⟨⟨6, by first | rfl | simp, by decide, by decide, by first | rfl | trivial, fun i h1 h2 => by
            rcases Nat.lt_or_ge i 5 with h | h
            · exact HNO.out i h1 (by omega)
            · have : i = 5 := by omega
              subst this; exact HE.out⟩, by simp [intOf]⟩
      · by_cases he : s = sNOTNUMBER
        · have q1 : (sNOTNUMBER.toList == s.toList) = true := by rw [he]; simp
          have q2 : sNOTNUMBER.toList.isEmpty = false := by rw [ByteArray.toList_eq]; rfl
          have HO : Hid (O = some (6, 0)) := by show _ = _; rw [HRO2.out, if_neg (show ¬ s = sNOTFOUND from HNO.out 2 (by decide) (by decide)), if_neg (show ¬ s = sEXISTS from HNO.out 3 (by decide) (by decide)), if_neg (show ¬ s = sTOOLARGE from HNO.out 4 (by decide) (by decide)), if_neg (show ¬ s = sNOMEMORY from HNO.out 5 (by decide) (by decide)), if_pos he]
          clear he HRO2 HNO
          go_wp2
          rename_i hK
          refine hK _ _ ?_
          change wpList Tryz.prog _ _ _ (Act.put _ _ (.string sNOTNUMBER)) _
          clear hK
          go_wp2
          refine bodyPost_ret (res_cell rfl rfl (load_var (zset3 HX.out rfl _ _ _) 25 _ Tryz.underlying25 rfl result_info)) rfl ?_
          exact ⟨⟨6, 0, true, rfl, .inl ⟨rfl, HO.out⟩⟩, zbelow3 HB.out (Nat.le_refl _) _ _ _⟩
        · have q1 : (sNOTNUMBER.toList == s.toList) = false := sne_b (fun e => he e.symm)
          have HE := Hid.mk2 he
          clear he
          go_wp2
          rename_i hK
          refine hK _ _ ?_
          change wpList Tryz.prog _ _ _ (Act.put _ _ (.string sNOTNUMBER)) _
          clear hK
          go_wp2
          all_goals exact ⟨⟨7, by first | rfl | simp, by decide, by decide, by first | rfl | trivial, fun i h1 h2 => by
            rcases Nat.lt_or_ge i 6 with h | h
            · exact HNO.out i h1 (by omega)
            · have : i = 6 := by omega
              subst this; exact HE.out⟩, by simp [intOf]⟩
      · by_cases he : s = sDENIED
        · have q1 : (sDENIED.toList == s.toList) = true := by rw [he]; simp
          have q2 : sDENIED.toList.isEmpty = false := by rw [ByteArray.toList_eq]; rfl
          have HO : Hid (O = some (7, 0)) := by show _ = _; rw [HRO2.out, if_neg (show ¬ s = sNOTFOUND from HNO.out 2 (by decide) (by decide)), if_neg (show ¬ s = sEXISTS from HNO.out 3 (by decide) (by decide)), if_neg (show ¬ s = sTOOLARGE from HNO.out 4 (by decide) (by decide)), if_neg (show ¬ s = sNOMEMORY from HNO.out 5 (by decide) (by decide)), if_neg (show ¬ s = sNOTNUMBER from HNO.out 6 (by decide) (by decide)), if_pos he]
          clear he HRO2 HNO
          go_wp2
          rename_i hK
          refine hK _ _ ?_
          change wpList Tryz.prog _ _ _ (Act.put _ _ (.string sDENIED)) _
          clear hK
          go_wp2
          refine bodyPost_ret (res_cell rfl rfl (load_var (zset3 HX.out rfl _ _ _) 25 _ Tryz.underlying25 rfl result_info)) rfl ?_
          exact ⟨⟨7, 0, true, rfl, .inl ⟨rfl, HO.out⟩⟩, zbelow3 HB.out (Nat.le_refl _) _ _ _⟩
        · have q1 : (sDENIED.toList == s.toList) = false := sne_b (fun e => he e.symm)
          have HE := Hid.mk2 he
          clear he
          go_wp2
          rename_i hK
          refine hK _ _ ?_
          change wpList Tryz.prog _ _ _ (Act.put _ _ (.string sDENIED)) _
          clear hK
          go_wp2
          all_goals exact ⟨⟨8, by first | rfl | simp, by decide, by decide, by first | rfl | trivial, fun i h1 h2 => by
            rcases Nat.lt_or_ge i 7 with h | h
            · exact HNO.out i h1 (by omega)
            · have : i = 7 := by omega
              subst this; exact HE.out⟩, by simp [intOf]⟩
      · have HO : Hid (O = D) := by show _ = _; rw [HRO2.out, if_neg (show ¬ s = sNOTFOUND from HNO.out 2 (by decide) (by decide)), if_neg (show ¬ s = sEXISTS from HNO.out 3 (by decide) (by decide)), if_neg (show ¬ s = sTOOLARGE from HNO.out 4 (by decide) (by decide)), if_neg (show ¬ s = sNOMEMORY from HNO.out 5 (by decide) (by decide)), if_neg (show ¬ s = sNOTNUMBER from HNO.out 6 (by decide) (by decide)), if_neg (show ¬ s = sDENIED from HNO.out 7 (by decide) (by decide))]
        clear HRO2 HNO z0 z1 z2 zf0 zf1 zf2 zlt
        go_wp2_with (go_at_call 77; refine (HD.out _).mono ?_; rintro e w4 ⟨⟨rk, num, b, rfl, hb⟩, hb4⟩; have HBB := Hid.mk2 hb; have HX4 := Hid.mk2 (HX.out.below hb4); have HB4 := Hid.mk2 (g_on HB.out hb4); have z0 := HX4.out.c 0 (by simp [rez]); have z1 := HX4.out.c 1 (by simp [rez]); have z2 := HX4.out.c 2 (by simp [rez]); simp only [rez, List.getElem_cons_zero, List.getElem_cons_succ] at z0 z1 z2; have zf0 := HX4.out.f 0; have zf1 := HX4.out.f 1; have zf2 := HX4.out.f 2; have zlt := HX4.out.lt; clear hb4; clear hb)
        refine bodyPost_ret (res_cell rfl rfl (load_var (zset3 HX4.out rfl _ _ _) 25 _ Tryz.underlying25 rfl result_info)) rfl ?_
        exact ⟨⟨rk, num, b, rfl, by rw [HO.out]; exact HBB.out⟩, zbelow3 HB4.out (Nat.le_refl _) _ _ _⟩
end Go.Proofs.YtblbabekbpcdiaaGreatDoor
