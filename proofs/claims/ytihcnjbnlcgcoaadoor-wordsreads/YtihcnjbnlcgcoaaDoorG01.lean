/-
  Several texts in one: WoS, WpA, Gq, WoT, WoU, WoV, WpO, WpP, WpQ.
-/
import Derived.Test.YtihcnjbnlcgcoaaDoorWoE
import Derived.Shelf.Lay
import Derived.Shelf.Strings.BuilderK
import Derived.Ground.NamesProg
import Derived.Test.YtihcnjbnlcgcoaaDoorItText
import Derived.Test.YtihcnjbnlcgcoaaDoorGr
import Derived.Deep.QuietTactic
import Derived.BigQuiet
import Derived.Test.YtihcnjbnlcgcoaaDoorWoF
import Derived.Test.YtihcnjbnlcgcoaaDoorWoN
import Derived.Test.YtihcnjbnlcgcoaaDoorWpN
import Derived.Test.YtihcnjbnlcgcoaaDoorItRefB
/-
  putLine of package words: words put behind one another in a strings.Builder.
-/
namespace Go.Proofs
open Go.Shelf Go.RowKit Go.Lib
def Tryd.layWriteString_ren : Go.Shelf.Ren := ⟨fun | 166 => 47 | 240 => 71 | 276 => 87 | 169 => 27 | n => n, fun | 0 => 0 | 3 => 3 | 4 => 4 | 5 => 5 | 9 => 9 | 20 => 20 | 37 => 31 | 70 => 56 | 72 => 58 | 75 => 80 | 80 => 63 | 164 => 115 | 127 => 85 | n => n, fun | n => n⟩
theorem Tryd.layWriteString : Lays.n166 Tryd.prog Tryd.layWriteString_ren where
  mixed := by kernel_rfl
  f166 := Tryd.func47.trans (congrArg some (by kernel_rfl))
  f240 := Tryd.func71.trans (congrArg some (by kernel_rfl))
  f276 := Tryd.func87.trans (congrArg some (by kernel_rfl))
  t0 := Tryd.underlying0
  a0 := Tryd.isAgg0
  z0 := Tryd.sizeOf0
  v0 := Tryd.zeroValue0
  t3 := Tryd.underlying3
  a3 := Tryd.isAgg3
  z3 := Tryd.sizeOf3
  v3 := Tryd.zeroValue3
  t4 := Tryd.underlying4
  a4 := Tryd.isAgg4
  z4 := Tryd.sizeOf4
  v4 := Tryd.zeroValue4
  t9 := Tryd.underlying9
  a9 := Tryd.isAgg9
  z9 := Tryd.sizeOf9
  v9 := Tryd.zeroValue9
  t20 := Tryd.underlying20
  a20 := Tryd.isAgg20
  z20 := Tryd.sizeOf20
  v20 := Tryd.zeroValue20
  t37 := Tryd.underlying31
  a37 := Tryd.isAgg31
  z37 := Tryd.sizeOf31
  v37 := Tryd.zeroValue31
  t70 := Tryd.underlying56
  a70 := Tryd.isAgg56
  z70 := Tryd.sizeOf56
  v70 := Tryd.zeroValue56
  t72 := Tryd.underlying58
  a72 := Tryd.isAgg58
  z72 := Tryd.sizeOf58
  v72 := Tryd.zeroValue58
  t75 := Tryd.underlying80
  a75 := Tryd.isAgg80
  z75 := Tryd.sizeOf80
  v75 := Tryd.zeroValue80
  t164 := Tryd.underlying115
  a164 := Tryd.isAgg115
  z164 := Tryd.sizeOf115
  v164 := Tryd.zeroValue115
def Tryd.layBString_ren : Go.Shelf.Ren := ⟨fun | 166 => 47 | 240 => 71 | 276 => 87 | 169 => 27 | n => n, fun | 0 => 0 | 3 => 3 | 4 => 4 | 5 => 5 | 9 => 9 | 20 => 20 | 37 => 31 | 70 => 56 | 72 => 58 | 75 => 80 | 80 => 63 | 164 => 115 | 127 => 85 | n => n, fun | n => n⟩
theorem Tryd.layBString : Lays.n169 Tryd.prog Tryd.layBString_ren where
  mixed := by kernel_rfl
  f169 := Tryd.func27.trans (congrArg some (by kernel_rfl))
  t0 := Tryd.underlying0
  a0 := Tryd.isAgg0
  z0 := Tryd.sizeOf0
  v0 := Tryd.zeroValue0
  t3 := Tryd.underlying3
  a3 := Tryd.isAgg3
  z3 := Tryd.sizeOf3
  v3 := Tryd.zeroValue3
  t9 := Tryd.underlying9
  a9 := Tryd.isAgg9
  z9 := Tryd.sizeOf9
  v9 := Tryd.zeroValue9
  t37 := Tryd.underlying31
  a37 := Tryd.isAgg31
  z37 := Tryd.sizeOf31
  v37 := Tryd.zeroValue31
  t70 := Tryd.underlying56
  a70 := Tryd.isAgg56
  z70 := Tryd.sizeOf56
  v70 := Tryd.zeroValue56
  t72 := Tryd.underlying58
  a72 := Tryd.isAgg58
  z72 := Tryd.sizeOf58
  v72 := Tryd.zeroValue58
  t127 := Tryd.underlying85
  a127 := Tryd.isAgg85
  z127 := Tryd.sizeOf85
  v127 := Tryd.zeroValue85
end Go.Proofs
namespace Go.Proofs.YtihcnjbnlcgcoaaDoor
open Go.Proofs.YtihcnjbnlcgcoaaDoor.It
open Go.RowKit
set_option linter.unusedSimpArgs false
set_option linter.unusedVariables false
set_option maxRecDepth 100000

theorem writeExtra : Builder.Extra Tryd.prog Tryd.layWriteString_ren where
  sizeBuilder := by kernel_rfl
  liesBuilder := by kernel_rfl
  t5 := by kernel_rfl
  a5 := fun _ => by kernel_rfl
  z5 := fun _ => by kernel_rfl
  v5 := fun _ => by kernel_rfl
  infoByte := by kernel_rfl
  cellsByte := by kernel_rfl
  sizeByte := by kernel_rfl
  neB5 := by decide
theorem bstrExtra : Builder.Extra Tryd.prog Tryd.layBString_ren where
  sizeBuilder := by kernel_rfl
  liesBuilder := by kernel_rfl
  t5 := by kernel_rfl
  a5 := fun _ => by kernel_rfl
  z5 := fun _ => by kernel_rfl
  v5 := fun _ => by kernel_rfl
  infoByte := by kernel_rfl
  cellsByte := by kernel_rfl
  sizeByte := by kernel_rfl
  neB5 := by decide
/-- the builder at b, from base on, holds these bytes -/
def Bu (w : World) (base b : Nat) (l : List UInt8) : Prop := Lib.IsBuilderF 58 5 base b (Lib.byteCells l) w
/-- what is neither the builder nor a row of bytes stands as it stood -/
def Oth (w w' : World) (b : Nat) : Prop := Lib.OthersKept 5 (some b) w w'
theorem Oth.refl (w : World) (b : Nat) : Oth w w b := Lib.OthersKept.refl _ _ w
theorem Oth.trans {w w1 w2 : World} {b : Nat} (h : Oth w w1 b) (h2 : Oth w1 w2 b) : Oth w w2 b := Lib.OthersKept.trans h h2
theorem Oth.of_below {w w' : World} {b : Nat} (h : Below w.heap.size w w') : Oth w w' b := by
  intro k o hk _ _
  rw [h.block k (Array.getElem?_eq_some_iff.1 hk).1]
  exact hk
theorem Bu.below {w w' : World} {base b : Nat} {l : List UInt8} (h : Bu w base b l) (hb : Below w.heap.size w w') : Bu w' base b l := by
  have key : ∀ p, Lib.BuilderAtF 58 5 base b p (Lib.byteCells l) w → Lib.BuilderAtF 58 5 base b p (Lib.byteCells l) w' := by
    rintro p ⟨hB, v, hk, ho, hn⟩
    exact ⟨hB, v, by rw [hb.block b (Array.getElem?_eq_some_iff.1 hk).1]; exact hk, World.ownsRowF.kept (row := none) ho (g_grown hb none) (by cases v.ownBlock with | none => exact .inl rfl | some k => exact .inr (by simp)), hn⟩
  rcases h with h | h
  · exact .inl (key _ h)
  · exact .inr (key _ h)
theorem Bu.lt {w : World} {base b : Nat} {l : List UInt8} (h : Bu w base b l) : base ≤ b ∧ b < w.heap.size := by
  rcases h with h | h
  · exact ⟨h.1, h.lt⟩
  · exact ⟨h.1, h.lt⟩
theorem wstr_any (w : World) (base b : Nat) (l : List UInt8) (s : ByteArray) (h : Bu w base b l) (hl : l.length + s.size ≤ 1000000) (hb : base ≤ w.heap.size) :
    Calls Tryd.prog 47 #[.pointer (some ⟨b, 0, none⟩), .string s] w fun e w' => e = .returned (.tuple #[.int .i64 s.size, .nilIface]) ∧ Bu w' base b (l ++ bl s) ∧ Below base w w' ∧ Oth w w' b := by
  refine (Any.Builder_WriteString_k Tryd.layWriteString writeExtra base b (Lib.byteCells l) s w h (by rw [Lib.byteCells_length]; omega) hb).mono ?_
  rintro e w' ⟨he, h1, h2, h3⟩
  refine ⟨he, .inr ?_, h2, h3⟩
  rw [Lib.byteCells_append]
  exact h1
theorem bstr_any (w : World) (base b : Nat) (l : List UInt8) (h : Bu w base b l) (hb : base ≤ w.heap.size) :
    Calls Tryd.prog 27 #[.pointer (some ⟨b, 0, none⟩)] w fun e w' => e = .returned (.string (mkB l)) ∧ Bu w' base b l ∧ Below base w w' ∧ Oth w w' b := by
  refine (Any.Builder_String_any_k Tryd.layBString bstrExtra base b l w h hb).mono ?_
  rintro e w' ⟨he, h1, h2, h3⟩
  exact ⟨he, h1, h2, h3⟩

/-- words that lie in a row of their own -/
def Sx (w : World) (b : Nat) (ao : Option Addr) (ws : List ByteArray) : Prop :=
  ws = [] ∨ ∃ g cur fz, ao = some ⟨g, 0, none⟩ ∧ g ≠ b ∧ w.heap[g]? = some (.cells cur 9 fz) ∧ ∀ i (hi : i < ws.length), cur[i]? = some (.string ws[i])
theorem Sx.oth {w w' : World} {b : Nat} {ao : Option Addr} {ws : List ByteArray} (h : Sx w b ao ws) (ho : Oth w w' b) : Sx w' b ao ws := by
  rcases h with h | ⟨g, cur, fz, h1, h2, h3, h4⟩
  · exact .inl h
  · exact .inr ⟨g, cur, fz, h1, h2, ho g _ h3 (fun e => h2 (Option.some.inj e)) (fun c f e => by injection e with _ e2; exact absurd e2 (by decide)), h4⟩
theorem Sx.cell {w : World} {b : Nat} {ao : Option Addr} {ws : List ByteArray} (h : Sx w b ao ws) (i : Nat) (hi : i < ws.length) : ∃ g, ao = some ⟨g, 0, none⟩ ∧ w.cell? ⟨g, i, none⟩ = some (.string ws[i]) := by
  rcases h with h | ⟨g, cur, fz, h1, h2, h3, h4⟩
  · rw [h] at hi; simp at hi
  · exact ⟨g, h1, by rw [g_cell h3, h4 i hi]⟩
theorem joinW_nil : joinW [] = [] := rfl
theorem joinW_snoc (ws : List ByteArray) (s : ByteArray) : joinW (ws ++ [s]) = (if ws = [] then [] else joinW ws ++ [32]) ++ bl s := by
  cases ws with
  | nil => rw [List.nil_append, joinW_cons]; simp
  | cons a t =>
    rw [if_neg (by simp), List.cons_append, joinW_cons, joinW_cons, List.flatMap_append]
    simp
theorem joinW_le (ws : List ByteArray) (i : Nat) : (joinW (ws.take i)).length ≤ (joinW ws).length := by
  cases ws with
  | nil => simp
  | cons a t =>
    cases i with
    | zero => rw [List.take_zero, joinW_nil]; simp
    | succ k =>
      rw [List.take_succ_cons, joinW_cons, joinW_cons, List.length_append, List.length_append]
      have h : (t.flatMap fun x => 32 :: bl x) = ((t.take k).flatMap fun x => 32 :: bl x) ++ ((t.drop k).flatMap fun x => 32 :: bl x) := by
        rw [← List.flatMap_append, List.take_append_drop]
      rw [h, List.length_append]
      omega

set_option maxHeartbeats 2000000 in
theorem putLine_any (w : World) (base b : Nat) (l : List UInt8) (ws : List ByteArray) (ao : Option Addr) (cap : Nat) (h : Bu w base b l) (hb : base ≤ w.heap.size) (hx : Sx w b ao ws) (hl : l.length + (joinW ws).length + 2 ≤ 1000000) (m : Nat) (hm : m = ws.length) (hm2 : m ≤ 1000) :
    Calls Tryd.prog 25 #[.pointer (some ⟨b, 0, none⟩), .slice ao m cap] w fun e w' => e = .returned (.tuple #[]) ∧ Bu w' base b (l ++ (joinW ws ++ [13, 10])) ∧ Below base w w' ∧ Oth w w' b := by
  have HW := Hid.mk2 (fun W x s (h : Bu W base b x) hl hb => wstr_any W base b x s h hl hb)
  have HX := Hid.mk2 hx
  have HM := Hid.mk2 hm
  have HL := Hid.mk2 hl
  have HB := Hid.mk2 h
  have HS := Hid.mk2 hb
  have hmi : (m : Int) ≤ 1000 := by omega
  clear h hb hx hl hm
  go_enter Tryd.func25, Tryd.ntmps25
  go_wp2
  go_loopw [4, 5, 8] (fun _ _ i wr => ∃ k : Nat, k ≤ m ∧ i = .int .i64 k ∧ Hid (Below base w wr) ∧ Hid (Oth w wr b) ∧ Hid (Bu wr base b (l ++ joinW (ws.take k)))) (fun _ _ i _ => m - (intOf i).toNat)
  case atStart => exact ⟨0, Nat.zero_le _, rfl, Below.refl _ _, Oth.refl _ _, by rw [List.take_zero, joinW_nil, List.append_nil]; exact HB.out⟩
  case round =>
    obtain ⟨k, hk, rfl, HB1, HO1, HU1⟩ := hrel
    by_cases hkl : k < m
    · have hkl2 : (k : Int) < (m : Int) := by omega
      have hkw : k < ws.length := by rw [← HM.out]; exact hkl
      obtain ⟨g, hg, hc⟩ := (HX.out.oth HO1.out).cell k hkw
      have HT : Hid (joinW (ws.take (k + 1)) = (if ws.take k = [] then [] else joinW (ws.take k) ++ [32]) ++ bl ws[k]) := by
        have := joinW_snoc (ws.take k) ws[k]
        rw [← List.take_append_getElem hkw]
        exact this
      have HLE := Hid.mk2 (joinW_le ws (k + 1))
      obtain ⟨s, hs⟩ : ∃ s, s = ws[k] := ⟨_, rfl⟩
      rw [← hs] at hc HT
      have hsb : (bl s).length = s.size := bl_len s
      subst hg
      clear hs
      by_cases hk0 : k = 0
      · subst hk0
        have HN : Hid (l ++ joinW (ws.take 0) ++ bl s = l ++ joinW (ws.take (0 + 1)) ∧ (l ++ joinW (ws.take 0)).length + s.size ≤ 1000000) := by
          have h1 := HT.out
          rw [List.take_zero, if_pos rfl, List.nil_append] at h1
          refine ⟨by rw [h1, List.take_zero, joinW_nil, List.append_nil], ?_⟩
          have h2 := HLE.out
          have h3 := HL.out
          rw [h1] at h2
          rw [List.take_zero, joinW_nil, List.append_nil]
          omega
        clear HT HLE hsb
        go_wp2_with (go_at_call 47; refine (HW.out _ _ s HU1.out HN.out.2 (Nat.le_trans HS.out HB1.out.size)).mono ?_; rintro e w1 ⟨rfl, hu, hbl, ho⟩; have HB2 := Hid.mk2 (HB1.out.trans hbl); have HO2 := Hid.mk2 (HO1.out.trans ho); have HU2 := Hid.mk2 hu; clear hu hbl ho)
        go_roundw
        case rel => exact ⟨1, by omega, by go_num, HB2, HO2, by rw [← HN.out.1]; exact HU2.out⟩
        case measure => simp [intOf]; omega
      · have hk0i : (0 : Int) < (k : Int) := by omega
        have HN : Hid (l ++ joinW (ws.take k) ++ bl ⟨#[32]⟩ ++ bl s = l ++ joinW (ws.take (k + 1)) ∧ (l ++ joinW (ws.take k)).length + (⟨#[32]⟩ : ByteArray).size ≤ 1000000 ∧ (l ++ joinW (ws.take k) ++ bl ⟨#[32]⟩).length + s.size ≤ 1000000) := by
          have h1 := HT.out
          rw [if_neg (by intro e; have := congrArg List.length e; rw [List.length_take, List.length_nil, Nat.min_eq_left (Nat.le_of_lt hkw)] at this; exact hk0 this)] at h1
          have e32 : bl ⟨#[32]⟩ = [32] := rfl
          have e1 : (⟨#[32]⟩ : ByteArray).size = 1 := rfl
          have h2 := HLE.out
          have h3 := HL.out
          rw [h1] at h2
          simp only [List.length_append, List.length_cons, List.length_nil] at h2
          rw [e32, e1, h1]
          refine ⟨by simp, by rw [List.length_append]; omega, by simp only [List.length_append, List.length_cons, List.length_nil]; omega⟩
        clear HT HLE hsb hk0
        go_wp2_with (first
          | ((fail_if_success have hq := HU2); go_at_call 47; refine (HW.out _ _ _ HU1.out HN.out.2.1 (Nat.le_trans HS.out HB1.out.size)).mono ?_; rintro e w1 ⟨rfl, hu, hbl, ho⟩; have hc := hc; have HB2 := Hid.mk2 (HB1.out.trans hbl); have HO2 := Hid.mk2 (HO1.out.trans ho); have HU2 := Hid.mk2 hu; clear hu hbl ho)
          | (have hq := HU2; go_at_call 47; refine (HW.out _ _ s HU2.out HN.out.2.2 (Nat.le_trans HS.out HB2.out.size)).mono ?_; rintro e w2 ⟨rfl, hu, hbl, ho⟩; have HB3 := Hid.mk2 (HB2.out.trans hbl); have HO3 := Hid.mk2 (HO2.out.trans ho); have HU3 := Hid.mk2 hu; clear hu hbl ho))
        go_roundw
        case rel => exact ⟨k + 1, by omega, by go_num, HB3, HO3, by rw [← HN.out.1]; exact HU3.out⟩
        case measure => simp [intOf]; omega
    · have hkl2 : ¬ (k : Int) < (m : Int) := by omega
      have HN : Hid (l ++ joinW (ws.take k) ++ bl ⟨#[13, 10]⟩ = l ++ (joinW ws ++ [13, 10]) ∧ (l ++ joinW (ws.take k)).length + (⟨#[13, 10]⟩ : ByteArray).size ≤ 1000000) := by
        have h1 : ws.take k = ws := List.take_of_length_le (by rw [← HM.out]; omega)
        have e1 : (⟨#[13, 10]⟩ : ByteArray).size = 2 := rfl
        have h3 := HL.out
        rw [h1, e1]
        exact ⟨by rw [List.append_assoc]; rfl, by rw [List.length_append]; omega⟩
      go_wp2_with (go_at_call 47; refine (HW.out _ _ _ HU1.out HN.out.2 (Nat.le_trans HS.out HB1.out.size)).mono ?_; rintro e w1 ⟨rfl, hu, hbl, ho⟩; have HB2 := Hid.mk2 (HB1.out.trans hbl); have HO2 := Hid.mk2 (HO1.out.trans ho); have HU2 := Hid.mk2 hu; clear hu hbl ho)

      refine bodyPost_end (results_none rfl _ _ _) rfl ?_
      exact ⟨rfl, by rw [← HN.out.1]; exact HU2.out, HB2.out, HO2.out⟩
end Go.Proofs.YtihcnjbnlcgcoaaDoor
/-
  item.Text over the library's table of powers of ten, in the words of lines.
-/
namespace Go.Proofs.YtihcnjbnlcgcoaaDoor
open Go.Proofs.YtihcnjbnlcgcoaaDoor.It
open Go.RowKit
set_option linter.unusedSimpArgs false
set_option linter.unusedVariables false
set_option maxRecDepth 100000

def Im.ar2 (x : Im) : Array Value := #[.string x.key, .string x.value, .int .u32 x.flags, .int .i64 x.till, .int .u64 x.unique]
theorem wtext_any (n : Int) (h0 : 0 ≤ n) (h1 : n < 18446744073709551616) (w : World) (ht : Tab w) : Calls Tryd.prog 46 #[.int .u64 n] w fun e w' => e = .returned (.string (dec n)) ∧ Below w.heap.size w w' := by
  obtain ⟨k, rfl⟩ : ∃ k : Nat, n = (k : Int) := ⟨n.toNat, by omega⟩
  refine (text_any k (by omega) w ht).mono ?_
  rintro e w' ⟨rfl, q, os, rfl⟩
  refine ⟨?_, below_grow1 w q os⟩
  unfold dec
  rw [Int.toNat_natCast]
theorem u64w {x : Int} (h0 : 0 ≤ x) (h1 : x < 18446744073709551616) : IntKind.u64.wrap x = x := by
  have e : IntKind.u64.wrap x = x % 18446744073709551616 := rfl
  rw [e]; omega
end Go.Proofs.YtihcnjbnlcgcoaaDoor
/-
  (shaken)
-/
namespace Go.Proofs.YtihcnjbnlcgcoaaDoor
open Go.RowKit
set_option linter.unusedSimpArgs false
set_option linter.unusedVariables false
set_option maxRecDepth 100000

/-- a world behind w: nothing that lay is turned -/
structure Beh (w : World) where
  v : World
  ok : Below w.heap.size w v
instance (w : World) : Inhabited (Beh w) := ⟨⟨w, Below.refl _ _⟩⟩
theorem wp_region_quiet_beh {P : Program} {id : Nat} {Q : Exit → Act → World → Prop} {a : Act} {w : World} {l : List Oper} (hm : P.follows .mixedOrders = true) (hB : Region.lexB .any l.toArray = true)
    (h : wpQuiet P l.toArray (fun w' => ∃ p : Beh w, w' = p.v) (fun a' => ∀ w', (∃ p : Beh w, w' = p.v) → Q .normal a' w') l a) : (Code.region id l.toArray true).wp P Q a w :=
  wp_region_quiet (C := fun w' => ∃ p : Beh w, w' = p.v) hm hB ⟨⟨w.drew, (Below.refl _ _).drew⟩, rfl⟩ (by simpa using h)
theorem cell_beh {w : World} {a : Addr} {v : Value} (hb : a.block < w.heap.size) (h : w.cell? a = some v) (p : Beh w) : p.v.cell? a = some v := (p.ok.cell hb).trans h
theorem Calls.beh_of {P : Program} {f : FuncId} {args : Array Value} {w : World} {p : Beh w} {v : Value}
    (h : Calls P f args p.v fun e w' => e = .returned v ∧ Below p.v.heap.size p.v w') : Calls P f args p.v fun e w'' => e = .returned v ∧ ∃ q : Beh w, w'' = q.v :=
  h.mono fun _ w'' ⟨he, hb⟩ => ⟨he, ⟨w'', g_on p.ok hb⟩, rfl⟩
theorem Calls.beh_same {P : Program} {f : FuncId} {args : Array Value} {w : World} {p : Beh w} {v : Value}
    (h : Calls P f args p.v fun e w' => e = .returned v ∧ w' = p.v) : Calls P f args p.v fun e w'' => e = .returned v ∧ ∃ q : Beh w, w'' = q.v :=
  h.mono fun _ w'' ⟨he, hb⟩ => ⟨he, p, hb⟩
theorem GOwn.rdOf {α : Type} {E : GEl α} (K : GOk E) {w : World} {base : Nat} {a : Option Addr} {n cp : Nat} {l : List α} (h : GOwn E w base (.slice a n cp) l) : GRd E w a l cp := by
  obtain ⟨ao, cap, e, hr⟩ := h.rd K
  injection e with e1 e2 e3
  subst e1 e3
  exact hr
end Go.Proofs.YtihcnjbnlcgcoaaDoor
/-
  putItem of package words: an item's line and value put into a strings.Builder.
-/
namespace Go.Proofs.YtihcnjbnlcgcoaaDoor
open Go.Proofs.YtihcnjbnlcgcoaaDoor.It
open Go.RowKit
set_option linter.unusedSimpArgs false
set_option linter.unusedVariables false
set_option maxRecDepth 100000

theorem blk_new (w : World) (o : Obj) : (w.alloc o).heap[w.heap.size]? = some o := by
  show (w.heap.push o)[w.heap.size]? = some o
  simp
theorem Sx.made (w : World) (b : Nat) (ws : List ByteArray) (hb : b < w.heap.size) : Sx (w.alloc (.cells (ws.map Value.string).toArray 9)) b (some ⟨w.heap.size, 0, none⟩) ws :=
  .inr ⟨w.heap.size, _, (0, 0), rfl, by omega, blk_new _ _, fun i hi => by simp [hi]⟩
theorem box_oth {w w' : World} {b X : Nat} {cur : Array Value} {t : TypeId} (h : w.heap[X]? = some (.cells cur t (0, 0))) (hX : X ≠ b) (ht : t ≠ 5) (ho : Oth w w' b) : w'.heap[X]? = some (.cells cur t (0, 0)) :=
  ho X _ h (fun e => hX (Option.some.inj e)) (fun c f e => by injection e with _ e2; exact ht e2)
theorem cell_box {w : World} {X : Nat} {cur : Array Value} {t : TypeId} (h : w.heap[X]? = some (.cells cur t (0, 0))) (j : Nat) (v : Value) (hv : cur[j]? = some v) : w.cell? ⟨X, j, none⟩ = some v := by rw [g_cell h, hv]

set_option maxHeartbeats 4000000 in
theorem putItem_any (w : World) (base b : Nat) (l : List UInt8) (x : Im) (hx : x.ok) (ht : Tab w) (h : Bu w base b l) (hb : base ≤ w.heap.size) (hl : l.length + x.lines.length ≤ 900000) :
    Calls Tryd.prog 24 #[.pointer (some ⟨b, 0, none⟩), .agg x.ar2] w fun e w' => e = .returned (.tuple #[]) ∧ Bu w' base b (l ++ x.lines) ∧ Below base w w' ∧ Oth w w' b := by
  obtain ⟨xk, xv, xf, xt, xu⟩ := x
  obtain ⟨hk, hv, ⟨t0, t1⟩, ⟨f0, f1⟩, ⟨u0, u1⟩⟩ := hx
  dsimp only at hk hv t0 t1 f0 f1 u0 u1
  have hvl : ((xv.size : Nat) : Int) ≤ 512 := by omega
  obtain ⟨W, hW⟩ : ∃ W, W = w.alloc (.cells #[.string xk, .string xv, .int .u32 xf, .int .i64 xt, .int .u64 xu] 53) := ⟨_, rfl⟩
  have hB0 : Below w.heap.size w W := by rw [hW]; exact g_alloc _ _
  have HB := Hid.mk2 hB0
  have HX : Hid (W.heap[w.heap.size]? = some (.cells #[.string xk, .string xv, .int .u32 xf, .int .i64 xt, .int .u64 xu] 53 (0, 0))) := by show _ = _; rw [hW]; exact blk_new _ _
  have HU := Hid.mk2 (h.below hB0)
  have hbl := h.lt
  have HSB := Hid.mk2 hb
  have HXb : Hid (w.heap.size ≠ b ∧ b < W.heap.size ∧ base ≤ W.heap.size) := ⟨by omega, Nat.lt_of_lt_of_le hbl.2 hB0.size, Nat.le_trans hb hB0.size⟩
  have HT : Hid (∀ (n : Int), 0 ≤ n → n < 18446744073709551616 → ∀ V, Below W.heap.size W V → Calls Tryd.prog 46 #[.int .u64 n] V fun e w' => e = .returned (.string (dec n)) ∧ Below V.heap.size V w') := fun n h0 h1 V hV => wtext_any n h0 h1 V ((ht.below hB0).below hV)
  have HT1 := Hid.mk2 (HT.out xf f0 (by omega))
  have HT2 := Hid.mk2 (HT.out xt t0 (by omega))
  have HT3 := Hid.mk2 (HT.out xu u0 u1)
  have HT4 := Hid.mk2 (HT.out (xv.size : Int) (by omega) (by omega))
  have HPL := Hid.mk2 (fun V l ws ao cap h hb hx hl m hm hm2 => putLine_any V base b l ws ao cap h hb hx hl m hm hm2)
  have HL : Hid (l.length + (joinW [sVALUE, xk, dec xf, dec xt, dec xu, dec (xv.size : Int)]).length + 2 ≤ 1000000 ∧ (l ++ (joinW [sVALUE, xk, dec xf, dec xt, dec xu, dec (xv.size : Int)] ++ [13, 10])).length + (joinW [xv]).length + 2 ≤ 1000000) := by
    show _ ∧ _
    have h1 := hl
    unfold Im.lines Im.words at h1
    dsimp only at h1
    rw [joinW_one]
    simp only [List.length_append, List.length_cons, List.length_nil] at h1 ⊢
    omega
  have HLN : Hid ((l ++ (joinW [sVALUE, xk, dec xf, dec xt, dec xu, dec (xv.size : Int)] ++ [13, 10])) ++ (joinW [xv] ++ [13, 10]) = l ++ (Im.mk xk xv xf xt xu).lines) := by
    show _ = _
    unfold Im.lines Im.words
    dsimp only
    rw [joinW_one]
    simp
  obtain ⟨LN, hLN⟩ : ∃ LN, LN = (Im.mk xk xv xf xt xu).lines := ⟨_, rfl⟩
  rw [← hLN] at HLN ⊢
  obtain ⟨D1, hD1⟩ : ∃ D, D = dec xf := ⟨_, rfl⟩
  obtain ⟨D2, hD2⟩ : ∃ D, D = dec xt := ⟨_, rfl⟩
  obtain ⟨D3, hD3⟩ : ∃ D, D = dec xu := ⟨_, rfl⟩
  obtain ⟨D4, hD4⟩ : ∃ D, D = dec (xv.size : Int) := ⟨_, rfl⟩
  rw [← hD1] at HT1 HL HLN
  rw [← hD2] at HT2 HL HLN
  rw [← hD3] at HT3 HL HLN
  rw [← hD4] at HT4 HL HLN
  have wf : IntKind.u64.wrap xf = xf := u64w f0 (by omega)
  have wt : IntKind.u64.wrap xt = xt := u64w t0 (by omega)
  have wv : IntKind.u64.wrap (xv.size : Int) = (xv.size : Int) := u64w (by omega) (by omega)
  have x0 := cell_box HX.out 0 (.string xk) rfl
  have x1 := cell_box HX.out 1 (.string xv) rfl
  have x2 := cell_box HX.out 2 (.int .u32 xf) rfl
  have x3 := cell_box HX.out 3 (.int .i64 xt) rfl
  have x4 := cell_box HX.out 4 (.int .u64 xu) rfl
  clear hLN hD1 hD2 hD3 hD4 hB0 hbl hl ht h hb hk hv HT
  unfold Im.ar2
  dsimp only
  go_enter Tryd.func24, Tryd.ntmps24
  go_upto_region 1 with (fail)
  rw [← hW]
  clear hW
  go_cut [4, 5, 6] from 7 (fun s4 s5 s6 wx => s4 = .int .u64 xf ∧ s5 = .int .u64 xt ∧ s6 = .int .u64 (xv.size : Int) ∧ Hid (Below W.heap.size W wx))
  case first =>
    go_quiet (fail)
    go_wp2
    go_meet
    case rel => exact ⟨by first | rfl | rw [wf], by first | rfl | rw [wt], by first | rfl | rw [wv], (Below.refl _ _).trans ⟨rfl, rfl, rfl, Nat.le_refl _, fun _ _ => rfl⟩⟩
  case rest =>
    rename_i hK
    refine hK _ _ ?_
    clear hK
    obtain ⟨rfl, rfl, rfl, HBX⟩ := hcut
    obtain ⟨w0, hw0⟩ : ∃ w0, w0 = wc := ⟨_, rfl⟩
    rw [← hw0] at HBX ⊢
    clear hw0 x0 x1 x2 x3 x4 wf wt wv
    have HX0 : Hid (w0.heap[w.heap.size]? = some (.cells #[.string xk, .string xv, .int .u32 xf, .int .i64 xt, .int .u64 xu] 53 (0, 0))) := by
      show _ = _
      rw [HBX.out.block _ (Array.getElem?_eq_some_iff.1 HX.out).1]
      exact HX.out
    have HU0 := Hid.mk2 (HU.out.below HBX.out)
    have HB0 := Hid.mk2 (g_on HB.out HBX.out)
    have HXb0 : Hid (w.heap.size ≠ b ∧ b < w0.heap.size ∧ base ≤ w0.heap.size) := ⟨HXb.out.1, Nat.lt_of_lt_of_le HXb.out.2.1 HBX.out.size, Nat.le_trans HXb.out.2.2 HBX.out.size⟩
    have x0 := cell_box HX0.out 0 (.string xk) rfl
    have x4 := cell_box HX0.out 4 (.int .u64 xu) rfl
    have HSW : Hid (∀ V, Below w0.heap.size w0 V → V.cell? ⟨w.heap.size, 0, none⟩ = some (.string xk) ∧ V.cell? ⟨w.heap.size, 4, none⟩ = some (.int .u64 xu)) := fun V hV => ⟨(hV.cell (p := ⟨w.heap.size, 0, none⟩) (Array.getElem?_eq_some_iff.1 HX0.out).1).trans x0, (hV.cell (p := ⟨w.heap.size, 4, none⟩) (Array.getElem?_eq_some_iff.1 HX0.out).1).trans x4⟩
    go_upto_region 2 with (fail)
    go_cut [3] from 7 (fun s3 wx => s3 = .pointer (some ⟨w.heap.size, 0, none⟩) ∧ Hid (Bu wx base b (l ++ (joinW [sVALUE, xk, D1, D2, D3, D4] ++ [13, 10])) ∧ Below base w0 wx ∧ Oth w0 wx b))
    case first =>
      go_region_held3 (fun V => V.cell? ⟨w.heap.size, 0, none⟩ = some (.string xk) ∧ V.cell? ⟨w.heap.size, 4, none⟩ = some (.int .u64 xu)) (first | exact HSP.out | exact HSW.out _ (by repeat' (first | with_reducible exact HB4.out | with_reducible exact HB3.out | with_reducible exact HB2.out | with_reducible exact HB1.out | with_reducible exact Below.refl _ _ | with_reducible refine Below.drew ?_ | with_reducible refine g_on ?_ (g_alloc _ _))))
        (first
        | (have h9 := HB3; go_at_call 46; refine (HT4.out _ (g_on HBX.out HB3.out)).mono ?_; rintro e w4 ⟨rfl, hb4⟩; have HB4 := Hid.mk2 (g_on HB3.out hb4); clear hb4)
        | (have h9 := HB2; go_at_call 46; refine (HT3.out _ (g_on HBX.out HB2.out)).mono ?_; rintro e w3 ⟨rfl, hb3⟩; have HB3 := Hid.mk2 (g_on HB2.out hb3); clear hb3)
        | (have h9 := HB1; go_at_call 46; refine (HT2.out _ (g_on HBX.out HB1.out)).mono ?_; rintro e w2 ⟨rfl, hb2⟩; have HB2 := Hid.mk2 (g_on HB1.out hb2); clear hb2)
        | (go_at_call 46; refine (HT1.out _ (HBX.out.drew)).mono ?_; rintro e w1 ⟨rfl, hb1⟩; have HB1 : Hid (Below w0.heap.size w0 w1) := g_drew hb1; clear hb1)
        | (go_at_call 25; have h9 := HB4; refine (HPL.out _ l [sVALUE, xk, D1, D2, D3, D4] _ _ (HU0.out.below (g_on HB4.out (g_alloc _ _))) (Nat.le_trans HXb0.out.2.2 (g_on HB4.out (g_alloc _ _)).size) (Sx.made w4 b [sVALUE, xk, D1, D2, D3, D4] (Nat.lt_of_lt_of_le HXb0.out.2.1 HB4.out.size)) HL.out.1 6 rfl (by decide)).mono ?_; rintro e w5 ⟨rfl, hu5, hb5, ho5⟩; have HU5 := Hid.mk2 hu5; have HB5 : Hid (Below base w0 w5) := ((g_on HB4.out (g_alloc _ _)).mono HXb0.out.2.2).trans hb5; have HO5 : Hid (Oth w0 w5 b) := (Oth.of_below (g_on HB4.out (g_alloc _ _))).trans ho5; have HX5 := Hid.mk2 (box_oth HX0.out HXb0.out.1 (by decide) HO5.out); have HSP : Hid (w5.cell? ⟨w.heap.size, 0, none⟩ = some (.string xk) ∧ w5.cell? ⟨w.heap.size, 4, none⟩ = some (.int .u64 xu)) := ⟨cell_box HX5.out 0 _ rfl, cell_box HX5.out 4 _ rfl⟩; clear hu5 hb5 ho5))
      all_goals
        go_wp2_with fail
        go_meet
        case rel => exact ⟨rfl, HU5.out, HB5.out, HO5.out⟩
    case rest =>
      obtain ⟨rfl, HC⟩ := hcut
      obtain ⟨w5, hw5⟩ : ∃ w5, w5 = wc := ⟨_, rfl⟩
      rw [← hw5] at HC ⊢
      clear hw5 x0 x4
      have HX5 := Hid.mk2 (box_oth HX0.out HXb0.out.1 (by decide) HC.out.2.2)
      have y1 := cell_box HX5.out 1 (.string xv) rfl
      have HXb5 : Hid (b < w5.heap.size ∧ base ≤ w5.heap.size) := ⟨Nat.lt_of_lt_of_le HXb0.out.2.1 HC.out.2.1.size, Nat.le_trans HXb0.out.2.2 HC.out.2.1.size⟩
      go_wp2_with (go_at_call 25; refine (HPL.out _ _ [xv] _ _ (HC.out.1.below (g_alloc _ _)) (Nat.le_trans HXb5.out.2 (g_alloc _ _).size) (Sx.made w5 b [xv] HXb5.out.1) HL.out.2 1 rfl (by decide)).mono ?_; rintro e w6 ⟨rfl, hu6, hb6, ho6⟩)
      refine bodyPost_end (results_none rfl _ _ _) rfl ?_
      refine ⟨rfl, by rw [← HLN.out]; exact hu6, ?_, ?_⟩
      · exact (HB0.out.mono HSB.out).trans (HC.out.2.1.trans (((Below.refl _ _).alloc HXb5.out.2 _).trans hb6))
      · exact (Oth.of_below HB0.out).trans (HC.out.2.2.trans ((Oth.of_below (g_alloc _ _)).trans ho6))
end Go.Proofs.YtihcnjbnlcgcoaaDoor
/-
  The line that ends an answer: oneOf, resultLine, lastLine of package words.
-/
namespace Go.Proofs.YtihcnjbnlcgcoaaDoor
open Go.Proofs.YtihcnjbnlcgcoaaDoor.It
open Go.RowKit
set_option linter.unusedSimpArgs false
set_option linter.unusedVariables false
set_option maxRecDepth 100000

/-- words in a new row -/
structure LnR (w w' : World) (ws : List ByteArray) (e : Ending) : Prop where
  ex : ∃ (g cap : Nat) (cur : Array Value), e = .returned (.slice (some ⟨g, 0, none⟩) ws.length cap) ∧ w.heap.size ≤ g ∧ w'.heap[g]? = some (.cells cur 9 (0, 0)) ∧ ∀ i (hi : i < ws.length), cur[i]? = some (.string ws[i])
  below : Below w.heap.size w w'
theorem LnR.of {w w0 : World} {ws : List ByteArray} (hb : Below w.heap.size w w0) : LnR w (w0.alloc (.cells (ws.map Value.string).toArray 9)) ws (.returned (.slice (some ⟨w0.heap.size, 0, none⟩) ws.length ws.length)) :=
  ⟨⟨_, _, _, rfl, hb.size, blk_new _ _, fun i hi => by simp [hi]⟩, g_on hb (g_alloc _ _)⟩
theorem LnR.on {w w0 w' : World} {ws : List ByteArray} {e : Ending} (hb : Below w.heap.size w w0) (h : LnR w0 w' ws e) : LnR w w' ws e := by
  obtain ⟨⟨g, cap, cur, h1, h2, h3⟩, h4⟩ := h
  exact ⟨⟨g, cap, cur, h1, Nat.le_trans hb.size h2, h3⟩, g_on hb h4⟩

theorem woneOf_any (b : Bool) (s t : ByteArray) (w : World) : Calls Tryd.prog 48 #[.bool b, .string s, .string t] w fun e w' => LnR w w' [if b = true then s else t] e := by
  go_enter Tryd.func48, Tryd.ntmps48
  cases b with
  | true =>
    go_wp2
    go_ret
    exact LnR.of (ws := [s]) (Below.refl _ _)
  | false =>
    go_wp2
    go_ret
    exact LnR.of (ws := [t]) (Below.refl _ _)
/-- the words of a result's line -/
def resLn (of_ rk num : Int) : List ByteArray := if rk = 1 then (if 0 < mostN of_ then [doneW of_, dec num] else [doneW of_]) else [resW rk]

set_option maxHeartbeats 4000000 in
theorem wresultLine_any (of_ rk num : Int) (io : Option Addr) (n ic : Nat) (w : World) (ht : Tab w) (hr : Rt w) (h1 : 1 ≤ rk) (h7 : rk ≤ 7) (hn0 : 0 ≤ num) (hn1 : num < 18446744073709551616) :
    Calls Tryd.prog 49 #[.int .u8 of_, .agg #[.int .u8 rk, .slice io n ic, .int .u64 num]] w fun e w' => LnR w w' (resLn of_ rk num) e := by
  obtain ⟨W, hW⟩ : ∃ W, W = w.alloc (.cells #[.int .u8 rk, .slice io n ic, .int .u64 num] 25) := ⟨_, rfl⟩
  have hB0 : Below w.heap.size w W := by rw [hW]; exact g_alloc _ _
  have HB := Hid.mk2 hB0
  have HX : Hid (GBx W w.heap.size [.int .u8 rk, .slice io n ic, .int .u64 num]) := by rw [hW]; exact GBx.made w [.int .u8 rk, .slice io n ic, .int .u64 num] _
  have x0 := HX.out.c 0 (by simp)
  have x2 := HX.out.c 2 (by simp)
  simp only [List.getElem_cons_zero, List.getElem_cons_succ] at x0 x2
  have HT : Hid (∀ V, Below W.heap.size W V → Calls Tryd.prog 46 #[.int .u64 num] V fun e w' => e = .returned (.string (dec num)) ∧ Below V.heap.size V w') := fun V hV => wtext_any num hn0 hn1 V ((ht.below hB0).below hV)
  have HMN := Hid.mk2 (wmostNumber_any of_ W)
  have HDW : Hid (∀ V, Below W.heap.size W V → Calls Tryd.prog 73 #[.int .u8 of_] V fun e w' => e = .returned (.string (doneW of_)) ∧ w' = V) := fun V _ => wdoneWord_any of_ V
  have hrt := (hr.below hB0).at_
  unfold resLn
  obtain ⟨DW, hDW⟩ : ∃ D, D = doneW of_ := ⟨_, rfl⟩
  obtain ⟨DN, hDN⟩ : ∃ D, D = dec num := ⟨_, rfl⟩
  obtain ⟨MN, hMN⟩ : ∃ D, D = mostN of_ := ⟨_, rfl⟩
  rw [← hDW] at HDW ⊢
  rw [← hDN] at HT ⊢
  rw [← hMN] at HMN ⊢
  have hm0 : 0 ≤ MN := by rw [hMN]; unfold mostN; split <;> (try split) <;> omega
  clear hDW hDN hMN hB0 ht hr
  by_cases hk : rk = 1
  · subst hk
    rw [if_pos rfl]
    clear hrt
    by_cases hM : 0 < MN
    · rw [if_pos hM]
      have HSW : Hid (∀ V, Below W.heap.size W V → V.cell? ⟨w.heap.size, 2, none⟩ = some (.int .u64 num)) := fun V hV => (hV.cell (p := ⟨w.heap.size, 2, none⟩) HX.out.lt).trans x2
      go_enter Tryd.func49, Tryd.ntmps49
      go_upto_region 1 with (fail)
      rw [← hW]
      clear hW
      go_upto_region 4 with (go_at_call 72; refine HMN.out.mono ?_; rintro e w1 ⟨rfl, hw1⟩; rw [hw1]; clear hw1)
      go_region_held3 (fun V => V.cell? ⟨w.heap.size, 2, none⟩ = some (.int .u64 num)) (exact HSW.out _ (by repeat' (first | with_reducible exact HB1.out | with_reducible exact Below.refl _ _ | with_reducible refine Below.drew ?_ | with_reducible refine g_on ?_ (g_alloc _ _))))
        (first
        | (go_at_call 73; refine (HDW.out _ (Below.refl _ _).drew).mono ?_; rintro e w1 ⟨rfl, hw1⟩; rw [hw1]; clear hw1)
        | (go_at_call 46; refine (HT.out _ (Below.refl _ _).drew).mono ?_; rintro e w1 ⟨rfl, hb1⟩; have HB1 : Hid (Below W.heap.size W w1) := g_drew hb1; clear hb1))
      all_goals
        go_wp2
        go_ret
        exact LnR.on (g_on HB.out HB1.out) (LnR.of (ws := [DW, DN]) (Below.refl _ _))
    · rw [if_neg hM]
      have hM0 : MN = 0 := by omega
      subst hM0
      go_enter Tryd.func49, Tryd.ntmps49
      go_upto_region 1 with (fail)
      rw [← hW]
      clear hW
      go_wp2_with (first
        | (go_at_call 72; refine HMN.out.mono ?_; rintro e w1 ⟨rfl, hw1⟩; rw [hw1]; clear hw1)
        | (go_at_call 73; refine (HDW.out _ (Below.refl _ _)).mono ?_; rintro e w1 ⟨rfl, hw1⟩; rw [hw1]; clear hw1))
      go_ret
      exact LnR.on HB.out (LnR.of (ws := [DW]) (Below.refl _ _))
  · rw [if_neg hk]
    have hcases : rk = 2 ∨ rk = 3 ∨ rk = 4 ∨ rk = 5 ∨ rk = 6 ∨ rk = 7 := by omega
    clear h1 h7 hk HT HMN HDW
    rcases hcases with rfl | rfl | rfl | rfl | rfl | rfl
    · have c := hrt 2 (by decide)
      clear hrt
      go_enter Tryd.func49, Tryd.ntmps49
      go_upto_region 1 with (fail)
      rw [← hW]
      clear hW
      go_wp2
      go_ret
      exact LnR.on HB.out (LnR.of (ws := [resW 2]) (Below.refl _ _))
    · have c := hrt 3 (by decide)
      clear hrt
      go_enter Tryd.func49, Tryd.ntmps49
      go_upto_region 1 with (fail)
      rw [← hW]
      clear hW
      go_wp2
      go_ret
      exact LnR.on HB.out (LnR.of (ws := [resW 3]) (Below.refl _ _))
    · have c := hrt 4 (by decide)
      clear hrt
      go_enter Tryd.func49, Tryd.ntmps49
      go_upto_region 1 with (fail)
      rw [← hW]
      clear hW
      go_wp2
      go_ret
      exact LnR.on HB.out (LnR.of (ws := [resW 4]) (Below.refl _ _))
    · have c := hrt 5 (by decide)
      clear hrt
      go_enter Tryd.func49, Tryd.ntmps49
      go_upto_region 1 with (fail)
      rw [← hW]
      clear hW
      go_wp2
      go_ret
      exact LnR.on HB.out (LnR.of (ws := [resW 5]) (Below.refl _ _))
    · have c := hrt 6 (by decide)
      clear hrt
      go_enter Tryd.func49, Tryd.ntmps49
      go_upto_region 1 with (fail)
      rw [← hW]
      clear hW
      go_wp2
      go_ret
      exact LnR.on HB.out (LnR.of (ws := [resW 6]) (Below.refl _ _))
    · have c := hrt 7 (by decide)
      clear hrt
      go_enter Tryd.func49, Tryd.ntmps49
      go_upto_region 1 with (fail)
      rw [← hW]
      clear hW
      go_wp2
      go_ret
      exact LnR.on HB.out (LnR.of (ws := [resW 7]) (Below.refl _ _))

/-- where lastLine comes to a line -/
def An.lineOk (a : An) : Prop := 1 ≤ a.kind ∧ a.kind ≤ 7 ∧ (a.kind = 1 → 1 ≤ a.rk ∧ a.rk ≤ 7) ∧ 0 ≤ a.num ∧ a.num < 18446744073709551616
set_option maxHeartbeats 4000000 in
theorem wlastLine_any (a : An) (io : Option Addr) (n ic : Nat) (w : World) (ht : Tab w) (hr : Rt w) (h : a.lineOk) :
    Calls Tryd.prog 26 #[.agg (a.arr (.slice io n ic))] w fun e w' => LnR w w' a.last e := by
  obtain ⟨ak, ao, ar, ai, an, ay, akey⟩ := a
  obtain ⟨k1, k7, hk, n0, n1⟩ := h
  dsimp only at k1 k7 hk n0 n1
  unfold An.arr An.last
  dsimp only
  obtain ⟨W, hW⟩ : ∃ W, W = w.alloc (.cells #[.int .u8 ak, .int .u8 ao, .int .u8 ar, .slice io n ic, .int .u64 an, .bool ay, .string akey] 27) := ⟨_, rfl⟩
  have hB0 : Below w.heap.size w W := by rw [hW]; exact g_alloc _ _
  have HB := Hid.mk2 hB0
  have HX : Hid (GBx W w.heap.size [.int .u8 ak, .int .u8 ao, .int .u8 ar, .slice io n ic, .int .u64 an, .bool ay, .string akey]) := by rw [hW]; exact GBx.made w [.int .u8 ak, .int .u8 ao, .int .u8 ar, .slice io n ic, .int .u64 an, .bool ay, .string akey] _
  have x0 := HX.out.c 0 (by simp)
  have x1 := HX.out.c 1 (by simp)
  have x2 := HX.out.c 2 (by simp)
  have x3 := HX.out.c 3 (by simp)
  have x4 := HX.out.c 4 (by simp)
  have x5 := HX.out.c 5 (by simp)
  have x6 := HX.out.c 6 (by simp)
  simp only [List.getElem_cons_zero, List.getElem_cons_succ] at x0 x1 x2 x3 x4 x5 x6
  have HO := Hid.mk2 (fun b s t => woneOf_any b s t W)
  have HR : Hid (ak = 1 → Calls Tryd.prog 49 #[.int .u8 ao, .agg #[.int .u8 ar, .slice io n ic, .int .u64 an]] W fun e w' => LnR W w' (resLn ao ar an) e) := fun h => wresultLine_any ao ar an io n ic W (ht.below hB0) (hr.below hB0) (hk h).1 (hk h).2 n0 n1
  clear hB0 ht hr hk HX
  have hcases : ak = 1 ∨ ak = 2 ∨ ak = 3 ∨ ak = 4 ∨ ak = 5 ∨ ak = 6 ∨ ak = 7 := by omega
  clear k1 k7
  rcases hcases with rfl | rfl | rfl | rfl | rfl | rfl | rfl
  · have HR1 := Hid.mk2 (HR.out rfl)
    clear HR HO
    rw [if_neg (by decide), if_neg (by decide), if_neg (by decide), if_neg (by decide), if_neg (by decide), if_neg (by decide)]
    change Calls _ _ _ _ fun e w' => LnR w w' (resLn ao ar an) e
    obtain ⟨LL, hLL⟩ : ∃ L, L = resLn ao ar an := ⟨_, rfl⟩
    rw [← hLL] at HR1 ⊢
    clear hLL
    go_enter Tryd.func26, Tryd.ntmps26
    go_upto_region 1 with (fail)
    rw [← hW]
    clear hW
    go_wp2_with (go_at_call 49; refine HR1.out.mono ?_; rintro e w1 ⟨⟨g, cap, cur, rfl, hg, hc⟩, hb1⟩; have HL1 : Hid (LnR w w1 LL (.returned (.slice (some ⟨g, 0, none⟩) LL.length cap))) := LnR.on HB.out ⟨⟨g, cap, cur, rfl, hg, hc⟩, hb1⟩; clear hg hc hb1)
    go_ret
    exact HL1.out
  · clear HR
    rw [if_pos rfl]
    have HO1 := Hid.mk2 (HO.out ay sWELCOME sUNKNOWN)
    clear HO
    obtain ⟨LL, hLL⟩ : ∃ L, L = [if ay = true then sWELCOME else sUNKNOWN] := ⟨_, rfl⟩
    rw [← hLL] at HO1 ⊢
    clear hLL
    unfold sWELCOME sUNKNOWN at HO1
    go_enter Tryd.func26, Tryd.ntmps26
    go_upto_region 1 with (fail)
    rw [← hW]
    clear hW
    go_wp2_with (go_at_call 48; refine HO1.out.mono ?_; rintro e w1 ⟨⟨g, cap, cur, rfl, hg, hc⟩, hb1⟩; have HL1 : Hid (LnR w w1 LL (.returned (.slice (some ⟨g, 0, none⟩) LL.length cap))) := LnR.on HB.out ⟨⟨g, cap, cur, rfl, hg, hc⟩, hb1⟩; clear hg hc hb1)
    go_ret
    exact HL1.out
  · clear HR
    rw [if_neg (by decide), if_pos rfl]
    have HO1 := Hid.mk2 (HO.out ay sTRACKED sUNTRACKED)
    clear HO
    obtain ⟨LL, hLL⟩ : ∃ L, L = [if ay = true then sTRACKED else sUNTRACKED] := ⟨_, rfl⟩
    rw [← hLL] at HO1 ⊢
    clear hLL
    unfold sTRACKED sUNTRACKED at HO1
    go_enter Tryd.func26, Tryd.ntmps26
    go_upto_region 1 with (fail)
    rw [← hW]
    clear hW
    go_wp2_with (go_at_call 48; refine HO1.out.mono ?_; rintro e w1 ⟨⟨g, cap, cur, rfl, hg, hc⟩, hb1⟩; have HL1 : Hid (LnR w w1 LL (.returned (.slice (some ⟨g, 0, none⟩) LL.length cap))) := LnR.on HB.out ⟨⟨g, cap, cur, rfl, hg, hc⟩, hb1⟩; clear hg hc hb1)
    go_ret
    exact HL1.out
  all_goals clear HR HO
  · rw [if_neg (by decide), if_neg (by decide), if_pos rfl]
    go_enter Tryd.func26, Tryd.ntmps26
    go_upto_region 1 with (fail)
    rw [← hW]
    clear hW
    go_wp2
    go_ret
    exact LnR.on HB.out (LnR.of (ws := [sPONG]) (Below.refl _ _))
  · rw [if_neg (by decide), if_neg (by decide), if_neg (by decide), if_pos rfl]
    go_enter Tryd.func26, Tryd.ntmps26
    go_upto_region 1 with (fail)
    rw [← hW]
    clear hW
    go_wp2
    go_ret
    exact LnR.on HB.out (LnR.of (ws := [sBYE]) (Below.refl _ _))
  · rw [if_neg (by decide), if_neg (by decide), if_neg (by decide), if_neg (by decide), if_pos rfl]
    go_enter Tryd.func26, Tryd.ntmps26
    go_upto_region 1 with (fail)
    rw [← hW]
    clear hW
    go_wp2
    go_ret
    exact LnR.on HB.out (LnR.of (ws := [sERROR]) (Below.refl _ _))
  · rw [if_neg (by decide), if_neg (by decide), if_neg (by decide), if_neg (by decide), if_neg (by decide), if_pos rfl]
    go_enter Tryd.func26, Tryd.ntmps26
    go_upto_region 1 with (fail)
    rw [← hW]
    clear hW
    go_wp2
    go_ret
    exact LnR.on HB.out (LnR.of (ws := [sPUSH, akey]) (Below.refl _ _))
end Go.Proofs.YtihcnjbnlcgcoaaDoor
/-
  Write of package words, whole.
-/
namespace Go.Proofs.YtihcnjbnlcgcoaaDoor
open Go.Proofs.YtihcnjbnlcgcoaaDoor.It
open Go.RowKit
set_option linter.unusedSimpArgs false
set_option linter.unusedVariables false
set_option maxRecDepth 100000

theorem indexM_mem (g : Nat) (p : Im → Bool) (eg : ∀ args w, (callFunc g args).run Tryd.prog w = .ok (.enter g args) w) (l : List Im) (hf : ∀ x ∈ l, ∀ w, Calls Tryd.prog g #[.agg #[.string x.key, .string x.value, .int .u32 x.flags, .int .i64 x.till, .int .u64 x.unique]] w fun e w' => e = .returned (.bool (p x)) ∧ Below w.heap.size w w') (ao : Option Addr) (cap : Nat) (w : World) (h : GRd EM w ao l cap) :
    Calls Tryd.prog 69 #[.slice ao l.length cap, .func (.func g) #[] #[]] w fun e w' => e = .returned (.int .i64 (ixG p l)) ∧ Below w.heap.size w w' := by
  have hlen := h.len
  have HR := Hid.mk2 h
  have HH := Hid.mk2 (fun k hk => @ixG_hit Im p l k hk)
  have HM := Hid.mk2 (@ixG_miss Im p l)
  have HF := Hid.mk2 hf
  obtain ⟨R, hR⟩ : ∃ R, R = ixG p l := ⟨_, rfl⟩
  rw [← hR] at HH HM ⊢
  clear hR h hf
  go_enter Tryd.func69, Tryd.ntmps69
  go_wp2
  go_loopw [5, 8] (fun _ i wr => ∃ k : Nat, k ≤ l.length ∧ i = .int .i64 k ∧ Hid (Below w.heap.size w wr) ∧ Hid (∀ j (hj : j < l.length), j < k → p l[j] = false)) (fun _ i _ => l.length - (intOf i).toNat)
  case atStart => exact ⟨0, Nat.zero_le _, rfl, Below.refl _ _, fun _ _ h => absurd h (by omega)⟩
  case round =>
    obtain ⟨k, hk, rfl, HB, HA⟩ := hrel
    by_cases hkl : k < l.length
    · have hkl2 : (k : Int) < (l.length : Int) := by omega
      have hne : l ≠ [] := by intro e; rw [e] at hkl; simp at hkl
      obtain ⟨b, off, rfl, hbl, hcs⟩ := (HR.out.below HB.out).im hne
      obtain ⟨r0, r1, r2, r3, r4⟩ := hcs k hkl
      obtain ⟨y, hye⟩ : ∃ y, y = l[k] := ⟨_, rfl⟩
      rw [← hye] at r0 r1 r2 r3 r4
      have HC := Hid.mk2 (HF.out y (by rw [hye]; exact List.getElem_mem hkl))
      obtain ⟨Y, hY⟩ : ∃ Y, Y = p y := ⟨_, rfl⟩
      rw [← hY] at HC
      cases Y
      · have HA2 : Hid (∀ j (hj : j < l.length), j < k + 1 → p l[j] = false) := by
          intro j hj hjk
          by_cases e : j = k
          · subst e; rw [← hye, ← hY]
          · exact HA.out j hj (by omega)
        clear HA hcs hne hye hY HF
        obtain ⟨yk, yv, yf, yt, yu⟩ := y
        dsimp only at *
        go_wp2_with (go_at_fn g; refine (HC.out _).mono ?_; rintro e w1 ⟨rfl, hb1⟩)
        go_roundw
        case rel => exact ⟨k + 1, by omega, by go_num, g_on HB.out hb1, HA2⟩
        case measure => simp [intOf]; omega
      · have e := HH.out k hkl (by rw [← hye, ← hY]) HA.out
        subst e
        clear HH HM HA hcs hne hye hY HF
        obtain ⟨yk, yv, yf, yt, yu⟩ := y
        dsimp only at *
        go_wp2_with (go_at_fn g; refine (HC.out _).mono ?_; rintro e w1 ⟨rfl, hb1⟩)
        go_ret
        exact ⟨rfl, g_on HB.out hb1⟩
    · have e := HM.out (fun j hj => HA.out j hj (by omega))
      subst e
      have hkl2 : ¬ (k : Int) < (l.length : Int) := by omega
      clear HH HM HA HF
      go_wp2
      go_ret
      exact ⟨rfl, HB.out⟩
theorem containsM_mem (g : Nat) (p : Im → Bool) (eg : ∀ args w, (callFunc g args).run Tryd.prog w = .ok (.enter g args) w) (l : List Im) (hf : ∀ x ∈ l, ∀ w, Calls Tryd.prog g #[.agg #[.string x.key, .string x.value, .int .u32 x.flags, .int .i64 x.till, .int .u64 x.unique]] w fun e w' => e = .returned (.bool (p x)) ∧ Below w.heap.size w w') (ao : Option Addr) (cap : Nat) (w : World) (h : GRd EM w ao l cap) :
    Calls Tryd.prog 44 #[.slice ao l.length cap, .func (.func g) #[] #[]] w fun e w' => e = .returned (.bool (l.any p)) ∧ Below w.heap.size w w' := by
  have HI := Hid.mk2 (indexM_mem g p eg l hf ao cap w h)
  rw [← ixG_any]
  obtain ⟨R, hR⟩ : ∃ R, R = ixG p l := ⟨_, rfl⟩
  rw [← hR] at HI ⊢
  clear hR h
  go_enter Tryd.func44, Tryd.ntmps44
  go_wp2_with (go_at_call 69; refine HI.out.mono ?_; rintro e w1 ⟨rfl, hb1⟩)
  go_ret
  exact ⟨rfl, hb1⟩



theorem any_seen (L : List Im) : (L.any fun x => !seen x.key) = !(L.all fun x => seen x.key) := by
  induction L with
  | nil => rfl
  | cons a t ih => rw [List.any_cons, List.all_cons, ih]; cases seen a.key <;> simp
set_option maxHeartbeats 2000000 in
theorem whasLines_any (a : An) (io : Option Addr) (ic : Nat) (w : World) (hi : GRd EM w io a.items ic) (hk : a.key.size ≤ maxLen) (hs : ∀ x ∈ a.items, x.key.size ≤ maxLen) : Calls Tryd.prog 23 #[.agg (a.arr (.slice io a.items.length ic))] w fun e w' => e = .returned (.bool a.hasL) ∧ Below w.heap.size w w' := by
  obtain ⟨W, hW⟩ : ∃ W, W = w.alloc (.cells (a.arr (.slice io a.items.length ic)) 27) := ⟨_, rfl⟩
  have HB : Hid (Below w.heap.size w W) := by rw [hW]; exact g_alloc _ _
  have HX : Hid (GBx W w.heap.size (a.cl (.slice io a.items.length ic))) := by rw [hW]; exact GBx.made w (a.cl _) _
  have HS := Hid.mk2 (fun V => wisSeen_any a.key hk V)
  have HC := Hid.mk2 (fun V (hV : Below w.heap.size w V) => containsM_mem 45 (fun x => !seen x.key) wputSeen_en a.items (fun x hx V => whasNoLine_any x (hs x hx) V) io ic V (hi.below hV))
  rw [any_seen] at HC
  unfold An.hasL
  obtain ⟨S, hS⟩ : ∃ S, S = seen a.key := ⟨_, rfl⟩
  obtain ⟨C, hC⟩ : ∃ C, C = a.items.all fun x => seen x.key := ⟨_, rfl⟩
  rw [← hS] at HS ⊢
  rw [← hC] at HC ⊢
  clear hS hC hi hs hk
  obtain ⟨kind, of_, rk, L, num, yes, key⟩ := a
  unfold An.arr at *
  unfold An.cl at HX
  dsimp only at *
  have x2 := HX.out.c 2 (by simp)
  have x3 := HX.out.c 3 (by simp)
  have x6 := HX.out.c 6 (by simp)
  simp only [List.getElem_cons_zero, List.getElem_cons_succ] at x2 x3 x6
  have xlt := HX.out.lt
  obtain ⟨N, hN⟩ : ∃ N, N = L.length := ⟨_, rfl⟩
  rw [← hN] at HC x3 hW ⊢
  clear hN HX
  go_enter Tryd.func23, Tryd.ntmps23
  go_upto_region 1 with (fail)
  rw [← hW]
  clear hW
  cases S <;> cases C
  all_goals
    go_wp2_with (first
      | (go_at_call 43; refine (HS.out _).mono ?_; rintro e w1 ⟨rfl, hb⟩; have HB1 := Hid.mk2 (g_on HB.out hb); have y3 := (hb.cell (p := ⟨w.heap.size, 3, none⟩) xlt).trans x3; clear hb)
      | (go_at_call 44; refine (HC.out _ HB1.out).mono ?_; rintro e w2 ⟨rfl, hb⟩; have HB2 := Hid.mk2 (g_on HB1.out hb); clear hb))
    all_goals go_ret
    all_goals exact ⟨by first | rfl | simp, by first | exact HB2.out | exact HB1.out⟩

/-- what Write answers -/
structure WrR (w w' : World) (a : An) (e : Ending) : Prop where
  ex : ∃ (ao : Option Addr) (cap : Nat), e = .returned (.tuple #[.slice ao a.wr.length cap, .int .i64 a.wrE]) ∧ GRd EY w' ao a.wr cap
  below : Below w.heap.size w w'
theorem WrR.bad {w w' : World} {a : An} (h : a.wrE = 8) (hb : Below w.heap.size w w') : WrR w w' a (.returned (.tuple #[.slice none 0 0, .int .i64 8])) := by
  have h2 : a.wr = [] := by unfold An.wr; rw [if_neg (by omega)]
  exact ⟨⟨none, 0, by rw [h, h2]; rfl, by rw [h2]; exact GRd.nil _⟩, hb⟩
theorem Bu.fresh (w : World) : Bu (w.alloc (.cells #[.pointer none, .slice none 0 0] 58)) w.heap.size w.heap.size [] :=
  .inl ⟨Nat.le_refl _, _, blk_new _ _, World.ownsRowF_nil _ _ _ _, by simp [Value.ownBlock]⟩
theorem GBx.belowB {w w' : World} {b B : Nat} {vs : List Value} (h : GBx w b vs) (hb : Below B w w') (hB : b < B) : GBx w' b vs := by
  have e : w'.heap[b]? = w.heap[b]? := hb.block b hB
  exact ⟨Nat.lt_of_lt_of_le h.lt hb.size, fun j => (World.frozen?_of_block (a := ⟨b, j, none⟩) e).trans (h.f j), fun j hj => (World.cell?_of_block (a := ⟨b, j, none⟩) e).trans (h.c j hj)⟩
theorem LnR.sx {w w' : World} {b : Nat} {ws : List ByteArray} {g : Nat} {cur : Array Value} (hg : w.heap.size ≤ g) (hb : b < w.heap.size) (h : w'.heap[g]? = some (.cells cur 9 (0, 0))) (hc : ∀ i (hi : i < ws.length), cur[i]? = some (.string ws[i])) : Sx w' b (some ⟨g, 0, none⟩) ws :=
  .inr ⟨g, cur, (0, 0), rfl, by omega, h, hc⟩
theorem items_ok {a : An} (hm : a.may = true) (hl : a.hasL = true) (hf : a.Fit) : (∀ x ∈ a.items, x.ok) ∧ a.items.length ≤ 8 ∧ a.lineOk := by
  unfold An.hasL at hl
  simp only [Bool.and_eq_true] at hl
  have hs := List.all_eq_true.1 hl.2
  have hn0 := hf.n0
  have hn1 := hf.n1
  unfold An.may at hm
  by_cases k1 : a.kind = 1
  · rw [if_pos k1] at hm
    simp only [Bool.and_eq_true] at hm
    have hr := hm.1.1
    unfold resOk at hr
    simp only [Bool.and_eq_true, decide_eq_true_eq, Bool.not_eq_true'] at hr
    have hb := List.any_eq_false.1 hr.2
    refine ⟨fun x hx => Im.ok_of (by have := hb x hx; simpa using this) (hs x hx) (hf.it x hx), ?_, ⟨by omega, by omega, fun _ => ⟨by omega, by omega⟩, hn0, hn1⟩⟩
    have h1 := hr.1.1.2
    have h2 : mostI a.of_ ≤ 8 := by unfold mostI; split <;> decide
    split at h1 <;> omega
  · rw [if_neg k1] at hm
    have key : a.items = [] ∧ 1 ≤ a.kind ∧ a.kind ≤ 7 := by
      by_cases k23 : a.kind = 2 ∨ a.kind = 3
      · rw [if_pos k23] at hm
        simp only [Bool.and_eq_true] at hm
        exact ⟨(noRes_parts hm.1).2.2.1, by omega, by omega⟩
      rw [if_neg k23] at hm
      by_cases k7 : a.kind = 7
      · rw [if_pos k7] at hm
        simp only [Bool.and_eq_true] at hm
        exact ⟨(noRes_parts hm.1.2).2.2.1, by omega, by omega⟩
      rw [if_neg k7] at hm
      by_cases k456 : a.kind = 4 ∨ a.kind = 5 ∨ a.kind = 6
      · rw [if_pos k456] at hm
        simp only [Bool.and_eq_true] at hm
        exact ⟨(noRes_parts hm.1.1).2.2.1, by omega, by omega⟩
      rw [if_neg k456] at hm
      cases hm
    refine ⟨fun x hx => (by rw [key.1] at hx; cases hx), (by rw [key.1]; simp), ⟨key.2.1, key.2.2, fun h => absurd h k1, hn0, hn1⟩⟩
theorem lines_len {x : Im} (h : x.ok) : x.lines.length ≤ 1100 := by
  have h1 := h.wl.fine.1
  unfold Im.lines
  simp only [List.length_append, List.length_cons, List.length_nil, bl_len]
  have := h.val
  omega
theorem flat_len : ∀ L : List Im, (∀ x ∈ L, x.ok) → (L.flatMap Im.lines).length ≤ L.length * 1100
  | [], _ => by simp
  | a :: t, h => by
    have h1 := lines_len (h a (by simp))
    have h2 := flat_len t (fun x hx => h x (by simp [hx]))
    rw [List.flatMap_cons, List.length_append, List.length_cons, Nat.add_mul]
    omega

set_option maxHeartbeats 4000000 in
theorem wWrite_any (a : An) (io : Option Addr) (ic : Nat) (w : World) (hi : GRd EM w io a.items ic) (hk : a.key.size ≤ maxLen) (hs : ∀ x ∈ a.items, x.key.size ≤ maxLen) (hf : a.Fit) (ht : Tab w) (hr : Rt w) :
    Calls Tryd.prog 10 #[.agg (a.arr (.slice io a.items.length ic))] w fun e w' => WrR w w' a e := by
  obtain ⟨W, hW⟩ : ∃ W, W = w.alloc (.cells (a.arr (.slice io a.items.length ic)) 27) := ⟨_, rfl⟩
  have HB : Hid (Below w.heap.size w W) := by rw [hW]; exact g_alloc _ _
  have HX : Hid (GBx W w.heap.size (a.cl (.slice io a.items.length ic))) := by rw [hW]; exact GBx.made w (a.cl _) _
  have HC := Hid.mk2 (fun V (hV : Below w.heap.size w V) => wCheck_any a io ic V (hi.below hV) hk)
  have HH := Hid.mk2 (fun V (hV : Below w.heap.size w V) => whasLines_any a io ic V (hi.below hV) hk hs)
  have HI := Hid.mk2 (fun V (hV : Below w.heap.size w V) => hi.below hV)
  have HWE : Hid (a.wrE = if a.may = true ∧ a.hasL = true then 0 else 8) := rfl
  have HGO := Hid.mk2 (fun h1 h2 => items_ok (a := a) h1 h2 hf)
  have HLL := Hid.mk2 (fun V (hV : Below w.heap.size w V) n m (h : a.lineOk) => wlastLine_any a io n m V (ht.below hV) (hr.below hV) h)
  have HT := Hid.mk2 (fun V (hV : Below w.heap.size w V) => ht.below hV)
  have HLO := Hid.mk2 (fun h => last_ok (a := a) h hf)
  have HWR := Hid.mk2 (fun w' (h : a.wrE = 8) hb => WrR.bad (w := w) (w' := w') h hb)
  obtain ⟨MB, hMB⟩ : ∃ M, M = a.may := ⟨_, rfl⟩
  obtain ⟨LB, hLB⟩ : ∃ M, M = a.hasL := ⟨_, rfl⟩
  rw [← hMB] at HC HWE HGO
  rw [← hLB] at HH HWE HGO
  clear hMB hLB hi hk hs hf ht hr
  have hcl : a.cl (.slice io a.items.length ic) = [.int .u8 a.kind, .int .u8 a.of_, .int .u8 a.rk, .slice io a.items.length ic, .int .u64 a.num, .bool a.yes, .string a.key] := rfl
  have har : a.arr (.slice io a.items.length ic) = #[.int .u8 a.kind, .int .u8 a.of_, .int .u8 a.rk, .slice io a.items.length ic, .int .u64 a.num, .bool a.yes, .string a.key] := rfl
  rw [hcl] at HX
  rw [har] at hW HC HH ⊢
  have HLL2 : Hid (∀ V, Below w.heap.size w V → a.lineOk → Calls Tryd.prog 26 #[.agg #[.int .u8 a.kind, .int .u8 a.of_, .int .u8 a.rk, .slice io a.items.length ic, .int .u64 a.num, .bool a.yes, .string a.key]] V fun e w' => LnR V w' a.last e) := fun V hV h => HLL.out V hV _ _ h
  clear HLL hcl har
  obtain ⟨N, hN⟩ : ∃ N, N = a.items.length := ⟨_, rfl⟩
  rw [← hN] at HX hW HC HH HLL2 ⊢
  have HN := Hid.mk2 hN
  obtain ⟨A0, hA0⟩ : ∃ x, x = a.kind := ⟨_, rfl⟩
  obtain ⟨A1, hA1⟩ : ∃ x, x = a.of_ := ⟨_, rfl⟩
  obtain ⟨A2, hA2⟩ : ∃ x, x = a.rk := ⟨_, rfl⟩
  obtain ⟨A4, hA4⟩ : ∃ x, x = a.num := ⟨_, rfl⟩
  obtain ⟨A5, hA5⟩ : ∃ x, x = a.yes := ⟨_, rfl⟩
  obtain ⟨A6, hA6⟩ : ∃ x, x = a.key := ⟨_, rfl⟩
  rw [← hA0, ← hA1, ← hA2, ← hA4, ← hA5, ← hA6] at HX hW HC HH HLL2
  rw [← hA0, ← hA1, ← hA2, ← hA4, ← hA5, ← hA6]
  clear hN hA0 hA1 hA2 hA4 hA5 hA6
  have x0 := HX.out.c 0 (by simp)
  have x1 := HX.out.c 1 (by simp)
  have x2 := HX.out.c 2 (by simp)
  have x3 := HX.out.c 3 (by simp)
  have x4 := HX.out.c 4 (by simp)
  have x5 := HX.out.c 5 (by simp)
  have x6 := HX.out.c 6 (by simp)
  simp only [List.getElem_cons_zero, List.getElem_cons_succ] at x0 x1 x2 x3 x4 x5 x6
  go_enter Tryd.func10, Tryd.ntmps10
  go_upto_region 1 with (fail)
  rw [← hW]
  clear hW
  cases MB with
  | false =>
    have HE : Hid (a.wrE = 8) := HWE.out.trans (if_neg (by simp))
    clear HWE HGO
    go_wp2_with (go_at_call 14; refine (HC.out _ HB.out).mono ?_; rintro e w1 ⟨rfl, hb⟩; have HB1 := Hid.mk2 (g_on HB.out hb); clear hb)
    refine bodyPost_ret (results_tmp2 rfl _ _ _) rfl ?_
    exact HWR.out _ HE.out HB1.out
  | true =>
    cases LB with
    | false =>
      have HE : Hid (a.wrE = 8) := HWE.out.trans (if_neg (by simp))
      clear HWE HGO
      go_wp2_with (first
        | (go_at_call 23; refine (HH.out _ HB1.out).mono ?_; rintro e w2 ⟨rfl, hb⟩; have HB2 := Hid.mk2 (g_on HB1.out hb); clear hb)
        | (go_at_call 14; refine (HC.out _ HB.out).mono ?_; rintro e w1 ⟨rfl, hb⟩; have HB1 := Hid.mk2 (g_on HB.out hb); have HX1 := Hid.mk2 (HX.out.below hb); have y0 := HX1.out.c 0 (by simp); have y1 := HX1.out.c 1 (by simp); have y2 := HX1.out.c 2 (by simp); have y3 := HX1.out.c 3 (by simp); have y4 := HX1.out.c 4 (by simp); have y5 := HX1.out.c 5 (by simp); have y6 := HX1.out.c 6 (by simp); simp only [List.getElem_cons_zero, List.getElem_cons_succ] at y0 y1 y2 y3 y4 y5 y6; clear hb))
      refine bodyPost_ret (results_tmp2 rfl _ _ _) rfl ?_
      exact HWR.out _ HE.out HB2.out
    | true =>
      have HE : Hid (a.wrE = 0) := HWE.out.trans (if_pos ⟨rfl, rfl⟩)
      have HG := Hid.mk2 (HGO.out rfl rfl)
      have hN8 : (N : Int) ≤ 8 := by have := HG.out.2.1; have := HN.out; omega
      clear HWE HGO HWR
      go_upto_region 6 with (first
        | (go_at_call 23; refine (HH.out _ HB1.out).mono ?_; rintro e w2 ⟨rfl, hb⟩; have HB2 := Hid.mk2 (g_on HB1.out hb); have HX2 := Hid.mk2 (HX1.out.below hb); clear hb)
        | (go_at_call 14; refine (HC.out _ HB.out).mono ?_; rintro e w1 ⟨rfl, hb⟩; have HB1 := Hid.mk2 (g_on HB.out hb); have HX1 := Hid.mk2 (HX.out.below hb); have y0 := HX1.out.c 0 (by simp); have y1 := HX1.out.c 1 (by simp); have y2 := HX1.out.c 2 (by simp); have y3 := HX1.out.c 3 (by simp); have y4 := HX1.out.c 4 (by simp); have y5 := HX1.out.c 5 (by simp); have y6 := HX1.out.c 6 (by simp); simp only [List.getElem_cons_zero, List.getElem_cons_succ] at y0 y1 y2 y3 y4 y5 y6; clear hb))
      go_upto_region 7 with (fail)
      obtain ⟨W3, hW3⟩ : ∃ W3, W3 = w2.alloc (.cells #[.pointer none, .slice none 0 0] 58) := ⟨_, rfl⟩
      have HU3 : Hid (Bu W3 w2.heap.size w2.heap.size []) := by rw [hW3]; exact Bu.fresh w2
      have hb3 : Below w2.heap.size w2 W3 := by rw [hW3]; exact g_alloc _ _
      have HB3 := Hid.mk2 (g_on HB2.out hb3)
      have HX3 := Hid.mk2 (HX2.out.below hb3)
      have HBS : Hid (w.heap.size < w2.heap.size ∧ w2.heap.size ≤ W3.heap.size) := ⟨HX2.out.lt, hb3.size⟩
      rw [← hW3]
      obtain ⟨b, hb⟩ : ∃ b, b = w2.heap.size := ⟨_, rfl⟩
      rw [← hb] at HU3 HBS ⊢
      clear hW3 hb3 hb y0 y1 y2 y3 y4 y5 y6 HB2 HX2 HH HC
      have z3 := HX3.out.c 3 (by simp)
      simp only [List.getElem_cons_zero, List.getElem_cons_succ] at z3
      have HPI := Hid.mk2 (fun V l x (hx : x.ok) ht h hb hl => putItem_any V b b l x hx ht h hb hl)
      have HPL := Hid.mk2 (fun V l ws ao cap h hb hx hl m hm hm2 => putLine_any V b b l ws ao cap h hb hx hl m hm hm2)
      go_wp2
      go_loopw [7, 20] (fun _ i wr => ∃ k : Nat, k ≤ N ∧ i = .int .i64 k ∧ Hid (Below b W3 wr) ∧ Hid (Bu wr b b ((a.items.take k).flatMap Im.lines))) (fun _ i _ => N - (intOf i).toNat)
      case atStart => exact ⟨0, Nat.zero_le _, rfl, Below.refl _ _, HU3.out⟩
      case round =>
        obtain ⟨k, hk, rfl, HB4, HU4⟩ := hrel
        have HB5 : Hid (Below w.heap.size w wr) := HB3.out.trans (HB4.out.mono (Nat.le_of_lt HBS.out.1))
        have HSZ : Hid (b ≤ wr.heap.size) := Nat.le_trans HBS.out.2 HB4.out.size
        by_cases hkl : k < N
        · have hkl2 : (k : Int) < (N : Int) := by omega
          have hki : k < a.items.length := by rw [← HN.out]; exact hkl
          have hne : a.items ≠ [] := by intro e; rw [e] at hki; simp at hki
          obtain ⟨g, off, rfl, hbl, hcs⟩ := (HI.out wr HB5.out).im hne
          obtain ⟨r0, r1, r2, r3, r4⟩ := hcs k hki
          have HOK := Hid.mk2 (HG.out.1 a.items[k] (List.getElem_mem hki))
          have HF1 : Hid ((a.items.take (k + 1)).flatMap Im.lines = (a.items.take k).flatMap Im.lines ++ (a.items[k]).lines) := by
            show _ = _
            rw [← List.take_append_getElem hki, List.flatMap_append, List.flatMap_cons, List.flatMap_nil, List.append_nil]
          have HF2 : Hid (((a.items.take k).flatMap Im.lines).length ≤ 8 * 1100) := by
            show _ ≤ _
            have h1 := flat_len (a.items.take k) (fun x hx => HG.out.1 x (List.mem_of_mem_take hx))
            have h2 : (a.items.take k).length ≤ 8 := by rw [List.length_take]; have := HG.out.2.1; omega
            exact Nat.le_trans h1 (Nat.mul_le_mul_right _ h2)
          obtain ⟨y, hye⟩ : ∃ y, y = a.items[k] := ⟨_, rfl⟩
          rw [← hye] at r0 r1 r2 r3 r4 HOK HF1
          have HF3 := Hid.mk2 (lines_len HOK.out)
          clear hye hcs hne hki
          obtain ⟨yk, yv, yf, yt, yu⟩ := y
          dsimp only at r0 r1 r2 r3 r4
          go_upto_region 10 with (fail)
          obtain ⟨W5, hW5⟩ : ∃ W5, W5 = wr.alloc (.cells #[.string yk, .string yv, .int .u32 yf, .int .i64 yt, .int .u64 yu] 53) := ⟨_, rfl⟩
          have hb5 : Below wr.heap.size wr W5 := by rw [hW5]; exact g_alloc _ _
          have HY5 : Hid (GBx W5 wr.heap.size [.string yk, .string yv, .int .u32 yf, .int .i64 yt, .int .u64 yu]) := by rw [hW5]; exact GBx.made wr [.string yk, .string yv, .int .u32 yf, .int .i64 yt, .int .u64 yu] _
          have HU5 := Hid.mk2 (HU4.out.below hb5)
          have HT5 := Hid.mk2 (HT.out W5 (g_on HB5.out hb5))
          have HB6 : Hid (Below b W3 W5) := HB4.out.trans (hb5.mono HSZ.out)
          have HSZ5 : Hid (b ≤ W5.heap.size) := Nat.le_trans HSZ.out hb5.size
          rw [← hW5]
          obtain ⟨Y, hY⟩ : ∃ Y, Y = wr.heap.size := ⟨_, rfl⟩
          rw [← hY] at HY5 ⊢
          clear hW5 hb5 hY r0 r1 r2 r3 r4
          have y0 := HY5.out.c 0 (by simp)
          have y1 := HY5.out.c 1 (by simp)
          have y2 := HY5.out.c 2 (by simp)
          have y3 := HY5.out.c 3 (by simp)
          have y4 := HY5.out.c 4 (by simp)
          simp only [List.getElem_cons_zero, List.getElem_cons_succ] at y0 y1 y2 y3 y4
          go_wp2_with (go_at_call 24; refine (HPI.out W5 _ (Im.mk yk yv yf yt yu) HOK.out HT5.out HU5.out HSZ5.out (by have := HF2.out; have := HF3.out; omega)).mono ?_; rintro e w6 ⟨rfl, hu6, hb6, ho6⟩; have HU6 := Hid.mk2 hu6; have HB7 := Hid.mk2 (HB6.out.trans hb6); clear hu6 hb6 ho6)
          go_roundw
          case rel => exact ⟨k + 1, by omega, by go_num, HB7, by rw [HF1.out]; exact HU6.out⟩
          case measure => simp [intOf]; omega
        · have hkl2 : ¬ (k : Int) < (N : Int) := by omega
          have HF1 : Hid ((a.items.take k).flatMap Im.lines = a.items.flatMap Im.lines) := by
            show _ = _
            rw [List.take_of_length_le (by rw [← HN.out]; omega)]
          have HF2 : Hid ((a.items.flatMap Im.lines).length ≤ 8 * 1100) := Nat.le_trans (flat_len a.items HG.out.1) (Nat.mul_le_mul_right _ HG.out.2.1)
          have HX4 := Hid.mk2 (HX3.out.belowB HB4.out HBS.out.1)
          have HL1 : Hid ((joinW a.last).length ≤ 512 ∧ a.last.length ≤ 13) := ⟨(HLO.out HE.out).wl.fine.1, (HLO.out HE.out).wl.many⟩
          have HWRL : Hid (a.wr = a.items.flatMap Im.lines ++ (joinW a.last ++ [13, 10])) := by
            show _ = _
            unfold An.wr An.lines
            rw [if_pos HE.out]
          have HLN : Hid (a.wr.length ≤ 9400) := by
            show _ ≤ _
            rw [HWRL.out]
            have h1 := HL1.out.1
            have h2 := HF2.out
            simp only [List.length_append, List.length_cons, List.length_nil]
            omega
          have HLK := Hid.mk2 HG.out.2.2
          have HEE := Hid.mk2 HE.out
          have y0 := HX4.out.c 0 (by simp)
          have y1 := HX4.out.c 1 (by simp)
          have y2 := HX4.out.c 2 (by simp)
          have y3 := HX4.out.c 3 (by simp)
          have y4 := HX4.out.c 4 (by simp)
          have y5 := HX4.out.c 5 (by simp)
          have y6 := HX4.out.c 6 (by simp)
          simp only [List.getElem_cons_zero, List.getElem_cons_succ] at y0 y1 y2 y3 y4 y5 y6
          have hsz := HSZ.out
          have hub : b < wr.heap.size := HU4.out.lt.2
          obtain ⟨LS, hLS⟩ : ∃ LS, LS = a.last := ⟨_, rfl⟩
          rw [← hLS] at HLL2 HL1 HWRL
          obtain ⟨LN, hLN⟩ : ∃ n, n = LS.length := ⟨_, rfl⟩
          have HLNE := Hid.mk2 hLN
          have hLN2 : LN ≤ 13 := by rw [hLN]; exact HL1.out.2
          clear hLS hLN
          have HSR := Hid.mk2 (fun V l h hb => bstr_any V b b l h hb)
          have hcv := conv_str (mkB a.wr)
          obtain ⟨SB, hSB⟩ : ∃ SB, SB = mkB a.wr := ⟨_, rfl⟩
          have HSB := Hid.mk2 hSB
          rw [← hSB] at hcv
          clear hSB
          go_upto_region 13 with (first
            | (go_at_call 26; refine (HLL2.out _ HB5.out HLK.out).mono ?_; rintro e w6 ⟨⟨g, cap, cur, rfl, hg, hc1, hc2⟩, hb6⟩; rw [← HLNE.out]; have HS6 := Hid.mk2 (LnR.sx hg hub hc1 hc2); have HB6 := Hid.mk2 (g_on HB5.out hb6); have HU6 := Hid.mk2 (HU4.out.below hb6); have HSZ6 : Hid (b ≤ w6.heap.size) := Nat.le_trans HSZ.out hb6.size; clear hg hc1 hc2 hb6)
            | (go_at_call 25; refine (HPL.out _ _ LS _ _ HU6.out HSZ6.out HS6.out (by have := HL1.out.1; rw [HF1.out]; have := HF2.out; omega) _ HLNE.out (by omega)).mono ?_; rintro e w7 ⟨rfl, hu7, hb7, ho7⟩; rw [HF1.out, ← HWRL.out] at hu7; have HU7 := Hid.mk2 hu7; have HB7 : Hid (Below w.heap.size w w7) := HB6.out.trans (hb7.mono (Nat.le_of_lt HBS.out.1)); have HSZ7 : Hid (b ≤ w7.heap.size) := Nat.le_trans HSZ6.out hb7.size; clear hu7 hb7 ho7))
          go_wp2_with (fail)
          go_at_call 27
          refine (HSR.out _ _ HU7.out HSZ7.out).mono ?_
          rintro e w8 ⟨rfl, hu8, hb8, ho8⟩
          rw [← HSB.out]
          have HB8 : Hid (Below w.heap.size w w8) := HB7.out.trans (hb8.mono (Nat.le_of_lt HBS.out.1))
          clear hu8 hb8 ho8
          go_wp2
          refine bodyPost_ret (results_tmp2 rfl _ _ _) rfl ?_
          have HSZZ : SB.size = a.wr.length := by rw [← bl_len, HSB.out, bl_mkB]
          refine ⟨⟨some ⟨w8.heap.size, 0, none⟩, capS w8 SB, by rw [HEE.out, ← HSZZ]; rfl, ?_⟩, g_on HB8.out (bsW_below _ _)⟩
          have := bsW_rd w8 SB (by rw [HSZZ]; have := HLN.out; have e : maxLen = 9223372036854775807 := rfl; omega)
          rw [HSB.out, bl_mkB, ← HSB.out] at this
          exact this
end Go.Proofs.YtihcnjbnlcgcoaaDoor
/-
  The document's row, word and plain of answers.
-/
namespace Go.Proofs.YtihcnjbnlcgcoaaDoor
open Go.Proofs.YtihcnjbnlcgcoaaDoor.It
open Go.RowKit
set_option linter.unusedSimpArgs false
set_option linter.unusedVariables false
set_option maxRecDepth 100000

/-- the document's row of words of what commands did -/
def rowW (o : Int) : ByteArray := if o < 1 then ⟨#[]⟩ else doneW o
set_option maxHeartbeats 1000000 in
theorem plain2_any (s : ByteArray) (m : Nat) (hs : s.size ≤ maxLen) (hm : m ≤ 3000) (w : World) :
    Calls Tryd.prog 52 #[.string s, .int .i64 m] w fun e w' => e = .returned (.bool (wordOk s m)) ∧ w' = w := by
  have hl := bl_len s
  have hmx : (s.size : Int) ≤ 9223372036854775807 := by have h2 : maxLen ≤ 9223372036854775807 := by decide
                                                        omega
  have HF := Hid.mk2 (fun (k : Nat) (hk : k < (bl s).length) (h : seenB (bl s)[k] = false) => show wordOk s m = false by unfold wordOk; rw [seen_false hk h]; simp)
  have HT := Hid.mk2 (fun h => show wordOk s m = (decide (0 < s.size) && decide (s.size ≤ m)) by unfold wordOk; rw [@seen_true s h]; simp)
  have hem : s.toList.isEmpty = !decide (0 < s.size) := by
    rw [ByteArray.toList_eq]
    show (bl s).isEmpty = _
    rw [← hl]
    cases bl s <;> simp
  obtain ⟨R, hR⟩ : ∃ R, R = wordOk s m := ⟨_, rfl⟩
  rw [← hR] at HF HT ⊢
  have HL := Hid.mk2 hl
  have HEM := Hid.mk2 hem
  clear hR hl hem
  go_enter Tryd.func52, Tryd.ntmps52
  go_wp2
  go_loopw [5] (fun i wr => ∃ k : Nat, k ≤ s.size ∧ i = .int .i64 k ∧ wr = w ∧ Hid (∀ j (hj : j < (bl s).length), j < k → seenB (bl s)[j] = true)) (fun i _ => s.size - (intOf i).toNat)
  case atStart => exact ⟨0, Nat.zero_le _, rfl, rfl, fun _ _ h => absurd h (by omega)⟩
  case round =>
    obtain ⟨k, hk, rfl, rfl, HA⟩ := hrel
    have hl := HL.out
    by_cases hkl : k < s.size
    · have hkl2 : (k : Int) < (s.size : Int) := by omega
      have hkb : k < (bl s).length := by omega
      have hx := idx_of s k hkl hkb
      obtain ⟨c, hc⟩ : ∃ c, c = (bl s)[k] := ⟨_, rfl⟩
      rw [← hc] at hx
      obtain ⟨q, hq⟩ : ∃ q : Nat, q = c.toNat := ⟨_, rfl⟩
      rw [← hq] at hx
      cases hb : seenB c
      · have e := HF.out k hkb (by rw [← hc]; exact hb)
        subst e
        have h33 := (seenB_iff c).1 hb
        rw [← hq] at h33
        by_cases h1 : q < 33
        · have h1' : (q : Int) < 33 := by omega
          clear HF HT HA hc hb h33 hl HL hq HEM
          go_wp2
          go_ret
          exact ⟨rfl, rfl⟩
        · have h1' : ¬ (q : Int) < 33 := by omega
          have h2' : (126 : Int) < q := by omega
          clear HF HT HA hc hb h33 hl HL hq HEM
          go_wp2
          go_ret
          exact ⟨rfl, rfl⟩
      · have HA2 : Hid (∀ j (hj : j < (bl s).length), j < k + 1 → seenB (bl s)[j] = true) := by
          intro j hj hjk
          by_cases e : j = k
          · subst e; rw [← hc]; exact hb
          · exact HA.out j hj (by omega)
        have h33 : ¬ (c.toNat < 33 ∨ 126 < c.toNat) := fun h => by rw [(seenB_iff c).2 h] at hb; cases hb
        rw [← hq] at h33
        have h1' : ¬ (q : Int) < 33 := by omega
        have h2' : ¬ (126 : Int) < q := by omega
        clear HF HT HA hc hb h33 hl HL hq HEM
        go_wp2
        go_roundw
        case rel => exact ⟨k + 1, by omega, by go_num, by first | rfl | trivial, HA2⟩
        case measure => simp [intOf]; omega
    · have e := HT.out (fun j hj => HA.out j hj (by omega))
      have hkl2 : ¬ (k : Int) < (s.size : Int) := by omega
      have hem := HEM.out
      clear HF HT HA HL hl HEM
      by_cases h0 : 0 < s.size
      · rw [decide_eq_true h0] at hem e
        have hem2 : s.toList.isEmpty = false := hem
        have e2 : R = decide ((s.size : Int) ≤ (m : Int)) := by rw [e]; simp
        clear hem e h0
        subst e2
        go_wp2
        go_ret
        exact ⟨by simp, rfl⟩
      · rw [decide_eq_false h0] at hem e
        have hem2 : s.toList.isEmpty = true := hem
        have e2 : R = false := by rw [e]; simp
        clear hem e h0
        subst e2
        go_wp2
        go_ret
        exact ⟨by simp, rfl⟩



theorem seen_nil {s : ByteArray} (h : s.size = 0) : seen s = true := by
  have : bl s = [] := by have := bl_len s; cases hb : bl s with | nil => rfl | cons a l => rw [hb] at this; simp at this; omega
  unfold seen; rw [this]; rfl
set_option maxHeartbeats 2000000 in
theorem rplain15_any (s : ByteArray) (hs : s.size ≤ 2000) (w : World) : Calls Tryd.prog 30 #[.string s] w fun e w' => e = .returned (.bool (seen s)) ∧ w' = w := by
  have hm : s.size ≤ maxLen := by have h2 : maxLen = 9223372036854775807 := rfl
                                  omega
  have HP := Hid.mk2 (plain2_any s 2000 hm (by decide) w)
  by_cases h0 : s.size = 0
  · have hE : s.toList = [] := by have := memp s; rw [decide_eq_true h0] at this; exact List.isEmpty_iff.1 this
    have HS : Hid (seen s = true) := seen_nil h0
    obtain ⟨S, hS⟩ : ∃ S, S = seen s := ⟨_, rfl⟩
    rw [← hS] at HS ⊢
    clear h0 hs hm HP hS
    go_enter Tryd.func30, Tryd.ntmps30
    go_wp2
    go_ret
    exact ⟨by rw [HS.out]; rfl, rfl⟩
  · have hE0 := memp s
    rw [decide_eq_false h0] at hE0
    have hE : ¬ s.toList = [] := fun e => by rw [e] at hE0; cases hE0
    have HE0 := Hid.mk2 hE0
    clear hE0
    have HS : Hid (wordOk s 2000 = seen s) := by
      show _ = _
      unfold wordOk
      rw [decide_eq_true (by omega : 0 < s.size), decide_eq_true hs]; rfl
    obtain ⟨S, hS⟩ : ∃ S, S = seen s := ⟨_, rfl⟩
    rw [← hS] at HS ⊢
    rw [HS.out] at HP
    clear h0 hs hm HS hS
    go_enter Tryd.func30, Tryd.ntmps30
    go_wp2_with (go_at_call 52; refine (HP.out).mono ?_; rintro e w1 ⟨rfl, rfl⟩)
    go_ret
    exact ⟨by show Ending.returned (.bool (s.toList.isEmpty || S)) = _; rw [HE0.out]; rfl, rfl⟩

set_option maxHeartbeats 4000000 in
theorem rrow15_any (o : Int) (h0 : 0 ≤ o) (h1 : o < 12) (w : World) : Calls Tryd.prog 55 #[.int .u8 o] w fun e w' => e = .returned (.string (rowW o)) ∧ Below w.heap.size w w' := by
  have hc : o = 0 ∨ o = 1 ∨ o = 2 ∨ o = 3 ∨ o = 4 ∨ o = 5 ∨ o = 6 ∨ o = 7 ∨ o = 8 ∨ o = 9 ∨ o = 10 ∨ o = 11 := by omega
  clear h0 h1
  rcases hc with rfl | rfl | rfl | rfl | rfl | rfl | rfl | rfl | rfl | rfl | rfl | rfl
  all_goals
    go_enter Tryd.func55, Tryd.ntmps55
    go_wp2
    go_ret
    exact ⟨rfl, (Below.refl _ _).alloc (Nat.le_refl _) _⟩

set_option maxHeartbeats 4000000 in
theorem rword15_any (o : Int) (h0 : 0 ≤ o) (h1 : o < 8) (w : World) : Calls Tryd.prog 53 #[.int .u8 o] w fun e w' => e = .returned (.string (resW o)) ∧ Below w.heap.size w w' := by
  have hc : o = 0 ∨ o = 1 ∨ o = 2 ∨ o = 3 ∨ o = 4 ∨ o = 5 ∨ o = 6 ∨ o = 7 := by omega
  clear h0 h1
  rcases hc with rfl | rfl | rfl | rfl | rfl | rfl | rfl | rfl
  all_goals
    go_enter Tryd.func53, Tryd.ntmps53
    go_wp2
    go_ret
    exact ⟨rfl, (Below.refl _ _).alloc (Nat.le_refl _) _⟩

end Go.Proofs.YtihcnjbnlcgcoaaDoor
/-
  The document's Lines of answers: their pure part.
-/
namespace Go.Proofs.YtihcnjbnlcgcoaaDoor
open Go.Proofs.YtihcnjbnlcgcoaaDoor.It
open Go.RowKit
set_option linter.unusedSimpArgs false
set_option linter.unusedVariables false
set_option maxRecDepth 100000

theorem blapp (a b : ByteArray) : bl (a ++ b) = bl a ++ bl b := by simp [bl, ByteArray.data_append]
theorem szapp (a b : ByteArray) : (a ++ b).size = a.size + b.size := by rw [← bl_len, blapp, List.length_append, bl_len, bl_len]
def cVAL : ByteArray := ⟨#[86, 65, 76, 85, 69, 32]⟩
def cSP : ByteArray := ⟨#[32]⟩
def cNL : ByteArray := ⟨#[13, 10]⟩
/-- a row of an item, as the document joins it -/
theorem ln_bl (x : Im) (S : ByteArray) : bl (S ++ ⟨#[86, 65, 76, 85, 69, 32]⟩ ++ x.key ++ ⟨#[32]⟩ ++ dec x.flags ++ ⟨#[32]⟩ ++ dec x.till ++ ⟨#[32]⟩ ++ dec x.unique ++ ⟨#[32]⟩ ++ dec (x.value.size : Int) ++ ⟨#[13, 10]⟩ ++ x.value ++ ⟨#[13, 10]⟩) = bl S ++ x.lines := by
  simp only [blapp]
  unfold Im.lines Im.words
  rw [joinW_cons]
  simp [bl, sVALUE]
theorem flatM_snoc (l : List Im) (k : Nat) (hk : k < l.length) : (l.take (k + 1)).flatMap Im.lines = (l.take k).flatMap Im.lines ++ l[k].lines := by
  rw [List.take_add_one, List.flatMap_append, List.getElem?_eq_getElem hk]
  simp
theorem dec_len20 (n : Int) (h0 : 0 ≤ n) (h1 : n < 18446744073709551616) : (dec n).size ≤ 20 := by
  rw [← bl_len]
  unfold dec
  rw [bl_mk]
  exact decL_len 19 n.toNat (by omega)
theorem rtextI (n : Int) (h0 : 0 ≤ n) (h1 : n < 18446744073709551616) (w : World) : Calls Tryd.prog 54 #[.int .u64 n] w fun e w' => e = .returned (.string (dec n)) ∧ w' = w := by
  obtain ⟨k, rfl⟩ : ∃ k : Nat, n = (k : Int) := ⟨n.toNat, by omega⟩
  refine (rtext_b k (by omega) w).mono ?_
  rintro e w' ⟨rfl, rfl⟩
  exact ⟨by unfold dec; rw [Int.toNat_natCast], rfl⟩
theorem rtextW (n : Int) (h0 : 0 ≤ n) (h1 : n < 18446744073709551616) (w : World) : Calls Tryd.prog 54 #[.int .u64 (IntKind.u64.wrap n)] w fun e w' => e = .returned (.string (dec n)) ∧ w' = w := by
  have e : IntKind.u64.wrap n = n := by
    have e : IntKind.u64.wrap n = n % 18446744073709551616 := rfl
    rw [e]; omega
  rw [e]
  exact rtextI n h0 h1 w
/-- what Lines answers -/
def LinesR (a : An) (w w' : World) (e : Ending) : Prop := ∃ S : ByteArray, e = .returned (.string S) ∧ bl S ++ [13, 10] = a.lines ∧ S.size ≤ 20000 ∧ Below w.heap.size w w'
structure LinesK (a : An) : Prop where
  kind : 1 ≤ a.kind ∧ a.kind ≤ 7
  one : a.kind = 1 → 1 ≤ a.of_ ∧ a.of_ ≤ 11 ∧ 1 ≤ a.rk ∧ a.rk ≤ 7 ∧ (a.rk ≠ 1 → a.items = [])
  other : a.kind ≠ 1 → a.items = []
  key : a.kind = 7 → a.key.size ≤ 32
theorem lines_k {a : An} (hm : a.may = true) : LinesK a := by
  unfold An.may at hm
  by_cases k1 : a.kind = 1
  · rw [if_pos k1] at hm
    simp only [Bool.and_eq_true] at hm
    have hr := hm.1.1
    unfold resOk isCmd at hr
    simp only [Bool.and_eq_true, decide_eq_true_eq] at hr
    refine ⟨by omega, fun _ => ⟨by omega, by omega, by omega, by omega, fun hk => ?_⟩, fun h => absurd k1 h, fun h => by omega⟩
    have h1 := hr.1.1.2
    rw [if_neg hk] at h1
    exact List.eq_nil_of_length_eq_zero (by omega)
  · rw [if_neg k1] at hm
    by_cases k23 : a.kind = 2 ∨ a.kind = 3
    · rw [if_pos k23] at hm
      simp only [Bool.and_eq_true] at hm
      exact ⟨by omega, fun h => absurd h k1, fun _ => (noRes_parts hm.1).2.2.1, fun h => by omega⟩
    rw [if_neg k23] at hm
    by_cases k7 : a.kind = 7
    · rw [if_pos k7] at hm
      simp only [Bool.and_eq_true, decide_eq_true_eq] at hm
      exact ⟨by omega, fun h => absurd h k1, fun _ => (noRes_parts hm.1.2).2.2.1, fun h => by omega⟩
    rw [if_neg k7] at hm
    by_cases k456 : a.kind = 4 ∨ a.kind = 5 ∨ a.kind = 6
    · rw [if_pos k456] at hm
      simp only [Bool.and_eq_true] at hm
      exact ⟨by omega, fun h => absurd h k1, fun _ => (noRes_parts hm.1.1).2.2.1, fun h => absurd h k7⟩
    rw [if_neg k456] at hm
    cases hm
theorem mcnt_most (o : Int) (h : mcnt o = true) : 0 < mostN o := by
  unfold mcnt at h
  unfold mostN
  simp only [Bool.or_eq_true, decide_eq_true_eq] at h
  split
  · decide
  · rw [if_pos (by omega)]; decide
theorem mcnt_none (o : Int) (h : mcnt o = false) : ¬ 0 < mostN o := by
  unfold mcnt at h
  unfold mostN
  simp only [Bool.or_eq_false_iff, decide_eq_false_iff_not] at h
  rw [if_neg (by omega), if_neg (by omega)]; decide
theorem rowW_ok (o : Int) (h0 : 1 ≤ o) : rowW o = doneW o := by unfold rowW; rw [if_neg (by omega)]
theorem doneW_len (o : Int) : (doneW o).size ≤ 10 := by
  unfold doneW
  repeat' split
  all_goals decide
theorem resW_len (o : Int) : (resW o).size ≤ 10 := by
  unfold resW
  repeat' split
  all_goals decide
theorem flat_lenB (L : List Im) (k : Nat) (hk : k ≤ L.length) (hL : L.length ≤ 8) (h : ∀ x ∈ L, x.ok) (S : ByteArray) (hS : bl S = (L.take k).flatMap Im.lines) : S.size ≤ 8800 := by
  rw [← bl_len, hS]
  have h1 := flat_len (L.take k) (fun x hx => h x (List.mem_of_mem_take hx))
  have h2 : (L.take k).length ≤ 8 := by rw [List.length_take]; omega
  omega
end Go.Proofs.YtihcnjbnlcgcoaaDoor
/-
  The document's Lines of answers, walked.
-/
namespace Go.Proofs.YtihcnjbnlcgcoaaDoor
open Go.Proofs.YtihcnjbnlcgcoaaDoor.It
open Go.RowKit
set_option linter.unusedSimpArgs false
set_option linter.unusedVariables false
set_option maxRecDepth 100000

set_option maxHeartbeats 8000000 in
theorem rlines15_any (a : An) (io : Option Addr) (ic : Nat) (w : World) (hi : GRd EM w io a.items ic) (hm : a.may = true) (hl : a.hasL = true) (hf : a.Fit) :
    Calls Tryd.prog 31 #[.agg (a.arr (.slice io a.items.length ic))] w fun e w' => LinesR a w w' e := by
  obtain ⟨hx, h8, _⟩ := items_ok hm hl hf
  have hk := lines_k hm
  obtain ⟨W, hW⟩ : ∃ W, W = w.alloc (.cells (a.arr (.slice io a.items.length ic)) 27) := ⟨_, rfl⟩
  have HB : Hid (Below w.heap.size w W) := by rw [hW]; exact g_alloc _ _
  have HX : Hid (GBx W w.heap.size (a.cl (.slice io a.items.length ic))) := by rw [hW]; exact GBx.made w (a.cl _) _
  have HI := Hid.mk2 (hi.below HB.out)
  have hn0 := hf.n0
  have hn1 := hf.n1
  obtain ⟨K, O, R, L, N, Y, key⟩ := a
  obtain ⟨hk0, hk1, hk2, hk3⟩ := hk
  have HOK := Hid.mk2 hx
  unfold An.arr at hW ⊢
  unfold An.cl at HX
  dsimp only at *
  have HKO := Hid.mk2 hk1
  have HKI := Hid.mk2 hk2
  have HKK := Hid.mk2 hk3
  have HL8 := Hid.mk2 h8
  clear hx hm hl hf hi hk1 hk2 hk3
  obtain ⟨n, hn⟩ : ∃ n, n = L.length := ⟨_, rfl⟩
  have HN := Hid.mk2 hn
  rw [← hn] at HX hW h8 ⊢
  clear hn
  have x0 := HX.out.c 0 (by simp)
  have x1 := HX.out.c 1 (by simp)
  have x2 := HX.out.c 2 (by simp)
  have x3 := HX.out.c 3 (by simp)
  have x4 := HX.out.c 4 (by simp)
  have x5 := HX.out.c 5 (by simp)
  have x6 := HX.out.c 6 (by simp)
  simp only [List.getElem_cons_zero, List.getElem_cons_succ] at x0 x1 x2 x3 x4 x5 x6
  go_enter Tryd.func31, Tryd.ntmps31
  go_upto_region 1 with (fail)
  rw [← hW]
  clear hW
  have hkc : K = 1 ∨ K = 2 ∨ K = 3 ∨ K = 4 ∨ K = 5 ∨ K = 6 ∨ K = 7 := by omega
  clear hk0
  rcases hkc with rfl | rfl | rfl | rfl | rfl | rfl | rfl
  · obtain ⟨ho0, ho1, hr0, hr1, hri⟩ := HKO.out rfl
    have HRI := Hid.mk2 hri
    have HRW := Hid.mk2 (fun V => rrow15_any O (by omega) (by omega) V)
    have HWD := Hid.mk2 (fun V => rword15_any R (by omega) (by omega) V)
    have HCN := Hid.mk2 (fun V => rcounts15_any O V)
    have HTN := Hid.mk2 (fun V => rtextI N hn0 hn1 V)
    have HDN := Hid.mk2 (dec_len20 N hn0 hn1)
    have HRO := Hid.mk2 (rowW_ok O ho0)
    have HO1 := Hid.mk2 ho0
    clear HKO HKI HKK hn0 hn1 ho0 ho1 hr0 hr1 hri
    by_cases hR : R = 1
    case neg =>
      have e := HRI.out hR
      subst e
      have bR : (R != 1) = true := by simpa using hR
      have HR := Hid.mk2 hR
      have HRL := Hid.mk2 (resW_len R)
      clear hR HOK HI HN
      go_wp2_with (go_at_call 53; refine (HWD.out _).mono ?_; rintro e w3 ⟨rfl, hb3⟩; have HB3 := Hid.mk2 (g_on HB.out hb3); clear hb3)
      go_ret
      exact ⟨_, rfl, by show bl (resW R) ++ _ = _; simp [An.lines, An.last, HR.out, joinW_cons], Nat.le_trans HRL.out (by decide), HB3.out⟩
    subst hR
    clear HWD HRI
    go_upto_region 20 with (fail)
    go_wp2
    go_loopw [3, 4] (fun s i wr => ∃ (k : Nat) (S : ByteArray), k ≤ n ∧ s = .string S ∧ i = .int .i64 k ∧ Hid (Below W.heap.size W wr) ∧ Hid (bl S = (L.take k).flatMap Im.lines)) (fun _ i _ => n - (intOf i).toNat)
    case atStart => exact ⟨0, ⟨#[]⟩, Nat.zero_le _, rfl, rfl, Below.refl _ _, rfl⟩
    case round =>
      obtain ⟨k, S, hk, rfl, rfl, HBR, HS⟩ := hrel
      have hsz : S.size ≤ 8800 := flat_lenB L k (by rw [← HN.out]; exact hk) HL8.out HOK.out S HS.out
      have HXR := Hid.mk2 (HX.out.below HBR.out)
      have z1 := HXR.out.c 1 (by simp)
      have z3 := HXR.out.c 3 (by simp)
      have z4 := HXR.out.c 4 (by simp)
      simp only [List.getElem_cons_zero, List.getElem_cons_succ] at z1 z3 z4
      by_cases hkl : k < n
      · have hkl2 : (k : Int) < (n : Int) := by omega
        have hkL : k < L.length := by rw [← HN.out]; exact hkl
        have hne : L ≠ [] := by intro e; rw [e] at hkL; simp at hkL
        obtain ⟨b, off, rfl, hbl, hcs⟩ := (HI.out.below HBR.out).im hne
        obtain ⟨r0, r1, r2, r3, r4⟩ := hcs k hkL
        have HSN := Hid.mk2 (flatM_snoc L k hkL)
        have hok := HOK.out L[k] (List.getElem_mem hkL)
        obtain ⟨y, hye⟩ : ∃ y, y = L[k] := ⟨_, rfl⟩
        rw [← hye] at r0 r1 r2 r3 r4 HSN hok
        clear hye hcs hne hkL
        have HLB := Hid.mk2 (ln_bl y S)
        obtain ⟨okk, okv, okt, okf, oku⟩ := hok
        have HTF := Hid.mk2 (fun V => rtextW y.flags okf.1 (by omega) V)
        have HTT := Hid.mk2 (fun V => rtextW y.till okt.1 (by omega) V)
        have HTU := Hid.mk2 (fun V => rtextI y.unique oku.1 oku.2 V)
        have HTZ := Hid.mk2 (fun V => rtextW (y.value.size : Int) (by omega) (by omega) V)
        have HTF2 := Hid.mk2 (fun V => rtextI y.flags okf.1 (by omega) V)
        have HTT2 := Hid.mk2 (fun V => rtextI y.till okt.1 (by omega) V)
        have HTZ2 := Hid.mk2 (fun V => rtextI (y.value.size : Int) (by omega) (by omega) V)
        have lF := dec_len20 y.flags okf.1 (by omega)
        have lT := dec_len20 y.till okt.1 (by omega)
        have lU := dec_len20 y.unique oku.1 oku.2
        have lZ := dec_len20 (y.value.size : Int) (by omega) (by omega)
        obtain ⟨F, hF⟩ : ∃ F, F = dec y.flags := ⟨_, rfl⟩
        obtain ⟨T, hT⟩ : ∃ T, T = dec y.till := ⟨_, rfl⟩
        obtain ⟨U, hU⟩ : ∃ U, U = dec y.unique := ⟨_, rfl⟩
        obtain ⟨Z, hZ⟩ : ∃ Z, Z = dec (y.value.size : Int) := ⟨_, rfl⟩
        rw [← hF] at HLB HTF HTF2 lF
        rw [← hT] at HLB HTT HTT2 lT
        rw [← hU] at HLB HTU lU
        rw [← hZ] at HLB HTZ HTZ2 lZ
        have lk : y.key.size ≤ 32 := by
          unfold wordOk at okk
          simp only [Bool.and_eq_true, decide_eq_true_eq] at okk
          exact okk.1.2
        clear okk okt okf oku hF hT hU hZ
        have HLN := Hid.mk2 (HLB.out.trans (by rw [HS.out, ← HSN.out] : bl S ++ y.lines = (L.take (k + 1)).flatMap Im.lines))
        clear HLB HSN HS
        obtain ⟨yk, yv, yf, yt, yu⟩ := y
        dsimp only at r0 r1 r2 r3 r4 HTF HTT HTU HTZ HTF2 HTT2 HTZ2 HLN okv lk
        have g0 : ¬ 9223372036854775807 < (S : ByteArray).size + (⟨#[86, 65, 76, 85, 69, 32]⟩ : ByteArray).size := by
          (try simp only [szapp])
          have e1 : (⟨#[32]⟩ : ByteArray).size = 1 := rfl
          have e2 : (⟨#[13, 10]⟩ : ByteArray).size = 2 := rfl
          have e6 : (⟨#[86, 65, 76, 85, 69, 32]⟩ : ByteArray).size = 6 := rfl
          omega
        have g1 : ¬ 9223372036854775807 < (S ++ ⟨#[86, 65, 76, 85, 69, 32]⟩ : ByteArray).size + (yk : ByteArray).size := by
          (try simp only [szapp])
          have e1 : (⟨#[32]⟩ : ByteArray).size = 1 := rfl
          have e2 : (⟨#[13, 10]⟩ : ByteArray).size = 2 := rfl
          have e6 : (⟨#[86, 65, 76, 85, 69, 32]⟩ : ByteArray).size = 6 := rfl
          omega
        have g2 : ¬ 9223372036854775807 < (S ++ ⟨#[86, 65, 76, 85, 69, 32]⟩ ++ yk : ByteArray).size + (⟨#[32]⟩ : ByteArray).size := by
          (try simp only [szapp])
          have e1 : (⟨#[32]⟩ : ByteArray).size = 1 := rfl
          have e2 : (⟨#[13, 10]⟩ : ByteArray).size = 2 := rfl
          have e6 : (⟨#[86, 65, 76, 85, 69, 32]⟩ : ByteArray).size = 6 := rfl
          omega
        have g3 : ¬ 9223372036854775807 < (S ++ ⟨#[86, 65, 76, 85, 69, 32]⟩ ++ yk ++ ⟨#[32]⟩ : ByteArray).size + (F : ByteArray).size := by
          (try simp only [szapp])
          have e1 : (⟨#[32]⟩ : ByteArray).size = 1 := rfl
          have e2 : (⟨#[13, 10]⟩ : ByteArray).size = 2 := rfl
          have e6 : (⟨#[86, 65, 76, 85, 69, 32]⟩ : ByteArray).size = 6 := rfl
          omega
        have g4 : ¬ 9223372036854775807 < (S ++ ⟨#[86, 65, 76, 85, 69, 32]⟩ ++ yk ++ ⟨#[32]⟩ ++ F : ByteArray).size + (⟨#[32]⟩ : ByteArray).size := by
          (try simp only [szapp])
          have e1 : (⟨#[32]⟩ : ByteArray).size = 1 := rfl
          have e2 : (⟨#[13, 10]⟩ : ByteArray).size = 2 := rfl
          have e6 : (⟨#[86, 65, 76, 85, 69, 32]⟩ : ByteArray).size = 6 := rfl
          omega
        have g5 : ¬ 9223372036854775807 < (S ++ ⟨#[86, 65, 76, 85, 69, 32]⟩ ++ yk ++ ⟨#[32]⟩ ++ F ++ ⟨#[32]⟩ : ByteArray).size + (T : ByteArray).size := by
          (try simp only [szapp])
          have e1 : (⟨#[32]⟩ : ByteArray).size = 1 := rfl
          have e2 : (⟨#[13, 10]⟩ : ByteArray).size = 2 := rfl
          have e6 : (⟨#[86, 65, 76, 85, 69, 32]⟩ : ByteArray).size = 6 := rfl
          omega
        have g6 : ¬ 9223372036854775807 < (S ++ ⟨#[86, 65, 76, 85, 69, 32]⟩ ++ yk ++ ⟨#[32]⟩ ++ F ++ ⟨#[32]⟩ ++ T : ByteArray).size + (⟨#[32]⟩ : ByteArray).size := by
          (try simp only [szapp])
          have e1 : (⟨#[32]⟩ : ByteArray).size = 1 := rfl
          have e2 : (⟨#[13, 10]⟩ : ByteArray).size = 2 := rfl
          have e6 : (⟨#[86, 65, 76, 85, 69, 32]⟩ : ByteArray).size = 6 := rfl
          omega
        have g7 : ¬ 9223372036854775807 < (S ++ ⟨#[86, 65, 76, 85, 69, 32]⟩ ++ yk ++ ⟨#[32]⟩ ++ F ++ ⟨#[32]⟩ ++ T ++ ⟨#[32]⟩ : ByteArray).size + (U : ByteArray).size := by
          (try simp only [szapp])
          have e1 : (⟨#[32]⟩ : ByteArray).size = 1 := rfl
          have e2 : (⟨#[13, 10]⟩ : ByteArray).size = 2 := rfl
          have e6 : (⟨#[86, 65, 76, 85, 69, 32]⟩ : ByteArray).size = 6 := rfl
          omega
        have g8 : ¬ 9223372036854775807 < (S ++ ⟨#[86, 65, 76, 85, 69, 32]⟩ ++ yk ++ ⟨#[32]⟩ ++ F ++ ⟨#[32]⟩ ++ T ++ ⟨#[32]⟩ ++ U : ByteArray).size + (⟨#[32]⟩ : ByteArray).size := by
          (try simp only [szapp])
          have e1 : (⟨#[32]⟩ : ByteArray).size = 1 := rfl
          have e2 : (⟨#[13, 10]⟩ : ByteArray).size = 2 := rfl
          have e6 : (⟨#[86, 65, 76, 85, 69, 32]⟩ : ByteArray).size = 6 := rfl
          omega
        have g9 : ¬ 9223372036854775807 < (S ++ ⟨#[86, 65, 76, 85, 69, 32]⟩ ++ yk ++ ⟨#[32]⟩ ++ F ++ ⟨#[32]⟩ ++ T ++ ⟨#[32]⟩ ++ U ++ ⟨#[32]⟩ : ByteArray).size + (Z : ByteArray).size := by
          (try simp only [szapp])
          have e1 : (⟨#[32]⟩ : ByteArray).size = 1 := rfl
          have e2 : (⟨#[13, 10]⟩ : ByteArray).size = 2 := rfl
          have e6 : (⟨#[86, 65, 76, 85, 69, 32]⟩ : ByteArray).size = 6 := rfl
          omega
        have g10 : ¬ 9223372036854775807 < (S ++ ⟨#[86, 65, 76, 85, 69, 32]⟩ ++ yk ++ ⟨#[32]⟩ ++ F ++ ⟨#[32]⟩ ++ T ++ ⟨#[32]⟩ ++ U ++ ⟨#[32]⟩ ++ Z : ByteArray).size + (⟨#[13, 10]⟩ : ByteArray).size := by
          (try simp only [szapp])
          have e1 : (⟨#[32]⟩ : ByteArray).size = 1 := rfl
          have e2 : (⟨#[13, 10]⟩ : ByteArray).size = 2 := rfl
          have e6 : (⟨#[86, 65, 76, 85, 69, 32]⟩ : ByteArray).size = 6 := rfl
          omega
        have g11 : ¬ 9223372036854775807 < (S ++ ⟨#[86, 65, 76, 85, 69, 32]⟩ ++ yk ++ ⟨#[32]⟩ ++ F ++ ⟨#[32]⟩ ++ T ++ ⟨#[32]⟩ ++ U ++ ⟨#[32]⟩ ++ Z ++ ⟨#[13, 10]⟩ : ByteArray).size + (yv : ByteArray).size := by
          (try simp only [szapp])
          have e1 : (⟨#[32]⟩ : ByteArray).size = 1 := rfl
          have e2 : (⟨#[13, 10]⟩ : ByteArray).size = 2 := rfl
          have e6 : (⟨#[86, 65, 76, 85, 69, 32]⟩ : ByteArray).size = 6 := rfl
          omega
        have g12 : ¬ 9223372036854775807 < (S ++ ⟨#[86, 65, 76, 85, 69, 32]⟩ ++ yk ++ ⟨#[32]⟩ ++ F ++ ⟨#[32]⟩ ++ T ++ ⟨#[32]⟩ ++ U ++ ⟨#[32]⟩ ++ Z ++ ⟨#[13, 10]⟩ ++ yv : ByteArray).size + (⟨#[13, 10]⟩ : ByteArray).size := by
          (try simp only [szapp])
          have e1 : (⟨#[32]⟩ : ByteArray).size = 1 := rfl
          have e2 : (⟨#[13, 10]⟩ : ByteArray).size = 2 := rfl
          have e6 : (⟨#[86, 65, 76, 85, 69, 32]⟩ : ByteArray).size = 6 := rfl
          omega
        go_upto_region 25 with (fail)
        obtain ⟨V, hV⟩ : ∃ V, V = wr.alloc (.cells #[.string yk, .string yv, .int .u32 yf, .int .i64 yt, .int .u64 yu] 53) := ⟨_, rfl⟩
        have hbv : Below wr.heap.size wr V := by rw [hV]; exact g_alloc _ _
        have HBV := Hid.mk2 (g_on HBR.out hbv)
        have HXV : Hid (GBx V wr.heap.size [.string yk, .string yv, .int .u32 yf, .int .i64 yt, .int .u64 yu]) := by rw [hV]; exact GBx.made wr [.string yk, .string yv, .int .u32 yf, .int .i64 yt, .int .u64 yu] _
        rw [← hV]
        clear hV hbv r0 r1 r2 r3 r4
        have v0 := HXV.out.c 0 (by simp)
        have v1 := HXV.out.c 1 (by simp)
        have v2 := HXV.out.c 2 (by simp)
        have v3 := HXV.out.c 3 (by simp)
        have v4 := HXV.out.c 4 (by simp)
        simp only [List.getElem_cons_zero, List.getElem_cons_succ] at v0 v1 v2 v3 v4
        go_quiet ((first | (go_at_call 54; with_reducible exact Calls.quiet_of_same (HTF.out _)) | (go_at_call 54; with_reducible exact Calls.quiet_of_same (HTT.out _)) | (go_at_call 54; with_reducible exact Calls.quiet_of_same (HTU.out _)) | (go_at_call 54; with_reducible exact Calls.quiet_of_same (HTZ.out _)) | (go_at_call 54; with_reducible exact Calls.quiet_of_same (HTF2.out _)) | (go_at_call 54; with_reducible exact Calls.quiet_of_same (HTT2.out _)) | (go_at_call 54; with_reducible exact Calls.quiet_of_same (HTZ2.out _))))
        go_wp2
        go_roundw
        case rel => exact ⟨k + 1, _, by omega, rfl, by go_num, g_quiet_on _ HBV.out, HLN.out⟩
        case measure => simp [intOf]; omega
      · have hkl2 : ¬ (k : Int) < (n : Int) := by omega
        have ek : L.take k = L := List.take_of_length_le (by rw [← HN.out]; omega)
        have HSE : Hid (bl S = L.flatMap Im.lines) := by show _ = _; rw [HS.out, ek]
        have hDW := doneW_len O
        have HDW := HRO.out
        rw [HDW] at HRW
        obtain ⟨D, hD⟩ : ∃ D, D = doneW O := ⟨_, rfl⟩
        rw [← hD] at HRW hDW
        have g1 : ¬ 9223372036854775807 < (S : ByteArray).size + D.size := by omega
        have hSD : (S ++ D).size = S.size + D.size := szapp _ _
        clear HS ek HOK HI HRO HDW
        cases hC : mcnt O with
        | false =>
          rw [hC] at HCN
          have HCC : Hid ((if 0 < mostN O then [doneW O, dec N] else [doneW O]) = [doneW O]) := if_neg (mcnt_none O hC)
          have HD := Hid.mk2 hD
          have HSD := Hid.mk2 hSD
          have HDL := Hid.mk2 hDW
          have HSZ := Hid.mk2 hsz
          clear hC hD hSD
          go_wp2_with (first
            | (go_at_call 55; refine (HRW.out _).mono ?_; rintro e w4 ⟨rfl, hb4⟩; have HB4 := Hid.mk2 (g_on HBR.out hb4); have y1 := (hb4.cell (p := ⟨w.heap.size, 1, none⟩) (World.block_lt_of_cell? _ _ z1)).trans z1; clear hb4)
            | (go_at_call 50; refine (HCN.out _).mono ?_; rintro e w5 ⟨rfl, rfl⟩))
          go_ret
          exact ⟨_, rfl, by show bl (S ++ D) ++ _ = _; rw [blapp, HSE.out, HD.out]; unfold An.lines An.last; dsimp only; rw [if_neg (by decide), if_neg (by decide), if_neg (by decide), if_neg (by decide), if_neg (by decide), if_neg (by decide), if_pos rfl, HCC.out]; simp [joinW_cons], by show (S ++ D).size ≤ _; rw [HSD.out]; have := HDL.out; have := HSZ.out; omega, g_on HB.out HB4.out⟩
        | true =>
          rw [hC] at HCN
          have HCC := Hid.mk2 (mcnt_most O hC)
          have lN := HDN.out
          obtain ⟨F, hF⟩ : ∃ F, F = dec N := ⟨_, rfl⟩
          rw [← hF] at HTN lN
          have hS2 : (S ++ D ++ ⟨#[32]⟩).size = S.size + D.size + 1 := by rw [szapp, szapp]; rfl
          have hS3 : (S ++ D ++ ⟨#[32]⟩ ++ F).size = S.size + D.size + 1 + F.size := by rw [szapp, hS2]
          have g2 : ¬ 9223372036854775807 < (S ++ D).size + (⟨#[32]⟩ : ByteArray).size := by rw [hSD]; show ¬ _ < _ + 1; omega
          have g3 : ¬ 9223372036854775807 < (S ++ D ++ ⟨#[32]⟩).size + F.size := by rw [hS2]; omega
          have HF := Hid.mk2 hF
          have HD := Hid.mk2 hD
          have HS3 := Hid.mk2 hS3
          have HDL := Hid.mk2 hDW
          have HSZ := Hid.mk2 hsz
          have HLN := Hid.mk2 lN
          clear hC hD hSD hF hS2 hS3 HDN
          go_wp2_with (first
            | (go_at_call 55; refine (HRW.out _).mono ?_; rintro e w4 ⟨rfl, hb4⟩; have HB4 := Hid.mk2 (g_on HBR.out hb4); have y1 := (hb4.cell (p := ⟨w.heap.size, 1, none⟩) (World.block_lt_of_cell? _ _ z1)).trans z1; have y4 := (hb4.cell (p := ⟨w.heap.size, 4, none⟩) (World.block_lt_of_cell? _ _ z4)).trans z4; clear hb4)
            | (go_at_call 50; refine (HCN.out _).mono ?_; rintro e w5 ⟨rfl, rfl⟩)
            | (go_at_call 54; refine (HTN.out _).mono ?_; rintro e w6 ⟨rfl, rfl⟩))
          go_ret
          exact ⟨_, rfl, by show bl (S ++ D ++ ⟨#[32]⟩ ++ F) ++ _ = _; rw [blapp, blapp, blapp, HSE.out, HD.out, HF.out]; simp [An.lines, An.last, HCC.out, joinW_cons, bl], by show (S ++ D ++ ⟨#[32]⟩ ++ F).size ≤ _; rw [HS3.out]; have := HDL.out; have := HSZ.out; have := HLN.out; omega, g_on HB.out HB4.out⟩
  · have e := HKI.out (by decide)
    subst e
    clear HOK HKO HKK HI HN
    cases Y
    all_goals
      go_wp2
      go_ret
      exact ⟨_, rfl, by first | rfl | (simp [An.lines, An.last, joinW, Lib.join, sWELCOME, sUNKNOWN, sTRACKED, sUNTRACKED, sPONG, sBYE, sERROR, bl]; done), by decide, HB.out⟩
  · have e := HKI.out (by decide)
    subst e
    clear HOK HKO HKK HI HN
    cases Y
    all_goals
      go_wp2
      go_ret
      exact ⟨_, rfl, by first | rfl | (simp [An.lines, An.last, joinW, Lib.join, sWELCOME, sUNKNOWN, sTRACKED, sUNTRACKED, sPONG, sBYE, sERROR, bl]; done), by decide, HB.out⟩
  · have e := HKI.out (by decide)
    subst e
    clear HOK HKO HKK HI HN
    cases Y
    all_goals
      go_wp2
      go_ret
      exact ⟨_, rfl, by first | rfl | (simp [An.lines, An.last, joinW, Lib.join, sWELCOME, sUNKNOWN, sTRACKED, sUNTRACKED, sPONG, sBYE, sERROR, bl]; done), by decide, HB.out⟩
  · have e := HKI.out (by decide)
    subst e
    clear HOK HKO HKK HI HN
    cases Y
    all_goals
      go_wp2
      go_ret
      exact ⟨_, rfl, by first | rfl | (simp [An.lines, An.last, joinW, Lib.join, sWELCOME, sUNKNOWN, sTRACKED, sUNTRACKED, sPONG, sBYE, sERROR, bl]; done), by decide, HB.out⟩
  · have e := HKI.out (by decide)
    subst e
    clear HOK HKO HKK HI HN
    cases Y
    all_goals
      go_wp2
      go_ret
      exact ⟨_, rfl, by first | rfl | (simp [An.lines, An.last, joinW, Lib.join, sWELCOME, sUNKNOWN, sTRACKED, sUNTRACKED, sPONG, sBYE, sERROR, bl]; done), by decide, HB.out⟩
  · have e := HKI.out (by decide)
    subst e
    have hks := HKK.out rfl
    have HKS := Hid.mk2 hks
    have g1 : ¬ 9223372036854775807 < (⟨#[80, 85, 83, 72, 32]⟩ : ByteArray).size + key.size := by show ¬ _ < 5 + key.size; omega
    have HSP := Hid.mk2 (szapp ⟨#[80, 85, 83, 72, 32]⟩ key)
    clear HOK HKO HKK HI HN hks
    go_wp2
    go_ret
    exact ⟨_, rfl, by show bl (⟨#[80, 85, 83, 72, 32]⟩ ++ key) ++ _ = _; rw [blapp]; simp [An.lines, An.last, joinW_cons, sPUSH, bl], by show (⟨#[80, 85, 83, 72, 32]⟩ ++ key : ByteArray).size ≤ _; rw [HSP.out]; have := HKS.out; show 5 + key.size ≤ _; omega, HB.out⟩
end Go.Proofs.YtihcnjbnlcgcoaaDoor
