/-
  (shaken)
-/
import Derived.Test.YtldnkminhppngaaDoorTxD
namespace Go.Proofs.YtldnkminhppngaaDoor
open Go.Proofs.YtldnkminhppngaaDoor.It
open Go.RowKit
set_option linter.unusedSimpArgs false
set_option linter.unusedVariables false
set_option maxRecDepth 100000

theorem g_cell_lt {w : World} {b j : Nat} {v : Value} (h : w.cell? ⟨b, j, none⟩ = some v) : b < w.heap.size := by
  rcases Nat.lt_or_ge b w.heap.size with h1 | h1
  · exact h1
  · unfold World.cell? at h
    rw [Array.getElem?_eq_none h1] at h
    simp at h
/-- the words of commands are as their text lays them -/
def KwT (w : World) : Prop := ∀ i : Nat, i < 12 → w.cell? ⟨1, i, none⟩ = some (.string (kw i))
theorem KwT.lt {w : World} (h : KwT w) : 1 < w.heap.size := g_cell_lt (h 0 (by decide))
theorem KwT.below {w w' : World} (h : KwT w) (hb : Below w.heap.size w w') : KwT w' :=
  fun i hi => (hb.cell (p := ⟨1, i, none⟩) h.lt).trans (h i hi)
/-- elements in a new block of their own -/
theorem g_news {α : Type} {E : GEl α} (K : GOk E) (w : World) (l : List α) (cs : List Value) (hcs : cs = l.flatMap E.cells) (hl : l.length ≤ 1000) : GRd E (w.alloc (.cells cs.toArray E.e)) (some ⟨w.heap.size, 0, none⟩) l l.length := by
  subst hcs
  refine ⟨Nat.le_refl _, by omega, (by intro e; cases e), .inr ⟨w.heap.size, 0, rfl, by simp, fun i hi j hj => ?_⟩⟩
  have h1 := K.flat_get l i j hi hj
  simp only [Nat.zero_add]
  rw [← h1]
  simp
theorem GOwn.fresh {α : Type} {E : GEl α} (K : GOk E) (w : World) (l : List α) (cs : List Value) (hcs : cs = l.flatMap E.cells) (hl : l.length ≤ 1000) : GOwn E (w.alloc (.cells cs.toArray E.e)) w.heap.size (.slice (some ⟨w.heap.size, 0, none⟩) l.length l.length) l := by
  subst hcs
  have hn := K.flat_len l
  refine ⟨hn, .inr ⟨w.heap.size, l.length, (l.flatMap E.cells).toArray, rfl, Nat.le_refl _, ?_, Nat.le_refl _, ?_, ?_, ?_⟩⟩
  · show (w.heap.push _)[w.heap.size]? = _
    simp
  · have : maxLen = 9223372036854775807 := rfl
    omega
  · simpa using hn
  · rw [List.take_of_length_le (by show (l.flatMap E.cells).length ≤ _; omega)]

set_option maxHeartbeats 4000000 in
theorem wordsOfCommand_any (c : Cm) (ko : Option Addr) (kc : Nat) (w : World) (h : GRd ES w ko c.keys kc) (hl : c.keys.length ≤ 8) (hk1 : 1 ≤ c.kind) (hk2 : c.kind ≤ 11)
    (hv : c.value.size ≤ 512) (hf0 : 0 ≤ c.flags) (hf1 : c.flags < 4294967296) (hl0 : 0 ≤ c.life) (hl1 : c.life ≤ 1099511627776) (hu0 : 0 ≤ c.unique) (hu1 : c.unique < 18446744073709551616) (hb0 : 0 ≤ c.by_) (hb1 : c.by_ < 18446744073709551616) (ht : Tab w) (hkw : KwT w) :
    Calls Tryd.prog 53 #[.agg (c.arr (.slice ko c.keys.length kc))] w fun e w' => ∃ v, e = .returned v ∧ GOwn ES w' w.heap.size v c.words ∧ Below w.heap.size w w' := by
  have HR := Hid.mk2 h
  have HT := Hid.mk2 (fun V (hV : Below w.heap.size w V) => ht.below hV)
  have HF := Hid.mk2 (fun (n : Nat) (hn : n < 4294967296) V (hV : Below w.heap.size w V) => dec32_any n hn V (ht.below hV))
  have HI := Hid.mk2 (fun (n : Nat) (hn : n ≤ 9223372036854775807) V (hV : Below w.heap.size w V) => decI_any n hn V (ht.below hV))
  have HU := Hid.mk2 (fun (n : Nat) (hn : n < 18446744073709551616) V (hV : Below w.heap.size w V) => dec64_any n hn V (ht.below hV))
  have HWD : Hid (c.words = kw c.kind :: (c.keys ++ c.args)) := rfl
  obtain ⟨W, hW⟩ : ∃ W, W = w.alloc (.cells (c.arr (.slice ko c.keys.length kc)) 26) := ⟨_, rfl⟩
  have HB : Hid (Below w.heap.size w W) := by rw [hW]; exact g_alloc _ _
  have HX : Hid (c.At (.slice ko c.keys.length kc) W w.heap.size) := by rw [hW]; exact Cm.At.made c _ w
  have HWs : Hid (W.heap.size = w.heap.size + 1) := by rw [hW]; show (w.alloc _).heap.size = _; simp
  have HKW := Hid.mk2 (hkw.below HB.out)
  obtain ⟨WS, hWS⟩ : ∃ WS, WS = c.words := ⟨_, rfl⟩
  obtain ⟨AS, hAS⟩ : ∃ AS, AS = c.args := ⟨_, rfl⟩
  obtain ⟨K, hK⟩ : ∃ K, K = kw c.kind := ⟨_, rfl⟩
  rw [← hWS]
  rw [← hWS, ← hAS, ← hK] at HWD
  have HAG := Hid.mk2 hAS
  unfold Cm.args at HAG
  obtain ⟨kind, tenant, keys, value, flags, life, unique, by_⟩ := c
  dsimp only at *
  obtain ⟨ki, rfl⟩ : ∃ ki : Nat, kind = ki := ⟨kind.toNat, by omega⟩
  obtain ⟨fl, rfl⟩ : ∃ fl : Nat, flags = fl := ⟨flags.toNat, by omega⟩
  obtain ⟨li, rfl⟩ : ∃ li : Nat, life = li := ⟨life.toNat, by omega⟩
  obtain ⟨un, rfl⟩ : ∃ un : Nat, unique = un := ⟨unique.toNat, by omega⟩
  obtain ⟨byn, rfl⟩ : ∃ byn : Nat, by_ = byn := ⟨by_.toNat, by omega⟩
  have g0 := HKW.out ki (by omega)
  rw [← hK] at g0
  have glt := HKW.out.lt
  have HSW : Hid (∀ V, Below W.heap.size W V → V.cell? ⟨w.heap.size, 0, none⟩ = some (.int .u8 ki) ∧ V.cell? ⟨w.heap.size, 2, none⟩ = some (.slice ko keys.length kc) ∧ V.cell? ⟨1, ki, none⟩ = some (.string K)) := fun V hV => ⟨(hV.cell (p := ⟨w.heap.size, 0, none⟩) HX.out.lt).trans HX.out.c0, (hV.cell (p := ⟨w.heap.size, 2, none⟩) HX.out.lt).trans HX.out.c2, (hV.cell (p := ⟨1, ki, none⟩) glt).trans g0⟩
  have HFL := Hid.mk2 (show fl < 4294967296 by omega)
  have HLI := Hid.mk2 (show li ≤ 9223372036854775807 by omega)
  have HUN := Hid.mk2 (show un < 18446744073709551616 by omega)
  have HBY := Hid.mk2 (show byn < 18446744073709551616 by omega)
  have hvs : (value.size : Int) ≤ 512 := by omega
  have HVS := Hid.mk2 (show value.size ≤ 9223372036854775807 by omega)
  have hki : (ki : Int) < 12 := by omega
  have HLE := Hid.mk2 hl
  have HKI := Hid.mk2 (show 1 ≤ ki ∧ ki ≤ 11 by omega)
  clear h hkw ht hWS hAS hK g0 glt hf0 hf1 hl0 hl1 hu0 hu1 hb0 hb1 hv hk1 hk2 hl HKW
  unfold Cm.arr at hW
  unfold Cm.arr
  dsimp only at *
  go_enter Tryd.func53, Tryd.ntmps53
  go_upto_region 1 with (fail)
  rw [← hW]
  clear hW
  go_cut [3] from 4 (fun s3 wx => ∃ v, v = s3 ∧ Hid (GOwn ES wx W.heap.size v (K :: keys)) ∧ Hid (Below W.heap.size W wx))
  case first =>
    go_region_held3 (fun V => V.cell? ⟨w.heap.size, 0, none⟩ = some (.int .u8 ki) ∧ V.cell? ⟨w.heap.size, 2, none⟩ = some (.slice ko keys.length kc) ∧ V.cell? ⟨1, ki, none⟩ = some (.string K))
      (exact HSW.out _ (by repeat' (first | with_reducible exact HB7.out | with_reducible exact Below.refl _ _ | with_reducible refine Below.drew ?_ | with_reducible refine g_on ?_ (g_alloc _ _))))
      (first
      | (refine g_step (w := W.drew.alloc (.cells #[.string K] 9)) okS (by rfl) (.tmp 8) (.tmp 10) _ (by rfl) (by rfl) W.heap.size (.slice (some ⟨W.heap.size, 0, none⟩) 1 1) [K] (GOwn.fresh okS W.drew [K] [.string K] rfl (by simp)) (by rfl) ko kc keys _ (by rfl) (by rfl) (HR.out.below (g_on HB.out (g_on (Below.refl _ _).drew (g_alloc _ _)))) (by simp; have := HLE.out; omega) (by simp) ?_; intro v7 w7 hO7 hG7; have HB7 : Hid (Below W.heap.size W w7) := (g_on ((Below.refl _ _).drew) (g_alloc _ _)).trans (hG7.below (GOwn.fresh okS W.drew [K] [.string K] rfl (by simp)) (by simp)); have HO7 := Hid.mk2 hO7; clear hO7 hG7))
    go_wp2_with fail
    go_meet
    case rel => exact ⟨_, rfl, HO7, HB7⟩
  case rest =>
  obtain ⟨s3, hs3, HO, HBc⟩ := hcut
  subst hs3
  obtain ⟨w2, hw2⟩ : ∃ w2, w2 = wc := ⟨_, rfl⟩
  rw [← hw2] at HO HBc ⊢
  clear hw2
  have HX2 := Hid.mk2 (HX.out.below (HBc.out))
  have HB2w := Hid.mk2 (g_on HB.out HBc.out)
  have c0 := HX2.out.c0
  have c3 := HX2.out.c3
  have c4 := HX2.out.c4
  have c5 := HX2.out.c5
  have c6 := HX2.out.c6
  have c7 := HX2.out.c7
  have hlt := HX2.out.lt
  have hsz2 := HBc.out.size
  dsimp only at c0 c3 c4 c5 c6 c7
  clear HSW HKI HR
  by_cases hg0 : ki = 2 ∨ ki = 3 ∨ ki = 4
  · have eA : AS = [dec (fl : Int), dec (li : Int), dec (value.size : Int)] := by rw [HAG.out, if_pos (by omega)]
    have HWE : Hid (WS = (K :: keys) ++ [dec (fl : Int), dec (li : Int), dec (value.size : Int)]) := by show WS = _; rw [HWD.out, eA]; rfl
    clear eA HAG HWD
    have HSV : Hid (∀ V, Below W.heap.size W V → V.cell? ⟨w.heap.size, 3, none⟩ = some (.string value) ∧ V.cell? ⟨w.heap.size, 4, none⟩ = some (.int .u32 fl) ∧ V.cell? ⟨w.heap.size, 5, none⟩ = some (.int .i64 li)) := fun V hV => ⟨(hV.cell (p := ⟨w.heap.size, 3, none⟩) HX.out.lt).trans HX.out.c3, (hV.cell (p := ⟨w.heap.size, 4, none⟩) HX.out.lt).trans HX.out.c4, (hV.cell (p := ⟨w.heap.size, 5, none⟩) HX.out.lt).trans HX.out.c5⟩
    rcases hg0 with rfl | rfl | rfl
    · go_upto_region 6 with (fail)
      have HB2 := Hid.mk2 ((Below.refl w2.heap.size w2).drew)
      go_region_held3 (fun V => V.cell? ⟨w.heap.size, 3, none⟩ = some (.string value) ∧ V.cell? ⟨w.heap.size, 4, none⟩ = some (.int .u32 fl) ∧ V.cell? ⟨w.heap.size, 5, none⟩ = some (.int .i64 li)) (exact HSV.out _ (by repeat' (first | with_reducible exact HB7.out | with_reducible exact g_on HBc.out HB2.out | with_reducible exact HBc.out | with_reducible refine Below.drew ?_ | with_reducible refine g_on ?_ (g_alloc _ _)))) (first | (go_at_call 82; refine (HF.out _ (by first | exact HFL.out) _ (g_on HB2w.out HB2.out)).mono ?_; rintro e w5 ⟨rfl, hb5⟩; have HB9 : Hid (Below w2.heap.size w2 w5) := g_on HB2.out hb5; clear HB2 hb5; have HB2 := HB9; clear HB9) | (go_at_call 52; refine (HI.out _ (by first | exact HLI.out | exact HVS.out) _ (g_on HB2w.out HB2.out)).mono ?_; rintro e w5 ⟨rfl, hb5⟩; have HB9 : Hid (Below w2.heap.size w2 w5) := g_on HB2.out hb5; clear HB2 hb5; have HB2 := HB9; clear HB9) | (refine g_step okS (by rfl) (.tmp 18) (.tmp 29) _ (by rfl) (by rfl) W.heap.size s3 (K :: keys) (HO.out.below (g_on HB2.out (g_alloc _ _))) (by rfl) _ 3 [dec (fl : Int), dec (li : Int), dec (value.size : Int)] _ (by rfl) (by rfl) (g_news okS _ [dec (fl : Int), dec (li : Int), dec (value.size : Int)] [.string (dec (fl : Int)), .string (dec (li : Int)), .string (dec (value.size : Int))] rfl (by simp)) (by simp; have := HLE.out; omega) (by have h1 := HB2.out.size; simp; omega) ?_; intro v7 w7 hO7 hG7; have HB7 : Hid (Below W.heap.size W w7) := (g_on HBc.out (g_on HB2.out (g_alloc _ _))).trans (hG7.below (HO.out.below (g_on HB2.out (g_alloc _ _))) (by have h1 := HB2.out.size; simp; omega)); have HO7 := Hid.mk2 hO7; clear hO7 hG7))
      go_wp2_with fail
      go_ret
      exact ⟨_, rfl, by rw [HWE.out]; exact HO7.out.down (by have := HWs.out; omega), g_on HB.out HB7.out⟩
    · go_upto_region 6 with (fail)
      have HB2 := Hid.mk2 ((Below.refl w2.heap.size w2).drew)
      go_region_held3 (fun V => V.cell? ⟨w.heap.size, 3, none⟩ = some (.string value) ∧ V.cell? ⟨w.heap.size, 4, none⟩ = some (.int .u32 fl) ∧ V.cell? ⟨w.heap.size, 5, none⟩ = some (.int .i64 li)) (exact HSV.out _ (by repeat' (first | with_reducible exact HB7.out | with_reducible exact g_on HBc.out HB2.out | with_reducible exact HBc.out | with_reducible refine Below.drew ?_ | with_reducible refine g_on ?_ (g_alloc _ _)))) (first | (go_at_call 82; refine (HF.out _ (by first | exact HFL.out) _ (g_on HB2w.out HB2.out)).mono ?_; rintro e w5 ⟨rfl, hb5⟩; have HB9 : Hid (Below w2.heap.size w2 w5) := g_on HB2.out hb5; clear HB2 hb5; have HB2 := HB9; clear HB9) | (go_at_call 52; refine (HI.out _ (by first | exact HLI.out | exact HVS.out) _ (g_on HB2w.out HB2.out)).mono ?_; rintro e w5 ⟨rfl, hb5⟩; have HB9 : Hid (Below w2.heap.size w2 w5) := g_on HB2.out hb5; clear HB2 hb5; have HB2 := HB9; clear HB9) | (refine g_step okS (by rfl) (.tmp 18) (.tmp 29) _ (by rfl) (by rfl) W.heap.size s3 (K :: keys) (HO.out.below (g_on HB2.out (g_alloc _ _))) (by rfl) _ 3 [dec (fl : Int), dec (li : Int), dec (value.size : Int)] _ (by rfl) (by rfl) (g_news okS _ [dec (fl : Int), dec (li : Int), dec (value.size : Int)] [.string (dec (fl : Int)), .string (dec (li : Int)), .string (dec (value.size : Int))] rfl (by simp)) (by simp; have := HLE.out; omega) (by have h1 := HB2.out.size; simp; omega) ?_; intro v7 w7 hO7 hG7; have HB7 : Hid (Below W.heap.size W w7) := (g_on HBc.out (g_on HB2.out (g_alloc _ _))).trans (hG7.below (HO.out.below (g_on HB2.out (g_alloc _ _))) (by have h1 := HB2.out.size; simp; omega)); have HO7 := Hid.mk2 hO7; clear hO7 hG7))
      go_wp2_with fail
      go_ret
      exact ⟨_, rfl, by rw [HWE.out]; exact HO7.out.down (by have := HWs.out; omega), g_on HB.out HB7.out⟩
    · go_upto_region 6 with (fail)
      have HB2 := Hid.mk2 ((Below.refl w2.heap.size w2).drew)
      go_region_held3 (fun V => V.cell? ⟨w.heap.size, 3, none⟩ = some (.string value) ∧ V.cell? ⟨w.heap.size, 4, none⟩ = some (.int .u32 fl) ∧ V.cell? ⟨w.heap.size, 5, none⟩ = some (.int .i64 li)) (exact HSV.out _ (by repeat' (first | with_reducible exact HB7.out | with_reducible exact g_on HBc.out HB2.out | with_reducible exact HBc.out | with_reducible refine Below.drew ?_ | with_reducible refine g_on ?_ (g_alloc _ _)))) (first | (go_at_call 82; refine (HF.out _ (by first | exact HFL.out) _ (g_on HB2w.out HB2.out)).mono ?_; rintro e w5 ⟨rfl, hb5⟩; have HB9 : Hid (Below w2.heap.size w2 w5) := g_on HB2.out hb5; clear HB2 hb5; have HB2 := HB9; clear HB9) | (go_at_call 52; refine (HI.out _ (by first | exact HLI.out | exact HVS.out) _ (g_on HB2w.out HB2.out)).mono ?_; rintro e w5 ⟨rfl, hb5⟩; have HB9 : Hid (Below w2.heap.size w2 w5) := g_on HB2.out hb5; clear HB2 hb5; have HB2 := HB9; clear HB9) | (refine g_step okS (by rfl) (.tmp 18) (.tmp 29) _ (by rfl) (by rfl) W.heap.size s3 (K :: keys) (HO.out.below (g_on HB2.out (g_alloc _ _))) (by rfl) _ 3 [dec (fl : Int), dec (li : Int), dec (value.size : Int)] _ (by rfl) (by rfl) (g_news okS _ [dec (fl : Int), dec (li : Int), dec (value.size : Int)] [.string (dec (fl : Int)), .string (dec (li : Int)), .string (dec (value.size : Int))] rfl (by simp)) (by simp; have := HLE.out; omega) (by have h1 := HB2.out.size; simp; omega) ?_; intro v7 w7 hO7 hG7; have HB7 : Hid (Below W.heap.size W w7) := (g_on HBc.out (g_on HB2.out (g_alloc _ _))).trans (hG7.below (HO.out.below (g_on HB2.out (g_alloc _ _))) (by have h1 := HB2.out.size; simp; omega)); have HO7 := Hid.mk2 hO7; clear hO7 hG7))
      go_wp2_with fail
      go_ret
      exact ⟨_, rfl, by rw [HWE.out]; exact HO7.out.down (by have := HWs.out; omega), g_on HB.out HB7.out⟩
  by_cases hg1 : ki = 5
  · have eA : AS = [dec (fl : Int), dec (li : Int), dec (value.size : Int), dec (un : Int)] := by rw [HAG.out, if_neg (by omega), if_pos (by omega)]
    have HWE : Hid (WS = (K :: keys) ++ [dec (fl : Int), dec (li : Int), dec (value.size : Int), dec (un : Int)]) := by show WS = _; rw [HWD.out, eA]; rfl
    clear eA HAG HWD
    have HSV : Hid (∀ V, Below W.heap.size W V → V.cell? ⟨w.heap.size, 3, none⟩ = some (.string value) ∧ V.cell? ⟨w.heap.size, 4, none⟩ = some (.int .u32 fl) ∧ V.cell? ⟨w.heap.size, 5, none⟩ = some (.int .i64 li) ∧ V.cell? ⟨w.heap.size, 6, none⟩ = some (.int .u64 un)) := fun V hV => ⟨(hV.cell (p := ⟨w.heap.size, 3, none⟩) HX.out.lt).trans HX.out.c3, (hV.cell (p := ⟨w.heap.size, 4, none⟩) HX.out.lt).trans HX.out.c4, (hV.cell (p := ⟨w.heap.size, 5, none⟩) HX.out.lt).trans HX.out.c5, (hV.cell (p := ⟨w.heap.size, 6, none⟩) HX.out.lt).trans HX.out.c6⟩
    subst hg1
    go_upto_region 8 with (fail)
    have HB2 := Hid.mk2 ((Below.refl w2.heap.size w2).drew)
    go_region_held3 (fun V => V.cell? ⟨w.heap.size, 3, none⟩ = some (.string value) ∧ V.cell? ⟨w.heap.size, 4, none⟩ = some (.int .u32 fl) ∧ V.cell? ⟨w.heap.size, 5, none⟩ = some (.int .i64 li) ∧ V.cell? ⟨w.heap.size, 6, none⟩ = some (.int .u64 un)) (exact HSV.out _ (by repeat' (first | with_reducible exact HB7.out | with_reducible exact g_on HBc.out HB2.out | with_reducible exact HBc.out | with_reducible refine Below.drew ?_ | with_reducible refine g_on ?_ (g_alloc _ _)))) (first | (go_at_call 82; refine (HF.out _ (by first | exact HFL.out) _ (g_on HB2w.out HB2.out)).mono ?_; rintro e w5 ⟨rfl, hb5⟩; have HB9 : Hid (Below w2.heap.size w2 w5) := g_on HB2.out hb5; clear HB2 hb5; have HB2 := HB9; clear HB9) | (go_at_call 52; refine (HI.out _ (by first | exact HLI.out | exact HVS.out) _ (g_on HB2w.out HB2.out)).mono ?_; rintro e w5 ⟨rfl, hb5⟩; have HB9 : Hid (Below w2.heap.size w2 w5) := g_on HB2.out hb5; clear HB2 hb5; have HB2 := HB9; clear HB9) | (go_at_call 61; refine (HU.out _ (by first | exact HUN.out) _ (g_on HB2w.out HB2.out)).mono ?_; rintro e w5 ⟨rfl, hb5⟩; have HB9 : Hid (Below w2.heap.size w2 w5) := g_on HB2.out hb5; clear HB2 hb5; have HB2 := HB9; clear HB9) | (refine g_step okS (by rfl) (.tmp 33) (.tmp 47) _ (by rfl) (by rfl) W.heap.size s3 (K :: keys) (HO.out.below (g_on HB2.out (g_alloc _ _))) (by rfl) _ 4 [dec (fl : Int), dec (li : Int), dec (value.size : Int), dec (un : Int)] _ (by rfl) (by rfl) (g_news okS _ [dec (fl : Int), dec (li : Int), dec (value.size : Int), dec (un : Int)] [.string (dec (fl : Int)), .string (dec (li : Int)), .string (dec (value.size : Int)), .string (dec (un : Int))] rfl (by simp)) (by simp; have := HLE.out; omega) (by have h1 := HB2.out.size; simp; omega) ?_; intro v7 w7 hO7 hG7; have HB7 : Hid (Below W.heap.size W w7) := (g_on HBc.out (g_on HB2.out (g_alloc _ _))).trans (hG7.below (HO.out.below (g_on HB2.out (g_alloc _ _))) (by have h1 := HB2.out.size; simp; omega)); have HO7 := Hid.mk2 hO7; clear hO7 hG7))
    go_wp2_with fail
    go_ret
    exact ⟨_, rfl, by rw [HWE.out]; exact HO7.out.down (by have := HWs.out; omega), g_on HB.out HB7.out⟩
  by_cases hg2 : ki = 8
  · have eA : AS = [dec (value.size : Int)] := by rw [HAG.out, if_neg (by omega), if_neg (by omega), if_pos (by omega)]
    have HWE : Hid (WS = (K :: keys) ++ [dec (value.size : Int)]) := by show WS = _; rw [HWD.out, eA]; rfl
    clear eA HAG HWD
    subst hg2
    have HB2 := Hid.mk2 (Below.refl w2.heap.size w2)
    go_wp2_with (first | (go_at_call 52; refine (HI.out _ (by first | exact HVS.out) _ (g_on HB2w.out HB2.out)).mono ?_; rintro e w5 ⟨rfl, hb5⟩; have HB9 : Hid (Below w2.heap.size w2 w5) := g_on HB2.out hb5; clear HB2 hb5; have HB2 := HB9; clear HB9) | (at_builtin; refine g_app okS rfl _ _ _ rfl rfl W.heap.size s3 (K :: keys) (HO.out.below (g_on HB2.out (g_alloc _ _))) rfl _ 1 [dec (value.size : Int)] _ rfl rfl (g_news okS _ [dec (value.size : Int)] [.string (dec (value.size : Int))] rfl (by simp)) (by simp; have := HLE.out; omega) (by have h1 := HB2.out.size; simp; omega) ?_; intro v7 w7 hO7 hG7; have HB7 : Hid (Below W.heap.size W w7) := (g_on HBc.out (g_on HB2.out (g_alloc _ _))).trans (hG7.below (HO.out.below (g_on HB2.out (g_alloc _ _))) (by have h1 := HB2.out.size; simp; omega)); have HO7 := Hid.mk2 hO7; clear hO7 hG7))
    go_ret
    exact ⟨_, rfl, by rw [HWE.out]; exact HO7.out.down (by have := HWs.out; omega), g_on HB.out HB7.out⟩
  by_cases hg3 : ki = 6 ∨ ki = 7
  · have eA : AS = [dec (byn : Int)] := by rw [HAG.out, if_neg (by omega), if_neg (by omega), if_neg (by omega), if_pos (by omega)]
    have HWE : Hid (WS = (K :: keys) ++ [dec (byn : Int)]) := by show WS = _; rw [HWD.out, eA]; rfl
    clear eA HAG HWD
    rcases hg3 with rfl | rfl
    · have HB2 := Hid.mk2 (Below.refl w2.heap.size w2)
      go_wp2_with (first | (go_at_call 61; refine (HU.out _ (by first | exact HBY.out) _ (g_on HB2w.out HB2.out)).mono ?_; rintro e w5 ⟨rfl, hb5⟩; have HB9 : Hid (Below w2.heap.size w2 w5) := g_on HB2.out hb5; clear HB2 hb5; have HB2 := HB9; clear HB9) | (at_builtin; refine g_app okS rfl _ _ _ rfl rfl W.heap.size s3 (K :: keys) (HO.out.below (g_on HB2.out (g_alloc _ _))) rfl _ 1 [dec (byn : Int)] _ rfl rfl (g_news okS _ [dec (byn : Int)] [.string (dec (byn : Int))] rfl (by simp)) (by simp; have := HLE.out; omega) (by have h1 := HB2.out.size; simp; omega) ?_; intro v7 w7 hO7 hG7; have HB7 : Hid (Below W.heap.size W w7) := (g_on HBc.out (g_on HB2.out (g_alloc _ _))).trans (hG7.below (HO.out.below (g_on HB2.out (g_alloc _ _))) (by have h1 := HB2.out.size; simp; omega)); have HO7 := Hid.mk2 hO7; clear hO7 hG7))
      go_ret
      exact ⟨_, rfl, by rw [HWE.out]; exact HO7.out.down (by have := HWs.out; omega), g_on HB.out HB7.out⟩
    · have HB2 := Hid.mk2 (Below.refl w2.heap.size w2)
      go_wp2_with (first | (go_at_call 61; refine (HU.out _ (by first | exact HBY.out) _ (g_on HB2w.out HB2.out)).mono ?_; rintro e w5 ⟨rfl, hb5⟩; have HB9 : Hid (Below w2.heap.size w2 w5) := g_on HB2.out hb5; clear HB2 hb5; have HB2 := HB9; clear HB9) | (at_builtin; refine g_app okS rfl _ _ _ rfl rfl W.heap.size s3 (K :: keys) (HO.out.below (g_on HB2.out (g_alloc _ _))) rfl _ 1 [dec (byn : Int)] _ rfl rfl (g_news okS _ [dec (byn : Int)] [.string (dec (byn : Int))] rfl (by simp)) (by simp; have := HLE.out; omega) (by have h1 := HB2.out.size; simp; omega) ?_; intro v7 w7 hO7 hG7; have HB7 : Hid (Below W.heap.size W w7) := (g_on HBc.out (g_on HB2.out (g_alloc _ _))).trans (hG7.below (HO.out.below (g_on HB2.out (g_alloc _ _))) (by have h1 := HB2.out.size; simp; omega)); have HO7 := Hid.mk2 hO7; clear hO7 hG7))
      go_ret
      exact ⟨_, rfl, by rw [HWE.out]; exact HO7.out.down (by have := HWs.out; omega), g_on HB.out HB7.out⟩
  by_cases hg4 : ki = 9
  · have eA : AS = [dec (li : Int)] := by rw [HAG.out, if_neg (by omega), if_neg (by omega), if_neg (by omega), if_neg (by omega), if_pos (by omega)]
    have HWE : Hid (WS = (K :: keys) ++ [dec (li : Int)]) := by show WS = _; rw [HWD.out, eA]; rfl
    clear eA HAG HWD
    subst hg4
    have HB2 := Hid.mk2 (Below.refl w2.heap.size w2)
    go_wp2_with (first | (go_at_call 52; refine (HI.out _ (by first | exact HLI.out) _ (g_on HB2w.out HB2.out)).mono ?_; rintro e w5 ⟨rfl, hb5⟩; have HB9 : Hid (Below w2.heap.size w2 w5) := g_on HB2.out hb5; clear HB2 hb5; have HB2 := HB9; clear HB9) | (at_builtin; refine g_app okS rfl _ _ _ rfl rfl W.heap.size s3 (K :: keys) (HO.out.below (g_on HB2.out (g_alloc _ _))) rfl _ 1 [dec (li : Int)] _ rfl rfl (g_news okS _ [dec (li : Int)] [.string (dec (li : Int))] rfl (by simp)) (by simp; have := HLE.out; omega) (by have h1 := HB2.out.size; simp; omega) ?_; intro v7 w7 hO7 hG7; have HB7 : Hid (Below W.heap.size W w7) := (g_on HBc.out (g_on HB2.out (g_alloc _ _))).trans (hG7.below (HO.out.below (g_on HB2.out (g_alloc _ _))) (by have h1 := HB2.out.size; simp; omega)); have HO7 := Hid.mk2 hO7; clear hO7 hG7))
    go_ret
    exact ⟨_, rfl, by rw [HWE.out]; exact HO7.out.down (by have := HWs.out; omega), g_on HB.out HB7.out⟩
  have eA : AS = [] := by rw [HAG.out, if_neg (by omega), if_neg (by omega), if_neg (by omega), if_neg (by omega), if_neg (by omega)]
  have HWE : Hid (WS = K :: keys) := by show WS = _; rw [HWD.out, eA, List.append_nil]
  have n2 : ¬ (ki : Int) = 2 := by omega
  have n3 : ¬ (ki : Int) = 3 := by omega
  have n4 : ¬ (ki : Int) = 4 := by omega
  have n5 : ¬ (ki : Int) = 5 := by omega
  have n6 : ¬ (ki : Int) = 6 := by omega
  have n7 : ¬ (ki : Int) = 7 := by omega
  have n8 : ¬ (ki : Int) = 8 := by omega
  have n9 : ¬ (ki : Int) = 9 := by omega
  clear hg0 hg1 hg2 hg3 hg4 eA HAG HWD
  go_wp2
  go_ret
  exact ⟨_, rfl, by rw [HWE.out]; exact HO.out.down (by have := HWs.out; omega), g_on HB.out HBc.out⟩
end Go.Proofs.YtldnkminhppngaaDoor
