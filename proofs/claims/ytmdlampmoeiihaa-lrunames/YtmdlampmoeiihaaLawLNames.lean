/-
  LruNames: the errors have their numbers, and the chapter's examples are so. No condition.
-/
import Derived.Test.YtmdlampmoeiihaaLrAlive
import Derived.Test.YtmdlampmoeiihaaLrIn
namespace Go.Proofs.Ytmdlampmoeiihaa
open Go.ChangeShapes Go.WideShapes Go.ChangeAt Go.RowKit Go.Shelf Go.Lib Go.Sort
open Go.ChangeMaps (open_string shut_string)
set_option linter.unusedSimpArgs false
set_option linter.unusedVariables false
set_option maxRecDepth 100000

/-- an order in a block, with its rows -/
structure Oj (w : World) (b : Nat) (aT : Option Addr) (n cT : Nat) (aK : Option Addr) (m cK : Nat) (T K : List ByteArray) : Prop where
  ob : OB w b (.slice aT n cT) (.slice aK m cK)
  t : Tl w aT T cT
  k : Tl w aK K cK
theorem Oj.below {w w' : World} {b : Nat} {aT : Option Addr} {n cT : Nat} {aK : Option Addr} {m cK : Nat} {T K : List ByteArray} (h : Oj w b aT n cT aK m cK T K) (hb : Below w.heap.size w w') : Oj w' b aT n cT aK m cK T K := ⟨h.ob.below hb, h.t.below hb, h.k.below hb⟩
theorem Oj.made {w : World} (aT : Option Addr) (n cT : Nat) (aK : Option Addr) (m cK : Nat) {T K : List ByteArray} (hT : Tl w aT T cT) (hK : Tl w aK K cK) : Oj (w.alloc (Obj.cells #[.slice aT n cT, .slice aK m cK] 24)) w.heap.size aT n cT aK m cK T K := ⟨OB.made _ _ _, hT.alloc _, hK.alloc _⟩
theorem below_made {w w' : World} (hb : Below w.heap.size w w') (o : Obj) : Below w.heap.size w (w'.alloc o) := hb.alloc hb.size o
theorem ab_tl (w : World) : Tl (w.alloc (Obj.cells #[.string kA, .string kB] 9)) (some ⟨w.heap.size, 0, none⟩) [kA, kB] 2 := by
  refine ⟨by simp, by omega, (by intro e; cases e), .inr ⟨w.heap.size, 0, rfl, by simp, fun j hj => ?_⟩⟩
  rw [Nat.zero_add, cell_of_heap (alloc_heap w _)]
  have : j < 2 := by simpa using hj
  match j, this with
  | 0, _ => rfl
  | 1, _ => rfl
theorem nHit1 : ∀ (W : World) (aT : Option Addr) (cT : Nat) (aK : Option Addr) (cK : Nat), Tl W aT [kC, kB, kA] cT → Tl W aK [] cK → Calls Try.prog 12 #[.agg #[.slice aT 3 cT, .slice aK 0 cK], .string ⟨#[97]⟩] W fun e w' => ∃ aT' cT' aK' cK', e = .returned (.tuple #[.agg #[.slice aT' 2 cT', .slice aK' 1 cK'], .int .i64 0]) ∧ Tl w' aT' [kC, kB] cT' ∧ Tl w' aK' [kA] cK' ∧ Below W.heap.size W w' := by
  intro W aT cT aK cK hT hK
  have h := hit_ok [kC, kB, kA] [] aT aK cT cK kA W hT hK (by simp) (by simp) (by decide +kernel)
  rw [show htT [kC, kB, kA] [] kA = [kC, kB] by decide +kernel, show htK [kC, kB, kA] [] kA = [kA] by decide +kernel] at h
  refine Calls.mono h ?_
  rintro e w' ⟨a, b, c, d, rfl, hR, hb⟩
  exact ⟨a, b, c, d, rfl, hR.tlT, hR.tlK, hb⟩
theorem nHit2 : ∀ (W : World) (aT : Option Addr) (cT : Nat) (aK : Option Addr) (cK : Nat), Tl W aT [kC, kB] cT → Tl W aK [kA] cK → Calls Try.prog 12 #[.agg #[.slice aT 2 cT, .slice aK 1 cK], .string ⟨#[98]⟩] W fun e w' => ∃ aT' cT' aK' cK', e = .returned (.tuple #[.agg #[.slice aT' 1 cT', .slice aK' 2 cK'], .int .i64 0]) ∧ Tl w' aT' [kC] cT' ∧ Tl w' aK' [kB, kA] cK' ∧ Below W.heap.size W w' := by
  intro W aT cT aK cK hT hK
  have h := hit_ok [kC, kB] [kA] aT aK cT cK kB W hT hK (by simp) (by simp) (by decide +kernel)
  rw [show htT [kC, kB] [kA] kB = [kC] by decide +kernel, show htK [kC, kB] [kA] kB = [kB, kA] by decide +kernel] at h
  refine Calls.mono h ?_
  rintro e w' ⟨a, b, c, d, rfl, hR, hb⟩
  exact ⟨a, b, c, d, rfl, hR.tlT, hR.tlK, hb⟩
theorem nHit3 : ∀ (W : World) (aT : Option Addr) (cT : Nat) (aK : Option Addr) (cK : Nat), Tl W aT [kC] cT → Tl W aK [kB, kA] cK → Calls Try.prog 12 #[.agg #[.slice aT 1 cT, .slice aK 2 cK], .string ⟨#[99]⟩] W fun e w' => ∃ aT' cT' aK' cK', e = .returned (.tuple #[.agg #[.slice aT' 1 cT', .slice aK' 2 cK'], .int .i64 0]) ∧ Tl w' aT' [kA] cT' ∧ Tl w' aK' [kC, kB] cK' ∧ Below W.heap.size W w' := by
  intro W aT cT aK cK hT hK
  have h := hit_ok [kC] [kB, kA] aT aK cT cK kC W hT hK (by simp) (by simp) (by decide +kernel)
  rw [show htT [kC] [kB, kA] kC = [kA] by decide +kernel, show htK [kC] [kB, kA] kC = [kC, kB] by decide +kernel] at h
  refine Calls.mono h ?_
  rintro e w' ⟨a, b, c, d, rfl, hR, hb⟩
  exact ⟨a, b, c, d, rfl, hR.tlT, hR.tlK, hb⟩
theorem nDel1 : ∀ (W : World) (aT : Option Addr) (cT : Nat) (aK : Option Addr) (cK : Nat), Tl W aT [kA] cT → Tl W aK [kC, kB] cK → Calls Try.prog 13 #[.agg #[.slice aT 1 cT, .slice aK 2 cK], .string ⟨#[99]⟩] W fun e w' => ∃ aT' cT' aK' cK', e = .returned (.tuple #[.agg #[.slice aT' 1 cT', .slice aK' 1 cK'], .int .i64 0]) ∧ Tl w' aT' [kA] cT' ∧ Tl w' aK' [kB] cK' ∧ Below W.heap.size W w' := by
  intro W aT cT aK cK hT hK
  have h := del_ok [kA] [kC, kB] aT aK cT cK kC W hT hK (by simp) (by simp) (by decide +kernel)
  rw [show dlT [kA] [kC, kB] kC = [kA] by decide +kernel, show dlK [kA] [kC, kB] kC = [kB] by decide +kernel] at h
  refine Calls.mono h ?_
  rintro e w' ⟨a, b, c, d, rfl, hR, hb⟩
  exact ⟨a, b, c, d, rfl, hR.tlT, hR.tlK, hb⟩
theorem nDel2 (W : World) : Calls Try.prog 13 #[.agg #[.slice none 0 0, .slice none 0 0], .string ⟨#[97]⟩] W fun e w' => e = .returned (.tuple #[.agg #[.slice none 0 0, .slice none 0 0], .int .i64 6]) ∧ Below W.heap.size W w' := by
  have h := del_bad [] [] none none 0 0 kA W (Tl.nil _) (Tl.nil _) (by simp) (by simp) (by decide +kernel)
  rw [show htE [] [] kA = 6 by decide +kernel] at h
  exact h
theorem nVic0 (W : World) : Calls Try.prog 10 #[.agg #[.slice none 0 0, .slice none 0 0]] W fun e w' => e = .returned (.tuple #[.string ⟨#[]⟩, .int .i64 6]) ∧ Below W.heap.size W w' := by
  have h := victim_any [] [] none none 0 0 W (Tl.nil _) (Tl.nil _) (by simp) (by simp)
  rw [show okO [] [] = true by decide +kernel, if_pos rfl, if_pos rfl, if_pos (show ([] : List ByteArray).length + ([] : List ByteArray).length = 0 from rfl), show vic [] [] = ⟨#[]⟩ by decide +kernel] at h
  exact h
theorem nVic1 (W : World) (aT : Option Addr) (cT : Nat) (aK : Option Addr) (cK : Nat) (hT : Tl W aT [kC, kB, kA] cT) (hK : Tl W aK [] cK) : Calls Try.prog 10 #[.agg #[.slice aT 3 cT, .slice aK 0 cK]] W fun e w' => e = .returned (.tuple #[.string ⟨#[97]⟩, .int .i64 0]) ∧ Below W.heap.size W w' := by
  have h := victim_any [kC, kB, kA] [] aT aK cT cK W hT hK (by simp) (by simp)
  rw [show okO [kC, kB, kA] [] = true by decide +kernel, if_pos rfl, if_pos rfl, if_neg (by simp), show vic [kC, kB, kA] [] = kA by decide +kernel] at h
  exact h
theorem nAll1 (W : World) (aT : Option Addr) (cT : Nat) (aK : Option Addr) (cK : Nat) (hT : Tl W aT [kC, kB, kA] cT) (hK : Tl W aK [] cK) : Calls Try.prog 11 #[.agg #[.slice aT 3 cT, .slice aK 0 cK]] W fun e w' => ∃ am cm, e = .returned (.tuple #[.slice am 3 cm, .int .i64 0]) ∧ Tl w' am [kA, kB, kC] cm ∧ Below W.heap.size W w' := by
  have h := all_ok [kC, kB, kA] [] aT aK cT cK W hT hK (by simp) (by simp) (okO_iff.1 (by decide +kernel))
  rw [show (([] : List ByteArray) ++ [kC, kB, kA]).reverse = [kA, kB, kC] by decide +kernel] at h
  refine Calls.mono h ?_
  rintro e w' ⟨a, b, rfl, hO, hb⟩
  obtain ⟨ax, cx, e, hh⟩ := hO.tl
  cases e
  exact ⟨_, _, rfl, hh, hb⟩
theorem nAdd1 (W : World) (aT : Option Addr) (cT : Nat) (aK : Option Addr) (cK : Nat) (hT : Tl W aT [kC, kB, kA] cT) (hK : Tl W aK [] cK) : Calls Try.prog 14 #[.agg #[.slice aT 3 cT, .slice aK 0 cK], .string ⟨#[97]⟩] W fun e w' => e = .returned (.tuple #[.agg #[.slice none 0 0, .slice none 0 0], .int .i64 2]) ∧ Below W.heap.size W w' := by
  have h := add_bad [kC, kB, kA] [] aT aK cT cK kA W hT hK (by simp) (by simp) (by decide +kernel)
  rw [show adE [kC, kB, kA] [] kA = 2 by decide +kernel] at h
  exact h
theorem nAdd2 (W : World) (aT : Option Addr) (cT : Nat) (aK : Option Addr) (cK : Nat) (hT : Tl W aT [kC, kB, kA] cT) (hK : Tl W aK [] cK) : Calls Try.prog 14 #[.agg #[.slice aT 3 cT, .slice aK 0 cK], .string ⟨#[]⟩] W fun e w' => e = .returned (.tuple #[.agg #[.slice none 0 0, .slice none 0 0], .int .i64 3]) ∧ Below W.heap.size W w' := by
  have h := add_bad [kC, kB, kA] [] aT aK cT cK ⟨#[]⟩ W hT hK (by simp) (by simp) (by decide +kernel)
  rw [show adE [kC, kB, kA] [] ⟨#[]⟩ = 3 by decide +kernel] at h
  exact h
theorem nRow1 (W : World) (aT : Option Addr) (cT : Nat) (aK : Option Addr) (cK : Nat) (hT : Tl W aT [kA] cT) (hK : Tl W aK [kC, kB] cK) : Calls Try.prog 17 #[.agg #[.slice aT 1 cT, .slice aK 2 cK], .string ⟨#[97]⟩, .string ⟨#[99, 98]⟩] W fun e w' => e = .returned (.bool true) ∧ Below W.heap.size W w' :=
  rows_true [kA] [kC, kB] aT aK cT cK ⟨#[97]⟩ ⟨#[99, 98]⟩ W hT hK (by simp) (by simp) (by decide +kernel) (by decide +kernel) (by decide +kernel)
theorem nRow2 (W : World) (aT : Option Addr) (cT : Nat) (aK : Option Addr) (cK : Nat) (hT : Tl W aT [kA] cT) (hK : Tl W aK [kB] cK) : Calls Try.prog 17 #[.agg #[.slice aT 1 cT, .slice aK 1 cK], .string ⟨#[97]⟩, .string ⟨#[98]⟩] W fun e w' => e = .returned (.bool true) ∧ Below W.heap.size W w' :=
  rows_true [kA] [kB] aT aK cT cK ⟨#[97]⟩ ⟨#[98]⟩ W hT hK (by simp) (by simp) (by decide +kernel) (by decide +kernel) (by decide +kernel)
theorem nChk (w : World) : Calls Try.prog 18 #[.agg #[.slice none 0 0, .slice (some ⟨w.heap.size, 0, none⟩) 2 2]] (w.alloc (Obj.cells #[.string ⟨#[97]⟩, .string ⟨#[98]⟩] 9)) fun e w' => e = .returned (.int .i64 8) ∧ Below w.heap.size w w' := by
  have h := check_any [] [kA, kB] none (some ⟨w.heap.size, 0, none⟩) 0 2 (w.alloc (Obj.cells #[.string kA, .string kB] 9)) (Tl.nil _) (ab_tl w) (by simp) (by simp)
  rw [show chk [] [kA, kB] = 8 by decide +kernel] at h
  refine Calls.mono h ?_
  rintro e w' ⟨rfl, hb⟩
  exact ⟨rfl, below_alloc hb⟩
theorem nSame (w : World) (am : Option Addr) (cm : Nat) (hM : Tl w am [kA, kB, kC] cm) : Calls Try.prog 16 #[.slice am 3 cm, .slice (some ⟨w.heap.size, 0, none⟩) 3 3] (w.alloc (Obj.cells #[.string ⟨#[97]⟩, .string ⟨#[98]⟩, .string ⟨#[99]⟩] 9)) fun e w' => e = .returned (.bool true) ∧ Below w.heap.size w w' := by
  refine Calls.mono (sameTexts_tl _ am _ [kA, kB, kC] cm 3 (hM.alloc _) (abc_tl w)) ?_
  rintro e w' ⟨rfl, hb⟩
  exact ⟨rfl, below_alloc hb⟩
set_option maxHeartbeats 4000000 in
theorem lruNames_walk (w : World) : Calls Try.prog 3 #[] w fun e w' => e = .returned (.bool true) ∧ Below w.heap.size w w' := by
  have HOF := Hid.mk2 (of_abc w)
  go_enter Try.func3, Try.ntmps3
  go_upto_region 2 with (go_at_call 9; refine HOF.out.mono ?_; rintro e w1 ⟨aT, cT, aK, cK, rfl, hT, hK, hb1⟩; have HO1 := Hid.mk2 (Oj.made aT 3 cT aK 0 cK hT hK); obtain ⟨p10, p11, p12, p13, p14⟩ := HO1.out.ob; have HB1 := Hid.mk2 (below_made hb1 (Obj.cells #[.slice aT 3 cT, .slice aK 0 cK] 24)); clear hT hK hb1)
  go_upto_region 3 with (go_at_call 10; refine (nVic1 _ aT cT aK cK HO1.out.t HO1.out.k).mono ?_; rintro e w2 ⟨rfl, hb2⟩; have hx2 := hb2; have HB2 := Hid.mk2 (HB1.out.trans (hx2.mono HB1.out.size)); replace HO1 := Hid.mk2 (HO1.out.below hx2); clear p10 p11 p12 p13 p14; obtain ⟨p10, p11, p12, p13, p14⟩ := HO1.out.ob; clear hb2 hx2)
  go_upto_region 4 with (go_at_call 11; refine (nAll1 _ aT cT aK cK HO1.out.t HO1.out.k).mono ?_; rintro e w3 ⟨am, cm, rfl, hM, hb3⟩; have hx3 := hb3; have HB3 := Hid.mk2 (HB2.out.trans (hx3.mono HB2.out.size)); replace HO1 := Hid.mk2 (HO1.out.below hx3); clear p10 p11 p12 p13 p14; obtain ⟨p10, p11, p12, p13, p14⟩ := HO1.out.ob; have HM := Hid.mk2 hM; clear hM; clear hb3 hx3)
  go_upto_region 5 with (go_at_call 12; refine (nHit1 _ aT cT aK cK HO1.out.t HO1.out.k).mono ?_; rintro e w4 ⟨t2, c2, u2, d2, rfl, hT2, hK2, hb4⟩; have hx4 := (below_made hb4 (Obj.cells #[.slice t2 2 c2, .slice u2 1 d2] 24)); have HB4 := Hid.mk2 (HB3.out.trans (hx4.mono HB3.out.size)); replace HO1 := Hid.mk2 (HO1.out.below hx4); clear p10 p11 p12 p13 p14; obtain ⟨p10, p11, p12, p13, p14⟩ := HO1.out.ob; replace HM := Hid.mk2 (HM.out.below hx4); have HO2 := Hid.mk2 (Oj.made t2 2 c2 u2 1 d2 hT2 hK2); obtain ⟨p20, p21, p22, p23, p24⟩ := HO2.out.ob; clear hT2 hK2; clear hb4 hx4)
  go_upto_region 6 with (go_at_call 12; refine (nHit2 _ t2 c2 u2 d2 HO2.out.t HO2.out.k).mono ?_; rintro e w5 ⟨t3, c3, u3, d3, rfl, hT3, hK3, hb5⟩; have hx5 := (below_made hb5 (Obj.cells #[.slice t3 1 c3, .slice u3 2 d3] 24)); have HB5 := Hid.mk2 (HB4.out.trans (hx5.mono HB4.out.size)); replace HO1 := Hid.mk2 (HO1.out.below hx5); clear p10 p11 p12 p13 p14; obtain ⟨p10, p11, p12, p13, p14⟩ := HO1.out.ob; replace HO2 := Hid.mk2 (HO2.out.below hx5); clear p20 p21 p22 p23 p24; obtain ⟨p20, p21, p22, p23, p24⟩ := HO2.out.ob; replace HM := Hid.mk2 (HM.out.below hx5); have HO3 := Hid.mk2 (Oj.made t3 1 c3 u3 2 d3 hT3 hK3); obtain ⟨p30, p31, p32, p33, p34⟩ := HO3.out.ob; clear hT3 hK3; clear hb5 hx5)
  go_upto_region 7 with (go_at_call 12; refine (nHit3 _ t3 c3 u3 d3 HO3.out.t HO3.out.k).mono ?_; rintro e w6 ⟨t4, c4, u4, d4, rfl, hT4, hK4, hb6⟩; have hx6 := (below_made hb6 (Obj.cells #[.slice t4 1 c4, .slice u4 2 d4] 24)); have HB6 := Hid.mk2 (HB5.out.trans (hx6.mono HB5.out.size)); replace HO1 := Hid.mk2 (HO1.out.below hx6); clear p10 p11 p12 p13 p14; obtain ⟨p10, p11, p12, p13, p14⟩ := HO1.out.ob; replace HO3 := Hid.mk2 (HO3.out.below hx6); clear p30 p31 p32 p33 p34; obtain ⟨p30, p31, p32, p33, p34⟩ := HO3.out.ob; replace HM := Hid.mk2 (HM.out.below hx6); have HO4 := Hid.mk2 (Oj.made t4 1 c4 u4 2 d4 hT4 hK4); obtain ⟨p40, p41, p42, p43, p44⟩ := HO4.out.ob; clear hT4 hK4; clear hb6 hx6)
  go_upto_region 8 with (go_at_call 13; refine (nDel1 _ t4 c4 u4 d4 HO4.out.t HO4.out.k).mono ?_; rintro e w7 ⟨t5, c5, u5, d5, rfl, hT5, hK5, hb7⟩; have hx7 := (below_made hb7 (Obj.cells #[.slice t5 1 c5, .slice u5 1 d5] 24)); have HB7 := Hid.mk2 (HB6.out.trans (hx7.mono HB6.out.size)); replace HO1 := Hid.mk2 (HO1.out.below hx7); clear p10 p11 p12 p13 p14; obtain ⟨p10, p11, p12, p13, p14⟩ := HO1.out.ob; replace HO4 := Hid.mk2 (HO4.out.below hx7); clear p40 p41 p42 p43 p44; obtain ⟨p40, p41, p42, p43, p44⟩ := HO4.out.ob; replace HM := Hid.mk2 (HM.out.below hx7); have HO5 := Hid.mk2 (Oj.made t5 1 c5 u5 1 d5 hT5 hK5); obtain ⟨p50, p51, p52, p53, p54⟩ := HO5.out.ob; clear hT5 hK5; clear hb7 hx7)
  go_upto_region 9 with (go_at_call 13; refine (nDel2 _ ).mono ?_; rintro e w8 ⟨rfl, hb8⟩; have hx8 := (below_made hb8 (Obj.cells #[.slice none 0 0, .slice none 0 0] 24)); have HB8 := Hid.mk2 (HB7.out.trans (hx8.mono HB7.out.size)); replace HO1 := Hid.mk2 (HO1.out.below hx8); clear p10 p11 p12 p13 p14; obtain ⟨p10, p11, p12, p13, p14⟩ := HO1.out.ob; replace HO4 := Hid.mk2 (HO4.out.below hx8); clear p40 p41 p42 p43 p44; obtain ⟨p40, p41, p42, p43, p44⟩ := HO4.out.ob; replace HO5 := Hid.mk2 (HO5.out.below hx8); clear p50 p51 p52 p53 p54; obtain ⟨p50, p51, p52, p53, p54⟩ := HO5.out.ob; replace HM := Hid.mk2 (HM.out.below hx8); clear hb8 hx8)
  go_upto_region 10 with (go_at_call 14; refine (nAdd1 _ aT cT aK cK HO1.out.t HO1.out.k).mono ?_; rintro e w9 ⟨rfl, hb9⟩; have hx9 := (below_made hb9 (Obj.cells #[.slice none 0 0, .slice none 0 0] 24)); have HB9 := Hid.mk2 (HB8.out.trans (hx9.mono HB8.out.size)); replace HO1 := Hid.mk2 (HO1.out.below hx9); clear p10 p11 p12 p13 p14; obtain ⟨p10, p11, p12, p13, p14⟩ := HO1.out.ob; replace HO4 := Hid.mk2 (HO4.out.below hx9); clear p40 p41 p42 p43 p44; obtain ⟨p40, p41, p42, p43, p44⟩ := HO4.out.ob; replace HO5 := Hid.mk2 (HO5.out.below hx9); clear p50 p51 p52 p53 p54; obtain ⟨p50, p51, p52, p53, p54⟩ := HO5.out.ob; replace HM := Hid.mk2 (HM.out.below hx9); clear hb9 hx9)
  go_upto_region 11 with (go_at_call 10; refine (nVic0 _ ).mono ?_; rintro e w10 ⟨rfl, hb10⟩; have hx10 := hb10; have HB10 := Hid.mk2 (HB9.out.trans (hx10.mono HB9.out.size)); replace HO1 := Hid.mk2 (HO1.out.below hx10); clear p10 p11 p12 p13 p14; obtain ⟨p10, p11, p12, p13, p14⟩ := HO1.out.ob; replace HO4 := Hid.mk2 (HO4.out.below hx10); clear p40 p41 p42 p43 p44; obtain ⟨p40, p41, p42, p43, p44⟩ := HO4.out.ob; replace HO5 := Hid.mk2 (HO5.out.below hx10); clear p50 p51 p52 p53 p54; obtain ⟨p50, p51, p52, p53, p54⟩ := HO5.out.ob; replace HM := Hid.mk2 (HM.out.below hx10); clear hb10 hx10)
  go_upto_region 12 with (go_at_call 14; refine (nAdd2 _ aT cT aK cK HO1.out.t HO1.out.k).mono ?_; rintro e w11 ⟨rfl, hb11⟩; have hx11 := (below_made hb11 (Obj.cells #[.slice none 0 0, .slice none 0 0] 24)); have HB11 := Hid.mk2 (HB10.out.trans (hx11.mono HB10.out.size)); replace HO4 := Hid.mk2 (HO4.out.below hx11); clear p40 p41 p42 p43 p44; obtain ⟨p40, p41, p42, p43, p44⟩ := HO4.out.ob; replace HO5 := Hid.mk2 (HO5.out.below hx11); clear p50 p51 p52 p53 p54; obtain ⟨p50, p51, p52, p53, p54⟩ := HO5.out.ob; replace HM := Hid.mk2 (HM.out.below hx11); clear hb11 hx11)
  clear HO1 p10 p11 p12 p13 p14 HO2 p20 p21 p22 p23 p24 HO3 p30 p31 p32 p33 p34 HOF
  go_wp2_with (first
    | (go_at_call 18; refine (nChk w15).mono ?_; rintro e w16 ⟨rfl, hb16⟩; have hx16 := hb16; have HB16 := Hid.mk2 (HB15.out.trans (hx16.mono HB15.out.size)); clear hb16 hx16)
    | (go_at_call 17; refine (nRow2 w14 t5 c5 u5 d5 HO5.out.t HO5.out.k).mono ?_; rintro e w15 ⟨rfl, hb15⟩; have hx15 := hb15; have HB15 := Hid.mk2 (HB14.out.trans (hx15.mono HB14.out.size)); clear hb15 hx15)
    | (go_at_call 17; refine (nRow1 _ t4 c4 u4 d4 HO4.out.t HO4.out.k).mono ?_; rintro e w14 ⟨rfl, hb14⟩; have hx14 := hb14; have HB14 := Hid.mk2 (HB13.out.trans (hx14.mono HB13.out.size)); replace HO5 := Hid.mk2 (HO5.out.below hx14); clear p50 p51 p52 p53 p54; obtain ⟨p50, p51, p52, p53, p54⟩ := HO5.out.ob; clear hb14 hx14)
    | (go_at_call 16; refine (nSame _ am cm HM.out).mono ?_; rintro e w13 ⟨rfl, hb13⟩; have hx13 := hb13; have HB13 := Hid.mk2 (HB12.out.trans (hx13.mono HB12.out.size)); replace HO4 := Hid.mk2 (HO4.out.below hx13); clear p40 p41 p42 p43 p44; obtain ⟨p40, p41, p42, p43, p44⟩ := HO4.out.ob; replace HO5 := Hid.mk2 (HO5.out.below hx13); clear p50 p51 p52 p53 p54; obtain ⟨p50, p51, p52, p53, p54⟩ := HO5.out.ob; clear hb13 hx13)
    | (go_at_call 15; refine (alive_any _ ).mono ?_; rintro e w12 ⟨rfl, hb12⟩; have hx12 := hb12; have HB12 := Hid.mk2 (HB11.out.trans (hx12.mono HB11.out.size)); replace HO4 := Hid.mk2 (HO4.out.below hx12); clear p40 p41 p42 p43 p44; obtain ⟨p40, p41, p42, p43, p44⟩ := HO4.out.ob; replace HO5 := Hid.mk2 (HO5.out.below hx12); clear p50 p51 p52 p53 p54; obtain ⟨p50, p51, p52, p53, p54⟩ := HO5.out.ob; replace HM := Hid.mk2 (HM.out.below hx12); clear hb12 hx12))
  go_ret
  exact ⟨rfl, HB16.out⟩

set_option maxRecDepth 100000 in
theorem lruNames_lifted (os : Os) (started : os.Started) (H : Type) (enc : TypeId × Value → H) :
    ReturnsInHanded {} Try.checked os 3 .any (Rows.lruNamesSpec.pre6 enc Try.prog Try.f3 Rows.lruNamesRow.domain false) (Rows.lruNamesSpec.post enc Try.prog Try.f3 false true false false) := by
  refine returnsInHanded_of_change (C := Try.checked) (by kernel_rfl) started (by kernel_rfl) Try.func3
    (ChangeSpec.witness6 (enc := enc) (C := Try.checked) false ⟨#[], #[], []⟩ 8 (by kernel_rfl) (by kernel_rfl) (by kernel_rfl) (by kernel_rfl)) ?_
  intro W base args ds gs before hval0 hW hcnd _
  have hval : ∀ (j : Nat) t v, Try.f3.params[j]? = some t → args[j]? = some v → Value.okWide Try.prog W .any base t v := hval0
  have hW' := hW
  obtain ⟨p, q, hA0, hV, rfl, hfz, hnd⟩ := hW
  have hA : DataW.TrodAll enc Try.prog W 0 (fun _ => true) true Try.f3.params.toList args.toList ds p := hA0
  rw [Try.params3] at hA hval
  obtain ⟨rfl, rfl, rfl⟩ := trodAll_none hA
  obtain ⟨rfl, rfl⟩ := trodVars_none hV
  clear hA0 hval0
  refine (lruNames_walk W ).mono fun e W' ⟨he, bel⟩ => ?_
  subst he
  exact ⟨_, rfl, _, _, _, [], _, [], hW', trodAll_mk1 (shut_bool Try.underlying4 _), trodAll_mk0, rfl, bel.frame _, fun h => by cases h⟩

theorem lruNames_proved : Rows.LruNamesSaid :=
  OpenClaim.holds_of_wide 3 Try.f3 rfl rfl rfl rfl rfl rfl rfl ⟨rfl, rfl, rfl, rfl, rfl⟩ rfl rfl rfl rfl rfl (by kernel_rfl) Try.func3 (by kernel_rfl)
    (of_decide_eq_true (by kernel_rfl)) (by unfold Func.isWrapper; first | (rw [if_pos (by decide +kernel)]; kernel_rfl) | (rw [if_neg (by decide +kernel)]; exact ⟨rfl, rfl⟩))
    (fun os started H enc _ => lruNames_lifted os started H enc)
#print axioms lruNames_proved
end Go.Proofs.Ytmdlampmoeiihaa
