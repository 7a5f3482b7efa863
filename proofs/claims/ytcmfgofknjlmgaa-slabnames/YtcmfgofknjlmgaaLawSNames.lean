/-
  SlabNames: the limits and errors have their numbers, and the chapter's examples are so; no condition (there is no input).
-/
import Derived.Test.YtcmfgofknjlmgaaSbTk
import Derived.Test.YtcmfgofknjlmgaaSbAlive
import Derived.Test.YtcmfgofknjlmgaaChecked
namespace Go.Proofs.Ytcmfgofknjlmgaa
open Go.ChangeShapes Go.WideShapes Go.ChangeAt Go.RowKit
open Go.ChangeMaps (open_string shut_string)
set_option linter.unusedSimpArgs false
set_option linter.unusedVariables false
set_option maxRecDepth 100000

def nl0 : List Pg := [pz, pz]
def nlA : List Pg := [⟨1, 4, 1, by decide⟩, pz]
def nlB : List Pg := [⟨1, 4, 1, by decide⟩, ⟨2, 3, 1, by decide⟩]
def nlX : List Pg := [⟨1, 4, 1, by decide⟩, ⟨2, 3, 3, by decide⟩]
theorem nm_class (W : World) (X Y : Nat) (hX : ∀ i, W.cell? ⟨X, i, none⟩ = (#[Value.int .i64 1, .int .i64 16, .int .i64 17, .int .i64 255, .int .i64 256, .int .i64 100] : Array Value)[i]?) (hY : ∀ i, W.cell? ⟨Y, i, none⟩ = (#[Value.int .i64 0, .int .i64 0, .int .i64 1, .int .i64 4, .int .i64 4, .int .i64 3] : Array Value)[i]?) (i : Nat) (hi : i < 6) :
    ∃ n : Int, (1 ≤ n ∧ n ≤ 256) ∧ W.cell? ⟨X, i, none⟩ = some (.int .i64 n) ∧ W.cell? ⟨Y, i, none⟩ = some (.int .i64 (clsN n)) := by
  rw [hX, hY]
  have h : i = 0 ∨ i = 1 ∨ i = 2 ∨ i = 3 ∨ i = 4 ∨ i = 5 := by omega
  rcases h with rfl | rfl | rfl | rfl | rfl | rfl
  · exact ⟨1, by omega, rfl, rfl⟩
  · exact ⟨16, by omega, rfl, rfl⟩
  · exact ⟨17, by omega, rfl, rfl⟩
  · exact ⟨255, by omega, rfl, rfl⟩
  · exact ⟨256, by omega, rfl, rfl⟩
  · exact ⟨100, by omega, rfl, rfl⟩
def TakeC (L : List Pg) (n : Nat) (t c q : Int) (R : List Pg) (m : Nat) (i k E : Int) : Prop :=
  ∀ W ro rc, Sb W ro L rc → Calls Try.prog 17 #[.agg #[.slice ro n rc], .int .i64 t, .int .i64 c, .int .i64 q] W fun e w' => ∃ ro' rc', e = .returned (.tuple #[.agg #[.slice ro' m rc'], .int .i64 i, .int .i64 k, .int .i64 E]) ∧ Sb w' ro' R rc' ∧ Below W.heap.size W w'
theorem takeC {L : List Pg} {t c q : Int} {R : List Pg} {i k : Nat} {E : Int} (hE : takeE L t c q = E) (hR : takeR L t c q = (R, i, k)) : TakeC L L.length t c q R R.length i k E := by
  intro W ro rc h
  refine (take_sb W ro L rc h t c q E R i k hE hR).mono ?_
  rintro e w' ⟨ro', rc', rfl, hs, -, hb⟩
  exact ⟨ro', rc', rfl, hs, hb⟩
def FreeC (L : List Pg) (n : Nat) (p k : Int) (R : List Pg) (m : Nat) (E : Int) : Prop :=
  ∀ W ro rc, Sb W ro L rc → Calls Try.prog 18 #[.agg #[.slice ro n rc], .int .i64 p, .int .i64 k] W fun e w' => ∃ ro' rc', e = .returned (.tuple #[.agg #[.slice ro' m rc'], .int .i64 E]) ∧ Sb w' ro' R rc' ∧ Below W.heap.size W w'
theorem freeC {L : List Pg} {p k : Int} {R : List Pg} {E : Int} (hE : freeE L p k = E) (hR : freeR L p k = R) : FreeC L L.length p k R R.length E := by
  intro W ro rc h
  refine (free_sb W ro L rc h p k E R hE hR).mono ?_
  rintro e w' ⟨ro', rc', rfl, hs, -, hb⟩
  exact ⟨ro', rc', rfl, hs, hb⟩
theorem tc1 : TakeC nl0 2 1 4 1 nlA 2 0 0 0 := takeC (i := 0) (k := 0) (by decide) (by decide)
theorem tc2 : TakeC nlA 2 1 4 1 [] 0 0 0 9 := takeC (i := 0) (k := 0) (by decide) (by decide)
theorem tc3 : TakeC nlA 2 2 3 2 nlB 2 1 0 0 := takeC (i := 1) (k := 0) (by decide) (by decide)
theorem tc4 : TakeC nlB 2 2 3 2 nlX 2 1 1 0 := takeC (i := 1) (k := 1) (by decide) (by decide)
theorem tc5 : TakeC nlX 2 2 3 1 [] 0 0 0 9 := takeC (i := 0) (k := 0) (by decide) (by decide)
theorem fc1 : FreeC nlA 2 0 0 nl0 2 0 := freeC (by decide) (by decide)
theorem fc2 : FreeC nl0 2 0 0 [] 0 6 := freeC (by decide) (by decide)
theorem nc (W : World) : Calls Try.prog 16 #[.int .i64 2] W fun e w' => ∃ ro' rc', e = .returned (.tuple #[.agg #[.slice ro' 2 rc'], .int .i64 0]) ∧ Sb w' ro' nl0 rc' ∧ Below W.heap.size W w' := by
  refine (new_sb 2 W (by decide)).mono ?_
  rintro e w' ⟨ro, rc, rfl, hs, -, hb⟩
  exact ⟨ro, rc, rfl, hs, hb⟩
theorem oc (W : World) (ro : Option Addr) (rc : Nat) (h : Sb W ro nl0 rc) : Calls Try.prog 19 #[.agg #[.slice ro 2 rc], .int .i64 1] W fun e w' => e = .returned (.tuple #[.int .i64 0, .int .i64 0]) ∧ Below W.heap.size W w' :=
  Owned_any W ro nl0 rc h (by decide) 1 (by decide)
theorem lc (W : World) (ro : Option Addr) (rc : Nat) (h : Sb W ro nlB rc) : Calls Try.prog 20 #[.agg #[.slice ro 2 rc], .int .i64 2] W fun e w' => e = .returned (.tuple #[.int .i64 1, .int .i64 0]) ∧ Below W.heap.size W w' := by
  have := Last_any W ro nlB rc h (by decide) 2 (by decide)
  rwa [show lastI nlB 2 = 1 by decide] at this
theorem sc (W : World) (ro ro' : Option Addr) (rc rc' : Nat) (h : Sb W ro nl0 rc) (h' : Sb W ro' nl0 rc') : Calls Try.prog 21 #[.agg #[.slice ro 2 rc], .agg #[.slice ro' 2 rc']] W fun e w' => e = .returned (.bool true) ∧ Below W.heap.size W w' :=
  same_eq W ro ro' nl0 rc rc' h h' (by decide)
theorem kc (W : World) : Calls Try.prog 22 #[.agg #[.slice none 0 0]] W fun e w' => e = .returned (.int .i64 8) ∧ Below W.heap.size W w' :=
  scheck_any W none [] 0 (Sb.nil W)
theorem zc (W : World) : Calls Try.prog 14 #[.int .i64 4] W fun e w' => e = .returned (.tuple #[.int .i64 256, .int .i64 0]) ∧ w' = W := sSize_any 4 W
theorem hc (W : World) : Calls Try.prog 15 #[.int .i64 0] W fun e w' => e = .returned (.tuple #[.int .i64 16, .int .i64 0]) ∧ w' = W := sChunks_any 0 W
theorem cc (W : World) : Calls Try.prog 13 #[.int .i64 257] W fun e w' => e = .returned (.tuple #[.int .i64 0, .int .i64 2]) ∧ w' = W := scls_bad 257 W (by decide)

set_option maxHeartbeats 4000000 in
theorem slabNames_walk (w : World) : Calls Try.prog 4 #[] w fun e w' => e = .returned (.bool true) ∧ Below w.heap.size w w' := by
  go_enter Try.func4, Try.ntmps4
  go_upto_region 3 with (fail)
  obtain ⟨w0, hw0⟩ : ∃ x, x = (w.alloc (Obj.cells #[.int .i64 1, .int .i64 16, .int .i64 17, .int .i64 255, .int .i64 256, .int .i64 100] 41)).alloc (Obj.cells #[.int .i64 0, .int .i64 0, .int .i64 1, .int .i64 4, .int .i64 4, .int .i64 3] 41) := ⟨_, rfl⟩
  rw [← hw0]
  have HB0 : Hid (Below w.heap.size w w0) := by rw [hw0]; exact ((Below.refl _ _).alloc (Nat.le_refl _) _).alloc (by simp) _
  have HX : Hid (∀ i, w0.cell? ⟨w.heap.size, i, none⟩ = (#[Value.int .i64 1, .int .i64 16, .int .i64 17, .int .i64 255, .int .i64 256, .int .i64 100] : Array Value)[i]?) := by rw [hw0]; intro i; simp
  have HY : Hid (∀ i, w0.cell? ⟨w.heap.size + 1, i, none⟩ = (#[Value.int .i64 0, .int .i64 0, .int .i64 1, .int .i64 4, .int .i64 4, .int .i64 3] : Array Value)[i]?) := by rw [hw0]; intro i; simp
  have x0 : w.heap.size + 1 < w0.heap.size := by rw [hw0]; simp
  clear hw0
  go_upto_region 4 with (go_at_call 12; refine (alive_any _).mono ?_; rintro e w1 ⟨rfl, hb1⟩)
  have HB1 : Hid (Below w.heap.size w w1) := HB0.out.trans (hb1.mono (by omega))
  have HX1 : Hid (∀ i, w1.cell? ⟨w.heap.size, i, none⟩ = (#[Value.int .i64 1, .int .i64 16, .int .i64 17, .int .i64 255, .int .i64 256, .int .i64 100] : Array Value)[i]?) := fun i => (below_cells hb1 _ i (by omega)).trans (HX.out i)
  have HY1 : Hid (∀ i, w1.cell? ⟨w.heap.size + 1, i, none⟩ = (#[Value.int .i64 0, .int .i64 0, .int .i64 1, .int .i64 4, .int .i64 4, .int .i64 3] : Array Value)[i]?) := fun i => (below_cells hb1 _ i (by omega)).trans (HY.out i)
  have x1 : w.heap.size + 1 < w1.heap.size := Nat.lt_of_lt_of_le x0 hb1.size
  clear hb1 HX HY x0 HB0
  go_wp2
  go_loopw [3, 4] (fun s3 s4 wx => ∃ i : Nat, i ≤ 6 ∧ s3 = .bool true ∧ s4 = .int .i64 i ∧ Hid (Below w1.heap.size w1 wx)) (fun _ s4 _ => 6 - (intOf s4).toNat)
  case atStart => exact ⟨0, by omega, rfl, rfl, Below.refl _ _⟩
  case round =>
    obtain ⟨i, hi, rfl, rfl, HW⟩ := hrel
    by_cases hlt : i < 6
    · have hlt2 : (i : Int) < 6 := by omega
      obtain ⟨n, hn, d1, d2⟩ := nm_class wr w.heap.size (w.heap.size + 1) (fun i => (below_cells HW.out _ i (by omega)).trans (HX1.out i)) (fun i => (below_cells HW.out _ i x1).trans (HY1.out i)) i hlt
      have HCL := Hid.mk2 (scls_good n wr hn)
      clear hn
      go_wp2_with (go_at_call 13; refine HCL.out.mono ?_; rintro e w2 ⟨rfl, hwq⟩; obtain rfl := hwq)
      go_roundw
      case rel => exact ⟨i + 1, by omega, by first | rfl | simp, by go_num, HW⟩
      case measure => simp [intOf]; omega
    · have hlt2 : decide ((i : Int) < 6) = false := by simp; omega
      clear HX1 HY1
      go_upto_region 12 with (first
        | (go_at_call 13; refine (cc _).mono ?_; rintro e wa ⟨rfl, hwq⟩; obtain rfl := hwq.symm)
        | (go_at_call 14; refine (zc _).mono ?_; rintro e wa ⟨rfl, hwq⟩; obtain rfl := hwq.symm)
        | (go_at_call 15; refine (hc _).mono ?_; rintro e wa ⟨rfl, hwq⟩; obtain rfl := hwq.symm))
      clear hlt2 hlt
      have HB2 : Hid (Below w.heap.size w wr) := HB1.out.trans (HW.out.mono (by omega))
      obtain ⟨v0, hv0⟩ : ∃ x, x = wr := ⟨_, rfl⟩
      rw [← hv0] at HB2 ⊢
      clear hv0
      have HH0 : Hid (Hds v0 []) := Hds.nil _
      have HM0 : Hid (Sbs v0 []) := Sbs.nil _
      have HB0 := HB2
      clear HB1 HB2
      go_upto_region 13 with (go_at_call 16; refine (nc _).mono ?_; rintro e w2 ⟨ro1, rc1, rfl, hs1, hb1⟩)
      obtain ⟨v1, hw1⟩ : ∃ x, x = w2.alloc (Obj.cells #[(Value.slice ro1 2 rc1)] 46) := ⟨_, rfl⟩
      obtain ⟨b1, hbn1⟩ : ∃ x, x = w2.heap.size := ⟨_, rfl⟩
      rw [← hw1, ← hbn1]
      have hst1 : Below v0.heap.size v0 v1 := by rw [hw1]; exact hb1.alloc hb1.size _
      have hal1 : Below w2.heap.size w2 v1 := by rw [hw1]; exact (Below.refl _ _).alloc (Nat.le_refl _) _
      have HH1 : Hid (Hds v1 [(b1, (Value.slice ro1 2 rc1))]) := by rw [hw1, hbn1]; exact (Hds.step HH0.out hb1).push _ _
      have HM1 : Hid (Sbs v1 [(ro1, nl0, rc1)]) := (Sbs.step HM0.out hst1).push (hs1.below hal1)
      have HB1 : Hid (Below w.heap.size w v1) := HB0.out.trans (hst1.mono HB0.out.size)
      clear hw1 hbn1 hst1 hal1 hs1 hb1 HH0 HM0 HB0
      have c2 := (HH1.out _ (.head _)).c
      dsimp only at c2
      go_upto_region 14 with (go_at_call 17; refine (tc1 _ ro1 rc1 (HM1.out _ (.head _))).mono ?_; rintro e w2 ⟨ro2, rc2, rfl, hs2, hb2⟩)
      obtain ⟨v2, hw2⟩ : ∃ x, x = w2.alloc (Obj.cells #[(Value.slice ro2 2 rc2)] 46) := ⟨_, rfl⟩
      obtain ⟨b2, hbn2⟩ : ∃ x, x = w2.heap.size := ⟨_, rfl⟩
      rw [← hw2, ← hbn2]
      have hst2 : Below v1.heap.size v1 v2 := by rw [hw2]; exact hb2.alloc hb2.size _
      have hal2 : Below w2.heap.size w2 v2 := by rw [hw2]; exact (Below.refl _ _).alloc (Nat.le_refl _) _
      have HH2 : Hid (Hds v2 [(b2, (Value.slice ro2 2 rc2)), (b1, (Value.slice ro1 2 rc1))]) := by rw [hw2, hbn2]; exact (Hds.step HH1.out hb2).push _ _
      have HM2 : Hid (Sbs v2 [(ro2, nlA, rc2), (ro1, nl0, rc1)]) := (Sbs.step HM1.out hst2).push (hs2.below hal2)
      have HB2 : Hid (Below w.heap.size w v2) := HB1.out.trans (hst2.mono HB1.out.size)
      clear hw2 hbn2 hst2 hal2 hs2 hb2 HH1 HM1 HB1 c2
      have c3 := (HH2.out _ (.head _)).c
      dsimp only at c3
      go_upto_region 15 with (go_at_call 17; refine (tc2 _ ro2 rc2 (HM2.out _ (.head _))).mono ?_; rintro e w2 ⟨ro3, rc3, rfl, hs3, hb3⟩)
      obtain ⟨v3, hw3⟩ : ∃ x, x = w2.alloc (Obj.cells #[(Value.slice ro3 0 rc3)] 46) := ⟨_, rfl⟩
      obtain ⟨b3, hbn3⟩ : ∃ x, x = w2.heap.size := ⟨_, rfl⟩
      rw [← hw3, ← hbn3]
      have hst3 : Below v2.heap.size v2 v3 := by rw [hw3]; exact hb3.alloc hb3.size _
      have hal3 : Below w2.heap.size w2 v3 := by rw [hw3]; exact (Below.refl _ _).alloc (Nat.le_refl _) _
      have HH3 : Hid (Hds v3 [(b3, (Value.slice ro3 0 rc3)), (b2, (Value.slice ro2 2 rc2)), (b1, (Value.slice ro1 2 rc1))]) := by rw [hw3, hbn3]; exact (Hds.step HH2.out hb3).push _ _
      have HM3 : Hid (Sbs v3 [(ro3, ([] : List Pg), rc3), (ro2, nlA, rc2), (ro1, nl0, rc1)]) := (Sbs.step HM2.out hst3).push (hs3.below hal3)
      have HB3 : Hid (Below w.heap.size w v3) := HB2.out.trans (hst3.mono HB2.out.size)
      clear hw3 hbn3 hst3 hal3 hs3 hb3 HH2 HM2 HB2 c3
      have c4 := (HH3.out _ (.tail _ (.head _))).c
      dsimp only at c4
      go_upto_region 16 with (go_at_call 17; refine (tc3 _ ro2 rc2 (HM3.out _ (.tail _ (.head _)))).mono ?_; rintro e w2 ⟨ro4, rc4, rfl, hs4, hb4⟩)
      obtain ⟨v4, hw4⟩ : ∃ x, x = w2.alloc (Obj.cells #[(Value.slice ro4 2 rc4)] 46) := ⟨_, rfl⟩
      obtain ⟨b4, hbn4⟩ : ∃ x, x = w2.heap.size := ⟨_, rfl⟩
      rw [← hw4, ← hbn4]
      have hst4 : Below v3.heap.size v3 v4 := by rw [hw4]; exact hb4.alloc hb4.size _
      have hal4 : Below w2.heap.size w2 v4 := by rw [hw4]; exact (Below.refl _ _).alloc (Nat.le_refl _) _
      have HH4 : Hid (Hds v4 [(b4, (Value.slice ro4 2 rc4)), (b3, (Value.slice ro3 0 rc3)), (b2, (Value.slice ro2 2 rc2)), (b1, (Value.slice ro1 2 rc1))]) := by rw [hw4, hbn4]; exact (Hds.step HH3.out hb4).push _ _
      have HM4 : Hid (Sbs v4 [(ro4, nlB, rc4), (ro3, ([] : List Pg), rc3), (ro2, nlA, rc2), (ro1, nl0, rc1)]) := (Sbs.step HM3.out hst4).push (hs4.below hal4)
      have HB4 : Hid (Below w.heap.size w v4) := HB3.out.trans (hst4.mono HB3.out.size)
      clear hw4 hbn4 hst4 hal4 hs4 hb4 HH3 HM3 HB3 c4
      have c5 := (HH4.out _ (.head _)).c
      dsimp only at c5
      go_upto_region 17 with (go_at_call 17; refine (tc4 _ ro4 rc4 (HM4.out _ (.head _))).mono ?_; rintro e w2 ⟨ro5, rc5, rfl, hs5, hb5⟩)
      obtain ⟨v5, hw5⟩ : ∃ x, x = w2.alloc (Obj.cells #[(Value.slice ro5 2 rc5)] 46) := ⟨_, rfl⟩
      obtain ⟨b5, hbn5⟩ : ∃ x, x = w2.heap.size := ⟨_, rfl⟩
      rw [← hw5, ← hbn5]
      have hst5 : Below v4.heap.size v4 v5 := by rw [hw5]; exact hb5.alloc hb5.size _
      have hal5 : Below w2.heap.size w2 v5 := by rw [hw5]; exact (Below.refl _ _).alloc (Nat.le_refl _) _
      have HH5 : Hid (Hds v5 [(b5, (Value.slice ro5 2 rc5)), (b4, (Value.slice ro4 2 rc4)), (b3, (Value.slice ro3 0 rc3)), (b2, (Value.slice ro2 2 rc2)), (b1, (Value.slice ro1 2 rc1))]) := by rw [hw5, hbn5]; exact (Hds.step HH4.out hb5).push _ _
      have HM5 : Hid (Sbs v5 [(ro5, nlX, rc5), (ro4, nlB, rc4), (ro3, ([] : List Pg), rc3), (ro2, nlA, rc2), (ro1, nl0, rc1)]) := (Sbs.step HM4.out hst5).push (hs5.below hal5)
      have HB5 : Hid (Below w.heap.size w v5) := HB4.out.trans (hst5.mono HB4.out.size)
      clear hw5 hbn5 hst5 hal5 hs5 hb5 HH4 HM4 HB4 c5
      have c6 := (HH5.out _ (.head _)).c
      dsimp only at c6
      go_upto_region 18 with (go_at_call 17; refine (tc5 _ ro5 rc5 (HM5.out _ (.head _))).mono ?_; rintro e w2 ⟨ro6, rc6, rfl, hs6, hb6⟩)
      obtain ⟨v6, hw6⟩ : ∃ x, x = w2.alloc (Obj.cells #[(Value.slice ro6 0 rc6)] 46) := ⟨_, rfl⟩
      obtain ⟨b6, hbn6⟩ : ∃ x, x = w2.heap.size := ⟨_, rfl⟩
      rw [← hw6, ← hbn6]
      have hst6 : Below v5.heap.size v5 v6 := by rw [hw6]; exact hb6.alloc hb6.size _
      have hal6 : Below w2.heap.size w2 v6 := by rw [hw6]; exact (Below.refl _ _).alloc (Nat.le_refl _) _
      have HH6 : Hid (Hds v6 [(b6, (Value.slice ro6 0 rc6)), (b5, (Value.slice ro5 2 rc5)), (b4, (Value.slice ro4 2 rc4)), (b3, (Value.slice ro3 0 rc3)), (b2, (Value.slice ro2 2 rc2)), (b1, (Value.slice ro1 2 rc1))]) := by rw [hw6, hbn6]; exact (Hds.step HH5.out hb6).push _ _
      have HM6 : Hid (Sbs v6 [(ro6, ([] : List Pg), rc6), (ro5, nlX, rc5), (ro4, nlB, rc4), (ro3, ([] : List Pg), rc3), (ro2, nlA, rc2), (ro1, nl0, rc1)]) := (Sbs.step HM5.out hst6).push (hs6.below hal6)
      have HB6 : Hid (Below w.heap.size w v6) := HB5.out.trans (hst6.mono HB5.out.size)
      clear hw6 hbn6 hst6 hal6 hs6 hb6 HH5 HM5 HB5 c6
      have c7 := (HH6.out _ (.tail _ (.tail _ (.tail _ (.tail _ (.head _)))))).c
      dsimp only at c7
      go_upto_region 21 with (go_at_call 18; refine (fc1 _ ro2 rc2 (HM6.out _ (.tail _ (.tail _ (.tail _ (.tail _ (.head _))))))).mono ?_; rintro e w2 ⟨ro7, rc7, rfl, hs7, hb7⟩)
      obtain ⟨v7, hw7⟩ : ∃ x, x = w2.alloc (Obj.cells #[(Value.slice ro7 2 rc7)] 46) := ⟨_, rfl⟩
      obtain ⟨b7, hbn7⟩ : ∃ x, x = w2.heap.size := ⟨_, rfl⟩
      rw [← hw7, ← hbn7]
      have hst7 : Below v6.heap.size v6 v7 := by rw [hw7]; exact hb7.alloc hb7.size _
      have hal7 : Below w2.heap.size w2 v7 := by rw [hw7]; exact (Below.refl _ _).alloc (Nat.le_refl _) _
      have HH7 : Hid (Hds v7 [(b7, (Value.slice ro7 2 rc7)), (b6, (Value.slice ro6 0 rc6)), (b5, (Value.slice ro5 2 rc5)), (b4, (Value.slice ro4 2 rc4)), (b3, (Value.slice ro3 0 rc3)), (b2, (Value.slice ro2 2 rc2)), (b1, (Value.slice ro1 2 rc1))]) := by rw [hw7, hbn7]; exact (Hds.step HH6.out hb7).push _ _
      have HM7 : Hid (Sbs v7 [(ro7, nl0, rc7), (ro6, ([] : List Pg), rc6), (ro5, nlX, rc5), (ro4, nlB, rc4), (ro3, ([] : List Pg), rc3), (ro2, nlA, rc2), (ro1, nl0, rc1)]) := (Sbs.step HM6.out hst7).push (hs7.below hal7)
      have HB7 : Hid (Below w.heap.size w v7) := HB6.out.trans (hst7.mono HB6.out.size)
      clear hw7 hbn7 hst7 hal7 hs7 hb7 HH6 HM6 HB6 c7
      have HK : Hid (∀ W, Below v7.heap.size v7 W → W.cell? ⟨b7, 0, none⟩ = some (Value.slice ro7 2 rc7) ∧ W.cell? ⟨b4, 0, none⟩ = some (Value.slice ro4 2 rc4) ∧ W.cell? ⟨b1, 0, none⟩ = some (Value.slice ro1 2 rc1) ∧ b7 < W.heap.size ∧ b1 < W.heap.size) := fun W hb => ⟨(below_cells hb _ 0 (HH7.out _ (.head _)).x).trans (HH7.out _ (.head _)).c, (below_cells hb _ 0 (HH7.out _ (.tail _ (.tail _ (.tail _ (.head _))))).x).trans (HH7.out _ (.tail _ (.tail _ (.tail _ (.head _))))).c, (below_cells hb _ 0 (HH7.out _ (.tail _ (.tail _ (.tail _ (.tail _ (.tail _ (.tail _ (.head _)))))))).x).trans (HH7.out _ (.tail _ (.tail _ (.tail _ (.tail _ (.tail _ (.tail _ (.head _)))))))).c, Nat.lt_of_lt_of_le (HH7.out _ (.head _)).x hb.size, Nat.lt_of_lt_of_le (HH7.out _ (.tail _ (.tail _ (.tail _ (.tail _ (.tail _ (.tail _ (.head _)))))))).x hb.size⟩
      obtain ⟨k7, k4, k1, y7, y1⟩ := HK.out _ (Below.refl _ _)
      go_upto_region 22 with (go_at_call 19; refine (oc _ ro7 rc7 (HM7.out _ (.head _))).mono ?_; rintro e v8 ⟨rfl, hb8⟩)
      have HX8 := Hid.mk2 hb8
      clear hb8 k7 k4 k1 y7 y1
      obtain ⟨k7, k4, k1, y7, y1⟩ := HK.out _ HX8.out
      go_upto_region 23 with (go_at_call 20; refine (lc _ ro4 rc4 ((HM7.out _ (.tail _ (.tail _ (.tail _ (.head _))))).below HX8.out)).mono ?_; rintro e v9 ⟨rfl, hb9⟩)
      have HX9 := Hid.mk2 (HX8.out.trans (hb9.mono HX8.out.size))
      clear hb9 k7 k4 k1 HX8 y7 y1
      obtain ⟨k7, k4, k1, y7, y1⟩ := HK.out _ HX9.out
      go_wp2_with (first
        | (go_at_call 18; refine (fc2 _ ro1 rc1 ((HM7.out _ (.tail _ (.tail _ (.tail _ (.tail _ (.tail _ (.tail _ (.head _)))))))).below HX9.out)).mono ?_; rintro e v10 ⟨ro8, rc8, rfl, hs8, hb10⟩; have HX10 := Hid.mk2 (HX9.out.trans (hb10.mono HX9.out.size)); clear hb10 k7 k4 k1 y7 y1; obtain ⟨k7, k4, k1, y7, y1⟩ := HK.out _ HX10.out)
        | (go_at_call 21; refine (sc _ ro7 ro1 rc7 rc1 ((HM7.out _ (.head _)).below (HX10.out.alloc HX10.out.size _)) ((HM7.out _ (.tail _ (.tail _ (.tail _ (.tail _ (.tail _ (.tail _ (.head _)))))))).below (HX10.out.alloc HX10.out.size _))).mono ?_; rintro e v11 ⟨rfl, hb11⟩; have HX11 := Hid.mk2 ((HX10.out.alloc HX10.out.size _).trans (hb11.mono (by have := HX10.out.size; simp; omega))); clear hb11)
        | (go_at_call 22; refine (kc _).mono ?_; rintro e v12 ⟨rfl, hb12⟩; have HX12 := Hid.mk2 (HX11.out.trans (hb12.mono HX11.out.size)); clear hb12))
      go_ret
      exact ⟨rfl, HB7.out.trans (HX12.out.mono HB7.out.size)⟩

set_option maxRecDepth 100000 in
theorem slabNames_lifted (os : Os) (started : os.Started) (H : Type) (enc : TypeId × Value → H) :
    ReturnsInHanded {} Try.checked os 4 .any (Rows.slabNamesSpec.pre6 enc Try.prog Try.f4 Rows.slabNamesRow.domain false) (Rows.slabNamesSpec.post enc Try.prog Try.f4 false true false false) := by
  refine returnsInHanded_of_change (C := Try.checked) (by kernel_rfl) started (by kernel_rfl) Try.func4
    (ChangeSpec.witness6 (enc := enc) (C := Try.checked) false ⟨#[], #[], []⟩ 8 (by kernel_rfl) (by kernel_rfl) (by kernel_rfl) (by kernel_rfl)) ?_
  intro W base args ds gs before hval0 hW hcnd _
  have hval : ∀ (j : Nat) t v, Try.f4.params[j]? = some t → args[j]? = some v → Value.okWide Try.prog W .any base t v := hval0
  have hW' := hW
  obtain ⟨p, q, hA0, hV, rfl, hfz, hnd⟩ := hW
  have hA : DataW.TrodAll enc Try.prog W 0 (fun _ => true) true Try.f4.params.toList args.toList ds p := hA0
  rw [Try.params4] at hA hval
  obtain ⟨rfl, rfl, rfl⟩ := trodAll_none hA
  obtain ⟨rfl, rfl⟩ := trodVars_none hV
  clear hA0 hval0
  refine (slabNames_walk W ).mono fun e W' ⟨he, bel⟩ => ?_
  subst he
  exact ⟨_, rfl, _, _, _, [], _, [], hW', trodAll_mk1 (shut_bool Try.underlying4 _), trodAll_mk0, rfl, bel.frame _, fun h => by cases h⟩

theorem slabNames_proved : Rows.SlabNamesSaid :=
  OpenClaim.holds_of_wide 4 Try.f4 rfl rfl rfl rfl rfl rfl rfl ⟨rfl, rfl, rfl, rfl, rfl⟩ rfl rfl rfl rfl rfl (by kernel_rfl) Try.func4 (by kernel_rfl)
    (of_decide_eq_true (by kernel_rfl)) (by unfold Func.isWrapper; first | (rw [if_pos (by decide +kernel)]; kernel_rfl) | (rw [if_neg (by decide +kernel)]; exact ⟨rfl, rfl⟩))
    (fun os started H enc _ => slabNames_lifted os started H enc)
#print axioms slabNames_proved
end Go.Proofs.Ytcmfgofknjlmgaa
