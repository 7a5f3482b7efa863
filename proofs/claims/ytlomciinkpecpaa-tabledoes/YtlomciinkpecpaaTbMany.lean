/-
  Names of numbers.
-/
import Derived.Test.YtlomciinkpecpaaTbNew
namespace Go.Proofs.Ytlomciinkpecpaa
open Go.RowKit
set_option linter.unusedSimpArgs false
set_option linter.unusedVariables false
set_option maxRecDepth 100000

theorem name_any (t : Int) (k : ByteArray) (w : World) :
    Calls Try.prog 10 #[.int .i64 t, .string k] w fun e w' => e = .returned (.agg #[.int .i64 t, .string k]) ∧ Below w.heap.size w w' := by
  go_enter Try.func10, Try.ntmps10
  go_wp2
  try simp only [Exit.inBlock, Exit.then]
  refine bodyPost_ret (v := .agg #[.int .i64 t, .string k]) (by simp [results, Try.results10, go_sem]) rfl ⟨rfl, ?_⟩
  repeat' first | exact Below.refl _ _ | refine Below.setCell ?_ (by simp) _ | refine Below.alloc ?_ (by simp) _
theorem conv3 (a b c : Int) (W : World) : (convert 80 9 (.slice (some ⟨W.heap.size, 0, none⟩) 3 3)).run Try.prog (W.alloc (.cells #[.int .u8 a, .int .u8 b, .int .u8 c] 5)) =
    .ok (.string (strOfNums [a, b, c])) (W.alloc (.cells #[.int .u8 a, .int .u8 b, .int .u8 c] 5)) :=
  run_convert_bytes_arg (P := Try.prog) (W.alloc (.cells #[.int .u8 a, .int .u8 b, .int .u8 c] 5)) 80 5 Try.underlying80 Try.underlying5 W.heap.size 0 3 3 [a, b, c] rfl
    (fun i hi => by
      have h3 : i = 0 ∨ i = 1 ∨ i = 2 := by omega
      rcases h3 with rfl | rfl | rfl <;> simp) 9 Try.underlying9
/-- the name of a number -/
def manyN (i : Nat) : Nm := ⟨(i : Int) % 4, strOfNums [97 + (i : Int) % 26, 97 + (i : Int) / 26 % 26, 97 + (i : Int) / 676 % 26]⟩
theorem many_any (i : Nat) (hi : i ≤ 100000) (w : World) :
    Calls Try.prog 19 #[.int .i64 i] w fun e w' => e = .returned (.agg #[.int .i64 (manyN i).tenant, .string (manyN i).key]) ∧ Below w.heap.size w w' := by
  have hcv := fun a b c => conv3 a b c (w.alloc (Obj.cells #[.int .i64 0, .string ⟨#[]⟩] 28))
  rw [show (w.alloc (Obj.cells #[.int .i64 0, .string ⟨#[]⟩] 28)).heap.size = w.heap.size + 1 by simp] at hcv
  go_enter Try.func19, Try.ntmps19
  go_wp2_with (go_at_call 10; refine (name_any _ _ _).mono ?_; rintro e w3 ⟨rfl, hb3⟩; have r0 : w3.cell? ⟨w.heap.size, 0, none⟩ = some (.int .i64 0) := (bcl hb3 _ 0 (by simp; omega)).trans (by simp); have r1 : w3.cell? ⟨w.heap.size, 1, none⟩ = some (.string ⟨#[]⟩) := (bcl hb3 _ 1 (by simp; omega)).trans (by simp); have f0 : w3.frozen? ⟨w.heap.size, 0, none⟩ = false := (bfr hb3 _ 0 (by simp; omega)).trans (by simp); have f1 : w3.frozen? ⟨w.heap.size, 1, none⟩ = false := (bfr hb3 _ 1 (by simp; omega)).trans (by simp); have HB3 : Hid (Below w.heap.size w w3) := (((Below.refl _ _).alloc (Nat.le_refl _) _).alloc (by simp) _).trans (hb3.mono (by simp; omega)); clear hb3)
  have z0 : ((w3.setCell ⟨w.heap.size, 0, none⟩ (.int .i64 ((i : Int) % 4))).setCell ⟨w.heap.size, 1, none⟩ (.string (strOfNums [97 + (i : Int) % 26, 97 + (i : Int) / 26 % 26, 97 + (i : Int) / 676 % 26]))).cell? ⟨w.heap.size, 0, none⟩ = some (.int .i64 ((i : Int) % 4)) := by
    rw [World.cell?_setCell_other _ _ _ _ (by simp)]
    exact World.cell?_setCell_same _ _ _ r0
  have z1 : ((w3.setCell ⟨w.heap.size, 0, none⟩ (.int .i64 ((i : Int) % 4))).setCell ⟨w.heap.size, 1, none⟩ (.string (strOfNums [97 + (i : Int) % 26, 97 + (i : Int) / 26 % 26, 97 + (i : Int) / 676 % 26]))).cell? ⟨w.heap.size, 1, none⟩ = some (.string (strOfNums [97 + (i : Int) % 26, 97 + (i : Int) / 26 % 26, 97 + (i : Int) / 676 % 26])) := by
    refine World.cell?_setCell_same _ _ _ (u := .string ⟨#[]⟩) ?_
    rw [World.cell?_setCell_other _ _ _ _ (by simp)]
    exact r1
  try simp only [Exit.inBlock, Exit.then]
  refine bodyPost_ret (v := .agg #[.int .i64 (manyN i).tenant, .string (manyN i).key]) (by simp [results, Try.results19, go_sem, z0, z1, manyN]) rfl ⟨rfl, (HB3.out.setCell (p := ⟨w.heap.size, 0, none⟩) (Nat.le_refl _) _).setCell (p := ⟨w.heap.size, 1, none⟩) (Nat.le_refl _) _⟩
theorem many_ok (i : Nat) : (manyN i).ok := by
  unfold manyN Nm.ok
  simp only [strOfNums_size]
  refine ⟨by omega, by omega, by simp, by simp⟩
theorem u8_inj {a b : Nat} (ha : a < 256) (hb : b < 256) (h : UInt8.ofNat a = UInt8.ofNat b) : a = b := by
  have h2 := congrArg UInt8.toNat h
  simpa [UInt8.toNat_ofNat, Nat.mod_eq_of_lt ha, Nat.mod_eq_of_lt hb] using h2
theorem many_inj {i j : Nat} (hi : i < 17576) (hj : j < 17576) (h : manyN i = manyN j) : i = j := by
  have h2 : (manyN i).key.data.toList = (manyN j).key.data.toList := by rw [h]
  unfold manyN at h2
  simp only [strOfNums_data, List.map_cons, List.map_nil, List.cons.injEq, and_true] at h2
  obtain ⟨h3, h4, h5⟩ := h2
  have e3 := u8_inj (by omega) (by omega) h3
  have e4 := u8_inj (by omega) (by omega) h4
  have e5 := u8_inj (by omega) (by omega) h5
  omega
/-- a table whose blocks are all from base on -/
def TBx (w : World) (base p : Nat) (T : List NU) (C : Nat) : Prop := ∃ moved F, moved ≤ 4 ∧ TB w base p T moved C F
theorem TBx.below {w w' : World} {base p : Nat} {T : List NU} {C : Nat} (h : TBx w base p T C) (hb : Below w.heap.size w w') : TBx w' base p T C := by
  obtain ⟨m, F, hm, h1⟩ := h
  exact ⟨m, F, hm, h1.below hb⟩
theorem Same.step {w w' : World} {base p : Nat} {T T' : List NU} {moved C : Nat} {F : Nat → Prop} (h : TB w base p T moved C F) (hs : Same w base p T' C F w') (hB : base ≤ w.heap.size) : TBx w' base p T' C ∧ Below base w w' := by
  obtain ⟨m, F', hm, h1, h2, h3⟩ := hs
  exact ⟨⟨m, F', hm, h1⟩, h2.to_below hB (fun k hk => (h.lt hk).1)⟩
theorem put_x (w : World) (base p : Nat) (T : List NU) (C : Nat) (h : TBx w base p T C) (hB : base ≤ w.heap.size) (hC : T.length < C) (hC2 : C ≤ 200000) (y : Nm) (hy : y.ok) (x : Int) :
    Calls Try.prog 9 #[.pointer (some ⟨p, 0, none⟩), .agg #[.int .i64 y.tenant, .string y.key], .int .i64 x] w fun e w' => e = .returned (.int .i64 0) ∧ TBx w' base p ((y, x) :: strike y T) C ∧ Below base w w' := by
  obtain ⟨m, F, hm, h1⟩ := h
  refine (put_ok w base p T m C F h1 hC hC2 y hy x).mono ?_
  rintro e w' ⟨rfl, T', rfl, hs⟩
  exact ⟨rfl, (Same.step h1 hs hB).1, (Same.step h1 hs hB).2⟩
theorem del_x (w : World) (base p : Nat) (T : List NU) (C : Nat) (h : TBx w base p T C) (hB : base ≤ w.heap.size) (hC : T.length ≤ C) (hC2 : C ≤ 200000) (y : Nm) (hy : y.ok) :
    Calls Try.prog 12 #[.pointer (some ⟨p, 0, none⟩), .agg #[.int .i64 y.tenant, .string y.key]] w fun e w' => e = .returned (.tuple #[.bool (lk T y).isSome, .int .i64 0]) ∧ TBx w' base p (strike y T) C ∧ Below base w w' := by
  obtain ⟨m, F, hm, h1⟩ := h
  refine (del_ok w base p T m C F h1 hC hC2 y hy).mono ?_
  rintro e w' ⟨rfl, T', rfl, hs⟩
  exact ⟨rfl, (Same.step h1 hs hB).1, (Same.step h1 hs hB).2⟩
theorem get_x (w : World) (base p : Nat) (T : List NU) (C : Nat) (h : TBx w base p T C) (hB : base ≤ w.heap.size) (hC : T.length ≤ C) (hC2 : C ≤ 200000) (y : Nm) (hy : y.ok) :
    Calls Try.prog 13 #[.pointer (some ⟨p, 0, none⟩), .agg #[.int .i64 y.tenant, .string y.key]] w fun e w' => e = .returned (.tuple #[.int .i64 ((lk T y).getD 0), .bool (lk T y).isSome, .int .i64 0]) ∧ TBx w' base p T C ∧ Below base w w' := by
  obtain ⟨m, F, hm, h1⟩ := h
  refine (get_ok w base p T m C F h1 hC hC2 y hy).mono ?_
  rintro e w' ⟨rfl, hs⟩
  exact ⟨rfl, (Same.step h1 hs hB).1, (Same.step h1 hs hB).2⟩
theorem len_x (w : World) (base p : Nat) (T : List NU) (C : Nat) (h : TBx w base p T C) :
    Calls Try.prog 14 #[.pointer (some ⟨p, 0, none⟩)] w fun e w' => e = .returned (.tuple #[.int .i64 (T.length : Nat), .int .i64 0]) ∧ w' = w := by
  obtain ⟨m, F, hm, h1⟩ := h
  exact len_any w base p T m C F h1
theorem moved_x (w : World) (base p : Nat) (T : List NU) (C : Nat) (h : TBx w base p T C) :
    Calls Try.prog 15 #[.pointer (some ⟨p, 0, none⟩)] w fun e w' => ∃ m : Nat, m ≤ 4 ∧ e = .returned (.tuple #[.int .i64 m, .int .i64 0]) ∧ w' = w := by
  obtain ⟨m, F, hm, h1⟩ := h
  refine (moved_any w base p T m C F h1).mono ?_
  rintro e w' ⟨rfl, rfl⟩
  exact ⟨m, hm, rfl, rfl⟩
theorem new_x (w : World) (C : Nat) :
    Calls Try.prog 8 #[] w fun e w' => ∃ p, e = .returned (.pointer (some ⟨p, 0, none⟩)) ∧ TBx w' w.heap.size p [] C ∧ Below w.heap.size w w' := by
  refine (new_any w).mono ?_
  rintro e w' ⟨p, rfl, ⟨F, hT⟩, hb⟩
  exact ⟨p, rfl, ⟨0, F, by omega, hT.mono (Nat.zero_le _)⟩, hb⟩
def aN : Nm := ⟨0, ⟨#[97]⟩⟩
def bN : Nm := ⟨1, ⟨#[97]⟩⟩
theorem alive_any (w : World) : Calls Try.prog 7 #[] w fun e w' => e = .returned (.bool true) ∧ Below w.heap.size w w' := by
  have oka : aN.ok := by decide
  have okb : bN.ok := by decide
  have L1 : ((aN, (5 : Int)) :: strike aN []) = [(aN, 5)] := by decide
  have L2 : ((bN, (6 : Int)) :: strike bN [(aN, 5)]) = [(bN, 6), (aN, 5)] := by decide
  have L3 : ((aN, (7 : Int)) :: strike aN [(bN, 6), (aN, 5)]) = [(aN, 7), (bN, 6)] := by decide
  have K3 : lk [(aN, (7 : Int)), (bN, 6)] aN = some 7 := by decide
  have HN := Hid.mk2 (new_x w 10)
  have HA1 := Hid.mk2 (fun W p (h : TBx W w.heap.size p [] 10) hB => put_x W w.heap.size p [] 10 h hB (by decide) (by decide) aN oka 5)
  have HA2 := Hid.mk2 (fun W p (h : TBx W w.heap.size p [(aN, 5)] 10) hB => put_x W w.heap.size p [(aN, 5)] 10 h hB (by decide) (by decide) bN okb 6)
  have HA3 := Hid.mk2 (fun W p (h : TBx W w.heap.size p [(bN, 6), (aN, 5)] 10) hB => put_x W w.heap.size p [(bN, 6), (aN, 5)] 10 h hB (by decide) (by decide) aN oka 7)
  have HG := Hid.mk2 (fun W p (h : TBx W w.heap.size p [(aN, 7), (bN, 6)] 10) hB => get_x W w.heap.size p [(aN, 7), (bN, 6)] 10 h hB (by decide) (by decide) aN oka)
  have HL := Hid.mk2 (fun W p (h : TBx W w.heap.size p [(aN, 7), (bN, 6)] 10) => len_x W w.heap.size p [(aN, 7), (bN, 6)] 10 h)
  rw [L1] at HA1
  rw [L2] at HA2
  rw [L3] at HA3
  rw [K3] at HG
  have ea : aN.tenant = 0 ∧ aN.key = ⟨#[97]⟩ := ⟨rfl, rfl⟩
  have eb : bN.tenant = 1 ∧ bN.key = ⟨#[97]⟩ := ⟨rfl, rfl⟩
  rw [ea.1, ea.2] at HA1 HA3 HG
  rw [eb.1, eb.2] at HA2
  clear L1 L2 L3 K3 ea eb oka okb
  go_enter Try.func7, Try.ntmps7
  go_upto_region 4 with (go_at_call 8; refine HN.out.mono ?_; rintro e w1 ⟨p, rfl, hT1, hb1⟩; have HT1 := Hid.mk2 hT1; have HB1 := Hid.mk2 hb1; clear hT1 hb1)
  go_upto_region 5 with (first
    | (go_at_call 10; refine (name_any _ _ _).mono ?_; rintro e w2 ⟨rfl, hb2⟩; have HT2 := Hid.mk2 (HT1.out.below hb2); have HB2 : Hid (Below w.heap.size w w2) := HB1.out.trans (hb2.mono HB1.out.size); clear hb2)
    | (go_at_call 9; refine (HA1.out _ p HT2.out HB2.out.size).mono ?_; rintro e w3 ⟨rfl, hT3, hb3⟩; have HT3 := Hid.mk2 hT3; have HB3 : Hid (Below w.heap.size w w3) := HB2.out.trans hb3; clear hT3 hb3))
  go_upto_region 6 with (first
    | (go_at_call 10; refine (name_any _ _ _).mono ?_; rintro e w4 ⟨rfl, hb2⟩; have HT4 := Hid.mk2 (HT3.out.below hb2); have HB4 : Hid (Below w.heap.size w w4) := HB3.out.trans (hb2.mono HB3.out.size); clear hb2)
    | (go_at_call 9; refine (HA2.out _ p HT4.out HB4.out.size).mono ?_; rintro e w5 ⟨rfl, hT3, hb3⟩; have HT5 := Hid.mk2 hT3; have HB5 : Hid (Below w.heap.size w w5) := HB4.out.trans hb3; clear hT3 hb3))
  go_upto_region 7 with (first
    | (go_at_call 10; refine (name_any _ _ _).mono ?_; rintro e w6 ⟨rfl, hb2⟩; have HT6 := Hid.mk2 (HT5.out.below hb2); have HB6 : Hid (Below w.heap.size w w6) := HB5.out.trans (hb2.mono HB5.out.size); clear hb2)
    | (go_at_call 9; refine (HA3.out _ p HT6.out HB6.out.size).mono ?_; rintro e w7 ⟨rfl, hT3, hb3⟩; have HT7 := Hid.mk2 hT3; have HB7 : Hid (Below w.heap.size w w7) := HB6.out.trans hb3; clear hT3 hb3))
  go_upto_region 8 with (first
    | (go_at_call 10; refine (name_any _ _ _).mono ?_; rintro e w8 ⟨rfl, hb2⟩; have HT8 := Hid.mk2 (HT7.out.below hb2); have HB8 : Hid (Below w.heap.size w w8) := HB7.out.trans (hb2.mono HB7.out.size); clear hb2)
    | (go_at_call 13; refine (HG.out _ p HT8.out HB8.out.size).mono ?_; rintro e w9 ⟨rfl, hT3, hb3⟩; have HT9 := Hid.mk2 hT3; have HB9 : Hid (Below w.heap.size w w9) := HB8.out.trans hb3; clear hT3 hb3))
  go_wp2_with (go_at_call 14; refine (HL.out _ p HT9.out).mono ?_; rintro e w10 ⟨rfl, hwq⟩; obtain rfl := hwq.symm)
  go_ret
  exact ⟨rfl, HB9.out⟩
end Go.Proofs.Ytlomciinkpecpaa
