/-
  The walk of DiskDoes: disks are made, read and written, whole and cut off, as the document says; no condition.
-/
import Derived.Test.YtgfhjkphdmkmoabDkRef5
import Derived.Test.YtgfhjkphdmkmoabDkAlive
import Derived.Test.YtgfhjkphdmkmoabDkHeavy
import Derived.Test.YtgfhjkphdmkmoabDkRows
import Derived.Test.YtgfhjkphdmkmoabDkPoke2
import Derived.Deep.Cut
namespace Go.Proofs.Ytgfhjkphdmkmoab
open Go.ChangeShapes Go.WideShapes Go.ChangeAt Go.RowKit
open Go.ChangeMaps (open_string shut_string)
set_option linter.unusedSimpArgs false
set_option linter.unusedVariables false
set_option maxRecDepth 100000

set_option maxHeartbeats 4000000 in
theorem diskDoes_walk1 (w : World) (a0 : Option Addr) (len0 cap0 : Nat) (d : List UInt8) (hi0 : InBytes w a0 len0 cap0 d) (KK : Hid (dOk d.length = false)) (a1 : Option Addr) (len1 cap1 : Nat) (ps : List Pt) (hi1 : InPuts w a1 len1 cap1 ps) (m : Int) (wm : (Lit.int .i64 m).wf = true) (n : Int) (wn : (Lit.int .i64 n).wf = true) (a4 : Option Addr) (len4 cap4 : Nat) (bl : List UInt8) (hi4 : InBytes w a4 len4 cap4 bl) :
    Calls Try.prog 7 #[.agg #[.slice a0 len0 cap0], .slice a1 len1 cap1, .int .i64 m, .int .i64 n, .slice a4 len4 cap4] w fun e w' => e = .returned (.bool true) ∧ Below w.heap.size w w' := by
  obtain ⟨rfl, h01, h02, h03, h04⟩ := hi0
  obtain ⟨rfl, h11, h12, h13, h14, h15⟩ := hi1
  obtain ⟨rfl, h41, h42, h43, h44⟩ := hi4
  have HD : Hid (Sl w a0 d cap0) := ⟨h01, h02, h03, h04⟩
  have HP : Hid (Pl w a1 ps cap1) := ⟨h11, h12, h13, h14⟩
  have HB : Hid (Sl w a4 bl cap4) := ⟨h41, h42, h43, h44⟩
  have HROOM : Hid (∀ p ∈ ps, p.data.length ≤ 140737488355328) := fun p hp => Nat.le_trans (h15 p hp) (by decide)
  have hpm : ps.length ≤ 9223372036854775807 := Nat.le_trans h11 h12
  have hdm : d.length ≤ 9223372036854775807 := Nat.le_trans h01 h02
  have HN4 : Hid (a4 = none → cap4 = 0) := h43
  clear h01 h02 h03 h04 h11 h12 h13 h14 h15 h41 h42 h43 h44 wm wn
  have hlg := fun W => large_any a0 d.length cap0 W
  have hDl : ∀ W, Below w.heap.size w W → Sl W a0 d cap0 := fun W h => HD.out.below h
  have hPl : ∀ W, Below w.heap.size w W → Pl W a1 ps cap1 := fun W h => HP.out.below h
  have hBl : ∀ W, Below w.heap.size w W → Sl W a4 bl cap4 := fun W h => HB.out.below h
  have hhv : ∀ W, Below w.heap.size w W → Calls Try.prog 32 #[.slice a1 ps.length cap1] W fun e w' => HeavyB e ps.length ∧ W = w' := fun W h => heavyP_any W W.heap.size a1 ps cap1 hpm (hPl W h).at_
  by_cases g0 : (300000 : Int) < (d.length : Int)
  · go_enter Try.func7, Try.ntmps7
    go_wp2_with (go_at_call 31; refine (hlg _).mono ?_; rintro e w1 ⟨rfl, hb1⟩)
    go_ret
    exact ⟨rfl, below_alloc hb1⟩
  · have g1 : decide ((300000 : Int) < (d.length : Int)) = false := by simp; omega
    have hdl3 : d.length ≤ 300000 := by omega
    by_cases g2 : (10000 : Int) < (bl.length : Int)
    · go_enter Try.func7, Try.ntmps7
      go_wp2_with (first
        | (go_at_call 31; refine (hlg _).mono ?_; rintro e w1 ⟨rfl, hb1⟩; have hb01 := below_alloc hb1)
        | (go_at_call 32; refine (hhv w1 hb01).mono ?_; rintro e w3 ⟨⟨hv, rfl, hlen⟩, rfl⟩))
      all_goals
        go_ret
        exact ⟨rfl, hb01⟩
    · have g3 : decide ((10000 : Int) < (bl.length : Int)) = false := by simp; omega
      have hbl1 : bl.length ≤ 10000 := by omega
      go_enter Try.func7, Try.ntmps7
      go_upto_region 3 with (first
        | (go_at_call 31; refine (hlg _).mono ?_; rintro e w1 ⟨rfl, hb1⟩; have c1 : w1.cell? ⟨w.heap.size, 0, none⟩ = some (.slice a0 d.length cap0) := (by rw [below_cells hb1 _ _ (by simp)]; simp); have hs1 := hb1.size; simp at hs1; have hb01 := below_alloc hb1)
        | (go_at_call 32; refine (hhv w1 hb01).mono ?_; rintro e w3 ⟨⟨hv, rfl, hlen⟩, rfl⟩))
      · go_ret
        exact ⟨rfl, hb01⟩
      · have hps5 : ps.length ≤ 5000 := hlen (by simpa using ‹¬hv = true›)
        have O2 : Hid True := trivial
        go_upto_region 6 with (first
          | (go_at_call 33; refine (twin_any w1 a0 d cap0 (hDl w1 hb01) (by omega)).mono ?_; rintro e w2 ⟨ro2, rc2, rfl, f2, hb2⟩; have hb02 := hb01.trans (hb2.mono hb01.size); have hs2 := hb2.size; have c2 := (hb2.cell (p := ⟨w.heap.size, 0, none⟩) (show w.heap.size < _ by omega)).trans c1; have hx2 : w.heap.size < w2.heap.size := (by omega))
          | (go_at_call 34; refine (twinPuts_any (w2.alloc (Obj.cells #[Value.slice ro2 d.length rc2] 48)) a1 ps cap1 (hPl _ (hb02.alloc hb02.size _)) (by omega) HROOM.out).mono ?_; rintro e w3 ⟨v3, rfl, f3, hb3⟩; obtain ⟨po3, pc3, hv3, -⟩ := f3.pl; subst hv3; have hb03 := (hb02.alloc hb02.size _).trans (hb3.mono (by simp; omega)))
          | (at_builtin; refine app_bytes rfl (.const (.slice none 0 0)) (.tmp 56) rfl w3.heap.size _ [] (Own.nil _ _) rfl a4 cap4 bl _ rfl rfl w3.heap.size HN4.out ((hBl w3 hb03).at_) (by simp; omega) (Nat.le_refl _) ?_; intro v4 w4 f4 hg4; rw [List.nil_append] at f4; have hb4 := hg4.below_nil; obtain ⟨io4, ic4, hv4, -⟩ := f4.fresh.sl; subst hv4; have hb04 := hb03.trans (hb4.mono hb03.size)))
        have hbA2 : Below w2.heap.size w2 (w2.alloc (Obj.cells #[Value.slice ro2 d.length rc2] 48)) := ((Below.refl _ _).alloc (Nat.le_refl _) _)
        have hb23 := hbA2.trans (hb3.mono hbA2.size)
        have hb24 := hb23.trans (hb4.mono hb23.size)
        have hs23 := hb3.size
        simp at hs23
        have hs34 := hb4.size
        have cO : w4.cell? ⟨w2.heap.size, 0, none⟩ = some (.slice ro2 d.length rc2) := (hb4.cell (p := ⟨w2.heap.size, 0, none⟩) (show w2.heap.size < _ by omega)).trans ((hb3.cell (p := ⟨w2.heap.size, 0, none⟩) (by simp)).trans (by simp))
        have cD : w4.cell? ⟨w.heap.size, 0, none⟩ = some (.slice a0 d.length cap0) := (hb24.cell (p := ⟨w.heap.size, 0, none⟩) hx2).trans c2
        have FO := f2.below hb24
        have FP := f3.below hb4
        have FI := f4.fresh
        have hso : Sl w4 ro2 d rc2 := by obtain ⟨_, _, he, h⟩ := FO.sl; cases he; exact h
        have hsp : Pl w4 po3 ps pc3 := by obtain ⟨_, _, he, h⟩ := FP.pl; cases he; exact h
        have hsi : Sl w4 io4 bl ic4 := by obtain ⟨_, _, he, h⟩ := FI.sl; cases he; exact h
        obtain ⟨H2, hH2⟩ : ∃ H2, H2 = w2.heap.size := ⟨_, rfl⟩
        rw [← hH2] at cO ⊢
        have hx4 : w.heap.size < w4.heap.size := by omega
        have hxO : H2 < w4.heap.size := by omega
        have HD4 : Hid (Sl w4 a0 d cap0) := hDl _ hb04
        have HP4 : Hid (Pl w4 a1 ps cap1) := hPl _ hb04
        have HB4 : Hid (Sl w4 a4 bl cap4) := hBl _ hb04
        have HFO : Hid (Fresh w4 w1.heap.size (.slice ro2 d.length rc2) d) := FO
        have HFP : Hid (OwnPs w4 (w2.alloc (Obj.cells #[Value.slice ro2 d.length rc2] 48)).heap.size (.slice po3 ps.length pc3) ps) := FP
        have HFI : Hid (Fresh w4 w3.heap.size (.slice io4 bl.length ic4) bl) := FI
        have HB04 : Hid (Below w.heap.size w w4) := hb04
        have hw14 : w1.heap.size ≤ w4.heap.size := by omega
        clear FO FP FI f2 f3 f4 hb2 hb3 hb4 hg4 hb24 hb23 hbA2 c2 c1 hb1 hb01 hb02 hb03 hb04 hDl hPl hBl hlg hhv HD HP HB HN4 O2 hH2 hx2 hs23 hs34 hs2 hs1
        obtain ⟨XB, eXB⟩ : ∃ XB, XB = newB n := ⟨_, rfl⟩
        obtain ⟨XE, eXE⟩ : ∃ XE, XE = newE n := ⟨_, rfl⟩
        obtain ⟨PB, ePB⟩ : ∃ PB, PB = rdB d n := ⟨_, rfl⟩
        obtain ⟨PE, ePE⟩ : ∃ PE, PE = rdE d.length n := ⟨_, rfl⟩
        obtain ⟨UB, eUB⟩ : ∃ UB, UB = doB d [⟨n, bl⟩] 1 := ⟨_, rfl⟩
        obtain ⟨UE, eUE⟩ : ∃ UE, UE = doE d.length [⟨n, bl⟩] 1 := ⟨_, rfl⟩
        obtain ⟨RB, eRB⟩ : ∃ RB, RB = doB d ps m := ⟨_, rfl⟩
        obtain ⟨RE, eRE⟩ : ∃ RE, RE = doE d.length ps m := ⟨_, rfl⟩
        obtain ⟨GP, eGP⟩ : ∃ GP, GP = leftP ps m := ⟨_, rfl⟩
        obtain ⟨GE, eGE⟩ : ∃ GE, GE = leftE ps m := ⟨_, rfl⟩
        have HK5 : Hid (∀ W, Calls Try.prog 19 #[.int .i64 n] W fun e w' => ∃ v', e = .returned (.tuple #[.agg #[v'], .int .i64 XE]) ∧ Fresh w' W.heap.size v' XB ∧ Below W.heap.size W w') := fun W => by rw [eXB, eXE]; exact new_any n W
        have HK6 : Hid (∀ W, Calls Try.prog 35 #[.int .i64 n] W fun e w' => ∃ v', e = .returned (.tuple #[.agg #[v'], .int .i64 XE]) ∧ Fresh w' W.heap.size v' XB ∧ Below W.heap.size W w') := fun W => by rw [eXB, eXE]; exact rnew_any n W
        have HK7 : Hid (∀ W, Below w4.heap.size w4 W → Calls Try.prog 23 #[.agg #[.slice ro2 d.length rc2], .int .i64 n] W fun e w' => ∃ v', e = .returned (.tuple #[v', .int .i64 PE]) ∧ Fresh w' W.heap.size v' PB ∧ Below W.heap.size W w') := fun W h => by have hs := hso.below h; rw [ePB, ePE]; exact read_any2 W W.heap.size ro2 d rc2 hs.at_ hs.hl hs.hc (Nat.le_refl _) n
        have HK8 : Hid (∀ W, Below w4.heap.size w4 W → Calls Try.prog 36 #[.agg #[.slice a0 d.length cap0], .int .i64 n] W fun e w' => ∃ v', e = .returned (.tuple #[v', .int .i64 PE]) ∧ Fresh w' W.heap.size v' PB ∧ Below W.heap.size W w') := fun W h => by rw [ePB, ePE]; exact rread_any W a0 d cap0 (HD4.out.below h) n
        have HK9 : Hid (∀ W, Below w4.heap.size w4 W → Calls Try.prog 21 #[.agg #[.slice ro2 d.length rc2], .int .i64 n, .slice io4 bl.length ic4] W fun e w' => ∃ ro rc, e = .returned (.tuple #[.agg #[.slice ro UB.length rc], .int .i64 UE]) ∧ Fresh w' W.heap.size (.slice ro UB.length rc) UB ∧ Below W.heap.size W w') := fun W h => write_any W ro2 d rc2 (hso.below h) n io4 bl ic4 (hsi.below h) UE UB eUE.symm eUB.symm
        have HK10 : Hid (∀ W, Below w4.heap.size w4 W → Calls Try.prog 37 #[.agg #[.slice a0 d.length cap0], .int .i64 n, .slice a4 bl.length cap4] W fun e w' => ∃ ro rc, e = .returned (.tuple #[.agg #[.slice ro UB.length rc], .int .i64 UE]) ∧ Fresh w' W.heap.size (.slice ro UB.length rc) UB ∧ Below W.heap.size W w') := fun W h => rwrite_any W a0 d cap0 (HD4.out.below h) n a4 bl cap4 (HB4.out.below h) UE UB eUE.symm eUB.symm
        have HK11 : Hid (∀ W, Below w4.heap.size w4 W → Calls Try.prog 26 #[.agg #[.slice ro2 d.length rc2], .slice po3 ps.length pc3, .int .i64 m] W fun e w' => ∃ v', e = .returned (.tuple #[.agg #[v'], .int .i64 RE]) ∧ Fresh w' W.heap.size v' RB ∧ Below W.heap.size W w') := fun W h => by have hs := hso.below h; have hp := hsp.below h; rw [eRB, eRE]; exact do_any W W.heap.size ro2 d rc2 hs.at_ hs.hl hs.hc hs.hn (Nat.le_refl _) po3 ps pc3 hp.at_ hp.hn hp.hl hp.hc m
        have HK12 : Hid (∀ W, Below w4.heap.size w4 W → Calls Try.prog 38 #[.agg #[.slice a0 d.length cap0], .slice a1 ps.length cap1, .int .i64 m] W fun e w' => ∃ v', e = .returned (.tuple #[.agg #[v'], .int .i64 RE]) ∧ Fresh w' W.heap.size v' RB ∧ Below W.heap.size W w') := fun W h => by rw [eRB, eRE]; exact rdo_any W a0 d cap0 (HD4.out.below h) a1 ps cap1 (HP4.out.below h) m
        have HK13 : Hid (∀ W, Below w4.heap.size w4 W → Calls Try.prog 24 #[.slice po3 ps.length pc3, .int .i64 m] W fun e w' => ∃ v', e = .returned (.tuple #[v', .int .i64 GE]) ∧ OwnPs w' W.heap.size v' GP ∧ Below W.heap.size W w') := fun W h => by have hp := hsp.below h; rw [eGP, eGE]; exact left_any W W.heap.size (Nat.le_refl _) po3 ps pc3 hp.at_ hp.hn hp.hl hp.hc (by omega) HROOM.out m
        have HK14 : Hid (∀ W, Below w4.heap.size w4 W → Calls Try.prog 39 #[.slice a1 ps.length cap1, .int .i64 m] W fun e w' => ∃ v', e = .returned (.tuple #[v', .int .i64 GE]) ∧ OwnPs w' W.heap.size v' GP ∧ Below W.heap.size W w') := fun W h => by rw [eGP, eGE]; exact rleft_any W a1 ps cap1 (HP4.out.below h) (by omega) HROOM.out m
        have LO : ∀ W, Below w4.heap.size w4 W → W.cell? ⟨H2, 0, none⟩ = some (.slice ro2 d.length rc2) := fun W h => (h.cell (p := ⟨H2, 0, none⟩) hxO).trans cO
        have LD : ∀ W, Below w4.heap.size w4 W → W.cell? ⟨w.heap.size, 0, none⟩ = some (.slice a0 d.length cap0) := fun W h => (h.cell (p := ⟨w.heap.size, 0, none⟩) hx4).trans cD
        have HLO : Hid (∀ W, Below w4.heap.size w4 W → W.cell? ⟨H2, 0, none⟩ = some (.slice ro2 d.length rc2)) := LO
        have HLD : Hid (∀ W, Below w4.heap.size w4 W → W.cell? ⟨w.heap.size, 0, none⟩ = some (.slice a0 d.length cap0)) := LD
        clear LO LD eXB eXE ePB ePE eUB eUE eRB eRE eGP eGE hso hsp hsi
        go_upto_region 17 with (first
          | (go_at_call 19; refine (HK5.out w4).mono ?_; rintro e w5 ⟨v5, rfl, f5, hb5⟩; obtain ⟨xo, xc, hv5, -⟩ := f5.sl; subst hv5; have C5' : Below w4.heap.size w4 w5 := hb5; have o5 := HLO.out w5 C5'; have d5 := HLD.out w5 C5'; have ho5 : H2 < w5.heap.size := Nat.lt_of_lt_of_le hxO C5'.size; have hd5 : w.heap.size < w5.heap.size := Nat.lt_of_lt_of_le hx4 C5'.size; have C5 : Below w4.heap.size w4 (w5.alloc (Obj.cells #[Value.slice xo XB.length xc] 48)) := C5'.alloc C5'.size _)
          | (go_at_call 35; refine (HK6.out (w5.alloc (Obj.cells #[Value.slice xo XB.length xc] 48))).mono ?_; rintro e w6 ⟨v6, rfl, f6, hb6⟩; obtain ⟨yo, yc, hv6, -⟩ := f6.sl; subst hv6; have C6' : Below w4.heap.size w4 w6 := C5.trans (hb6.mono C5.size); have o6 := HLO.out w6 C6'; have d6 := HLD.out w6 C6'; have ho6 : H2 < w6.heap.size := Nat.lt_of_lt_of_le hxO C6'.size; have hd6 : w.heap.size < w6.heap.size := Nat.lt_of_lt_of_le hx4 C6'.size; have C6 : Below w4.heap.size w4 (w6.alloc (Obj.cells #[Value.slice yo XB.length yc] 48)) := C6'.alloc C6'.size _)
          | (go_at_call 23; refine (HK7.out (w6.alloc (Obj.cells #[Value.slice yo XB.length yc] 48)) C6).mono ?_; rintro e w7 ⟨v7, rfl, f7, hb7⟩; obtain ⟨po7, pc7, hv7, -⟩ := f7.sl; subst hv7; have C7' : Below w4.heap.size w4 w7 := C6.trans (hb7.mono C6.size); have o7 := HLO.out w7 C7'; have d7 := HLD.out w7 C7'; have ho7 : H2 < w7.heap.size := Nat.lt_of_lt_of_le hxO C7'.size; have hd7 : w.heap.size < w7.heap.size := Nat.lt_of_lt_of_le hx4 C7'.size)
          | (go_at_call 36; refine (HK8.out w7 C7').mono ?_; rintro e w8 ⟨v8, rfl, f8, hb8⟩; obtain ⟨qo8, qc8, hv8, -⟩ := f8.sl; subst hv8; have C8' : Below w4.heap.size w4 w8 := C7'.trans (hb8.mono C7'.size); have o8 := HLO.out w8 C8'; have d8 := HLD.out w8 C8'; have ho8 : H2 < w8.heap.size := Nat.lt_of_lt_of_le hxO C8'.size; have hd8 : w.heap.size < w8.heap.size := Nat.lt_of_lt_of_le hx4 C8'.size)
          | (go_at_call 21; refine (HK9.out w8 C8').mono ?_; rintro e w9 ⟨uo, uc, rfl, f9, hb9⟩; have C9' : Below w4.heap.size w4 w9 := C8'.trans (hb9.mono C8'.size); have o9 := HLO.out w9 C9'; have d9 := HLD.out w9 C9'; have ho9 : H2 < w9.heap.size := Nat.lt_of_lt_of_le hxO C9'.size; have hd9 : w.heap.size < w9.heap.size := Nat.lt_of_lt_of_le hx4 C9'.size; have C9 : Below w4.heap.size w4 (w9.alloc (Obj.cells #[Value.slice uo UB.length uc] 48)) := C9'.alloc C9'.size _)
          | (go_at_call 37; refine (HK10.out (w9.alloc (Obj.cells #[Value.slice uo UB.length uc] 48)) C9).mono ?_; rintro e w10 ⟨vo, vc, rfl, f10, hb10⟩; have C10' : Below w4.heap.size w4 w10 := C9.trans (hb10.mono C9.size); have o10 := HLO.out w10 C10'; have d10 := HLD.out w10 C10'; have ho10 : H2 < w10.heap.size := Nat.lt_of_lt_of_le hxO C10'.size; have hd10 : w.heap.size < w10.heap.size := Nat.lt_of_lt_of_le hx4 C10'.size; have C10 : Below w4.heap.size w4 (w10.alloc (Obj.cells #[Value.slice vo UB.length vc] 48)) := C10'.alloc C10'.size _)
          | (go_at_call 26; refine (HK11.out (w10.alloc (Obj.cells #[Value.slice vo UB.length vc] 48)) C10).mono ?_; rintro e w11 ⟨v11, rfl, f11, hb11⟩; obtain ⟨ro, rc, hv11, -⟩ := f11.sl; subst hv11; have C11' : Below w4.heap.size w4 w11 := C10.trans (hb11.mono C10.size); have o11 := HLO.out w11 C11'; have d11 := HLD.out w11 C11'; have ho11 : H2 < w11.heap.size := Nat.lt_of_lt_of_le hxO C11'.size; have hd11 : w.heap.size < w11.heap.size := Nat.lt_of_lt_of_le hx4 C11'.size; have C11 : Below w4.heap.size w4 (w11.alloc (Obj.cells #[Value.slice ro RB.length rc] 48)) := C11'.alloc C11'.size _)
          | (go_at_call 38; refine (HK12.out (w11.alloc (Obj.cells #[Value.slice ro RB.length rc] 48)) C11).mono ?_; rintro e w12 ⟨v12, rfl, f12, hb12⟩; obtain ⟨so, sc, hv12, -⟩ := f12.sl; subst hv12; have C12' : Below w4.heap.size w4 w12 := C11.trans (hb12.mono C11.size); have o12 := HLO.out w12 C12'; have d12 := HLD.out w12 C12'; have ho12 : H2 < w12.heap.size := Nat.lt_of_lt_of_le hxO C12'.size; have hd12 : w.heap.size < w12.heap.size := Nat.lt_of_lt_of_le hx4 C12'.size; have C12 : Below w4.heap.size w4 (w12.alloc (Obj.cells #[Value.slice so RB.length sc] 48)) := C12'.alloc C12'.size _)
          | (go_at_call 24; refine (HK13.out (w12.alloc (Obj.cells #[Value.slice so RB.length sc] 48)) C12).mono ?_; rintro e w13 ⟨v13, rfl, f13, hb13⟩; obtain ⟨go, gc, hv13, -⟩ := f13.pl; subst hv13; have C13' : Below w4.heap.size w4 w13 := C12.trans (hb13.mono C12.size); have o13 := HLO.out w13 C13'; have d13 := HLD.out w13 C13'; have ho13 : H2 < w13.heap.size := Nat.lt_of_lt_of_le hxO C13'.size; have hd13 : w.heap.size < w13.heap.size := Nat.lt_of_lt_of_le hx4 C13'.size)
          | (go_at_call 39; refine (HK14.out w13 C13').mono ?_; rintro e w14 ⟨v14, rfl, f14, hb14⟩; obtain ⟨ko, kc, hv14, -⟩ := f14.pl; subst hv14; have C14' : Below w4.heap.size w4 w14 := C13'.trans (hb14.mono C13'.size); have o14 := HLO.out w14 C14'; have d14 := HLD.out w14 C14'; have ho14 : H2 < w14.heap.size := Nat.lt_of_lt_of_le hxO C14'.size; have hd14 : w.heap.size < w14.heap.size := Nat.lt_of_lt_of_le hx4 C14'.size)
          | (go_at_call 20; refine (many_any ro2 d.length rc2 w14 hdm).mono ?_; rintro e w15 ⟨rfl, hb15⟩; have C15' : Below w4.heap.size w4 w15 := C14'.trans (hb15.mono C14'.size); have o15 := HLO.out w15 C15'; have d15 := HLD.out w15 C15'; have ho15 : H2 < w15.heap.size := Nat.lt_of_lt_of_le hxO C15'.size; have hd15 : w.heap.size < w15.heap.size := Nat.lt_of_lt_of_le hx4 C15'.size))
        obtain ⟨X5, hX5⟩ : ∃ X5, X5 = w5.heap.size := ⟨_, rfl⟩
        obtain ⟨X6, hX6⟩ : ∃ X6, X6 = w6.heap.size := ⟨_, rfl⟩
        obtain ⟨X9, hX9⟩ : ∃ X9, X9 = w9.heap.size := ⟨_, rfl⟩
        obtain ⟨X10, hX10⟩ : ∃ X10, X10 = w10.heap.size := ⟨_, rfl⟩
        obtain ⟨X11, hX11⟩ : ∃ X11, X11 = w11.heap.size := ⟨_, rfl⟩
        obtain ⟨X12, hX12⟩ : ∃ X12, X12 = w12.heap.size := ⟨_, rfl⟩
        rw [← hX5, ← hX6, ← hX9, ← hX10, ← hX11, ← hX12]
        have F14 := hb15
        have F13 := hb14.trans (F14.mono hb14.size)
        have FA12 := hb13.trans (F13.mono hb13.size)
        have F12 := below_alloc FA12
        have FA11 := hb12.trans (F12.mono hb12.size)
        have F11 := below_alloc FA11
        have FA10 := hb11.trans (F11.mono hb11.size)
        have F10 := below_alloc FA10
        have FA9 := hb10.trans (F10.mono hb10.size)
        have F9 := below_alloc FA9
        have F8 := hb9.trans (F9.mono hb9.size)
        have F7 := hb8.trans (F8.mono hb8.size)
        have FA6 := hb7.trans (F7.mono hb7.size)
        have F6 := below_alloc FA6
        have FA5 := hb6.trans (F6.mono hb6.size)
        have F5 := below_alloc FA5
        have x5 : w15.cell? ⟨X5, 0, none⟩ = some (.slice xo XB.length xc) := by rw [hX5]; exact (FA5.cell (p := ⟨w5.heap.size, 0, none⟩) (by simp)).trans (by simp)
        have x6 : w15.cell? ⟨X6, 0, none⟩ = some (.slice yo XB.length yc) := by rw [hX6]; exact (FA6.cell (p := ⟨w6.heap.size, 0, none⟩) (by simp)).trans (by simp)
        have x9 : w15.cell? ⟨X9, 0, none⟩ = some (.slice uo UB.length uc) := by rw [hX9]; exact (FA9.cell (p := ⟨w9.heap.size, 0, none⟩) (by simp)).trans (by simp)
        have x10 : w15.cell? ⟨X10, 0, none⟩ = some (.slice vo UB.length vc) := by rw [hX10]; exact (FA10.cell (p := ⟨w10.heap.size, 0, none⟩) (by simp)).trans (by simp)
        have x11 : w15.cell? ⟨X11, 0, none⟩ = some (.slice ro RB.length rc) := by rw [hX11]; exact (FA11.cell (p := ⟨w11.heap.size, 0, none⟩) (by simp)).trans (by simp)
        have x12 : w15.cell? ⟨X12, 0, none⟩ = some (.slice so RB.length sc) := by rw [hX12]; exact (FA12.cell (p := ⟨w12.heap.size, 0, none⟩) (by simp)).trans (by simp)
        have l5 : X5 < w15.heap.size := by have := FA5.size; simp at this; omega
        have l6 : X6 < w15.heap.size := by have := FA6.size; simp at this; omega
        have l9 : X9 < w15.heap.size := by have := FA9.size; simp at this; omega
        have l10 : X10 < w15.heap.size := by have := FA10.size; simp at this; omega
        have l11 : X11 < w15.heap.size := by have := FA11.size; simp at this; omega
        have l12 : X12 < w15.heap.size := by have := FA12.size; simp at this; omega
        have q5 := f5.below F5
        have q6 := f6.below F6
        have q7 := f7.below F7
        have q8 := f8.below F8
        have q9 := f9.below F9
        have q10 := f10.below F10
        have q11 := f11.below F11
        have q12 := f12.below F12
        have q13 := f13.below F13
        have q14 := f14.below F14
        have hf15 := C15'
        have k7 : PkB w15 (w6.alloc (Obj.cells #[Value.slice yo XB.length yc] 48)).heap.size w7.heap.size none po7 PB.length := by
          obtain ⟨_, _, he, _, _, hp⟩ := f7.pkB; cases he; exact hp.below F7
        have k11 : PkB w15 (w10.alloc (Obj.cells #[Value.slice vo UB.length vc] 48)).heap.size w11.heap.size none ro RB.length := by
          obtain ⟨_, _, he, _, _, hp⟩ := f11.pkB; cases he; exact hp.below F11
        have k13 : PkP w15 (w12.alloc (Obj.cells #[Value.slice so RB.length sc] 48)).heap.size w13.heap.size go GP.length := (f13.pk).below F13
        have m7 : PB.length ≤ 9223372036854775807 := by obtain ⟨_, _, he, h, h2, _⟩ := f7.pkB; exact Nat.le_trans h h2
        have m11 : RB.length ≤ 9223372036854775807 := by obtain ⟨_, _, he, h, h2, _⟩ := f11.pkB; exact Nat.le_trans h h2
        have m13 : GP.length ≤ 9223372036854775807 := by obtain ⟨_, _, he, h⟩ := f13.pl; exact Nat.le_trans h.hl h.hc
        obtain ⟨B7, hB7⟩ : ∃ B7, B7 = (w6.alloc (Obj.cells #[Value.slice yo XB.length yc] 48)).heap.size := ⟨_, rfl⟩
        obtain ⟨T7, hT7⟩ : ∃ T7, T7 = w7.heap.size := ⟨_, rfl⟩
        obtain ⟨B11, hB11⟩ : ∃ B11, B11 = (w10.alloc (Obj.cells #[Value.slice vo UB.length vc] 48)).heap.size := ⟨_, rfl⟩
        obtain ⟨B13, hB13⟩ : ∃ B13, B13 = (w12.alloc (Obj.cells #[Value.slice so RB.length sc] 48)).heap.size := ⟨_, rfl⟩
        obtain ⟨T13, hT13⟩ : ∃ T13, T13 = w13.heap.size := ⟨_, rfl⟩
        rw [← hB7, ← hT7] at k7
        rw [← hB11, ← hX11] at k11
        rw [← hB13, ← hT13] at k13
        have lb7 : w4.heap.size ≤ B7 := by rw [hB7]; exact C6.size
        have z8 := hb8.size
        have z9 := hb9.size
        have z10 := hb10.size
        have z11 := hb11.size
        have z12 := hb12.size
        have z13 := hb13.size
        have z7 := hb7.size
        simp at z10 z11 z12 z13 z7
        have lt7 : B7 ≤ T7 := by rw [hB7, hT7]; simp; omega
        have lb11 : T7 ≤ B11 := by rw [hT7, hB11]; simp; omega
        have lt11 : B11 ≤ X11 := by rw [hB11, hX11]; simp; omega
        have lb13 : X11 < B13 := by rw [hX11, hB13]; simp; omega
        have HPK : Hid (PkB w15 B7 T7 none po7 PB.length ∧ PkB w15 B11 X11 none ro RB.length ∧ PkP w15 B13 T13 go GP.length) := ⟨k7, k11, k13⟩
        clear k7 k11 k13 hB7 hT7 hB11 hB13 hT13 z7 z8 z9 z10 z11 z12 z13
        clear hb5 C5' o5 d5 ho5 hd5 hb6 C6' o6 d6 ho6 hd6 hb7 C7' o7 d7 ho7 hd7 hb8 C8' o8 d8 ho8 hd8 hb9 C9' o9 d9 ho9 hd9 hb10 C10' o10 d10 ho10 hd10 hb11 C11' o11 d11 ho11 hd11 hb12 C12' o12 d12 ho12 hd12 hb13 C13' o13 d13 ho13 hd13 hb14 C14' o14 d14 ho14 hd14 C5 C6 C9 C10 C11 C12 f5 f6 f7 f8 f9 f10 f11 f12 f13 f14 F5 FA5 F6 FA6 F7 F8 F9 FA9 F10 FA10 F11 FA11 F12 FA12 F13 F14 hb15 HK5 HK6 HK7 HK8 HK9 HK10 HK11 HK12 HK13 HK14 hX5 hX6 hX9 hX10 hX11 hX12 HROOM hps5 hlen hbl1 hdl3 hpm
        go_cut [36] from 41 (fun s36 wx => s36 = .int .i64 (dE d.length) ∧ Below w15.heap.size w15 wx)
        case first =>
          go_wp2_with (go_at_call 40; refine (rcheck_any a0 d.length cap0 w15 hdm).mono ?_; rintro e w16 ⟨rfl, hb16⟩)
          go_meet
          case rel => exact ⟨rfl, hb16⟩
        case rest =>
        obtain ⟨rfl, hb16⟩ := hcut
        obtain ⟨wf, rfl⟩ : ∃ wf, wf = wc := ⟨_, rfl⟩
        go_upto_region 18 with fail
        have cx : ∀ {X : Nat} {v : Value}, w15.cell? ⟨X, 0, none⟩ = some v → X < w15.heap.size → ∀ W, Below wf.heap.size wf W → W.cell? ⟨X, 0, none⟩ = some v := fun {X v} h hl W hW => ((hb16.trans (hW.mono hb16.size)).cell (p := ⟨X, 0, none⟩) hl).trans h
        have L5 := cx x5 l5
        have L6 := cx x6 l6
        have L9 := cx x9 l9
        have L10 := cx x10 l10
        have L11 := cx x11 l11
        have L12 := cx x12 l12
        have LO := fun W (h : Below wf.heap.size wf W) => HLO.out W ((C15'.trans (hb16.mono C15'.size)).trans (h.mono (C15'.trans (hb16.mono C15'.size)).size))
        have LD := fun W (h : Below wf.heap.size wf W) => HLD.out W ((C15'.trans (hb16.mono C15'.size)).trans (h.mono (C15'.trans (hb16.mono C15'.size)).size))
        have v5 := (q5.below hb16).conv
        have v6 := (q6.below hb16).conv
        have v7 := (q7.below hb16).conv
        have v8 := (q8.below hb16).conv
        have v9 := (q9.below hb16).conv
        have v10 := (q10.below hb16).conv
        have v11 := (q11.below hb16).conv
        have v12 := (q12.below hb16).conv
        have Cf : Below w4.heap.size w4 wf := C15'.trans (hb16.mono C15'.size)
        have sd := HD4.out.below Cf
        have vd := sd.conv rfl
        have su : Sl wf uo UB uc := by obtain ⟨_, _, he, h⟩ := (q9.below hb16).sl; cases he; exact h
        have so' : Sl wf ro2 d rc2 := by obtain ⟨_, _, he, h⟩ := (HFO.out.below Cf).sl; cases he; exact h
        have sg : Pl wf go GP gc := by obtain ⟨_, _, he, h⟩ := (q13.below hb16).pl; cases he; exact h
        have sk : Pl wf ko GP kc := by obtain ⟨_, _, he, h⟩ := (q14.below hb16).pl; cases he; exact h
        have hsm : ∀ W, Below wf.heap.size wf W → Calls Try.prog 28 #[.slice go GP.length gc, .slice ko GP.length kc] W fun e w' => e = .returned (.bool true) ∧ Below W.heap.size W w' := fun W h => samePuts_sl W go ko GP gc kc (sg.below h) (sk.below h)
        have hse : ∀ W, Below wf.heap.size wf W → Calls Try.prog 30 #[.agg #[.slice a0 d.length cap0], .agg #[.slice uo UB.length uc]] W fun e w' => e = .returned (.bool (d == UB)) ∧ Below W.heap.size W w' := fun W h => dsame_sl W a0 uo d UB cap0 uc (sd.below h) (su.below h)
        have hck := fun W => check_any ro2 d.length rc2 W hdm
        have hmn := fun W => rmany_any a0 d.length cap0 W hdm
        clear cx
        obtain ⟨ME, hME⟩ : ∃ ME, ME = dE d.length := ⟨_, rfl⟩
        obtain ⟨MN, hMN⟩ : ∃ MN, MN = manyN d.length := ⟨_, rfl⟩
        rw [← hME] at hck ⊢
        rw [← hMN]
        go_cut [231] from 41 (fun s231 wx => s231 = .bool false ∧ Below wf.heap.size wf wx)
        case first =>
          have e1 : ME = 20 := by rw [hME]; unfold dE; rw [if_neg (by rw [KK.out]; decide)]
          have e2 : MN = 0 := by rw [hMN]; unfold manyN; rw [if_neg (by rw [KK.out]; decide)]
          clear hME hMN KK
          subst e1 e2
          as_aux_lemma =>
            refine wp_region_noPanic ?_
            refine wp_region_held_drew (S := fun W => Below wf.heap.size wf W) (by kernel_rfl) ((Below.refl _ _).drew) (fun _ => ?_)
            refine wpAnyH_take (i := 0) (v := .pointer (some ⟨X5, 0, none⟩)) rfl (by kernel_rfl) (by kernel_rfl) (by kernel_rfl) (fun _ _ _ h => h) (Or.inl ⟨by kernel_rfl, fun W hW => by go_simp⟩) ((Below.refl _ _).drew) ?_
            try simp only [List.getElem_toArray, List.getElem_cons_zero, List.getElem_cons_succ, Act.put, List.setIfInBounds_toArray, List.set_cons_zero, List.set_cons_succ, List.append_eq, List.cons_append, List.nil_append]
            refine wpAnyH_take (i := 1) (v := .slice xo XB.length xc) rfl (by kernel_rfl) (by kernel_rfl) (by kernel_rfl) (fun _ _ _ h => h) (Or.inl ⟨by kernel_rfl, fun W hW => by have h1 := L5 W hW; go_simp⟩) ((Below.refl _ _).drew) ?_
            try simp only [List.getElem_toArray, List.getElem_cons_zero, List.getElem_cons_succ, Act.put, List.setIfInBounds_toArray, List.set_cons_zero, List.set_cons_succ, List.append_eq, List.cons_append, List.nil_append]
            refine wpAnyH_take (i := 2) (v := .string ⟨XB.toArray⟩) rfl (by kernel_rfl) (by kernel_rfl) (by kernel_rfl) (fun _ _ _ h => h) (Or.inl ⟨by kernel_rfl, fun W hW => by have hq := v5 W hW; go_simp⟩) ((Below.refl _ _).drew) ?_
            try simp only [List.getElem_toArray, List.getElem_cons_zero, List.getElem_cons_succ, Act.put, List.setIfInBounds_toArray, List.set_cons_zero, List.set_cons_succ, List.append_eq, List.cons_append, List.nil_append]
            refine wpAnyH_take (i := 3) (v := .pointer (some ⟨X6, 0, none⟩)) rfl (by kernel_rfl) (by kernel_rfl) (by kernel_rfl) (fun _ _ _ h => h) (Or.inl ⟨by kernel_rfl, fun W hW => by go_simp⟩) ((Below.refl _ _).drew) ?_
            try simp only [List.getElem_toArray, List.getElem_cons_zero, List.getElem_cons_succ, Act.put, List.setIfInBounds_toArray, List.set_cons_zero, List.set_cons_succ, List.append_eq, List.cons_append, List.nil_append]
            refine wpAnyH_take (i := 4) (v := .slice yo XB.length yc) rfl (by kernel_rfl) (by kernel_rfl) (by kernel_rfl) (fun _ _ _ h => h) (Or.inl ⟨by kernel_rfl, fun W hW => by have h1 := L6 W hW; go_simp⟩) ((Below.refl _ _).drew) ?_
            try simp only [List.getElem_toArray, List.getElem_cons_zero, List.getElem_cons_succ, Act.put, List.setIfInBounds_toArray, List.set_cons_zero, List.set_cons_succ, List.append_eq, List.cons_append, List.nil_append]
            refine wpAnyH_take (i := 5) (v := .string ⟨XB.toArray⟩) rfl (by kernel_rfl) (by kernel_rfl) (by kernel_rfl) (fun _ _ _ h => h) (Or.inl ⟨by kernel_rfl, fun W hW => by have hq := v6 W hW; go_simp⟩) ((Below.refl _ _).drew) ?_
            try simp only [List.getElem_toArray, List.getElem_cons_zero, List.getElem_cons_succ, Act.put, List.setIfInBounds_toArray, List.set_cons_zero, List.set_cons_succ, List.append_eq, List.cons_append, List.nil_append]
            refine wpAnyH_take (i := 6) (v := .bool false) rfl (by kernel_rfl) (by kernel_rfl) (by kernel_rfl) (fun _ _ _ h => h) (Or.inl ⟨by kernel_rfl, fun W hW => by go_simp⟩) ((Below.refl _ _).drew) ?_
            try simp only [List.getElem_toArray, List.getElem_cons_zero, List.getElem_cons_succ, Act.put, List.setIfInBounds_toArray, List.set_cons_zero, List.set_cons_succ, List.append_eq, List.cons_append, List.nil_append]
            refine wpAnyH_take (i := 7) (v := .bool false) rfl (by kernel_rfl) (by kernel_rfl) (by kernel_rfl) (fun _ _ _ h => h) (Or.inl ⟨by kernel_rfl, fun W hW => by kernel_rfl⟩) ((Below.refl _ _).drew) ?_
            try simp only [List.getElem_toArray, List.getElem_cons_zero, List.getElem_cons_succ, Act.put, List.setIfInBounds_toArray, List.set_cons_zero, List.set_cons_succ, List.append_eq, List.cons_append, List.nil_append]
            refine wpAnyH_take (i := 8) (v := .int .i64 XE) rfl (by kernel_rfl) (by kernel_rfl) (by kernel_rfl) (fun _ _ _ h => h) (Or.inl ⟨by kernel_rfl, fun W hW => by kernel_rfl⟩) ((Below.refl _ _).drew) ?_
            try simp only [List.getElem_toArray, List.getElem_cons_zero, List.getElem_cons_succ, Act.put, List.setIfInBounds_toArray, List.set_cons_zero, List.set_cons_succ, List.append_eq, List.cons_append, List.nil_append]
            refine wpAnyH_take (i := 9) (v := .int .i64 XE) rfl (by kernel_rfl) (by kernel_rfl) (by kernel_rfl) (fun _ _ _ h => h) (Or.inl ⟨by kernel_rfl, fun W hW => by kernel_rfl⟩) ((Below.refl _ _).drew) ?_
            try simp only [List.getElem_toArray, List.getElem_cons_zero, List.getElem_cons_succ, Act.put, List.setIfInBounds_toArray, List.set_cons_zero, List.set_cons_succ, List.append_eq, List.cons_append, List.nil_append]
            refine wpAnyH_take (i := 10) (v := .bool false) rfl (by kernel_rfl) (by kernel_rfl) (by kernel_rfl) (fun _ _ _ h => h) (Or.inl ⟨by kernel_rfl, fun W hW => by go_simp⟩) ((Below.refl _ _).drew) ?_
            try simp only [List.getElem_toArray, List.getElem_cons_zero, List.getElem_cons_succ, Act.put, List.setIfInBounds_toArray, List.set_cons_zero, List.set_cons_succ, List.append_eq, List.cons_append, List.nil_append]
            refine wpAnyH_take (i := 11) (v := .bool false) rfl (by kernel_rfl) (by kernel_rfl) (by kernel_rfl) (fun _ _ _ h => h) (Or.inl ⟨by kernel_rfl, fun W hW => by kernel_rfl⟩) ((Below.refl _ _).drew) ?_
            try simp only [List.getElem_toArray, List.getElem_cons_zero, List.getElem_cons_succ, Act.put, List.setIfInBounds_toArray, List.set_cons_zero, List.set_cons_succ, List.append_eq, List.cons_append, List.nil_append]
            refine wpAnyH_take (i := 12) (v := .bool false) rfl (by kernel_rfl) (by kernel_rfl) (by kernel_rfl) (fun _ _ _ h => h) (Or.inl ⟨by kernel_rfl, fun W hW => by kernel_rfl⟩) ((Below.refl _ _).drew) ?_
            try simp only [List.getElem_toArray, List.getElem_cons_zero, List.getElem_cons_succ, Act.put, List.setIfInBounds_toArray, List.set_cons_zero, List.set_cons_succ, List.append_eq, List.cons_append, List.nil_append]
            refine wpAnyH_take (i := 13) (v := .slice po7 PB.length pc7) rfl (by kernel_rfl) (by kernel_rfl) (by kernel_rfl) (fun _ _ _ h => h) (Or.inl ⟨by kernel_rfl, fun W hW => by kernel_rfl⟩) ((Below.refl _ _).drew) ?_
            try simp only [List.getElem_toArray, List.getElem_cons_zero, List.getElem_cons_succ, Act.put, List.setIfInBounds_toArray, List.set_cons_zero, List.set_cons_succ, List.append_eq, List.cons_append, List.nil_append]
            refine wpAnyH_take (i := 14) (v := .string ⟨PB.toArray⟩) rfl (by kernel_rfl) (by kernel_rfl) (by kernel_rfl) (fun _ _ _ h => h) (Or.inl ⟨by kernel_rfl, fun W hW => by have hq := v7 W hW; go_simp⟩) ((Below.refl _ _).drew) ?_
            try simp only [List.getElem_toArray, List.getElem_cons_zero, List.getElem_cons_succ, Act.put, List.setIfInBounds_toArray, List.set_cons_zero, List.set_cons_succ, List.append_eq, List.cons_append, List.nil_append]
            refine wpAnyH_take (i := 15) (v := .slice qo8 PB.length qc8) rfl (by kernel_rfl) (by kernel_rfl) (by kernel_rfl) (fun _ _ _ h => h) (Or.inl ⟨by kernel_rfl, fun W hW => by kernel_rfl⟩) ((Below.refl _ _).drew) ?_
            try simp only [List.getElem_toArray, List.getElem_cons_zero, List.getElem_cons_succ, Act.put, List.setIfInBounds_toArray, List.set_cons_zero, List.set_cons_succ, List.append_eq, List.cons_append, List.nil_append]
            refine wpAnyH_take (i := 16) (v := .string ⟨PB.toArray⟩) rfl (by kernel_rfl) (by kernel_rfl) (by kernel_rfl) (fun _ _ _ h => h) (Or.inl ⟨by kernel_rfl, fun W hW => by have hq := v8 W hW; go_simp⟩) ((Below.refl _ _).drew) ?_
            try simp only [List.getElem_toArray, List.getElem_cons_zero, List.getElem_cons_succ, Act.put, List.setIfInBounds_toArray, List.set_cons_zero, List.set_cons_succ, List.append_eq, List.cons_append, List.nil_append]
            refine wpAnyH_take (i := 17) (v := .bool false) rfl (by kernel_rfl) (by kernel_rfl) (by kernel_rfl) (fun _ _ _ h => h) (Or.inl ⟨by kernel_rfl, fun W hW => by go_simp⟩) ((Below.refl _ _).drew) ?_
            try simp only [List.getElem_toArray, List.getElem_cons_zero, List.getElem_cons_succ, Act.put, List.setIfInBounds_toArray, List.set_cons_zero, List.set_cons_succ, List.append_eq, List.cons_append, List.nil_append]
            refine wpAnyH_take (i := 18) (v := .bool false) rfl (by kernel_rfl) (by kernel_rfl) (by kernel_rfl) (fun _ _ _ h => h) (Or.inl ⟨by kernel_rfl, fun W hW => by kernel_rfl⟩) ((Below.refl _ _).drew) ?_
            try simp only [List.getElem_toArray, List.getElem_cons_zero, List.getElem_cons_succ, Act.put, List.setIfInBounds_toArray, List.set_cons_zero, List.set_cons_succ, List.append_eq, List.cons_append, List.nil_append]
            refine wpAnyH_take (i := 19) (v := .bool false) rfl (by kernel_rfl) (by kernel_rfl) (by kernel_rfl) (fun _ _ _ h => h) (Or.inl ⟨by kernel_rfl, fun W hW => by kernel_rfl⟩) ((Below.refl _ _).drew) ?_
            try simp only [List.getElem_toArray, List.getElem_cons_zero, List.getElem_cons_succ, Act.put, List.setIfInBounds_toArray, List.set_cons_zero, List.set_cons_succ, List.append_eq, List.cons_append, List.nil_append]
            refine wpAnyH_take (i := 20) (v := .int .i64 PE) rfl (by kernel_rfl) (by kernel_rfl) (by kernel_rfl) (fun _ _ _ h => h) (Or.inl ⟨by kernel_rfl, fun W hW => by kernel_rfl⟩) ((Below.refl _ _).drew) ?_
            try simp only [List.getElem_toArray, List.getElem_cons_zero, List.getElem_cons_succ, Act.put, List.setIfInBounds_toArray, List.set_cons_zero, List.set_cons_succ, List.append_eq, List.cons_append, List.nil_append]
            refine wpAnyH_take (i := 21) (v := .int .i64 PE) rfl (by kernel_rfl) (by kernel_rfl) (by kernel_rfl) (fun _ _ _ h => h) (Or.inl ⟨by kernel_rfl, fun W hW => by kernel_rfl⟩) ((Below.refl _ _).drew) ?_
            try simp only [List.getElem_toArray, List.getElem_cons_zero, List.getElem_cons_succ, Act.put, List.setIfInBounds_toArray, List.set_cons_zero, List.set_cons_succ, List.append_eq, List.cons_append, List.nil_append]
            refine wpAnyH_take (i := 22) (v := .bool false) rfl (by kernel_rfl) (by kernel_rfl) (by kernel_rfl) (fun _ _ _ h => h) (Or.inl ⟨by kernel_rfl, fun W hW => by go_simp⟩) ((Below.refl _ _).drew) ?_
            try simp only [List.getElem_toArray, List.getElem_cons_zero, List.getElem_cons_succ, Act.put, List.setIfInBounds_toArray, List.set_cons_zero, List.set_cons_succ, List.append_eq, List.cons_append, List.nil_append]
            refine wpAnyH_take (i := 23) (v := .bool false) rfl (by kernel_rfl) (by kernel_rfl) (by kernel_rfl) (fun _ _ _ h => h) (Or.inl ⟨by kernel_rfl, fun W hW => by kernel_rfl⟩) ((Below.refl _ _).drew) ?_
            try simp only [List.getElem_toArray, List.getElem_cons_zero, List.getElem_cons_succ, Act.put, List.setIfInBounds_toArray, List.set_cons_zero, List.set_cons_succ, List.append_eq, List.cons_append, List.nil_append]
            refine wpAnyH_take (i := 24) (v := .bool false) rfl (by kernel_rfl) (by kernel_rfl) (by kernel_rfl) (fun _ _ _ h => h) (Or.inl ⟨by kernel_rfl, fun W hW => by kernel_rfl⟩) ((Below.refl _ _).drew) ?_
            try simp only [List.getElem_toArray, List.getElem_cons_zero, List.getElem_cons_succ, Act.put, List.setIfInBounds_toArray, List.set_cons_zero, List.set_cons_succ, List.append_eq, List.cons_append, List.nil_append]
            as_aux_lemma =>
              refine wpAnyH_take (i := 25) (v := .pointer (some ⟨X9, 0, none⟩)) rfl (by kernel_rfl) (by kernel_rfl) (by kernel_rfl) (fun _ _ _ h => h) (Or.inl ⟨by kernel_rfl, fun W hW => by go_simp⟩) ((Below.refl _ _).drew) ?_
              try simp only [List.getElem_toArray, List.getElem_cons_zero, List.getElem_cons_succ, Act.put, List.setIfInBounds_toArray, List.set_cons_zero, List.set_cons_succ, List.append_eq, List.cons_append, List.nil_append]
              refine wpAnyH_take (i := 26) (v := .slice uo UB.length uc) rfl (by kernel_rfl) (by kernel_rfl) (by kernel_rfl) (fun _ _ _ h => h) (Or.inl ⟨by kernel_rfl, fun W hW => by have h1 := L9 W hW; go_simp⟩) ((Below.refl _ _).drew) ?_
              try simp only [List.getElem_toArray, List.getElem_cons_zero, List.getElem_cons_succ, Act.put, List.setIfInBounds_toArray, List.set_cons_zero, List.set_cons_succ, List.append_eq, List.cons_append, List.nil_append]
              refine wpAnyH_take (i := 27) (v := .string ⟨UB.toArray⟩) rfl (by kernel_rfl) (by kernel_rfl) (by kernel_rfl) (fun _ _ _ h => h) (Or.inl ⟨by kernel_rfl, fun W hW => by have hq := v9 W hW; go_simp⟩) ((Below.refl _ _).drew) ?_
              try simp only [List.getElem_toArray, List.getElem_cons_zero, List.getElem_cons_succ, Act.put, List.setIfInBounds_toArray, List.set_cons_zero, List.set_cons_succ, List.append_eq, List.cons_append, List.nil_append]
              refine wpAnyH_take (i := 28) (v := .pointer (some ⟨X10, 0, none⟩)) rfl (by kernel_rfl) (by kernel_rfl) (by kernel_rfl) (fun _ _ _ h => h) (Or.inl ⟨by kernel_rfl, fun W hW => by go_simp⟩) ((Below.refl _ _).drew) ?_
              try simp only [List.getElem_toArray, List.getElem_cons_zero, List.getElem_cons_succ, Act.put, List.setIfInBounds_toArray, List.set_cons_zero, List.set_cons_succ, List.append_eq, List.cons_append, List.nil_append]
              refine wpAnyH_take (i := 29) (v := .slice vo UB.length vc) rfl (by kernel_rfl) (by kernel_rfl) (by kernel_rfl) (fun _ _ _ h => h) (Or.inl ⟨by kernel_rfl, fun W hW => by have h1 := L10 W hW; go_simp⟩) ((Below.refl _ _).drew) ?_
              try simp only [List.getElem_toArray, List.getElem_cons_zero, List.getElem_cons_succ, Act.put, List.setIfInBounds_toArray, List.set_cons_zero, List.set_cons_succ, List.append_eq, List.cons_append, List.nil_append]
              refine wpAnyH_take (i := 30) (v := .string ⟨UB.toArray⟩) rfl (by kernel_rfl) (by kernel_rfl) (by kernel_rfl) (fun _ _ _ h => h) (Or.inl ⟨by kernel_rfl, fun W hW => by have hq := v10 W hW; go_simp⟩) ((Below.refl _ _).drew) ?_
              try simp only [List.getElem_toArray, List.getElem_cons_zero, List.getElem_cons_succ, Act.put, List.setIfInBounds_toArray, List.set_cons_zero, List.set_cons_succ, List.append_eq, List.cons_append, List.nil_append]
              refine wpAnyH_take (i := 31) (v := .bool false) rfl (by kernel_rfl) (by kernel_rfl) (by kernel_rfl) (fun _ _ _ h => h) (Or.inl ⟨by kernel_rfl, fun W hW => by go_simp⟩) ((Below.refl _ _).drew) ?_
              try simp only [List.getElem_toArray, List.getElem_cons_zero, List.getElem_cons_succ, Act.put, List.setIfInBounds_toArray, List.set_cons_zero, List.set_cons_succ, List.append_eq, List.cons_append, List.nil_append]
              refine wpAnyH_take (i := 32) (v := .bool false) rfl (by kernel_rfl) (by kernel_rfl) (by kernel_rfl) (fun _ _ _ h => h) (Or.inl ⟨by kernel_rfl, fun W hW => by kernel_rfl⟩) ((Below.refl _ _).drew) ?_
              try simp only [List.getElem_toArray, List.getElem_cons_zero, List.getElem_cons_succ, Act.put, List.setIfInBounds_toArray, List.set_cons_zero, List.set_cons_succ, List.append_eq, List.cons_append, List.nil_append]
              refine wpAnyH_take (i := 33) (v := .bool false) rfl (by kernel_rfl) (by kernel_rfl) (by kernel_rfl) (fun _ _ _ h => h) (Or.inl ⟨by kernel_rfl, fun W hW => by kernel_rfl⟩) ((Below.refl _ _).drew) ?_
              try simp only [List.getElem_toArray, List.getElem_cons_zero, List.getElem_cons_succ, Act.put, List.setIfInBounds_toArray, List.set_cons_zero, List.set_cons_succ, List.append_eq, List.cons_append, List.nil_append]
              refine wpAnyH_take (i := 34) (v := .int .i64 UE) rfl (by kernel_rfl) (by kernel_rfl) (by kernel_rfl) (fun _ _ _ h => h) (Or.inl ⟨by kernel_rfl, fun W hW => by kernel_rfl⟩) ((Below.refl _ _).drew) ?_
              try simp only [List.getElem_toArray, List.getElem_cons_zero, List.getElem_cons_succ, Act.put, List.setIfInBounds_toArray, List.set_cons_zero, List.set_cons_succ, List.append_eq, List.cons_append, List.nil_append]
              refine wpAnyH_take (i := 35) (v := .int .i64 UE) rfl (by kernel_rfl) (by kernel_rfl) (by kernel_rfl) (fun _ _ _ h => h) (Or.inl ⟨by kernel_rfl, fun W hW => by kernel_rfl⟩) ((Below.refl _ _).drew) ?_
              try simp only [List.getElem_toArray, List.getElem_cons_zero, List.getElem_cons_succ, Act.put, List.setIfInBounds_toArray, List.set_cons_zero, List.set_cons_succ, List.append_eq, List.cons_append, List.nil_append]
              refine wpAnyH_take (i := 36) (v := .bool false) rfl (by kernel_rfl) (by kernel_rfl) (by kernel_rfl) (fun _ _ _ h => h) (Or.inl ⟨by kernel_rfl, fun W hW => by go_simp⟩) ((Below.refl _ _).drew) ?_
              try simp only [List.getElem_toArray, List.getElem_cons_zero, List.getElem_cons_succ, Act.put, List.setIfInBounds_toArray, List.set_cons_zero, List.set_cons_succ, List.append_eq, List.cons_append, List.nil_append]
              refine wpAnyH_take (i := 37) (v := .bool false) rfl (by kernel_rfl) (by kernel_rfl) (by kernel_rfl) (fun _ _ _ h => h) (Or.inl ⟨by kernel_rfl, fun W hW => by kernel_rfl⟩) ((Below.refl _ _).drew) ?_
              try simp only [List.getElem_toArray, List.getElem_cons_zero, List.getElem_cons_succ, Act.put, List.setIfInBounds_toArray, List.set_cons_zero, List.set_cons_succ, List.append_eq, List.cons_append, List.nil_append]
              refine wpAnyH_take (i := 38) (v := .bool false) rfl (by kernel_rfl) (by kernel_rfl) (by kernel_rfl) (fun _ _ _ h => h) (Or.inl ⟨by kernel_rfl, fun W hW => by kernel_rfl⟩) ((Below.refl _ _).drew) ?_
              try simp only [List.getElem_toArray, List.getElem_cons_zero, List.getElem_cons_succ, Act.put, List.setIfInBounds_toArray, List.set_cons_zero, List.set_cons_succ, List.append_eq, List.cons_append, List.nil_append]
              refine wpAnyH_take (i := 39) (v := .pointer (some ⟨X11, 0, none⟩)) rfl (by kernel_rfl) (by kernel_rfl) (by kernel_rfl) (fun _ _ _ h => h) (Or.inl ⟨by kernel_rfl, fun W hW => by go_simp⟩) ((Below.refl _ _).drew) ?_
              try simp only [List.getElem_toArray, List.getElem_cons_zero, List.getElem_cons_succ, Act.put, List.setIfInBounds_toArray, List.set_cons_zero, List.set_cons_succ, List.append_eq, List.cons_append, List.nil_append]
              refine wpAnyH_take (i := 40) (v := .slice ro RB.length rc) rfl (by kernel_rfl) (by kernel_rfl) (by kernel_rfl) (fun _ _ _ h => h) (Or.inl ⟨by kernel_rfl, fun W hW => by have h1 := L11 W hW; go_simp⟩) ((Below.refl _ _).drew) ?_
              try simp only [List.getElem_toArray, List.getElem_cons_zero, List.getElem_cons_succ, Act.put, List.setIfInBounds_toArray, List.set_cons_zero, List.set_cons_succ, List.append_eq, List.cons_append, List.nil_append]
              refine wpAnyH_take (i := 41) (v := .string ⟨RB.toArray⟩) rfl (by kernel_rfl) (by kernel_rfl) (by kernel_rfl) (fun _ _ _ h => h) (Or.inl ⟨by kernel_rfl, fun W hW => by have hq := v11 W hW; go_simp⟩) ((Below.refl _ _).drew) ?_
              try simp only [List.getElem_toArray, List.getElem_cons_zero, List.getElem_cons_succ, Act.put, List.setIfInBounds_toArray, List.set_cons_zero, List.set_cons_succ, List.append_eq, List.cons_append, List.nil_append]
              refine wpAnyH_take (i := 42) (v := .pointer (some ⟨X12, 0, none⟩)) rfl (by kernel_rfl) (by kernel_rfl) (by kernel_rfl) (fun _ _ _ h => h) (Or.inl ⟨by kernel_rfl, fun W hW => by go_simp⟩) ((Below.refl _ _).drew) ?_
              try simp only [List.getElem_toArray, List.getElem_cons_zero, List.getElem_cons_succ, Act.put, List.setIfInBounds_toArray, List.set_cons_zero, List.set_cons_succ, List.append_eq, List.cons_append, List.nil_append]
              refine wpAnyH_take (i := 43) (v := .slice so RB.length sc) rfl (by kernel_rfl) (by kernel_rfl) (by kernel_rfl) (fun _ _ _ h => h) (Or.inl ⟨by kernel_rfl, fun W hW => by have h1 := L12 W hW; go_simp⟩) ((Below.refl _ _).drew) ?_
              try simp only [List.getElem_toArray, List.getElem_cons_zero, List.getElem_cons_succ, Act.put, List.setIfInBounds_toArray, List.set_cons_zero, List.set_cons_succ, List.append_eq, List.cons_append, List.nil_append]
              refine wpAnyH_take (i := 44) (v := .string ⟨RB.toArray⟩) rfl (by kernel_rfl) (by kernel_rfl) (by kernel_rfl) (fun _ _ _ h => h) (Or.inl ⟨by kernel_rfl, fun W hW => by have hq := v12 W hW; go_simp⟩) ((Below.refl _ _).drew) ?_
              try simp only [List.getElem_toArray, List.getElem_cons_zero, List.getElem_cons_succ, Act.put, List.setIfInBounds_toArray, List.set_cons_zero, List.set_cons_succ, List.append_eq, List.cons_append, List.nil_append]
              refine wpAnyH_take (i := 45) (v := .bool false) rfl (by kernel_rfl) (by kernel_rfl) (by kernel_rfl) (fun _ _ _ h => h) (Or.inl ⟨by kernel_rfl, fun W hW => by go_simp⟩) ((Below.refl _ _).drew) ?_
              try simp only [List.getElem_toArray, List.getElem_cons_zero, List.getElem_cons_succ, Act.put, List.setIfInBounds_toArray, List.set_cons_zero, List.set_cons_succ, List.append_eq, List.cons_append, List.nil_append]
              refine wpAnyH_take (i := 46) (v := .bool false) rfl (by kernel_rfl) (by kernel_rfl) (by kernel_rfl) (fun _ _ _ h => h) (Or.inl ⟨by kernel_rfl, fun W hW => by kernel_rfl⟩) ((Below.refl _ _).drew) ?_
              try simp only [List.getElem_toArray, List.getElem_cons_zero, List.getElem_cons_succ, Act.put, List.setIfInBounds_toArray, List.set_cons_zero, List.set_cons_succ, List.append_eq, List.cons_append, List.nil_append]
              refine wpAnyH_take (i := 47) (v := .bool false) rfl (by kernel_rfl) (by kernel_rfl) (by kernel_rfl) (fun _ _ _ h => h) (Or.inl ⟨by kernel_rfl, fun W hW => by kernel_rfl⟩) ((Below.refl _ _).drew) ?_
              try simp only [List.getElem_toArray, List.getElem_cons_zero, List.getElem_cons_succ, Act.put, List.setIfInBounds_toArray, List.set_cons_zero, List.set_cons_succ, List.append_eq, List.cons_append, List.nil_append]
              refine wpAnyH_take (i := 48) (v := .int .i64 RE) rfl (by kernel_rfl) (by kernel_rfl) (by kernel_rfl) (fun _ _ _ h => h) (Or.inl ⟨by kernel_rfl, fun W hW => by kernel_rfl⟩) ((Below.refl _ _).drew) ?_
              try simp only [List.getElem_toArray, List.getElem_cons_zero, List.getElem_cons_succ, Act.put, List.setIfInBounds_toArray, List.set_cons_zero, List.set_cons_succ, List.append_eq, List.cons_append, List.nil_append]
              refine wpAnyH_take (i := 49) (v := .int .i64 RE) rfl (by kernel_rfl) (by kernel_rfl) (by kernel_rfl) (fun _ _ _ h => h) (Or.inl ⟨by kernel_rfl, fun W hW => by kernel_rfl⟩) ((Below.refl _ _).drew) ?_
              try simp only [List.getElem_toArray, List.getElem_cons_zero, List.getElem_cons_succ, Act.put, List.setIfInBounds_toArray, List.set_cons_zero, List.set_cons_succ, List.append_eq, List.cons_append, List.nil_append]
              refine wpAnyH_take (i := 50) (v := .bool false) rfl (by kernel_rfl) (by kernel_rfl) (by kernel_rfl) (fun _ _ _ h => h) (Or.inl ⟨by kernel_rfl, fun W hW => by go_simp⟩) ((Below.refl _ _).drew) ?_
              try simp only [List.getElem_toArray, List.getElem_cons_zero, List.getElem_cons_succ, Act.put, List.setIfInBounds_toArray, List.set_cons_zero, List.set_cons_succ, List.append_eq, List.cons_append, List.nil_append]
              refine wpAnyH_take (i := 51) (v := .bool false) rfl (by kernel_rfl) (by kernel_rfl) (by kernel_rfl) (fun _ _ _ h => h) (Or.inl ⟨by kernel_rfl, fun W hW => by kernel_rfl⟩) ((Below.refl _ _).drew) ?_
              try simp only [List.getElem_toArray, List.getElem_cons_zero, List.getElem_cons_succ, Act.put, List.setIfInBounds_toArray, List.set_cons_zero, List.set_cons_succ, List.append_eq, List.cons_append, List.nil_append]
              refine wpAnyH_take (i := 52) (v := .bool false) rfl (by kernel_rfl) (by kernel_rfl) (by kernel_rfl) (fun _ _ _ h => h) (Or.inl ⟨by kernel_rfl, fun W hW => by kernel_rfl⟩) ((Below.refl _ _).drew) ?_
              try simp only [List.getElem_toArray, List.getElem_cons_zero, List.getElem_cons_succ, Act.put, List.setIfInBounds_toArray, List.set_cons_zero, List.set_cons_succ, List.append_eq, List.cons_append, List.nil_append]
              as_aux_lemma =>
                refine wpAnyH_take (i := 53) (v := .slice go GP.length gc) rfl (by kernel_rfl) (by kernel_rfl) (by kernel_rfl) (fun _ _ _ h => h) (Or.inl ⟨by kernel_rfl, fun W hW => by kernel_rfl⟩) ((Below.refl _ _).drew) ?_
                try simp only [List.getElem_toArray, List.getElem_cons_zero, List.getElem_cons_succ, Act.put, List.setIfInBounds_toArray, List.set_cons_zero, List.set_cons_succ, List.append_eq, List.cons_append, List.nil_append]
                refine wpAnyH_take (i := 54) (v := .slice ko GP.length kc) rfl (by kernel_rfl) (by kernel_rfl) (by kernel_rfl) (fun _ _ _ h => h) (Or.inl ⟨by kernel_rfl, fun W hW => by kernel_rfl⟩) ((Below.refl _ _).drew) ?_
                try simp only [List.getElem_toArray, List.getElem_cons_zero, List.getElem_cons_succ, Act.put, List.setIfInBounds_toArray, List.set_cons_zero, List.set_cons_succ, List.append_eq, List.cons_append, List.nil_append]
                refine wpAnyH_ready (rs := [55]) (by kernel_rfl) (by simp) ?_
                refine AllReadyH.cons rfl (fun K hK => ?_) AllReadyH.nil
                simp only [List.getElem_toArray, List.getElem_cons_zero, List.getElem_cons_succ]
                go_simp
                refine (hsm _ ((Below.refl _ _).drew)).mono ?_; rintro e wA ⟨rfl, hbwA⟩; have kwA : Below wf.heap.size wf wA := ((Below.refl _ _).drew).trans hbwA
                refine hK.out _ _ kwA (fun _ => ?_)
                clear hK K
                try simp only [List.getElem_toArray, List.getElem_cons_zero, List.getElem_cons_succ, Act.put, List.setIfInBounds_toArray, List.set_cons_zero, List.set_cons_succ, List.append_eq, List.cons_append, List.nil_append]
                refine anyH_mono (S' := fun W => Below wA.heap.size wA W) (fun W hW => kwA.trans (hW.mono kwA.size)) _ _ _ _ ?_
                refine wpAnyH_take (i := 56) (v := .bool false) rfl (by kernel_rfl) (by kernel_rfl) (by kernel_rfl) (fun _ _ _ h => h) (Or.inl ⟨by kernel_rfl, fun W hW => by go_simp⟩) (Below.refl _ _) ?_
                try simp only [List.getElem_toArray, List.getElem_cons_zero, List.getElem_cons_succ, Act.put, List.setIfInBounds_toArray, List.set_cons_zero, List.set_cons_succ, List.append_eq, List.cons_append, List.nil_append]
                refine wpAnyH_take (i := 57) (v := .bool false) rfl (by kernel_rfl) (by kernel_rfl) (by kernel_rfl) (fun _ _ _ h => h) (Or.inl ⟨by kernel_rfl, fun W hW => by kernel_rfl⟩) (Below.refl _ _) ?_
                try simp only [List.getElem_toArray, List.getElem_cons_zero, List.getElem_cons_succ, Act.put, List.setIfInBounds_toArray, List.set_cons_zero, List.set_cons_succ, List.append_eq, List.cons_append, List.nil_append]
                refine wpAnyH_take (i := 58) (v := .bool false) rfl (by kernel_rfl) (by kernel_rfl) (by kernel_rfl) (fun _ _ _ h => h) (Or.inl ⟨by kernel_rfl, fun W hW => by kernel_rfl⟩) (Below.refl _ _) ?_
                try simp only [List.getElem_toArray, List.getElem_cons_zero, List.getElem_cons_succ, Act.put, List.setIfInBounds_toArray, List.set_cons_zero, List.set_cons_succ, List.append_eq, List.cons_append, List.nil_append]
                refine wpAnyH_take (i := 59) (v := .int .i64 GE) rfl (by kernel_rfl) (by kernel_rfl) (by kernel_rfl) (fun _ _ _ h => h) (Or.inl ⟨by kernel_rfl, fun W hW => by kernel_rfl⟩) (Below.refl _ _) ?_
                try simp only [List.getElem_toArray, List.getElem_cons_zero, List.getElem_cons_succ, Act.put, List.setIfInBounds_toArray, List.set_cons_zero, List.set_cons_succ, List.append_eq, List.cons_append, List.nil_append]
                refine wpAnyH_take (i := 60) (v := .int .i64 GE) rfl (by kernel_rfl) (by kernel_rfl) (by kernel_rfl) (fun _ _ _ h => h) (Or.inl ⟨by kernel_rfl, fun W hW => by kernel_rfl⟩) (Below.refl _ _) ?_
                try simp only [List.getElem_toArray, List.getElem_cons_zero, List.getElem_cons_succ, Act.put, List.setIfInBounds_toArray, List.set_cons_zero, List.set_cons_succ, List.append_eq, List.cons_append, List.nil_append]
                refine wpAnyH_take (i := 61) (v := .bool false) rfl (by kernel_rfl) (by kernel_rfl) (by kernel_rfl) (fun _ _ _ h => h) (Or.inl ⟨by kernel_rfl, fun W hW => by go_simp⟩) (Below.refl _ _) ?_
                try simp only [List.getElem_toArray, List.getElem_cons_zero, List.getElem_cons_succ, Act.put, List.setIfInBounds_toArray, List.set_cons_zero, List.set_cons_succ, List.append_eq, List.cons_append, List.nil_append]
                refine wpAnyH_take (i := 62) (v := .bool false) rfl (by kernel_rfl) (by kernel_rfl) (by kernel_rfl) (fun _ _ _ h => h) (Or.inl ⟨by kernel_rfl, fun W hW => by kernel_rfl⟩) (Below.refl _ _) ?_
                try simp only [List.getElem_toArray, List.getElem_cons_zero, List.getElem_cons_succ, Act.put, List.setIfInBounds_toArray, List.set_cons_zero, List.set_cons_succ, List.append_eq, List.cons_append, List.nil_append]
                refine wpAnyH_take (i := 63) (v := .bool false) rfl (by kernel_rfl) (by kernel_rfl) (by kernel_rfl) (fun _ _ _ h => h) (Or.inl ⟨by kernel_rfl, fun W hW => by kernel_rfl⟩) (Below.refl _ _) ?_
                try simp only [List.getElem_toArray, List.getElem_cons_zero, List.getElem_cons_succ, Act.put, List.setIfInBounds_toArray, List.set_cons_zero, List.set_cons_succ, List.append_eq, List.cons_append, List.nil_append]
                refine wpAnyH_take (i := 64) (v := .int .i64 20) rfl (by kernel_rfl) (by kernel_rfl) (by kernel_rfl) (fun _ _ _ h => h) (Or.inl ⟨by kernel_rfl, fun W hW => by kernel_rfl⟩) (Below.refl _ _) ?_
                try simp only [List.getElem_toArray, List.getElem_cons_zero, List.getElem_cons_succ, Act.put, List.setIfInBounds_toArray, List.set_cons_zero, List.set_cons_succ, List.append_eq, List.cons_append, List.nil_append]
                refine wpAnyH_take (i := 65) (v := .int .i64 20) rfl (by kernel_rfl) (by kernel_rfl) (by kernel_rfl) (fun _ _ _ h => h) (Or.inl ⟨by kernel_rfl, fun W hW => by kernel_rfl⟩) (Below.refl _ _) ?_
                try simp only [List.getElem_toArray, List.getElem_cons_zero, List.getElem_cons_succ, Act.put, List.setIfInBounds_toArray, List.set_cons_zero, List.set_cons_succ, List.append_eq, List.cons_append, List.nil_append]
                refine wpAnyH_take (i := 66) (v := .bool false) rfl (by kernel_rfl) (by kernel_rfl) (by kernel_rfl) (fun _ _ _ h => h) (Or.inl ⟨by kernel_rfl, fun W hW => by go_simp⟩) (Below.refl _ _) ?_
                try simp only [List.getElem_toArray, List.getElem_cons_zero, List.getElem_cons_succ, Act.put, List.setIfInBounds_toArray, List.set_cons_zero, List.set_cons_succ, List.append_eq, List.cons_append, List.nil_append]
                refine wpAnyH_take (i := 67) (v := .bool false) rfl (by kernel_rfl) (by kernel_rfl) (by kernel_rfl) (fun _ _ _ h => h) (Or.inl ⟨by kernel_rfl, fun W hW => by kernel_rfl⟩) (Below.refl _ _) ?_
                try simp only [List.getElem_toArray, List.getElem_cons_zero, List.getElem_cons_succ, Act.put, List.setIfInBounds_toArray, List.set_cons_zero, List.set_cons_succ, List.append_eq, List.cons_append, List.nil_append]
                refine wpAnyH_take (i := 68) (v := .bool false) rfl (by kernel_rfl) (by kernel_rfl) (by kernel_rfl) (fun _ _ _ h => h) (Or.inl ⟨by kernel_rfl, fun W hW => by kernel_rfl⟩) (Below.refl _ _) ?_
                try simp only [List.getElem_toArray, List.getElem_cons_zero, List.getElem_cons_succ, Act.put, List.setIfInBounds_toArray, List.set_cons_zero, List.set_cons_succ, List.append_eq, List.cons_append, List.nil_append]
                as_aux_lemma =>
                  refine wpAnyH_take (i := 69) (v := .agg #[.slice ro2 d.length rc2]) rfl (by kernel_rfl) (by kernel_rfl) (by kernel_rfl) (fun _ _ _ h => h) (Or.inl ⟨by kernel_rfl, fun W hW => by have h1 := LO W (kwA.trans (hW.mono kwA.size)); go_simp⟩) (Below.refl _ _) ?_
                  try simp only [List.getElem_toArray, List.getElem_cons_zero, List.getElem_cons_succ, Act.put, List.setIfInBounds_toArray, List.set_cons_zero, List.set_cons_succ, List.append_eq, List.cons_append, List.nil_append]
                  refine wpAnyH_take (i := 71) (v := .int .i64 20) rfl (by kernel_rfl) (by kernel_rfl) (by kernel_rfl) (fun _ _ _ h => h) (Or.inl ⟨by kernel_rfl, fun W hW => by kernel_rfl⟩) (Below.refl _ _) ?_
                  try simp only [List.getElem_toArray, List.getElem_cons_zero, List.getElem_cons_succ, Act.put, List.setIfInBounds_toArray, List.set_cons_zero, List.set_cons_succ, List.append_eq, List.cons_append, List.nil_append]
                  refine wpAnyH_ready (rs := [70]) (by kernel_rfl) (by simp) ?_
                  refine AllReadyH.cons rfl (fun K hK => ?_) AllReadyH.nil
                  simp only [List.getElem_toArray, List.getElem_cons_zero, List.getElem_cons_succ]
                  go_simp
                  refine (hck _).mono ?_; rintro e wB ⟨rfl, hbwB⟩; have kwB : Below wf.heap.size wf wB := kwA.trans (hbwB.mono kwA.size)
                  refine hK.out _ _ hbwB (fun _ => ?_)
                  clear hK K
                  try simp only [List.getElem_toArray, List.getElem_cons_zero, List.getElem_cons_succ, Act.put, List.setIfInBounds_toArray, List.set_cons_zero, List.set_cons_succ, List.append_eq, List.cons_append, List.nil_append]
                  refine anyH_mono (S' := fun W => Below wB.heap.size wB W) (fun W hW => hbwB.trans (hW.mono hbwB.size)) _ _ _ _ ?_
                  refine wpAnyH_take (i := 72) (v := .bool false) rfl (by kernel_rfl) (by kernel_rfl) (by kernel_rfl) (fun _ _ _ h => h) (Or.inl ⟨by kernel_rfl, fun W hW => by go_simp⟩) (Below.refl _ _) ?_
                  try simp only [List.getElem_toArray, List.getElem_cons_zero, List.getElem_cons_succ, Act.put, List.setIfInBounds_toArray, List.set_cons_zero, List.set_cons_succ, List.append_eq, List.cons_append, List.nil_append]
                  refine wpAnyH_take (i := 73) (v := .bool false) rfl (by kernel_rfl) (by kernel_rfl) (by kernel_rfl) (fun _ _ _ h => h) (Or.inl ⟨by kernel_rfl, fun W hW => by kernel_rfl⟩) (Below.refl _ _) ?_
                  try simp only [List.getElem_toArray, List.getElem_cons_zero, List.getElem_cons_succ, Act.put, List.setIfInBounds_toArray, List.set_cons_zero, List.set_cons_succ, List.append_eq, List.cons_append, List.nil_append]
                  refine wpAnyH_take (i := 74) (v := .bool false) rfl (by kernel_rfl) (by kernel_rfl) (by kernel_rfl) (fun _ _ _ h => h) (Or.inl ⟨by kernel_rfl, fun W hW => by kernel_rfl⟩) (Below.refl _ _) ?_
                  try simp only [List.getElem_toArray, List.getElem_cons_zero, List.getElem_cons_succ, Act.put, List.setIfInBounds_toArray, List.set_cons_zero, List.set_cons_succ, List.append_eq, List.cons_append, List.nil_append]
                  refine wpAnyH_take (i := 75) (v := .int .i64 20) rfl (by kernel_rfl) (by kernel_rfl) (by kernel_rfl) (fun _ _ _ h => h) (Or.inl ⟨by kernel_rfl, fun W hW => by kernel_rfl⟩) (Below.refl _ _) ?_
                  try simp only [List.getElem_toArray, List.getElem_cons_zero, List.getElem_cons_succ, Act.put, List.setIfInBounds_toArray, List.set_cons_zero, List.set_cons_succ, List.append_eq, List.cons_append, List.nil_append]
                  refine wpAnyH_take (i := 76) (v := .bool false) rfl (by kernel_rfl) (by kernel_rfl) (by kernel_rfl) (fun _ _ _ h => h) (Or.inl ⟨by kernel_rfl, fun W hW => by go_simp⟩) (Below.refl _ _) ?_
                  try simp only [List.getElem_toArray, List.getElem_cons_zero, List.getElem_cons_succ, Act.put, List.setIfInBounds_toArray, List.set_cons_zero, List.set_cons_succ, List.append_eq, List.cons_append, List.nil_append]
                  refine wpAnyH_take (i := 77) (v := .bool false) rfl (by kernel_rfl) (by kernel_rfl) (by kernel_rfl) (fun _ _ _ h => h) (Or.inl ⟨by kernel_rfl, fun W hW => by kernel_rfl⟩) (Below.refl _ _) ?_
                  try simp only [List.getElem_toArray, List.getElem_cons_zero, List.getElem_cons_succ, Act.put, List.setIfInBounds_toArray, List.set_cons_zero, List.set_cons_succ, List.append_eq, List.cons_append, List.nil_append]
                  refine wpAnyH_take (i := 78) (v := undef) rfl (by kernel_rfl) (by kernel_rfl) (by kernel_rfl) (fun _ _ _ h => h) (Or.inr ⟨by kernel_rfl, rfl⟩) (Below.refl _ _) ?_
                  try simp only [List.getElem_toArray, List.getElem_cons_zero, List.getElem_cons_succ, Act.put, List.setIfInBounds_toArray, List.set_cons_zero, List.set_cons_succ, List.append_eq, List.cons_append, List.nil_append]
                  refine wpAnyH_take (i := 79) (v := undef) rfl (by kernel_rfl) (by kernel_rfl) (by kernel_rfl) (fun _ _ _ h => h) (Or.inr ⟨by kernel_rfl, rfl⟩) (Below.refl _ _) ?_
                  try simp only [List.getElem_toArray, List.getElem_cons_zero, List.getElem_cons_succ, Act.put, List.setIfInBounds_toArray, List.set_cons_zero, List.set_cons_succ, List.append_eq, List.cons_append, List.nil_append]
                  refine wpAnyH_take (i := 80) (v := undef) rfl (by kernel_rfl) (by kernel_rfl) (by kernel_rfl) (fun _ _ _ h => h) (Or.inr ⟨by kernel_rfl, rfl⟩) (Below.refl _ _) ?_
                  try simp only [List.getElem_toArray, List.getElem_cons_zero, List.getElem_cons_succ, Act.put, List.setIfInBounds_toArray, List.set_cons_zero, List.set_cons_succ, List.append_eq, List.cons_append, List.nil_append]
                  refine wpAnyH_take (i := 81) (v := undef) rfl (by kernel_rfl) (by kernel_rfl) (by kernel_rfl) (fun _ _ _ h => h) (Or.inr ⟨by kernel_rfl, rfl⟩) (Below.refl _ _) ?_
                  try simp only [List.getElem_toArray, List.getElem_cons_zero, List.getElem_cons_succ, Act.put, List.setIfInBounds_toArray, List.set_cons_zero, List.set_cons_succ, List.append_eq, List.cons_append, List.nil_append]
                  refine wpAnyH_take (i := 82) (v := .bool false) rfl (by kernel_rfl) (by kernel_rfl) (by kernel_rfl) (fun _ _ _ h => h) (Or.inl ⟨by kernel_rfl, fun W hW => by kernel_rfl⟩) (Below.refl _ _) ?_
                  try simp only [List.getElem_toArray, List.getElem_cons_zero, List.getElem_cons_succ, Act.put, List.setIfInBounds_toArray, List.set_cons_zero, List.set_cons_succ, List.append_eq, List.cons_append, List.nil_append]
                  as_aux_lemma =>
                    refine wpAnyH_take (i := 83) (v := .bool false) rfl (by kernel_rfl) (by kernel_rfl) (by kernel_rfl) (fun _ _ _ h => h) (Or.inl ⟨by kernel_rfl, fun W hW => by kernel_rfl⟩) (Below.refl _ _) ?_
                    try simp only [List.getElem_toArray, List.getElem_cons_zero, List.getElem_cons_succ, Act.put, List.setIfInBounds_toArray, List.set_cons_zero, List.set_cons_succ, List.append_eq, List.cons_append, List.nil_append]
                    refine wpAnyH_take (i := 84) (v := .bool false) rfl (by kernel_rfl) (by kernel_rfl) (by kernel_rfl) (fun _ _ _ h => h) (Or.inl ⟨by kernel_rfl, fun W hW => by kernel_rfl⟩) (Below.refl _ _) ?_
                    try simp only [List.getElem_toArray, List.getElem_cons_zero, List.getElem_cons_succ, Act.put, List.setIfInBounds_toArray, List.set_cons_zero, List.set_cons_succ, List.append_eq, List.cons_append, List.nil_append]
                    refine wpAnyH_take (i := 85) (v := .int .i64 20) rfl (by kernel_rfl) (by kernel_rfl) (by kernel_rfl) (fun _ _ _ h => h) (Or.inl ⟨by kernel_rfl, fun W hW => by kernel_rfl⟩) (Below.refl _ _) ?_
                    try simp only [List.getElem_toArray, List.getElem_cons_zero, List.getElem_cons_succ, Act.put, List.setIfInBounds_toArray, List.set_cons_zero, List.set_cons_succ, List.append_eq, List.cons_append, List.nil_append]
                    refine wpAnyH_take (i := 86) (v := .bool true) rfl (by kernel_rfl) (by kernel_rfl) (by kernel_rfl) (fun _ _ _ h => h) (Or.inl ⟨by kernel_rfl, fun W hW => by go_simp⟩) (Below.refl _ _) ?_
                    try simp only [List.getElem_toArray, List.getElem_cons_zero, List.getElem_cons_succ, Act.put, List.setIfInBounds_toArray, List.set_cons_zero, List.set_cons_succ, List.append_eq, List.cons_append, List.nil_append]
                    refine wpAnyH_take (i := 87) (v := .bool true) rfl (by kernel_rfl) (by kernel_rfl) (by kernel_rfl) (fun _ _ _ h => h) (Or.inl ⟨by kernel_rfl, fun W hW => by kernel_rfl⟩) (Below.refl _ _) ?_
                    try simp only [List.getElem_toArray, List.getElem_cons_zero, List.getElem_cons_succ, Act.put, List.setIfInBounds_toArray, List.set_cons_zero, List.set_cons_succ, List.append_eq, List.cons_append, List.nil_append]
                    refine wpAnyH_take (i := 88) (v := .int .i64 0) rfl (by kernel_rfl) (by kernel_rfl) (by kernel_rfl) (fun _ _ _ h => h) (Or.inl ⟨by kernel_rfl, fun W hW => by kernel_rfl⟩) (Below.refl _ _) ?_
                    try simp only [List.getElem_toArray, List.getElem_cons_zero, List.getElem_cons_succ, Act.put, List.setIfInBounds_toArray, List.set_cons_zero, List.set_cons_succ, List.append_eq, List.cons_append, List.nil_append]
                    refine wpAnyH_take (i := 89) (v := .bool false) rfl (by kernel_rfl) (by kernel_rfl) (by kernel_rfl) (fun _ _ _ h => h) (Or.inl ⟨by kernel_rfl, fun W hW => by go_simp⟩) (Below.refl _ _) ?_
                    try simp only [List.getElem_toArray, List.getElem_cons_zero, List.getElem_cons_succ, Act.put, List.setIfInBounds_toArray, List.set_cons_zero, List.set_cons_succ, List.append_eq, List.cons_append, List.nil_append]
                    refine wpAnyH_take (i := 90) (v := .bool false) rfl (by kernel_rfl) (by kernel_rfl) (by kernel_rfl) (fun _ _ _ h => h) (Or.inl ⟨by kernel_rfl, fun W hW => by kernel_rfl⟩) (Below.refl _ _) ?_
                    try simp only [List.getElem_toArray, List.getElem_cons_zero, List.getElem_cons_succ, Act.put, List.setIfInBounds_toArray, List.set_cons_zero, List.set_cons_succ, List.append_eq, List.cons_append, List.nil_append]
                    refine wpAnyH_take (i := 91) (v := .bool false) rfl (by kernel_rfl) (by kernel_rfl) (by kernel_rfl) (fun _ _ _ h => h) (Or.inl ⟨by kernel_rfl, fun W hW => by kernel_rfl⟩) (Below.refl _ _) ?_
                    try simp only [List.getElem_toArray, List.getElem_cons_zero, List.getElem_cons_succ, Act.put, List.setIfInBounds_toArray, List.set_cons_zero, List.set_cons_succ, List.append_eq, List.cons_append, List.nil_append]
                    refine wpAnyH_take (i := 92) (v := .bool false) rfl (by kernel_rfl) (by kernel_rfl) (by kernel_rfl) (fun _ _ _ h => h) (Or.inl ⟨by kernel_rfl, fun W hW => by kernel_rfl⟩) (Below.refl _ _) ?_
                    try simp only [List.getElem_toArray, List.getElem_cons_zero, List.getElem_cons_succ, Act.put, List.setIfInBounds_toArray, List.set_cons_zero, List.set_cons_succ, List.append_eq, List.cons_append, List.nil_append]
                    refine wpAnyH_take (i := 93) (v := .agg #[.slice a0 d.length cap0]) rfl (by kernel_rfl) (by kernel_rfl) (by kernel_rfl) (fun _ _ _ h => h) (Or.inl ⟨by kernel_rfl, fun W hW => by have h1 := LD W (kwB.trans (hW.mono kwB.size)); go_simp⟩) (Below.refl _ _) ?_
                    try simp only [List.getElem_toArray, List.getElem_cons_zero, List.getElem_cons_succ, Act.put, List.setIfInBounds_toArray, List.set_cons_zero, List.set_cons_succ, List.append_eq, List.cons_append, List.nil_append]
                    refine wpAnyH_take (i := 94) (v := .agg #[.slice uo UB.length uc]) rfl (by kernel_rfl) (by kernel_rfl) (by kernel_rfl) (fun _ _ _ h => h) (Or.inl ⟨by kernel_rfl, fun W hW => by have h1 := L9 W (kwB.trans (hW.mono kwB.size)); go_simp⟩) (Below.refl _ _) ?_
                    try simp only [List.getElem_toArray, List.getElem_cons_zero, List.getElem_cons_succ, Act.put, List.setIfInBounds_toArray, List.set_cons_zero, List.set_cons_succ, List.append_eq, List.cons_append, List.nil_append]
                    refine wpAnyH_take (i := 96) (v := .pointer (some ⟨w.heap.size, 0, none⟩)) rfl (by kernel_rfl) (by kernel_rfl) (by kernel_rfl) (fun _ _ _ h => h) (Or.inl ⟨by kernel_rfl, fun W hW => by go_simp⟩) (Below.refl _ _) ?_
                    try simp only [List.getElem_toArray, List.getElem_cons_zero, List.getElem_cons_succ, Act.put, List.setIfInBounds_toArray, List.set_cons_zero, List.set_cons_succ, List.append_eq, List.cons_append, List.nil_append]
                    refine wpAnyH_take (i := 97) (v := .slice a0 d.length cap0) rfl (by kernel_rfl) (by kernel_rfl) (by kernel_rfl) (fun _ _ _ h => h) (Or.inl ⟨by kernel_rfl, fun W hW => by have h1 := LD W (kwB.trans (hW.mono kwB.size)); go_simp⟩) (Below.refl _ _) ?_
                    try simp only [List.getElem_toArray, List.getElem_cons_zero, List.getElem_cons_succ, Act.put, List.setIfInBounds_toArray, List.set_cons_zero, List.set_cons_succ, List.append_eq, List.cons_append, List.nil_append]
                    refine wpAnyH_take (i := 98) (v := .string ⟨d.toArray⟩) rfl (by kernel_rfl) (by kernel_rfl) (by kernel_rfl) (fun _ _ _ h => h) (Or.inl ⟨by kernel_rfl, fun W hW => by have hq := vd W (kwB.trans (hW.mono kwB.size)); go_simp⟩) (Below.refl _ _) ?_
                    try simp only [List.getElem_toArray, List.getElem_cons_zero, List.getElem_cons_succ, Act.put, List.setIfInBounds_toArray, List.set_cons_zero, List.set_cons_succ, List.append_eq, List.cons_append, List.nil_append]
                    refine wpAnyH_take (i := 99) (v := .pointer (some ⟨X9, 0, none⟩)) rfl (by kernel_rfl) (by kernel_rfl) (by kernel_rfl) (fun _ _ _ h => h) (Or.inl ⟨by kernel_rfl, fun W hW => by go_simp⟩) (Below.refl _ _) ?_
                    try simp only [List.getElem_toArray, List.getElem_cons_zero, List.getElem_cons_succ, Act.put, List.setIfInBounds_toArray, List.set_cons_zero, List.set_cons_succ, List.append_eq, List.cons_append, List.nil_append]
                    refine wpAnyH_take (i := 100) (v := .slice uo UB.length uc) rfl (by kernel_rfl) (by kernel_rfl) (by kernel_rfl) (fun _ _ _ h => h) (Or.inl ⟨by kernel_rfl, fun W hW => by have h1 := L9 W (kwB.trans (hW.mono kwB.size)); go_simp⟩) (Below.refl _ _) ?_
                    try simp only [List.getElem_toArray, List.getElem_cons_zero, List.getElem_cons_succ, Act.put, List.setIfInBounds_toArray, List.set_cons_zero, List.set_cons_succ, List.append_eq, List.cons_append, List.nil_append]
                    refine wpAnyH_take (i := 101) (v := .string ⟨UB.toArray⟩) rfl (by kernel_rfl) (by kernel_rfl) (by kernel_rfl) (fun _ _ _ h => h) (Or.inl ⟨by kernel_rfl, fun W hW => by have hq := v9 W (kwB.trans (hW.mono kwB.size)); go_simp⟩) (Below.refl _ _) ?_
                    try simp only [List.getElem_toArray, List.getElem_cons_zero, List.getElem_cons_succ, Act.put, List.setIfInBounds_toArray, List.set_cons_zero, List.set_cons_succ, List.append_eq, List.cons_append, List.nil_append]
                    refine wpAnyH_take (i := 102) (v := .bool (d == UB)) rfl (by kernel_rfl) (by kernel_rfl) (by kernel_rfl) (fun _ _ _ h => h) (Or.inl ⟨by kernel_rfl, fun W hW => by go_simp⟩) (Below.refl _ _) ?_
                    try simp only [List.getElem_toArray, List.getElem_cons_zero, List.getElem_cons_succ, Act.put, List.setIfInBounds_toArray, List.set_cons_zero, List.set_cons_succ, List.append_eq, List.cons_append, List.nil_append]
                    refine wpAnyH_ready (rs := [95]) (by kernel_rfl) (by simp) ?_
                    refine AllReadyH.cons rfl (fun K hK => ?_) AllReadyH.nil
                    simp only [List.getElem_toArray, List.getElem_cons_zero, List.getElem_cons_succ]
                    go_simp
                    refine (hse _ kwB).mono ?_; rintro e wD ⟨rfl, hbwD⟩; have kwD : Below wf.heap.size wf wD := kwB.trans (hbwD.mono kwB.size)
                    refine hK.out _ _ hbwD (fun _ => ?_)
                    clear hK K
                    try simp only [List.getElem_toArray, List.getElem_cons_zero, List.getElem_cons_succ, Act.put, List.setIfInBounds_toArray, List.set_cons_zero, List.set_cons_succ, List.append_eq, List.cons_append, List.nil_append]
                    refine anyH_mono (S' := fun W => Below wD.heap.size wD W) (fun W hW => hbwD.trans (hW.mono hbwD.size)) _ _ _ _ ?_
                    refine wpAnyH_take (i := 103) (v := .bool false) rfl (by kernel_rfl) (by kernel_rfl) (by kernel_rfl) (fun _ _ _ h => h) (Or.inl ⟨by kernel_rfl, fun W hW => by go_simp⟩) (Below.refl _ _) ?_
                    try simp only [List.getElem_toArray, List.getElem_cons_zero, List.getElem_cons_succ, Act.put, List.setIfInBounds_toArray, List.set_cons_zero, List.set_cons_succ, List.append_eq, List.cons_append, List.nil_append]
                    refine wpAnyH_take (i := 104) (v := .bool false) rfl (by kernel_rfl) (by kernel_rfl) (by kernel_rfl) (fun _ _ _ h => h) (Or.inl ⟨by kernel_rfl, fun W hW => by kernel_rfl⟩) (Below.refl _ _) ?_
                    try simp only [List.getElem_toArray, List.getElem_cons_zero, List.getElem_cons_succ, Act.put, List.setIfInBounds_toArray, List.set_cons_zero, List.set_cons_succ, List.append_eq, List.cons_append, List.nil_append]
                    refine wpAnyH_done (by kernel_rfl) ?_ _
                    refine NoPanic.normal ?_
                    go_wp2_with fail
                    go_meet
                    case rel => exact ⟨rfl, kwD⟩
        case rest =>
          obtain ⟨rfl, hbc⟩ := hcut
          clear L5 L6 L9 L10 L12 v5 v6 v7 v8 v9 v10 v11 v12 vd hsm hse hck hmn su sg sk x5 x6 x9 x10 x12 l5 l6 l9 l10 l12 q5 q6 q8 q9 q10 q12 q14
          have hb15c := hb16.trans (hbc.mono hb16.size)
          have hPD : PokD w4 B7 T7 B11 X11 B13 T13 po7 PB.length ro RB.length go GP.length X11 (.slice ro RB.length rc) wc := ⟨HPK.out.1.below hb15c, HPK.out.2.1.below hb15c, HPK.out.2.2.below hb15c, (hb15c.cell (p := ⟨X11, 0, none⟩) l11).trans x11, Cf.trans (hbc.mono Cf.size)⟩
          clear hb15c HPK x11 l11 q7 q11 q13 L11 hbc hb16 Cf so' sd LO LD hf15
          go_wp2_with fail
          as_aux_lemma =>
            go_loopw [37] (fun i wr => ∃ k : Nat, k ≤ PB.length ∧ i = .int .i64 k ∧ PokD w4 B7 T7 B11 X11 B13 T13 po7 PB.length ro RB.length go GP.length X11 (.slice ro RB.length rc) wr) (fun i _ => PB.length - (intOf i).toNat)
            case atStart => exact ⟨0, Nat.zero_le _, rfl, hPD⟩
            case round =>
              clear hPD
              obtain ⟨k, hk, rfl, hP⟩ := hrel
              by_cases hlt : k < PB.length
              · have hlt2 : (k : Int) < (PB.length : Int) := by omega
                obtain ⟨g, x, rfl, e1, e2, e3, e4, e5, e6, e7⟩ := hP.p1 k hlt
                go_wp2
                have ey : ((x : Int) + 1) % 256 = (((x + 1) % 256 : Nat) : Int) := by omega
                rw [ey]
                exact ⟨⟨k + 1, hlt, rfl, hP.set g k _ (Nat.mod_lt _ (Nat.zero_lt_succ 255)) (Nat.le_trans lb7 e1) (Nat.ne_of_lt (Nat.lt_of_lt_of_le e2 (Nat.le_trans lb11 lt11))) (fun b _ hb => Nat.ne_of_lt (Nat.lt_of_lt_of_le e2 (Nat.le_trans (Nat.le_trans lb11 lt11) (Nat.le_trans (Nat.le_of_lt lb13) hb))))⟩, Nat.sub_lt_sub_left hlt (Nat.lt_succ_self k)⟩
              · have hlt2 : decide ((k : Int) < (PB.length : Int)) = false := by simp; omega
                go_wp2_with fail
                go_loopw [38] (fun i wr => ∃ k : Nat, k ≤ RB.length ∧ i = .int .i64 k ∧ PokD w4 B7 T7 B11 X11 B13 T13 po7 PB.length ro RB.length go GP.length X11 (.slice ro RB.length rc) wr) (fun i _ => RB.length - (intOf i).toNat)
                case atStart => exact ⟨0, Nat.zero_le _, rfl, hP⟩
                case round =>
                  clear hP hlt hlt2 hk
                  obtain ⟨k2, hk2, rfl, hP⟩ := hrel
                  have cx := hP.cx
                  by_cases hlt : k2 < RB.length
                  · have hlt2 : (k2 : Int) < (RB.length : Int) := by omega
                    obtain ⟨g, x, rfl, e1, e2, e3, e4, e5, e6, e7⟩ := hP.p2 k2 hlt
                    go_wp2
                    go_region
                    go_wp2
                    have ey : ((x : Int) + 1) % 256 = (((x + 1) % 256 : Nat) : Int) := by omega
                    rw [ey]
                    exact ⟨⟨k2 + 1, hlt, rfl, (hP.set g k2 _ (Nat.mod_lt _ (Nat.zero_lt_succ 255)) (Nat.le_trans lb7 (Nat.le_trans lt7 (Nat.le_trans lb11 e1))) (Nat.ne_of_lt e2) (fun b _ hb => Nat.ne_of_lt (Nat.lt_of_lt_of_le e2 (Nat.le_trans (Nat.le_of_lt lb13) hb)))).drew⟩, Nat.sub_lt_sub_left hlt (Nat.lt_succ_self k2)⟩
                  · have hlt2 : decide ((k2 : Int) < (RB.length : Int)) = false := by simp; omega
                    go_wp2_with fail
                    clear cx
                    go_loopw [39] (fun i wr => ∃ k : Nat, k ≤ GP.length ∧ i = .int .i64 k ∧ PokD w4 B7 T7 B11 X11 B13 T13 po7 PB.length ro RB.length go GP.length X11 (.slice ro RB.length rc) wr) (fun i _ => GP.length - (intOf i).toNat)
                    case atStart => exact ⟨0, Nat.zero_le _, rfl, hP⟩
                    case round =>
                      clear hP hlt hlt2 hk2
                      obtain ⟨k3, hk3, rfl, hP⟩ := hrel
                      by_cases hlt : k3 < GP.length
                      · have hlt3 : (k3 : Int) < (GP.length : Int) := by omega
                        rcases id hP.p3 with h0 | ⟨bb, rfl, hb1, hb2, hb3, hrow⟩
                        · omega
                        obtain ⟨bo, len, cp, c1, c2, c3, c4⟩ := hrow k3 hlt
                        have c1' := c1
                        clear hrow
                        go_wp2
                        go_loopw [40] (fun j wr2 => ∃ n2 : Nat, n2 ≤ len ∧ j = .int .i64 n2 ∧ wr2.cell? ⟨bb, k3 * 2 + 1, none⟩ = some (.slice bo len cp) ∧ PkB wr2 B13 T13 (some bb) bo len ∧ PokD w4 B7 T7 B11 X11 B13 T13 po7 PB.length ro RB.length (some ⟨bb, 0, none⟩) GP.length X11 (.slice ro RB.length rc) wr2) (fun j _ => len - (intOf j).toNat)
                        case atStart => exact ⟨0, Nat.zero_le _, rfl, c1', c4, hP⟩
                        case round =>
                          obtain ⟨n2, hn2, rfl, d1, d2, hP2⟩ := hrel
                          by_cases hn3 : n2 < len
                          · have hn4 : (n2 : Int) < (len : Int) := by omega
                            obtain ⟨g, x, rfl, e1, e2, e3, e4, e5, e6, e7⟩ := d2 n2 hn3
                            go_wp2
                            go_region
                            go_wp2
                            have ey : ((x : Int) + 1) % 256 = (((x + 1) % 256 : Nat) : Int) := by omega
                            rw [ey]
                            have hgb : g ≠ bb := fun e => e3 (by rw [e])
                            have hy : (x + 1) % 256 < 256 := Nat.mod_lt _ (Nat.zero_lt_succ 255)
                            exact ⟨⟨n2 + 1, hn3, rfl, (World.cell?_setCell_other _ _ _ _ (fun e => hgb (congrArg (fun z : Addr => z.block) e))).trans d1, (d2.set g n2 _ hy).drew, (hP2.set g n2 _ hy (Nat.le_trans lb7 (Nat.le_trans lt7 (Nat.le_trans lb11 (Nat.le_trans lt11 (Nat.le_trans (Nat.le_of_lt lb13) e1))))) (Nat.ne_of_gt (Nat.lt_of_lt_of_le lb13 e1)) (fun b' hb' _ => by cases hb'; exact hgb)).drew⟩, Nat.sub_lt_sub_left hn3 (Nat.lt_succ_self n2)⟩
                          · have hn4 : decide ((n2 : Int) < (len : Int)) = false := by simp; omega
                            go_wp2
                            go_roundw
                            case rel => exact ⟨k3 + 1, by omega, by go_num, hP2⟩
                            case measure => simp [intOf]; omega
                      · have hlt3 : decide ((k3 : Int) < (GP.length : Int)) = false := by simp; omega
                        have hbl := hP.bl
                        have lo := HLO.out wr hbl
                        have ld := HLD.out wr hbl
                        have vo' := HFO.out.below hbl
                        have q1 := vo'.conv wr (Below.refl _ _)
                        have q2 := HD4.out.conv rfl wr hbl
                        have vi' := HFI.out.below hbl
                        have q3 := vi'.conv wr (Below.refl _ _)
                        have q4 := HB4.out.conv rfl wr hbl
                        have hpp : Pl wr po3 ps pc3 := by obtain ⟨_, _, he, h⟩ := (HFP.out.below hbl).pl; cases he; exact h
                        have hsame := samePuts_sl wr po3 a1 ps pc3 cap1 hpp (HP4.out.below hbl)
                        clear vo' vi' hpp
                        go_wp2_with (go_at_call 28; refine hsame.mono ?_; rintro e wz ⟨rfl, hbz⟩)
                        go_ret
                        have hb0r := HB04.out.trans (hbl.mono HB04.out.size)
                        exact ⟨rfl, hb0r.trans (hbz.mono hb0r.size)⟩
end Go.Proofs.Ytgfhjkphdmkmoab
