/-
  QuotaAsks: quotas are held to what they may be, set and asked, as the document says; they stay, and what is answered is new memory. No conditions.
-/
import Derived.Test.YtkcgleahbhmggaaQtRef2
import Derived.Test.YtkcgleahbhmggaaQtRef3
import Derived.Test.YtkcgleahbhmggaaQtRows
import Derived.Test.YtkcgleahbhmggaaChecked
namespace Go.Proofs.Ytkcgleahbhmggaa
open Go.ChangeShapes Go.WideShapes Go.ChangeAt Go.RowKit
open Go.ChangeMaps (open_string shut_string)
set_option linter.unusedSimpArgs false
set_option linter.unusedVariables false
set_option maxRecDepth 100000

theorem IsAt.grown {w w' : World} {B g : Nat} {ao : Option Addr} {l : List Int} (h : IsAt w B ao l) (hg : w.grownBy w' (some g)) (hB : B ≤ g) : IsAt w' B ao l := by
  rcases h with rfl | ⟨b, off, rfl, hlt, hc⟩
  · exact .inl rfl
  · exact .inr ⟨b, off, rfl, hlt, fun j hj => hg.cell (a := ⟨b, off + j, none⟩) (hc j hj) (by intro e; have := Option.some.inj e; simp at this; omega)⟩
theorem PgAt.grown {w w' : World} {B g : Nat} {ao : Option Addr} {ps : List Pg} (h : PgAt w B ao ps) (hg : w.grownBy w' (some g)) (hB : B ≤ g) : PgAt w' B ao ps := by
  rcases h with rfl | ⟨b, off, rfl, hlt, hc⟩
  · exact .inl rfl
  · exact .inr ⟨b, off, rfl, hlt, fun i hi => (hc i hi).grown hg (by intro e; have := Option.some.inj e; omega)⟩
/-- a world on the way: what was there is as it was; the slab's box -/
structure AX (w w2 wk : World) (v : Value) : Prop where
  b1 : Below w.heap.size w wk
  b2 : Below w2.heap.size w2 wk
  cl : wk.cell? ⟨w.heap.size, 0, none⟩ = some v
  lt : w.heap.size < wk.heap.size
theorem AX.step {w w2 wk wl : World} {v : Value} (h : AX w w2 wk v) (hb : Below wk.heap.size wk wl) : AX w w2 wl v :=
  ⟨h.b1.trans (hb.mono h.b1.size), h.b2.trans (hb.mono h.b2.size), (below_cells hb _ 0 h.lt).trans h.cl, by have := hb.size; have := h.lt; omega⟩
theorem asks_long (w : World) (pool : Int) (ao : Option Addr) (cap : Nat) (q : List Int) (h : Il w ao q cap) (so : Option Addr) (sc : Nat) (ps : List Pg) (hs : Sb w so ps sc) (t p : Int) (hl : 100 < q.length ∨ 100 < ps.length) :
    Calls Try.prog 4 #[.int .i64 pool, .slice ao q.length cap, .agg #[.slice so ps.length sc], .int .i64 t, .int .i64 p] w fun e w' => e = .returned (.bool true) ∧ Below w.heap.size w w' := by
  have hmx := h.len
  have hmp : ps.length ≤ 9223372036854775807 := by have := hs.hl; have := hs.hc; omega
  clear hs h
  by_cases h1 : 100 < q.length
  · have hl1 : decide ((100 : Int) < q.length) = true := by simp; omega
    clear hl
    go_enter Try.func4, Try.ntmps4
    go_wp2
    go_ret
    exact ⟨rfl, (Below.refl _ _).alloc (Nat.le_refl _) _⟩
  · have hl1 : decide ((100 : Int) < q.length) = false := by simp; omega
    have hl2 : decide ((100 : Int) < ps.length) = true := by simp; omega
    clear hl
    go_enter Try.func4, Try.ntmps4
    go_wp2
    go_ret
    exact ⟨rfl, (Below.refl _ _).alloc (Nat.le_refl _) _⟩
set_option maxHeartbeats 4000000 in
theorem asks_main (w : World) (pool : Int) (ao : Option Addr) (cap : Nat) (q : List Int) (h : Il w ao q cap) (so : Option Addr) (sc : Nat) (ps : List Pg) (hs : Sb w so ps sc) (t p : Int) (hl : q.length ≤ 100) (hlp : ps.length ≤ 100) :
    Calls Try.prog 4 #[.int .i64 pool, .slice ao q.length cap, .agg #[.slice so ps.length sc], .int .i64 t, .int .i64 p] w fun e w' => e = .returned (.bool true) ∧ Below w.heap.size w w' := by
  have HQ := Hid.mk2 h
  have HS := Hid.mk2 hs
  have hl1 : decide ((100 : Int) < q.length) = false := by simp; omega
  have hl2 : decide ((100 : Int) < ps.length) = false := by simp; omega
  have hmq := h.len
  obtain ⟨R, hR⟩ : ∃ R, setR pool q t p = R := ⟨_, rfl⟩
  obtain ⟨E, hE⟩ : ∃ E, setE pool q t p = E := ⟨_, rfl⟩
  obtain ⟨A, hA⟩ : ∃ A, askE ps q t = A := ⟨_, rfl⟩
  obtain ⟨RV, hRV⟩ : ∃ RV, roomV ps q t = RV := ⟨_, rfl⟩
  obtain ⟨OV, hOV⟩ : ∃ OV, overV ps q t = OV := ⟨_, rfl⟩
  obtain ⟨SV, hSV⟩ : ∃ SV, sumV q = SV := ⟨_, rfl⟩
  obtain ⟨SE, hSE⟩ : ∃ SE, sumE q = SE := ⟨_, rfl⟩
  obtain ⟨C, hC⟩ : ∃ C, chkE pool q = C := ⟨_, rfl⟩
  have hRl : R.length ≤ 100 := by
    rw [← hR]
    unfold setR
    split
    · simpa using hl
    · simp
  have HSET := Hid.mk2 (fun W o c (hi : Il W o q c) => set_any pool W o q c hi t p E R hE hR)
  have HRSET := Hid.mk2 (fun W o c (hi : Il W o q c) => rset_any pool W o q c hi t p E R hE hR)
  have HSUM := Hid.mk2 (fun W o c (hi : Il W o q c) => qsum_any W o q c hi)
  have HRSUM := Hid.mk2 (fun W o c (hi : Il W o q c) => rqsum_any W o q c hi)
  rw [hSV, hSE] at HSUM HRSUM
  have HROOM := Hid.mk2 (fun W o c (hi : Il W o q c) (hx : Sb W so ps sc) => qroom_any W so ps sc hx o q c hi t)
  have HRROOM := Hid.mk2 (fun W o c (hi : Il W o q c) (hx : Sb W so ps sc) => rqroom_any W so ps sc hx o q c hi t hlp)
  rw [hRV, hA] at HROOM HRROOM
  have HOVER := Hid.mk2 (fun W o c (hi : Il W o q c) (hx : Sb W so ps sc) => qover_any W so ps sc hx o q c hi t)
  have HROVER := Hid.mk2 (fun W o c (hi : Il W o q c) (hx : Sb W so ps sc) => rqover_any W so ps sc hx o q c hi t hlp)
  rw [hOV, hA] at HOVER HROVER
  have HCH := Hid.mk2 (fun W o c (hi : Il W o q c) => qcheck_any pool W o q c hi)
  have HRCH := Hid.mk2 (fun W o c (hi : Il W o q c) => rqcheck_any pool W o q c hi)
  rw [hC] at HCH HRCH
  have HSC := Hid.mk2 (fun W (hx : Sb W so ps sc) => rcheck_any W so ps sc hx)
  have HEND : Hid ((sE ps == 0) = true ∨ ((sE ps == 0) = false ∧ (A == 8) = true)) := by
    cases e : sOk ps
    · exact .inr ⟨by unfold sE; rw [e]; rfl, by rw [← hA]; unfold askE; rw [if_pos e]; rfl⟩
    · exact .inl (by unfold sE; rw [e]; rfl)
  obtain ⟨SC, hSC⟩ : ∃ SC, sE ps = SC := ⟨_, rfl⟩
  rw [hSC] at HSC HEND
  have HSM := Hid.mk2 (fun W o c (hi : Il W o R c) o' c' (hi' : Il W o' R c') => rsame8_b W o R c hi o' R c' hi' (by omega))
  rw [show decide (R = R) = true from by simp] at HSM
  have HSQ := Hid.mk2 (fun W o c (hi : Il W o q c) o' c' (hi' : Il W o' q c') => rsame8_b W o q c hi o' q c' hi' (by omega))
  rw [show decide (q = q) = true from by simp] at HSQ
  clear h hs hR hE hA hRV hOV hSV hSE hC hSC
  go_enter Try.func4, Try.ntmps4
  go_upto_region 3 with fail
  have hm : maxLen = 9223372036854775807 := rfl
  go_upto_region 4 with (at_builtin; refine app_ints rfl _ _ rfl (w.heap.size + 1) _ [] (OwnI.nil _ _) rfl ao cap q q.length rfl rfl w.heap.size HQ.out.hn (HQ.out.at_.below ((Below.refl _ _).alloc (Nat.le_refl _) _) (Nat.le_refl _)) (by simp; omega) (by simp) ?_; intro v' w2 hO hG; rw [List.nil_append] at hO; have HO := Hid.mk2 hO; have HG : Hid (Below (w.heap.size + 1) (w.alloc (.cells #[.slice so ps.length sc] 33)) w2) := (Below.refl _ _).grown hG.grown (by simp) (by intro k hk; cases hk); clear hO hG)
  have HX2 : Hid (AX w w2 w2 (.slice so ps.length sc)) := ⟨((Below.refl _ _).alloc (Nat.le_refl _) _).trans (HG.out.mono (by omega)), Below.refl _ _, (HG.out.cell (p := ⟨w.heap.size, 0, none⟩) (by simp)).trans (by simp), by have := HG.out.size; simp at this; omega⟩
  have c2 := HX2.out.cl
  have l2 := HX2.out.lt
  obtain ⟨oo, oc, hv', hil⟩ := HO.out.il
  have HOI : Hid (∀ W, AX w w2 W (.slice so ps.length sc) → Il W oo q oc) := fun W hx => hil.below hx.b2
  have HQI : Hid (∀ W, AX w w2 W (.slice so ps.length sc) → Il W ao q cap) := fun W hx => HQ.out.below hx.b1
  have HSI : Hid (∀ W, AX w w2 W (.slice so ps.length sc) → Sb W so ps sc) := fun W hx => HS.out.below hx.b1
  have HOA : Hid (IsAt w2 w2.heap.size oo q) := hil.at_
  have HOC : Hid (q.length ≤ oc ∧ oc ≤ 9223372036854775807 ∧ (oo = none → oc = 0)) := ⟨hil.hl, hil.hc, hil.hn⟩
  have HL2 := Hid.mk2 HX2.out.lt
  subst hv'
  clear hil HO HG
  go_upto_region 5 with (go_at_call 12; refine (HSET.out _ _ _ (HOI.out _ HX2.out)).mono ?_; rintro e w3 ⟨ra, rac, rfl, hf, hb⟩; have HF3 := Hid.mk2 hf; clear hf; have HX3 := Hid.mk2 (HX2.out.step hb); have c3 := HX3.out.cl; have l3 := HX3.out.lt; clear hb)
  go_upto_region 6 with (go_at_call 18; refine (HRSET.out _ _ _ (HQI.out _ HX3.out)).mono ?_; rintro e w4 ⟨rb, rbc, rfl, hi, hb⟩; have HF4 := Hid.mk2 (HF3.out.below hb); have HI4 := Hid.mk2 hi; clear hi; have HX4 := Hid.mk2 (HX3.out.step hb); have c4 := HX4.out.cl; have l4 := HX4.out.lt; clear hb)
  go_upto_region 8 with (first
    | (go_at_call 13; refine (HSUM.out _ _ _ (HOI.out _ HX4.out)).mono ?_; rintro e wz ⟨rfl, hwz⟩; have hwz := hwz.symm; subst hwz)
    | (go_at_call 19; refine (HRSUM.out _ _ _ (HQI.out _ HX4.out)).mono ?_; rintro e wz ⟨rfl, hwz⟩; have hwz := hwz.symm; subst hwz))
  go_upto_region 9 with (go_at_call 14; refine (HROOM.out _ _ _ (HOI.out _ HX4.out) (HSI.out _ HX4.out)).mono ?_; rintro e w5 ⟨rfl, hb⟩; have HF5 := Hid.mk2 (HF4.out.below hb); have HI5 := Hid.mk2 (HI4.out.below hb); have HX5 := Hid.mk2 (HX4.out.step hb); have c5 := HX5.out.cl; have l5 := HX5.out.lt; clear hb)
  go_upto_region 10 with (go_at_call 20; refine (HRROOM.out _ _ _ (HQI.out _ HX5.out) (HSI.out _ HX5.out)).mono ?_; rintro e w6 ⟨rfl, hb⟩; have HF6 := Hid.mk2 (HF5.out.below hb); have HI6 := Hid.mk2 (HI5.out.below hb); have HX6 := Hid.mk2 (HX5.out.step hb); have c6 := HX6.out.cl; have l6 := HX6.out.lt; clear hb)
  clear c2 c3 c4 c5 l2 l3 l4 l5 HX2 HX3 HX4 HX5 HF3 HF4 HF5 HI4 HI5
  go_upto_region 11 with (go_at_call 15; refine (HOVER.out _ _ _ (HOI.out _ HX6.out) (HSI.out _ HX6.out)).mono ?_; rintro e w7 ⟨rfl, hb⟩; have HF7 := Hid.mk2 (HF6.out.below hb); have HI7 := Hid.mk2 (HI6.out.below hb); have HX7 := Hid.mk2 (HX6.out.step hb); have c7 := HX7.out.cl; have l7 := HX7.out.lt; clear hb)
  go_upto_region 12 with (go_at_call 21; refine (HROVER.out _ _ _ (HQI.out _ HX7.out) (HSI.out _ HX7.out)).mono ?_; rintro e w8 ⟨rfl, hb⟩; have HF8 := Hid.mk2 (HF7.out.below hb); have HI8 := Hid.mk2 (HI7.out.below hb); have HX8 := Hid.mk2 (HX7.out.step hb); have c8 := HX8.out.cl; have l8 := HX8.out.lt; clear hb)
  clear c6 c7 l6 l7 HX6 HX7 HF6 HF7 HI6 HI7
  have x1 : (C != C) = false := by simp
  have x2 : (E != E) = false := by simp
  have x3 : (SV != SV) = false := by simp
  have x4 : (SE != SE) = false := by simp
  have x5 : (A != A) = false := by simp
  have x6 : (OV != OV) = false := by simp
  have x7 : (RV != RV) = false := by simp
  go_upto_region 14 with (first
    | (go_at_call 16; refine (HCH.out _ _ _ (HOI.out _ HX8.out)).mono ?_; rintro e wz ⟨rfl, hwz⟩; have hwz := hwz.symm; subst hwz)
    | (go_at_call 22; refine (HRCH.out _ _ _ (HQI.out _ HX8.out)).mono ?_; rintro e wz ⟨rfl, hwz⟩; have hwz := hwz.symm; subst hwz)
    | (go_at_call 23; refine (HSM.out _ _ _ HF8.out.il.2 _ _ HI8.out).mono ?_; rintro e w9 ⟨rfl, hb⟩; have HF9 := Hid.mk2 (HF8.out.below hb); have HX9 := Hid.mk2 (HX8.out.step hb); have c9 := HX9.out.cl; have l9 := HX9.out.lt; clear hb))
  clear x1 x2 x3 x4 x5 x6 x7 c8 l8 HX8 HF8 HI8
  obtain ⟨ra', rac', ev, f1, f2, f3, f4⟩ := HF9.out
  cases ev
  clear HF9
  rcases f4 with hR0 | ⟨g, hra, hgb, hgl, hfz, hcs⟩
  · subst hR0
    go_wp2
    refine wp_loop_rounds 1 ?_
    rw [rounds_succ]
    have HOE := Hid.mk2 (HOI.out _ HX9.out)
    have HQE := Hid.mk2 (HQI.out _ HX9.out)
    have HSE := Hid.mk2 (HSI.out _ HX9.out)
    have HBE := Hid.mk2 HX9.out.b1
    have cE := c9
    have lE := l9
    clear HX9 c9 l9
    have hSQ := HSQ.out w9 _ _ HOE.out _ _ HQE.out
    have hSC := fun W (hb : Below w9.heap.size w9 W) => HSC.out W (HSE.out.below hb)
    have HSCE := Hid.mk2 hSC
    clear hSC
    rcases HEND.out with e1 | ⟨e1, e2⟩
    · go_wp2_with (first
        | (go_at_call 23; refine hSQ.mono ?_; rintro e wa ⟨rfl, hba⟩; have za : wa.cell? ⟨w.heap.size, 0, none⟩ = some (.slice so ps.length sc) := (below_cells hba _ 0 lE).trans cE; have la : w.heap.size < wa.heap.size := Nat.lt_of_lt_of_le lE hba.size)
        | (go_at_call 24; refine (HSCE.out _ hba).mono ?_; rintro e wb ⟨rfl, hbb⟩))
      go_ret
      exact ⟨rfl, HBE.out.trans ((hba.trans (hbb.mono hba.size)).mono HBE.out.size)⟩
    · go_wp2_with (first
        | (go_at_call 23; refine hSQ.mono ?_; rintro e wa ⟨rfl, hba⟩; have za : wa.cell? ⟨w.heap.size, 0, none⟩ = some (.slice so ps.length sc) := (below_cells hba _ 0 lE).trans cE; have la : w.heap.size < wa.heap.size := Nat.lt_of_lt_of_le lE hba.size)
        | (go_at_call 24; refine (HSCE.out _ hba).mono ?_; rintro e wb ⟨rfl, hbb⟩))
      go_ret
      exact ⟨rfl, HBE.out.trans ((hba.trans (hbb.mono hba.size)).mono HBE.out.size)⟩
  · subst hra
    have HFZ := Hid.mk2 hfz
    have HCS := Hid.mk2 hcs
    have HGB := Hid.mk2 hgb
    have hg2 : w.heap.size < g := by have h1 := HX9.out.b2.size; have h2 := HL2.out; omega
    obtain ⟨N, hN⟩ : ∃ N, N = R.length := ⟨_, rfl⟩
    rw [← hN] at f1 hRl ⊢
    have HN := Hid.mk2 hN
    clear hN hfz hcs hgb
    go_wp2
    go_loopw [28] (fun i wr => ∃ k : Nat, k ≤ N ∧ i = .int .i64 k ∧ Hid (w9.grownBy wr (some g)) ∧ Hid (∀ j, j < N → (∃ x, wr.cell? ⟨g, j, none⟩ = some (.int .i64 x)) ∧ wr.frozen? ⟨g, j, none⟩ = false)) (fun i _ => N - (intOf i).toNat)
    case atStart => exact ⟨0, Nat.zero_le _, rfl, World.grownBy.refl _ _, fun j hj => ⟨⟨_, HCS.out j (by rw [← HN.out]; exact hj)⟩, HFZ.out j⟩⟩
    case round =>
      obtain ⟨k, hk, rfl, HG, HK⟩ := hrel
      by_cases hlt : k < N
      · have hlt2 : (k : Int) < (N : Int) := by omega
        obtain ⟨⟨x, r0⟩, r1⟩ := HK.out k hlt
        go_wp2
        go_roundw
        case rel => exact ⟨k + 1, by omega, by go_num, HG.out.trans (grownBy_setCell wr ⟨g, k, none⟩ _), fun j hj => by
          obtain ⟨⟨y, h1⟩, h2⟩ := HK.out j hj
          refine ⟨?_, by simpa using h2⟩
          by_cases e : j = k
          · subst e; exact ⟨77, World.cell?_setCell_same _ _ _ h1⟩
          · exact ⟨y, by rw [World.cell?_setCell_other _ _ _ _ (by simp <;> omega)]; exact h1⟩⟩
        case measure => simp [intOf]; omega
      · have hlt2 : decide ((k : Int) < (N : Int)) = false := by rw [decide_eq_false_iff_not]; omega
        have hsz : w9.heap.size ≤ wr.heap.size := HG.out.size
        have h9 := HX9.out.b1.size
        have h92 := HX9.out.b2.size
        have HOE : Hid (Il wr oo q oc) := ⟨HOC.out.1, HOC.out.2.1, HOC.out.2.2, ((HOA.out.below HX9.out.b2 (Nat.le_refl _)).grown HG.out HGB.out).below (Below.refl _ _) (by omega)⟩
        have HQE : Hid (Il wr ao q cap) := ⟨HQ.out.hl, HQ.out.hc, HQ.out.hn, ((HQ.out.at_.below HX9.out.b1 (Nat.le_refl _)).grown HG.out (by omega)).below (Below.refl _ _) (by omega)⟩
        have HSE : Hid (Sb wr so ps sc) := ⟨HS.out.hl, HS.out.hc, HS.out.hn, ((HS.out.at_.below HX9.out.b1 (Nat.le_refl _)).grown HG.out (by omega)).below (Below.refl _ _) (by omega)⟩
        have HBE : Hid (Below w.heap.size w wr) := HX9.out.b1.grown HG.out h9 (by intro k hk; cases hk; omega)
        have cE : wr.cell? ⟨w.heap.size, 0, none⟩ = some (.slice so ps.length sc) := HG.out.cell (a := ⟨w.heap.size, 0, none⟩) c9 (by intro e; have := Option.some.inj e; simp at this; omega)
        have lE : w.heap.size < wr.heap.size := by omega
        clear HX9 c9 l9 HK HCS HFZ
        have hSQ := HSQ.out wr _ _ HOE.out _ _ HQE.out
        have hSC := fun W (hb : Below wr.heap.size wr W) => HSC.out W (HSE.out.below hb)
        have HSCE := Hid.mk2 hSC
        clear hSC
        rcases HEND.out with e1 | ⟨e1, e2⟩
        · go_wp2_with (first
            | (go_at_call 23; refine hSQ.mono ?_; rintro e wa ⟨rfl, hba⟩; have za : wa.cell? ⟨w.heap.size, 0, none⟩ = some (.slice so ps.length sc) := (below_cells hba _ 0 lE).trans cE; have la : w.heap.size < wa.heap.size := Nat.lt_of_lt_of_le lE hba.size)
            | (go_at_call 24; refine (HSCE.out _ hba).mono ?_; rintro e wb ⟨rfl, hbb⟩))
          go_ret
          exact ⟨rfl, HBE.out.trans ((hba.trans (hbb.mono hba.size)).mono HBE.out.size)⟩
        · go_wp2_with (first
            | (go_at_call 23; refine hSQ.mono ?_; rintro e wa ⟨rfl, hba⟩; have za : wa.cell? ⟨w.heap.size, 0, none⟩ = some (.slice so ps.length sc) := (below_cells hba _ 0 lE).trans cE; have la : w.heap.size < wa.heap.size := Nat.lt_of_lt_of_le lE hba.size)
            | (go_at_call 24; refine (HSCE.out _ hba).mono ?_; rintro e wb ⟨rfl, hbb⟩))
          go_ret
          exact ⟨rfl, HBE.out.trans ((hba.trans (hbb.mono hba.size)).mono HBE.out.size)⟩
theorem quotaAsks_walk (w : World) (pool : Int) {P0 : Prop} (_ : P0) (ao : Option Addr) (len cap : Nat) (q : List Int) (h : InInts w ao len cap q) (so : Option Addr) (sc : Nat) (ps : List Pg) (hs : Sb w so ps sc) (t : Int) {P1 : Prop} (_ : P1) (p : Int) {P2 : Prop} (_ : P2) :
    Calls Try.prog 4 #[.int .i64 pool, .slice ao len cap, .agg #[.slice so ps.length sc], .int .i64 t, .int .i64 p] w fun e w' => e = .returned (.bool true) ∧ Below w.heap.size w w' := by
  obtain ⟨rfl, h⟩ := h
  by_cases h1 : 100 < q.length
  · exact asks_long w pool ao cap q h so sc ps hs t p (.inl h1)
  by_cases h2 : 100 < ps.length
  · exact asks_long w pool ao cap q h so sc ps hs t p (.inr h2)
  exact asks_main w pool ao cap q h so sc ps hs t p (by omega) (by omega)

set_option maxRecDepth 100000 in
theorem quotaAsks_lifted (os : Os) (started : os.Started) (H : Type) (enc : TypeId × Value → H) :
    ReturnsInHanded {} Try.checked os 4 .any (Rows.quotaAsksSpec.pre6 enc Try.prog Try.f4 Rows.quotaAsksRow.domain false) (Rows.quotaAsksSpec.post enc Try.prog Try.f4 false true false false) := by
  refine returnsInHanded_of_change (C := Try.checked) (by kernel_rfl) started (by kernel_rfl) Try.func4
    (ChangeSpec.witness6 (enc := enc) (C := Try.checked) false ⟨#[], #[.int .i64 0, .slice none 0 0, .agg #[.slice none 0 0], .int .i64 0, .int .i64 0], []⟩ 8 (by kernel_rfl) (by kernel_rfl) (by kernel_rfl) (by kernel_rfl)) ?_
  intro W base args ds gs before hval0 hW hcnd _
  have hval : ∀ (j : Nat) t v, Try.f4.params[j]? = some t → args[j]? = some v → Value.okWide Try.prog W .any base t v := hval0
  have hW' := hW
  obtain ⟨p, q, hA0, hV, rfl, hfz, hnd⟩ := hW
  have hA : DataW.TrodAll enc Try.prog W 0 (fun _ => true) true Try.f4.params.toList args.toList ds p := hA0
  rw [Try.params4] at hA hval
  obtain ⟨v0, vs0, d0, ds0, p0, q0, hargs, rfl, rfl, h0, r0⟩ := trodAll_cons hA
  obtain ⟨v1, vs1, d1, ds1, p1, q1, rfl, rfl, rfl, h1, r1⟩ := trodAll_cons r0
  obtain ⟨v2, vs2, d2, ds2, p2, q2, rfl, rfl, rfl, h2, r2⟩ := trodAll_cons r1
  obtain ⟨v3, vs3, d3, ds3, p3, q3, rfl, rfl, rfl, h3, r3⟩ := trodAll_cons r2
  obtain ⟨v4, vs4, d4, ds4, p4, q4, rfl, rfl, rfl, h4, r4⟩ := trodAll_cons r3
  obtain ⟨rfl, rfl, rfl⟩ := trodAll_nil r4
  obtain rfl : args = #[v0, v1, v2, v3, v4] := by cases args; simp_all
  obtain ⟨rfl, rfl⟩ := trodVars_none hV
  obtain ⟨a0, rfl, rfl, rfl, w0⟩ := open_int Try.underlying3 (hval 0 3 v0 rfl rfl) h0
  have k1 := h1
  have lt1 : ∀ x ∈ p1, x.block < W.heap.size := by obtain ⟨m, hm⟩ := k1; exact DataW.trod_lt m _ _ _ hm
  obtain ⟨a1, len1, cap1, rfl⟩ := okWide_slice Try.underlying22 (hval 1 22 v1 rfl rfl)
  obtain ⟨l1, w1⟩ := inInts_of (fun _ => rfl) h1
  have k2 := h2
  have lt2 : ∀ x ∈ p2, x.block < W.heap.size := by obtain ⟨m, hm⟩ := k2; exact DataW.trod_lt m _ _ _ hm
  obtain ⟨a2, cap2, l2, rfl, w2⟩ := inSlab_of (fun _ => rfl) (hval 2 33 v2 rfl rfl) h2
  obtain ⟨a3, rfl, rfl, rfl, w3⟩ := open_int Try.underlying3 (hval 3 3 v3 rfl rfl) h3
  obtain ⟨a4, rfl, rfl, rfl, w4⟩ := open_int Try.underlying3 (hval 4 3 v4 rfl rfl) h4
  clear hA0 hval0
  refine (quotaAsks_walk W a0 w0 a1 len1 cap1 l1 w1 a2 cap2 l2 w2 a3 w3 a4 w4).mono fun e W' ⟨he, bel⟩ => ?_
  subst he
  exact ⟨_, rfl, _, _, _, [], _, [], hW', trodAll_mk1 (shut_bool Try.underlying4 _), (trodAll_cons_mk (shut_int Try.underlying3 w0) (trodAll_cons_mk (Below.trod laidOut_all (by kernel_rfl) (of_decide_eq_true (by kernel_rfl)) k1 bel lt1) (trodAll_cons_mk (Below.trod laidOut_all (by kernel_rfl) (of_decide_eq_true (by kernel_rfl)) k2 bel lt2) (trodAll_cons_mk (shut_int Try.underlying3 w3) (trodAll_cons_mk (shut_int Try.underlying3 w4) trodAll_mk0))))), rfl, bel.frame _, fun h => by cases h⟩

theorem quotaAsks_proved : Rows.QuotaAsksSaid :=
  OpenClaim.holds_of_wide 4 Try.f4 rfl rfl rfl rfl rfl rfl rfl ⟨rfl, rfl, rfl, rfl, rfl⟩ rfl rfl rfl rfl rfl (by kernel_rfl) Try.func4 (by kernel_rfl)
    (of_decide_eq_true (by kernel_rfl)) (by unfold Func.isWrapper; first | (rw [if_pos (by decide +kernel)]; kernel_rfl) | (rw [if_neg (by decide +kernel)]; exact ⟨rfl, rfl⟩))
    (fun os started H enc _ => quotaAsks_lifted os started H enc)
#print axioms quotaAsks_proved
end Go.Proofs.Ytkcgleahbhmggaa
