/-
  Contract of Do, of a disk that may be.
-/
import Derived.Test.YtgfhjkphdmkmoabDkPts
namespace Go.Proofs.Ytgfhjkphdmkmoab
open Go.RowKit
set_option linter.unusedSimpArgs false
set_option linter.unusedVariables false
set_option maxRecDepth 100000

/-- bytes in another block than the one that turned -/
theorem BsAt.grown {w w' : World} {B : Nat} {a : Option Addr} {l : List UInt8} {g : Nat} (h : BsAt w B a l) (hg : w.grownBy w' (some g)) (hB : B ≤ w.heap.size) (hlt : B ≤ g) : BsAt w' B a l := by
  rcases h with h | ⟨b, off, rfl, hb, hc⟩
  · exact .inl h
  · exact .inr ⟨b, off, rfl, hb, fun j hj => hg.cell (a := ⟨b, off + j, none⟩) (hc j hj) (by intro e; have := Option.some.inj e; simp at this; omega)⟩

theorem grownBy_setRow (w : World) (g : Nat) (cs : Array Value) : w.grownBy (w.setRow g cs) (some g) :=
  ⟨rfl, rfl, rfl, by simp, fun i hi hne => setRow_other w g i cs (fun e => hne (by rw [e]))⟩

set_option maxHeartbeats 1000000 in
theorem do_good (w : World) (B : Nat) (ao : Option Addr) (d : List UInt8) (cap : Nat) (hb : BsAt w B ao d) (hlc : d.length ≤ cap) (hcm : cap ≤ 9223372036854775807) (h3 : ao = none → cap = 0) (hB : B ≤ w.heap.size)
    (b off : Nat) (ps : List Pt) (pc : Nat) (hbl : b < B) (hps : ∀ i (hi : i < ps.length), PtLies w B b (off + i * 2) ps[i]) (hpl : ps.length ≤ pc) (hpc : pc ≤ 9223372036854775807) (m : Int) (k1 : dOk d.length = true) :
    Calls Try.prog 26 #[.agg #[.slice ao d.length cap], .slice (some ⟨b, off, none⟩) ps.length pc, .int .i64 m] w fun e w' => ∃ v', e = .returned (.tuple #[.agg #[v'], .int .i64 (doE d.length ps m)]) ∧ Fresh w' w.heap.size v' (doB d ps m) ∧ Below w.heap.size w w' := by
  have HN : Hid (ao = none → cap = 0) := h3
  have HP : Hid (∀ i (hi : i < ps.length), PtLies w B b (off + i * 2) ps[i]) := hps
  clear h3 hps
  have hL : d.length ≤ 9223372036854775807 := by omega
  have e1 : dE d.length = 0 := by unfold dE; rw [if_pos k1]
  have hc := fun W => check_any ao d.length cap W hL
  rw [e1] at hc
  have HK : Hid (dOk d.length = true) := k1
  clear e1 k1
  obtain ⟨E, hE⟩ : ∃ E, E = doE d.length ps m := ⟨_, rfl⟩
  obtain ⟨R, hR⟩ : ∃ R, R = doB d ps m := ⟨_, rfl⟩
  rw [← hE, ← hR]
  have HE : Hid (E = doE d.length ps m) := hE
  have HR : Hid (R = doB d ps m) := hR
  clear hE hR
  go_enter Try.func26, Try.ntmps26
  go_wp2_with (go_at_call 29; refine (hc _).mono ?_; rintro e w1 ⟨rfl, hb1⟩; have hc1 := below_cells hb1; have hf1 := below_frozen hb1; have hs1 := hb1.size)
  have z3 : w1.cell? ⟨w.heap.size, 0, none⟩ = some (.slice ao d.length cap) := by rw [hc1 _ _ (by simp; omega)]; simp
  have z6 : w1.cell? ⟨w.heap.size + 1, 0, none⟩ = some (.slice none 0 0) := by rw [hc1 _ _ (by simp)]; simp
  have f6 : w1.frozen? ⟨w.heap.size + 1, 0, none⟩ = false := by rw [hf1 _ _ (by simp)]; simp
  have hs1' : w.heap.size + 2 ≤ w1.heap.size := by simpa using hs1
  have HB1 : Hid (Below w.heap.size w w1) := below_alloc (below_alloc hb1)
  clear hc hc1 hf1 hs1 hb1
  go_loopw [23] (fun i wr => ∃ k : Nat, k ≤ ps.length ∧ i = .int .i64 k ∧ Below w1.heap.size w1 wr ∧ (∀ i (hi : i < ps.length), i < k → ptE d.length ps[i] = 0)) (fun i _ => ps.length - (intOf i).toNat)
  case atStart => exact ⟨0, Nat.zero_le _, rfl, Below.refl _ _, fun _ _ h => absurd h (by omega)⟩
  case round =>
    obtain ⟨k, hk, rfl, hbr, hoks⟩ := hrel
    have HOK : Hid (∀ i (hi : i < ps.length), i < k → ptE d.length ps[i] = 0) := hoks
    clear hoks
    have y3 : wr.cell? ⟨w.heap.size, 0, none⟩ = some (.slice ao d.length cap) := (hbr.cell (p := ⟨w.heap.size, 0, none⟩) (by show w.heap.size < _; omega)).trans z3
    have y6 : wr.cell? ⟨w.heap.size + 1, 0, none⟩ = some (.slice none 0 0) := (hbr.cell (p := ⟨w.heap.size + 1, 0, none⟩) (by show w.heap.size + 1 < _; omega)).trans z6
    have g6 : wr.frozen? ⟨w.heap.size + 1, 0, none⟩ = false := (hbr.frozen (p := ⟨w.heap.size + 1, 0, none⟩) (by show w.heap.size + 1 < _; omega)).trans f6
    have hsr := hbr.size
    have hx3 : w.heap.size < wr.heap.size := by omega
    have hx6 : w.heap.size + 1 < wr.heap.size := by omega
    have hb0 : Below w.heap.size w wr := HB1.out.trans (hbr.mono (by omega))
    by_cases hlt : k < ps.length
    · have hlt2 : (k : Int) < (ps.length : Int) := by omega
      obtain ⟨p, hpe⟩ : ∃ p, p = ps[k] := ⟨_, rfl⟩
      have hL := HP.out k hlt
      rw [← hpe] at hL
      have HPE : Hid (p = ps[k]) := hpe
      clear hpe
      obtain ⟨q0, v, q1, a1, c1, rfl, -, -, -, -⟩ := hL
      have hbl2 : b < wr.heap.size := by omega
      have r0 : wr.cell? ⟨b, off + k * 2, none⟩ = some (.int .i64 p.n) := (hb0.cell (p := ⟨b, off + k * 2, none⟩) (by show b < _; omega)).trans q0
      have r1 : wr.cell? ⟨b, off + k * 2 + 1, none⟩ = some (.slice a1 p.data.length c1) := (hb0.cell (p := ⟨b, off + k * 2 + 1, none⟩) (by show b < _; omega)).trans q1
      clear q0 q1
      by_cases hok : ptE d.length p = 0
      · go_wp2_with (go_at_call 62; refine (checkPut_any ao d.length cap p.n a1 p.data.length c1 p rfl rfl _ hL).mono ?_; rintro e w2 ⟨rfl, hb2⟩; rw [hok])
        go_roundw
        case rel => exact ⟨k + 1, by omega, by go_num, hbr.trans ((below_alloc hb2).mono hsr), fun i hi h => by
          by_cases e : i = k
          · subst e; rw [← HPE.out]; exact hok
          · exact HOK.out i hi (by omega)⟩
        case measure => simp [intOf]; omega
      · have hE : E = ptE d.length p := by
          rw [HE.out]
          have h1 := ptsE_at hlt HOK.out (by rw [← HPE.out]; exact hok)
          rw [← HPE.out] at h1
          unfold doE
          rw [if_neg (by rw [HK.out]; decide), h1, if_pos hok]
        have hRn : R = [] := by
          rw [HR.out]
          unfold doB
          rw [← HE.out, hE, if_neg hok]
        subst hRn
        have hE2 : (E != 0) = true := by rw [hE]; simpa using hok
        have HEE : Hid (ptE d.length p = E) := hE.symm
        clear hE hok
        go_wp2_with (go_at_call 62; refine (checkPut_any ao d.length cap p.n a1 p.data.length c1 p rfl rfl _ hL).mono ?_; rintro e w2 ⟨rfl, hb2⟩; rw [HEE.out]; have hc2 := below_cells hb2; have hf2 := below_frozen hb2)
        have x6 : w2.cell? ⟨w.heap.size + 1, 0, none⟩ = some (.slice none 0 0) := by rw [hc2 _ _ (by simp; omega), World.cell?_alloc_past _ _ _ hx6]; exact y6
        have z0 : (w2.setCell ⟨w.heap.size + 1, 0, none⟩ (.slice none 0 0)).cell? ⟨w.heap.size + 1, 0, none⟩ = some (.slice none 0 0) := World.cell?_setCell_same _ _ _ x6
        try simp only [Exit.inBlock, Exit.then]
        refine bodyPost_ret (v := .tuple #[.agg #[.slice none 0 0], .int .i64 E]) (by simp [results, Try.results26, go_sem, z0]) rfl ⟨_, rfl, Fresh.nil _ _, ?_⟩
        exact (hb0.trans ((below_alloc hb2).mono (by omega))).setCell (by simp) _
    · have hlt2 : decide ((k : Int) < (ps.length : Int)) = false := by simp; omega
      have HZ : Hid (∀ p ∈ ps, ptE d.length p = 0) := by
        intro p hp
        obtain ⟨i, hi, rfl⟩ := List.mem_iff_getElem.1 hp
        exact HOK.out i hi (by omega)
      have HZ2 : Hid (ptsE d.length ps = 0) := ptsE_zero.2 HZ.out
      by_cases hcut : cutOk ps.length m = true
      · have hE : E = 0 := by rw [HE.out]; unfold doE; rw [if_neg (by rw [HK.out]; decide), if_neg (by rw [HZ2.out]; simp), if_neg (by rw [hcut]; decide)]
        have hRr : R = puts d (ps.take m.toNat) := by rw [HR.out]; unfold doB; rw [← HE.out, hE, if_pos rfl]
        subst hE
        have hm : 0 ≤ m ∧ m ≤ (ps.length : Int) := by simpa [cutOk] using hcut
        obtain ⟨M, rfl⟩ : ∃ M : Nat, m = (M : Int) := ⟨m.toNat, by omega⟩
        have hM : M ≤ ps.length := by omega
        have hRR : R = puts d (ps.take M) := by rw [hRr]; simp
        have HRR : Hid (R = puts d (ps.take M)) := hRR
        clear hRR
        have hne : d ≠ [] := by intro e; have := HK.out; rw [e] at this; simp [dOk] at this
        clear hRr hm
        have hcall := copied_any wr B ao d cap (hb.below (hb0.mono hB) (Nat.le_refl _)) HN.out (by have := HK.out; simp [dOk] at this; omega)
        go_wp2_with (first
          | (go_at_call 61; refine (mayCut_any _ ps.length pc M _).mono ?_; rintro e w' ⟨rfl, rfl⟩; rw [hcut])
          | (go_at_call 59; refine hcall.mono ?_; rintro e w2 ⟨v2, rfl, ho2, hb2⟩; obtain ⟨g, c2, cur, hv2, hgb, hrow, hcs, htk, hlc2, hcm2⟩ := ho2.row hne; subst hv2))
        have hg2 : g < w2.heap.size := (Array.getElem?_eq_some_iff.1 hrow).1
        obtain ⟨D, hD⟩ : ∃ D, D = w2.heap.size := ⟨_, rfl⟩
        obtain ⟨w3, hw3⟩ : ∃ w3, w3 = w2.alloc (Obj.cells #[Value.slice (some ⟨g, 0, none⟩) d.length c2] 48) := ⟨_, rfl⟩
        rw [← hw3, ← hD]
        have hs3 : w3.heap.size = D + 1 := by rw [hw3, hD]; simp
        have hb3 : Below w2.heap.size w2 w3 := by rw [hw3]; exact (Below.refl _ _).alloc (Nat.le_refl _) _
        have cD : w3.cell? ⟨D, 0, none⟩ = some (.slice (some ⟨g, 0, none⟩) d.length c2) := by rw [hw3, hD]; simp
        have hrow3 : w3.heap[g]? = some (.cells cur 5 (0, 0)) := (hb3.block g hg2).trans hrow
        rw [← hD] at hg2 hb3
        have hsz2 := hb2.size
        rw [← hD] at hsz2
        have HB3 : Hid (Below w.heap.size w w3) := (hb0.trans (hb2.mono (by omega))).trans (hb3.mono (by omega))
        have c6 : w3.cell? ⟨w.heap.size + 1, 0, none⟩ = some (.slice none 0 0) := (hb3.cell (p := ⟨w.heap.size + 1, 0, none⟩) (by show w.heap.size + 1 < _; omega)).trans ((hb2.cell (p := ⟨w.heap.size + 1, 0, none⟩) (by show w.heap.size + 1 < _; omega)).trans y6)
        have d6 : w3.frozen? ⟨w.heap.size + 1, 0, none⟩ = false := (hb3.frozen (p := ⟨w.heap.size + 1, 0, none⟩) (by show w.heap.size + 1 < _; omega)).trans ((hb2.frozen (p := ⟨w.heap.size + 1, 0, none⟩) (by show w.heap.size + 1 < _; omega)).trans g6)
        have hgw : w.heap.size + 1 < g := by omega
        have HTK : Hid (cur.toList.take d.length = d.map bcell) := htk
        have HBD : Hid (BsAt w B ao d) := hb
        clear htk hcall hw3 hrow hb2 hb3 ho2 hbr y3 y6 g6 hx3 hx6 hb0 z3 z6 f6 hsr hs1' hD hgb hb HOK HB1 hlt hlt2 hk
        go_loopw [48] (fun i wq => ∃ (q : Nat) (cu : Array Value), q ≤ M ∧ i = .int .i64 q ∧ w3.grownBy wq (some g) ∧ wq.heap[g]? = some (.cells cu 5 (0, 0)) ∧ d.length ≤ cu.size ∧ cu.toList.take d.length = (puts d (ps.take q)).map bcell) (fun i _ => M - (intOf i).toNat)
        case atStart => exact ⟨0, cur, Nat.zero_le _, rfl, World.grownBy.refl _ _, hrow3, hcs, HTK.out⟩
        case round =>
          obtain ⟨q, cu, hq, rfl, hgr, hru, hcu, htu⟩ := hrel
          have HTU : Hid (cu.toList.take d.length = (puts d (ps.take q)).map bcell) := htu
          clear htu
          by_cases hqM : q < M
          · have hqM2 : (q : Int) < (M : Int) := by omega
            have hqp : q < ps.length := by omega
            obtain ⟨p, hpe⟩ : ∃ p, p = ps[q] := ⟨_, rfl⟩
            have hL := HP.out q hqp
            rw [← hpe] at hL
            have hpz := ptE_zero (HZ.out ps[q] (List.getElem_mem hqp))
            rw [← hpe] at hpz
            have HPE : Hid (p = ps[q]) := hpe
            clear hpe
            obtain ⟨hp0, hp1, hp2⟩ := hpz
            obtain ⟨N, hN⟩ : ∃ N : Nat, p.n = (N : Int) := ⟨p.n.toNat, by omega⟩
            obtain ⟨q0, v, q1, a1, c1, rfl, -, -, -, hbs⟩ := hL
            rw [hN] at q0 hp1
            rw [hp2] at q1
            have hp1' : 64 * N + 64 ≤ d.length := by simpa using hp1
            have hbw : b < w.heap.size := by omega
            have NB : (some b : Option Nat) ≠ some g := by intro e; have := Option.some.inj e; omega
            have ND : (some D : Option Nat) ≠ some g := by intro e; have := Option.some.inj e; omega
            have r0 : wr.cell? ⟨b, off + q * 2, none⟩ = some (.int .i64 N) := hgr.cell (a := ⟨b, off + q * 2, none⟩) ((HB3.out.cell (p := ⟨b, off + q * 2, none⟩) hbw).trans q0) NB
            have r1 : wr.cell? ⟨b, off + q * 2 + 1, none⟩ = some (.slice a1 64 c1) := hgr.cell (a := ⟨b, off + q * 2 + 1, none⟩) ((HB3.out.cell (p := ⟨b, off + q * 2 + 1, none⟩) hbw).trans q1) NB
            have rD : wr.cell? ⟨D, 0, none⟩ = some (.slice (some ⟨g, 0, none⟩) d.length c2) := hgr.cell (a := ⟨D, 0, none⟩) cD ND
            have hsq := hgr.size
            have hbq : b < wr.heap.size := by omega
            have hDq : D < wr.heap.size := by omega
            have hN2 : (N : Int) ≤ 4096 := by have := HK.out; simp [dOk] at this; omega
            have hgq : g < wr.heap.size := by omega
            have hb4 : Below wr.heap.size wr (wr.alloc (Obj.cells #[Value.int IntKind.i64 N, Value.slice a1 64 c1] 77)).drew := ((Below.refl _ _).alloc (Nat.le_refl _) _).drew
            have x0 : (wr.alloc (Obj.cells #[Value.int IntKind.i64 N, Value.slice a1 64 c1] 77)).drew.cell? ⟨wr.heap.size, 0, none⟩ = some (.int .i64 N) := by simp
            have x1 : (wr.alloc (Obj.cells #[Value.int IntKind.i64 N, Value.slice a1 64 c1] 77)).drew.cell? ⟨wr.heap.size, 1, none⟩ = some (.slice a1 64 c1) := by simp
            have xD : (wr.alloc (Obj.cells #[Value.int IntKind.i64 N, Value.slice a1 64 c1] 77)).drew.cell? ⟨D, 0, none⟩ = some (.slice (some ⟨g, 0, none⟩) d.length c2) := (hb4.cell (p := ⟨D, 0, none⟩) hDq).trans rD
            have hbs4 : BsAt wr B a1 p.data := (hbs.below (HB3.out.mono hB) (Nat.le_refl _)).grown hgr (by omega) (by omega)
            have DG : D ≠ g := by omega
            have XG : wr.heap.size ≠ g := by omega
            go_wp2
            go_region_held3 (fun W => W.cell? ⟨D, 0, none⟩ = some (.slice (some ⟨g, 0, none⟩) d.length c2) ∧ W.cell? ⟨wr.heap.size, 0, none⟩ = some (.int .i64 N) ∧ W.cell? ⟨wr.heap.size, 1, none⟩ = some (.slice a1 64 c1)) (first | exact ⟨xD, x0, x1⟩ | exact ⟨(cell_setRow_other _ _ _ _ DG).trans yD, (cell_setRow_other _ _ _ _ XG).trans y0, (cell_setRow_other _ _ _ _ XG).trans y1⟩ | exact ⟨yD, y0, y1⟩)
              (first
                | (refine step_copy (by rfl) (.tmp 55) (.tmp 57) (by rfl) g (64 * N) 64 (by rfl) a1 c1 p.data hp2 (by rfl) B (hbs4.below (hb45.mono (by omega)) (Nat.le_refl _)) cu ((hb45.block g hgq).trans hru) (by omega) ?_)
                | (go_at_call 60; refine (block_any g 0 d.length c2 N _ hp1' hlc2 hcm2).mono ?_; rintro e w5 ⟨rfl, hb5⟩; have hb45 : Below wr.heap.size wr w5 := hb4.trans (hb5.mono (by simp)); have yD := (hb5.cell (p := ⟨D, 0, none⟩) (by simp; omega)).trans xD; have y0 := (hb5.cell (p := ⟨wr.heap.size, 0, none⟩) (by simp)).trans x0; have y1 := (hb5.cell (p := ⟨wr.heap.size, 1, none⟩) (by simp)).trans x1))
            have hlen : (puts d (ps.take q)).length = d.length := puts_len (fun p hp => HZ.out p (List.mem_of_mem_take hp))
            have hnew : (cu.toList.take (64 * N) ++ p.data.map bcell ++ cu.toList.drop (64 * N + 64)).take d.length = (puts d (ps.take (q + 1))).map bcell := by
              have h1 := over_take (cur := cu.toList) (d := puts d (ps.take q)) (x := p.data) (o := 64 * N) (by rw [hlen]; exact HTU.out) (by rw [hlen]; simpa using hcu) (by rw [hlen, hp2]; omega)
              rw [hlen, hp2] at h1
              rw [h1, puts_snoc hqp, ← HPE.out]
              unfold put1
              rw [hN, hp2]
              simp
            obtain ⟨nr, hnr⟩ : ∃ nr : Array Value, nr = (cu.toList.take (64 * N) ++ p.data.map bcell ++ cu.toList.drop (64 * N + 64)).toArray := ⟨_, rfl⟩
            rw [← hnr]
            have hsz6 : d.length ≤ nr.size := by rw [hnr]; simp [hp2]; omega
            have HNEW : Hid (nr.toList.take d.length = (puts d (ps.take (q + 1))).map bcell) := by rw [hnr]; exact hnew
            clear hnew hnr
            have hg6 := hgr.trans ((grownBy_below hb45 (some g)).trans (grownBy_setRow w5 g nr))
            have hr6 := setRow_heap w5 g cu nr 5 (0, 0) ((hb45.block g hgq).trans hru)
            go_wp2
            go_roundw
            case rel => exact ⟨q + 1, nr, by omega, by go_num, hg6, hr6, hsz6, HNEW.out⟩
            case measure => simp [intOf]; omega
          · have hqM2 : decide ((q : Int) < (M : Int)) = false := by simp; omega
            have hqe : q = M := by omega
            have ND : (some D : Option Nat) ≠ some g := by intro e; have := Option.some.inj e; omega
            have N6 : (some (w.heap.size + 1) : Option Nat) ≠ some g := by intro e; have := Option.some.inj e; omega
            have rD : wr.cell? ⟨D, 0, none⟩ = some (.slice (some ⟨g, 0, none⟩) d.length c2) := hgr.cell (a := ⟨D, 0, none⟩) cD ND
            have r6 : wr.cell? ⟨w.heap.size + 1, 0, none⟩ = some (.slice none 0 0) := hgr.cell (a := ⟨w.heap.size + 1, 0, none⟩) c6 N6
            have k6 : wr.frozen? ⟨w.heap.size + 1, 0, none⟩ = false := (World.frozen?_of_block (w := w3) (hgr.block (w.heap.size + 1) (by omega) N6)).trans d6
            go_wp2
            have z0 : (wr.setCell ⟨w.heap.size + 1, 0, none⟩ (.slice (some ⟨g, 0, none⟩) d.length c2)).cell? ⟨w.heap.size + 1, 0, none⟩ = some (.slice (some ⟨g, 0, none⟩) d.length c2) := World.cell?_setCell_same _ _ _ r6
            have hlen : R.length = d.length := by rw [HRR.out]; exact puts_len (fun p hp => HZ.out p (List.mem_of_mem_take hp))
            try simp only [Exit.inBlock, Exit.then]
            refine bodyPost_ret (v := .tuple #[.agg #[.slice (some ⟨g, 0, none⟩) d.length c2], .int .i64 0]) (by simp [results, Try.results26, go_sem, z0]) rfl ⟨_, rfl, ?_, ?_⟩
            · refine ⟨some ⟨g, 0, none⟩, c2, by rw [hlen], by rw [hlen]; exact hlc2, hcm2, (by intro e; cases e), .inr ⟨g, cu, rfl, by omega, ?_, by rw [hlen]; exact hcu, ?_⟩⟩
              · exact (Below.heap_setCell wr ⟨w.heap.size + 1, 0, none⟩ _ g (by show g ≠ w.heap.size + 1; omega)).trans hru
              · rw [hlen, HTU.out, HRR.out, hqe]
            · exact (HB3.out.grown hgr (by omega) (fun k hk => by cases hk; omega)).setCell (by simp) _
      · have hcut2 : cutOk ps.length m = false := by simpa using hcut
        have hE : E = 2 := by rw [HE.out]; unfold doE; rw [if_neg (by rw [HK.out]; decide), if_neg (by rw [HZ2.out]; simp), if_pos hcut2]
        have hRn : R = [] := by rw [HR.out]; unfold doB; rw [← HE.out, hE, if_neg (by decide)]
        subst hE hRn
        clear hcut
        go_wp2_with (go_at_call 61; refine (mayCut_any _ ps.length pc m _).mono ?_; rintro e w' ⟨rfl, rfl⟩; rw [hcut2])
        have z0 : (wr.setCell ⟨w.heap.size + 1, 0, none⟩ (.slice none 0 0)).cell? ⟨w.heap.size + 1, 0, none⟩ = some (.slice none 0 0) := World.cell?_setCell_same _ _ _ y6
        try simp only [Exit.inBlock, Exit.then]
        refine bodyPost_ret (v := .tuple #[.agg #[.slice none 0 0], .int .i64 2]) (by simp [results, Try.results26, go_sem, z0]) rfl ⟨_, rfl, Fresh.nil _ _, ?_⟩
        exact hb0.setCell (by simp) _
end Go.Proofs.Ytgfhjkphdmkmoab
