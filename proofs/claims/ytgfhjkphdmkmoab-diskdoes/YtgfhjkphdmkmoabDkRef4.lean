/-
  Contract of the document's Do.
-/
import Derived.Test.YtgfhjkphdmkmoabDkRef3
namespace Go.Proofs.Ytgfhjkphdmkmoab
open Go.RowKit
set_option linter.unusedSimpArgs false
set_option linter.unusedVariables false
set_option maxRecDepth 100000

/-- a block of which the first j bytes are written -/
def part1 (L : List UInt8) (p : Pt) (N j : Nat) : List UInt8 := L.take (64 * N) ++ p.data.take j ++ L.drop (64 * N + j)
theorem part1_zero (L : List UInt8) (p : Pt) (N : Nat) : part1 L p N 0 = L := by simp [part1]
theorem part1_all {L : List UInt8} {p : Pt} {N : Nat} (h : p.data.length = 64) (hN : p.n = (N : Int)) : part1 L p N 64 = put1 L p := by
  unfold part1 put1
  have e : p.data.take 64 = p.data := List.take_of_length_le (by omega)
  rw [hN, h, e]
  simp
theorem part1_len {L : List UInt8} {p : Pt} {N j : Nat} (h : p.data.length = 64) (hl : 64 * N + 64 ≤ L.length) (hj : j ≤ 64) : (part1 L p N j).length = L.length := by
  simp [part1]; omega
theorem part1_set {L : List UInt8} {p : Pt} {N j : Nat} (h : p.data.length = 64) (hl : 64 * N + 64 ≤ L.length) (hj : j < 64) : (part1 L p N j).set (64 * N + j) (p.data[j]'(by omega)) = part1 L p N (j + 1) := by
  unfold part1
  have e1 : L.drop (64 * N + j) = L[64 * N + j]'(by omega) :: L.drop (64 * N + (j + 1)) := by
    rw [List.drop_eq_getElem_cons (by omega)]; rfl
  have e2 : p.data.take (j + 1) = p.data.take j ++ [p.data[j]'(by omega)] := List.take_succ_eq_append_getElem (by omega)
  rw [e1, e2, List.set_append_right _ _ (by simp; omega)]
  have e3 : 64 * N + j - (L.take (64 * N) ++ p.data.take j).length = 0 := by simp; omega
  rw [e3]
  simp only [List.set_cons_zero, List.append_assoc, List.cons_append, List.nil_append]

/-- Do, of no disk that may be -/
theorem rdo_bad (w : World) (ao : Option Addr) (d : List UInt8) (cap : Nat) (hL : d.length ≤ 9223372036854775807) (po : Option Addr) (ps : List Pt) (pc : Nat) (hpm : ps.length ≤ 9223372036854775807) (m : Int) (k1 : dOk d.length = false) :
    Calls Try.prog 38 #[.agg #[.slice ao d.length cap], .slice po ps.length pc, .int .i64 m] w fun e w' => ∃ v', e = .returned (.tuple #[.agg #[v'], .int .i64 (doE d.length ps m)]) ∧ Fresh w' w.heap.size v' (doB d ps m) ∧ Below w.heap.size w w' := by
  have e1 : dE d.length = 20 := by unfold dE; rw [if_neg (by simp [k1])]
  have e2 : doE d.length ps m = 20 := by unfold doE; rw [if_pos k1]
  have e3 : doB d ps m = [] := by unfold doB; rw [if_neg (by rw [e2]; decide)]
  rw [e2, e3]
  have hc := fun W => rcheck_any ao d.length cap W hL
  rw [e1] at hc
  clear e1 e2 e3 k1
  go_enter Try.func38, Try.ntmps38
  go_wp2_with (go_at_call 40; refine (hc _).mono ?_; rintro e w1 ⟨rfl, hb1⟩; have hc1 := below_cells hb1; have hf1 := below_frozen hb1)
  refine wp_loop_rounds 1 ?_
  rw [rounds_succ]
  have z : w1.cell? ⟨w.heap.size + 1, 0, none⟩ = some (.slice none 0 0) := by rw [hc1 _ _ (by simp)]; simp
  have f : w1.frozen? ⟨w.heap.size + 1, 0, none⟩ = false := by rw [hf1 _ _ (by simp)]; simp
  have z0 : (w1.setCell ⟨w.heap.size + 1, 0, none⟩ (.slice none 0 0)).cell? ⟨w.heap.size + 1, 0, none⟩ = some (.slice none 0 0) := World.cell?_setCell_same _ _ _ z
  by_cases g0 : (0 : Int) < (ps.length : Int)
  · go_wp2
    try simp only [Exit.inBlock, Exit.then]
    refine bodyPost_ret (v := .tuple #[.agg #[.slice none 0 0], .int .i64 20]) (by simp [results, Try.results38, go_sem, z0]) rfl ⟨_, rfl, Fresh.nil _ _, ?_⟩
    exact (below_alloc (below_alloc hb1)).setCell (by simp) _
  · have g1 : decide ((0 : Int) < (ps.length : Int)) = false := decide_eq_false g0
    go_wp2
    try simp only [Exit.inBlock, Exit.then]
    refine bodyPost_ret (v := .tuple #[.agg #[.slice none 0 0], .int .i64 20]) (by simp [results, Try.results38, go_sem, z0]) rfl ⟨_, rfl, Fresh.nil _ _, ?_⟩
    exact (below_alloc (below_alloc hb1)).setCell (by simp) _

set_option maxHeartbeats 2000000 in
theorem rdo_good (w : World) (B : Nat) (ao : Option Addr) (d : List UInt8) (cap : Nat) (hb : BsAt w B ao d) (hlc : d.length ≤ cap) (hcm : cap ≤ 9223372036854775807) (h3 : ao = none → cap = 0) (hB : B ≤ w.heap.size)
    (b off : Nat) (ps : List Pt) (pc : Nat) (hbl : b < B) (hps : ∀ i (hi : i < ps.length), PtLies w B b (off + i * 2) ps[i]) (hpl : ps.length ≤ pc) (hpc : pc ≤ 9223372036854775807) (m : Int) (k1 : dOk d.length = true) :
    Calls Try.prog 38 #[.agg #[.slice ao d.length cap], .slice (some ⟨b, off, none⟩) ps.length pc, .int .i64 m] w fun e w' => ∃ v', e = .returned (.tuple #[.agg #[v'], .int .i64 (doE d.length ps m)]) ∧ Fresh w' w.heap.size v' (doB d ps m) ∧ Below w.heap.size w w' := by
  have HN : Hid (ao = none → cap = 0) := h3
  have HP : Hid (∀ i (hi : i < ps.length), PtLies w B b (off + i * 2) ps[i]) := hps
  clear h3 hps
  have hL : d.length ≤ 9223372036854775807 := by omega
  have e1 : dE d.length = 0 := by unfold dE; rw [if_pos k1]
  have hc := fun W => rcheck_any ao d.length cap W hL
  rw [e1] at hc
  have HK : Hid (dOk d.length = true) := k1
  clear e1 k1
  obtain ⟨E, hE⟩ : ∃ E, E = doE d.length ps m := ⟨_, rfl⟩
  obtain ⟨R, hR⟩ : ∃ R, R = doB d ps m := ⟨_, rfl⟩
  rw [← hE, ← hR]
  have HE : Hid (E = doE d.length ps m) := hE
  have HR : Hid (R = doB d ps m) := hR
  clear hE hR
  go_enter Try.func38, Try.ntmps38
  go_wp2_with (go_at_call 40; refine (hc _).mono ?_; rintro e w1 ⟨rfl, hb1⟩; have hc1 := below_cells hb1; have hf1 := below_frozen hb1; have hs1 := hb1.size)
  have z3 : w1.cell? ⟨w.heap.size, 0, none⟩ = some (.slice ao d.length cap) := by rw [hc1 _ _ (by simp; omega)]; simp
  have z6 : w1.cell? ⟨w.heap.size + 1, 0, none⟩ = some (.slice none 0 0) := by rw [hc1 _ _ (by simp)]; simp
  have f6 : w1.frozen? ⟨w.heap.size + 1, 0, none⟩ = false := by rw [hf1 _ _ (by simp)]; simp
  have hs1' : w.heap.size + 2 ≤ w1.heap.size := by simpa using hs1
  have HB1 : Hid (Below w.heap.size w w1) := below_alloc (below_alloc hb1)
  clear hc hc1 hf1 hs1 hb1
  go_loopw [8, 9] (fun e i wr => ∃ (k : Nat) (x : Int), k ≤ ps.length ∧ i = .int .i64 k ∧ e = .int .i64 x ∧ Below w1.heap.size w1 wr ∧ ((x = 0 ∧ ∀ i (hi : i < ps.length), i < k → ptE d.length ps[i] = 0) ∨ (x ≠ 0 ∧ ptsE d.length ps = x))) (fun e i _ => 2 * (ps.length - (intOf i).toNat) + (if intOf e = 0 then 1 else 0))
  case atStart => exact ⟨0, 0, Nat.zero_le _, rfl, rfl, Below.refl _ _, .inl ⟨rfl, fun _ _ h => absurd h (by omega)⟩⟩
  case round =>
    obtain ⟨k, x, hk, rfl, rfl, hbr, hst⟩ := hrel
    have y3 : wr.cell? ⟨w.heap.size, 0, none⟩ = some (.slice ao d.length cap) := (hbr.cell (p := ⟨w.heap.size, 0, none⟩) (by show w.heap.size < _; omega)).trans z3
    have y6 : wr.cell? ⟨w.heap.size + 1, 0, none⟩ = some (.slice none 0 0) := (hbr.cell (p := ⟨w.heap.size + 1, 0, none⟩) (by show w.heap.size + 1 < _; omega)).trans z6
    have g6 : wr.frozen? ⟨w.heap.size + 1, 0, none⟩ = false := (hbr.frozen (p := ⟨w.heap.size + 1, 0, none⟩) (by show w.heap.size + 1 < _; omega)).trans f6
    have hsr := hbr.size
    have hx3 : w.heap.size < wr.heap.size := by omega
    have hx6 : w.heap.size + 1 < wr.heap.size := by omega
    have hb0 : Below w.heap.size w wr := HB1.out.trans (hbr.mono (by omega))
    rcases hst with ⟨rfl, hoks⟩ | ⟨hx0, hpt⟩
    · have HOK : Hid (∀ i (hi : i < ps.length), i < k → ptE d.length ps[i] = 0) := hoks
      clear hoks
      by_cases hlt : k < ps.length
      · have hlt2 : (k : Int) < (ps.length : Int) := by omega
        obtain ⟨p, hpe⟩ : ∃ p, p = ps[k] := ⟨_, rfl⟩
        have hLs := HP.out k hlt
        rw [← hpe] at hLs
        have HPE : Hid (p = ps[k]) := hpe
        clear hpe
        obtain ⟨q0, v, q1, a1, c1, rfl, -, -, -, -⟩ := hLs
        have hbl2 : b < wr.heap.size := by omega
        have r0 : wr.drew.cell? ⟨b, off + k * 2, none⟩ = some (.int .i64 p.n) := (hb0.cell (p := ⟨b, off + k * 2, none⟩) (by show b < _; omega)).trans q0
        have r1 : wr.drew.cell? ⟨b, off + k * 2 + 1, none⟩ = some (.slice a1 p.data.length c1) := (hb0.cell (p := ⟨b, off + k * 2 + 1, none⟩) (by show b < _; omega)).trans q1
        have r3 : wr.drew.cell? ⟨w.heap.size, 0, none⟩ = some (.slice ao d.length cap) := y3
        clear q0 q1
        obtain ⟨x, hxe⟩ : ∃ x, x = ptE d.length p := ⟨_, rfl⟩
        have hask := asked_any ao d.length cap p.n a1 p.data.length c1 p rfl rfl wr.drew hL
        rw [← hxe] at hask
        have HXE : Hid (x = ptE d.length p) := hxe
        clear hxe
        go_wp2
        go_region_held3 (fun W => W.cell? ⟨w.heap.size, 0, none⟩ = some (.slice ao d.length cap) ∧ W.cell? ⟨b, off + k * 2, none⟩ = some (.int .i64 p.n) ∧ W.cell? ⟨b, off + k * 2 + 1, none⟩ = some (.slice a1 p.data.length c1)) (first | exact ⟨r3, r0, r1⟩ | exact ⟨s3, s0, s1⟩)
          (first
            | (go_at_call 65; refine hask.mono ?_; rintro e w2 ⟨rfl, hb2⟩; have s0 := (hb2.cell (p := ⟨b, off + k * 2, none⟩) hbl2).trans r0; have s1 := (hb2.cell (p := ⟨b, off + k * 2 + 1, none⟩) hbl2).trans r1; have s3 := (hb2.cell (p := ⟨w.heap.size, 0, none⟩) hx3).trans r3))
        go_wp2
        go_roundw
        case rel =>
          refine ⟨k + 1, x, by omega, by go_num, rfl, hbr.trans (((Below.refl _ _).drew.trans hb2).mono hsr), ?_⟩
          by_cases hz : x = 0
          · refine .inl ⟨hz, fun i hi h => ?_⟩
            by_cases e : i = k
            · subst e; rw [← HPE.out, ← HXE.out]; exact hz
            · exact HOK.out i hi (by omega)
          · refine .inr ⟨hz, ?_⟩
            have h1 := ptsE_at hlt HOK.out (by rw [← HPE.out, ← HXE.out]; exact hz)
            rw [h1, ← HPE.out, ← HXE.out]
        case measure =>
          by_cases hz : x = 0
          · simp [intOf, hz]; omega
          · simp [intOf, hz]; omega
      · have hlt2 : decide ((k : Int) < (ps.length : Int)) = false := by simp; omega
        have HZ : Hid (∀ p ∈ ps, ptE d.length p = 0) := by
          intro p hp
          obtain ⟨i, hi, rfl⟩ := List.mem_iff_getElem.1 hp
          exact HOK.out i hi (by omega)
        have HZ2 : Hid (ptsE d.length ps = 0) := ptsE_zero.2 HZ.out
        by_cases hcut : cutOk ps.length m = true
        · have hE : E = 0 := by rw [HE.out]; unfold doE; rw [if_neg (by rw [HK.out]; decide), if_neg (by rw [HZ2.out]; simp), if_neg (by rw [hcut]; decide)]
          have hRr : R = puts d (ps.take m.toNat) := by rw [HR.out]; unfold doB; rw [← HE.out, hE, if_pos rfl]
          subst hE
          have hm : 0 ≤ m ∧ m ≤ (ps.length : Int) := by simpa [cutOk] using hcut
          obtain ⟨M, rfl⟩ : ∃ M : Nat, m = (M : Int) := ⟨m.toNat, by omega⟩
          have hM : M ≤ ps.length := by omega
          have hRR : R = puts d (ps.take M) := by rw [hRr]; simp
          have HRR : Hid (R = puts d (ps.take M)) := hRR
          have hne : d ≠ [] := by intro e; have := HK.out; rw [e] at this; simp [dOk] at this
          have hM1 : decide ((ps.length : Int) < (M : Int)) = false := by simp; omega
          have hM0 : decide ((M : Int) < 0) = false := decide_eq_false (by omega)
          clear hRR hRr hm
          have hcall := twin_any wr ao d cap ⟨hlc, hcm, HN.out, (hb.below (hb0.mono hB) (Nat.le_trans hB hb0.size))⟩ (by have := HK.out; simp [dOk] at this; omega)
          go_wp2_with (go_at_call 33; refine hcall.mono ?_; rintro e w2 ⟨ro2, rc2, rfl, ho2, hb2⟩; obtain ⟨g, c2, cur, hv2, hgb, hrow, hcs, htk, hlc2, hcm2⟩ := ho2.row hne; cases hv2)
          have hg2 : g < w2.heap.size := (Array.getElem?_eq_some_iff.1 hrow).1
          obtain ⟨D, hD⟩ : ∃ D, D = w2.heap.size := ⟨_, rfl⟩
          obtain ⟨w3, hw3⟩ : ∃ w3, w3 = w2.alloc (Obj.cells #[Value.slice (some ⟨g, 0, none⟩) d.length rc2] 48) := ⟨_, rfl⟩
          rw [← hw3, ← hD]
          have hs3 : w3.heap.size = D + 1 := by rw [hw3, hD]; simp
          have hb3 : Below w2.heap.size w2 w3 := by rw [hw3]; exact (Below.refl _ _).alloc (Nat.le_refl _) _
          have cD : w3.cell? ⟨D, 0, none⟩ = some (.slice (some ⟨g, 0, none⟩) d.length rc2) := by rw [hw3, hD]; simp
          have hrow3 : w3.heap[g]? = some (.cells cur 5 (0, 0)) := (hb3.block g hg2).trans hrow
          rw [← hD] at hg2 hb3
          have hsz2 := hb2.size
          rw [← hD] at hsz2
          have HB3 : Hid (Below w.heap.size w w3) := (hb0.trans (hb2.mono (by omega))).trans (hb3.mono (by omega))
          have c6 : w3.cell? ⟨w.heap.size + 1, 0, none⟩ = some (.slice none 0 0) := (hb3.cell (p := ⟨w.heap.size + 1, 0, none⟩) (by show w.heap.size + 1 < _; omega)).trans ((hb2.cell (p := ⟨w.heap.size + 1, 0, none⟩) (by show w.heap.size + 1 < _; omega)).trans y6)
          have d6 : w3.frozen? ⟨w.heap.size + 1, 0, none⟩ = false := (hb3.frozen (p := ⟨w.heap.size + 1, 0, none⟩) (by show w.heap.size + 1 < _; omega)).trans ((hb2.frozen (p := ⟨w.heap.size + 1, 0, none⟩) (by show w.heap.size + 1 < _; omega)).trans g6)
          have hgw : w.heap.size + 1 < g := by omega
          have HTK : Hid (cur.toList.take d.length = d.map bcell) := htk
          have hdk : d.length ≤ 262144 := by have := HK.out; simp [dOk] at this; omega
          clear htk hcall hw3 hrow hb2 hb3 ho2 hbr y3 y6 g6 hx3 hx6 hb0 z3 z6 f6 hsr hs1' hD hgb hb HOK HB1 hlt hlt2 hk
          have ND : (some D : Option Nat) ≠ some g := by intro e; have := Option.some.inj e; omega
          have NB : (some b : Option Nat) ≠ some g := by intro e; have := Option.some.inj e; omega
          go_loopw [11] (fun i wq => ∃ (q : Nat) (cu : Array Value), q ≤ M ∧ i = .int .i64 q ∧ w3.grownBy wq (some g) ∧ wq.heap[g]? = some (.cells cu 5 (0, 0)) ∧ d.length ≤ cu.size ∧ cu.toList.take d.length = (puts d (ps.take q)).map bcell) (fun i _ => M - (intOf i).toNat)
          case atStart => exact ⟨0, cur, Nat.zero_le _, rfl, World.grownBy.refl _ _, hrow3, hcs, HTK.out⟩
          case round =>
            obtain ⟨q, cu, hq, rfl, hgr, hru, hcu, htu⟩ := hrel
            have HTU : Hid (cu.toList.take d.length = (puts d (ps.take q)).map bcell) := htu
            clear htu
            by_cases hqM : q < M
            · have hqM2 : (q : Int) < (M : Int) := by omega
              have hqp : q < ps.length := by omega
              obtain ⟨p, hpe⟩ : ∃ p, p = ps[q] := ⟨_, rfl⟩
              have hL := HP.out q hqp
              rw [← hpe] at hL
              have hpz := ptE_zero (HZ.out ps[q] (List.getElem_mem hqp))
              rw [← hpe] at hpz
              have HPE : Hid (p = ps[q]) := hpe
              clear hpe
              obtain ⟨hp0, hp1, hp2⟩ := hpz
              obtain ⟨N, hN⟩ : ∃ N : Nat, p.n = (N : Int) := ⟨p.n.toNat, by omega⟩
              obtain ⟨q0, v, q1, a1, c1, rfl, hlc1, hcm1, -, hbs⟩ := hL
              have hdne : p.data ≠ [] := by intro e; rw [e] at hp2; simp at hp2
              rcases hbs with hbs | ⟨ba, oa, rfl, hba, hcd⟩
              · exact absurd hbs hdne
              rw [hN] at q0 hp1
              rw [hp2] at q1 hlc1
              have hp1' : 64 * N + 64 ≤ d.length := by simpa using hp1
              have hbw : b < w.heap.size := by omega
              have NA : (some ba : Option Nat) ≠ some g := by intro e; have := Option.some.inj e; omega
              obtain ⟨L0, hL0⟩ : ∃ L0, L0 = puts d (ps.take q) := ⟨_, rfl⟩
              have hlen : L0.length = d.length := by rw [hL0]; exact puts_len (fun p hp => HZ.out p (List.mem_of_mem_take hp))
              have HL0 : Hid (puts d (ps.take (q + 1)) = part1 L0 p N 64) := by
                show _ = _
                rw [part1_all hp2 hN, hL0, puts_snoc hqp, HPE.out]
              have HTU2 : Hid (cu.toList.take d.length = L0.map bcell) := by show _ = _; rw [hL0]; exact HTU.out
              have HCD : Hid (∀ j (hj : j < p.data.length), w.cell? ⟨ba, oa + j, none⟩ = some (bcell p.data[j])) := hcd
              have hp264 : (64 : Nat) = p.data.length := hp2.symm
              have HLEN : Hid (L0.length = d.length) := hlen
              have HP2 : Hid (p.data.length = 64) := hp2
              clear HTU hL0 hcd hN hp264 hlen hp0 hp1 hdne hp2
              go_wp2
              go_loopw [12] (fun j wq => ∃ (t : Nat) (cv : Array Value), t ≤ 64 ∧ j = .int .i64 t ∧ w3.grownBy wq (some g) ∧ wq.heap[g]? = some (.cells cv 5 (0, 0)) ∧ d.length ≤ cv.size ∧ cv.toList.take d.length = (part1 L0 p N t).map bcell) (fun j _ => 64 - (intOf j).toNat)
              case atStart => exact ⟨0, cu, Nat.zero_le _, rfl, hgr, hru, hcu, by rw [part1_zero]; exact HTU2.out⟩
              case round =>
                obtain ⟨t, cv, ht, rfl, hgt, hrt, hct, htt⟩ := hrel
                have HTT : Hid (cv.toList.take d.length = (part1 L0 p N t).map bcell) := htt
                clear htt
                by_cases ht64 : t < 64
                · have ht2 : (t : Int) < 64 := by omega
                  have htl : t < p.data.length := by rw [HP2.out]; exact ht64
                  obtain ⟨y, hy⟩ : ∃ y, y = p.data[t] := ⟨_, rfl⟩
                  have q2 := HCD.out t htl
                  rw [← hy] at q2
                  unfold bcell at q2
                  have HY : Hid (y = p.data[t]) := hy
                  clear hy
                  have r0 : wr.drew.cell? ⟨b, off + q * 2, none⟩ = some (.int .i64 N) := hgt.cell (a := ⟨b, off + q * 2, none⟩) ((HB3.out.cell (p := ⟨b, off + q * 2, none⟩) hbw).trans q0) NB
                  have r1 : wr.drew.cell? ⟨b, off + q * 2 + 1, none⟩ = some (.slice (some ⟨ba, oa, none⟩) 64 c1) := hgt.cell (a := ⟨b, off + q * 2 + 1, none⟩) ((HB3.out.cell (p := ⟨b, off + q * 2 + 1, none⟩) hbw).trans q1) NB
                  have rD : wr.drew.cell? ⟨D, 0, none⟩ = some (.slice (some ⟨g, 0, none⟩) d.length rc2) := hgt.cell (a := ⟨D, 0, none⟩) cD ND
                  have r2 : wr.drew.cell? ⟨ba, oa + t, none⟩ = some (.int .u8 (y.toNat : Int)) := hgt.cell (a := ⟨ba, oa + t, none⟩) ((HB3.out.cell (p := ⟨ba, oa + t, none⟩) (by show ba < _; omega)).trans q2) NA
                  have hix : N * 64 + t < cv.size := by omega
                  have rg : wr.drew.cell? ⟨g, N * 64 + t, none⟩ = some cv[N * 64 + t] := (show wr.cell? ⟨g, N * 64 + t, none⟩ = _ by simp [World.cell?, hrt, hix])
                  have fg : wr.drew.frozen? ⟨g, N * 64 + t, none⟩ = false := (show wr.frozen? ⟨g, N * 64 + t, none⟩ = _ by simp [World.frozen?, hrt])
                  have hi2 : (N : Int) * 64 + (t : Int) < (d.length : Int) := by omega
                  have hN2 : (N : Int) ≤ 4096 := by omega
                  have hto : ((N : Int) * 64 + (t : Int)).toNat = N * 64 + t := by omega
                  have hi0 : (0 : Int) ≤ (N : Int) * 64 + (t : Int) := by omega
                  have hw1 : IntKind.i64.wrap ((N : Int) * 64) = (N : Int) * 64 := by simp [IntKind.wrap, IntKind.bits, IntKind.signed]; omega
                  have hw2 : IntKind.i64.wrap ((N : Int) * 64 + (t : Int)) = (N : Int) * 64 + (t : Int) := by simp [IntKind.wrap, IntKind.bits, IntKind.signed]; omega
                  have u0 : ∀ V, (wr.drew.setCell ⟨g, N * 64 + t, none⟩ V).cell? ⟨b, off + q * 2, none⟩ = some (.int .i64 N) := fun V => (World.cell?_setCell_other _ _ _ _ (fun e => NB (congrArg (fun z : Addr => some z.block) e.symm))).trans r0
                  have u1 : ∀ V, (wr.drew.setCell ⟨g, N * 64 + t, none⟩ V).cell? ⟨b, off + q * 2 + 1, none⟩ = some (.slice (some ⟨ba, oa, none⟩) 64 c1) := fun V => (World.cell?_setCell_other _ _ _ _ (fun e => NB (congrArg (fun z : Addr => some z.block) e.symm))).trans r1
                  have uD : ∀ V, (wr.drew.setCell ⟨g, N * 64 + t, none⟩ V).cell? ⟨D, 0, none⟩ = some (.slice (some ⟨g, 0, none⟩) d.length rc2) := fun V => (World.cell?_setCell_other _ _ _ _ (fun e => ND (congrArg (fun z : Addr => some z.block) e.symm))).trans rD
                  have u2 : ∀ V, (wr.drew.setCell ⟨g, N * 64 + t, none⟩ V).cell? ⟨ba, oa + t, none⟩ = some (.int .u8 (y.toNat : Int)) := fun V => (World.cell?_setCell_other _ _ _ _ (fun e => NA (congrArg (fun z : Addr => some z.block) e.symm))).trans r2
                  go_wp2
                  go_region_held3 (fun W => W.cell? ⟨D, 0, none⟩ = some (.slice (some ⟨g, 0, none⟩) d.length rc2) ∧ W.cell? ⟨b, off + q * 2, none⟩ = some (.int .i64 N) ∧ W.cell? ⟨b, off + q * 2 + 1, none⟩ = some (.slice (some ⟨ba, oa, none⟩) 64 c1) ∧ W.cell? ⟨ba, oa + t, none⟩ = some (.int .u8 (y.toNat : Int))) (first | exact ⟨rD, r0, r1, r2⟩ | exact ⟨uD _, u0 _, u1 _, u2 _⟩) (first | fail)
                  have hrow5 := heap_setCell_same wr g (N * 64 + t) cv 5 (.int .u8 (y.toNat : Int)) hrt
                  have hgt5 : w3.grownBy (wr.setCell ⟨g, N * 64 + t, none⟩ (.int .u8 (y.toNat : Int))) (some g) := hgt.trans (grown_set wr g (N * 64 + t) _)
                  have htk5 : (cv.setIfInBounds (N * 64 + t) (.int .u8 (y.toNat : Int))).toList.take d.length = (part1 L0 p N (t + 1)).map bcell := by
                    rw [Array.toList_setIfInBounds, List.take_set, HTT.out]
                    have h1 := part1_set (L := L0) (p := p) (N := N) (j := t) HP2.out (by rw [HLEN.out]; exact hp1') ht64
                    rw [← h1, List.map_set, Nat.mul_comm N 64, ← HY.out]
                    rfl
                  have HTK5 : Hid ((cv.setIfInBounds (N * 64 + t) (.int .u8 (y.toNat : Int))).toList.take d.length = (part1 L0 p N (t + 1)).map bcell) := htk5
                  have hsz5 : d.length ≤ (cv.setIfInBounds (N * 64 + t) (.int .u8 (y.toNat : Int))).size := by simpa using hct
                  clear htk5
                  go_wp2
                  go_roundw
                  case rel => exact ⟨t + 1, _, by omega, by go_num, ⟨hgt5.os, hgt5.tape, hgt5.output, hgt5.size, hgt5.block⟩, hrow5, hsz5, HTK5.out⟩
                  case measure => simp [intOf]; omega
                · have ht2 : decide ((t : Int) < 64) = false := by simp; omega
                  have hte : t = 64 := by omega
                  have HTQ : Hid (cv.toList.take d.length = (puts d (ps.take (q + 1))).map bcell) := by
                    show _ = _
                    rw [HL0.out, ← hte]; exact HTT.out
                  clear hte
                  go_wp2
                  go_roundw
                  case rel => exact ⟨q + 1, cv, by omega, by go_num, hgt, hrt, hct, HTQ.out⟩
                  case measure => simp [intOf]; omega
            · have hqM2 : decide ((q : Int) < (M : Int)) = false := by simp; omega
              have hqe : q = M := by omega
              have N6 : (some (w.heap.size + 1) : Option Nat) ≠ some g := by intro e; have := Option.some.inj e; omega
              have rD : wr.cell? ⟨D, 0, none⟩ = some (.slice (some ⟨g, 0, none⟩) d.length rc2) := hgr.cell (a := ⟨D, 0, none⟩) cD ND
              have r6 : wr.cell? ⟨w.heap.size + 1, 0, none⟩ = some (.slice none 0 0) := hgr.cell (a := ⟨w.heap.size + 1, 0, none⟩) c6 N6
              have k6 : wr.frozen? ⟨w.heap.size + 1, 0, none⟩ = false := (World.frozen?_of_block (w := w3) (hgr.block (w.heap.size + 1) (by omega) N6)).trans d6
              go_wp2
              have z0 : (wr.setCell ⟨w.heap.size + 1, 0, none⟩ (.slice (some ⟨g, 0, none⟩) d.length rc2)).cell? ⟨w.heap.size + 1, 0, none⟩ = some (.slice (some ⟨g, 0, none⟩) d.length rc2) := World.cell?_setCell_same _ _ _ r6
              have hlen : R.length = d.length := by rw [HRR.out]; exact puts_len (fun p hp => HZ.out p (List.mem_of_mem_take hp))
              try simp only [Exit.inBlock, Exit.then]
              refine bodyPost_ret (v := .tuple #[.agg #[.slice (some ⟨g, 0, none⟩) d.length rc2], .int .i64 0]) (by simp [results, Try.results38, go_sem, z0]) rfl ⟨_, rfl, ?_, ?_⟩
              · refine ⟨some ⟨g, 0, none⟩, rc2, by rw [hlen], by rw [hlen]; exact hlc2, hcm2, (by intro e; cases e), .inr ⟨g, cu, rfl, by omega, ?_, by rw [hlen]; exact hcu, ?_⟩⟩
                · exact (Below.heap_setCell wr ⟨w.heap.size + 1, 0, none⟩ _ g (by show g ≠ w.heap.size + 1; omega)).trans hru
                · rw [hlen, HTU.out, HRR.out, hqe]
              · exact (HB3.out.grown hgr (by omega) (fun k hk => by cases hk; omega)).setCell (by simp) _
        · have hcut2 : cutOk ps.length m = false := by simpa using hcut
          have hE : E = 2 := by rw [HE.out]; unfold doE; rw [if_neg (by rw [HK.out]; decide), if_neg (by rw [HZ2.out]; simp), if_pos hcut2]
          have hRn : R = [] := by rw [HR.out]; unfold doB; rw [← HE.out, hE, if_neg (by decide)]
          subst hE hRn
          have hmm : m < 0 ∨ (ps.length : Int) < m := by simp [cutOk] at hcut2; omega
          clear hcut hcut2
          by_cases hm0 : m < 0
          · go_wp2
            have z0 : (wr.setCell ⟨w.heap.size + 1, 0, none⟩ (.slice none 0 0)).cell? ⟨w.heap.size + 1, 0, none⟩ = some (.slice none 0 0) := World.cell?_setCell_same _ _ _ y6
            try simp only [Exit.inBlock, Exit.then]
            refine bodyPost_ret (v := .tuple #[.agg #[.slice none 0 0], .int .i64 2]) (by simp [results, Try.results38, go_sem, z0]) rfl ⟨_, rfl, Fresh.nil _ _, ?_⟩
            exact hb0.setCell (by simp) _
          · have hm00 : decide (m < 0) = false := by simp; omega
            have hm1 : (ps.length : Int) < m := by omega
            go_wp2
            have z0 : (wr.setCell ⟨w.heap.size + 1, 0, none⟩ (.slice none 0 0)).cell? ⟨w.heap.size + 1, 0, none⟩ = some (.slice none 0 0) := World.cell?_setCell_same _ _ _ y6
            try simp only [Exit.inBlock, Exit.then]
            refine bodyPost_ret (v := .tuple #[.agg #[.slice none 0 0], .int .i64 2]) (by simp [results, Try.results38, go_sem, z0]) rfl ⟨_, rfl, Fresh.nil _ _, ?_⟩
            exact hb0.setCell (by simp) _
    · have hE : E = x := by
        rw [HE.out]
        unfold doE
        rw [if_neg (by rw [HK.out]; decide), hpt, if_pos hx0]
      have hRn : R = [] := by
        rw [HR.out]
        unfold doB
        rw [← HE.out, hE, if_neg hx0]
      subst hRn hE
      have hx1 : (E != 0) = true := by simpa using hx0
      have hx2 : (E == 0) = false := by simpa using hx0
      clear hpt hx0
      by_cases hlt : k < ps.length
      · have hlt2 : (k : Int) < (ps.length : Int) := by omega
        go_wp2
        have z0 : (wr.setCell ⟨w.heap.size + 1, 0, none⟩ (.slice none 0 0)).cell? ⟨w.heap.size + 1, 0, none⟩ = some (.slice none 0 0) := World.cell?_setCell_same _ _ _ y6
        try simp only [Exit.inBlock, Exit.then]
        refine bodyPost_ret (v := .tuple #[.agg #[.slice none 0 0], .int .i64 E]) (by simp [results, Try.results38, go_sem, z0]) rfl ⟨_, rfl, Fresh.nil _ _, ?_⟩
        exact hb0.setCell (by simp) _
      · have hlt2 : decide ((k : Int) < (ps.length : Int)) = false := by simp; omega
        go_wp2
        have z0 : (wr.setCell ⟨w.heap.size + 1, 0, none⟩ (.slice none 0 0)).cell? ⟨w.heap.size + 1, 0, none⟩ = some (.slice none 0 0) := World.cell?_setCell_same _ _ _ y6
        try simp only [Exit.inBlock, Exit.then]
        refine bodyPost_ret (v := .tuple #[.agg #[.slice none 0 0], .int .i64 E]) (by simp [results, Try.results38, go_sem, z0]) rfl ⟨_, rfl, Fresh.nil _ _, ?_⟩
        exact hb0.setCell (by simp) _
end Go.Proofs.Ytgfhjkphdmkmoab
