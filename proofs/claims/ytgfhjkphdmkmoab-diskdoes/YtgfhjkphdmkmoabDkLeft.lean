/-
  Contracts of Left, of any writes, and of Do, of any disk and writes.
-/
import Derived.Test.YtgfhjkphdmkmoabDkOwn
namespace Go.Proofs.Ytgfhjkphdmkmoab
open Go.RowKit
set_option linter.unusedSimpArgs false
set_option linter.unusedVariables false
set_option maxRecDepth 100000

set_option maxHeartbeats 1000000 in
theorem left_row (w : World) (B : Nat) (hB : B ≤ w.heap.size) (b off : Nat) (ps : List Pt) (pc : Nat) (hbl : b < B) (hps : ∀ i (hi : i < ps.length), PtLies w B b (off + i * 2) ps[i]) (hpl : ps.length ≤ pc) (hpc : pc ≤ 9223372036854775807) (hmany : ps.length ≤ 10000)
    (hroom : ∀ p ∈ ps, p.data.length ≤ 140737488355328) (m : Int) :
    Calls Try.prog 24 #[.slice (some ⟨b, off, none⟩) ps.length pc, .int .i64 m] w fun e w' => ∃ v', e = .returned (.tuple #[v', .int .i64 (leftE ps m)]) ∧ OwnPs w' w.heap.size v' (leftP ps m) ∧ Below w.heap.size w w' := by
  have HP : Hid (∀ i (hi : i < ps.length), PtLies w B b (off + i * 2) ps[i]) := hps
  have HR : Hid (∀ p ∈ ps, p.data.length ≤ 140737488355328) := hroom
  clear hps hroom
  by_cases hcut : cutOk ps.length m = true
  · have hm : 0 ≤ m ∧ m ≤ (ps.length : Int) := by simpa [cutOk] using hcut
    obtain ⟨M, rfl⟩ : ∃ M : Nat, m = (M : Int) := ⟨m.toNat, by omega⟩
    have hM : M ≤ ps.length := by omega
    have hE : leftE ps M = 0 := by unfold leftE; rw [if_neg (by rw [hcut]; decide)]
    have hR : leftP ps M = ps.drop M := by unfold leftP; rw [if_neg (by rw [hcut]; decide)]; simp
    rw [hE, hR]
    clear hE hR hm
    obtain ⟨i0, hi, hz0, hz1, hz2⟩ := info_parts Try.infoPut
    by_cases hpM : pc = M
    · subst hpM
      go_enter Try.func24, Try.ntmps24
      go_wp2_with (first
        | (go_at_call 61; refine (mayCut_any _ ps.length pc pc _).mono ?_; rintro e w' ⟨rfl, rfl⟩; rw [hcut])
        | (refine wpList_make_own _ rfl (.const (.int .i64 0)) (.tmp 16) 55 rfl w.heap.size 77 i0 _ 2 Try.underlying55 hi hz0 hz1 .i64 .i64 _ (ps.length - pc) rfl rfl (by omega) (by rw [hz2]; omega) (by unfold maxLen; omega) (Nat.le_refl _) ?_; intro w1 ho1 hg1))
      have hsub : decide ((0 : Int) < ((ps.length - pc : Nat) : Int)) = false := by simp; omega
      refine wp_loop_rounds 1 ?_
      rw [rounds_succ]
      go_wp2
      go_ret2
      have hd : ps.drop pc = [] := by rw [show pc = ps.length by omega]; simp
      rw [hd]
      rw [show ps.length - pc = 0 by omega] at ho1
      exact ⟨_, rfl, ⟨[], rfl, ho1, fun i hi => by simp at hi⟩, (Below.refl _ _).grown hg1 (Nat.le_refl _) (fun k hk => by cases hk)⟩
    · go_enter Try.func24, Try.ntmps24
      go_wp2_with (first
        | (go_at_call 61; refine (mayCut_any _ ps.length pc M _).mono ?_; rintro e w' ⟨rfl, rfl⟩; rw [hcut])
        | (refine wpList_make_own _ rfl (.const (.int .i64 0)) (.tmp 16) 55 rfl w.heap.size 77 i0 _ 2 Try.underlying55 hi hz0 hz1 .i64 .i64 _ (ps.length - M) rfl rfl (by omega) (by rw [hz2]; omega) (by unfold maxLen; omega) (Nat.le_refl _) ?_; intro w1 ho1 hg1))
      have hb1 : Below w.heap.size w w1 := (Below.refl _ _).grown hg1 (Nat.le_refl _) (fun k hk => by cases hk)
      have hop : OwnPs w1 w.heap.size (.slice (some ⟨w.heap.size, 0, none⟩) 0 (ps.length - M)) [] := ⟨[], rfl, ho1, fun i hi => by simp at hi⟩
      clear hz0 hz1 hz2 hi i0 hg1 ho1
      go_loopw [6, 22] (fun u i wr => ∃ q : Nat, q ≤ ps.length - M ∧ i = .int .i64 q ∧ OwnPs wr w.heap.size u ((ps.drop M).take q) ∧ Below w.heap.size w wr) (fun _ i _ => (ps.length - M) - (intOf i).toNat)
      case atStart => exact ⟨0, Nat.zero_le _, rfl, by simpa using hop, hb1⟩
      case round =>
        obtain ⟨q, hq, rfl, how, hbr⟩ := hrel
        clear hop hb1
        have hsr := hbr.size
        by_cases hqT : q < ps.length - M
        · have hqT2 : (q : Int) < ((ps.length - M : Nat) : Int) := by omega
          have hqp : M + q < ps.length := by omega
          obtain ⟨p, hpe⟩ : ∃ p, p = ps[M + q] := ⟨_, rfl⟩
          have hL := HP.out (M + q) hqp
          have hroom := HR.out ps[M + q] (List.getElem_mem hqp)
          rw [← hpe] at hL hroom
          have HPE : Hid (p = ps[M + q]) := hpe
          clear hpe
          rw [show off + (M + q) * 2 = off + M * 2 + q * 2 by omega] at hL
          obtain ⟨q0, v, q1, a1, c1, rfl, hlc1, hcm1, hn1, hbs⟩ := hL
          have hbw : b < w.heap.size := by omega
          have hbq : b < wr.heap.size := by omega
          have r0 : wr.cell? ⟨b, off + M * 2 + q * 2, none⟩ = some (.int .i64 p.n) := (hbr.cell (p := ⟨b, off + M * 2 + q * 2, none⟩) hbw).trans q0
          have r1 : wr.cell? ⟨b, off + M * 2 + q * 2 + 1, none⟩ = some (.slice a1 p.data.length c1) := (hbr.cell (p := ⟨b, off + M * 2 + q * 2 + 1, none⟩) hbw).trans q1
          have hb4 : Below wr.heap.size wr (wr.alloc (Obj.cells #[Value.int IntKind.i64 p.n, Value.slice a1 p.data.length c1] 77)).drew := ((Below.refl _ _).alloc (Nat.le_refl _) _).drew
          have x0 : (wr.alloc (Obj.cells #[Value.int IntKind.i64 p.n, Value.slice a1 p.data.length c1] 77)).drew.cell? ⟨wr.heap.size, 0, none⟩ = some (.int .i64 p.n) := by simp
          have x1 : (wr.alloc (Obj.cells #[Value.int IntKind.i64 p.n, Value.slice a1 p.data.length c1] 77)).drew.cell? ⟨wr.heap.size, 1, none⟩ = some (.slice a1 p.data.length c1) := by simp
          have hbs4 : BsAt (wr.alloc (Obj.cells #[Value.int IntKind.i64 p.n, Value.slice a1 p.data.length c1] 77)).drew B a1 p.data := (hbs.below (hbr.mono hB) (Nat.le_refl _)).below (hb4.mono (by omega)) (Nat.le_refl _)
          have HN1 : Hid (a1 = none → c1 = 0) := hn1
          have hlt : ∀ k, u6.ownBlock = some k → k < wr.heap.size := by obtain ⟨_, _, h2, _⟩ := how; exact fun k hk => (h2.lt k hk).2
          have HLT : Hid (∀ k, u6.ownBlock = some k → k < wr.heap.size) := hlt
          have NX : (some wr.heap.size : Option Nat) ≠ u6.ownBlock := fun e => by have := HLT.out _ e.symm; omega
          clear hn1 hlt q0 q1 hbs
          go_wp2
          go_region_held3 (fun W => W.cell? ⟨wr.heap.size, 0, none⟩ = some (.int .i64 p.n) ∧ W.cell? ⟨wr.heap.size, 1, none⟩ = some (.slice a1 p.data.length c1)) (first | exact ⟨x0, x1⟩ | exact ⟨t0, t1⟩ | exact ⟨z0 _, z1 _⟩ | exact ⟨y0, y1⟩)
            (first
              | (refine step_app_put (w0 := w5) (by rfl) (.tmp 26) (.tmp 33) (by rfl) w.heap.size _ _ how5 (by rfl) p _ hfb (by rfl) (by rfl) (by simp; omega) (by omega) ?_; intro v7 w7 ho7 hg7; have t0 := hg7.grown.cell y0 NX; have t1 := hg7.grown.cell y1 NX)
              | (go_at_call 59; refine (copied_any _ B a1 p.data c1 hbs4 HN1.out hroom).mono ?_; rintro e w5 ⟨v5, rfl, ho5, hb5⟩; have hb45 : Below wr.heap.size wr w5 := hb4.trans (hb5.mono (by simp)); have y0 := (hb5.cell (p := ⟨wr.heap.size, 0, none⟩) (by simp)).trans x0; have y1 := (hb5.cell (p := ⟨wr.heap.size, 1, none⟩) (by simp)).trans x1; have how5 := how.below hb45; have hs5 := hb45.size; have hx5 : wr.heap.size < w5.heap.size := (by have := hb5.size; simp at this; omega); have z0 : ∀ o, (w5.alloc o).cell? ⟨wr.heap.size, 0, none⟩ = some (.int .i64 p.n) := (fun o => (World.cell?_alloc_past o _ _ hx5).trans y0); have z1 : ∀ o, (w5.alloc o).cell? ⟨wr.heap.size, 1, none⟩ = some (.slice a1 p.data.length c1) := (fun o => (World.cell?_alloc_past o _ _ hx5).trans y1); have hfb := (ho5.but (r := u6.ownBlock) (fun k hk => by have := HLT.out k hk; simp; omega)).mono (base' := w.heap.size) (by simp; omega); obtain ⟨ao5, cap5, hv5, -⟩ := ho5; subst hv5))
          have hb7 : Below w.heap.size w w7 := (hbr.trans (hb45.mono hsr)).trans ((Below.refl _ _).grown hg7.grown (by omega) (fun k hk => by obtain ⟨_, _, h2, _⟩ := how5; exact (h2.lt k hk).1))
          have hsn : (ps.drop M).take q ++ [p] = (ps.drop M).take (q + 1) := by
            rw [List.take_succ_eq_append_getElem (by simp; omega), HPE.out]
            simp
          rw [hsn] at ho7
          clear hsn
          go_wp2
          go_roundw
          case rel => exact ⟨q + 1, by omega, by go_num, ho7, hb7⟩
          case measure => simp [intOf]; omega
        · have hqT2 : decide ((q : Int) < ((ps.length - M : Nat) : Int)) = false := by simp; omega
          have hqe : (ps.drop M).take q = ps.drop M := List.take_of_length_le (by simp; omega)
          rw [hqe] at how
          clear hqe
          go_wp2
          go_ret2
          exact ⟨_, rfl, how, hbr⟩
  · have hcut2 : cutOk ps.length m = false := by simpa using hcut
    have hE : leftE ps m = 2 := by unfold leftE; rw [if_pos hcut2]
    have hR : leftP ps m = [] := by unfold leftP; rw [if_pos hcut2]
    rw [hE, hR]
    clear hcut
    go_enter Try.func24, Try.ntmps24
    go_wp2_with (go_at_call 61; refine (mayCut_any _ ps.length pc m _).mono ?_; rintro e w' ⟨rfl, rfl⟩; rw [hcut2])
    go_ret2
    exact ⟨_, rfl, ⟨[], rfl, World.ownsRow_nil _ _ _ _, fun i hi => by simp at hi⟩, Below.refl _ _⟩

/-- no writes, wherever they don't lie -/
theorem left_none (w : World) (po : Option Addr) (pc : Nat) (hn : po = none → pc = 0) (hpc : pc ≤ 9223372036854775807) (m : Int) :
    Calls Try.prog 24 #[.slice po 0 pc, .int .i64 m] w fun e w' => ∃ v', e = .returned (.tuple #[v', .int .i64 (leftE [] m)]) ∧ OwnPs w' w.heap.size v' (leftP [] m) ∧ Below w.heap.size w w' := by
  by_cases hm : m = 0
  · subst hm
    have hcut : cutOk 0 0 = true := by decide
    have hE : leftE [] 0 = 0 := by decide
    have hR : leftP [] 0 = [] := by rfl
    rw [hE, hR]
    obtain ⟨i0, hi, hz0, hz1, hz2⟩ := info_parts Try.infoPut
    clear hn
    go_enter Try.func24, Try.ntmps24
    go_wp2_with (first
      | (go_at_call 61; refine (mayCut_any _ 0 pc 0 _).mono ?_; rintro e w' ⟨rfl, rfl⟩; rw [hcut])
      | (refine wpList_make_own _ rfl (.const (.int .i64 0)) (.tmp 16) 55 rfl w.heap.size 77 i0 _ 2 Try.underlying55 hi hz0 hz1 .i64 .i64 _ 0 rfl rfl (by rfl) (by rw [hz2]; omega) (by unfold maxLen; omega) (Nat.le_refl _) ?_; intro w1 ho1 hg1))
    all_goals
      refine wp_loop_rounds 1 ?_
      rw [rounds_succ]
      go_wp2
      go_ret2
      exact ⟨_, rfl, ⟨[], rfl, ho1, fun i hi => by simp at hi⟩, (Below.refl _ _).grown hg1 (Nat.le_refl _) (fun k hk => by cases hk)⟩
  · have hcut2 : cutOk 0 m = false := by simp [cutOk]; omega
    have hE : leftE [] m = 2 := by simp [leftE, hcut2]
    have hR : leftP [] m = [] := by simp [leftP, hcut2]
    rw [hE, hR]
    clear hm hn
    go_enter Try.func24, Try.ntmps24
    go_wp2_with (go_at_call 61; refine (mayCut_any _ 0 pc m _).mono ?_; rintro e w' ⟨rfl, rfl⟩; rw [hcut2])
    go_ret2
    exact ⟨_, rfl, ⟨[], rfl, World.ownsRow_nil _ _ _ _, fun i hi => by simp at hi⟩, Below.refl _ _⟩

theorem left_any (w : World) (B : Nat) (hB : B ≤ w.heap.size) (po : Option Addr) (ps : List Pt) (pc : Nat) (h : PtAt w B po ps) (hn : po = none → pc = 0) (hpl : ps.length ≤ pc) (hpc : pc ≤ 9223372036854775807) (hmany : ps.length ≤ 10000)
    (hroom : ∀ p ∈ ps, p.data.length ≤ 140737488355328) (m : Int) :
    Calls Try.prog 24 #[.slice po ps.length pc, .int .i64 m] w fun e w' => ∃ v', e = .returned (.tuple #[v', .int .i64 (leftE ps m)]) ∧ OwnPs w' w.heap.size v' (leftP ps m) ∧ Below w.heap.size w w' := by
  rcases h with rfl | ⟨b, off, rfl, hb, hc⟩
  · exact left_none w po pc hn hpc m
  · exact left_row w B hB b off ps pc hb hc hpl hpc hmany hroom m

set_option maxHeartbeats 1000000 in
theorem do_none (w : World) (B : Nat) (ao : Option Addr) (d : List UInt8) (cap : Nat) (hb : BsAt w B ao d) (hlc : d.length ≤ cap) (hcm : cap ≤ 9223372036854775807) (h3 : ao = none → cap = 0) (hB : B ≤ w.heap.size)
    (po : Option Addr) (pc : Nat) (hn : po = none → pc = 0) (hpc : pc ≤ 9223372036854775807) (m : Int) (k1 : dOk d.length = true) :
    Calls Try.prog 26 #[.agg #[.slice ao d.length cap], .slice po 0 pc, .int .i64 m] w fun e w' => ∃ v', e = .returned (.tuple #[.agg #[v'], .int .i64 (doE d.length [] m)]) ∧ Fresh w' w.heap.size v' (doB d [] m) ∧ Below w.heap.size w w' := by
  have HN : Hid (ao = none → cap = 0) := h3
  clear h3 hn
  have hL : d.length ≤ 9223372036854775807 := by omega
  have e1 : dE d.length = 0 := by unfold dE; rw [if_pos k1]
  have hc := fun W => check_any ao d.length cap W hL
  rw [e1] at hc
  have hne : d ≠ [] := by intro e; rw [e] at k1; simp [dOk] at k1
  have hroom : d.length ≤ 262144 := by simp [dOk] at k1; omega
  clear e1
  by_cases hm : m = 0
  · subst hm
    have hcut : cutOk 0 0 = true := by decide
    have hE : doE d.length [] 0 = 0 := by unfold doE; rw [if_neg (by rw [k1]; decide)]; simp [ptsE, cutOk]
    have hR : doB d [] 0 = d := by unfold doB; rw [if_pos hE]; rfl
    rw [hE, hR]
    clear hE hR k1
    go_enter Try.func26, Try.ntmps26
    go_wp2_with (go_at_call 29; refine (hc _).mono ?_; rintro e w1 ⟨rfl, hb1⟩; have hc1 := below_cells hb1; have hf1 := below_frozen hb1; have hs1 := hb1.size)
    have z3 : w1.cell? ⟨w.heap.size, 0, none⟩ = some (.slice ao d.length cap) := by rw [hc1 _ _ (by simp; omega)]; simp
    have z6 : w1.cell? ⟨w.heap.size + 1, 0, none⟩ = some (.slice none 0 0) := by rw [hc1 _ _ (by simp)]; simp
    have f6 : w1.frozen? ⟨w.heap.size + 1, 0, none⟩ = false := by rw [hf1 _ _ (by simp)]; simp
    have hs1' : w.heap.size + 2 ≤ w1.heap.size := by simpa using hs1
    have HB1 : Hid (Below w.heap.size w w1) := below_alloc (below_alloc hb1)
    clear hc hc1 hf1 hs1 hb1
    refine wp_loop_rounds 1 ?_
    rw [rounds_succ]
    have hcall := copied_any w1 B ao d cap (hb.below (HB1.out.mono hB) (Nat.le_refl _)) HN.out (by omega)
    go_wp2_with (first
      | (go_at_call 61; refine (mayCut_any _ 0 pc 0 _).mono ?_; rintro e w' ⟨rfl, rfl⟩; rw [hcut])
      | (go_at_call 59; refine hcall.mono ?_; rintro e w2 ⟨v2, rfl, ho2, hb2⟩; obtain ⟨g, c2, cur, hv2, hgb, hrow, hcs, htk, hlc2, hcm2⟩ := ho2.row hne; subst hv2))
    all_goals
      refine wp_loop_rounds 1 ?_
      rw [rounds_succ]
      have hg2 : g < w2.heap.size := (Array.getElem?_eq_some_iff.1 hrow).1
      have hs2 := hb2.size
      have hx6 : w.heap.size + 1 < w2.heap.size := by omega
      have y6 : w2.cell? ⟨w.heap.size + 1, 0, none⟩ = some (.slice none 0 0) := (hb2.cell (p := ⟨w.heap.size + 1, 0, none⟩) (by show w.heap.size + 1 < _; omega)).trans z6
      have g6 : w2.frozen? ⟨w.heap.size + 1, 0, none⟩ = false := (hb2.frozen (p := ⟨w.heap.size + 1, 0, none⟩) (by show w.heap.size + 1 < _; omega)).trans f6
      go_wp2
      have hgl : g < (w2.setCell ⟨w.heap.size + 1, 0, none⟩ (.slice (some ⟨g, 0, none⟩) d.length c2)).heap.size := by simpa using hg2
      have z0 : ((w2.setCell ⟨w.heap.size + 1, 0, none⟩ (.slice (some ⟨g, 0, none⟩) d.length c2)).alloc (Obj.cells #[Value.slice (some ⟨g, 0, none⟩) d.length c2] 48)).cell? ⟨w.heap.size + 1, 0, none⟩ = some (.slice (some ⟨g, 0, none⟩) d.length c2) := (World.cell?_alloc_past _ _ _ (by simpa using hx6)).trans (World.cell?_setCell_same _ _ _ y6)
      try simp only [Exit.inBlock, Exit.then]
      refine bodyPost_ret (v := .tuple #[.agg #[.slice (some ⟨g, 0, none⟩) d.length c2], .int .i64 0]) (by simp [results, Try.results26, go_sem, z0]) rfl ⟨_, rfl, ?_, ?_⟩
      · refine ⟨some ⟨g, 0, none⟩, c2, rfl, hlc2, hcm2, (by intro e; cases e), .inr ⟨g, cur, rfl, by omega, ?_, hcs, htk⟩⟩
        exact (Below.heap_alloc _ _ g hgl).trans ((Below.heap_setCell w2 ⟨w.heap.size + 1, 0, none⟩ _ g (by show g ≠ w.heap.size + 1; omega)).trans hrow)
      · exact ((HB1.out.trans (hb2.mono (by omega))).setCell (by simp) _).alloc (by simp; omega) _
  · have hcut2 : cutOk 0 m = false := by simp [cutOk]; omega
    have hE : doE d.length [] m = 2 := by unfold doE; rw [if_neg (by rw [k1]; decide)]; simp [ptsE, hcut2]
    have hR : doB d [] m = [] := by unfold doB; rw [hE, if_neg (by decide)]
    rw [hE, hR]
    clear hE hR k1 hm
    go_enter Try.func26, Try.ntmps26
    go_wp2_with (go_at_call 29; refine (hc _).mono ?_; rintro e w1 ⟨rfl, hb1⟩; have hc1 := below_cells hb1; have hf1 := below_frozen hb1; have hs1 := hb1.size)
    have z6 : w1.cell? ⟨w.heap.size + 1, 0, none⟩ = some (.slice none 0 0) := by rw [hc1 _ _ (by simp)]; simp
    have f6 : w1.frozen? ⟨w.heap.size + 1, 0, none⟩ = false := by rw [hf1 _ _ (by simp)]; simp
    refine wp_loop_rounds 1 ?_
    rw [rounds_succ]
    go_wp2_with (go_at_call 61; refine (mayCut_any _ 0 pc m _).mono ?_; rintro e w' ⟨rfl, rfl⟩; rw [hcut2])
    have z0 : (w1.setCell ⟨w.heap.size + 1, 0, none⟩ (.slice none 0 0)).cell? ⟨w.heap.size + 1, 0, none⟩ = some (.slice none 0 0) := World.cell?_setCell_same _ _ _ z6
    try simp only [Exit.inBlock, Exit.then]
    refine bodyPost_ret (v := .tuple #[.agg #[.slice none 0 0], .int .i64 2]) (by simp [results, Try.results26, go_sem, z0]) rfl ⟨_, rfl, Fresh.nil _ _, ?_⟩
    exact (below_alloc (below_alloc hb1)).setCell (by simp) _

theorem do_any (w : World) (B : Nat) (ao : Option Addr) (d : List UInt8) (cap : Nat) (hb : BsAt w B ao d) (hlc : d.length ≤ cap) (hcm : cap ≤ 9223372036854775807) (h3 : ao = none → cap = 0) (hB : B ≤ w.heap.size)
    (po : Option Addr) (ps : List Pt) (pc : Nat) (h : PtAt w B po ps) (hn : po = none → pc = 0) (hpl : ps.length ≤ pc) (hpc : pc ≤ 9223372036854775807) (m : Int) :
    Calls Try.prog 26 #[.agg #[.slice ao d.length cap], .slice po ps.length pc, .int .i64 m] w fun e w' => ∃ v', e = .returned (.tuple #[.agg #[v'], .int .i64 (doE d.length ps m)]) ∧ Fresh w' w.heap.size v' (doB d ps m) ∧ Below w.heap.size w w' := by
  by_cases k1 : dOk d.length = true
  · rcases h with rfl | ⟨b, off, rfl, hbl, hc⟩
    · exact do_none w B ao d cap hb hlc hcm h3 hB po pc hn hpc m k1
    · exact do_good w B ao d cap hb hlc hcm h3 hB b off ps pc hbl hc hpl hpc m k1
  · exact do_bad w ao d cap (by omega) po ps pc m (by simpa using k1)
end Go.Proofs.Ytgfhjkphdmkmoab
