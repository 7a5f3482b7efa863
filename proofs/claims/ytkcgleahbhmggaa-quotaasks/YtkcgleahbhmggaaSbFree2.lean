/-
  Contract of Free, the rest.
-/
import Derived.Test.YtkcgleahbhmggaaSbFree
namespace Go.Proofs.Ytkcgleahbhmggaa
open Go.RowKit
set_option linter.unusedSimpArgs false
set_option linter.unusedVariables false
set_option maxRecDepth 100000

/-- a page's own block on the way -/
structure PB (wq : World) (pb : Nat) (p : Pg) : Prop where
  p0 : wq.cell? ⟨pb, 0, none⟩ = some (.int .i64 p.t)
  p1 : wq.cell? ⟨pb, 1, none⟩ = some (.int .i64 p.c)
  p2 : wq.cell? ⟨pb, 2, none⟩ = some (.int .u16 (p.u : Int))
  f0 : wq.frozen? ⟨pb, 0, none⟩ = false
  f1 : wq.frozen? ⟨pb, 1, none⟩ = false
  f2 : wq.frozen? ⟨pb, 2, none⟩ = false
  lt : pb < wq.heap.size
theorem PB.step {wq wr : World} {pb : Nat} {p : Pg} (h : PB wq pb p) (hb : Below wq.heap.size wq wr) : PB wr pb p :=
  ⟨(below_cells hb _ 0 h.lt).trans h.p0, (below_cells hb _ 1 h.lt).trans h.p1, (below_cells hb _ 2 h.lt).trans h.p2, (below_frozen hb _ 0 h.lt).trans h.f0, (below_frozen hb _ 1 h.lt).trans h.f1, (below_frozen hb _ 2 h.lt).trans h.f2, Nat.lt_of_lt_of_le h.lt hb.size⟩
theorem TK.grown {w wq wr : World} {v : Value} {g : Nat} (h : TK w wq v) (hg : w.heap.size + 1 < g) (hgr : wq.grownBy wr (some g)) : TK w wr v :=
  ⟨h.below.grown hgr (by have := h.x0; omega) (fun k hk => by cases hk; omega),
   hgr.cell (a := ⟨w.heap.size, 0, none⟩) h.c0 (by intro e; have := Option.some.inj e; simp at this; omega),
   hgr.cell (a := ⟨w.heap.size + 1, 0, none⟩) h.c1 (by intro e; have := Option.some.inj e; simp at this; omega),
   (World.frozen?_of_block (w := wq) (hgr.block (w.heap.size + 1) h.x1 (by intro e; have := Option.some.inj e; omega))).trans h.f1,
   Nat.lt_of_lt_of_le h.x0 hgr.size, Nat.lt_of_lt_of_le h.x1 hgr.size⟩
theorem PB.setu {wq : World} {pb : Nat} {p q : Pg} (h : PB wq pb p) (ht : q.t = p.t) (hc : q.c = p.c) : PB (wq.setCell ⟨pb, 2, none⟩ (.int .u16 (q.u : Int))).drew pb q := by
  refine ⟨?_, ?_, ?_, ?_, ?_, ?_, ?_⟩
  · rw [ht]; exact (World.cell?_setCell_other _ _ _ _ (by simp)).trans h.p0
  · rw [hc]; exact (World.cell?_setCell_other _ _ _ _ (by simp)).trans h.p1
  · exact World.cell?_setCell_same _ _ _ h.p2
  · have := h.f0; simpa using this
  · have := h.f1; simpa using this
  · have := h.f2; simpa using this
  · have := h.lt; simpa using this
theorem PB.set3 {wq : World} {pb : Nat} {p : Pg} (h : PB wq pb p) : PB (((wq.setCell ⟨pb, 0, none⟩ (.int .i64 0)).setCell ⟨pb, 1, none⟩ (.int .i64 0)).setCell ⟨pb, 2, none⟩ (.int .u16 0)) pb pz := by
  refine ⟨?_, ?_, ?_, ?_, ?_, ?_, ?_⟩
  · rw [World.cell?_setCell_other _ _ _ _ (by simp), World.cell?_setCell_other _ _ _ _ (by simp)]; exact World.cell?_setCell_same _ _ _ h.p0
  · rw [World.cell?_setCell_other _ _ _ _ (by simp)]; exact World.cell?_setCell_same _ _ _ ((World.cell?_setCell_other _ _ _ _ (by simp)).trans h.p1)
  · exact World.cell?_setCell_same _ _ _ (((World.cell?_setCell_other _ _ _ _ (by simp)).trans (World.cell?_setCell_other _ _ _ _ (by simp))).trans h.p2)
  · have := h.f0; simpa using this
  · have := h.f1; simpa using this
  · have := h.f2; simpa using this
  · have := h.lt; simpa using this
set_option maxHeartbeats 1000000 in
theorem free_good (w : World) (ao : Option Addr) (ps : List Pg) (cap : Nat) (h : Sb w ao ps cap) (i k : Nat) (ho : sOk ps = true) (hi : i < ps.length) (he : hasK ps[i] k = true) :
    Calls Try.prog 28 #[.agg #[.slice ao ps.length cap], .int .i64 i, .int .i64 k] w fun e w' => ∃ v', e = .returned (.tuple #[.agg #[v'], .int .i64 0]) ∧ FreshS w' w.heap.size v' (ps.set i (given ps[i] k)) ∧ Below w.heap.size w w' := by
  have HCK := Hid.mk2 (fun W (hb : Below w.heap.size w W) => scheck_any W ao ps cap (h.below hb))
  rw [show sE ps = 0 by unfold sE; rw [ho]; rfl] at HCK
  have hlen := sOk_len ho
  have hpo := sOk_pg ho i hi
  have HSB := Hid.mk2 h
  obtain ⟨b, off, rfl, hbl, hcs⟩ := h.lies (by intro e; rw [e] at hlen; simp at hlen)
  have HC := Hid.mk2 (hcs i hi)
  obtain ⟨p, hp⟩ : ∃ p, p = ps[i] := ⟨_, rfl⟩
  rw [← hp] at hpo HC he ⊢
  have hch := fun W => chunksOf_any p.c W (pOk_c hpo)
  have hcl := chunks_le (pOk_c hpo)
  obtain ⟨hk0, hkN, hbt⟩ := hasK_lt hpo he
  rw [Int.toNat_natCast] at hbt
  have g1 : decide ((i : Int) < 0) = false := by simp
  have g2 : decide ((ps.length : Int) ≤ (i : Int)) = false := by simp; omega
  have g2n : decide (ps.length ≤ i) = false := by simp; omega
  obtain ⟨N, hN⟩ : ∃ N, N = chunks p.c := ⟨_, rfl⟩
  rw [← hN] at hch hcl hkN
  have h1 : decide ((k : Int) < 0) = false := by simp
  have h2 : decide ((N : Int) ≤ (k : Int)) = false := by simp; omega
  have h2n : decide (N ≤ k) = false := by simp; omega
  have hk16 : k < 16 := by omega
  have hus := fun W => isUsed_any p k W hk16
  rw [hbt] at hus
  have hbit := fun W => bit_any k W hk16
  obtain ⟨q, hq⟩ : ∃ q : Pg, q = ⟨p.t, p.c, p.u - 2 ^ k, Nat.lt_of_le_of_lt (Nat.sub_le _ _) p.hu⟩ := ⟨_, rfl⟩
  have hqt : q.t = p.t := by rw [hq]
  have hqc : q.c = p.c := by rw [hq]
  have hqu : q.u = p.u - 2 ^ k := by rw [hq]
  have hand : bits BinOp.andNot IntKind.u16 (p.u : Int) (2 ^ k) = (q.u : Int) := by
    have h := u16_andNot_nat p.u (2 ^ k) p.hu (pow_lt16 hk16)
    rw [and_sub p.hu hk16 hbt, ← hqu] at h
    simpa using h
  have hgiv : given p k = if q.u = 0 then pz else q := by unfold given; rw [hqu, hq]
  obtain ⟨G, hG⟩ : ∃ G, G = given p k := ⟨_, rfl⟩
  rw [← hG] at hgiv ⊢
  have HGV := Hid.mk2 hgiv
  have HQT := Hid.mk2 hqt
  have HQC := Hid.mk2 hqc
  have hfr := fun W => isFree_any q W
  clear hG hp hN h ho hpo he hcs hbt hq hqt hqc hqu hgiv
  go_enter Try.func28, Try.ntmps28
  go_upto_region 1 with (fail)
  obtain ⟨w0, hw0⟩ : ∃ w0, w0 = (w.alloc (Obj.cells #[Value.slice (some ⟨b, off, none⟩) ps.length cap] 33)).alloc (Obj.cells #[Value.slice none 0 0] 33) := ⟨_, rfl⟩
  rw [← hw0]
  have T0 : TK w w0 (.slice (some ⟨b, off, none⟩) ps.length cap) := by rw [hw0]; exact TK.begin _ _ _ _
  have a0 := T0.c0
  have x0 := T0.x0
  have HT0 := Hid.mk2 T0
  clear hw0 T0
  go_upto_region 6 with (go_at_call 35; refine (HCK.out _ HT0.out.below).mono ?_; rintro e w1 ⟨rfl, hb1⟩; have T1 := HT0.out.step hb1; have a1 := T1.c0; have b1 := T1.c1; have f1 := T1.f1; have x1 := T1.x0; have y1 := T1.x1; have HT1 := Hid.mk2 T1; clear T1 hb1 a0 x0)
  obtain ⟨r0, r1, r2⟩ := HC.out.below HT1.out.below hbl
  have hbl1 : b < w1.heap.size := by omega
  go_upto_region 7 with (fail)
  obtain ⟨w2, hw2⟩ : ∃ w2, w2 = w1.alloc (Obj.cells #[Value.int .i64 p.t, Value.int .i64 p.c, Value.int .u16 (p.u : Int)] 30) := ⟨_, rfl⟩
  rw [← hw2]
  have hb2 : Below w1.heap.size w1 w2 := by rw [hw2]; exact (Below.refl _ _).alloc (Nat.le_refl _) _
  obtain ⟨pb, hpb⟩ : ∃ pb, pb = w1.heap.size := ⟨_, rfl⟩
  have p0 : w2.cell? ⟨pb, 0, none⟩ = some (.int .i64 p.t) := by rw [hw2, hpb]; simp
  have p1 : w2.cell? ⟨pb, 1, none⟩ = some (.int .i64 p.c) := by rw [hw2, hpb]; simp
  have p2 : w2.cell? ⟨pb, 2, none⟩ = some (.int .u16 (p.u : Int)) := by rw [hw2, hpb]; simp
  have pf0 : w2.frozen? ⟨pb, 0, none⟩ = false := by rw [hw2, hpb]; simp
  have pf1 : w2.frozen? ⟨pb, 1, none⟩ = false := by rw [hw2, hpb]; simp
  have pf2 : w2.frozen? ⟨pb, 2, none⟩ = false := by rw [hw2, hpb]; simp
  have ps2 : pb < w2.heap.size := by rw [hw2, hpb]; simp
  have pw : w.heap.size + 1 < pb := by rw [hpb]; exact y1
  rw [← hpb]
  have T2 := HT1.out.step hb2
  have a2 := T2.c0
  have b2 := T2.c1
  have f2 := T2.f1
  have x2 := T2.x0
  have y2 := T2.x1
  have HT2 := Hid.mk2 T2
  clear hw2 hb2 hpb T2 a1 b1 f1 x1 y1 r0 r1 r2 hbl1
  have HP2 : Hid (PB w2 pb p) := ⟨p0, p1, p2, pf0, pf1, pf2, ps2⟩
  clear HT0
  go_upto_region 9 with (first
    | (go_at_call 62; refine (hch _).mono ?_; rintro e w3 ⟨rfl, hwq⟩; obtain rfl : w2 = w3 := hwq.symm)
    | (go_at_call 63; refine (hus _).mono ?_; rintro e w3 ⟨rfl, hb3⟩; have HT3 := Hid.mk2 (HT2.out.step hb3); have HP3 := Hid.mk2 (HP2.out.step hb3); have a3 := HT3.out.c0; have b3 := HT3.out.c1; have f3 := HT3.out.f1; have x3 := HT3.out.x0; have y3 := HT3.out.x1; have p30 := HP3.out.p0; have p31 := HP3.out.p1; have p32 := HP3.out.p2; have k30 := HP3.out.f0; have k31 := HP3.out.f1; have k32 := HP3.out.f2; have l3 := HP3.out.lt; clear hb3 a2 b2 f2 x2 y2 p0 p1 p2 pf0 pf1 pf2 ps2))
  have hgr4 : w3.grownBy (w3.setCell ⟨pb, 2, none⟩ (.int .u16 (q.u : Int))) (some pb) := grown_set _ _ _ _
  have HT4' := Hid.mk2 (fun w4 (e : w4 = (w3.setCell ⟨pb, 2, none⟩ (.int .u16 (q.u : Int))).drew) => show TK w w4 (.slice (some ⟨b, off, none⟩) ps.length cap) from by rw [e]; exact (HT3.out.grown pw hgr4).drew)
  have HP4' := Hid.mk2 (fun w4 (e : w4 = (w3.setCell ⟨pb, 2, none⟩ (.int .u16 (q.u : Int))).drew) => show PB w4 pb q from by rw [e]; exact HP3.out.setu HQT.out HQC.out)
  clear hgr4
  go_cut [] from 48 (fun wx => Hid (TK w wx (.slice (some ⟨b, off, none⟩) ps.length cap)) ∧ Hid (PB wx pb q))
  case first =>
    go_wp2
    go_region_law
      (go_simp; go_at_call 60; refine (hbit _).mono ?_; rintro e w9 ⟨rfl, hwq⟩; obtain rfl := hwq)
    all_goals
      go_wp2
      go_meet
      case rel => exact ⟨HT4'.out _ rfl, HP4'.out _ rfl⟩
  case rest =>
  obtain ⟨w4, hw4⟩ : ∃ w4, w4 = wc := ⟨_, rfl⟩
  rw [← hw4] at hcut ⊢
  obtain ⟨HT4, HP4⟩ := hcut
  clear hw4 HT4' HP4' hand hbit a3 b3 f3 x3 y3 p30 p31 p32 k30 k31 k32 l3
  have a4 := HT4.out.c0; have b4 := HT4.out.c1; have f4 := HT4.out.f1; have x4 := HT4.out.x0; have y4 := HT4.out.x1; have p40 := HP4.out.p0; have p41 := HP4.out.p1; have p42 := HP4.out.p2; have k40 := HP4.out.f0; have k41 := HP4.out.f1; have k42 := HP4.out.f2; have l4 := HP4.out.lt
  by_cases hz : q.u = 0
  · have e : G = pz := by rw [HGV.out, if_pos hz]
    subst e
    rw [decide_eq_true hz] at hfr
    have HZ := Hid.mk2 hz
    clear hz
    go_upto_region 11 with (go_at_call 64; refine (hfr _).mono ?_; rintro e w6 ⟨rfl, hb6⟩; have HT6 := Hid.mk2 (HT4.out.step hb6); have HP6 := Hid.mk2 (HP4.out.step hb6); have a6 := HT6.out.c0; have b6 := HT6.out.c1; have f6 := HT6.out.f1; have x6 := HT6.out.x0; have y6 := HT6.out.x1; have p60 := HP6.out.p0; have p61 := HP6.out.p1; have p62 := HP6.out.p2; have k60 := HP6.out.f0; have k61 := HP6.out.f1; have k62 := HP6.out.f2; have l6 := HP6.out.lt; clear hb6; clear a4 b4 f4 x4 y4 p40 p41 p42 k40 k41 k42 l4)
    go_upto_region 12 with (fail)
    obtain ⟨w5, hw5⟩ : ∃ w5, w5 = ((w6.setCell ⟨pb, 0, none⟩ (.int .i64 0)).setCell ⟨pb, 1, none⟩ (.int .i64 0)).setCell ⟨pb, 2, none⟩ (.int .u16 0) := ⟨_, rfl⟩
    rw [← hw5]
    have hgr5 : w6.grownBy w5 (some pb) := by rw [hw5]; exact ((grown_set _ _ _ _).trans (grown_set _ _ _ _)).trans (grown_set _ _ _ _)
    have HT5 := Hid.mk2 (HT6.out.grown pw hgr5)
    have HP5 : Hid (PB w5 pb pz) := by rw [hw5]; exact HP6.out.set3
    have a5 := HT5.out.c0; have b5 := HT5.out.c1; have f5 := HT5.out.f1; have x5 := HT5.out.x0; have y5 := HT5.out.x1; have p50 := HP5.out.p0; have p51 := HP5.out.p1; have p52 := HP5.out.p2; have k50 := HP5.out.f0; have k51 := HP5.out.f1; have k52 := HP5.out.f2; have l5 := HP5.out.lt
    clear a6 b6 f6 x6 y6 p60 p61 p62 k60 k61 k62 l6
    clear hgr5 hw5
    have HCP := Hid.mk2 (scopied_any w5 _ ps cap (HSB.out.below HT5.out.below) (by intro e; rw [e] at hlen; simp at hlen) (by omega))
    go_upto_region 13 with (go_at_call 59; refine HCP.out.mono ?_; rintro e w7 ⟨g, rfl, hg7, hr7, hb7⟩; have HT7 := Hid.mk2 (HT5.out.step hb7); have HP7 := Hid.mk2 (HP5.out.step hb7); have a7 := HT7.out.c0; have b7 := HT7.out.c1; have f7 := HT7.out.f1; have x7 := HT7.out.x0; have y7 := HT7.out.x1; have p70 := HP7.out.p0; have p71 := HP7.out.p1; have p72 := HP7.out.p2; have k70 := HP7.out.f0; have k71 := HP7.out.f1; have k72 := HP7.out.f2; have l7 := HP7.out.lt; have HR7 := Hid.mk2 hr7; clear hb7 hr7; clear a5 b5 f5 x5 y5 p50 p51 p52 k50 k51 k52 l5)
    have hgw : w.heap.size + 1 < g := by have := HT5.out.x1; omega
    have hgp : pb < g := by have := HP5.out.lt; omega
    have hg8 : g < w7.heap.size := (Array.getElem?_eq_some_iff.1 HR7.out).1
    obtain ⟨w8, hw8⟩ : ∃ w8, w8 = w7.alloc (Obj.cells #[Value.slice (some ⟨g, 0, none⟩) ps.length ps.length] 33) := ⟨_, rfl⟩
    obtain ⟨lb, hlb⟩ : ∃ lb, lb = w7.heap.size := ⟨_, rfl⟩
    rw [← hw8, ← hlb]
    have hb8 : Below w7.heap.size w7 w8 := by rw [hw8]; exact (Below.refl _ _).alloc (Nat.le_refl _) _
    have hr8 : w8.heap[g]? = some (.cells (ps.flatMap pcells).toArray 30 (0, 0)) := (hb8.block g hg8).trans HR7.out
    have l8c : w8.cell? ⟨lb, 0, none⟩ = some (.slice (some ⟨g, 0, none⟩) ps.length ps.length) := by rw [hw8, hlb]; simp
    have hlg : g < lb := by omega
    have HT8 := Hid.mk2 (HT7.out.step hb8)
    have HP8 := Hid.mk2 (HP7.out.step hb8)
    have a8 := HT8.out.c0; have b8 := HT8.out.c1; have f8 := HT8.out.f1; have x8 := HT8.out.x0; have y8 := HT8.out.x1; have p80 := HP8.out.p0; have p81 := HP8.out.p1; have p82 := HP8.out.p2; have k80 := HP8.out.f0; have k81 := HP8.out.f1; have k82 := HP8.out.f2; have l8 := HP8.out.lt
    have hlb8 : lb < w8.heap.size := by rw [hw8, hlb]; simp
    have F8 := row_pages (base := w.heap.size) hr8 (by omega) (by omega)
    obtain ⟨_, _, e8, _, _, _, hF8⟩ := F8
    cases e8
    rcases hF8 with hn | ⟨g', e8, _, _, hf8, hL8⟩
    · rw [hn] at hlen; simp at hlen
    cases e8
    obtain ⟨r0, r1, r2⟩ := hL8 i hi
    have HL8 := Hid.mk2 hL8
    have HF8 := Hid.mk2 hf8
    have h0 := hf8 (i * 3)
    have h1 := hf8 (i * 3 + 1)
    have h2 := hf8 (i * 3 + 2)
    have hgs : g < w8.heap.size := by omega
    clear a7 b7 f7 x7 y7 p70 p71 p72 k70 k71 k72 l7
    clear hw8 hlb hb8 hr8 hL8 hf8 HR7 hg7 hg8
    go_upto_region 14 with (fail)
    obtain ⟨w9, hw9⟩ : ∃ w9, w9 = ((w8.setCell ⟨g, i * 3, none⟩ (.int .i64 pz.t)).setCell ⟨g, i * 3 + 1, none⟩ (.int .i64 pz.c)).setCell ⟨g, i * 3 + 2, none⟩ (.int .u16 (pz.u : Int)) := ⟨_, rfl⟩
    rw [← hw9]
    have hset := set3_lies (n := 0) hi HL8.out pz
    have hgr9 : w8.grownBy w9 (some g) := by rw [hw9]; exact ((grown_set _ _ _ _).trans (grown_set _ _ _ _)).trans (grown_set _ _ _ _)
    have hs9 : w9.heap.size = w8.heap.size := by rw [hw9]; simp
    have hfx : ∀ j, w9.frozen? ⟨g, j, none⟩ = false := by intro j; rw [hw9]; simpa using HF8.out j
    have hset2 : ∀ j (hj : j < (ps.set i pz).length), PgLies w9 g (j * 3) (ps.set i pz)[j] := by rw [hw9]; exact hset
    have HT9 := Hid.mk2 (HT8.out.grown hgw hgr9)
    have l9c : w9.cell? ⟨lb, 0, none⟩ = some (.slice (some ⟨g, 0, none⟩) ps.length ps.length) := hgr9.cell (a := ⟨lb, 0, none⟩) l8c (by intro e; have := Option.some.inj e; simp at this; omega)
    have b9 := HT9.out.c1
    have f9 := HT9.out.f1
    have y9 := HT9.out.x1
    have hlb9 : lb < w9.heap.size := by omega
    have HF9 := Hid.mk2 (show g < w9.heap.size ∧ (∀ j, w9.frozen? ⟨g, j, none⟩ = false) ∧ ∀ j (hj : j < (ps.set i pz).length), PgLies w9 g (j * 3) (ps.set i pz)[j] from ⟨by omega, hfx, hset2⟩)
    clear a8 b8 f8 x8 y8 p80 p81 p82 k80 k81 k82 l8
    clear hw9 hset hgr9 hfx hset2 l8c hs9
    go_wp2
    have z0 : (w9.setCell ⟨w.heap.size + 1, 0, none⟩ (.slice (some ⟨g, 0, none⟩) ps.length ps.length)).cell? ⟨w.heap.size + 1, 0, none⟩ = some (.slice (some ⟨g, 0, none⟩) ps.length ps.length) := World.cell?_setCell_same _ _ _ b9
    try simp only [Exit.inBlock, Exit.then]
    refine bodyPost_ret (v := .tuple #[.agg #[.slice (some ⟨g, 0, none⟩) ps.length ps.length], .int .i64 0]) (by simp [results, Try.results28, go_sem, z0]) rfl ⟨_, rfl, ?_, HT9.out.below.setCell (by simp) _⟩
    exact fresh_end HF9.out (by omega) (by omega) (by simp)
  · have e : q = G := by rw [HGV.out, if_neg hz]
    subst e
    rw [decide_eq_false hz] at hfr
    clear hz
    go_upto_region 12 with (go_at_call 64; refine (hfr _).mono ?_; rintro e w5 ⟨rfl, hb5⟩; have HT5 := Hid.mk2 (HT4.out.step hb5); have HP5 := Hid.mk2 (HP4.out.step hb5); have a5 := HT5.out.c0; have b5 := HT5.out.c1; have f5 := HT5.out.f1; have x5 := HT5.out.x0; have y5 := HT5.out.x1; have p50 := HP5.out.p0; have p51 := HP5.out.p1; have p52 := HP5.out.p2; have k50 := HP5.out.f0; have k51 := HP5.out.f1; have k52 := HP5.out.f2; have l5 := HP5.out.lt; clear hb5; clear a4 b4 f4 x4 y4 p40 p41 p42 k40 k41 k42 l4)
    have HCP := Hid.mk2 (scopied_any w5 _ ps cap (HSB.out.below HT5.out.below) (by intro e; rw [e] at hlen; simp at hlen) (by omega))
    go_upto_region 13 with (go_at_call 59; refine HCP.out.mono ?_; rintro e w7 ⟨g, rfl, hg7, hr7, hb7⟩; have HT7 := Hid.mk2 (HT5.out.step hb7); have HP7 := Hid.mk2 (HP5.out.step hb7); have a7 := HT7.out.c0; have b7 := HT7.out.c1; have f7 := HT7.out.f1; have x7 := HT7.out.x0; have y7 := HT7.out.x1; have p70 := HP7.out.p0; have p71 := HP7.out.p1; have p72 := HP7.out.p2; have k70 := HP7.out.f0; have k71 := HP7.out.f1; have k72 := HP7.out.f2; have l7 := HP7.out.lt; have HR7 := Hid.mk2 hr7; clear hb7 hr7; clear a5 b5 f5 x5 y5 p50 p51 p52 k50 k51 k52 l5)
    have hgw : w.heap.size + 1 < g := by have := HT5.out.x1; omega
    have hgp : pb < g := by have := HP5.out.lt; omega
    have hg8 : g < w7.heap.size := (Array.getElem?_eq_some_iff.1 HR7.out).1
    obtain ⟨w8, hw8⟩ : ∃ w8, w8 = w7.alloc (Obj.cells #[Value.slice (some ⟨g, 0, none⟩) ps.length ps.length] 33) := ⟨_, rfl⟩
    obtain ⟨lb, hlb⟩ : ∃ lb, lb = w7.heap.size := ⟨_, rfl⟩
    rw [← hw8, ← hlb]
    have hb8 : Below w7.heap.size w7 w8 := by rw [hw8]; exact (Below.refl _ _).alloc (Nat.le_refl _) _
    have hr8 : w8.heap[g]? = some (.cells (ps.flatMap pcells).toArray 30 (0, 0)) := (hb8.block g hg8).trans HR7.out
    have l8c : w8.cell? ⟨lb, 0, none⟩ = some (.slice (some ⟨g, 0, none⟩) ps.length ps.length) := by rw [hw8, hlb]; simp
    have hlg : g < lb := by omega
    have HT8 := Hid.mk2 (HT7.out.step hb8)
    have HP8 := Hid.mk2 (HP7.out.step hb8)
    have a8 := HT8.out.c0; have b8 := HT8.out.c1; have f8 := HT8.out.f1; have x8 := HT8.out.x0; have y8 := HT8.out.x1; have p80 := HP8.out.p0; have p81 := HP8.out.p1; have p82 := HP8.out.p2; have k80 := HP8.out.f0; have k81 := HP8.out.f1; have k82 := HP8.out.f2; have l8 := HP8.out.lt
    have hlb8 : lb < w8.heap.size := by rw [hw8, hlb]; simp
    have F8 := row_pages (base := w.heap.size) hr8 (by omega) (by omega)
    obtain ⟨_, _, e8, _, _, _, hF8⟩ := F8
    cases e8
    rcases hF8 with hn | ⟨g', e8, _, _, hf8, hL8⟩
    · rw [hn] at hlen; simp at hlen
    cases e8
    obtain ⟨r0, r1, r2⟩ := hL8 i hi
    have HL8 := Hid.mk2 hL8
    have HF8 := Hid.mk2 hf8
    have h0 := hf8 (i * 3)
    have h1 := hf8 (i * 3 + 1)
    have h2 := hf8 (i * 3 + 2)
    have hgs : g < w8.heap.size := by omega
    clear a7 b7 f7 x7 y7 p70 p71 p72 k70 k71 k72 l7
    clear hw8 hlb hb8 hr8 hL8 hf8 HR7 hg7 hg8
    go_upto_region 14 with (fail)
    obtain ⟨w9, hw9⟩ : ∃ w9, w9 = ((w8.setCell ⟨g, i * 3, none⟩ (.int .i64 q.t)).setCell ⟨g, i * 3 + 1, none⟩ (.int .i64 q.c)).setCell ⟨g, i * 3 + 2, none⟩ (.int .u16 (q.u : Int)) := ⟨_, rfl⟩
    rw [← hw9]
    have hset := set3_lies (n := 0) hi HL8.out q
    have hgr9 : w8.grownBy w9 (some g) := by rw [hw9]; exact ((grown_set _ _ _ _).trans (grown_set _ _ _ _)).trans (grown_set _ _ _ _)
    have hs9 : w9.heap.size = w8.heap.size := by rw [hw9]; simp
    have hfx : ∀ j, w9.frozen? ⟨g, j, none⟩ = false := by intro j; rw [hw9]; simpa using HF8.out j
    have hset2 : ∀ j (hj : j < (ps.set i q).length), PgLies w9 g (j * 3) (ps.set i q)[j] := by rw [hw9]; exact hset
    have HT9 := Hid.mk2 (HT8.out.grown hgw hgr9)
    have l9c : w9.cell? ⟨lb, 0, none⟩ = some (.slice (some ⟨g, 0, none⟩) ps.length ps.length) := hgr9.cell (a := ⟨lb, 0, none⟩) l8c (by intro e; have := Option.some.inj e; simp at this; omega)
    have b9 := HT9.out.c1
    have f9 := HT9.out.f1
    have y9 := HT9.out.x1
    have hlb9 : lb < w9.heap.size := by omega
    have HF9 := Hid.mk2 (show g < w9.heap.size ∧ (∀ j, w9.frozen? ⟨g, j, none⟩ = false) ∧ ∀ j (hj : j < (ps.set i q).length), PgLies w9 g (j * 3) (ps.set i q)[j] from ⟨by omega, hfx, hset2⟩)
    clear a8 b8 f8 x8 y8 p80 p81 p82 k80 k81 k82 l8
    clear hw9 hset hgr9 hfx hset2 l8c hs9
    go_wp2
    have z0 : (w9.setCell ⟨w.heap.size + 1, 0, none⟩ (.slice (some ⟨g, 0, none⟩) ps.length ps.length)).cell? ⟨w.heap.size + 1, 0, none⟩ = some (.slice (some ⟨g, 0, none⟩) ps.length ps.length) := World.cell?_setCell_same _ _ _ b9
    try simp only [Exit.inBlock, Exit.then]
    refine bodyPost_ret (v := .tuple #[.agg #[.slice (some ⟨g, 0, none⟩) ps.length ps.length], .int .i64 0]) (by simp [results, Try.results28, go_sem, z0]) rfl ⟨_, rfl, ?_, HT9.out.below.setCell (by simp) _⟩
    exact fresh_end HF9.out (by omega) (by omega) (by simp)
end Go.Proofs.Ytkcgleahbhmggaa
