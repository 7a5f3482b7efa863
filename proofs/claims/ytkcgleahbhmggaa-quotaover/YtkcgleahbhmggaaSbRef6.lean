/-
  Contract of the document's Free.
-/
import Derived.Test.YtkcgleahbhmggaaSbRef5
namespace Go.Proofs.Ytkcgleahbhmggaa
open Go.RowKit
set_option linter.unusedSimpArgs false
set_option linter.unusedVariables false
set_option maxRecDepth 100000

theorem set1_lies {w : World} {g : Nat} {ps : List Pg} {i : Nat} (hi : i < ps.length) (hc : ∀ i (hi : i < ps.length), PgLies w g (i * 3) ps[i]) (q : Pg) (ht : q.t = ps[i].t) (hcc : q.c = ps[i].c) :
    ∀ j (hj : j < (ps.set i q).length), PgLies (w.setCell ⟨g, i * 3 + 2, none⟩ (.int .u16 (q.u : Int))) g (j * 3) (ps.set i q)[j] := by
  intro j hj
  have hj' : j < ps.length := by simpa using hj
  obtain ⟨c0, c1, c2⟩ := hc j hj'
  by_cases e : j = i
  · subst e
    have e1 : (ps.set j q)[j] = q := by simp
    rw [e1]
    refine ⟨?_, ?_, World.cell?_setCell_same _ _ _ c2⟩
    · rw [World.cell?_setCell_other _ _ _ _ (by simp), ht]; exact c0
    · rw [World.cell?_setCell_other _ _ _ _ (by simp), hcc]; exact c1
  · have e1 : (ps.set i q)[j] = ps[j] := by rw [List.getElem_set_ne (fun h => e h.symm)]
    rw [e1]
    refine ⟨?_, ?_, ?_⟩
    · rw [World.cell?_setCell_other _ _ _ _ (by simp <;> omega)]; exact c0
    · rw [World.cell?_setCell_other _ _ _ _ (by simp <;> omega)]; exact c1
    · rw [World.cell?_setCell_other _ _ _ _ (by simp <;> omega)]; exact c2
theorem rfree_bad8 (w : World) (ao : Option Addr) (ps : List Pg) (cap : Nat) (h : Sb w ao ps cap) (i k : Int) (ho : sOk ps = false) :
    Calls Try.prog 39 #[.agg #[.slice ao ps.length cap], .int .i64 i, .int .i64 k] w fun e w' => e = .returned (.tuple #[.agg #[.slice none 0 0], .int .i64 8]) ∧ Below w.heap.size w w' := by
  have HCK := Hid.mk2 (fun W (hb : Below w.heap.size w W) => rcheck_any W ao ps cap (h.below hb))
  rw [show sE ps = 8 by unfold sE; rw [ho]; rfl] at HCK
  clear h ho
  go_enter Try.func39, Try.ntmps39
  go_upto_region 1 with (fail)
  obtain ⟨w0, hw0⟩ : ∃ w0, w0 = (w.alloc (Obj.cells #[Value.slice ao ps.length cap] 33)).alloc (Obj.cells #[Value.slice none 0 0] 33) := ⟨_, rfl⟩
  rw [← hw0]
  have T0 : TK w w0 (.slice ao ps.length cap) := by rw [hw0]; exact TK.begin _ _ _ _
  have a0 := T0.c0
  have x0 := T0.x0
  have HT0 := Hid.mk2 T0
  clear hw0 T0
  go_wp2_with (go_at_call 24; refine (HCK.out _ HT0.out.below).mono ?_; rintro e w1 ⟨rfl, hb1⟩; have T1 := HT0.out.step hb1; have a1 := T1.c0; have b1 := T1.c1; have f1 := T1.f1; have x1 := T1.x0; have y1 := T1.x1; have HT1 := Hid.mk2 T1; clear T1 hb1 a0 x0)
  have z0 : (w1.setCell ⟨w.heap.size + 1, 0, none⟩ (.slice none 0 0)).cell? ⟨w.heap.size + 1, 0, none⟩ = some (.slice none 0 0) := World.cell?_setCell_same _ _ _ b1
  try simp only [Exit.inBlock, Exit.then]
  exact bodyPost_ret (v := .tuple #[.agg #[.slice none 0 0], .int .i64 8]) (by simp [results, Try.results39, go_sem, z0]) rfl ⟨rfl, HT1.out.below.setCell (by simp) _⟩
theorem rfree_bad2 (w : World) (ao : Option Addr) (ps : List Pg) (cap : Nat) (h : Sb w ao ps cap) (i k : Int) (ho : sOk ps = true) (he : inP ps i = false) :
    Calls Try.prog 39 #[.agg #[.slice ao ps.length cap], .int .i64 i, .int .i64 k] w fun e w' => e = .returned (.tuple #[.agg #[.slice none 0 0], .int .i64 2]) ∧ Below w.heap.size w w' := by
  have HCK := Hid.mk2 (fun W (hb : Below w.heap.size w W) => rcheck_any W ao ps cap (h.below hb))
  rw [show sE ps = 0 by unfold sE; rw [ho]; rfl] at HCK
  have hlen := sOk_len ho
  simp only [inP, decide_eq_false_iff_not] at he
  clear h ho
  by_cases h0 : i < 0
  · have h1 : decide (i < 0) = true := by simp [h0]
    clear he h0
    go_enter Try.func39, Try.ntmps39
    go_upto_region 1 with (fail)
    obtain ⟨w0, hw0⟩ : ∃ w0, w0 = (w.alloc (Obj.cells #[Value.slice ao ps.length cap] 33)).alloc (Obj.cells #[Value.slice none 0 0] 33) := ⟨_, rfl⟩
    rw [← hw0]
    have T0 : TK w w0 (.slice ao ps.length cap) := by rw [hw0]; exact TK.begin _ _ _ _
    have a0 := T0.c0
    have x0 := T0.x0
    have HT0 := Hid.mk2 T0
    clear hw0 T0
    go_wp2_with (go_at_call 24; refine (HCK.out _ HT0.out.below).mono ?_; rintro e w1 ⟨rfl, hb1⟩; have T1 := HT0.out.step hb1; have a1 := T1.c0; have b1 := T1.c1; have f1 := T1.f1; have x1 := T1.x0; have y1 := T1.x1; have HT1 := Hid.mk2 T1; clear T1 hb1 a0 x0)
    have z0 : (w1.setCell ⟨w.heap.size + 1, 0, none⟩ (.slice none 0 0)).cell? ⟨w.heap.size + 1, 0, none⟩ = some (.slice none 0 0) := World.cell?_setCell_same _ _ _ b1
    try simp only [Exit.inBlock, Exit.then]
    exact bodyPost_ret (v := .tuple #[.agg #[.slice none 0 0], .int .i64 2]) (by simp [results, Try.results39, go_sem, z0]) rfl ⟨rfl, HT1.out.below.setCell (by simp) _⟩
  · have h1 : decide (i < 0) = false := by simp; omega
    have h2 : decide ((ps.length : Int) ≤ i) = true := by simp; omega
    clear he h0
    go_enter Try.func39, Try.ntmps39
    go_upto_region 1 with (fail)
    obtain ⟨w0, hw0⟩ : ∃ w0, w0 = (w.alloc (Obj.cells #[Value.slice ao ps.length cap] 33)).alloc (Obj.cells #[Value.slice none 0 0] 33) := ⟨_, rfl⟩
    rw [← hw0]
    have T0 : TK w w0 (.slice ao ps.length cap) := by rw [hw0]; exact TK.begin _ _ _ _
    have a0 := T0.c0
    have x0 := T0.x0
    have HT0 := Hid.mk2 T0
    clear hw0 T0
    go_wp2_with (go_at_call 24; refine (HCK.out _ HT0.out.below).mono ?_; rintro e w1 ⟨rfl, hb1⟩; have T1 := HT0.out.step hb1; have a1 := T1.c0; have b1 := T1.c1; have f1 := T1.f1; have x1 := T1.x0; have y1 := T1.x1; have HT1 := Hid.mk2 T1; clear T1 hb1 a0 x0)
    have z0 : (w1.setCell ⟨w.heap.size + 1, 0, none⟩ (.slice none 0 0)).cell? ⟨w.heap.size + 1, 0, none⟩ = some (.slice none 0 0) := World.cell?_setCell_same _ _ _ b1
    try simp only [Exit.inBlock, Exit.then]
    exact bodyPost_ret (v := .tuple #[.agg #[.slice none 0 0], .int .i64 2]) (by simp [results, Try.results39, go_sem, z0]) rfl ⟨rfl, HT1.out.below.setCell (by simp) _⟩
theorem rfree_bad6 (w : World) (ao : Option Addr) (ps : List Pg) (cap : Nat) (h : Sb w ao ps cap) (i : Nat) (k : Int) (ho : sOk ps = true) (hi : i < ps.length) (he : hasK ps[i] k = false) :
    Calls Try.prog 39 #[.agg #[.slice ao ps.length cap], .int .i64 i, .int .i64 k] w fun e w' => e = .returned (.tuple #[.agg #[.slice none 0 0], .int .i64 6]) ∧ Below w.heap.size w w' := by
  have HCK := Hid.mk2 (fun W (hb : Below w.heap.size w W) => rcheck_any W ao ps cap (h.below hb))
  rw [show sE ps = 0 by unfold sE; rw [ho]; rfl] at HCK
  have hlen := sOk_len ho
  have HSB := Hid.mk2 h
  obtain ⟨b, off, rfl, hbl, hcs⟩ := h.lies (by intro e; rw [e] at hlen; simp at hlen)
  have HC := Hid.mk2 (hcs i hi)
  have g1 : decide ((i : Int) < 0) = false := by simp
  have g2 : decide ((ps.length : Int) ≤ (i : Int)) = false := by simp; omega
  have g2n : decide (ps.length ≤ i) = false := by simp; omega
  have hha := fun W => rhas_any ps[i] k W
  rw [he] at hha
  clear h ho hcs he
  go_enter Try.func39, Try.ntmps39
  go_upto_region 1 with (fail)
  obtain ⟨w0, hw0⟩ : ∃ w0, w0 = (w.alloc (Obj.cells #[Value.slice (some ⟨b, off, none⟩) ps.length cap] 33)).alloc (Obj.cells #[Value.slice none 0 0] 33) := ⟨_, rfl⟩
  rw [← hw0]
  have T0 : TK w w0 (.slice (some ⟨b, off, none⟩) ps.length cap) := by rw [hw0]; exact TK.begin _ _ _ _
  have a0 := T0.c0
  have x0 := T0.x0
  have HT0 := Hid.mk2 T0
  clear hw0 T0
  go_upto_region 6 with (go_at_call 24; refine (HCK.out _ HT0.out.below).mono ?_; rintro e w1 ⟨rfl, hb1⟩; have T1 := HT0.out.step hb1; have a1 := T1.c0; have b1 := T1.c1; have f1 := T1.f1; have x1 := T1.x0; have y1 := T1.x1; have HT1 := Hid.mk2 T1; clear T1 hb1 a0 x0)
  obtain ⟨r0, r1, r2⟩ := HC.out.below HT1.out.below hbl
  have hbl1 : b < w1.heap.size := Nat.lt_trans hbl x1
  go_wp2_with (go_at_call 53; refine (hha _).mono ?_; rintro e w2 ⟨rfl, hb2⟩; have T2 := HT1.out.step hb2; have a2 := T2.c0; have b2 := T2.c1; have f2 := T2.f1; have x2 := T2.x0; have y2 := T2.x1; have HT2 := Hid.mk2 T2; clear T2 hb2 a1 x1 b1 f1 y1)
  have z0 : (w2.setCell ⟨w.heap.size + 1, 0, none⟩ (.slice none 0 0)).cell? ⟨w.heap.size + 1, 0, none⟩ = some (.slice none 0 0) := World.cell?_setCell_same _ _ _ b2
  try simp only [Exit.inBlock, Exit.then]
  exact bodyPost_ret (v := .tuple #[.agg #[.slice none 0 0], .int .i64 6]) (by simp [results, Try.results39, go_sem, z0]) rfl ⟨rfl, HT2.out.below.setCell (by simp) _⟩
set_option maxHeartbeats 4000000 in
theorem rfree_good (w : World) (ao : Option Addr) (ps : List Pg) (cap : Nat) (h : Sb w ao ps cap) (i k : Nat) (ho : sOk ps = true) (hi : i < ps.length) (he : hasK ps[i] k = true) :
    Calls Try.prog 39 #[.agg #[.slice ao ps.length cap], .int .i64 i, .int .i64 k] w fun e w' => ∃ ro rc, e = .returned (.tuple #[.agg #[.slice ro ps.length rc], .int .i64 0]) ∧ Sb w' ro (ps.set i (given ps[i] k)) rc ∧ Below w.heap.size w w' := by
  have HCK := Hid.mk2 (fun W (hb : Below w.heap.size w W) => rcheck_any W ao ps cap (h.below hb))
  rw [show sE ps = 0 by unfold sE; rw [ho]; rfl] at HCK
  have hlen := sOk_len ho
  have HSB := Hid.mk2 h
  obtain ⟨b, off, rfl, hbl, hcs⟩ := h.lies (by intro e; rw [e] at hlen; simp at hlen)
  have HC := Hid.mk2 (hcs i hi)
  have g1 : decide ((i : Int) < 0) = false := by simp
  have g2 : decide ((ps.length : Int) ≤ (i : Int)) = false := by simp; omega
  have g2n : decide (ps.length ≤ i) = false := by simp; omega
  have hkl := hasK_lt (sOk_pg ho i hi) he
  have hk16 : k < 16 := by have := chunks_le (pOk_c (sOk_pg ho i hi)); omega
  have hbt : ps[i].u.testBit k = true := by have := hkl.2.2; rwa [Int.toNat_natCast] at this
  have hge : 2 ^ k ≤ ps[i].u := Nat.ge_two_pow_of_testBit hbt
  have hha := fun W => rhas_any ps[i] k W
  rw [he] at hha
  obtain ⟨q, hq⟩ : ∃ q : Pg, q = ⟨ps[i].t, ps[i].c, ps[i].u - 2 ^ k, Nat.lt_of_le_of_lt (Nat.sub_le _ _) ps[i].hu⟩ := ⟨_, rfl⟩
  have hqt : q.t = ps[i].t := by rw [hq]
  have hqc : q.c = ps[i].c := by rw [hq]
  have hqu : q.u = ps[i].u - 2 ^ k := by rw [hq]
  have g8 := wrap_pow hk16
  have g9 : IntKind.u16.wrap ((ps[i].u : Int) - 2 ^ k) = (q.u : Int) := by
    have e := wrap_nat (n := q.u) q.hu
    have e2 : ((ps[i].u : Int) - 2 ^ k) = (q.u : Int) := by
      rw [hqu]
      have e3 : (2 ^ k : Int) = ((2 ^ k : Nat) : Int) := by simp
      rw [e3]
      omega
    rw [e2]
    exact e
  have hgiv : given ps[i] k = if q.u = 0 then pz else q := by unfold given; rw [hqu, hq]
  obtain ⟨G, hG⟩ : ∃ G, G = given ps[i] k := ⟨_, rfl⟩
  rw [← hG] at hgiv ⊢
  have HGV := Hid.mk2 hgiv
  have HQT := Hid.mk2 hqt
  have HQC := Hid.mk2 hqc
  clear h ho hcs he hkl hbt hge hq hqt hqc hqu hgiv hG
  go_enter Try.func39, Try.ntmps39
  go_upto_region 1 with (fail)
  obtain ⟨w0, hw0⟩ : ∃ w0, w0 = (w.alloc (Obj.cells #[Value.slice (some ⟨b, off, none⟩) ps.length cap] 33)).alloc (Obj.cells #[Value.slice none 0 0] 33) := ⟨_, rfl⟩
  rw [← hw0]
  have T0 : TK w w0 (.slice (some ⟨b, off, none⟩) ps.length cap) := by rw [hw0]; exact TK.begin _ _ _ _
  have a0 := T0.c0
  have x0 := T0.x0
  have HT0 := Hid.mk2 T0
  clear hw0 T0
  go_upto_region 6 with (go_at_call 24; refine (HCK.out _ HT0.out.below).mono ?_; rintro e w1 ⟨rfl, hb1⟩; have T1 := HT0.out.step hb1; have a1 := T1.c0; have b1 := T1.c1; have f1 := T1.f1; have x1 := T1.x0; have y1 := T1.x1; have HT1 := Hid.mk2 T1; clear T1 hb1 a0 x0)
  obtain ⟨r0, r1, r2⟩ := HC.out.below HT1.out.below hbl
  have hbl1 : b < w1.heap.size := Nat.lt_trans hbl x1
  go_upto_region 8 with (go_at_call 53; refine (hha _).mono ?_; rintro e w2 ⟨rfl, hb2⟩; have T2 := HT1.out.step hb2; have a2 := T2.c0; have b2 := T2.c1; have f2 := T2.f1; have x2 := T2.x0; have y2 := T2.x1; have HT2 := Hid.mk2 T2; clear T2 hb2 a1 x1 b1 f1 y1)
  clear r0 r1 r2 hbl1
  have HTW := Hid.mk2 (rtwin_any w2 _ ps cap (HSB.out.below HT2.out.below) (by omega))
  go_upto_region 9 with (go_at_call 36; refine HTW.out.mono ?_; rintro e w3 ⟨ro, rc, rfl, hf3, hb3⟩; have HF3 := Hid.mk2 hf3; clear hf3; have T3 := HT2.out.step hb3; have a3 := T3.c0; have b3 := T3.c1; have f3 := T3.f1; have x3 := T3.x0; have y3 := T3.x1; have HT3 := Hid.mk2 T3; clear T3 hb3 a2 x2 b2 f2 y2)
  obtain ⟨_, _, e3, hF1, hF2, hF3, hF4⟩ := HF3.out
  cases e3
  rcases hF4 with hn | ⟨g, hro, hgb, hgl, hfr, hL3⟩
  · rw [hn] at hlen; simp at hlen
  subst hro
  obtain ⟨w4, hw4⟩ : ∃ w4, w4 = w3.alloc (Obj.cells #[Value.slice (some ⟨g, 0, none⟩) ps.length rc] 33) := ⟨_, rfl⟩
  obtain ⟨lb, hlb⟩ : ∃ lb, lb = w3.heap.size := ⟨_, rfl⟩
  rw [← hw4, ← hlb]
  have hb4 : Below w3.heap.size w3 w4 := by rw [hw4]; exact (Below.refl _ _).alloc (Nat.le_refl _) _
  have l4 : w4.cell? ⟨lb, 0, none⟩ = some (.slice (some ⟨g, 0, none⟩) ps.length rc) := by rw [hw4, hlb]; simp
  have HT4 := Hid.mk2 (HT3.out.step hb4)
  have a4 := HT4.out.c0
  have x4 := HT4.out.x0
  have hlg : g < lb := by omega
  have hgw : w.heap.size + 1 < g := by have := HT2.out.x1; omega
  have hlb4 : lb < w4.heap.size := by rw [hw4, hlb]; simp
  have hgs : g < w4.heap.size := by omega
  have HL4 := Hid.mk2 (fun j hj => (hL3 j hj).below hb4 hgl)
  have HF4 := Hid.mk2 (fun j => (below_frozen hb4 g j hgl).trans (hfr j))
  obtain ⟨r0, r1, r2⟩ := HL4.out i hi
  have h2 := HF4.out (i * 3 + 2)
  have HCUT := Hid.mk2 (fun w5 (hw5 : w5 = (w4.setCell ⟨g, i * 3 + 2, none⟩ (.int .u16 (q.u : Int))).drew) => show Hid (TK w w5 (.slice (some ⟨b, off, none⟩) ps.length cap)) ∧ w5.cell? ⟨lb, 0, none⟩ = some (.slice (some ⟨g, 0, none⟩) ps.length rc) ∧ lb < w5.heap.size ∧ Hid (g < w5.heap.size ∧ (∀ j, w5.frozen? ⟨g, j, none⟩ = false) ∧ ∀ j (hj : j < (ps.set i q).length), PgLies w5 g (j * 3) (ps.set i q)[j]) from by
    rw [hw5]
    have hgr : w4.grownBy (w4.setCell ⟨g, i * 3 + 2, none⟩ (.int .u16 (q.u : Int))) (some g) := grown_set _ _ _ _
    exact ⟨(HT4.out.grown hgw hgr).drew, hgr.cell (a := ⟨lb, 0, none⟩) l4 (by intro e; have := Option.some.inj e; simp at this; omega), Nat.lt_of_lt_of_le hlb4 hgr.size, Nat.lt_of_lt_of_le hgs hgr.size, (fun j => by show (w4.setCell _ _).frozen? _ = false; simpa using HF4.out j), set1_lies hi HL4.out q HQT.out HQC.out⟩)
  clear hw4 hlb hb4 hL3 hfr a3 b3 f3 x3 y3 HT3 HT2 HT1 HTW HF3
  go_cut [] from 37 (fun wx => Hid (TK w wx (.slice (some ⟨b, off, none⟩) ps.length cap)) ∧ wx.cell? ⟨lb, 0, none⟩ = some (.slice (some ⟨g, 0, none⟩) ps.length rc) ∧ lb < wx.heap.size ∧ Hid (g < wx.heap.size ∧ (∀ j, wx.frozen? ⟨g, j, none⟩ = false) ∧ ∀ j (hj : j < (ps.set i q).length), PgLies wx g (j * 3) (ps.set i q)[j]))
  case first =>
    go_wp2
    go_region
    all_goals
      go_wp2
      go_meet
      case rel => exact HCUT.out _ rfl
  case rest =>
  obtain ⟨w5, hw5⟩ : ∃ w5, w5 = wc := ⟨_, rfl⟩
  rw [← hw5] at hcut ⊢
  obtain ⟨HT5, l5, hl5, HG5⟩ := hcut
  clear hw5 HCUT l4 hlb4 a4 x4 r0 r1 r2 h2 HL4 HF4 HT4 hgs g9 g8
  have b5 := HT5.out.c1
  have f5 := HT5.out.f1
  have y5 := HT5.out.x1
  obtain ⟨s0, s1, s2⟩ := HG5.out.2.2 i (by simpa using hi)
  have e7 : (ps.set i q)[i]'(by simpa using hi) = q := by simp
  rw [e7] at s0 s1 s2
  clear e7
  have k0 := HG5.out.2.1 (i * 3)
  have k1 := HG5.out.2.1 (i * 3 + 1)
  have k2 := HG5.out.2.1 (i * 3 + 2)
  have kl := HG5.out.1
  by_cases hz : q.u = 0
  · have e : pz = G := by rw [HGV.out, if_pos hz]
    subst e
    have g10 : ((q.u : Int) == 0) = true := by simp [hz]
    clear hz
    have HCT2 := Hid.mk2 (fun w6 (hw6 : w6 = ((w5.setCell ⟨g, i * 3, none⟩ (.int .i64 0)).setCell ⟨g, i * 3 + 1, none⟩ (.int .i64 0)).setCell ⟨g, i * 3 + 2, none⟩ (.int .u16 0)) => show TK w w6 (.slice (some ⟨b, off, none⟩) ps.length cap) ∧ w6.cell? ⟨lb, 0, none⟩ = some (.slice (some ⟨g, 0, none⟩) ps.length rc) ∧ lb < w6.heap.size ∧ (g < w6.heap.size ∧ (∀ j, w6.frozen? ⟨g, j, none⟩ = false) ∧ ∀ j (hj : j < (ps.set i pz).length), PgLies w6 g (j * 3) (ps.set i pz)[j]) from by
      have hl := set3_lies (n := 0) (p := pz) (i := i) (by simpa using hi) HG5.out.2.2
      rw [hw6]
      have hgr : w5.grownBy (((w5.setCell ⟨g, i * 3, none⟩ (.int .i64 0)).setCell ⟨g, i * 3 + 1, none⟩ (.int .i64 0)).setCell ⟨g, i * 3 + 2, none⟩ (.int .u16 0)) (some g) := ((grown_set _ _ _ _).trans (grown_set _ _ _ _)).trans (grown_set _ _ _ _)
      refine ⟨HT5.out.grown hgw hgr, hgr.cell (a := ⟨lb, 0, none⟩) l5 (by intro e; have := Option.some.inj e; simp at this; omega), Nat.lt_of_lt_of_le hl5 hgr.size, Nat.lt_of_lt_of_le kl hgr.size, (fun j => by simpa using HG5.out.2.1 j), ?_⟩
      intro j hj
      have h3 := hl j (by simpa using hj)
      simp only [List.set_set] at h3
      exact h3)
    go_upto_region 12 with (fail)
    obtain ⟨w6, hw6⟩ : ∃ w6, w6 = ((w5.setCell ⟨g, i * 3, none⟩ (.int .i64 0)).setCell ⟨g, i * 3 + 1, none⟩ (.int .i64 0)).setCell ⟨g, i * 3 + 2, none⟩ (.int .u16 0) := ⟨_, rfl⟩
    rw [← hw6]
    obtain ⟨T6, l6, hl6, G6⟩ := HCT2.out w6 hw6
    have b6 := T6.c1
    have f6 := T6.f1
    have y6 := T6.x1
    have HT6 := Hid.mk2 T6
    have HG6 := Hid.mk2 G6
    clear hw6 T6 G6 HCT2 l5 hl5 b5 f5 y5 s0 s1 s2 k0 k1 k2 kl
    go_wp2
    have z0 : (w6.setCell ⟨w.heap.size + 1, 0, none⟩ (.slice (some ⟨g, 0, none⟩) ps.length rc)).cell? ⟨w.heap.size + 1, 0, none⟩ = some (.slice (some ⟨g, 0, none⟩) ps.length rc) := World.cell?_setCell_same _ _ _ b6
    try simp only [Exit.inBlock, Exit.then]
    refine bodyPost_ret (v := .tuple #[.agg #[.slice (some ⟨g, 0, none⟩) ps.length rc], .int .i64 0]) (by simp [results, Try.results39, go_sem, z0]) rfl ⟨_, _, rfl, ?_, HT6.out.below.setCell (by simp) _⟩
    refine ⟨by simpa using hF1, hF2, (by intro e; cases e), .inr ⟨g, 0, rfl, by simpa using HG6.out.1, fun j hj => ?_⟩⟩
    rw [Nat.zero_add]
    exact (HG6.out.2.2 j hj).grown (grown_set w6 (w.heap.size + 1) 0 _) (by intro e; have := Option.some.inj e; omega)
  · have e : q = G := by rw [HGV.out, if_neg hz]
    subst e
    have g10 : ((q.u : Int) == 0) = false := by simp [hz]
    clear hz
    go_wp2
    have z0 : (w5.setCell ⟨w.heap.size + 1, 0, none⟩ (.slice (some ⟨g, 0, none⟩) ps.length rc)).cell? ⟨w.heap.size + 1, 0, none⟩ = some (.slice (some ⟨g, 0, none⟩) ps.length rc) := World.cell?_setCell_same _ _ _ b5
    try simp only [Exit.inBlock, Exit.then]
    refine bodyPost_ret (v := .tuple #[.agg #[.slice (some ⟨g, 0, none⟩) ps.length rc], .int .i64 0]) (by simp [results, Try.results39, go_sem, z0]) rfl ⟨_, _, rfl, ?_, HT5.out.below.setCell (by simp) _⟩
    refine ⟨by simpa using hF1, hF2, (by intro e; cases e), .inr ⟨g, 0, rfl, by simpa using HG5.out.1, fun j hj => ?_⟩⟩
    rw [Nat.zero_add]
    exact (HG5.out.2.2 j hj).grown (grown_set w5 (w.heap.size + 1) 0 _) (by intro e; have := Option.some.inj e; omega)
end Go.Proofs.Ytkcgleahbhmggaa
