/-
  Package ticket: contract of copied.
-/
import Derived.Test.YtpnmokmadbapoaaTkN
import Derived.Deep.RegionHeldLaw
namespace Go.Proofs.Ytpnmokmadbapoaa
open Go.RowKit
set_option linter.unusedSimpArgs false
set_option linter.unusedVariables false
set_option maxRecDepth 100000

/-- append(v, q) as one operation; the element lies in a new block of its own -/
theorem g_op_one {α : Type} {E : GEl α} {w w0 : World} {o : Oper} {a : Act} {Q : Exit → Act → World → Prop} {P : Act → World → Prop} (K : GOk E) (s x : Operand) (T : TypeId) (ho : o.op = .call { callee := .builtin .append, args := #[s, x], argTypes := #[T, T] }) (hT : T = E.st)
    (base : Nat) (v : Value) (l : List α) (hown : GOwn E w0 base v l) (hs : a.eval s = v) (q : α) (hw : w = w0.alloc (.cells (E.cells q).toArray E.e)) (H : Nat) (hx : a.eval x = .slice (some ⟨H, 0, none⟩) 1 1) (hH : H = w0.heap.size)
    (hlen : l.length + 1 ≤ 1000000) (hbase : base ≤ w0.heap.size)
    (h : ∀ v' w', GOwn E w' base v' (l ++ [q]) → GGrew w0 w' v v' → P (a.put o.dst v') w') : Oper.wp Try.prog o a w P Q := by
  subst hw hH hT
  obtain ⟨v', w', hr, h2, h3⟩ := g_run K (w0.alloc (.cells (E.cells q).toArray E.e)) o.type base v l (hown.alloc _) _ 1 [q] (g_new K w0 q) (by simpa using hlen) (by simp; omega)
  unfold Oper.wp execOp
  simp only [ho, resolve, invoke, builtin, Sem.run_bind, Sem.run_pure, Result.andThen_ok, List.map_toArray, List.map_cons, List.map_nil, hs, hx]
  simp only [List.length_cons, List.length_nil, Nat.zero_add] at hr
  rw [hr]
  exact h v' w' h2 h3.alloc
/-- blocks ahead of N, but for g, are as they were -/
def Rl (wr : World) (N g : Nat) (V : World) : Prop := ∀ k, k < N → k ≠ g → V.heap[k]? = wr.heap[k]?
theorem Rl.of_below {wr V : World} {N g : Nat} (h : Below wr.heap.size wr V) (hN : N ≤ wr.heap.size) : Rl wr N g V := fun k hk _ => h.block k (by omega)
theorem Rl.on {wr V V' : World} {N g : Nat} (h : Rl wr N g V) (hb : Below V.heap.size V V') (hN : N ≤ V.heap.size) : Rl wr N g V' := fun k hk hg => (hb.block k (by omega)).trans (h k hk hg)
theorem Rl.grown {wr V V' : World} {N g : Nat} {row : Option Nat} (h : Rl wr N g V) (hg : V.grownBy V' row) (hr : ∀ k, row = some k → N ≤ k) (hN : N ≤ V.heap.size) : Rl wr N g V' := fun k hk hne => (hg.block k (by omega) (by intro e; have := hr k e.symm; omega)).trans (h k hk hne)
theorem Rl.set {wr V : World} {N g : Nat} (h : Rl wr N g V) (j : Nat) (u : Value) : Rl wr N g (V.setCell ⟨g, j, none⟩ u) := fun k hk hne => (Below.heap_setCell V ⟨g, j, none⟩ u k hne).trans (h k hk hne)
theorem Rl.cell {wr : World} {N g : Nat} {a : Addr} {v : Value} (hN : a.block < N) (hg : a.block ≠ g) (h : wr.cell? a = some v) (V : World) (hV : Rl wr N g V) : V.cell? a = some v := (World.cell?_of_block (hV a.block hN hg)).trans h
/-- the world within the copying -/
structure Cp (w : World) (next : Int) (v : Value) (n : Nat) (g Lb N : Nat) (wx : World) (B' : List Bx) : Prop where
  below : Below w.heap.size w wx
  qb : GBx wx w.heap.size [.int .i64 next, v]
  rb : GBx wx (w.heap.size + 1) [.int .i64 0, .slice none 0 0]
  lb : GBx wx Lb [.int .i64 next, .slice (some ⟨g, 0, none⟩) n n]
  q : Qo wx N g B'
  g0 : w.heap.size + 2 ≤ g
  l0 : w.heap.size + 2 ≤ Lb
  gN : g < N
  lN : Lb < N
  ne : Lb ≠ g
  len : B'.length = n
  hN : N ≤ wx.heap.size
section
variable {w wx wx' : World} {next : Int} {v : Value} {n g Lb N : Nat} {B' : List Bx}
theorem Cp.on (h : Cp w next v n g Lb N wx B') (hb : Below wx.heap.size wx wx') : Cp w next v n g Lb N wx' B' :=
  ⟨h.below.trans (hb.mono (by have := h.qb.lt; omega)), h.qb.below hb, h.rb.below hb, h.lb.below hb, h.q.below hb, h.g0, h.l0, h.gN, h.lN, h.ne, h.len, Nat.le_trans h.hN hb.size⟩
theorem Cp.upd (h : Cp w next v n g Lb N wx B') {i : Nat} (hi : i < B'.length) {nb : Bx} (hgr : wx.grownBy wx' B'[i].v.ownBlock) (hlies : ∀ k, nb.v.ownBlock = some k → B'[i].v.ownBlock = some k ∨ wx.heap.size ≤ k) (hown : GOwn ET wx' N nb.v nb.l)
    (hk : ∀ d ∈ nb.l, d ∈ B'[i].l ∨ (GOwn ES wx N d.v d.t.c.keys ∧ ∀ k, d.v.ownBlock = some k → k ≠ g ∧ ∀ j (hj : j < B'.length), B'[j].v.ownBlock ≠ some k)) : Cp w next v n g Lb N (wx'.setCell ⟨g, i, none⟩ nb.v) (B'.set i nb) := by
  have hr : ∀ k, B'[i].v.ownBlock = some k → N ≤ k := fun k hk' => ((h.q.box i hi).lt k hk').1
  have h1 := h.g0
  have h2 := h.l0
  have h3 := h.gN
  have h4 := h.lN
  have h5 := h.hN
  have h6 := h.qb.lt
  have hne : ∀ b, b < N → B'[i].v.ownBlock ≠ some b := fun b hb e => by have := hr b e; omega
  have hb1 : Below w.heap.size w wx' := h.below.grown hgr (by omega) (fun k hk' => by have := hr k hk'; omega)
  exact ⟨hb1.setCell (by show w.heap.size ≤ g; omega) _, (h.qb.grown hgr (hne _ (by omega))).other _ _ (by omega), (h.rb.grown hgr (hne _ (by omega))).other _ _ (by omega), (h.lb.grown hgr (hne _ h4)).other _ _ (fun e => h.ne e.symm), h.q.upd hi hgr hlies hown hk, h.g0, h.l0, h.gN, h.lN, h.ne, by rw [List.length_set]; exact h.len, by have := hgr.size; simp; omega⟩
end
/-- how far the copying is -/
def cpd (q : List (List Tk)) (k kk j : Nat) : List Tk := if j < k then bxs q j else if j = k then (bxs q j).take kk else []
theorem bxs_set {B' : List Bx} {i : Nat} {nb : Bx} (hi : i < B'.length) (j : Nat) : bxs (dat (B'.set i nb)) j = if j = i then nb.l.map Td.t else bxs (dat B') j := by
  unfold bxs dat
  rw [List.map_set, List.getD_eq_getElem?_getD, List.getElem?_set]
  by_cases e : i = j
  · subst e
    simp [hi]
  · rw [if_neg e, if_neg (fun x => e x.symm), List.getD_eq_getElem?_getD]
theorem cpd_zero (q : List (List Tk)) (j : Nat) : cpd q 0 0 j = [] := by unfold cpd; split <;> (try split) <;> simp_all
theorem cpd_next {q : List (List Tk)} {k kk : Nat} (h : (bxs q k).length ≤ kk) (j : Nat) : cpd q k kk j = cpd q (k + 1) 0 j := by
  unfold cpd
  by_cases h1 : j < k
  · rw [if_pos h1, if_pos (by omega)]
  · rw [if_neg h1]
    by_cases h2 : j = k
    · rw [if_pos h2, if_pos (by omega), List.take_of_length_le (by rw [h2]; exact h)]
    · rw [if_neg h2, if_neg (by omega)]
      split
      · simp
      · rfl
theorem bxs_none {q : List (List Tk)} {j : Nat} (h : q.length ≤ j) : bxs q j = [] := by unfold bxs; rw [List.getD_eq_getElem?_getD, List.getElem?_eq_none h]; rfl
theorem dat_of_bxs {p q : List (List Tk)} (hl : p.length = q.length) (h : ∀ j, bxs p j = bxs q j) : p = q := by
  apply List.ext_getElem hl
  intro j h1 h2
  have := h j
  unfold bxs at this
  rw [List.getD_eq_getElem?_getD, List.getD_eq_getElem?_getD, List.getElem?_eq_getElem h1, List.getElem?_eq_getElem h2] at this
  exact this

set_option maxHeartbeats 2000000 in
theorem copied_any (B : List Bx) (ao : Option Addr) (cap m : Nat) (hm : m = B.length) (hn0 : 1 ≤ B.length) (hn1 : B.length ≤ 4) (next : Int) (h8 : ∀ b ∈ B, b.l.length ≤ 256 ∧ ∀ d ∈ b.l, d.t.c.keys.length ≤ 8) (w : World) (h : Qr w ao B cap) :
    Calls Try.prog 68 #[.agg #[.int .i64 next, .slice ao m cap]] w fun e w' => ∃ g B', e = .returned (.agg #[.int .i64 next, .slice (some ⟨g, 0, none⟩) B.length B.length]) ∧ w.heap.size ≤ g ∧ Qo w' w.heap.size g B' ∧ dat B' = dat B ∧ Below w.heap.size w w' := by
  subst hm
  have hlen := h.row.len
  obtain ⟨W, hW⟩ : ∃ W, W = (w.alloc (.cells #[.int .i64 next, .slice ao B.length cap] 62)).alloc (.cells #[.int .i64 0, .slice none 0 0] 62) := ⟨_, rfl⟩
  have HB : Hid (Below w.heap.size w W) := by rw [hW]; exact g_on (g_alloc _ _) (g_alloc _ _)
  have HX : Hid (GBx W w.heap.size [.int .i64 next, .slice ao B.length cap]) := by rw [hW]; exact (GBx.made w [.int .i64 next, .slice ao B.length cap] _).alloc _
  have HY : Hid (GBx W (w.heap.size + 1) [.int .i64 0, .slice none 0 0]) := by
    rw [hW]
    have := GBx.made (w.alloc (.cells #[.int .i64 next, .slice ao B.length cap] 62)) [.int .i64 0, .slice none 0 0] 62
    rw [show (w.alloc (.cells #[.int .i64 next, .slice ao B.length cap] 62)).heap.size = w.heap.size + 1 by simp] at this
    exact this
  obtain ⟨mk, hmk⟩ : ∃ mk : World → World, ∀ V, (Instr.makeSlice 60 (.int .i64 B.length) (.int .i64 B.length)).run Try.prog V = .ok (.slice (some ⟨V.heap.size, 0, none⟩) B.length B.length) (mk V) ∧ GBx (mk V) V.heap.size (List.replicate B.length (.slice none 0 0)) ∧ Below V.heap.size V (mk V) := ⟨fun V => Classical.choose (make_boxes B.length hn0 hn1 V), fun V => Classical.choose_spec (make_boxes B.length hn0 hn1 V)⟩
  have hrun := fun V => (hmk V).1
  have HG := Hid.mk2 (fun V => (hmk V).2.1)
  have HGB := Hid.mk2 (fun V => (hmk V).2.2)
  clear hmk
  have HQR := Hid.mk2 h
  have HWS : Hid (W.heap.size = w.heap.size + 2) := by show _ = _; rw [hW]; simp
  have H8 := Hid.mk2 h8
  have x0 := HX.out.c 0 (by simp)
  have x1 := HX.out.c 1 (by simp)
  have xlt := HX.out.lt
  simp only [List.getElem_cons_zero, List.getElem_cons_succ] at x0 x1
  clear h h8
  go_enter Try.func68, Try.ntmps68
  go_upto_region 1 with (fail)
  rw [← hW]
  clear hW
  have HV1 : Hid (Below W.heap.size W (W.alloc (.cells #[.int .i64 0, .slice none 0 0] 62)).drew) := (g_alloc _ _).drew
  have HL1 : Hid (GBx (W.alloc (.cells #[.int .i64 0, .slice none 0 0] 62)).drew W.heap.size [.int .i64 0, .slice none 0 0]) := (GBx.made W [.int .i64 0, .slice none 0 0] _).below (Below.refl _ _).drew
  have HM1 := Hid.mk2 (g_on HV1.out (HGB.out _))
  have HLM := Hid.mk2 (HL1.out.below (HGB.out _))
  have m0 := (HX.out.below HM1.out).c 0 (by simp)
  have m1 := (HX.out.below HM1.out).c 1 (by simp)
  have l0 := HLM.out.c 0 (by simp)
  have l1 := HLM.out.c 1 (by simp)
  have lf0 := HLM.out.f 0
  have lf1 := HLM.out.f 1
  simp only [List.getElem_cons_zero, List.getElem_cons_succ] at m0 m1 l0 l1
  have HM2 := Hid.mk2 (g_on (Below.refl _ W).drew (HGB.out W.drew))
  have HM3 := Hid.mk2 (g_on HM2.out (g_alloc (mk W.drew) (.cells #[.int .i64 0, .slice none 0 0] 62)))
  have n0 := (HX.out.below HM2.out).c 0 (by simp)
  have n1 := (HX.out.below HM2.out).c 1 (by simp)
  have nlt := (HX.out.below HM2.out).lt
  have mlt := (HX.out.below HM1.out).lt
  have llt := HLM.out.lt
  simp only [List.getElem_cons_zero, List.getElem_cons_succ] at n0 n1
  go_cut [3] from 6 (fun s3 wx => ∃ g Lb, s3 = .pointer (some ⟨Lb, 0, none⟩) ∧ Hid (Cp w next (.slice ao B.length cap) B.length g Lb wx.heap.size wx (List.replicate B.length nobox)))
  case first =>
    go_region
    · go_wp2_with fail
      go_meet
      case rel =>
        refine ⟨W.heap.size, (mk W.drew).heap.size, rfl, ?_⟩
        have q1 := HGB.out W.drew
        have q2 := HG.out W.drew
        have z1 := q1.size
        have z2 := q2.lt
        have z3 := HY.out.lt
        have ez : W.drew.heap.size = W.heap.size := rfl
        rw [ez] at q2 z1 z2
        have hb := g_alloc (mk W.drew) (.cells #[.int .i64 next, .slice (some ⟨W.heap.size, 0, none⟩) B.length B.length] 62)
        have hM := HM2.out
        refine ⟨g_on (g_on HB.out hM) hb, (HX.out.below hM).below hb, (HY.out.below hM).below hb, GBx.made (mk W.drew) [.int .i64 next, .slice (some ⟨W.heap.size, 0, none⟩) B.length B.length] _, Qo.made (q2.below hb), ?_, ?_, ?_, ?_, ?_, by simp, Nat.le_refl _⟩ <;> first | omega | (simp; done) | (simp; omega)
    · go_wp2_with fail
      go_meet
      case rel =>
        refine ⟨W.heap.size + 1, W.heap.size, rfl, ?_⟩
        have q1 := HGB.out (W.alloc (.cells #[.int .i64 0, .slice none 0 0] 62)).drew
        have q2 := HG.out (W.alloc (.cells #[.int .i64 0, .slice none 0 0] 62)).drew
        have ez : (W.alloc (.cells #[.int .i64 0, .slice none 0 0] 62)).drew.heap.size = W.heap.size + 1 := by simp
        have z1 := q1.size
        have z2 := q2.lt
        have z3 := HY.out.lt
        rw [ez] at q2 z1 z2
        have hM := HM1.out
        have hs := sets_grown (b := W.heap.size) [.int .i64 next, .slice (some ⟨W.heap.size + 1, 0, none⟩) B.length B.length] (mk (W.alloc (.cells #[.int .i64 0, .slice none 0 0] 62)).drew) 0
        have hz := hs.size
        refine ⟨sets_below (b := W.heap.size) (g_on HB.out hM) [.int .i64 next, .slice (some ⟨W.heap.size + 1, 0, none⟩) B.length B.length] 0 (by omega) (by omega), (HX.out.below hM).grown hs (by intro e; have := Option.some.inj e; omega), (HY.out.below hM).grown hs (by intro e; have := Option.some.inj e; omega), GBx.sets [.int .i64 next, .slice (some ⟨W.heap.size + 1, 0, none⟩) B.length B.length] HLM.out rfl, Qo.made (q2.grown hs (by intro e; have := Option.some.inj e; omega)), ?_, ?_, ?_, ?_, ?_, by simp, Nat.le_refl _⟩ <;> first | omega | (simp; done) | (simp; omega)
  case rest =>
  obtain ⟨g, Lb, rfl, HC0⟩ := hcut
  obtain ⟨N, hN⟩ : ∃ N, N = wc.heap.size := ⟨_, rfl⟩
  rw [← hN] at HC0
  clear HX HY HG HGB hrun HV1 HL1 HM1 HLM HM2 HM3 m0 m1 l0 l1 lf0 lf1 n0 n1 nlt mlt llt x0 x1 xlt hN
  have a1 := HC0.out.qb.c 1 (by simp)
  simp only [List.getElem_cons_zero, List.getElem_cons_succ] at a1
  have HBN : Hid (W.heap.size ≤ N ∧ W.heap.size ≤ g) := by
    have h1 := HC0.out.g0
    have h2 := HC0.out.gN
    have h3 := HWS.out
    show _ ∧ _
    omega
  have HRC := Hid.mk2 (fun V (hV : Below w.heap.size w V) => HQR.out.below hV)
  have HD0 : Hid (∀ j, bxs (dat (List.replicate B.length nobox)) j = cpd (dat B) 0 0 j) := by
    intro j
    rw [cpd_zero]
    unfold bxs dat
    rw [List.map_replicate, List.getD_eq_getElem?_getD]
    by_cases h : j < B.length
    · rw [List.getElem?_replicate_of_lt h]; rfl
    · rw [List.getElem?_eq_none (by simp; omega)]; rfl
  go_wp2
  go_loopw [4, 16] (fun _ i wr => ∃ (k : Nat) (B' : List Bx), k ≤ B.length ∧ i = .int .i64 k ∧ Hid (Cp w next (.slice ao B.length cap) B.length g Lb N wr B') ∧ Hid (∀ j, bxs (dat B') j = cpd (dat B) k 0 j)) (fun _ i _ => B.length - (intOf i).toNat)
  case atStart => exact ⟨0, _, Nat.zero_le _, rfl, HC0, HD0⟩
  case round =>
    obtain ⟨k, B1, hkn, rfl, HC1, HD1⟩ := hrel
    by_cases hkl : k < B.length
    · have hkl2 : (k : Int) < (B.length : Int) := by omega
      have hne : B ≠ [] := by intro e; rw [e] at hkl; simp at hkl
      have HRR := Hid.mk2 (HRC.out _ HC1.out.below)
      obtain ⟨b, off, rfl, hbl, hcs⟩ := HQR.out.row.bx hne
      have rb0 := hcs k hkl
      have HBOX := Hid.mk2 (HQR.out.box B[k] (List.getElem_mem hkl))
      have HKEY := Hid.mk2 (HQR.out.keys B[k] (List.getElem_mem hkl))
      have H8K := Hid.mk2 (H8.out B[k] (List.getElem_mem hkl))
      have HBD : Hid (bxs (dat B) k = B[k].l.map Td.t) := bxs_dat hkl
      obtain ⟨bx, hbx⟩ : ∃ bx, bx = B[k] := ⟨_, rfl⟩
      rw [← hbx] at rb0 HBOX HKEY H8K HBD
      clear hbx hcs hne
      obtain ⟨bl, bao, bcap⟩ := bx
      dsimp only at rb0 HBOX HKEY H8K HBD
      have hlk := HBOX.out.len
      have rb1 := (HC1.out.below.cell (p := ⟨b, off + k, none⟩) hbl).trans rb0
      have c1 := HC1.out.qb.c 1 (by simp)
      simp only [List.getElem_cons_zero, List.getElem_cons_succ] at c1
      go_wp2
      go_loopw [5, 25] (fun _ i wr => ∃ (kk : Nat) (B' : List Bx), kk ≤ bl.length ∧ i = .int .i64 kk ∧ Hid (Cp w next (.slice (some ⟨b, off, none⟩) B.length cap) B.length g Lb N wr B') ∧ Hid (∀ j, bxs (dat B') j = cpd (dat B) k kk j)) (fun _ i _ => bl.length - (intOf i).toNat)
      case atStart => exact ⟨0, _, Nat.zero_le _, rfl, HC1, HD1⟩
      case round =>
        obtain ⟨kk, B2, hkn2, rfl, HC2, HD2⟩ := hrel
        by_cases hkl3 : kk < bl.length
        · have hkl4 : (kk : Int) < (bl.length : Int) := by omega
          have hneb : bl ≠ [] := by intro e; rw [e] at hkl3; simp at hkl3
          have hk2 : k < B2.length := by rw [HC2.out.len]; exact hkl
          obtain ⟨b1, off1, rfl, hbl1, hc1⟩ := HBOX.out.tks hneb
          obtain ⟨r0, r1, r2, r3, r4, r5, r6, r7, r8, r9, r10, r11⟩ := hc1 kk hkl3
          have HKD := Hid.mk2 (HKEY.out bl[kk] (List.getElem_mem hkl3))
          have H8D := Hid.mk2 (H8K.out.2 bl[kk] (List.getElem_mem hkl3))
          have HBK : Hid (∀ L, bxs (dat B2) k = L → L = (bl.map Td.t).take kk) := by
            intro L hL
            rw [← hL, HD2.out k]
            unfold cpd
            rw [if_neg (by omega), if_pos rfl, HBD.out]
          have HTK : Hid ((bl.map Td.t).take (kk + 1) = (bl.map Td.t).take kk ++ [bl[kk].t]) := by show _ = _; rw [take_step _ kk (by simpa using hkl3)]; simp
          obtain ⟨d, hd⟩ : ∃ d, d = bl[kk] := ⟨_, rfl⟩
          rw [← hd] at r0 r1 r2 r3 r4 r5 r6 r7 r8 r9 r10 r11 HKD H8D HTK
          obtain ⟨t, so, sc⟩ := d
          obtain ⟨num, kind, ⟨ckind, tenant, keys, value, flags, life, unique, by_⟩, ten, dest⟩ := t
          dsimp only at r0 r1 r2 r3 r4 r5 r6 r7 r8 r9 r10 r11 HKD H8D HTK
          have HLV : Hid (B2[k].l.length + 1 ≤ 1000000) := by
            have h9 := HBK.out _ (bxs_dat hk2)
            have h10 := congrArg List.length h9
            have h11 := H8K.out.1
            simp at h10
            show _ ≤ _
            omega
          have HOV := Hid.mk2 (HC2.out.q.box k hk2)
          have g0 := HC2.out.g0
          have l0 := HC2.out.l0
          have gN := HC2.out.gN
          have lN := HC2.out.lN
          have nN := HC2.out.hN
          have q1 := HC2.out.qb.c 1 (by simp)
          have e1 := HC2.out.lb.c 1 (by simp)
          have rw_ := HC2.out.q.row.c k (by simpa using hk2)
          have rf := HC2.out.q.row.f k
          have rlt := HC2.out.q.row.lt
          simp only [List.getElem_cons_zero, List.getElem_cons_succ, List.getElem_map] at q1 e1 rw_
          have rb2 := (HC2.out.below.cell (p := ⟨b, off + k, none⟩) hbl).trans rb0
          have t0 := (HC2.out.below.cell (p := ⟨b1, off1 + kk * 12, none⟩) hbl1).trans r0
          have t1 := (HC2.out.below.cell (p := ⟨b1, off1 + kk * 12 + 1, none⟩) hbl1).trans r1
          have t2 := (HC2.out.below.cell (p := ⟨b1, off1 + kk * 12 + 2, none⟩) hbl1).trans r2
          have t3 := (HC2.out.below.cell (p := ⟨b1, off1 + kk * 12 + 3, none⟩) hbl1).trans r3
          have t4 := (HC2.out.below.cell (p := ⟨b1, off1 + kk * 12 + 4, none⟩) hbl1).trans r4
          have t5 := (HC2.out.below.cell (p := ⟨b1, off1 + kk * 12 + 5, none⟩) hbl1).trans r5
          have t6 := (HC2.out.below.cell (p := ⟨b1, off1 + kk * 12 + 6, none⟩) hbl1).trans r6
          have t7 := (HC2.out.below.cell (p := ⟨b1, off1 + kk * 12 + 7, none⟩) hbl1).trans r7
          have t8 := (HC2.out.below.cell (p := ⟨b1, off1 + kk * 12 + 8, none⟩) hbl1).trans r8
          have t9 := (HC2.out.below.cell (p := ⟨b1, off1 + kk * 12 + 9, none⟩) hbl1).trans r9
          have t10 := (HC2.out.below.cell (p := ⟨b1, off1 + kk * 12 + 10, none⟩) hbl1).trans r10
          have t11 := (HC2.out.below.cell (p := ⟨b1, off1 + kk * 12 + 11, none⟩) hbl1).trans r11
          have hneL := HC2.out.ne
          obtain ⟨vk, hvk⟩ : ∃ vk, vk = B2[k].v := ⟨_, rfl⟩
          have HVK := Hid.mk2 hvk
          rw [← hvk] at rw_ HOV
          have u1 : ∀ V, Rl wr N g V → V.cell? ⟨w.heap.size, 1, none⟩ = _ := Rl.cell (a := ⟨w.heap.size, 1, none⟩) (by show w.heap.size < N; omega) (by show w.heap.size ≠ g; omega) q1
          have u2 : ∀ V, Rl wr N g V → V.cell? ⟨Lb, 1, none⟩ = _ := Rl.cell (a := ⟨Lb, 1, none⟩) lN hneL e1
          have u3 : ∀ V, Rl wr N g V → V.cell? ⟨b, off + k, none⟩ = _ := Rl.cell (a := ⟨b, off + k, none⟩) (by show b < N; omega) (by show b ≠ g; omega) rb2
          have hb1N : b1 < N := by omega
          have hb1g : b1 ≠ g := by omega
          have s0 : ∀ V, Rl wr N g V → V.cell? ⟨b1, off1 + kk * 12, none⟩ = _ := Rl.cell (a := ⟨b1, off1 + kk * 12, none⟩) hb1N hb1g t0
          have s1 : ∀ V, Rl wr N g V → V.cell? ⟨b1, off1 + kk * 12 + 1, none⟩ = _ := Rl.cell (a := ⟨b1, off1 + kk * 12 + 1, none⟩) hb1N hb1g t1
          have s2 : ∀ V, Rl wr N g V → V.cell? ⟨b1, off1 + kk * 12 + 2, none⟩ = _ := Rl.cell (a := ⟨b1, off1 + kk * 12 + 2, none⟩) hb1N hb1g t2
          have s3 : ∀ V, Rl wr N g V → V.cell? ⟨b1, off1 + kk * 12 + 3, none⟩ = _ := Rl.cell (a := ⟨b1, off1 + kk * 12 + 3, none⟩) hb1N hb1g t3
          have s4 : ∀ V, Rl wr N g V → V.cell? ⟨b1, off1 + kk * 12 + 4, none⟩ = _ := Rl.cell (a := ⟨b1, off1 + kk * 12 + 4, none⟩) hb1N hb1g t4
          have s5 : ∀ V, Rl wr N g V → V.cell? ⟨b1, off1 + kk * 12 + 5, none⟩ = _ := Rl.cell (a := ⟨b1, off1 + kk * 12 + 5, none⟩) hb1N hb1g t5
          have s6 : ∀ V, Rl wr N g V → V.cell? ⟨b1, off1 + kk * 12 + 6, none⟩ = _ := Rl.cell (a := ⟨b1, off1 + kk * 12 + 6, none⟩) hb1N hb1g t6
          have s7 : ∀ V, Rl wr N g V → V.cell? ⟨b1, off1 + kk * 12 + 7, none⟩ = _ := Rl.cell (a := ⟨b1, off1 + kk * 12 + 7, none⟩) hb1N hb1g t7
          have s8 : ∀ V, Rl wr N g V → V.cell? ⟨b1, off1 + kk * 12 + 8, none⟩ = _ := Rl.cell (a := ⟨b1, off1 + kk * 12 + 8, none⟩) hb1N hb1g t8
          have s9 : ∀ V, Rl wr N g V → V.cell? ⟨b1, off1 + kk * 12 + 9, none⟩ = _ := Rl.cell (a := ⟨b1, off1 + kk * 12 + 9, none⟩) hb1N hb1g t9
          have s10 : ∀ V, Rl wr N g V → V.cell? ⟨b1, off1 + kk * 12 + 10, none⟩ = _ := Rl.cell (a := ⟨b1, off1 + kk * 12 + 10, none⟩) hb1N hb1g t10
          have s11 : ∀ V, Rl wr N g V → V.cell? ⟨b1, off1 + kk * 12 + 11, none⟩ = _ := Rl.cell (a := ⟨b1, off1 + kk * 12 + 11, none⟩) hb1N hb1g t11
          have HR0 : Hid (Rl wr N g wr.drew) := Rl.of_below (Below.refl _ _).drew nN
          have HCT := Hid.mk2 (fun V (hV : Below wr.heap.size wr V) => copiedTicket_any ⟨num, kind, ⟨ckind, tenant, keys, value, flags, life, unique, by_⟩, ten, dest⟩ so sc keys.length rfl (Nat.le_trans H8D.out (by omega)) V ((HKD.out.below HC2.out.below).below hV))
          unfold Tk.arr at HCT
          dsimp only at HCT
          have hk4 : (k : Int) < (B.length : Int) := by omega
          clear hd hvk r0 r1 r2 r3 r4 r5 r6 r7 r8 r9 r10 r11 hc1 hneb rb1 c1 q1 e1 rb2 HBOX HKEY
          go_upto_region 8 with (fail)
          refine wp_region_noPanic ?_
          refine wp_region_held_drew (S := fun V => Rl wr N g V) (by kernel_rfl) HR0.out (fun _ => ?_)
          refine wpAnyH_take (i := 0) (v := .pointer (some ⟨Lb, 1, none⟩)) rfl (by kernel_rfl) (by kernel_rfl) (by kernel_rfl) (fun _ _ _ h => h) (Or.inl ⟨by kernel_rfl, fun W hW => by go_simp⟩) HR0.out ?_
          try simp only [List.getElem_toArray, List.getElem_cons_zero, List.getElem_cons_succ, Act.put, List.setIfInBounds_toArray, List.set_cons_zero, List.set_cons_succ, List.append_eq, List.cons_append, List.nil_append]
          refine wpAnyH_take (i := 1) (v := .slice (some ⟨g, 0, none⟩) B.length B.length) rfl (by kernel_rfl) (by kernel_rfl) (by kernel_rfl) (fun _ _ _ h => h) (Or.inl ⟨by kernel_rfl, fun W hW => by have hq0 := u2 W hW; go_simp⟩) HR0.out ?_
          try simp only [List.getElem_toArray, List.getElem_cons_zero, List.getElem_cons_succ, Act.put, List.setIfInBounds_toArray, List.set_cons_zero, List.set_cons_succ, List.append_eq, List.cons_append, List.nil_append]
          refine wpAnyH_take (i := 2) (v := .int .i64 k) rfl (by kernel_rfl) (by kernel_rfl) (by kernel_rfl) (fun _ _ _ h => h) (Or.inl ⟨by kernel_rfl, fun W hW => by kernel_rfl⟩) HR0.out ?_
          try simp only [List.getElem_toArray, List.getElem_cons_zero, List.getElem_cons_succ, Act.put, List.setIfInBounds_toArray, List.set_cons_zero, List.set_cons_succ, List.append_eq, List.cons_append, List.nil_append]
          refine wpAnyH_take (i := 3) (v := .pointer (some ⟨Lb, 1, none⟩)) rfl (by kernel_rfl) (by kernel_rfl) (by kernel_rfl) (fun _ _ _ h => h) (Or.inl ⟨by kernel_rfl, fun W hW => by go_simp⟩) HR0.out ?_
          try simp only [List.getElem_toArray, List.getElem_cons_zero, List.getElem_cons_succ, Act.put, List.setIfInBounds_toArray, List.set_cons_zero, List.set_cons_succ, List.append_eq, List.cons_append, List.nil_append]
          refine wpAnyH_take (i := 4) (v := .slice (some ⟨g, 0, none⟩) B.length B.length) rfl (by kernel_rfl) (by kernel_rfl) (by kernel_rfl) (fun _ _ _ h => h) (Or.inl ⟨by kernel_rfl, fun W hW => by have hq0 := u2 W hW; go_simp⟩) HR0.out ?_
          try simp only [List.getElem_toArray, List.getElem_cons_zero, List.getElem_cons_succ, Act.put, List.setIfInBounds_toArray, List.set_cons_zero, List.set_cons_succ, List.append_eq, List.cons_append, List.nil_append]
          refine wpAnyH_take (i := 5) (v := .int .i64 k) rfl (by kernel_rfl) (by kernel_rfl) (by kernel_rfl) (fun _ _ _ h => h) (Or.inl ⟨by kernel_rfl, fun W hW => by kernel_rfl⟩) HR0.out ?_
          try simp only [List.getElem_toArray, List.getElem_cons_zero, List.getElem_cons_succ, Act.put, List.setIfInBounds_toArray, List.set_cons_zero, List.set_cons_succ, List.append_eq, List.cons_append, List.nil_append]
          refine wpAnyH_take (i := 6) (v := .pointer (some ⟨g, k, none⟩)) rfl (by kernel_rfl) (by kernel_rfl) (by kernel_rfl) (fun _ _ _ h => h) (Or.inl ⟨by kernel_rfl, fun W hW => by go_simp⟩) HR0.out ?_
          try simp only [List.getElem_toArray, List.getElem_cons_zero, List.getElem_cons_succ, Act.put, List.setIfInBounds_toArray, List.set_cons_zero, List.set_cons_succ, List.append_eq, List.cons_append, List.nil_append]
          refine wpAnyH_take (i := 8) (v := .pointer (some ⟨w.heap.size, 1, none⟩)) rfl (by kernel_rfl) (by kernel_rfl) (by kernel_rfl) (fun _ _ _ h => h) (Or.inl ⟨by kernel_rfl, fun W hW => by go_simp⟩) HR0.out ?_
          try simp only [List.getElem_toArray, List.getElem_cons_zero, List.getElem_cons_succ, Act.put, List.setIfInBounds_toArray, List.set_cons_zero, List.set_cons_succ, List.append_eq, List.cons_append, List.nil_append]
          refine wpAnyH_take (i := 9) (v := .slice (some ⟨b, off, none⟩) B.length cap) rfl (by kernel_rfl) (by kernel_rfl) (by kernel_rfl) (fun _ _ _ h => h) (Or.inl ⟨by kernel_rfl, fun W hW => by have hq0 := u1 W hW; go_simp⟩) HR0.out ?_
          try simp only [List.getElem_toArray, List.getElem_cons_zero, List.getElem_cons_succ, Act.put, List.setIfInBounds_toArray, List.set_cons_zero, List.set_cons_succ, List.append_eq, List.cons_append, List.nil_append]
          refine wpAnyH_take (i := 10) (v := .int .i64 k) rfl (by kernel_rfl) (by kernel_rfl) (by kernel_rfl) (fun _ _ _ h => h) (Or.inl ⟨by kernel_rfl, fun W hW => by kernel_rfl⟩) HR0.out ?_
          try simp only [List.getElem_toArray, List.getElem_cons_zero, List.getElem_cons_succ, Act.put, List.setIfInBounds_toArray, List.set_cons_zero, List.set_cons_succ, List.append_eq, List.cons_append, List.nil_append]
          refine wpAnyH_take (i := 11) (v := .pointer (some ⟨b, off + k, none⟩)) rfl (by kernel_rfl) (by kernel_rfl) (by kernel_rfl) (fun _ _ _ h => h) (Or.inl ⟨by kernel_rfl, fun W hW => by go_simp⟩) HR0.out ?_
          try simp only [List.getElem_toArray, List.getElem_cons_zero, List.getElem_cons_succ, Act.put, List.setIfInBounds_toArray, List.set_cons_zero, List.set_cons_succ, List.append_eq, List.cons_append, List.nil_append]
          refine wpAnyH_take (i := 12) (v := .slice (some ⟨b1, off1, none⟩) bl.length bcap) rfl (by kernel_rfl) (by kernel_rfl) (by kernel_rfl) (fun _ _ _ h => h) (Or.inl ⟨by kernel_rfl, fun W hW => by have hq0 := u3 W hW; go_simp⟩) HR0.out ?_
          try simp only [List.getElem_toArray, List.getElem_cons_zero, List.getElem_cons_succ, Act.put, List.setIfInBounds_toArray, List.set_cons_zero, List.set_cons_succ, List.append_eq, List.cons_append, List.nil_append]
          refine wpAnyH_take (i := 13) (v := .int .i64 kk) rfl (by kernel_rfl) (by kernel_rfl) (by kernel_rfl) (fun _ _ _ h => h) (Or.inl ⟨by kernel_rfl, fun W hW => by kernel_rfl⟩) HR0.out ?_
          try simp only [List.getElem_toArray, List.getElem_cons_zero, List.getElem_cons_succ, Act.put, List.setIfInBounds_toArray, List.set_cons_zero, List.set_cons_succ, List.append_eq, List.cons_append, List.nil_append]
          refine wpAnyH_take (i := 14) (v := .pointer (some ⟨b1, off1 + kk * 12, none⟩)) rfl (by kernel_rfl) (by kernel_rfl) (by kernel_rfl) (fun _ _ _ h => h) (Or.inl ⟨by kernel_rfl, fun W hW => by go_simp⟩) HR0.out ?_
          try simp only [List.getElem_toArray, List.getElem_cons_zero, List.getElem_cons_succ, Act.put, List.setIfInBounds_toArray, List.set_cons_zero, List.set_cons_succ, List.append_eq, List.cons_append, List.nil_append]
          refine wpAnyH_take (i := 15) (v := .agg #[.int .i64 num, .int .u8 kind, .int .u8 ckind, .int .i64 tenant, .slice so keys.length sc, .string value, .int .u32 flags, .int .i64 life, .int .u64 unique, .int .u64 by_, .int .i64 ten, .int .i64 dest]) rfl (by kernel_rfl) (by kernel_rfl) (by kernel_rfl) (fun _ _ _ h => h) (Or.inl ⟨by kernel_rfl, fun W hW => by have hq0 := s0 W hW; have hq1 := s1 W hW; have hq2 := s2 W hW; have hq3 := s3 W hW; have hq4 := s4 W hW; have hq5 := s5 W hW; have hq6 := s6 W hW; have hq7 := s7 W hW; have hq8 := s8 W hW; have hq9 := s9 W hW; have hq10 := s10 W hW; have hq11 := s11 W hW; go_simp⟩) HR0.out ?_
          try simp only [List.getElem_toArray, List.getElem_cons_zero, List.getElem_cons_succ, Act.put, List.setIfInBounds_toArray, List.set_cons_zero, List.set_cons_succ, List.append_eq, List.cons_append, List.nil_append]
          refine wpAnyH_ready (rs := [7, 16]) (by kernel_rfl) (by simp) ?_
          refine AllReadyH.cons rfl (fun K hK => ?_) ?_
          · try simp only [List.getElem_toArray, List.getElem_cons_zero, List.getElem_cons_succ]
            go_simp
            refine hK.out _ _ HR0.out (fun _ => ?_)
            clear hK K
            try simp only [List.getElem_toArray, List.getElem_cons_zero, List.getElem_cons_succ, Act.put, List.setIfInBounds_toArray, List.set_cons_zero, List.set_cons_succ, List.append_eq, List.cons_append, List.nil_append]
            refine wpAnyH_ready (rs := [16]) (by kernel_rfl) (by simp) ?_
            refine AllReadyH.cons rfl (fun K hK => ?_) AllReadyH.nil
            try simp only [List.getElem_toArray, List.getElem_cons_zero, List.getElem_cons_succ]
            go_simp
            go_at_call 69
            refine (HCT.out _ (by first | exact (Below.refl _ _).drew | exact Below.refl _ _)).mono ?_
            rintro e w4 ⟨ko, kc, rfl, hO4, hb4⟩
            have HB4 : Hid (Below wr.heap.size wr w4) := g_drew hb4
            have HO4 := Hid.mk2 hO4
            have HO5 := Hid.mk2 (HOV.out.below HB4.out)
            have hz4 : N ≤ w4.heap.size := Nat.le_trans nN HB4.out.size
            have HR4 : Hid (Rl wr N g w4) := Rl.of_below HB4.out nN
            have rw4 := (HB4.out.cell (p := ⟨g, k, none⟩) rlt).trans rw_
            have rlt4 := Nat.lt_of_lt_of_le rlt HB4.out.size
            clear hO4 hb4
            refine hK.out _ _ HR4.out (fun _ => ?_)
            clear hK K
            try simp only [List.getElem_toArray, List.getElem_cons_zero, List.getElem_cons_succ, Act.put, List.setIfInBounds_toArray, List.set_cons_zero, List.set_cons_succ, List.append_eq, List.cons_append, List.nil_append]
            refine wpAnyH_ready (rs := [17]) (by kernel_rfl) (by simp) ?_
            refine AllReadyH.cons rfl (fun K hK => ?_) AllReadyH.nil
            try simp only [List.getElem_toArray, List.getElem_cons_zero, List.getElem_cons_succ]
            go_simp
            refine hK.out _ _ (HR4.out.on (g_alloc _ _) hz4) (fun _ => ?_)
            clear hK K
            try simp only [List.getElem_toArray, List.getElem_cons_zero, List.getElem_cons_succ, Act.put, List.setIfInBounds_toArray, List.set_cons_zero, List.set_cons_succ, List.append_eq, List.cons_append, List.nil_append]
            refine wpAnyH_ready (rs := [18]) (by kernel_rfl) (by simp) ?_
            refine AllReadyH.cons rfl (fun K hK => ?_) AllReadyH.nil
            try simp only [List.getElem_toArray, List.getElem_cons_zero, List.getElem_cons_succ]
            rw [if_pos (by rfl)]
            refine g_op_one (w0 := w4) okT (.tmp 35) (.tmp 45) _ (by rfl) (by rfl) N vk B2[k].l HO5.out (by rfl) ⟨⟨num, kind, ⟨ckind, tenant, keys, value, flags, life, unique, by_⟩, ten, dest⟩, ko, kc⟩ (by rfl) _ (by rfl) (by rfl) HLV.out hz4 ?_
            intro v7 w7 hO7 hG7
            obtain ⟨a7, cp7, hv7, -⟩ := hO7.rd okT
            subst hv7
            have HO7 := Hid.mk2 hO7
            have HG7 := Hid.mk2 hG7
            have HR7 : Hid (Rl wr N g w7) := HR4.out.grown hG7.grown (fun x hx => (HO5.out.lt x hx).1) hz4
            have HRW7 := Hid.mk2 (((HC2.out.q.row.below HB4.out).grown hG7.grown (by rw [HVK.out]; exact HC2.out.q.sepg k hk2)))
            have rw7 := HRW7.out.c k (by simpa using hk2)
            have rf7 := HRW7.out.f k
            simp only [List.getElem_map] at rw7
            rw [← HVK.out] at rw7
            clear hO7 hG7
            refine hK.out _ _ HR7.out (fun _ => ?_)
            clear hK K
            try simp only [List.getElem_toArray, List.getElem_cons_zero, List.getElem_cons_succ, Act.put, List.setIfInBounds_toArray, List.set_cons_zero, List.set_cons_succ, List.append_eq, List.cons_append, List.nil_append]
            refine wpAnyH_ready (rs := [19]) (by kernel_rfl) (by simp) ?_
            refine AllReadyH.cons rfl (fun K hK => ?_) AllReadyH.nil
            try simp only [List.getElem_toArray, List.getElem_cons_zero, List.getElem_cons_succ]
            go_simp
            refine hK.out _ _ HR7.out (fun _ => ?_)
            clear hK K
            try simp only [List.getElem_toArray, List.getElem_cons_zero, List.getElem_cons_succ, Act.put, List.setIfInBounds_toArray, List.set_cons_zero, List.set_cons_succ, List.append_eq, List.cons_append, List.nil_append]
            refine wpAnyH_ready (rs := [20]) (by kernel_rfl) (by simp) ?_
            refine AllReadyH.cons rfl (fun K hK => ?_) AllReadyH.nil
            try simp only [List.getElem_toArray, List.getElem_cons_zero, List.getElem_cons_succ]
            go_simp
            refine hK.out _ _ (HR7.out.set _ _) (fun _ => ?_)
            clear hK K
            try simp only [List.getElem_toArray, List.getElem_cons_zero, List.getElem_cons_succ, Act.put, List.setIfInBounds_toArray, List.set_cons_zero, List.set_cons_succ, List.append_eq, List.cons_append, List.nil_append]
            refine wpAnyH_done (by kernel_rfl) ?_ _
            refine NoPanic.normal ?_
            have HCU := Hid.mk2 ((HC2.out.on HB4.out).upd (i := k) hk2 (nb := ⟨B2[k].l ++ [⟨⟨num, kind, ⟨ckind, tenant, keys, value, flags, life, unique, by_⟩, ten, dest⟩, ko, kc⟩], a7, cp7⟩) (by rw [← HVK.out]; exact HG7.out.grown) (by rw [← HVK.out]; exact HG7.out.lies) HO7.out (by
              intro d hd
              rcases List.mem_append.1 hd with h9 | h9
              · exact .inl h9
              · rw [List.mem_singleton.1 h9]
                refine .inr ⟨HO4.out.down (by show N ≤ wr.heap.size + 2; omega), fun x hx => ?_⟩
                have hx2 : wr.heap.size + 2 ≤ x := (HO4.out.lt x hx).1
                exact ⟨by omega, fun j hj e => by have := ((HC2.out.q.box j hj).lt x e).2; omega⟩))
            have HDU : Hid (∀ j, bxs (dat (B2.set k ⟨B2[k].l ++ [⟨⟨num, kind, ⟨ckind, tenant, keys, value, flags, life, unique, by_⟩, ten, dest⟩, ko, kc⟩], a7, cp7⟩)) j = cpd (dat B) k (kk + 1) j) := by
              intro j
              rw [bxs_set hk2]
              by_cases ej : j = k
              · subst ej
                have h9 := HBK.out _ (bxs_dat hk2)
                unfold cpd
                rw [if_pos rfl, if_neg (by omega), if_pos rfl, HBD.out, HTK.out, ← h9]
                simp
              · rw [if_neg ej, HD2.out j]
                unfold cpd
                by_cases e9 : j < k
                · rw [if_pos e9, if_pos e9]
                · rw [if_neg e9, if_neg e9, if_neg ej, if_neg ej]
            have HCW : Hid (Cp w next (.slice (some ⟨b, off, none⟩) B.length cap) B.length g Lb N (w7.setCell ⟨g, k, none⟩ (.slice a7 (B2[k].l.length + 1) cp7)) (B2.set k ⟨B2[k].l ++ [⟨⟨num, kind, ⟨ckind, tenant, keys, value, flags, life, unique, by_⟩, ten, dest⟩, ko, kc⟩], a7, cp7⟩)) := by
              have h9 := HCU.out
              have e9 : Bx.v ⟨B2[k].l ++ [⟨⟨num, kind, ⟨ckind, tenant, keys, value, flags, life, unique, by_⟩, ten, dest⟩, ko, kc⟩], a7, cp7⟩ = .slice a7 (B2[k].l.length + 1) cp7 := by simp [Bx.v]
              rw [e9] at h9
              exact h9
            clear s0 s1 s2 s3 s4 s5 s6 s7 s8 s9 s10 s11 u1 u2 u3 t0 t1 t2 t3 t4 t5 t6 t7 t8 t9 t10 t11 rw_ rw4 rw7 rf7 rf HCT
            go_wp2
            go_roundw
            case rel => exact ⟨kk + 1, _, by omega, by go_num, HCW, HDU⟩
            case measure => simp [intOf]; omega
          refine AllReadyH.cons rfl (fun K hK => ?_) AllReadyH.nil
          try simp only [List.getElem_toArray, List.getElem_cons_zero, List.getElem_cons_succ]
          go_simp
          go_at_call 69
          refine (HCT.out _ (by first | exact (Below.refl _ _).drew | exact Below.refl _ _)).mono ?_
          rintro e w4 ⟨ko, kc, rfl, hO4, hb4⟩
          have HB4 : Hid (Below wr.heap.size wr w4) := g_drew hb4
          have HO4 := Hid.mk2 hO4
          have HO5 := Hid.mk2 (HOV.out.below HB4.out)
          have hz4 : N ≤ w4.heap.size := Nat.le_trans nN HB4.out.size
          have HR4 : Hid (Rl wr N g w4) := Rl.of_below HB4.out nN
          have rw4 := (HB4.out.cell (p := ⟨g, k, none⟩) rlt).trans rw_
          have rlt4 := Nat.lt_of_lt_of_le rlt HB4.out.size
          clear hO4 hb4
          refine hK.out _ _ HR4.out (fun _ => ?_)
          clear hK K
          try simp only [List.getElem_toArray, List.getElem_cons_zero, List.getElem_cons_succ, Act.put, List.setIfInBounds_toArray, List.set_cons_zero, List.set_cons_succ, List.append_eq, List.cons_append, List.nil_append]
          refine wpAnyH_ready (rs := [7, 17]) (by kernel_rfl) (by simp) ?_
          refine AllReadyH.cons rfl (fun K hK => ?_) ?_
          · try simp only [List.getElem_toArray, List.getElem_cons_zero, List.getElem_cons_succ]
            go_simp
            refine hK.out _ _ HR4.out (fun _ => ?_)
            clear hK K
            try simp only [List.getElem_toArray, List.getElem_cons_zero, List.getElem_cons_succ, Act.put, List.setIfInBounds_toArray, List.set_cons_zero, List.set_cons_succ, List.append_eq, List.cons_append, List.nil_append]
            refine wpAnyH_ready (rs := [17]) (by kernel_rfl) (by simp) ?_
            refine AllReadyH.cons rfl (fun K hK => ?_) AllReadyH.nil
            try simp only [List.getElem_toArray, List.getElem_cons_zero, List.getElem_cons_succ]
            go_simp
            refine hK.out _ _ (HR4.out.on (g_alloc _ _) hz4) (fun _ => ?_)
            clear hK K
            try simp only [List.getElem_toArray, List.getElem_cons_zero, List.getElem_cons_succ, Act.put, List.setIfInBounds_toArray, List.set_cons_zero, List.set_cons_succ, List.append_eq, List.cons_append, List.nil_append]
            refine wpAnyH_ready (rs := [18]) (by kernel_rfl) (by simp) ?_
            refine AllReadyH.cons rfl (fun K hK => ?_) AllReadyH.nil
            try simp only [List.getElem_toArray, List.getElem_cons_zero, List.getElem_cons_succ]
            rw [if_pos (by rfl)]
            refine g_op_one (w0 := w4) okT (.tmp 35) (.tmp 45) _ (by rfl) (by rfl) N vk B2[k].l HO5.out (by rfl) ⟨⟨num, kind, ⟨ckind, tenant, keys, value, flags, life, unique, by_⟩, ten, dest⟩, ko, kc⟩ (by rfl) _ (by rfl) (by rfl) HLV.out hz4 ?_
            intro v7 w7 hO7 hG7
            obtain ⟨a7, cp7, hv7, -⟩ := hO7.rd okT
            subst hv7
            have HO7 := Hid.mk2 hO7
            have HG7 := Hid.mk2 hG7
            have HR7 : Hid (Rl wr N g w7) := HR4.out.grown hG7.grown (fun x hx => (HO5.out.lt x hx).1) hz4
            have HRW7 := Hid.mk2 (((HC2.out.q.row.below HB4.out).grown hG7.grown (by rw [HVK.out]; exact HC2.out.q.sepg k hk2)))
            have rw7 := HRW7.out.c k (by simpa using hk2)
            have rf7 := HRW7.out.f k
            simp only [List.getElem_map] at rw7
            rw [← HVK.out] at rw7
            clear hO7 hG7
            refine hK.out _ _ HR7.out (fun _ => ?_)
            clear hK K
            try simp only [List.getElem_toArray, List.getElem_cons_zero, List.getElem_cons_succ, Act.put, List.setIfInBounds_toArray, List.set_cons_zero, List.set_cons_succ, List.append_eq, List.cons_append, List.nil_append]
            refine wpAnyH_ready (rs := [19]) (by kernel_rfl) (by simp) ?_
            refine AllReadyH.cons rfl (fun K hK => ?_) AllReadyH.nil
            try simp only [List.getElem_toArray, List.getElem_cons_zero, List.getElem_cons_succ]
            go_simp
            refine hK.out _ _ HR7.out (fun _ => ?_)
            clear hK K
            try simp only [List.getElem_toArray, List.getElem_cons_zero, List.getElem_cons_succ, Act.put, List.setIfInBounds_toArray, List.set_cons_zero, List.set_cons_succ, List.append_eq, List.cons_append, List.nil_append]
            refine wpAnyH_ready (rs := [20]) (by kernel_rfl) (by simp) ?_
            refine AllReadyH.cons rfl (fun K hK => ?_) AllReadyH.nil
            try simp only [List.getElem_toArray, List.getElem_cons_zero, List.getElem_cons_succ]
            go_simp
            refine hK.out _ _ (HR7.out.set _ _) (fun _ => ?_)
            clear hK K
            try simp only [List.getElem_toArray, List.getElem_cons_zero, List.getElem_cons_succ, Act.put, List.setIfInBounds_toArray, List.set_cons_zero, List.set_cons_succ, List.append_eq, List.cons_append, List.nil_append]
            refine wpAnyH_done (by kernel_rfl) ?_ _
            refine NoPanic.normal ?_
            have HCU := Hid.mk2 ((HC2.out.on HB4.out).upd (i := k) hk2 (nb := ⟨B2[k].l ++ [⟨⟨num, kind, ⟨ckind, tenant, keys, value, flags, life, unique, by_⟩, ten, dest⟩, ko, kc⟩], a7, cp7⟩) (by rw [← HVK.out]; exact HG7.out.grown) (by rw [← HVK.out]; exact HG7.out.lies) HO7.out (by
              intro d hd
              rcases List.mem_append.1 hd with h9 | h9
              · exact .inl h9
              · rw [List.mem_singleton.1 h9]
                refine .inr ⟨HO4.out.down (by show N ≤ wr.heap.size + 2; omega), fun x hx => ?_⟩
                have hx2 : wr.heap.size + 2 ≤ x := (HO4.out.lt x hx).1
                exact ⟨by omega, fun j hj e => by have := ((HC2.out.q.box j hj).lt x e).2; omega⟩))
            have HDU : Hid (∀ j, bxs (dat (B2.set k ⟨B2[k].l ++ [⟨⟨num, kind, ⟨ckind, tenant, keys, value, flags, life, unique, by_⟩, ten, dest⟩, ko, kc⟩], a7, cp7⟩)) j = cpd (dat B) k (kk + 1) j) := by
              intro j
              rw [bxs_set hk2]
              by_cases ej : j = k
              · subst ej
                have h9 := HBK.out _ (bxs_dat hk2)
                unfold cpd
                rw [if_pos rfl, if_neg (by omega), if_pos rfl, HBD.out, HTK.out, ← h9]
                simp
              · rw [if_neg ej, HD2.out j]
                unfold cpd
                by_cases e9 : j < k
                · rw [if_pos e9, if_pos e9]
                · rw [if_neg e9, if_neg e9, if_neg ej, if_neg ej]
            have HCW : Hid (Cp w next (.slice (some ⟨b, off, none⟩) B.length cap) B.length g Lb N (w7.setCell ⟨g, k, none⟩ (.slice a7 (B2[k].l.length + 1) cp7)) (B2.set k ⟨B2[k].l ++ [⟨⟨num, kind, ⟨ckind, tenant, keys, value, flags, life, unique, by_⟩, ten, dest⟩, ko, kc⟩], a7, cp7⟩)) := by
              have h9 := HCU.out
              have e9 : Bx.v ⟨B2[k].l ++ [⟨⟨num, kind, ⟨ckind, tenant, keys, value, flags, life, unique, by_⟩, ten, dest⟩, ko, kc⟩], a7, cp7⟩ = .slice a7 (B2[k].l.length + 1) cp7 := by simp [Bx.v]
              rw [e9] at h9
              exact h9
            clear s0 s1 s2 s3 s4 s5 s6 s7 s8 s9 s10 s11 u1 u2 u3 t0 t1 t2 t3 t4 t5 t6 t7 t8 t9 t10 t11 rw_ rw4 rw7 rf7 rf HCT
            go_wp2
            go_roundw
            case rel => exact ⟨kk + 1, _, by omega, by go_num, HCW, HDU⟩
            case measure => simp [intOf]; omega
          refine AllReadyH.cons rfl (fun K hK => ?_) AllReadyH.nil
          try simp only [List.getElem_toArray, List.getElem_cons_zero, List.getElem_cons_succ]
          go_simp
          refine hK.out _ _ (HR4.out.on (g_alloc _ _) hz4) (fun _ => ?_)
          clear hK K
          try simp only [List.getElem_toArray, List.getElem_cons_zero, List.getElem_cons_succ, Act.put, List.setIfInBounds_toArray, List.set_cons_zero, List.set_cons_succ, List.append_eq, List.cons_append, List.nil_append]
          refine wpAnyH_ready (rs := [7]) (by kernel_rfl) (by simp) ?_
          refine AllReadyH.cons rfl (fun K hK => ?_) AllReadyH.nil
          try simp only [List.getElem_toArray, List.getElem_cons_zero, List.getElem_cons_succ]
          go_simp
          refine hK.out _ _ (HR4.out.on (g_alloc _ _) hz4) (fun _ => ?_)
          clear hK K
          try simp only [List.getElem_toArray, List.getElem_cons_zero, List.getElem_cons_succ, Act.put, List.setIfInBounds_toArray, List.set_cons_zero, List.set_cons_succ, List.append_eq, List.cons_append, List.nil_append]
          refine wpAnyH_ready (rs := [18]) (by kernel_rfl) (by simp) ?_
          refine AllReadyH.cons rfl (fun K hK => ?_) AllReadyH.nil
          try simp only [List.getElem_toArray, List.getElem_cons_zero, List.getElem_cons_succ]
          rw [if_pos (by rfl)]
          refine g_op_one (w0 := w4) okT (.tmp 35) (.tmp 45) _ (by rfl) (by rfl) N vk B2[k].l HO5.out (by rfl) ⟨⟨num, kind, ⟨ckind, tenant, keys, value, flags, life, unique, by_⟩, ten, dest⟩, ko, kc⟩ (by rfl) _ (by rfl) (by rfl) HLV.out hz4 ?_
          intro v7 w7 hO7 hG7
          obtain ⟨a7, cp7, hv7, -⟩ := hO7.rd okT
          subst hv7
          have HO7 := Hid.mk2 hO7
          have HG7 := Hid.mk2 hG7
          have HR7 : Hid (Rl wr N g w7) := HR4.out.grown hG7.grown (fun x hx => (HO5.out.lt x hx).1) hz4
          have HRW7 := Hid.mk2 (((HC2.out.q.row.below HB4.out).grown hG7.grown (by rw [HVK.out]; exact HC2.out.q.sepg k hk2)))
          have rw7 := HRW7.out.c k (by simpa using hk2)
          have rf7 := HRW7.out.f k
          simp only [List.getElem_map] at rw7
          rw [← HVK.out] at rw7
          clear hO7 hG7
          refine hK.out _ _ HR7.out (fun _ => ?_)
          clear hK K
          try simp only [List.getElem_toArray, List.getElem_cons_zero, List.getElem_cons_succ, Act.put, List.setIfInBounds_toArray, List.set_cons_zero, List.set_cons_succ, List.append_eq, List.cons_append, List.nil_append]
          refine wpAnyH_ready (rs := [19]) (by kernel_rfl) (by simp) ?_
          refine AllReadyH.cons rfl (fun K hK => ?_) AllReadyH.nil
          try simp only [List.getElem_toArray, List.getElem_cons_zero, List.getElem_cons_succ]
          go_simp
          refine hK.out _ _ HR7.out (fun _ => ?_)
          clear hK K
          try simp only [List.getElem_toArray, List.getElem_cons_zero, List.getElem_cons_succ, Act.put, List.setIfInBounds_toArray, List.set_cons_zero, List.set_cons_succ, List.append_eq, List.cons_append, List.nil_append]
          refine wpAnyH_ready (rs := [20]) (by kernel_rfl) (by simp) ?_
          refine AllReadyH.cons rfl (fun K hK => ?_) AllReadyH.nil
          try simp only [List.getElem_toArray, List.getElem_cons_zero, List.getElem_cons_succ]
          go_simp
          refine hK.out _ _ (HR7.out.set _ _) (fun _ => ?_)
          clear hK K
          try simp only [List.getElem_toArray, List.getElem_cons_zero, List.getElem_cons_succ, Act.put, List.setIfInBounds_toArray, List.set_cons_zero, List.set_cons_succ, List.append_eq, List.cons_append, List.nil_append]
          refine wpAnyH_done (by kernel_rfl) ?_ _
          refine NoPanic.normal ?_
          have HCU := Hid.mk2 ((HC2.out.on HB4.out).upd (i := k) hk2 (nb := ⟨B2[k].l ++ [⟨⟨num, kind, ⟨ckind, tenant, keys, value, flags, life, unique, by_⟩, ten, dest⟩, ko, kc⟩], a7, cp7⟩) (by rw [← HVK.out]; exact HG7.out.grown) (by rw [← HVK.out]; exact HG7.out.lies) HO7.out (by
            intro d hd
            rcases List.mem_append.1 hd with h9 | h9
            · exact .inl h9
            · rw [List.mem_singleton.1 h9]
              refine .inr ⟨HO4.out.down (by show N ≤ wr.heap.size + 2; omega), fun x hx => ?_⟩
              have hx2 : wr.heap.size + 2 ≤ x := (HO4.out.lt x hx).1
              exact ⟨by omega, fun j hj e => by have := ((HC2.out.q.box j hj).lt x e).2; omega⟩))
          have HDU : Hid (∀ j, bxs (dat (B2.set k ⟨B2[k].l ++ [⟨⟨num, kind, ⟨ckind, tenant, keys, value, flags, life, unique, by_⟩, ten, dest⟩, ko, kc⟩], a7, cp7⟩)) j = cpd (dat B) k (kk + 1) j) := by
            intro j
            rw [bxs_set hk2]
            by_cases ej : j = k
            · subst ej
              have h9 := HBK.out _ (bxs_dat hk2)
              unfold cpd
              rw [if_pos rfl, if_neg (by omega), if_pos rfl, HBD.out, HTK.out, ← h9]
              simp
            · rw [if_neg ej, HD2.out j]
              unfold cpd
              by_cases e9 : j < k
              · rw [if_pos e9, if_pos e9]
              · rw [if_neg e9, if_neg e9, if_neg ej, if_neg ej]
          have HCW : Hid (Cp w next (.slice (some ⟨b, off, none⟩) B.length cap) B.length g Lb N (w7.setCell ⟨g, k, none⟩ (.slice a7 (B2[k].l.length + 1) cp7)) (B2.set k ⟨B2[k].l ++ [⟨⟨num, kind, ⟨ckind, tenant, keys, value, flags, life, unique, by_⟩, ten, dest⟩, ko, kc⟩], a7, cp7⟩)) := by
            have h9 := HCU.out
            have e9 : Bx.v ⟨B2[k].l ++ [⟨⟨num, kind, ⟨ckind, tenant, keys, value, flags, life, unique, by_⟩, ten, dest⟩, ko, kc⟩], a7, cp7⟩ = .slice a7 (B2[k].l.length + 1) cp7 := by simp [Bx.v]
            rw [e9] at h9
            exact h9
          clear s0 s1 s2 s3 s4 s5 s6 s7 s8 s9 s10 s11 u1 u2 u3 t0 t1 t2 t3 t4 t5 t6 t7 t8 t9 t10 t11 rw_ rw4 rw7 rf7 rf HCT
          go_wp2
          go_roundw
          case rel => exact ⟨kk + 1, _, by omega, by go_num, HCW, HDU⟩
          case measure => simp [intOf]; omega
        · have hkl4 : ¬ ((kk : Int) < (bl.length : Int)) := by omega
          have HD3 : Hid (∀ j, bxs (dat B2) j = cpd (dat B) (k + 1) 0 j) := fun j => (HD2.out j).trans (cpd_next (by rw [HBD.out]; simp; omega) j)
          clear rb1 c1
          go_wp2
          go_roundw
          case rel => exact ⟨k + 1, B2, by omega, by go_num, HC2, HD3⟩
          case measure => simp [intOf]; omega
    · have hkl2 : ¬ ((k : Int) < (B.length : Int)) := by omega
      have e0 := HC1.out.lb.c 0 (by simp)
      have e1 := HC1.out.lb.c 1 (by simp)
      have f0 := HC1.out.rb.f 0
      have f1 := HC1.out.rb.f 1
      have y0 := HC1.out.rb.c 0 (by simp)
      have y1 := HC1.out.rb.c 1 (by simp)
      have ylt := HC1.out.rb.lt
      have llt := HC1.out.lb.lt
      simp only [List.getElem_cons_zero, List.getElem_cons_succ] at e0 e1 y0 y1
      have HDT : Hid (dat B1 = dat B) := by
        refine dat_of_bxs (by rw [dat_len, dat_len]; exact HC1.out.len) fun j => ?_
        rw [HD1.out j]
        unfold cpd
        by_cases h : j < k
        · rw [if_pos h]
        · rw [if_neg h, bxs_none (q := dat B) (j := j) (by rw [dat_len]; omega)]
          split <;> simp
      have HZ : Hid (GBx ((wr.setCell ⟨w.heap.size + 1, 0, none⟩ (.int .i64 next)).setCell ⟨w.heap.size + 1, 1, none⟩ (.slice (some ⟨g, 0, none⟩) B.length B.length)) (w.heap.size + 1) [.int .i64 next, .slice (some ⟨g, 0, none⟩) B.length B.length]) := GBx.sets [.int .i64 next, .slice (some ⟨g, 0, none⟩) B.length B.length] HC1.out.rb rfl
      have HBZ : Hid (Below w.heap.size w ((wr.setCell ⟨w.heap.size + 1, 0, none⟩ (.int .i64 next)).setCell ⟨w.heap.size + 1, 1, none⟩ (.slice (some ⟨g, 0, none⟩) B.length B.length))) := sets_below (b := w.heap.size + 1) HC1.out.below [.int .i64 next, .slice (some ⟨g, 0, none⟩) B.length B.length] 0 (by omega) (by omega)
      have HQZ : Hid (Qo ((wr.setCell ⟨w.heap.size + 1, 0, none⟩ (.int .i64 next)).setCell ⟨w.heap.size + 1, 1, none⟩ (.slice (some ⟨g, 0, none⟩) B.length B.length)) w.heap.size g B1) := by
        have h1 := HC1.out.g0
        have h2 := HC1.out.gN
        exact ((HC1.out.q.other (w.heap.size + 1) 0 _ (by omega) (by omega)).other (w.heap.size + 1) 1 _ (by omega) (by omega)).down (by omega)
      have HGE : Hid (w.heap.size ≤ g) := by have := HC1.out.g0; show _ ≤ _; omega
      have Z0 := HZ.out.c 0 (by simp)
      have Z1 := HZ.out.c 1 (by simp)
      simp only [List.getElem_cons_zero, List.getElem_cons_succ] at Z0 Z1
      go_wp2
      try simp only [Exit.inBlock, Exit.then]
      refine bodyPost_ret (v := .agg #[.int .i64 next, .slice (some ⟨g, 0, none⟩) B.length B.length]) (by simp [results, Try.results68, go_sem, Z0, Z1]) rfl ⟨g, rfl, HGE.out, B1, HQZ.out, HDT.out, HBZ.out⟩
end Go.Proofs.Ytpnmokmadbapoaa
