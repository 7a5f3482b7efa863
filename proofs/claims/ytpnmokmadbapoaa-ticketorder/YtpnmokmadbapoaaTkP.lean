/-
  Package ticket: contract of Put, where it is not refused.
-/
import Derived.Test.YtpnmokmadbapoaaTkO
namespace Go.Proofs.Ytpnmokmadbapoaa
open Go.RowKit
set_option linter.unusedSimpArgs false
set_option linter.unusedVariables false
set_option maxRecDepth 100000

/-- two blocks are as they were -/
def Rs (wr : World) (a b : Nat) (V : World) : Prop := V.heap[a]? = wr.heap[a]? ∧ V.heap[b]? = wr.heap[b]? ∧ wr.heap.size ≤ V.heap.size
theorem Rs.of_below {wr V : World} {a b : Nat} (h : Below wr.heap.size wr V) (ha : a < wr.heap.size) (hb : b < wr.heap.size) : Rs wr a b V := ⟨h.block a ha, h.block b hb, h.size⟩
theorem Rs.alloc {wr V : World} {a b : Nat} (h : Rs wr a b V) (o : Obj) (ha : a < wr.heap.size) (hb : b < wr.heap.size) : Rs wr a b (V.alloc o) :=
  ⟨((g_alloc V o).block a (Nat.lt_of_lt_of_le ha h.2.2)).trans h.1, ((g_alloc V o).block b (Nat.lt_of_lt_of_le hb h.2.2)).trans h.2.1, Nat.le_trans h.2.2 (g_alloc V o).size⟩
theorem Rs.grown {wr V V' : World} {a b : Nat} {row : Option Nat} (h : Rs wr a b V) (hg : V.grownBy V' row) (ha : a < wr.heap.size) (hb : b < wr.heap.size) (na : row ≠ some a) (nb : row ≠ some b) : Rs wr a b V' :=
  ⟨(hg.block a (Nat.lt_of_lt_of_le ha h.2.2) (fun e => na e.symm)).trans h.1, (hg.block b (Nat.lt_of_lt_of_le hb h.2.2) (fun e => nb e.symm)).trans h.2.1, Nat.le_trans h.2.2 hg.size⟩
theorem Rs.set {wr V : World} {a b g : Nat} (h : Rs wr a b V) (j : Nat) (u : Value) (na : a ≠ g) (nb : b ≠ g) : Rs wr a b (V.setCell ⟨g, j, none⟩ u) :=
  ⟨(Below.heap_setCell V ⟨g, j, none⟩ u a na).trans h.1, (Below.heap_setCell V ⟨g, j, none⟩ u b nb).trans h.2.1, by simpa using h.2.2⟩
theorem Rs.cellA {wr : World} {a b j : Nat} {v : Value} (h : wr.cell? ⟨a, j, none⟩ = some v) (V : World) (hV : Rs wr a b V) : V.cell? ⟨a, j, none⟩ = some v := (World.cell?_of_block (a := ⟨a, j, none⟩) hV.1).trans h
theorem Rs.cellB {wr : World} {a b j : Nat} {v : Value} (h : wr.cell? ⟨b, j, none⟩ = some v) (V : World) (hV : Rs wr a b V) : V.cell? ⟨b, j, none⟩ = some v := (World.cell?_of_block (a := ⟨b, j, none⟩) hV.2.1).trans h
/-- inboxes with a ticket more -/
def putQ (q : List (List Tk)) (t : Tk) : List (List Tk) := (List.range q.length).map fun j => Tk.putIn (bxs q) t (t.nd q.length) j
def ptd (q : List (List Tk)) (t : Tk) (l : List Nat) (j : Nat) : List Tk := if j ∈ l then bxs q j ++ [t] else bxs q j
theorem putQ_len (q : List (List Tk)) (t : Tk) : (putQ q t).length = q.length := by simp [putQ]
theorem putQ_bxs {q : List (List Tk)} {t : Tk} (j : Nat) (hj : j < q.length) : bxs (putQ q t) j = ptd q t (t.nd q.length) j := by
  unfold putQ ptd Tk.putIn
  unfold bxs
  rw [List.getD_eq_getElem?_getD, List.getElem?_map, List.getElem?_range hj]
  rfl
/-- the world within the putting -/
structure Pu (w : World) (next : Int) (tc : List Value) (n : Nat) (g Lb N : Nat) (wx : World) (B' : List Bx) : Prop where
  below : Below w.heap.size w wx
  tb : GBx wx (w.heap.size + 1) tc
  rb : GBx wx (w.heap.size + 2) [.int .i64 0, .slice none 0 0]
  lb : GBx wx Lb [.int .i64 (next + 1), .slice (some ⟨g, 0, none⟩) n n]
  q : Qo wx N g B'
  g0 : N ≤ g
  n0 : w.heap.size + 3 ≤ N
  l0 : w.heap.size + 3 ≤ Lb
  ne : Lb ≠ g
  sepl : ∀ j (hj : j < B'.length), B'[j].v.ownBlock ≠ some Lb ∧ ∀ d ∈ B'[j].l, d.v.ownBlock ≠ some Lb
  len : B'.length = n
section
variable {w wx wx' : World} {next : Int} {tc : List Value} {n g Lb N : Nat} {B' : List Bx}
theorem Pu.on (h : Pu w next tc n g Lb N wx B') (hb : Below wx.heap.size wx wx') : Pu w next tc n g Lb N wx' B' :=
  ⟨h.below.trans (hb.mono (by have := h.tb.lt; omega)), h.tb.below hb, h.rb.below hb, h.lb.below hb, h.q.below hb, h.g0, h.n0, h.l0, h.ne, h.sepl, h.len⟩
theorem Pu.upd (h : Pu w next tc n g Lb N wx B') {i : Nat} (hi : i < B'.length) {nb : Bx} (hgr : wx.grownBy wx' B'[i].v.ownBlock) (hlies : ∀ k, nb.v.ownBlock = some k → B'[i].v.ownBlock = some k ∨ wx.heap.size ≤ k) (hown : GOwn ET wx' N nb.v nb.l)
    (hk : ∀ d ∈ nb.l, d ∈ B'[i].l ∨ (GOwn ES wx N d.v d.t.c.keys ∧ (d.v.ownBlock ≠ some Lb) ∧ ∀ k, d.v.ownBlock = some k → k ≠ g ∧ ∀ j (hj : j < B'.length), B'[j].v.ownBlock ≠ some k)) : Pu w next tc n g Lb N (wx'.setCell ⟨g, i, none⟩ nb.v) (B'.set i nb) := by
  have hr : ∀ k, B'[i].v.ownBlock = some k → N ≤ k := fun k hk' => ((h.q.box i hi).lt k hk').1
  have h1 := h.g0
  have h0 := h.n0
  have h2 := h.l0
  have h3 := h.lb.lt
  have h6 := h.tb.lt
  have hne : ∀ b, b < w.heap.size + 3 → B'[i].v.ownBlock ≠ some b := fun b hb e => by have := hr b e; omega
  have hb1 : Below w.heap.size w wx' := h.below.grown hgr (by omega) (fun k hk' => by have := hr k hk'; omega)
  have hlen : (B'.set i nb).length = B'.length := List.length_set
  refine ⟨hb1.setCell (by show w.heap.size ≤ g; omega) _, (h.tb.grown hgr (hne _ (by omega))).other _ _ (by omega), (h.rb.grown hgr (hne _ (by omega))).other _ _ (by omega), (h.lb.grown hgr (h.sepl i hi).1).other _ _ (fun e => h.ne e.symm), h.q.upd hi hgr hlies hown (fun d hd => (hk d hd).imp id (fun x => ⟨x.1, x.2.2⟩)), h.g0, h.n0, h.l0, h.ne, fun j hj => ?_, by rw [hlen]; exact h.len⟩
  rw [List.getElem_set]
  split
  · refine ⟨fun e => ?_, fun d hd => ?_⟩
    · rcases hlies _ e with g1 | g1
      · exact (h.sepl i hi).1 g1
      · omega
    · rcases hk d hd with g1 | g1
      · exact (h.sepl i hi).2 d g1
      · exact g1.2.1
  · exact h.sepl j (by rw [← hlen]; exact hj)
end

set_option maxHeartbeats 4000000 in
theorem put_ok (B : List Bx) (ao : Option Addr) (cap m : Nat) (hm : m = B.length) (next : Int) (hq : QOk (dat B) next) (t : Tk) (hmay : t.may = true) (hnx : next < 1099511627776) (hfu : fullIn (dat B) (t.nd B.length) = false) (ka : Option Addr) (ca ma : Nat) (hma : ma = t.c.keys.length) (w : World) (h : Qr w ao B cap) (ha : GRd ES w ka t.c.keys ca) :
    Calls Try.prog 26 #[.agg #[.int .i64 next, .slice ao m cap], .agg (t.arr (.slice ka ma ca))] w fun e w' => ∃ g B', e = .returned (.tuple #[.agg #[.int .i64 (next + 1), .slice (some ⟨g, 0, none⟩) B.length B.length], .int .i64 next, .int .i64 0]) ∧ w.heap.size ≤ g ∧ Qo w' w.heap.size g B' ∧ dat B' = putQ (dat B) { t with num := next } ∧ Below w.heap.size w w' := by
  subst hm hma
  have hlen := h.row.len
  have hn0 : 1 ≤ B.length := by have := hq.n0; rw [dat_len] at this; exact this
  have hn1 : B.length ≤ 4 := by have := hq.n1; rw [dat_len] at this; exact this
  have hx0 := hq.x0
  have H8 : Hid (∀ b ∈ B, b.l.length ≤ 256 ∧ ∀ d ∈ b.l, d.t.c.keys.length ≤ 8) := by
    intro b hb
    have h9 := hq.box (b.l.map Td.t) (List.mem_map.2 ⟨b, hb, rfl⟩)
    exact ⟨by have := h9.len; simpa using this, fun d hd => Tk.may_keys (h9.may d.t (List.mem_map.2 ⟨d, hd, rfl⟩))⟩
  have HK8 : Hid (t.c.keys.length ≤ 8) := Tk.may_keys hmay
  obtain ⟨W, hW⟩ : ∃ W, W = ((w.alloc (.cells #[.int .i64 next, .slice ao B.length cap] 62)).alloc (.cells (t.arr (.slice ka t.c.keys.length ca)) 68)).alloc (.cells #[.int .i64 0, .slice none 0 0] 62) := ⟨_, rfl⟩
  have HB : Hid (Below w.heap.size w W) := by rw [hW]; exact g_on (g_on (g_alloc _ _) (g_alloc _ _)) (g_alloc _ _)
  have HX : Hid (GBx W w.heap.size [.int .i64 next, .slice ao B.length cap]) := by rw [hW]; exact ((GBx.made w [.int .i64 next, .slice ao B.length cap] _).alloc _).alloc _
  have HY : Hid (GBx W (w.heap.size + 1) (t.cl (.slice ka t.c.keys.length ca))) := by
    rw [hW]
    have := GBx.made (w.alloc (.cells #[.int .i64 next, .slice ao B.length cap] 62)) (t.cl (.slice ka t.c.keys.length ca)) 68
    rw [show (w.alloc (.cells #[.int .i64 next, .slice ao B.length cap] 62)).heap.size = w.heap.size + 1 by simp] at this
    exact this.alloc _
  have HZ : Hid (GBx W (w.heap.size + 2) [.int .i64 0, .slice none 0 0]) := by
    rw [hW]
    have := GBx.made ((w.alloc (.cells #[.int .i64 next, .slice ao B.length cap] 62)).alloc (.cells (t.arr (.slice ka t.c.keys.length ca)) 68)) [.int .i64 0, .slice none 0 0] 62
    rw [show ((w.alloc (.cells #[.int .i64 next, .slice ao B.length cap] 62)).alloc (.cells (t.arr (.slice ka t.c.keys.length ca)) 68)).heap.size = w.heap.size + 2 by simp] at this
    exact this
  have HR := Hid.mk2 (fun V (hV : Below W.heap.size W V) => (h.below HB.out).below hV)
  have HA := Hid.mk2 (fun V (hV : Below W.heap.size W V) => (ha.below HB.out).below hV)
  have HCK := Hid.mk2 (tcheck_any B ao cap _ rfl next W (h.below HB.out))
  rw [ckQ_ok hq] at HCK
  have HMB := Hid.mk2 (fun V (hV : Below W.heap.size W V) => mayBe_any t ka ca _ rfl V (HA.out V hV))
  rw [hmay] at HMB
  have HND := Hid.mk2 (fun V (hV : Below W.heap.size W V) => needs12_any t B.length hn0 hn1 hmay ka ca _ rfl V (HA.out V hV))
  have HHF := Hid.mk2 (fun so sc V (hV : Below W.heap.size W V) hs => hasFull_any B ao cap _ rfl next (t.nd B.length) (fun i hi => Tk.nd_lt i hi) so sc _ rfl V (HR.out V hV) hs)
  rw [hfu] at HHF
  have HCP := Hid.mk2 (fun V (hV : Qr V ao B cap) => copied_any B ao cap _ rfl hn0 hn1 next H8.out V hV)
  have HWS : Hid (W.heap.size = w.heap.size + 3) := by show _ = _; rw [hW]; simp
  have HRQ := Hid.mk2 h
  have HAQ := Hid.mk2 ha
  have HND2 : Hid (∀ (num : Int), Tk.nd B.length { t with num := num } = Tk.nd B.length t) := fun num => rfl
  have HLN : Hid ((t.nd B.length).Nodup) := nd_nodup t _
  have HLB : Hid (∀ j ∈ t.nd B.length, j < B.length) := fun j hj => Tk.nd_lt j hj
  have HNL : Hid (t.needs B.length = (t.nd B.length).map fun (i : Nat) => (i : Int)) := rfl
  obtain ⟨L, hL⟩ : ∃ L, L = t.nd B.length := ⟨_, rfl⟩
  have HLD := Hid.mk2 hL
  rw [← hL] at HLN HLB HNL HHF
  rw [HNL.out] at HND
  have HPQ : Hid (∀ B' : List Bx, B'.length = B.length → (∀ j, j < B.length → bxs (dat B') j = ptd (dat B) { t with num := next } L j) → dat B' = putQ (dat B) { t with num := next }) := by
    intro B' hl hj
    refine dat_of_bxs (by rw [putQ_len, dat_len, dat_len]; exact hl) fun j => ?_
    by_cases h9 : j < B.length
    · rw [hj j h9, putQ_bxs j (by rw [dat_len]; exact h9), dat_len, hL]
      rfl
    · rw [bxs_none (by rw [dat_len]; omega), bxs_none (by rw [putQ_len, dat_len]; omega)]
  clear h ha hq hmay hfu hL
  obtain ⟨num, kind, ⟨ckind, tenant, keys, value, flags, life, unique, by_⟩, ten, dest⟩ := t
  unfold Tk.arr at *
  unfold Tk.cl at HY
  dsimp only at *
  have hlt := HX.out.lt
  have hlt1 := HY.out.lt
  have hlt2 := HZ.out.lt
  have x0 := HX.out.c 0 (by simp)
  have x1 := HX.out.c 1 (by simp)
  simp only [List.getElem_cons_zero, List.getElem_cons_succ] at x0 x1
  go_enter Try.func26, Try.ntmps26
  go_upto_region 1 with (fail)
  rw [← hW]
  clear hW
  go_upto_region 4 with (go_at_call 43; refine HCK.out.mono ?_; rintro e w1 ⟨rfl, hb1⟩; have HB1 := Hid.mk2 hb1; clear hb1)
  have HX1 := Hid.mk2 (HX.out.below HB1.out)
  have HY1 := Hid.mk2 (HY.out.below HB1.out)
  have HMB1 := Hid.mk2 (HMB.out w1 HB1.out)
  clear x0 x1 HCK HMB
  have y0 := HY1.out.c 0 (by simp)
  have y1 := HY1.out.c 1 (by simp)
  have y2 := HY1.out.c 2 (by simp)
  have y3 := HY1.out.c 3 (by simp)
  have y4 := HY1.out.c 4 (by simp)
  have y5 := HY1.out.c 5 (by simp)
  have y6 := HY1.out.c 6 (by simp)
  have y7 := HY1.out.c 7 (by simp)
  have y8 := HY1.out.c 8 (by simp)
  have y9 := HY1.out.c 9 (by simp)
  have y10 := HY1.out.c 10 (by simp)
  have y11 := HY1.out.c 11 (by simp)
  simp only [List.getElem_cons_zero, List.getElem_cons_succ] at y0 y1 y2 y3 y4 y5 y6 y7 y8 y9 y10 y11
  have ylt := HY1.out.lt
  go_upto_region 6 with (go_at_call 65; refine HMB1.out.mono ?_; rintro e w2 ⟨rfl, hb2⟩; have HB2 := Hid.mk2 (g_on HB1.out hb2); have HX2 := Hid.mk2 (HX1.out.below hb2); have HY2 := Hid.mk2 (HY1.out.below hb2); clear hb2)
  clear y0 y1 y2 y3 y4 y5 y6 y7 y8 y9 y10 y11 ylt HMB1 HX1 HY1
  have y0 := HY2.out.c 0 (by simp)
  have y1 := HY2.out.c 1 (by simp)
  have y2 := HY2.out.c 2 (by simp)
  have y3 := HY2.out.c 3 (by simp)
  have y4 := HY2.out.c 4 (by simp)
  have y5 := HY2.out.c 5 (by simp)
  have y6 := HY2.out.c 6 (by simp)
  have y7 := HY2.out.c 7 (by simp)
  have y8 := HY2.out.c 8 (by simp)
  have y9 := HY2.out.c 9 (by simp)
  have y10 := HY2.out.c 10 (by simp)
  have y11 := HY2.out.c 11 (by simp)
  simp only [List.getElem_cons_zero, List.getElem_cons_succ] at y0 y1 y2 y3 y4 y5 y6 y7 y8 y9 y10 y11
  have ylt := HY2.out.lt
  have x0 := HX2.out.c 0 (by simp)
  have x1 := HX2.out.c 1 (by simp)
  simp only [List.getElem_cons_zero, List.getElem_cons_succ] at x0 x1
  have xlt := HX2.out.lt
  have HND2' := Hid.mk2 (HND.out w2 HB2.out)
  go_upto_region 7 with (go_at_call 66; refine HND2'.out.mono ?_; rintro e w3 ⟨v8, rfl, hO3, hb3⟩; obtain ⟨a8, c8, hv8, hR8⟩ := hO3.rd okI; have hv9 : v8 = .slice a8 L.length c8 := (by rw [hv8]; simp); subst hv9; have HO3 := Hid.mk2 hO3; have HR8 := Hid.mk2 hR8; have HB3 := Hid.mk2 (g_on HB2.out hb3); have HX3 := Hid.mk2 (HX2.out.below hb3); have HY3 := Hid.mk2 (HY2.out.below hb3); clear hO3 hb3 hR8 hv8)
  clear y0 y1 y2 y3 y4 y5 y6 y7 y8 y9 y10 y11 ylt x0 x1 xlt HND HND2' HX2 HY2
  have x0 := HX3.out.c 0 (by simp)
  have x1 := HX3.out.c 1 (by simp)
  simp only [List.getElem_cons_zero, List.getElem_cons_succ] at x0 x1
  have xlt := HX3.out.lt
  have HHF3 := Hid.mk2 (HHF.out a8 c8 w3 HB3.out HR8.out)
  have hnx2 : (next == 1099511627776) = false := by rw [beq_eq_false_iff_ne]; omega
  go_upto_region 9 with (go_at_call 67; refine HHF3.out.mono ?_; rintro e w4 ⟨rfl, hb4⟩; have HB4 := Hid.mk2 hb4; clear hb4)
  have HBW4 : Hid (Below w.heap.size w w4) := g_on HB.out (g_on HB3.out HB4.out)
  have HX4 := Hid.mk2 (HX3.out.below HB4.out)
  have HY4 := Hid.mk2 (HY3.out.below HB4.out)
  have HZ4 := Hid.mk2 ((HZ.out.below HB3.out).below HB4.out)
  have HO4 := Hid.mk2 (HO3.out.below HB4.out)
  clear x0 x1 xlt HX3 HY3 HHF HHF3 HO3
  have x0 := HX4.out.c 0 (by simp)
  have x1 := HX4.out.c 1 (by simp)
  simp only [List.getElem_cons_zero, List.getElem_cons_succ] at x0 x1
  have xlt := HX4.out.lt
  have y0 := HY4.out.c 0 (by simp)
  have yf := HY4.out.f 0
  have ylt := HY4.out.lt
  simp only [List.getElem_cons_zero, List.getElem_cons_succ] at y0
  go_upto_region 10 with (fail)
  obtain ⟨wN, hwN⟩ : ∃ wN, wN = w4.setCell ⟨w.heap.size + 1, 0, none⟩ (.int .i64 next) := ⟨_, rfl⟩
  have HBN : Hid (Below w.heap.size w wN) := by rw [hwN]; exact HBW4.out.setCell (by show w.heap.size ≤ w.heap.size + 1; omega) _
  have HXN : Hid (GBx wN w.heap.size [.int .i64 next, .slice ao B.length cap]) := by rw [hwN]; exact HX4.out.other _ _ (by omega)
  have HYN : Hid (GBx wN (w.heap.size + 1) [.int .i64 next, .int .u8 kind, .int .u8 ckind, .int .i64 tenant, .slice ka keys.length ca, .string value, .int .u32 flags, .int .i64 life, .int .u64 unique, .int .u64 by_, .int .i64 ten, .int .i64 dest]) := by rw [hwN]; exact (HY4.out.set 0 (.int .i64 next) (by simp)).ext rfl
  have HZN : Hid (GBx wN (w.heap.size + 2) [.int .i64 0, .slice none 0 0]) := by rw [hwN]; exact HZ4.out.other _ _ (by omega)
  have HON : Hid (GOwn EI wN w2.heap.size (.slice a8 L.length c8) (L.map fun (i : Nat) => (i : Int))) := by rw [hwN]; exact HO4.out.other _ _ _ (by have := HB2.out.size; have := HWS.out; omega)
  have HNZ : Hid (wN.heap.size = w4.heap.size) := by show _ = _; rw [hwN]; simp
  have HRN := Hid.mk2 (HRQ.out.below HBN.out)
  have HCPN := Hid.mk2 (HCP.out wN HRN.out)
  rw [← hwN]
  clear hwN x0 x1 xlt y0 yf ylt HX4 HY4 HZ4 HO4 HCP
  have x0 := HXN.out.c 0 (by simp)
  have x1 := HXN.out.c 1 (by simp)
  simp only [List.getElem_cons_zero, List.getElem_cons_succ] at x0 x1
  have xlt := HXN.out.lt
  have hwr : IntKind.i64.wrap (next + 1) = next + 1 := by rw [IntKind.wrap_i64]; omega
  go_upto_region 12 with (go_at_call 68; refine HCPN.out.mono ?_; rintro e w5 ⟨g, B1, rfl, hg5, hq5, hd5, hb5⟩; have HG5 := Hid.mk2 hg5; have HQ5 := Hid.mk2 hq5; have HD5 := Hid.mk2 hd5; have HB5 := Hid.mk2 hb5; clear hg5 hq5 hd5 hb5)
  obtain ⟨w6, hw6⟩ : ∃ w6, w6 = w5.alloc (.cells #[.int .i64 (next + 1), .slice (some ⟨g, 0, none⟩) B.length B.length] 62) := ⟨_, rfl⟩
  have HB6 : Hid (Below w5.heap.size w5 w6) := by rw [hw6]; exact g_alloc _ _
  have HBZ4 : Hid (w.heap.size + 3 ≤ wN.heap.size) := by have := HB3.out.size; have := HB4.out.size; have := HWS.out; have := HNZ.out; show _ ≤ _; omega
  have HLEN : Hid (B1.length = B.length) := by have h9 := congrArg List.length HD5.out; rw [dat_len, dat_len] at h9; exact h9
  have HP0 : Hid (Pu w next [.int .i64 next, .int .u8 kind, .int .u8 ckind, .int .i64 tenant, .slice ka keys.length ca, .string value, .int .u32 flags, .int .i64 life, .int .u64 unique, .int .u64 by_, .int .i64 ten, .int .i64 dest] B.length g w5.heap.size wN.heap.size w6 B1) := by
    have z5 := HB5.out.size
    have hgl := HQ5.out.row.lt
    have n3 := HBZ4.out
    have g5 := HG5.out
    refine ⟨HBN.out.trans ((g_on HB5.out HB6.out).mono (by omega)), (HYN.out.below HB5.out).below HB6.out, (HZN.out.below HB5.out).below HB6.out, ?_, HQ5.out.below HB6.out, HG5.out, n3, by omega, by omega, fun j hj => ⟨fun e => ?_, fun d hd e => ?_⟩, HLEN.out⟩
    · rw [hw6]; exact GBx.made w5 [.int .i64 (next + 1), .slice (some ⟨g, 0, none⟩) B.length B.length] _
    · have := ((HQ5.out.box j hj).lt _ e).2; omega
    · have := ((HQ5.out.keys j hj d hd).lt _ e).2; omega
  have HS0 : Hid (GOwn EI w6 w2.heap.size (.slice a8 L.length c8) (L.map fun (i : Nat) => (i : Int))) := (HON.out.below HB5.out).below HB6.out
  have HSK : Hid (∀ k, (Value.slice a8 L.length c8).ownBlock = some k → k < wN.heap.size) := fun k hk => (HON.out.lt k hk).2
  have HD0 : Hid (∀ j, j < B.length → bxs (dat B1) j = ptd (dat B) ⟨next, kind, ⟨ckind, tenant, keys, value, flags, life, unique, by_⟩, ten, dest⟩ (L.take 0) j) := by intro j _; rw [HD5.out]; simp [ptd]
  have hLL : L.length ≤ 9223372036854775807 := by have h9 := HR8.out.len; simpa using h9
  rw [← hw6]
  clear hw6 x0 x1 xlt HCPN HXN HYN HZN HON hwr HRN HQ5
  obtain ⟨N, hN⟩ : ∃ N, N = wN.heap.size := ⟨_, rfl⟩
  rw [← hN] at HP0 HSK
  obtain ⟨Lb, hLb⟩ : ∃ Lb, Lb = w5.heap.size := ⟨_, rfl⟩
  rw [← hLb] at HP0 ⊢
  clear hN hLb HBZ4
  go_wp2
  go_loopw [11, 47] (fun _ i wr => ∃ (k : Nat) (B' : List Bx), k ≤ L.length ∧ i = .int .i64 k ∧ Hid (Pu w next [.int .i64 next, .int .u8 kind, .int .u8 ckind, .int .i64 tenant, .slice ka keys.length ca, .string value, .int .u32 flags, .int .i64 life, .int .u64 unique, .int .u64 by_, .int .i64 ten, .int .i64 dest] B.length g Lb N wr B') ∧ Hid (GOwn EI wr w2.heap.size (.slice a8 L.length c8) (L.map fun (i : Nat) => (i : Int))) ∧ Hid (∀ j, j < B.length → bxs (dat B') j = ptd (dat B) ⟨next, kind, ⟨ckind, tenant, keys, value, flags, life, unique, by_⟩, ten, dest⟩ (L.take k) j)) (fun _ i _ => L.length - (intOf i).toNat)
  case atStart => exact ⟨0, _, Nat.zero_le _, rfl, HP0, HS0, HD0⟩
  case round =>
    obtain ⟨k, B2, hkn, rfl, HPU, HSU, HDU⟩ := hrel
    by_cases hkl : k < L.length
    · have hkl2 : (k : Int) < (L.length : Int) := by omega
      have hjB := HLB.out L[k] (List.getElem_mem hkl)
      have hneL : L.map (fun (i : Nat) => (i : Int)) ≠ [] := by intro e; have := congrArg List.length e; simp at this; rw [this] at hkl; simp at hkl
      have HSR := Hid.mk2 (GOwn.rdOf okI HSU.out)
      obtain ⟨b8, o8, ea8, hb8, hc8⟩ := HSR.out.int hneL
      have ra := hc8 k (by simpa using hkl)
      rw [List.getElem_map] at ra
      have HNK : Hid (L[k] ∉ L.take k) := by
        intro hm
        rw [List.mem_take_iff_getElem] at hm
        obtain ⟨j, hj, e⟩ := hm
        exact List.pairwise_iff_getElem.1 (List.nodup_iff_pairwise_ne.1 HLN.out) j k (by omega) hkl (by omega) e
      have HTS := Hid.mk2 (take_step L k hkl)
      obtain ⟨j, hje⟩ : ∃ j, j = L[k] := ⟨_, rfl⟩
      rw [← hje] at ra hjB HNK HTS
      have hj2 : j < B2.length := by rw [HPU.out.len]; exact hjB
      have hjB2 : (j : Int) < (B.length : Int) := by omega
      have HJD := Hid.mk2 (HDU.out j hjB)
      have HLV : Hid (B2[j].l.length + 1 ≤ 1000000) := by
        have h9 := HJD.out
        rw [bxs_dat hj2] at h9
        have h10 := congrArg List.length h9
        have h11 := (H8.out B[j] (List.getElem_mem hjB)).1
        unfold ptd at h10
        rw [bxs_dat hjB] at h10
        show _ ≤ _
        split at h10 <;> simp at h10 <;> omega
      have HOV := Hid.mk2 (HPU.out.q.box j hj2)
      have g0 := HPU.out.g0
      have n0 := HPU.out.n0
      have l0 := HPU.out.l0
      have hneg := HPU.out.ne
      have rw_ := HPU.out.q.row.c j (by simpa using hj2)
      have rlt := HPU.out.q.row.lt
      have tlt := HPU.out.tb.lt
      have llt := HPU.out.lb.lt
      have e1 := HPU.out.lb.c 1 (by simp)
      simp only [List.getElem_cons_zero, List.getElem_cons_succ, List.getElem_map] at e1 rw_
      have t0 := HPU.out.tb.c 0 (by simp)
      have t1 := HPU.out.tb.c 1 (by simp)
      have t2 := HPU.out.tb.c 2 (by simp)
      have t3 := HPU.out.tb.c 3 (by simp)
      have t4 := HPU.out.tb.c 4 (by simp)
      have t5 := HPU.out.tb.c 5 (by simp)
      have t6 := HPU.out.tb.c 6 (by simp)
      have t7 := HPU.out.tb.c 7 (by simp)
      have t8 := HPU.out.tb.c 8 (by simp)
      have t9 := HPU.out.tb.c 9 (by simp)
      have t10 := HPU.out.tb.c 10 (by simp)
      have t11 := HPU.out.tb.c 11 (by simp)
      simp only [List.getElem_cons_zero, List.getElem_cons_succ] at t0 t1 t2 t3 t4 t5 t6 t7 t8 t9 t10 t11
      obtain ⟨vk, hvk⟩ : ∃ vk, vk = B2[j].v := ⟨_, rfl⟩
      have HVK := Hid.mk2 hvk
      rw [← hvk] at rw_ HOV
      have u2 : ∀ V, Rs wr Lb (w.heap.size + 1) V → V.cell? ⟨Lb, 1, none⟩ = _ := Rs.cellA e1
      have s0 : ∀ V, Rs wr Lb (w.heap.size + 1) V → V.cell? ⟨w.heap.size + 1, 0, none⟩ = _ := Rs.cellB t0
      have s1 : ∀ V, Rs wr Lb (w.heap.size + 1) V → V.cell? ⟨w.heap.size + 1, 1, none⟩ = _ := Rs.cellB t1
      have s2 : ∀ V, Rs wr Lb (w.heap.size + 1) V → V.cell? ⟨w.heap.size + 1, 2, none⟩ = _ := Rs.cellB t2
      have s3 : ∀ V, Rs wr Lb (w.heap.size + 1) V → V.cell? ⟨w.heap.size + 1, 3, none⟩ = _ := Rs.cellB t3
      have s4 : ∀ V, Rs wr Lb (w.heap.size + 1) V → V.cell? ⟨w.heap.size + 1, 4, none⟩ = _ := Rs.cellB t4
      have s5 : ∀ V, Rs wr Lb (w.heap.size + 1) V → V.cell? ⟨w.heap.size + 1, 5, none⟩ = _ := Rs.cellB t5
      have s6 : ∀ V, Rs wr Lb (w.heap.size + 1) V → V.cell? ⟨w.heap.size + 1, 6, none⟩ = _ := Rs.cellB t6
      have s7 : ∀ V, Rs wr Lb (w.heap.size + 1) V → V.cell? ⟨w.heap.size + 1, 7, none⟩ = _ := Rs.cellB t7
      have s8 : ∀ V, Rs wr Lb (w.heap.size + 1) V → V.cell? ⟨w.heap.size + 1, 8, none⟩ = _ := Rs.cellB t8
      have s9 : ∀ V, Rs wr Lb (w.heap.size + 1) V → V.cell? ⟨w.heap.size + 1, 9, none⟩ = _ := Rs.cellB t9
      have s10 : ∀ V, Rs wr Lb (w.heap.size + 1) V → V.cell? ⟨w.heap.size + 1, 10, none⟩ = _ := Rs.cellB t10
      have s11 : ∀ V, Rs wr Lb (w.heap.size + 1) V → V.cell? ⟨w.heap.size + 1, 11, none⟩ = _ := Rs.cellB t11
      have HR0 : Hid (Rs wr Lb (w.heap.size + 1) wr.drew) := Rs.of_below (Below.refl _ _).drew llt tlt
      have HCT := Hid.mk2 (fun V (hV : Below wr.heap.size wr V) => copiedTicket_any ⟨next, kind, ⟨ckind, tenant, keys, value, flags, life, unique, by_⟩, ten, dest⟩ ka ca keys.length rfl (Nat.le_trans HK8.out (by omega)) V ((HAQ.out.below HPU.out.below).below hV))
      unfold Tk.arr at HCT
      dsimp only at HCT
      subst ea8
      clear hje hvk hc8 hneL hb8 t0 t1 t2 t3 t4 t5 t6 t7 t8 t9 t10 t11 e1 HJD
      go_upto_region 15 with (fail)
      refine wp_region_noPanic ?_
      refine wp_region_held_drew (S := fun V => Rs wr Lb (w.heap.size + 1) V) (by kernel_rfl) HR0.out (fun _ => ?_)
      refine wpAnyH_take (i := 0) (v := .pointer (some ⟨Lb, 1, none⟩)) rfl (by kernel_rfl) (by kernel_rfl) (by kernel_rfl) (fun _ _ _ h => h) (Or.inl ⟨by kernel_rfl, fun W hW => by go_simp⟩) HR0.out ?_
      try simp only [List.getElem_toArray, List.getElem_cons_zero, List.getElem_cons_succ, Act.put, List.setIfInBounds_toArray, List.set_cons_zero, List.set_cons_succ, List.append_eq, List.cons_append, List.nil_append]
      refine wpAnyH_take (i := 1) (v := .slice (some ⟨g, 0, none⟩) B.length B.length) rfl (by kernel_rfl) (by kernel_rfl) (by kernel_rfl) (fun _ _ _ h => h) (Or.inl ⟨by kernel_rfl, fun W hW => by have hq0 := u2 W hW; go_simp⟩) HR0.out ?_
      try simp only [List.getElem_toArray, List.getElem_cons_zero, List.getElem_cons_succ, Act.put, List.setIfInBounds_toArray, List.set_cons_zero, List.set_cons_succ, List.append_eq, List.cons_append, List.nil_append]
      refine wpAnyH_take (i := 2) (v := .int .i64 j) rfl (by kernel_rfl) (by kernel_rfl) (by kernel_rfl) (fun _ _ _ h => h) (Or.inl ⟨by kernel_rfl, fun W hW => by kernel_rfl⟩) HR0.out ?_
      try simp only [List.getElem_toArray, List.getElem_cons_zero, List.getElem_cons_succ, Act.put, List.setIfInBounds_toArray, List.set_cons_zero, List.set_cons_succ, List.append_eq, List.cons_append, List.nil_append]
      refine wpAnyH_take (i := 3) (v := .pointer (some ⟨Lb, 1, none⟩)) rfl (by kernel_rfl) (by kernel_rfl) (by kernel_rfl) (fun _ _ _ h => h) (Or.inl ⟨by kernel_rfl, fun W hW => by go_simp⟩) HR0.out ?_
      try simp only [List.getElem_toArray, List.getElem_cons_zero, List.getElem_cons_succ, Act.put, List.setIfInBounds_toArray, List.set_cons_zero, List.set_cons_succ, List.append_eq, List.cons_append, List.nil_append]
      refine wpAnyH_take (i := 4) (v := .slice (some ⟨g, 0, none⟩) B.length B.length) rfl (by kernel_rfl) (by kernel_rfl) (by kernel_rfl) (fun _ _ _ h => h) (Or.inl ⟨by kernel_rfl, fun W hW => by have hq0 := u2 W hW; go_simp⟩) HR0.out ?_
      try simp only [List.getElem_toArray, List.getElem_cons_zero, List.getElem_cons_succ, Act.put, List.setIfInBounds_toArray, List.set_cons_zero, List.set_cons_succ, List.append_eq, List.cons_append, List.nil_append]
      refine wpAnyH_take (i := 5) (v := .int .i64 j) rfl (by kernel_rfl) (by kernel_rfl) (by kernel_rfl) (fun _ _ _ h => h) (Or.inl ⟨by kernel_rfl, fun W hW => by kernel_rfl⟩) HR0.out ?_
      try simp only [List.getElem_toArray, List.getElem_cons_zero, List.getElem_cons_succ, Act.put, List.setIfInBounds_toArray, List.set_cons_zero, List.set_cons_succ, List.append_eq, List.cons_append, List.nil_append]
      refine wpAnyH_take (i := 6) (v := .pointer (some ⟨g, j, none⟩)) rfl (by kernel_rfl) (by kernel_rfl) (by kernel_rfl) (fun _ _ _ h => h) (Or.inl ⟨by kernel_rfl, fun W hW => by go_simp⟩) HR0.out ?_
      try simp only [List.getElem_toArray, List.getElem_cons_zero, List.getElem_cons_succ, Act.put, List.setIfInBounds_toArray, List.set_cons_zero, List.set_cons_succ, List.append_eq, List.cons_append, List.nil_append]
      refine wpAnyH_take (i := 8) (v := .agg #[.int .i64 next, .int .u8 kind, .int .u8 ckind, .int .i64 tenant, .slice ka keys.length ca, .string value, .int .u32 flags, .int .i64 life, .int .u64 unique, .int .u64 by_, .int .i64 ten, .int .i64 dest]) rfl (by kernel_rfl) (by kernel_rfl) (by kernel_rfl) (fun _ _ _ h => h) (Or.inl ⟨by kernel_rfl, fun W hW => by have hq0 := s0 W hW; have hq1 := s1 W hW; have hq2 := s2 W hW; have hq3 := s3 W hW; have hq4 := s4 W hW; have hq5 := s5 W hW; have hq6 := s6 W hW; have hq7 := s7 W hW; have hq8 := s8 W hW; have hq9 := s9 W hW; have hq10 := s10 W hW; have hq11 := s11 W hW; go_simp⟩) HR0.out ?_
      try simp only [List.getElem_toArray, List.getElem_cons_zero, List.getElem_cons_succ, Act.put, List.setIfInBounds_toArray, List.set_cons_zero, List.set_cons_succ, List.append_eq, List.cons_append, List.nil_append]
      refine wpAnyH_ready (rs := [7, 9]) (by kernel_rfl) (by simp) ?_
      refine AllReadyH.cons rfl (fun K hK => ?_) ?_
      · try simp only [List.getElem_toArray, List.getElem_cons_zero, List.getElem_cons_succ]
        go_simp
        refine hK.out _ _ HR0.out (fun _ => ?_)
        clear hK K
        try simp only [List.getElem_toArray, List.getElem_cons_zero, List.getElem_cons_succ, Act.put, List.setIfInBounds_toArray, List.set_cons_zero, List.set_cons_succ, List.append_eq, List.cons_append, List.nil_append]
        refine wpAnyH_ready (rs := [9]) (by kernel_rfl) (by simp) ?_
        refine AllReadyH.cons rfl (fun K hK => ?_) AllReadyH.nil
        try simp only [List.getElem_toArray, List.getElem_cons_zero, List.getElem_cons_succ]
        go_simp
        go_at_call 69
        refine (HCT.out _ (by first | exact (Below.refl _ _).drew | exact Below.refl _ _)).mono ?_
        rintro e w4 ⟨ko, kc, rfl, hO4, hb4⟩
        have HB4 : Hid (Below wr.heap.size wr w4) := g_drew hb4
        have HO4 := Hid.mk2 hO4
        have HO5 := Hid.mk2 (HOV.out.below HB4.out)
        have hz4 : N ≤ w4.heap.size := Nat.le_trans (by omega) HB4.out.size
        have HR4 : Hid (Rs wr Lb (w.heap.size + 1) w4) := Rs.of_below HB4.out llt tlt
        have rw4 := (HB4.out.cell (p := ⟨g, j, none⟩) rlt).trans rw_
        have rlt4 := Nat.lt_of_lt_of_le rlt HB4.out.size
        clear hO4 hb4
        refine hK.out _ _ HR4.out (fun _ => ?_)
        clear hK K
        try simp only [List.getElem_toArray, List.getElem_cons_zero, List.getElem_cons_succ, Act.put, List.setIfInBounds_toArray, List.set_cons_zero, List.set_cons_succ, List.append_eq, List.cons_append, List.nil_append]
        refine wpAnyH_ready (rs := [10]) (by kernel_rfl) (by simp) ?_
        refine AllReadyH.cons rfl (fun K hK => ?_) AllReadyH.nil
        try simp only [List.getElem_toArray, List.getElem_cons_zero, List.getElem_cons_succ]
        go_simp
        refine hK.out _ _ (HR4.out.alloc _ llt tlt) (fun _ => ?_)
        clear hK K
        try simp only [List.getElem_toArray, List.getElem_cons_zero, List.getElem_cons_succ, Act.put, List.setIfInBounds_toArray, List.set_cons_zero, List.set_cons_succ, List.append_eq, List.cons_append, List.nil_append]
        refine wpAnyH_ready (rs := [11]) (by kernel_rfl) (by simp) ?_
        refine AllReadyH.cons rfl (fun K hK => ?_) AllReadyH.nil
        try simp only [List.getElem_toArray, List.getElem_cons_zero, List.getElem_cons_succ]
        rw [if_pos (by rfl)]
        refine g_op_one (w0 := w4) okT (.tmp 58) (.tmp 61) _ (by rfl) (by rfl) N vk B2[j].l HO5.out (by rfl) ⟨⟨next, kind, ⟨ckind, tenant, keys, value, flags, life, unique, by_⟩, ten, dest⟩, ko, kc⟩ (by rfl) _ (by rfl) (by rfl) HLV.out hz4 ?_
        intro v7 w7 hO7 hG7
        obtain ⟨a7, cp7, hv7, -⟩ := hO7.rd okT
        subst hv7
        have HO7 := Hid.mk2 hO7
        have HG7 := Hid.mk2 hG7
        have HR7 : Hid (Rs wr Lb (w.heap.size + 1) w7) := HR4.out.grown hG7.grown llt tlt (by rw [HVK.out]; exact (HPU.out.sepl j hj2).1) (fun e => by have := (HO5.out.lt _ e).1; omega)
        have HRW7 := Hid.mk2 (((HPU.out.q.row.below HB4.out).grown hG7.grown (by rw [HVK.out]; exact HPU.out.q.sepg j hj2)))
        have rw7 := HRW7.out.c j (by simpa using hj2)
        have rf7 := HRW7.out.f j
        simp only [List.getElem_map] at rw7
        rw [← HVK.out] at rw7
        clear hO7 hG7
        refine hK.out _ _ HR7.out (fun _ => ?_)
        clear hK K
        try simp only [List.getElem_toArray, List.getElem_cons_zero, List.getElem_cons_succ, Act.put, List.setIfInBounds_toArray, List.set_cons_zero, List.set_cons_succ, List.append_eq, List.cons_append, List.nil_append]
        refine wpAnyH_ready (rs := [12]) (by kernel_rfl) (by simp) ?_
        refine AllReadyH.cons rfl (fun K hK => ?_) AllReadyH.nil
        try simp only [List.getElem_toArray, List.getElem_cons_zero, List.getElem_cons_succ]
        go_simp
        refine hK.out _ _ HR7.out (fun _ => ?_)
        clear hK K
        try simp only [List.getElem_toArray, List.getElem_cons_zero, List.getElem_cons_succ, Act.put, List.setIfInBounds_toArray, List.set_cons_zero, List.set_cons_succ, List.append_eq, List.cons_append, List.nil_append]
        refine wpAnyH_ready (rs := [13]) (by kernel_rfl) (by simp) ?_
        refine AllReadyH.cons rfl (fun K hK => ?_) AllReadyH.nil
        try simp only [List.getElem_toArray, List.getElem_cons_zero, List.getElem_cons_succ]
        go_simp
        refine hK.out _ _ (HR7.out.set _ _ hneg (by omega)) (fun _ => ?_)
        clear hK K
        try simp only [List.getElem_toArray, List.getElem_cons_zero, List.getElem_cons_succ, Act.put, List.setIfInBounds_toArray, List.set_cons_zero, List.set_cons_succ, List.append_eq, List.cons_append, List.nil_append]
        refine wpAnyH_done (by kernel_rfl) ?_ _
        refine NoPanic.normal ?_
        have HCU := Hid.mk2 ((HPU.out.on HB4.out).upd (i := j) hj2 (nb := ⟨B2[j].l ++ [⟨⟨next, kind, ⟨ckind, tenant, keys, value, flags, life, unique, by_⟩, ten, dest⟩, ko, kc⟩], a7, cp7⟩) (by rw [← HVK.out]; exact HG7.out.grown) (by rw [← HVK.out]; exact HG7.out.lies) HO7.out (by
          intro d hd
          rcases List.mem_append.1 hd with h9 | h9
          · exact .inl h9
          · rw [List.mem_singleton.1 h9]
            refine .inr ⟨HO4.out.down (by show N ≤ wr.heap.size + 2; omega), fun e => ?_, fun x hx => ?_⟩
            · have hx2 : wr.heap.size + 2 ≤ Lb := (HO4.out.lt _ e).1
              omega
            · have hx2 : wr.heap.size + 2 ≤ x := (HO4.out.lt x hx).1
              exact ⟨by omega, fun i hi e => by have := ((HPU.out.q.box i hi).lt x e).2; omega⟩))
        have e9 : Bx.v ⟨B2[j].l ++ [⟨⟨next, kind, ⟨ckind, tenant, keys, value, flags, life, unique, by_⟩, ten, dest⟩, ko, kc⟩], a7, cp7⟩ = .slice a7 (B2[j].l.length + 1) cp7 := by simp [Bx.v]
        rw [e9] at HCU
        have HSU2 : Hid (GOwn EI (w7.setCell ⟨g, j, none⟩ (.slice a7 (B2[j].l.length + 1) cp7)) w2.heap.size (.slice (some ⟨b8, o8, none⟩) L.length c8) (L.map fun (i : Nat) => (i : Int))) := ((HSU.out.below HB4.out).grown HG7.out.grown (by intro x hx e; have h1 := HSK.out x hx; have h2 := (HO5.out.lt x e).1; omega)).grown (g_set _ _ _) (by intro x hx e; cases e; have h1 : g < N := HSK.out _ hx; omega)
        have HDU2 : Hid (∀ i, i < B.length → bxs (dat (B2.set j ⟨B2[j].l ++ [⟨⟨next, kind, ⟨ckind, tenant, keys, value, flags, life, unique, by_⟩, ten, dest⟩, ko, kc⟩], a7, cp7⟩)) i = ptd (dat B) ⟨next, kind, ⟨ckind, tenant, keys, value, flags, life, unique, by_⟩, ten, dest⟩ (L.take (k + 1)) i) := by
          intro i hi
          rw [bxs_set hj2, HTS.out]
          by_cases ej : i = j
          · subst ej
            have h9 := HDU.out i hi
            rw [bxs_dat hj2] at h9
            unfold ptd at h9 ⊢
            rw [if_neg HNK.out] at h9
            rw [if_pos rfl, if_pos (by simp), ← h9]
            simp
          · rw [if_neg ej, HDU.out i hi]
            unfold ptd
            simp [ej]
        clear s0 s1 s2 s3 s4 s5 s6 s7 s8 s9 s10 s11 u2 rw_ rw4 rw7 rf7 HCT ra e9
        go_wp2
        go_roundw
        case rel => exact ⟨k + 1, _, by omega, by go_num, HCU, HSU2, HDU2⟩
        case measure => simp [intOf]; omega
      refine AllReadyH.cons rfl (fun K hK => ?_) AllReadyH.nil
      try simp only [List.getElem_toArray, List.getElem_cons_zero, List.getElem_cons_succ]
      go_simp
      go_at_call 69
      refine (HCT.out _ (by first | exact (Below.refl _ _).drew | exact Below.refl _ _)).mono ?_
      rintro e w4 ⟨ko, kc, rfl, hO4, hb4⟩
      have HB4 : Hid (Below wr.heap.size wr w4) := g_drew hb4
      have HO4 := Hid.mk2 hO4
      have HO5 := Hid.mk2 (HOV.out.below HB4.out)
      have hz4 : N ≤ w4.heap.size := Nat.le_trans (by omega) HB4.out.size
      have HR4 : Hid (Rs wr Lb (w.heap.size + 1) w4) := Rs.of_below HB4.out llt tlt
      have rw4 := (HB4.out.cell (p := ⟨g, j, none⟩) rlt).trans rw_
      have rlt4 := Nat.lt_of_lt_of_le rlt HB4.out.size
      clear hO4 hb4
      refine hK.out _ _ HR4.out (fun _ => ?_)
      clear hK K
      try simp only [List.getElem_toArray, List.getElem_cons_zero, List.getElem_cons_succ, Act.put, List.setIfInBounds_toArray, List.set_cons_zero, List.set_cons_succ, List.append_eq, List.cons_append, List.nil_append]
      refine wpAnyH_ready (rs := [7, 10]) (by kernel_rfl) (by simp) ?_
      refine AllReadyH.cons rfl (fun K hK => ?_) ?_
      · try simp only [List.getElem_toArray, List.getElem_cons_zero, List.getElem_cons_succ]
        go_simp
        refine hK.out _ _ HR4.out (fun _ => ?_)
        clear hK K
        try simp only [List.getElem_toArray, List.getElem_cons_zero, List.getElem_cons_succ, Act.put, List.setIfInBounds_toArray, List.set_cons_zero, List.set_cons_succ, List.append_eq, List.cons_append, List.nil_append]
        refine wpAnyH_ready (rs := [10]) (by kernel_rfl) (by simp) ?_
        refine AllReadyH.cons rfl (fun K hK => ?_) AllReadyH.nil
        try simp only [List.getElem_toArray, List.getElem_cons_zero, List.getElem_cons_succ]
        go_simp
        refine hK.out _ _ (HR4.out.alloc _ llt tlt) (fun _ => ?_)
        clear hK K
        try simp only [List.getElem_toArray, List.getElem_cons_zero, List.getElem_cons_succ, Act.put, List.setIfInBounds_toArray, List.set_cons_zero, List.set_cons_succ, List.append_eq, List.cons_append, List.nil_append]
        refine wpAnyH_ready (rs := [11]) (by kernel_rfl) (by simp) ?_
        refine AllReadyH.cons rfl (fun K hK => ?_) AllReadyH.nil
        try simp only [List.getElem_toArray, List.getElem_cons_zero, List.getElem_cons_succ]
        rw [if_pos (by rfl)]
        refine g_op_one (w0 := w4) okT (.tmp 58) (.tmp 61) _ (by rfl) (by rfl) N vk B2[j].l HO5.out (by rfl) ⟨⟨next, kind, ⟨ckind, tenant, keys, value, flags, life, unique, by_⟩, ten, dest⟩, ko, kc⟩ (by rfl) _ (by rfl) (by rfl) HLV.out hz4 ?_
        intro v7 w7 hO7 hG7
        obtain ⟨a7, cp7, hv7, -⟩ := hO7.rd okT
        subst hv7
        have HO7 := Hid.mk2 hO7
        have HG7 := Hid.mk2 hG7
        have HR7 : Hid (Rs wr Lb (w.heap.size + 1) w7) := HR4.out.grown hG7.grown llt tlt (by rw [HVK.out]; exact (HPU.out.sepl j hj2).1) (fun e => by have := (HO5.out.lt _ e).1; omega)
        have HRW7 := Hid.mk2 (((HPU.out.q.row.below HB4.out).grown hG7.grown (by rw [HVK.out]; exact HPU.out.q.sepg j hj2)))
        have rw7 := HRW7.out.c j (by simpa using hj2)
        have rf7 := HRW7.out.f j
        simp only [List.getElem_map] at rw7
        rw [← HVK.out] at rw7
        clear hO7 hG7
        refine hK.out _ _ HR7.out (fun _ => ?_)
        clear hK K
        try simp only [List.getElem_toArray, List.getElem_cons_zero, List.getElem_cons_succ, Act.put, List.setIfInBounds_toArray, List.set_cons_zero, List.set_cons_succ, List.append_eq, List.cons_append, List.nil_append]
        refine wpAnyH_ready (rs := [12]) (by kernel_rfl) (by simp) ?_
        refine AllReadyH.cons rfl (fun K hK => ?_) AllReadyH.nil
        try simp only [List.getElem_toArray, List.getElem_cons_zero, List.getElem_cons_succ]
        go_simp
        refine hK.out _ _ HR7.out (fun _ => ?_)
        clear hK K
        try simp only [List.getElem_toArray, List.getElem_cons_zero, List.getElem_cons_succ, Act.put, List.setIfInBounds_toArray, List.set_cons_zero, List.set_cons_succ, List.append_eq, List.cons_append, List.nil_append]
        refine wpAnyH_ready (rs := [13]) (by kernel_rfl) (by simp) ?_
        refine AllReadyH.cons rfl (fun K hK => ?_) AllReadyH.nil
        try simp only [List.getElem_toArray, List.getElem_cons_zero, List.getElem_cons_succ]
        go_simp
        refine hK.out _ _ (HR7.out.set _ _ hneg (by omega)) (fun _ => ?_)
        clear hK K
        try simp only [List.getElem_toArray, List.getElem_cons_zero, List.getElem_cons_succ, Act.put, List.setIfInBounds_toArray, List.set_cons_zero, List.set_cons_succ, List.append_eq, List.cons_append, List.nil_append]
        refine wpAnyH_done (by kernel_rfl) ?_ _
        refine NoPanic.normal ?_
        have HCU := Hid.mk2 ((HPU.out.on HB4.out).upd (i := j) hj2 (nb := ⟨B2[j].l ++ [⟨⟨next, kind, ⟨ckind, tenant, keys, value, flags, life, unique, by_⟩, ten, dest⟩, ko, kc⟩], a7, cp7⟩) (by rw [← HVK.out]; exact HG7.out.grown) (by rw [← HVK.out]; exact HG7.out.lies) HO7.out (by
          intro d hd
          rcases List.mem_append.1 hd with h9 | h9
          · exact .inl h9
          · rw [List.mem_singleton.1 h9]
            refine .inr ⟨HO4.out.down (by show N ≤ wr.heap.size + 2; omega), fun e => ?_, fun x hx => ?_⟩
            · have hx2 : wr.heap.size + 2 ≤ Lb := (HO4.out.lt _ e).1
              omega
            · have hx2 : wr.heap.size + 2 ≤ x := (HO4.out.lt x hx).1
              exact ⟨by omega, fun i hi e => by have := ((HPU.out.q.box i hi).lt x e).2; omega⟩))
        have e9 : Bx.v ⟨B2[j].l ++ [⟨⟨next, kind, ⟨ckind, tenant, keys, value, flags, life, unique, by_⟩, ten, dest⟩, ko, kc⟩], a7, cp7⟩ = .slice a7 (B2[j].l.length + 1) cp7 := by simp [Bx.v]
        rw [e9] at HCU
        have HSU2 : Hid (GOwn EI (w7.setCell ⟨g, j, none⟩ (.slice a7 (B2[j].l.length + 1) cp7)) w2.heap.size (.slice (some ⟨b8, o8, none⟩) L.length c8) (L.map fun (i : Nat) => (i : Int))) := ((HSU.out.below HB4.out).grown HG7.out.grown (by intro x hx e; have h1 := HSK.out x hx; have h2 := (HO5.out.lt x e).1; omega)).grown (g_set _ _ _) (by intro x hx e; cases e; have h1 : g < N := HSK.out _ hx; omega)
        have HDU2 : Hid (∀ i, i < B.length → bxs (dat (B2.set j ⟨B2[j].l ++ [⟨⟨next, kind, ⟨ckind, tenant, keys, value, flags, life, unique, by_⟩, ten, dest⟩, ko, kc⟩], a7, cp7⟩)) i = ptd (dat B) ⟨next, kind, ⟨ckind, tenant, keys, value, flags, life, unique, by_⟩, ten, dest⟩ (L.take (k + 1)) i) := by
          intro i hi
          rw [bxs_set hj2, HTS.out]
          by_cases ej : i = j
          · subst ej
            have h9 := HDU.out i hi
            rw [bxs_dat hj2] at h9
            unfold ptd at h9 ⊢
            rw [if_neg HNK.out] at h9
            rw [if_pos rfl, if_pos (by simp), ← h9]
            simp
          · rw [if_neg ej, HDU.out i hi]
            unfold ptd
            simp [ej]
        clear s0 s1 s2 s3 s4 s5 s6 s7 s8 s9 s10 s11 u2 rw_ rw4 rw7 rf7 HCT ra e9
        go_wp2
        go_roundw
        case rel => exact ⟨k + 1, _, by omega, by go_num, HCU, HSU2, HDU2⟩
        case measure => simp [intOf]; omega
      refine AllReadyH.cons rfl (fun K hK => ?_) AllReadyH.nil
      try simp only [List.getElem_toArray, List.getElem_cons_zero, List.getElem_cons_succ]
      go_simp
      refine hK.out _ _ (HR4.out.alloc _ llt tlt) (fun _ => ?_)
      clear hK K
      try simp only [List.getElem_toArray, List.getElem_cons_zero, List.getElem_cons_succ, Act.put, List.setIfInBounds_toArray, List.set_cons_zero, List.set_cons_succ, List.append_eq, List.cons_append, List.nil_append]
      refine wpAnyH_ready (rs := [7]) (by kernel_rfl) (by simp) ?_
      refine AllReadyH.cons rfl (fun K hK => ?_) AllReadyH.nil
      try simp only [List.getElem_toArray, List.getElem_cons_zero, List.getElem_cons_succ]
      go_simp
      refine hK.out _ _ (HR4.out.alloc _ llt tlt) (fun _ => ?_)
      clear hK K
      try simp only [List.getElem_toArray, List.getElem_cons_zero, List.getElem_cons_succ, Act.put, List.setIfInBounds_toArray, List.set_cons_zero, List.set_cons_succ, List.append_eq, List.cons_append, List.nil_append]
      refine wpAnyH_ready (rs := [11]) (by kernel_rfl) (by simp) ?_
      refine AllReadyH.cons rfl (fun K hK => ?_) AllReadyH.nil
      try simp only [List.getElem_toArray, List.getElem_cons_zero, List.getElem_cons_succ]
      rw [if_pos (by rfl)]
      refine g_op_one (w0 := w4) okT (.tmp 58) (.tmp 61) _ (by rfl) (by rfl) N vk B2[j].l HO5.out (by rfl) ⟨⟨next, kind, ⟨ckind, tenant, keys, value, flags, life, unique, by_⟩, ten, dest⟩, ko, kc⟩ (by rfl) _ (by rfl) (by rfl) HLV.out hz4 ?_
      intro v7 w7 hO7 hG7
      obtain ⟨a7, cp7, hv7, -⟩ := hO7.rd okT
      subst hv7
      have HO7 := Hid.mk2 hO7
      have HG7 := Hid.mk2 hG7
      have HR7 : Hid (Rs wr Lb (w.heap.size + 1) w7) := HR4.out.grown hG7.grown llt tlt (by rw [HVK.out]; exact (HPU.out.sepl j hj2).1) (fun e => by have := (HO5.out.lt _ e).1; omega)
      have HRW7 := Hid.mk2 (((HPU.out.q.row.below HB4.out).grown hG7.grown (by rw [HVK.out]; exact HPU.out.q.sepg j hj2)))
      have rw7 := HRW7.out.c j (by simpa using hj2)
      have rf7 := HRW7.out.f j
      simp only [List.getElem_map] at rw7
      rw [← HVK.out] at rw7
      clear hO7 hG7
      refine hK.out _ _ HR7.out (fun _ => ?_)
      clear hK K
      try simp only [List.getElem_toArray, List.getElem_cons_zero, List.getElem_cons_succ, Act.put, List.setIfInBounds_toArray, List.set_cons_zero, List.set_cons_succ, List.append_eq, List.cons_append, List.nil_append]
      refine wpAnyH_ready (rs := [12]) (by kernel_rfl) (by simp) ?_
      refine AllReadyH.cons rfl (fun K hK => ?_) AllReadyH.nil
      try simp only [List.getElem_toArray, List.getElem_cons_zero, List.getElem_cons_succ]
      go_simp
      refine hK.out _ _ HR7.out (fun _ => ?_)
      clear hK K
      try simp only [List.getElem_toArray, List.getElem_cons_zero, List.getElem_cons_succ, Act.put, List.setIfInBounds_toArray, List.set_cons_zero, List.set_cons_succ, List.append_eq, List.cons_append, List.nil_append]
      refine wpAnyH_ready (rs := [13]) (by kernel_rfl) (by simp) ?_
      refine AllReadyH.cons rfl (fun K hK => ?_) AllReadyH.nil
      try simp only [List.getElem_toArray, List.getElem_cons_zero, List.getElem_cons_succ]
      go_simp
      refine hK.out _ _ (HR7.out.set _ _ hneg (by omega)) (fun _ => ?_)
      clear hK K
      try simp only [List.getElem_toArray, List.getElem_cons_zero, List.getElem_cons_succ, Act.put, List.setIfInBounds_toArray, List.set_cons_zero, List.set_cons_succ, List.append_eq, List.cons_append, List.nil_append]
      refine wpAnyH_done (by kernel_rfl) ?_ _
      refine NoPanic.normal ?_
      have HCU := Hid.mk2 ((HPU.out.on HB4.out).upd (i := j) hj2 (nb := ⟨B2[j].l ++ [⟨⟨next, kind, ⟨ckind, tenant, keys, value, flags, life, unique, by_⟩, ten, dest⟩, ko, kc⟩], a7, cp7⟩) (by rw [← HVK.out]; exact HG7.out.grown) (by rw [← HVK.out]; exact HG7.out.lies) HO7.out (by
        intro d hd
        rcases List.mem_append.1 hd with h9 | h9
        · exact .inl h9
        · rw [List.mem_singleton.1 h9]
          refine .inr ⟨HO4.out.down (by show N ≤ wr.heap.size + 2; omega), fun e => ?_, fun x hx => ?_⟩
          · have hx2 : wr.heap.size + 2 ≤ Lb := (HO4.out.lt _ e).1
            omega
          · have hx2 : wr.heap.size + 2 ≤ x := (HO4.out.lt x hx).1
            exact ⟨by omega, fun i hi e => by have := ((HPU.out.q.box i hi).lt x e).2; omega⟩))
      have e9 : Bx.v ⟨B2[j].l ++ [⟨⟨next, kind, ⟨ckind, tenant, keys, value, flags, life, unique, by_⟩, ten, dest⟩, ko, kc⟩], a7, cp7⟩ = .slice a7 (B2[j].l.length + 1) cp7 := by simp [Bx.v]
      rw [e9] at HCU
      have HSU2 : Hid (GOwn EI (w7.setCell ⟨g, j, none⟩ (.slice a7 (B2[j].l.length + 1) cp7)) w2.heap.size (.slice (some ⟨b8, o8, none⟩) L.length c8) (L.map fun (i : Nat) => (i : Int))) := ((HSU.out.below HB4.out).grown HG7.out.grown (by intro x hx e; have h1 := HSK.out x hx; have h2 := (HO5.out.lt x e).1; omega)).grown (g_set _ _ _) (by intro x hx e; cases e; have h1 : g < N := HSK.out _ hx; omega)
      have HDU2 : Hid (∀ i, i < B.length → bxs (dat (B2.set j ⟨B2[j].l ++ [⟨⟨next, kind, ⟨ckind, tenant, keys, value, flags, life, unique, by_⟩, ten, dest⟩, ko, kc⟩], a7, cp7⟩)) i = ptd (dat B) ⟨next, kind, ⟨ckind, tenant, keys, value, flags, life, unique, by_⟩, ten, dest⟩ (L.take (k + 1)) i) := by
        intro i hi
        rw [bxs_set hj2, HTS.out]
        by_cases ej : i = j
        · subst ej
          have h9 := HDU.out i hi
          rw [bxs_dat hj2] at h9
          unfold ptd at h9 ⊢
          rw [if_neg HNK.out] at h9
          rw [if_pos rfl, if_pos (by simp), ← h9]
          simp
        · rw [if_neg ej, HDU.out i hi]
          unfold ptd
          simp [ej]
      clear s0 s1 s2 s3 s4 s5 s6 s7 s8 s9 s10 s11 u2 rw_ rw4 rw7 rf7 HCT ra e9
      go_wp2
      go_roundw
      case rel => exact ⟨k + 1, _, by omega, by go_num, HCU, HSU2, HDU2⟩
      case measure => simp [intOf]; omega
    · have hkl2 : ¬ ((k : Int) < (L.length : Int)) := by omega
      have e0 := HPU.out.lb.c 0 (by simp)
      have e1 := HPU.out.lb.c 1 (by simp)
      have t0 := HPU.out.tb.c 0 (by simp)
      have f0 := HPU.out.rb.f 0
      have f1 := HPU.out.rb.f 1
      have y0 := HPU.out.rb.c 0 (by simp)
      have y1 := HPU.out.rb.c 1 (by simp)
      have ylt := HPU.out.rb.lt
      have llt := HPU.out.lb.lt
      have tlt := HPU.out.tb.lt
      simp only [List.getElem_cons_zero, List.getElem_cons_succ] at e0 e1 y0 y1 t0
      have HDT := Hid.mk2 (HPQ.out B2 HPU.out.len (by have h9 := HDU.out; rw [List.take_of_length_le (by omega)] at h9; exact h9))
      have HDR : Hid (Below ((wr.setCell ⟨w.heap.size + 2, 0, none⟩ (.int .i64 (next + 1))).setCell ⟨w.heap.size + 2, 1, none⟩ (.slice (some ⟨g, 0, none⟩) B.length B.length)).heap.size ((wr.setCell ⟨w.heap.size + 2, 0, none⟩ (.int .i64 (next + 1))).setCell ⟨w.heap.size + 2, 1, none⟩ (.slice (some ⟨g, 0, none⟩) B.length B.length)) ((wr.setCell ⟨w.heap.size + 2, 0, none⟩ (.int .i64 (next + 1))).setCell ⟨w.heap.size + 2, 1, none⟩ (.slice (some ⟨g, 0, none⟩) B.length B.length)).drew) := (Below.refl _ _).drew
      have HZ9 : Hid (GBx ((wr.setCell ⟨w.heap.size + 2, 0, none⟩ (.int .i64 (next + 1))).setCell ⟨w.heap.size + 2, 1, none⟩ (.slice (some ⟨g, 0, none⟩) B.length B.length)).drew (w.heap.size + 2) [.int .i64 (next + 1), .slice (some ⟨g, 0, none⟩) B.length B.length]) := (GBx.sets [.int .i64 (next + 1), .slice (some ⟨g, 0, none⟩) B.length B.length] HPU.out.rb rfl).below (Below.refl _ _).drew
      have HBZ : Hid (Below w.heap.size w ((wr.setCell ⟨w.heap.size + 2, 0, none⟩ (.int .i64 (next + 1))).setCell ⟨w.heap.size + 2, 1, none⟩ (.slice (some ⟨g, 0, none⟩) B.length B.length)).drew) := (sets_below (b := w.heap.size + 2) HPU.out.below [.int .i64 (next + 1), .slice (some ⟨g, 0, none⟩) B.length B.length] 0 (by omega) (by omega)).drew
      have HQZ : Hid (Qo ((wr.setCell ⟨w.heap.size + 2, 0, none⟩ (.int .i64 (next + 1))).setCell ⟨w.heap.size + 2, 1, none⟩ (.slice (some ⟨g, 0, none⟩) B.length B.length)).drew w.heap.size g B2) := by
        have h1 := HPU.out.g0
        have h2 := HPU.out.n0
        exact (((HPU.out.q.other (w.heap.size + 2) 0 _ (by omega) (by omega)).other (w.heap.size + 2) 1 _ (by omega) (by omega)).down (by omega)).below (Below.refl _ _).drew
      have HGE : Hid (w.heap.size ≤ g) := by have := HPU.out.g0; have := HPU.out.n0; show _ ≤ _; omega
      have Z0 := HZ9.out.c 0 (by simp)
      have Z1 := HZ9.out.c 1 (by simp)
      simp only [List.getElem_cons_zero, List.getElem_cons_succ] at Z0 Z1
      go_upto_region 17 with (fail)
      go_region
      go_wp2
      try simp only [Exit.inBlock, Exit.then]
      refine bodyPost_ret (v := .tuple #[.agg #[.int .i64 (next + 1), .slice (some ⟨g, 0, none⟩) B.length B.length], .int .i64 next, .int .i64 0]) (by simp [results, Try.results26, go_sem, Z0, Z1]) rfl ⟨g, rfl, HGE.out, B2, HQZ.out, HDT.out, HBZ.out⟩
end Go.Proofs.Ytpnmokmadbapoaa
