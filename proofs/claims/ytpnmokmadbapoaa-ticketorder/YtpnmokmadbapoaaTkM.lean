/-
  Inboxes that a call made, whose memory is their own; package ticket: contract of copiedTicket.
-/
import Derived.Test.YtpnmokmadbapoaaTkL
namespace Go.Proofs.Ytpnmokmadbapoaa
open Go.RowKit
set_option linter.unusedSimpArgs false
set_option linter.unusedVariables false
set_option maxRecDepth 100000

/-- a whole struct is stored, cell by cell -/
def sets (w : World) (b : Nat) (j : Nat) : List Value → World
  | [] => w
  | v :: l => sets (w.setCell ⟨b, j, none⟩ v) b (j + 1) l
theorem GBx.sets_from {b : Nat} : ∀ (us : List Value) {w : World} {j : Nat} {vs : List Value}, GBx w b vs → vs.length = j + us.length → GBx (sets w b j us) b (vs.take j ++ us)
  | [], w, j, vs, h, hl => by rw [List.append_nil, List.take_of_length_le (by simp at hl; omega)]; exact h
  | u :: us, w, j, vs, h, hl => by
    have hj : j < vs.length := by simp at hl; omega
    have h1 := GBx.sets_from us (h.set j u hj) (j := j + 1) (by simp at hl ⊢; omega)
    refine h1.ext ?_
    rw [List.take_set, List.take_add_one, List.getElem?_eq_getElem hj]
    rw [List.set_append_right _ _ (by simp; omega)]
    simp [Nat.min_eq_left (Nat.le_of_lt hj)]
theorem GBx.sets {w : World} {b : Nat} {vs : List Value} (us : List Value) (h : GBx w b vs) (hl : vs.length = us.length) : GBx (sets w b 0 us) b us := by
  have := GBx.sets_from us h (j := 0) (by omega)
  simpa using this
theorem sets_grown {b : Nat} : ∀ (us : List Value) (w : World) (j : Nat), w.grownBy (sets w b j us) (some b)
  | [], w, j => World.grownBy.refl w _
  | u :: us, w, j => (g_set w ⟨b, j, none⟩ u).trans (sets_grown us _ (j + 1))
theorem sets_below {b B : Nat} {w0 w : World} (h : Below B w0 w) (us : List Value) (j : Nat) (hb : B ≤ b) (hB : B ≤ w.heap.size) : Below B w0 (sets w b j us) :=
  h.grown (sets_grown us w j) hB (by intro k hk; cases hk; exact hb)
theorem GOwn.sets {α : Type} {E : GEl α} {w : World} {base b : Nat} {v : Value} {l : List α} (h : GOwn E w base v l) (us : List Value) (j : Nat) (hb : b < base) : GOwn E (sets w b j us) base v l :=
  h.grown (sets_grown us w j) (by intro k hk e; cases e; have := (h.lt _ hk).1; omega)
/-- inboxes in memory of their own: the row's block, the boxes' blocks, the keys' blocks, none of which is another's -/
structure Qo (w : World) (base g : Nat) (B : List Bx) : Prop where
  row : GBx w g (B.map Bx.v)
  box : ∀ i (hi : i < B.length), GOwn ET w base B[i].v B[i].l
  keys : ∀ i (hi : i < B.length), ∀ d ∈ B[i].l, GOwn ES w base d.v d.t.c.keys
  sep : ∀ i j (hi : i < B.length) (hj : j < B.length), i ≠ j → ∀ k, B[i].v.ownBlock = some k → B[j].v.ownBlock ≠ some k
  sepk : ∀ i (hi : i < B.length), ∀ d ∈ B[i].l, ∀ k, d.v.ownBlock = some k → k ≠ g ∧ ∀ j (hj : j < B.length), B[j].v.ownBlock ≠ some k
  sepg : ∀ i (hi : i < B.length), B[i].v.ownBlock ≠ some g
theorem Qo.below {w w' : World} {base g : Nat} {B : List Bx} (h : Qo w base g B) (hb : Below w.heap.size w w') : Qo w' base g B :=
  ⟨h.row.below hb, fun i hi => (h.box i hi).below hb, fun i hi d hd => (h.keys i hi d hd).below hb, h.sep, h.sepk, h.sepg⟩
theorem Qo.other {w : World} {base g : Nat} {B : List Bx} (h : Qo w base g B) (b j : Nat) (u : Value) (hb : b < base) (hne : b ≠ g) : Qo (w.setCell ⟨b, j, none⟩ u) base g B :=
  ⟨h.row.other _ _ hne, fun i hi => (h.box i hi).other _ _ _ hb, fun i hi d hd => (h.keys i hi d hd).other _ _ _ hb, h.sep, h.sepk, h.sepg⟩
theorem Qo.down {w : World} {base base' g : Nat} {B : List Bx} (h : Qo w base g B) (hb : base' ≤ base) : Qo w base' g B :=
  ⟨h.row, fun i hi => (h.box i hi).down hb, fun i hi d hd => (h.keys i hi d hd).down hb, h.sep, h.sepk, h.sepg⟩
theorem Qo.rd {w : World} {base g : Nat} {B : List Bx} (h : Qo w base g B) (hl : B.length ≤ 4) : Qr w (some ⟨g, 0, none⟩) B B.length := by
  refine ⟨⟨Nat.le_refl _, by omega, (by intro e; cases e), ?_⟩, fun b hb => ?_, fun b hb d hd => ?_⟩
  · refine .inr ⟨g, 0, rfl, h.row.lt, fun i hi j hj => ?_⟩
    have hj0 : j = 0 := by simp [EB] at hj; omega
    subst hj0
    have h9 := h.row.c i (by simpa using hi)
    simp only [List.getElem_map] at h9
    simpa [EB] using h9
  · obtain ⟨i, hi, rfl⟩ := List.getElem_of_mem hb
    exact GOwn.rdOf okT (h.box i hi)
  · obtain ⟨i, hi, rfl⟩ := List.getElem_of_mem hb
    exact GOwn.rdOf okS (h.keys i hi d hd)
/-- a box is turned -/
theorem Qo.upd {w w' : World} {base g : Nat} {B : List Bx} (h : Qo w base g B) {i : Nat} (hi : i < B.length) {nb : Bx} (hgr : w.grownBy w' B[i].v.ownBlock) (hlies : ∀ k, nb.v.ownBlock = some k → B[i].v.ownBlock = some k ∨ w.heap.size ≤ k) (hown : GOwn ET w' base nb.v nb.l)
    (hk : ∀ d ∈ nb.l, d ∈ B[i].l ∨ (GOwn ES w base d.v d.t.c.keys ∧ ∀ k, d.v.ownBlock = some k → k ≠ g ∧ ∀ j (hj : j < B.length), B[j].v.ownBlock ≠ some k)) : Qo (w'.setCell ⟨g, i, none⟩ nb.v) base g (B.set i nb) := by
  have hgl := h.row.lt
  have hng : nb.v.ownBlock ≠ some g := by
    intro e
    rcases hlies g e with h1 | h1
    · exact h.sepg i hi h1
    · omega
  have hK : ∀ d ∈ nb.l, GOwn ES w base d.v d.t.c.keys ∧ ∀ k, d.v.ownBlock = some k → k ≠ g ∧ ∀ j (hj : j < B.length), B[j].v.ownBlock ≠ some k := by
    intro d hd
    rcases hk d hd with h1 | h1
    · exact ⟨h.keys i hi d h1, h.sepk i hi d h1⟩
    · exact h1
  have hlen : (B.set i nb).length = B.length := List.length_set
  refine ⟨?_, fun j hj => ?_, fun j hj d hd => ?_, fun j k hj hk' hne x hx => ?_, fun j hj d hd x hx => ?_, fun j hj => ?_⟩
  · rw [List.map_set]
    exact (h.row.grown hgr (h.sepg i hi)).set i nb.v (by simpa using hi)
  · rw [List.getElem_set]
    split
    · exact hown.grown (g_set _ _ _) (by intro k hk' e; cases e; exact hng hk')
    · rename_i hne
      have hj' : j < B.length := by rw [← hlen]; exact hj
      exact ((h.box j hj').grown hgr (by intro k hk' e; exact h.sep j i hj' hi (fun x => hne x.symm) k hk' e)).grown (g_set _ _ _) (by intro k hk' e; cases e; exact h.sepg j hj' hk')
  · rw [List.getElem_set] at hd
    split at hd
    · obtain ⟨h1, h2⟩ := hK d hd
      exact (h1.grown hgr (by intro k hk' e; exact (h2 k hk').2 i hi e)).grown (g_set _ _ _) (by intro k hk' e; cases e; exact (h2 _ hk').1 rfl)
    · have hj' : j < B.length := by rw [← hlen]; exact hj
      exact ((h.keys j hj' d hd).grown hgr (by intro k hk' e; exact (h.sepk j hj' d hd k hk').2 i hi e)).grown (g_set _ _ _) (by intro k hk' e; cases e; exact (h.sepk j hj' d hd _ hk').1 rfl)
  · have hj' : j < B.length := by rw [← hlen]; exact hj
    have hk2 : k < B.length := by rw [← hlen]; exact hk'
    rw [List.getElem_set] at hx ⊢
    split at hx
    · rename_i e1
      subst e1
      rw [if_neg hne]
      intro e2
      rcases hlies x hx with h1 | h1
      · exact h.sep i k hi hk2 hne x h1 e2
      · have := ((h.box k hk2).lt x e2).2; omega
    · rename_i e1
      split
      · rename_i e2
        subst e2
        intro e3
        rcases hlies x e3 with h1 | h1
        · exact h.sep j i hj' hi (fun y => hne y) x hx h1
        · have := ((h.box j hj').lt x hx).2; omega
      · exact h.sep j k hj' hk2 hne x hx
  · have hnew : ∀ d : Td, GOwn ES w base d.v d.t.c.keys → (∀ k, d.v.ownBlock = some k → k ≠ g ∧ ∀ j (hj : j < B.length), B[j].v.ownBlock ≠ some k) → d.v.ownBlock = some x → x ≠ g ∧ ∀ j (hj : j < (B.set i nb).length), (B.set i nb)[j].v.ownBlock ≠ some x := by
      intro d h1 h2 hx
      refine ⟨(h2 x hx).1, fun m hm => ?_⟩
      rw [List.getElem_set]
      split
      · intro e3
        rcases hlies x e3 with h3 | h3
        · exact (h2 x hx).2 i hi h3
        · have := (h1.lt x hx).2; omega
      · exact (h2 x hx).2 m (by rw [← hlen]; exact hm)
    rw [List.getElem_set] at hd
    split at hd
    · obtain ⟨h1, h2⟩ := hK d hd
      exact hnew d h1 h2 hx
    · have hj' : j < B.length := by rw [← hlen]; exact hj
      exact hnew d (h.keys j hj' d hd) (h.sepk j hj' d hd) hx
  · rw [List.getElem_set]
    split
    · exact hng
    · exact h.sepg j (by rw [← hlen]; exact hj)
/-- boxes without tickets -/
def nobox : Bx := ⟨[], none, 0⟩
theorem Qo.made {w : World} {base g n : Nat} (h : GBx w g (List.replicate n (.slice none 0 0))) : Qo w base g (List.replicate n nobox) := by
  refine ⟨by rw [List.map_replicate]; exact h, fun i hi => ?_, fun i hi d hd => ?_, fun i j hi hj _ k hk => ?_, fun i hi d hd => ?_, fun i hi => ?_⟩
  · rw [List.getElem_replicate]; exact GOwn.nil _ _
  · rw [List.getElem_replicate] at hd; cases hd
  · rw [List.getElem_replicate] at hk; cases hk
  · rw [List.getElem_replicate] at hd; cases hd
  · rw [List.getElem_replicate]; intro e; cases e

set_option maxHeartbeats 2000000 in
theorem copiedTicket_any (t : Tk) (ka : Option Addr) (ca ma : Nat) (hma : ma = t.c.keys.length) (h8 : t.c.keys.length ≤ 1000) (w : World) (ha : GRd ES w ka t.c.keys ca) :
    Calls Try.prog 69 #[.agg (t.arr (.slice ka ma ca))] w fun e w' => ∃ ko kc, e = .returned (.agg (t.arr (.slice ko t.c.keys.length kc))) ∧ GOwn ES w' (w.heap.size + 2) (.slice ko t.c.keys.length kc) t.c.keys ∧ Below w.heap.size w w' := by
  subst hma
  obtain ⟨W, hW⟩ : ∃ W, W = (w.alloc (.cells (t.arr (.slice ka t.c.keys.length ca)) 68)).alloc (.cells #[.int .i64 0, .int .u8 0, .int .u8 0, .int .i64 0, .slice none 0 0, .string ⟨#[]⟩, .int .u32 0, .int .i64 0, .int .u64 0, .int .u64 0, .int .i64 0, .int .i64 0] 68) := ⟨_, rfl⟩
  have HB : Hid (Below w.heap.size w W) := by rw [hW]; exact g_on (g_alloc _ _) (g_alloc _ _)
  have HX : Hid (GBx W w.heap.size (t.cl (.slice ka t.c.keys.length ca))) := by rw [hW]; exact (GBx.made w (t.cl (.slice ka t.c.keys.length ca)) _).alloc _
  have HY : Hid (GBx W (w.heap.size + 1) [.int .i64 0, .int .u8 0, .int .u8 0, .int .i64 0, .slice none 0 0, .string ⟨#[]⟩, .int .u32 0, .int .i64 0, .int .u64 0, .int .u64 0, .int .i64 0, .int .i64 0]) := by
    rw [hW]
    have := GBx.made (w.alloc (.cells (t.arr (.slice ka t.c.keys.length ca)) 68)) [.int .i64 0, .int .u8 0, .int .u8 0, .int .i64 0, .slice none 0 0, .string ⟨#[]⟩, .int .u32 0, .int .i64 0, .int .u64 0, .int .u64 0, .int .i64 0, .int .i64 0] 68
    rw [show (w.alloc (.cells (t.arr (.slice ka t.c.keys.length ca)) 68)).heap.size = w.heap.size + 1 by simp] at this
    exact this
  have HSZ : Hid (W.heap.size = w.heap.size + 2) := by show _ = _; rw [hW]; simp
  have HCL := Hid.mk2 (cloneS_any t.c.keys ka ca W (ha.below HB.out) h8)
  clear ha h8
  obtain ⟨num, kind, ⟨ckind, tenant, keys, value, flags, life, unique, by_⟩, ten, dest⟩ := t
  unfold Tk.arr at *
  unfold Tk.cl at HX
  dsimp only at *
  go_enter Try.func69, Try.ntmps69
  go_upto_region 1 with (fail)
  rw [← hW]
  clear hW
  have x4 := HX.out.c 4 (by simp)
  simp only [List.getElem_cons_zero, List.getElem_cons_succ] at x4
  have xlt := HX.out.lt
  go_wp2_with (go_at_call 57; refine HCL.out.mono ?_; rintro e w1 ⟨v1, rfl, hO1, hb1⟩; obtain ⟨ko, kc, hv1, -⟩ := hO1.rd okS; subst hv1; have HO1 := Hid.mk2 hO1; have HB1 := Hid.mk2 hb1; have HX1 := Hid.mk2 (HX.out.below hb1); have HY1 := Hid.mk2 (HY.out.below hb1); clear hO1 hb1; have z0 := HX1.out.c 0 (by simp); have z1 := HX1.out.c 1 (by simp); have z2 := HX1.out.c 2 (by simp); have z3 := HX1.out.c 3 (by simp); have z4 := HX1.out.c 4 (by simp); have z5 := HX1.out.c 5 (by simp); have z6 := HX1.out.c 6 (by simp); have z7 := HX1.out.c 7 (by simp); have z8 := HX1.out.c 8 (by simp); have z9 := HX1.out.c 9 (by simp); have z10 := HX1.out.c 10 (by simp); have z11 := HX1.out.c 11 (by simp); have q0 := HY1.out.c 0 (by simp); have q1 := HY1.out.c 1 (by simp); have q2 := HY1.out.c 2 (by simp); have q3 := HY1.out.c 3 (by simp); have q4 := HY1.out.c 4 (by simp); have q5 := HY1.out.c 5 (by simp); have q6 := HY1.out.c 6 (by simp); have q7 := HY1.out.c 7 (by simp); have q8 := HY1.out.c 8 (by simp); have q9 := HY1.out.c 9 (by simp); have q10 := HY1.out.c 10 (by simp); have q11 := HY1.out.c 11 (by simp); have zf4 := HX1.out.f 4; have qf0 := HY1.out.f 0; have qf1 := HY1.out.f 1; have qf2 := HY1.out.f 2; have qf3 := HY1.out.f 3; have qf4 := HY1.out.f 4; have qf5 := HY1.out.f 5; have qf6 := HY1.out.f 6; have qf7 := HY1.out.f 7; have qf8 := HY1.out.f 8; have qf9 := HY1.out.f 9; have qf10 := HY1.out.f 10; have qf11 := HY1.out.f 11; have zlt := HX1.out.lt; have qlt := HY1.out.lt; simp only [List.getElem_cons_zero, List.getElem_cons_succ] at z0 z1 z2 z3 z4 z5 z6 z7 z8 z9 z10 z11 q0 q1 q2 q3 q4 q5 q6 q7 q8 q9 q10 q11)
  have HZ : Hid (GBx (((((((((((((w1.setCell ⟨w.heap.size, 4, none⟩ (.slice ko keys.length kc)).setCell ⟨w.heap.size + 1, 0, none⟩ (.int .i64 num)).setCell ⟨w.heap.size + 1, 1, none⟩ (.int .u8 kind)).setCell ⟨w.heap.size + 1, 2, none⟩ (.int .u8 ckind)).setCell ⟨w.heap.size + 1, 3, none⟩ (.int .i64 tenant)).setCell ⟨w.heap.size + 1, 4, none⟩ (.slice ko keys.length kc)).setCell ⟨w.heap.size + 1, 5, none⟩ (.string value)).setCell ⟨w.heap.size + 1, 6, none⟩ (.int .u32 flags)).setCell ⟨w.heap.size + 1, 7, none⟩ (.int .i64 life)).setCell ⟨w.heap.size + 1, 8, none⟩ (.int .u64 unique)).setCell ⟨w.heap.size + 1, 9, none⟩ (.int .u64 by_)).setCell ⟨w.heap.size + 1, 10, none⟩ (.int .i64 ten)).setCell ⟨w.heap.size + 1, 11, none⟩ (.int .i64 dest)) (w.heap.size + 1) [.int .i64 num, .int .u8 kind, .int .u8 ckind, .int .i64 tenant, .slice ko keys.length kc, .string value, .int .u32 flags, .int .i64 life, .int .u64 unique, .int .u64 by_, .int .i64 ten, .int .i64 dest]) := GBx.sets [.int .i64 num, .int .u8 kind, .int .u8 ckind, .int .i64 tenant, .slice ko keys.length kc, .string value, .int .u32 flags, .int .i64 life, .int .u64 unique, .int .u64 by_, .int .i64 ten, .int .i64 dest] (HY1.out.other 4 (.slice ko keys.length kc) (by omega)) rfl
  have Z0 := HZ.out.c 0 (by simp)
  have Z1 := HZ.out.c 1 (by simp)
  have Z2 := HZ.out.c 2 (by simp)
  have Z3 := HZ.out.c 3 (by simp)
  have Z4 := HZ.out.c 4 (by simp)
  have Z5 := HZ.out.c 5 (by simp)
  have Z6 := HZ.out.c 6 (by simp)
  have Z7 := HZ.out.c 7 (by simp)
  have Z8 := HZ.out.c 8 (by simp)
  have Z9 := HZ.out.c 9 (by simp)
  have Z10 := HZ.out.c 10 (by simp)
  have Z11 := HZ.out.c 11 (by simp)
  simp only [List.getElem_cons_zero, List.getElem_cons_succ] at Z0 Z1 Z2 Z3 Z4 Z5 Z6 Z7 Z8 Z9 Z10 Z11
  have HOZ : Hid (GOwn ES (((((((((((((w1.setCell ⟨w.heap.size, 4, none⟩ (.slice ko keys.length kc)).setCell ⟨w.heap.size + 1, 0, none⟩ (.int .i64 num)).setCell ⟨w.heap.size + 1, 1, none⟩ (.int .u8 kind)).setCell ⟨w.heap.size + 1, 2, none⟩ (.int .u8 ckind)).setCell ⟨w.heap.size + 1, 3, none⟩ (.int .i64 tenant)).setCell ⟨w.heap.size + 1, 4, none⟩ (.slice ko keys.length kc)).setCell ⟨w.heap.size + 1, 5, none⟩ (.string value)).setCell ⟨w.heap.size + 1, 6, none⟩ (.int .u32 flags)).setCell ⟨w.heap.size + 1, 7, none⟩ (.int .i64 life)).setCell ⟨w.heap.size + 1, 8, none⟩ (.int .u64 unique)).setCell ⟨w.heap.size + 1, 9, none⟩ (.int .u64 by_)).setCell ⟨w.heap.size + 1, 10, none⟩ (.int .i64 ten)).setCell ⟨w.heap.size + 1, 11, none⟩ (.int .i64 dest)) (w.heap.size + 2) (.slice ko keys.length kc) keys) := by
    have h1 := HO1.out
    rw [HSZ.out] at h1
    exact (h1.other w.heap.size 4 (.slice ko keys.length kc) (by omega)).sets (b := w.heap.size + 1) [.int .i64 num, .int .u8 kind, .int .u8 ckind, .int .i64 tenant, .slice ko keys.length kc, .string value, .int .u32 flags, .int .i64 life, .int .u64 unique, .int .u64 by_, .int .i64 ten, .int .i64 dest] 0 (by omega)
  have HBZ : Hid (Below w.heap.size w (((((((((((((w1.setCell ⟨w.heap.size, 4, none⟩ (.slice ko keys.length kc)).setCell ⟨w.heap.size + 1, 0, none⟩ (.int .i64 num)).setCell ⟨w.heap.size + 1, 1, none⟩ (.int .u8 kind)).setCell ⟨w.heap.size + 1, 2, none⟩ (.int .u8 ckind)).setCell ⟨w.heap.size + 1, 3, none⟩ (.int .i64 tenant)).setCell ⟨w.heap.size + 1, 4, none⟩ (.slice ko keys.length kc)).setCell ⟨w.heap.size + 1, 5, none⟩ (.string value)).setCell ⟨w.heap.size + 1, 6, none⟩ (.int .u32 flags)).setCell ⟨w.heap.size + 1, 7, none⟩ (.int .i64 life)).setCell ⟨w.heap.size + 1, 8, none⟩ (.int .u64 unique)).setCell ⟨w.heap.size + 1, 9, none⟩ (.int .u64 by_)).setCell ⟨w.heap.size + 1, 10, none⟩ (.int .i64 ten)).setCell ⟨w.heap.size + 1, 11, none⟩ (.int .i64 dest))) := by
    have h1 : Below w.heap.size w (w1.setCell ⟨w.heap.size, 4, none⟩ (.slice ko keys.length kc)) := (g_on HB.out HB1.out).setCell (Nat.le_refl _) _
    exact sets_below (b := w.heap.size + 1) h1 [.int .i64 num, .int .u8 kind, .int .u8 ckind, .int .i64 tenant, .slice ko keys.length kc, .string value, .int .u32 flags, .int .i64 life, .int .u64 unique, .int .u64 by_, .int .i64 ten, .int .i64 dest] 0 (by omega) (by have := HB.out.size; have := HB1.out.size; simp; omega)
  try simp only [Exit.inBlock, Exit.then]
  refine bodyPost_ret (v := .agg #[.int .i64 num, .int .u8 kind, .int .u8 ckind, .int .i64 tenant, .slice ko keys.length kc, .string value, .int .u32 flags, .int .i64 life, .int .u64 unique, .int .u64 by_, .int .i64 ten, .int .i64 dest]) (by simp [results, Try.results69, go_sem, Z0, Z1, Z2, Z3, Z4, Z5, Z6, Z7, Z8, Z9, Z10, Z11]) rfl ⟨ko, kc, rfl, HOZ.out, HBZ.out⟩
end Go.Proofs.Ytpnmokmadbapoaa
