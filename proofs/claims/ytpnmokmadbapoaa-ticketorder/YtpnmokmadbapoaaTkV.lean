/-
  Package ticket: contract of Take, where it is not refused.
-/
import Derived.Test.YtpnmokmadbapoaaTkP
import Derived.Test.YtpnmokmadbapoaaTkU
namespace Go.Proofs.Ytpnmokmadbapoaa
open Go.RowKit
set_option linter.unusedSimpArgs false
set_option linter.unusedVariables false
set_option maxRecDepth 100000

/-- inboxes without a ticket that stood first with all its shards -/
def takeQ (q : List (List Tk)) (t : Tk) : List (List Tk) := (List.range q.length).map fun j => Tk.taken (bxs q) (t.nd q.length) j
theorem takeQ_len (q : List (List Tk)) (t : Tk) : (takeQ q t).length = q.length := by simp [takeQ]
theorem takeQ_bxs {q : List (List Tk)} {t : Tk} (j : Nat) (hj : j < q.length) : bxs (takeQ q t) j = Tk.taken (bxs q) (t.nd q.length) j := by
  unfold takeQ
  rw [show bxs ((List.range q.length).map fun j => Tk.taken (bxs q) (t.nd q.length) j) j = Tk.taken (bxs q) (t.nd q.length) j from ?_]
  unfold bxs
  rw [List.getD_eq_getElem?_getD, List.getElem?_map, List.getElem?_range hj]
  rfl
theorem Qo.sets {base g b : Nat} {B : List Bx} (hb : b < base) (hne : b ≠ g) : ∀ (us : List Value) {w : World} (j : Nat), Qo w base g B → Qo (sets w b j us) base g B
  | [], _, _, h => h
  | u :: us, _, j, h => Qo.sets hb hne us (j + 1) (h.other b j u hb hne)
/-- the world within the taking -/
structure Tu (w : World) (next : Int) (tc : List Value) (n F1 g Lb N : Nat) (wx : World) (B' : List Bx) : Prop where
  below : Below w.heap.size w wx
  fb : GBx wx F1 tc
  rb : GBx wx (w.heap.size + 1) [.int .i64 0, .slice none 0 0]
  sb : GBx wx (w.heap.size + 2) [.int .i64 0, .int .u8 0, .int .u8 0, .int .i64 0, .slice none 0 0, .string ⟨#[]⟩, .int .u32 0, .int .i64 0, .int .u64 0, .int .u64 0, .int .i64 0, .int .i64 0]
  lb : GBx wx Lb [.int .i64 next, .slice (some ⟨g, 0, none⟩) n n]
  q : Qo wx N g B'
  g0 : N ≤ g
  f0 : w.heap.size + 3 ≤ F1
  fN : F1 < N
  l0 : N ≤ Lb
  ne : Lb ≠ g
  sepl : ∀ j (hj : j < B'.length), B'[j].v.ownBlock ≠ some Lb
  len : B'.length = n
section
variable {w wx wx' : World} {next : Int} {tc : List Value} {n F1 g Lb N : Nat} {B' : List Bx}
theorem Tu.on (h : Tu w next tc n F1 g Lb N wx B') (hb : Below wx.heap.size wx wx') : Tu w next tc n F1 g Lb N wx' B' :=
  ⟨h.below.trans (hb.mono (by have := h.rb.lt; omega)), h.fb.below hb, h.rb.below hb, h.sb.below hb, h.lb.below hb, h.q.below hb, h.g0, h.f0, h.fN, h.l0, h.ne, h.sepl, h.len⟩
theorem Tu.upd (h : Tu w next tc n F1 g Lb N wx B') {i : Nat} (hi : i < B'.length) {nb : Bx} (hgr : wx.grownBy wx' B'[i].v.ownBlock) (hlies : nb.v.ownBlock = B'[i].v.ownBlock) (hown : GOwn ET wx' N nb.v nb.l)
    (hk : ∀ d ∈ nb.l, d ∈ B'[i].l) : Tu w next tc n F1 g Lb N (wx'.setCell ⟨g, i, none⟩ nb.v) (B'.set i nb) := by
  have hr : ∀ k, B'[i].v.ownBlock = some k → N ≤ k := fun k hk' => ((h.q.box i hi).lt k hk').1
  have h1 := h.g0
  have h2 := h.l0
  have h3 := h.lb.lt
  have h6 := h.rb.lt
  have h7 := h.fN
  have h8 := h.f0
  have hne : ∀ b, b < N → B'[i].v.ownBlock ≠ some b := fun b hb e => by have := hr b e; omega
  have hb1 : Below w.heap.size w wx' := h.below.grown hgr (by omega) (fun k hk' => by have := hr k hk'; omega)
  have hlen : (B'.set i nb).length = B'.length := List.length_set
  refine ⟨hb1.setCell (by show w.heap.size ≤ g; omega) _, (h.fb.grown hgr (hne _ h7)).other _ _ (by omega), (h.rb.grown hgr (hne _ (by omega))).other _ _ (by omega), (h.sb.grown hgr (hne _ (by omega))).other _ _ (by omega), (h.lb.grown hgr (h.sepl i hi)).other _ _ (fun e => h.ne e.symm), h.q.upd hi hgr (fun k hk' => .inl (hlies ▸ hk')) hown (fun d hd => .inl (hk d hd)), h.g0, h.f0, h.fN, h.l0, h.ne, fun j hj => ?_, by rw [hlen]; exact h.len⟩
  rw [List.getElem_set]
  split
  · rw [hlies]; exact h.sepl i hi
  · exact h.sepl j (by rw [← hlen]; exact hj)
end

set_option maxHeartbeats 4000000 in
theorem take_ok (B : List Bx) (ao : Option Addr) (cap m : Nat) (hm : m = B.length) (next : Int) (hq : QOk (dat B) next) (i : Nat) (hi : i < B.length) (hrd : rdy (dat B) i = true) (w : World) (h : Qr w ao B cap) :
    Calls Try.prog 29 #[.agg #[.int .i64 next, .slice ao m cap], .int .i64 i] w fun e w' => ∃ g B' t l ko kc, e = .returned (.tuple #[.agg #[.int .i64 next, .slice (some ⟨g, 0, none⟩) B.length B.length], .agg (Tk.arr t (.slice ko t.c.keys.length kc)), .int .i64 0]) ∧ w.heap.size ≤ g ∧ Qo w' w.heap.size g B' ∧ GOwn ES w' w.heap.size (.slice ko t.c.keys.length kc) t.c.keys ∧ bxs (dat B) i = t :: l ∧ dat B' = takeQ (dat B) t ∧ Below w.heap.size w w' := by
  subst hm
  have hlen := h.row.len
  have hn0 : 1 ≤ B.length := by have := hq.n0; rw [dat_len] at this; exact this
  have hn1 : B.length ≤ 4 := by have := hq.n1; rw [dat_len] at this; exact this
  have H8 : Hid (∀ b ∈ B, b.l.length ≤ 256 ∧ ∀ d ∈ b.l, d.t.c.keys.length ≤ 8) := by
    intro b hb
    have h9 := hq.box (b.l.map Td.t) (List.mem_map.2 ⟨b, hb, rfl⟩)
    exact ⟨by have := h9.len; simpa using this, fun d hd => Tk.may_keys (h9.may d.t (List.mem_map.2 ⟨d, hd, rfl⟩))⟩
  obtain ⟨d, l0, hbl⟩ : ∃ d l0, B[i].l = d :: l0 := by
    cases e : B[i].l with
    | nil => rw [rdy_dat_nil hi e] at hrd; cases hrd
    | cons d l0 => exact ⟨d, l0, rfl⟩
  have HHD : Hid (hld (dat B) (fun _ => 0) d.t = d.t.needs (dat B).length) := by
    rw [rdy_dat_cons hi hbl, decide_eq_true_iff] at hrd
    rw [dat_len]; exact hrd
  have HFI : Hid (∀ r, r ∈ d.t.nd B.length → ∃ l', bxs (dat B) r = d.t :: l') := by
    intro r hr
    have hr' := Tk.nd_lt r hr
    obtain ⟨l', e⟩ := (hld_eq.1 HHD.out r (by rw [dat_len]; exact hr')).1 (by rw [dat_len]; exact hr)
    rw [lft_zero] at e
    exact ⟨l', e⟩
  have hmay : d.t.may = true := (hq.box (B[i].l.map Td.t) (List.mem_map.2 ⟨B[i], List.getElem_mem hi, rfl⟩)).may d.t (List.mem_map.2 ⟨d, by rw [hbl]; simp, rfl⟩)
  have HBI : Hid (bxs (dat B) i = d.t :: l0.map Td.t) := by show _ = _; rw [bxs_dat hi, hbl]; rfl
  obtain ⟨W, hW⟩ : ∃ W, W = ((w.alloc (.cells #[.int .i64 next, .slice ao B.length cap] 62)).alloc (.cells #[.int .i64 0, .slice none 0 0] 62)).alloc (.cells #[.int .i64 0, .int .u8 0, .int .u8 0, .int .i64 0, .slice none 0 0, .string ⟨#[]⟩, .int .u32 0, .int .i64 0, .int .u64 0, .int .u64 0, .int .i64 0, .int .i64 0] 68) := ⟨_, rfl⟩
  have HB : Hid (Below w.heap.size w W) := by rw [hW]; exact g_on (g_on (g_alloc _ _) (g_alloc _ _)) (g_alloc _ _)
  have HX : Hid (GBx W w.heap.size [.int .i64 next, .slice ao B.length cap]) := by rw [hW]; exact ((GBx.made w [.int .i64 next, .slice ao B.length cap] _).alloc _).alloc _
  have HY : Hid (GBx W (w.heap.size + 1) [.int .i64 0, .slice none 0 0]) := by
    rw [hW]
    have := GBx.made (w.alloc (.cells #[.int .i64 next, .slice ao B.length cap] 62)) [.int .i64 0, .slice none 0 0] 62
    rw [show (w.alloc (.cells #[.int .i64 next, .slice ao B.length cap] 62)).heap.size = w.heap.size + 1 by simp] at this
    exact this.alloc _
  have HZ : Hid (GBx W (w.heap.size + 2) [.int .i64 0, .int .u8 0, .int .u8 0, .int .i64 0, .slice none 0 0, .string ⟨#[]⟩, .int .u32 0, .int .i64 0, .int .u64 0, .int .u64 0, .int .i64 0, .int .i64 0]) := by
    rw [hW]
    have := GBx.made ((w.alloc (.cells #[.int .i64 next, .slice ao B.length cap] 62)).alloc (.cells #[.int .i64 0, .slice none 0 0] 62)) [.int .i64 0, .int .u8 0, .int .u8 0, .int .i64 0, .slice none 0 0, .string ⟨#[]⟩, .int .u32 0, .int .i64 0, .int .u64 0, .int .u64 0, .int .i64 0, .int .i64 0] 68
    rw [show ((w.alloc (.cells #[.int .i64 next, .slice ao B.length cap] 62)).alloc (.cells #[.int .i64 0, .slice none 0 0] 62)).heap.size = w.heap.size + 2 by simp] at this
    exact this
  have HWS : Hid (W.heap.size = w.heap.size + 3) := by show _ = _; rw [hW]; simp
  have HR := Hid.mk2 (fun V (hV : Below w.heap.size w V) => h.below hV)
  have HCK := Hid.mk2 (tcheck_any B ao cap _ rfl next W (h.below HB.out))
  rw [ckQ_ok hq] at HCK
  have HIR := Hid.mk2 (fun V (hV : Below w.heap.size w V) => isReady_any B ao cap _ rfl hn0 hn1 next (fun l hl => (hq.box l hl).may) i hi V (h.below hV))
  rw [hrd] at HIR
  have HND := Hid.mk2 (fun ko kc V hk => needs12_any d.t B.length hn0 hn1 hmay ko kc _ rfl V hk)
  have HCP := Hid.mk2 (fun V (hV : Below w.heap.size w V) => copied_any B ao cap _ rfl hn0 hn1 next H8.out V (h.below hV))
  have HKD := Hid.mk2 (h.keys B[i] (List.getElem_mem hi) d (by rw [hbl]; simp))
  have HK8 : Hid (d.t.c.keys.length ≤ 8) := Tk.may_keys hmay
  have HLN : Hid ((d.t.nd B.length).Nodup) := nd_nodup d.t _
  have HLB : Hid (∀ j ∈ d.t.nd B.length, j < B.length) := fun j hj => Tk.nd_lt j hj
  have HNL : Hid (d.t.needs B.length = (d.t.nd B.length).map fun (i : Nat) => (i : Int)) := rfl
  have HPQ : Hid (∀ B' : List Bx, B'.length = B.length → (∀ j, j < B.length → bxs (dat B') j = Tk.taken (bxs (dat B)) (d.t.nd B.length) j) → dat B' = takeQ (dat B) d.t) := by
    intro B' hl hj
    refine dat_of_bxs (by rw [takeQ_len, dat_len, dat_len]; exact hl) fun j => ?_
    by_cases h9 : j < B.length
    · rw [hj j h9, takeQ_bxs j (by rw [dat_len]; exact h9), dat_len]
    · rw [bxs_none (by rw [dat_len]; omega), bxs_none (by rw [takeQ_len, dat_len]; omega)]
  obtain ⟨L, hL⟩ : ∃ L, L = d.t.nd B.length := ⟨_, rfl⟩
  rw [← hL] at HLN HLB HNL HFI HPQ
  rw [HNL.out] at HND
  have hne : B ≠ [] := by intro e; rw [e] at hi; simp at hi
  obtain ⟨b, off, rfl, hbb, hcs⟩ := h.row.bx hne
  have rb0 := hcs i hi
  have HBOX := Hid.mk2 (h.box B[i] (List.getElem_mem hi))
  rw [hbl] at rb0 HBOX
  obtain ⟨b1, off1, eb1, hbl1, hc1⟩ := HBOX.out.tks (by simp)
  obtain ⟨r0, r1, r2, r3, r4, r5, r6, r7, r8, r9, r10, r11⟩ := hc1 0 (by simp)
  simp only [List.getElem_cons_zero, Nat.zero_mul, Nat.add_zero] at r0 r1 r2 r3 r4 r5 r6 r7 r8 r9 r10 r11
  rw [eb1] at rb0
  obtain ⟨M, hM⟩ : ∃ M, M = (d :: l0).length := ⟨_, rfl⟩
  have hM1 : 0 < M := by rw [hM]; simp
  have hM2 : (0 : Int) < (M : Int) := by omega
  rw [← hM] at rb0
  obtain ⟨bcap, hbcap⟩ : ∃ c, c = B[i].cap := ⟨_, rfl⟩
  rw [← hbcap] at rb0
  have hi2 : (i : Int) < (B.length : Int) := by omega
  have hi3 : ¬ ((i : Int) < 0) := by omega
  clear hcs hne hc1 hM hbcap h hq hrd hmay hbl HBOX eb1 HHD hL
  obtain ⟨t, so, sc⟩ := d
  dsimp only at *
  obtain ⟨tt, htt⟩ : ∃ tt, tt = t := ⟨_, rfl⟩
  have HTT := Hid.mk2 htt
  rw [← htt] at HBI HPQ HFI HND HKD
  clear htt
  obtain ⟨num, kind, ⟨ckind, tenant, keys, value, flags, life, unique, by_⟩, ten, dest⟩ := t
  dsimp only at *
  have hlt := HX.out.lt
  have x0 := HX.out.c 0 (by simp)
  have x1 := HX.out.c 1 (by simp)
  simp only [List.getElem_cons_zero, List.getElem_cons_succ] at x0 x1
  go_enter Try.func29, Try.ntmps29
  go_upto_region 1 with (fail)
  rw [← hW]
  clear hW
  go_upto_region 4 with (go_at_call 43; refine HCK.out.mono ?_; rintro e w1 ⟨rfl, hb1⟩; have HB1 := Hid.mk2 hb1; clear hb1)
  have HX1 := Hid.mk2 (HX.out.below HB1.out)
  have HW1 : Hid (Below w.heap.size w w1) := g_on HB.out HB1.out
  clear x0 x1 HCK
  have x0 := HX1.out.c 0 (by simp)
  have x1 := HX1.out.c 1 (by simp)
  simp only [List.getElem_cons_zero, List.getElem_cons_succ] at x0 x1
  have xlt := HX1.out.lt
  have HIR1 := Hid.mk2 (HIR.out w1 HW1.out)
  go_upto_region 8 with (go_at_call 70; refine HIR1.out.mono ?_; rintro e w2 ⟨rfl, hb2⟩; have HB2 := Hid.mk2 hb2; clear hb2)
  have HW2 : Hid (Below w.heap.size w w2) := g_on HW1.out HB2.out
  have HX2 := Hid.mk2 (HX1.out.below HB2.out)
  clear x0 x1 xlt HIR HIR1 HX1
  have x0 := HX2.out.c 0 (by simp)
  have x1 := HX2.out.c 1 (by simp)
  simp only [List.getElem_cons_zero, List.getElem_cons_succ] at x0 x1
  have xlt := HX2.out.lt
  have rb2 := (HW2.out.cell (p := ⟨b, off + i, none⟩) hbb).trans rb0
  have s0 := (HW2.out.cell (p := ⟨b1, off1, none⟩) hbl1).trans r0
  have s1 := (HW2.out.cell (p := ⟨b1, off1 + 1, none⟩) hbl1).trans r1
  have s2 := (HW2.out.cell (p := ⟨b1, off1 + 2, none⟩) hbl1).trans r2
  have s3 := (HW2.out.cell (p := ⟨b1, off1 + 3, none⟩) hbl1).trans r3
  have s4 := (HW2.out.cell (p := ⟨b1, off1 + 4, none⟩) hbl1).trans r4
  have s5 := (HW2.out.cell (p := ⟨b1, off1 + 5, none⟩) hbl1).trans r5
  have s6 := (HW2.out.cell (p := ⟨b1, off1 + 6, none⟩) hbl1).trans r6
  have s7 := (HW2.out.cell (p := ⟨b1, off1 + 7, none⟩) hbl1).trans r7
  have s8 := (HW2.out.cell (p := ⟨b1, off1 + 8, none⟩) hbl1).trans r8
  have s9 := (HW2.out.cell (p := ⟨b1, off1 + 9, none⟩) hbl1).trans r9
  have s10 := (HW2.out.cell (p := ⟨b1, off1 + 10, none⟩) hbl1).trans r10
  have s11 := (HW2.out.cell (p := ⟨b1, off1 + 11, none⟩) hbl1).trans r11
  have hbb2 := Nat.lt_of_lt_of_le hbb HW2.out.size
  have hbl2 := Nat.lt_of_lt_of_le hbl1 HW2.out.size
  have HCT := Hid.mk2 (copiedTicket_any ⟨num, kind, ⟨ckind, tenant, keys, value, flags, life, unique, by_⟩, ten, dest⟩ so sc keys.length rfl (Nat.le_trans HK8.out (by omega)) w2 (by have h9 := HKD.out; rw [HTT.out] at h9; exact h9.below HW2.out))
  unfold Tk.arr at HCT
  dsimp only at HCT
  go_upto_region 9 with (go_at_call 69; refine HCT.out.mono ?_; rintro e w3 ⟨ko, kc, rfl, hO3, hb3⟩; have HO3 := Hid.mk2 hO3; have HB3 := Hid.mk2 hb3; clear hO3 hb3)
  obtain ⟨wF, hwF⟩ : ∃ wF, wF = w3.alloc (.cells #[.int .i64 num, .int .u8 kind, .int .u8 ckind, .int .i64 tenant, .slice ko keys.length kc, .string value, .int .u32 flags, .int .i64 life, .int .u64 unique, .int .u64 by_, .int .i64 ten, .int .i64 dest] 68) := ⟨_, rfl⟩
  have HBF : Hid (Below w3.heap.size w3 wF) := by rw [hwF]; exact g_alloc _ _
  have HFF : Hid (GBx wF w3.heap.size [.int .i64 num, .int .u8 kind, .int .u8 ckind, .int .i64 tenant, .slice ko keys.length kc, .string value, .int .u32 flags, .int .i64 life, .int .u64 unique, .int .u64 by_, .int .i64 ten, .int .i64 dest]) := by rw [hwF]; exact GBx.made w3 [.int .i64 num, .int .u8 kind, .int .u8 ckind, .int .i64 tenant, .slice ko keys.length kc, .string value, .int .u32 flags, .int .i64 life, .int .u64 unique, .int .u64 by_, .int .i64 ten, .int .i64 dest] _
  have HSF : Hid (wF.heap.size = w3.heap.size + 1) := by show _ = _; rw [hwF]; simp
  rw [← hwF]
  have HWF : Hid (Below w.heap.size w wF) := g_on HW2.out (g_on HB3.out HBF.out)
  have HXF := Hid.mk2 ((HX2.out.below HB3.out).below HBF.out)
  have HKF3 : Hid (GOwn ES wF (w.heap.size + 3) (.slice ko keys.length kc) keys) := (HO3.out.down (by have := HB1.out.size; have := HB2.out.size; have := HWS.out; omega)).below HBF.out
  have HKF : Hid (GOwn ES wF w.heap.size (.slice ko keys.length kc) keys) := (HO3.out.down (by have := HW2.out.size; omega)).below HBF.out
  have HYF : Hid (GBx wF (w.heap.size + 1) [.int .i64 0, .slice none 0 0]) := HY.out.below (g_on HB1.out (g_on HB2.out (g_on HB3.out HBF.out)))
  have HZF : Hid (GBx wF (w.heap.size + 2) [.int .i64 0, .int .u8 0, .int .u8 0, .int .i64 0, .slice none 0 0, .string ⟨#[]⟩, .int .u32 0, .int .i64 0, .int .u64 0, .int .u64 0, .int .i64 0, .int .i64 0]) := HZ.out.below (g_on HB1.out (g_on HB2.out (g_on HB3.out HBF.out)))
  have HF3 : Hid (w.heap.size + 3 ≤ w3.heap.size) := by have := HB1.out.size; have := HB2.out.size; have := HB3.out.size; have := HWS.out; show _ ≤ _; omega
  have HCPF := Hid.mk2 (HCP.out wF HWF.out)
  clear hwF x0 x1 xlt rb2 s0 s1 s2 s3 s4 s5 s6 s7 s8 s9 s10 s11 hbb2 hbl2 HCT HCP HX2 HO3 rb0 r0 r1 r2 r3 r4 r5 r6 r7 r8 r9 r10 r11
  have x0 := HXF.out.c 0 (by simp)
  have x1 := HXF.out.c 1 (by simp)
  simp only [List.getElem_cons_zero, List.getElem_cons_succ] at x0 x1
  have xlt := HXF.out.lt
  go_upto_region 10 with (go_at_call 68; refine HCPF.out.mono ?_; rintro e w5 ⟨g, B1, rfl, hg5, hq5, hd5, hb5⟩; have HG5 := Hid.mk2 hg5; have HQ5 := Hid.mk2 hq5; have HD5 := Hid.mk2 hd5; have HB5 := Hid.mk2 hb5; clear hg5 hq5 hd5 hb5)
  obtain ⟨w6, hw6⟩ : ∃ w6, w6 = w5.alloc (.cells #[.int .i64 next, .slice (some ⟨g, 0, none⟩) B.length B.length] 62) := ⟨_, rfl⟩
  have HB6 : Hid (Below w5.heap.size w5 w6) := by rw [hw6]; exact g_alloc _ _
  have HLEN : Hid (B1.length = B.length) := by have h9 := congrArg List.length HD5.out; rw [dat_len, dat_len] at h9; exact h9
  have HP0 : Hid (Tu w next [.int .i64 num, .int .u8 kind, .int .u8 ckind, .int .i64 tenant, .slice ko keys.length kc, .string value, .int .u32 flags, .int .i64 life, .int .u64 unique, .int .u64 by_, .int .i64 ten, .int .i64 dest] B.length w3.heap.size g w5.heap.size wF.heap.size w6 B1) := by
    have z5 := HB5.out.size
    have hgl := HQ5.out.row.lt
    have g5 := HG5.out
    have zf := HSF.out
    refine ⟨HWF.out.trans ((g_on HB5.out HB6.out).mono (by have := HWF.out.size; omega)), (HFF.out.below HB5.out).below HB6.out, (HYF.out.below HB5.out).below HB6.out, (HZF.out.below HB5.out).below HB6.out, ?_, HQ5.out.below HB6.out, HG5.out, HF3.out, by omega, by omega, by omega, fun j hj e => ?_, HLEN.out⟩
    · rw [hw6]; exact GBx.made w5 [.int .i64 next, .slice (some ⟨g, 0, none⟩) B.length B.length] _
    · have := ((HQ5.out.box j hj).lt _ e).2; omega
  have HK6 : Hid (GOwn ES w6 w.heap.size (.slice ko keys.length kc) keys) := (HKF.out.below HB5.out).below HB6.out
  have HKK : Hid (∀ x, (Value.slice ko keys.length kc).ownBlock = some x → x < wF.heap.size) := fun x hx => (HKF.out.lt x hx).2
  have HKX : Hid (∀ x, (Value.slice ko keys.length kc).ownBlock = some x → ¬ (w.heap.size + 1 = x ∨ w.heap.size + 2 = x)) := fun x hx => by have h9 := (HKF3.out.lt x hx).1; omega
  have HD0 : Hid (∀ j, j < B.length → bxs (dat B1) j = Tk.taken (bxs (dat B)) (L.take 0) j) := by intro j _; rw [HD5.out]; simp [Tk.taken]
  have HX6 := Hid.mk2 ((HXF.out.below HB5.out).below HB6.out)
  rw [← hw6]
  clear hw6 x0 x1 xlt HCPF HXF HYF HZF HKF HQ5 HD5
  obtain ⟨N, hN⟩ : ∃ N, N = wF.heap.size := ⟨_, rfl⟩
  obtain ⟨Lb, hLb⟩ : ∃ Lb, Lb = w5.heap.size := ⟨_, rfl⟩
  obtain ⟨F1, hF1⟩ : ∃ F1, F1 = w3.heap.size := ⟨_, rfl⟩
  rw [← hN, ← hLb, ← hF1] at HP0
  rw [← hN] at HKK
  rw [← hLb, ← hF1]
  clear hN hLb hF1
  have y0 := HP0.out.fb.c 0 (by simp)
  have y1 := HP0.out.fb.c 1 (by simp)
  have y2 := HP0.out.fb.c 2 (by simp)
  have y3 := HP0.out.fb.c 3 (by simp)
  have y4 := HP0.out.fb.c 4 (by simp)
  have y5 := HP0.out.fb.c 5 (by simp)
  have y6 := HP0.out.fb.c 6 (by simp)
  have y7 := HP0.out.fb.c 7 (by simp)
  have y8 := HP0.out.fb.c 8 (by simp)
  have y9 := HP0.out.fb.c 9 (by simp)
  have y10 := HP0.out.fb.c 10 (by simp)
  have y11 := HP0.out.fb.c 11 (by simp)
  simp only [List.getElem_cons_zero, List.getElem_cons_succ] at y0 y1 y2 y3 y4 y5 y6 y7 y8 y9 y10 y11
  have ylt := HP0.out.fb.lt
  have x0 := HX6.out.c 0 (by simp)
  have x1 := HX6.out.c 1 (by simp)
  simp only [List.getElem_cons_zero, List.getElem_cons_succ] at x0 x1
  have xlt := HX6.out.lt
  have HND6 := Hid.mk2 (HND.out ko kc w6 (by rw [HTT.out]; exact GOwn.rdOf okS HK6.out))
  rw [HTT.out] at HND6
  unfold Tk.arr at HND6
  dsimp only at HND6
  go_wp2_with (go_at_call 66; refine HND6.out.mono ?_; rintro e w7 ⟨v8, rfl, hO7, hb7⟩; obtain ⟨a8, c8, hv8, hR8⟩ := hO7.rd okI; have hv9 : v8 = .slice a8 L.length c8 := (by rw [hv8]; simp); subst hv9; have HO7 := Hid.mk2 hO7; have HR8 := Hid.mk2 hR8; have HB7 := Hid.mk2 hb7; clear hO7 hb7 hR8 hv8)
  have hLL : L.length ≤ 9223372036854775807 := by have h9 := HR8.out.len; simpa using h9
  have HP7 := Hid.mk2 (HP0.out.on HB7.out)
  have HK7 := Hid.mk2 (HK6.out.below HB7.out)
  have HSS : Hid (∀ x, (Value.slice a8 L.length c8).ownBlock = some x → x ≠ g ∧ (∀ j (hj : j < B1.length), B1[j].v.ownBlock ≠ some x)) := by
    intro x hx
    have h1 := (HO7.out.lt x hx).1
    exact ⟨fun e => by have := HP0.out.q.row.lt; omega, fun j hj e => by have := ((HP0.out.q.box j hj).lt x e).2; omega⟩
  clear y0 y1 y2 y3 y4 y5 y6 y7 y8 y9 y10 y11 ylt x0 x1 xlt HND HND6 HX6
  go_loopw [11, 52] (fun _ i wr => ∃ (k : Nat) (B' : List Bx), k ≤ L.length ∧ i = .int .i64 k ∧ Hid (Tu w next [.int .i64 num, .int .u8 kind, .int .u8 ckind, .int .i64 tenant, .slice ko keys.length kc, .string value, .int .u32 flags, .int .i64 life, .int .u64 unique, .int .u64 by_, .int .i64 ten, .int .i64 dest] B.length F1 g Lb N wr B') ∧ Hid (GOwn EI wr w6.heap.size (.slice a8 L.length c8) (L.map fun (i : Nat) => (i : Int)) ∧ ∀ x, (Value.slice a8 L.length c8).ownBlock = some x → x ≠ g ∧ (∀ j (hj : j < B'.length), B'[j].v.ownBlock ≠ some x)) ∧ Hid (GOwn ES wr w.heap.size (.slice ko keys.length kc) keys) ∧ Hid (∀ j, j < B.length → bxs (dat B') j = Tk.taken (bxs (dat B)) (L.take k) j)) (fun _ i _ => L.length - (intOf i).toNat)
  case atStart => exact ⟨0, _, Nat.zero_le _, rfl, HP7, ⟨HO7.out, HSS.out⟩, HK7, HD0⟩
  case round =>
    obtain ⟨k, B2, hkn, rfl, HPU, HSU, HKU, HDU⟩ := hrel
    by_cases hkl : k < L.length
    · have hkl2 : (k : Int) < (L.length : Int) := by omega
      have hjB := HLB.out L[k] (List.getElem_mem hkl)
      have hneL : L.map (fun (i : Nat) => (i : Int)) ≠ [] := by intro e; have := congrArg List.length e; simp at this; rw [this] at hkl; simp at hkl
      have HSR := Hid.mk2 (GOwn.rdOf okI HSU.out.1)
      obtain ⟨b8, o8, ea8, hb8, hc8⟩ := HSR.out.int hneL
      have ra := hc8 k (by simpa using hkl)
      rw [List.getElem_map] at ra
      have HNK : Hid (L[k] ∉ L.take k) := by
        intro hm
        rw [List.mem_take_iff_getElem] at hm
        obtain ⟨j, hj, e⟩ := hm
        exact List.pairwise_iff_getElem.1 (List.nodup_iff_pairwise_ne.1 HLN.out) j k (by omega) hkl (by omega) e
      have HTS := Hid.mk2 (take_step L k hkl)
      obtain ⟨lf, hlf⟩ := HFI.out L[k] (List.getElem_mem hkl)
      have HLF := Hid.mk2 hlf
      clear hlf
      obtain ⟨j, hje⟩ : ∃ j, j = L[k] := ⟨_, rfl⟩
      rw [← hje] at ra hjB HNK HTS HLF
      have hj2 : j < B2.length := by rw [HPU.out.len]; exact hjB
      have hjB2 : (j : Int) < (B.length : Int) := by omega
      have HJD : Hid (B2[j].l.map Td.t = tt :: lf) := by
        have h9 := HDU.out j hjB
        unfold Tk.taken at h9
        rw [if_neg HNK.out, HLF.out, bxs_dat hj2] at h9
        exact h9
      obtain ⟨d2, l2, hbl2⟩ : ∃ d2 l2, B2[j].l = d2 :: l2 := by
        cases e : B2[j].l with
        | nil => have h9 := HJD.out; rw [e] at h9; cases h9
        | cons a b => exact ⟨a, b, rfl⟩
      have HL2 : Hid (l2.map Td.t = lf) := by have h9 := HJD.out; rw [hbl2] at h9; exact (List.cons.inj h9).2
      have HBL2 := Hid.mk2 hbl2
      have hown := HPU.out.q.box j hj2
      rw [hbl2] at hown
      obtain ⟨bg, cp, hvk⟩ : ∃ bg cp, B2[j].v = .slice (some ⟨bg, 0, none⟩) (l2.length + 1) cp := by
        rcases hown.parts okT with ⟨_, e⟩ | ⟨bg, cp, cur, e, _⟩
        · cases e
        · exact ⟨bg, cp, e⟩
      have HVK := Hid.mk2 hvk
      rw [hvk] at hown
      have HOV := Hid.mk2 hown
      have hbgN : N ≤ bg := (hown.lt bg rfl).1
      have hbgL : bg ≠ Lb := by intro e; have := HPU.out.sepl j hj2; rw [hvk, e] at this; exact this rfl
      have hbgg : bg ≠ g := by intro e; have := HPU.out.q.sepg j hj2; rw [hvk, e] at this; exact this rfl
      have g0 := HPU.out.g0
      have hneg := HPU.out.ne
      have rw_ := HPU.out.q.row.c j (by simpa using hj2)
      have rlt := HPU.out.q.row.lt
      have llt := HPU.out.lb.lt
      have e1 := HPU.out.lb.c 1 (by simp)
      simp only [List.getElem_cons_zero, List.getElem_cons_succ, List.getElem_map] at e1 rw_
      rw [hvk] at rw_
      obtain ⟨m2, hm2⟩ : ∃ m2, m2 = l2.length + 1 := ⟨_, rfl⟩
      have HM2 := Hid.mk2 hm2
      rw [← hm2] at rw_
      have u2 : ∀ V, Rs wr Lb Lb V → V.cell? ⟨Lb, 1, none⟩ = _ := Rs.cellA e1
      have HR0 : Hid (Rs wr Lb Lb wr.drew) := Rs.of_below (Below.refl _ _).drew llt llt
      have HDL := Hid.mk2 (fun V (hV : Below wr.heap.size wr V) => delT_any V N bg cp m2 d2 l2 HM2.out (by rw [HM2.out]; exact HOV.out.below hV))
      subst ea8
      clear hje hvk hc8 hneL hb8 e1 hown hbl2 hm2
      go_upto_region 13 with (fail)
      refine wp_region_noPanic ?_
      refine wp_region_held_drew (S := fun V => Rs wr Lb Lb V) (by kernel_rfl) HR0.out (fun _ => ?_)
      refine wpAnyH_take (i := 0) (v := .pointer (some ⟨Lb, 1, none⟩)) rfl (by kernel_rfl) (by kernel_rfl) (by kernel_rfl) (fun _ _ _ h => h) (Or.inl ⟨by kernel_rfl, fun W hW => by go_simp⟩) HR0.out ?_
      try simp only [List.getElem_toArray, List.getElem_cons_zero, List.getElem_cons_succ, Act.put, List.setIfInBounds_toArray, List.set_cons_zero, List.set_cons_succ, List.append_eq, List.cons_append, List.nil_append]
      refine wpAnyH_take (i := 1) (v := .slice (some ⟨g, 0, none⟩) B.length B.length) rfl (by kernel_rfl) (by kernel_rfl) (by kernel_rfl) (fun _ _ _ h => h) (Or.inl ⟨by kernel_rfl, fun W hW => by have hq0 := u2 W hW; go_simp⟩) HR0.out ?_
      try simp only [List.getElem_toArray, List.getElem_cons_zero, List.getElem_cons_succ, Act.put, List.setIfInBounds_toArray, List.set_cons_zero, List.set_cons_succ, List.append_eq, List.cons_append, List.nil_append]
      refine wpAnyH_take (i := 2) (v := .int .i64 j) rfl (by kernel_rfl) (by kernel_rfl) (by kernel_rfl) (fun _ _ _ h => h) (Or.inl ⟨by kernel_rfl, fun W hW => by kernel_rfl⟩) HR0.out ?_
      try simp only [List.getElem_toArray, List.getElem_cons_zero, List.getElem_cons_succ, Act.put, List.setIfInBounds_toArray, List.set_cons_zero, List.set_cons_succ, List.append_eq, List.cons_append, List.nil_append]
      refine wpAnyH_take (i := 3) (v := .pointer (some ⟨Lb, 1, none⟩)) rfl (by kernel_rfl) (by kernel_rfl) (by kernel_rfl) (fun _ _ _ h => h) (Or.inl ⟨by kernel_rfl, fun W hW => by go_simp⟩) HR0.out ?_
      try simp only [List.getElem_toArray, List.getElem_cons_zero, List.getElem_cons_succ, Act.put, List.setIfInBounds_toArray, List.set_cons_zero, List.set_cons_succ, List.append_eq, List.cons_append, List.nil_append]
      refine wpAnyH_take (i := 4) (v := .slice (some ⟨g, 0, none⟩) B.length B.length) rfl (by kernel_rfl) (by kernel_rfl) (by kernel_rfl) (fun _ _ _ h => h) (Or.inl ⟨by kernel_rfl, fun W hW => by have hq0 := u2 W hW; go_simp⟩) HR0.out ?_
      try simp only [List.getElem_toArray, List.getElem_cons_zero, List.getElem_cons_succ, Act.put, List.setIfInBounds_toArray, List.set_cons_zero, List.set_cons_succ, List.append_eq, List.cons_append, List.nil_append]
      refine wpAnyH_take (i := 5) (v := .int .i64 j) rfl (by kernel_rfl) (by kernel_rfl) (by kernel_rfl) (fun _ _ _ h => h) (Or.inl ⟨by kernel_rfl, fun W hW => by kernel_rfl⟩) HR0.out ?_
      try simp only [List.getElem_toArray, List.getElem_cons_zero, List.getElem_cons_succ, Act.put, List.setIfInBounds_toArray, List.set_cons_zero, List.set_cons_succ, List.append_eq, List.cons_append, List.nil_append]
      refine wpAnyH_take (i := 6) (v := .pointer (some ⟨g, j, none⟩)) rfl (by kernel_rfl) (by kernel_rfl) (by kernel_rfl) (fun _ _ _ h => h) (Or.inl ⟨by kernel_rfl, fun W hW => by go_simp⟩) HR0.out ?_
      try simp only [List.getElem_toArray, List.getElem_cons_zero, List.getElem_cons_succ, Act.put, List.setIfInBounds_toArray, List.set_cons_zero, List.set_cons_succ, List.append_eq, List.cons_append, List.nil_append]
      refine wpAnyH_ready (rs := [7]) (by kernel_rfl) (by simp) ?_
      refine AllReadyH.cons rfl (fun K hK => ?_) AllReadyH.nil
      try simp only [List.getElem_toArray, List.getElem_cons_zero, List.getElem_cons_succ]
      go_simp
      refine hK.out _ _ HR0.out (fun _ => ?_)
      clear hK K
      try simp only [List.getElem_toArray, List.getElem_cons_zero, List.getElem_cons_succ, Act.put, List.setIfInBounds_toArray, List.set_cons_zero, List.set_cons_succ, List.append_eq, List.cons_append, List.nil_append]
      refine wpAnyH_ready (rs := [8]) (by kernel_rfl) (by simp) ?_
      refine AllReadyH.cons rfl (fun K hK => ?_) AllReadyH.nil
      try simp only [List.getElem_toArray, List.getElem_cons_zero, List.getElem_cons_succ]
      go_simp
      go_at_call 71
      refine (HDL.out _ (by first | exact (Below.refl _ _).drew | exact Below.refl _ _)).mono ?_
      rintro e w4 ⟨rfl, hO4, hg4⟩
      have HG4 : Hid (wr.grownBy w4 (some bg)) := (g_grown (Below.refl wr.heap.size wr).drew (some bg)).trans hg4
      have HO4 := Hid.mk2 hO4
      have HR4 : Hid (Rs wr Lb Lb w4) := HR0.out.grown hg4 llt llt (by intro e; exact hbgL (Option.some.inj e)) (by intro e; exact hbgL (Option.some.inj e))
      have HRW4 := Hid.mk2 (HPU.out.q.row.grown HG4.out (by intro e; exact hbgg (Option.some.inj e)))
      have rw7 := HRW4.out.c j (by simpa using hj2)
      have rf7 := HRW4.out.f j
      simp only [List.getElem_map] at rw7
      clear hO4 hg4
      refine hK.out _ _ HR4.out (fun _ => ?_)
      clear hK K
      try simp only [List.getElem_toArray, List.getElem_cons_zero, List.getElem_cons_succ, Act.put, List.setIfInBounds_toArray, List.set_cons_zero, List.set_cons_succ, List.append_eq, List.cons_append, List.nil_append]
      refine wpAnyH_ready (rs := [9]) (by kernel_rfl) (by simp) ?_
      refine AllReadyH.cons rfl (fun K hK => ?_) AllReadyH.nil
      try simp only [List.getElem_toArray, List.getElem_cons_zero, List.getElem_cons_succ]
      go_simp
      refine hK.out _ _ HR4.out (fun _ => ?_)
      clear hK K
      try simp only [List.getElem_toArray, List.getElem_cons_zero, List.getElem_cons_succ, Act.put, List.setIfInBounds_toArray, List.set_cons_zero, List.set_cons_succ, List.append_eq, List.cons_append, List.nil_append]
      refine wpAnyH_ready (rs := [10]) (by kernel_rfl) (by simp) ?_
      refine AllReadyH.cons rfl (fun K hK => ?_) AllReadyH.nil
      try simp only [List.getElem_toArray, List.getElem_cons_zero, List.getElem_cons_succ]
      go_simp
      refine hK.out _ _ (HR4.out.set _ _ hneg hneg) (fun _ => ?_)
      clear hK K
      try simp only [List.getElem_toArray, List.getElem_cons_zero, List.getElem_cons_succ, Act.put, List.setIfInBounds_toArray, List.set_cons_zero, List.set_cons_succ, List.append_eq, List.cons_append, List.nil_append]
      refine wpAnyH_done (by kernel_rfl) ?_ _
      refine NoPanic.normal ?_
      have HCU := Hid.mk2 (HPU.out.upd (i := j) hj2 (nb := ⟨l2, some ⟨bg, 0, none⟩, cp⟩) (by rw [HVK.out]; exact HG4.out) (by rw [HVK.out]; rfl) HO4.out (by intro x hx; rw [HBL2.out]; exact List.mem_cons_of_mem _ hx))
      have HSU2 : Hid (GOwn EI (w4.setCell ⟨g, j, none⟩ (.slice (some ⟨bg, 0, none⟩) l2.length cp)) w6.heap.size (.slice (some ⟨b8, o8, none⟩) L.length c8) (L.map fun (i : Nat) => (i : Int)) ∧ ∀ x, (Value.slice (some ⟨b8, o8, none⟩) L.length c8).ownBlock = some x → x ≠ g ∧ (∀ i (hi : i < (B2.set j ⟨l2, some ⟨bg, 0, none⟩, cp⟩).length), (B2.set j ⟨l2, some ⟨bg, 0, none⟩, cp⟩)[i].v.ownBlock ≠ some x)) := by
        refine ⟨(HSU.out.1.grown HG4.out (by intro x hx e; have h1 := (HSU.out.2 x hx).2 j hj2; rw [HVK.out] at h1; exact h1 e)).grown (g_set _ _ _) (by intro x hx e; cases e; exact (HSU.out.2 _ hx).1 rfl), fun x hx => ⟨(HSU.out.2 x hx).1, fun i hi => ?_⟩⟩
        rw [List.getElem_set]
        split
        · have h1 := (HSU.out.2 x hx).2 j hj2
          rw [HVK.out] at h1
          exact h1
        · exact (HSU.out.2 x hx).2 i (by rw [← List.length_set (i := j) (a := (⟨l2, some ⟨bg, 0, none⟩, cp⟩ : Bx))]; exact hi)
      have HKU2 : Hid (GOwn ES (w4.setCell ⟨g, j, none⟩ (.slice (some ⟨bg, 0, none⟩) l2.length cp)) w.heap.size (.slice ko keys.length kc) keys) := (HKU.out.grown HG4.out (by intro x hx e; have h1 := HKK.out x hx; have h2 := Option.some.inj e; omega)).grown (g_set _ _ _) (by intro x hx e; cases e; have h1 : g < N := HKK.out _ hx; omega)
      have HDU2 : Hid (∀ i, i < B.length → bxs (dat (B2.set j ⟨l2, some ⟨bg, 0, none⟩, cp⟩)) i = Tk.taken (bxs (dat B)) (L.take (k + 1)) i) := by
        intro i hi
        rw [bxs_set hj2, HTS.out]
        by_cases ej : i = j
        · subst ej
          unfold Tk.taken
          rw [if_pos rfl, if_pos (by simp), HLF.out]
          exact HL2.out
        · rw [if_neg ej, HDU.out i hi]
          unfold Tk.taken
          simp [ej]
      clear u2 rw_ rw7 rf7 HDL ra
      go_wp2
      go_roundw
      case rel => exact ⟨k + 1, _, by omega, by go_num, HCU, HSU2, HKU2, HDU2⟩
      case measure => simp [intOf]; omega
    · have hkl2 : ¬ ((k : Int) < (L.length : Int)) := by omega
      have HDT := Hid.mk2 (HPQ.out B2 HPU.out.len (by have h9 := HDU.out; rw [List.take_of_length_le (by omega)] at h9; exact h9))
      have e0 := HPU.out.lb.c 0 (by simp)
      have e1 := HPU.out.lb.c 1 (by simp)
      have llt := HPU.out.lb.lt
      have flt := HPU.out.fb.lt
      have q0 := HPU.out.rb.c 0 (by simp)
      have q1 := HPU.out.rb.c 1 (by simp)
      have qf0 := HPU.out.rb.f 0
      have qf1 := HPU.out.rb.f 1
      have qlt := HPU.out.rb.lt
      have zlt := HPU.out.sb.lt
      have h1 := HPU.out.g0
      have h2 := HPU.out.fN
      have h3 := HPU.out.f0
      simp only [List.getElem_cons_zero, List.getElem_cons_succ] at e0 e1 q0 q1
      have y0 := HPU.out.fb.c 0 (by simp)
      have y1 := HPU.out.fb.c 1 (by simp)
      have y2 := HPU.out.fb.c 2 (by simp)
      have y3 := HPU.out.fb.c 3 (by simp)
      have y4 := HPU.out.fb.c 4 (by simp)
      have y5 := HPU.out.fb.c 5 (by simp)
      have y6 := HPU.out.fb.c 6 (by simp)
      have y7 := HPU.out.fb.c 7 (by simp)
      have y8 := HPU.out.fb.c 8 (by simp)
      have y9 := HPU.out.fb.c 9 (by simp)
      have y10 := HPU.out.fb.c 10 (by simp)
      have y11 := HPU.out.fb.c 11 (by simp)
      simp only [List.getElem_cons_zero, List.getElem_cons_succ] at y0 y1 y2 y3 y4 y5 y6 y7 y8 y9 y10 y11
      have z0 := HPU.out.sb.c 0 (by simp)
      have zf0 := HPU.out.sb.f 0
      have z1 := HPU.out.sb.c 1 (by simp)
      have zf1 := HPU.out.sb.f 1
      have z2 := HPU.out.sb.c 2 (by simp)
      have zf2 := HPU.out.sb.f 2
      have z3 := HPU.out.sb.c 3 (by simp)
      have zf3 := HPU.out.sb.f 3
      have z4 := HPU.out.sb.c 4 (by simp)
      have zf4 := HPU.out.sb.f 4
      have z5 := HPU.out.sb.c 5 (by simp)
      have zf5 := HPU.out.sb.f 5
      have z6 := HPU.out.sb.c 6 (by simp)
      have zf6 := HPU.out.sb.f 6
      have z7 := HPU.out.sb.c 7 (by simp)
      have zf7 := HPU.out.sb.f 7
      have z8 := HPU.out.sb.c 8 (by simp)
      have zf8 := HPU.out.sb.f 8
      have z9 := HPU.out.sb.c 9 (by simp)
      have zf9 := HPU.out.sb.f 9
      have z10 := HPU.out.sb.c 10 (by simp)
      have zf10 := HPU.out.sb.f 10
      have z11 := HPU.out.sb.c 11 (by simp)
      have zf11 := HPU.out.sb.f 11
      simp only [List.getElem_cons_zero, List.getElem_cons_succ] at z0 z1 z2 z3 z4 z5 z6 z7 z8 z9 z10 z11
      have HQ9 : Hid (GBx ((((((((((((((wr.setCell ⟨w.heap.size + 1, 0, none⟩ (.int .i64 next)).setCell ⟨w.heap.size + 1, 1, none⟩ (.slice (some ⟨g, 0, none⟩) B.length B.length)).setCell ⟨w.heap.size + 2, 0, none⟩ (.int .i64 num)).setCell ⟨w.heap.size + 2, 1, none⟩ (.int .u8 kind)).setCell ⟨w.heap.size + 2, 2, none⟩ (.int .u8 ckind)).setCell ⟨w.heap.size + 2, 3, none⟩ (.int .i64 tenant)).setCell ⟨w.heap.size + 2, 4, none⟩ (.slice ko keys.length kc)).setCell ⟨w.heap.size + 2, 5, none⟩ (.string value)).setCell ⟨w.heap.size + 2, 6, none⟩ (.int .u32 flags)).setCell ⟨w.heap.size + 2, 7, none⟩ (.int .i64 life)).setCell ⟨w.heap.size + 2, 8, none⟩ (.int .u64 unique)).setCell ⟨w.heap.size + 2, 9, none⟩ (.int .u64 by_)).setCell ⟨w.heap.size + 2, 10, none⟩ (.int .i64 ten)).setCell ⟨w.heap.size + 2, 11, none⟩ (.int .i64 dest)).drew (w.heap.size + 1) [.int .i64 next, .slice (some ⟨g, 0, none⟩) B.length B.length]) := ((GBx.sets [.int .i64 next, .slice (some ⟨g, 0, none⟩) B.length B.length] HPU.out.rb rfl).grown (sets_grown (b := w.heap.size + 2) [.int .i64 num, .int .u8 kind, .int .u8 ckind, .int .i64 tenant, .slice ko keys.length kc, .string value, .int .u32 flags, .int .i64 life, .int .u64 unique, .int .u64 by_, .int .i64 ten, .int .i64 dest] _ 0) (by intro e; have := Option.some.inj e; omega)).below (Below.refl _ _).drew
      have HS9 : Hid (GBx ((((((((((((((wr.setCell ⟨w.heap.size + 1, 0, none⟩ (.int .i64 next)).setCell ⟨w.heap.size + 1, 1, none⟩ (.slice (some ⟨g, 0, none⟩) B.length B.length)).setCell ⟨w.heap.size + 2, 0, none⟩ (.int .i64 num)).setCell ⟨w.heap.size + 2, 1, none⟩ (.int .u8 kind)).setCell ⟨w.heap.size + 2, 2, none⟩ (.int .u8 ckind)).setCell ⟨w.heap.size + 2, 3, none⟩ (.int .i64 tenant)).setCell ⟨w.heap.size + 2, 4, none⟩ (.slice ko keys.length kc)).setCell ⟨w.heap.size + 2, 5, none⟩ (.string value)).setCell ⟨w.heap.size + 2, 6, none⟩ (.int .u32 flags)).setCell ⟨w.heap.size + 2, 7, none⟩ (.int .i64 life)).setCell ⟨w.heap.size + 2, 8, none⟩ (.int .u64 unique)).setCell ⟨w.heap.size + 2, 9, none⟩ (.int .u64 by_)).setCell ⟨w.heap.size + 2, 10, none⟩ (.int .i64 ten)).setCell ⟨w.heap.size + 2, 11, none⟩ (.int .i64 dest)).drew (w.heap.size + 2) [.int .i64 num, .int .u8 kind, .int .u8 ckind, .int .i64 tenant, .slice ko keys.length kc, .string value, .int .u32 flags, .int .i64 life, .int .u64 unique, .int .u64 by_, .int .i64 ten, .int .i64 dest]) := (GBx.sets [.int .i64 num, .int .u8 kind, .int .u8 ckind, .int .i64 tenant, .slice ko keys.length kc, .string value, .int .u32 flags, .int .i64 life, .int .u64 unique, .int .u64 by_, .int .i64 ten, .int .i64 dest] (HPU.out.sb.grown (sets_grown (b := w.heap.size + 1) [.int .i64 next, .slice (some ⟨g, 0, none⟩) B.length B.length] _ 0) (by intro e; have := Option.some.inj e; omega)) rfl).below (Below.refl _ _).drew
      have HGA : Hid (wr.grownBy ((wr.setCell ⟨w.heap.size + 1, 0, none⟩ (.int .i64 next)).setCell ⟨w.heap.size + 1, 1, none⟩ (.slice (some ⟨g, 0, none⟩) B.length B.length)) (some (w.heap.size + 1))) := sets_grown (b := w.heap.size + 1) [.int .i64 next, .slice (some ⟨g, 0, none⟩) B.length B.length] wr 0
      have HGB : Hid (((wr.setCell ⟨w.heap.size + 1, 0, none⟩ (.int .i64 next)).setCell ⟨w.heap.size + 1, 1, none⟩ (.slice (some ⟨g, 0, none⟩) B.length B.length)).grownBy ((((((((((((((wr.setCell ⟨w.heap.size + 1, 0, none⟩ (.int .i64 next)).setCell ⟨w.heap.size + 1, 1, none⟩ (.slice (some ⟨g, 0, none⟩) B.length B.length)).setCell ⟨w.heap.size + 2, 0, none⟩ (.int .i64 num)).setCell ⟨w.heap.size + 2, 1, none⟩ (.int .u8 kind)).setCell ⟨w.heap.size + 2, 2, none⟩ (.int .u8 ckind)).setCell ⟨w.heap.size + 2, 3, none⟩ (.int .i64 tenant)).setCell ⟨w.heap.size + 2, 4, none⟩ (.slice ko keys.length kc)).setCell ⟨w.heap.size + 2, 5, none⟩ (.string value)).setCell ⟨w.heap.size + 2, 6, none⟩ (.int .u32 flags)).setCell ⟨w.heap.size + 2, 7, none⟩ (.int .i64 life)).setCell ⟨w.heap.size + 2, 8, none⟩ (.int .u64 unique)).setCell ⟨w.heap.size + 2, 9, none⟩ (.int .u64 by_)).setCell ⟨w.heap.size + 2, 10, none⟩ (.int .i64 ten)).setCell ⟨w.heap.size + 2, 11, none⟩ (.int .i64 dest)) (some (w.heap.size + 2))) := sets_grown (b := w.heap.size + 2) [.int .i64 num, .int .u8 kind, .int .u8 ckind, .int .i64 tenant, .slice ko keys.length kc, .string value, .int .u32 flags, .int .i64 life, .int .u64 unique, .int .u64 by_, .int .i64 ten, .int .i64 dest] _ 0
      have HBZ : Hid (Below w.heap.size w ((((((((((((((wr.setCell ⟨w.heap.size + 1, 0, none⟩ (.int .i64 next)).setCell ⟨w.heap.size + 1, 1, none⟩ (.slice (some ⟨g, 0, none⟩) B.length B.length)).setCell ⟨w.heap.size + 2, 0, none⟩ (.int .i64 num)).setCell ⟨w.heap.size + 2, 1, none⟩ (.int .u8 kind)).setCell ⟨w.heap.size + 2, 2, none⟩ (.int .u8 ckind)).setCell ⟨w.heap.size + 2, 3, none⟩ (.int .i64 tenant)).setCell ⟨w.heap.size + 2, 4, none⟩ (.slice ko keys.length kc)).setCell ⟨w.heap.size + 2, 5, none⟩ (.string value)).setCell ⟨w.heap.size + 2, 6, none⟩ (.int .u32 flags)).setCell ⟨w.heap.size + 2, 7, none⟩ (.int .i64 life)).setCell ⟨w.heap.size + 2, 8, none⟩ (.int .u64 unique)).setCell ⟨w.heap.size + 2, 9, none⟩ (.int .u64 by_)).setCell ⟨w.heap.size + 2, 10, none⟩ (.int .i64 ten)).setCell ⟨w.heap.size + 2, 11, none⟩ (.int .i64 dest)).drew) := ((HPU.out.below.grown HGA.out (by omega) (by intro x hx; cases hx; omega)).grown HGB.out (by have := HGA.out.size; omega) (by intro x hx; cases hx; omega)).drew
      have HQZ : Hid (Qo ((((((((((((((wr.setCell ⟨w.heap.size + 1, 0, none⟩ (.int .i64 next)).setCell ⟨w.heap.size + 1, 1, none⟩ (.slice (some ⟨g, 0, none⟩) B.length B.length)).setCell ⟨w.heap.size + 2, 0, none⟩ (.int .i64 num)).setCell ⟨w.heap.size + 2, 1, none⟩ (.int .u8 kind)).setCell ⟨w.heap.size + 2, 2, none⟩ (.int .u8 ckind)).setCell ⟨w.heap.size + 2, 3, none⟩ (.int .i64 tenant)).setCell ⟨w.heap.size + 2, 4, none⟩ (.slice ko keys.length kc)).setCell ⟨w.heap.size + 2, 5, none⟩ (.string value)).setCell ⟨w.heap.size + 2, 6, none⟩ (.int .u32 flags)).setCell ⟨w.heap.size + 2, 7, none⟩ (.int .i64 life)).setCell ⟨w.heap.size + 2, 8, none⟩ (.int .u64 unique)).setCell ⟨w.heap.size + 2, 9, none⟩ (.int .u64 by_)).setCell ⟨w.heap.size + 2, 10, none⟩ (.int .i64 ten)).setCell ⟨w.heap.size + 2, 11, none⟩ (.int .i64 dest)).drew w.heap.size g B2) := ((Qo.sets (b := w.heap.size + 2) (by omega) (by omega) [.int .i64 num, .int .u8 kind, .int .u8 ckind, .int .i64 tenant, .slice ko keys.length kc, .string value, .int .u32 flags, .int .i64 life, .int .u64 unique, .int .u64 by_, .int .i64 ten, .int .i64 dest] 0 (Qo.sets (b := w.heap.size + 1) (by omega) (by omega) [.int .i64 next, .slice (some ⟨g, 0, none⟩) B.length B.length] 0 HPU.out.q)).down (by omega)).below (Below.refl _ _).drew
      have HKZ : Hid (GOwn ES ((((((((((((((wr.setCell ⟨w.heap.size + 1, 0, none⟩ (.int .i64 next)).setCell ⟨w.heap.size + 1, 1, none⟩ (.slice (some ⟨g, 0, none⟩) B.length B.length)).setCell ⟨w.heap.size + 2, 0, none⟩ (.int .i64 num)).setCell ⟨w.heap.size + 2, 1, none⟩ (.int .u8 kind)).setCell ⟨w.heap.size + 2, 2, none⟩ (.int .u8 ckind)).setCell ⟨w.heap.size + 2, 3, none⟩ (.int .i64 tenant)).setCell ⟨w.heap.size + 2, 4, none⟩ (.slice ko keys.length kc)).setCell ⟨w.heap.size + 2, 5, none⟩ (.string value)).setCell ⟨w.heap.size + 2, 6, none⟩ (.int .u32 flags)).setCell ⟨w.heap.size + 2, 7, none⟩ (.int .i64 life)).setCell ⟨w.heap.size + 2, 8, none⟩ (.int .u64 unique)).setCell ⟨w.heap.size + 2, 9, none⟩ (.int .u64 by_)).setCell ⟨w.heap.size + 2, 10, none⟩ (.int .i64 ten)).setCell ⟨w.heap.size + 2, 11, none⟩ (.int .i64 dest)).drew w.heap.size (.slice ko keys.length kc) keys) := ((HKU.out.grown HGA.out (by intro x hx e; exact HKX.out x hx (.inl (Option.some.inj e)))).grown HGB.out (by intro x hx e; exact HKX.out x hx (.inr (Option.some.inj e)))).below (Below.refl _ _).drew
      have HGE : Hid (w.heap.size ≤ g) := by show _ ≤ _; omega
      have HTA : Hid (Value.agg (Tk.arr tt (.slice ko tt.c.keys.length kc)) = .agg #[.int .i64 num, .int .u8 kind, .int .u8 ckind, .int .i64 tenant, .slice ko keys.length kc, .string value, .int .u32 flags, .int .i64 life, .int .u64 unique, .int .u64 by_, .int .i64 ten, .int .i64 dest]) := by show _ = _; rw [HTT.out]; rfl
      have HKT : Hid (tt.c.keys = keys) := by show _ = _; rw [HTT.out]
      have QZ0 := HQ9.out.c 0 (by simp)
      have QZ1 := HQ9.out.c 1 (by simp)
      simp only [List.getElem_cons_zero, List.getElem_cons_succ] at QZ0 QZ1
      have Z0 := HS9.out.c 0 (by simp)
      have Z1 := HS9.out.c 1 (by simp)
      have Z2 := HS9.out.c 2 (by simp)
      have Z3 := HS9.out.c 3 (by simp)
      have Z4 := HS9.out.c 4 (by simp)
      have Z5 := HS9.out.c 5 (by simp)
      have Z6 := HS9.out.c 6 (by simp)
      have Z7 := HS9.out.c 7 (by simp)
      have Z8 := HS9.out.c 8 (by simp)
      have Z9 := HS9.out.c 9 (by simp)
      have Z10 := HS9.out.c 10 (by simp)
      have Z11 := HS9.out.c 11 (by simp)
      simp only [List.getElem_cons_zero, List.getElem_cons_succ] at Z0 Z1 Z2 Z3 Z4 Z5 Z6 Z7 Z8 Z9 Z10 Z11
      go_upto_region 15 with (fail)
      go_region
      go_wp2
      try simp only [Exit.inBlock, Exit.then]
      refine bodyPost_ret (v := .tuple #[.agg #[.int .i64 next, .slice (some ⟨g, 0, none⟩) B.length B.length], .agg #[.int .i64 num, .int .u8 kind, .int .u8 ckind, .int .i64 tenant, .slice ko keys.length kc, .string value, .int .u32 flags, .int .i64 life, .int .u64 unique, .int .u64 by_, .int .i64 ten, .int .i64 dest], .int .i64 0]) (by simp [results, Try.results29, go_sem, QZ0, QZ1, Z0, Z1, Z2, Z3, Z4, Z5, Z6, Z7, Z8, Z9, Z10, Z11]) rfl ?_
      refine ⟨g, B2, tt, l0.map Td.t, ko, kc, ?_, HGE.out, HQZ.out, ?_, HBI.out, HDT.out, HBZ.out⟩
      · rw [HTA.out]
      · rw [HKT.out]; exact HKZ.out
end Go.Proofs.Ytpnmokmadbapoaa
