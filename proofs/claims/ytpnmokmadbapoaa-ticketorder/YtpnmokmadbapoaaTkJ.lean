/-
  Package ticket: contract of allStandRight.
-/
import Derived.Test.YtpnmokmadbapoaaTkI
namespace Go.Proofs.Ytpnmokmadbapoaa
open Go.RowKit
set_option linter.unusedSimpArgs false
set_option linter.unusedVariables false
set_option maxRecDepth 100000

/-- places go on -/
def adv (P : Nat → Nat) (l : List Nat) (i : Nat) : Nat := if i ∈ l then P i + 1 else P i
theorem lft_adv {q : List (List Tk)} {P : Nat → Nat} {l : List Nat} (i : Nat) : lft q (adv P l) i = Tk.taken (lft q P) l i := by
  unfold lft adv Tk.taken
  by_cases h : i ∈ l
  · rw [if_pos h, if_pos h, List.tail_drop]
  · rw [if_neg h, if_neg h]
theorem step_adv {q : List (List Tk)} {P : Nat → Nat} {next : Int} (hb : ∀ l ∈ q, BxOk next l) {s : Nat} (hs : s < q.length) {t : Tk} {l : List Tk} (e : lft q P s = t :: l) (h : hld q P t = t.needs q.length) : FitQ (lft q P) q.length ↔ FitQ (lft q (adv P (t.nd q.length))) q.length :=
  (Tk.Fit.taken_iff (rise_lft hb) hs e (hld_eq.1 h) Tk.nd_lt).trans (Tk.Fit.congr fun i hi => (lft_adv i).symm)
theorem adv_step {P : Nat → Nat} {l : List Nat} (hn : l.Nodup) {k : Nat} (hk : k < l.length) (i : Nat) : adv P (l.take (k + 1)) i = if i = l[k] then adv P (l.take k) i + 1 else adv P (l.take k) i := by
  have h1 : l[k] ∉ l.take k := by
    intro hm
    rw [List.mem_take_iff_getElem] at hm
    obtain ⟨j, hj, e⟩ := hm
    exact List.pairwise_iff_getElem.1 (List.nodup_iff_pairwise_ne.1 hn) j k (by omega) hk (by omega) e
  unfold adv
  rw [take_step l k hk]
  by_cases e : i = l[k]
  · subst e
    rw [if_pos (List.mem_append.2 (.inr (by simp))), if_pos rfl, if_neg h1]
  · rw [if_neg e]
    by_cases hm : i ∈ l.take k
    · rw [if_pos (List.mem_append.2 (.inl hm)), if_pos hm]
    · rw [if_neg (fun x => (List.mem_append.1 x).elim hm (fun y => e (List.mem_singleton.1 y))), if_neg hm]
theorem plc_set {P P' : Nat → Nat} {j : Nat} (hj : j < 4) (h1 : P' j = P j + 1) (h2 : ∀ i, ¬ i = j → P' i = P i) : (plc P).set j (.int .i64 ((P j : Int) + 1)) = plc P' := by
  have : j = 0 ∨ j = 1 ∨ j = 2 ∨ j = 3 := by omega
  unfold plc
  rcases this with rfl | rfl | rfl | rfl
  · rw [h1, h2 1 (by omega), h2 2 (by omega), h2 3 (by omega)]; simp
  · rw [h1, h2 0 (by omega), h2 2 (by omega), h2 3 (by omega)]; simp
  · rw [h1, h2 0 (by omega), h2 1 (by omega), h2 3 (by omega)]; simp
  · rw [h1, h2 0 (by omega), h2 1 (by omega), h2 2 (by omega)]; simp
/-- how far the places are, read off the world -/
def pvs (w : World) (b : Nat) : Nat := (intOf ((w.cell? ⟨b, 0, none⟩).getD undef)).toNat + (intOf ((w.cell? ⟨b, 1, none⟩).getD undef)).toNat + (intOf ((w.cell? ⟨b, 2, none⟩).getD undef)).toNat + (intOf ((w.cell? ⟨b, 3, none⟩).getD undef)).toNat
theorem pvs_plc {w : World} {b : Nat} {P : Nat → Nat} (h : GBx w b (plc P)) : pvs w b = P 0 + P 1 + P 2 + P 3 := by
  unfold pvs
  rw [plc_at h 0 (by omega), plc_at h 1 (by omega), plc_at h 2 (by omega), plc_at h 3 (by omega)]
  simp [intOf]
theorem adv_sum {P : Nat → Nat} {l : List Nat} {s : Nat} (hs : s ∈ l) (h4 : s < 4) : P 0 + P 1 + P 2 + P 3 < adv P l 0 + adv P l 1 + adv P l 2 + adv P l 3 := by
  have hle : ∀ i, P i ≤ adv P l i := fun i => by unfold adv; split <;> omega
  have h1 : adv P l s = P s + 1 := by unfold adv; rw [if_pos hs]
  have := hle 0; have := hle 1; have := hle 2; have := hle 3
  have : s = 0 ∨ s = 1 ∨ s = 2 ∨ s = 3 := by omega
  rcases this with rfl | rfl | rfl | rfl <;> omega
/-- the world within the going through -/
structure Wk (w : World) (next : Int) (v : Value) (q : List (List Tk)) (wr : World) (P : Nat → Nat) : Prop where
  below : Below w.heap.size w wr
  qb : GBx wr w.heap.size [.int .i64 next, v]
  pb : GBx wr (w.heap.size + 1) (plc P)
  le : ∀ j, P j ≤ (bxs q j).length
  fit : FitQ (bxs q) q.length ↔ FitQ (lft q P) q.length
theorem Wk.on {w wr wr' : World} {next : Int} {v : Value} {q : List (List Tk)} {P : Nat → Nat} (h : Wk w next v q wr P) (hb : Below wr.heap.size wr wr') : Wk w next v q wr' P :=
  ⟨h.below.trans (hb.mono (Nat.le_trans (Nat.le_of_lt h.qb.lt) (Nat.le_refl _))), h.qb.below hb, h.pb.below hb, h.le, h.fit⟩
/-- .. within a step of it -/
structure Wi (w : World) (next : Int) (v : Value) (P : Nat → Nat) (L : List Nat) (base : Nat) (v6 : Value) (ws : World) (k : Nat) : Prop where
  below : Below w.heap.size w ws
  qb : GBx ws w.heap.size [.int .i64 next, v]
  pb : GBx ws (w.heap.size + 1) (plc (adv P (L.take k)))
  own : GOwn EI ws base v6 (L.map fun (i : Nat) => (i : Int))
  lt : w.heap.size + 1 < base
theorem Wi.step {w ws : World} {next : Int} {v v6 : Value} {P : Nat → Nat} {L : List Nat} {base k : Nat} (h : Wi w next v P L base v6 ws k) (hn : L.Nodup) (hk : k < L.length) (h4 : L[k] < 4) : Wi w next v P L base v6 (ws.setCell ⟨w.heap.size + 1, L[k], none⟩ (.int .i64 ((adv P (L.take k) L[k] : Nat) + 1))) (k + 1) := by
  refine ⟨h.below.grown (g_set _ _ _) (Nat.le_trans (Nat.le_refl _) (Nat.le_of_lt h.qb.lt)) (by intro k' hk'; cases hk'; show _ ≤ w.heap.size + 1; omega), h.qb.other _ _ (by omega), ?_, h.own.other _ _ _ h.lt, h.lt⟩
  refine (h.pb.set L[k] _ (by simpa [plc] using h4)).ext ?_
  exact plc_set h4 (by rw [adv_step hn hk, if_pos rfl]) (fun i hi => by rw [adv_step hn hk, if_neg hi])
theorem nd_nodup (t : Tk) (n : Nat) : (t.nd n).Nodup := by
  unfold Tk.nd
  exact (List.nodup_range).sublist List.filter_sublist
theorem fits_wrap {x : Nat} (h : x ≤ 300) : IntKind.i64.wrap ((x : Int) + 1) = (x : Int) + 1 := by rw [IntKind.wrap_i64]; omega

theorem bxs_len {q : List (List Tk)} {next : Int} (hb : ∀ l ∈ q, BxOk next l) (j : Nat) : (bxs q j).length ≤ 256 := by
  unfold bxs
  rw [List.getD_eq_getElem?_getD]
  by_cases h : j < q.length
  · rw [List.getElem?_eq_getElem h]
    exact (hb _ (List.getElem_mem h)).len
  · rw [List.getElem?_eq_none (by omega)]
    simp
theorem adv_le {P : Nat → Nat} {l : List Nat} (j : Nat) : adv P l j ≤ P j + 1 := by unfold adv; split <;> omega
theorem Wk.next {w wr ws : World} {next : Int} {v v6 : Value} {q : List (List Tk)} {P : Nat → Nat} {L : List Nat} {base k s : Nat} {t : Tk} {l : List Tk} (h : Wk w next v q wr P) (hi : Wi w next v P L base v6 ws k) (hk : L.length ≤ k) (hb : ∀ l ∈ q, BxOk next l) (hs : s < q.length) (e : lft q P s = t :: l) (hh : hld q P t = t.needs q.length) (hL : L = t.nd q.length) : Wk w next v q ws (adv P L) := by
  have hp := hi.pb
  rw [List.take_of_length_le hk] at hp
  refine ⟨hi.below, hi.qb, hp, fun j => ?_, h.fit.trans (by rw [hL]; exact step_adv hb hs e hh)⟩
  unfold adv
  split
  · rename_i hm
    rw [hL] at hm
    obtain ⟨l', e'⟩ := (hld_eq.1 hh j (Tk.nd_lt j hm)).1 hm
    unfold lft at e'
    have := congrArg List.length e'
    simp at this
    omega
  · exact h.le j

set_option maxHeartbeats 2000000 in
theorem allStand_any (B : List Bx) (ao : Option Addr) (cap m : Nat) (hm : m = B.length) (hn0 : 1 ≤ B.length) (hn1 : B.length ≤ 4) (next : Int) (hbx : ∀ l ∈ dat B, BxOk next l) (w : World) (h : Qr w ao B cap) :
    Calls Try.prog 77 #[.agg #[.int .i64 next, .slice ao m cap]] w fun e w' => e = .returned (.bool (tf (FitQ (bxs (dat B)) B.length))) ∧ Below w.heap.size w w' := by
  subst hm
  have hlen := h.row.len
  have HR := Hid.mk2 h
  have HBX := Hid.mk2 hbx
  obtain ⟨q, hq⟩ : ∃ q, q = dat B := ⟨_, rfl⟩
  have HQ := Hid.mk2 hq
  have HQL : Hid (q.length = B.length) := by show _ = _; rw [hq]; simp [dat]
  obtain ⟨v, hv⟩ : ∃ v, v = Value.slice ao B.length cap := ⟨_, rfl⟩
  obtain ⟨R, hR⟩ : ∃ R, R = tf (FitQ (bxs (dat B)) B.length) := ⟨_, rfl⟩
  have HRT : Hid (FitQ (bxs q) q.length → R = true) := by intro g; rw [hR]; rw [hq] at g; exact tf_true (by simpa [dat] using g)
  have HRF : Hid (¬ FitQ (bxs q) q.length → R = false) := by intro g; rw [hR]; rw [hq] at g; exact tf_false (by simpa [dat] using g)
  rw [← hR]
  obtain ⟨W, hW⟩ : ∃ W, W = (w.alloc (.cells #[.int .i64 next, .slice ao B.length cap] 62)).alloc (.cells #[.int .i64 0, .int .i64 0, .int .i64 0, .int .i64 0] 132) := ⟨_, rfl⟩
  have HW0 : Hid (Wk w next v q W (fun _ => 0)) := by
    refine ⟨?_, ?_, ?_, fun j => Nat.zero_le _, Tk.Fit.congr fun i hi => (lft_zero q i).symm⟩
    · rw [hW]; exact g_on (g_alloc _ _) (g_alloc _ _)
    · rw [hW, hv]; exact (GBx.made w [.int .i64 next, .slice ao B.length cap] _).alloc _
    · rw [hW]
      have := GBx.made (w.alloc (.cells #[.int .i64 next, .slice ao B.length cap] 62)) (plc (fun _ => 0)) 132
      rw [show (w.alloc (.cells #[.int .i64 next, .slice ao B.length cap] 62)).heap.size = w.heap.size + 1 by simp] at this
      exact this
  have HV := Hid.mk2 hv
  clear h hbx hq hR hv
  obtain ⟨M, hM⟩ : ∃ M, M = (bxs q 0).length + (bxs q 1).length + (bxs q 2).length + (bxs q 3).length := ⟨_, rfl⟩
  have HM := Hid.mk2 hM
  clear hM
  go_enter Try.func77, Try.ntmps77
  go_wp2
  rw [← hW]
  clear hW
  go_loopw [4] (fun _ wr => ∃ P, Hid (Wk w next v q wr P)) (fun _ wr => M - pvs wr (w.heap.size + 1))
  case atStart => exact ⟨_, HW0⟩
  case round =>
    obtain ⟨P, HK⟩ := hrel
    have HP : Hid (∀ i (hi : i < B.length), P i ≤ B[i].l.length) := by
      intro i hi
      have h9 := HK.out.le i
      rw [HQ.out, bxs_dat hi, List.length_map] at h9
      exact h9
    have HRW := Hid.mk2 (HR.out.below HK.out.below)
    have HLS := Hid.mk2 (leastAt_any B ao cap _ rfl hn1 next P HP.out wr HRW.out)
    have a0 := HK.out.qb.c 0 (by simp)
    have a1 := HK.out.qb.c 1 (by simp)
    have b0 := plc_at HK.out.pb 0 (by omega)
    have b1 := plc_at HK.out.pb 1 (by omega)
    have b2 := plc_at HK.out.pb 2 (by omega)
    have b3 := plc_at HK.out.pb 3 (by omega)
    have alt := HK.out.qb.lt
    have blt := HK.out.pb.lt
    simp only [List.getElem_cons_zero, List.getElem_cons_succ] at a0 a1
    rw [HV.out] at a1
    go_upto_region 3 with (go_at_call 94; refine HLS.out.mono ?_; rintro e w1 ⟨r, rfl, hL, hb1⟩; have HL := Hid.mk2 hL; have HB1 := Hid.mk2 hb1; clear hL hb1)
    clear a0 a1 b0 b1 b2 b3 HLS alt blt
    rcases HL.out with ⟨rfl, hall⟩ | ⟨s, t1, l1, rfl, hs, e1, hleast⟩
    · have eR := HRT.out (HK.out.fit.2 (Tk.Fit.empty (fun i hi => by rw [HQ.out]; exact hall i (by rw [← HQL.out]; exact hi))))
      subst eR
      clear HRT HRF HL hall
      go_wp2
      go_ret
      exact ⟨rfl, HK.out.below.trans (HB1.out.mono (Nat.le_of_lt HK.out.qb.lt))⟩
    · have HS1 : Hid (s < q.length) := by show _ < _; rw [HQL.out]; exact hs
      have HE1 : Hid (lft q P s = t1 :: l1) := by show _ = _; rw [HQ.out]; exact e1
      have HLE1 : Hid (∀ i, i < q.length → ∀ t' l', lft q P i = t' :: l' → t1.num ≤ t'.num) := by rw [HQL.out, HQ.out]; exact hleast
      have HK1 := Hid.mk2 (HK.out.on HB1.out)
      have HRW1 := Hid.mk2 (HRW.out.below HB1.out)
      have hPs : P s < B[s].l.length := by
        by_cases g : P s < B[s].l.length
        · exact g
        · rw [lft_dat_nil hs (by omega)] at e1; cases e1
      have HT1 : Hid (t1 = B[s].l[P s].t) := by
        have g := lft_dat_cons hs hPs
        rw [e1] at g
        exact (List.cons.inj g).1
      have HKEY := Hid.mk2 (HRW1.out.keys B[s] (List.getElem_mem hs) B[s].l[P s] (List.getElem_mem hPs))
      have HBOX := Hid.mk2 (HRW1.out.box B[s] (List.getElem_mem hs))
      have hne : B ≠ [] := by intro e; rw [e] at hs; simp at hs
      have hs2 : (s : Int) < (B.length : Int) := by omega
      have hs4 : (s : Int) < 4 := by omega
      have hs0 : ¬ ((s : Int) < 0) := by omega
      have HMAY : Hid (t1.may = true) := (HBX.out (B[s].l.map Td.t) (List.mem_map.2 ⟨B[s], List.getElem_mem hs, rfl⟩)).may t1 (by rw [HT1.out]; exact List.mem_map.2 ⟨_, List.getElem_mem hPs, rfl⟩)
      clear HL hleast e1
      obtain ⟨b, off, rfl, hbl, hcs⟩ := HRW1.out.row.bx hne
      have rb := hcs s hs
      have hlk := HBOX.out.len
      have a0 := HK1.out.qb.c 0 (by simp)
      have a1 := HK1.out.qb.c 1 (by simp)
      have bs := plc_at HK1.out.pb s (by omega)
      have alt := HK1.out.qb.lt
      have blt := HK1.out.pb.lt
      simp only [List.getElem_cons_zero, List.getElem_cons_succ] at a0 a1
      rw [HV.out] at a1
      obtain ⟨d, hd⟩ : ∃ d, d = B[s].l[P s] := ⟨_, rfl⟩
      obtain ⟨bx, hbx⟩ : ∃ bx, bx = B[s] := ⟨_, rfl⟩
      rw [← hd] at HT1 HKEY
      have HD2 : Hid (∀ h : P s < bx.l.length, d = bx.l[P s]) := by intro h; subst hbx; exact hd
      rw [← hbx] at rb hlk HBOX hPs
      clear hcs hne hd hbx
      have hd2 := HD2.out hPs
      obtain ⟨bl, bao, bcap⟩ := bx
      have hPs4 : P s < bl.length := hPs
      have hd3 : d = bl[P s] := hd2
      have hlk' : bl.length ≤ 9223372036854775807 := hlk
      have HBO2 : Hid (GRd ET w1 bao bl bcap) := HBOX
      have rb' := rb
      dsimp only at rb'
      have hneb : bl ≠ [] := by intro e; rw [e] at hPs4; simp at hPs4
      have hPs3 : (P s : Int) < (bl.length : Int) := by omega
      obtain ⟨b1, off1, rfl, hbl1, hc1⟩ := HBO2.out.tks hneb
      obtain ⟨r0, r1, r2, r3, r4, r5, r6, r7, r8, r9, r10, r11⟩ := hc1 (P s) hPs4
      rw [← hd3] at r0 r1 r2 r3 r4 r5 r6 r7 r8 r9 r10 r11
      have HPV : Hid (P s < bl.length ∧ ∃ ps, ps = P s) := ⟨hPs4, _, rfl⟩
      obtain ⟨ps, hps⟩ : ∃ ps, ps = P s := ⟨_, rfl⟩
      rw [← hps] at bs hPs3 r0 r1 r2 r3 r4 r5 r6 r7 r8 r9 r10 r11
      clear rb hlk HBOX HBO2 hPs hd2 HD2 hd3 hPs4 hc1 hneb hps HPV
      obtain ⟨⟨num, kind, ⟨ckind, tenant, keys, value, flags, life, unique, by_⟩, ten, dest⟩, so, sc⟩ := d
      dsimp only at r0 r1 r2 r3 r4 r5 r6 r7 r8 r9 r10 r11 HKEY HT1
      go_upto_region 5 with (fail)
      go_region
      have ht1 := HT1.out
      subst ht1
      obtain ⟨t, ht⟩ : ∃ t, t = Tk.mk num kind ⟨ckind, tenant, keys, value, flags, life, unique, by_⟩ ten dest := ⟨_, rfl⟩
      obtain ⟨w2, hw2⟩ : ∃ w2, w2 = (w1.alloc (.cells #[.int .i64 num, .int .u8 kind, .int .u8 ckind, .int .i64 tenant, .slice so keys.length sc, .string value, .int .u32 flags, .int .i64 life, .int .u64 unique, .int .u64 by_, .int .i64 ten, .int .i64 dest] 68)).drew := ⟨_, rfl⟩
      have HB2 : Hid (Below w1.heap.size w1 w2) := by rw [hw2]; exact (g_alloc _ _).drew
      have HT2 : Hid (GBx w2 w1.heap.size (t.cl (.slice so keys.length sc))) := by rw [hw2, ht]; exact (GBx.made w1 (Tk.cl ⟨num, kind, ⟨ckind, tenant, keys, value, flags, life, unique, by_⟩, ten, dest⟩ (.slice so keys.length sc)) _).below (Below.refl _ _).drew
      rw [← hw2]
      clear hw2 HT1
      have HK2 := Hid.mk2 (HK1.out.on HB2.out)
      have HRW2 := Hid.mk2 (HRW1.out.below HB2.out)
      have HKEY2 := Hid.mk2 (HKEY.out.below HB2.out)
      clear r0 r1 r2 r3 r4 r5 r6 r7 r8 r9 r10 r11 a0 a1 bs rb' alt blt HKEY HRW1 HK1
      rw [← ht] at HMAY HE1 HLE1
      have HKT : Hid (keys = t.c.keys) := by show _ = _; rw [ht]
      have HHO := Hid.mk2 (holdersAt_any B (some ⟨b, off, none⟩) cap _ rfl hn1 next P _ _ _ _ rfl t so sc keys.length (by rw [HKT.out]) w2 HRW2.out (HKT.out ▸ HKEY2.out))
      have HND := Hid.mk2 (fun w' (hw' : Below w2.heap.size w2 w') => needs12_any t B.length hn0 hn1 HMAY.out so sc keys.length (by rw [HKT.out]) w' ((HKT.out ▸ HKEY2.out : GRd ES w2 so t.c.keys sc).below hw'))
      have a0 := HK2.out.qb.c 0 (by simp)
      have a1 := HK2.out.qb.c 1 (by simp)
      have b0 := plc_at HK2.out.pb 0 (by omega)
      have b1' := plc_at HK2.out.pb 1 (by omega)
      have b2 := plc_at HK2.out.pb 2 (by omega)
      have b3 := plc_at HK2.out.pb 3 (by omega)
      have alt := HK2.out.qb.lt
      have blt := HK2.out.pb.lt
      simp only [List.getElem_cons_zero, List.getElem_cons_succ] at a0 a1
      rw [HV.out] at a1
      have HTY : Hid (GBx w2 w1.heap.size [.int .i64 num, .int .u8 kind, .int .u8 ckind, .int .i64 tenant, .slice so keys.length sc, .string value, .int .u32 flags, .int .i64 life, .int .u64 unique, .int .u64 by_, .int .i64 ten, .int .i64 dest]) := by have h9 := HT2.out; rw [ht] at h9; exact h9
      have HTA : Hid (t.arr (.slice so keys.length sc) = #[.int .i64 num, .int .u8 kind, .int .u8 ckind, .int .i64 tenant, .slice so keys.length sc, .string value, .int .u32 flags, .int .i64 life, .int .u64 unique, .int .u64 by_, .int .i64 ten, .int .i64 dest]) := by show _ = _; rw [ht]; rfl
      rw [HTA.out] at HHO HND
      clear ht HT2
      have y0 := HTY.out.c 0 (by simp)
      have y1 := HTY.out.c 1 (by simp)
      have y2 := HTY.out.c 2 (by simp)
      have y3 := HTY.out.c 3 (by simp)
      have y4 := HTY.out.c 4 (by simp)
      have y5 := HTY.out.c 5 (by simp)
      have y6 := HTY.out.c 6 (by simp)
      have y7 := HTY.out.c 7 (by simp)
      have y8 := HTY.out.c 8 (by simp)
      have y9 := HTY.out.c 9 (by simp)
      have y10 := HTY.out.c 10 (by simp)
      have y11 := HTY.out.c 11 (by simp)
      simp only [List.getElem_cons_zero, List.getElem_cons_succ] at y0 y1 y2 y3 y4 y5 y6 y7 y8 y9 y10 y11
      have ylt := HTY.out.lt
      have HEQS := Hid.mk2 (fun (L M : List Int) x1 x2 x3 x4 x5 x6 h5 h6 wx g1 g2 => eqI_any L M x1 x2 x3 x4 x5 x6 h5 h6 wx g1 g2)
      go_upto_region 7 with (go_at_call 90; refine HHO.out.mono ?_; rintro e w3 ⟨v6, rfl, hO3, hb3⟩; have HO3 := Hid.mk2 hO3; have HB3 := Hid.mk2 hb3; clear hO3 hb3)
      obtain ⟨a6, c6, hv6, hR6⟩ := HO3.out.rd okI
      subst hv6
      have HR6 := Hid.mk2 hR6
      clear hR6 HHO
      have HK3 := Hid.mk2 (HK2.out.on HB3.out)
      have HTY3 := Hid.mk2 (HTY.out.below HB3.out)
      clear a0 a1 b0 b1' b2 b3 alt blt y0 y1 y2 y3 y4 y5 y6 y7 y8 y9 y10 y11 ylt HTY HRW2
      have a1 := HK3.out.qb.c 1 (by simp)
      have alt := HK3.out.qb.lt
      simp only [List.getElem_cons_zero, List.getElem_cons_succ] at a1
      rw [HV.out] at a1
      have y0 := HTY3.out.c 0 (by simp)
      have y1 := HTY3.out.c 1 (by simp)
      have y2 := HTY3.out.c 2 (by simp)
      have y3 := HTY3.out.c 3 (by simp)
      have y4 := HTY3.out.c 4 (by simp)
      have y5 := HTY3.out.c 5 (by simp)
      have y6 := HTY3.out.c 6 (by simp)
      have y7 := HTY3.out.c 7 (by simp)
      have y8 := HTY3.out.c 8 (by simp)
      have y9 := HTY3.out.c 9 (by simp)
      have y10 := HTY3.out.c 10 (by simp)
      have y11 := HTY3.out.c 11 (by simp)
      simp only [List.getElem_cons_zero, List.getElem_cons_succ] at y0 y1 y2 y3 y4 y5 y6 y7 y8 y9 y10 y11
      have ylt := HTY3.out.lt
      obtain ⟨HL, hHL⟩ : ∃ HL, HL = hld (dat B) P t := ⟨_, rfl⟩
      obtain ⟨NL, hNL⟩ : ∃ NL, NL = t.needs B.length := ⟨_, rfl⟩
      have HHN : Hid (HL = NL ↔ hld q P t = t.needs q.length) := by show _ ↔ _; rw [hHL, hNL, HQL.out, HQ.out]
      have HNL : Hid (NL = (t.nd B.length).map fun (i : Nat) => (i : Int)) := hNL
      rw [← hHL] at HO3 HR6 ⊢
      rw [← hNL] at HND
      clear hHL hNL
      have HND3 := Hid.mk2 (HND.out w3 HB3.out)
      clear HND
      by_cases hEq : HL = NL
      · have HH := Hid.mk2 (HHN.out.1 hEq)
        subst hEq
        obtain ⟨L, hL⟩ : ∃ L, L = t.nd B.length := ⟨_, rfl⟩
        rw [← hL] at HNL
        have HLQ : Hid (L = t.nd q.length) := by show _ = _; rw [hL, HQL.out]
        have HLN : Hid L.Nodup := by show L.Nodup; rw [hL]; exact nd_nodup t _
        have HLB : Hid (∀ j ∈ L, j < 4) := by intro j hj; rw [hL] at hj; have := Tk.nd_lt j hj; omega
        have HSL : Hid (s ∈ L) := by show s ∈ L; rw [HLQ.out]; exact (hld_eq.1 HH.out s HS1.out).2 ⟨_, HE1.out⟩
        have HBQ : Hid (∀ l ∈ q, BxOk next l) := by rw [HQ.out]; exact HBX
        have HLL : Hid (HL.length = L.length) := by show _ = _; rw [HNL.out]; simp
        have hLL : L.length ≤ 9223372036854775807 := by
          have h9 := HR6.out.len
          rw [HLL.out] at h9
          exact h9
        have HLE3 : Hid (w.heap.size + 1 < w2.heap.size) := HK2.out.pb.lt
        clear hL
        go_wp2_with (first
          | (go_at_call 66; refine HND3.out.mono ?_; rintro e w4 ⟨v7, rfl, hO4, hb4⟩; obtain ⟨a7, c7, hv7, hR7⟩ := hO4.rd okI; subst hv7; have HB4 := Hid.mk2 hb4; have HEQ := Hid.mk2 (HEQS.out HL HL a6 a7 c6 c7 _ _ rfl rfl w4 (HR6.out.below hb4) hR7); rw [decide_eq_true (rfl : HL = HL)] at HEQ; clear hO4 hb4 hR7)
          | (go_at_call 91; refine HEQ.out.mono ?_; rintro e w5 ⟨rfl, n5, rfl⟩))
        have HB5 : Hid (Below w3.heap.size w3 (w4.drewN n5)) := g_quiet_on _ HB4.out
        obtain ⟨w5, hw5⟩ : ∃ w5, w5 = w4.drewN n5 := ⟨_, rfl⟩
        rw [← hw5] at HB5 ⊢
        have HI0 : Hid (Wi w next v P L w2.heap.size (.slice a6 HL.length c6) w5 0) := by
          have k5 := HK3.out.on HB5.out
          refine ⟨k5.below, k5.qb, ?_, ?_, HLE3.out⟩
          · have : adv P (L.take 0) = P := by funext i; simp [adv]
            rw [this]
            exact k5.pb
          · have h9 := HO3.out.below HB5.out
            rw [← HNL.out]
            exact h9
        clear hw5 a1 alt y0 y1 y2 y3 y4 y5 y6 y7 y8 y9 y10 y11 ylt HND3 HEQS HEQ HTY3
        go_loopw [8, 38] (fun _ i ws => ∃ k : Nat, k ≤ L.length ∧ i = .int .i64 k ∧ Hid (Wi w next v P L w2.heap.size (.slice a6 HL.length c6) ws k)) (fun _ i _ => L.length - (intOf i).toNat)
        case atStart => exact ⟨0, Nat.zero_le _, rfl, HI0⟩
        case round =>
          obtain ⟨k, hkn, rfl, HI⟩ := hrel
          have hLE : (HL.length : Int) = (L.length : Int) := by rw [HLL.out]
          by_cases hkl : k < L.length
          · have hkl2 : (k : Int) < (HL.length : Int) := by omega
            have hj4 := HLB.out L[k] (List.getElem_mem hkl)
            have HIS := Hid.mk2 (HI.out.step HLN.out hkl hj4)
            have hx := plc_at HI.out.pb L[k] hj4
            have hf := HI.out.pb.f L[k]
            have hplt := HI.out.pb.lt
            have hne : L.map (fun (i : Nat) => (i : Int)) ≠ [] := by intro e; have := congrArg List.length e; simp at this; rw [this] at hkl; simp at hkl
            have hown := HI.out.own
            rw [HLL.out] at hown
            obtain ⟨b6, o6, e6, hb6, hc6⟩ := (GOwn.rdOf okI hown).int hne
            subst e6
            have r0 := hc6 k (by simpa using hkl)
            rw [List.getElem_map] at r0
            have hx3 : adv P (L.take k) L[k] ≤ 300 := Nat.le_trans (adv_le _) (by have := HK3.out.le L[k]; have := bxs_len HBQ.out L[k]; omega)
            obtain ⟨j, hj⟩ : ∃ j, j = L[k] := ⟨_, rfl⟩
            rw [← hj] at HIS hx hf r0 hj4 hx3
            obtain ⟨x, hxe⟩ : ∃ x, x = adv P (L.take k) j := ⟨_, rfl⟩
            rw [← hxe] at HIS hx hx3
            have hwr := fits_wrap hx3
            have hj4' : (j : Int) < 4 := by omega
            clear hj hxe hne hown hc6
            go_wp2
            go_roundw
            case rel => exact ⟨k + 1, by omega, by go_num, HIS⟩
            case measure => simp [intOf]; omega
          · have hkl2 : ¬ ((k : Int) < (HL.length : Int)) := by omega
            have HKN := Hid.mk2 (HK3.out.next HI.out (by omega) HBQ.out HS1.out HE1.out HH.out HLQ.out)
            clear hLE
            go_wp2
            go_roundw
            case rel => exact ⟨_, HKN⟩
            case measure =>
              have m1 := pvs_plc HK.out.pb
              have m2 := pvs_plc HKN.out.pb
              have m3 := adv_sum (P := P) HSL.out (HLB.out s HSL.out)
              have l0 := HKN.out.le 0
              have l1 := HKN.out.le 1
              have l2 := HKN.out.le 2
              have l3 := HKN.out.le 3
              have hM := HM.out
              omega
      · have eR := HRF.out (fun F => step_no HS1.out HE1.out HLE1.out (fun x => hEq (HHN.out.2 x)) (HK3.out.fit.1 F))
        subst eR
        clear HRT HRF
        go_wp2_with (first
          | (go_at_call 66; refine HND3.out.mono ?_; rintro e w4 ⟨v7, rfl, hO4, hb4⟩; obtain ⟨a7, c7, hv7, hR7⟩ := hO4.rd okI; subst hv7; have HB4 := Hid.mk2 hb4; have HEQ := Hid.mk2 (HEQS.out HL NL a6 a7 c6 c7 _ _ rfl rfl w4 (HR6.out.below hb4) hR7); rw [decide_eq_false hEq] at HEQ; clear hO4 hb4 hR7)
          | (go_at_call 91; refine HEQ.out.mono ?_; rintro e w5 ⟨rfl, n5, rfl⟩))
        go_ret
        exact ⟨rfl, HK3.out.below.trans ((g_quiet_on _ HB4.out).mono (Nat.le_of_lt HK3.out.qb.lt))⟩
end Go.Proofs.Ytpnmokmadbapoaa
