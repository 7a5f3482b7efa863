/-
  Several texts in one: BnJ, BnK, LawBnWr.
-/
import Derived.Test.YtjmcgpdimhgegaaG04
/-
  The document's Write of requests as packets, where it has a row: what is told of track, ping, quit.
-/
namespace Go.Proofs.Ytjmcgpdimhgegaa
open Go.Proofs.Ytjmcgpdimhgegaa.It
open Go.RowKit
set_option linter.unusedSimpArgs false
set_option linter.unusedVariables false
set_option maxRecDepth 100000

set_option maxHeartbeats 2000000 in
theorem rwriteG3_any (r : Rq) (ko : Option Addr) (kc : Nat) (w : World) (h : GRd ES w ko r.cmd.keys kc) (hf : CmFit r.cmd) (hrow : r.hasRow = true) (hkind : r.kind = 3) :
    Calls Try.prog 7 #[.agg (r.arr (.slice ko r.cmd.keys.length kc))] w fun e w' => ∃ v, e = .returned (.tuple #[v, .int .i64 r.bE]) ∧ GOwn EY w' w.heap.size v (if r.bE = 0 then pkt 177 (UInt8.ofNat r.kind.toNat) r.body else []) ∧ Below w.heap.size w w' := by
  obtain ⟨⟨k1, k2⟩, hc, hn, hon, ht, hl⟩ := row_parts hrow
  obtain ⟨W, hW⟩ : ∃ W, W = w.alloc (.cells (r.arr (.slice ko r.cmd.keys.length kc)) 28) := ⟨_, rfl⟩
  have hwb := Wb.made r ko kc w h
  rw [← hW] at hwb
  have HB := Hid.mk2 hwb.B
  have HX := Hid.mk2 hwb.X
  have HK := Hid.mk2 hwb.K
  have HN : Hid (∀ W, Calls Try.prog 14 #[.agg (r.cmd.arr (.slice ko r.cmd.keys.length kc)), .agg (cz.arr (.slice none 0 0))] W fun e w' => e = .returned (.bool true) ∧ Below W.heap.size W w') := by
    intro W
    have h1 := samez_any r.cmd ko kc W h.len
    have h2 : r.cmd.isNone = true := by rw [hn (by rw [hkind]; decide)]; exact cz_isNone
    rw [h2] at h1
    exact h1
  clear h hrow hf k1 k2 hwb
  obtain ⟨rk, ⟨kind, tenant, keys, value, flags, life, unique, by_⟩, rt, secret, on, close⟩ := r
  unfold Rq.bE Rq.body
  unfold Rq.arr at hW ⊢
  unfold Rq.cl at HX
  unfold Cm.arr at HN
  unfold cz at HN
  dsimp only at *
  subst hc hkind
  have c0 := HX.out.c 0 (by simp)
  have c1 := HX.out.c 1 (by simp)
  have c2 := HX.out.c 2 (by simp)
  have c3 := HX.out.c 3 (by simp)
  have c4 := HX.out.c 4 (by simp)
  have c5 := HX.out.c 5 (by simp)
  have c6 := HX.out.c 6 (by simp)
  have c7 := HX.out.c 7 (by simp)
  have c8 := HX.out.c 8 (by simp)
  have c9 := HX.out.c 9 (by simp)
  have c10 := HX.out.c 10 (by simp)
  have c11 := HX.out.c 11 (by simp)
  have c12 := HX.out.c 12 (by simp)
  have hlt := HX.out.lt
  simp only [List.getElem_cons_zero, List.getElem_cons_succ] at c0 c1 c2 c3 c4 c5 c6 c7 c8 c9 c10 c11 c12
  rw [if_neg (by decide), if_pos rfl, if_neg (by decide), if_neg (by decide), if_pos rfl]
  obtain ⟨rfl, rfl⟩ := ht (by decide)
  have HO0 : Hid (∀ V : World, GRd EY (V.alloc (.cells #[.int .u8 0] 5)) (some ⟨V.heap.size, 0, none⟩) [0] 1) := fun V => (one_own V 0).rdOf1
  have HO1 : Hid (∀ V : World, GRd EY (V.alloc (.cells #[.int .u8 1] 5)) (some ⟨V.heap.size, 0, none⟩) [1] 1) := fun V => (one_own V 1).rdOf1
  clear hon ht hl hn
  cases on
  · go_enter Try.func7, Try.ntmps7
    go_upto_region 1 with (fail)
    rw [← hW]
    clear hW
    have HBW : Hid (∀ w2 : World, Below w.heap.size w w2 → Below w.heap.size w (w2.alloc (.cells #[.int .u8 0] 5))) := fun w2 hb => g_on hb (g_alloc _ _)
    go_wp2_with (first
      | (go_at_call 14; refine (HN.out _).mono ?_; rintro e w2 ⟨rfl, hb2⟩; have HX2 := Hid.mk2 (HX.out.below hb2); have HK2 := Hid.mk2 (HK.out.below hb2); have HB2 := Hid.mk2 (g_on HB.out hb2); have d0 := HX2.out.c 0 (by simp); have d1 := HX2.out.c 1 (by simp); have d2 := HX2.out.c 2 (by simp); have d3 := HX2.out.c 3 (by simp); have d4 := HX2.out.c 4 (by simp); have d5 := HX2.out.c 5 (by simp); have d6 := HX2.out.c 6 (by simp); have d7 := HX2.out.c 7 (by simp); have d8 := HX2.out.c 8 (by simp); have d9 := HX2.out.c 9 (by simp); have d10 := HX2.out.c 10 (by simp); have d11 := HX2.out.c 11 (by simp); have d12 := HX2.out.c 12 (by simp); simp only [List.getElem_cons_zero, List.getElem_cons_succ] at d0 d1 d2 d3 d4 d5 d6 d7 d8 d9 d10 d11 d12; have hltd := HX2.out.lt; clear hb2)
      | (go_at_call 17; refine (rmadeI_any 3 (by decide) (w2.alloc (.cells #[.int .u8 0] 5)) (some ⟨(w2).heap.size, 0, none⟩) [0] 1 (HO0.out w2) 1 rfl (by simp)).mono ?_; rintro e w9 ⟨v9, rfl, ho9, hb9⟩; have HO9 := Hid.mk2 (ho9.down (HBW.out w2 HB2.out).size); have HB9 := Hid.mk2 (g_on (HBW.out w2 HB2.out) hb9); clear ho9 hb9))
    go_ret2
    exact ⟨_, rfl, HO9.out, HB9.out⟩
  · go_enter Try.func7, Try.ntmps7
    go_upto_region 1 with (fail)
    rw [← hW]
    clear hW
    have HBW : Hid (∀ w2 : World, Below w.heap.size w w2 → Below w.heap.size w ((w2.alloc (.cells #[.int .u8 0] 5)).alloc (.cells #[.int .u8 1] 5))) := fun w2 hb => g_on hb (g_on (g_alloc _ _) (g_alloc _ _))
    go_wp2_with (first
      | (go_at_call 14; refine (HN.out _).mono ?_; rintro e w2 ⟨rfl, hb2⟩; have HX2 := Hid.mk2 (HX.out.below hb2); have HK2 := Hid.mk2 (HK.out.below hb2); have HB2 := Hid.mk2 (g_on HB.out hb2); have d0 := HX2.out.c 0 (by simp); have d1 := HX2.out.c 1 (by simp); have d2 := HX2.out.c 2 (by simp); have d3 := HX2.out.c 3 (by simp); have d4 := HX2.out.c 4 (by simp); have d5 := HX2.out.c 5 (by simp); have d6 := HX2.out.c 6 (by simp); have d7 := HX2.out.c 7 (by simp); have d8 := HX2.out.c 8 (by simp); have d9 := HX2.out.c 9 (by simp); have d10 := HX2.out.c 10 (by simp); have d11 := HX2.out.c 11 (by simp); have d12 := HX2.out.c 12 (by simp); simp only [List.getElem_cons_zero, List.getElem_cons_succ] at d0 d1 d2 d3 d4 d5 d6 d7 d8 d9 d10 d11 d12; have hltd := HX2.out.lt; clear hb2)
      | (go_at_call 17; refine (rmadeI_any 3 (by decide) ((w2.alloc (.cells #[.int .u8 0] 5)).alloc (.cells #[.int .u8 1] 5)) (some ⟨(w2.heap.size + 1), 0, none⟩) [1] 1 (by have hh := HO1.out (w2.alloc (.cells #[.int .u8 0] 5)); rw [show (w2.alloc (.cells #[.int .u8 0] 5)).heap.size = w2.heap.size + 1 by simp] at hh; exact hh) 1 rfl (by simp)).mono ?_; rintro e w9 ⟨v9, rfl, ho9, hb9⟩; have HO9 := Hid.mk2 (ho9.down (HBW.out w2 HB2.out).size); have HB9 := Hid.mk2 (g_on (HBW.out w2 HB2.out) hb9); clear ho9 hb9))
    go_ret2
    exact ⟨_, rfl, HO9.out, HB9.out⟩
set_option maxHeartbeats 2000000 in
theorem rwriteG4_any (r : Rq) (ko : Option Addr) (kc : Nat) (w : World) (h : GRd ES w ko r.cmd.keys kc) (hf : CmFit r.cmd) (hrow : r.hasRow = true) (hkind : r.kind = 4) :
    Calls Try.prog 7 #[.agg (r.arr (.slice ko r.cmd.keys.length kc))] w fun e w' => ∃ v, e = .returned (.tuple #[v, .int .i64 r.bE]) ∧ GOwn EY w' w.heap.size v (if r.bE = 0 then pkt 177 (UInt8.ofNat r.kind.toNat) r.body else []) ∧ Below w.heap.size w w' := by
  obtain ⟨⟨k1, k2⟩, hc, hn, hon, ht, hl⟩ := row_parts hrow
  obtain ⟨W, hW⟩ : ∃ W, W = w.alloc (.cells (r.arr (.slice ko r.cmd.keys.length kc)) 28) := ⟨_, rfl⟩
  have hwb := Wb.made r ko kc w h
  rw [← hW] at hwb
  have HB := Hid.mk2 hwb.B
  have HX := Hid.mk2 hwb.X
  have HK := Hid.mk2 hwb.K
  have HN : Hid (∀ W, Calls Try.prog 14 #[.agg (r.cmd.arr (.slice ko r.cmd.keys.length kc)), .agg (cz.arr (.slice none 0 0))] W fun e w' => e = .returned (.bool true) ∧ Below W.heap.size W w') := by
    intro W
    have h1 := samez_any r.cmd ko kc W h.len
    have h2 : r.cmd.isNone = true := by rw [hn (by rw [hkind]; decide)]; exact cz_isNone
    rw [h2] at h1
    exact h1
  clear h hrow hf k1 k2 hwb
  obtain ⟨rk, ⟨kind, tenant, keys, value, flags, life, unique, by_⟩, rt, secret, on, close⟩ := r
  unfold Rq.bE Rq.body
  unfold Rq.arr at hW ⊢
  unfold Rq.cl at HX
  unfold Cm.arr at HN
  unfold cz at HN
  dsimp only at *
  subst hc hkind
  have c0 := HX.out.c 0 (by simp)
  have c1 := HX.out.c 1 (by simp)
  have c2 := HX.out.c 2 (by simp)
  have c3 := HX.out.c 3 (by simp)
  have c4 := HX.out.c 4 (by simp)
  have c5 := HX.out.c 5 (by simp)
  have c6 := HX.out.c 6 (by simp)
  have c7 := HX.out.c 7 (by simp)
  have c8 := HX.out.c 8 (by simp)
  have c9 := HX.out.c 9 (by simp)
  have c10 := HX.out.c 10 (by simp)
  have c11 := HX.out.c 11 (by simp)
  have c12 := HX.out.c 12 (by simp)
  have hlt := HX.out.lt
  simp only [List.getElem_cons_zero, List.getElem_cons_succ] at c0 c1 c2 c3 c4 c5 c6 c7 c8 c9 c10 c11 c12
  rw [if_neg (by decide), if_pos rfl, if_neg (by decide), if_neg (by decide), if_neg (by decide)]
  have hon2 := hon (by decide)
  subst hon2
  obtain ⟨rfl, rfl⟩ := ht (by decide)
  clear hon ht hl hn
  go_enter Try.func7, Try.ntmps7
  go_upto_region 1 with (fail)
  rw [← hW]
  clear hW
  go_wp2_with (first
    | (go_at_call 14; refine (HN.out _).mono ?_; rintro e w2 ⟨rfl, hb2⟩; have HX2 := Hid.mk2 (HX.out.below hb2); have HK2 := Hid.mk2 (HK.out.below hb2); have HB2 := Hid.mk2 (g_on HB.out hb2); have d0 := HX2.out.c 0 (by simp); have d1 := HX2.out.c 1 (by simp); have d2 := HX2.out.c 2 (by simp); have d3 := HX2.out.c 3 (by simp); have d4 := HX2.out.c 4 (by simp); have d5 := HX2.out.c 5 (by simp); have d6 := HX2.out.c 6 (by simp); have d7 := HX2.out.c 7 (by simp); have d8 := HX2.out.c 8 (by simp); have d9 := HX2.out.c 9 (by simp); have d10 := HX2.out.c 10 (by simp); have d11 := HX2.out.c 11 (by simp); have d12 := HX2.out.c 12 (by simp); simp only [List.getElem_cons_zero, List.getElem_cons_succ] at d0 d1 d2 d3 d4 d5 d6 d7 d8 d9 d10 d11 d12; have hltd := HX2.out.lt; clear hb2)
    | (go_at_call 17; refine (rmadeI_any 4 (by decide) w2 none [] 0 (GRd.nil w2) 0 rfl (by simp)).mono ?_; rintro e w9 ⟨v9, rfl, ho9, hb9⟩; have HO9 := Hid.mk2 (ho9.down HB2.out.size); have HB9 := Hid.mk2 (g_on HB2.out hb9); clear ho9 hb9))
  go_ret2
  exact ⟨_, rfl, HO9.out, HB9.out⟩
set_option maxHeartbeats 2000000 in
theorem rwriteG5_any (r : Rq) (ko : Option Addr) (kc : Nat) (w : World) (h : GRd ES w ko r.cmd.keys kc) (hf : CmFit r.cmd) (hrow : r.hasRow = true) (hkind : r.kind = 5) :
    Calls Try.prog 7 #[.agg (r.arr (.slice ko r.cmd.keys.length kc))] w fun e w' => ∃ v, e = .returned (.tuple #[v, .int .i64 r.bE]) ∧ GOwn EY w' w.heap.size v (if r.bE = 0 then pkt 177 (UInt8.ofNat r.kind.toNat) r.body else []) ∧ Below w.heap.size w w' := by
  obtain ⟨⟨k1, k2⟩, hc, hn, hon, ht, hl⟩ := row_parts hrow
  obtain ⟨W, hW⟩ : ∃ W, W = w.alloc (.cells (r.arr (.slice ko r.cmd.keys.length kc)) 28) := ⟨_, rfl⟩
  have hwb := Wb.made r ko kc w h
  rw [← hW] at hwb
  have HB := Hid.mk2 hwb.B
  have HX := Hid.mk2 hwb.X
  have HK := Hid.mk2 hwb.K
  have HN : Hid (∀ W, Calls Try.prog 14 #[.agg (r.cmd.arr (.slice ko r.cmd.keys.length kc)), .agg (cz.arr (.slice none 0 0))] W fun e w' => e = .returned (.bool true) ∧ Below W.heap.size W w') := by
    intro W
    have h1 := samez_any r.cmd ko kc W h.len
    have h2 : r.cmd.isNone = true := by rw [hn (by rw [hkind]; decide)]; exact cz_isNone
    rw [h2] at h1
    exact h1
  clear h hrow hf k1 k2 hwb
  obtain ⟨rk, ⟨kind, tenant, keys, value, flags, life, unique, by_⟩, rt, secret, on, close⟩ := r
  unfold Rq.bE Rq.body
  unfold Rq.arr at hW ⊢
  unfold Rq.cl at HX
  unfold Cm.arr at HN
  unfold cz at HN
  dsimp only at *
  subst hc hkind
  have c0 := HX.out.c 0 (by simp)
  have c1 := HX.out.c 1 (by simp)
  have c2 := HX.out.c 2 (by simp)
  have c3 := HX.out.c 3 (by simp)
  have c4 := HX.out.c 4 (by simp)
  have c5 := HX.out.c 5 (by simp)
  have c6 := HX.out.c 6 (by simp)
  have c7 := HX.out.c 7 (by simp)
  have c8 := HX.out.c 8 (by simp)
  have c9 := HX.out.c 9 (by simp)
  have c10 := HX.out.c 10 (by simp)
  have c11 := HX.out.c 11 (by simp)
  have c12 := HX.out.c 12 (by simp)
  have hlt := HX.out.lt
  simp only [List.getElem_cons_zero, List.getElem_cons_succ] at c0 c1 c2 c3 c4 c5 c6 c7 c8 c9 c10 c11 c12
  rw [if_neg (by decide), if_pos rfl, if_neg (by decide), if_neg (by decide), if_neg (by decide)]
  have hon2 := hon (by decide)
  subst hon2
  obtain ⟨rfl, rfl⟩ := ht (by decide)
  clear hon ht hl hn
  go_enter Try.func7, Try.ntmps7
  go_upto_region 1 with (fail)
  rw [← hW]
  clear hW
  go_wp2_with (first
    | (go_at_call 14; refine (HN.out _).mono ?_; rintro e w2 ⟨rfl, hb2⟩; have HX2 := Hid.mk2 (HX.out.below hb2); have HK2 := Hid.mk2 (HK.out.below hb2); have HB2 := Hid.mk2 (g_on HB.out hb2); have d0 := HX2.out.c 0 (by simp); have d1 := HX2.out.c 1 (by simp); have d2 := HX2.out.c 2 (by simp); have d3 := HX2.out.c 3 (by simp); have d4 := HX2.out.c 4 (by simp); have d5 := HX2.out.c 5 (by simp); have d6 := HX2.out.c 6 (by simp); have d7 := HX2.out.c 7 (by simp); have d8 := HX2.out.c 8 (by simp); have d9 := HX2.out.c 9 (by simp); have d10 := HX2.out.c 10 (by simp); have d11 := HX2.out.c 11 (by simp); have d12 := HX2.out.c 12 (by simp); simp only [List.getElem_cons_zero, List.getElem_cons_succ] at d0 d1 d2 d3 d4 d5 d6 d7 d8 d9 d10 d11 d12; have hltd := HX2.out.lt; clear hb2)
    | (go_at_call 17; refine (rmadeI_any 5 (by decide) w2 none [] 0 (GRd.nil w2) 0 rfl (by simp)).mono ?_; rintro e w9 ⟨v9, rfl, ho9, hb9⟩; have HO9 := Hid.mk2 (ho9.down HB2.out.size); have HB9 := Hid.mk2 (g_on HB2.out hb9); clear ho9 hb9))
  go_ret2
  exact ⟨_, rfl, HO9.out, HB9.out⟩
end Go.Proofs.Ytjmcgpdimhgegaa
/-
  The document's Write of requests as packets, whole.
-/
namespace Go.Proofs.Ytjmcgpdimhgegaa
open Go.Proofs.Ytjmcgpdimhgegaa.It
open Go.RowKit
set_option linter.unusedSimpArgs false
set_option linter.unusedVariables false
set_option maxRecDepth 100000

theorem rwrite16_any (r : Rq) (ko : Option Addr) (kc : Nat) (w : World) (h : GRd ES w ko r.cmd.keys kc) (hf : CmFit r.cmd) :
    Calls Try.prog 7 #[.agg (r.arr (.slice ko r.cmd.keys.length kc))] w fun e w' => ∃ v, e = .returned (.tuple #[v, .int .i64 r.wbE]) ∧ GOwn EY w' w.heap.size v r.wb ∧ Below w.heap.size w w' := by
  cases hR : r.hasRow with
  | false =>
    have e1 : r.wbE = 8 := by unfold Rq.wbE; rw [hR]; rfl
    have e2 : r.wb = [] := Rq.wb_bad (by rw [e1]; decide)
    rw [e1, e2]
    exact rwriteBad_any r ko kc w h hR
  | true =>
    have e1 := wbE_row hR
    have e2 : r.wb = if r.bE = 0 then pkt 177 (UInt8.ofNat r.kind.toNat) r.body else [] := by unfold Rq.wb; rw [e1]
    rw [e1, e2]
    have hk := (row_parts hR).1
    have hk2 : r.kind = 1 ∨ r.kind = 2 ∨ r.kind = 3 ∨ r.kind = 4 ∨ r.kind = 5 := by omega
    rcases hk2 with e | e | e | e | e
    · exact rwriteG1_any r ko kc w h hf hR e
    · exact rwriteG2_any r ko kc w h hf hR e
    · exact rwriteG3_any r ko kc w h hf hR e
    · exact rwriteG4_any r ko kc w h hf hR e
    · exact rwriteG5_any r ko kc w h hf hR e
end Go.Proofs.Ytjmcgpdimhgegaa
/-
  BinaryWrites, its walk.
-/
namespace Go.Proofs.Ytjmcgpdimhgegaa
open Go.Proofs.Ytjmcgpdimhgegaa.It
open Go.RowKit
set_option linter.unusedSimpArgs false
set_option linter.unusedVariables false
set_option maxRecDepth 100000

set_option maxHeartbeats 2000000 in
theorem writes_any (r : Rq) (ko : Option Addr) (kc : Nat) (w : World) (h : GRd ES w ko r.cmd.keys kc) (hf : CmFit r.cmd) (hkd : 0 ≤ r.kind ∧ r.kind ≤ 255) :
    Calls Try.prog 3 #[.agg (r.arr (.slice ko r.cmd.keys.length kc))] w fun e w' => e = .returned (.bool true) ∧ Below w.heap.size w w' := by
  obtain ⟨W, hW⟩ : ∃ W, W = w.alloc (.cells (r.arr (.slice ko r.cmd.keys.length kc)) 28) := ⟨_, rfl⟩
  have hwb := Wb.made r ko kc w h
  rw [← hW] at hwb
  have HB := Hid.mk2 hwb.B
  have HX := Hid.mk2 hwb.X
  have HK := Hid.mk2 hwb.K
  have HL := Hid.mk2 (fun W (h : GRd ES W ko r.cmd.keys kc) => rlong_any r.cmd ko kc W h)
  have H1 := Hid.mk2 (fun W (h : GRd ES W ko r.cmd.keys kc) => bwrite_any r ko kc W h hf hkd)
  have H2 := Hid.mk2 (fun W (h : GRd ES W ko r.cmd.keys kc) => rwrite16_any r ko kc W h hf)
  obtain ⟨E, hE⟩ : ∃ E, E = r.wbE := ⟨_, rfl⟩
  obtain ⟨P, hP⟩ : ∃ P, P = r.wb := ⟨_, rfl⟩
  rw [← hE, ← hP] at H1 H2
  clear h hwb hf hkd hE hP
  obtain ⟨G, hG⟩ : ∃ G, G = r.cmd.lg := ⟨_, rfl⟩
  rw [← hG] at HL
  clear hG
  obtain ⟨rk, ⟨kind, tenant, keys, value, flags, life, unique, by_⟩, rt, secret, on, close⟩ := r
  unfold Rq.arr at *
  unfold Rq.cl at HX
  unfold Cm.arr at HL
  dsimp only at *
  have c0 := HX.out.c 0 (by simp)
  have c1 := HX.out.c 1 (by simp)
  have c2 := HX.out.c 2 (by simp)
  have c3 := HX.out.c 3 (by simp)
  have c4 := HX.out.c 4 (by simp)
  have c5 := HX.out.c 5 (by simp)
  have c6 := HX.out.c 6 (by simp)
  have c7 := HX.out.c 7 (by simp)
  have c8 := HX.out.c 8 (by simp)
  have c9 := HX.out.c 9 (by simp)
  have c10 := HX.out.c 10 (by simp)
  have c11 := HX.out.c 11 (by simp)
  have c12 := HX.out.c 12 (by simp)
  have hlt := HX.out.lt
  simp only [List.getElem_cons_zero, List.getElem_cons_succ] at c0 c1 c2 c3 c4 c5 c6 c7 c8 c9 c10 c11 c12
  cases G with
  | true =>
    go_enter Try.func3, Try.ntmps3
    go_upto_region 1 with (fail)
    rw [← hW]
    clear hW
    go_wp2_with (go_at_call 5; refine (HL.out W HK.out).mono ?_; rintro e w1 ⟨rfl, hb1⟩; have HX1 := Hid.mk2 (HX.out.below hb1); have HK1 := Hid.mk2 (HK.out.below hb1); have HB1 := Hid.mk2 (g_on HB.out hb1); have d0 := HX1.out.c 0 (by simp); have d1 := HX1.out.c 1 (by simp); have d2 := HX1.out.c 2 (by simp); have d3 := HX1.out.c 3 (by simp); have d4 := HX1.out.c 4 (by simp); have d5 := HX1.out.c 5 (by simp); have d6 := HX1.out.c 6 (by simp); have d7 := HX1.out.c 7 (by simp); have d8 := HX1.out.c 8 (by simp); have d9 := HX1.out.c 9 (by simp); have d10 := HX1.out.c 10 (by simp); have d11 := HX1.out.c 11 (by simp); have d12 := HX1.out.c 12 (by simp); simp only [List.getElem_cons_zero, List.getElem_cons_succ] at d0 d1 d2 d3 d4 d5 d6 d7 d8 d9 d10 d11 d12; have hltd := HX1.out.lt; clear hb1)
    go_ret
    exact ⟨rfl, HB1.out⟩
  | false =>
    by_cases hs : (1000 : Int) < (secret.size : Int)
    · go_enter Try.func3, Try.ntmps3
      go_upto_region 1 with (fail)
      rw [← hW]
      clear hW
      go_wp2_with (go_at_call 5; refine (HL.out W HK.out).mono ?_; rintro e w1 ⟨rfl, hb1⟩; have HX1 := Hid.mk2 (HX.out.below hb1); have HK1 := Hid.mk2 (HK.out.below hb1); have HB1 := Hid.mk2 (g_on HB.out hb1); have d0 := HX1.out.c 0 (by simp); have d1 := HX1.out.c 1 (by simp); have d2 := HX1.out.c 2 (by simp); have d3 := HX1.out.c 3 (by simp); have d4 := HX1.out.c 4 (by simp); have d5 := HX1.out.c 5 (by simp); have d6 := HX1.out.c 6 (by simp); have d7 := HX1.out.c 7 (by simp); have d8 := HX1.out.c 8 (by simp); have d9 := HX1.out.c 9 (by simp); have d10 := HX1.out.c 10 (by simp); have d11 := HX1.out.c 11 (by simp); have d12 := HX1.out.c 12 (by simp); simp only [List.getElem_cons_zero, List.getElem_cons_succ] at d0 d1 d2 d3 d4 d5 d6 d7 d8 d9 d10 d11 d12; have hltd := HX1.out.lt; clear hb1)
      go_ret
      exact ⟨rfl, HB1.out⟩
    · go_enter Try.func3, Try.ntmps3
      go_upto_region 1 with (fail)
      rw [← hW]
      clear hW
      go_upto_region 5 with (first
        | (go_at_call 5; refine (HL.out W HK.out).mono ?_; rintro e w1 ⟨rfl, hb1⟩; have HX1 := Hid.mk2 (HX.out.below hb1); have HK1 := Hid.mk2 (HK.out.below hb1); have HB1 := Hid.mk2 (g_on HB.out hb1); have d0 := HX1.out.c 0 (by simp); have d1 := HX1.out.c 1 (by simp); have d2 := HX1.out.c 2 (by simp); have d3 := HX1.out.c 3 (by simp); have d4 := HX1.out.c 4 (by simp); have d5 := HX1.out.c 5 (by simp); have d6 := HX1.out.c 6 (by simp); have d7 := HX1.out.c 7 (by simp); have d8 := HX1.out.c 8 (by simp); have d9 := HX1.out.c 9 (by simp); have d10 := HX1.out.c 10 (by simp); have d11 := HX1.out.c 11 (by simp); have d12 := HX1.out.c 12 (by simp); simp only [List.getElem_cons_zero, List.getElem_cons_succ] at d0 d1 d2 d3 d4 d5 d6 d7 d8 d9 d10 d11 d12; have hltd := HX1.out.lt; clear hb1)
        | (go_at_call 6; refine (H1.out w1 HK1.out).mono ?_; rintro e w2 ⟨v2, rfl, ho2, hb2⟩; obtain ⟨a2, p2, hv2, hr2⟩ := ho2.rd okY; obtain ⟨n2, hn2⟩ : ∃ n2, n2 = P.length := ⟨_, rfl⟩; rw [← hn2] at hv2; subst hv2; have HR2 := Hid.mk2 hr2; have HN2 := Hid.mk2 hn2; have HX2 := Hid.mk2 (HX1.out.below hb2); have HK2 := Hid.mk2 (HK1.out.below hb2); have HB2 := Hid.mk2 (g_on HB1.out hb2); have f0 := HX2.out.c 0 (by simp); have f1 := HX2.out.c 1 (by simp); have f2 := HX2.out.c 2 (by simp); have f3 := HX2.out.c 3 (by simp); have f4 := HX2.out.c 4 (by simp); have f5 := HX2.out.c 5 (by simp); have f6 := HX2.out.c 6 (by simp); have f7 := HX2.out.c 7 (by simp); have f8 := HX2.out.c 8 (by simp); have f9 := HX2.out.c 9 (by simp); have f10 := HX2.out.c 10 (by simp); have f11 := HX2.out.c 11 (by simp); have f12 := HX2.out.c 12 (by simp); simp only [List.getElem_cons_zero, List.getElem_cons_succ] at f0 f1 f2 f3 f4 f5 f6 f7 f8 f9 f10 f11 f12; have hltf := HX2.out.lt; clear ho2 hb2 hr2 hn2)
        | (go_at_call 7; refine (H2.out w2 HK2.out).mono ?_; rintro e w3 ⟨v3, rfl, ho3, hb3⟩; obtain ⟨a3, p3, hv3, hr3⟩ := ho3.rd okY; rw [← HN2.out] at hv3; subst hv3; have HR3 := Hid.mk2 hr3; have HR23 := Hid.mk2 (HR2.out.below hb3); have HB3 := Hid.mk2 (g_on HB2.out hb3); clear ho3 hb3 hr3))
      have k2 := conv_rd HR23.out
      have k3 := conv_rd HR3.out
      rw [← HN2.out] at k2 k3
      obtain ⟨SP, hSP⟩ : ∃ SP : ByteArray, SP = ⟨P.toArray⟩ := ⟨_, rfl⟩
      rw [← hSP] at k2 k3
      have q1 : (SP.toList == SP.toList) = true := by simp
      have q2 : (E == E) = true := by simp
      clear hSP
      go_wp2
      go_ret
      exact ⟨by first | rfl | simp, HB3.out⟩
end Go.Proofs.Ytjmcgpdimhgegaa
