/-
  Package binary: bodyOf, Write.
-/
import Derived.Test.YtjmcgpdimhgegaaBnX
import Derived.Test.YtjmcgpdimhgegaaBnR
namespace Go.Proofs.Ytjmcgpdimhgegaa
open Go.Proofs.Ytjmcgpdimhgegaa.It
open Go.RowKit
set_option linter.unusedSimpArgs false
set_option linter.unusedVariables false
set_option maxRecDepth 100000

/-- the two families' words for what is read, and for what a call made -/
theorem tl_of_rd {w : World} {ko : Option Addr} {kc : Nat} {ks : List ByteArray} (h : GRd ES w ko ks kc) : Tl w ko ks kc := by
  refine ⟨h.hl, h.hc, h.hn, ?_⟩
  rcases h.at_ with e | ⟨b, off, e, hb, hc⟩
  · exact .inl e
  · refine .inr ⟨b, off, e, hb, fun j hj => ?_⟩
    have := hc j hj 0 (by decide)
    simpa [ES] using this
theorem flat_y : ∀ l : List UInt8, l.flatMap EY.cells = l.map bcell
  | [] => rfl
  | a :: t => by rw [List.flatMap_cons, flat_y t]; rfl
theorem own_of {w : World} {base : Nat} {v : Value} {l : List UInt8} (h : Own w base v l) : GOwn EY w base v l := by
  unfold GOwn
  rw [flat_y]
  exact h
theorem of_own {w : World} {base : Nat} {v : Value} {l : List UInt8} (h : GOwn EY w base v l) : Own w base v l := by
  unfold GOwn at h
  rw [flat_y] at h
  exact h
def Rq.bE (r : Rq) : Int := if r.kind = 1 then r.cmd.ckE else 0
theorem one_own (V : World) (c : UInt8) : GOwn EY (V.alloc (.cells #[.int .u8 (c.toNat : Int)] 5)) V.heap.size (.slice (some ⟨V.heap.size, 0, none⟩) 1 1) [c] := GOwn.fresh okY V [c] _ rfl (by simp)
set_option maxHeartbeats 2000000 in
theorem bodyOf_any (r : Rq) (ko : Option Addr) (kc : Nat) (w : World) (h : GRd ES w ko r.cmd.keys kc) (hrow : r.hasRow = true) (hf : CmFit r.cmd) :
    Calls Try.prog 13 #[.agg (r.arr (.slice ko r.cmd.keys.length kc))] w fun e w' => ∃ v, e = .returned (.tuple #[v, .int .i64 r.bE]) ∧ GOwn EY w' w.heap.size v (if r.bE = 0 then r.body else []) ∧ Below w.heap.size w w' := by
  obtain ⟨⟨k1, k2⟩, hc, hn, ho, ht, hl⟩ := row_parts hrow
  obtain ⟨W, hW⟩ : ∃ W, W = w.alloc (.cells (r.arr (.slice ko r.cmd.keys.length kc)) 28) := ⟨_, rfl⟩
  have hB0 : Below w.heap.size w W := by rw [hW]; exact g_alloc _ _
  have HB : Hid (Below w.heap.size w W) := hB0
  have HX : Hid (GBx W w.heap.size (r.cl (.slice ko r.cmd.keys.length kc))) := by rw [hW]; exact GBx.made w (r.cl _) _
  have HK := Hid.mk2 (h.below hB0)
  have hk : r.kind = 1 ∨ r.kind = 2 ∨ r.kind = 3 ∨ r.kind = 4 ∨ r.kind = 5 := by omega
  have HC := Hid.mk2 (fun W (h : GRd ES W ko r.cmd.keys kc) => checkCommand_any r.cmd ko kc W h)
  have HM : Hid (r.cmd.may = true → ∀ W, GRd ES W ko r.cmd.keys kc → Calls Try.prog 24 #[.agg (r.cmd.arr (.slice ko r.cmd.keys.length kc))] W fun e w' => ∃ v', e = .returned (.tuple #[v', .int .i64 0]) ∧ GOwn EY w' W.heap.size v' (cmdB r.cmd.cmd) ∧ Below W.heap.size W w') := by
    intro hm W hr
    have hok := may_ok hm hf
    have h1 := command_any r.cmd.cmd W ko kc (tl_of_rd hr) hf.good
    have e1 : cmdE r.cmd.cmd = 0 := if_pos hok
    have e2 : cmdBB r.cmd.cmd = cmdB r.cmd.cmd := if_pos hok
    rw [e1, e2, arr_cells, Cm.cmd_cm hf] at h1
    exact h1.mono (by rintro e w' ⟨v', a, b, c⟩; exact ⟨v', a, own_of b, c⟩)
  have hckE : r.cmd.ckE = 0 → r.cmd.may = true := by
    intro e
    unfold Cm.ckE at e
    by_cases hm : r.cmd.may = true
    · exact hm
    · rw [if_neg hm] at e; cases e
  clear h hB0 hrow hf k1 k2
  obtain ⟨rk, ⟨kind, tenant, keys, value, flags, life, unique, by_⟩, rt, secret, on, close⟩ := r
  unfold Rq.bE Rq.body
  unfold Rq.arr at hW ⊢
  unfold Rq.cl at HX
  unfold Cm.arr at HC HM
  dsimp only at *
  have c0 := HX.out.c 0 (by simp)
  have c1 := HX.out.c 1 (by simp)
  have c2 := HX.out.c 2 (by simp)
  have c3 := HX.out.c 3 (by simp)
  have c4 := HX.out.c 4 (by simp)
  have c5 := HX.out.c 5 (by simp)
  have c6 := HX.out.c 6 (by simp)
  have c7 := HX.out.c 7 (by simp)
  have c8 := HX.out.c 8 (by simp)
  have c9 := HX.out.c 9 (by simp)
  have c10 := HX.out.c 10 (by simp)
  have c11 := HX.out.c 11 (by simp)
  have hlt := HX.out.lt
  simp only [List.getElem_cons_zero, List.getElem_cons_succ] at c0 c1 c2 c3 c4 c5 c6 c7 c8 c9 c10 c11
  rcases hk with rfl | rfl | rfl | rfl | rfl
  · rw [if_pos rfl, if_pos rfl]
    obtain ⟨CC, hCC⟩ : ∃ CC, CC = Cm.mk kind tenant keys value flags life unique by_ := ⟨_, rfl⟩
    rw [← hCC] at HC HM hckE ⊢
    obtain ⟨E, hE⟩ : ∃ E, E = CC.ckE := ⟨_, rfl⟩
    rw [← hE] at HC hckE ⊢
    have HCK := Hid.mk2 hckE
    obtain ⟨BB, hBB⟩ : ∃ BB, BB = cmdB CC.cmd := ⟨_, rfl⟩
    rw [← hBB] at HM ⊢
    clear hCC hE hckE hBB hn ho ht hl hc
    by_cases h0 : E = 0
    · rw [if_pos h0]
      subst h0
      have HMM := Hid.mk2 (HM.out (HCK.out rfl))
      clear HM HCK
      go_enter Try.func13, Try.ntmps13
      go_upto_region 1 with (fail)
      rw [← hW]
      clear hW
      go_wp2_with (first
        | (go_at_call 23; refine (HC.out W HK.out).mono ?_; rintro e w1 ⟨rfl, hb1⟩; have HX1 := Hid.mk2 (HX.out.below hb1); have HK1 := Hid.mk2 (HK.out.below hb1); have HB1 := Hid.mk2 (g_on HB.out hb1); have d1 := HX1.out.c 1 (by simp); have d2 := HX1.out.c 2 (by simp); have d3 := HX1.out.c 3 (by simp); have d4 := HX1.out.c 4 (by simp); have d5 := HX1.out.c 5 (by simp); have d6 := HX1.out.c 6 (by simp); have d7 := HX1.out.c 7 (by simp); have d8 := HX1.out.c 8 (by simp); simp only [List.getElem_cons_zero, List.getElem_cons_succ] at d1 d2 d3 d4 d5 d6 d7 d8; have hlt1 := HX1.out.lt; clear hb1)
        | (go_at_call 24; refine (HMM.out w1 HK1.out).mono ?_; rintro e w2 ⟨v2, rfl, ho2, hb2⟩; have HO2 := Hid.mk2 (ho2.down HB1.out.size); have HB2 := Hid.mk2 (g_on HB1.out hb2); clear ho2 hb2))
      go_ret2
      exact ⟨_, rfl, HO2.out, HB2.out⟩
    · rw [if_neg h0]
      have HH0 := Hid.mk2 h0
      go_enter Try.func13, Try.ntmps13
      go_upto_region 1 with (fail)
      rw [← hW]
      clear hW
      go_wp2_with (go_at_call 23; refine (HC.out W HK.out).mono ?_; rintro e w1 ⟨rfl, hb1⟩; have HB1 := Hid.mk2 (g_on HB.out hb1); clear hb1)
      go_ret2
      exact ⟨_, rfl, GOwn.nil _ _, HB1.out⟩
  · rw [if_neg (by decide), if_pos rfl, if_neg (by decide), if_pos rfl]
    obtain ⟨t0, t1, s0, s1⟩ := hl rfl
    have hs17 : secret.size ≤ 16 := s1
    have HO1 := Hid.mk2 (one_own W (UInt8.ofNat rt.toNat))
    have ht256 : ((UInt8.ofNat rt.toNat).toNat : Int) = rt := by rw [UInt8.toNat_ofNat']; omega
    rw [ht256] at HO1
    have HS := Hid.mk2 hs17
    have t3 : rt ≤ 3 := by omega
    clear hn ho ht hl hc HC HM ht256 s0 s1 hs17 t1
    go_enter Try.func13, Try.ntmps13
    go_upto_region 1 with (fail)
    rw [← hW]
    clear hW
    go_wp2_with (at_builtin; refine app_text rfl _ _ rfl W.heap.size _ _ (of_own HO1.out) rfl secret rfl (by have := HS.out; simp; omega) (by simp) ?_; intro v2 w2 ho2 hg2; have HO2 := Hid.mk2 (GOwn.down (own_of ho2) HB.out.size); have HB2 := Hid.mk2 (g_on HB.out ((g_alloc W _).trans ((Below.refl _ _).grown hg2.grown (by simp) (fun k hk => (HO1.out.lt k hk).1)))); clear ho2 hg2)
    go_ret2
    exact ⟨_, rfl, HO2.out, HB2.out⟩
  · rw [if_neg (by decide), if_pos rfl, if_neg (by decide), if_neg (by decide), if_pos rfl]
    have HO0 := Hid.mk2 (one_own W 0)
    have HO1 := Hid.mk2 (one_own W 1)
    clear hn ho ht hl hc HC HM
    cases on
    · go_enter Try.func13, Try.ntmps13
      go_upto_region 1 with (fail)
      rw [← hW]
      clear hW
      go_wp2
      go_ret2
      exact ⟨_, rfl, GOwn.down HO0.out HB.out.size, g_on HB.out (g_alloc _ _)⟩
    · go_enter Try.func13, Try.ntmps13
      go_upto_region 1 with (fail)
      rw [← hW]
      clear hW
      go_wp2
      go_ret2
      exact ⟨_, rfl, GOwn.down HO1.out HB.out.size, g_on HB.out (g_alloc _ _)⟩
  all_goals
    rw [if_neg (by decide), if_pos rfl, if_neg (by decide), if_neg (by decide), if_neg (by decide)]
    clear hn ho ht hl hc HC HM
    go_enter Try.func13, Try.ntmps13
    go_upto_region 1 with (fail)
    rw [← hW]
    clear hW
    go_wp2
    go_ret2
    exact ⟨_, rfl, GOwn.nil _ _, HB.out⟩
theorem wbE_row {r : Rq} (h : r.hasRow = true) : r.wbE = r.bE := by unfold Rq.wbE Rq.bE; rw [if_pos h]
theorem Rq.wb_bad {r : Rq} (h : r.wbE ≠ 0) : r.wb = [] := by unfold Rq.wb; rw [if_neg h]
set_option maxHeartbeats 2000000 in
theorem bwrite_any (r : Rq) (ko : Option Addr) (kc : Nat) (w : World) (h : GRd ES w ko r.cmd.keys kc) (hf : CmFit r.cmd) (hkd : 0 ≤ r.kind ∧ r.kind ≤ 255) :
    Calls Try.prog 6 #[.agg (r.arr (.slice ko r.cmd.keys.length kc))] w fun e w' => ∃ v, e = .returned (.tuple #[v, .int .i64 r.wbE]) ∧ GOwn EY w' w.heap.size v r.wb ∧ Below w.heap.size w w' := by
  obtain ⟨W, hW⟩ : ∃ W, W = w.alloc (.cells (r.arr (.slice ko r.cmd.keys.length kc)) 28) := ⟨_, rfl⟩
  have hB0 : Below w.heap.size w W := by rw [hW]; exact g_alloc _ _
  have HB : Hid (Below w.heap.size w W) := hB0
  have HX : Hid (GBx W w.heap.size (r.cl (.slice ko r.cmd.keys.length kc))) := by rw [hW]; exact GBx.made w (r.cl _) _
  have HK := Hid.mk2 (h.below hB0)
  have HR := Hid.mk2 (fun W => hasRow_any r ko kc W h.len hkd)
  obtain ⟨R, hR⟩ : ∃ R, R = r.hasRow := ⟨_, rfl⟩
  rw [← hR] at HR
  cases R with
  | false =>
    have e1 : r.wbE = 8 := by unfold Rq.wbE; rw [← hR]; rfl
    have e2 : r.wb = [] := Rq.wb_bad (by rw [e1]; decide)
    rw [e1, e2]
    clear h hB0 hf hkd hR e1 e2
    obtain ⟨rk, ⟨kind, tenant, keys, value, flags, life, unique, by_⟩, rt, secret, on, close⟩ := r
    unfold Rq.arr at *
    unfold Rq.cl at HX
    dsimp only at *
    have c0 := HX.out.c 0 (by simp)
    have c1 := HX.out.c 1 (by simp)
    have c2 := HX.out.c 2 (by simp)
    have c3 := HX.out.c 3 (by simp)
    have c4 := HX.out.c 4 (by simp)
    have c5 := HX.out.c 5 (by simp)
    have c6 := HX.out.c 6 (by simp)
    have c7 := HX.out.c 7 (by simp)
    have c8 := HX.out.c 8 (by simp)
    have c9 := HX.out.c 9 (by simp)
    have c10 := HX.out.c 10 (by simp)
    have c11 := HX.out.c 11 (by simp)
    have c12 := HX.out.c 12 (by simp)
    have hlt := HX.out.lt
    simp only [List.getElem_cons_zero, List.getElem_cons_succ] at c0 c1 c2 c3 c4 c5 c6 c7 c8 c9 c10 c11 c12
    go_enter Try.func6, Try.ntmps6
    go_upto_region 1 with (fail)
    rw [← hW]
    clear hW
    go_wp2_with (go_at_call 12; refine (HR.out W).mono ?_; rintro e w1 ⟨rfl, hb1⟩; have HB1 := Hid.mk2 (g_on HB.out hb1); clear hb1)
    go_ret2
    exact ⟨_, rfl, GOwn.nil _ _, HB1.out⟩
  | true =>
    have hbl : r.wbE = 0 → r.body.length ≤ 1000 := fun e => body_len e hf
    have hwb : r.wbE = 0 → r.wb = pkt 177 (UInt8.ofNat r.kind.toNat) r.body := fun e => by unfold Rq.wb; rw [if_pos e]
    have hwn : r.wbE ≠ 0 → r.wb = [] := Rq.wb_bad
    have HBO := Hid.mk2 (fun W (h : GRd ES W ko r.cmd.keys kc) => bodyOf_any r ko kc W h hR.symm hf)
    rw [wbE_row hR.symm] at hbl hwb hwn ⊢
    have hkk : ((UInt8.ofNat r.kind.toNat).toNat : Int) = r.kind := by rw [UInt8.toNat_ofNat']; omega
    obtain ⟨E, hE⟩ : ∃ E, E = r.bE := ⟨_, rfl⟩
    obtain ⟨P, hP⟩ : ∃ P, P = r.wb := ⟨_, rfl⟩
    obtain ⟨B, hB⟩ : ∃ B, B = r.body := ⟨_, rfl⟩
    obtain ⟨K, hK⟩ : ∃ K, K = UInt8.ofNat r.kind.toNat := ⟨_, rfl⟩
    rw [← hE] at HBO hbl hwb hwn ⊢
    rw [← hP] at hwb hwn ⊢
    rw [← hB] at HBO hbl hwb
    rw [← hK] at hwb hkk
    have HKK := Hid.mk2 hkk
    have HBL := Hid.mk2 hbl
    have HWB := Hid.mk2 hwb
    have HWN := Hid.mk2 hwn
    clear h hB0 hf hkd hR hE hP hB hK hkk hbl hwb hwn
    obtain ⟨rk, ⟨kind, tenant, keys, value, flags, life, unique, by_⟩, rt, secret, on, close⟩ := r
    unfold Rq.arr at *
    unfold Rq.cl at HX
    dsimp only at *
    have c0 := HX.out.c 0 (by simp)
    have c1 := HX.out.c 1 (by simp)
    have c2 := HX.out.c 2 (by simp)
    have c3 := HX.out.c 3 (by simp)
    have c4 := HX.out.c 4 (by simp)
    have c5 := HX.out.c 5 (by simp)
    have c6 := HX.out.c 6 (by simp)
    have c7 := HX.out.c 7 (by simp)
    have c8 := HX.out.c 8 (by simp)
    have c9 := HX.out.c 9 (by simp)
    have c10 := HX.out.c 10 (by simp)
    have c11 := HX.out.c 11 (by simp)
    have c12 := HX.out.c 12 (by simp)
    have hlt := HX.out.lt
    simp only [List.getElem_cons_zero, List.getElem_cons_succ] at c0 c1 c2 c3 c4 c5 c6 c7 c8 c9 c10 c11 c12
    by_cases h0 : E = 0
    · subst h0
      go_enter Try.func6, Try.ntmps6
      go_upto_region 1 with (fail)
      rw [← hW]
      clear hW
      go_wp2_with (first
        | (go_at_call 12; refine (HR.out W).mono ?_; rintro e w1 ⟨rfl, hb1⟩; have HX1 := Hid.mk2 (HX.out.below hb1); have HK1 := Hid.mk2 (HK.out.below hb1); have HB1 := Hid.mk2 (g_on HB.out hb1); have d0 := HX1.out.c 0 (by simp); have d1 := HX1.out.c 1 (by simp); have d2 := HX1.out.c 2 (by simp); have d3 := HX1.out.c 3 (by simp); have d4 := HX1.out.c 4 (by simp); have d5 := HX1.out.c 5 (by simp); have d6 := HX1.out.c 6 (by simp); have d7 := HX1.out.c 7 (by simp); have d8 := HX1.out.c 8 (by simp); have d9 := HX1.out.c 9 (by simp); have d10 := HX1.out.c 10 (by simp); have d11 := HX1.out.c 11 (by simp); have d12 := HX1.out.c 12 (by simp); simp only [List.getElem_cons_zero, List.getElem_cons_succ] at d0 d1 d2 d3 d4 d5 d6 d7 d8 d9 d10 d11 d12; have hlt1 := HX1.out.lt; clear hb1)
        | (go_at_call 13; refine (HBO.out w1 HK1.out).mono ?_; rintro e w2 ⟨v2, rfl, ho2, hb2⟩; (first | rw [if_pos trivial] at ho2 | rw [if_pos rfl] at ho2); obtain ⟨a2, p2, hv2, hr2⟩ := ho2.rd okY; obtain ⟨n2, hn2⟩ : ∃ n2, n2 = B.length := ⟨_, rfl⟩; rw [← hn2] at hv2; subst hv2; have HR2 := Hid.mk2 hr2; have HN2 := Hid.mk2 hn2; have HX2 := Hid.mk2 (HX1.out.below hb2); have HB2 := Hid.mk2 (g_on HB1.out hb2); have f0 := HX2.out.c 0 (by simp); simp only [List.getElem_cons_zero] at f0; have hlt2 := HX2.out.lt; clear ho2 hb2 hr2 hn2)
        | (go_at_call 8; have hq := packet_any 177 K w2 a2 B p2 HR2.out n2 HN2.out (by have := HBL.out (by first | rfl | trivial); omega); rw [HKK.out, show (((177 : UInt8).toNat : Nat) : Int) = 177 from rfl] at hq; refine hq.mono ?_; rintro e w3 ⟨v3, rfl, ho3, hb3⟩; have e4 : ¬ 4096 < B.length := (by have := HBL.out (by first | rfl | trivial); omega); have HO3 := Hid.mk2 (ho3.down HB2.out.size); have HB3 := Hid.mk2 (g_on HB2.out hb3); have HE3 : Hid (pkE B = 0 ∧ pkL 177 K B = P) := ⟨if_neg e4, (if_neg e4).trans (HWB.out (by first | rfl | trivial)).symm⟩; clear ho3 hb3 hq e4))
      go_ret2
      exact ⟨_, by first | rfl | (rw [HE3.out.1]; rfl), by rw [← HE3.out.2]; exact HO3.out, HB3.out⟩
    · have h0b : (E == 0) = false := by simpa using h0
      have HH0 := Hid.mk2 h0
      go_enter Try.func6, Try.ntmps6
      go_upto_region 1 with (fail)
      rw [← hW]
      clear hW
      go_wp2_with (first
        | (go_at_call 12; refine (HR.out W).mono ?_; rintro e w1 ⟨rfl, hb1⟩; have HX1 := Hid.mk2 (HX.out.below hb1); have HK1 := Hid.mk2 (HK.out.below hb1); have HB1 := Hid.mk2 (g_on HB.out hb1); have d0 := HX1.out.c 0 (by simp); have d1 := HX1.out.c 1 (by simp); have d2 := HX1.out.c 2 (by simp); have d3 := HX1.out.c 3 (by simp); have d4 := HX1.out.c 4 (by simp); have d5 := HX1.out.c 5 (by simp); have d6 := HX1.out.c 6 (by simp); have d7 := HX1.out.c 7 (by simp); have d8 := HX1.out.c 8 (by simp); have d9 := HX1.out.c 9 (by simp); have d10 := HX1.out.c 10 (by simp); have d11 := HX1.out.c 11 (by simp); have d12 := HX1.out.c 12 (by simp); simp only [List.getElem_cons_zero, List.getElem_cons_succ] at d0 d1 d2 d3 d4 d5 d6 d7 d8 d9 d10 d11 d12; have hlt1 := HX1.out.lt; clear hb1)
        | (go_at_call 13; refine (HBO.out w1 HK1.out).mono ?_; rintro e w2 ⟨v2, rfl, ho2, hb2⟩; have HB2 := Hid.mk2 (g_on HB1.out hb2); clear ho2 hb2))
      go_ret2
      exact ⟨_, rfl, by rw [HWN.out HH0.out]; exact GOwn.nil _ _, HB2.out⟩
end Go.Proofs.Ytjmcgpdimhgegaa
