/-
  Several texts in one: BnR, BnY, BnN, BnS, Cut, RefNum, RCmd.
-/
import Derived.Test.YtjmcgpdimhgegaaG02
import Derived.Test.YtjmcgpdimhgegaaTxA
import Derived.Test.YtjmcgpdimhgegaaReader
import Derived.Test.YtjmcgpdimhgegaaCmd2
import Derived.Test.YtjmcgpdimhgegaaG01
import Derived.Deep.Cut
/-
  Package binary: Packet, Cut.
-/
namespace Go.Proofs.Ytjmcgpdimhgegaa
open Go.Proofs.Ytjmcgpdimhgegaa.It
open Go.RowKit
set_option linter.unusedSimpArgs false
set_option linter.unusedVariables false
set_option maxRecDepth 100000

def pkE (L : List UInt8) : Int := if 4096 < L.length then 3 else 0
def pkL (f k : UInt8) (L : List UInt8) : List UInt8 := if 4096 < L.length then [] else pkt f k L
theorem head_own (V : World) (f k : UInt8) (m : Nat) (hm : m < 4294967296) (a b c d : Int) (ha : a = ((UInt8.ofNat (m / 16777216)).toNat : Int)) (hb : b = ((UInt8.ofNat (m / 65536)).toNat : Int)) (hc : c = ((UInt8.ofNat (m / 256)).toNat : Int)) (hd : d = ((UInt8.ofNat m).toNat : Int)) :
    GOwn EY (V.alloc (.cells #[.int .u8 (f.toNat : Int), .int .u8 (k.toNat : Int), .int .u8 a, .int .u8 b, .int .u8 c, .int .u8 d] 5)) V.heap.size (.slice (some ⟨V.heap.size, 0, none⟩) 6 6) (f :: k :: be4 m) := by
  subst ha hb hc hd
  exact GOwn.fresh okY V (f :: k :: be4 m) _ rfl (by simp [be4])
set_option maxHeartbeats 1000000 in
theorem packet_any (f k : UInt8) (V : World) (ao : Option Addr) (L : List UInt8) (cap : Nat) (hr : GRd EY V ao L cap) (m : Nat) (hm : m = L.length) (hL : L.length ≤ 20000) :
    Calls Try.prog 8 #[.int .u8 (f.toNat : Int), .int .u8 (k.toNat : Int), .slice ao m cap] V fun e V' => ∃ v, e = .returned (.tuple #[v, .int .i64 (pkE L)]) ∧ GOwn EY V' V.heap.size v (pkL f k L) ∧ Below V.heap.size V V' := by
  have hmm : m ≤ 20000 := by omega
  have hmi : (m : Int) ≤ 20000 := by omega
  by_cases h0 : 4096 < L.length
  · have e1 : pkE L = 3 := if_pos h0
    have e2 : pkL f k L = [] := if_pos h0
    rw [e1, e2]
    have hmi2 : (4096 : Int) < (m : Int) := by omega
    clear hr hm hL h0 e1 e2
    go_enter Try.func8, Try.ntmps8
    go_wp2
    go_ret2
    exact ⟨_, rfl, GOwn.nil _ _, Below.refl _ _⟩
  have e1 : pkE L = 0 := if_neg h0
  have e2 : pkL f k L = (f :: k :: be4 m) ++ L := by unfold pkL pkt; rw [if_neg h0, ← hm]; rfl
  rw [e1, e2]
  have hmi2 : ¬ (4096 : Int) < (m : Int) := by omega
  have hm4 : m ≤ 4096 := by omega
  have hm4i : (m : Int) ≤ 4096 := by omega
  have HH := Hid.mk2 (head_own V f k m (by omega) ((m : Int) / 16777216) ((m : Int) / 65536) ((m : Int) / 256) ((m : Int) % 256) (by rw [UInt8.toNat_ofNat']; omega) (by rw [UInt8.toNat_ofNat']; omega) (by rw [UInt8.toNat_ofNat']; omega) (by rw [UInt8.toNat_ofNat']; omega))
  have HR := Hid.mk2 hr
  have HM := Hid.mk2 hm
  clear hr hm hL h0 e1 e2
  go_enter Try.func8, Try.ntmps8
  go_wp2_with (at_builtin; refine g_app okY rfl _ _ _ rfl rfl V.heap.size _ (f :: k :: be4 m) HH.out rfl ao cap L m HM.out rfl (HR.out.alloc _) (by have := HM.out; simp [be4]; omega) (by simp) ?_; intro v2 w2 hO2 hG2; have HO2 := Hid.mk2 hO2; have HG2 := Hid.mk2 (hG2.below HH.out (by simp)); clear hO2 hG2)
  go_ret2
  exact ⟨_, rfl, HO2.out, (g_alloc V _).trans HG2.out⟩

/-- an append to nil: a copy in memory of its own -/
theorem cutE_pos (f : UInt8) (L : List UInt8) : (cutP f L).b.length ≤ 4096 := by
  by_cases h : (cutP f L).n = 0
  · unfold cutP at h ⊢
    cases L with
    | nil => simp
    | cons x l =>
      dsimp only at h ⊢
      split at h
      · rename_i h1; rw [if_pos h1]; simp
      · rename_i h1
        rw [if_neg h1]
        split at h
        · rename_i h2; rw [if_pos h2]; simp
        · rename_i h2
          rw [if_neg h2]
          split at h
          · rename_i h3; rw [if_pos h3]; simp
          · rename_i h3
            rw [if_neg h3]
            split at h
            · rename_i h4; rw [if_pos h4]; simp
            · simp at h
  · exact (cut_only rfl h).2.2.2.1
def cutQ (f : UInt8) (L : List UInt8) : Ct := if 16384 < L.length then ⟨0, [], 0, 3⟩ else cutP f L
structure CopyR (V V' : World) (c : Ct) (e : Ending) : Prop where
  ex : ∃ v, e = .returned (.tuple #[.int .u8 (c.k.toNat : Int), v, .int .i64 (c.n : Int), .int .i64 c.e]) ∧ GOwn EY V' V.heap.size v c.b
  below : Below V.heap.size V V'
set_option maxHeartbeats 1000000 in
theorem cutc_any (f : UInt8) (V : World) (ao : Option Addr) (L : List UInt8) (cap : Nat) (hr : GRd EY V ao L cap) (m : Nat) (hm : m = L.length) (hL : L.length ≤ 20000) :
    Calls Try.prog 10 #[.int .u8 (f.toNat : Int), .slice ao m cap] V fun e V' => CopyR V V' (cutQ f L) e := by
  have hmi : (m : Int) ≤ 20000 := by omega
  by_cases h0 : 16384 < L.length
  · have e1 : cutQ f L = ⟨0, [], 0, 3⟩ := if_pos h0
    rw [e1]
    have hmi2 : (16384 : Int) < (m : Int) := by omega
    clear hr hm hL h0 e1
    go_enter Try.func10, Try.ntmps10
    go_wp2
    (try simp only [Exit.inBlock, Exit.then])
    refine bodyPost_ret (results_tmp4 rfl _ _ _) rfl ?_
    exact ⟨⟨_, rfl, GOwn.nil _ _⟩, Below.refl _ _⟩
  have e1 : cutQ f L = cutP f L := if_neg h0
  rw [e1]
  have hmi2 : ¬ (16384 : Int) < (m : Int) := by omega
  have HC := Hid.mk2 (cut_any f V ao L cap hr m hm hL)
  have hbl := cutE_pos f L
  obtain ⟨c, hc⟩ : ∃ c, c = cutP f L := ⟨_, rfl⟩
  rw [← hc] at HC hbl ⊢
  clear hr hm hL h0 e1 hc
  obtain ⟨ck, cb, cn, ce⟩ := c
  dsimp only at hbl
  have HBL := Hid.mk2 hbl
  clear hbl
  go_enter Try.func10, Try.ntmps10
  go_wp2_with (first
    | (go_at_call 18; refine HC.out.mono ?_; rintro e w1 ⟨⟨vo, vc, rfl, hv⟩, hb1⟩; dsimp only at hv; have HV := Hid.mk2 (hv.below hb1); have HB1 := Hid.mk2 hb1; obtain ⟨cl, hcl⟩ : ∃ cl, cl = cb.length := ⟨_, rfl⟩; rw [← hcl]; have HCL := Hid.mk2 hcl; clear hv hb1 hcl)
    | (at_builtin; refine g_app okY rfl _ _ _ rfl rfl V.heap.size _ [] (GOwn.nil _ _) rfl vo vc cb cl HCL.out rfl HV.out (by have := HBL.out; simp; omega) HB1.out.size ?_; intro v2 w2 hO2 hG2; have HO2 := Hid.mk2 hO2; have HG2 := Hid.mk2 (hG2.below (GOwn.nil (E := EY) _ _) HB1.out.size); clear hO2 hG2))
  (try simp only [Exit.inBlock, Exit.then])
  refine bodyPost_ret (results_tmp4 rfl _ _ _) rfl ?_
  exact ⟨⟨_, rfl, HO2.out⟩, HB1.out.trans HG2.out⟩
end Go.Proofs.Ytjmcgpdimhgegaa
/-
  Package binary: bodyOf, Write.
-/
namespace Go.Proofs.Ytjmcgpdimhgegaa
open Go.Proofs.Ytjmcgpdimhgegaa.It
open Go.RowKit
set_option linter.unusedSimpArgs false
set_option linter.unusedVariables false
set_option maxRecDepth 100000

/-- the two families' words for what is read, and for what a call made -/
theorem tl_of_rd {w : World} {ko : Option Addr} {kc : Nat} {ks : List ByteArray} (h : GRd ES w ko ks kc) : Tl w ko ks kc := by
  refine ⟨h.hl, h.hc, h.hn, ?_⟩
  rcases h.at_ with e | ⟨b, off, e, hb, hc⟩
  · exact .inl e
  · refine .inr ⟨b, off, e, hb, fun j hj => ?_⟩
    have := hc j hj 0 (by decide)
    simpa [ES] using this
theorem flat_y : ∀ l : List UInt8, l.flatMap EY.cells = l.map bcell
  | [] => rfl
  | a :: t => by rw [List.flatMap_cons, flat_y t]; rfl
theorem own_of {w : World} {base : Nat} {v : Value} {l : List UInt8} (h : Own w base v l) : GOwn EY w base v l := by
  unfold GOwn
  rw [flat_y]
  exact h
theorem of_own {w : World} {base : Nat} {v : Value} {l : List UInt8} (h : GOwn EY w base v l) : Own w base v l := by
  unfold GOwn at h
  rw [flat_y] at h
  exact h
def Rq.bE (r : Rq) : Int := if r.kind = 1 then r.cmd.ckE else 0
theorem one_own (V : World) (c : UInt8) : GOwn EY (V.alloc (.cells #[.int .u8 (c.toNat : Int)] 5)) V.heap.size (.slice (some ⟨V.heap.size, 0, none⟩) 1 1) [c] := GOwn.fresh okY V [c] _ rfl (by simp)
set_option maxHeartbeats 2000000 in
theorem bodyOf_any (r : Rq) (ko : Option Addr) (kc : Nat) (w : World) (h : GRd ES w ko r.cmd.keys kc) (hrow : r.hasRow = true) (hf : CmFit r.cmd) :
    Calls Try.prog 13 #[.agg (r.arr (.slice ko r.cmd.keys.length kc))] w fun e w' => ∃ v, e = .returned (.tuple #[v, .int .i64 r.bE]) ∧ GOwn EY w' w.heap.size v (if r.bE = 0 then r.body else []) ∧ Below w.heap.size w w' := by
  obtain ⟨⟨k1, k2⟩, hc, hn, ho, ht, hl⟩ := row_parts hrow
  obtain ⟨W, hW⟩ : ∃ W, W = w.alloc (.cells (r.arr (.slice ko r.cmd.keys.length kc)) 28) := ⟨_, rfl⟩
  have hB0 : Below w.heap.size w W := by rw [hW]; exact g_alloc _ _
  have HB : Hid (Below w.heap.size w W) := hB0
  have HX : Hid (GBx W w.heap.size (r.cl (.slice ko r.cmd.keys.length kc))) := by rw [hW]; exact GBx.made w (r.cl _) _
  have HK := Hid.mk2 (h.below hB0)
  have hk : r.kind = 1 ∨ r.kind = 2 ∨ r.kind = 3 ∨ r.kind = 4 ∨ r.kind = 5 := by omega
  have HC := Hid.mk2 (fun W (h : GRd ES W ko r.cmd.keys kc) => checkCommand_any r.cmd ko kc W h)
  have HM : Hid (r.cmd.may = true → ∀ W, GRd ES W ko r.cmd.keys kc → Calls Try.prog 24 #[.agg (r.cmd.arr (.slice ko r.cmd.keys.length kc))] W fun e w' => ∃ v', e = .returned (.tuple #[v', .int .i64 0]) ∧ GOwn EY w' W.heap.size v' (cmdB r.cmd.cmd) ∧ Below W.heap.size W w') := by
    intro hm W hr
    have hok := may_ok hm hf
    have h1 := command_any r.cmd.cmd W ko kc (tl_of_rd hr) hf.good
    have e1 : cmdE r.cmd.cmd = 0 := if_pos hok
    have e2 : cmdBB r.cmd.cmd = cmdB r.cmd.cmd := if_pos hok
    rw [e1, e2, arr_cells, Cm.cmd_cm hf] at h1
    exact h1.mono (by rintro e w' ⟨v', a, b, c⟩; exact ⟨v', a, own_of b, c⟩)
  have hckE : r.cmd.ckE = 0 → r.cmd.may = true := by
    intro e
    unfold Cm.ckE at e
    by_cases hm : r.cmd.may = true
    · exact hm
    · rw [if_neg hm] at e; cases e
  clear h hB0 hrow hf k1 k2
  obtain ⟨rk, ⟨kind, tenant, keys, value, flags, life, unique, by_⟩, rt, secret, on, close⟩ := r
  unfold Rq.bE Rq.body
  unfold Rq.arr at hW ⊢
  unfold Rq.cl at HX
  unfold Cm.arr at HC HM
  dsimp only at *
  have c0 := HX.out.c 0 (by simp)
  have c1 := HX.out.c 1 (by simp)
  have c2 := HX.out.c 2 (by simp)
  have c3 := HX.out.c 3 (by simp)
  have c4 := HX.out.c 4 (by simp)
  have c5 := HX.out.c 5 (by simp)
  have c6 := HX.out.c 6 (by simp)
  have c7 := HX.out.c 7 (by simp)
  have c8 := HX.out.c 8 (by simp)
  have c9 := HX.out.c 9 (by simp)
  have c10 := HX.out.c 10 (by simp)
  have c11 := HX.out.c 11 (by simp)
  have hlt := HX.out.lt
  simp only [List.getElem_cons_zero, List.getElem_cons_succ] at c0 c1 c2 c3 c4 c5 c6 c7 c8 c9 c10 c11
  rcases hk with rfl | rfl | rfl | rfl | rfl
  · rw [if_pos rfl, if_pos rfl]
    obtain ⟨CC, hCC⟩ : ∃ CC, CC = Cm.mk kind tenant keys value flags life unique by_ := ⟨_, rfl⟩
    rw [← hCC] at HC HM hckE ⊢
    obtain ⟨E, hE⟩ : ∃ E, E = CC.ckE := ⟨_, rfl⟩
    rw [← hE] at HC hckE ⊢
    have HCK := Hid.mk2 hckE
    obtain ⟨BB, hBB⟩ : ∃ BB, BB = cmdB CC.cmd := ⟨_, rfl⟩
    rw [← hBB] at HM ⊢
    clear hCC hE hckE hBB hn ho ht hl hc
    by_cases h0 : E = 0
    · rw [if_pos h0]
      subst h0
      have HMM := Hid.mk2 (HM.out (HCK.out rfl))
      clear HM HCK
      go_enter Try.func13, Try.ntmps13
      go_upto_region 1 with (fail)
      rw [← hW]
      clear hW
      go_wp2_with (first
        | (go_at_call 23; refine (HC.out W HK.out).mono ?_; rintro e w1 ⟨rfl, hb1⟩; have HX1 := Hid.mk2 (HX.out.below hb1); have HK1 := Hid.mk2 (HK.out.below hb1); have HB1 := Hid.mk2 (g_on HB.out hb1); have d1 := HX1.out.c 1 (by simp); have d2 := HX1.out.c 2 (by simp); have d3 := HX1.out.c 3 (by simp); have d4 := HX1.out.c 4 (by simp); have d5 := HX1.out.c 5 (by simp); have d6 := HX1.out.c 6 (by simp); have d7 := HX1.out.c 7 (by simp); have d8 := HX1.out.c 8 (by simp); simp only [List.getElem_cons_zero, List.getElem_cons_succ] at d1 d2 d3 d4 d5 d6 d7 d8; have hlt1 := HX1.out.lt; clear hb1)
        | (go_at_call 24; refine (HMM.out w1 HK1.out).mono ?_; rintro e w2 ⟨v2, rfl, ho2, hb2⟩; have HO2 := Hid.mk2 (ho2.down HB1.out.size); have HB2 := Hid.mk2 (g_on HB1.out hb2); clear ho2 hb2))
      go_ret2
      exact ⟨_, rfl, HO2.out, HB2.out⟩
    · rw [if_neg h0]
      have HH0 := Hid.mk2 h0
      go_enter Try.func13, Try.ntmps13
      go_upto_region 1 with (fail)
      rw [← hW]
      clear hW
      go_wp2_with (go_at_call 23; refine (HC.out W HK.out).mono ?_; rintro e w1 ⟨rfl, hb1⟩; have HB1 := Hid.mk2 (g_on HB.out hb1); clear hb1)
      go_ret2
      exact ⟨_, rfl, GOwn.nil _ _, HB1.out⟩
  · rw [if_neg (by decide), if_pos rfl, if_neg (by decide), if_pos rfl]
    obtain ⟨t0, t1, s0, s1⟩ := hl rfl
    have hs17 : secret.size ≤ 16 := s1
    have HO1 := Hid.mk2 (one_own W (UInt8.ofNat rt.toNat))
    have ht256 : ((UInt8.ofNat rt.toNat).toNat : Int) = rt := by rw [UInt8.toNat_ofNat']; omega
    rw [ht256] at HO1
    have HS := Hid.mk2 hs17
    have t3 : rt ≤ 3 := by omega
    clear hn ho ht hl hc HC HM ht256 s0 s1 hs17 t1
    go_enter Try.func13, Try.ntmps13
    go_upto_region 1 with (fail)
    rw [← hW]
    clear hW
    go_wp2_with (at_builtin; refine app_text rfl _ _ rfl W.heap.size _ _ (of_own HO1.out) rfl secret rfl (by have := HS.out; simp; omega) (by simp) ?_; intro v2 w2 ho2 hg2; have HO2 := Hid.mk2 (GOwn.down (own_of ho2) HB.out.size); have HB2 := Hid.mk2 (g_on HB.out ((g_alloc W _).trans ((Below.refl _ _).grown hg2.grown (by simp) (fun k hk => (HO1.out.lt k hk).1)))); clear ho2 hg2)
    go_ret2
    exact ⟨_, rfl, HO2.out, HB2.out⟩
  · rw [if_neg (by decide), if_pos rfl, if_neg (by decide), if_neg (by decide), if_pos rfl]
    have HO0 := Hid.mk2 (one_own W 0)
    have HO1 := Hid.mk2 (one_own W 1)
    clear hn ho ht hl hc HC HM
    cases on
    · go_enter Try.func13, Try.ntmps13
      go_upto_region 1 with (fail)
      rw [← hW]
      clear hW
      go_wp2
      go_ret2
      exact ⟨_, rfl, GOwn.down HO0.out HB.out.size, g_on HB.out (g_alloc _ _)⟩
    · go_enter Try.func13, Try.ntmps13
      go_upto_region 1 with (fail)
      rw [← hW]
      clear hW
      go_wp2
      go_ret2
      exact ⟨_, rfl, GOwn.down HO1.out HB.out.size, g_on HB.out (g_alloc _ _)⟩
  all_goals
    rw [if_neg (by decide), if_pos rfl, if_neg (by decide), if_neg (by decide), if_neg (by decide)]
    clear hn ho ht hl hc HC HM
    go_enter Try.func13, Try.ntmps13
    go_upto_region 1 with (fail)
    rw [← hW]
    clear hW
    go_wp2
    go_ret2
    exact ⟨_, rfl, GOwn.nil _ _, HB.out⟩
theorem wbE_row {r : Rq} (h : r.hasRow = true) : r.wbE = r.bE := by unfold Rq.wbE Rq.bE; rw [if_pos h]
theorem Rq.wb_bad {r : Rq} (h : r.wbE ≠ 0) : r.wb = [] := by unfold Rq.wb; rw [if_neg h]
set_option maxHeartbeats 2000000 in
theorem bwrite_any (r : Rq) (ko : Option Addr) (kc : Nat) (w : World) (h : GRd ES w ko r.cmd.keys kc) (hf : CmFit r.cmd) (hkd : 0 ≤ r.kind ∧ r.kind ≤ 255) :
    Calls Try.prog 6 #[.agg (r.arr (.slice ko r.cmd.keys.length kc))] w fun e w' => ∃ v, e = .returned (.tuple #[v, .int .i64 r.wbE]) ∧ GOwn EY w' w.heap.size v r.wb ∧ Below w.heap.size w w' := by
  obtain ⟨W, hW⟩ : ∃ W, W = w.alloc (.cells (r.arr (.slice ko r.cmd.keys.length kc)) 28) := ⟨_, rfl⟩
  have hB0 : Below w.heap.size w W := by rw [hW]; exact g_alloc _ _
  have HB : Hid (Below w.heap.size w W) := hB0
  have HX : Hid (GBx W w.heap.size (r.cl (.slice ko r.cmd.keys.length kc))) := by rw [hW]; exact GBx.made w (r.cl _) _
  have HK := Hid.mk2 (h.below hB0)
  have HR := Hid.mk2 (fun W => hasRow_any r ko kc W h.len hkd)
  obtain ⟨R, hR⟩ : ∃ R, R = r.hasRow := ⟨_, rfl⟩
  rw [← hR] at HR
  cases R with
  | false =>
    have e1 : r.wbE = 8 := by unfold Rq.wbE; rw [← hR]; rfl
    have e2 : r.wb = [] := Rq.wb_bad (by rw [e1]; decide)
    rw [e1, e2]
    clear h hB0 hf hkd hR e1 e2
    obtain ⟨rk, ⟨kind, tenant, keys, value, flags, life, unique, by_⟩, rt, secret, on, close⟩ := r
    unfold Rq.arr at *
    unfold Rq.cl at HX
    dsimp only at *
    have c0 := HX.out.c 0 (by simp)
    have c1 := HX.out.c 1 (by simp)
    have c2 := HX.out.c 2 (by simp)
    have c3 := HX.out.c 3 (by simp)
    have c4 := HX.out.c 4 (by simp)
    have c5 := HX.out.c 5 (by simp)
    have c6 := HX.out.c 6 (by simp)
    have c7 := HX.out.c 7 (by simp)
    have c8 := HX.out.c 8 (by simp)
    have c9 := HX.out.c 9 (by simp)
    have c10 := HX.out.c 10 (by simp)
    have c11 := HX.out.c 11 (by simp)
    have c12 := HX.out.c 12 (by simp)
    have hlt := HX.out.lt
    simp only [List.getElem_cons_zero, List.getElem_cons_succ] at c0 c1 c2 c3 c4 c5 c6 c7 c8 c9 c10 c11 c12
    go_enter Try.func6, Try.ntmps6
    go_upto_region 1 with (fail)
    rw [← hW]
    clear hW
    go_wp2_with (go_at_call 12; refine (HR.out W).mono ?_; rintro e w1 ⟨rfl, hb1⟩; have HB1 := Hid.mk2 (g_on HB.out hb1); clear hb1)
    go_ret2
    exact ⟨_, rfl, GOwn.nil _ _, HB1.out⟩
  | true =>
    have hbl : r.wbE = 0 → r.body.length ≤ 1000 := fun e => body_len e hf
    have hwb : r.wbE = 0 → r.wb = pkt 177 (UInt8.ofNat r.kind.toNat) r.body := fun e => by unfold Rq.wb; rw [if_pos e]
    have hwn : r.wbE ≠ 0 → r.wb = [] := Rq.wb_bad
    have HBO := Hid.mk2 (fun W (h : GRd ES W ko r.cmd.keys kc) => bodyOf_any r ko kc W h hR.symm hf)
    rw [wbE_row hR.symm] at hbl hwb hwn ⊢
    have hkk : ((UInt8.ofNat r.kind.toNat).toNat : Int) = r.kind := by rw [UInt8.toNat_ofNat']; omega
    obtain ⟨E, hE⟩ : ∃ E, E = r.bE := ⟨_, rfl⟩
    obtain ⟨P, hP⟩ : ∃ P, P = r.wb := ⟨_, rfl⟩
    obtain ⟨B, hB⟩ : ∃ B, B = r.body := ⟨_, rfl⟩
    obtain ⟨K, hK⟩ : ∃ K, K = UInt8.ofNat r.kind.toNat := ⟨_, rfl⟩
    rw [← hE] at HBO hbl hwb hwn ⊢
    rw [← hP] at hwb hwn ⊢
    rw [← hB] at HBO hbl hwb
    rw [← hK] at hwb hkk
    have HKK := Hid.mk2 hkk
    have HBL := Hid.mk2 hbl
    have HWB := Hid.mk2 hwb
    have HWN := Hid.mk2 hwn
    clear h hB0 hf hkd hR hE hP hB hK hkk hbl hwb hwn
    obtain ⟨rk, ⟨kind, tenant, keys, value, flags, life, unique, by_⟩, rt, secret, on, close⟩ := r
    unfold Rq.arr at *
    unfold Rq.cl at HX
    dsimp only at *
    have c0 := HX.out.c 0 (by simp)
    have c1 := HX.out.c 1 (by simp)
    have c2 := HX.out.c 2 (by simp)
    have c3 := HX.out.c 3 (by simp)
    have c4 := HX.out.c 4 (by simp)
    have c5 := HX.out.c 5 (by simp)
    have c6 := HX.out.c 6 (by simp)
    have c7 := HX.out.c 7 (by simp)
    have c8 := HX.out.c 8 (by simp)
    have c9 := HX.out.c 9 (by simp)
    have c10 := HX.out.c 10 (by simp)
    have c11 := HX.out.c 11 (by simp)
    have c12 := HX.out.c 12 (by simp)
    have hlt := HX.out.lt
    simp only [List.getElem_cons_zero, List.getElem_cons_succ] at c0 c1 c2 c3 c4 c5 c6 c7 c8 c9 c10 c11 c12
    by_cases h0 : E = 0
    · subst h0
      go_enter Try.func6, Try.ntmps6
      go_upto_region 1 with (fail)
      rw [← hW]
      clear hW
      go_wp2_with (first
        | (go_at_call 12; refine (HR.out W).mono ?_; rintro e w1 ⟨rfl, hb1⟩; have HX1 := Hid.mk2 (HX.out.below hb1); have HK1 := Hid.mk2 (HK.out.below hb1); have HB1 := Hid.mk2 (g_on HB.out hb1); have d0 := HX1.out.c 0 (by simp); have d1 := HX1.out.c 1 (by simp); have d2 := HX1.out.c 2 (by simp); have d3 := HX1.out.c 3 (by simp); have d4 := HX1.out.c 4 (by simp); have d5 := HX1.out.c 5 (by simp); have d6 := HX1.out.c 6 (by simp); have d7 := HX1.out.c 7 (by simp); have d8 := HX1.out.c 8 (by simp); have d9 := HX1.out.c 9 (by simp); have d10 := HX1.out.c 10 (by simp); have d11 := HX1.out.c 11 (by simp); have d12 := HX1.out.c 12 (by simp); simp only [List.getElem_cons_zero, List.getElem_cons_succ] at d0 d1 d2 d3 d4 d5 d6 d7 d8 d9 d10 d11 d12; have hlt1 := HX1.out.lt; clear hb1)
        | (go_at_call 13; refine (HBO.out w1 HK1.out).mono ?_; rintro e w2 ⟨v2, rfl, ho2, hb2⟩; (first | rw [if_pos trivial] at ho2 | rw [if_pos rfl] at ho2); obtain ⟨a2, p2, hv2, hr2⟩ := ho2.rd okY; obtain ⟨n2, hn2⟩ : ∃ n2, n2 = B.length := ⟨_, rfl⟩; rw [← hn2] at hv2; subst hv2; have HR2 := Hid.mk2 hr2; have HN2 := Hid.mk2 hn2; have HX2 := Hid.mk2 (HX1.out.below hb2); have HB2 := Hid.mk2 (g_on HB1.out hb2); have f0 := HX2.out.c 0 (by simp); simp only [List.getElem_cons_zero] at f0; have hlt2 := HX2.out.lt; clear ho2 hb2 hr2 hn2)
        | (go_at_call 8; have hq := packet_any 177 K w2 a2 B p2 HR2.out n2 HN2.out (by have := HBL.out (by first | rfl | trivial); omega); rw [HKK.out, show (((177 : UInt8).toNat : Nat) : Int) = 177 from rfl] at hq; refine hq.mono ?_; rintro e w3 ⟨v3, rfl, ho3, hb3⟩; have e4 : ¬ 4096 < B.length := (by have := HBL.out (by first | rfl | trivial); omega); have HO3 := Hid.mk2 (ho3.down HB2.out.size); have HB3 := Hid.mk2 (g_on HB2.out hb3); have HE3 : Hid (pkE B = 0 ∧ pkL 177 K B = P) := ⟨if_neg e4, (if_neg e4).trans (HWB.out (by first | rfl | trivial)).symm⟩; clear ho3 hb3 hq e4))
      go_ret2
      exact ⟨_, by first | rfl | (rw [HE3.out.1]; rfl), by rw [← HE3.out.2]; exact HO3.out, HB3.out⟩
    · have h0b : (E == 0) = false := by simpa using h0
      have HH0 := Hid.mk2 h0
      go_enter Try.func6, Try.ntmps6
      go_upto_region 1 with (fail)
      rw [← hW]
      clear hW
      go_wp2_with (first
        | (go_at_call 12; refine (HR.out W).mono ?_; rintro e w1 ⟨rfl, hb1⟩; have HX1 := Hid.mk2 (HX.out.below hb1); have HK1 := Hid.mk2 (HK.out.below hb1); have HB1 := Hid.mk2 (g_on HB.out hb1); have d0 := HX1.out.c 0 (by simp); have d1 := HX1.out.c 1 (by simp); have d2 := HX1.out.c 2 (by simp); have d3 := HX1.out.c 3 (by simp); have d4 := HX1.out.c 4 (by simp); have d5 := HX1.out.c 5 (by simp); have d6 := HX1.out.c 6 (by simp); have d7 := HX1.out.c 7 (by simp); have d8 := HX1.out.c 8 (by simp); have d9 := HX1.out.c 9 (by simp); have d10 := HX1.out.c 10 (by simp); have d11 := HX1.out.c 11 (by simp); have d12 := HX1.out.c 12 (by simp); simp only [List.getElem_cons_zero, List.getElem_cons_succ] at d0 d1 d2 d3 d4 d5 d6 d7 d8 d9 d10 d11 d12; have hlt1 := HX1.out.lt; clear hb1)
        | (go_at_call 13; refine (HBO.out w1 HK1.out).mono ?_; rintro e w2 ⟨v2, rfl, ho2, hb2⟩; have HB2 := Hid.mk2 (g_on HB1.out hb2); clear ho2 hb2))
      go_ret2
      exact ⟨_, rfl, by rw [HWN.out HH0.out]; exact GOwn.nil _ _, HB2.out⟩
end Go.Proofs.Ytjmcgpdimhgegaa
/-
  The document's SameCommand of a command and none (as text TxB has it, over fewer imports).
-/
namespace Go.Proofs.Ytjmcgpdimhgegaa
open Go.Proofs.Ytjmcgpdimhgegaa.It
open Go.RowKit
set_option linter.unusedSimpArgs false
set_option linter.unusedVariables false
set_option maxRecDepth 100000

theorem em0 : (⟨#[]⟩ : ByteArray).toList.isEmpty = true := by rw [ByteArray.toList_eq]; rfl
theorem isEmpty_eq {s : ByteArray} (h : s.toList.isEmpty = true) : s = ⟨#[]⟩ := by
  rw [ByteArray.toList_eq] at h
  apply bl_inj
  have h2 : (bl s).isEmpty = true := h
  cases e : bl s with
  | nil => rfl
  | cons a l => rw [e] at h2; simp at h2
set_option maxHeartbeats 4000000 in
theorem samez_any (c : Cm) (ko : Option Addr) (kc : Nat) (w : World) (hlen : c.keys.length ≤ 9223372036854775807) :
    Calls Try.prog 14 #[.agg (c.arr (.slice ko c.keys.length kc)), .agg (cz.arr (.slice none 0 0))] w fun e w' => e = .returned (.bool c.isNone) ∧ Below w.heap.size w w' := by
  have HB := Hid.mk2 (g_on (g_alloc w (.cells (c.arr (.slice ko c.keys.length kc)) 26)) (g_alloc _ (.cells (cz.arr (.slice none 0 0)) 26)))
  obtain ⟨kind, tenant, keys, value, flags, life, unique, by_⟩ := c
  unfold Cm.isNone
  unfold Cm.arr cz at *
  dsimp only at *
  by_cases h0 : kind = 0
  case neg =>
    have n0 := h0
    clear h0
    go_enter Try.func14, Try.ntmps14
    go_wp2
    go_ret
    exact ⟨by simp [n0], HB.out⟩
  case pos =>
  subst h0
  by_cases h1 : tenant = 0
  case neg =>
    have n1 := h1
    clear h1
    go_enter Try.func14, Try.ntmps14
    go_wp2
    go_ret
    exact ⟨by simp [n1], HB.out⟩
  case pos =>
  subst h1
  by_cases h3 : value = ⟨#[]⟩
  case neg =>
    have n3 : value.toList.isEmpty = false := by cases e : value.toList.isEmpty; rfl; exact absurd (isEmpty_eq e) h3
    clear h3
    go_enter Try.func14, Try.ntmps14
    go_wp2
    go_ret
    exact ⟨by simp [n3], HB.out⟩
  case pos =>
  subst h3
  by_cases h4 : flags = 0
  case neg =>
    have n4 := h4
    clear h4
    go_enter Try.func14, Try.ntmps14
    go_wp2
    go_ret
    exact ⟨by simp [n4], HB.out⟩
  case pos =>
  subst h4
  by_cases h5 : life = 0
  case neg =>
    have n5 := h5
    clear h5
    go_enter Try.func14, Try.ntmps14
    go_wp2
    go_ret
    exact ⟨by simp [n5], HB.out⟩
  case pos =>
  subst h5
  by_cases h6 : unique = 0
  case neg =>
    have n6 := h6
    clear h6
    go_enter Try.func14, Try.ntmps14
    go_wp2
    go_ret
    exact ⟨by simp [n6], HB.out⟩
  case pos =>
  subst h6
  by_cases h7 : by_ = 0
  case neg =>
    have n7 := h7
    clear h7
    go_enter Try.func14, Try.ntmps14
    go_wp2
    go_ret
    exact ⟨by simp [n7], HB.out⟩
  case pos =>
  subst h7
  by_cases h2 : keys = []
  case neg =>
    have n2 := h2
    have m2 : ((keys.length : Int) != 0) = true := by simp [h2]
    clear h2
    go_enter Try.func14, Try.ntmps14
    go_wp2
    go_ret
    exact ⟨by simp [n2], HB.out⟩
  case pos =>
  subst h2
  go_enter Try.func14, Try.ntmps14
  go_wp2
  go_loopw [5] (fun i wr => i = .int .i64 0 ∧ wr = (w.alloc (.cells #[.int .u8 0, .int .i64 0, .slice ko 0 kc, .string ⟨#[]⟩, .int .u32 0, .int .i64 0, .int .u64 0, .int .u64 0] 26)).alloc (.cells #[.int .u8 0, .int .i64 0, .slice none 0 0, .string ⟨#[]⟩, .int .u32 0, .int .i64 0, .int .u64 0, .int .u64 0] 26)) (fun i _ => 0)
  case atStart => exact ⟨rfl, rfl⟩
  case round =>
    obtain ⟨rfl, rfl⟩ := hrel
    go_wp2
    go_ret
    exact ⟨by simp [em0], HB.out⟩
end Go.Proofs.Ytjmcgpdimhgegaa
/-
  The document's packets: Made, Packet, length, Cut.
-/
namespace Go.Proofs.Ytjmcgpdimhgegaa
open Go.Proofs.Ytjmcgpdimhgegaa.It
open Go.RowKit
set_option linter.unusedSimpArgs false
set_option linter.unusedVariables false
set_option maxRecDepth 100000

set_option maxHeartbeats 1000000 in
theorem rmade_any (f k : UInt8) (V : World) (ao : Option Addr) (L : List UInt8) (cap : Nat) (hr : GRd EY V ao L cap) (m : Nat) (hm : m = L.length) (hL : L.length ≤ 4096) :
    Calls Try.prog 17 #[.int .u8 (f.toNat : Int), .int .u8 (k.toNat : Int), .slice ao m cap] V fun e V' => ∃ v, e = .returned v ∧ GOwn EY V' V.heap.size v (pkt f k L) ∧ Below V.heap.size V V' := by
  have hm4 : m ≤ 4096 := by omega
  have hm4i : (m : Int) ≤ 4096 := by omega
  have e2 : pkt f k L = (f :: k :: be4 m) ++ L := by unfold pkt; rw [← hm]; rfl
  rw [e2]
  have HH := Hid.mk2 (head_own V f k m (by omega) ((m : Int) / 16777216) ((m : Int) / 65536) ((m : Int) / 256) ((m : Int) % 256) (by rw [UInt8.toNat_ofNat']; omega) (by rw [UInt8.toNat_ofNat']; omega) (by rw [UInt8.toNat_ofNat']; omega) (by rw [UInt8.toNat_ofNat']; omega))
  have HR := Hid.mk2 hr
  have HM := Hid.mk2 hm
  have t1 : Int.tdiv (m : Int) 16777216 = (m : Int) / 16777216 := Int.tdiv_eq_ediv_of_nonneg (by omega)
  have t2 : Int.tdiv (m : Int) 65536 = (m : Int) / 65536 := Int.tdiv_eq_ediv_of_nonneg (by omega)
  have t3 : Int.tdiv (m : Int) 256 = (m : Int) / 256 := Int.tdiv_eq_ediv_of_nonneg (by omega)
  clear hr hm hL e2
  go_enter Try.func17, Try.ntmps17
  go_wp2_with (at_builtin; refine g_app okY rfl _ _ _ rfl rfl V.heap.size _ (f :: k :: be4 m) HH.out rfl ao cap L m HM.out rfl (HR.out.alloc _) (by have := HM.out; simp [be4]; omega) (by simp) ?_; intro v2 w2 hO2 hG2; have HO2 := Hid.mk2 hO2; have HG2 := Hid.mk2 (hG2.below HH.out (by simp)); clear hO2 hG2)
  go_ret
  exact ⟨_, rfl, HO2.out, (g_alloc V _).trans HG2.out⟩
set_option maxHeartbeats 1000000 in
theorem rpacket_any (f k : UInt8) (V : World) (ao : Option Addr) (L : List UInt8) (cap : Nat) (hr : GRd EY V ao L cap) (m : Nat) (hm : m = L.length) (hL : L.length ≤ 20000) :
    Calls Try.prog 9 #[.int .u8 (f.toNat : Int), .int .u8 (k.toNat : Int), .slice ao m cap] V fun e V' => ∃ v, e = .returned (.tuple #[v, .int .i64 (pkE L)]) ∧ GOwn EY V' V.heap.size v (pkL f k L) ∧ Below V.heap.size V V' := by
  by_cases h0 : 4096 < L.length
  · have e1 : pkE L = 3 := if_pos h0
    have e2 : pkL f k L = [] := if_pos h0
    rw [e1, e2]
    have hmi2 : (4096 : Int) < (m : Int) := by omega
    clear hr hm hL h0 e1 e2
    go_enter Try.func9, Try.ntmps9
    go_wp2
    go_ret2
    exact ⟨_, rfl, GOwn.nil _ _, Below.refl _ _⟩
  have e1 : pkE L = 0 := if_neg h0
  have e2 : pkL f k L = pkt f k L := if_neg h0
  rw [e1, e2]
  have hmi2 : ¬ (4096 : Int) < (m : Int) := by omega
  have H := Hid.mk2 (rmade_any f k V ao L cap hr m hm (by omega))
  clear hr hm hL h0 e1 e2
  go_enter Try.func9, Try.ntmps9
  go_wp2_with (go_at_call 17; refine H.out.mono ?_; rintro e w1 ⟨v1, rfl, ho1, hb1⟩; have HO1 := Hid.mk2 ho1; have HB1 := Hid.mk2 hb1; clear ho1 hb1)
  go_ret2
  exact ⟨_, rfl, HO1.out, HB1.out⟩
set_option maxHeartbeats 1000000 in
theorem rlength_any (V : World) (b off cap : Nat) (L : List UInt8) (hr : GRd EY V (some ⟨b, off, none⟩) L cap) (m : Nat) (hm : m = L.length) (h6 : 6 ≤ m) :
    Calls Try.prog 19 #[.slice (some ⟨b, off, none⟩) m cap] V fun e V' => e = .returned (.int .i64 (len4 L : Int)) ∧ Below V.heap.size V V' := by
  obtain ⟨x, k, a1, a2, a3, a4, l6, rfl⟩ : ∃ x k a1 a2 a3 a4 l6, L = x :: k :: a1 :: a2 :: a3 :: a4 :: l6 := by
    have h : 6 ≤ L.length := by omega
    match L, h with
    | x :: k :: a1 :: a2 :: a3 :: a4 :: l6, _ => exact ⟨x, k, a1, a2, a3, a4, l6, rfl⟩
  obtain ⟨b', off', e, hb, hc⟩ := hr.uy (by simp)
  cases e
  have c2 : V.cell? ⟨b, off + 2, none⟩ = some (.int .u8 (a1.toNat : Int)) := hc 2 (by simp)
  have c3 : V.cell? ⟨b, off + 3, none⟩ = some (.int .u8 (a2.toNat : Int)) := hc 3 (by simp)
  have c4 : V.cell? ⟨b, off + 4, none⟩ = some (.int .u8 (a3.toNat : Int)) := hc 4 (by simp)
  have c5 : V.cell? ⟨b, off + 5, none⟩ = some (.int .u8 (a4.toNat : Int)) := hc 5 (by simp)
  have b1 : (a1.toNat : Int) ≤ 255 := by have := a1.toNat_lt; omega
  have b2 : (a2.toNat : Int) ≤ 255 := by have := a2.toNat_lt; omega
  have b3 : (a3.toNat : Int) ≤ 255 := by have := a3.toNat_lt; omega
  have b4 : (a4.toNat : Int) ≤ 255 := by have := a4.toNat_lt; omega
  have hN : ((len4 (x :: k :: a1 :: a2 :: a3 :: a4 :: l6) : Nat) : Int) = (a1.toNat : Int) * 16777216 + (a2.toNat : Int) * 65536 + (a3.toNat : Int) * 256 + (a4.toNat : Int) := by
    show ((a1.toNat * 16777216 + a2.toNat * 65536 + a3.toNat * 256 + a4.toNat : Nat) : Int) = _
    omega
  rw [hN]
  clear hr hm hc hN
  go_enter Try.func19, Try.ntmps19
  go_wp2
  go_quiet (fail)
  go_wp2
  go_ret
  exact ⟨by first | rfl | simp, ⟨rfl, rfl, rfl, Nat.le_refl _, fun _ _ => rfl⟩⟩
set_option maxHeartbeats 4000000 in
theorem rcut_any (f : UInt8) (V : World) (ao : Option Addr) (L : List UInt8) (cap : Nat) (hr : GRd EY V ao L cap) (m : Nat) (hm : m = L.length) (hL : L.length ≤ 20000) :
    Calls Try.prog 11 #[.int .u8 (f.toNat : Int), .slice ao m cap] V fun e V' => CopyR V V' (cutQ f L) e := by
  have hmi : (m : Int) ≤ 20000 := by omega
  have nilR : ∀ (k : Int) (W : World), Below V.heap.size V W → CopyR V W ⟨0, [], 0, k⟩ (.returned (.tuple #[.int .u8 0, .slice none 0 0, .int .i64 0, .int .i64 k])) := fun k W h => ⟨⟨_, rfl, GOwn.nil _ _⟩, h⟩
  have H := Hid.mk2 nilR
  by_cases h0 : 16384 < L.length
  · have e1 : cutQ f L = ⟨0, [], 0, 3⟩ := if_pos h0
    rw [e1]
    have hmi2 : (16384 : Int) < (m : Int) := by omega
    clear hr hm hL h0 e1 nilR
    go_enter Try.func11, Try.ntmps11
    go_wp2
    (try simp only [Exit.inBlock, Exit.then])
    refine bodyPost_ret (results_tmp4 rfl _ _ _) rfl ?_
    exact H.out 3 _ (Below.refl _ _)
  have e1 : cutQ f L = cutP f L := if_neg h0
  rw [e1]
  have hmi2 : ¬ (16384 : Int) < (m : Int) := by omega
  cases L with
  | nil =>
    have hm0 : m = 0 := by simpa using hm
    subst hm0
    have e : cutP f [] = ⟨0, [], 0, 0⟩ := rfl
    rw [e]
    clear nilR hr hm e hL e1 h0
    go_enter Try.func11, Try.ntmps11
    go_wp2
    (try simp only [Exit.inBlock, Exit.then])
    refine bodyPost_ret (results_tmp4 rfl _ _ _) rfl ?_
    exact H.out 0 _ (Below.refl _ _)
  | cons x l =>
    obtain ⟨b, off, rfl, hb, hc⟩ := hr.uy (by simp)
    have hm1 : (m : Int) ≠ 0 := by simp at hm; omega
    have hm2 : 0 < m := by simp at hm; omega
    have hmc : m ≤ cap := by rw [hm]; exact hr.hl
    have hcp := hr.hc
    have c0 : V.cell? ⟨b, off, none⟩ = some (.int .u8 (x.toNat : Int)) := hc 0 (by simp)
    have HR := Hid.mk2 hr
    have hx256 := x.toNat_lt
    have hf256 := f.toNat_lt
    by_cases hxf : x = f
    case neg =>
      have e : cutP f (x :: l) = ⟨0, [], 0, 8⟩ := by unfold cutP; exact if_pos hxf
      rw [e]
      have hne : ((x.toNat : Int) == (f.toNat : Int)) = false := by
        simp only [beq_eq_false_iff_ne, ne_eq]
        intro e2; exact hxf (UInt8.toNat_inj.1 (by omega))
      have hne2 : ¬ (x.toNat : Int) = (f.toNat : Int) := by simpa using hne
      clear nilR hr hm e hL hc hb e1 h0
      go_enter Try.func11, Try.ntmps11
      go_wp2
      (try simp only [Exit.inBlock, Exit.then])
      refine bodyPost_ret (results_tmp4 rfl _ _ _) rfl ?_
      exact H.out 8 _ (Below.refl _ _)
    subst hxf
    by_cases h1 : (x :: l).length < 6
    · have e : cutP x (x :: l) = ⟨0, [], 0, 0⟩ := by unfold cutP; dsimp only; rw [if_neg (by simp), if_pos h1]
      rw [e]
      have hm6 : (m : Int) < 6 := by omega
      clear nilR hr hm e hL hc hb h1 e1 h0
      go_enter Try.func11, Try.ntmps11
      go_wp2
      (try simp only [Exit.inBlock, Exit.then])
      refine bodyPost_ret (results_tmp4 rfl _ _ _) rfl ?_
      exact H.out 0 _ (Below.refl _ _)
    have hm6 : ¬ (m : Int) < 6 := by omega
    have HLN := Hid.mk2 (rlength_any V b off cap (x :: l) hr m hm (by omega))
    have hcut : cutP x (x :: l) = if 4096 < len4 (x :: l) then ⟨0, [], 0, 8⟩ else if m < 6 + len4 (x :: l) then ⟨0, [], 0, 0⟩ else ⟨kind2 (x :: l), ((x :: l).drop 6).take (len4 (x :: l)), 6 + len4 (x :: l), 0⟩ := by
      unfold cutP; dsimp only; rw [if_neg (by simp), if_neg h1, ← hm]
    rw [hcut]
    have hNlt := len4_lt (x :: l)
    have hk1 : V.cell? ⟨b, off + 1, none⟩ = some (.int .u8 ((kind2 (x :: l)).toNat : Int)) := by
      have h := hc 1 (by omega)
      cases l with
      | nil => exact absurd h1 (by simp)
      | cons y l2 => exact h
    obtain ⟨N, hNN⟩ : ∃ N, N = len4 (x :: l) := ⟨_, rfl⟩
    obtain ⟨K, hKK⟩ : ∃ K, K = kind2 (x :: l) := ⟨_, rfl⟩
    rw [← hNN] at hNlt HLN ⊢
    rw [← hKK] at hk1 ⊢
    have HK : Hid (∀ W, Below V.heap.size V W → W.cell? ⟨b, off + 1, none⟩ = some (.int .u8 (K.toNat : Int))) := fun W h => (h.cell (p := ⟨b, off + 1, none⟩) hb).trans hk1
    have HM := Hid.mk2 hm
    have hNi : (N : Int) ≤ 4294967295 := by omega
    clear hcut hNN hKK nilR hr hm hL hc e1 h0 h1 hk1
    by_cases h2 : 4096 < N
    · rw [if_pos h2]
      have h2i : (4096 : Int) < (N : Int) := by omega
      go_enter Try.func11, Try.ntmps11
      go_wp2_with (go_at_call 19; refine HLN.out.mono ?_; rintro e w1 ⟨rfl, hb1⟩; have HB1 := Hid.mk2 hb1; clear hb1)
      (try simp only [Exit.inBlock, Exit.then])
      refine bodyPost_ret (results_tmp4 rfl _ _ _) rfl ?_
      exact H.out 8 _ HB1.out
    rw [if_neg h2]
    have h2i : ¬ (4096 : Int) < (N : Int) := by omega
    by_cases h3 : m < 6 + N
    · rw [if_pos h3]
      have h3i : (m : Int) < 6 + (N : Int) := by omega
      go_enter Try.func11, Try.ntmps11
      go_wp2_with (go_at_call 19; refine HLN.out.mono ?_; rintro e w1 ⟨rfl, hb1⟩; have HB1 := Hid.mk2 hb1; clear hb1)
      (try simp only [Exit.inBlock, Exit.then])
      refine bodyPost_ret (results_tmp4 rfl _ _ _) rfl ?_
      exact H.out 0 _ HB1.out
    rw [if_neg h3]
    have h3i : ¬ (m : Int) < 6 + (N : Int) := by omega
    have h4i : 6 + (N : Int) ≤ (cap : Int) := by omega
    have h5i : (6 : Int) ≤ 6 + (N : Int) := by omega
    have hlen : (((x :: l).drop 6).take N).length = N := by
      have h := HM.out
      rw [List.length_take, List.length_drop, ← h]; omega
    have HLE := Hid.mk2 hlen
    obtain ⟨B, hB⟩ : ∃ B, B = ((x :: l).drop 6).take N := ⟨_, rfl⟩
    have HBB := Hid.mk2 hB
    rw [← hB] at HLE ⊢
    have HN6 : Hid (6 + N - 6 = B.length) := by rw [HLE.out]; show _ = _; omega
    clear hlen hB
    by_cases h6 : cap = 6
    · subst h6
      have hN0 : N = 0 := by omega
      have hrd : Hid (GRd EY V (some ⟨b, off, none⟩) B 0) := by
        rw [HBB.out, hN0, List.take_zero]
        exact ⟨by simp, by omega, (fun e => by cases e), .inl rfl⟩
      clear hN0
      go_enter Try.func11, Try.ntmps11
      go_wp2_with (first
        | (go_at_call 19; refine HLN.out.mono ?_; rintro e w1 ⟨rfl, hb1⟩; have HB1 := Hid.mk2 hb1; clear hb1)
        | (at_builtin; refine g_app okY rfl _ _ _ rfl rfl V.heap.size _ [] (GOwn.nil _ _) rfl (some ⟨b, off, none⟩) 0 B _ HN6.out rfl (hrd.out.below HB1.out) (by have := HLE.out; simp; omega) HB1.out.size ?_; intro v2 w2 hO2 hG2; have HO2 := Hid.mk2 hO2; have HG2 := Hid.mk2 (HB1.out.trans (hG2.below (GOwn.nil (E := EY) _ _) HB1.out.size)); have hk2 := HK.out _ HG2.out; clear hO2 hG2))
      (try simp only [Exit.inBlock, Exit.then])
      refine bodyPost_ret (results_tmp4 rfl _ _ _) rfl ?_
      exact ⟨⟨_, rfl, HO2.out⟩, HG2.out⟩
    · have hrd : Hid (GRd EY V (some ⟨b, off + 6, none⟩) B (cap - 6)) := by
        rw [HBB.out]
        exact mid_rd HR.out 6 N (by rw [← HM.out]; omega) (cap - 6) (by omega) (by omega)
      go_enter Try.func11, Try.ntmps11
      go_wp2_with (first
        | (go_at_call 19; refine HLN.out.mono ?_; rintro e w1 ⟨rfl, hb1⟩; have HB1 := Hid.mk2 hb1; clear hb1)
        | (at_builtin; refine g_app okY rfl _ _ _ rfl rfl V.heap.size _ [] (GOwn.nil _ _) rfl (some ⟨b, off + 6, none⟩) (cap - 6) B _ HN6.out rfl (hrd.out.below HB1.out) (by have := HLE.out; simp; omega) HB1.out.size ?_; intro v2 w2 hO2 hG2; have HO2 := Hid.mk2 hO2; have HG2 := Hid.mk2 (HB1.out.trans (hG2.below (GOwn.nil (E := EY) _ _) HB1.out.size)); have hk2 := HK.out _ HG2.out; clear hO2 hG2))
      (try simp only [Exit.inBlock, Exit.then])
      refine bodyPost_ret (results_tmp4 rfl _ _ _) rfl ?_
      exact ⟨⟨_, rfl, HO2.out⟩, HG2.out⟩
end Go.Proofs.Ytjmcgpdimhgegaa
/-
  (shaken)
-/
namespace Go.Proofs.Ytjmcgpdimhgegaa
open Go.RowKit
set_option linter.unusedSimpArgs false
set_option linter.unusedVariables false
set_option maxRecDepth 100000

end Go.Proofs.Ytjmcgpdimhgegaa
/-
  (shaken)
-/
namespace Go.Proofs.Ytjmcgpdimhgegaa
open Go.RowKit
set_option linter.unusedSimpArgs false
set_option linter.unusedVariables false
set_option maxRecDepth 100000

theorem on_byte (m : Nat) : (m : Int) % 128 + 128 = ((UInt8.ofNat (m % 128 + 128)).toNat : Int) := by
  have : (UInt8.ofNat (m % 128 + 128)).toNat = m % 128 + 128 := by simp; omega
  rw [this]; omega

theorem refSmall_any (n : Nat) (w : World) (hn : Fits n) :
    Calls Try.prog 29 #[.int .u64 n] w fun e w' => ∃ v', e = .returned v' ∧ Own w' w.heap.size v' (small n) ∧ Below w.heap.size w w' := by
  have hsl := small_len n
  go_enter Try.func29, Try.ntmps29
  go_wp2
  go_loopw [0, 3] (fun i u wr => ∃ (m : Nat) (p : List UInt8), Fits m ∧ i = .int .u64 m ∧ p ++ small m = small n ∧ Own wr w.heap.size u p ∧ Grew w wr (.slice none 0 0) u) (fun i _ _ => (intOf i).toNat)
  case atStart => exact ⟨n, [], hn, rfl, rfl, Own.nil _ _, Grew.refl _ _⟩
  case round =>
    obtain ⟨m, p, hm, rfl, hp, ho, hg⟩ := hrel
    have hpl : p.length + (small m).length ≤ 10 := by rw [← List.length_append, hp]; exact hsl
    have hbr : w.heap.size ≤ wr.heap.size := hg.grown.size
    have hlp : p.length + 1 ≤ 140737488355328 := by omega
    have HP : Hid (p ++ small m = small n) := hp
    clear hp hsl hpl hn
    by_cases hlt : 128 ≤ m
    · have HM : Hid (Fits m) := hm
      have hMi : (m : Int) ≤ 18446744073709551615 := by have : m < 18446744073709551616 := hm
                                                        omega
      clear hm
      go_wp2_with (at_builtin; refine app_one (w0 := wr) rfl (.tmp 6) (.tmp 11) rfl w.heap.size _ _ ho rfl _ _ (on_byte m) rfl rfl hlp hbr ?_; intro v1 w1 ho1 hg1)
      have hM : m < 18446744073709551616 := HM.out
      go_roundw
      case rel => exact ⟨m / 128, p ++ [UInt8.ofNat (m % 128 + 128)], by unfold Fits; omega, by go_num, by rw [← HP.out, small_ge hlt hM]; simp, ho1, hg.trans hg1⟩
      case measure => simp [intOf]; omega
    · have h0 : (m : Int) < 128 := by omega
      go_wp2_with (at_builtin; refine app_one (w0 := wr) rfl (.tmp 15) (.tmp 18) rfl w.heap.size _ _ ho rfl _ _ (last_byte m (by omega)) rfl rfl hlp hbr ?_; intro v1 w1 ho1 hg1)
      go_ret
      exact ⟨_, rfl, by rw [← HP.out, small_lt (by omega)]; exact ho1, (hg.trans hg1).below_nil⟩

theorem refText_any (s : ByteArray) (w : World) (hs : s.size ≤ 100000000) :
    Calls Try.prog 28 #[.string s] w fun e w' => ∃ v', e = .returned v' ∧ Own w' w.heap.size v' (text s.data.toList) ∧ Below w.heap.size w w' := by
  have hsl := small_len s.size
  go_enter Try.func28, Try.ntmps28
  go_wp2_with (first
    | (go_at_call 29; refine (refSmall_any s.size w (fits_size s hs)).mono ?_; rintro e w1 ⟨v1, rfl, ho1, hb1⟩)
    | (at_builtin; refine app_text rfl (.tmp 6) (.tmp 7) rfl w.heap.size _ _ ho1 rfl s rfl (by omega) hb1.size ?_; intro v2 w2 ho2 hg2))
  go_ret
  exact ⟨_, rfl, by simpa [text] using ho2, hb1.trans (hg2.below ho1 hb1.size)⟩

end Go.Proofs.Ytjmcgpdimhgegaa
/-
  (shaken)
-/
namespace Go.Proofs.Ytjmcgpdimhgegaa
open Go.RowKit
set_option linter.unusedSimpArgs false
set_option linter.unusedVariables false
set_option maxRecDepth 100000

theorem Own.kept {w w' : World} {base : Nat} {v : Value} {l : List UInt8} (h : Own w base v l) (hb : Below w.heap.size w w') : Own w' base v l := by
  refine World.ownsRow.kept h (row := none) ⟨hb.os, hb.tape, hb.output, hb.size, fun k hk _ => hb.block k hk⟩ ?_
  cases hv : v.ownBlock with
  | none => exact .inl rfl
  | some k => exact .inr (fun e => by cases e)
section
variable {w : World} {ops : Array Oper} {rest : List Oper} {o : Oper} {a : Act} {Q : Exit → Act → World → Prop}
/-- append(v, u...), u bytes that a call made -/
theorem app_own (hgd : o.guard = none) (s x : Operand) (ho : o.op = .call { callee := .builtin .append, args := #[s, x], argTypes := #[30, 30] })
    (base : Nat) (v : Value) (l : List UInt8) (hown : Own w base v l) (hs : a.eval s = v) (b2 : Nat) (u : Value) (l2 : List UInt8) (hu : Own w b2 u l2) (hx : a.eval x = u)
    (hlen : l.length + l2.length ≤ 140737488355328) (hbase : base ≤ w.heap.size)
    (h : ∀ v' w', Own w' base v' (l ++ l2) → Grew w w' v v' → wpList Try.prog ops Q rest (a.put o.dst v') w') : wpList Try.prog ops Q (o :: rest) a w := by
  obtain ⟨ao, cap, rfl, h1, h2, h3, h4⟩ := hu.at
  exact app_bytes hgd s x ho base v l hown hs ao cap l2 _ rfl hx w.heap.size h3 h4 hlen hbase h
end

set_option maxHeartbeats 1000000 in
theorem refShaped_any (c : Cmd) (w : World) (ko : Option Addr) (kc : Nat) (hk : Tl w ko c.keys kc) :
    Calls Try.prog 26 #[.agg (c.cells (.slice ko c.keys.length kc)).toArray] w fun e w' => e = .returned (.bool (cmdOk c)) ∧ Below w.heap.size w w' := by
  obtain ⟨kind, tenant, keys, value, flags, dur, unique, by_⟩ := c
  unfold Cmd.cells bcell
  simp only [] at hk ⊢
  have hkl := hk.hl
  have hkm := hk.hc
  have HT : Hid (TsAt w w.heap.size ko keys) := hk.at_
  clear hk
  by_cases h1 : (kind.toNat : Int) < 1
  · have hE : cmdOk ⟨kind, tenant, keys, value, flags, dur, unique, by_⟩ = false := by
      simp [cmdOk]; intro a; omega
    rw [hE]
    go_enter Try.func26, Try.ntmps26
    go_wp2
    go_ret
    exact ⟨rfl, (Below.refl _ _).alloc (Nat.le_refl _) _⟩
  have h1' : decide ((kind.toNat : Int) < 1) = false := by simp; omega
  by_cases h2 : (11 : Int) < (kind.toNat : Int)
  · have hE : cmdOk ⟨kind, tenant, keys, value, flags, dur, unique, by_⟩ = false := by
      simp [cmdOk]; intro a b; omega
    rw [hE]
    go_enter Try.func26, Try.ntmps26
    go_wp2
    go_ret
    exact ⟨rfl, (Below.refl _ _).alloc (Nat.le_refl _) _⟩
  have h2' : decide ((11 : Int) < (kind.toNat : Int)) = false := by simp; omega
  have hkd : decide (1 ≤ kind.toNat ∧ kind.toNat ≤ 11) = true := by simp; omega
  by_cases h3 : tenOk tenant = true
  · by_cases h4 : (8 : Int) < (keys.length : Int)
    · have hE : cmdOk ⟨kind, tenant, keys, value, flags, dur, unique, by_⟩ = false := by
        have : decide (keys.length ≤ 8) = false := by simp; omega
        simp only [cmdOk, this, Bool.and_false, Bool.false_and]
      rw [hE]
      go_enter Try.func26, Try.ntmps26
      go_wp2_with (go_at_call 35; refine (refTenant_any _ _).mono ?_; rintro e w' ⟨rfl, rfl⟩; rw [h3])
      go_ret
      exact ⟨rfl, (Below.refl _ _).alloc (Nat.le_refl _) _⟩
    have h4' : decide ((8 : Int) < (keys.length : Int)) = false := by simp; omega
    have hkl8 : decide (keys.length ≤ 8) = true := by simp; omega
    by_cases h5 : (512 : Int) < (value.size : Int)
    · have hE : cmdOk ⟨kind, tenant, keys, value, flags, dur, unique, by_⟩ = false := by
        have : decide (value.size ≤ 512) = false := by simp; omega
        simp only [cmdOk, this, Bool.and_false, Bool.false_and]
      rw [hE]
      clear hkd hkl8
      go_enter Try.func26, Try.ntmps26
      go_wp2_with (go_at_call 35; refine (refTenant_any _ _).mono ?_; rintro e w' ⟨rfl, rfl⟩; rw [h3])
      go_ret
      exact ⟨rfl, (Below.refl _ _).alloc (Nat.le_refl _) _⟩
    have h5' : decide ((512 : Int) < (value.size : Int)) = false := by simp; omega
    have hv5 : decide (value.size ≤ 512) = true := by simp; omega
    by_cases h6 : dur < 0
    · have hE : cmdOk ⟨kind, tenant, keys, value, flags, dur, unique, by_⟩ = false := by
        have : momOk dur = false := by unfold momOk; simp; omega
        simp only [cmdOk, this, Bool.and_false, Bool.false_and]
      rw [hE]
      clear hkd hkl8 hv5
      go_enter Try.func26, Try.ntmps26
      go_wp2_with (go_at_call 35; refine (refTenant_any _ _).mono ?_; rintro e w' ⟨rfl, rfl⟩; rw [h3])
      go_ret
      exact ⟨rfl, (Below.refl _ _).alloc (Nat.le_refl _) _⟩
    have h6' : decide (dur < 0) = false := by simp; omega
    by_cases h7 : 1099511627776 < dur
    · have hE : cmdOk ⟨kind, tenant, keys, value, flags, dur, unique, by_⟩ = false := by
        have : momOk dur = false := by unfold momOk; simp; omega
        simp only [cmdOk, this, Bool.and_false, Bool.false_and]
      rw [hE]
      clear hkd hkl8 hv5
      go_enter Try.func26, Try.ntmps26
      go_wp2_with (go_at_call 35; refine (refTenant_any _ _).mono ?_; rintro e w' ⟨rfl, rfl⟩; rw [h3])
      go_ret
      exact ⟨rfl, (Below.refl _ _).alloc (Nat.le_refl _) _⟩
    have h7' : decide (1099511627776 < dur) = false := by simp; omega
    have hmo : momOk dur = true := by unfold momOk; simp; omega
    have HK : Hid (cmdOk ⟨kind, tenant, keys, value, flags, dur, unique, by_⟩ = keys.all keyOk) := by
      show _ = _
      simp only [cmdOk, hkd, h3, hkl8, hv5, hmo, Bool.true_and, Bool.and_true]
    clear hkd hkl8 hv5 hmo
    go_enter Try.func26, Try.ntmps26
    go_wp2_with (go_at_call 35; refine (refTenant_any _ _).mono ?_; rintro e w' ⟨rfl, rfl⟩; rw [h3])
    obtain ⟨W, hW⟩ : ∃ W, W = w.alloc (Obj.cells #[Value.int IntKind.u8 ↑kind.toNat, Value.int IntKind.i64 tenant, Value.slice ko keys.length kc, Value.string value, Value.int IntKind.u32 ↑flags, Value.int IntKind.i64 dur, Value.int IntKind.u64 ↑unique, Value.int IntKind.u64 ↑by_] 26) := ⟨_, rfl⟩
    have hbW : Below w.heap.size w W := by rw [hW]; exact (Below.refl _ _).alloc (Nat.le_refl _) _
    have c2 : W.cell? ⟨w.heap.size, 2, none⟩ = some (.slice ko keys.length kc) := by rw [hW]; simp
    rw [← hW]
    clear hW
    go_loop [3] (fun i => ∃ k : Nat, k ≤ keys.length ∧ i = .int .i64 k ∧ Hid (∀ j (hj : j < keys.length), j < k → keyOk keys[j] = true)) (fun i => keys.length - (intOf i).toNat)
    case atStart => exact ⟨0, by omega, rfl, fun j hj h => by omega⟩
    case round =>
      obtain ⟨k, hk, rfl, HA⟩ := hrel
      by_cases hlt : k < keys.length
      · have hlt2 : (k : Int) < (keys.length : Int) := by omega
        rcases HT.out with h | ⟨b, off, rfl, hb, hc⟩
        · rw [h] at hlt; simp at hlt
        have hx := (hbW.cell (p := ⟨b, off + k, none⟩) hb).trans (hc k hlt)
        have hA2 : ∀ (x : Bool), keyOk keys[k] = x → x = true → Hid (∀ j (hj : j < keys.length), j < k + 1 → keyOk keys[j] = true) := by
          intro x hx1 hx2 j hj hjk
          by_cases e : j = k
          · subst e; rw [hx1, hx2]
          · exact HA.out j hj (by omega)
        have hAF : keyOk keys[k] = false → keys.all keyOk = false := all_take_false hlt
        obtain ⟨s, hs⟩ : ∃ s, s = keys[k] := ⟨_, rfl⟩
        rw [← hs] at hx hA2 hAF
        clear hs hc
        by_cases hko : keyOk s = true
        · have HA2 := hA2 true hko rfl
          clear hA2 hAF HA
          go_wp2_with (go_at_call 36; refine (refKey_any _ _).mono ?_; rintro e w' ⟨rfl, rfl⟩; rw [hko])
          go_round
          case rel => exact ⟨k + 1, by omega, by go_num, HA2⟩
          case measure => simp [intOf]; omega
        · have hko' : keyOk s = false := by simpa using hko
          have HF : Hid (cmdOk ⟨kind, tenant, keys, value, flags, dur, unique, by_⟩ = false) := by rw [HK.out, hAF hko']; exact rfl
          clear hA2 hAF HA
          go_wp2_with (go_at_call 36; refine (refKey_any _ _).mono ?_; rintro e w' ⟨rfl, rfl⟩; rw [hko'])
          go_ret
          exact ⟨by rw [HF.out]; rfl, hbW⟩
      · have hlt2 : decide ((k : Int) < (keys.length : Int)) = false := by simp; omega
        have hall : keys.all keyOk = true := by
          rw [List.all_eq_true]
          intro x hx
          obtain ⟨j, hj, rfl⟩ := List.getElem_of_mem hx
          exact HA.out j hj (by omega)
        have HK2 : Hid (cmdOk ⟨kind, tenant, keys, value, flags, dur, unique, by_⟩ = true) := by rw [HK.out, hall]; exact rfl
        clear HK HA hall
        go_wp2
        go_ret
        exact ⟨by rw [HK2.out]; rfl, hbW⟩
  · have h3' : tenOk tenant = false := by simpa using h3
    have hE : cmdOk ⟨kind, tenant, keys, value, flags, dur, unique, by_⟩ = false := by
      simp only [cmdOk, h3', Bool.and_false, Bool.false_and]
    rw [hE]
    go_enter Try.func26, Try.ntmps26
    go_wp2_with (go_at_call 35; refine (refTenant_any _ _).mono ?_; rintro e w' ⟨rfl, rfl⟩; rw [h3'])
    go_ret
    exact ⟨rfl, (Below.refl _ _).alloc (Nat.le_refl _) _⟩

def smalls (ns : List Nat) : List UInt8 := ns.flatMap small
theorem smalls_take {ns : List Nat} {k : Nat} (hk : k < ns.length) : smalls (ns.take (k + 1)) = smalls (ns.take k) ++ small ns[k] := by
  unfold smalls; rw [List.take_succ_eq_append_getElem hk, List.flatMap_append]; simp
theorem smalls_len : ∀ ns : List Nat, (smalls ns).length ≤ 10 * ns.length
  | [] => by simp [smalls]
  | n :: ns => by
    have ih := smalls_len ns
    have h := small_len n
    have e : smalls (n :: ns) = small n ++ smalls ns := rfl
    rw [e, List.length_append, List.length_cons]; omega
theorem refSmalls_any (w : World) (b : Nat) (ns : List Nat) (n cap : Nat) (hn : ns.length = n) (hb : b < w.heap.size) (hc : ∀ j (hj : j < ns.length), w.cell? ⟨b, j, none⟩ = some (.int .i64 (ns[j] : Int))) (hf : ∀ x ∈ ns, x ≤ 9223372036854775807) (hl : ns.length ≤ 1000) :
    Calls Try.prog 27 #[.slice (some ⟨b, 0, none⟩) n cap] w fun e w' => ∃ v', e = .returned v' ∧ Own w' w.heap.size v' (smalls ns) ∧ Below w.heap.size w w' := by
  subst hn
  have HC : Hid (∀ j (hj : j < ns.length), w.cell? ⟨b, j, none⟩ = some (.int .i64 (ns[j] : Int))) := hc
  have HF : Hid (∀ x ∈ ns, x ≤ 9223372036854775807) := hf
  clear hc hf
  go_enter Try.func27, Try.ntmps27
  go_wp2
  go_loopw [3, 4] (fun u i wr => ∃ k : Nat, k ≤ ns.length ∧ i = .int .i64 k ∧ Own wr w.heap.size u (smalls (ns.take k)) ∧ Below w.heap.size w wr) (fun _ i _ => ns.length - (intOf i).toNat)
  case atStart => exact ⟨0, Nat.zero_le _, rfl, Own.nil _ _, Below.refl _ _⟩
  case round =>
    obtain ⟨k, hk, rfl, ho, hbr⟩ := hrel
    have hsr := hbr.size
    by_cases hlt : k < ns.length
    · have hlt2 : (k : Int) < (ns.length : Int) := by omega
      have hx := (hbr.cell (p := ⟨b, k, none⟩) hb).trans (HC.out k hlt)
      have hfx := HF.out _ (List.getElem_mem hlt)
      have hst := smalls_take hlt
      have hln := smalls_len (ns.take k)
      rw [List.length_take] at hln
      obtain ⟨P, hP⟩ : ∃ P, P = smalls (ns.take k) := ⟨_, rfl⟩
      obtain ⟨x, hxe⟩ : ∃ x, x = ns[k] := ⟨_, rfl⟩
      rw [← hxe] at hx hfx hst
      rw [← hP] at ho hst hln
      have HS : Hid (smalls (ns.take (k + 1)) = P ++ small x) := hst
      have hlP : P.length ≤ 10000 := by omega
      clear hst hP hxe hln
      have fx : Fits x := by unfold Fits; omega
      have hsx := small_len x
      have ww : IntKind.u64.wrap (x : Int) = (x : Int) := by rw [u64_wrap_eq]; omega
      go_wp2_with (first
        | (go_at_call 29; refine (refSmall_any x wr fx).mono ?_; rintro e w1 ⟨v1, rfl, ho1, hb1⟩; have ho2 := ho.kept hb1; have hz1 := hb1.size; have hs2 : w.heap.size ≤ w1.heap.size := Nat.le_trans hsr hz1)
        | (at_builtin; refine app_own rfl (.tmp 11) (.tmp 17) rfl w.heap.size _ _ ho2 rfl _ _ _ ho1 rfl (by omega) hs2 ?_; intro v3 w3 ho3 hg3))
      have hb3 := (hbr.trans (hb1.mono hsr)).trans (hg3.below ho2 hs2)
      rw [← HS.out] at ho3
      go_roundw
      case rel => exact ⟨k + 1, by omega, by go_num, ho3, hb3⟩
      case measure => simp [intOf]; omega
    · have hlt2 : decide ((k : Int) < (ns.length : Int)) = false := by simp; omega
      have e0 : ns.take k = ns := List.take_of_length_le (by omega)
      rw [e0] at ho
      go_wp2
      go_ret
      exact ⟨_, rfl, ho, hbr⟩
end Go.Proofs.Ytjmcgpdimhgegaa
