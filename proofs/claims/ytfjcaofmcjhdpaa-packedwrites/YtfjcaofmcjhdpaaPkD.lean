/-
  bodyOf and Write of package packed.
-/
import Derived.Test.YtfjcaofmcjhdpaaPkC
namespace Go.Proofs.Ytfjcaofmcjhdpaa
open Go.Proofs.Ytfjcaofmcjhdpaa.It
open Go.RowKit
set_option linter.unusedSimpArgs false
set_option linter.unusedVariables false
set_option maxRecDepth 100000

/-- numbers as their types have them -/
structure An.Pf (a : An) : Prop where
  k : 0 ≤ a.kind ∧ a.kind ≤ 255
  o : 0 ≤ a.of_ ∧ a.of_ ≤ 255
  r : 0 ≤ a.rk ∧ a.rk ≤ 255
  n : 0 ≤ a.num ∧ a.num < 18446744073709551616
  it : ∀ x ∈ a.items, (0 ≤ x.flags ∧ x.flags < 4294967296) ∧ (0 ≤ x.unique ∧ x.unique < 18446744073709551616)
theorem pemp_size {s : ByteArray} (h : s.toList.isEmpty = true) : s.size = 0 := by
  rw [ByteArray.toList_eq] at h
  cases s with
  | mk d =>
    cases d with
    | mk l =>
      cases l with
      | nil => rfl
      | cons x t => simp at h
theorem pres_nil {of_ rk n : Int} {L : List Im} (h : noRes of_ rk L n = true) : L = [] := by
  unfold noRes at h
  simp only [Bool.and_eq_true, beq_iff_eq] at h
  have := h.2.1.2
  exact List.eq_nil_of_length_eq_zero (by omega)
theorem good_of {x : Im} (h : badI x = false) (hf : (0 ≤ x.flags ∧ x.flags < 4294967296) ∧ (0 ≤ x.unique ∧ x.unique < 18446744073709551616)) : x.good := by
  unfold badI ckE at h
  simp only [Bool.not_eq_false', beq_iff_eq] at h
  have e : x.it.key = x.key ∧ x.it.value = x.value ∧ x.it.till = x.till := ⟨rfl, rfl, rfl⟩
  rw [e.1, e.2.1, e.2.2] at h
  split at h
  · cases h
  · rename_i h1
    split at h
    · rename_i h2
      unfold mom at h2
      simp only [Bool.and_eq_true, decide_eq_true_eq] at h2
      exact ⟨by omega, by omega, by omega, hf.1, hf.2⟩
    · cases h
/-- what an answer that may be has -/
theorem may_parts {a : An} (h : a.may = true) (hf : a.Pf) : (a.kind = 1 ∨ a.kind = 2 ∨ a.kind = 3 ∨ a.kind = 7 ∨ a.kind = 4 ∨ a.kind = 5 ∨ a.kind = 6) ∧ a.items.length ≤ 8 ∧ (∀ x ∈ a.items, x.good) ∧ a.key.size ≤ 32 := by
  unfold An.may at h
  split at h
  · rename_i k1
    simp only [Bool.and_eq_true] at h
    have hr := h.1.1
    unfold resOk at hr
    simp only [Bool.and_eq_true, decide_eq_true_eq, Bool.not_eq_true'] at hr
    have h1 := hr.1.1.2
    have h2 := hr.2
    rw [List.any_eq_false] at h2
    have h3 := pemp_size h.2
    refine ⟨.inl k1, ?_, fun x hx => good_of (by simpa using h2 x hx) (hf.it x hx), by omega⟩
    unfold mostI at h1
    split at h1
    · split at h1 <;> omega
    · omega
  split at h
  · rename_i k23
    simp only [Bool.and_eq_true] at h
    have h3 := pemp_size h.2
    have h4 := pres_nil h.1
    refine ⟨by omega, by rw [h4]; simp, fun x hx => (by rw [h4] at hx; cases hx), by omega⟩
  split at h
  · rename_i k7
    simp only [Bool.and_eq_true, decide_eq_true_eq] at h
    have h4 := pres_nil h.1.2
    refine ⟨by omega, by rw [h4]; simp, fun x hx => (by rw [h4] at hx; cases hx), h.1.1.2⟩
  split at h
  · rename_i k456
    simp only [Bool.and_eq_true] at h
    have h3 := pemp_size h.2
    have h4 := pres_nil h.1.1
    refine ⟨by omega, by rw [h4]; simp, fun x hx => (by rw [h4] at hx; cases hx), by omega⟩
  · cases h
theorem bl1_len (s : ByteArray) : (bl1 s).length = s.size := by unfold bl1; exact Array.length_toList
theorem body_len {a : An} (h : a.may = true) (hf : a.Pf) : a.body.length ≤ 5000 := by
  obtain ⟨_, h1, h2, h3⟩ := may_parts h hf
  have h4 := Nat.le_trans (pbs_len a.items h2) (Nat.mul_le_mul_right _ h1)
  have h5 := small_len a.num.toNat
  have h6 := small_len a.items.length
  unfold An.body
  split
  · simp only [List.length_cons, List.length_append]
    omega
  split
  · simp
  split
  · rw [bl1_len]; omega
  · simp
set_option maxHeartbeats 4000000 in
theorem bodyOf_any (a : An) (io : Option Addr) (ic : Nat) (w : World) (hi : GRd EM w io a.items ic) (hm : a.may = true) (hf : a.Pf) :
    Calls Try.prog 17 #[.agg (a.arr (.slice io a.items.length ic))] w fun e w' => ∃ p : Pt, e = .returned p.v ∧ p.l = a.body ∧ GRd EY w' p.o p.l p.c ∧ Below w.heap.size w w' := by
  obtain ⟨hkd, hl8, hgd, hky⟩ := may_parts hm hf
  obtain ⟨W, hW⟩ : ∃ W, W = w.alloc (.cells (a.arr (.slice io a.items.length ic)) 31) := ⟨_, rfl⟩
  have HB : Hid (Below w.heap.size w W) := by rw [hW]; exact g_alloc _ _
  have HX : Hid (GBx W w.heap.size (a.cl (.slice io a.items.length ic))) := by rw [hW]; exact GBx.made w (a.cl _) _
  have HRB : Hid (Calls Try.prog 27 #[.int .u8 a.of_, .agg #[.int .u8 a.rk, .slice io a.items.length ic, .int .u64 a.num]] W fun e w' => ∃ p : Pt, e = .returned p.v ∧ p.l = resB (n8 a.of_) (n8 a.rk) a.num a.items ∧ GRd EY w' p.o p.l p.c ∧ Below W.heap.size W w') := by
    have h := resultBody_any (n8 a.of_) (n8 a.rk) io a.items ic a.num W (hi.below HB.out) hf.n.1 hf.n.2 hl8 hgd
    rw [n8_of hf.o.1 hf.o.2, n8_of hf.r.1 hf.r.2] at h
    exact h
  obtain ⟨BD, hBD⟩ : ∃ BD, BD = a.body := ⟨_, rfl⟩
  have HBD : Hid (BD = if a.kind = 1 then resB (n8 a.of_) (n8 a.rk) a.num a.items else if a.kind = 2 ∨ a.kind = 3 then [if a.yes = true then 1 else 0] else if a.kind = 7 then bl1 a.key else []) := hBD
  rw [← hBD]
  obtain ⟨kind, of_, rk, L, num, yes, key⟩ := a
  unfold An.arr at hW ⊢
  unfold An.cl at HX
  dsimp only at *
  clear hBD hm hf hi hgd
  obtain ⟨N, hN⟩ : ∃ N, N = L.length := ⟨_, rfl⟩
  rw [← hN] at HRB HX hW ⊢
  clear hN
  have x0 := HX.out.c 0 (by simp)
  have x1 := HX.out.c 1 (by simp)
  have x2 := HX.out.c 2 (by simp)
  have x3 := HX.out.c 3 (by simp)
  have x4 := HX.out.c 4 (by simp)
  have x5 := HX.out.c 5 (by simp)
  have x6 := HX.out.c 6 (by simp)
  simp only [List.getElem_cons_zero, List.getElem_cons_succ] at x0 x1 x2 x3 x4 x5 x6
  rcases hkd with rfl | hkd
  · have HE : Hid (BD = resB (n8 of_) (n8 rk) num L) := HBD.out.trans (if_pos rfl)
    clear HBD
    go_enter Try.func17, Try.ntmps17
    go_upto_region 1 with (fail)
    rw [← hW]
    clear hW
    go_wp2_with (go_at_call 27; refine HRB.out.mono ?_; rintro e w1 ⟨⟨po, pl, pc⟩, rfl, hpl, hpr, hpb⟩; have HP1 := Hid.mk2 hpl; have HP2 := Hid.mk2 hpr; have HP3 := Hid.mk2 hpb; clear hpl hpr hpb)
    go_ret
    exact ⟨⟨po, pl, pc⟩, rfl, HP1.out.trans HE.out.symm, HP2.out, g_on HB.out HP3.out⟩
  have k1 : kind ≠ 1 := by omega
  have HBE := Hid.mk2 (HBD.out.trans (if_neg k1))
  clear HBD HRB
  have hcv := conv_str key
  have HWS : Hid (W.heap.size = w.heap.size + 1) := by show _ = _; rw [hW]; simp
  have HKL : Hid (key.size ≤ 100000) := by show _ ≤ _; omega
  rcases hkd with rfl | rfl | rfl | hkd
  · have HE : Hid (BD = [if yes = true then 1 else 0]) := HBE.out.trans (if_pos (.inl rfl))
    clear HBE hcv
    cases yes
    · go_enter Try.func17, Try.ntmps17
      go_upto_region 1 with (fail)
      rw [← hW]
      clear hW
      go_wp2
      go_ret
      exact ⟨⟨some ⟨W.heap.size, 0, none⟩, [0], 1⟩, rfl, HE.out.symm, g_news okY W [0] [.int .u8 0] rfl (by decide), g_on HB.out (g_alloc _ _)⟩
    · go_enter Try.func17, Try.ntmps17
      go_upto_region 1 with (fail)
      rw [← hW]
      clear hW
      go_wp2
      go_ret
      exact ⟨⟨some ⟨W.heap.size, 0, none⟩, [1], 1⟩, rfl, HE.out.symm, g_news okY W [1] [.int .u8 1] rfl (by decide), g_on HB.out (g_alloc _ _)⟩
  · have HE : Hid (BD = [if yes = true then 1 else 0]) := HBE.out.trans (if_pos (.inr rfl))
    clear HBE hcv
    cases yes
    · go_enter Try.func17, Try.ntmps17
      go_upto_region 1 with (fail)
      rw [← hW]
      clear hW
      go_wp2
      go_ret
      exact ⟨⟨some ⟨W.heap.size, 0, none⟩, [0], 1⟩, rfl, HE.out.symm, g_news okY W [0] [.int .u8 0] rfl (by decide), g_on HB.out (g_alloc _ _)⟩
    · go_enter Try.func17, Try.ntmps17
      go_upto_region 1 with (fail)
      rw [← hW]
      clear hW
      go_wp2
      go_ret
      exact ⟨⟨some ⟨W.heap.size, 0, none⟩, [1], 1⟩, rfl, HE.out.symm, g_news okY W [1] [.int .u8 1] rfl (by decide), g_on HB.out (g_alloc _ _)⟩
  · have HE : Hid (BD = bl1 key) := HBE.out.trans ((if_neg (by omega)).trans (if_pos rfl))
    clear HBE
    go_enter Try.func17, Try.ntmps17
    go_upto_region 1 with (fail)
    rw [← hW]
    clear hW
    go_wp2
    go_ret
    exact ⟨⟨some ⟨W.heap.size, 0, none⟩, bl1 key, capS W key⟩, by show _ = Ending.returned (.slice _ (bl1 key).length _); rw [bl1_len]; rfl, HE.out.symm, bsW_rd W key (Nat.le_trans HKL.out (by decide)), g_on HB.out (bsW_below W key)⟩
  · have HE : Hid (BD = []) := HBE.out.trans ((if_neg (by omega)).trans (if_neg (by omega)))
    clear HBE hcv
    rcases hkd with rfl | rfl | rfl
    all_goals
      go_enter Try.func17, Try.ntmps17
      go_upto_region 1 with (fail)
      rw [← hW]
      clear hW
      go_wp2
      go_ret
      exact ⟨⟨none, [], 0⟩, rfl, HE.out.symm, GRd.nil _, HB.out⟩
/-- what Write answers -/
structure PwR (w w' : World) (a : An) (e : Ending) : Prop where
  ex : ∃ ao cap, e = .returned (.tuple #[.slice ao a.wp.length cap, .int .i64 a.wpE]) ∧ GRd EY w' ao a.wp cap
  below : Below w.heap.size w w'
set_option maxHeartbeats 4000000 in
theorem pwrite_any (a : An) (io : Option Addr) (ic : Nat) (w : World) (hi : GRd EM w io a.items ic) (hk : a.key.size ≤ maxLen) (hf : a.Pf) :
    Calls Try.prog 8 #[.agg (a.arr (.slice io a.items.length ic))] w fun e w' => PwR w w' a e := by
  obtain ⟨W, hW⟩ : ∃ W, W = w.alloc (.cells (a.arr (.slice io a.items.length ic)) 31) := ⟨_, rfl⟩
  have HB : Hid (Below w.heap.size w W) := by rw [hW]; exact g_alloc _ _
  have HX : Hid (GBx W w.heap.size (a.cl (.slice io a.items.length ic))) := by rw [hW]; exact GBx.made w (a.cl _) _
  have HC := Hid.mk2 (fun V (hV : Below w.heap.size w V) => wCheck_any a io ic V (hi.below hV) hk)
  have HBO := Hid.mk2 (fun V (hV : Below w.heap.size w V) (hm : a.may = true) => bodyOf_any a io ic V (hi.below hV) hm hf)
  have HBL := Hid.mk2 (fun (hm : a.may = true) => body_len hm hf)
  have HWE : Hid (a.wpE = if a.may = true then (if 4096 < a.body.length then 3 else 0) else 8) := rfl
  have HWP : Hid (a.wp = if a.wpE = 0 then pkt 178 (n8 a.kind) a.body else []) := rfl
  have hnk := n8_of hf.k.1 hf.k.2
  have HPK := Hid.mk2 (fun V ao L cap (hr : GRd EY V ao L cap) (hL : L.length ≤ 20000) => packet_any 178 (n8 a.kind) V ao L cap hr L.length rfl hL)
  rw [hnk] at HPK
  have HPK2 : Hid (∀ V ao L cap, GRd EY V ao L cap → L.length ≤ 20000 → Calls Try.prog 16 #[.int .u8 178, .int .u8 a.kind, .slice ao L.length cap] V fun e V' => ∃ v, e = .returned (.tuple #[v, .int .i64 (pkE L)]) ∧ GOwn EY V' V.heap.size v (pkL 178 (n8 a.kind) L) ∧ Below V.heap.size V V') := HPK.out
  clear HPK hnk
  obtain ⟨KB, hKB⟩ : ∃ b, b = n8 a.kind := ⟨_, rfl⟩
  rw [← hKB] at HPK2 HWP
  clear hKB
  obtain ⟨BD, hBD⟩ : ∃ b, b = a.body := ⟨_, rfl⟩
  rw [← hBD] at HBO HBL HWE HWP
  obtain ⟨MB, hMB⟩ : ∃ b, b = a.may := ⟨_, rfl⟩
  rw [← hMB] at HC HBO HBL HWE
  clear hMB hBD
  obtain ⟨WPE, hWPE⟩ : ∃ x, x = a.wpE := ⟨_, rfl⟩
  obtain ⟨WP, hWP⟩ : ∃ x, x = a.wp := ⟨_, rfl⟩
  rw [← hWPE] at HWE HWP
  rw [← hWP] at HWP
  have HFIN : Hid (∀ e w', (∃ ao cap, e = .returned (.tuple #[.slice ao WP.length cap, .int .i64 WPE]) ∧ GRd EY w' ao WP cap) → Below w.heap.size w w' → PwR w w' a e) := by
    intro e w' h1 h2
    rw [hWPE, hWP] at h1
    exact ⟨h1, h2⟩
  obtain ⟨kind, of_, rk, L, num, yes, key⟩ := a
  unfold An.arr at hW HC HBO ⊢
  unfold An.cl at HX
  dsimp only at hW HC HBO HX HPK2 ⊢
  clear hi hk hf hWPE hWP
  obtain ⟨N, hN⟩ : ∃ N, N = L.length := ⟨_, rfl⟩
  rw [← hN] at HC HBO HX hW ⊢
  clear hN
  have HSW : Hid (∀ V, Below W.heap.size W V → V.cell? ⟨w.heap.size, 0, none⟩ = some (.int .u8 kind) ∧ V.cell? ⟨w.heap.size, 1, none⟩ = some (.int .u8 of_) ∧ V.cell? ⟨w.heap.size, 2, none⟩ = some (.int .u8 rk) ∧ V.cell? ⟨w.heap.size, 3, none⟩ = some (.slice io N ic) ∧ V.cell? ⟨w.heap.size, 4, none⟩ = some (.int .u64 num) ∧ V.cell? ⟨w.heap.size, 5, none⟩ = some (.bool yes) ∧ V.cell? ⟨w.heap.size, 6, none⟩ = some (.string key)) := by
    intro V hV
    have h := HX.out.below hV
    exact ⟨h.c 0 (by simp), h.c 1 (by simp), h.c 2 (by simp), h.c 3 (by simp), h.c 4 (by simp), h.c 5 (by simp), h.c 6 (by simp)⟩
  obtain ⟨x0, x1, x2, x3, x4, x5, x6⟩ := HSW.out W (Below.refl _ _)
  cases MB with
  | false =>
    have HE : Hid (WPE = 8) := HWE.out.trans (if_neg (by simp))
    have HP : Hid (WP = []) := HWP.out.trans (if_neg (by rw [HE.out]; decide))
    go_enter Try.func8, Try.ntmps8
    go_upto_region 1 with (fail)
    rw [← hW]
    clear hW
    go_wp2_with (go_at_call 15; refine (HC.out _ HB.out).mono ?_; rintro e w1 ⟨rfl, hb⟩; have HB1 := Hid.mk2 (g_on HB.out hb); clear hb)
    refine bodyPost_ret (results_tmp2 rfl _ _ _) rfl ?_
    exact HFIN.out _ _ ⟨none, 0, by rw [HE.out, HP.out]; rfl, by rw [HP.out]; exact GRd.nil _⟩ HB1.out
  | true =>
    have HE : Hid (WPE = if 4096 < BD.length then 3 else 0) := HWE.out.trans (if_pos rfl)
    have HBL2 := Hid.mk2 (HBL.out rfl)
    have HBO2 := Hid.mk2 (fun V hV => HBO.out V hV rfl)
    have HPE : Hid (pkE BD = WPE ∧ pkL 178 KB BD = WP) := by
      refine ⟨HE.out.symm, ?_⟩
      rw [HWP.out, HE.out]
      unfold pkL
      split <;> simp
    clear HWE HBL HBO
    go_enter Try.func8, Try.ntmps8
    go_upto_region 1 with (fail)
    rw [← hW]
    clear hW
    go_upto_region 4 with (go_at_call 15; refine (HC.out _ HB.out).mono ?_; rintro e w1 ⟨rfl, hb⟩; have HB1 := Hid.mk2 hb; clear hb)
    clear x0 x1 x2 x3 x4 x5 x6
    go_region_held3 (fun V => V.cell? ⟨w.heap.size, 0, none⟩ = some (.int .u8 kind) ∧ V.cell? ⟨w.heap.size, 1, none⟩ = some (.int .u8 of_) ∧ V.cell? ⟨w.heap.size, 2, none⟩ = some (.int .u8 rk) ∧ V.cell? ⟨w.heap.size, 3, none⟩ = some (.slice io N ic) ∧ V.cell? ⟨w.heap.size, 4, none⟩ = some (.int .u64 num) ∧ V.cell? ⟨w.heap.size, 5, none⟩ = some (.bool yes) ∧ V.cell? ⟨w.heap.size, 6, none⟩ = some (.string key)) (exact HSW.out _ (by repeat' (first | with_reducible exact HB3.out | with_reducible exact HB2.out | with_reducible exact HB1.out | with_reducible exact Below.refl _ _ | with_reducible refine Below.drew ?_)))
      (first
      | (have h9 := HB2; go_at_call 16; refine (HPK2.out _ po pl pc HP2.out (by rw [HP1.out]; have := HBL2.out; omega)).mono ?_; rintro e w3 ⟨v3, rfl, hv3, hb3⟩; rw [HP1.out, HPE.out.1]; rw [HP1.out, HPE.out.2] at hv3; obtain ⟨vo, vc, rfl, hvr, -⟩ := gown_rd2 hv3; have HVR := Hid.mk2 hvr; have HB3 : Hid (Below W.heap.size W w3) := g_on HB2.out hb3; clear hv3 hvr hb3)
      | (go_at_call 17; refine (HBO2.out _ (g_on HB.out (by first | exact HB1.out | exact HB1.out.drew))).mono ?_; rintro e w2 ⟨⟨po, pl, pc⟩, rfl, hpl, hpr, hpb⟩; have HP1 := Hid.mk2 hpl; have HP2 := Hid.mk2 hpr; have HB2 : Hid (Below W.heap.size W w2) := g_on (by first | exact HB1.out | exact HB1.out.drew) hpb; clear hpl hpr hpb))
    all_goals
      go_wp2_with fail
      refine bodyPost_ret (results_tmp2 rfl _ _ _) rfl ?_
      exact HFIN.out _ _ ⟨vo, vc, rfl, HVR.out⟩ (g_on HB.out HB3.out)
end Go.Proofs.Ytfjcaofmcjhdpaa
