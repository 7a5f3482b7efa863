/-
  Commands, read: the contract of the reader's command.
-/
import Derived.Test.YtlhlleokehkolaaCmd3
import Derived.Deep.RegionLaw
namespace Go.Proofs.Ytlhlleokehkolaa
open Go.RowKit
set_option linter.unusedSimpArgs false
set_option linter.unusedVariables false
set_option maxRecDepth 100000

theorem sTexts_step {n k : Nat} {s st : St} {ks : List ByteArray} (h : sTexts n s = (ks ++ (sTexts (n - k) st).1, (sTexts (n - k) st).2)) (hk : k < n) :
    sTexts n s = ((ks ++ [⟨(sText st).1.toArray⟩]) ++ (sTexts (n - (k + 1)) (sText st).2).1, (sTexts (n - (k + 1)) (sText st).2).2) := by
  rw [h]
  have e : n - k = (n - (k + 1)) + 1 := by omega
  rw [e]
  simp [sTexts]

theorem CmdAt.grew {w0 w w' : World} {B rb R C : Nat} {s : St} {cs : List Value} {row : Option Nat} (h : CmdAt w0 w B rb R C s cs) (h1 : rb < R) (h2 : R < C) (h3 : B ≤ C) (h0 : w0.heap.size ≤ C) (hg : w.grownBy w' row) (hr : ∀ k, row = some k → C + 1 ≤ k) : CmdAt w0 w' B rb R C s cs := by
  refine ⟨h.rd.grown hg (fun e => by have := hr _ e.symm; omega) (fun k hk => by have := hr k hk; omega), h.r.grown hg (fun e => by have := hr _ e.symm; omega), h.c.grown hg (fun e => by have := hr _ e.symm; omega), ?_⟩
  refine ⟨hg.os.trans h.g.os, hg.tape.trans h.g.tape, hg.output.trans h.g.output, Nat.le_trans h.g.size hg.size, fun k hk hne => ?_⟩
  exact (hg.block k (Nat.lt_of_lt_of_le hk h.g.size) (fun e => by have := hr _ e.symm; omega)).trans (h.g.block k hk hne)
theorem OwnTs.mono {w : World} {base base' : Nat} {v : Value} {ks : List ByteArray} (h : OwnTs w base v ks) (hb : base' ≤ base) : OwnTs w base' v ks := by
  refine ⟨h.1, ?_⟩
  rcases h.2 with h | ⟨g, cap, cur, e, hb1, rest⟩
  · exact .inl h
  · exact .inr ⟨g, cap, cur, e, by omega, rest⟩
theorem grown_drew (w : World) : w.grownBy w.drew none := ⟨rfl, rfl, rfl, Nat.le_refl _, fun _ _ _ => rfl⟩

set_option maxHeartbeats 2000000 in
theorem rcommand_any (w : World) (B rb : Nat) (s : St) (h : Rd w B rb s) :
    Calls Try.prog 45 #[.pointer (some ⟨rb, 0, none⟩)] w fun e w' => ∃ v, e = .returned (.agg ((sCmd s).1.cells v).toArray) ∧ OwnTs w' w.heap.size v (sCmd s).1.keys ∧ Rd w' B rb (sCmd s).2 ∧ w.grownBy w' (some rb) ∧ (∀ k, v.ownBlock = some k → k ≠ rb) := by
  have hlt := h.lt
  have hle := h.le
  obtain ⟨p0, hp0⟩ : ∃ p, p = sSingle s := ⟨_, rfl⟩
  obtain ⟨p1, hp1⟩ : ∃ p, p = sSmall 9223372036854775807 p0.2 := ⟨_, rfl⟩
  obtain ⟨pn, hpn⟩ : ∃ p, p = sSmall 8 p1.2 := ⟨_, rfl⟩
  obtain ⟨p2, hp2⟩ : ∃ p, p = sTexts pn.1 pn.2 := ⟨_, rfl⟩
  obtain ⟨p3, hp3⟩ : ∃ p, p = sText p2.2 := ⟨_, rfl⟩
  obtain ⟨p4, hp4⟩ : ∃ p, p = sSmall 4294967295 p3.2 := ⟨_, rfl⟩
  obtain ⟨p5, hp5⟩ : ∃ p, p = sSmall 9223372036854775807 p4.2 := ⟨_, rfl⟩
  obtain ⟨p6, hp6⟩ : ∃ p, p = sSmall 18446744073709551615 p5.2 := ⟨_, rfl⟩
  obtain ⟨p7, hp7⟩ : ∃ p, p = sSmall 18446744073709551615 p6.2 := ⟨_, rfl⟩
  have hc : sCmd s = (⟨p0.1, p1.1, p2.1, ⟨p3.1.toArray⟩, p4.1, p5.1, p6.1, p7.1⟩, p7.2) := by
    unfold sCmd
    simp only [← hp0, ← hp1, ← hpn, ← hp2, ← hp3, ← hp4, ← hp5, ← hp6, ← hp7]
  rw [hc]
  unfold Cmd.cells bcell
  simp only []
  clear hc
  have hn8 : pn.1 ≤ 8 := by rw [hpn]; exact sSmall_le _ _
  have hl2 : p2.1.length = pn.1 := by rw [hp2]; exact sTexts_len _ _
  have C0 : Hid (∀ W, Rd W B rb s → Calls Try.prog 65 #[.pointer (some ⟨rb, 0, none⟩)] W fun e w' => e = .returned (.int .u8 (p0.1.toNat : Int)) ∧ Rd w' B rb p0.2 ∧ W.grownBy w' (some rb)) := fun W hW => by rw [hp0]; exact single_any W B rb s hW
  have C1 : Hid (∀ W, Rd W B rb p0.2 → Calls Try.prog 66 #[.pointer (some ⟨rb, 0, none⟩)] W fun e w' => e = .returned (.int .i64 p1.1) ∧ Rd w' B rb p1.2 ∧ W.grownBy w' (some rb)) := fun W hW => by rw [hp1]; exact number_any W B rb _ hW
  have CN : Hid (∀ W, Rd W B rb p1.2 → Calls Try.prog 42 #[.pointer (some ⟨rb, 0, none⟩), .int .u64 8] W fun e w' => e = .returned (.int .u64 pn.1) ∧ Rd w' B rb pn.2 ∧ W.grownBy w' (some rb)) := fun W hW => by rw [hpn]; exact rsmall_any W B rb _ 8 hW
  have C3 : Hid (∀ W, Rd W B rb p2.2 → Calls Try.prog 33 #[.pointer (some ⟨rb, 0, none⟩)] W fun e w' => e = .returned (.string ⟨p3.1.toArray⟩) ∧ Rd w' B rb p3.2 ∧ W.grownBy w' (some rb)) := fun W hW => by rw [hp3]; exact rtext_any W B rb _ hW
  have C4 : Hid (∀ W, Rd W B rb p3.2 → Calls Try.prog 69 #[.pointer (some ⟨rb, 0, none⟩)] W fun e w' => e = .returned (.int .u32 p4.1) ∧ Rd w' B rb p4.2 ∧ W.grownBy w' (some rb)) := fun W hW => by rw [hp4]; exact flags_any W B rb _ hW
  have C5 : Hid (∀ W, Rd W B rb p4.2 → Calls Try.prog 66 #[.pointer (some ⟨rb, 0, none⟩)] W fun e w' => e = .returned (.int .i64 p5.1) ∧ Rd w' B rb p5.2 ∧ W.grownBy w' (some rb)) := fun W hW => by rw [hp5]; exact number_any W B rb _ hW
  have C6 : Hid (∀ W, Rd W B rb p5.2 → Calls Try.prog 42 #[.pointer (some ⟨rb, 0, none⟩), .int .u64 18446744073709551615] W fun e w' => e = .returned (.int .u64 p6.1) ∧ Rd w' B rb p6.2 ∧ W.grownBy w' (some rb)) := fun W hW => by rw [hp6]; exact rsmall_any W B rb _ 18446744073709551615 hW
  have C7 : Hid (∀ W, Rd W B rb p6.2 → Calls Try.prog 42 #[.pointer (some ⟨rb, 0, none⟩), .int .u64 18446744073709551615] W fun e w' => e = .returned (.int .u64 p7.1) ∧ Rd w' B rb p7.2 ∧ W.grownBy w' (some rb)) := fun W hW => by rw [hp7]; exact rsmall_any W B rb _ 18446744073709551615 hW
  have HP2 : Hid (p2 = sTexts pn.1 pn.2) := hp2
  have HL2 : Hid (p2.1.length = pn.1) := hl2
  clear hp0 hp1 hpn hp2 hp3 hp4 hp5 hp6 hp7 hl2
  obtain ⟨R, hR⟩ : ∃ R, R = w.heap.size := ⟨_, rfl⟩
  have hRA : Rd (w.alloc (.cells #[.int .u8 0, .int .i64 0, .slice none 0 0, .string ⟨#[]⟩, .int .u32 0, .int .i64 0, .int .u64 0, .int .u64 0] 36)) B rb s := h.grown (World.grownBy_alloc w _ none) (by simp) (by simp)
  have hRW : WB (w.alloc (.cells #[.int .u8 0, .int .i64 0, .slice none 0 0, .string ⟨#[]⟩, .int .u32 0, .int .i64 0, .int .u64 0, .int .u64 0] 36)) w.heap.size zeroCmd := WB.made w zeroCmd 36
  have nR : R ≠ rb := by omega
  go_enter Try.func45, Try.ntmps45
  go_upto_region 1 with fail
  rw [← hR] at hRW ⊢
  have hr0 : w.heap.size ≤ R := by omega
  have hrb : rb < R := by omega
  have HRR : Hid (R = w.heap.size) := hR
  have hgA : w.grownBy (w.alloc (.cells #[.int .u8 0, .int .i64 0, .slice none 0 0, .string ⟨#[]⟩, .int .u32 0, .int .i64 0, .int .u64 0, .int .u64 0] 36)) (some rb) := World.grownBy_alloc w _ _
  clear hR
  go_cut [3] from 4 (fun s3 wx => ∃ C, s3 = .pointer (some ⟨C, 0, none⟩) ∧ R < C ∧ CmdAt w wx B rb R C p0.2 [.int .u8 (p0.1.toNat : Int), .int .i64 0, .slice none 0 0, .string ⟨#[]⟩, .int .u32 0, .int .i64 0, .int .u64 0, .int .u64 0])
  case first =>
    go_wp2_with (go_at_call 65; refine (C0.out _ hRA).mono ?_; rintro e w1 ⟨rfl, h1, g1⟩)
    go_meet
    case rel =>
      have z1 := g1.size
      have z2 := hRW.lt
      exact ⟨w1.heap.size, rfl, by omega, ⟨h1.grown (World.grownBy_alloc w1 _ none) (by simp) (by simp), (hRW.grown g1 (by simpa using nR)).grown (World.grownBy_alloc w1 _ none) (by simp), WB.made w1 [.int .u8 (p0.1.toNat : Int), .int .i64 0, .slice none 0 0, .string ⟨#[]⟩, .int .u32 0, .int .i64 0, .int .u64 0, .int .u64 0] 36, grown_alloc (hgA.trans g1) _⟩⟩
  case rest =>
  obtain ⟨C, rfl, hRC, hA1⟩ := hcut
  obtain ⟨wa, hwa⟩ : ∃ wa, wa = wc := ⟨_, rfl⟩
  rw [← hwa] at hA1 ⊢
  clear hwa hRA hRW hgA C0
  have nC : C ≠ rb := by omega
  have nRC : R ≠ C := by omega
  have hBC : B ≤ C := by omega
  have h0C : w.heap.size ≤ C := by omega
  have HNR : Hid (R ≠ rb) := nR
  have HNC : Hid (C ≠ rb) := nC
  have HNRC : Hid (R ≠ C) := nRC
  clear nR nC nRC
  go_upto_region 2 with fail
  go_cut [] from 4 (fun wx => CmdAt w wx B rb R C p1.2 [.int .u8 (p0.1.toNat : Int), .int .i64 p1.1, .slice none 0 0, .string ⟨#[]⟩, .int .u32 0, .int .i64 0, .int .u64 0, .int .u64 0])
  case first =>
    go_wp2_with (go_at_call 66; refine (C1.out wa hA1.rd).mono ?_; rintro e w2 ⟨rfl, h2, g2⟩; have H2 := hA1.call HNR.out HNC.out g2 h2; have xc : w2.cell? ⟨C, 1, none⟩ = some (.int .i64 0) := H2.c.cells 1 (by simp); have xf := H2.c.free 1)
    go_meet
    case rel => exact H2.set HNC.out HNRC.out hBC h0C 1 (.int .i64 p1.1) (by simp)
  case rest =>
  obtain ⟨wb, hwb⟩ : ∃ wb, wb = wc := ⟨_, rfl⟩
  rw [← hwb] at hcut ⊢
  have hA2 := hcut
  clear hwb hcut hA1 C1
  go_wp2_with (go_at_call 42; refine (CN.out wb hA2.rd).mono ?_; rintro e w3 ⟨rfl, h3, g3⟩; have H3 := hA2.call HNR.out HNC.out g3 h3)
  clear hA2 CN h3 g3
  go_loopw [12] (fun i wr => ∃ (k : Nat) (ks : List ByteArray) (st : St) (v : Value), k ≤ pn.1 ∧ i = .int .u64 k ∧ Hid (ks.length = k) ∧ Hid (sTexts pn.1 pn.2 = (ks ++ (sTexts (pn.1 - k) st).1, (sTexts (pn.1 - k) st).2)) ∧ CmdAt w wr B rb R C st [.int .u8 (p0.1.toNat : Int), .int .i64 p1.1, v, .string ⟨#[]⟩, .int .u32 0, .int .i64 0, .int .u64 0, .int .u64 0] ∧ OwnTs wr (C + 1) v ks) (fun i _ => pn.1 - (intOf i).toNat)
  case atStart => exact ⟨0, [], pn.2, _, Nat.zero_le _, rfl, rfl, by simp [Hid], H3, OwnTs.nil _ _⟩
  case round =>
    obtain ⟨k, ks, st, v, hk, rfl, HKL, HTX, hA, how⟩ := hrel
    clear H3
    have hsC := hA.c.lt
    by_cases hlt : k < pn.1
    · have hlt2 : (k : Int) < (pn.1 : Int) := by omega
      have x2 : wr.cell? ⟨C, 2, none⟩ = some v := hA.c.cells 2 (by simp)
      have xf : wr.frozen? ⟨C, 2, none⟩ = false := hA.c.free 2
      have HTX2 : Hid (sTexts pn.1 pn.2 = ((ks ++ [⟨(sText st).1.toArray⟩]) ++ (sTexts (pn.1 - (k + 1)) (sText st).2).1, (sTexts (pn.1 - (k + 1)) (sText st).2).2)) := sTexts_step HTX.out hlt
      have hln : ks.length + 1 ≤ 1000000 := by rw [HKL.out]; omega
      have hct := fun W hW => rtext_any W B rb st hW
      obtain ⟨pt, hpt⟩ : ∃ pt, pt = sText st := ⟨_, rfl⟩
      rw [← hpt] at HTX2 hct
      have HCT : Hid (∀ W, Rd W B rb st → Calls Try.prog 33 #[.pointer (some ⟨rb, 0, none⟩)] W fun e w' => e = .returned (.string ⟨pt.1.toArray⟩) ∧ Rd w' B rb pt.2 ∧ W.grownBy w' (some rb)) := hct
      have hvb : ∀ j, v.ownBlock = some j → C + 1 ≤ j := fun j hj => (how.lt j hj).1
      have HVB : Hid (∀ j, v.ownBlock = some j → C + 1 ≤ j) := hvb
      have hAd := hA.grew hrb hRC hBC h0C (grown_drew wr) (by simp)
      have howd : OwnTs wr.drew (C + 1) v ks := how.grown (grown_drew wr) (by simp)
      clear hct hpt HTX hvb
      go_wp2
      go_region_law
        (first
          | (refine step_app_ts (w0 := w5) (by rfl) (.tmp 15) (.tmp 18) (by rfl) (C + 1) _ _ how5 (by rfl) _ (by rfl) (by rfl) hln hs5 ?_; intro v7 w7 ho7 hg7; obtain ⟨vo7, vc7, hv7, -⟩ := ho7.tl; rw [List.length_append, List.length_singleton] at hv7; subst hv7; have H7 := H5.grew hrb hRC hBC h0C hg7.grown HVB.out; have x7 : w7.cell? ⟨C, 2, none⟩ = some v := H7.c.cells 2 (by simp); have xf7 : w7.frozen? ⟨C, 2, none⟩ = false := H7.c.free 2)
          | (go_simp; go_at_call 33; refine (HCT.out _ hAd.rd).mono ?_; rintro e w5 ⟨rfl, h5, g5⟩; have H5 := hAd.call HNR.out HNC.out g5 h5; have x5 : w5.cell? ⟨C, 2, none⟩ = some v := H5.c.cells 2 (by simp); have how5 := howd.grown g5 (fun j hj e => by have := HVB.out j hj; cases e; omega); have hs5 : C + 1 ≤ w5.heap.size := H5.c.lt; have z5 : ∀ o, (w5.alloc o).cell? ⟨C, 2, none⟩ = some v := fun o => (World.cell?_alloc_past o _ _ H5.c.lt).trans x5))
      all_goals
        have S7 := H7.set HNC.out HNRC.out hBC h0C 2 (.slice vo7 (ks.length + 1) vc7) (by simp)
        have how7 := ho7.grown (grown_set w7 C 2 (.slice vo7 (ks.length + 1) vc7)) (fun j hj e => by have h1 := (ho7.lt j hj).1; cases e; omega)
        go_wp2
        go_roundw
        case rel => exact ⟨k + 1, ks ++ [⟨pt.1.toArray⟩], pt.2, _, hlt, rfl, by simp [Hid, HKL.out], HTX2, S7, how7⟩
        case measure => simp [intOf]; omega
    · have hlt2 : decide ((k : Int) < (pn.1 : Int)) = false := by simp; omega
      have hke : pn.1 - k = 0 := by omega
      have e2 := HTX.out
      rw [hke, ← HP2.out] at e2
      simp only [sTexts, List.append_nil] at e2
      subst e2
      clear HP2 HTX hke
      obtain ⟨vo, vc, rfl, -⟩ := how.tl
      have hln : ks.length ≤ 8 := by rw [HKL.out]; omega
      have hvb : ∀ j, (Value.slice vo ks.length vc).ownBlock = some j → C + 1 ≤ j := fun j hj => (how.lt j hj).1
      have HVB : Hid (∀ j, (Value.slice vo ks.length vc).ownBlock = some j → C + 1 ≤ j) := hvb
      have HOW : Hid (OwnTs wr (C + 1) (.slice vo ks.length vc) ks) := how
      clear how hvb
      have HB1 : Hid (∀ j, (Value.slice vo ks.length vc).ownBlock = some j → some rb ≠ some j) := fun j hj e => by have := HVB.out j hj; cases e; omega
      have HB2 : Hid (∀ j, (Value.slice vo ks.length vc).ownBlock = some j → some C ≠ some j) := fun j hj e => by have := HVB.out j hj; cases e; omega
      have HB3 : Hid (∀ j, (Value.slice vo ks.length vc).ownBlock = some j → some R ≠ some j) := fun j hj e => by have := HVB.out j hj; cases e; omega
      go_wp2_with (first
        | (go_at_call 42; refine (C7.out _ S9.rd).mono ?_; rintro e w10 ⟨rfl, h10, g10⟩; have H10 := S9.call HNR.out HNC.out g10 h10; have y0 : w10.cell? ⟨C, 0, none⟩ = some (.int .u8 (p0.1.toNat : Int)) := H10.c.cells 0 (by simp); have y1 : w10.cell? ⟨C, 1, none⟩ = some (.int .i64 p1.1) := H10.c.cells 1 (by simp); have y2 : w10.cell? ⟨C, 2, none⟩ = some (.slice vo ks.length vc) := H10.c.cells 2 (by simp); have y3 : w10.cell? ⟨C, 3, none⟩ = some (.string ⟨p3.1.toArray⟩) := H10.c.cells 3 (by simp); have y4 : w10.cell? ⟨C, 4, none⟩ = some (.int .u32 p4.1) := H10.c.cells 4 (by simp); have y5 : w10.cell? ⟨C, 5, none⟩ = some (.int .i64 p5.1) := H10.c.cells 5 (by simp); have y6 : w10.cell? ⟨C, 6, none⟩ = some (.int .u64 p6.1) := H10.c.cells 6 (by simp); have y7 : w10.cell? ⟨C, 7, none⟩ = some (.int .u64 0) := H10.c.cells 7 (by simp); have yf := H10.c.free 7; have T10 := (T9.grown g10 HB1.out).grown (grown_set w10 C 7 (.int .u64 p7.1)) HB2.out; have S10 := H10.set HNC.out HNRC.out hBC h0C 7 (.int .u64 p7.1) (by simp); have z0 : w10.cell? ⟨R, 0, none⟩ = some (.int .u8 0) := H10.r.cells 0 (by simp [zeroCmd]); have z1 : w10.cell? ⟨R, 1, none⟩ = some (.int .i64 0) := H10.r.cells 1 (by simp [zeroCmd]); have z2 : w10.cell? ⟨R, 2, none⟩ = some (.slice none 0 0) := H10.r.cells 2 (by simp [zeroCmd]); have z3 : w10.cell? ⟨R, 3, none⟩ = some (.string ⟨#[]⟩) := H10.r.cells 3 (by simp [zeroCmd]); have z4 : w10.cell? ⟨R, 4, none⟩ = some (.int .u32 0) := H10.r.cells 4 (by simp [zeroCmd]); have z5 : w10.cell? ⟨R, 5, none⟩ = some (.int .i64 0) := H10.r.cells 5 (by simp [zeroCmd]); have z6 : w10.cell? ⟨R, 6, none⟩ = some (.int .u64 0) := H10.r.cells 6 (by simp [zeroCmd]); have z7 : w10.cell? ⟨R, 7, none⟩ = some (.int .u64 0) := H10.r.cells 7 (by simp [zeroCmd]); have zf0 := H10.r.free 0; have zf1 := H10.r.free 1; have zf2 := H10.r.free 2; have zf3 := H10.r.free 3; have zf4 := H10.r.free 4; have zf5 := H10.r.free 5; have zf6 := H10.r.free 6; have zf7 := H10.r.free 7; have nRC' := HNRC.out)
        | (go_at_call 42; refine (C6.out _ S8.rd).mono ?_; rintro e w9 ⟨rfl, h9, g9⟩; have H9 := S8.call HNR.out HNC.out g9 h9; have c9 : w9.cell? ⟨C, 6, none⟩ = some (.int .u64 0) := H9.c.cells 6 (by simp); have f9 := H9.c.free 6; have T9 := (T8.grown g9 HB1.out).grown (grown_set w9 C 6 (.int .u64 p6.1)) HB2.out; have S9 := H9.set HNC.out HNRC.out hBC h0C 6 (.int .u64 p6.1) (by simp))
        | (go_at_call 66; refine (C5.out _ S7.rd).mono ?_; rintro e w8 ⟨rfl, h8, g8⟩; have H8 := S7.call HNR.out HNC.out g8 h8; have c8 : w8.cell? ⟨C, 5, none⟩ = some (.int .i64 0) := H8.c.cells 5 (by simp); have f8 := H8.c.free 5; have T8 := (T7.grown g8 HB1.out).grown (grown_set w8 C 5 (.int .i64 p5.1)) HB2.out; have S8 := H8.set HNC.out HNRC.out hBC h0C 5 (.int .i64 p5.1) (by simp))
        | (go_at_call 69; refine (C4.out _ S6.rd).mono ?_; rintro e w7 ⟨rfl, h7, g7⟩; have H7 := S6.call HNR.out HNC.out g7 h7; have c7 : w7.cell? ⟨C, 4, none⟩ = some (.int .u32 0) := H7.c.cells 4 (by simp); have f7 := H7.c.free 4; have T7 := (T6.grown g7 HB1.out).grown (grown_set w7 C 4 (.int .u32 p4.1)) HB2.out; have S7 := H7.set HNC.out HNRC.out hBC h0C 4 (.int .u32 p4.1) (by simp))
        | (go_at_call 33; refine (C3.out wr hA.rd).mono ?_; rintro e w6 ⟨rfl, h6, g6⟩; have H6 := hA.call HNR.out HNC.out g6 h6; have c6 : w6.cell? ⟨C, 3, none⟩ = some (.string ⟨#[]⟩) := H6.c.cells 3 (by simp); have f6 := H6.c.free 3; have T6 := (HOW.out.grown g6 HB1.out).grown (grown_set w6 C 3 (.string ⟨p3.1.toArray⟩)) HB2.out; have S6 := H6.set HNC.out HNRC.out hBC h0C 3 (.string ⟨p3.1.toArray⟩) (by simp)))
      have HNR' : Hid (rb ≠ R) := Ne.symm HNR.out
      have hB0 : B ≤ R := by omega
      refine bodyPost_ret (v := .agg #[.int .u8 (p0.1.toNat : Int), .int .i64 p1.1, .slice vo ks.length vc, .string ⟨p3.1.toArray⟩, .int .u32 p4.1, .int .i64 p5.1, .int .u64 p6.1, .int .u64 p7.1]) (by simp [results, Try.results45, go_sem, z0, z1, z2, z3, z4, z5, z6, z7]) rfl ⟨_, rfl, ?_, ?_, ?_, ?_⟩
      · exact OwnTs.mono ((((((((T10.grown (grown_set _ R 0 _) HB3.out).grown (grown_set _ R 1 _) HB3.out).grown (grown_set _ R 2 _) HB3.out).grown (grown_set _ R 3 _) HB3.out).grown (grown_set _ R 4 _) HB3.out).grown (grown_set _ R 5 _) HB3.out).grown (grown_set _ R 6 _) HB3.out).grown (grown_set _ R 7 _) HB3.out) (by omega)
      · exact ((((((((S10.rd.other HNR'.out hB0 0 _).other HNR'.out hB0 1 _).other HNR'.out hB0 2 _).other HNR'.out hB0 3 _).other HNR'.out hB0 4 _).other HNR'.out hB0 5 _).other HNR'.out hB0 6 _).other HNR'.out hB0 7 _)
      · exact (grown_new (grown_new (grown_new (grown_new (grown_new (grown_new (grown_new (grown_new S10.g hr0 0 _) hr0 1 _) hr0 2 _) hr0 3 _) hr0 4 _) hr0 5 _) hr0 6 _) hr0 7 _)
      · intro j hj e
        have := HVB.out j hj
        omega
end Go.Proofs.Ytlhlleokehkolaa
