/-
  The document's OfCommand: its contract (written by tools/genrcmd5.py).
-/
import Derived.Test.YtgfhjkphdmkmoaaRCmd2
import Derived.Test.YtgfhjkphdmkmoaaRCmd4
import Derived.Deep.RegionLaw
namespace Go.Proofs.Ytgfhjkphdmkmoaa
open Go.RowKit
set_option linter.unusedSimpArgs false
set_option linter.unusedVariables false
set_option maxRecDepth 100000

theorem Rd.made2 (w : World) (B : Nat) (ao : Option Addr) (l : List UInt8) (cap : Nat) (hb : BsAt w B ao l) (h1 : l.length ≤ cap) (h2 : cap ≤ maxLen) (h3 : ao = none → cap = 0) (hB : B ≤ w.heap.size) (t : TypeId) :
    Rd (w.alloc (.cells #[.slice ao l.length cap, .bool false] t)) B w.heap.size ⟨l, false⟩ := by
  refine ⟨⟨ao, cap, by simp, hb.below ((Below.refl B w).alloc hB _) (Nat.le_refl _), h1, h2, h3⟩, by simp, World.frozen?_alloc_new _ _ _ _, World.frozen?_alloc_new _ _ _ _, hB, by simp⟩
theorem CmdAt.grew2 {w0 w w' : World} {B rb R C : Nat} {s : St} {cs : List Value} {row : Option Nat} (h : CmdAt w0 w B rb R C s cs) (h1 : rb < C) (h2 : R < C) (h3 : B ≤ C) (h0 : w0.heap.size ≤ C) (hg : w.grownBy w' row) (hr : ∀ k, row = some k → C + 1 ≤ k) : CmdAt w0 w' B rb R C s cs := by
  refine ⟨h.rd.grown hg (fun e => by have := hr _ e.symm; omega) (fun k hk => by have := hr k hk; omega), h.r.grown hg (fun e => by have := hr _ e.symm; omega), h.c.grown hg (fun e => by have := hr _ e.symm; omega), ?_⟩
  refine ⟨hg.os.trans h.g.os, hg.tape.trans h.g.tape, hg.output.trans h.g.output, Nat.le_trans h.g.size hg.size, fun k hk hne => ?_⟩
  exact (hg.block k (Nat.lt_of_lt_of_le hk h.g.size) (fun e => by have := hr _ e.symm; omega)).trans (h.g.block k hk hne)
/-- eight cells of a block are set -/
theorem set8 {w W : World} {R : Nat} (h : Below w.heap.size w W) (hR : w.heap.size ≤ R) (a b c d e f g i : Value) : Below w.heap.size w ((((((((W.setCell ⟨R, 0, none⟩ a).setCell ⟨R, 1, none⟩ b).setCell ⟨R, 2, none⟩ c).setCell ⟨R, 3, none⟩ d).setCell ⟨R, 4, none⟩ e).setCell ⟨R, 5, none⟩ f).setCell ⟨R, 6, none⟩ g).setCell ⟨R, 7, none⟩ i) :=
  (((((((h.setCell hR _).setCell hR _).setCell hR _).setCell hR _).setCell hR _).setCell hR _).setCell hR _).setCell hR _

set_option maxHeartbeats 2000000 in
theorem refOfCommand_any (w : World) (ao : Option Addr) (l : List UInt8) (cap : Nat) (hb : BsAt w w.heap.size ao l) (h1 : l.length ≤ cap) (h2 : cap ≤ maxLen) (h3 : ao = none → cap = 0) :
    Calls Try.prog 31 #[.slice ao l.length cap] w fun e w' => ∃ ko kc, e = .returned (.tuple #[.agg ((ofCmd l).cells (.slice ko (ofCmd l).keys.length kc)).toArray, .int .i64 (ofCmdE l)]) ∧ Tl w' ko (ofCmd l).keys kc ∧ Below w.heap.size w w' := by
  have hpos := @doc_pos l
  have hneg := @doc_neg l
  have hgd := dCmd_good ⟨l, false⟩
  unfold docRead at hpos hneg
  obtain ⟨p0, hp0⟩ : ∃ p, p = dByte ⟨l, false⟩ := ⟨_, rfl⟩
  obtain ⟨p1, hp1⟩ : ∃ p, p = dNum 4 p0.2 := ⟨_, rfl⟩
  obtain ⟨pn, hpn⟩ : ∃ p, p = dNum 8 p1.2 := ⟨_, rfl⟩
  obtain ⟨p2, hp2⟩ : ∃ p, p = dTexts pn.1 pn.2 := ⟨_, rfl⟩
  obtain ⟨p3, hp3⟩ : ∃ p, p = dText p2.2 := ⟨_, rfl⟩
  obtain ⟨p4, hp4⟩ : ∃ p, p = dNum 4294967295 p3.2 := ⟨_, rfl⟩
  obtain ⟨p5, hp5⟩ : ∃ p, p = dNum 1099511627776 p4.2 := ⟨_, rfl⟩
  obtain ⟨p6, hp6⟩ : ∃ p, p = dNum 18446744073709551615 p5.2 := ⟨_, rfl⟩
  obtain ⟨p7, hp7⟩ : ∃ p, p = dNum 18446744073709551615 p6.2 := ⟨_, rfl⟩
  have hc : dCmd ⟨l, false⟩ = (⟨p0.1, p1.1, p2.1, ⟨p3.1.toArray⟩, p4.1, p5.1, p6.1, p7.1⟩, p7.2) := by
    unfold dCmd
    simp only [← hp0, ← hp1, ← hpn, ← hp2, ← hp3, ← hp4, ← hp5, ← hp6, ← hp7]
  rw [hc] at hpos hneg hgd
  simp only [] at hpos hneg hgd
  clear hc
  obtain ⟨OC, hOC⟩ : ∃ OC, OC = ofCmd l := ⟨_, rfl⟩
  obtain ⟨OE, hOE⟩ : ∃ OE, OE = ofCmdE l := ⟨_, rfl⟩
  rw [← hOC, ← hOE] at hpos hneg ⊢
  have HPOS : Hid ((!p7.2.bad && cmdOk ⟨p0.1, p1.1, p2.1, ⟨p3.1.toArray⟩, p4.1, p5.1, p6.1, p7.1⟩ && decide (cmdB ⟨p0.1, p1.1, p2.1, ⟨p3.1.toArray⟩, p4.1, p5.1, p6.1, p7.1⟩ = l)) = true → OE = 0 ∧ OC = ⟨p0.1, p1.1, p2.1, ⟨p3.1.toArray⟩, p4.1, p5.1, p6.1, p7.1⟩) := hpos
  have HNEG : Hid ((!p7.2.bad && cmdOk ⟨p0.1, p1.1, p2.1, ⟨p3.1.toArray⟩, p4.1, p5.1, p6.1, p7.1⟩ && decide (cmdB ⟨p0.1, p1.1, p2.1, ⟨p3.1.toArray⟩, p4.1, p5.1, p6.1, p7.1⟩ = l)) = false → OE = 8 ∧ OC = zeroC) := hneg
  have HGD : Hid (Cmd.Good ⟨p0.1, p1.1, p2.1, ⟨p3.1.toArray⟩, p4.1, p5.1, p6.1, p7.1⟩) := hgd
  clear hOC hOE hpos hneg hgd
  have hn8 : pn.1 ≤ 8 := by rw [hpn]; exact dNum_le _ _
  have b1 : (p1.1 : Int) ≤ 4 := by have : p1.1 ≤ 4 := (by rw [hp1]; exact dNum_le _ _); omega
  have b4 : (p4.1 : Int) ≤ 4294967295 := by have : p4.1 ≤ 4294967295 := (by rw [hp4]; exact dNum_le _ _); omega
  have b5 : (p5.1 : Int) ≤ 1099511627776 := by have : p5.1 ≤ 1099511627776 := (by rw [hp5]; exact dNum_le _ _); omega
  obtain ⟨R, hR⟩ : ∃ R, R = w.heap.size := ⟨_, rfl⟩
  obtain ⟨rb, hrb⟩ : ∃ rb, rb = w.heap.size + 1 := ⟨_, rfl⟩
  have C0 : Hid (∀ W, Rd W R rb ⟨l, false⟩ → Calls Try.prog 55 #[.pointer (some ⟨rb, 0, none⟩)] W fun e w' => e = .returned (.int .u8 (p0.1.toNat : Int)) ∧ Rd w' R rb p0.2 ∧ W.grownBy w' (some rb)) := fun W hW => by rw [hp0]; exact refByte_any W R rb _ hW
  have C1 : Hid (∀ W, Rd W R rb p0.2 → Calls Try.prog 52 #[.pointer (some ⟨rb, 0, none⟩), .int .u64 4] W fun e w' => e = .returned (.int .u64 p1.1) ∧ Rd w' R rb p1.2 ∧ W.grownBy w' (some rb)) := fun W hW => by rw [hp1]; exact refNumber_any W R rb _ 4 hW
  have CN : Hid (∀ W, Rd W R rb p1.2 → Calls Try.prog 52 #[.pointer (some ⟨rb, 0, none⟩), .int .u64 8] W fun e w' => e = .returned (.int .u64 pn.1) ∧ Rd w' R rb pn.2 ∧ W.grownBy w' (some rb)) := fun W hW => by rw [hpn]; exact refNumber_any W R rb _ 8 hW
  have C3 : Hid (∀ W, Rd W R rb p2.2 → Calls Try.prog 56 #[.pointer (some ⟨rb, 0, none⟩)] W fun e w' => e = .returned (.string ⟨p3.1.toArray⟩) ∧ Rd w' R rb p3.2 ∧ W.grownBy w' (some rb)) := fun W hW => by rw [hp3]; exact refRText_any W R rb _ hW
  have C4 : Hid (∀ W, Rd W R rb p3.2 → Calls Try.prog 52 #[.pointer (some ⟨rb, 0, none⟩), .int .u64 4294967295] W fun e w' => e = .returned (.int .u64 p4.1) ∧ Rd w' R rb p4.2 ∧ W.grownBy w' (some rb)) := fun W hW => by rw [hp4]; exact refNumber_any W R rb _ 4294967295 hW
  have C5 : Hid (∀ W, Rd W R rb p4.2 → Calls Try.prog 52 #[.pointer (some ⟨rb, 0, none⟩), .int .u64 1099511627776] W fun e w' => e = .returned (.int .u64 p5.1) ∧ Rd w' R rb p5.2 ∧ W.grownBy w' (some rb)) := fun W hW => by rw [hp5]; exact refNumber_any W R rb _ 1099511627776 hW
  have C6 : Hid (∀ W, Rd W R rb p5.2 → Calls Try.prog 52 #[.pointer (some ⟨rb, 0, none⟩), .int .u64 18446744073709551615] W fun e w' => e = .returned (.int .u64 p6.1) ∧ Rd w' R rb p6.2 ∧ W.grownBy w' (some rb)) := fun W hW => by rw [hp6]; exact refNumber_any W R rb _ 18446744073709551615 hW
  have C7 : Hid (∀ W, Rd W R rb p6.2 → Calls Try.prog 52 #[.pointer (some ⟨rb, 0, none⟩), .int .u64 18446744073709551615] W fun e w' => e = .returned (.int .u64 p7.1) ∧ Rd w' R rb p7.2 ∧ W.grownBy w' (some rb)) := fun W hW => by rw [hp7]; exact refNumber_any W R rb _ 18446744073709551615 hW
  have HP2 : Hid (p2 = dTexts pn.1 pn.2) := hp2
  clear hp0 hp1 hpn hp2 hp3 hp4 hp5 hp6 hp7
  obtain ⟨WA, hWA⟩ : ∃ WA, WA = ((w.alloc (.cells #[.int .u8 0, .int .i64 0, .slice none 0 0, .string ⟨#[]⟩, .int .u32 0, .int .i64 0, .int .u64 0, .int .u64 0] 36)).alloc (.cells #[.slice ao l.length cap, .bool false] 90)) := ⟨_, rfl⟩
  have bA0 : Below w.heap.size w (w.alloc (.cells #[.int .u8 0, .int .i64 0, .slice none 0 0, .string ⟨#[]⟩, .int .u32 0, .int .i64 0, .int .u64 0, .int .u64 0] 36)) := (Below.refl _ _).alloc (Nat.le_refl _) _
  have bWA : Below w.heap.size w WA := by rw [hWA]; exact bA0.alloc (by simp) _
  have hrd : Rd WA R rb ⟨l, false⟩ := by
    have := Rd.made2 (w.alloc (.cells #[.int .u8 0, .int .i64 0, .slice none 0 0, .string ⟨#[]⟩, .int .u32 0, .int .i64 0, .int .u64 0, .int .u64 0] 36)) R ao l cap (by rw [hR]; exact hb.below bA0 (Nat.le_refl _)) h1 h2 h3 (by rw [hR]; simp) 90
    rw [hWA, hrb]
    simpa using this
  have hRW : WB WA R zeroCmd := by
    rw [hWA, hR]
    exact (WB.made w zeroCmd 36).grown (World.grownBy_alloc _ _ none) (by simp)
  have hBS : Hid (BsAt w R ao l) := by rw [hR]; exact hb
  have hszA : WA.heap.size = w.heap.size + 2 := by rw [hWA]; simp
  have HBW : Hid (Below w.heap.size w WA) := bWA
  clear hb bA0 bWA h3
  have HM : Hid (cap ≤ maxLen) := h2
  unfold maxLen at h2
  go_enter Try.func31, Try.ntmps31
  go_upto_region 2 with fail
  rw [← hWA, ← hrb]
  have HR : Hid (R = w.heap.size) := hR
  have HRB : Hid (rb = w.heap.size + 1) := hrb
  have HSZ : Hid (WA.heap.size = w.heap.size + 2) := hszA
  have hRrb : R < rb := by omega
  have hRw : w.heap.size ≤ R := by omega
  clear hWA hrb hszA
  try rw [← hR]
  clear hR
  have nR : R ≠ rb := by omega
  go_cut [5] from 10 (fun s5 wx => ∃ C, s5 = .pointer (some ⟨C, 0, none⟩) ∧ rb < C ∧ WA.heap.size ≤ C ∧ CmdAt WA wx R rb R C p0.2 [.int .u8 (p0.1.toNat : Int), .int .i64 0, .slice none 0 0, .string ⟨#[]⟩, .int .u32 0, .int .i64 0, .int .u64 0, .int .u64 0])
  case first =>
    go_wp2_with (go_at_call 55; refine (C0.out WA hrd).mono ?_; rintro e w1 ⟨rfl, h1', g1⟩)
    go_meet
    case rel =>
      have z1 := g1.size
      have z2 := hrd.lt
      exact ⟨w1.heap.size, rfl, by omega, z1, ⟨h1'.grown (World.grownBy_alloc w1 _ none) (by simp) (by simp), (hRW.grown g1 (by simpa using nR)).grown (World.grownBy_alloc w1 _ none) (by simp), WB.made w1 [.int .u8 (p0.1.toNat : Int), .int .i64 0, .slice none 0 0, .string ⟨#[]⟩, .int .u32 0, .int .i64 0, .int .u64 0, .int .u64 0] 36, grown_alloc g1 _⟩⟩
  case rest =>
  obtain ⟨C, rfl, hrC, h0C, hA1⟩ := hcut
  obtain ⟨wa, hwa⟩ : ∃ wa, wa = wc := ⟨_, rfl⟩
  rw [← hwa] at hA1 ⊢
  clear hwa hrd hRW C0
  have hRC : R < C := by omega
  have nC : C ≠ rb := by omega
  have nRC : R ≠ C := by omega
  have hBC : R ≤ C := by omega
  have HNR : Hid (R ≠ rb) := nR
  have HNC : Hid (C ≠ rb) := nC
  have HNRC : Hid (R ≠ C) := nRC
  clear nR nC nRC
  go_upto_region 3 with fail
  go_cut [] from 10 (fun wx => CmdAt WA wx R rb R C p1.2 [.int .u8 (p0.1.toNat : Int), .int .i64 p1.1, .slice none 0 0, .string ⟨#[]⟩, .int .u32 0, .int .i64 0, .int .u64 0, .int .u64 0])
  case first =>
    go_wp2_with (go_at_call 52; refine (C1.out wa hA1.rd).mono ?_; rintro e w2 ⟨rfl, h2', g2⟩; have H2 := hA1.call HNR.out HNC.out g2 h2'; have xc : w2.cell? ⟨C, 1, none⟩ = some (.int .i64 0) := H2.c.cells 1 (by simp); have xf := H2.c.free 1)
    go_meet
    case rel => exact H2.set HNC.out HNRC.out hBC h0C 1 (.int .i64 p1.1) (by simp)
  case rest =>
  obtain ⟨wb, hwb⟩ : ∃ wb, wb = wc := ⟨_, rfl⟩
  rw [← hwb] at hcut ⊢
  have hA2 := hcut
  clear hwb hcut hA1 C1
  go_wp2_with (go_at_call 52; refine (CN.out wb hA2.rd).mono ?_; rintro e w3 ⟨rfl, h3', g3⟩; have H3 := hA2.call HNR.out HNC.out g3 h3')
  clear hA2 CN h3' g3
  go_loopw [7] (fun i wr => ∃ (k : Nat) (ks : List ByteArray) (st : St) (v : Value), k ≤ pn.1 ∧ i = .int .u64 k ∧ Hid (ks.length = k) ∧ Hid (dTexts pn.1 pn.2 = (ks ++ (dTexts (pn.1 - k) st).1, (dTexts (pn.1 - k) st).2)) ∧ CmdAt WA wr R rb R C st [.int .u8 (p0.1.toNat : Int), .int .i64 p1.1, v, .string ⟨#[]⟩, .int .u32 0, .int .i64 0, .int .u64 0, .int .u64 0] ∧ OwnTs wr (C + 1) v ks) (fun i _ => pn.1 - (intOf i).toNat)
  case atStart => exact ⟨0, [], pn.2, _, Nat.zero_le _, rfl, rfl, by simp [Hid], H3, OwnTs.nil _ _⟩
  case round =>
    obtain ⟨k, ks, st, v, hk, rfl, HKL, HTX, hA, how⟩ := hrel
    clear H3
    have hsC := hA.c.lt
    have hfl := hA.rd.flag
    have hex : (k < pn.1 ∧ st.bad = false) ∨ (decide ((k : Int) < (pn.1 : Int)) = false ∨ ((k : Int) < (pn.1 : Int) ∧ st.bad = true)) ∧ dTexts (pn.1 - k) st = ([], st) := by
      by_cases hlt : k < pn.1
      · cases hbd : st.bad with
        | false => exact .inl ⟨hlt, rfl⟩
        | true => exact .inr ⟨.inr ⟨by omega, rfl⟩, dTexts_bad _ _ hbd⟩
      · refine .inr ⟨.inl (by simp; omega), ?_⟩
        rw [show pn.1 - k = 0 by omega]
        rfl
    rcases hex with ⟨hlt, hbd⟩ | ⟨hex, hT0⟩
    · have hlt2 : (k : Int) < (pn.1 : Int) := by omega
      rw [hbd] at hfl
      have x2 : wr.cell? ⟨C, 2, none⟩ = some v := hA.c.cells 2 (by simp)
      have xf : wr.frozen? ⟨C, 2, none⟩ = false := hA.c.free 2
      have HTX2 : Hid (dTexts pn.1 pn.2 = ((ks ++ [⟨(dText st).1.toArray⟩]) ++ (dTexts (pn.1 - (k + 1)) (dText st).2).1, (dTexts (pn.1 - (k + 1)) (dText st).2).2)) := dTexts_step HTX.out hlt hbd
      have hln : ks.length + 1 ≤ 1000000 := by rw [HKL.out]; omega
      have hct := fun W hW => refRText_any W R rb st hW
      obtain ⟨pt, hpt⟩ : ∃ pt, pt = dText st := ⟨_, rfl⟩
      rw [← hpt] at HTX2 hct
      have HCT : Hid (∀ W, Rd W R rb st → Calls Try.prog 56 #[.pointer (some ⟨rb, 0, none⟩)] W fun e w' => e = .returned (.string ⟨pt.1.toArray⟩) ∧ Rd w' R rb pt.2 ∧ W.grownBy w' (some rb)) := hct
      have hvb : ∀ j, v.ownBlock = some j → C + 1 ≤ j := fun j hj => (how.lt j hj).1
      have HVB : Hid (∀ j, v.ownBlock = some j → C + 1 ≤ j) := hvb
      have hAd := hA.grew2 hrC hRC hBC h0C (grown_drew wr) (by simp)
      have howd : OwnTs wr.drew (C + 1) v ks := how.grown (grown_drew wr) (by simp)
      clear hct hpt HTX hvb hbd
      go_wp2
      go_region_law
        (first
          | (refine step_app_ts (w0 := w5) (by rfl) (.tmp 35) (.tmp 38) (by rfl) (C + 1) _ _ how5 (by rfl) _ (by rfl) (by rfl) hln hs5 ?_; intro v7 w7 ho7 hg7; obtain ⟨vo7, vc7, hv7, -⟩ := ho7.tl; rw [List.length_append, List.length_singleton] at hv7; subst hv7; have H7 := H5.grew2 hrC hRC hBC h0C hg7.grown HVB.out; have x7 : w7.cell? ⟨C, 2, none⟩ = some v := H7.c.cells 2 (by simp); have xf7 : w7.frozen? ⟨C, 2, none⟩ = false := H7.c.free 2)
          | (go_simp; go_at_call 56; refine (HCT.out _ hAd.rd).mono ?_; rintro e w5 ⟨rfl, h5, g5⟩; have H5 := hAd.call HNR.out HNC.out g5 h5; have x5 : w5.cell? ⟨C, 2, none⟩ = some v := H5.c.cells 2 (by simp); have how5 := howd.grown g5 (fun j hj e => by have := HVB.out j hj; cases e; omega); have hs5 : C + 1 ≤ w5.heap.size := H5.c.lt; have z5 : ∀ o, (w5.alloc o).cell? ⟨C, 2, none⟩ = some v := fun o => (World.cell?_alloc_past o _ _ H5.c.lt).trans x5))
      all_goals
        have S7 := H7.set HNC.out HNRC.out hBC h0C 2 (.slice vo7 (ks.length + 1) vc7) (by simp)
        have how7 := ho7.grown (grown_set w7 C 2 (.slice vo7 (ks.length + 1) vc7)) (fun j hj e => by have h1 := (ho7.lt j hj).1; cases e; omega)
        go_wp2
        go_roundw
        case rel => exact ⟨k + 1, ks ++ [⟨pt.1.toArray⟩], pt.2, _, hlt, rfl, by simp [Hid, HKL.out], HTX2, S7, how7⟩
        case measure => simp [intOf]; omega
    · have e2 := HTX.out
      rw [hT0, ← HP2.out] at e2
      simp only [List.append_nil] at e2
      subst e2
      clear HP2 HTX hT0
      obtain ⟨vo, vc, rfl, -⟩ := how.tl
      have hln : ks.length ≤ 8 := by rw [HKL.out]; omega
      have HVB : Hid (∀ j, (Value.slice vo ks.length vc).ownBlock = some j → C + 1 ≤ j) := fun j hj => (how.lt j hj).1
      have HOW : Hid (OwnTs wr (C + 1) (.slice vo ks.length vc) ks) := how
      clear how
      have HB1 : Hid (∀ j, (Value.slice vo ks.length vc).ownBlock = some j → some rb ≠ some j) := fun j hj e => by have := HVB.out j hj; cases e; omega
      have HB2 : Hid (∀ j, (Value.slice vo ks.length vc).ownBlock = some j → some C ≠ some j) := fun j hj e => by have := HVB.out j hj; cases e; omega
      have HB3 : Hid (∀ j, (Value.slice vo ks.length vc).ownBlock = some j → some R ≠ some j) := fun j hj e => by have := HVB.out j hj; cases e; omega
      have hfx : (decide ((k : Int) < (pn.1 : Int)) = false ∧ decide (k < pn.1) = false ∧ ¬ k < pn.1) ∨ ((k : Int) < (pn.1 : Int) ∧ wr.cell? ⟨rb, 1, none⟩ = some (.bool true)) := by
        rcases hex with h | ⟨h, h'⟩
        · have h' : ¬ (k : Int) < (pn.1 : Int) := by simpa using h
          exact .inl ⟨h, by simp; omega, by omega⟩
        · exact .inr ⟨h, by rw [← h']; exact hfl⟩
      clear hex hfl
      simp only [] at HPOS HNEG HGD C3
      rcases hfx with ⟨hlt2, hlt3, hlt4⟩ | ⟨hlt2, hfl⟩
      all_goals
       (
        go_upto_region 13 with (first
            | (go_at_call 52; refine (C6.out _ S8.rd).mono ?_; rintro e w9 ⟨rfl, h9, g9⟩; have H9 := S8.call HNR.out HNC.out g9 h9; have c9 : w9.cell? ⟨C, 6, none⟩ = some (.int .u64 0) := H9.c.cells 6 (by simp); have f9 := H9.c.free 6; have T9 := (T8.grown g9 HB1.out).grown (grown_set w9 C 6 (.int .u64 p6.1)) HB2.out; have S9 := H9.set HNC.out HNRC.out hBC h0C 6 (.int .u64 p6.1) (by simp); have m9 := True.intro)
            | (go_at_call 52; refine (C5.out _ S7.rd).mono ?_; rintro e w8 ⟨rfl, h8, g8⟩; have H8 := S7.call HNR.out HNC.out g8 h8; have c8 : w8.cell? ⟨C, 5, none⟩ = some (.int .i64 0) := H8.c.cells 5 (by simp); have f8 := H8.c.free 5; have T8 := (T7.grown g8 HB1.out).grown (grown_set w8 C 5 (.int .i64 p5.1)) HB2.out; have S8 := H8.set HNC.out HNRC.out hBC h0C 5 (.int .i64 p5.1) (by simp); have m8 := True.intro)
            | (go_at_call 52; refine (C4.out _ S6.rd).mono ?_; rintro e w7 ⟨rfl, h7, g7⟩; have H7 := S6.call HNR.out HNC.out g7 h7; have c7 : w7.cell? ⟨C, 4, none⟩ = some (.int .u32 0) := H7.c.cells 4 (by simp); have f7 := H7.c.free 4; have T7 := (T6.grown g7 HB1.out).grown (grown_set w7 C 4 (.int .u32 p4.1)) HB2.out; have S7 := H7.set HNC.out HNRC.out hBC h0C 4 (.int .u32 p4.1) (by simp); have m7 := True.intro)
            | (go_at_call 56; refine (C3.out wr hA.rd).mono ?_; rintro e w6 ⟨rfl, h6, g6⟩; have H6 := hA.call HNR.out HNC.out g6 h6; have c6 : w6.cell? ⟨C, 3, none⟩ = some (.string ⟨#[]⟩) := H6.c.cells 3 (by simp); have f6 := H6.c.free 3; have T6 := (HOW.out.grown g6 HB1.out).grown (grown_set w6 C 3 (.string ⟨p3.1.toArray⟩)) HB2.out; have S6 := H6.set HNC.out HNRC.out hBC h0C 3 (.string ⟨p3.1.toArray⟩) (by simp); have m6 := True.intro))

        go_cut [] from 10 (fun wx => CmdAt WA wx R rb R C p7.2 [.int .u8 (p0.1.toNat : Int), .int .i64 p1.1, (.slice vo ks.length vc), .string ⟨p3.1.toArray⟩, .int .u32 p4.1, .int .i64 p5.1, .int .u64 p6.1, .int .u64 p7.1] ∧ OwnTs wx (C + 1) (.slice vo ks.length vc) ks)
        case first =>
          go_wp2_with (first
              | (go_at_call 52; refine (C7.out _ S9.rd).mono ?_; rintro e w10 ⟨rfl, h10, g10⟩; have H10 := S9.call HNR.out HNC.out g10 h10; have c10 : w10.cell? ⟨C, 7, none⟩ = some (.int .u64 0) := H10.c.cells 7 (by simp); have f10 := H10.c.free 7; have T10 := (T9.grown g10 HB1.out).grown (grown_set w10 C 7 (.int .u64 p7.1)) HB2.out; have S10 := H10.set HNC.out HNRC.out hBC h0C 7 (.int .u64 p7.1) (by simp); have m10 := True.intro))
          go_meet
          case rel => exact ⟨S10, T10⟩
        case rest =>
        obtain ⟨hA, how⟩ := hcut
        obtain ⟨wd, hwd⟩ : ∃ wd, wd = wc := ⟨_, rfl⟩
        rw [← hwd] at hA how ⊢
        clear hwd C3 C4 C5 C6 C7 HOW hsC
        have hfl' := hA.rd.flag
        have HOW : Hid (OwnTs wd (C + 1) (.slice vo ks.length vc) ks) := how
        have HBD : Hid (Below w.heap.size w wd) := by
          have hx := below_row hA.g (B := w.heap.size) (by have := HRB.out; omega) (by have := HSZ.out; omega)
          exact HBW.out.trans hx
        have htl := tl_of how
        clear how
        cases hbad : p7.2.bad with
        | true =>
          rw [hbad] at hfl'
          have z0 : wd.cell? ⟨R, 0, none⟩ = some (.int .u8 0) := hA.r.cells 0 (by simp [zeroCmd]); have zf0 := hA.r.free 0; have z1 : wd.cell? ⟨R, 1, none⟩ = some (.int .i64 0) := hA.r.cells 1 (by simp [zeroCmd]); have zf1 := hA.r.free 1; have z2 : wd.cell? ⟨R, 2, none⟩ = some (.slice none 0 0) := hA.r.cells 2 (by simp [zeroCmd]); have zf2 := hA.r.free 2; have z3 : wd.cell? ⟨R, 3, none⟩ = some (.string ⟨#[]⟩) := hA.r.cells 3 (by simp [zeroCmd]); have zf3 := hA.r.free 3; have z4 : wd.cell? ⟨R, 4, none⟩ = some (.int .u32 0) := hA.r.cells 4 (by simp [zeroCmd]); have zf4 := hA.r.free 4; have z5 : wd.cell? ⟨R, 5, none⟩ = some (.int .i64 0) := hA.r.cells 5 (by simp [zeroCmd]); have zf5 := hA.r.free 5; have z6 : wd.cell? ⟨R, 6, none⟩ = some (.int .u64 0) := hA.r.cells 6 (by simp [zeroCmd]); have zf6 := hA.r.free 6; have z7 : wd.cell? ⟨R, 7, none⟩ = some (.int .u64 0) := hA.r.cells 7 (by simp [zeroCmd]); have zf7 := hA.r.free 7
          have HBAD : Hid (p7.2.bad = true) := hbad
          clear hbad
          go_wp2
          have hbad := HBAD.out
          have hzz := HNEG.out (by first | (simp [hbad]; done) | (simp [hok']; done) | (simp [hne]; done))
          refine bodyPost_ret (v := .tuple #[.agg #[.int .u8 0, .int .i64 0, .slice none 0 0, .string ⟨#[]⟩, .int .u32 0, .int .i64 0, .int .u64 0, .int .u64 0], .int .i64 8]) (by simp [results, Try.results31, go_sem, z0, z1, z2, z3, z4, z5, z6, z7]) rfl ⟨none, 0, by rw [hzz.1, hzz.2]; rfl, by rw [hzz.2]; exact ⟨by simp [zeroC], by omega, fun _ => rfl, .inl rfl⟩, ?_⟩
          first
            | exact set8 HBD.out hRw _ _ _ _ _ _ _ _
            | (have hq := set8 HBD.out hRw; rw [← HR.out] at hq; exact hq _ _ _ _ _ _ _ _)
        | false =>
          rw [hbad] at hfl'
          have HBAD : Hid (p7.2.bad = false) := hbad
          clear hbad
          have y0 : wd.cell? ⟨C, 0, none⟩ = some (.int .u8 (p0.1.toNat : Int)) := hA.c.cells 0 (by simp); have y1 : wd.cell? ⟨C, 1, none⟩ = some (.int .i64 p1.1) := hA.c.cells 1 (by simp); have y2 : wd.cell? ⟨C, 2, none⟩ = some ((.slice vo ks.length vc)) := hA.c.cells 2 (by simp); have y3 : wd.cell? ⟨C, 3, none⟩ = some (.string ⟨p3.1.toArray⟩) := hA.c.cells 3 (by simp); have y4 : wd.cell? ⟨C, 4, none⟩ = some (.int .u32 p4.1) := hA.c.cells 4 (by simp); have y5 : wd.cell? ⟨C, 5, none⟩ = some (.int .i64 p5.1) := hA.c.cells 5 (by simp); have y6 : wd.cell? ⟨C, 6, none⟩ = some (.int .u64 p6.1) := hA.c.cells 6 (by simp); have y7 : wd.cell? ⟨C, 7, none⟩ = some (.int .u64 p7.1) := hA.c.cells 7 (by simp)
          by_cases hok : cmdOk ⟨p0.1, p1.1, ks, ⟨p3.1.toArray⟩, p4.1, p5.1, p6.1, p7.1⟩ = true
          · have hcg := refCommand_good ⟨p0.1, p1.1, ks, ⟨p3.1.toArray⟩, p4.1, p5.1, p6.1, p7.1⟩ wd vo vc htl hok HGD.out
            unfold Cmd.cells bcell at hcg
            simp only [] at hcg
            obtain ⟨CB, hCB⟩ : ∃ CB, CB = cmdB ⟨p0.1, p1.1, ks, ⟨p3.1.toArray⟩, p4.1, p5.1, p6.1, p7.1⟩ := ⟨_, rfl⟩
            rw [← hCB] at hcg HPOS HNEG
            have HCG : Hid (Calls Try.prog 30 #[.agg #[.int .u8 (p0.1.toNat : Int), .int .i64 p1.1, (.slice vo ks.length vc), .string ⟨p3.1.toArray⟩, .int .u32 p4.1, .int .i64 p5.1, .int .u64 p6.1, .int .u64 p7.1]] wd fun e w' => ∃ v', e = .returned (.tuple #[v', .int .i64 0]) ∧ Own w' wd.heap.size v' CB ∧ Below wd.heap.size wd w') := hcg
            clear hcg hCB
            by_cases hcb : CB = l
            · subst hcb
              have HZ := HPOS.out (by rw [HBAD.out, hok]; simp)
              have HZZ : Hid (OE = 0 ∧ OC = ⟨p0.1, p1.1, ks, ⟨p3.1.toArray⟩, p4.1, p5.1, p6.1, p7.1⟩) := HZ
              clear hok HPOS HNEG HZ
              go_wp2_with (go_at_call 30; refine HCG.out.mono ?_; rintro e w13 ⟨v13, rfl, ho13, hb13⟩; have hA13 := hA.grew2 hrC hRC hBC h0C (below_none hb13) (by simp); have hcv1 := ho13.conv _ (Below.refl _ _); have hcv2 := conv_bytes w13 R ao CB cap (((hBS.out.below (HBD.out.mono (by have := HR.out; omega)) (Nat.le_refl _))).below (hb13.mono (by have := hA.r.lt; omega)) (Nat.le_refl _)); have z0 : w13.cell? ⟨R, 0, none⟩ = some (.int .u8 0) := hA13.r.cells 0 (by simp [zeroCmd]); have zf0 := hA13.r.free 0; have z1 : w13.cell? ⟨R, 1, none⟩ = some (.int .i64 0) := hA13.r.cells 1 (by simp [zeroCmd]); have zf1 := hA13.r.free 1; have z2 : w13.cell? ⟨R, 2, none⟩ = some (.slice none 0 0) := hA13.r.cells 2 (by simp [zeroCmd]); have zf2 := hA13.r.free 2; have z3 : w13.cell? ⟨R, 3, none⟩ = some (.string ⟨#[]⟩) := hA13.r.cells 3 (by simp [zeroCmd]); have zf3 := hA13.r.free 3; have z4 : w13.cell? ⟨R, 4, none⟩ = some (.int .u32 0) := hA13.r.cells 4 (by simp [zeroCmd]); have zf4 := hA13.r.free 4; have z5 : w13.cell? ⟨R, 5, none⟩ = some (.int .i64 0) := hA13.r.cells 5 (by simp [zeroCmd]); have zf5 := hA13.r.free 5; have z6 : w13.cell? ⟨R, 6, none⟩ = some (.int .u64 0) := hA13.r.cells 6 (by simp [zeroCmd]); have zf6 := hA13.r.free 6; have z7 : w13.cell? ⟨R, 7, none⟩ = some (.int .u64 0) := hA13.r.cells 7 (by simp [zeroCmd]); have zf7 := hA13.r.free 7; have y0 : w13.cell? ⟨C, 0, none⟩ = some (.int .u8 (p0.1.toNat : Int)) := hA13.c.cells 0 (by simp); have y1 : w13.cell? ⟨C, 1, none⟩ = some (.int .i64 p1.1) := hA13.c.cells 1 (by simp); have y2 : w13.cell? ⟨C, 2, none⟩ = some ((.slice vo ks.length vc)) := hA13.c.cells 2 (by simp); have y3 : w13.cell? ⟨C, 3, none⟩ = some (.string ⟨p3.1.toArray⟩) := hA13.c.cells 3 (by simp); have y4 : w13.cell? ⟨C, 4, none⟩ = some (.int .u32 p4.1) := hA13.c.cells 4 (by simp); have y5 : w13.cell? ⟨C, 5, none⟩ = some (.int .i64 p5.1) := hA13.c.cells 5 (by simp); have y6 : w13.cell? ⟨C, 6, none⟩ = some (.int .u64 p6.1) := hA13.c.cells 6 (by simp); have y7 : w13.cell? ⟨C, 7, none⟩ = some (.int .u64 p7.1) := hA13.c.cells 7 (by simp); have nRC' := HNRC.out)
              have T13 := HOW.out.grown (below_none hb13) (by simp)
              have b13 := HBD.out.trans (hb13.mono HBD.out.size)
              refine bodyPost_ret (v := .tuple #[.agg #[.int .u8 (p0.1.toNat : Int), .int .i64 p1.1, (.slice vo ks.length vc), .string ⟨p3.1.toArray⟩, .int .u32 p4.1, .int .i64 p5.1, .int .u64 p6.1, .int .u64 p7.1], .int .i64 0]) (by simp [results, Try.results31, go_sem, z0, z1, z2, z3, z4, z5, z6, z7]) rfl ⟨vo, vc, by rw [HZZ.out.1, HZZ.out.2]; rfl, ?_, ?_⟩
              · rw [HZZ.out.2]
                exact tl_of ((((((((T13.grown (grown_set _ R 0 _) HB3.out).grown (grown_set _ R 1 _) HB3.out).grown (grown_set _ R 2 _) HB3.out).grown (grown_set _ R 3 _) HB3.out).grown (grown_set _ R 4 _) HB3.out).grown (grown_set _ R 5 _) HB3.out).grown (grown_set _ R 6 _) HB3.out).grown (grown_set _ R 7 _) HB3.out)
              · first
                  | exact set8 b13 hRw _ _ _ _ _ _ _ _
                  | (have hq := set8 b13 hRw; rw [← HR.out] at hq; exact hq _ _ _ _ _ _ _ _)
            · have hne : decide (CB = l) = false := by simpa using hcb
              have hx1 : ¬ ((⟨CB.toArray⟩ : ByteArray) = ⟨l.toArray⟩) := fun e => hcb (by have := congrArg (fun b : ByteArray => b.data.toList) e; simpa using this)
              obtain ⟨X, hX⟩ : ∃ X : ByteArray, X = ⟨CB.toArray⟩ := ⟨_, rfl⟩
              obtain ⟨Y, hY⟩ : ∃ Y : ByteArray, Y = ⟨l.toArray⟩ := ⟨_, rfl⟩
              clear hx1
              have hx2 : (X.toList == Y.toList) = false := by rw [hX, hY, ByteArray.toList_mk, ByteArray.toList_mk]; simpa using hcb
              have HX : Hid (X = ⟨CB.toArray⟩) := hX
              have HY : Hid (Y = ⟨l.toArray⟩) := hY
              have HNE : Hid (decide (CB = l) = false) := hne
              clear hX hY hne hcb hok
              go_wp2_with (go_at_call 30; refine HCG.out.mono ?_; rintro e w13 ⟨v13, rfl, ho13, hb13⟩; have hA13 := hA.grew2 hrC hRC hBC h0C (below_none hb13) (by simp); have hcv1 := ho13.conv _ (Below.refl _ _); have hcv2 := conv_bytes w13 R ao l cap (((hBS.out.below (HBD.out.mono (by have := HR.out; omega)) (Nat.le_refl _))).below (hb13.mono (by have := hA.r.lt; omega)) (Nat.le_refl _)); rw [← HX.out] at hcv1; rw [← HY.out] at hcv2; have z0 : w13.cell? ⟨R, 0, none⟩ = some (.int .u8 0) := hA13.r.cells 0 (by simp [zeroCmd]); have zf0 := hA13.r.free 0; have z1 : w13.cell? ⟨R, 1, none⟩ = some (.int .i64 0) := hA13.r.cells 1 (by simp [zeroCmd]); have zf1 := hA13.r.free 1; have z2 : w13.cell? ⟨R, 2, none⟩ = some (.slice none 0 0) := hA13.r.cells 2 (by simp [zeroCmd]); have zf2 := hA13.r.free 2; have z3 : w13.cell? ⟨R, 3, none⟩ = some (.string ⟨#[]⟩) := hA13.r.cells 3 (by simp [zeroCmd]); have zf3 := hA13.r.free 3; have z4 : w13.cell? ⟨R, 4, none⟩ = some (.int .u32 0) := hA13.r.cells 4 (by simp [zeroCmd]); have zf4 := hA13.r.free 4; have z5 : w13.cell? ⟨R, 5, none⟩ = some (.int .i64 0) := hA13.r.cells 5 (by simp [zeroCmd]); have zf5 := hA13.r.free 5; have z6 : w13.cell? ⟨R, 6, none⟩ = some (.int .u64 0) := hA13.r.cells 6 (by simp [zeroCmd]); have zf6 := hA13.r.free 6; have z7 : w13.cell? ⟨R, 7, none⟩ = some (.int .u64 0) := hA13.r.cells 7 (by simp [zeroCmd]); have zf7 := hA13.r.free 7)
              have hne := HNE.out
              have b13 := HBD.out.trans (hb13.mono HBD.out.size)
              have hzz := HNEG.out (by first | (simp [hbad]; done) | (simp [hok']; done) | (simp [hne]; done))
              refine bodyPost_ret (v := .tuple #[.agg #[.int .u8 0, .int .i64 0, .slice none 0 0, .string ⟨#[]⟩, .int .u32 0, .int .i64 0, .int .u64 0, .int .u64 0], .int .i64 8]) (by simp [results, Try.results31, go_sem, z0, z1, z2, z3, z4, z5, z6, z7]) rfl ⟨none, 0, by rw [hzz.1, hzz.2]; rfl, by rw [hzz.2]; exact ⟨by simp [zeroC], by omega, fun _ => rfl, .inl rfl⟩, ?_⟩
              first
                | exact set8 b13 hRw _ _ _ _ _ _ _ _
                | (have hq := set8 b13 hRw; rw [← HR.out] at hq; exact hq _ _ _ _ _ _ _ _)
          · have hok' : cmdOk ⟨p0.1, p1.1, ks, ⟨p3.1.toArray⟩, p4.1, p5.1, p6.1, p7.1⟩ = false := by simpa using hok
            have hcg := refCommand_bad ⟨p0.1, p1.1, ks, ⟨p3.1.toArray⟩, p4.1, p5.1, p6.1, p7.1⟩ wd vo vc htl hok'
            unfold Cmd.cells bcell at hcg
            simp only [] at hcg
            have HCG : Hid (Calls Try.prog 30 #[.agg #[.int .u8 (p0.1.toNat : Int), .int .i64 p1.1, (.slice vo ks.length vc), .string ⟨p3.1.toArray⟩, .int .u32 p4.1, .int .i64 p5.1, .int .u64 p6.1, .int .u64 p7.1]] wd fun e w' => e = .returned (.tuple #[.slice none 0 0, .int .i64 8]) ∧ Below wd.heap.size wd w') := hcg
            have HOK : Hid (cmdOk ⟨p0.1, p1.1, ks, ⟨p3.1.toArray⟩, p4.1, p5.1, p6.1, p7.1⟩ = false) := hok'
            clear hcg hok hok'
            go_wp2_with (go_at_call 30; refine HCG.out.mono ?_; rintro e w13 ⟨rfl, hb13⟩; have hA13 := hA.grew2 hrC hRC hBC h0C (below_none hb13) (by simp); have z0 : w13.cell? ⟨R, 0, none⟩ = some (.int .u8 0) := hA13.r.cells 0 (by simp [zeroCmd]); have zf0 := hA13.r.free 0; have z1 : w13.cell? ⟨R, 1, none⟩ = some (.int .i64 0) := hA13.r.cells 1 (by simp [zeroCmd]); have zf1 := hA13.r.free 1; have z2 : w13.cell? ⟨R, 2, none⟩ = some (.slice none 0 0) := hA13.r.cells 2 (by simp [zeroCmd]); have zf2 := hA13.r.free 2; have z3 : w13.cell? ⟨R, 3, none⟩ = some (.string ⟨#[]⟩) := hA13.r.cells 3 (by simp [zeroCmd]); have zf3 := hA13.r.free 3; have z4 : w13.cell? ⟨R, 4, none⟩ = some (.int .u32 0) := hA13.r.cells 4 (by simp [zeroCmd]); have zf4 := hA13.r.free 4; have z5 : w13.cell? ⟨R, 5, none⟩ = some (.int .i64 0) := hA13.r.cells 5 (by simp [zeroCmd]); have zf5 := hA13.r.free 5; have z6 : w13.cell? ⟨R, 6, none⟩ = some (.int .u64 0) := hA13.r.cells 6 (by simp [zeroCmd]); have zf6 := hA13.r.free 6; have z7 : w13.cell? ⟨R, 7, none⟩ = some (.int .u64 0) := hA13.r.cells 7 (by simp [zeroCmd]); have zf7 := hA13.r.free 7)
            have hok' := HOK.out
            have b13 := HBD.out.trans (hb13.mono HBD.out.size)
            have hzz := HNEG.out (by first | (simp [hbad]; done) | (simp [hok']; done) | (simp [hne]; done))
            refine bodyPost_ret (v := .tuple #[.agg #[.int .u8 0, .int .i64 0, .slice none 0 0, .string ⟨#[]⟩, .int .u32 0, .int .i64 0, .int .u64 0, .int .u64 0], .int .i64 8]) (by simp [results, Try.results31, go_sem, z0, z1, z2, z3, z4, z5, z6, z7]) rfl ⟨none, 0, by rw [hzz.1, hzz.2]; rfl, by rw [hzz.2]; exact ⟨by simp [zeroC], by omega, fun _ => rfl, .inl rfl⟩, ?_⟩
            first
              | exact set8 b13 hRw _ _ _ _ _ _ _ _
              | (have hq := set8 b13 hRw; rw [← HR.out] at hq; exact hq _ _ _ _ _ _ _ _)
       )
end Go.Proofs.Ytgfhjkphdmkmoaa
