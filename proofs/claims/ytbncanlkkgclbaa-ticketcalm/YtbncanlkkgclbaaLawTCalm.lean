/-
  TicketCalm, walked: where a ticket waits, whoever has the eldest one is ready.
-/
import Derived.Test.YtbncanlkkgclbaaTkT
namespace Go.Proofs.Ytbncanlkkgclbaa
open Go.RowKit
set_option linter.unusedSimpArgs false
set_option linter.unusedVariables false
set_option maxRecDepth 100000

/-- the eldest one's shard, and its number -/
def Eld (q : List (List Tk)) (k : Nat) (r x : Int) : Prop := Least q (fun _ => 0) k r ∧ ∀ (s : Nat) (t : Tk) (l : List Tk), r = (s : Int) → lft q (fun _ => 0) s = t :: l → x = t.num
theorem Eld.zero (q : List (List Tk)) : Eld q 0 (-1) (-1) := ⟨.inl ⟨rfl, fun i hi => absurd hi (by omega)⟩, fun s _ _ e => by omega⟩
theorem Eld.skip {q : List (List Tk)} {k : Nat} {r x : Int} (h : Eld q k r x) (e : lft q (fun _ => 0) k = []) : Eld q (k + 1) r x := ⟨h.1.skip e, h.2⟩
theorem Eld.take {q : List (List Tk)} {k : Nat} {r x : Int} {t : Tk} {l : List Tk} (h : Eld q k r x) (e : lft q (fun _ => 0) k = t :: l) (hc : r < 0 ∨ t.num < x) : Eld q (k + 1) (k : Int) t.num := by
  refine ⟨?_, fun s t' l' es et => ?_⟩
  · rcases h.1 with ⟨h1, h2⟩ | ⟨s, t1, l1, h1, h2, h3, h4⟩
    · exact Least.first h2 e
    · have hx := h.2 s t1 l1 h1 h3
      exact Least.less h4 e (by omega)
  · have : s = k := by omega
    subst this
    rw [e] at et
    rw [(List.cons.inj et).1]
theorem Eld.stay {q : List (List Tk)} {k : Nat} {r x : Int} {t : Tk} {l : List Tk} (h : Eld q k r x) (e : lft q (fun _ => 0) k = t :: l) (h1 : ¬ r < 0) (h2 : ¬ t.num < x) : Eld q (k + 1) r x := by
  refine ⟨?_, h.2⟩
  rcases h.1 with ⟨g1, _⟩ | ⟨s, t1, l1, g1, g2, g3, g4⟩
  · omega
  · have hx := h.2 s t1 l1 g1 g3
    rw [g1]
    exact Least.stay g2 g3 g4 e (by omega)
theorem calm_end {q : List (List Tk)} {next r x : Int} (hq : QOk q next) (h : Eld q q.length r x) : decide (r ∈ rdyL q) = decide (0 ≤ r) := by
  rw [Bool.eq_iff_iff, decide_eq_true_iff, decide_eq_true_iff]
  unfold rdyL rdyTo
  rcases h.1 with ⟨g1, g2⟩ | ⟨s, t1, l1, g1, g2, g3, g4⟩
  · constructor
    · intro hm
      obtain ⟨i, _, e⟩ := List.mem_map.1 hm
      omega
    · intro; omega
  · refine ⟨fun _ => by omega, fun _ => ?_⟩
    rw [List.mem_map]
    refine ⟨s, List.mem_filter.2 ⟨List.mem_range.2 g2, ?_⟩, g1.symm⟩
    have hF : FitQ (lft q (fun _ => 0)) q.length := (Tk.Fit.congr fun i _ => (lft_zero q i).symm).1 hq.fit
    have hh : hld q (fun _ => 0) t1 = t1.needs q.length := hld_eq.2 fun r hr => hF.heads g2 g3 g4 r hr
    unfold rdy
    rw [lft_zero] at g3
    rw [g3]
    simpa using hh

set_option maxHeartbeats 4000000 in
theorem ticketCalm_any (B : List Bx) (ao : Option Addr) (cap : Nat) (next : Int) (w : World) (h : Qr w ao B cap) :
    Calls Try.prog 8 #[.agg #[.int .i64 next, .slice ao B.length cap]] w fun e w' => e = .returned (.bool true) ∧ Below w.heap.size w w' := by
  have hlen := h.row.len
  obtain ⟨W, hW⟩ : ∃ W, W = w.alloc (.cells #[.int .i64 next, .slice ao B.length cap] 62) := ⟨_, rfl⟩
  have HB : Hid (Below w.heap.size w W) := by rw [hW]; exact g_alloc _ _
  have HX : Hid (GBx W w.heap.size [.int .i64 next, .slice ao B.length cap]) := by rw [hW]; exact GBx.made w [.int .i64 next, .slice ao B.length cap] _
  have HR := Hid.mk2 (h.below HB.out)
  have HAL := Hid.mk2 (alive12_any W)
  have HGR := Hid.mk2 (fun V (hV : Below W.heap.size W V) => great12_any B ao cap _ rfl next V (HR.out.below hV))
  have HRD := Hid.mk2 (fun V (hV : Below W.heap.size W V) => ready_any B ao cap _ rfl next V (HR.out.below hV))
  clear h
  go_enter Try.func8, Try.ntmps8
  go_upto_region 1 with (fail)
  rw [← hW]
  clear hW
  go_upto_region 2 with (go_at_call 31; refine HAL.out.mono ?_; rintro e w1 ⟨rfl, hb1⟩; have HB1 := Hid.mk2 hb1; clear hb1)
  have HX1 := Hid.mk2 (HX.out.below HB1.out)
  have x0 := HX1.out.c 0 (by simp)
  have x1 := HX1.out.c 1 (by simp)
  have xlt := HX1.out.lt
  simp only [List.getElem_cons_zero, List.getElem_cons_succ] at x0 x1
  have HGR1 := Hid.mk2 (HGR.out w1 HB1.out)
  go_cut [17] from 11 (fun s17 wx => ∃ b : Bool, s17 = .bool b ∧ Hid (Below w1.heap.size w1 wx))
  case first =>
    go_wp2_with (go_at_call 32; refine HGR1.out.mono ?_; rintro e w2 ⟨⟨b, rfl⟩, hb2⟩; have HB2 := Hid.mk2 hb2; clear hb2; cases b)
    all_goals
      go_meet
      case rel => exact ⟨_, rfl, HB2⟩
  case rest =>
  obtain ⟨b, rfl, HB2⟩ := hcut
  cases b
  case true =>
    go_wp2
    go_ret
    exact ⟨rfl, g_on HB.out (g_on HB1.out HB2.out)⟩
  obtain ⟨w2, hw2⟩ : ∃ w2, w2 = wc := ⟨_, rfl⟩
  rw [← hw2] at HB2 ⊢
  have HX2 := Hid.mk2 (HX1.out.below HB2.out)
  clear hw2 x0 x1 xlt HGR1 HGR HAL HX1 HX
  have x0 := HX2.out.c 0 (by simp)
  have x1 := HX2.out.c 1 (by simp)
  have xlt := HX2.out.lt
  simp only [List.getElem_cons_zero, List.getElem_cons_succ] at x0 x1
  have HRD2 := Hid.mk2 (HRD.out w2 (g_on HB1.out HB2.out))
  by_cases hok : QOk (dat B) next
  case neg =>
    rw [ckQ_bad hok, if_neg (by decide)] at HRD2
    go_wp2_with (go_at_call 30; refine HRD2.out.mono ?_; rintro e w3 ⟨v3, rfl, hO3, hb3⟩; obtain ⟨a3, c3, hv3, -⟩ := hO3.rd okI; subst hv3; have HB3 := Hid.mk2 hb3; clear hO3 hb3)
    go_ret
    exact ⟨by first | rfl | simp, g_on HB.out (g_on HB1.out (g_on HB2.out HB3.out))⟩
  rw [ckQ_ok hok, if_pos rfl] at HRD2
  have HCE := Hid.mk2 (fun r x => @calm_end (dat B) next r x hok)
  have hn1 : B.length ≤ 4 := by have := hok.n1; rw [dat_len] at this; exact this
  obtain ⟨R, hR⟩ : ∃ R, R = rdyL (dat B) := ⟨_, rfl⟩
  rw [← hR] at HRD2 HCE
  rw [dat_len] at HCE
  clear hR hok HRD
  go_upto_region 7 with (go_at_call 30; refine HRD2.out.mono ?_; rintro e w3 ⟨v3, rfl, hO3, hb3⟩; obtain ⟨a3, c3, hv3, hR3⟩ := hO3.rd okI; subst hv3; have HR3 := Hid.mk2 hR3; have HB3 := Hid.mk2 hb3; have hRl := hR3.len; clear hO3 hb3 hR3)
  have HX3 := Hid.mk2 (HX2.out.below HB3.out)
  have HBA : Hid (Below W.heap.size W w3) := g_on HB1.out (g_on HB2.out HB3.out)
  clear x0 x1 xlt HRD2 HX2
  have x1 := HX3.out.c 1 (by simp)
  have xlt := HX3.out.lt
  simp only [List.getElem_cons_zero, List.getElem_cons_succ] at x1
  go_wp2
  go_loopw [6, 7, 8] (fun a b i wr => ∃ (k : Nat) (r x : Int), k ≤ B.length ∧ i = .int .i64 k ∧ a = .int .i64 x ∧ b = .int .i64 r ∧ wr = w3 ∧ Hid (Eld (dat B) k r x)) (fun _ _ i _ => B.length - (intOf i).toNat)
  case atStart => exact ⟨0, -1, -1, Nat.zero_le _, rfl, rfl, rfl, rfl, Eld.zero _⟩
  case round =>
    obtain ⟨k, r, x, hkn, rfl, rfl, rfl, hwr, HE⟩ := hrel
    rw [hwr]
    clear hwr
    by_cases hkl : k < B.length
    · have hkl2 : (k : Int) < (B.length : Int) := by omega
      have hne : B ≠ [] := by intro e; rw [e] at hkl; simp at hkl
      have HBOX := Hid.mk2 ((HR.out.box B[k] (List.getElem_mem hkl)).below HBA.out)
      have HNIL := Hid.mk2 (@lft_dat_nil B (fun _ => 0) k hkl)
      have HCON := Hid.mk2 (@lft_dat_cons B (fun _ => 0) k hkl)
      obtain ⟨b, off, rfl, hbl, hcs⟩ := HR.out.row.bx hne
      have rb := (HBA.out.cell (p := ⟨b, off + k, none⟩) hbl).trans (hcs k hkl)
      have hlk := HBOX.out.len
      obtain ⟨bx, hbx⟩ : ∃ bx, bx = B[k] := ⟨_, rfl⟩
      rw [← hbx] at rb hlk HNIL HBOX
      have HCON2 : Hid (∀ h : 0 < bx.l.length, ∃ l', lft (dat B) (fun _ => 0) k = bx.l[0].t :: l') := by intro h; subst hbx; exact ⟨_, HCON.out h⟩
      clear HCON hbx hcs hne
      obtain ⟨bl, bao, bcap⟩ := bx
      cases bl with
      | nil =>
        have HE2 := Hid.mk2 (HE.out.skip (HNIL.out (by simp)))
        clear HE HCON2 HNIL
        dsimp only [List.length_nil] at rb
        go_wp2
        go_roundw
        case rel => exact ⟨k + 1, r, x, by omega, by go_num, rfl, rfl, by first | rfl | trivial, HE2⟩
        case measure => simp [intOf]; omega
      | cons d bl =>
        obtain ⟨l', hl'⟩ := HCON2.out (by simp)
        have HL : Hid (lft (dat B) (fun _ => 0) k = d.t :: l') := hl'
        obtain ⟨b1, off1, e1, hbl1, hc1⟩ := HBOX.out.tks (by simp)
        have r0 := (hc1 0 (by simp)).1
        simp only [List.getElem_cons_zero, Nat.zero_mul, Nat.add_zero] at r0
        dsimp only at e1 rb hlk
        subst e1
        obtain ⟨M, hM⟩ : ∃ M, M = (d :: bl).length := ⟨_, rfl⟩
        have hM1 : 0 < M := by rw [hM]; simp
        have hM2 : (0 : Int) < (M : Int) := by omega
        rw [← hM] at rb
        clear hc1 hM HBOX HNIL HCON2 hl' hlk
        have HTA := Hid.mk2 (HE.out.take HL.out)
        have HST := Hid.mk2 (HE.out.stay HL.out)
        obtain ⟨y, hy⟩ : ∃ y, y = d.t.num := ⟨_, rfl⟩
        rw [← hy] at r0 HTA HST
        clear hy HL HE
        by_cases hr : r < 0
        · have HE2 := Hid.mk2 (HTA.out (.inl hr))
          clear HTA HST
          go_wp2
          go_roundw
          case rel => exact ⟨k + 1, k, y, by omega, by go_num, rfl, rfl, by first | rfl | trivial, HE2⟩
          case measure => simp [intOf]; omega
        by_cases hy2 : y < x
        · have HE2 := Hid.mk2 (HTA.out (.inr hy2))
          clear HTA HST
          go_wp2
          go_roundw
          case rel => exact ⟨k + 1, k, y, by omega, by go_num, rfl, rfl, by first | rfl | trivial, HE2⟩
          case measure => simp [intOf]; omega
        · have HE2 := Hid.mk2 (HST.out hr hy2)
          clear HTA HST
          go_wp2
          go_roundw
          case rel => exact ⟨k + 1, r, x, by omega, by go_num, rfl, rfl, by first | rfl | trivial, HE2⟩
          case measure => simp [intOf]; omega
    · have hkl2 : ¬ ((k : Int) < (B.length : Int)) := by omega
      have ek : k = B.length := by omega
      subst ek
      have HEND := Hid.mk2 (HCE.out r x HE.out)
      clear HE HCE
      go_wp2
      go_loopw [9, 10] (fun a i wz => ∃ (j : Nat), j ≤ R.length ∧ i = .int .i64 j ∧ a = .bool (decide (r ∈ R.take j)) ∧ Hid (wz = w3)) (fun _ i _ => R.length - (intOf i).toNat)
      case atStart => exact ⟨0, Nat.zero_le _, rfl, by simp, (rfl : _ = _)⟩
      case round =>
        obtain ⟨j, hjn, rfl, rfl, HWZ⟩ := hrel
        rw [HWZ.out]
        clear HWZ
        by_cases hjl : j < R.length
        · have hjl2 : (j : Int) < (R.length : Int) := by omega
          have hneR : R ≠ [] := by intro e; rw [e] at hjl; simp at hjl
          obtain ⟨b6, o6, rfl, hb6, hc6⟩ := HR3.out.int hneR
          have r6 := hc6 j hjl
          have HTK : Hid (decide (r ∈ R.take (j + 1)) = (decide (r ∈ R.take j) || (R[j] == r))) := by
            show _ = _
            rw [take_step R j hjl, Bool.eq_iff_iff]
            simp only [decide_eq_true_eq, List.mem_append, List.mem_singleton, Bool.or_eq_true, beq_iff_eq]
            exact or_congr Iff.rfl eq_comm
          obtain ⟨H0, hH0⟩ : ∃ H0, H0 = decide (r ∈ R.take j) := ⟨_, rfl⟩
          obtain ⟨H1, hH1⟩ : ∃ H1, H1 = decide (r ∈ R.take (j + 1)) := ⟨_, rfl⟩
          have HH1 := Hid.mk2 hH1
          rw [← hH0, ← hH1] at HTK
          rw [← hH0]
          obtain ⟨y, hy⟩ : ∃ y, y = R[j] := ⟨_, rfl⟩
          rw [← hy] at r6 HTK
          clear hH0 hH1 hy hc6 hneR
          cases H0
          · have HT2 : Hid (H1 = (y == r)) := by show _ = _; rw [HTK.out]; simp
            clear HTK
            by_cases hyr : y = r
            · subst hyr
              have HT3 : Hid (H1 = true) := by show _ = _; rw [HT2.out]; simp
              clear HT2
              go_wp2
              go_roundw
              case rel => exact ⟨j + 1, by omega, by go_num, by rw [← HH1.out, HT3.out], trivial⟩
              case measure => simp [intOf]; omega
            · have hyf : (y == r) = false := beq_eq_false_iff_ne.2 hyr
              have HT3 : Hid (H1 = false) := by show _ = _; rw [HT2.out]; exact hyf
              clear HT2
              go_wp2
              go_roundw
              case rel => exact ⟨j + 1, by omega, by go_num, by rw [← HH1.out, HT3.out], trivial⟩
              case measure => simp [intOf]; omega
          · have HT2 : Hid (H1 = true) := by show _ = _; rw [HTK.out]; simp
            clear HTK
            go_wp2
            go_roundw
            case rel => exact ⟨j + 1, by omega, by go_num, by rw [← HH1.out, HT2.out], trivial⟩
            case measure => simp [intOf]; omega
        · have hjl2 : ¬ ((j : Int) < (R.length : Int)) := by omega
          have HF : Hid (decide (r ∈ R.take j) = decide (0 ≤ r)) := by show _ = _; rw [List.take_of_length_le (by omega)]; exact HEND.out
          rw [HF.out]
          clear HF HEND
          go_wp2
          go_ret
          exact ⟨by simp, g_on HB.out HBA.out⟩
end Go.Proofs.Ytbncanlkkgclbaa
