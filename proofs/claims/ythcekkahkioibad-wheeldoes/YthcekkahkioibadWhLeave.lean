/-
  A name leaves: the contract of leave.
-/
import Derived.Test.YthcekkahkioibadWhStand
namespace Go.Proofs.Ythcekkahkioibad
open Go.RowKit
set_option linter.unusedSimpArgs false
set_option linter.unusedVariables false
set_option maxRecDepth 100000

/-- v, ok := m[k]: the run -/
theorem mp_look_run {w : World} {b n : Nat} {M : List NU} (h : Mp w b n M) (y : Nm) (hy : y.ok) :
    (∃ u, (y, u) ∈ M ∧ (Instr.lookup 36 (.map (some b)) (.agg #[.int .i64 y.tenant, .string y.key]) true).run Try.prog w = .ok (.tuple #[.int .i64 u, .bool true]) w) ∨
    ((∀ q ∈ M, q.1 ≠ y) ∧ (Instr.lookup 36 (.map (some b)) (.agg #[.int .i64 y.tenant, .string y.key]) true).run Try.prog w = .ok (.tuple #[.int .i64 0, .bool false]) w) := by
  obtain ⟨D, ho, hi⟩ := h
  obtain ⟨v, ps, hrun, hv⟩ := ho.look_ok lawNm Try.underlying36 (zeroNm w) (plainElem_int Try.underlying3 (q := .i64) (a := 0) (by decide)) (key_ok hy)
  obtain ⟨c, rfl, hc, hwc⟩ := plainElem_int_inv Try.underlying3 hv
  have hc1 := congrArg Prod.fst hc
  simp only [] at hc1
  rcases hi.has_iff hy with ⟨u, h1, h2, h3⟩ | ⟨h1, h2⟩
  · rw [h3] at hc1
    have : c = u := by simpa using hc1.symm
    rw [h2, this] at hrun
    exact .inl ⟨u, h1, hrun⟩
  · rw [Maps.atKey_of_not_has h2] at hc1
    have : c = 0 := by simpa using hc1.symm
    rw [h2, this] at hrun
    exact .inr ⟨h1, hrun⟩
theorem mp_len_run {w : World} {b n : Nat} {M : List NU} (h : Mp w b n M) (ty : TypeId) : (Builtin.len_ #[36] ty #[.map (some b)]).run Try.prog w = .ok (.int .i64 (M.length : Nat)) w := by
  obtain ⟨D, ho, hi⟩ := h
  rw [← hi.size]
  exact ho.len Try.underlying36 ty
theorem part_strike (a i : Nat) (y : Nm) (G : List NU) : part a i (strike y G) = strike y (part a i G) := by
  unfold part strike
  rw [List.filter_filter, List.filter_filter]
  congr 1
  funext q
  exact Bool.and_comm _ _
theorem nu_one {L : List NU} (h : L.Pairwise (fun p q => p.1 ≠ q.1)) {x : Nm} {u v : Int} (h1 : (x, u) ∈ L) (h2 : (x, v) ∈ L) : u = v := by
  induction L with
  | nil => cases h1
  | cons p L ih =>
    obtain ⟨g1, g2⟩ := List.pairwise_cons.1 h
    rcases List.mem_cons.1 h1 with e1 | h1
    · rcases List.mem_cons.1 h2 with e2 | h2
      · rw [← e1] at e2; simpa using e2.symm
      · exact absurd (by rw [← e1]) (g1 _ h2)
    · rcases List.mem_cons.1 h2 with e2 | h2
      · exact absurd (by rw [← e2]) (g1 _ h1)
      · exact ih g2 h1 h2

set_option maxHeartbeats 1000000 in
theorem leave_any (w : World) (p now : Nat) (L : List NU) (b0 : Nat) (mb : Nat → Option Nat) (N : Nat) (h : Wh w p now L L b0 mb N) (y : Nm) (hy : y.ok) :
    Calls Try.prog 36 #[.pointer (some ⟨p, 0, none⟩), .agg #[.int .i64 y.tenant, .string y.key]] w fun e w' => e = .returned (.tuple #[]) ∧
      ∃ mb', Wh w' p now (strike y L) (strike y L) b0 mb' N ∧ Kept (Foot p b0 mb) w w' ∧ ∀ k, Foot p b0 mb' k → Foot p b0 mb k ∨ w.heap.size ≤ k := by
  have hlt := h.lt (.inl rfl)
  have hbA : Below w.heap.size w (w.alloc (.cells #[.int .i64 y.tenant, .string y.key] 24)) := alb w _
  have hA := (h.below hbA).drew
  have hnz : w.heap.size ≠ p := by omega
  obtain ⟨wA, hwA⟩ : ∃ wA, wA = w.alloc (.cells #[.int .i64 y.tenant, .string y.key] 24) := ⟨_, rfl⟩
  rw [← hwA] at hA hbA
  have hx0 : wA.cell? ⟨w.heap.size, 0, none⟩ = some (.int .i64 y.tenant) := by rw [hwA]; simp
  have hx1 : wA.cell? ⟨w.heap.size, 1, none⟩ = some (.string y.key) := by rw [hwA]; simp
  have hsA : wA.heap.size = w.heap.size + 1 := by rw [hwA]; simp
  have huc : wA.cell? ⟨p, 2, none⟩ = some (.map (some b0)) := hA.untilc
  rcases mp_look_run hA.um y hy with ⟨u, hmem, hlk⟩ | ⟨hno, hlk⟩
  · obtain ⟨hyo, hu1, hu2⟩ := hA.gb _ hmem
    simp only [] at hu1 hu2
    obtain ⟨v, rfl⟩ : ∃ v : Nat, u = (v : Int) := ⟨u.toNat, by omega⟩
    have hr := ring_le h.small (show v ≤ 1099511627776 by omega)
    have hs := slot_lt now v
    have HIX : Hid (ix now v = 64 * ring now v + slot now v) := rfl
    have HI : Hid (ix now v < 448) := ix_lt h.small (by omega)
    have hpl := place_any now v wA.drew h.small (by omega)
    have hnc : wA.cell? ⟨p, 1, none⟩ = some (.int .i64 now) := hA.nowc
    obtain ⟨r, hrr⟩ : ∃ r, r = ring now v := ⟨_, rfl⟩
    obtain ⟨s, hss⟩ : ∃ s, s = slot now v := ⟨_, rfl⟩
    rw [← hrr] at hr HIX hpl
    rw [← hss] at hs HIX hpl
    clear hrr hss
    have hrl : (r : Int) < 7 := by omega
    have hsl : (s : Int) < 64 := by omega
    cases hmb : mb (ix now v) with
    | none => exact absurd rfl (hA.gn _ HI.out hmb _ hmem)
    | some b =>
      have HMB := Hid.mk2 hmb
      have HA := Hid.mk2 hA
      have HMEM := Hid.mk2 hmem
      have HBA := Hid.mk2 hbA
      clear hmb hA hmem hbA hyo h
      go_enter Try.func36, Try.ntmps36
      go_upto_region 1 with fail
      rw [← hwA]
      clear hwA
      go_region
      go_upto_region 4 with (go_at_call 59; refine hpl.mono ?_; rintro e w1 ⟨rfl, hb1⟩)
      have h1 := (HA.out.below hb1).drew
      have hb01 : Below w.heap.size w w1 := HBA.out.trans ((((Below.refl wA.heap.size wA).drew).trans hb1).mono (by omega))
      have hz0 : w1.cell? ⟨w.heap.size, 0, none⟩ = some (.int .i64 y.tenant) := (hb1.cell (p := ⟨w.heap.size, 0, none⟩) (by simp; omega)).trans hx0
      have hz1 : w1.cell? ⟨w.heap.size, 1, none⟩ = some (.string y.key) := (hb1.cell (p := ⟨w.heap.size, 1, none⟩) (by simp; omega)).trans hx1
      have hrc := h1.ringc (ix now v) HI.out
      rw [HMB.out, HIX.out, show 3 + (64 * r + s) = 3 + r * 64 + s by omega] at hrc
      have hrc1 : w1.cell? ⟨p, 3 + r * 64 + s, none⟩ = some (.map (some b)) := hrc
      obtain ⟨w2, hrun2, hm2, ht2⟩ := mp_del_run (h1.gm (ix now v) b HI.out HMB.out) y hy 0
      clear hpl hlk hrc
      have hmp := h1.gm (ix now v) b HI.out HMB.out
      have hW2 : Wh w2 p now L (strike y L) b0 mb N := by
        refine h1.turned HI.out HMB.out ht2 N (Nat.le_refl _) _ (h1.apart.filter _) (fun q hq => h1.gb q (mem_strike.1 hq).1) (fun j hj => ?_) ?_
        · rw [part_strike]
          refine strike_none (fun q hq e => hj ?_)
          obtain ⟨g1, g2⟩ := mem_part.1 hq
          have e3 : q.2 = (v : Int) := nu_one h1.apart (x := y) (by rw [← e]; exact g1) HMEM.out
          rw [← g2, e3]
        · rw [part_strike]; exact hm2
      have hk2 : Kept (Foot p b0 mb) w w2 := (Kept.below hb01).trans ((Kept.drew (Foot p b0 mb) w1).trans (Kept.turned (F := Foot p b0 mb) ht2 (.inr (.inr ⟨_, HI.out, HMB.out⟩))) (fun k hk => .inl hk)) (fun k hk => .inl hk)
      have hz02 := turned_cell hmp ht2 (x := w.heap.size) (o := 0) hz0
      have hz12 := turned_cell hmp ht2 (x := w.heap.size) (o := 1) hz1
      have hrc2 := hW2.ringc (ix now v) HI.out
      rw [HMB.out, HIX.out, show 3 + (64 * r + s) = 3 + r * 64 + s by omega] at hrc2
      have hfr2 := hW2.free (3 + r * 64 + s)
      have hln := mp_len_run (hW2.gm (ix now v) b HI.out HMB.out) 3
      have hlt2 := hW2.lt (.inl rfl)
      have HW2 := Hid.mk2 hW2
      have HK2 := Hid.mk2 hk2
      clear hmp hm2 ht2 hW2 hk2 h1 hb01 hb1
      go_region
      obtain ⟨n, hn⟩ : ∃ n, n = (part now (ix now v) (strike y L)).length := ⟨_, rfl⟩
      rw [← hn] at hln
      have HN := Hid.mk2 hn
      clear hn
      go_upto_if 46 with fail
      go_cut [] from 47 (fun wx => ∃ mb', Wh wx p now L (strike y L) b0 mb' N ∧ Kept (Foot p b0 mb) w wx ∧ (∀ k, Foot p b0 mb' k → Foot p b0 mb k ∨ w.heap.size ≤ k) ∧ wx.cell? ⟨w.heap.size, 0, none⟩ = some (.int .i64 y.tenant) ∧ wx.cell? ⟨w.heap.size, 1, none⟩ = some (.string y.key))
      case first =>
        by_cases hn0 : n = 0
        · have hn1 : ((n : Int) == 0) = true := by simp [hn0]
          have HW3 : Hid (Wh (w2.setCell ⟨p, 3 + r * 64 + s, none⟩ (.map none)) p now L (strike y L) b0 (upd mb (ix now v) none) N) := by
            have h3 := HW2.out.ring HI.out none (strike y L) (fun q hq => hq) HW2.out.apart (fun _ _ => rfl) (fun _ q hq e => ?_) (fun b hb => by cases hb)
            · rw [show 3 + ix now v = 3 + r * 64 + s by have := HIX.out; omega] at h3
              exact h3
            · have hq' : q ∈ part now (ix now v) (strike y L) := mem_part.2 ⟨hq, e⟩
              have hl := List.length_pos_of_mem hq'
              rw [← HN.out] at hl
              omega
          go_wp2
          go_meet
          case rel =>
            refine ⟨_, HW3.out, HK2.out.trans (Kept.grown (F := Foot p b0 mb) (grown_set w2 p (3 + r * 64 + s) (.map none)) (fun k hk => by cases hk; exact .inl (.inl rfl))) (fun k hk => .inl hk), fun k hk => ?_, ?_, ?_⟩
            · rcases hk with hk | hk | ⟨i, hi, hk⟩
              · exact .inl (.inl hk)
              · exact .inl (.inr (.inl hk))
              · by_cases e : i = ix now v
                · subst e
                  rw [upd_same] at hk
                  cases hk
                · rw [upd_other e] at hk
                  exact .inl (.inr (.inr ⟨i, hi, hk⟩))
            · rw [World.cell?_setCell_other _ _ _ _ (by intro e; simp at e; try omega)]
              exact hz02
            · rw [World.cell?_setCell_other _ _ _ _ (by intro e; simp at e; try omega)]
              exact hz12
        · have hn1 : ((n : Int) == 0) = false := by simp; omega
          go_wp2
          go_meet
          case rel => exact ⟨mb, HW2.out, HK2.out, fun k hk => .inl hk, hz02, hz12⟩
      case rest =>
      obtain ⟨mb3, hW3, hk3, hft3, hq0, hq1⟩ := hcut
      obtain ⟨w3, hw3⟩ : ∃ w3, w3 = wc := ⟨_, rfl⟩
      rw [← hw3] at hW3 hk3 hq0 hq1 ⊢
      clear hw3 hln hrc2 hfr2 hz02 hz12 hlt2
      have hW3d := hW3.drew
      have hu3 : w3.cell? ⟨p, 2, none⟩ = some (.map (some b0)) := hW3.untilc
      obtain ⟨w4, hrun4, hm4, ht4⟩ := mp_del_run hW3d.um y hy 0
      have HW4 := Hid.mk2 (hW3d.turned0 ht4 N (Nat.le_refl _) _ hm4)
      have HK4 := Hid.mk2 (hk3.trans ((Kept.drew (Foot p b0 mb3) w3).trans (Kept.turned (F := Foot p b0 mb3) ht4 (.inr (.inl rfl))) (fun k hk => .inl hk)) hft3)
      have HFT := Hid.mk2 hft3
      clear hW3 hW3d hm4 ht4 hk3 hft3
      go_upto_region 7 with fail
      go_region
      go_end0
      exact ⟨rfl, mb3, HW4.out, HK4.out, HFT.out⟩
  · have HA := Hid.mk2 hA
    have HNO := Hid.mk2 hno
    have HBA := Hid.mk2 hbA
    clear hA hno hbA h
    go_enter Try.func36, Try.ntmps36
    go_upto_region 1 with fail
    rw [← hwA]
    clear hwA
    go_region
    go_wp2
    refine bodyPost_ret (results_none rfl _ _ _) rfl ?_
    rw [strike_none HNO.out]
    exact ⟨rfl, mb, HA.out, (Kept.below HBA.out).trans (Kept.drew (Foot p b0 mb) wA) (fun k hk => .inl hk), fun k hk => .inl hk⟩
end Go.Proofs.Ythcekkahkioibad
