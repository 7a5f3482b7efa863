/-
  A name is given its moment; a name leaves: the contracts of stand and leave.
-/
import Derived.Test.YthcekkahkioibadWhMem
import Derived.Deep.Cut
import Derived.Deep.RegionHeld3
import Derived.Deep.RegionLaw
namespace Go.Proofs.Ythcekkahkioibad
open Go.RowKit
set_option linter.unusedSimpArgs false
set_option linter.unusedVariables false
set_option maxRecDepth 100000

theorem Hid.mk2 {p : Prop} (h : p) : Hid p := h
theorem alb (W : World) (o : Obj) : Below W.heap.size W (W.alloc o) := (Below.refl _ _).alloc (Nat.le_refl _) o
theorem nil_map (W : World) : (binOp .eql 36 (.map none) (.map none)).run Try.prog W = .ok (.bool true) W := by kernel_rfl
theorem some_map (b : Nat) (W : World) : (binOp .eql 36 (.map (some b)) (.map none)).run Try.prog W = .ok (.bool false) W := by kernel_rfl
theorem opt_map (x : Option Nat) (W : World) : (binOp .eql 36 (.map x) (.map none)).run Try.prog W = .ok (.bool x.isNone) W := by
  cases x
  · exact nil_map W
  · exact some_map _ W
/-- m[k] = v: the run -/
theorem mp_put_run {w : World} {b n : Nat} {M : List NU} (h : Mp w b n M) (hn : n < maxLen) (y : Nm) (hy : y.ok) (u : Int) (hu : (Lit.int .i64 u).wf = true) :
    ∃ w', (Instr.mapUpdate 36 (.map (some b)) (.agg #[.int .i64 y.tenant, .string y.key]) (.int .i64 u)).run Try.prog w = .ok () w' ∧ Mp w' b (n + 1) ((y, u) :: strike y M) ∧ w.mapTurned w' b := by
  obtain ⟨D, ho, hi⟩ := h
  obtain ⟨w', hr, h1, h2⟩ := ho.store lawNm Try.underlying36 hn (key_ok hy) (plainElem_int Try.underlying3 hu)
  exact ⟨w', hr, ⟨_, h1, hi.put (ho.tidy lawNm) hy hu⟩, h2⟩
/-- delete(m, k): the run -/
theorem mp_del_run {w : World} {b n : Nat} {M : List NU} (h : Mp w b n M) (y : Nm) (hy : y.ok) (ty : TypeId) :
    ∃ w', (Builtin.delete_ #[36, 24] ty #[.map (some b), .agg #[.int .i64 y.tenant, .string y.key]]).run Try.prog w = .ok (.tuple #[]) w' ∧ Mp w' b n (strike y M) ∧ w.mapTurned w' b := by
  obtain ⟨D, ho, hi⟩ := h
  obtain ⟨w', hr, h1, h2⟩ := ho.drop lawNm Try.underlying36 (key_ok hy) ty
  exact ⟨w', hr, ⟨_, h1, hi.del (ho.tidy lawNm) hy⟩, h2⟩
theorem Wh.drew {w : World} {p now : Nat} {U G : List NU} {b0 : Nat} {mb : Nat → Option Nat} {N : Nat} (h : Wh w p now U G b0 mb N) : Wh w.drew p now U G b0 mb N := h.same (fun _ _ => rfl)
theorem Kept.turned {F : Nat → Prop} {w w' : World} {b : Nat} (h : w.mapTurned w' b) (hb : F b) : Kept F w w' := Kept.grown h.grown (fun k hk => by cases hk; exact .inl hb)
theorem Kept.drew (F : Nat → Prop) (w : World) : Kept F w w.drew := Kept.below ((Below.refl _ _).drew)
theorem Mp.ne_cell {w : World} {b n : Nat} {M : List NU} (h : Mp w b n M) {x o : Nat} {v : Value} (hc : w.cell? ⟨x, o, none⟩ = some v) : x ≠ b := fun e => by
  obtain ⟨D, ⟨es, clock, hb, r⟩, hi⟩ := h
  subst e
  simp [World.cell?, hb] at hc
theorem turned_cell {w w' : World} {b n : Nat} {M : List NU} (h : Mp w b n M) (ht : w.mapTurned w' b) {x o : Nat} {v : Value} (hc : w.cell? ⟨x, o, none⟩ = some v) : w'.cell? ⟨x, o, none⟩ = some v := by
  have hne := h.ne_cell hc
  rw [← hc]
  exact World.cell?_of_block (ht.grown.block x (World.block_lt_of_cell? w _ hc) (by simpa using hne))
theorem part_cons_same {a i : Nat} {q : NU} {G : List NU} (h : ix a q.2 = i) : part a i (q :: G) = q :: part a i G := by simp [part, h]
theorem part_cons_other {a i : Nat} {q : NU} {G : List NU} (h : ix a q.2 ≠ i) : part a i (q :: G) = part a i G := by simp [part, h]

set_option maxHeartbeats 1000000 in
theorem stand_any (w : World) (p now : Nat) (U G : List NU) (b0 : Nat) (mb : Nat → Option Nat) (N : Nat) (h : Wh w p now U G b0 mb N) (y : Nm) (hy : y.ok) (u : Nat) (hu : now < u) (hu2 : u ≤ 1099511627776) (hnew : ∀ q ∈ G, q.1 ≠ y) (hN : N < 1000000000) :
    Calls Try.prog 38 #[.pointer (some ⟨p, 0, none⟩), .agg #[.int .i64 y.tenant, .string y.key], .int .i64 u] w fun e w' => e = .returned (.tuple #[]) ∧
      ∃ mb', Wh w' p now ((y, (u : Int)) :: strike y U) ((y, (u : Int)) :: G) b0 mb' (N + 2) ∧ Kept (Foot p b0 mb) w w' ∧ ∀ k, Foot p b0 mb' k → Foot p b0 mb k ∨ w.heap.size ≤ k := by
  have hpl := place_any now u (w.alloc (.cells #[.int .i64 y.tenant, .string y.key] 24)) h.small hu2
  have hr := ring_le h.small hu2
  have hs := slot_lt now u
  have hnc := h.nowc
  have hlt := h.lt (.inl rfl)
  go_enter Try.func38, Try.ntmps38
  go_upto_region 2 with (go_at_call 59; refine hpl.mono ?_; rintro e w1 ⟨rfl, hb1⟩)
  have hb01 : Below w.heap.size w w1 := below_alloc hb1
  have hx0 : w1.cell? ⟨w.heap.size, 0, none⟩ = some (.int .i64 y.tenant) := (hb1.cell (p := ⟨w.heap.size, 0, none⟩) (by simp)).trans (by simp)
  have hx1 : w1.cell? ⟨w.heap.size, 1, none⟩ = some (.string y.key) := (hb1.cell (p := ⟨w.heap.size, 1, none⟩) (by simp)).trans (by simp)
  have h1 := h.below hb01
  have HIX : Hid (ix now u = 64 * ring now u + slot now u) := rfl
  have HI : Hid (ix now u < 448) := ix_lt h.small (by omega)
  have HS1 : w.heap.size < w1.heap.size := by have := hb1.size; simp at this; omega
  obtain ⟨r, hrr⟩ : ∃ r, r = ring now u := ⟨_, rfl⟩
  obtain ⟨s, hss⟩ : ∃ s, s = slot now u := ⟨_, rfl⟩
  rw [← hrr] at hr HIX ⊢
  rw [← hss] at hs HIX ⊢
  have hrc := h1.ringc (ix now u) HI.out
  rw [HIX.out] at hrc
  clear hrr hss hpl hnc hb1
  obtain ⟨x, hx⟩ : ∃ x, x = mb (64 * r + s) := ⟨_, rfl⟩
  rw [← hx, show 3 + (64 * r + s) = 3 + r * 64 + s by omega] at hrc
  have HX : Hid (x = mb (64 * r + s)) := hx
  have hfr := h1.free (3 + r * 64 + s)
  clear hx
  have hrl : (r : Int) < 7 := by omega
  have hsl : (s : Int) < 64 := by omega
  have hsw : w1.heap.size ≠ p := by omega
  have hpl : p < w1.heap.size := by omega
  have hom := opt_map x
  go_upto_if 25 with fail
  go_cut [] from 17 (fun wx => ∃ mb' b, Wh wx p now U G b0 mb' N ∧ mb' (ix now u) = some b ∧ Kept (Foot p b0 mb) w wx ∧ (∀ k, Foot p b0 mb' k → Foot p b0 mb k ∨ w.heap.size ≤ k) ∧ wx.cell? ⟨w.heap.size, 0, none⟩ = some (.int .i64 y.tenant) ∧ wx.cell? ⟨w.heap.size, 1, none⟩ = some (.string y.key) ∧ w.heap.size < wx.heap.size)
  case first =>
    cases x with
    | none =>
      have HW : Hid (Wh ((w1.alloc (.map #[] 0)).setCell ⟨p, 3 + r * 64 + s, none⟩ (.map (some w1.heap.size))) p now U G b0 (upd mb (ix now u) (some w1.heap.size)) N) := by
        have h2 := (h1.below (alb w1 (.map #[] 0))).ring HI.out (some w1.heap.size) G (fun q hq => hq) h1.apart (fun _ _ => rfl) (fun e => by cases e) (fun b hb => by
          cases hb
          refine ⟨?_, hsw, fun e => ?_, fun j hj _ e => ?_⟩
          · rw [part_none (h1.gn _ HI.out (by rw [HIX.out]; exact HX.out.symm))]
            exact (Mp.made w1).mono (Nat.zero_le _)
          · have := h1.um.lt
            omega
          · have := (h1.gm j _ hj e).lt
            omega)
        rw [show 3 + ix now u = 3 + r * 64 + s by have := HIX.out; omega] at h2
        exact h2
      clear h1 h
      have hmm := @run_makeMap Try.prog
      go_wp2
      go_meet
      case rel =>
        rw [← World.setCell_alloc_past (w := w1) (.map #[] 0) p (3 + r * 64 + s) (.map (some w1.heap.size)) hpl]
        have hk1 : Kept (Foot p b0 mb) w (w1.alloc (.map #[] 0)) := Kept.below (hb01.alloc hb01.size _)
        have hk2 := hk1.trans (Kept.grown (F := Foot p b0 mb) (grown_set (w1.alloc (.map #[] 0)) p (3 + r * 64 + s) (.map (some w1.heap.size))) (fun k hk => by cases hk; exact .inl (.inl rfl))) (fun k hk => .inl hk)
        refine ⟨_, w1.heap.size, HW.out, upd_same _ _ _, hk2, fun k hk => ?_, ?_, ?_, ?_⟩
        · rcases hk with hk | hk | ⟨i, hi, hk⟩
          · exact .inl (.inl hk)
          · exact .inl (.inr (.inl hk))
          · by_cases e : i = ix now u
            · subst e
              rw [upd_same] at hk
              cases hk
              exact .inr (by omega)
            · rw [upd_other e] at hk
              exact .inl (.inr (.inr ⟨i, hi, hk⟩))
        · rw [World.cell?_setCell_other _ _ _ _ (by intro e; simp at e; try omega), World.cell?_alloc_lt _ _ _ (by exact HS1)]
          exact hx0
        · rw [World.cell?_setCell_other _ _ _ _ (by intro e; simp at e; try omega), World.cell?_alloc_lt _ _ _ (by exact HS1)]
          exact hx1
        · simp; omega
    | some b =>
      clear h
      go_wp2
      go_meet
      case rel => exact ⟨mb, b, h1, by rw [HIX.out]; exact HX.out.symm, Kept.below hb01, fun k hk => .inl hk, hx0, hx1, HS1⟩
  case rest =>
  obtain ⟨mb2, b, hW, hmb, hk0, hft, hx0', hx1', hsz⟩ := hcut
  obtain ⟨w2, hw2⟩ : ∃ w2, w2 = wc := ⟨_, rfl⟩
  rw [← hw2] at hW hk0 hx0' hx1' hsz ⊢
  clear hw2 h h1 hx0 hx1 hrc hfr HX hb01 HS1 hsw hpl
  have hWd := hW.drew
  have hrc := hWd.ringc (ix now u) HI.out
  rw [hmb, HIX.out, show 3 + (64 * r + s) = 3 + r * 64 + s by omega] at hrc
  have hwfu : (Lit.int .i64 (u : Int)).wf = true := WalkArith.wf_i64 (by omega)
  obtain ⟨w3, hrun3, hm3, ht3⟩ := mp_put_run (hWd.gm (ix now u) b HI.out hmb) (by unfold maxLen; omega) y hy u hwfu
  have hW3 : Wh w3 p now U ((y, (u : Int)) :: G) b0 mb2 (N + 1) := by
    refine hWd.turned HI.out hmb ht3 (N + 1) (by omega) _ (List.pairwise_cons.2 ⟨fun q hq => (hnew q hq).symm, hWd.apart⟩) (fun q hq => ?_) (fun j hj => part_cons_other (fun e => hj e.symm)) ?_
    · rcases List.mem_cons.1 hq with rfl | hq
      · exact ⟨hy, by simp; omega, by simp; omega⟩
      · exact hWd.gb q hq
    · rw [part_cons_same (q := (y, (u : Int))) (i := ix now u) rfl]
      rw [strike_none (fun q hq => hnew q (mem_part.1 hq).1)] at hm3
      exact hm3
  have hk3 : Kept (Foot p b0 mb2) w2 w3 := (Kept.drew _ _).trans (Kept.turned (F := Foot p b0 mb2) ht3 (.inr (.inr ⟨_, HI.out, hmb⟩))) (fun k hk => .inl hk)
  have hmp := hWd.gm (ix now u) b HI.out hmb
  have hy0 := turned_cell hmp ht3 (x := w.heap.size) (o := 0) hx0'
  have hy1 := turned_cell hmp ht3 (x := w.heap.size) (o := 1) hx1'
  have hu3 : w3.cell? ⟨p, 2, none⟩ = some (.map (some b0)) := hW3.untilc
  obtain ⟨w4, hrun4, hm4, ht4⟩ := mp_put_run hW3.drew.um (by unfold maxLen; omega) y hy u hwfu
  have hW4 : Wh w4 p now ((y, (u : Int)) :: strike y U) ((y, (u : Int)) :: G) b0 mb2 (N + 2) := hW3.drew.turned0 ht4 (N + 2) (by omega) _ hm4
  have hk4 : Kept (Foot p b0 mb2) w2 w4 := hk3.trans ((Kept.drew (Foot p b0 mb2) _).trans (Kept.turned (F := Foot p b0 mb2) ht4 (.inr (.inl rfl))) (fun k hk => .inl hk)) (fun k hk => .inl hk)
  have HW4 := Hid.mk2 hW4
  have HK4 := Hid.mk2 (hk0.trans hk4 hft)
  have HFT := Hid.mk2 hft
  clear hW4 hk4 hk3 hk0 hft hm3 hm4 ht3 ht4 hW3 hW hWd hmp hnew
  go_upto_region 4 with fail
  go_region
  go_upto_region 5 with fail
  go_region
  go_end0
  exact ⟨rfl, mb2, HW4.out, HK4.out, HFT.out⟩
end Go.Proofs.Ythcekkahkioibad
