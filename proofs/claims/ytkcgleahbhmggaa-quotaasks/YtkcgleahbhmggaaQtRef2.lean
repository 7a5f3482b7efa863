/-
  The document's quotas: Set, Room, Over.
-/
import Derived.Test.YtkcgleahbhmggaaQtRef
import Derived.Test.YtkcgleahbhmggaaQtAlive
import Derived.Test.YtkcgleahbhmggaaSbRef
namespace Go.Proofs.Ytkcgleahbhmggaa
open Go.RowKit
set_option linter.unusedSimpArgs false
set_option linter.unusedVariables false
set_option maxRecDepth 100000

theorem rset_bad1 (pool : Int) (w : World) (ao : Option Addr) (q : List Int) (cap : Nat) (h : Il w ao q cap) (t p : Int) (hE : chkE pool q ≠ 0) :
    Calls Try.prog 18 #[.int .i64 pool, .slice ao q.length cap, .int .i64 t, .int .i64 p] w fun e w' => e = .returned (.tuple #[.slice none 0 0, .int .i64 (chkE pool q)]) ∧ Below w.heap.size w w' := by
  have hc := rqcheck_any pool w ao q cap h
  have hE' : (chkE pool q != 0) = true := by simp [hE]
  obtain ⟨E, e⟩ : ∃ E, E = chkE pool q := ⟨_, rfl⟩
  rw [← e] at hc hE' ⊢
  clear e hE h
  go_enter Try.func18, Try.ntmps18
  go_wp2_with (go_at_call 22; refine hc.mono ?_; rintro e w1 ⟨rfl, rfl⟩)
  go_ret2
  exact ⟨rfl, Below.refl _ _⟩
theorem rset_bad2 (pool : Int) (w : World) (ao : Option Addr) (q : List Int) (cap : Nat) (h : Il w ao q cap) (t p : Int) (hE : chkE pool q = 0) (hb : hasQ q t = false ∨ inQ p = false) :
    Calls Try.prog 18 #[.int .i64 pool, .slice ao q.length cap, .int .i64 t, .int .i64 p] w fun e w' => e = .returned (.tuple #[.slice none 0 0, .int .i64 2]) ∧ Below w.heap.size w w' := by
  have hc := rqcheck_any pool w ao q cap h
  rw [hE] at hc
  have hmx := h.len
  have hcase : decide (t < 0) = true ∨ (decide (t < 0) = false ∧ decide ((q.length : Int) ≤ t) = true) ∨ (decide (t < 0) = false ∧ decide ((q.length : Int) ≤ t) = false ∧ decide (p < 0) = true) ∨ (decide (t < 0) = false ∧ decide ((q.length : Int) ≤ t) = false ∧ decide (p < 0) = false ∧ decide (16 < p) = true) := by
    simp only [hasQ, inQ, decide_eq_false_iff_not, decide_eq_true_eq] at *
    omega
  clear h hE hb
  rcases hcase with h1 | ⟨h1, h2⟩ | ⟨h1, h2, h3⟩ | ⟨h1, h2, h3, h4⟩
  all_goals
    go_enter Try.func18, Try.ntmps18
    go_wp2_with (go_at_call 22; refine hc.mono ?_; rintro e w1 ⟨rfl, rfl⟩)
    go_ret2
    exact ⟨rfl, Below.refl _ _⟩
theorem set_take {q : List Int} {T k : Nat} {p : Int} (hk : k < q.length) : (q.set T p).take (k + 1) = (q.set T p).take k ++ [if k = T then p else q[k]] := by
  have h : k < (q.set T p).length := by simpa using hk
  rw [List.take_succ_eq_append_getElem h]
  congr 2
  by_cases e : k = T
  · subst e; simp
  · rw [if_neg e]; exact List.getElem_set_ne (fun h => e h.symm) _
set_option maxHeartbeats 1000000 in
theorem rset_on (pool : Int) (w : World) (ao : Option Addr) (q : List Int) (cap : Nat) (h : Il w ao q cap) (T : Nat) (p : Int) (hE : chkE pool q = 0) (ht : T < q.length) (hp : inQ p = true) (R : List Int) (hR : R = q.set T p) (M : Bool) (hM : mayQ pool R = M) (F : Int) (Z : List Int) (hF : F = if M = true then 0 else 80) (hZ : Z = if M = true then R else []) :
    Calls Try.prog 18 #[.int .i64 pool, .slice ao q.length cap, .int .i64 T, .int .i64 p] w fun e w' => ∃ ro rc, e = .returned (.tuple #[.slice ro Z.length rc, .int .i64 F]) ∧ Il w' ro Z rc ∧ Below w.heap.size w w' := by
  have hc := rqcheck_any pool w ao q cap h
  rw [hE] at hc
  obtain ⟨c1, c2, c3⟩ := chkE_may hE
  have hl4 := (mayQ_len c3).2
  have hp2 : 0 ≤ p ∧ p ≤ 16 := by simpa [inQ] using hp
  have t1 : decide ((T : Int) < 0) = false := by rw [decide_eq_false_iff_not]; omega
  have t2 : decide ((q.length : Int) ≤ T) = false := by rw [decide_eq_false_iff_not]; omega
  have t5 : decide (q.length ≤ T) = false := by rw [decide_eq_false_iff_not]; omega
  have t3 : decide (p < 0) = false := by rw [decide_eq_false_iff_not]; omega
  have t4 : decide (16 < p) = false := by rw [decide_eq_false_iff_not]; omega
  have HR := Hid.mk2 hR
  have HLR : Hid (R.length = q.length) := by show _ = _; rw [hR]; simp
  have HMay : Hid (∀ W ao cap, Il W ao R cap → Calls Try.prog 49 #[.int .i64 pool, .slice ao R.length cap] W fun e w' => e = .returned (.bool M) ∧ w' = W) := fun W ao cap hi => by
    have := rmay_any pool ⟨c1, c2⟩ W ao R cap hi
    rwa [hM] at this
  have HQ := Hid.mk2 h
  have HF := Hid.mk2 hF
  have HZ := Hid.mk2 hZ
  clear hE h hp hR hM c3 hF hZ
  go_enter Try.func18, Try.ntmps18
  go_upto_region 6 with (go_at_call 22; refine hc.mono ?_; rintro e w1 ⟨rfl, hw1⟩; have hw1 := hw1.symm; subst hw1)
  go_wp2
  go_loopw [11, 12] (fun v i wr => ∃ (k : Nat) (v5 : Value), k ≤ q.length ∧ i = .int .i64 k ∧ v = v5 ∧ Hid (OwnI wr w.heap.size v5 (R.take k)) ∧ Hid (Below w.heap.size w wr)) (fun _ i _ => q.length - (intOf i).toNat)
  case atStart => exact ⟨0, _, Nat.zero_le _, rfl, rfl, OwnI.nil _ _, Below.refl _ _⟩
  case round =>
    obtain ⟨k, v5, hk, rfl, rfl, HO, HB⟩ := hrel
    by_cases hlt : k < q.length
    · have hlt2 : (k : Int) < (q.length : Int) := by omega
      obtain ⟨b, off, rfl, hbl, hcs⟩ := HQ.out.lies (by intro e; rw [e] at hlt; simp at hlt)
      have r0 : wr.cell? ⟨b, off + k, none⟩ = some (.int .i64 q[k]) := (below_cells HB.out _ _ hbl).trans (hcs k hlt)
      obtain ⟨x, hx⟩ : ∃ x, x = q[k] := ⟨_, rfl⟩
      have hst := set_take (q := q) (T := T) (k := k) (p := p) hlt
      rw [← HR.out, ← hx] at hst
      rw [← hx] at r0
      have hlk : (R.take k).length + 1 ≤ 1000000 := by simp; omega
      have HLK := Hid.mk2 hlk
      have hbs := HB.out.size
      clear hx hcs hlk
      by_cases e : k = T
      · rw [if_pos e] at hst
        have e' : ((k : Int) == (T : Int)) = true := by simp [e]
        have HST := Hid.mk2 hst
        clear hst e
        go_wp2_with (at_builtin; refine app_int (w0 := wr) rfl _ _ rfl w.heap.size _ (R.take k) HO.out rfl p rfl _ rfl rfl HLK.out hbs ?_; intro v7 w7 hO7 hG7; have HO7 := Hid.mk2 hO7; have HB7 : Hid (Below w.heap.size w w7) := HB.out.grown hG7.grown hbs (fun g hg => (HO.out.lt g hg).1); clear hO7 hG7)
        go_roundw
        case rel => exact ⟨k + 1, _, by omega, by go_num, rfl, by rw [HST.out]; exact HO7.out, HB7.out⟩
        case measure => simp [intOf]; omega
      · rw [if_neg e] at hst
        have e' : ((k : Int) == (T : Int)) = false := by simp; omega
        have HST := Hid.mk2 hst
        clear hst e
        go_wp2_with (at_builtin; refine app_int (w0 := wr) rfl _ _ rfl w.heap.size _ (R.take k) HO.out rfl x rfl _ rfl rfl HLK.out hbs ?_; intro v7 w7 hO7 hG7; have HO7 := Hid.mk2 hO7; have HB7 : Hid (Below w.heap.size w w7) := HB.out.grown hG7.grown hbs (fun g hg => (HO.out.lt g hg).1); clear hO7 hG7)
        go_roundw
        case rel => exact ⟨k + 1, _, by omega, by go_num, rfl, by rw [HST.out]; exact HO7.out, HB7.out⟩
        case measure => simp [intOf]; omega
    · have hlt2 : decide ((k : Int) < (q.length : Int)) = false := by rw [decide_eq_false_iff_not]; omega
      have hO := HO.out
      rw [List.take_of_length_le (by rw [HLR.out]; omega)] at hO
      obtain ⟨ro, rc, rfl, hil⟩ := hO.il
      have HI := Hid.mk2 hil
      clear hO hil HO
      cases M
      · have hF' : F = 80 := by rw [HF.out]; rfl
        have hZ' : Z = [] := by rw [HZ.out]; rfl
        clear HF HZ
        subst hF' hZ'
        go_wp2_with (go_at_call 49; refine (HMay.out _ _ _ HI.out).mono ?_; rintro e w4 ⟨rfl, hw4⟩; have hw4 := hw4.symm; subst hw4)
        go_ret2
        exact ⟨none, 0, rfl, Il.nil _, HB.out⟩
      · have hF' : F = 0 := by rw [HF.out]; rfl
        have hZ' : Z = R := by rw [HZ.out]; rfl
        clear HF HZ
        subst hF' hZ'
        go_wp2_with (go_at_call 49; refine (HMay.out _ _ _ HI.out).mono ?_; rintro e w4 ⟨rfl, hw4⟩; have hw4 := hw4.symm; subst hw4)
        go_ret2
        exact ⟨_, _, rfl, HI.out, HB.out⟩
theorem rset_any (pool : Int) (w : World) (ao : Option Addr) (q : List Int) (cap : Nat) (h : Il w ao q cap) (t p : Int) (E : Int) (R : List Int) (hE : setE pool q t p = E) (hR : setR pool q t p = R) :
    Calls Try.prog 18 #[.int .i64 pool, .slice ao q.length cap, .int .i64 t, .int .i64 p] w fun e w' => ∃ ro rc, e = .returned (.tuple #[.slice ro R.length rc, .int .i64 E]) ∧ Il w' ro R rc ∧ Below w.heap.size w w' := by
  by_cases h1 : chkE pool q = 0
  · cases h2 : hasQ q t
    · have e1 : setE pool q t p = 2 := by unfold setE; rw [if_neg (by simp [h1]), if_pos h2]
      have e2 : setR pool q t p = [] := by unfold setR; rw [e1]; rfl
      rw [e1] at hE
      rw [e2] at hR
      subst hE hR
      refine (rset_bad2 pool w ao q cap h t p h1 (.inl h2)).mono ?_
      rintro e w' ⟨rfl, hb⟩
      exact ⟨none, 0, rfl, Il.nil _, hb⟩
    · cases h3 : inQ p
      · have e1 : setE pool q t p = 2 := by unfold setE; rw [if_neg (by simp [h1]), if_neg (by simp [h2]), if_pos h3]
        have e2 : setR pool q t p = [] := by unfold setR; rw [e1]; rfl
        rw [e1] at hE
        rw [e2] at hR
        subst hE hR
        refine (rset_bad2 pool w ao q cap h t p h1 (.inr h3)).mono ?_
        rintro e w' ⟨rfl, hb⟩
        exact ⟨none, 0, rfl, Il.nil _, hb⟩
      · have ht : 0 ≤ t ∧ t < (q.length : Int) := by simpa [hasQ] using h2
        obtain ⟨T, rfl⟩ : ∃ T : Nat, t = (T : Int) := ⟨t.toNat, by omega⟩
        have e1 : setE pool q T p = if mayQ pool (q.set T p) = true then 0 else 80 := by unfold setE; rw [if_neg (by simp [h1]), if_neg (by simp [h2]), if_neg (by simp [h3]), Int.toNat_natCast]
        have e2 : setR pool q T p = if mayQ pool (q.set T p) = true then q.set T p else [] := by
          unfold setR; rw [e1, Int.toNat_natCast]
          cases mayQ pool (q.set T p) <;> rfl
        exact rset_on pool w ao q cap h T p h1 (by omega) h3 (q.set T p) rfl _ rfl E R (hE.symm.trans e1) (hR.symm.trans e2)
  · have e1 : setE pool q t p = chkE pool q := by unfold setE; rw [if_pos h1]
    have e2 : setR pool q t p = [] := by unfold setR; rw [e1, if_neg h1]
    rw [e1] at hE
    rw [e2] at hR
    subst hE hR
    refine (rset_bad1 pool w ao q cap h t p h1).mono ?_
    rintro e w' ⟨rfl, hb⟩
    exact ⟨none, 0, rfl, Il.nil _, hb⟩
end Go.Proofs.Ytkcgleahbhmggaa
