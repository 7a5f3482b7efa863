/-
  Contract of Set.
-/
import Derived.Test.YtkcgleahbhmggaaQtFn
namespace Go.Proofs.Ytkcgleahbhmggaa
open Go.RowKit
set_option linter.unusedSimpArgs false
set_option linter.unusedVariables false
set_option maxRecDepth 100000

/-- the slice v is new: its numbers lie in a block of their own from base on, and may be written to -/
def FreshI (w : World) (base : Nat) (v : Value) (q : List Int) : Prop :=
  ∃ ao cap, v = .slice ao q.length cap ∧ q.length ≤ cap ∧ cap ≤ 9223372036854775807 ∧ (ao = none → cap = 0) ∧
    (q = [] ∨ ∃ g, ao = some ⟨g, 0, none⟩ ∧ base ≤ g ∧ g < w.heap.size ∧ (∀ j, w.frozen? ⟨g, j, none⟩ = false) ∧ ∀ i (hi : i < q.length), w.cell? ⟨g, i, none⟩ = some (.int .i64 q[i]))
theorem FreshI.nil (w : World) (base : Nat) : FreshI w base (.slice none 0 0) [] := ⟨none, 0, rfl, by simp, by simp, fun _ => rfl, .inl rfl⟩
theorem FreshI.il {w : World} {base : Nat} {ao : Option Addr} {n cap : Nat} {q : List Int} (h : FreshI w base (.slice ao n cap) q) : n = q.length ∧ Il w ao q cap := by
  obtain ⟨ao', cap', e, h1, h2, h3, h4⟩ := h
  cases e
  refine ⟨rfl, h1, h2, h3, ?_⟩
  rcases h4 with h | ⟨g, rfl, hb, hlt, hf, hc⟩
  · exact .inl h
  · exact .inr ⟨g, 0, rfl, hlt, fun i hi => by rw [Nat.zero_add]; exact hc i hi⟩
theorem FreshI.below {w w' : World} {base : Nat} {v : Value} {q : List Int} (h : FreshI w base v q) (hb : Below w.heap.size w w') : FreshI w' base v q := by
  obtain ⟨ao, cap, rfl, h1, h2, h3, h4⟩ := h
  refine ⟨ao, cap, rfl, h1, h2, h3, ?_⟩
  rcases h4 with h | ⟨g, rfl, hb1, hlt, hf, hc⟩
  · exact .inl h
  · have := hb.size
    exact .inr ⟨g, rfl, hb1, by omega, fun j => (hb.frozen (p := ⟨g, j, none⟩) hlt).trans (hf j), fun i hi => (hb.cell (p := ⟨g, i, none⟩) hlt).trans (hc i hi)⟩
theorem OwnI.fresh {w : World} {base : Nat} {v : Value} {q : List Int} (h : OwnI w base v q) : FreshI w base v q := by
  rcases h.parts with ⟨rfl, rfl⟩ | ⟨g, cap, cur, rfl, hb, hg, hs, hn, hm, hc⟩
  · exact FreshI.nil _ _
  · exact ⟨_, cap, rfl, hn, hm, (by intro e; cases e), .inr ⟨g, rfl, hb, (Array.getElem?_eq_some_iff.1 hg).1, frozen_of_heap hg, hc⟩⟩
theorem seti_lies {w : World} {g : Nat} {q : List Int} {i : Nat} (hi : i < q.length) (hc : ∀ i (hi : i < q.length), w.cell? ⟨g, i, none⟩ = some (.int .i64 q[i])) (p : Int) :
    ∀ j (hj : j < (q.set i p).length), (w.setCell ⟨g, i, none⟩ (.int .i64 p)).cell? ⟨g, j, none⟩ = some (.int .i64 (q.set i p)[j]) := by
  intro j hj
  have hj' : j < q.length := by simpa using hj
  by_cases e : j = i
  · subst e
    have e1 : (q.set j p)[j] = p := by simp
    rw [e1]
    exact World.cell?_setCell_same _ _ _ (hc j hj')
  · have e1 : (q.set i p)[j] = q[j] := by rw [List.getElem_set_ne (fun h => e h.symm)]
    rw [e1, World.cell?_setCell_other _ _ _ _ (by simp <;> omega)]
    exact hc j hj'
theorem Il.nilFresh (w : World) : FreshI w w.heap.size (.slice none 0 0) [] := FreshI.nil _ _
theorem set_bad1 (pool : Int) (w : World) (ao : Option Addr) (q : List Int) (cap : Nat) (h : Il w ao q cap) (t p : Int) (hE : chkE pool q ≠ 0) :
    Calls Try.prog 12 #[.int .i64 pool, .slice ao q.length cap, .int .i64 t, .int .i64 p] w fun e w' => e = .returned (.tuple #[.slice none 0 0, .int .i64 (chkE pool q)]) ∧ Below w.heap.size w w' := by
  have hc := qcheck_any pool w ao q cap h
  have hE' : (chkE pool q != 0) = true := by simp [hE]
  obtain ⟨E, e⟩ : ∃ E, E = chkE pool q := ⟨_, rfl⟩
  rw [← e] at hc hE' ⊢
  clear e hE h
  go_enter Try.func12, Try.ntmps12
  go_wp2_with (go_at_call 16; refine hc.mono ?_; rintro e w1 ⟨rfl, rfl⟩)
  go_ret2
  exact ⟨rfl, Below.refl _ _⟩
theorem set_bad2 (pool : Int) (w : World) (ao : Option Addr) (q : List Int) (cap : Nat) (h : Il w ao q cap) (t p : Int) (hE : chkE pool q = 0) (hb : hasQ q t = false ∨ inQ p = false) :
    Calls Try.prog 12 #[.int .i64 pool, .slice ao q.length cap, .int .i64 t, .int .i64 p] w fun e w' => e = .returned (.tuple #[.slice none 0 0, .int .i64 2]) ∧ Below w.heap.size w w' := by
  have hc := qcheck_any pool w ao q cap h
  rw [hE] at hc
  have hh := qhas_any ao q cap h.len t w
  clear h hE
  cases eH : hasQ q t
  · rw [eH] at hh
    clear hb
    go_enter Try.func12, Try.ntmps12
    go_wp2_with (first
      | (go_at_call 16; refine hc.mono ?_; rintro e w1 ⟨rfl, rfl⟩)
      | (go_at_call 44; refine hh.mono ?_; rintro e w1 ⟨rfl, rfl⟩))
    go_ret2
    exact ⟨rfl, Below.refl _ _⟩
  · rw [eH] at hh
    have hb2 : inQ p = false := by rcases hb with h | h; rw [eH] at h; cases h; exact h
    clear hb eH
    by_cases h1 : p < 0
    · have h1' : decide (p < 0) = true := by simp [h1]
      clear hb2
      go_enter Try.func12, Try.ntmps12
      go_wp2_with (first
        | (go_at_call 16; refine hc.mono ?_; rintro e w1 ⟨rfl, rfl⟩)
        | (go_at_call 44; refine hh.mono ?_; rintro e w1 ⟨rfl, rfl⟩))
      go_ret2
      exact ⟨rfl, Below.refl _ _⟩
    · have h1' : decide (p < 0) = false := by simp; omega
      have h2 : 16 < p := by simp [inQ] at hb2; omega
      have h2' : decide (16 < p) = true := by simp [h2]
      clear hb2
      go_enter Try.func12, Try.ntmps12
      go_wp2_with (first
        | (go_at_call 16; refine hc.mono ?_; rintro e w1 ⟨rfl, rfl⟩)
        | (go_at_call 44; refine hh.mono ?_; rintro e w1 ⟨rfl, rfl⟩))
      go_ret2
      exact ⟨rfl, Below.refl _ _⟩
set_option maxHeartbeats 1000000 in
theorem set_on (pool : Int) (w : World) (ao : Option Addr) (q : List Int) (cap : Nat) (h : Il w ao q cap) (T : Nat) (p : Int) (hE : chkE pool q = 0) (ht : T < q.length) (hp : inQ p = true) (R : List Int) (hR : R = q.set T p) (M : Bool) (hM : mayQ pool R = M) (F : Int) (Z : List Int) (hF : F = if M = true then 0 else 80) (hZ : Z = if M = true then R else []) :
    Calls Try.prog 12 #[.int .i64 pool, .slice ao q.length cap, .int .i64 T, .int .i64 p] w fun e w' => ∃ ro rc, e = .returned (.tuple #[.slice ro Z.length rc, .int .i64 F]) ∧ FreshI w' w.heap.size (.slice ro Z.length rc) Z ∧ Below w.heap.size w w' := by
  have hc := qcheck_any pool w ao q cap h
  rw [hE] at hc
  have hh := qhas_any ao q cap h.len T w
  have eH : hasQ q T = true := by simp [hasQ]; exact ht
  rw [eH] at hh
  have hl4 := (mayQ_len (chkE_may hE).2.2).2
  have hC := qclone_any w ao q cap h (by omega)
  have hp2 : 0 ≤ p ∧ p ≤ 16 := by simpa [inQ] using hp
  have h1' : decide (p < 0) = false := by simp; omega
  have h2' : decide (16 < p) = false := by simp; omega
  have HR := Hid.mk2 hR
  have hlR : q.length = R.length := by rw [hR]; simp
  have hq0 : q ≠ [] := by intro e; rw [e] at ht; simp at ht
  have HQ0 := Hid.mk2 hq0
  have hMay := fun W ao cap (hi : Il W ao R cap) => qmay_any pool W ao R cap hi
  rw [hM, ← hlR] at hMay
  have HMay := Hid.mk2 hMay
  have HLR := Hid.mk2 hlR
  have HF := Hid.mk2 hF
  have HZ := Hid.mk2 hZ
  clear hE eH h hp hR hM hq0 hMay hlR hF hZ
  go_enter Try.func12, Try.ntmps12
  go_upto_region 7 with (first
    | (go_at_call 16; refine hc.mono ?_; rintro e w1 ⟨rfl, hw1⟩; have hw1 := hw1.symm; subst hw1)
    | (go_at_call 44; refine hh.mono ?_; rintro e w1 ⟨rfl, hw1⟩; have hw1 := hw1.symm; subst hw1)
    | (go_at_call 45; refine hC.mono ?_; rintro e w2 ⟨v', rfl, hO, hb2⟩))
  rcases hO.parts with ⟨-, e⟩ | ⟨g, cap', cur, rfl, hb, hg, hs, hn, hm, hcs⟩
  · exact absurd e HQ0.out
  have hfz : w2.frozen? ⟨g, T, none⟩ = false := frozen_of_heap hg T
  have hcT : w2.cell? ⟨g, T, none⟩ = some (.int .i64 q[T]) := hcs T ht
  have htl : (T : Int) < (q.length : Int) := by omega
  have hgl : g < w2.heap.size := (Array.getElem?_eq_some_iff.1 hg).1
  have hX : Hid (FreshI (w2.setCell ⟨g, T, none⟩ (.int .i64 p)) w.heap.size (.slice (some ⟨g, 0, none⟩) q.length cap') R ∧ Below w.heap.size w (w2.setCell ⟨g, T, none⟩ (.int .i64 p))) := by
    refine ⟨⟨_, cap', by rw [HLR.out], by have := HLR.out; omega, hm, (by intro e; cases e), .inr ⟨g, rfl, hb, by simpa using hgl, fun j => ?_, ?_⟩⟩, hb2.grown (grownBy_setCell w2 _ _) hb2.size (by intro k hk; cases hk; exact hb)⟩
    · rw [World.frozen?_setCell]; exact frozen_of_heap hg j
    · have e := HR.out
      subst e
      exact seti_lies ht hcs p
  obtain ⟨vT, hvT⟩ : ∃ vT, vT = q[T] := ⟨_, rfl⟩
  rw [← hvT] at hcT
  clear hvT hcs hO hb2 hg hs hb hc hh hC
  cases M
  · have hF' : F = 80 := by rw [HF.out]; rfl
    have hZ' : Z = [] := by rw [HZ.out]; rfl
    clear HF HZ
    subst hF' hZ'
    go_wp2_with (go_at_call 46; refine (HMay.out _ _ _ hX.out.1.il.2).mono ?_; rintro e w4 ⟨rfl, rfl⟩)
    go_ret2
    exact ⟨none, 0, rfl, FreshI.nil _ _, hX.out.2⟩
  · have hF' : F = 0 := by rw [HF.out]; rfl
    have hZ' : Z = R := by rw [HZ.out]; rfl
    clear HF HZ
    subst hF' hZ'
    go_wp2_with (go_at_call 46; refine (HMay.out _ _ _ hX.out.1.il.2).mono ?_; rintro e w4 ⟨rfl, rfl⟩)
    go_ret2
    refine ⟨_, _, by rw [← HLR.out]; rfl, by rw [← HLR.out]; exact hX.out.1, hX.out.2⟩
theorem set_any (pool : Int) (w : World) (ao : Option Addr) (q : List Int) (cap : Nat) (h : Il w ao q cap) (t p : Int) (E : Int) (R : List Int) (hE : setE pool q t p = E) (hR : setR pool q t p = R) :
    Calls Try.prog 12 #[.int .i64 pool, .slice ao q.length cap, .int .i64 t, .int .i64 p] w fun e w' => ∃ ro rc, e = .returned (.tuple #[.slice ro R.length rc, .int .i64 E]) ∧ FreshI w' w.heap.size (.slice ro R.length rc) R ∧ Below w.heap.size w w' := by
  by_cases h1 : chkE pool q = 0
  · cases h2 : hasQ q t
    · have e1 : setE pool q t p = 2 := by unfold setE; rw [if_neg (by simp [h1]), if_pos h2]
      have e2 : setR pool q t p = [] := by unfold setR; rw [e1]; rfl
      rw [e1] at hE
      rw [e2] at hR
      subst hE hR
      refine (set_bad2 pool w ao q cap h t p h1 (.inl h2)).mono ?_
      rintro e w' ⟨rfl, hb⟩
      exact ⟨none, 0, rfl, FreshI.nil _ _, hb⟩
    · cases h3 : inQ p
      · have e1 : setE pool q t p = 2 := by unfold setE; rw [if_neg (by simp [h1]), if_neg (by simp [h2]), if_pos h3]
        have e2 : setR pool q t p = [] := by unfold setR; rw [e1]; rfl
        rw [e1] at hE
        rw [e2] at hR
        subst hE hR
        refine (set_bad2 pool w ao q cap h t p h1 (.inr h3)).mono ?_
        rintro e w' ⟨rfl, hb⟩
        exact ⟨none, 0, rfl, FreshI.nil _ _, hb⟩
      · have ht : 0 ≤ t ∧ t < (q.length : Int) := by simpa [hasQ] using h2
        obtain ⟨T, rfl⟩ : ∃ T : Nat, t = (T : Int) := ⟨t.toNat, by omega⟩
        have e1 : setE pool q T p = if mayQ pool (q.set T p) = true then 0 else 80 := by unfold setE; rw [if_neg (by simp [h1]), if_neg (by simp [h2]), if_neg (by simp [h3]), Int.toNat_natCast]
        have e2 : setR pool q T p = if mayQ pool (q.set T p) = true then q.set T p else [] := by
          unfold setR; rw [e1, Int.toNat_natCast]
          cases mayQ pool (q.set T p) <;> rfl
        exact set_on pool w ao q cap h T p h1 (by omega) h3 (q.set T p) rfl _ rfl E R (hE.symm.trans e1) (hR.symm.trans e2)
  · have e1 : setE pool q t p = chkE pool q := by unfold setE; rw [if_pos h1]
    have e2 : setR pool q t p = [] := by unfold setR; rw [e1, if_neg h1]
    rw [e1] at hE
    rw [e2] at hR
    subst hE hR
    refine (set_bad1 pool w ao q cap h t p h1).mono ?_
    rintro e w' ⟨rfl, hb⟩
    exact ⟨none, 0, rfl, FreshI.nil _ _, hb⟩
end Go.Proofs.Ytkcgleahbhmggaa
