/-
  QuotaSets: a quota that is set changes no other one; all may be then, or it is refused and could not be. No conditions.
-/
import Derived.Test.YtkcgleahbhmggaaQtAlive
import Derived.Test.YtkcgleahbhmggaaQtRows
import Derived.Test.YtkcgleahbhmggaaChecked
namespace Go.Proofs.Ytkcgleahbhmggaa
open Go.ChangeShapes Go.WideShapes Go.ChangeAt Go.RowKit
open Go.ChangeMaps (open_string shut_string)
set_option linter.unusedSimpArgs false
set_option linter.unusedVariables false
set_option maxRecDepth 100000

theorem sum_set : ∀ {q : List Int} {T : Nat} (p : Int), T < q.length → (q.set T p).sum = (q.set T 0).sum + p
  | [], _, _, h => by simp at h
  | a :: q, 0, p, _ => by simp; omega
  | a :: q, T + 1, p, h => by
    have := sum_set (q := q) (T := T) p (by simpa using h)
    simp [this]
    omega
theorem sets_in {q : List Int} {T : Nat} {p : Int} (h : ∀ x ∈ q, 0 ≤ x ∧ x ≤ 16) (hp : 0 ≤ p ∧ p ≤ 16) : ∀ x ∈ q.set T p, 0 ≤ x ∧ x ≤ 16 := by
  intro x hx
  rcases List.mem_or_eq_of_mem_set hx with h1 | rfl
  · exact h x h1
  · exact hp
/-- what may not be, though each may: the sum is above -/
theorem may_not {pool : Int} {q : List Int} (h1 : 1 ≤ q.length ∧ q.length ≤ 4) (h2 : ∀ x ∈ q, 0 ≤ x ∧ x ≤ 16) (h3 : mayQ pool q = false) : pool < q.sum := by
  have e : sumE q = 0 := by
    unfold sumE
    rw [if_neg (by omega), if_pos]
    rw [List.all_eq_true]
    intro x hx
    simpa [inQ] using h2 x hx
  unfold mayQ at h3
  rw [e, decide_eq_true (show 0 < q.length by omega)] at h3
  simpa using h3
theorem sumE_ok {pool : Int} {q : List Int} (h : mayQ pool q = true) : sumE q = 0 ∧ sumV q = q.sum := by
  have e : sumE q = 0 := by
    unfold mayQ at h
    simp only [Bool.and_eq_true, decide_eq_true_eq] at h
    exact h.1.2
  exact ⟨e, by unfold sumV; rw [if_pos e]⟩
theorem setE_ok {pool : Int} {q : List Int} {t p : Int} (h : setE pool q t p = 0) : ∃ T : Nat, t = (T : Int) ∧ T < q.length ∧ chkE pool q = 0 ∧ inQ p = true ∧ mayQ pool (q.set T p) = true ∧ setR pool q t p = q.set T p := by
  have hR : setR pool q t p = q.set t.toNat p := by unfold setR; rw [if_pos h]
  unfold setE at h
  split at h
  · rename_i h1; exact absurd h h1
  · split at h
    · exact absurd h (by decide)
    · split at h
      · exact absurd h (by decide)
      · split at h
        · rename_i h1 h2 h3 h4
          have ht : 0 ≤ t ∧ t < (q.length : Int) := by simpa [hasQ] using h2
          exact ⟨t.toNat, by omega, by omega, by simpa using h1, by simpa using h3, h4, hR⟩
        · exact absurd h (by decide)
theorem sets_long (w : World) (pool : Int) (ao : Option Addr) (cap : Nat) (q : List Int) (h : Il w ao q cap) (t p : Int) (hl : 100 < q.length) :
    Calls Try.prog 6 #[.int .i64 pool, .slice ao q.length cap, .int .i64 t, .int .i64 p] w fun e w' => e = .returned (.bool true) ∧ Below w.heap.size w w' := by
  have hmx := h.len
  have hl1 : decide ((100 : Int) < q.length) = true := by simp; omega
  clear h
  go_enter Try.func6, Try.ntmps6
  go_wp2_with (go_at_call 17; refine (alive8_any _).mono ?_; rintro e w1 ⟨rfl, hb1⟩)
  go_ret
  exact ⟨rfl, hb1⟩
theorem sets_no (w : World) (pool : Int) (ao : Option Addr) (cap : Nat) (q : List Int) (h : Il w ao q cap) (t p : Int) (hl : q.length ≤ 100) (hE : setE pool q t p ≠ 0) (hn : chkE pool q ≠ 0 ∨ (chkE pool q = 0 ∧ (hasQ q t = false ∨ inQ p = false))) :
    Calls Try.prog 6 #[.int .i64 pool, .slice ao q.length cap, .int .i64 t, .int .i64 p] w fun e w' => e = .returned (.bool true) ∧ Below w.heap.size w w' := by
  have hR : setR pool q t p = [] := by unfold setR; rw [if_neg hE]
  have HS := Hid.mk2 (fun W (hb : Below w.heap.size w W) => set_any pool W ao q cap (h.below hb) t p _ _ rfl hR)
  rw [List.length_nil] at HS
  have HC := Hid.mk2 (fun W (hb : Below w.heap.size w W) => qcheck_any pool W ao q cap (h.below hb))
  have hE1 : (setE pool q t p == 0) = false := by simp [hE]
  have hcase : (chkE pool q != 0) = true ∨ ((chkE pool q != 0) = false ∧ decide (t < 0) = true) ∨ ((chkE pool q != 0) = false ∧ decide (t < 0) = false ∧ decide ((q.length : Int) ≤ t) = true) ∨ ((chkE pool q != 0) = false ∧ decide (t < 0) = false ∧ decide ((q.length : Int) ≤ t) = false ∧ decide (p < 0) = true) ∨ ((chkE pool q != 0) = false ∧ decide (t < 0) = false ∧ decide ((q.length : Int) ≤ t) = false ∧ decide (p < 0) = false ∧ decide (16 < p) = true) := by
    simp only [hasQ, inQ, decide_eq_false_iff_not, decide_eq_true_eq, bne_iff_ne, ne_eq, bne_eq_false_iff_eq] at *
    omega
  obtain ⟨E, e1⟩ : ∃ E, E = setE pool q t p := ⟨_, rfl⟩
  obtain ⟨C, e2⟩ : ∃ C, C = chkE pool q := ⟨_, rfl⟩
  rw [← e1] at HS hE1
  rw [← e2] at HC hcase
  have hl1 : decide ((100 : Int) < q.length) = false := by simp; omega
  clear h hR hE hn e1 e2
  rcases hcase with h1 | ⟨h1, h2⟩ | ⟨h1, h2, h3⟩ | ⟨h1, h2, h3, h4⟩ | ⟨h1, h2, h3, h4, h5⟩
  all_goals
    go_enter Try.func6, Try.ntmps6
    go_wp2_with (first
      | (go_at_call 17; refine (alive8_any _).mono ?_; rintro e w1 ⟨rfl, hb1⟩)
      | (go_at_call 12; refine (HS.out _ hb1).mono ?_; rintro e w2 ⟨ro, rc, rfl, -, hb2⟩; have HB2 := Hid.mk2 (hb1.trans (hb2.mono hb1.size)); clear hb2)
      | (go_at_call 16; refine (HC.out _ HB2.out).mono ?_; rintro e w3 ⟨rfl, hw3⟩; have hw3 := hw3.symm; subst hw3))
    go_ret
    exact ⟨rfl, HB2.out⟩
set_option maxHeartbeats 1000000 in
theorem sets_full (w : World) (pool : Int) (ao : Option Addr) (cap : Nat) (q : List Int) (h : Il w ao q cap) (T : Nat) (p : Int) (hl : q.length ≤ 100) (hC : chkE pool q = 0) (hT : T < q.length) (hp : inQ p = true) (hM : mayQ pool (q.set T p) = false) :
    Calls Try.prog 6 #[.int .i64 pool, .slice ao q.length cap, .int .i64 T, .int .i64 p] w fun e w' => e = .returned (.bool true) ∧ Below w.heap.size w w' := by
  have hE : setE pool q T p = 80 := by
    unfold setE
    rw [if_neg (by simp [hC]), if_neg (by simp [hasQ]; omega), if_neg (by simp [hp]), Int.toNat_natCast, if_neg (by simp [hM])]
  have hR : setR pool q T p = [] := by unfold setR; rw [hE]; rfl
  have HS := Hid.mk2 (fun W (hb : Below w.heap.size w W) => set_any pool W ao q cap (h.below hb) T p _ _ hE hR)
  rw [List.length_nil] at HS
  have HC := Hid.mk2 (fun W (hb : Below w.heap.size w W) => qcheck_any pool W ao q cap (h.below hb))
  rw [hC] at HC
  obtain ⟨c1, c2, c3⟩ := chkE_may hC
  have hp2 : 0 ≤ p ∧ p ≤ 16 := by simpa [inQ] using hp
  have hq4 := mayQ_len c3
  have hsum := may_not (pool := pool) (q := q.set T p) (by simpa using hq4) (sets_in (mayQ_in c3) hp2) hM
  rw [sum_set p hT] at hsum
  have HSM := Hid.mk2 hsum
  have HIN := Hid.mk2 (mayQ_in c3)
  have HQ := Hid.mk2 h
  have t1 : decide ((T : Int) < 0) = false := by rw [decide_eq_false_iff_not]; omega
  have t2 : decide ((q.length : Int) ≤ T) = false := by simp; omega
  have t3 : decide (p < 0) = false := by simp; omega
  have t4 : decide (16 < p) = false := by simp; omega
  have hl1 : decide ((100 : Int) < q.length) = false := by simp; omega
  clear h hR hE hC hp hM hsum c3
  go_enter Try.func6, Try.ntmps6
  go_upto_region 19 with (first
    | (go_at_call 17; refine (alive8_any _).mono ?_; rintro e w1 ⟨rfl, hb1⟩)
    | (go_at_call 12; refine (HS.out _ hb1).mono ?_; rintro e w2 ⟨ro, rc, rfl, -, hb2⟩; have HB2 := Hid.mk2 (hb1.trans (hb2.mono hb1.size)); clear hb2)
    | (go_at_call 16; refine (HC.out _ HB2.out).mono ?_; rintro e w3 ⟨rfl, hw3⟩; have hw3 := hw3.symm; subst hw3))
  go_wp2
  go_loopw [15, 16] (fun m i wx => ∃ (k : Nat) (m' : Int), k ≤ q.length ∧ m = .int .i64 m' ∧ i = .int .i64 k ∧ wx = w2 ∧ 0 ≤ m' ∧ m' ≤ 16 * k ∧ Hid (m' = ((q.set T 0).take k).sum)) (fun _ i _ => q.length - (intOf i).toNat)
  case atStart => exact ⟨0, 0, Nat.zero_le _, rfl, rfl, rfl, Int.le_refl _, by simp, by show _ = _; simp⟩
  case round =>
    obtain ⟨k, m', hk, rfl, rfl, hwx, hm0, hm1, HM⟩ := hrel
    have hwx := hwx.symm
    subst hwx
    by_cases hlt : k < q.length
    · have hlt2 : (k : Int) < (q.length : Int) := by omega
      have hst := sum_take (q := q.set T 0) (k := k) (by simpa using hlt)
      by_cases e : k = T
      · subst e
        have e' : ((k : Int) != (k : Int)) = false := by simp
        have HST : Hid (((q.set k 0).take (k + 1)).sum = ((q.set k 0).take k).sum) := by show _ = _; rw [hst]; simp
        clear hst
        go_wp2
        go_roundw
        case rel => exact ⟨k + 1, m', by omega, rfl, by go_num, (by first | rfl | trivial), hm0, by omega, by show _ = _; rw [HST.out, HM.out]⟩
        case measure => simp [intOf]; omega
      · have e' : ((k : Int) != (T : Int)) = true := by simp; omega
        obtain ⟨b, off, rfl, hbl, hcs⟩ := HQ.out.lies (by intro e; rw [e] at hlt; simp at hlt)
        have r0 : w2.cell? ⟨b, off + k, none⟩ = some (.int .i64 q[k]) := (below_cells HB2.out _ _ hbl).trans (hcs k hlt)
        have hx16 := HIN.out _ (List.getElem_mem hlt)
        have hg : (q.set T 0)[k]'(by simpa using hlt) = q[k] := List.getElem_set_ne (fun h => e h.symm) _
        rw [hg] at hst
        obtain ⟨x, hx⟩ : ∃ x, x = q[k] := ⟨_, rfl⟩
        rw [← hx] at r0 hst hx16
        have HST := Hid.mk2 hst
        clear hx hst hg hcs e
        go_wp2
        go_roundw
        case rel => exact ⟨k + 1, m' + x, by omega, by go_num, by go_num, (by first | rfl | trivial), by omega, by omega, by show _ = _; rw [HST.out, HM.out]⟩
        case measure => simp [intOf]; omega
    · have hlt2 : decide ((k : Int) < (q.length : Int)) = false := by simp; omega
      have hmE : m' = (q.set T 0).sum := by rw [HM.out, List.take_of_length_le (by simp; omega)]
      have hsm : pool < m' + p := by rw [hmE]; exact HSM.out
      have hsm1 : decide (pool < m' + p) = true := by simp [hsm]
      clear hmE
      go_wp2
      go_ret
      exact ⟨rfl, HB2.out⟩
set_option maxHeartbeats 1000000 in
theorem sets_yes (w : World) (pool : Int) (ao : Option Addr) (cap : Nat) (q : List Int) (h : Il w ao q cap) (T : Nat) (p : Int) (hl : q.length ≤ 100) (hE : setE pool q T p = 0) (hC : chkE pool q = 0) (hT : T < q.length) (hM : mayQ pool (q.set T p) = true) (hR : setR pool q T p = q.set T p) :
    Calls Try.prog 6 #[.int .i64 pool, .slice ao q.length cap, .int .i64 T, .int .i64 p] w fun e w' => e = .returned (.bool true) ∧ Below w.heap.size w w' := by
  obtain ⟨c1, c2, c3⟩ := chkE_may hC
  obtain ⟨s1, s2⟩ := sumE_ok hM
  have s3 := mayQ_sum hM
  have hC2 : chkE pool (q.set T p) = 0 := by unfold chkE; rw [if_neg (by omega), if_pos hM]
  obtain ⟨R, hRe⟩ : ∃ R, R = q.set T p := ⟨_, rfl⟩
  have hlR : R.length = q.length := by rw [hRe]; simp
  rw [← hRe] at s1 s2 s3 hC2 hR
  have HS := Hid.mk2 (fun W (hb : Below w.heap.size w W) => set_any pool W ao q cap (h.below hb) T p _ _ hE hR)
  have HC := Hid.mk2 (fun W a c (hi : Il W a R c) => qcheck_any pool W a R c hi)
  have HSU := Hid.mk2 (fun W a c (hi : Il W a R c) => qsum_any W a R c hi)
  rw [hC2] at HC
  rw [s1, s2] at HSU
  rw [hlR] at HS HC HSU
  have s4 : decide (R.sum ≤ pool) = true := by simp [s3]
  obtain ⟨Z, hZ⟩ : ∃ Z, Z = R.sum := ⟨_, rfl⟩
  rw [← hZ] at HSU s4
  have HRE : Hid (∀ j (hj : j < R.length) (hq : j < q.length), j ≠ T → R[j] = q[j]) := fun j hj hq hne => by subst hRe; exact List.getElem_set_ne (fun h => hne h.symm) _
  have HRT : Hid (∀ (hj : T < R.length), R[T] = p) := fun hj => by subst hRe; simp
  have HLR := Hid.mk2 hlR
  have HQ := Hid.mk2 h
  have t1 : decide ((T : Int) < 0) = false := by rw [decide_eq_false_iff_not]; omega
  have t2 : decide ((q.length : Int) ≤ T) = false := by simp; omega
  have hTl : (T : Int) < (q.length : Int) := by omega
  have hl1 : decide ((100 : Int) < q.length) = false := by simp; omega
  have hpp : (p != p) = false := by simp
  clear h hR hE hC hM c3 s1 s2 s3 hC2 hRe hlR hZ
  go_enter Try.func6, Try.ntmps6
  go_upto_region 7 with (first
    | (go_at_call 17; refine (alive8_any _).mono ?_; rintro e w1 ⟨rfl, hb1⟩)
    | (go_at_call 12; refine (HS.out _ hb1).mono ?_; rintro e w2 ⟨ro, rc, rfl, hf2, hb2⟩; have HF2 := Hid.mk2 hf2; have HB2 := Hid.mk2 (hb1.trans (hb2.mono hb1.size)); clear hb2 hf2))
  have HI2 : Hid (Il w2 ro R rc) := HF2.out.il.2
  have hTR : T < R.length := by rw [HLR.out]; exact hT
  obtain ⟨b2, o2, rfl, hbl2, hcs2⟩ := HI2.out.lies (by intro e; rw [e] at hTR; simp at hTR)
  have r2 := hcs2 T hTR
  rw [HRT.out hTR] at r2
  have hrc : q.length ≤ rc := by rw [← HLR.out]; exact HI2.out.hl
  have HCS2 := Hid.mk2 hcs2
  clear hcs2 hTR
  go_upto_region 10 with (first
    | (go_at_call 16; refine (HC.out _ _ _ HI2.out).mono ?_; rintro e w3 ⟨rfl, hw3⟩; have hw3 := hw3.symm; subst hw3))
  go_wp2
  go_loopw [12] (fun i wx => ∃ k n : Nat, k ≤ q.length ∧ i = .int .i64 k ∧ wx = w2.drewN n) (fun i _ => q.length - (intOf i).toNat)
  case atStart => exact ⟨0, 0, Nat.zero_le _, rfl, rfl⟩
  case round =>
    obtain ⟨k, n, hk, rfl, rfl⟩ := hrel
    by_cases hlt : k < q.length
    · have hlt2 : (k : Int) < (q.length : Int) := by omega
      have hkR : k < R.length := by rw [HLR.out]; exact hlt
      obtain ⟨b, off, rfl, hbl, hcs⟩ := HQ.out.lies (by intro e; rw [e] at hlt; simp at hlt)
      have r0 : w2.cell? ⟨b, off + k, none⟩ = some (.int .i64 q[k]) := (below_cells HB2.out _ _ hbl).trans (hcs k hlt)
      have r1 := HCS2.out k hkR
      by_cases e : k = T
      · have e' : ((k : Int) != (T : Int)) = false := by simp; omega
        clear hcs e
        go_wp2
        go_quiet (fail)
        go_wp2
        go_roundw
        case rel => exact ⟨k + 1, _, by omega, by go_num, rfl⟩
        case measure => simp [intOf]; omega
      · have e' : ((k : Int) != (T : Int)) = true := by simp; omega
        rw [HRE.out k hkR hlt e] at r1
        obtain ⟨x, hx⟩ : ∃ x, x = q[k] := ⟨_, rfl⟩
        rw [← hx] at r0 r1
        have hxx : (x != x) = false := by simp
        clear hcs hx e
        go_wp2
        go_quiet (fail)
        go_wp2
        go_roundw
        case rel => exact ⟨k + 1, _, by omega, by go_num, rfl⟩
        case measure => simp [intOf]; omega
    · have hlt2 : decide ((k : Int) < (q.length : Int)) = false := by simp; omega
      have hi3 := HSU.out (w2.drewN n) _ _ (HI2.out.below (below_drewN (Below.refl _ _) n))
      go_wp2_with (go_at_call 13; refine hi3.mono ?_; rintro e w4 ⟨rfl, rfl⟩)
      go_ret
      exact ⟨rfl, below_drewN HB2.out n⟩
theorem quotaSets_walk (w : World) (pool : Int) {P0 : Prop} (_ : P0) (ao : Option Addr) (len cap : Nat) (q : List Int) (h : InInts w ao len cap q) (t : Int) {P1 : Prop} (_ : P1) (p : Int) {P2 : Prop} (_ : P2) :
    Calls Try.prog 6 #[.int .i64 pool, .slice ao len cap, .int .i64 t, .int .i64 p] w fun e w' => e = .returned (.bool true) ∧ Below w.heap.size w w' := by
  obtain ⟨rfl, h⟩ := h
  by_cases h1 : 100 < q.length
  · exact sets_long w pool ao cap q h t p h1
  have h1 : q.length ≤ 100 := by omega
  by_cases hE : setE pool q t p = 0
  · obtain ⟨T, rfl, hT, hC, hp, hM, hR⟩ := setE_ok hE
    exact sets_yes w pool ao cap q h T p h1 hE hC hT hM hR
  · by_cases hC : chkE pool q = 0
    · cases hH : hasQ q t
      · exact sets_no w pool ao cap q h t p h1 hE (.inr ⟨hC, .inl hH⟩)
      · cases hI : inQ p
        · exact sets_no w pool ao cap q h t p h1 hE (.inr ⟨hC, .inr hI⟩)
        · have ht : 0 ≤ t ∧ t < (q.length : Int) := by simpa [hasQ] using hH
          obtain ⟨T, rfl⟩ : ∃ T : Nat, t = (T : Int) := ⟨t.toNat, by omega⟩
          refine sets_full w pool ao cap q h T p h1 hC (by omega) hI ?_
          unfold setE at hE
          rw [if_neg (by simp [hC]), if_neg (by simp [hH]), if_neg (by simp [hI]), Int.toNat_natCast] at hE
          cases hM : mayQ pool (q.set T p)
          · rfl
          · rw [hM] at hE; exact absurd rfl hE
    · exact sets_no w pool ao cap q h t p h1 hE (.inl hC)

set_option maxRecDepth 100000 in
theorem quotaSets_lifted (os : Os) (started : os.Started) (H : Type) (enc : TypeId × Value → H) :
    ReturnsInHanded {} Try.checked os 6 .any (Rows.quotaSetsSpec.pre6 enc Try.prog Try.f6 Rows.quotaSetsRow.domain false) (Rows.quotaSetsSpec.post enc Try.prog Try.f6 false true false false) := by
  refine returnsInHanded_of_change (C := Try.checked) (by kernel_rfl) started (by kernel_rfl) Try.func6
    (ChangeSpec.witness6 (enc := enc) (C := Try.checked) false ⟨#[], #[.int .i64 0, .slice none 0 0, .int .i64 0, .int .i64 0], []⟩ 8 (by kernel_rfl) (by kernel_rfl) (by kernel_rfl) (by kernel_rfl)) ?_
  intro W base args ds gs before hval0 hW hcnd _
  have hval : ∀ (j : Nat) t v, Try.f6.params[j]? = some t → args[j]? = some v → Value.okWide Try.prog W .any base t v := hval0
  have hW' := hW
  obtain ⟨p, q, hA0, hV, rfl, hfz, hnd⟩ := hW
  have hA : DataW.TrodAll enc Try.prog W 0 (fun _ => true) true Try.f6.params.toList args.toList ds p := hA0
  rw [Try.params6] at hA hval
  obtain ⟨v0, vs0, d0, ds0, p0, q0, hargs, rfl, rfl, h0, r0⟩ := trodAll_cons hA
  obtain ⟨v1, vs1, d1, ds1, p1, q1, rfl, rfl, rfl, h1, r1⟩ := trodAll_cons r0
  obtain ⟨v2, vs2, d2, ds2, p2, q2, rfl, rfl, rfl, h2, r2⟩ := trodAll_cons r1
  obtain ⟨v3, vs3, d3, ds3, p3, q3, rfl, rfl, rfl, h3, r3⟩ := trodAll_cons r2
  obtain ⟨rfl, rfl, rfl⟩ := trodAll_nil r3
  obtain rfl : args = #[v0, v1, v2, v3] := by cases args; simp_all
  obtain ⟨rfl, rfl⟩ := trodVars_none hV
  obtain ⟨a0, rfl, rfl, rfl, w0⟩ := open_int Try.underlying3 (hval 0 3 v0 rfl rfl) h0
  have k1 := h1
  have lt1 : ∀ x ∈ p1, x.block < W.heap.size := by obtain ⟨m, hm⟩ := k1; exact DataW.trod_lt m _ _ _ hm
  obtain ⟨a1, len1, cap1, rfl⟩ := okWide_slice Try.underlying22 (hval 1 22 v1 rfl rfl)
  obtain ⟨l1, w1⟩ := inInts_of (fun _ => rfl) h1
  obtain ⟨a2, rfl, rfl, rfl, w2⟩ := open_int Try.underlying3 (hval 2 3 v2 rfl rfl) h2
  obtain ⟨a3, rfl, rfl, rfl, w3⟩ := open_int Try.underlying3 (hval 3 3 v3 rfl rfl) h3
  clear hA0 hval0
  refine (quotaSets_walk W a0 w0 a1 len1 cap1 l1 w1 a2 w2 a3 w3).mono fun e W' ⟨he, bel⟩ => ?_
  subst he
  exact ⟨_, rfl, _, _, _, [], _, [], hW', trodAll_mk1 (shut_bool Try.underlying4 _), (trodAll_cons_mk (shut_int Try.underlying3 w0) (trodAll_cons_mk (Below.trod laidOut_all (by kernel_rfl) (of_decide_eq_true (by kernel_rfl)) k1 bel lt1) (trodAll_cons_mk (shut_int Try.underlying3 w2) (trodAll_cons_mk (shut_int Try.underlying3 w3) trodAll_mk0)))), rfl, bel.frame _, fun h => by cases h⟩

theorem quotaSets_proved : Rows.QuotaSetsSaid :=
  OpenClaim.holds_of_wide 6 Try.f6 rfl rfl rfl rfl rfl rfl rfl ⟨rfl, rfl, rfl, rfl, rfl⟩ rfl rfl rfl rfl rfl (by kernel_rfl) Try.func6 (by kernel_rfl)
    (of_decide_eq_true (by kernel_rfl)) (by unfold Func.isWrapper; first | (rw [if_pos (by decide +kernel)]; kernel_rfl) | (rw [if_neg (by decide +kernel)]; exact ⟨rfl, rfl⟩))
    (fun os started H enc _ => quotaSets_lifted os started H enc)
#print axioms quotaSets_proved
end Go.Proofs.Ytkcgleahbhmggaa
