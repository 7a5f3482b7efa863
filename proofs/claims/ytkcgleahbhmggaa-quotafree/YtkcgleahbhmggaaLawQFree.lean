/-
  QuotaFree: where quotas are kept, whoever has fewer pages than its own finds a free one. No conditions.
-/
import Derived.Test.YtkcgleahbhmggaaQtAlive
import Derived.Test.YtkcgleahbhmggaaQtRows
import Derived.Test.YtkcgleahbhmggaaSbRef7
import Derived.Test.YtkcgleahbhmggaaChecked
namespace Go.Proofs.Ytkcgleahbhmggaa
open Go.ChangeShapes Go.WideShapes Go.ChangeAt Go.RowKit
open Go.ChangeMaps (open_string shut_string)
set_option linter.unusedSimpArgs false
set_option linter.unusedVariables false
set_option maxRecDepth 100000

theorem owned_all : ∀ {ps : List Pg}, (∀ p ∈ ps, p.u ≠ 0 ∧ isT p.t = true) → ps.length = owned ps 0 + owned ps 1 + owned ps 2 + owned ps 3
  | [], _ => rfl
  | p :: ps, h => by
    have ih := owned_all (ps := ps) (fun x hx => h x (by simp [hx]))
    obtain ⟨h1, h2⟩ := h p (by simp)
    have h3 : p.t = 0 ∨ p.t = 1 ∨ p.t = 2 ∨ p.t = 3 := by simp [isT] at h2; omega
    unfold owned at ih ⊢
    simp only [List.countP_cons, List.length_cons]
    rcases h3 with e | e | e | e <;> simp [isOf, h1, e] <;> omega
/-- tenant j has no more pages than its quota, none without one -/
def keepsQ (ps : List Pg) (q : List Int) (j : Nat) : Prop := (q.length ≤ j → owned ps (j : Int) = 0) ∧ ∀ hj : j < q.length, (owned ps (j : Int) : Int) ≤ q[j]
theorem free_page {ps : List Pg} {q : List Int} (hs : sOk ps = true) (hm : mayQ ps.length q = true) (hA : ∀ j, j < 4 → keepsQ ps q j) {T : Nat} (ht : T < q.length) (hlt : (owned ps (T : Int) : Int) < q[T]) : ∃ i, ∃ hi : i < ps.length, ps[i].u = 0 := by
  have hl := mayQ_len hm
  have hS := mayQ_sum hm
  refine Classical.byContradiction fun hne => ?_
  have hall : ∀ p ∈ ps, p.u ≠ 0 ∧ isT p.t = true := by
    intro p hp
    obtain ⟨i, hi, rfl⟩ := List.mem_iff_getElem.1 hp
    refine ⟨fun e => hne ⟨i, hi, e⟩, ?_⟩
    simp [sOk] at hs
    exact pOk_t (hs.2 _ hp)
  have hc := owned_all hall
  have k0 := hA 0 (by omega)
  have k1 := hA 1 (by omega)
  have k2 := hA 2 (by omega)
  have k3 := hA 3 (by omega)
  unfold keepsQ at k0 k1 k2 k3
  have z0 : ((0 : Nat) : Int) = 0 := rfl
  have z1 : ((1 : Nat) : Int) = 1 := rfl
  have z2 : ((2 : Nat) : Int) = 2 := rfl
  have z3 : ((3 : Nat) : Int) = 3 := rfl
  rw [z0] at k0
  rw [z1] at k1
  rw [z2] at k2
  rw [z3] at k3
  match q, hl with
  | [a], _ =>
    simp at ht k0 k1 k2 k3 hS hlt
    subst ht
    simp at hlt
    omega
  | [a, b], _ =>
    simp at ht k0 k1 k2 k3 hS hlt
    have : T = 0 ∨ T = 1 := by omega
    rcases this with rfl | rfl <;> simp at hlt <;> omega
  | [a, b, c], _ =>
    simp at ht k0 k1 k2 k3 hS hlt
    have : T = 0 ∨ T = 1 ∨ T = 2 := by omega
    rcases this with rfl | rfl | rfl <;> simp at hlt <;> omega
  | [a, b, c, d], _ =>
    simp at ht k0 k1 k2 k3 hS hlt
    have : T = 0 ∨ T = 1 ∨ T = 2 ∨ T = 3 := by omega
    rcases this with rfl | rfl | rfl | rfl <;> simp at hlt <;> omega
theorem take_fine {ps : List Pg} {t c q : Int} (hs : sOk ps = true) (ht : isT t = true) (hq : 0 ≤ q ∧ q ≤ 16) (ho : (owned ps t : Int) < q) (hf : ∃ i, ∃ hi : i < ps.length, ps[i].u = 0) : takeE ps t c q = 0 ∨ takeE ps t c q = 2 := by
  unfold takeE
  rw [if_neg (by simp [hs]), if_neg (by simp [ht])]
  cases eC : isC c
  · rw [if_pos rfl]; exact .inr rfl
  rw [if_neg (by decide), if_neg (by simp [isQ]; exact hq), if_neg]
  · exact .inl rfl
  · intro e
    unfold place at e
    cases eR : room ps t c with
    | some x => rw [eR] at e; simp at e
    | none =>
      rw [eR] at e
      simp only [ho, if_true] at e
      cases eF : freeP ps with
      | some i => rw [eF] at e; simp at e
      | none =>
        obtain ⟨i, hi, h0⟩ := hf
        exact freeP_none eF i hi h0
theorem ownedU (w : World) (so : Option Addr) (ps : List Pg) (sc : Nat) (hs : Sb w so ps sc) (k : Nat) (hk : k < 4) (ho : sOk ps = true) :
    Calls Try.prog 25 #[.agg #[.slice so ps.length sc], .int .i64 k] w fun e w' => e = .returned (.tuple #[.int .i64 (owned ps k), .int .i64 0]) ∧ Below w.heap.size w w' :=
  Owned_any w so ps sc hs ho k (by simp [isT]; omega)
theorem free_bad (w : World) (so : Option Addr) (sc : Nat) (ps : List Pg) (hs : Sb w so ps sc) (ao : Option Addr) (cap : Nat) (q : List Int) (h : Il w ao q cap) (t c : Int) (hl : ps.length ≤ 100) (hlq : q.length ≤ 100) (eO : sOk ps = false) :
    Calls Try.prog 5 #[.agg #[.slice so ps.length sc], .slice ao q.length cap, .int .i64 t, .int .i64 c] w fun e w' => e = .returned (.bool true) ∧ Below w.heap.size w w' := by
  have HOW := Hid.mk2 (fun W (hb : Below w.heap.size w W) => Owned_bad W so ps sc (hs.below hb) 0 (by unfold tE; rw [eO]; decide))
  rw [show tE ps 0 = 8 from by unfold tE; rw [eO]; rfl] at HOW
  have hl1 : decide ((100 : Int) < ps.length) = false := by simp; omega
  have hl2 : decide ((100 : Int) < q.length) = false := by simp; omega
  clear hs h eO
  go_enter Try.func5, Try.ntmps5
  go_upto_if 5 with (go_at_call 17; refine (alive8_any _).mono ?_; rintro e w1 ⟨rfl, hb1⟩; have z1 : w1.cell? ⟨w.heap.size, 0, none⟩ = some (.slice so ps.length sc) := (below_cells hb1 _ 0 (by simp)).trans (by simp); have hs1 : w.heap.size < w1.heap.size := by (have := hb1.size; simp at this; omega))
  go_wp2
  refine wp_loop_rounds 1 ?_
  rw [rounds_succ]
  go_wp2_with (go_at_call 25; refine (HOW.out _ (below_alloc hb1)).mono ?_; rintro e w2 ⟨rfl, hb2⟩)
  go_ret
  exact ⟨rfl, (below_alloc hb1).trans (hb2.mono (below_alloc hb1).size)⟩
theorem free_long (w : World) (so : Option Addr) (sc : Nat) (ps : List Pg) (hs : Sb w so ps sc) (ao : Option Addr) (cap : Nat) (q : List Int) (h : Il w ao q cap) (t c : Int) (hl : 100 < ps.length ∨ 100 < q.length) :
    Calls Try.prog 5 #[.agg #[.slice so ps.length sc], .slice ao q.length cap, .int .i64 t, .int .i64 c] w fun e w' => e = .returned (.bool true) ∧ Below w.heap.size w w' := by
  have hmx := h.len
  have hmp : ps.length ≤ 9223372036854775807 := by have := hs.hl; have := hs.hc; omega
  clear hs h
  by_cases h1 : 100 < ps.length
  · have hl1 : decide ((100 : Int) < ps.length) = true := by simp; omega
    clear hl
    go_enter Try.func5, Try.ntmps5
    go_wp2_with (go_at_call 17; refine (alive8_any _).mono ?_; rintro e w1 ⟨rfl, hb1⟩; have z1 : w1.cell? ⟨w.heap.size, 0, none⟩ = some (.slice so ps.length sc) := (below_cells hb1 _ 0 (by simp)).trans (by simp); have hs1 : w.heap.size < w1.heap.size := by (have := hb1.size; simp at this; omega))
    go_ret
    exact ⟨rfl, below_alloc hb1⟩
  · have hl1 : decide ((100 : Int) < ps.length) = false := by simp; omega
    have hl2 : decide ((100 : Int) < q.length) = true := by simp; omega
    clear hl
    go_enter Try.func5, Try.ntmps5
    go_wp2_with (go_at_call 17; refine (alive8_any _).mono ?_; rintro e w1 ⟨rfl, hb1⟩; have z1 : w1.cell? ⟨w.heap.size, 0, none⟩ = some (.slice so ps.length sc) := (below_cells hb1 _ 0 (by simp)).trans (by simp); have hs1 : w.heap.size < w1.heap.size := by (have := hb1.size; simp at this; omega))
    go_ret
    exact ⟨rfl, below_alloc hb1⟩
theorem any_take {ps : List Pg} {k : Nat} (h : k < ps.length) : (ps.take (k + 1)).any (fun p => decide (p.u = 0)) = ((ps.take k).any (fun p => decide (p.u = 0)) || decide (ps[k].u = 0)) := by
  rw [List.take_succ_eq_append_getElem h, List.any_append]
  simp
set_option maxHeartbeats 1000000 in
theorem free_main (w : World) (so : Option Addr) (sc : Nat) (ps : List Pg) (hs : Sb w so ps sc) (ao : Option Addr) (cap : Nat) (q : List Int) (h : Il w ao q cap) (t c : Int) (hl : ps.length ≤ 100) (hlq : q.length ≤ 100) (eO : sOk ps = true) :
    Calls Try.prog 5 #[.agg #[.slice so ps.length sc], .slice ao q.length cap, .int .i64 t, .int .i64 c] w fun e w' => e = .returned (.bool true) ∧ Below w.heap.size w w' := by
  have HOW := Hid.mk2 (fun W (hb : Below w.heap.size w W) k hk => ownedU W so ps sc (hs.below hb) k hk eO)
  have HRM := Hid.mk2 (fun W (hb : Below w.heap.size w W) => qroom_any W so ps sc (hs.below hb) ao q cap (h.below hb) t)
  have HQ := Hid.mk2 h
  have HS := Hid.mk2 hs
  have HO := Hid.mk2 eO
  have hl1 : decide ((100 : Int) < ps.length) = false := by simp; omega
  have hl2 : decide ((100 : Int) < q.length) = false := by simp; omega
  clear hs h eO
  go_enter Try.func5, Try.ntmps5
  go_upto_if 5 with (go_at_call 17; refine (alive8_any _).mono ?_; rintro e w1 ⟨rfl, hb1⟩; have z1 : w1.cell? ⟨w.heap.size, 0, none⟩ = some (.slice so ps.length sc) := (below_cells hb1 _ 0 (by simp)).trans (by simp); have hs1 : w.heap.size < w1.heap.size := by (have := hb1.size; simp at this; omega))
  go_wp2
  go_loopw [10] (fun i wr => ∃ k : Nat, k ≤ 4 ∧ i = .int .i64 k ∧ Hid (Below w.heap.size w wr) ∧ w.heap.size < wr.heap.size ∧ wr.cell? ⟨w.heap.size, 0, none⟩ = some (.slice so ps.length sc) ∧ Hid (∀ j, j < k → keepsQ ps q j)) (fun i _ => 4 - (intOf i).toNat)
  case atStart => exact ⟨0, by omega, rfl, below_alloc hb1, hs1, z1, fun _ h => absurd h (by omega)⟩
  case round =>
    obtain ⟨k, hk, rfl, HB, hsz, hcl, HK⟩ := hrel
    by_cases hlt : k < 4
    · have hlt2 : (k : Int) < 4 := by omega
      have hO := HOW.out wr HB.out k hlt
      obtain ⟨O, hOe⟩ : ∃ O, O = owned ps k := ⟨_, rfl⟩
      rw [← hOe] at hO
      have HOE := Hid.mk2 hOe
      clear hOe
      by_cases hq : k < q.length
      · have g1 : decide ((q.length : Int) ≤ k) = false := by simp; omega
        have g2 : decide ((k : Int) < q.length) = true := by simp; omega
        obtain ⟨b, off, rfl, hbl, hcs⟩ := HQ.out.lies (by intro e; rw [e] at hq; simp at hq)
        have r0 := hcs k hq
        obtain ⟨x, hx⟩ : ∃ x, x = q[k] := ⟨_, rfl⟩
        rw [← hx] at r0
        have HX := Hid.mk2 hx
        clear hcs hx
        by_cases hxo : x < (O : Int)
        · have g3 : decide (x < (O : Int)) = true := by simp [hxo]
          go_wp2_with (go_at_call 25; refine hO.mono ?_; rintro e w2 ⟨rfl, hb2⟩; have r1 : w2.cell? ⟨b, off + k, none⟩ = some (.int .i64 x) := (below_cells (HB.out.trans (hb2.mono HB.out.size)) _ _ hbl).trans r0)
          go_ret
          exact ⟨rfl, HB.out.trans (hb2.mono HB.out.size)⟩
        · have g3 : decide (x < (O : Int)) = false := by simp; omega
          go_wp2_with (go_at_call 25; refine hO.mono ?_; rintro e w2 ⟨rfl, hb2⟩; have r1 : w2.cell? ⟨b, off + k, none⟩ = some (.int .i64 x) := (below_cells (HB.out.trans (hb2.mono HB.out.size)) _ _ hbl).trans r0)
          go_roundw
          case rel => exact ⟨k + 1, by omega, by go_num, HB.out.trans (hb2.mono HB.out.size), by have := hb2.size; omega, (below_cells hb2 _ 0 hsz).trans hcl, fun j h => by
            by_cases e : j = k
            · subst e; exact ⟨fun g => by omega, fun hj => by rw [← HOE.out, ← HX.out]; omega⟩
            · exact HK.out j (by omega)⟩
          case measure => simp [intOf]; omega
      · have g1 : decide ((q.length : Int) ≤ k) = true := by simp; omega
        have g2 : decide ((k : Int) < q.length) = false := by simp; omega
        by_cases hxo : 0 < O
        · have g3 : decide ((0 : Int) < (O : Int)) = true := by simp [hxo]
          go_wp2_with (go_at_call 25; refine hO.mono ?_; rintro e w2 ⟨rfl, hb2⟩)
          go_ret
          exact ⟨rfl, HB.out.trans (hb2.mono HB.out.size)⟩
        · have g3 : decide ((0 : Int) < (O : Int)) = false := by rw [decide_eq_false_iff_not]; omega
          go_wp2_with (go_at_call 25; refine hO.mono ?_; rintro e w2 ⟨rfl, hb2⟩)
          go_roundw
          case rel => exact ⟨k + 1, by omega, by go_num, HB.out.trans (hb2.mono HB.out.size), by have := hb2.size; omega, (below_cells hb2 _ 0 hsz).trans hcl, fun j h => by
            by_cases e : j = k
            · subst e; exact ⟨fun g => by rw [← HOE.out]; omega, fun hj => absurd hj hq⟩
            · exact HK.out j (by omega)⟩
          case measure => simp [intOf]; omega
    · have hlt2 : decide ((k : Int) < 4) = false := by simp; omega
      have HK4 : Hid (∀ j, j < 4 → keepsQ ps q j) := fun j hj => HK.out j (by omega)
      have hR := HRM.out wr HB.out
      by_cases eA : askE ps q t = 0
      · obtain ⟨T, b, off, rfl, hT, rfl, hbl, hc, h0, h16⟩ := askE_get HQ.out eA
        obtain ⟨-, eC, eH⟩ := askE_ok eA
        have eM := (chkE_may eC).2.2
        have eT := hasQ_t (mayQ_len eM).2 eH
        have hqT := qAt_get hT
        by_cases ho : (owned ps (T : Int) : Int) < qAt q T
        · have eV : roomV ps q T = true := by simp [roomV, eA, ho]
          have hF := free_page HO.out eM HK4.out hT (by rw [← hqT]; exact ho)
          have hTk := take_fine (c := c) HO.out eT ⟨h0, h16⟩ ho hF
          rw [eA, eV] at hR
          obtain ⟨Q, hQ⟩ : ∃ Q, Q = qAt q T := ⟨_, rfl⟩
          rw [← hQ] at hTk hc
          obtain ⟨R, iR, kR, hTR⟩ : ∃ R iR kR, takeR ps T c Q = (R, iR, kR) := ⟨_, _, _, rfl⟩
          obtain ⟨N, hN⟩ : ∃ N, N = R.length := ⟨_, rfl⟩
          have HTK : Hid (∀ W, Below w.heap.size w W → Calls Try.prog 26 #[.agg #[.slice so ps.length sc], .int .i64 T, .int .i64 c, .int .i64 Q] W fun e w' => ∃ ro rc, e = .returned (.tuple #[.agg #[.slice ro N rc], .int .i64 iR, .int .i64 kR, .int .i64 (takeE ps T c Q)]) ∧ Below W.heap.size W w') := fun W hb => by
            refine (take_sb W so ps sc (HS.out.below hb) T c Q _ _ _ _ rfl hTR).mono ?_
            rintro e w' ⟨ro, rc, rfl, -, -, hb'⟩
            exact ⟨ro, rc, by rw [hN], hb'⟩
          clear hTR hN
          obtain ⟨E, hE⟩ : ∃ E, E = takeE ps T c Q := ⟨_, rfl⟩
          rw [← hE] at hTk HTK
          have HF := Hid.mk2 hF
          have t1 : decide ((T : Int) < 0) = false := by rw [decide_eq_false_iff_not]; omega
          have t2 : decide ((q.length : Int) ≤ T) = false := by simp; omega
          have hTl : (T : Int) < (q.length : Int) := by omega
          clear hF ho eV eA eC eH eM eT hqT hQ hE h0 h16 HRM HOW HK HK4
          go_upto_region 17 with (go_at_call 14; refine hR.mono ?_; rintro e w3 ⟨rfl, hb3⟩; have z3 : w3.cell? ⟨w.heap.size, 0, none⟩ = some (.slice so ps.length sc) := (below_cells hb3 _ 0 hsz).trans hcl; have hs3 : w.heap.size < w3.heap.size := by (have := hb3.size; omega))
          have HB3 : Hid (Below w.heap.size w w3) := HB.out.trans (hb3.mono HB.out.size)
          clear hb3 hR HB hcl
          go_wp2
          go_loopw [15, 16] (fun f i wx => ∃ (k : Nat) (F : Bool), k ≤ ps.length ∧ f = .bool F ∧ i = .int .i64 k ∧ wx = w3 ∧ Hid (F = (ps.take k).any (fun p => decide (p.u = 0)))) (fun _ i _ => ps.length - (intOf i).toNat)
          case atStart => exact ⟨0, false, Nat.zero_le _, rfl, rfl, rfl, by show _ = _; simp⟩
          case round =>
            obtain ⟨m, F, hm, rfl, rfl, hwx, HFF⟩ := hrel
            have hwx := hwx.symm
            subst hwx
            by_cases hml : m < ps.length
            · have hml2 : (m : Int) < (ps.length : Int) := by omega
              obtain ⟨b2, off2, rfl, hbl2, hcs2⟩ := HS.out.lies (by intro e; rw [e] at hml; simp at hml)
              obtain ⟨r0, r1, r2⟩ := (hcs2 m hml).below HB3.out hbl2
              have hat := any_take hml
              obtain ⟨U, hU⟩ : ∃ U, U = ps[m].u := ⟨_, rfl⟩
              rw [← hU] at r2 hat
              have HAT := Hid.mk2 hat
              clear hcs2 hat hU r0 r1
              have eU : ((U : Int) == 0) = decide (U = 0) := by rw [Bool.eq_iff_iff]; simp
              cases F
              · go_wp2
                go_roundw
                case rel => exact ⟨m + 1, decide (U = 0), by omega, by first | rfl | (rw [eU]; done) | simp, by go_num, (by first | rfl | trivial), by show _ = _; rw [HAT.out, ← HFF.out]; rfl⟩
                case measure => simp [intOf]; omega
              · go_wp2
                go_roundw
                case rel => exact ⟨m + 1, true, by omega, rfl, by go_num, (by first | rfl | trivial), by show _ = _; rw [HAT.out, ← HFF.out]; rfl⟩
                case measure => simp [intOf]; omega
            · have hml2 : decide ((m : Int) < (ps.length : Int)) = false := by simp; omega
              have hFt : F = true := by
                rw [HFF.out, List.take_of_length_le (by omega), List.any_eq_true]
                obtain ⟨i, hi, e⟩ := HF.out
                exact ⟨_, List.getElem_mem hi, by simp [e]⟩
              subst hFt
              have r3 : w3.cell? ⟨b, off + T, none⟩ = some (.int .i64 Q) := (below_cells HB3.out _ _ hbl).trans hc
              have hbl3 : b < w3.heap.size := by omega
              go_upto_region 22 with fail
              have HD : Hid (∀ V, Below w3.heap.size w3 V → Below w.heap.size w V) := fun V hv => HB3.out.trans (hv.mono HB3.out.size)
              have HEE : Hid (((E == 0) = true) ∨ ((E == 0) = false ∧ (E == 2) = true)) := by rcases hTk with e | e <;> (show _ ∨ _; simp [e])
              clear hTk
              go_region_with (go_at_call 26; refine (HTK.out _ (HD.out _ (by first | exact Below.refl _ _ | exact (Below.refl _ _).drew | exact ((Below.refl _ _).alloc (Nat.le_refl _) _).drew | exact (Below.refl _ _).alloc (Nat.le_refl _) _ | exact (Below.refl _ _).drew.alloc (Nat.le_refl _) _))).mono ?_; rintro e w6 ⟨ro, rc, rfl, hb6⟩; have HB6 : Hid (Below w3.heap.size w3 w6) := (by first | exact hb6 | exact below_drew0 hb6 | exact below_alloc (below_drew0 hb6) | exact below_alloc hb6 | exact below_drew0 (below_alloc hb6)); (try (have n0 : w6.cell? ⟨w3.heap.size, 0, none⟩ = some (.slice none 0 0) := (by rw [hb6.cell (p := ⟨w3.heap.size, 0, none⟩) (by simp)]; simp; done); have n1 : w6.frozen? ⟨w3.heap.size, 0, none⟩ = false := (by rw [hb6.frozen (p := ⟨w3.heap.size, 0, none⟩) (by simp)]; simp; done); have n2 : w3.heap.size < w6.heap.size := (by have := hb6.size; simp at this; omega))); clear hb6)
              all_goals
                rcases HEE.out with e1 | ⟨e1, e2⟩
                all_goals
                  go_wp2
                  go_ret
                  refine ⟨rfl, HD.out _ ?_⟩
                  first
                    | exact HB6.out
                    | exact HB6.out.setCell (p := ⟨w3.heap.size, 0, none⟩) (Nat.le_refl _) _
                    | exact HB6.out.alloc HB6.out.size _
        · have eV : roomV ps q T = false := by simp [roomV, ho]
          rw [eA, eV] at hR
          clear ho eV eA eC eH eM eT hqT h0 h16 HRM HOW HK HK4
          go_wp2_with (go_at_call 14; refine hR.mono ?_; rintro e w3 ⟨rfl, hb3⟩)
          go_ret
          exact ⟨rfl, HB.out.trans (hb3.mono HB.out.size)⟩
      · have eV : roomV ps q t = false := by simp [roomV, eA]
        rw [eV] at hR
        obtain ⟨E, hE⟩ : ∃ E, E = askE ps q t := ⟨_, rfl⟩
        rw [← hE] at hR eA
        have e1 : (E != 0) = true := by simp [eA]
        have e2 : (E == 0) = false := by simp [eA]
        clear eV eA hE HRM HOW HK HK4
        go_wp2_with (go_at_call 14; refine hR.mono ?_; rintro e w3 ⟨rfl, hb3⟩)
        go_ret
        exact ⟨rfl, HB.out.trans (hb3.mono HB.out.size)⟩
theorem quotaFree_walk (w : World) (so : Option Addr) (sc : Nat) (ps : List Pg) (hs : Sb w so ps sc) (ao : Option Addr) (len cap : Nat) (q : List Int) (h : InInts w ao len cap q) (t : Int) {P1 : Prop} (_ : P1) (c : Int) {P2 : Prop} (_ : P2) :
    Calls Try.prog 5 #[.agg #[.slice so ps.length sc], .slice ao len cap, .int .i64 t, .int .i64 c] w fun e w' => e = .returned (.bool true) ∧ Below w.heap.size w w' := by
  obtain ⟨rfl, h⟩ := h
  by_cases h1 : 100 < ps.length
  · exact free_long w so sc ps hs ao cap q h t c (.inl h1)
  by_cases h2 : 100 < q.length
  · exact free_long w so sc ps hs ao cap q h t c (.inr h2)
  cases eO : sOk ps
  · exact free_bad w so sc ps hs ao cap q h t c (by omega) (by omega) eO
  · exact free_main w so sc ps hs ao cap q h t c (by omega) (by omega) eO

set_option maxRecDepth 100000 in
theorem quotaFree_lifted (os : Os) (started : os.Started) (H : Type) (enc : TypeId × Value → H) :
    ReturnsInHanded {} Try.checked os 5 .any (Rows.quotaFreeSpec.pre6 enc Try.prog Try.f5 Rows.quotaFreeRow.domain false) (Rows.quotaFreeSpec.post enc Try.prog Try.f5 false true false false) := by
  refine returnsInHanded_of_change (C := Try.checked) (by kernel_rfl) started (by kernel_rfl) Try.func5
    (ChangeSpec.witness6 (enc := enc) (C := Try.checked) false ⟨#[], #[.agg #[.slice none 0 0], .slice none 0 0, .int .i64 0, .int .i64 0], []⟩ 8 (by kernel_rfl) (by kernel_rfl) (by kernel_rfl) (by kernel_rfl)) ?_
  intro W base args ds gs before hval0 hW hcnd _
  have hval : ∀ (j : Nat) t v, Try.f5.params[j]? = some t → args[j]? = some v → Value.okWide Try.prog W .any base t v := hval0
  have hW' := hW
  obtain ⟨p, q, hA0, hV, rfl, hfz, hnd⟩ := hW
  have hA : DataW.TrodAll enc Try.prog W 0 (fun _ => true) true Try.f5.params.toList args.toList ds p := hA0
  rw [Try.params5] at hA hval
  obtain ⟨v0, vs0, d0, ds0, p0, q0, hargs, rfl, rfl, h0, r0⟩ := trodAll_cons hA
  obtain ⟨v1, vs1, d1, ds1, p1, q1, rfl, rfl, rfl, h1, r1⟩ := trodAll_cons r0
  obtain ⟨v2, vs2, d2, ds2, p2, q2, rfl, rfl, rfl, h2, r2⟩ := trodAll_cons r1
  obtain ⟨v3, vs3, d3, ds3, p3, q3, rfl, rfl, rfl, h3, r3⟩ := trodAll_cons r2
  obtain ⟨rfl, rfl, rfl⟩ := trodAll_nil r3
  obtain rfl : args = #[v0, v1, v2, v3] := by cases args; simp_all
  obtain ⟨rfl, rfl⟩ := trodVars_none hV
  have k0 := h0
  have lt0 : ∀ x ∈ p0, x.block < W.heap.size := by obtain ⟨m, hm⟩ := k0; exact DataW.trod_lt m _ _ _ hm
  obtain ⟨a0, cap0, l0, rfl, w0⟩ := inSlab_of (fun _ => rfl) (hval 0 33 v0 rfl rfl) h0
  have k1 := h1
  have lt1 : ∀ x ∈ p1, x.block < W.heap.size := by obtain ⟨m, hm⟩ := k1; exact DataW.trod_lt m _ _ _ hm
  obtain ⟨a1, len1, cap1, rfl⟩ := okWide_slice Try.underlying22 (hval 1 22 v1 rfl rfl)
  obtain ⟨l1, w1⟩ := inInts_of (fun _ => rfl) h1
  obtain ⟨a2, rfl, rfl, rfl, w2⟩ := open_int Try.underlying3 (hval 2 3 v2 rfl rfl) h2
  obtain ⟨a3, rfl, rfl, rfl, w3⟩ := open_int Try.underlying3 (hval 3 3 v3 rfl rfl) h3
  clear hA0 hval0
  refine (quotaFree_walk W a0 cap0 l0 w0 a1 len1 cap1 l1 w1 a2 w2 a3 w3).mono fun e W' ⟨he, bel⟩ => ?_
  subst he
  exact ⟨_, rfl, _, _, _, [], _, [], hW', trodAll_mk1 (shut_bool Try.underlying4 _), (trodAll_cons_mk (Below.trod laidOut_all (by kernel_rfl) (of_decide_eq_true (by kernel_rfl)) k0 bel lt0) (trodAll_cons_mk (Below.trod laidOut_all (by kernel_rfl) (of_decide_eq_true (by kernel_rfl)) k1 bel lt1) (trodAll_cons_mk (shut_int Try.underlying3 w2) (trodAll_cons_mk (shut_int Try.underlying3 w3) trodAll_mk0)))), rfl, bel.frame _, fun h => by cases h⟩

theorem quotaFree_proved : Rows.QuotaFreeSaid :=
  OpenClaim.holds_of_wide 5 Try.f5 rfl rfl rfl rfl rfl rfl rfl ⟨rfl, rfl, rfl, rfl, rfl⟩ rfl rfl rfl rfl rfl (by kernel_rfl) Try.func5 (by kernel_rfl)
    (of_decide_eq_true (by kernel_rfl)) (by unfold Func.isWrapper; first | (rw [if_pos (by decide +kernel)]; kernel_rfl) | (rw [if_neg (by decide +kernel)]; exact ⟨rfl, rfl⟩))
    (fun os started H enc _ => quotaFree_lifted os started H enc)
#print axioms quotaFree_proved
end Go.Proofs.Ytkcgleahbhmggaa
