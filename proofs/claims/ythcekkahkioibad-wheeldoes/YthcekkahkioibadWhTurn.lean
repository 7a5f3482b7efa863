/-
  What was taken is settled; the clock goes on: the contracts of settle and turn.
-/
import Derived.Test.YthcekkahkioibadWhTake
namespace Go.Proofs.Ythcekkahkioibad
open Go.RowKit
set_option linter.unusedSimpArgs false
set_option linter.unusedVariables false
set_option maxRecDepth 100000

theorem flatT_get (T : List NU) (i j : Nat) (hi : i < T.length) (hj : j < 3) : (T.flatMap tcells)[i * 3 + j]? = some ((tcells T[i])[j]'(by rw [tcells_len]; exact hj)) := by
  induction T generalizing i with
  | nil => simp at hi
  | cons c T ih =>
    rw [List.flatMap_cons]
    cases i with
    | zero =>
      rw [List.getElem?_append_left (by rw [tcells_len]; omega)]
      simp [tcells_len, hj]
    | succ i =>
      rw [List.getElem?_append_right (by rw [tcells_len]; omega), tcells_len, show (i + 1) * 3 + j - 3 = i * 3 + j by omega]
      exact ih i (by simpa using hi)
/-- names with their moments lie at the address, below block B -/
def TAt (w : World) (ao : Option Addr) (T : List NU) : Prop :=
  T = [] ∨ ∃ b off, ao = some ⟨b, off, none⟩ ∧ b < w.heap.size ∧ ∀ i (hi : i < T.length), w.cell? ⟨b, off + i * 3, none⟩ = some (.int .i64 T[i].1.tenant) ∧ w.cell? ⟨b, off + i * 3 + 1, none⟩ = some (.string T[i].1.key) ∧ w.cell? ⟨b, off + i * 3 + 2, none⟩ = some (.int .i64 T[i].2)
theorem OwnT.at {w : World} {base : Nat} {v : Value} {T : List NU} (h : OwnT w base v T) :
    ∃ ao cap, v = .slice ao T.length cap ∧ T.length ≤ cap ∧ cap ≤ maxLen ∧ TAt w ao T := by
  rcases h.2 with ⟨rfl, hn⟩ | ⟨g, cap, cur, rfl, hb, hg, hnc, hcm, hcs, htake⟩
  · have : T = [] := List.eq_nil_of_length_eq_zero hn
    subst this
    exact ⟨none, 0, rfl, by simp, by simp [maxLen], .inl rfl⟩
  · refine ⟨_, cap, rfl, hnc, hcm, .inr ⟨g, 0, rfl, (Array.getElem?_eq_some_iff.1 hg).1, fun i hi => ?_⟩⟩
    have key : ∀ j (hj : j < 3), w.cell? ⟨g, 0 + i * 3 + j, none⟩ = some ((tcells T[i])[j]'(by rw [tcells_len]; exact hj)) := fun j hj => by
      have := World.ownsRow.cells h (g := g) rfl (i * 3 + j) _ (flatT_get T i j hi hj)
      rw [addr_add] at this
      rw [Nat.zero_add] at this ⊢
      exact this
    exact ⟨key 0 (by omega), key 1 (by omega), key 2 (by omega)⟩
def dueOf (now : Nat) (T : List NU) : List NU := T.filter (fun q => decide (q.2 ≤ (now : Int)))
def restOf (now : Nat) (T : List NU) : List NU := T.filter (fun q => decide ((now : Int) < q.2))

theorem OwnT.same {w w' : World} {base : Nat} {v : Value} {T : List NU} (h : OwnT w base v T) (e : ∀ g, v.ownBlock = some g → w'.heap[g]? = w.heap[g]?) : OwnT w' base v T := ⟨h.1, by
  rcases h.2 with h1 | ⟨g, cap, cur, h1, h2, h3, h4⟩
  · exact .inl h1
  · exact .inr ⟨g, cap, cur, h1, h2, (e g (by rw [h1]; rfl)).trans h3, h4⟩⟩
theorem OwnT.down {w : World} {b b' : Nat} {v : Value} {T : List NU} (h : OwnT w b v T) (hb : b' ≤ b) : OwnT w b' v T := ⟨h.1, by
  rcases h.2 with h | ⟨g, cap, cur, h1, h2, h3⟩
  · exact .inl h
  · exact .inr ⟨g, cap, cur, h1, Nat.le_trans hb h2, h3⟩⟩
theorem Wh.notCells {w : World} {p now : Nat} {U G : List NU} {b0 : Nat} {mb : Nat → Option Nat} {N : Nat} (h : Wh w p now U G b0 mb N) {k : Nat} (hk : Foot p b0 mb k) : k = p ∨ ∃ o, w.heap[k]? = some o ∧ ∀ c t m, o ≠ .cells c t m := by
  rcases hk with hk | hk | ⟨i, hi, hk⟩
  · exact .inl hk
  · exact .inr (hk ▸ h.um.obj)
  · exact .inr (h.gm i k hi hk).obj
/-- a row of names with their moments is none of a wheel's blocks -/
theorem OwnT.away {w : World} {base : Nat} {v : Value} {T : List NU} (hT : OwnT w base v T) {p now : Nat} {U G : List NU} {b0 : Nat} {mb : Nat → Option Nat} {N : Nat} (h : Wh w p now U G b0 mb N) (hp : p < base) (g : Nat) (hg : v.ownBlock = some g) : ¬ Foot p b0 mb g := fun hf => by
  rcases h.notCells hf with e | ⟨o, ho, hc⟩
  · have := (hT.lt g hg).1
    omega
  · exact hT.ne_of ho hc hg
theorem OwnT.kept {w w' : World} {base : Nat} {v : Value} {T : List NU} (hT : OwnT w base v T) {F : Nat → Prop} (hk : Kept F w w') (hF : ∀ g, v.ownBlock = some g → ¬ F g) : OwnT w' base v T :=
  hT.same (fun g hg => hk.block g (hT.lt g hg).2 (hF g hg))
theorem strike_mid {X d : List NU} {q : NU} (h : (X ++ q :: d).Pairwise (fun p q => p.1 ≠ q.1)) : strike q.1 (X ++ q :: d) = X ++ d := by
  obtain ⟨h1, h2, h3⟩ := List.pairwise_append.1 h
  obtain ⟨h4, h5⟩ := List.pairwise_cons.1 h2
  unfold strike
  rw [List.filter_append, List.filter_cons_of_neg (by simp)]
  have e1 := strike_none (x := q.1) (M := X) (fun p hp => h3 p hp q (by simp))
  have e2 := strike_none (x := q.1) (M := d) (fun p hp => (h4 p hp).symm)
  unfold strike at e1 e2
  rw [e1, e2]
theorem due_snoc (now : Nat) (T : List NU) (q : NU) : dueOf now (T ++ [q]) = if q.2 ≤ (now : Int) then dueOf now T ++ [q] else dueOf now T := by
  unfold dueOf
  rw [List.filter_append]
  by_cases h : q.2 ≤ (now : Int) <;> simp [h]
theorem rest_snoc (now : Nat) (T : List NU) (q : NU) : restOf now (T ++ [q]) = if q.2 ≤ (now : Int) then restOf now T else restOf now T ++ [q] := by
  unfold restOf
  rw [List.filter_append]
  by_cases h : q.2 ≤ (now : Int)
  · have h2 : ¬ (now : Int) < q.2 := by omega
    simp [h, h2]
  · have h2 : (now : Int) < q.2 := by omega
    simp [h, h2]

set_option maxHeartbeats 1000000 in
theorem settle_any (w : World) (p now : Nat) (G : List NU) (b0 : Nat) (mb : Nat → Option Nat) (N : Nat) (T : List NU) (U : List NU) (hU : U.Perm (G ++ T)) (h : Wh w p now U G b0 mb N) (hap : (G ++ T).Pairwise (fun p q => p.1 ≠ q.1)) (hok : ∀ q ∈ T, q.1.ok ∧ 0 ≤ q.2 ∧ q.2 ≤ 1099511627776)
    (B : Nat) (v : Value) (hT : OwnT w B v T) (hpB : p < B) (hBw : B ≤ w.heap.size) (hN : N + 2 * T.length < 100000000) :
    Calls Try.prog 62 #[.pointer (some ⟨p, 0, none⟩), v] w fun e w' => ∃ v', e = .returned v' ∧ OwnT w' w.heap.size v' (dueOf now T) ∧
      ∃ mb', Wh w' p now (G ++ restOf now T) (G ++ restOf now T) b0 mb' (N + 2 * T.length) ∧ Kept (Foot p b0 mb) w w' ∧ ∀ k, Foot p b0 mb' k → Foot p b0 mb k ∨ w.heap.size ≤ k := by
  obtain ⟨ao, cap, rfl, hTc, hTm, hTA⟩ := hT.at
  have hTL : T.length ≤ 50000000 := by omega
  have HAW := Hid.mk2 (fun g hg => hT.away h hpB g hg)
  have HAP := Hid.mk2 hap
  have HOK := Hid.mk2 hok
  have HW0 := Hid.mk2 (h.perm hU (List.Perm.refl _))
  have HTO := Hid.mk2 hT
  unfold maxLen at hTm
  clear hap hok h hT hU
  go_enter Try.func62, Try.ntmps62
  go_wp2
  go_loopw [5, 10] (fun t i wr => ∃ (k : Nat) (mb' : Nat → Option Nat), k ≤ T.length ∧ i = .int .i64 k ∧ OwnT wr w.heap.size t (dueOf now (T.take k)) ∧ Hid (Wh wr p now ((G ++ restOf now (T.take k)) ++ T.drop k) (G ++ restOf now (T.take k)) b0 mb' (N + 2 * k)) ∧ Hid (Kept (Foot p b0 mb) w wr) ∧ Hid (∀ k, Foot p b0 mb' k → Foot p b0 mb k ∨ w.heap.size ≤ k)) (fun _ i _ => T.length - (intOf i).toNat)
  case atStart => exact ⟨0, mb, Nat.zero_le _, rfl, OwnT.nil _ _, Hid.mk2 (by simpa [restOf] using HW0.out), Kept.refl _ _, fun k hk => .inl hk⟩
  case round =>
    obtain ⟨k, mb2, hk, rfl, hD, HW, HK, HFT⟩ := hrel
    by_cases hlt : k < T.length
    · have hlt2 : (k : Int) < (T.length : Int) := by omega
      rcases hTA with h0 | ⟨tb, off, rfl, htb, hcells⟩
      · rw [h0] at hlt; simp at hlt
      obtain ⟨q, hq⟩ : ∃ q, q = T[k] := ⟨_, rfl⟩
      obtain ⟨c0, c1, c2⟩ := hcells k hlt
      rw [← hq] at c0 c1 c2
      have hkb := HK.out.block tb htb (HAW.out tb rfl)
      have hsz := HK.out.size
      have htr : tb < wr.heap.size := by omega
      have d0 : wr.cell? ⟨tb, off + k * 3, none⟩ = some (.int .i64 q.1.tenant) := (World.cell?_of_block hkb).trans c0
      have d1 : wr.cell? ⟨tb, off + k * 3 + 1, none⟩ = some (.string q.1.key) := (World.cell?_of_block hkb).trans c1
      have d2 : wr.cell? ⟨tb, off + k * 3 + 2, none⟩ = some (.int .i64 q.2) := (World.cell?_of_block hkb).trans c2
      have hmem : q ∈ T := by rw [hq]; exact List.getElem_mem hlt
      obtain ⟨hyo, hq1, hq2⟩ := HOK.out q hmem
      have hdrop : T.drop k = q :: T.drop (k + 1) := by rw [hq]; exact List.drop_eq_getElem_cons hlt
      have htake : T.take (k + 1) = T.take k ++ [q] := by rw [hq]; exact List.take_succ_eq_append_getElem hlt
      have HDR := Hid.mk2 hdrop
      have HTK := Hid.mk2 htake
      have hnow : wr.cell? ⟨p, 1, none⟩ = some (.int .i64 now) := HW.out.nowc
      have hpr : p < wr.heap.size := HW.out.lt (.inl rfl)
      have HAPk : Hid (((G ++ restOf now (T.take k)) ++ T.drop k).Pairwise (fun p q => p.1 ≠ q.1)) := HW.out.um.apart
      have HFRm := Hid.mk2 hcells
      clear hdrop htake hq c0 c1 c2 hkb hcells
      obtain ⟨y, u⟩ := q
      simp only [] at d0 d1 d2 hyo hq1 hq2
      obtain ⟨v, rfl⟩ : ∃ v : Nat, u = (v : Int) := ⟨u.toNat, by omega⟩
      go_upto_region 5 with fail
      obtain ⟨wA, hwA⟩ : ∃ wA, wA = wr.alloc (.cells #[.int .i64 y.tenant, .string y.key, .int .i64 (v : Int)] 85) := ⟨_, rfl⟩
      have x0 : wA.cell? ⟨wr.heap.size, 0, none⟩ = some (.int .i64 y.tenant) := by rw [hwA]; simp
      have x1 : wA.cell? ⟨wr.heap.size, 1, none⟩ = some (.string y.key) := by rw [hwA]; simp
      have x2 : wA.cell? ⟨wr.heap.size, 2, none⟩ = some (.int .i64 (v : Int)) := by rw [hwA]; simp
      have hbA : Below wr.heap.size wr wA := by rw [hwA]; exact alb _ _
      have hsA : wA.heap.size = wr.heap.size + 1 := by rw [hwA]; simp
      have hWA := (HW.out.below hbA).drew
      have hnA : wA.cell? ⟨p, 1, none⟩ = some (.int .i64 now) := hWA.nowc
      have hDA : OwnT wA.drew w.heap.size u5 (dueOf now (T.take k)) := (hD.below hbA).below ((Below.refl _ _).drew)
      have HKA : Hid (Kept (Foot p b0 mb) w wA.drew) := (HK.out.trans (Kept.below (F := Foot p b0 mb) hbA) (fun j hj => .inl hj)).trans (Kept.drew (Foot p b0 mb) wA) (fun j hj => .inl hj)
      rw [← hwA]
      clear hwA hbA hD d0 d1 d2 hnow
      have hXd := HAPk.out
      rw [HDR.out] at hXd
      have hsm := strike_mid hXd
      rw [HDR.out] at hWA
      have HMID := Hid.mk2 hsm
      have HXD := Hid.mk2 hXd
      clear hsm hXd
      have hpw : p < w.heap.size := by omega
      by_cases hdue : v ≤ now
      · have hd1 : decide ((now : Int) < (v : Int)) = false := by simp; omega
        have hd2 : ¬ (now : Int) < (v : Int) := by omega
        go_region
        have hWB := hWA.drew
        have huc : wA.cell? ⟨p, 2, none⟩ = some (.map (some b0)) := hWA.untilc
        obtain ⟨w3, hrun3, hm3, ht3⟩ := mp_del_run hWB.um y hyo 0
        have y0 := turned_cell hWB.um ht3 (x := wr.heap.size) (o := 0) x0
        have y1 := turned_cell hWB.um ht3 (x := wr.heap.size) (o := 1) x1
        have y2 := turned_cell hWB.um ht3 (x := wr.heap.size) (o := 2) x2
        rw [HMID.out] at hm3
        have HW3 := Hid.mk2 (hWB.turned0 ht3 _ (Nat.le_refl _) _ hm3)
        have hs3 := ht3.grown.size
        have hD3 : OwnT w3 w.heap.size u5 (dueOf now (T.take k)) := (hDA.below ((Below.refl _ _).drew)).kept (Kept.turned (F := Foot p b0 mb2) ht3 (.inr (.inl rfl))) (fun g hg => (hDA.below ((Below.refl _ _).drew)).away hWB hpw g hg)
        have HK3 : Hid (Kept (Foot p b0 mb) w w3) := (HKA.out.trans (Kept.drew (Foot p b0 mb) _) (fun j hj => .inl hj)).trans (Kept.turned (F := Foot p b0 mb) ht3 (.inr (.inl rfl))) (fun j hj => .inl hj)
        have hdl : (dueOf now (T.take k)).length ≤ T.length := Nat.le_trans (List.length_filter_le _ _) (by simp; omega)
        clear hWA hWB hm3 ht3 hDA
        go_upto_region 7 with fail
        go_region
        go_wp2_with (at_builtin; refine app_t rfl (.tmp 33) (.tmp 35) rfl w.heap.size _ _ hD3 rfl (y, (v : Int)) rfl _ rfl rfl (by omega) (by have := HK3.out.size; omega) ?_; intro v4 w4 ho4 hg4)
        go_roundw
        case rel =>
          have hne : ∀ g, Foot p b0 mb2 g → g < w3.heap.size → u5.ownBlock ≠ some g := fun g hg _ e => hD3.away HW3.out hpw g e hg
          have hk4 : Kept (fun g => u5.ownBlock = some g) w3 w4 := Kept.grown hg4.grown (fun g hg => .inl hg)
          refine ⟨k + 1, mb2, by omega, by go_num, ?_, Hid.mk2 ?_, ?_, HFT⟩
          · rw [HTK.out, due_snoc, if_pos (by simp; omega)]
            exact ho4
          · rw [HTK.out, rest_snoc, if_pos (by simp; omega)]
            exact (HW3.out.kept hk4 (fun g hg e => hne g hg (HW3.out.lt hg) e)).mono (by omega)
          · exact HK3.out.trans hk4 (fun g hg => .inr (hD3.lt g hg).1)
        case measure => simp [intOf]; omega
      · have hd1 : (now : Int) < (v : Int) := by omega
        go_region
        have HST := Hid.mk2 (stand_any wA.drew p now _ _ b0 mb2 _ hWA y hyo v (by omega) (by omega) (fun q hq => by
          have := (List.pairwise_append.1 HXD.out).2.2 q hq (y, (v : Int)) (by simp)
          exact this) (by omega))
        have hDaw := Hid.mk2 (fun g hg => hDA.away hWA hpw g hg)
        go_wp2_with (go_at_call 38; refine HST.out.mono ?_; rintro e w3 ⟨rfl, mb3, hW3, hK3, hF3⟩)
        go_roundw
        case rel =>
          rw [HMID.out] at hW3
          refine ⟨k + 1, mb3, by omega, by go_num, ?_, Hid.mk2 ?_, ?_, ?_⟩
          · rw [HTK.out, due_snoc, if_neg (by simp; omega)]
            exact hDA.kept hK3 hDaw.out
          · rw [HTK.out, rest_snoc, if_neg (by simp; omega)]
            refine (hW3.perm ?_ ?_).mono (by omega)
            · refine List.perm_middle.symm.trans ?_
              simp
            · rw [← List.append_assoc]
              exact (List.perm_append_singleton _ _).symm
          · exact HKA.out.trans hK3 HFT.out
          · show ∀ j, _
            intro j hj
            rcases hF3 j hj with g | g
            · exact HFT.out j g
            · exact .inr (by have := HKA.out.size; omega)
        case measure => simp [intOf]; omega
    · have hkT : k = T.length := by omega
      have hlt2 : ¬ (k : Int) < (T.length : Int) := by omega
      subst hkT
      go_wp2
      go_ret
      have h1 := HW.out
      rw [List.take_length, List.drop_length, List.append_nil] at h1
      rw [List.take_length] at hD
      exact ⟨_, rfl, hD, mb2, h1, HK.out, HFT.out⟩

theorem out_keep (a lo hi : Nat) : ∀ (G : List NU), G.Perm (outOf a lo hi G ++ keepIn a lo hi G)
  | [] => by simp [outOf, keepIn]
  | q :: G => by
    have ih := out_keep a lo hi G
    have e1 : outOf a lo hi (q :: G) = if inR a lo hi q then q :: outOf a lo hi G else outOf a lo hi G := by simp [outOf, List.filter_cons]
    have e2 : keepIn a lo hi (q :: G) = if inR a lo hi q then keepIn a lo hi G else q :: keepIn a lo hi G := by
      unfold keepIn
      cases h : inR a lo hi q <;> simp [List.filter_cons, h]
    rw [e1, e2]
    cases inR a lo hi q with
    | true => simpa using ih
    | false =>
      simp only [Bool.false_eq_true, if_false]
      exact (List.Perm.cons q ih).trans List.perm_middle.symm

set_option maxHeartbeats 1000000 in
theorem turn_len (w : World) (p now : Nat) (L : List NU) (b0 : Nat) (mb : Nat → Option Nat) (N : Nat) (h : Wh w p now L L b0 mb N) (now' : Nat) (hn : now ≤ now') (hn2 : now' ≤ 1099511627776) (hN : N ≤ 1000000) :
    Calls Try.prog 39 #[.pointer (some ⟨p, 0, none⟩), .int .i64 now'] w fun e w' => ∃ v', e = .returned v' ∧ ∃ D, OwnT w' w.heap.size v' D ∧ D.Perm (dueOf now' L) ∧
      ∃ mb', Wh w' p now' (restOf now' L) (restOf now' L) b0 mb' (N + 2 * L.length) ∧ Kept (Foot p b0 mb) w w' ∧ ∀ k, Foot p b0 mb' k → Foot p b0 mb k ∨ w.heap.size ≤ k := by
  have hpl := place_any now now' w h.small hn2
  have hr := ring_le h.small hn2
  have hs := slot_lt now now'
  have hnc := h.nowc
  have hlt := h.lt (.inl rfl)
  have hlen := h.um.len
  obtain ⟨r, hrr⟩ : ∃ r, r = ring now now' := ⟨_, rfl⟩
  obtain ⟨s, hss⟩ : ∃ s, s = slot now now' := ⟨_, rfl⟩
  rw [← hrr] at hr hpl
  rw [← hss] at hs hpl
  have HRS : Hid (r = ring now now' ∧ s = slot now now') := ⟨hrr, hss⟩
  have hF : ∀ k, Foot p b0 mb k → k < w.heap.size := fun k hk => h.lt hk
  have HF := Hid.mk2 hF
  have HW := Hid.mk2 h
  clear hrr hss hF h
  go_enter Try.func39, Try.ntmps39
  go_upto_region 2 with (go_at_call 59; refine hpl.mono ?_; rintro e w1 ⟨rfl, hb1⟩)
  have HT1 := Hid.mk2 (take_any w1 p now L L b0 mb N (HW.out.below hb1) r s hr hs w.heap.size hb1.size HF.out (.slice none 0 0) [] (OwnT.nil _ _) (by simp; omega))
  have hb1' := Hid.mk2 hb1
  clear hb1 hpl
  go_wp2_with (go_at_call 61; refine HT1.out.mono ?_; rintro e w2 ⟨v2, rfl, T2, hT2, hP2, mb2, hW2, hK2, hF2⟩)
  have hLP : L.Perm (T2 ++ keepIn now (64 * r) (64 * r + (s + 1)) L) := by
    rw [List.nil_append] at hP2
    exact (out_keep now _ _ L).trans (List.Perm.append_right _ hP2.symm)
  have HCo : Hid (∀ q ∈ keepIn now (64 * r) (64 * r + (s + 1)) L, q ∈ L ∧ (64 * r + s < ix now q.2 ∨ ix now q.2 < 64 * r)) := fun q hq => by
    obtain ⟨h1, h2⟩ := mem_keep.1 hq
    exact ⟨h1, by omega⟩
  have HK2 : Hid (Kept (fun k => k = p ∨ w.heap.size ≤ k) w w2) := (Kept.below (F := fun k => k = p ∨ w.heap.size ≤ k) hb1'.out).trans hK2 (fun k hk => .inl hk)
  go_loopw [7, 23] (fun t i wr => ∃ (k : Nat) (T G : List NU) (mb' : Nat → Option Nat), k ≤ r ∧ i = .int .i64 k ∧ OwnT wr w.heap.size t T ∧ Hid (L.Perm (T ++ G)) ∧ Hid (∀ q ∈ G, q ∈ L ∧ (64 * r + s < ix now q.2 ∨ (64 * k ≤ ix now q.2 ∧ ix now q.2 < 64 * r))) ∧ Hid (Wh wr p now L G b0 mb' N) ∧ Hid (Kept (fun k => k = p ∨ w.heap.size ≤ k) w wr) ∧ Hid (∀ k, Foot p b0 mb' k → Foot p b0 mb k)) (fun _ i _ => r - (intOf i).toNat)
  case atStart => exact ⟨0, T2, _, mb2, Nat.zero_le _, rfl, hT2, hLP, fun q hq => ⟨(HCo.out q hq).1, by have := (HCo.out q hq).2; omega⟩, hW2, HK2.out, hF2⟩
  case round =>
    obtain ⟨k, T, G, mb3, hk, rfl, hT, HLP, HC, HWr, HK, HFT⟩ := hrel
    have hszr := HK.out.size
    have hlTG : T.length + G.length = L.length := by have := HLP.out.length_eq; rw [List.length_append] at this; omega
    by_cases hlt : k < r
    · have hlt2 : (k : Int) < (r : Int) := by omega
      have HT3 := Hid.mk2 (take_any wr p now L G b0 mb3 N HWr.out k 63 (by omega) (by omega) w.heap.size hszr (fun j hj => HF.out j (HFT.out j hj)) u7 T hT (by omega))
      go_wp2_with (go_at_call 61; refine HT3.out.mono ?_; rintro e w3 ⟨v3, rfl, T3, hT3, hP3, mb4, hW3, hK3, hF3⟩)
      go_roundw
      case rel =>
        refine ⟨k + 1, T3, keepIn now (64 * k) (64 * k + (63 + 1)) G, mb4, by omega, by go_num, hT3, ?_, fun q hq => ?_, hW3, HK.out.trans hK3 (fun j hj => .inl hj), fun j hj => HFT.out j (hF3 j hj)⟩
        · show List.Perm _ _
          refine HLP.out.trans ?_
          refine (List.Perm.append_left T (out_keep now (64 * k) (64 * k + (63 + 1)) G)).trans ?_
          rw [← List.append_assoc]
          exact List.Perm.append_right _ hP3.symm
        · obtain ⟨h1, h2⟩ := mem_keep.1 hq
          have h3 := HC.out q h1
          exact ⟨h3.1, by have := h3.2; omega⟩
      case measure => simp [intOf]; omega
    · have hkr : k = r := by omega
      have hlt2 : ¬ (k : Int) < (r : Int) := by omega
      subst hkr
      have HST : Hid (∀ q ∈ G, (now' : Int) < q.2 ∧ ix now' q.2 = ix now q.2) := fun q hq => by
        obtain ⟨h1, h2⟩ := HC.out q hq
        obtain ⟨g1, g2, g3⟩ := HW.out.gb q h1
        have hx : 64 * k + s < ix now q.2 := by omega
        obtain ⟨e1, e2⟩ := HRS.out
        unfold ix at hx
        have hsl := slot_lt now q.2.toNat
        have hst := stay (a := now) (b := q.2.toNat) (c := now') (by omega) (by rw [← e1, ← e2]; omega)
        refine ⟨by omega, ?_⟩
        unfold ix
        rw [hst.2.1, hst.2.2]
      have HM := Hid.mk2 (HWr.out.moved now' hn2 HST.out)
      have hnr : wr.cell? ⟨p, 1, none⟩ = some (.int .i64 now) := HWr.out.nowc
      have hfr := HWr.out.free 1
      have hpr : p < wr.heap.size := by omega
      have hTs : OwnT (wr.setCell ⟨p, 1, none⟩ (.int .i64 (now' : Int))) w.heap.size u7 T := hT.set (by omega) _
      have hapL := HW.out.apart
      have HSE := Hid.mk2 (settle_any (wr.setCell ⟨p, 1, none⟩ (.int .i64 (now' : Int))) p now' G b0 mb3 N T L (HLP.out.trans List.perm_append_comm) HM.out (((HLP.out.trans List.perm_append_comm).pairwise_iff (fun {_ _} hne => Ne.symm hne)).1 hapL) (fun q hq => by
        have hqL : q ∈ L := HLP.out.mem_iff.2 (List.mem_append.2 (.inl hq))
        obtain ⟨g1, g2, g3⟩ := HW.out.gb q hqL
        exact ⟨g1, by omega, g3⟩) w.heap.size u7 hTs (by omega) (by simp; omega) (by omega))
      clear hapL hTs
      go_wp2_with (go_at_call 62; refine HSE.out.mono ?_; rintro e w5 ⟨v5, rfl, hD5, mb5, hW5, hK5, hF5⟩)
      go_ret
      have hszs : (wr.setCell ⟨p, 1, none⟩ (.int .i64 (now' : Int))).heap.size = wr.heap.size := by simp
      have hdueL : (dueOf now' L).Perm (dueOf now' T) := by
        have h1 : (dueOf now' L).Perm (dueOf now' (T ++ G)) := HLP.out.filter _
        have h2 : dueOf now' (T ++ G) = dueOf now' T := by
          have hg : G.filter (fun q => decide (q.2 ≤ (now' : Int))) = [] := List.filter_eq_nil_iff.2 (fun q hq => by have := (HST.out q hq).1; simp; omega)
          unfold dueOf
          rw [List.filter_append, hg, List.append_nil]
        rw [h2] at h1
        exact h1
      have hrestL : (G ++ restOf now' T).Perm (restOf now' L) := by
        have h1 : (restOf now' L).Perm (restOf now' (T ++ G)) := HLP.out.filter _
        have h2 : restOf now' (T ++ G) = restOf now' T ++ G := by
          have hg : G.filter (fun q => decide ((now' : Int) < q.2)) = G := List.filter_eq_self.2 (fun q hq => by have := (HST.out q hq).1; simpa using this)
          unfold restOf
          rw [List.filter_append, hg]
        rw [h2] at h1
        exact (h1.trans List.perm_append_comm).symm
      have hK0 : Kept (Foot p b0 mb) w (wr.setCell ⟨p, 1, none⟩ (.int .i64 (now' : Int))) := by
        have h1 := HK.out.trans (Kept.grown (F := fun k => k = p ∨ w.heap.size ≤ k) (grown_set wr p 1 (.int .i64 (now' : Int))) (fun j hj => by cases hj; exact .inl (.inl rfl))) (fun j hj => .inl hj)
        exact ⟨h1.os, h1.tape, h1.output, h1.size, fun j hj hn => h1.block j hj (fun hf => by
          rcases hf with e | e
          · exact hn (.inl e)
          · omega)⟩
      refine ⟨_, rfl, dueOf now' T, hD5.down (by rw [hszs]; exact hszr), hdueL.symm, mb5, (hW5.perm hrestL hrestL).mono (by omega), hK0.trans hK5 (fun j hj => .inl (HFT.out j hj)), fun j hj => ?_⟩
      rcases hF5 j hj with g | g
      · exact .inl (HFT.out j g)
      · rw [hszs] at g
        exact .inr (by omega)
theorem turn_any (w : World) (p now : Nat) (L : List NU) (b0 : Nat) (mb : Nat → Option Nat) (N : Nat) (h : Wh w p now L L b0 mb N) (now' : Nat) (hn : now ≤ now') (hn2 : now' ≤ 1099511627776) (hN : N ≤ 1000000) :
    Calls Try.prog 39 #[.pointer (some ⟨p, 0, none⟩), .int .i64 now'] w fun e w' => ∃ v', e = .returned v' ∧ ∃ D, OwnT w' w.heap.size v' D ∧ D.Perm (dueOf now' L) ∧
      ∃ mb', Wh w' p now' (restOf now' L) (restOf now' L) b0 mb' (3 * N) ∧ Kept (Foot p b0 mb) w w' ∧ ∀ k, Foot p b0 mb' k → Foot p b0 mb k ∨ w.heap.size ≤ k := by
  have hlen := h.um.len
  refine (turn_len w p now L b0 mb N h now' hn hn2 hN).mono ?_
  rintro e w' ⟨v', h1, D, h2, h3, mb', h4, h5⟩
  exact ⟨v', h1, D, h2, h3, mb', h4.mono (by omega), h5⟩
end Go.Proofs.Ythcekkahkioibad
