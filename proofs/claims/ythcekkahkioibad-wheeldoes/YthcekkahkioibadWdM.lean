/-
  One call of both wheels: tick.
-/
import Derived.Test.YthcekkahkioibadWdL
namespace Go.Proofs.Ythcekkahkioibad
open Go.RowKit
set_option linter.unusedSimpArgs false
set_option linter.unusedVariables false
set_option maxRecDepth 100000

theorem NmAt.or {w : World} {base g : Nat} {ns : List Nm} (h : NmAt w base g ns) : NsOr w (some ⟨g, 0, none⟩) ns := .inr ⟨g, rfl, h.cells⟩
theorem OwnN.or {w : World} {base : Nat} {no : Option Addr} {nc : Nat} {ns : List Nm} (h : OwnN w base (.slice no ns.length nc) ns) : ns.length ≤ nc ∧ nc ≤ maxLen ∧ NsOr w no ns := by
  obtain ⟨ao, cap, e, h1, h2, h3, _⟩ := h.at
  cases e
  exact ⟨h1, h2, h3⟩
theorem tick_d {w : World} {p base now : Nat} {L : List NU} {b0 : Nat} {mb : Nat → Option Nat} {N : Nat} {ao : Option Addr} {D : List NU} {cap : Nat} (h : Sd w p base now L b0 mb N ao D cap) (hN : N ≤ 1000000) (t : Nat) (ht : now ≤ t) (ht2 : t ≤ 1099511627776) :
    Calls Try.prog 12 #[.pointer (some ⟨p, 0, none⟩), .int .i64 t] w fun e w' => ∃ g mb', e = .returned (.tuple #[.slice (some ⟨g, 0, none⟩) (dueN t D).length (dueN t D).length, .int .i64 0]) ∧ NmAt w' w.heap.size g (dueN t D) ∧ Wh w' p t (restOf t L) (restOf t L) b0 mb' (N + 2 * L.length) ∧ Kept (Foot p b0 mb) w w' ∧ (∀ k, Foot p b0 mb' k → Foot p b0 mb k ∨ w.heap.size ≤ k) ∧ ¬ Foot p b0 mb' g := by
  refine (tick_len w p now L b0 mb N h.wh hN t ht ht2).mono ?_
  rintro e w' ⟨g, S, rfl, hA, hP, hR, mb', hW, hK, hF, hg⟩
  obtain rfl := due_eq h.rise h.perm hP hR
  have e1 : (dueN t D).length = (dueOf t D).length := by unfold dueN; rw [List.length_map]
  rw [e1]
  exact ⟨g, mb', rfl, hA, hW, hK, hF, hg⟩
/-- names that may be written over -/
def Go2 (w : World) (g m : Nat) : Prop := ∀ j, j < m → (∃ v, w.cell? ⟨g, j, none⟩ = some v) ∧ w.frozen? ⟨g, j, none⟩ = false
theorem NmAt.go2 {w : World} {base g : Nat} {ns : List Nm} (h : NmAt w base g ns) : Go2 w g (ns.length * 2) := by
  intro j hj
  refine ⟨?_, h.free j⟩
  obtain ⟨c0, c1⟩ := h.cells (j / 2) (by omega)
  have : j % 2 = 0 ∨ j % 2 = 1 := by omega
  rcases this with e | e
  · exact ⟨_, by rw [show j = j / 2 * 2 by omega]; exact c0⟩
  · exact ⟨_, by rw [show j = j / 2 * 2 + 1 by omega]; exact c1⟩
theorem Go2.set {w : World} {g m : Nat} (h : Go2 w g m) (o : Nat) (v : Value) : Go2 (w.setCell ⟨g, o, none⟩ v) g m := by
  intro j hj
  refine ⟨?_, by simpa using (h j hj).2⟩
  obtain ⟨u, hu⟩ := (h j hj).1
  by_cases e : o = j
  · subst e
    exact ⟨v, World.cell?_setCell_same _ _ _ hu⟩
  · exact ⟨u, by rw [World.cell?_setCell_other _ _ _ _ (by simp <;> omega)]; exact hu⟩
theorem Kept.set {F : Nat → Prop} {a w : World} (h : Kept F a w) {g : Nat} (hg : F g) (o : Nat) (v : Value) : Kept F a (w.setCell ⟨g, o, none⟩ v) :=
  h.trans (F' := fun k => k = g) ⟨rfl, rfl, rfl, by simp, fun k hk hn => Below.heap_setCell w ⟨g, o, none⟩ v k hn⟩ (fun k hk => .inl (by rw [hk]; exact hg))
theorem one_tickBad (w : World) (p base now : Nat) (L : List NU) (b0 : Nat) (mb : Nat → Option Nat) (N : Nat) (ao : Option Addr) (D : List NU) (cap : Nat) (h : Sd w p base now L b0 mb N ao D cap) (hN : N ≤ 1000000) (hl : L.length ≤ 100000) (K : Nat) (hk : K % 5 = 4) (y : Nm) (u : Int) (hu : u < (now : Int) ∨ 1099511627776 < u) :
    Calls Try.prog 18 #[.pointer (some ⟨p, 0, none⟩), wv now ao D.length cap, .agg #[.int .u8 (K : Int), .int .i64 y.tenant, .string y.key, .int .i64 u]] w (OneP w p base L b0 mb N) := by
  have g2 : ((K : Int) % 5 == 2) = false := by simp; omega
  have g3 : ((K : Int) % 5 == 3) = false := by simp; omega
  have g4 : ((K : Int) % 5 == 4) = true := by simp; omega
  clear hk
  have hDl : D.length ≤ 100000 := by rw [h.perm.length_eq]; exact hl
  have HH := Hid.mk2 h
  clear h
  go_enter Try.func18, Try.ntmps18
  go_upto_region 2 with (fail)
  obtain ⟨w0, hw0⟩ : ∃ w0, w0 = ((w.alloc (Obj.cells #[.int .i64 now, .slice ao D.length cap] 45)).alloc (Obj.cells #[.int .u8 (K : Int), .int .i64 y.tenant, .string y.key, .int .i64 u] 49)).alloc (Obj.cells #[.int .i64 0, .slice none 0 0] 45) := ⟨_, rfl⟩
  rw [← hw0]
  have HX0 : Hid (Ox w w0 now ao D.length cap K y u) := by rw [hw0]; exact Ox.begin _ _ _ _ _ _ _ _
  have HB0 : Hid (Below w.heap.size w w0) := by rw [hw0]; exact (((Below.refl _ _).alloc (Nat.le_refl _) _).alloc (by simp) _).alloc (by simp; omega) _
  clear hw0
  have HS0 := Hid.mk2 (HH.out.below HB0.out)
  have hx0 : w.heap.size + 1 + 1 < w0.heap.size := HX0.out.facts.2.2.2.2.2.2.2.2.2.2
  obtain ⟨k0, k1, k2, k3, k4, k5, k6, k7, k8, k9, kA⟩ := HX0.out.facts
  have HC1 := Hid.mk2 (tick_bad w0 p now L b0 mb N HS0.out.wh u hu)
  have HC2 := Hid.mk2 (wtick_bad w0 now ao D.length cap u hu)
  clear hu
  go_upto_region 12 with (go_at_call 12; refine HC1.out.mono ?_; rintro e w1 ⟨rfl, hwq⟩; obtain rfl := hwq.symm)
  go_upto_region 13 with (go_at_call 44; refine HC2.out.mono ?_; rintro e w2 ⟨rfl, hb2⟩; have HB2 := Hid.mk2 hb2; clear hb2)
  obtain ⟨w3, hw3⟩ : ∃ x, x = w2.alloc (Obj.cells #[.int .i64 now, .slice ao D.length cap] 45) := ⟨_, rfl⟩
  rw [← hw3]
  have c0 : w3.cell? ⟨w2.heap.size, 0, none⟩ = some (.int .i64 now) := by rw [hw3]; simp
  have c1 : w3.cell? ⟨w2.heap.size, 1, none⟩ = some (.slice ao D.length cap) := by rw [hw3]; simp
  have y3 : w2.heap.size < w3.heap.size := by rw [hw3]; simp
  have HB3 : Hid (Below w0.heap.size w0 w3) := by rw [hw3]; exact HB2.out.alloc HB2.out.size _
  clear hw3
  have HSN := Hid.mk2 (sameNames_or w3 none none 0 0 [] (.inl rfl) (.inl rfl) (by simp) (by simp) (by simp) (by simp) (by simp))
  go_upto_region 14 with (go_at_call 22; refine HSN.out.mono ?_; rintro e w4 ⟨rfl, hn⟩; have HB4 : Hid (Below w3.heap.size w3 w4) := (by obtain ⟨n, rfl⟩ := hn; exact below_drewN (Below.refl _ _) n); clear hn)
  have d0 := (bcl HB4.out _ 0 y3).trans c0
  have d1 := (bcl HB4.out _ 1 y3).trans c1
  have HB04 : Hid (Below w0.heap.size w0 w4) := HB3.out.trans (HB4.out.mono HB3.out.size)
  have HX4 := Hid.mk2 (HX0.out.below HB04.out)
  clear k0 k1 k2 k3 k4 k5 k6 k7 k8 k9 kA; obtain ⟨k0, k1, k2, k3, k4, k5, k6, k7, k8, k9, kA⟩ := HX4.out.facts
  have z0 := set2_0 (a := .int .i64 now) (b := .slice ao D.length cap) k6
  have z1 := set2_1 (a := .int .i64 now) (b := .slice ao D.length cap) k7
  clear HC1 HC2 HSN c0 c1
  go_wp2
  go_loopw [21] (fun s21 wx => s21 = .int .i64 0 ∧ wx = w4) (fun _ _ => 0)
  case atStart => exact ⟨rfl, rfl⟩
  case round =>
    obtain ⟨rfl, rfl⟩ := hrel
    go_wp2
    try simp only [Exit.inBlock, Exit.then]
    refine bodyPost_ret (v := .tuple #[wv now ao D.length cap, .bool true]) (by simp [results, Try.results18, go_sem, z0, z1]) rfl ?_
    exact one_fin HH.out now _ mb ao D cap ((HS0.out.below HB04.out).mono (by omega)) HX4.out (by omega) ((Kept.below HB0.out).trans (Kept.below (F := Foot p b0 mb) HB04.out) (fun k hk => .inl hk)) (fun k hk => .inl hk) _ _
set_option maxHeartbeats 1000000 in
theorem one_tick (w : World) (p base now : Nat) (L : List NU) (b0 : Nat) (mb : Nat → Option Nat) (N : Nat) (ao : Option Addr) (D : List NU) (cap : Nat) (h : Sd w p base now L b0 mb N ao D cap) (hN : N ≤ 1000000) (hl : L.length ≤ 100000) (K : Nat) (hk : K % 5 = 4) (y : Nm) (t : Nat) (ht : now ≤ t) (ht2 : t ≤ 1099511627776) :
    Calls Try.prog 18 #[.pointer (some ⟨p, 0, none⟩), wv now ao D.length cap, .agg #[.int .u8 (K : Int), .int .i64 y.tenant, .string y.key, .int .i64 t]] w (OneP w p base L b0 mb N) := by
  have g2 : ((K : Int) % 5 == 2) = false := by simp; omega
  have g3 : ((K : Int) % 5 == 3) = false := by simp; omega
  have g4 : ((K : Int) % 5 == 4) = true := by simp; omega
  clear hk
  have hDl : D.length ≤ 100000 := by rw [h.perm.length_eq]; exact hl
  have HH := Hid.mk2 h
  clear h
  go_enter Try.func18, Try.ntmps18
  go_upto_region 2 with (fail)
  obtain ⟨w0, hw0⟩ : ∃ w0, w0 = ((w.alloc (Obj.cells #[.int .i64 now, .slice ao D.length cap] 45)).alloc (Obj.cells #[.int .u8 (K : Int), .int .i64 y.tenant, .string y.key, .int .i64 t] 49)).alloc (Obj.cells #[.int .i64 0, .slice none 0 0] 45) := ⟨_, rfl⟩
  rw [← hw0]
  have HX0 : Hid (Ox w w0 now ao D.length cap K y t) := by rw [hw0]; exact Ox.begin _ _ _ _ _ _ _ _
  have HB0 : Hid (Below w.heap.size w w0) := by rw [hw0]; exact (((Below.refl _ _).alloc (Nat.le_refl _) _).alloc (by simp) _).alloc (by simp; omega) _
  clear hw0
  have HS0 := Hid.mk2 (HH.out.below HB0.out)
  have hx0 : w.heap.size + 1 + 1 < w0.heap.size := HX0.out.facts.2.2.2.2.2.2.2.2.2.2
  obtain ⟨k0, k1, k2, k3, k4, k5, k6, k7, k8, k9, kA⟩ := HX0.out.facts
  have HC1 := Hid.mk2 (tick_d HS0.out hN t ht ht2)
  have HC2 := Hid.mk2 (fun W (hO : OwnE W base (.slice ao D.length cap) D) => wtick_good W now ao D cap hO.de' hDl t ht ht2)
  have hnl : (dueN t D).length ≤ 100000 := Nat.le_trans (dueN_le t D) hDl
  have HRP := Hid.mk2 (HH.out.perm.filter (fun q => decide ((t : Int) < q.2)))
  have HRR := Hid.mk2 (HH.out.rise.filter (fun q => decide ((t : Int) < q.2)))
  obtain ⟨ns, hns⟩ : ∃ ns, ns = dueN t D := ⟨_, rfl⟩
  obtain ⟨D2, hD2⟩ : ∃ D2, D2 = restOf t D := ⟨_, rfl⟩
  rw [← hns] at HC1 HC2 hnl
  rw [← hD2] at HC2
  have HDD := Hid.mk2 hD2
  clear ht ht2 hns hD2
  go_upto_region 12 with (go_at_call 12; refine HC1.out.mono ?_; rintro e w1 ⟨g, mb1, rfl, hA1, hW1, hK1, hF1, hg1⟩; have HX1 : Hid (Ox w w1 now ao D.length cap K y t) := HX0.out.step hK1 (fun j hj => .inl (HH.out.wh.lt hj)); clear k0 k1 k2 k3 k4 k5 k6 k7 k8 k9 kA; obtain ⟨k0, k1, k2, k3, k4, k5, k6, k7, k8, k9, kA⟩ := HX1.out.facts; have HW1 := Hid.mk2 hW1; have HK1 := Hid.mk2 hK1; have HF1 := Hid.mk2 hF1; have HA1 := Hid.mk2 hA1; have HG1 := Hid.mk2 hg1; clear hW1 hK1 hF1 hA1 hg1)
  have HO1 : Hid (OwnE w1 base (.slice ao D.length cap) D) := HS0.out.own.kept HK1.out (fun g hg => HS0.out.own.away HS0.out.wh HS0.out.pb g hg)
  go_upto_region 13 with (go_at_call 44; refine (HC2.out _ HO1.out).mono ?_; rintro e w2 ⟨ro, rc, no, nc, rfl, hO2, hN2, hb2⟩; have HB2 := Hid.mk2 hb2; have HO2 := Hid.mk2 hO2; have HN2 := Hid.mk2 hN2; clear hb2 hO2 hN2)
  obtain ⟨w3, hw3⟩ : ∃ x, x = w2.alloc (Obj.cells #[.int .i64 t, .slice ro D2.length rc] 45) := ⟨_, rfl⟩
  rw [← hw3]
  have c0 : w3.cell? ⟨w2.heap.size, 0, none⟩ = some (.int .i64 t) := by rw [hw3]; simp
  have c1 : w3.cell? ⟨w2.heap.size, 1, none⟩ = some (.slice ro D2.length rc) := by rw [hw3]; simp
  have y3 : w2.heap.size < w3.heap.size := by rw [hw3]; simp
  have HB3 : Hid (Below w1.heap.size w1 w3) := by rw [hw3]; exact HB2.out.alloc HB2.out.size _
  have HB23 : Hid (Below w2.heap.size w2 w3) := by rw [hw3]; exact (Below.refl _ _).alloc (Nat.le_refl _) _
  clear hw3
  have HNO := Hid.mk2 (HN2.out.below HB23.out).or
  have HSN := Hid.mk2 (sameNames_or w3 (some ⟨g, 0, none⟩) no ns.length nc ns (HA1.out.below HB3.out).or HNO.out.2.2 (by omega) (Nat.le_refl _) HNO.out.1 (by unfold maxLen; omega) HNO.out.2.1)
  go_upto_region 14 with (go_at_call 22; refine HSN.out.mono ?_; rintro e w4 ⟨rfl, hn⟩; have HB4 : Hid (Below w3.heap.size w3 w4) := (by obtain ⟨n, rfl⟩ := hn; exact below_drewN (Below.refl _ _) n); clear hn)
  have d0 := (bcl HB4.out _ 0 y3).trans c0
  have d1 := (bcl HB4.out _ 1 y3).trans c1
  have y4 := Nat.lt_of_lt_of_le y3 HB4.out.size
  have HB14 : Hid (Below w1.heap.size w1 w4) := HB3.out.trans (HB4.out.mono HB3.out.size)
  have HX4 := Hid.mk2 (HX1.out.below HB14.out)
  have HA4 := Hid.mk2 (HA1.out.below HB14.out)
  have HO4 : Hid (OwnE w4 w1.heap.size (.slice ro D2.length rc) D2) := (HO2.out.below HB23.out).below HB4.out
  have hgl : g < w1.heap.size := HA1.out.lt
  have hgg : w0.heap.size ≤ g := HA1.out.le
  have hx3 : w1.heap.size ≤ w2.heap.size := HB2.out.size
  have HS4 : Hid (Sd w4 p base t (restOf t L) b0 mb1 (N + 2 * L.length) ro D2 rc) := ⟨HW1.out.below HB14.out, HH.out.pb, Nat.le_trans HS0.out.bs (Nat.le_trans HK1.out.size HB14.out.size), HO4.out.down (Nat.le_trans HS0.out.bs HK1.out.size), by rw [HDD.out]; exact HRP.out, by rw [HDD.out]; exact HRR.out⟩
  clear HC1 HC2 HSN c0 c1 HN2 HNO HO1 k0 k1 k2 k3 k4 k5 k6 k7 k8 k9 kA
  go_wp2
  go_loopw [21] (fun s21 wx => ∃ i : Nat, i ≤ ns.length ∧ s21 = .int .i64 i ∧ Hid (Kept (fun k => k = g) w4 wx) ∧ Hid (Go2 wx g (ns.length * 2))) (fun s21 _ => ns.length - (intOf s21).toNat)
  case atStart => exact ⟨0, Nat.zero_le _, rfl, Kept.refl _ _, HA4.out.go2⟩
  case round =>
    obtain ⟨i, hi, rfl, HKr, HG2⟩ := hrel
    by_cases hlt : i < ns.length
    · have hlt2 : (i : Int) < (ns.length : Int) := by omega
      obtain ⟨⟨v0, e0⟩, f0⟩ := HG2.out (i * 2) (by omega)
      obtain ⟨⟨v1, e1⟩, f1⟩ := HG2.out (i * 2 + 1) (by omega)
      clear d0 d1
      go_wp2
      go_roundw
      case rel => exact ⟨i + 1, by omega, by go_num, (HKr.out.set rfl _ _).set rfl _ _, (HG2.out.set _ _).set _ _⟩
      case measure => simp [intOf]; omega
    · have hlt2 : ¬ (i : Int) < (ns.length : Int) := by omega
      have hbk := HKr.out.block w2.heap.size y4 (by omega)
      have d0' := (World.cell?_of_block (a := ⟨w2.heap.size, 0, none⟩) hbk).trans d0
      have d1' := (World.cell?_of_block (a := ⟨w2.heap.size, 1, none⟩) hbk).trans d1
      have HX5 : Hid (Ox w wr now ao D.length cap K y t) := HX4.out.step HKr.out (fun j hj => .inr (by omega))
      obtain ⟨k0, k1, k2, k3, k4, k5, k6, k7, k8, k9, kA⟩ := HX5.out.facts
      have z0 := set2_0 (a := .int .i64 t) (b := .slice ro D2.length rc) k6
      have z1 := set2_1 (a := .int .i64 t) (b := .slice ro D2.length rc) k7
      have HS5 : Hid (Sd wr p base t (restOf t L) b0 mb1 (N + 2 * L.length) ro D2 rc) := ⟨HS4.out.wh.kept HKr.out (fun k hk e => HG1.out (by rw [← e]; exact hk)), HS4.out.pb, Nat.le_trans HS4.out.bs HKr.out.size, HS4.out.own.kept HKr.out (fun b hb e => by have := (HO4.out.lt b hb).1; omega), HS4.out.perm, HS4.out.rise⟩
      clear d0 d1 hbk
      go_wp2
      try simp only [Exit.inBlock, Exit.then]
      refine bodyPost_ret (v := .tuple #[wv t ro D2.length rc, .bool true]) (by simp [results, Try.results18, go_sem, z0, z1]) rfl ?_
      exact one_fin HH.out t _ mb1 ro D2 rc (HS5.out.mono (by omega)) HX5.out (Nat.le_trans (rest_le _ _) (by omega)) ((((Kept.below HB0.out).trans HK1.out (fun k hk => .inl hk)).trans (Kept.below (F := Foot p b0 mb) HB14.out) (fun k hk => .inl hk)).trans HKr.out (fun k hk => .inr (by have := HB0.out.size; omega))) (fun k hk => (HF1.out k hk).imp id (fun g => by omega)) _ _
end Go.Proofs.Ythcekkahkioibad
