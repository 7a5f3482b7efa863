/-
  TableDoes is true: a table does, and tells, what the document says, call by call, and never moves more than four names; no conditions.
-/
import Derived.Test.YtlomciinkpecpaaTdIn
namespace Go.Proofs.Ytlomciinkpecpaa
open Go.ChangeShapes Go.WideShapes Go.ChangeAt Go.RowKit
open Go.ChangeMaps (open_string shut_string)
set_option linter.unusedSimpArgs false
set_option linter.unusedVariables false
set_option maxRecDepth 100000

theorem all_u (w : World) (b0 p : Nat) (D T : List NU) (ro : Option Addr) (rc : Nat) (K : Nat → Prop) (h : Dt w b0 p D T ro rc K) (hl : D.length ≤ 1000) :
    Calls Try.prog 11 #[.pointer (some ⟨p, 0, none⟩)] w fun e w' => ∃ ao cap, e = .returned (.tuple #[.slice ao D.length cap, .int .i64 0]) ∧ NsAt w' ao (D.map Prod.fst) ∧ NsF w' ao D.length ∧ D.length ≤ cap ∧ cap ≤ maxLen ∧ (∀ b, ao = some b → w.heap.size ≤ b.block) ∧ Below w.heap.size w w' := by
  have hle := h.perm.length_eq
  obtain ⟨m, F, hm, h1, h2⟩ := h.tab
  refine (all_ok2 w b0 p T m 1000 F h1 (by omega) (by omega)).mono ?_
  rintro e w' ⟨ao, cap, S, rfl, hA, hF⟩
  have hS : S = D.map Prod.fst := rise_unique (hA.perm.trans (h.perm.map _).symm) hA.rise (List.pairwise_map.2 h.rise)
  have h3 := hA.le
  have h4 := hA.len
  have h5 := hA.at_
  rw [hS] at h5
  exact ⟨ao, cap, by rw [hle], h5, by rw [hle]; exact hF, by omega, hA.cap, hA.new, hA.bel⟩
theorem same_u (w : World) (ao bo : Option Addr) (ac bc : Nat) (D : List NU) (h : NsAt w ao (D.map Prod.fst)) (h' : NsAt w bo (D.map Prod.fst)) (hm : D.length ≤ 1000) (hac : D.length ≤ ac) (hbc : D.length ≤ bc) (hac2 : ac ≤ maxLen) (hbc2 : bc ≤ maxLen) :
    Calls Try.prog 16 #[.slice ao D.length ac, .slice bo D.length bc] w fun e w' => e = .returned (.bool true) ∧ Below w.heap.size w w' := by
  have e : (D.map Prod.fst).length = D.length := by simp
  have := sameNames_or w ao bo ac bc (D.map Prod.fst) h h' (by rw [e]; omega) (by rw [e]; exact hac) (by rw [e]; exact hbc) hac2 hbc2
  rw [e] at this
  refine this.mono ?_
  rintro e w' ⟨rfl, n, rfl⟩
  exact ⟨rfl, below_drewN (Below.refl _ _) n⟩
/-- the cells of an answer may be written to -/
def Pk (w : World) (ao : Option Addr) (n : Nat) : Prop := n = 0 ∨ ∃ b, ao = some ⟨b, 0, none⟩ ∧ b < w.heap.size ∧ ∀ i, i < n → (∃ u, w.cell? ⟨b, i * 2, none⟩ = some u) ∧ (∃ u, w.cell? ⟨b, i * 2 + 1, none⟩ = some u) ∧ w.frozen? ⟨b, i * 2, none⟩ = false ∧ w.frozen? ⟨b, i * 2 + 1, none⟩ = false
theorem Pk.of {w : World} {ao : Option Addr} {ns : List Nm} {n : Nat} (hn : ns.length = n) (h : NsAt w ao ns) (hf : NsF w ao n) : Pk w ao n := by
  rcases h with rfl | ⟨b, rfl, hb, hc⟩
  · exact .inl (by rw [← hn]; rfl)
  · rcases hf with h0 | ⟨b', e, hf⟩
    · exact .inl h0
    · cases e
      exact .inr ⟨b, rfl, hb, fun i hi => ⟨⟨_, (hc i (by omega)).1⟩, ⟨_, (hc i (by omega)).2⟩, (hf i hi).1, (hf i hi).2⟩⟩
theorem Pk.below {w w' : World} {ao : Option Addr} {n : Nat} (h : Pk w ao n) (hb : Below w.heap.size w w') : Pk w' ao n := by
  rcases h with h0 | ⟨b, rfl, hlt, hc⟩
  · exact .inl h0
  · refine .inr ⟨b, rfl, Nat.lt_of_lt_of_le hlt hb.size, fun i hi => ?_⟩
    obtain ⟨⟨u, h1⟩, ⟨u2, h2⟩, h3, h4⟩ := hc i hi
    exact ⟨⟨u, (bcl hb _ _ hlt).trans h1⟩, ⟨u2, (bcl hb _ _ hlt).trans h2⟩, (bfr hb _ _ hlt).trans h3, (bfr hb _ _ hlt).trans h4⟩
theorem cell_set {w : World} {b o o' : Nat} {v u : Value} (h : w.cell? ⟨b, o', none⟩ = some u) : ∃ u', (w.setCell ⟨b, o, none⟩ v).cell? ⟨b, o', none⟩ = some u' := by
  by_cases e : o' = o
  · subst e
    exact ⟨v, World.cell?_setCell_same _ _ _ h⟩
  · refine ⟨u, ?_⟩
    rw [World.cell?_setCell_other _ _ _ _ (by first | (simp [e]; done) | (intro h2; simp at h2; omega))]
    exact h
theorem Pk.set {w : World} {b n o : Nat} {v : Value} (h : Pk w (some ⟨b, 0, none⟩) n) : Pk (w.setCell ⟨b, o, none⟩ v) (some ⟨b, 0, none⟩) n := by
  rcases h with h0 | ⟨b', e, hlt, hc⟩
  · exact .inl h0
  · cases e
    refine .inr ⟨b, rfl, by simpa using hlt, fun i hi => ?_⟩
    obtain ⟨⟨u, h1⟩, ⟨u2, h2⟩, h3, h4⟩ := hc i hi
    exact ⟨cell_set h1, cell_set h2, by simpa using h3, by simpa using h4⟩
theorem Dt.set {w : World} {b0 p : Nat} {D T : List NU} {ro : Option Addr} {rc : Nat} {K : Nat → Prop} (h : Dt w b0 p D T ro rc K) {X : Nat} (hX : K X) (hne : ∀ g, (Value.slice ro D.length rc).ownBlock = some g → g ≠ X) (o : Nat) (v : Value) : Dt (w.setCell ⟨X, o, none⟩ v) b0 p D T ro rc K :=
  ⟨h.own.same (fun g hg => Below.heap_setCell _ ⟨X, o, none⟩ v g (hne g hg)), h.tab.set (.inr hX) o v, h.rise, h.perm, by simpa using h.base⟩
theorem Dt.more {w w' : World} {b0 p : Nat} {D T : List NU} {ro : Option Addr} {rc : Nat} {K K' : Nat → Prop} (h : Dt w b0 p D T ro rc K) (hb : Below w.heap.size w w') (hK : ∀ k, K' k → (K k ∨ w.heap.size ≤ k) ∧ k < w'.heap.size) : Dt w' b0 p D T ro rc K' :=
  ⟨h.own.below hb, h.tab.move hb (fun k hk => by
    rcases hk with hk | hk
    · exact ⟨.inl (.inl hk), Nat.lt_of_lt_of_le (h.own.lt k hk).2 hb.size⟩
    · exact ⟨(hK k hk).1.imp .inr id, (hK k hk).2⟩), h.rise, h.perm, Nat.le_trans h.base hb.size⟩
set_option maxHeartbeats 2000000 in
theorem tableDoes_good (w : World) (ao : Option Addr) (cap : Nat) (X : List Dq) (hX : QAt w ao X) (hcap : X.length ≤ cap) (h3 : X.length ≤ 400) :
    Calls Try.prog 4 #[.slice ao X.length cap] w fun e w' => e = .returned (.bool true) ∧ Below w.heap.size w w' := by
  have h400 : decide ((400 : Int) < X.length) = false := by simp; omega
  have h400n : ¬ 400 < X.length := by omega
  have HX := Hid.mk2 hX
  clear hX
  have HC1 := Hid.mk2 (new_x w 1000)
  go_enter Try.func4, Try.ntmps4
  go_upto_region 5 with (go_at_call 8; refine HC1.out.mono ?_; rintro e w1 ⟨p, rfl, hT1, hb1⟩; have HB1 := Hid.mk2 hb1; have HT1 := Hid.mk2 hT1; clear hb1 hT1)
  obtain ⟨w3, hw3⟩ : ∃ x, x = w1.alloc (Obj.cells #[.slice none 0 0] 46) := ⟨_, rfl⟩
  obtain ⟨R, hR⟩ : ∃ x, x = w1.heap.size := ⟨_, rfl⟩
  rw [← hw3, ← hR]
  have c0 : w3.cell? ⟨R, 0, none⟩ = some (.slice none 0 0) := by rw [hw3, hR]; simp
  have f0 : w3.frozen? ⟨R, 0, none⟩ = false := by rw [hw3, hR]; simp
  have hs3 : w3.heap.size = R + 1 := by rw [hw3, hR]; simp
  have HB13 : Hid (Below w1.heap.size w1 w3) := by rw [hw3]; exact (Below.refl _ _).alloc (Nat.le_refl _) _
  have hwR : w.heap.size ≤ R := by rw [hR]; exact HB1.out.size
  have HS3 : Hid (Dt w3 w.heap.size p [] [] none 0 (fun k => k = R)) := ⟨OwnE.nil _ _, HT1.out.toY HB13.out (fun k hk => by
    rcases hk with hk | hk
    · cases hk
    · rw [hk]; exact ⟨by omega, by omega⟩), List.Pairwise.nil, List.Perm.nil, by omega⟩
  have HBW3 : Hid (Below w.heap.size w w3) := HB1.out.trans (HB13.out.mono HB1.out.size)
  clear hw3 hR HC1 HB13 HB1 HT1
  go_wp2
  go_loopw [5] (fun s5 wr => ∃ (i : Nat) (D T : List NU) (ro : Option Addr) (rc : Nat), i ≤ X.length ∧ s5 = .int .i64 i ∧ Hid (Dt wr w.heap.size p D T ro rc (fun k => k = R)) ∧ wr.cell? ⟨R, 0, none⟩ = some (.slice ro D.length rc) ∧ wr.frozen? ⟨R, 0, none⟩ = false ∧ R < wr.heap.size ∧ D.length ≤ i ∧ Hid (∀ g, (Value.slice ro D.length rc).ownBlock = some g → g ≠ R) ∧ Hid (Below w.heap.size w wr)) (fun s5 _ => X.length - (intOf s5).toNat)
  case atStart => exact ⟨0, [], [], none, 0, Nat.zero_le _, rfl, HS3, c0, f0, by omega, by simp, (fun g hg => by cases hg), HBW3⟩
  case round =>
    obtain ⟨i, D, T, ro, rc, hi, rfl, HS, r0, g0, hRr, hL, HF, HBr⟩ := hrel
    clear c0 f0 hs3
    by_cases hlt : i < X.length
    · have hlt2 : (i : Int) < (X.length : Int) := by omega
      rcases HX.out.below HBr.out with h0 | ⟨b, off, rfl, hbb, hcs⟩
      · rw [h0] at hlt; simp at hlt
      obtain ⟨q0, q1, q2, q3⟩ := hcs i hlt
      obtain ⟨q, hq⟩ : ∃ q, q = X[i] := ⟨_, rfl⟩
      rw [← hq] at q0 q1 q2 q3
      clear hq hcs
      go_upto_region 9 with (fail)
      obtain ⟨w5, hw5⟩ : ∃ x, x = wr.alloc (Obj.cells #[.int .u8 (q.k : Int), .int .i64 q.y.tenant, .string q.y.key, .int .i64 q.u] 48) := ⟨_, rfl⟩
      obtain ⟨Q, hQ⟩ : ∃ x, x = wr.heap.size := ⟨_, rfl⟩
      rw [← hw5, ← hQ]
      have a0 : w5.cell? ⟨Q, 0, none⟩ = some (.int .u8 (q.k : Int)) := by rw [hw5, hQ]; simp
      have a1 : w5.cell? ⟨Q, 1, none⟩ = some (.int .i64 q.y.tenant) := by rw [hw5, hQ]; simp
      have a2 : w5.cell? ⟨Q, 2, none⟩ = some (.string q.y.key) := by rw [hw5, hQ]; simp
      have a3 : w5.cell? ⟨Q, 3, none⟩ = some (.int .i64 q.u) := by rw [hw5, hQ]; simp
      have HB5 : Hid (Below wr.heap.size wr w5) := by rw [hw5]; exact (Below.refl _ _).alloc (Nat.le_refl _) _
      clear hw5 hQ q0 q1 q2 q3
      have s0 := (bcl HB5.out _ 0 hRr).trans r0
      have t0 := (bfr HB5.out _ 0 hRr).trans g0
      have HS5 := Hid.mk2 (HS.out.below HB5.out)
      have HBW5 : Hid (Below w.heap.size w w5) := HBr.out.trans (HB5.out.mono HBr.out.size)
      have hRr5 : R < w5.heap.size := Nat.lt_of_lt_of_le hRr HB5.out.size
      clear r0 g0
      by_cases hkey : 10000 < (q.y.key.size : Int)
      · have hkey2 : decide (10000 < (q.y.key.size : Int)) = true := by simp; omega
        have hkey3 : 10000 < q.y.key.size := by omega
        go_wp2
        go_ret
        exact ⟨rfl, HBW5.out⟩
      · have hkey2 : decide (10000 < (q.y.key.size : Int)) = false := by simp; omega
        have hkey3 : ¬ 10000 < q.y.key.size := by omega
        have HON := Hid.mk2 (one_any w5 w.heap.size p D T ro rc _ HS5.out (by omega) q.k q.lt q.y q.u)
        go_upto_region 13 with (go_at_call 17; refine HON.out.mono ?_; rintro e w6 ⟨ro2, rc2, D2, T2, rfl, hS2, hlen2, hb2, hK2, hv2⟩; have hbk := hK2 R rfl; have v0 := (World.cell?_of_block (a := ⟨R, 0, none⟩) hbk).trans s0; have x0 := (World.frozen?_of_block (a := ⟨R, 0, none⟩) hbk).trans t0; have HS2 := Hid.mk2 hS2; have HB2 := Hid.mk2 hb2; have HV2 := Hid.mk2 hv2; clear hS2 hb2 hK2 hv2 hbk)
        obtain ⟨w7, hw7⟩ : ∃ x, x = w6.setCell ⟨R, 0, none⟩ (.slice ro2 D2.length rc2) := ⟨_, rfl⟩
        rw [← hw7]
        have HF2 : Hid (∀ g, (Value.slice ro2 D2.length rc2).ownBlock = some g → g ≠ R) := fun g hg => by
          rcases HV2.out g hg with h1 | h1
          · exact HF.out g h1
          · omega
        have HS7 : Hid (Dt w7 w.heap.size p D2 T2 ro2 rc2 (fun k => k = R)) := by rw [hw7]; exact HS2.out.set rfl HF2.out 0 _
        have HB7 : Hid (Below w.heap.size w w7) := by rw [hw7]; exact (HBW5.out.trans HB2.out).setCell (by show w.heap.size ≤ R; omega) _
        have z0 : w7.cell? ⟨R, 0, none⟩ = some (.slice ro2 D2.length rc2) := by rw [hw7]; exact World.cell?_setCell_same _ _ _ v0
        have y0 : w7.frozen? ⟨R, 0, none⟩ = false := by rw [hw7]; simpa using x0
        have hR7 : R < w7.heap.size := by rw [hw7]; have := HB2.out.size; simp; omega
        have HLN := Hid.mk2 (len_x w7 w.heap.size p T2 1000 HS7.out.tab.x)
        rw [← HS2.out.perm.length_eq] at HLN
        have HMV := Hid.mk2 (moved_x w7 w.heap.size p T2 1000 HS7.out.tab.x)
        clear hw7 v0 x0 s0 t0 a0 a1 a2 a3 HON HS2 HV2
        go_upto_region 15 with (first
          | (go_at_call 14; refine HLN.out.mono ?_; rintro e w8 ⟨rfl, hwq⟩; obtain rfl := hwq.symm)
          | (go_at_call 15; refine HMV.out.mono ?_; rintro e w8 ⟨m, hm, rfl, hwq⟩; obtain rfl := hwq.symm))
        have hm1 : ¬ (m : Int) < 0 := by omega
        have hm2 : ¬ (4 : Int) < (m : Int) := by omega
        have hm3 : decide ((m : Int) < 0) = false := by simp
        have hm4 : decide ((4 : Int) < (m : Int)) = false := by simp; omega
        go_wp2
        go_roundw
        case rel => exact ⟨i + 1, D2, T2, ro2, rc2, by omega, by go_num, HS7, z0, y0, hR7, by omega, HF2, HB7⟩
        case measure => simp [intOf]; omega
    · have hlt2 : decide ((i : Int) < (X.length : Int)) = false := by simp; omega
      have hlt3 : ¬ i < X.length := hlt
      have HA1 := Hid.mk2 (all_u wr w.heap.size p D T ro rc _ HS.out (by omega))
      have hDl : D.length ≤ 400 := by omega
      go_upto_region 18 with (go_at_call 11; refine HA1.out.mono ?_; rintro e w4 ⟨lo, lc, rfl, hN4, hF4, hlc, hlm, hnew, hb4⟩; have HN4 := Hid.mk2 hN4; have HPK4 := Hid.mk2 (Pk.of (by simp) hN4 hF4); have HNW := Hid.mk2 hnew; have HB4 := Hid.mk2 hb4; have HLM := Hid.mk2 hlm; clear hN4 hF4 hnew hb4 hlm)
      have r4 := (bcl HB4.out _ 0 hRr).trans r0
      have HRA := Hid.mk2 (fun W (hb : Below wr.heap.size wr W) => rall_any W ro D rc ((HS.out.own.below hb).de') (by omega))
      have HSN := Hid.mk2 (fun W (hb : Below w4.heap.size w4 W) bo bc (hN : NsAt W bo (D.map Prod.fst)) (h1 : D.length ≤ bc) (h2 : bc ≤ maxLen) => same_u W lo bo lc bc D (HN4.out.below hb) hN (by omega) hlc h1 HLM.out h2)
      clear r0 HA1
      go_upto_region 20 with (first
        | (go_at_call 18; refine (HRA.out _ HB4.out).mono ?_; rintro e w5 ⟨bo, bc, rfl, hN5, hbc, hbm, hb5⟩; have HN5 := Hid.mk2 hN5; have HBM := Hid.mk2 hbm; have HB5 := Hid.mk2 hb5; clear hN5 hb5 hbm)
        | (go_at_call 16; refine (HSN.out _ HB5.out _ _ HN5.out hbc HBM.out).mono ?_; rintro e w6 ⟨rfl, hb6⟩; have HB6 := Hid.mk2 hb6; clear hb6))
      have HB46 : Hid (Below w4.heap.size w4 w6) := HB5.out.trans (HB6.out.mono HB5.out.size)
      have HBr6 : Hid (Below wr.heap.size wr w6) := HB4.out.trans (HB46.out.mono HB4.out.size)
      have HS6 : Hid (Dt w6 w.heap.size p D T ro rc (fun k => k = R ∨ (D.length ≠ 0 ∧ Ko lo k))) := HS.out.more HBr6.out (fun k hk => by
        rcases hk with rfl | ⟨hk0, hk⟩
        · exact ⟨.inl rfl, Nat.lt_of_lt_of_le hRr HBr6.out.size⟩
        · refine ⟨.inr (HNW.out _ hk), ?_⟩
          rcases HPK4.out.below HB46.out with h0 | ⟨b, e, hlt, _⟩
          · exact absurd h0 hk0
          · unfold Ko at hk
            rw [hk] at e
            cases e
            exact hlt)
      have r6 := (bcl HBr6.out _ 0 hRr).trans ((bcl HB4.out _ 0 hRr).symm.trans r4)
      have HP6 := Hid.mk2 (HPK4.out.below HB46.out)
      have HBW6 : Hid (Below w.heap.size w w6) := HBr.out.trans (HBr6.out.mono HBr.out.size)
      have HNE : Hid (∀ b o, lo = some ⟨b, o, none⟩ → (∀ g, (Value.slice ro D.length rc).ownBlock = some g → g ≠ b) ∧ R ≠ b ∧ w.heap.size ≤ b) := fun b o e => by
        have h1 : wr.heap.size ≤ b := HNW.out _ e
        exact ⟨fun g hg => by have := (HS.out.own.lt g hg).2; omega, by omega, by have := HBr.out.size; omega⟩
      have hR6 : R < w6.heap.size := Nat.lt_of_lt_of_le hRr HBr6.out.size
      clear r4 HRA HSN HN4 HN5 HBM HB5 HB6 HB46 HPK4 HBr6 HB4 HNW HS HBr hRr HF HS3 HBW3 HX hlt hlt2 hlt3
      go_wp2
      go_loopw [14] (fun s14 wz => ∃ j : Nat, j ≤ D.length ∧ s14 = .int .i64 j ∧ Hid (Dt wz w.heap.size p D T ro rc (fun k => k = R ∨ (D.length ≠ 0 ∧ Ko lo k))) ∧ wz.cell? ⟨R, 0, none⟩ = some (.slice ro D.length rc) ∧ R < wz.heap.size ∧ Hid (Pk wz lo D.length) ∧ Hid (Below w.heap.size w wz)) (fun s14 _ => D.length - (intOf s14).toNat)
      case atStart => exact ⟨0, Nat.zero_le _, rfl, HS6, r6, hR6, HP6, HBW6⟩
      case round =>
        obtain ⟨j, hj, rfl, HSz, rz, hRz, HPz, HBz⟩ := hrel
        clear r6 hR6
        by_cases hlt : j < D.length
        · have hlt2 : (j : Int) < (D.length : Int) := by omega
          rcases HPz.out with h0 | ⟨b, rfl, hbz, hcs⟩
          · omega
          obtain ⟨⟨u1, c1⟩, ⟨u2, c2⟩, f1, f2⟩ := hcs j hlt
          obtain ⟨hn1, hn2, hn3⟩ := HNE.out b 0 rfl
          have HN1 := Hid.mk2 hn1
          clear hcs hn1
          go_wp2
          go_roundw
          case rel =>
            refine ⟨j + 1, by omega, by go_num, (HSz.out.set (.inr ⟨by omega, rfl⟩) HN1.out _ _).set (.inr ⟨by omega, rfl⟩) HN1.out _ _, ?_, by simpa using hRz, Pk.set (Pk.set HPz.out), (HBz.out.setCell (by show w.heap.size ≤ b; omega) _).setCell (by show w.heap.size ≤ b; omega) _⟩
            rw [World.cell?_setCell_other _ _ _ _ (by first | (intro e; simp at e; done) | (intro e; simp at e; omega)), World.cell?_setCell_other _ _ _ _ (by first | (intro e; simp at e; done) | (intro e; simp at e; omega))]
            exact rz
          case measure => simp [intOf]; omega
        · have hlt2 : decide ((j : Int) < (D.length : Int)) = false := by simp; omega
          have hlt3 : ¬ j < D.length := hlt
          have HA1 := Hid.mk2 (all_u wr w.heap.size p D T ro rc _ HSz.out (by omega))
          go_upto_region 25 with (go_at_call 11; refine HA1.out.mono ?_; rintro e w7 ⟨ko, kc, rfl, hN7, hF7, hkc, hkm, hnew7, hb7⟩; have HN7 := Hid.mk2 hN7; have HB7 := Hid.mk2 hb7; have HKM := Hid.mk2 hkm; clear hN7 hF7 hnew7 hb7 hkm)
          have r7 := (bcl HB7.out _ 0 hRz).trans rz
          have HRA := Hid.mk2 (fun W (hb : Below wr.heap.size wr W) => rall_any W ro D rc ((HSz.out.own.below hb).de') (by omega))
          have HSN := Hid.mk2 (fun W (hb : Below w7.heap.size w7 W) bo bc (hN : NsAt W bo (D.map Prod.fst)) (h1 : D.length ≤ bc) (h2 : bc ≤ maxLen) => same_u W ko bo kc bc D (HN7.out.below hb) hN (by omega) hkc h1 HKM.out h2)
          clear rz HA1
          go_wp2_with (first
            | (go_at_call 18; refine (HRA.out _ HB7.out).mono ?_; rintro e w8 ⟨bo8, bc8, rfl, hN8, hbc8, hbm8, hb8⟩; have HN8 := Hid.mk2 hN8; have HBM8 := Hid.mk2 hbm8; have HB8 := Hid.mk2 hb8; clear hN8 hb8 hbm8)
            | (go_at_call 16; refine (HSN.out _ HB8.out _ _ HN8.out hbc8 HBM8.out).mono ?_; rintro e w9 ⟨rfl, hb9⟩; have HB9 := Hid.mk2 hb9; clear hb9))
          go_ret
          exact ⟨rfl, ((HBz.out.trans (HB7.out.mono HBz.out.size)).trans (HB8.out.mono (Nat.le_trans HBz.out.size HB7.out.size))).trans (HB9.out.mono (Nat.le_trans (Nat.le_trans HBz.out.size HB7.out.size) HB8.out.size))⟩
theorem tableDoes_walk (w : World) (ao : Option Addr) (len cap : Nat) (X : List Dq) (hX : InDos w ao len cap X) :
    Calls Try.prog 4 #[.slice ao len cap] w fun e w' => e = .returned (.bool true) ∧ Below w.heap.size w w' := by
  obtain ⟨rfl, hcap, hm, hQ⟩ := hX
  by_cases hmany : 400 < X.length
  · have h1 : decide ((400 : Int) < X.length) = true := by simp; omega
    clear hQ
    go_enter Try.func4, Try.ntmps4
    go_wp2
    go_ret
    exact ⟨rfl, Below.refl _ _⟩
  · exact tableDoes_good w ao cap X hQ hcap (by omega)


set_option maxRecDepth 100000 in
theorem tableDoes_lifted (os : Os) (started : os.Started) (H : Type) (enc : TypeId × Value → H) :
    ReturnsInHanded {} Try.checked os 4 .any (Rows.tableDoesSpec.pre6 enc Try.prog Try.f4 Rows.tableDoesRow.domain false) (Rows.tableDoesSpec.post enc Try.prog Try.f4 false true false false) := by
  refine returnsInHanded_of_change (C := Try.checked) (by kernel_rfl) started (by kernel_rfl) Try.func4
    (ChangeSpec.witness6 (enc := enc) (C := Try.checked) false ⟨#[], #[.slice none 0 0], []⟩ 8 (by kernel_rfl) (by kernel_rfl) (by kernel_rfl) (by kernel_rfl)) ?_
  intro W base args ds gs before hval0 hW hcnd _
  have hval : ∀ (j : Nat) t v, Try.f4.params[j]? = some t → args[j]? = some v → Value.okWide Try.prog W .any base t v := hval0
  have hW' := hW
  obtain ⟨p, q, hA0, hV, rfl, hfz, hnd⟩ := hW
  have hA : DataW.TrodAll enc Try.prog W 0 (fun _ => true) true Try.f4.params.toList args.toList ds p := hA0
  rw [Try.params4] at hA hval
  obtain ⟨v0, vs0, d0, ds0, p0, q0, hargs, rfl, rfl, h0, r0⟩ := trodAll_cons hA
  obtain ⟨rfl, rfl, rfl⟩ := trodAll_nil r0
  obtain rfl : args = #[v0] := by cases args; simp_all
  obtain ⟨rfl, rfl⟩ := trodVars_none hV
  have k0 := h0
  have lt0 : ∀ x ∈ p0, x.block < W.heap.size := by obtain ⟨m, hm⟩ := k0; exact DataW.trod_lt m _ _ _ hm
  obtain ⟨a0, len0, cap0, rfl⟩ := okWide_slice Try.underlying43 (hval 0 43 v0 rfl rfl)
  obtain ⟨l0, w0⟩ := inDos_of (fun _ => rfl) h0
  clear hA0 hval0
  refine (tableDoes_walk W a0 len0 cap0 l0 w0).mono fun e W' ⟨he, bel⟩ => ?_
  subst he
  exact ⟨_, rfl, _, _, _, [], _, [], hW', trodAll_mk1 (shut_bool Try.underlying4 _), (trodAll_cons_mk (Below.trod laidOut_all (by kernel_rfl) (of_decide_eq_true (by kernel_rfl)) k0 bel lt0) trodAll_mk0), rfl, bel.frame _, fun h => by cases h⟩

theorem tableDoes_proved : Rows.TableDoesSaid :=
  OpenClaim.holds_of_wide 4 Try.f4 rfl rfl rfl rfl rfl rfl rfl ⟨rfl, rfl, rfl, rfl, rfl⟩ rfl rfl rfl rfl rfl (by kernel_rfl) Try.func4 (by kernel_rfl)
    (of_decide_eq_true (by kernel_rfl)) (by unfold Func.isWrapper; first | (rw [if_pos (by decide +kernel)]; kernel_rfl) | (rw [if_neg (by decide +kernel)]; exact ⟨rfl, rfl⟩))
    (fun os started H enc _ => tableDoes_lifted os started H enc)
#print axioms tableDoes_proved
end Go.Proofs.Ytlomciinkpecpaa
