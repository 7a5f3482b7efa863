/-
  DiskParts is true for every disk, writes and place to part them: some of the writes, and then those that are left, come to all; no condition.
-/
import Derived.Test.YthdfomcikdjkpacDkSl
import Derived.Test.YthdfomcikdjkpacDkAlive
import Derived.Test.YthdfomcikdjkpacDkHeavy
import Derived.Test.YthdfomcikdjkpacDkRows
namespace Go.Proofs.Ythdfomcikdjkpac
open Go.ChangeShapes Go.WideShapes Go.ChangeAt Go.RowKit
open Go.ChangeMaps (open_string shut_string)
set_option linter.unusedSimpArgs false
set_option linter.unusedVariables false
set_option maxRecDepth 100000

set_option maxHeartbeats 1000000 in
theorem diskParts_walk (w : World) (a0 : Option Addr) (len0 cap0 : Nat) (d : List UInt8) (hi0 : InBytes w a0 len0 cap0 d) (a1 : Option Addr) (len1 cap1 : Nat) (ps : List Pt) (hi1 : InPuts w a1 len1 cap1 ps) (m : Int) (wm : (Lit.int .i64 m).wf = true) :
    Calls Try.prog 3 #[.agg #[.slice a0 len0 cap0], .slice a1 len1 cap1, .int .i64 m] w fun e w' => e = .returned (.bool true) ∧ Below w.heap.size w w' := by
  obtain ⟨rfl, h01, h02, h03, h04⟩ := hi0
  obtain ⟨rfl, h11, h12, h13, h14, h15⟩ := hi1
  have HD : Hid (Sl w a0 d cap0) := ⟨h01, h02, h03, h04⟩
  have HP : Hid (Pl w a1 ps cap1) := ⟨h11, h12, h13, h14⟩
  have HROOM : Hid (∀ p ∈ ps, p.data.length ≤ 140737488355328) := fun p hp => Nat.le_trans (h15 p hp) (by decide)
  have hpm : ps.length ≤ 9223372036854775807 := Nat.le_trans h11 h12
  clear h01 h02 h03 h04 h11 h12 h13 h14 h15
  have hal := fun W => dalive_any W
  have hlg := fun W => large_any a0 d.length cap0 W
  by_cases g0 : (300000 : Int) < (d.length : Int)
  · go_enter Try.func3, Try.ntmps3
    go_wp2_with (first
      | (go_at_call 4; refine (hal _).mono ?_; rintro e w1 ⟨rfl, hb1⟩; have c1 : w1.cell? ⟨w.heap.size, 0, none⟩ = some (.slice a0 d.length cap0) := (by rw [below_cells hb1 _ _ (by simp)]; simp); have hs1 := hb1.size; simp at hs1; have hb01 := below_alloc hb1)
      | (go_at_call 5; refine (hlg _).mono ?_; rintro e w2 ⟨rfl, hb2⟩))
    go_ret
    exact ⟨rfl, hb01.trans (hb2.mono hb01.size)⟩
  · have g1 : decide ((300000 : Int) < (d.length : Int)) = false := by simp; omega
    have hDl : ∀ W, Below w.heap.size w W → Sl W a0 d cap0 := fun W h => HD.out.below h
    have hPl : ∀ W, Below w.heap.size w W → Pl W a1 ps cap1 := fun W h => HP.out.below h
    have hhv : ∀ W, Below w.heap.size w W → Calls Try.prog 6 #[.slice a1 ps.length cap1] W fun e w' => HeavyB e ps.length ∧ W = w' := fun W h => heavyP_any W W.heap.size a1 ps cap1 hpm (hPl W h).at_
    obtain ⟨X, hX⟩ : ∃ X, X = doB d ps ps.length := ⟨_, rfl⟩
    obtain ⟨Y, hY⟩ : ∃ Y, Y = doB d ps m := ⟨_, rfl⟩
    obtain ⟨LP, hLP⟩ : ∃ LP, LP = leftP ps m := ⟨_, rfl⟩
    have H1R : Hid (doB d ps ps.length = X) := hX.symm
    have H2R : Hid (doB d ps m = Y) := hY.symm
    have HGR : Hid (leftP ps m = LP) := hLP.symm
    by_cases hE2 : doE d.length ps m = 0
    · obtain ⟨p1, p2, p3, p4, p5⟩ := parts hE2
      rw [← hY, ← hLP] at p2 p3
      rw [← hX] at p3
      rw [← hLP] at p5
      have H1E : Hid (doE d.length ps ps.length = 0) := p1
      have H2E : Hid (doE d.length ps m = 0) := hE2
      have H3E : Hid (doE Y.length LP LP.length = 0) := p2
      have H3R : Hid (doB Y LP LP.length = X) := p3
      have HGE : Hid (leftE ps m = 0) := p4
      have hm : 0 ≤ m ∧ m ≤ (ps.length : Int) := by
        rcases doE_cases d.length ps m with ⟨_, e⟩ | ⟨_, h2, e⟩ | ⟨_, _, _, e⟩ | ⟨_, _, h3, _⟩
        · omega
        · omega
        · omega
        · simpa [cutOk] using h3
      obtain ⟨hm0, hm1⟩ := hm
      have HP5 : Hid ((LP.length : Int) = ps.length - m) := p5
      clear p1 p2 p3 p4 p5 hE2 hX hY hLP wm
      go_enter Try.func3, Try.ntmps3
      go_wp2_with (first
        | (go_at_call 9; refine (dsame_sl _ ro1 ro7 X X rc1 rc7 (hX6.below ((Below.refl _ _).alloc (Nat.le_refl _) _)) (hX7.below ((Below.refl _ _).alloc (Nat.le_refl _) _))).mono ?_; rintro e w8 ⟨rfl, hb8⟩; rw [beq_self_eq_true]; have h5 : (LP.length : Int) = ps.length - m := HP5.out)
        | (go_at_call 7; have hmk := hmk6; refine (do_sl w6 ro2 Y rc2 hY6 ro6 LP rc6 hL6 _ 0 X H3E.out H3R.out).mono ?_; rintro e w7 ⟨ro7, rc7, rfl, hX7, hb7⟩; have hX6 := (hX6.below hb7); have d7 := (hb7.cell (p := ⟨w4.heap.size, 0, none⟩) hs46).trans d6; have hb07 := hb06.trans (hb7.mono hb06.size); have hs47 : w4.heap.size < w7.heap.size := Nat.lt_of_lt_of_le hs46 hb7.size)
        | (go_at_call 8; refine (left_sl _ a1 ps cap1 (hPl _ (hb05.alloc (by omega) _)) (by first | (have := hlen rfl; omega) | (have := hlen (by assumption); omega)) HROOM.out m 0 LP HGE.out HGR.out).mono ?_; rintro e w6 ⟨ro6, rc6, rfl, hL6, hb6⟩; have hb06 := (hb05.alloc (by omega) _).trans (hb6.mono (by simp; omega)); have hmk6 := True.intro; have hX6 := (hX5.below ((Below.refl _ _).alloc (Nat.le_refl _) _)).below hb6; have hY6 := (hY5.below ((Below.refl _ _).alloc (Nat.le_refl _) _)).below hb6; have d6 : w6.cell? ⟨w4.heap.size, 0, none⟩ = some (.slice ro1 X.length rc1) := (hb6.cell (p := ⟨w4.heap.size, 0, none⟩) (by simp; omega)).trans ((World.cell?_alloc_past _ _ _ hs45).trans d5); have y6 : w6.cell? ⟨w5.heap.size, 0, none⟩ = some (.slice ro2 Y.length rc2) := (hb6.cell (p := ⟨w5.heap.size, 0, none⟩) (by simp)).trans (by simp); have hs56 : w5.heap.size < w6.heap.size := (by have := hb6.size; simp at this; omega); have hs46 : w4.heap.size < w6.heap.size := (by omega))
        | (go_at_call 7; have hmk := hmk4; (fail_if_success have hq := hmk6); refine (do_sl _ a0 d cap0 (hDl _ (hb04.alloc (by omega) _)) a1 ps cap1 (hPl _ (hb04.alloc (by omega) _)) m 0 Y H2E.out H2R.out).mono ?_; rintro e w5 ⟨ro2, rc2, rfl, hY5, hb5⟩; have hb05 := (hb04.alloc (by omega) _).trans (hb5.mono (by simp; omega)); have hX5 := (hX4.below ((Below.refl _ _).alloc (Nat.le_refl _) _)).below hb5; have d5 : w5.cell? ⟨w4.heap.size, 0, none⟩ = some (.slice ro1 X.length rc1) := (hb5.cell (p := ⟨w4.heap.size, 0, none⟩) (by simp)).trans (by simp); have hs45 : w4.heap.size < w5.heap.size := (by have := hb5.size; simp at this; omega))
        | (go_at_call 7; (fail_if_success have hq := hmk4); refine (do_sl w2 a0 d cap0 (hDl _ hb02) a1 ps cap1 (hPl _ hb02) _ 0 X H1E.out H1R.out).mono ?_; rintro e w4 ⟨ro1, rc1, rfl, hX4, hb4⟩; have c4 := (hb4.cell (p := ⟨w.heap.size, 0, none⟩) (show w.heap.size < _ by omega)).trans c2; have hb04 := hb02.trans (hb4.mono hb02.size); have hs4 := hb4.size; have hmk4 := True.intro; have c4x : w.heap.size < w4.heap.size := (by omega))
        | (go_at_call 4; refine (hal _).mono ?_; rintro e w1 ⟨rfl, hb1⟩; have c1 : w1.cell? ⟨w.heap.size, 0, none⟩ = some (.slice a0 d.length cap0) := (by rw [below_cells hb1 _ _ (by simp)]; simp); have hs1 := hb1.size; simp at hs1; have hb01 := below_alloc hb1)
        | (go_at_call 5; refine (hlg _).mono ?_; rintro e w2 ⟨rfl, hb2⟩; have c2 := (hb2.cell (p := ⟨w.heap.size, 0, none⟩) (show w.heap.size < _ by omega)).trans c1; have hb02 := hb01.trans (hb2.mono hb01.size); have hs2 := hb2.size)
        | (go_at_call 6; refine (hhv w2 hb02).mono ?_; rintro e w3 ⟨⟨hv, rfl, hlen⟩, rfl⟩))
      all_goals
        go_ret
        first
          | exact ⟨rfl, hb07.trans ((below_alloc hb8).mono hb07.size)⟩
          | exact ⟨rfl, hb02⟩
    · obtain ⟨G, hG⟩ : ∃ G, G = leftE ps m := ⟨_, rfl⟩
      have HGE : Hid (leftE ps m = G) := hG.symm
      rcases parts_bad hE2 with hb | ⟨hb1, hb2, hb3⟩
      · obtain ⟨E, hE⟩ : ∃ E, E = doE d.length ps m := ⟨_, rfl⟩
        have H1E : Hid (doE d.length ps ps.length = E) := hb.trans hE.symm
        have H2E : Hid (doE d.length ps m = E) := hE.symm
        have hne : (E != 0) = true := by rw [hE]; simpa using hE2
        clear hb hE hE2 hG hX hY hLP wm
        go_enter Try.func3, Try.ntmps3
        go_wp2_with (first
          | (go_at_call 8; refine (left_sl _ a1 ps cap1 (hPl _ (hb05.alloc (by omega) _)) (by first | (have := hlen rfl; omega) | (have := hlen (by assumption); omega)) HROOM.out m G LP HGE.out HGR.out).mono ?_; rintro e w6 ⟨ro6, rc6, rfl, hL6, hb6⟩; have hb06 := (hb05.alloc (by omega) _).trans (hb6.mono (by simp; omega)); have hmk6 := True.intro; have hX6 := (hX5.below ((Below.refl _ _).alloc (Nat.le_refl _) _)).below hb6; have hY6 := (hY5.below ((Below.refl _ _).alloc (Nat.le_refl _) _)).below hb6; have d6 : w6.cell? ⟨w4.heap.size, 0, none⟩ = some (.slice ro1 X.length rc1) := (hb6.cell (p := ⟨w4.heap.size, 0, none⟩) (by simp; omega)).trans ((World.cell?_alloc_past _ _ _ hs45).trans d5); have y6 : w6.cell? ⟨w5.heap.size, 0, none⟩ = some (.slice ro2 Y.length rc2) := (hb6.cell (p := ⟨w5.heap.size, 0, none⟩) (by simp)).trans (by simp); have hs56 : w5.heap.size < w6.heap.size := (by have := hb6.size; simp at this; omega); have hs46 : w4.heap.size < w6.heap.size := (by omega))
          | (go_at_call 7; have hmk := hmk4; refine (do_sl _ a0 d cap0 (hDl _ (hb04.alloc (by omega) _)) a1 ps cap1 (hPl _ (hb04.alloc (by omega) _)) m E Y H2E.out H2R.out).mono ?_; rintro e w5 ⟨ro2, rc2, rfl, hY5, hb5⟩; have hb05 := (hb04.alloc (by omega) _).trans (hb5.mono (by simp; omega)); have hX5 := (hX4.below ((Below.refl _ _).alloc (Nat.le_refl _) _)).below hb5; have d5 : w5.cell? ⟨w4.heap.size, 0, none⟩ = some (.slice ro1 X.length rc1) := (hb5.cell (p := ⟨w4.heap.size, 0, none⟩) (by simp)).trans (by simp); have hs45 : w4.heap.size < w5.heap.size := (by have := hb5.size; simp at this; omega))
          | (go_at_call 7; (fail_if_success have hq := hmk4); refine (do_sl w2 a0 d cap0 (hDl _ hb02) a1 ps cap1 (hPl _ hb02) _ E X H1E.out H1R.out).mono ?_; rintro e w4 ⟨ro1, rc1, rfl, hX4, hb4⟩; have c4 := (hb4.cell (p := ⟨w.heap.size, 0, none⟩) (show w.heap.size < _ by omega)).trans c2; have hb04 := hb02.trans (hb4.mono hb02.size); have hs4 := hb4.size; have hmk4 := True.intro; have c4x : w.heap.size < w4.heap.size := (by omega))
          | (go_at_call 4; refine (hal _).mono ?_; rintro e w1 ⟨rfl, hb1⟩; have c1 : w1.cell? ⟨w.heap.size, 0, none⟩ = some (.slice a0 d.length cap0) := (by rw [below_cells hb1 _ _ (by simp)]; simp); have hs1 := hb1.size; simp at hs1; have hb01 := below_alloc hb1)
          | (go_at_call 5; refine (hlg _).mono ?_; rintro e w2 ⟨rfl, hb2⟩; have c2 := (hb2.cell (p := ⟨w.heap.size, 0, none⟩) (show w.heap.size < _ by omega)).trans c1; have hb02 := hb01.trans (hb2.mono hb01.size); have hs2 := hb2.size)
          | (go_at_call 6; refine (hhv w2 hb02).mono ?_; rintro e w3 ⟨⟨hv, rfl, hlen⟩, rfl⟩))
        all_goals
          go_ret
          first
            | exact ⟨rfl, hb06⟩
            | exact ⟨rfl, hb02⟩
      · have H1E : Hid (doE d.length ps ps.length = 0) := hb1
        have H2E : Hid (doE d.length ps m = 2) := hb2
        have HGE2 : Hid (leftE ps m = 2) := hb3
        clear hb1 hb2 hb3 hE2 hG hX hY hLP wm HGE
        go_enter Try.func3, Try.ntmps3
        go_wp2_with (first
          | (go_at_call 8; refine (left_sl _ a1 ps cap1 (hPl _ (hb05.alloc (by omega) _)) (by first | (have := hlen rfl; omega) | (have := hlen (by assumption); omega)) HROOM.out m 2 LP HGE2.out HGR.out).mono ?_; rintro e w6 ⟨ro6, rc6, rfl, hL6, hb6⟩; have hb06 := (hb05.alloc (by omega) _).trans (hb6.mono (by simp; omega)); have hmk6 := True.intro; have hX6 := (hX5.below ((Below.refl _ _).alloc (Nat.le_refl _) _)).below hb6; have hY6 := (hY5.below ((Below.refl _ _).alloc (Nat.le_refl _) _)).below hb6; have d6 : w6.cell? ⟨w4.heap.size, 0, none⟩ = some (.slice ro1 X.length rc1) := (hb6.cell (p := ⟨w4.heap.size, 0, none⟩) (by simp; omega)).trans ((World.cell?_alloc_past _ _ _ hs45).trans d5); have y6 : w6.cell? ⟨w5.heap.size, 0, none⟩ = some (.slice ro2 Y.length rc2) := (hb6.cell (p := ⟨w5.heap.size, 0, none⟩) (by simp)).trans (by simp); have hs56 : w5.heap.size < w6.heap.size := (by have := hb6.size; simp at this; omega); have hs46 : w4.heap.size < w6.heap.size := (by omega))
          | (go_at_call 7; have hmk := hmk4; refine (do_sl _ a0 d cap0 (hDl _ (hb04.alloc (by omega) _)) a1 ps cap1 (hPl _ (hb04.alloc (by omega) _)) m 2 Y H2E.out H2R.out).mono ?_; rintro e w5 ⟨ro2, rc2, rfl, hY5, hb5⟩; have hb05 := (hb04.alloc (by omega) _).trans (hb5.mono (by simp; omega)); have hX5 := (hX4.below ((Below.refl _ _).alloc (Nat.le_refl _) _)).below hb5; have d5 : w5.cell? ⟨w4.heap.size, 0, none⟩ = some (.slice ro1 X.length rc1) := (hb5.cell (p := ⟨w4.heap.size, 0, none⟩) (by simp)).trans (by simp); have hs45 : w4.heap.size < w5.heap.size := (by have := hb5.size; simp at this; omega))
          | (go_at_call 7; (fail_if_success have hq := hmk4); refine (do_sl w2 a0 d cap0 (hDl _ hb02) a1 ps cap1 (hPl _ hb02) _ 0 X H1E.out H1R.out).mono ?_; rintro e w4 ⟨ro1, rc1, rfl, hX4, hb4⟩; have c4 := (hb4.cell (p := ⟨w.heap.size, 0, none⟩) (show w.heap.size < _ by omega)).trans c2; have hb04 := hb02.trans (hb4.mono hb02.size); have hs4 := hb4.size; have hmk4 := True.intro; have c4x : w.heap.size < w4.heap.size := (by omega))
          | (go_at_call 4; refine (hal _).mono ?_; rintro e w1 ⟨rfl, hb1⟩; have c1 : w1.cell? ⟨w.heap.size, 0, none⟩ = some (.slice a0 d.length cap0) := (by rw [below_cells hb1 _ _ (by simp)]; simp); have hs1 := hb1.size; simp at hs1; have hb01 := below_alloc hb1)
          | (go_at_call 5; refine (hlg _).mono ?_; rintro e w2 ⟨rfl, hb2⟩; have c2 := (hb2.cell (p := ⟨w.heap.size, 0, none⟩) (show w.heap.size < _ by omega)).trans c1; have hb02 := hb01.trans (hb2.mono hb01.size); have hs2 := hb2.size)
          | (go_at_call 6; refine (hhv w2 hb02).mono ?_; rintro e w3 ⟨⟨hv, rfl, hlen⟩, rfl⟩))
        all_goals
          go_ret
          first
            | exact ⟨rfl, hb06⟩
            | exact ⟨rfl, hb02⟩

set_option maxRecDepth 100000 in
theorem diskParts_lifted (os : Os) (started : os.Started) (H : Type) (enc : TypeId × Value → H) :
    ReturnsInHanded {} Try.checked os 3 .any (Rows.diskPartsSpec.pre6 enc Try.prog Try.f3 Rows.diskPartsRow.domain false) (Rows.diskPartsSpec.post enc Try.prog Try.f3 false true false false) := by
  refine returnsInHanded_of_change_sized (C := Try.checked) (by kernel_rfl) started (by kernel_rfl) Try.func3
    (ChangeSpec.witness6 (enc := enc) (C := Try.checked) false ⟨#[], #[.agg #[.slice none 0 0], .slice none 0 0, .int .i64 0], []⟩ 8 (by kernel_rfl) (by kernel_rfl) (by kernel_rfl) (by kernel_rfl)) ?_
  intro W base args ds gs before hval0 hW hcnd hsz0 _
  have hval : ∀ (j : Nat) t v, Try.f3.params[j]? = some t → args[j]? = some v → Value.okWide Try.prog W .any base t v := hval0
  have hW' := hW
  obtain ⟨p, q, hA0, hV, rfl, hfz, hnd⟩ := hW
  have hA : DataW.TrodAll enc Try.prog W 0 (fun _ => true) true Try.f3.params.toList args.toList ds p := hA0
  rw [Try.params3] at hA hval
  have hsz : (DataW.weightsEach Try.prog (Try.f3.params.toList ++ Rows.diskPartsSpec.plain.varTypes Try.prog) (ds ++ gs)).all (· ≤ reachBytes) = true := hsz0
  rw [Try.params3] at hsz
  clear hsz0
  obtain ⟨v0, vs0, d0, ds0, p0, q0, hargs, rfl, rfl, h0, r0⟩ := trodAll_cons hA
  obtain ⟨v1, vs1, d1, ds1, p1, q1, rfl, rfl, rfl, h1, r1⟩ := trodAll_cons r0
  obtain ⟨v2, vs2, d2, ds2, p2, q2, rfl, rfl, rfl, h2, r2⟩ := trodAll_cons r1
  obtain ⟨rfl, rfl, rfl⟩ := trodAll_nil r2
  obtain rfl : args = #[v0, v1, v2] := by cases args; simp_all
  obtain ⟨rfl, rfl⟩ := trodVars_none hV
  have k0 := h0
  have lt0 : ∀ x ∈ p0, x.block < W.heap.size := by obtain ⟨m, hm⟩ := k0; exact DataW.trod_lt m _ _ _ hm
  obtain ⟨a0, len0, cap0, l0, rfl, w0⟩ := inDevice_of (fun _ => rfl) (hval 0 24 v0 rfl rfl) h0
  have k1 := h1
  have lt1 : ∀ x ∈ p1, x.block < W.heap.size := by obtain ⟨m, hm⟩ := k1; exact DataW.trod_lt m _ _ _ hm
  obtain ⟨a1, len1, cap1, rfl⟩ := okWide_slice Try.underlying25 (hval 1 25 v1 rfl rfl)
  obtain ⟨l1, w1⟩ := inPuts_of (fun _ => rfl) h1 (fun n hn => of_decide_eq_true (List.all_eq_true.1 hsz n (by simp [DataW.weightsEach, hn])))
  obtain ⟨a2, rfl, rfl, rfl, w2⟩ := open_int Try.underlying3 (hval 2 3 v2 rfl rfl) h2
  clear hA0 hval0
  refine (diskParts_walk W a0 len0 cap0 l0 w0 a1 len1 cap1 l1 w1 a2 w2).mono fun e W' ⟨he, bel⟩ => ?_
  subst he
  exact ⟨_, rfl, _, _, _, [], _, [], hW', trodAll_mk1 (shut_bool Try.underlying4 _), (trodAll_cons_mk (Below.trod laidOut_all (by kernel_rfl) (of_decide_eq_true (by kernel_rfl)) k0 bel lt0) (trodAll_cons_mk (Below.trod laidOut_all (by kernel_rfl) (of_decide_eq_true (by kernel_rfl)) k1 bel lt1) (trodAll_cons_mk (shut_int Try.underlying3 w2) trodAll_mk0))), rfl, bel.frame _, fun h => by cases h⟩

theorem diskParts_proved : Rows.DiskPartsSaid :=
  OpenClaim.holds_of_wide 3 Try.f3 rfl rfl rfl rfl rfl rfl rfl ⟨rfl, rfl, rfl, rfl, rfl⟩ rfl rfl rfl rfl rfl (by kernel_rfl) Try.func3 (by kernel_rfl)
    (of_decide_eq_true (by kernel_rfl)) (by unfold Func.isWrapper; first | (rw [if_pos (by decide +kernel)]; kernel_rfl) | (rw [if_neg (by decide +kernel)]; exact ⟨rfl, rfl⟩))
    (fun os started H enc _ => diskParts_lifted os started H enc)
#print axioms diskParts_proved
end Go.Proofs.Ythdfomcikdjkpac

