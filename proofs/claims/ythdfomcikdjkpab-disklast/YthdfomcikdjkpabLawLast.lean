/-
  DiskLast is true for every disk, writes and how many are done: of each block what was written last is read, and what nobody wrote is as it was; no condition.
-/
import Derived.Test.YthdfomcikdjkpabDkSl
import Derived.Test.YthdfomcikdjkpabDkAlive
import Derived.Test.YthdfomcikdjkpabDkHeavy
import Derived.Test.YthdfomcikdjkpabDkRows
import Derived.Test.YthdfomcikdjkpabDkLast
namespace Go.Proofs.Ythdfomcikdjkpab
open Go.ChangeShapes Go.WideShapes Go.ChangeAt Go.RowKit
open Go.ChangeMaps (open_string shut_string)
set_option linter.unusedSimpArgs false
set_option linter.unusedVariables false
set_option maxRecDepth 100000

set_option maxHeartbeats 1000000 in
theorem diskLast_walk (w : World) (a0 : Option Addr) (len0 cap0 : Nat) (d : List UInt8) (hi0 : InBytes w a0 len0 cap0 d) (a1 : Option Addr) (len1 cap1 : Nat) (ps : List Pt) (hi1 : InPuts w a1 len1 cap1 ps) (m : Int) (wm : (Lit.int .i64 m).wf = true) :
    Calls Try.prog 8 #[.agg #[.slice a0 len0 cap0], .slice a1 len1 cap1, .int .i64 m] w fun e w' => e = .returned (.bool true) ∧ Below w.heap.size w w' := by
  obtain ⟨rfl, h01, h02, h03, h04⟩ := hi0
  obtain ⟨rfl, h11, h12, h13, h14, h15⟩ := hi1
  have HD : Hid (Sl w a0 d cap0) := ⟨h01, h02, h03, h04⟩
  have HP : Hid (Pl w a1 ps cap1) := ⟨h11, h12, h13, h14⟩
  have hpm : ps.length ≤ 9223372036854775807 := Nat.le_trans h11 h12
  have hdm : d.length ≤ 9223372036854775807 := Nat.le_trans h01 h02
  clear h11 h12 h13 h14 h15 h03 h04 wm
  have hal := fun W => dalive_any W
  have hlg := fun W => large_any a0 d.length cap0 W
  by_cases g0 : (300000 : Int) < (d.length : Int)
  · go_enter Try.func8, Try.ntmps8
    go_wp2_with (first
      | (go_at_call 27; refine (hal _).mono ?_; rintro e w1 ⟨rfl, hb1⟩; have c1 : w1.cell? ⟨w.heap.size, 0, none⟩ = some (.slice a0 d.length cap0) := (by rw [below_cells hb1 _ _ (by simp)]; simp); have hs1 := hb1.size; simp at hs1; have hb01 := below_alloc hb1)
      | (go_at_call 31; refine (hlg _).mono ?_; rintro e w2 ⟨rfl, hb2⟩))
    go_ret
    exact ⟨rfl, hb01.trans (hb2.mono hb01.size)⟩
  · have g1 : decide ((300000 : Int) < (d.length : Int)) = false := by simp; omega
    by_cases g2 : (200 : Int) < (ps.length : Int)
    · go_enter Try.func8, Try.ntmps8
      go_wp2_with (first
        | (go_at_call 27; refine (hal _).mono ?_; rintro e w1 ⟨rfl, hb1⟩; have c1 : w1.cell? ⟨w.heap.size, 0, none⟩ = some (.slice a0 d.length cap0) := (by rw [below_cells hb1 _ _ (by simp)]; simp); have hs1 := hb1.size; simp at hs1; have hb01 := below_alloc hb1)
        | (go_at_call 31; refine (hlg _).mono ?_; rintro e w2 ⟨rfl, hb2⟩))
      go_ret
      exact ⟨rfl, hb01.trans (hb2.mono hb01.size)⟩
    · have g3 : decide ((200 : Int) < (ps.length : Int)) = false := by simp; omega
      have hDl : ∀ W, Below w.heap.size w W → Sl W a0 d cap0 := fun W h => HD.out.below h
      have hPl : ∀ W, Below w.heap.size w W → Pl W a1 ps cap1 := fun W h => HP.out.below h
      have hhv : ∀ W, Below w.heap.size w W → Calls Try.prog 32 #[.slice a1 ps.length cap1] W fun e w' => HeavyB e ps.length ∧ W = w' := fun W h => heavyP_any W W.heap.size a1 ps cap1 hpm (hPl W h).at_
      by_cases hE2 : doE d.length ps m = 0
      · obtain ⟨R, hR⟩ : ∃ R, R = doB d ps m := ⟨_, rfl⟩
        have H2R : Hid (doB d ps m = R) := hR.symm
        have H2E : Hid (doE d.length ps m = 0) := hE2
        have hfact : ∃ M : Nat, m = (M : Int) ∧ M ≤ ps.length ∧ dOk d.length = true ∧ (∀ p ∈ ps, ptE d.length p = 0) ∧ R = puts d (ps.take M) := by
          rcases doE_cases d.length ps m with ⟨_, e⟩ | ⟨_, h2, e⟩ | ⟨_, _, _, e⟩ | ⟨h1, h2, h3, e⟩
          · omega
          · omega
          · omega
          · have h4 : 0 ≤ m ∧ m ≤ (ps.length : Int) := by simpa [cutOk] using h3
            refine ⟨m.toNat, by omega, by omega, h1, ptsE_zero.1 h2, ?_⟩
            rw [hR]; unfold doB; rw [if_pos hE2]
        obtain ⟨M, rfl, hM, hk1, hz, hRp⟩ := hfact
        have hRl : R.length = d.length := by rw [hRp]; exact puts_len (fun p hp => hz p (List.mem_of_mem_take hp))
        have HZ : Hid (∀ p ∈ ps, ptE d.length p = 0) := hz
        have HRP : Hid (R = puts d (ps.take M)) := hRp
        have hd2 : d.length ≤ 262144 ∧ 64 ≤ d.length := by simp [dOk] at hk1; omega
        obtain ⟨hd3, hd4⟩ := hd2
        have hMM : ¬ (ps.length : Int) < (M : Int) := by omega
        have hM0 : ¬ (M : Int) < 0 := by omega
        have HRL : Hid (R.length = d.length) := hRl
        clear hE2 hR hRp hz hk1 hRl
        have hdne : d ≠ [] := by intro e; rw [e] at hd4; simp at hd4
        obtain ⟨b0, o0, ha0⟩ := HD.out.lies hdne
        subst ha0
        have hRne : R ≠ [] := by intro e; have := HRL.out; rw [e] at this; simp at this; omega
        go_enter Try.func8, Try.ntmps8
        go_wp2_with (first
          | (go_at_call 26; refine (do_sl w2 (some ⟨b0, o0, none⟩) d cap0 (hDl _ hb02) a1 ps cap1 (hPl _ hb02) _ 0 R H2E.out H2R.out).mono ?_; rintro e w4 ⟨ro1, rc1, rfl, hX4, hb4⟩; obtain ⟨bx, ox, hro⟩ := hX4.lies hRne; subst hro; rw [HRL.out]; have hrc : d.length ≤ rc1 := (by have := hX4.hl; rw [HRL.out] at this; exact this); have c4 := (hb4.cell (p := ⟨w.heap.size, 0, none⟩) (show w.heap.size < _ by omega)).trans c2; have hb04 := hb02.trans (hb4.mono hb02.size); have hs4 := hb4.size; have c4x : w.heap.size < w4.heap.size := (by omega))
          | (go_at_call 27; refine (hal _).mono ?_; rintro e w1 ⟨rfl, hb1⟩; have c1 : w1.cell? ⟨w.heap.size, 0, none⟩ = some (.slice (some ⟨b0, o0, none⟩) d.length cap0) := (by rw [below_cells hb1 _ _ (by simp)]; simp); have hs1 := hb1.size; simp at hs1; have hb01 := below_alloc hb1)
          | (go_at_call 31; refine (hlg _).mono ?_; rintro e w2 ⟨rfl, hb2⟩; have c2 := (hb2.cell (p := ⟨w.heap.size, 0, none⟩) (show w.heap.size < _ by omega)).trans c1; have hb02 := hb01.trans (hb2.mono hb01.size); have hs2 := hb2.size)
          | (go_at_call 32; refine (hhv w2 hb02).mono ?_; rintro e w3 ⟨⟨hv, rfl, hlen⟩, rfl⟩))
        · go_ret
          exact ⟨rfl, hb02⟩
        · have hb45 : Below w4.heap.size w4 (w4.alloc (Obj.cells #[Value.slice (some ⟨bx, ox, none⟩) d.length rc1] 48)) := (Below.refl _ _).alloc (Nat.le_refl _) _
          have hbF := hb04.trans (hb45.mono hb04.size)
          have x5 : (w4.alloc (Obj.cells #[Value.slice (some ⟨bx, ox, none⟩) d.length rc1] 48)).cell? ⟨w4.heap.size, 0, none⟩ = some (.slice (some ⟨bx, ox, none⟩) d.length rc1) := by simp
          have c5 := (hb45.cell (p := ⟨w.heap.size, 0, none⟩) c4x).trans c4
          have HX5 : Hid (Sl _ (some ⟨bx, ox, none⟩) R rc1) := hX4.below hb45
          have HD5 : Hid (Sl _ (some ⟨b0, o0, none⟩) d cap0) := hDl _ hbF
          have HP5 : Hid (Pl _ a1 ps cap1) := hPl _ hbF
          have hs5 : w4.heap.size < (w4.alloc (Obj.cells #[Value.slice (some ⟨bx, ox, none⟩) d.length rc1] 48)).heap.size := by simp
          obtain ⟨w5, hw5⟩ : ∃ w5, w5 = w4.alloc (Obj.cells #[Value.slice (some ⟨bx, ox, none⟩) d.length rc1] 48) := ⟨_, rfl⟩
          rw [← hw5] at hbF x5 c5 HX5 HD5 HP5 hs5 ⊢
          clear hw5 hb45 hX4 hb4 c4 c2 c1 hb1 hb2 hhv hDl hPl hal hlg H2R H2E
          have hcap : cap0 ≤ 9223372036854775807 := HD5.out.hc
          have hrc2 : rc1 ≤ 9223372036854775807 := HX5.out.hc
          go_loop [10] (fun n => ∃ k : Nat, k ≤ d.length / 64 ∧ n = .int .i64 k) (fun n => d.length / 64 - (intOf n).toNat)
          case atStart => exact ⟨0, Nat.zero_le _, rfl⟩
          case round =>
            obtain ⟨k, hk, rfl⟩ := hrel
            by_cases hlt : k < d.length / 64
            · have hlt2 : (k : Int) < (d.length : Int) / 64 := by omega
              have hk64 : 64 * k + 64 ≤ d.length := by omega
              have q1 : (convert 23 9 (.slice (some ⟨b0, o0 + 64 * k, none⟩) 64 (cap0 - 64 * k))).run Try.prog w5 = .ok (.string ⟨(blockOf d k).toArray⟩) w5 := by
                have h1 := ((HD5.out.at_.drop (64 * k)).take 64)
                have h2 := conv_bytes w5 w5.heap.size _ (blockOf d k) (cap0 - 64 * k) h1
                rw [blockOf_len hk64] at h2
                simpa [addr_add] using h2
              go_wp2
              clear q1
              go_loop [11, 12] (fun want i => ∃ q : Nat, q ≤ M ∧ i = .int .i64 q ∧ want = .string ⟨(blockOf (puts d (ps.take q)) k).toArray⟩) (fun _ i => M - (intOf i).toNat)
              case atStart => exact ⟨0, Nat.zero_le _, rfl, rfl⟩
              case round =>
                obtain ⟨q, hq, rfl, rfl⟩ := hrel
                by_cases hqM : q < M
                · have hqM2 : (q : Int) < (M : Int) := by omega
                  have hqp : q < ps.length := by omega
                  have hqp2 : (q : Int) < (ps.length : Int) := by omega
                  obtain ⟨p, hpe⟩ : ∃ p, p = ps[q] := ⟨_, rfl⟩
                  have hpz := HZ.out ps[q] (List.getElem_mem hqp)
                  have hlen : (puts d (ps.take q)).length = d.length := puts_len (fun p hp => HZ.out p (List.mem_of_mem_take hp))
                  have hsn : puts d (ps.take (q + 1)) = put1 (puts d (ps.take q)) p := by rw [hpe]; exact puts_snoc hqp
                  rw [← hlen, ← hpe] at hpz
                  have h64 := (ptE_zero hpz).2.2
                  rcases HP5.out.at_ with he | ⟨b1, o1, ha1, hb1', hc1'⟩
                  · rw [he] at hqp; simp at hqp
                  have hL := hc1' q hqp
                  rw [← hpe] at hL
                  subst ha1
                  obtain ⟨q0, v, q1, a2, c2, rfl, -, -, -, hbs⟩ := hL
                  rw [h64] at q1
                  have q2 : (convert 23 9 (.slice a2 64 c2)).run Try.prog w5 = .ok (.string ⟨p.data.toArray⟩) w5 := by
                    have h2 := conv_bytes w5 w5.heap.size a2 p.data c2 hbs
                    rw [h64] at h2
                    exact h2
                  by_cases hpk : p.n = (k : Int)
                  · have hB : blockOf (puts d (ps.take (q + 1))) k = p.data := by rw [hsn]; exact block_same hpz hpk
                    have HB : Hid (blockOf (puts d (ps.take (q + 1))) k = p.data) := hB
                    rw [hpk] at q0
                    clear hB hsn hpz hlen hpe hbs h64 hpk hc1'
                    go_wp2
                    go_round
                    case rel => exact ⟨q + 1, by omega, by go_num, by rw [HB.out]⟩
                    case measure => simp [intOf]; omega
                  · have hB : blockOf (puts d (ps.take (q + 1))) k = blockOf (puts d (ps.take q)) k := by rw [hsn]; exact block_other hpz hpk
                    have HB : Hid (blockOf (puts d (ps.take (q + 1))) k = blockOf (puts d (ps.take q)) k) := hB
                    have hpk2 : (p.n == (k : Int)) = false := by simpa using hpk
                    clear hB hsn hpz hlen hpe hbs h64 q2 q1 hc1' hpk
                    go_wp2
                    go_round
                    case rel => exact ⟨q + 1, by omega, by go_num, by rw [HB.out]⟩
                    case measure => simp [intOf]; omega
                · have hqM2 : decide ((q : Int) < (M : Int)) = false := by simp; omega
                  have hqe : q = M := by omega
                  have hRR : puts d (ps.take q) = R := by rw [hqe]; exact HRP.out.symm
                  rw [hRR]
                  have q3 : (convert 23 9 (.slice (some ⟨bx, ox + 64 * k, none⟩) 64 (rc1 - 64 * k))).run Try.prog w5 = .ok (.string ⟨(blockOf R k).toArray⟩) w5 := by
                    have h1 := ((HX5.out.at_.drop (64 * k)).take 64)
                    have h2 := conv_bytes w5 w5.heap.size _ (blockOf R k) (rc1 - 64 * k) h1
                    rw [blockOf_len (by rw [HRL.out]; exact hk64)] at h2
                    simpa [addr_add] using h2
                  clear hRR hqe
                  go_wp2
                  go_round
                  case rel => exact ⟨k + 1, by omega, by go_num⟩
                  case measure => simp [intOf]; omega
            · have hlt2 : decide ((k : Int) < (d.length : Int) / 64) = false := by simp; omega
              go_wp2
              go_ret
              exact ⟨rfl, hbF⟩
      · obtain ⟨E, hE⟩ : ∃ E, E = doE d.length ps m := ⟨_, rfl⟩
        have H2E : Hid (doE d.length ps m = E) := hE.symm
        have H2R : Hid (doB d ps m = []) := by show _ = _; unfold doB; rw [if_neg hE2]
        have hne : (E != 0) = true := by rw [hE]; simpa using hE2
        clear hE hE2
        go_enter Try.func8, Try.ntmps8
        go_wp2_with (first
          | (go_at_call 26; refine (do_sl w2 a0 d cap0 (hDl _ hb02) a1 ps cap1 (hPl _ hb02) _ E [] H2E.out H2R.out).mono ?_; rintro e w4 ⟨ro1, rc1, rfl, hX4, hb4⟩; have hb04 := hb02.trans (hb4.mono hb02.size); have hs4 := hb4.size)
          | (go_at_call 27; refine (hal _).mono ?_; rintro e w1 ⟨rfl, hb1⟩; have c1 : w1.cell? ⟨w.heap.size, 0, none⟩ = some (.slice a0 d.length cap0) := (by rw [below_cells hb1 _ _ (by simp)]; simp); have hs1 := hb1.size; simp at hs1; have hb01 := below_alloc hb1)
          | (go_at_call 31; refine (hlg _).mono ?_; rintro e w2 ⟨rfl, hb2⟩; have c2 := (hb2.cell (p := ⟨w.heap.size, 0, none⟩) (show w.heap.size < _ by omega)).trans c1; have hb02 := hb01.trans (hb2.mono hb01.size); have hs2 := hb2.size)
          | (go_at_call 32; refine (hhv w2 hb02).mono ?_; rintro e w3 ⟨⟨hv, rfl, hlen⟩, rfl⟩))
        all_goals
          go_ret
          first
            | exact ⟨rfl, hb04.alloc (by omega) _⟩
            | exact ⟨rfl, hb02⟩

set_option maxRecDepth 100000 in
theorem diskLast_lifted (os : Os) (started : os.Started) (H : Type) (enc : TypeId × Value → H) :
    ReturnsInHanded {} Try.checked os 8 .any (Rows.diskLastSpec.pre6 enc Try.prog Try.f8 Rows.diskLastRow.domain false) (Rows.diskLastSpec.post enc Try.prog Try.f8 false true false false) := by
  refine returnsInHanded_of_change_sized (C := Try.checked) (by kernel_rfl) started (by kernel_rfl) Try.func8
    (ChangeSpec.witness6 (enc := enc) (C := Try.checked) false ⟨#[], #[.agg #[.slice none 0 0], .slice none 0 0, .int .i64 0], []⟩ 8 (by kernel_rfl) (by kernel_rfl) (by kernel_rfl) (by kernel_rfl)) ?_
  intro W base args ds gs before hval0 hW hcnd hsz0 _
  have hval : ∀ (j : Nat) t v, Try.f8.params[j]? = some t → args[j]? = some v → Value.okWide Try.prog W .any base t v := hval0
  have hW' := hW
  obtain ⟨p, q, hA0, hV, rfl, hfz, hnd⟩ := hW
  have hA : DataW.TrodAll enc Try.prog W 0 (fun _ => true) true Try.f8.params.toList args.toList ds p := hA0
  rw [Try.params8] at hA hval
  have hsz : (DataW.weightsEach Try.prog (Try.f8.params.toList ++ Rows.diskLastSpec.plain.varTypes Try.prog) (ds ++ gs)).all (· ≤ reachBytes) = true := hsz0
  rw [Try.params8] at hsz
  clear hsz0
  obtain ⟨v0, vs0, d0, ds0, p0, q0, hargs, rfl, rfl, h0, r0⟩ := trodAll_cons hA
  obtain ⟨v1, vs1, d1, ds1, p1, q1, rfl, rfl, rfl, h1, r1⟩ := trodAll_cons r0
  obtain ⟨v2, vs2, d2, ds2, p2, q2, rfl, rfl, rfl, h2, r2⟩ := trodAll_cons r1
  obtain ⟨rfl, rfl, rfl⟩ := trodAll_nil r2
  obtain rfl : args = #[v0, v1, v2] := by cases args; simp_all
  obtain ⟨rfl, rfl⟩ := trodVars_none hV
  have k0 := h0
  have lt0 : ∀ x ∈ p0, x.block < W.heap.size := by obtain ⟨m, hm⟩ := k0; exact DataW.trod_lt m _ _ _ hm
  obtain ⟨a0, len0, cap0, l0, rfl, w0⟩ := inDevice_of (fun _ => rfl) (hval 0 48 v0 rfl rfl) h0
  have k1 := h1
  have lt1 : ∀ x ∈ p1, x.block < W.heap.size := by obtain ⟨m, hm⟩ := k1; exact DataW.trod_lt m _ _ _ hm
  obtain ⟨a1, len1, cap1, rfl⟩ := okWide_slice Try.underlying55 (hval 1 55 v1 rfl rfl)
  obtain ⟨l1, w1⟩ := inPuts_of (fun _ => rfl) h1 (fun n hn => of_decide_eq_true (List.all_eq_true.1 hsz n (by simp [DataW.weightsEach, hn])))
  obtain ⟨a2, rfl, rfl, rfl, w2⟩ := open_int Try.underlying3 (hval 2 3 v2 rfl rfl) h2
  clear hA0 hval0
  refine (diskLast_walk W a0 len0 cap0 l0 w0 a1 len1 cap1 l1 w1 a2 w2).mono fun e W' ⟨he, bel⟩ => ?_
  subst he
  exact ⟨_, rfl, _, _, _, [], _, [], hW', trodAll_mk1 (shut_bool Try.underlying4 _), (trodAll_cons_mk (Below.trod laidOut_all (by kernel_rfl) (of_decide_eq_true (by kernel_rfl)) k0 bel lt0) (trodAll_cons_mk (Below.trod laidOut_all (by kernel_rfl) (of_decide_eq_true (by kernel_rfl)) k1 bel lt1) (trodAll_cons_mk (shut_int Try.underlying3 w2) trodAll_mk0))), rfl, bel.frame _, fun h => by cases h⟩

theorem diskLast_proved : Rows.DiskLastSaid :=
  OpenClaim.holds_of_wide 8 Try.f8 rfl rfl rfl rfl rfl rfl rfl ⟨rfl, rfl, rfl, rfl, rfl⟩ rfl rfl rfl rfl rfl (by kernel_rfl) Try.func8 (by kernel_rfl)
    (of_decide_eq_true (by kernel_rfl)) (by unfold Func.isWrapper; first | (rw [if_pos (by decide +kernel)]; kernel_rfl) | (rw [if_neg (by decide +kernel)]; exact ⟨rfl, rfl⟩))
    (fun os started H enc _ => diskLast_lifted os started H enc)
#print axioms diskLast_proved
end Go.Proofs.Ythdfomcikdjkpab

