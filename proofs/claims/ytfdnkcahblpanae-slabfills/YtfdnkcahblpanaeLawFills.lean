/-
  SlabFills: chunks taken one behind the other fill a page before another one is begun, up to the quota, and are refused just then. No conditions.
-/
import Derived.Test.YtfdnkcahblpanaeSbFill
import Derived.Test.YtfdnkcahblpanaeSbRows
import Derived.Test.YtfdnkcahblpanaeChecked
namespace Go.Proofs.Ytfdnkcahblpanae
open Go.ChangeShapes Go.WideShapes Go.ChangeAt Go.RowKit
open Go.ChangeMaps (open_string shut_string)
set_option linter.unusedSimpArgs false
set_option linter.unusedVariables false
set_option maxRecDepth 100000

theorem fresh_store {w2 : World} {base SB rc : Nat} {ro : Option Addr} {ps : List Pg} (hF : FreshS w2 base (.slice ro ps.length rc) ps) (hlt : SB < base) (o : Obj) (v : Value) : Sb ((w2.setCell ⟨SB, 0, none⟩ v).alloc o) ro ps rc := by
  obtain ⟨ao, cap, e, h1, h2, h3, h4⟩ := hF
  cases e
  refine ⟨h1, h2, h3, ?_⟩
  rcases h4 with h | ⟨g, rfl, hb, hlt2, hf, hc⟩
  · exact .inl h
  · refine .inr ⟨g, 0, rfl, by simp; omega, fun i hi => ?_⟩
    rw [Nat.zero_add]
    exact ((hc i hi).grown (grown_set w2 SB 0 v) (by intro e; have := Option.some.inj e; omega)).below ((Below.refl _ _).alloc (Nat.le_refl _) o) (by simpa using hlt2)
theorem fresh_store' {w2 : World} {base SB rc P n : Nat} {e : Nat} {t c : Int} {ro : Option Addr} (hF : FreshS w2 base (.slice ro P rc) (stN P t c e n)) (hlt : SB < base) (o : Obj) (v : Value) : Sb ((w2.setCell ⟨SB, 0, none⟩ v).alloc o) ro (stN P t c e n) rc := by
  rw [show P = (stN P t c e n).length from (stN_len P t c e n).symm] at hF
  rw [stN_len] at hF
  have h2 : FreshS w2 base (.slice ro (stN P t c e n).length rc) (stN P t c e n) := by rw [stN_len]; exact hF
  exact fresh_store h2 hlt o v
theorem fill_cell {w2 : World} {SB : Nat} {x : Value} (h : w2.cell? ⟨SB, 0, none⟩ = some x) (hlt : SB < w2.heap.size) (o : Obj) (v : Value) : ((w2.setCell ⟨SB, 0, none⟩ v).alloc o).cell? ⟨SB, 0, none⟩ = some v :=
  (World.cell?_alloc_past o _ _ (by simpa using hlt)).trans (World.cell?_setCell_same _ _ _ h)
theorem fill_frozen {w2 : World} {SB : Nat} (h : w2.frozen? ⟨SB, 0, none⟩ = false) (hlt : SB < w2.heap.size) (o : Obj) (v : Value) : ((w2.setCell ⟨SB, 0, none⟩ v).alloc o).frozen? ⟨SB, 0, none⟩ = false := by
  have h1 : (w2.setCell ⟨SB, 0, none⟩ v).frozen? ⟨SB, 0, none⟩ = false := by simpa using h
  exact (((Below.refl _ (w2.setCell ⟨SB, 0, none⟩ v)).alloc (Nat.le_refl _) o).frozen (p := ⟨SB, 0, none⟩) (by simpa using hlt)).trans h1
theorem fill_below {B SB : Nat} {a w2 : World} (h : Below B a w2) (hB : B ≤ SB) (hs : B ≤ w2.heap.size) (o : Obj) (v : Value) : Below B a ((w2.setCell ⟨SB, 0, none⟩ v).alloc o) :=
  (h.setCell (p := ⟨SB, 0, none⟩) hB v).alloc (by simpa using hs) o
theorem fills_bad (w : World) (pg t c q : Int) (hn : ¬ (1 ≤ pg ∧ pg ≤ 16)) :
    Calls Try.prog 7 #[.int .i64 pg, .int .i64 t, .int .i64 c, .int .i64 q] w fun e w' => e = .returned (.bool true) ∧ Below w.heap.size w w' := by
  have HN := Hid.mk2 (fun W => new_bad_any pg W hn)
  clear hn
  go_enter Try.func7, Try.ntmps7
  go_wp2_with (first
    | (go_at_call 30; refine (alive_any _).mono ?_; rintro e w1 ⟨rfl, hb1⟩)
    | (go_at_call 9; refine (HN.out _).mono ?_; rintro e w2 ⟨rfl, hb2⟩))
  go_ret
  exact ⟨rfl, (hb1.trans (hb2.mono hb1.size)).alloc (Nat.le_trans hb1.size hb2.size) _⟩
theorem fills_arg (w : World) (P : Nat) (hP : 1 ≤ P ∧ P ≤ 16) (t c q : Int) (hn : isC c = false ∨ isT t = false ∨ isQ q = false) :
    Calls Try.prog 7 #[.int .i64 P, .int .i64 t, .int .i64 c, .int .i64 q] w fun e w' => e = .returned (.bool true) ∧ Below w.heap.size w w' := by
  have HN := Hid.mk2 (fun W => new_sb P W hP)
  rw [List.length_replicate] at HN
  have hcase : decide (c < 0) = true ∨ (decide (c < 0) = false ∧ decide (4 < c) = true) ∨ (decide (c < 0) = false ∧ decide (4 < c) = false ∧ decide (t < 0) = true) ∨ (decide (c < 0) = false ∧ decide (4 < c) = false ∧ decide (t < 0) = false ∧ decide (3 < t) = true) ∨ (decide (c < 0) = false ∧ decide (4 < c) = false ∧ decide (t < 0) = false ∧ decide (3 < t) = false ∧ decide (q < 0) = true) ∨ (decide (c < 0) = false ∧ decide (4 < c) = false ∧ decide (t < 0) = false ∧ decide (3 < t) = false ∧ decide (q < 0) = false ∧ decide (16 < q) = true) := by
    simp only [isC, isT, isQ, decide_eq_false_iff_not, decide_eq_true_eq] at *
    omega
  clear hn
  rcases hcase with h1 | ⟨h1, h2⟩ | ⟨h1, h2, h3⟩ | ⟨h1, h2, h3, h4⟩ | ⟨h1, h2, h3, h4, h5⟩ | ⟨h1, h2, h3, h4, h5, h6⟩
  all_goals
    go_enter Try.func7, Try.ntmps7
    go_wp2_with (first
      | (go_at_call 30; refine (alive_any _).mono ?_; rintro e w1 ⟨rfl, hb1⟩)
      | (go_at_call 9; refine (HN.out _).mono ?_; rintro e w2 ⟨ro, rc, rfl, -, -, hb2⟩))
    go_ret
    exact ⟨rfl, (hb1.trans (hb2.mono hb1.size)).alloc (Nat.le_trans hb1.size hb2.size) _⟩
set_option maxHeartbeats 4000000 in
theorem fills_good (w : World) (P C Q : Nat) (hP : 1 ≤ P ∧ P ≤ 16) (t : Int) (ht : isT t = true) (hc : isC (C : Int) = true) (hQ : Q ≤ 16) :
    Calls Try.prog 7 #[.int .i64 P, .int .i64 t, .int .i64 C, .int .i64 Q] w fun e w' => e = .returned (.bool true) ∧ Below w.heap.size w w' := by
  have HN := Hid.mk2 (fun W => new_sb P W hP)
  have hC5 : C < 5 := by simp [isC] at hc; omega
  have g1 : decide ((C : Int) < 0) = false := by simp
  have g2 : decide ((4 : Int) < (C : Int)) = false := by simp; omega
  have g2n : decide (4 < C) = false := by simp; omega
  have g3 : decide (t < 0) = false := by simp [isT] at ht; simp; omega
  have g4 : decide (3 < t) = false := by simp [isT] at ht; simp; omega
  have g5 : decide ((Q : Int) < 0) = false := by simp
  have g6 : decide ((16 : Int) < (Q : Int)) = false := by simp; omega
  have g6n : decide (16 < Q) = false := by simp; omega
  have hcl := chunks_le hc
  have hsh : (16 : Int) / 2 ^ C = (chunks (C : Int) : Int) := by unfold chunks; rw [Int.toNat_natCast]; simp
  have HST := Hid.mk2 (fun n (hn : n / chunks (C : Int) < P) (hq : ((n / chunks (C : Int) : Nat) : Int) < (Q : Int)) => And.intro (place_st (t := t) hc hn hq) (taken_st (t := t) hc hn))
  have HEN := Hid.mk2 (place_end (P := P) (Q := Q) (t := t) hc)
  have HOK := Hid.mk2 (fun n => stN_ok (n := n) hP ht hc)
  have HCC := Hid.mk2 hc
  have HTT := Hid.mk2 ht
  rw [← stN_zero P t (C : Int) (chunks (C : Int)), stN_len] at HN
  obtain ⟨e, he⟩ : ∃ e, e = chunks (C : Int) := ⟨_, rfl⟩
  rw [← he] at hcl hsh HST HEN HOK HN
  obtain ⟨m, hm⟩ : ∃ m : Nat, m = min Q P := ⟨_, rfl⟩
  obtain ⟨M, hM⟩ : ∃ M : Nat, M = m * e := ⟨_, rfl⟩
  rw [← hm, ← hM] at HEN
  have hsel : ((P : Int) < (Q : Int) ∧ m = P) ∨ (¬ (P : Int) < (Q : Int) ∧ m = Q) := by rw [hm]; omega
  have hmul : (m : Int) * (e : Int) = (M : Int) := by rw [hM]; simp
  have hM256 : M ≤ 256 := by
    have h1 : m ≤ 16 := by omega
    rw [hM]
    exact Nat.mul_le_mul h1 hcl.2
  have HDQ : Hid (∀ n, n < M → n / e < P ∧ ((n / e : Nat) : Int) < (Q : Int)) := by
    intro n hn
    have h1 : n / e < m := (Nat.div_lt_iff_lt_mul (by omega)).2 (by rw [← hM]; exact hn)
    omega
  have HTKE := Hid.mk2 (fun n (hn : n < M) => show takeE (stN P t (C : Int) e n) t (C : Int) (Q : Int) = 0 ∧ takeR (stN P t (C : Int) e n) t (C : Int) (Q : Int) = (stN P t (C : Int) e (n + 1), n / e, n % e) from by
    obtain ⟨d1, d2⟩ := HDQ.out n hn
    obtain ⟨p1, p2⟩ := HST.out n d1 d2
    have hE : takeE (stN P t (C : Int) e n) t (C : Int) (Q : Int) = 0 := by
      unfold takeE
      rw [if_neg (by rw [HOK.out n]; decide), if_neg (by rw [HTT.out]; decide), if_neg (by rw [HCC.out]; decide), if_neg (by simp [isQ]; omega), if_neg (by rw [p1]; simp)]
    refine ⟨hE, ?_⟩
    unfold takeR
    rw [if_pos hE, p1]
    simp only
    rw [p2])
  have HTKN : Hid (takeE (stN P t (C : Int) e M) t (C : Int) (Q : Int) = 9 ∧ takeR (stN P t (C : Int) e M) t (C : Int) (Q : Int) = ([], 0, 0)) := by
    have hE : takeE (stN P t (C : Int) e M) t (C : Int) (Q : Int) = 9 := by
      unfold takeE
      rw [if_neg (by rw [HOK.out M]; decide), if_neg (by rw [HTT.out]; decide), if_neg (by rw [HCC.out]; decide), if_neg (by simp [isQ]; omega), if_pos (by rw [HEN.out]; rfl)]
    exact ⟨hE, by unfold takeR; rw [if_neg (by rw [hE]; decide)]⟩
  clear HST HEN HOK HCC HTT he hm hM ht hc
  rcases hsel with ⟨hPQ, hmm⟩ | ⟨hPQ, hmm⟩
  all_goals
    have hmm2 := hmm.symm
    subst hmm2
    go_enter Try.func7, Try.ntmps7
    go_upto_region 5 with (first
      | (go_at_call 30; refine (alive_any _).mono ?_; rintro e' w1 ⟨rfl, hb1⟩)
      | (go_at_call 9; refine (HN.out _).mono ?_; rintro e' w2 ⟨ro, rc, rfl, hs2, -, hb2⟩))
    obtain ⟨w3, hw3⟩ : ∃ w3, w3 = w2.alloc (Obj.cells #[Value.slice ro P rc] 24) := ⟨_, rfl⟩
    obtain ⟨SB, hSB⟩ : ∃ SB, SB = w2.heap.size := ⟨_, rfl⟩
    rw [← hw3, ← hSB]
    have hb3 : Below w2.heap.size w2 w3 := by rw [hw3]; exact (Below.refl _ _).alloc (Nat.le_refl _) _
    have a3 : w3.cell? ⟨SB, 0, none⟩ = some (.slice ro P rc) := by rw [hw3, hSB]; simp
    have f3 : w3.frozen? ⟨SB, 0, none⟩ = false := by rw [hw3, hSB]; simp
    have x3 : SB < w3.heap.size := by rw [hw3, hSB]; simp
    have hSBw : w.heap.size ≤ SB := by rw [hSB]; exact Nat.le_trans hb1.size hb2.size
    have HS3 := Hid.mk2 (hs2.below hb3)
    have HB3 := Hid.mk2 ((hb1.trans (hb2.mono hb1.size)).trans (hb3.mono (Nat.le_trans hb1.size hb2.size)))
    clear hw3 hSB hb1 hb2 hb3 hs2 HN
    go_wp2
    go_loopw [13] (fun s13 wr => ∃ (n : Nat) (ro' : Option Addr) (rc' : Nat), n ≤ M ∧ s13 = .int .i64 n ∧ wr.cell? ⟨SB, 0, none⟩ = some (.slice ro' P rc') ∧ wr.frozen? ⟨SB, 0, none⟩ = false ∧ SB < wr.heap.size ∧ Hid (Sb wr ro' (stN P t (C : Int) e n) rc') ∧ Hid (Below w.heap.size w wr)) (fun s13 _ => M + 1 - (intOf s13).toNat)
    case atStart => exact ⟨0, ro, rc, Nat.zero_le _, rfl, a3, f3, x3, HS3, HB3⟩
    case round =>
      obtain ⟨n, ro', rc', hn, rfl, a4, f4, x4, HS4, HB4⟩ := hrel
      clear a3 f3 x3 HS3 HB3
      have k1 : decide ((n : Int) ≤ (M : Int)) = true := by simp; omega
      have k1n : decide (n ≤ M) = true := by simp; omega
      by_cases hlt : n < M
      · have k2 : ((n : Int) == (M : Int)) = false := by simp; omega
        have HTA := Hid.mk2 (fun W (h : Sb W ro' (stN P t (C : Int) e n) rc') => take_sb W ro' (stN P t (C : Int) e n) rc' h t (C : Int) (Q : Int) 0 (stN P t (C : Int) e (n + 1)) (n / e) (n % e) (HTKE.out n hlt).1 (HTKE.out n hlt).2)
        rw [stN_len, stN_len] at HTA
        have k3 : (n : Int) / (e : Int) = ((n / e : Nat) : Int) := by simp
        have k4 : (n : Int) % (e : Int) = ((n % e : Nat) : Int) := by simp
        have k5 : Int.tdiv (n : Int) (e : Int) = ((n / e : Nat) : Int) := by rw [Int.tdiv_eq_ediv_of_nonneg (by omega)]; simp
        have k6 : Int.tmod (n : Int) (e : Int) = ((n % e : Nat) : Int) := by rw [Int.tmod_eq_emod_of_nonneg (by omega)]; simp
        have hDn : n / e ≤ n := Nat.div_le_self _ _
        have hRn : n % e ≤ n := Nat.mod_le _ _
        obtain ⟨D, hD⟩ : ∃ D, D = n / e := ⟨_, rfl⟩
        obtain ⟨R, hR⟩ : ∃ R, R = n % e := ⟨_, rfl⟩
        rw [← hD] at HTA k3 k5 hDn
        rw [← hR] at HTA k4 k6 hRn
        clear hD hR
        have k7 : ((e : Int) == 0) = false := by simp; omega
        have k8 : (e : Int) ≠ 0 := by omega
        go_upto_region 16 with (go_at_call 11; refine (HTA.out _ HS4.out).mono ?_; rintro e' w5 ⟨ro5, rc5, rfl, -, hf5, hb5⟩; have a5 := (below_cells hb5 _ 0 x4).trans a4; have f5 := (below_frozen hb5 _ 0 x4).trans f4; have x5 := Nat.lt_of_lt_of_le x4 hb5.size)
        have HF5 := Hid.mk2 hf5
        have HB5 := Hid.mk2 (HB4.out.trans (hb5.mono HB4.out.size))
        have HL5 := Hid.mk2 (Nat.le_trans HB4.out.size hb5.size)
        have x6 : SB < wr.heap.size := x4
        have hs5 := hb5.size
        clear hf5 hb5 a4 f4 x4
        go_wp2
        go_roundw
        case rel => exact ⟨n + 1, ro5, rc5, by omega, by go_num, fill_cell a5 x5 _ _, fill_frozen f5 x5 _ _, by simp; omega, fresh_store' HF5.out x6 _ _, fill_below HB5.out hSBw HL5.out _ _⟩
        case measure => simp [intOf]; omega
      · have hnM : n = M := by omega
        subst hnM
        have HTA := Hid.mk2 (fun W (h : Sb W ro' (stN P t (C : Int) e n) rc') => take_sb W ro' (stN P t (C : Int) e n) rc' h t (C : Int) (Q : Int) 9 [] 0 0 HTKN.out.1 HTKN.out.2)
        rw [stN_len, List.length_nil] at HTA
        go_wp2_with (go_at_call 11; refine (HTA.out _ HS4.out).mono ?_; rintro e' w5 ⟨ro5, rc5, rfl, -, -, hb5⟩)
        go_ret
        exact ⟨rfl, (HB4.out.trans (hb5.mono HB4.out.size)).alloc (Nat.le_trans HB4.out.size hb5.size) _⟩
theorem slabFills_walk (w : World) (pg : Int) (w0 : (Lit.int .i64 pg).wf = true) (t : Int) (w1 : (Lit.int .i64 t).wf = true) (c : Int) (w2 : (Lit.int .i64 c).wf = true) (q : Int) (w3 : (Lit.int .i64 q).wf = true) :
    Calls Try.prog 7 #[.int .i64 pg, .int .i64 t, .int .i64 c, .int .i64 q] w fun e w' => e = .returned (.bool true) ∧ Below w.heap.size w w' := by
  by_cases hP : 1 ≤ pg ∧ pg ≤ 16
  · obtain ⟨P, rfl⟩ : ∃ P : Nat, pg = (P : Int) := ⟨pg.toNat, by omega⟩
    have hP2 : 1 ≤ P ∧ P ≤ 16 := by omega
    cases eC : isC c
    · exact fills_arg w P hP2 t c q (.inl eC)
    cases eT : isT t
    · exact fills_arg w P hP2 t c q (.inr (.inl eT))
    cases eQ : isQ q
    · exact fills_arg w P hP2 t c q (.inr (.inr eQ))
    have hc : 0 ≤ c := by simp [isC] at eC; omega
    have hq : 0 ≤ q ∧ q ≤ 16 := by simpa [isQ] using eQ
    obtain ⟨C, rfl⟩ : ∃ C : Nat, c = (C : Int) := ⟨c.toNat, by omega⟩
    obtain ⟨Q, rfl⟩ : ∃ Q : Nat, q = (Q : Int) := ⟨q.toNat, by omega⟩
    exact fills_good w P C Q hP2 t eT eC (by omega)
  · exact fills_bad w pg t c q hP

set_option maxRecDepth 100000 in
theorem slabFills_lifted (os : Os) (started : os.Started) (H : Type) (enc : TypeId × Value → H) :
    ReturnsInHanded {} Try.checked os 7 .any (Rows.slabFillsSpec.pre6 enc Try.prog Try.f7 Rows.slabFillsRow.domain false) (Rows.slabFillsSpec.post enc Try.prog Try.f7 false true false false) := by
  refine returnsInHanded_of_change (C := Try.checked) (by kernel_rfl) started (by kernel_rfl) Try.func7
    (ChangeSpec.witness6 (enc := enc) (C := Try.checked) false ⟨#[], #[.int .i64 0, .int .i64 0, .int .i64 0, .int .i64 0], []⟩ 8 (by kernel_rfl) (by kernel_rfl) (by kernel_rfl) (by kernel_rfl)) ?_
  intro W base args ds gs before hval0 hW hcnd _
  have hval : ∀ (j : Nat) t v, Try.f7.params[j]? = some t → args[j]? = some v → Value.okWide Try.prog W .any base t v := hval0
  have hW' := hW
  obtain ⟨p, q, hA0, hV, rfl, hfz, hnd⟩ := hW
  have hA : DataW.TrodAll enc Try.prog W 0 (fun _ => true) true Try.f7.params.toList args.toList ds p := hA0
  rw [Try.params7] at hA hval
  obtain ⟨v0, vs0, d0, ds0, p0, q0, hargs, rfl, rfl, h0, r0⟩ := trodAll_cons hA
  obtain ⟨v1, vs1, d1, ds1, p1, q1, rfl, rfl, rfl, h1, r1⟩ := trodAll_cons r0
  obtain ⟨v2, vs2, d2, ds2, p2, q2, rfl, rfl, rfl, h2, r2⟩ := trodAll_cons r1
  obtain ⟨v3, vs3, d3, ds3, p3, q3, rfl, rfl, rfl, h3, r3⟩ := trodAll_cons r2
  obtain ⟨rfl, rfl, rfl⟩ := trodAll_nil r3
  obtain rfl : args = #[v0, v1, v2, v3] := by cases args; simp_all
  obtain ⟨rfl, rfl⟩ := trodVars_none hV
  obtain ⟨a0, rfl, rfl, rfl, w0⟩ := open_int Try.underlying3 (hval 0 3 v0 rfl rfl) h0
  obtain ⟨a1, rfl, rfl, rfl, w1⟩ := open_int Try.underlying3 (hval 1 3 v1 rfl rfl) h1
  obtain ⟨a2, rfl, rfl, rfl, w2⟩ := open_int Try.underlying3 (hval 2 3 v2 rfl rfl) h2
  obtain ⟨a3, rfl, rfl, rfl, w3⟩ := open_int Try.underlying3 (hval 3 3 v3 rfl rfl) h3
  clear hA0 hval0
  refine (slabFills_walk W a0 w0 a1 w1 a2 w2 a3 w3).mono fun e W' ⟨he, bel⟩ => ?_
  subst he
  exact ⟨_, rfl, _, _, _, [], _, [], hW', trodAll_mk1 (shut_bool Try.underlying4 _), (trodAll_cons_mk (shut_int Try.underlying3 w0) (trodAll_cons_mk (shut_int Try.underlying3 w1) (trodAll_cons_mk (shut_int Try.underlying3 w2) (trodAll_cons_mk (shut_int Try.underlying3 w3) trodAll_mk0)))), rfl, bel.frame _, fun h => by cases h⟩

theorem slabFills_proved : Rows.SlabFillsSaid :=
  OpenClaim.holds_of_wide 7 Try.f7 rfl rfl rfl rfl rfl rfl rfl ⟨rfl, rfl, rfl, rfl, rfl⟩ rfl rfl rfl rfl rfl (by kernel_rfl) Try.func7 (by kernel_rfl)
    (of_decide_eq_true (by kernel_rfl)) (by unfold Func.isWrapper; first | (rw [if_pos (by decide +kernel)]; kernel_rfl) | (rw [if_neg (by decide +kernel)]; exact ⟨rfl, rfl⟩))
    (fun os started H enc _ => slabFills_lifted os started H enc)
#print axioms slabFills_proved
end Go.Proofs.Ytfdnkcahblpanae
