/-
  Package ticket: contracts of isNone, same, mayBe, needs.
-/
import Derived.Test.YtpnmokmadbapoaaTkD
namespace Go.Proofs.Ytpnmokmadbapoaa
open Go.RowKit
set_option linter.unusedSimpArgs false
set_option linter.unusedVariables false
set_option maxRecDepth 100000

theorem GBx.cells {w : World} {b : Nat} {vs : List Value} (h : GBx w b vs) : ∀ j u, vs[j]? = some u → w.cell? ⟨b, j, none⟩ = some u := by
  intro j u hu
  obtain ⟨hj, e⟩ := List.getElem?_eq_some_iff.1 hu
  rw [h.c j hj, e]
set_option maxHeartbeats 1000000 in
theorem isNone_any (a : Cm) (ka : Option Addr) (ca ma : Nat) (hma : ma = a.keys.length) (w : World) (ha : GRd ES w ka a.keys ca) :
    Calls Try.prog 89 #[.agg (a.arr (.slice ka ma ca))] w fun e w' => e = .returned (.bool (decide (a = noC))) ∧ Below w.heap.size w w' := by
  have HS := Hid.mk2 (fun W (hW : Below w.heap.size w W) => sameCommand_any a noC ka none ca 0 ma 0 hma rfl W (ha.below hW) (GRd.nil W))
  obtain ⟨D, hD⟩ : ∃ D, D = decide (a = noC) := ⟨_, rfl⟩
  rw [← hD] at HS ⊢
  obtain ⟨v, hv⟩ : ∃ v, v = Value.slice ka ma ca := ⟨_, rfl⟩
  rw [← hv] at HS ⊢
  clear hD hma ha hv
  obtain ⟨kind, tenant, keys, value, flags, life, unique, by_⟩ := a
  unfold Cm.arr noC at HS
  unfold Cm.arr
  dsimp only at *
  go_enter Try.func89, Try.ntmps89
  go_wp2_with (go_at_call 102; refine (HS.out _ (g_alloc _ _)).mono ?_; rintro e w1 ⟨rfl, hb1⟩)
  go_ret
  exact ⟨rfl, g_behind hb1⟩
theorem tk_ne {a b : Tk} (h : ¬ (a.num = b.num ∧ a.kind = b.kind ∧ a.ten = b.ten ∧ a.dest = b.dest ∧ a.c = b.c)) : decide (a = b) = false := by
  rw [decide_eq_false_iff_not]
  intro e
  subst e
  exact h ⟨rfl, rfl, rfl, rfl, rfl⟩
theorem tk_eq {a b : Tk} (h1 : a.num = b.num) (h2 : a.kind = b.kind) (h3 : a.ten = b.ten) (h4 : a.dest = b.dest) : decide (a = b) = decide (a.c = b.c) := by
  rw [Bool.eq_iff_iff, decide_eq_true_iff, decide_eq_true_iff]
  constructor
  · intro e; rw [e]
  · intro e; cases a; cases b; simp_all
set_option maxHeartbeats 2000000 in
theorem same12_any (a b : Tk) (ka kb : Option Addr) (ca cb ma mb : Nat) (hma : ma = a.c.keys.length) (hmb : mb = b.c.keys.length) (w : World) (ha : GRd ES w ka a.c.keys ca) (hb : GRd ES w kb b.c.keys cb) :
    Calls Try.prog 103 #[.agg (a.arr (.slice ka ma ca)), .agg (b.arr (.slice kb mb cb))] w fun e w' => e = .returned (.bool (decide (a = b))) ∧ Below w.heap.size w w' := by
  obtain ⟨va, hva⟩ : ∃ va, va = Value.slice ka ma ca := ⟨_, rfl⟩
  obtain ⟨vb, hvb⟩ : ∃ vb, vb = Value.slice kb mb cb := ⟨_, rfl⟩
  rw [← hva, ← hvb]
  obtain ⟨W, hW⟩ : ∃ W, W = (w.alloc (.cells (a.arr va) 68)).alloc (.cells (b.arr vb) 68) := ⟨_, rfl⟩
  have HB : Hid (Below w.heap.size w W) := by rw [hW]; exact g_on (g_alloc _ _) (g_alloc _ _)
  have HX : Hid (GBx W w.heap.size (a.cl va)) := by rw [hW]; exact (GBx.made w (a.cl va) _).alloc _
  have HY : Hid (GBx W (w.heap.size + 1) (b.cl vb)) := by
    rw [hW]
    have := GBx.made (w.alloc (.cells (a.arr va) 68)) (b.cl vb) 68
    rw [show (w.alloc (.cells (a.arr va) 68)).heap.size = w.heap.size + 1 by simp] at this
    exact this
  have HEQ := Hid.mk2 (sameCommand_any a.c b.c ka kb ca cb ma mb hma hmb W (ha.below HB.out) (hb.below HB.out))
  rw [← hva, ← hvb] at HEQ
  have HD := Hid.mk2 (@tk_ne a b)
  have HT := Hid.mk2 (@tk_eq a b)
  obtain ⟨D, hD⟩ : ∃ D, D = decide (a = b) := ⟨_, rfl⟩
  obtain ⟨E, hE⟩ : ∃ E, E = decide (a.c = b.c) := ⟨_, rfl⟩
  rw [← hD] at HD HT ⊢
  rw [← hE] at HT HEQ
  clear hD hE ha hb hva hvb hma hmb
  obtain ⟨num, kind, ⟨ckind, tenant, keys, value, flags, life, unique, by_⟩, ten, dest⟩ := a
  obtain ⟨num', kind', ⟨ckind', tenant', keys', value', flags', life', unique', by_'⟩, ten', dest'⟩ := b
  unfold Tk.arr at *
  unfold Cm.arr at *
  unfold Tk.cl at HX HY
  dsimp only at *
  have x0 := HX.out.c 0 (by simp)
  have x1 := HX.out.c 1 (by simp)
  have x2 := HX.out.c 2 (by simp)
  have x3 := HX.out.c 3 (by simp)
  have x4 := HX.out.c 4 (by simp)
  have x5 := HX.out.c 5 (by simp)
  have x6 := HX.out.c 6 (by simp)
  have x7 := HX.out.c 7 (by simp)
  have x8 := HX.out.c 8 (by simp)
  have x9 := HX.out.c 9 (by simp)
  have x10 := HX.out.c 10 (by simp)
  have x11 := HX.out.c 11 (by simp)
  have y0 := HY.out.c 0 (by simp)
  have y1 := HY.out.c 1 (by simp)
  have y2 := HY.out.c 2 (by simp)
  have y3 := HY.out.c 3 (by simp)
  have y4 := HY.out.c 4 (by simp)
  have y5 := HY.out.c 5 (by simp)
  have y6 := HY.out.c 6 (by simp)
  have y7 := HY.out.c 7 (by simp)
  have y8 := HY.out.c 8 (by simp)
  have y9 := HY.out.c 9 (by simp)
  have y10 := HY.out.c 10 (by simp)
  have y11 := HY.out.c 11 (by simp)
  simp only [List.getElem_cons_zero, List.getElem_cons_succ] at x0 x1 x2 x3 x4 x5 x6 x7 x8 x9 x10 x11 y0 y1 y2 y3 y4 y5 y6 y7 y8 y9 y10 y11
  have hlt := HX.out.lt
  have hlt1 := HY.out.lt
  clear HX HY
  go_enter Try.func103, Try.ntmps103
  go_upto_region 1 with (fail)
  rw [← hW]
  clear hW
  by_cases a0 : num = num'
  case neg =>
    have e : D = false := HD.out fun h => a0 h.1
    subst e
    have f0 : (num == num') = false := beq_eq_false_iff_ne.2 a0
    clear HD HT a0
    go_wp2
    go_ret
    exact ⟨rfl, HB.out⟩
  subst a0
  by_cases a1 : kind = kind'
  case neg =>
    have e : D = false := HD.out fun h => a1 h.2.1
    subst e
    have f1 : (kind == kind') = false := beq_eq_false_iff_ne.2 a1
    clear HD HT a1
    go_wp2
    go_ret
    exact ⟨rfl, HB.out⟩
  subst a1
  by_cases a2 : ten = ten'
  case neg =>
    have e : D = false := HD.out fun h => a2 h.2.2.1
    subst e
    have f2 : (ten == ten') = false := beq_eq_false_iff_ne.2 a2
    clear HD HT a2
    go_wp2
    go_ret
    exact ⟨rfl, HB.out⟩
  subst a2
  by_cases a3 : dest = dest'
  case neg =>
    have e : D = false := HD.out fun h => a3 h.2.2.2.1
    subst e
    have f3 : (dest == dest') = false := beq_eq_false_iff_ne.2 a3
    clear HD HT a3
    go_wp2
    go_ret
    exact ⟨rfl, HB.out⟩
  subst a3
  have e : D = E := HT.out rfl rfl rfl rfl
  subst e
  clear HD HT
  go_wp2_with (go_at_call 102; refine HEQ.out.mono ?_; rintro e w1 ⟨rfl, hb1⟩)
  go_ret
  exact ⟨rfl, g_on HB.out hb1⟩

set_option maxHeartbeats 2000000 in
theorem mayBe_any (t : Tk) (ka : Option Addr) (ca ma : Nat) (hma : ma = t.c.keys.length) (w : World) (ha : GRd ES w ka t.c.keys ca) :
    Calls Try.prog 65 #[.agg (t.arr (.slice ka ma ca))] w fun e w' => e = .returned (.bool t.may) ∧ Below w.heap.size w w' := by
  subst hma
  obtain ⟨va, hva⟩ : ∃ va, va = Value.slice ka t.c.keys.length ca := ⟨_, rfl⟩
  rw [← hva]
  obtain ⟨W, hW⟩ : ∃ W, W = w.alloc (.cells (t.arr va) 68) := ⟨_, rfl⟩
  have HB : Hid (Below w.heap.size w W) := by rw [hW]; exact g_alloc _ _
  have HX : Hid (GBx W w.heap.size (t.cl va)) := by rw [hW]; exact GBx.made w (t.cl va) _
  have HC := Hid.mk2 (fun w' (hb : Below W.heap.size W w') => pcheck_any t.c ka ca w' (ha.below (g_on HB.out hb)))
  have HN := Hid.mk2 (fun w' (hb : Below W.heap.size W w') => isNone_any t.c ka ca _ rfl w' (ha.below (g_on HB.out hb)))
  rw [← hva] at HC HN
  unfold Cm.chkE at HC
  have H1 : Hid (t.kind = 1 → t.may = (t.c.may && decide (t.ten = 0) && decide (t.dest = 0))) := by intro h; unfold Tk.may; rw [if_pos h]
  have H2 : Hid (t.kind = 2 → t.may = (decide (t.c = noC) && decide (t.ten = 0) && decide (0 ≤ t.dest) && decide (t.dest ≤ 1099511627776))) := by intro h; unfold Tk.may; rw [if_neg (by omega), if_pos h]
  have H3 : Hid (t.kind = 3 → t.may = (decide (t.c = noC) && decide (0 ≤ t.ten) && decide (t.ten < 4) && decide (0 ≤ t.dest) && decide (t.dest ≤ 16))) := by intro h; unfold Tk.may; rw [if_neg (by omega), if_neg (by omega)]; simp [h]
  have H4 : Hid (¬ t.kind = 1 → ¬ t.kind = 2 → ¬ t.kind = 3 → t.may = false) := by intro h1 h2 h3; unfold Tk.may; rw [if_neg h1, if_neg h2]; simp [h3]
  obtain ⟨M, hM⟩ : ∃ M, M = t.may := ⟨_, rfl⟩
  obtain ⟨E, hE⟩ : ∃ E, E = decide (t.c = noC) := ⟨_, rfl⟩
  obtain ⟨Y, hY⟩ : ∃ Y, Y = t.c.may := ⟨_, rfl⟩
  rw [← hM] at H1 H2 H3 H4 ⊢
  rw [← hE] at H2 H3 HN
  rw [← hY] at H1 HC
  clear hM hE hY ha hva
  obtain ⟨num, kind, ⟨ckind, tenant, keys, value, flags, life, unique, by_⟩, ten, dest⟩ := t
  unfold Tk.arr at *
  unfold Cm.arr at *
  unfold Tk.cl at HX
  dsimp only at *
  have x0 := HX.out.c 0 (by simp)
  have x1 := HX.out.c 1 (by simp)
  have x2 := HX.out.c 2 (by simp)
  have x3 := HX.out.c 3 (by simp)
  have x4 := HX.out.c 4 (by simp)
  have x5 := HX.out.c 5 (by simp)
  have x6 := HX.out.c 6 (by simp)
  have x7 := HX.out.c 7 (by simp)
  have x8 := HX.out.c 8 (by simp)
  have x9 := HX.out.c 9 (by simp)
  have x10 := HX.out.c 10 (by simp)
  have x11 := HX.out.c 11 (by simp)
  simp only [List.getElem_cons_zero, List.getElem_cons_succ] at x0 x1 x2 x3 x4 x5 x6 x7 x8 x9 x10 x11
  have hlt := HX.out.lt
  clear HX
  go_enter Try.func65, Try.ntmps65
  go_upto_region 1 with (fail)
  rw [← hW]
  clear hW
  by_cases a1 : kind = 1
  · have e := H1.out a1
    subst a1
    clear H1 H2 H3 H4 HN
    cases Y
    · rw [if_neg (by decide)] at HC
      have e' : M = false := by rw [e]; simp
      subst e'
      clear e
      go_wp2_with (go_at_call 21; refine (HC.out _ (Below.refl _ _)).mono ?_; rintro e w1 ⟨rfl, hb1⟩; (try have x10' := (hb1.cell (p := ⟨w.heap.size, 10, none⟩) hlt).trans x10); (try have x11' := (hb1.cell (p := ⟨w.heap.size, 11, none⟩) hlt).trans x11))
      go_ret
      exact ⟨by first | rfl | (simp; omega), g_on HB.out hb1⟩
    rw [if_pos rfl] at HC
    by_cases b1 : ten = 0
    case neg =>
      have f_b1 : (ten == 0) = false := beq_eq_false_iff_ne.2 b1
      have e' : M = false := by rw [e]; simp [b1]
      subst e'
      clear e b1
      go_wp2_with (go_at_call 21; refine (HC.out _ (Below.refl _ _)).mono ?_; rintro e w1 ⟨rfl, hb1⟩; (try have x10' := (hb1.cell (p := ⟨w.heap.size, 10, none⟩) hlt).trans x10); (try have x11' := (hb1.cell (p := ⟨w.heap.size, 11, none⟩) hlt).trans x11))
      go_ret
      exact ⟨by first | rfl | (simp; omega), g_on HB.out hb1⟩
    have f_b1 : (ten == 0) = true := beq_iff_eq.2 b1
    by_cases b2 : dest = 0
    case neg =>
      have f_b2 : (dest == 0) = false := beq_eq_false_iff_ne.2 b2
      have e' : M = false := by rw [e]; simp [b2]
      subst e'
      clear e b2
      go_wp2_with (go_at_call 21; refine (HC.out _ (Below.refl _ _)).mono ?_; rintro e w1 ⟨rfl, hb1⟩; (try have x10' := (hb1.cell (p := ⟨w.heap.size, 10, none⟩) hlt).trans x10); (try have x11' := (hb1.cell (p := ⟨w.heap.size, 11, none⟩) hlt).trans x11))
      go_ret
      exact ⟨by first | rfl | (simp; omega), g_on HB.out hb1⟩
    have f_b2 : (dest == 0) = true := beq_iff_eq.2 b2
    have e' : M = true := by rw [e]; simp [b1, b2]
    subst e'
    clear e
    go_wp2_with (go_at_call 21; refine (HC.out _ (Below.refl _ _)).mono ?_; rintro e w1 ⟨rfl, hb1⟩; (try have x10' := (hb1.cell (p := ⟨w.heap.size, 10, none⟩) hlt).trans x10); (try have x11' := (hb1.cell (p := ⟨w.heap.size, 11, none⟩) hlt).trans x11))
    go_ret
    exact ⟨by first | rfl | (simp; omega), g_on HB.out hb1⟩
  have f1 : (kind == 1) = false := beq_eq_false_iff_ne.2 a1
  by_cases a2 : kind = 2
  · have e := H2.out a2
    subst a2
    clear H1 H2 H3 H4 HC
    cases E
    · have e' : M = false := by rw [e]; simp
      subst e'
      clear e
      go_wp2_with (go_at_call 89; refine (HN.out _ (Below.refl _ _)).mono ?_; rintro e w1 ⟨rfl, hb1⟩; (try have x10' := (hb1.cell (p := ⟨w.heap.size, 10, none⟩) hlt).trans x10); (try have x11' := (hb1.cell (p := ⟨w.heap.size, 11, none⟩) hlt).trans x11))
      go_ret
      exact ⟨by first | rfl | (simp; omega), g_on HB.out hb1⟩
    by_cases b1 : ten = 0
    case neg =>
      have f_b1 : (ten == 0) = false := beq_eq_false_iff_ne.2 b1
      have e' : M = false := by rw [e]; simp [b1]
      subst e'
      clear e b1
      go_wp2_with (go_at_call 89; refine (HN.out _ (Below.refl _ _)).mono ?_; rintro e w1 ⟨rfl, hb1⟩; (try have x10' := (hb1.cell (p := ⟨w.heap.size, 10, none⟩) hlt).trans x10); (try have x11' := (hb1.cell (p := ⟨w.heap.size, 11, none⟩) hlt).trans x11))
      go_ret
      exact ⟨by first | rfl | (simp; omega), g_on HB.out hb1⟩
    have f_b1 : (ten == 0) = true := beq_iff_eq.2 b1
    by_cases b2 : (0 : Int) ≤ dest
    case neg =>
      have f_b2 : ¬ (0 : Int) ≤ dest := b2
      have e' : M = false := by rw [e]; simp [b2]
      subst e'
      clear e b2
      go_wp2_with (go_at_call 89; refine (HN.out _ (Below.refl _ _)).mono ?_; rintro e w1 ⟨rfl, hb1⟩; (try have x10' := (hb1.cell (p := ⟨w.heap.size, 10, none⟩) hlt).trans x10); (try have x11' := (hb1.cell (p := ⟨w.heap.size, 11, none⟩) hlt).trans x11))
      go_ret
      exact ⟨by first | rfl | (simp; omega), g_on HB.out hb1⟩
    have f_b2 : (0 : Int) ≤ dest := b2
    by_cases b3 : (dest : Int) ≤ 1099511627776
    case neg =>
      have f_b3 : ¬ (dest : Int) ≤ 1099511627776 := b3
      have e' : M = false := by rw [e]; simp [b3]
      subst e'
      clear e b3
      go_wp2_with (go_at_call 89; refine (HN.out _ (Below.refl _ _)).mono ?_; rintro e w1 ⟨rfl, hb1⟩; (try have x10' := (hb1.cell (p := ⟨w.heap.size, 10, none⟩) hlt).trans x10); (try have x11' := (hb1.cell (p := ⟨w.heap.size, 11, none⟩) hlt).trans x11))
      go_ret
      exact ⟨by first | rfl | (simp; omega), g_on HB.out hb1⟩
    have f_b3 : (dest : Int) ≤ 1099511627776 := b3
    have e' : M = true := by rw [e]; simp [b1, b2, b3]
    subst e'
    clear e
    go_wp2_with (go_at_call 89; refine (HN.out _ (Below.refl _ _)).mono ?_; rintro e w1 ⟨rfl, hb1⟩; (try have x10' := (hb1.cell (p := ⟨w.heap.size, 10, none⟩) hlt).trans x10); (try have x11' := (hb1.cell (p := ⟨w.heap.size, 11, none⟩) hlt).trans x11))
    go_ret
    exact ⟨by first | rfl | (simp; omega), g_on HB.out hb1⟩
  have f2 : (kind == 2) = false := beq_eq_false_iff_ne.2 a2
  by_cases a3 : kind = 3
  · have e := H3.out a3
    subst a3
    clear H1 H2 H3 H4 HC
    cases E
    · have e' : M = false := by rw [e]; simp
      subst e'
      clear e
      go_wp2_with (go_at_call 89; refine (HN.out _ (Below.refl _ _)).mono ?_; rintro e w1 ⟨rfl, hb1⟩; (try have x10' := (hb1.cell (p := ⟨w.heap.size, 10, none⟩) hlt).trans x10); (try have x11' := (hb1.cell (p := ⟨w.heap.size, 11, none⟩) hlt).trans x11))
      go_ret
      exact ⟨by first | rfl | (simp; omega), g_on HB.out hb1⟩
    by_cases b1 : (0 : Int) ≤ ten
    case neg =>
      have f_b1 : ¬ (0 : Int) ≤ ten := b1
      have e' : M = false := by rw [e]; simp [b1]
      subst e'
      clear e b1
      go_wp2_with (go_at_call 89; refine (HN.out _ (Below.refl _ _)).mono ?_; rintro e w1 ⟨rfl, hb1⟩; (try have x10' := (hb1.cell (p := ⟨w.heap.size, 10, none⟩) hlt).trans x10); (try have x11' := (hb1.cell (p := ⟨w.heap.size, 11, none⟩) hlt).trans x11))
      go_ret
      exact ⟨by first | rfl | (simp; omega), g_on HB.out hb1⟩
    have f_b1 : (0 : Int) ≤ ten := b1
    by_cases b2 : (ten : Int) < 4
    case neg =>
      have f_b2 : ¬ (ten : Int) < 4 := b2
      have e' : M = false := by rw [e]; simp [b2]
      subst e'
      clear e b2
      go_wp2_with (go_at_call 89; refine (HN.out _ (Below.refl _ _)).mono ?_; rintro e w1 ⟨rfl, hb1⟩; (try have x10' := (hb1.cell (p := ⟨w.heap.size, 10, none⟩) hlt).trans x10); (try have x11' := (hb1.cell (p := ⟨w.heap.size, 11, none⟩) hlt).trans x11))
      go_ret
      exact ⟨by first | rfl | (simp; omega), g_on HB.out hb1⟩
    have f_b2 : (ten : Int) < 4 := b2
    by_cases b3 : (0 : Int) ≤ dest
    case neg =>
      have f_b3 : ¬ (0 : Int) ≤ dest := b3
      have e' : M = false := by rw [e]; simp [b3]
      subst e'
      clear e b3
      go_wp2_with (go_at_call 89; refine (HN.out _ (Below.refl _ _)).mono ?_; rintro e w1 ⟨rfl, hb1⟩; (try have x10' := (hb1.cell (p := ⟨w.heap.size, 10, none⟩) hlt).trans x10); (try have x11' := (hb1.cell (p := ⟨w.heap.size, 11, none⟩) hlt).trans x11))
      go_ret
      exact ⟨by first | rfl | (simp; omega), g_on HB.out hb1⟩
    have f_b3 : (0 : Int) ≤ dest := b3
    by_cases b4 : (dest : Int) ≤ 16
    case neg =>
      have f_b4 : ¬ (dest : Int) ≤ 16 := b4
      have e' : M = false := by rw [e]; simp [b4]
      subst e'
      clear e b4
      go_wp2_with (go_at_call 89; refine (HN.out _ (Below.refl _ _)).mono ?_; rintro e w1 ⟨rfl, hb1⟩; (try have x10' := (hb1.cell (p := ⟨w.heap.size, 10, none⟩) hlt).trans x10); (try have x11' := (hb1.cell (p := ⟨w.heap.size, 11, none⟩) hlt).trans x11))
      go_ret
      exact ⟨by first | rfl | (simp; omega), g_on HB.out hb1⟩
    have f_b4 : (dest : Int) ≤ 16 := b4
    have e' : M = true := by rw [e]; simp [b1, b2, b3, b4]
    subst e'
    clear e
    go_wp2_with (go_at_call 89; refine (HN.out _ (Below.refl _ _)).mono ?_; rintro e w1 ⟨rfl, hb1⟩; (try have x10' := (hb1.cell (p := ⟨w.heap.size, 10, none⟩) hlt).trans x10); (try have x11' := (hb1.cell (p := ⟨w.heap.size, 11, none⟩) hlt).trans x11))
    go_ret
    exact ⟨by first | rfl | (simp; omega), g_on HB.out hb1⟩
  have f3 : (kind == 3) = false := beq_eq_false_iff_ne.2 a3
  have e := H4.out a1 a2 a3
  subst e
  clear H1 H2 H3 H4 HC HN
  go_wp2
  go_ret
  exact ⟨rfl, HB.out⟩

end Go.Proofs.Ytpnmokmadbapoaa
