/-
  Package ticket: contract of needs.
-/
import Derived.Test.YtpnmokmadbapoaaTkE
namespace Go.Proofs.Ytpnmokmadbapoaa
open Go.RowKit
set_option linter.unusedSimpArgs false
set_option linter.unusedVariables false
set_option maxRecDepth 100000

set_option maxHeartbeats 2000000 in
theorem needs12_any (t : Tk) (n : Nat) (hn0 : 1 ≤ n) (hn1 : n ≤ 4) (hmay : t.may = true) (ka : Option Addr) (ca ma : Nat) (hma : ma = t.c.keys.length) (w : World) (ha : GRd ES w ka t.c.keys ca) :
    Calls Try.prog 66 #[.agg (t.arr (.slice ka ma ca)), .int .i64 n] w fun e w' => ∃ v, e = .returned v ∧ GOwn EI w' w.heap.size v (t.needs n) ∧ Below w.heap.size w w' := by
  subst hma
  obtain ⟨va, hva⟩ : ∃ va, va = Value.slice ka t.c.keys.length ca := ⟨_, rfl⟩
  rw [← hva]
  obtain ⟨W, hW⟩ : ∃ W, W = w.alloc (.cells (t.arr va) 68) := ⟨_, rfl⟩
  have HB : Hid (Below w.heap.size w W) := by rw [hW]; exact g_alloc _ _
  have HX : Hid (GBx W w.heap.size (t.cl va)) := by rw [hW]; exact GBx.made w (t.cl va) _
  have HC := Hid.mk2 (pshards_any t.c ka ca n W (ha.below HB.out))
  rw [← hva] at HC
  have H1 : Hid (t.kind = 1 → t.needs n = t.c.shL n ∧ t.c.shE n = 0) := by
    intro h
    have hm := hmay
    unfold Tk.may at hm
    rw [if_pos h] at hm
    simp only [Bool.and_eq_true] at hm
    rw [Tk.needs_cmd h]
    unfold Cm.shL Cm.shE
    rw [if_pos ⟨hm.1.1, by omega, by omega⟩, if_pos hm.1.1, if_pos ⟨by omega, by omega⟩]
    exact ⟨rfl, rfl⟩
  have H2 : Hid (¬ t.kind = 1 → t.needs n = (List.range n).map fun (i : Nat) => (i : Int)) := fun h => Tk.needs_all h n
  obtain ⟨L, hL⟩ : ∃ L, L = t.needs n := ⟨_, rfl⟩
  obtain ⟨S, hS⟩ : ∃ S, S = t.c.shL n := ⟨_, rfl⟩
  obtain ⟨E, hE⟩ : ∃ E, E = t.c.shE n := ⟨_, rfl⟩
  rw [← hL] at H1 H2 ⊢
  rw [← hS, ← hE] at H1 HC
  clear hL hS hE ha hva hmay
  obtain ⟨num, kind, ⟨ckind, tenant, keys, value, flags, life, unique, by_⟩, ten, dest⟩ := t
  unfold Tk.arr at *
  unfold Cm.arr at *
  unfold Tk.cl at HX
  dsimp only at *
  have x0 := HX.out.c 0 (by simp)
  have x1 := HX.out.c 1 (by simp)
  have x2 := HX.out.c 2 (by simp)
  have x3 := HX.out.c 3 (by simp)
  have x4 := HX.out.c 4 (by simp)
  have x5 := HX.out.c 5 (by simp)
  have x6 := HX.out.c 6 (by simp)
  have x7 := HX.out.c 7 (by simp)
  have x8 := HX.out.c 8 (by simp)
  have x9 := HX.out.c 9 (by simp)
  have x10 := HX.out.c 10 (by simp)
  have x11 := HX.out.c 11 (by simp)
  simp only [List.getElem_cons_zero, List.getElem_cons_succ] at x0 x1 x2 x3 x4 x5 x6 x7 x8 x9 x10 x11
  have hlt := HX.out.lt
  clear HX
  go_enter Try.func66, Try.ntmps66
  go_upto_region 1 with (fail)
  rw [← hW]
  clear hW
  by_cases a1 : kind = 1
  · obtain ⟨e1, e2⟩ := H1.out a1
    subst a1 e1 e2
    clear H1 H2
    go_wp2_with (go_at_call 11; refine HC.out.mono ?_; rintro e w1 ⟨v1, rfl, hO1, hb1⟩)
    go_ret
    exact ⟨_, rfl, hO1.down HB.out.size, g_on HB.out hb1⟩
  · have e := H2.out a1
    subst e
    have f1 : (kind == 1) = false := beq_eq_false_iff_ne.2 a1
    clear H1 H2 HC
    have HS : Hid (∀ k : Nat, (List.range (k + 1)).map (fun (i : Nat) => (i : Int)) = (List.range k).map (fun (i : Nat) => (i : Int)) ++ [(k : Int)]) := by intro k; rw [List.range_succ]; simp
    have HSL : Hid (∀ k : Nat, ((List.range k).map (fun (i : Nat) => (i : Int))).length = k) := by intro k; simp
    obtain ⟨R, hR⟩ : ∃ R : Nat → List Int, ∀ k, R k = (List.range k).map (fun (i : Nat) => (i : Int)) := ⟨_, fun _ => rfl⟩
    have HR0 : Hid (R 0 = []) := by show _ = _; rw [hR]; rfl
    simp only [← hR] at HS HSL ⊢
    have HRR := Hid.mk2 hR
    clear hR
    have hz := HB.out.size
    go_wp2
    go_loopw [7, 8, 21] (fun v _ i wr => ∃ (k : Nat) (v5 : Value), k ≤ n ∧ i = .int .i64 k ∧ v = v5 ∧ Hid (Below W.heap.size W wr) ∧ Hid (GOwn EI wr W.heap.size v5 (R k))) (fun _ _ i _ => n - (intOf i).toNat)
    case atStart => exact ⟨0, _, Nat.zero_le _, rfl, rfl, Below.refl _ _, by show GOwn _ _ _ _ _; rw [HR0.out]; exact GOwn.nil _ _⟩
    case round =>
      obtain ⟨k, v5, hkn, rfl, rfl, HBW, HOW⟩ := hrel
      have hbz := HBW.out.size
      by_cases hkl : k < n
      · have hkl2 : (k : Int) < (n : Int) := by omega
        have HE := Hid.mk2 (HS.out k)
        have HLT : Hid ((R k).length + 1 ≤ 1000000) := by show _ ≤ _; rw [HSL.out]; omega
        go_wp2_with (at_builtin; refine g_one (w0 := wr) okI rfl _ _ _ rfl rfl W.heap.size _ (R k) HOW.out rfl (k : Int) rfl _ rfl rfl HLT.out hbz ?_; intro v7 w7 hO7 hG7; have HO7 := Hid.mk2 hO7; have HG7 := Hid.mk2 hG7; clear hO7 hG7)
        go_roundw
        case rel => exact ⟨k + 1, v7, by omega, by go_num, rfl, HBW.out.trans (HG7.out.below HOW.out hbz), by show GOwn _ _ _ _ _; rw [HE.out]; exact HO7.out⟩
        case measure => simp [intOf]; omega
      · have ek : k = n := by omega
        have hkl2 : ¬ ((k : Int) < (n : Int)) := by omega
        subst ek
        go_wp2
        go_ret
        exact ⟨_, rfl, (by have h9 := HOW.out.down hz; rw [HRR.out] at h9; exact h9), g_on HB.out HBW.out⟩
end Go.Proofs.Ytpnmokmadbapoaa
