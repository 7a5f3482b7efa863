/-
  The document's Same of tickets, and the statement's own meet; the contract of package ticket's Shards.
-/
import Derived.Test.YtpnmokmadbapoaaTkX
import Derived.Test.YtpnmokmadbapoaaOrRefX
namespace Go.Proofs.Ytpnmokmadbapoaa
open Go.RowKit
set_option linter.unusedSimpArgs false
set_option linter.unusedVariables false
set_option maxRecDepth 100000

set_option maxHeartbeats 2000000 in
theorem rsame12 (a b : Tk) (hab : a = b ∨ a.num ≠ b.num) (ka kb : Option Addr) (ca cb : Nat) (w : World) (ha : GRd ES w ka a.c.keys ca) (hb : GRd ES w kb b.c.keys cb) :
    Calls Try.prog 42 #[.agg (a.arr (.slice ka a.c.keys.length ca)), .agg (b.arr (.slice kb b.c.keys.length cb))] w fun e w' => e = .returned (.bool (decide (a.num = b.num))) ∧ Below w.heap.size w w' := by
  obtain ⟨va, hva⟩ : ∃ va, va = Value.slice ka a.c.keys.length ca := ⟨_, rfl⟩
  obtain ⟨vb, hvb⟩ : ∃ vb, vb = Value.slice kb b.c.keys.length cb := ⟨_, rfl⟩
  rw [← hva, ← hvb]
  obtain ⟨W, hW⟩ : ∃ W, W = (w.alloc (.cells (a.arr va) 68)).alloc (.cells (b.arr vb) 68) := ⟨_, rfl⟩
  have HB : Hid (Below w.heap.size w W) := by rw [hW]; exact g_on (g_alloc _ _) (g_alloc _ _)
  have HX : Hid (GBx W w.heap.size (a.cl va)) := by rw [hW]; exact (GBx.made w (a.cl va) _).alloc _
  have HY : Hid (GBx W (w.heap.size + 1) (b.cl vb)) := by
    rw [hW]
    have := GBx.made (w.alloc (.cells (a.arr va) 68)) (b.cl vb) 68
    rw [show (w.alloc (.cells (a.arr va) 68)).heap.size = w.heap.size + 1 by simp] at this
    exact this
  by_cases hn : a.num = b.num
  · have e : a = b := hab.resolve_right (fun h => h hn)
    subst e
    rw [decide_eq_true rfl]
    have HEQ := Hid.mk2 (samec_any a.c ka kb ca cb W (ha.below HB.out) (hb.below HB.out))
    rw [← hva, ← hvb] at HEQ
    clear ha hb hva hvb hn hab
    obtain ⟨num, kind, ⟨ckind, tenant, keys, value, flags, life, unique, by_⟩, ten, dest⟩ := a
    unfold Tk.arr at *
    unfold Cm.arr at *
    unfold Tk.cl at HX HY
    dsimp only at *
    have x0 := HX.out.c 0 (by simp)
    have y0 := HY.out.c 0 (by simp)
    have x1 := HX.out.c 1 (by simp)
    have y1 := HY.out.c 1 (by simp)
    have x2 := HX.out.c 2 (by simp)
    have y2 := HY.out.c 2 (by simp)
    have x3 := HX.out.c 3 (by simp)
    have y3 := HY.out.c 3 (by simp)
    have x4 := HX.out.c 4 (by simp)
    have y4 := HY.out.c 4 (by simp)
    have x5 := HX.out.c 5 (by simp)
    have y5 := HY.out.c 5 (by simp)
    have x6 := HX.out.c 6 (by simp)
    have y6 := HY.out.c 6 (by simp)
    have x7 := HX.out.c 7 (by simp)
    have y7 := HY.out.c 7 (by simp)
    have x8 := HX.out.c 8 (by simp)
    have y8 := HY.out.c 8 (by simp)
    have x9 := HX.out.c 9 (by simp)
    have y9 := HY.out.c 9 (by simp)
    have x10 := HX.out.c 10 (by simp)
    have y10 := HY.out.c 10 (by simp)
    have x11 := HX.out.c 11 (by simp)
    have y11 := HY.out.c 11 (by simp)
    simp only [List.getElem_cons_zero, List.getElem_cons_succ] at x0 x1 x2 x3 x4 x5 x6 x7 x8 x9 x10 x11 y0 y1 y2 y3 y4 y5 y6 y7 y8 y9 y10 y11
    have hlt := HX.out.lt
    have hlt1 := HY.out.lt
    clear HX HY
    go_enter Try.func42, Try.ntmps42
    go_upto_region 1 with (fail)
    rw [← hW]
    clear hW
    go_wp2_with (go_at_call 23; refine HEQ.out.mono ?_; rintro e w1 ⟨rfl, hb1⟩)
    go_ret
    exact ⟨rfl, g_on HB.out hb1⟩
  · rw [decide_eq_false hn]
    clear ha hb hva hvb hab
    obtain ⟨num, kind, ⟨ckind, tenant, keys, value, flags, life, unique, by_⟩, ten, dest⟩ := a
    obtain ⟨num', kind', ⟨ckind', tenant', keys', value', flags', life', unique', by_'⟩, ten', dest'⟩ := b
    unfold Tk.arr at *
    unfold Tk.cl at HX HY
    dsimp only at *
    have hn2 : (num == num') = false := beq_eq_false_iff_ne.2 hn
    have x0 := HX.out.c 0 (by simp)
    have y0 := HY.out.c 0 (by simp)
    simp only [List.getElem_cons_zero] at x0 y0
    have hlt := HX.out.lt
    have hlt1 := HY.out.lt
    clear HX HY hn
    go_enter Try.func42, Try.ntmps42
    go_upto_region 1 with (fail)
    rw [← hW]
    clear hW
    go_wp2
    go_ret
    exact ⟨rfl, HB.out⟩
set_option maxHeartbeats 2000000 in
theorem tshards_ok (t : Tk) (n : Nat) (hn0 : 1 ≤ n) (hn1 : n ≤ 4) (hmay : t.may = true) (ka : Option Addr) (ca : Nat) (w : World) (ha : GRd ES w ka t.c.keys ca) :
    Calls Try.prog 35 #[.agg (t.arr (.slice ka t.c.keys.length ca)), .int .i64 n] w fun e w' => ∃ v, e = .returned (.tuple #[v, .int .i64 0]) ∧ GOwn EI w' w.heap.size v (t.needs n) ∧ Below w.heap.size w w' := by
  obtain ⟨va, hva⟩ : ∃ va, va = Value.slice ka t.c.keys.length ca := ⟨_, rfl⟩
  rw [← hva]
  obtain ⟨W, hW⟩ : ∃ W, W = w.alloc (.cells (t.arr va) 68) := ⟨_, rfl⟩
  have HB : Hid (Below w.heap.size w W) := by rw [hW]; exact g_alloc _ _
  have HX : Hid (GBx W w.heap.size (t.cl va)) := by rw [hW]; exact GBx.made w (t.cl va) _
  have HMB := Hid.mk2 (mayBe_any t ka ca _ rfl W (ha.below HB.out))
  rw [hmay] at HMB
  have HND := Hid.mk2 (fun V (hV : Below W.heap.size W V) => needs12_any t n hn0 hn1 hmay ka ca _ rfl V ((ha.below HB.out).below hV))
  have HIS := Hid.mk2 (fun V => isShards_any n V)
  rw [decide_eq_true (by omega)] at HIS
  rw [← hva] at HMB HND
  obtain ⟨L, hL⟩ : ∃ L, L = t.needs n := ⟨_, rfl⟩
  rw [← hL] at HND ⊢
  clear ha hva hmay hL
  obtain ⟨num, kind, ⟨ckind, tenant, keys, value, flags, life, unique, by_⟩, ten, dest⟩ := t
  unfold Tk.arr at *
  unfold Tk.cl at HX
  dsimp only at *
  have x0 := HX.out.c 0 (by simp)
  have x1 := HX.out.c 1 (by simp)
  have x2 := HX.out.c 2 (by simp)
  have x3 := HX.out.c 3 (by simp)
  have x4 := HX.out.c 4 (by simp)
  have x5 := HX.out.c 5 (by simp)
  have x6 := HX.out.c 6 (by simp)
  have x7 := HX.out.c 7 (by simp)
  have x8 := HX.out.c 8 (by simp)
  have x9 := HX.out.c 9 (by simp)
  have x10 := HX.out.c 10 (by simp)
  have x11 := HX.out.c 11 (by simp)
  simp only [List.getElem_cons_zero, List.getElem_cons_succ] at x0 x1 x2 x3 x4 x5 x6 x7 x8 x9 x10 x11
  have hlt := HX.out.lt
  go_enter Try.func35, Try.ntmps35
  go_upto_region 1 with (fail)
  rw [← hW]
  clear hW
  go_upto_region 3 with (go_at_call 65; refine HMB.out.mono ?_; rintro e w1 ⟨rfl, hb1⟩; have HB1 := Hid.mk2 hb1; clear hb1)
  have HX1 := Hid.mk2 (HX.out.below HB1.out)
  clear x0 x1 x2 x3 x4 x5 x6 x7 x8 x9 x10 x11 hlt HX HMB
  have x0 := HX1.out.c 0 (by simp)
  have x1 := HX1.out.c 1 (by simp)
  have x2 := HX1.out.c 2 (by simp)
  have x3 := HX1.out.c 3 (by simp)
  have x4 := HX1.out.c 4 (by simp)
  have x5 := HX1.out.c 5 (by simp)
  have x6 := HX1.out.c 6 (by simp)
  have x7 := HX1.out.c 7 (by simp)
  have x8 := HX1.out.c 8 (by simp)
  have x9 := HX1.out.c 9 (by simp)
  have x10 := HX1.out.c 10 (by simp)
  have x11 := HX1.out.c 11 (by simp)
  simp only [List.getElem_cons_zero, List.getElem_cons_succ] at x0 x1 x2 x3 x4 x5 x6 x7 x8 x9 x10 x11
  have hlt := HX1.out.lt
  have HND1 := Hid.mk2 (HND.out w1 HB1.out)
  go_wp2_with (first
    | (go_at_call 64; refine (HIS.out _).mono ?_; rintro e w2 ⟨rfl, hw2⟩; rw [hw2]; clear hw2)
    | (go_at_call 66; refine HND1.out.mono ?_; rintro e w3 ⟨v3, rfl, hO3, hb3⟩))
  go_ret2
  exact ⟨_, rfl, hO3.down (by have := HB.out.size; have := HB1.out.size; omega), g_on HB.out (g_on HB1.out hb3)⟩
end Go.Proofs.Ytpnmokmadbapoaa
