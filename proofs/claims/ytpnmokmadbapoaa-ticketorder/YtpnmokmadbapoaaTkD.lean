/-
  Tickets in memory: kinds of elements; two commands and two tickets side by side.
-/
import Derived.Test.YtpnmokmadbapoaaTkB
import Derived.Test.YtpnmokmadbapoaaTkC
import Derived.Test.YtpnmokmadbapoaaOrPd
import Derived.Test.YtpnmokmadbapoaaGq
namespace Go.Proofs.Ytpnmokmadbapoaa
open Go.RowKit
set_option linter.unusedSimpArgs false
set_option linter.unusedVariables false
set_option maxRecDepth 100000

/-- a ticket with where its keys lie -/
structure Td where
  t : Tk
  so : Option Addr
  sc : Nat
def Tk.cl (t : Tk) (v : Value) : List Value := [.int .i64 t.num, .int .u8 t.kind, .int .u8 t.c.kind, .int .i64 t.c.tenant, v, .string t.c.value, .int .u32 t.c.flags, .int .i64 t.c.life, .int .u64 t.c.unique, .int .u64 t.c.by_, .int .i64 t.ten, .int .i64 t.dest]
def Tk.arr (t : Tk) (v : Value) : Array Value := #[.int .i64 t.num, .int .u8 t.kind, .int .u8 t.c.kind, .int .i64 t.c.tenant, v, .string t.c.value, .int .u32 t.c.flags, .int .i64 t.c.life, .int .u64 t.c.unique, .int .u64 t.c.by_, .int .i64 t.ten, .int .i64 t.dest]
def Td.v (d : Td) : Value := .slice d.so d.t.c.keys.length d.sc
def Td.cl (d : Td) : List Value := d.t.cl d.v
def ET : GEl Td := ⟨68, 92, 12, 120, .agg #[.int .i64 0, .int .u8 0, .int .u8 0, .int .i64 0, .slice none 0 0, .string ⟨#[]⟩, .int .u32 0, .int .i64 0, .int .u64 0, .int .u64 0, .int .i64 0, .int .i64 0], Td.cl⟩
theorem okT : GOk ET := ⟨Try.underlying92, by kernel_rfl, rfl, by decide, by decide, fun _ => rfl, fun a u h => by simp [ET, Td.cl, Tk.cl, Td.v] at h; rcases h with rfl | rfl | rfl | rfl | rfl | rfl | rfl | rfl | rfl | rfl | rfl | rfl <;> rfl⟩
/-- a box -/
structure Bx where
  l : List Td
  ao : Option Addr
  cap : Nat
def Bx.v (b : Bx) : Value := .slice b.ao b.l.length b.cap
def EB : GEl Bx := ⟨92, 60, 1, 24, .slice none 0 0, fun b => [b.v]⟩
theorem okB : GOk EB := ⟨Try.underlying60, by kernel_rfl, rfl, by decide, by decide, fun _ => rfl, fun a u h => by simp [EB, Bx.v] at h; subst h; rfl⟩
/-- inboxes that are read -/
structure Qr (w : World) (ao : Option Addr) (B : List Bx) (cap : Nat) : Prop where
  row : GRd EB w ao B cap
  box : ∀ b ∈ B, GRd ET w b.ao b.l b.cap
  keys : ∀ b ∈ B, ∀ d ∈ b.l, GRd ES w d.so d.t.c.keys d.sc
theorem Qr.below {w w' : World} {ao : Option Addr} {B : List Bx} {cap : Nat} (h : Qr w ao B cap) (hb : Below w.heap.size w w') : Qr w' ao B cap :=
  ⟨h.row.below hb, fun b hb' => (h.box b hb').below hb, fun b hb' d hd => (h.keys b hb' d hd).below hb⟩
/-- .. as data -/
def dat (B : List Bx) : List (List Tk) := B.map fun b => b.l.map Td.t
theorem _root_.Go.Proofs.Ytpnmokmadbapoaa.GRd.bx {w : World} {ao : Option Addr} {l : List Bx} {cap : Nat} (h : GRd EB w ao l cap) (hne : l ≠ []) : ∃ b off, ao = some ⟨b, off, none⟩ ∧ b < w.heap.size ∧ ∀ i (hi : i < l.length), w.cell? ⟨b, off + i, none⟩ = some (.slice l[i].ao l[i].l.length l[i].cap) := by
  obtain ⟨b, off, e, hb, hc⟩ := h.lies hne
  refine ⟨b, off, e, hb, fun i hi => ?_⟩
  have := hc i hi 0 (by decide)
  simpa [EB, Bx.v] using this
theorem _root_.Go.Proofs.Ytpnmokmadbapoaa.GRd.tk {w : World} {ao : Option Addr} {l : List Td} {cap : Nat} (h : GRd ET w ao l cap) (hne : l ≠ []) : ∃ b off, ao = some ⟨b, off, none⟩ ∧ b < w.heap.size ∧ ∀ i (hi : i < l.length) (j : Nat) (hj : j < (l[i].cl).length), w.cell? ⟨b, off + i * 12 + j, none⟩ = some (l[i].cl)[j] := by
  obtain ⟨b, off, e, hb, hc⟩ := h.lies hne
  refine ⟨b, off, e, hb, fun i hi j hj => ?_⟩
  have h0 := hc i hi j hj
  rw [show ET.cells l[i] = l[i].cl from rfl, List.getElem?_eq_getElem hj] at h0
  exact h0

theorem cm_ne {a b : Cm} (h : ¬ (a.kind = b.kind ∧ a.tenant = b.tenant ∧ a.keys = b.keys ∧ a.value = b.value ∧ a.flags = b.flags ∧ a.life = b.life ∧ a.unique = b.unique ∧ a.by_ = b.by_)) : decide (a = b) = false := by
  rw [decide_eq_false_iff_not]
  intro e
  subst e
  exact h ⟨rfl, rfl, rfl, rfl, rfl, rfl, rfl, rfl⟩
set_option maxHeartbeats 2000000 in
theorem sameCommand_any (a b : Cm) (ka kb : Option Addr) (ca cb ma mb : Nat) (hma : ma = a.keys.length) (hmb : mb = b.keys.length) (w : World) (ha : GRd ES w ka a.keys ca) (hb : GRd ES w kb b.keys cb) :
    Calls Try.prog 102 #[.agg (a.arr (.slice ka ma ca)), .agg (b.arr (.slice kb mb cb))] w fun e w' => e = .returned (.bool (decide (a = b))) ∧ Below w.heap.size w w' := by
  subst hma hmb
  obtain ⟨W, hW⟩ : ∃ W, W = (w.alloc (.cells (a.arr (.slice ka a.keys.length ca)) 27)).alloc (.cells (b.arr (.slice kb b.keys.length cb)) 27) := ⟨_, rfl⟩
  have HB : Hid (Below w.heap.size w W) := by rw [hW]; exact g_on (g_alloc _ _) (g_alloc _ _)
  have HX : Hid (GBx W w.heap.size (a.cl (.slice ka a.keys.length ca))) := by rw [hW]; exact (GBx.made w (a.cl (.slice ka a.keys.length ca)) _).alloc _
  have HY : Hid (GBx W (w.heap.size + 1) (b.cl (.slice kb b.keys.length cb))) := by
    rw [hW]
    have := GBx.made (w.alloc (.cells (a.arr (.slice ka a.keys.length ca)) 27)) (b.cl (.slice kb b.keys.length cb)) 27
    rw [show (w.alloc (.cells (a.arr (.slice ka a.keys.length ca)) 27)).heap.size = w.heap.size + 1 by simp] at this
    exact this
  have HEQ := Hid.mk2 (eqS_any a.keys b.keys ka kb ca cb _ _ rfl rfl W (ha.below HB.out) (hb.below HB.out))
  have HD := Hid.mk2 (@cm_ne a b)
  have HT : Hid (a = b → decide (a = b) = true) := fun e => decide_eq_true e
  obtain ⟨D, hD⟩ : ∃ D, D = decide (a = b) := ⟨_, rfl⟩
  rw [← hD] at HD HT ⊢
  clear hD ha hb
  obtain ⟨kind, tenant, keys, value, flags, life, unique, by_⟩ := a
  obtain ⟨kind', tenant', keys', value', flags', life', unique', by_'⟩ := b
  unfold Cm.arr at *
  unfold Cm.cl at HX HY
  dsimp only at *
  have x0 := HX.out.c 0 (by simp)
  have x1 := HX.out.c 1 (by simp)
  have x2 := HX.out.c 2 (by simp)
  have x3 := HX.out.c 3 (by simp)
  have x4 := HX.out.c 4 (by simp)
  have x5 := HX.out.c 5 (by simp)
  have x6 := HX.out.c 6 (by simp)
  have x7 := HX.out.c 7 (by simp)
  have y0 := HY.out.c 0 (by simp)
  have y1 := HY.out.c 1 (by simp)
  have y2 := HY.out.c 2 (by simp)
  have y3 := HY.out.c 3 (by simp)
  have y4 := HY.out.c 4 (by simp)
  have y5 := HY.out.c 5 (by simp)
  have y6 := HY.out.c 6 (by simp)
  have y7 := HY.out.c 7 (by simp)
  simp only [List.getElem_cons_zero, List.getElem_cons_succ] at x0 x1 x2 x3 x4 x5 x6 x7 y0 y1 y2 y3 y4 y5 y6 y7
  have hlt := HX.out.lt
  have hlt1 := HY.out.lt
  clear HX HY
  go_enter Try.func102, Try.ntmps102
  go_upto_region 1 with (fail)
  rw [← hW]
  clear hW
  by_cases a0 : kind = kind'
  case neg =>
    have e : D = false := HD.out fun h => a0 h.1
    subst e
    have f0 : (kind == kind') = false := beq_eq_false_iff_ne.2 a0
    clear HD HT a0
    go_wp2
    go_ret
    exact ⟨rfl, HB.out⟩
  subst a0
  by_cases a1 : tenant = tenant'
  case neg =>
    have e : D = false := HD.out fun h => a1 h.2.1
    subst e
    have f1 : (tenant == tenant') = false := beq_eq_false_iff_ne.2 a1
    clear HD HT a1
    go_wp2
    go_ret
    exact ⟨rfl, HB.out⟩
  subst a1
  by_cases a2 : keys = keys'
  case neg =>
    have e : D = false := HD.out fun h => a2 h.2.2.1
    subst e
    rw [decide_eq_false a2] at HEQ
    clear HD HT a2
    go_wp2_with (go_at_call 107; refine HEQ.out.mono ?_; rintro e w1 ⟨rfl, n1, rfl⟩)
    go_ret
    exact ⟨rfl, g_quiet_on _ HB.out⟩
  subst a2
  rw [decide_eq_true (rfl : keys = keys)] at HEQ
  by_cases a3 : value = value'
  case neg =>
    have e : D = false := HD.out fun h => a3 h.2.2.2.1
    subst e
    have f3 : (value.toList == value'.toList) = false := ba_ne a3
    clear HD HT a3
    go_wp2_with (go_at_call 107; refine HEQ.out.mono ?_; rintro e w1 ⟨rfl, n1, rfl⟩)
    go_ret
    exact ⟨rfl, g_quiet_on _ HB.out⟩
  subst a3
  by_cases a4 : flags = flags'
  case neg =>
    have e : D = false := HD.out fun h => a4 h.2.2.2.2.1
    subst e
    have f4 : (flags == flags') = false := beq_eq_false_iff_ne.2 a4
    clear HD HT a4
    go_wp2_with (go_at_call 107; refine HEQ.out.mono ?_; rintro e w1 ⟨rfl, n1, rfl⟩)
    go_ret
    exact ⟨rfl, g_quiet_on _ HB.out⟩
  subst a4
  by_cases a5 : life = life'
  case neg =>
    have e : D = false := HD.out fun h => a5 h.2.2.2.2.2.1
    subst e
    have f5 : (life == life') = false := beq_eq_false_iff_ne.2 a5
    clear HD HT a5
    go_wp2_with (go_at_call 107; refine HEQ.out.mono ?_; rintro e w1 ⟨rfl, n1, rfl⟩)
    go_ret
    exact ⟨rfl, g_quiet_on _ HB.out⟩
  subst a5
  by_cases a6 : unique = unique'
  case neg =>
    have e : D = false := HD.out fun h => a6 h.2.2.2.2.2.2.1
    subst e
    have f6 : (unique == unique') = false := beq_eq_false_iff_ne.2 a6
    clear HD HT a6
    go_wp2_with (go_at_call 107; refine HEQ.out.mono ?_; rintro e w1 ⟨rfl, n1, rfl⟩)
    go_ret
    exact ⟨rfl, g_quiet_on _ HB.out⟩
  subst a6
  by_cases a7 : by_ = by_'
  case neg =>
    have e : D = false := HD.out fun h => a7 h.2.2.2.2.2.2.2
    subst e
    have f7 : (by_ == by_') = false := beq_eq_false_iff_ne.2 a7
    clear HD HT a7
    go_wp2_with (go_at_call 107; refine HEQ.out.mono ?_; rintro e w1 ⟨rfl, n1, rfl⟩)
    go_ret
    exact ⟨rfl, g_quiet_on _ HB.out⟩
  subst a7
  have e : D = true := HT.out rfl
  subst e
  clear HD HT
  go_wp2_with (go_at_call 107; refine HEQ.out.mono ?_; rintro e w1 ⟨rfl, n1, rfl⟩)
  go_ret
  exact ⟨rfl, g_quiet_on _ HB.out⟩
end Go.Proofs.Ytpnmokmadbapoaa
