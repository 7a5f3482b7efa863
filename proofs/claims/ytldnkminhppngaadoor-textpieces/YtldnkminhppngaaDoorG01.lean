/-
  Several texts in one: TyA, TyB, TyL, TyC, TyD, TyE, TyF.
-/
import Derived.Test.YtldnkminhppngaaDoorTxS
import Derived.Test.YtldnkminhppngaaDoorRows
import Derived.Shelf.Lay
import Derived.Shelf.Pu.ParseUintPublic10
import Derived.Shelf.Bytes.SlIndexWhole
import Derived.Shelf.Bytes.SlSplit
import Derived.Ground.MpProg
import Derived.Ground.NamesProg
import Derived.Ground.SlbSplitProg
import Derived.Shelf.Abstract
import Derived.Deep.LoopGhost
/-
  A draft in memory: its request, the words that are left, its value's end; what a call leaves of it. Variables of the library that reading asks.
-/
namespace Go.Proofs.YtldnkminhppngaaDoor
open Go.Proofs.YtldnkminhppngaaDoor.It
open Go.RowKit
set_option linter.unusedSimpArgs false
set_option linter.unusedVariables false
set_option maxRecDepth 100000

def NG : Nat := max (max 2 3) (max (max 4 0) 1) + 1
/-- the library's variables -/
structure Gl (V : World) : Prop where
  n : NG ≤ V.heap.size
  tab : Tab V
  es : ∃ ev, V.cell? ⟨2, 0, none⟩ = some ev ∧ (ev = .nilIface ∨ ∃ te pe, ev = .iface te pe)
  er : ∃ ev, V.cell? ⟨3, 0, none⟩ = some ev ∧ (ev = .nilIface ∨ ∃ te pe, ev = .iface te pe)
  ml : ∃ m, V.cell? ⟨0, 0, none⟩ = some (.int .i64 m)
theorem pow_glob : Tryd.prog.globalNamed "internal/strconv.uint64pow10" = some 4 := by kernel_rfl
theorem Tab.blk {w w' : World} (h : Tab w) (hb : w'.heap[4]? = w.heap[4]?) : Tab w' := by
  unfold Tab Lib.TabIs World.var? at *
  rw [pow_glob] at h ⊢
  simp only [Option.bind_some] at h ⊢
  rw [hb]
  exact h
theorem Gl.grown {V V' : World} {row : Option Nat} (h : Gl V) (hg : V.grownBy V' row) (hr : ∀ r, row = some r → NG ≤ r) : Gl V' := by
  have hn := h.n
  have blk : ∀ k, k < NG → V'.heap[k]? = V.heap[k]? := fun k hk => hg.block k (by omega) (fun e => by have := hr k e.symm; omega)
  have cel : ∀ k, k < NG → V'.cell? ⟨k, 0, none⟩ = V.cell? ⟨k, 0, none⟩ := fun k hk => World.cell?_of_block (a := ⟨k, 0, none⟩) (blk k hk)
  refine ⟨Nat.le_trans hn hg.size, Tab.blk h.tab (blk _ (by decide)), ?_, ?_, ?_⟩
  · rw [cel _ (by decide)]; exact h.es
  · rw [cel _ (by decide)]; exact h.er
  · rw [cel _ (by decide)]; exact h.ml
theorem Gl.below {V V' : World} (h : Gl V) (hb : Below V.heap.size V V') : Gl V' := h.grown (row := none) (g_grown hb none) (by intro r e; cases e)

/-- a row that is read, in another block than b -/
structure Rx {α : Type} (E : GEl α) (V : World) (b : Nat) (ao : Option Addr) (l : List α) (cap : Nat) : Prop where
  rd : GRd E V ao l cap
  off : ∀ g o, ao = some ⟨g, o, none⟩ → l ≠ [] → g ≠ b
section
variable {α : Type} {E : GEl α} {V V' : World} {b : Nat} {ao : Option Addr} {l : List α} {cap : Nat}
theorem Rx.grown (h : Rx E V b ao l cap) (hg : V.grownBy V' (some b)) : Rx E V' b ao l cap := by
  refine ⟨⟨h.rd.hl, h.rd.hc, h.rd.hn, ?_⟩, h.off⟩
  rcases h.rd.at_ with e | ⟨g, off, e, hlt, hc⟩
  · exact .inl e
  · by_cases hne : l = []
    · exact .inl hne
    · have hb : V'.heap[g]? = V.heap[g]? := hg.block g hlt (fun e2 => h.off g off e hne (Option.some.inj e2))
      exact .inr ⟨g, off, e, Nat.lt_of_lt_of_le hlt hg.size, fun i hi j hj => (World.cell?_of_block (a := ⟨g, off + i * E.sz + j, none⟩) hb).trans (hc i hi j hj)⟩
theorem Rx.nil : Rx E V b none [] 0 := ⟨GRd.nil V, fun _ _ e => by cases e⟩
theorem Rx.own (K : GOk E) {v : Value} {base : Nat} (h : GOwn E V base v l) (hb : b < base) : ∃ ao cap, v = .slice ao l.length cap ∧ Rx E V b ao l cap := by
  obtain ⟨ao, cap, rfl, hr⟩ := h.rd K
  refine ⟨ao, cap, rfl, hr, fun g o e hne => ?_⟩
  have := (h.lt g (by rw [e]; rfl)).1
  omega
end
theorem grown_b {V V' : World} (h : Below V.heap.size V V') (b : Nat) : V.grownBy V' (some b) := g_grown h (some b)
theorem grown_on {W V V' : World} {ro : Option Nat} {b : Nat} (h : W.grownBy V ro) (h' : V.grownBy V' (some b)) (hb : W.heap.size ≤ b) : W.grownBy V' ro :=
  ⟨h'.os.trans h.os, h'.tape.trans h.tape, h'.output.trans h.output, Nat.le_trans h.size h'.size, fun k hk hne => (h'.block k (Nat.lt_of_lt_of_le hk h.size) (by intro e; have := Option.some.inj e; omega)).trans (h.block k hk hne)⟩
theorem grown_set {V V' : World} {b : Nat} (h : V.grownBy V' (some b)) (j : Nat) (v : Value) : V.grownBy (V'.setCell ⟨b, j, none⟩ v) (some b) := h.trans (g_set V' ⟨b, j, none⟩ v)

/-- a word: where its bytes lie -/
structure Wd where
  ao : Option Addr
  cap : Nat
  l : List UInt8
def EW : GEl Wd := ⟨34, 71, 1, 24, .slice none 0 0, fun x => [.slice x.ao x.l.length x.cap]⟩
theorem okW : GOk EW := ⟨Tryd.underlying71, by kernel_rfl, rfl, by decide, by decide, fun _ => rfl, fun a u h => by simp [EW] at h; subst h; rfl⟩
/-- what a value's end is -/
inductive Ev (V : World) (b : Nat) : Value → Option Nat → Prop where
  | no : Ev V b .nilFunc none
  | is (n p q : Nat) (hn : n ≤ 512) (hp : p < V.heap.size) (hq : q < V.heap.size) (np : p ≠ b) (nq : q ≠ b) (cp : V.cell? ⟨p, 0, none⟩ = some (.int .i64 (n + 2 : Nat))) (cq : V.cell? ⟨q, 0, none⟩ = some (.int .i64 (n : Nat))) :
    Ev V b (.func (.func 62) #[] #[.pointer (some ⟨p, 0, none⟩), .pointer (some ⟨q, 0, none⟩)]) (some n)
theorem Ev.grown {V V' : World} {b : Nat} {v : Value} {x : Option Nat} (h : Ev V b v x) (hg : V.grownBy V' (some b)) : Ev V' b v x := by
  cases h with
  | no => exact .no
  | is n p q hn hp hq np nq cp cq =>
    have bp : V'.heap[p]? = V.heap[p]? := hg.block p hp (fun e => np (Option.some.inj e))
    have bq : V'.heap[q]? = V.heap[q]? := hg.block q hq (fun e => nq (Option.some.inj e))
    exact .is n p q hn (Nat.lt_of_lt_of_le hp hg.size) (Nat.lt_of_lt_of_le hq hg.size) np nq ((World.cell?_of_block (a := ⟨p, 0, none⟩) bp).trans cp) ((World.cell?_of_block (a := ⟨q, 0, none⟩) bq).trans cq)
def Dr.cl (d : Dr) (kv wv ev : Value) : List Value := d.r.cl kv ++ [wv, ev]
/-- what is told lies in newer blocks than b -/
structure Far (b : Nat) (ks : List ByteArray) (ko : Option Addr) (ev : Value) : Prop where
  k : ∀ g o, ko = some ⟨g, o, none⟩ → ks ≠ [] → b < g
  v : ∀ p q, ev = .func (.func 62) #[] #[.pointer (some ⟨p, 0, none⟩), .pointer (some ⟨q, 0, none⟩)] → b < p ∧ b < q
/-- a draft in the block b -/
structure Dx (V : World) (b : Nat) (d : Dr) (ko : Option Addr) (kc : Nat) (wo : Option Addr) (wc : Nat) (X : List Wd) (ev : Value) : Prop where
  bx : GBx V b (d.cl (.slice ko d.r.cmd.keys.length kc) (.slice wo X.length wc) ev)
  ng : NG ≤ b
  keys : Rx ES V b ko d.r.cmd.keys kc
  rows : Rx EW V b wo X wc
  each : ∀ x ∈ X, Rx EY V b x.ao x.l x.cap
  len : X.length ≤ 600 ∧ ∀ x ∈ X, x.l.length ≤ 600
  ws : X.map (fun x => mkB x.l) = d.ws
  far : Far b d.r.cmd.keys ko ev
  ev : Ev V b ev d.vl
def Dw (V : World) (b : Nat) (d : Dr) : Prop := ∃ ko kc wo wc X ev, Dx V b d ko kc wo wc X ev
section
variable {V V' : World} {b : Nat} {d : Dr} {ko wo : Option Addr} {kc wc : Nat} {X : List Wd} {ev : Value}
theorem Dx.below (h : Dx V b d ko kc wo wc X ev) (hb : Below V.heap.size V V') : Dx V' b d ko kc wo wc X ev :=
  ⟨h.bx.below hb, h.ng, h.keys.grown (grown_b hb b), h.rows.grown (grown_b hb b), fun x hx => (h.each x hx).grown (grown_b hb b), h.len, h.ws, h.far, h.ev.grown (grown_b hb b)⟩
theorem Dw.below (h : Dw V b d) (hb : Below V.heap.size V V') : Dw V' b d := by
  obtain ⟨ko, kc, wo, wc, X, ev, h⟩ := h
  exact ⟨ko, kc, wo, wc, X, ev, h.below hb⟩
theorem Dx.w (h : Dx V b d ko kc wo wc X ev) : Dw V b d := ⟨_, _, _, _, _, _, h⟩
theorem Dr.cl_len (d : Dr) (x y z : Value) : (d.cl x y z).length = 15 := rfl
/-- a plain field is set -/
theorem Dx.set (h : Dx V b d ko kc wo wc X ev) (j : Nat) (v : Value) (d' : Dr) (hj : j < 15) (hk : d'.r.cmd.keys = d.r.cmd.keys) (hw : d'.ws = d.ws) (hv : d'.vl = d.vl)
    (hc : (d.cl (.slice ko d.r.cmd.keys.length kc) (.slice wo X.length wc) ev).set j v = d'.cl (.slice ko d'.r.cmd.keys.length kc) (.slice wo X.length wc) ev) : Dx (V.setCell ⟨b, j, none⟩ v) b d' ko kc wo wc X ev := by
  have hg := g_set V ⟨b, j, none⟩ v
  exact ⟨(h.bx.set j v hj).ext hc, h.ng, by rw [hk]; exact h.keys.grown hg, h.rows.grown hg, fun x hx => (h.each x hx).grown hg, h.len, by rw [hw]; exact h.ws, by rw [hk]; exact h.far, by rw [hv]; exact h.ev.grown hg⟩
/-- keys are set -/
theorem Dx.setK (h : Dx V b d ko kc wo wc X ev) (ko' : Option Addr) (kc' : Nat) (ks : List ByteArray) (hk : Rx ES V b ko' ks kc') (hf : ∀ g o, ko' = some ⟨g, o, none⟩ → ks ≠ [] → b < g) :
    Dx (V.setCell ⟨b, 3, none⟩ (.slice ko' ks.length kc')) b ⟨{ d.r with cmd := { d.r.cmd with keys := ks } }, d.ws, d.vl⟩ ko' kc' wo wc X ev := by
  have hg := g_set V ⟨b, 3, none⟩ (.slice ko' ks.length kc')
  exact ⟨(h.bx.set 3 _ (by rw [Dr.cl_len]; decide)).ext rfl, h.ng, hk.grown hg, h.rows.grown hg, fun x hx => (h.each x hx).grown hg, h.len, h.ws, ⟨hf, h.far.v⟩, h.ev.grown hg⟩
/-- the words that are left are set -/
theorem Dx.setW (h : Dx V b d ko kc wo wc X ev) (wo' : Option Addr) (wc' : Nat) (Y : List Wd) (hw : Rx EW V b wo' Y wc') (hs : ∀ x ∈ Y, x ∈ X) (hl : Y.length ≤ X.length) :
    Dx (V.setCell ⟨b, 13, none⟩ (.slice wo' Y.length wc')) b ⟨d.r, Y.map (fun x => mkB x.l), d.vl⟩ ko kc wo' wc' Y ev := by
  have hg := g_set V ⟨b, 13, none⟩ (.slice wo' Y.length wc')
  exact ⟨(h.bx.set 13 _ (by rw [Dr.cl_len]; decide)).ext rfl, h.ng, h.keys.grown hg, hw.grown hg, fun x hx => (h.each x (hs x hx)).grown hg, ⟨Nat.le_trans hl h.len.1, fun x hx => h.len.2 x (hs x hx)⟩, rfl, h.far, h.ev.grown hg⟩
/-- the value's end is set -/
theorem Dx.setV (h : Dx V b d ko kc wo wc X ev) (v : Value) (n : Nat) (hv : Ev V b v (some n)) (hf : ∀ p q, v = .func (.func 62) #[] #[.pointer (some ⟨p, 0, none⟩), .pointer (some ⟨q, 0, none⟩)] → b < p ∧ b < q) :
    Dx (V.setCell ⟨b, 14, none⟩ v) b ⟨d.r, d.ws, some n⟩ ko kc wo wc X v := by
  have hg := g_set V ⟨b, 14, none⟩ v
  exact ⟨(h.bx.set 14 _ (by rw [Dr.cl_len]; decide)).ext rfl, h.ng, h.keys.grown hg, h.rows.grown hg, fun x hx => (h.each x hx).grown hg, h.len, h.ws, ⟨h.far.k, hf⟩, hv.grown hg⟩
end
/-- what a part tells of a draft -/
structure Told (V V' : World) (b : Nat) (e : Ending) (x : Option Dr) : Prop where
  ex : ∃ d', Dw V' b d' ∧ ((x = some d' ∧ e = .returned (.bool true)) ∨ (x = none ∧ e = .returned (.bool false)))
  gr : V.grownBy V' (some b)
end Go.Proofs.YtldnkminhppngaaDoor
/-
  What is read off a draft: its next word, a secret, on or off; what numbers are put into.
-/
namespace Go.Proofs.YtldnkminhppngaaDoor
open Go.Proofs.YtldnkminhppngaaDoor.It
open Go.RowKit
set_option linter.unusedSimpArgs false
set_option linter.unusedVariables false
set_option maxRecDepth 100000

structure Nxt (V V' : World) (b : Nat) (d : Dr) (e : Ending) : Prop where
  e : e = .returned (.string (d.ws.headD ⟨#[]⟩))
  dw : Dw V' b ⟨d.r, d.ws.tail, d.vl⟩
  gr : V.grownBy V' (some b)
structure Nxe (V V' : World) (b : Nat) (d : Dr) (ko : Option Addr) (kc : Nat) (wo : Option Addr) (X : List Wd) (ev : Value) (e : Ending) : Prop where
  e : e = .returned (.string (d.ws.headD ⟨#[]⟩))
  ex : ∃ wo' wc', Dx V' b ⟨d.r, d.ws.tail, d.vl⟩ ko kc wo' wc' X.tail ev ∧ (X.tail ≠ [] → ∀ g o, wo' = some ⟨g, o, none⟩ → ∃ o', wo = some ⟨g, o', none⟩)
  gr : V.grownBy V' (some b)
theorem Nxe.nxt {V V' : World} {b : Nat} {d : Dr} {ko wo : Option Addr} {kc : Nat} {X : List Wd} {ev : Value} {e : Ending} (h : Nxe V V' b d ko kc wo X ev e) : Nxt V V' b d e := by
  obtain ⟨h1, ⟨wo', wc', h2, _⟩, h3⟩ := h
  exact ⟨h1, h2.w, h3⟩
theorem Dw.head {V : World} {b : Nat} {d : Dr} (h : Dw V b d) : (d.ws.headD ⟨#[]⟩).size ≤ 600 := by
  obtain ⟨ko, kc, wo, wc, X, ev, h⟩ := h
  rw [← h.ws]
  cases X with
  | nil => exact Nat.zero_le _
  | cons x Y =>
    have := h.len.2 x (by simp)
    show x.l.toArray.size ≤ 600
    simpa using this
theorem mkB_eq (x : List UInt8) : mkB x = ⟨x.toArray⟩ := rfl

set_option maxHeartbeats 1000000 in
theorem next_x (V : World) (b : Nat) (d : Dr) (ko : Option Addr) (kc : Nat) (wo : Option Addr) (wc : Nat) (X : List Wd) (ev : Value) (h : Dx V b d ko kc wo wc X ev) : Calls Tryd.prog 56 #[.pointer (some ⟨b, 0, none⟩)] V fun e V' => Nxe V V' b d ko kc wo X ev e := by
  obtain ⟨m, hm⟩ : ∃ m, m = X.length := ⟨_, rfl⟩
  have r0 : V.cell? ⟨b, 13, none⟩ = some (.slice wo m wc) := by rw [hm]; exact h.bx.c 13 (by rw [Dr.cl_len]; decide)
  have hf : V.frozen? ⟨b, 13, none⟩ = false := h.bx.f 13
  have HX := Hid.mk2 h
  have hcap := h.rows.rd.hc
  cases X with
  | nil =>
    have hm0 : m = 0 := by simpa using hm
    subst hm0
    have hws : d.ws = [] := by rw [← h.ws]; rfl
    have HR : Hid (Nxe V V b d ko kc wo [] ev (.returned (.string ⟨#[]⟩))) := ⟨by rw [hws]; rfl, ⟨wo, wc, by
      have e : (⟨d.r, d.ws.tail, d.vl⟩ : Dr) = d := by rw [hws, List.tail_nil, ← hws]
      rw [e]; exact h, fun h => absurd rfl h⟩, World.grownBy.refl V _⟩
    clear h HX hws hm
    go_enter Tryd.func56, Tryd.ntmps56
    go_wp2
    go_ret
    exact HR.out
  | cons x Y =>
    have hm1 : 1 ≤ m := by rw [hm]; simp
    have hmc : m ≤ wc := by rw [hm]; exact h.rows.rd.hl
    have hne : (x :: Y) ≠ [] := by simp
    obtain ⟨g, off, hwo, hgl, hcs⟩ := h.rows.rd.lies hne
    subst hwo
    have r1 : V.cell? ⟨g, off, none⟩ = some (.slice x.ao x.l.length x.cap) := by
      have := hcs 0 (by simp) 0 (by decide)
      simpa [EW] using this
    have hcv := conv_rd (h.each x (by simp)).rd
    have hws : d.ws = mkB x.l :: Y.map (fun x => mkB x.l) := by rw [← h.ws]; rfl
    obtain ⟨s, hs⟩ : ∃ s : ByteArray, s = ⟨x.l.toArray⟩ := ⟨_, rfl⟩
    rw [← hs] at hcv
    obtain ⟨k, hk⟩ : ∃ k, k = x.l.length := ⟨_, rfl⟩
    rw [← hk] at hcv r1
    have hYl : Y.length = m - 1 := by rw [hm]; simp
    have hsub : ∀ y ∈ Y, y ∈ x :: Y := fun y hy => by simp [hy]
    have hmi : ¬ (m : Int) = 0 := by omega
    have hbe : ((m : Int) == 0) = false := by simp; omega
    have hm1i : (1 : Int) ≤ (m : Int) := by omega
    have h0m : (0 : Int) < (m : Int) := by omega
    have hcapi : (wc : Int) ≤ 9223372036854775807 := by omega
    by_cases hw1 : wc = 1
    · subst hw1
      have hm2 : m = 1 := by omega
      subst hm2
      have hY : Y = [] := List.eq_nil_of_length_eq_zero (by omega)
      have HR : Hid (Nxe V (V.setCell ⟨b, 13, none⟩ (.slice (some ⟨g, off, none⟩) 0 0)) b d ko kc (some ⟨g, off, none⟩) (x :: Y) ev (.returned (.string s))) := by
        refine ⟨by rw [hws, hs]; rfl, ⟨some ⟨g, off, none⟩, 0, ?_, fun h => absurd hY h⟩, grown_set (World.grownBy.refl V _) _ _⟩
        have := HX.out.setW (some ⟨g, off, none⟩) 0 Y ⟨⟨by rw [hY]; simp, by decide, (fun e => by cases e), .inl hY⟩, fun _ _ _ e => absurd hY e⟩ hsub (by simp)
        rw [hws, List.tail_cons]
        rw [List.tail_cons]
        rw [hY] at this ⊢
        exact this
      clear h HX hws hm hcs hs hk hYl hsub hY hne hgl
      go_enter Tryd.func56, Tryd.ntmps56
      go_wp2
      go_ret
      exact HR.out
    · have hw2 : ¬ wc - 1 = 0 := by omega
      have HR : Hid (Nxe V (V.setCell ⟨b, 13, none⟩ (.slice (some ⟨g, off + 1, none⟩) (m - 1) (wc - 1))) b d ko kc (some ⟨g, off, none⟩) (x :: Y) ev (.returned (.string s))) := by
        refine ⟨by rw [hws, hs]; rfl, ⟨some ⟨g, off + 1, none⟩, wc - 1, ?_, fun _ g' o' e => by cases e; exact ⟨off, rfl⟩⟩, grown_set (World.grownBy.refl V _) _ _⟩
        have := HX.out.setW (some ⟨g, off + 1, none⟩) (wc - 1) Y ⟨⟨by omega, by omega, (fun e => by cases e), .inr ⟨g, off + 1, rfl, hgl, fun i hi j hj => by
          have h2 := hcs (i + 1) (by simp; omega) j hj
          have hj0 : j = 0 := by have : j < 1 := hj; omega
          subst hj0
          have e : off + 1 + i * EW.sz + 0 = off + (i + 1) * EW.sz + 0 := by show off + 1 + i * 1 + 0 = off + (i + 1) * 1 + 0; omega
          rw [e]
          exact h2⟩⟩, fun g' o' e _ => by
            cases e
            exact HX.out.rows.off g off rfl hne⟩ hsub (by simp)
        rw [hws, List.tail_cons]
        rw [List.tail_cons]
        rw [hYl] at this
        exact this
      have hwi : (1 : Int) ≤ (wc : Int) := by omega
      clear h HX hws hm hcs hs hk hYl hsub hne hgl
      go_enter Tryd.func56, Tryd.ntmps56
      go_wp2
      go_ret
      exact HR.out
theorem next_any (V : World) (b : Nat) (d : Dr) (h : Dw V b d) : Calls Tryd.prog 56 #[.pointer (some ⟨b, 0, none⟩)] V fun e V' => Nxt V V' b d e := by
  obtain ⟨ko, kc, wo, wc, X, ev, h⟩ := h
  exact (next_x V b d ko kc wo wc X ev h).mono fun e V' h => h.nxt

theorem Dw.field {V : World} {b : Nat} {d : Dr} (h : Dw V b d) (j : Nat) (hj : j < 15) : ∃ u, V.cell? ⟨b, j, none⟩ = some u := by
  obtain ⟨ko, kc, wo, wc, X, ev, h⟩ := h
  exact ⟨_, h.bx.c j (by rw [Dr.cl_len]; exact hj)⟩
theorem Dw.fro {V : World} {b : Nat} {d : Dr} (h : Dw V b d) (j : Nat) : V.frozen? ⟨b, j, none⟩ = false := by
  obtain ⟨ko, kc, wo, wc, X, ev, h⟩ := h
  exact h.bx.f j
theorem Dw.lt {V : World} {b : Nat} {d : Dr} (h : Dw V b d) : b < V.heap.size := by
  obtain ⟨ko, kc, wo, wc, X, ev, h⟩ := h
  exact h.bx.lt
theorem Dw.set {V : World} {b : Nat} {d : Dr} (h : Dw V b d) (j : Nat) (v : Value) (d' : Dr) (hj : j < 15) (hk : d'.r.cmd.keys = d.r.cmd.keys) (hw : d'.ws = d.ws) (hv : d'.vl = d.vl)
    (hc : ∀ x y z, (d.cl x y z).set j v = d'.cl x y z) : Dw (V.setCell ⟨b, j, none⟩ v) b d' := by
  obtain ⟨ko, kc, wo, wc, X, ev, h⟩ := h
  exact (h.set j v d' hj hk hw hv (by rw [hc, hk])).w
/-- a number is put -/
structure PutD (V V' : World) (b : Nat) (d' : Dr) (e : Ending) : Prop where
  e : e = .returned (.tuple #[])
  dw : Dw V' b d'
  gr : V.grownBy V' (some b)
theorem putF_any (V : World) (b : Nat) (d : Dr) (n : Nat) (hn : n ≤ 4294967295) (h : Dw V b d) : Calls Tryd.prog 33 #[.pointer (some ⟨b, 0, none⟩), .int .u64 n] V fun e V' => PutD V V' b (putF d n) e := by
  obtain ⟨u, r0⟩ := h.field 5 (by decide)
  have hf := h.fro 5
  have HR : Hid (PutD V (V.setCell ⟨b, 5, none⟩ (.int .u32 n)) b (putF d n) (.returned (.tuple #[]))) := ⟨rfl, h.set 5 _ _ (by decide) rfl rfl rfl (fun _ _ _ => rfl), grown_set (World.grownBy.refl V _) _ _⟩
  have hni : (n : Int) ≤ 4294967295 := by omega
  clear h hn
  go_enter Tryd.func33, Tryd.ntmps33
  go_wp2
  (try simp only [Exit.inBlock, Exit.then])
  refine bodyPost_end (results_none rfl _ _ _) rfl ?_
  exact HR.out
theorem putL_any (V : World) (b : Nat) (d : Dr) (n : Nat) (hn : n ≤ 1099511627776) (h : Dw V b d) : Calls Tryd.prog 34 #[.pointer (some ⟨b, 0, none⟩), .int .u64 n] V fun e V' => PutD V V' b (putL d n) e := by
  obtain ⟨u, r0⟩ := h.field 6 (by decide)
  have hf := h.fro 6
  have HR : Hid (PutD V (V.setCell ⟨b, 6, none⟩ (.int .i64 n)) b (putL d n) (.returned (.tuple #[]))) := ⟨rfl, h.set 6 _ _ (by decide) rfl rfl rfl (fun _ _ _ => rfl), grown_set (World.grownBy.refl V _) _ _⟩
  have hni : (n : Int) ≤ 1099511627776 := by omega
  clear h hn
  go_enter Tryd.func34, Tryd.ntmps34
  go_wp2
  (try simp only [Exit.inBlock, Exit.then])
  refine bodyPost_end (results_none rfl _ _ _) rfl ?_
  exact HR.out
theorem putU_any (V : World) (b : Nat) (d : Dr) (n : Nat) (hn : n ≤ 18446744073709551615) (h : Dw V b d) : Calls Tryd.prog 37 #[.pointer (some ⟨b, 0, none⟩), .int .u64 n] V fun e V' => PutD V V' b (putU d n) e := by
  obtain ⟨u, r0⟩ := h.field 7 (by decide)
  have hf := h.fro 7
  have HR : Hid (PutD V (V.setCell ⟨b, 7, none⟩ (.int .u64 n)) b (putU d n) (.returned (.tuple #[]))) := ⟨rfl, h.set 7 _ _ (by decide) rfl rfl rfl (fun _ _ _ => rfl), grown_set (World.grownBy.refl V _) _ _⟩
  have hni : (n : Int) ≤ 18446744073709551615 := by omega
  clear h hn
  go_enter Tryd.func37, Tryd.ntmps37
  go_wp2
  (try simp only [Exit.inBlock, Exit.then])
  refine bodyPost_end (results_none rfl _ _ _) rfl ?_
  exact HR.out
theorem putB_any (V : World) (b : Nat) (d : Dr) (n : Nat) (hn : n ≤ 18446744073709551615) (h : Dw V b d) : Calls Tryd.prog 38 #[.pointer (some ⟨b, 0, none⟩), .int .u64 n] V fun e V' => PutD V V' b (putB d n) e := by
  obtain ⟨u, r0⟩ := h.field 8 (by decide)
  have hf := h.fro 8
  have HR : Hid (PutD V (V.setCell ⟨b, 8, none⟩ (.int .u64 n)) b (putB d n) (.returned (.tuple #[]))) := ⟨rfl, h.set 8 _ _ (by decide) rfl rfl rfl (fun _ _ _ => rfl), grown_set (World.grownBy.refl V _) _ _⟩
  have hni : (n : Int) ≤ 18446744073709551615 := by omega
  clear h hn
  go_enter Tryd.func38, Tryd.ntmps38
  go_wp2
  (try simp only [Exit.inBlock, Exit.then])
  refine bodyPost_end (results_none rfl _ _ _) rfl ?_
  exact HR.out
theorem putT_any (V : World) (b : Nat) (d : Dr) (n : Nat) (hn : n ≤ 3) (h : Dw V b d) : Calls Tryd.prog 39 #[.pointer (some ⟨b, 0, none⟩), .int .u64 n] V fun e V' => PutD V V' b (putT d n) e := by
  obtain ⟨u, r0⟩ := h.field 9 (by decide)
  have hf := h.fro 9
  have HR : Hid (PutD V (V.setCell ⟨b, 9, none⟩ (.int .i64 n)) b (putT d n) (.returned (.tuple #[]))) := ⟨rfl, h.set 9 _ _ (by decide) rfl rfl rfl (fun _ _ _ => rfl), grown_set (World.grownBy.refl V _) _ _⟩
  have hni : (n : Int) ≤ 3 := by omega
  clear h hn
  go_enter Tryd.func39, Tryd.ntmps39
  go_wp2
  (try simp only [Exit.inBlock, Exit.then])
  refine bodyPost_end (results_none rfl _ _ _) rfl ?_
  exact HR.out

theorem valueOf_any (V : World) (b : Nat) (n : Nat) (hn : n ≤ 512) (hb : b < V.heap.size) : Calls Tryd.prog 36 #[.int .i64 n] V fun e V' => ∃ p q, e = .returned (.func (.func 62) #[] #[.pointer (some ⟨p, 0, none⟩), .pointer (some ⟨q, 0, none⟩)]) ∧ Ev V' b (.func (.func 62) #[] #[.pointer (some ⟨p, 0, none⟩), .pointer (some ⟨q, 0, none⟩)]) (some n) ∧ (b < p ∧ b < q) ∧ Below V.heap.size V V' := by
  have hni : (n : Int) ≤ 512 := by omega
  have HB := Hid.mk2 hb
  have HN := Hid.mk2 hn
  clear hb hn
  go_enter Tryd.func36, Tryd.ntmps36
  go_wp2
  go_ret
  have hb := HB.out
  refine ⟨V.heap.size + 1, V.heap.size, rfl, ?_, by omega, ?_⟩
  · exact Ev.is n (V.heap.size + 1) V.heap.size HN.out (by simp) (by simp; omega) (by omega) (by omega) (by simp) (by simp)
  · exact ((Below.refl _ _).alloc (Nat.le_refl _) _).alloc (by simp) _
theorem Ev.spell {V : World} {b : Nat} {v : Value} {n : Nat} (h : Ev V b v (some n)) : ∃ p q, v = .func (.func 62) #[] #[.pointer (some ⟨p, 0, none⟩), .pointer (some ⟨q, 0, none⟩)] := by
  cases h with
  | is n p q => exact ⟨p, q, rfl⟩
theorem Dw.setV {V : World} {b : Nat} {d : Dr} (h : Dw V b d) (p q : Nat) (n : Nat) (hv : Ev V b (.func (.func 62) #[] #[.pointer (some ⟨p, 0, none⟩), .pointer (some ⟨q, 0, none⟩)]) (some n)) (hpq : b < p ∧ b < q) : Dw (V.setCell ⟨b, 14, none⟩ (.func (.func 62) #[] #[.pointer (some ⟨p, 0, none⟩), .pointer (some ⟨q, 0, none⟩)])) b (putV d n) := by
  obtain ⟨ko, kc, wo, wc, X, ev, h⟩ := h
  exact (h.setV _ n hv (fun p' q' e => by simp at e; omega)).w
theorem store_fn {W : World} {b j : Nat} {u : Value} (k : Nat) (fr lb : Array Value) (h : W.cell? ⟨b, j, none⟩ = some u) (hf : W.frozen? ⟨b, j, none⟩ = false) : (store ⟨b, j, none⟩ (.func (.func k) fr lb)).run Tryd.prog W = .ok () (W.setCell ⟨b, j, none⟩ (.func (.func k) fr lb)) := by
  rw [run_store _ _ _ _ _ rfl, h]
  simp [hf]
theorem putV_any (V : World) (b : Nat) (d : Dr) (n : Nat) (hn : n ≤ 512) (h : Dw V b d) : Calls Tryd.prog 35 #[.pointer (some ⟨b, 0, none⟩), .int .u64 n] V fun e V' => PutD V V' b (putV d n) e := by
  have HD := Hid.mk2 h
  have HV := Hid.mk2 (valueOf_any V b n hn h.lt)
  have hni : (n : Int) ≤ 512 := by omega
  clear h hn
  go_enter Tryd.func35, Tryd.ntmps35
  go_wp2_with (go_at_call 36; refine HV.out.mono ?_; rintro e w1 ⟨p, q, rfl, hE, hPQ, hB⟩; have HPQ := Hid.mk2 hPQ; clear hPQ; obtain ⟨u, r1⟩ := (HD.out.below hB).field 14 (by decide); have f1 := (HD.out.below hB).fro 14; have hst := store_fn 62 #[] #[.pointer (some ⟨p, 0, none⟩), .pointer (some ⟨q, 0, none⟩)] r1 f1; have HE := Hid.mk2 hE; have HBB := Hid.mk2 hB; clear hE hB)
  (try simp only [Exit.inBlock, Exit.then])
  refine bodyPost_end (results_none rfl _ _ _) rfl ?_
  exact ⟨rfl, (HD.out.below HBB.out).setV _ _ n HE.out HPQ.out, grown_set (grown_b HBB.out b) _ _⟩
theorem sgo_yes {d : Dr} (h : wordOk (d.ws.headD ⟨#[]⟩) 16 = true) : sgo d = some ⟨{ d.r with secret := d.ws.headD ⟨#[]⟩ }, d.ws.tail, d.vl⟩ := by
  obtain ⟨r, ws, vl⟩ := d
  cases ws with
  | nil => exact absurd (show wordOk ⟨#[]⟩ 16 = true from h) (by decide)
  | cons a l => unfold sgo; dsimp only at *; rw [if_pos (show wordOk a 16 = true from h)]; rfl
theorem sgo_no {d : Dr} (h : wordOk (d.ws.headD ⟨#[]⟩) 16 = false) : sgo d = none := by
  obtain ⟨r, ws, vl⟩ := d
  cases ws with
  | nil => rfl
  | cons a l =>
    unfold sgo
    dsimp only at *
    have h2 : wordOk a 16 = false := h
    rw [if_neg (by rw [h2]; decide)]
theorem secret_any (V : World) (b : Nat) (d : Dr) (h : Dw V b d) : Calls Tryd.prog 42 #[.pointer (some ⟨b, 0, none⟩)] V fun e V' => Told V V' b e (Pt.go .secret d) := by
  have HN := Hid.mk2 (next_any V b d h)
  have HY := Hid.mk2 (@sgo_yes d)
  have HF := Hid.mk2 (@sgo_no d)
  have hsz := h.head
  obtain ⟨s, hs⟩ : ∃ s, s = d.ws.headD ⟨#[]⟩ := ⟨_, rfl⟩
  rw [← hs] at hsz HY HF
  have HI := Hid.mk2 (isWord_any s 16 (by unfold maxLen; omega) (by decide))
  have HS := Hid.mk2 hs
  obtain ⟨R, hR⟩ : ∃ R, R = wordOk s 16 := ⟨_, rfl⟩
  rw [← hR] at HI HY HF
  clear h hs hR hsz
  go_enter Tryd.func42, Tryd.ntmps42
  go_wp2_with (first
    | (go_at_call 57; refine (HI.out _).mono ?_; rintro e w2 ⟨rfl, hB⟩; have HBB := Hid.mk2 hB; clear hB)
    | (go_at_call 56; refine HN.out.mono ?_; rintro e w1 ⟨he, hD, hG⟩; rw [← HS.out] at he; subst he; obtain ⟨u, r1⟩ := hD.field 10 (by decide); have f1 := hD.fro 10; have HD := Hid.mk2 hD; have HG := Hid.mk2 hG; clear hD hG))
  go_ret
  have hD2 := (HD.out.set 10 (.string s) ⟨{ d.r with secret := s }, d.ws.tail, d.vl⟩ (by decide) rfl rfl rfl (fun _ _ _ => rfl)).below HBB.out
  refine ⟨⟨_, hD2, ?_⟩, (grown_set HG.out 10 (.string s)).trans (grown_b HBB.out b)⟩
  cases R with
  | true => exact .inl ⟨HY.out rfl, rfl⟩
  | false => exact .inr ⟨HF.out rfl, rfl⟩
theorem ogo_on {d : Dr} (h : d.ws.headD ⟨#[]⟩ = sOn) : ogo d = some ⟨{ d.r with on := true }, d.ws.tail, d.vl⟩ := by
  obtain ⟨r, ws, vl⟩ := d
  cases ws with
  | nil => exact absurd (show (⟨#[]⟩ : ByteArray) = sOn from h) (by decide)
  | cons a l => unfold ogo; dsimp only at *; have h2 : a = sOn := h; rw [if_pos h2]; rfl
theorem ogo_off {d : Dr} (h : d.ws.headD ⟨#[]⟩ = sOff) : ogo d = some ⟨{ d.r with on := false }, d.ws.tail, d.vl⟩ := by
  obtain ⟨r, ws, vl⟩ := d
  cases ws with
  | nil => exact absurd (show (⟨#[]⟩ : ByteArray) = sOff from h) (by decide)
  | cons a l => unfold ogo; dsimp only at *; have h2 : a = sOff := h; subst h2; rw [if_neg (by decide), if_pos rfl]; rfl
theorem ogo_no {d : Dr} (h : ¬ d.ws.headD ⟨#[]⟩ = sOn) (h' : ¬ d.ws.headD ⟨#[]⟩ = sOff) : ogo d = none := by
  obtain ⟨r, ws, vl⟩ := d
  cases ws with
  | nil => rfl
  | cons a l => unfold ogo; dsimp only at *; have h2 : ¬ a = sOn := h; have h3 : ¬ a = sOff := h'; rw [if_neg h2, if_neg h3]
theorem str_eqb (x : ByteArray) (l : List UInt8) : (x.toList == l) = decide (x = mkB l) := by
  rw [ByteArray.toList_eq]
  show (bl x == l) = _
  by_cases h : x = mkB l
  · subst h; rw [bl_mkB]; simp
  · rw [decide_eq_false h]
    have : ¬ bl x = l := fun e => h (by rw [← e, mkB_bl])
    simpa using this
theorem onoff_any (V : World) (b : Nat) (d : Dr) (h : Dw V b d) : Calls Tryd.prog 43 #[.pointer (some ⟨b, 0, none⟩)] V fun e V' => Told V V' b e (Pt.go .onoff d) := by
  have HN := Hid.mk2 (next_any V b d h)
  have HA := Hid.mk2 (@ogo_on d)
  have HF := Hid.mk2 (@ogo_off d)
  have HO := Hid.mk2 (@ogo_no d)
  obtain ⟨s, hs⟩ : ∃ s, s = d.ws.headD ⟨#[]⟩ := ⟨_, rfl⟩
  rw [← hs] at HA HF HO
  have HS := Hid.mk2 hs
  obtain ⟨B1, e1⟩ : ∃ B1, (s.toList == [111, 110]) = B1 := ⟨_, rfl⟩
  obtain ⟨B2, e2⟩ : ∃ B2, (s.toList == [111, 102, 102]) = B2 := ⟨_, rfl⟩
  have E1 := Hid.mk2 (str_eqb s [111, 110])
  have E2 := Hid.mk2 (str_eqb s [111, 102, 102])
  rw [e1] at E1
  rw [e2] at E2
  clear h hs
  cases B1 with
  | true =>
    go_enter Tryd.func43, Tryd.ntmps43
    go_wp2_with (go_at_call 56; refine HN.out.mono ?_; rintro e w1 ⟨he, hD, hG⟩; rw [← HS.out] at he; subst he; obtain ⟨u, r1⟩ := hD.field 11 (by decide); have f1 := hD.fro 11; have HD := Hid.mk2 hD; have HG := Hid.mk2 hG; clear hD hG)
    go_ret
    refine ⟨⟨_, HD.out.set 11 (.bool true) ⟨{ d.r with on := true }, d.ws.tail, d.vl⟩ (by decide) rfl rfl rfl (fun _ _ _ => rfl), ?_⟩, grown_set HG.out 11 (.bool true)⟩
    have E1 := E1.out
    have E2 := E2.out
    have h1 : s = sOn := of_decide_eq_true E1.symm
    exact .inl ⟨HA.out h1, rfl⟩
  | false =>
    go_enter Tryd.func43, Tryd.ntmps43
    go_wp2_with (go_at_call 56; refine HN.out.mono ?_; rintro e w1 ⟨he, hD, hG⟩; rw [← HS.out] at he; subst he; obtain ⟨u, r1⟩ := hD.field 11 (by decide); have f1 := hD.fro 11; have HD := Hid.mk2 hD; have HG := Hid.mk2 hG; clear hD hG)
    go_ret
    refine ⟨⟨_, HD.out.set 11 (.bool false) ⟨{ d.r with on := false }, d.ws.tail, d.vl⟩ (by decide) rfl rfl rfl (fun _ _ _ => rfl), ?_⟩, grown_set HG.out 11 (.bool false)⟩
    have E1 := E1.out
    have E2 := E2.out
    have h1 : ¬ s = sOn := of_decide_eq_false E1.symm
    by_cases h2 : s = sOff
    · rw [decide_eq_true (show s = mkB [111, 102, 102] from h2)] at E2
      subst E2
      exact .inl ⟨HF.out h2, rfl⟩
    · rw [decide_eq_false (show ¬ s = mkB [111, 102, 102] from h2)] at E2
      subst E2
      exact .inr ⟨HO.out h1 h2, rfl⟩
end Go.Proofs.YtldnkminhppngaaDoor
/-
  The library's functions that reading calls, laid at this program.
-/
namespace Go.Proofs
open Go.Shelf Go.RowKit Go.Lib
shelf_lay LaysPu.n14 Mp 14 at Tryd as Tryd.layParse
shelf_lay Lays.n185 Nm 185 at Tryd as Tryd.layIndex
shelf_lay SlLaysP.n7 Slp 7 at Tryd as Tryd.laySplit
end Go.Proofs
/-
  Numbers read off a draft: the library's ParseUint, the closure that number makes.
-/
namespace Go.Proofs.YtldnkminhppngaaDoor
open Go.Proofs.YtldnkminhppngaaDoor.It
open Go.RowKit
set_option linter.unusedSimpArgs false
set_option linter.unusedVariables false
set_option maxRecDepth 100000

theorem pm_ok (m : Nat) (hm : m ≤ 18446744073709551615) : ∀ (l : List UInt8) (acc : Nat), l.all isD = true → l.foldl (fun n b => 10 * n + dv b) acc ≤ m → Lib.parseUintM m acc l = .ok (l.foldl (fun n b => 10 * n + dv b) acc)
  | [], acc, _, _ => rfl
  | c :: l, acc, hd, hv => by
    rw [List.all_cons, Bool.and_eq_true] at hd
    have h1 : 48 ≤ c.toNat ∧ c.toNat ≤ 57 := by
      have := hd.1
      unfold isD at this
      simp at this
      constructor <;> (first | exact this.1 | exact this.2 | (have := this.1; have := this.2; simp [UInt8.le_iff_toNat_le] at *; omega))
    have h2 : dv c = c.toNat - 48 := rfl
    have h3 := valL_cons_le c l (10 * acc + dv c)
    have h4 : 1 ≤ 10 ^ l.length := Nat.one_le_pow _ _ (by decide)
    have h5 : 10 * acc + dv c ≤ l.foldl (fun n b => 10 * n + dv b) (10 * acc + dv c) := Nat.le_trans (by have := Nat.mul_le_mul_left (10 * acc + dv c) h4; omega) h3
    have hv2 : l.foldl (fun n b => 10 * n + dv b) (10 * acc + dv c) ≤ m := hv
    unfold Lib.parseUintM
    rw [if_pos h1, if_neg (by omega), if_neg (by omega)]
    have e : acc * 10 + (c.toNat - 48) = 10 * acc + dv c := by rw [h2]; omega
    rw [e]
    exact pm_ok m hm l _ hd.2 hv2
theorem parse_dec {n : Nat} (h : n < 18446744073709551616) : Lib.parseUintB 64 (decL n) = .ok n := by
  unfold Lib.parseUintB
  rw [if_neg (decL_ne n)]
  have e : (2 : Nat) ^ 64 - 1 = 18446744073709551615 := by decide
  rw [e]
  have := pm_ok 18446744073709551615 (Nat.le_refl _) (decL n) 0 (decL_all n) (by show valL (decL n) ≤ _; rw [valL_decL]; omega)
  rw [this]
  show Lib.NumEnd.ok (valL (decL n)) = _
  rw [valL_decL]
theorem bl_dec (n : Nat) : bl (dec (n : Int)) = decL n := by unfold dec; rw [bl_mk]; rfl
/-- what ParseUint says of a word -/
def puV (s : ByteArray) : Option Nat := match Lib.parseUintB 64 (bl s) with | .ok u => some u | _ => none
theorem numW_pu (s : ByteArray) (m : Nat) : numW s m = match puV s with | none => none | some u => if u ≤ m ∧ dec (u : Int) = s then some u else none := by
  by_cases hn : isNum (bl s) = true
  · have e1 : bl s = decL (valL (bl s)) := by have e9 := decL_numV hn; unfold numV at e9; rw [if_pos hn] at e9; exact e9.symm
    have h64 : valL (bl s) < 18446744073709551616 := (isNum_parts hn).2.2.2.2
    have hp : puV s = some (valL (bl s)) := by
      unfold puV
      rw [e1, parse_dec h64, valL_decL]
    have hds : dec ((valL (bl s) : Nat) : Int) = s := bl_inj (by rw [bl_dec]; exact e1.symm)
    rw [hp]
    unfold numW
    dsimp only
    by_cases hm : valL (bl s) ≤ m
    · rw [if_pos ⟨hn, hm⟩, if_pos ⟨hm, hds⟩]
    · rw [if_neg (fun h => hm h.2), if_neg (fun h => hm h.1)]
  · unfold numW
    rw [if_neg (fun h => hn h.1)]
    cases hp : puV s with
    | none => rfl
    | some u =>
      dsimp only
      rw [if_neg]
      rintro ⟨_, hd⟩
      apply hn
      have hu : u < 18446744073709551616 := by
        unfold puV at hp
        split at hp
        · rename_i v hv
          have := Lib.parseUintB_le hv
          have e : v = u := Option.some.inj hp
          have e2 : (2 : Nat) ^ 64 - 1 = 18446744073709551615 := by decide
          omega
        · cases hp
      rw [← hd, bl_dec]
      exact isNum_decL hu
theorem puV_lt {s : ByteArray} {u : Nat} (hp : puV s = some u) : u < 18446744073709551616 := by
  unfold puV at hp
  split at hp
  · rename_i v hv
    have := Lib.parseUintB_le hv
    have e : v = u := Option.some.inj hp
    have e2 : (2 : Nat) ^ 64 - 1 = 18446744073709551615 := by decide
    omega
  · cases hp
theorem below_bytes {w w' : World} {t : TypeId} {s : ByteArray} (h : w' = w ∨ w' = Lib.bytesWorld w t s) : Below w.heap.size w w' := by
  rcases h with rfl | rfl
  · exact Below.refl _ _
  · exact Lib.bytesWorld_below _ _ _
theorem parse_yes (s : ByteArray) (hs : s.size ≤ 600) (u : Nat) (hp : puV s = some u) (V : World) : Calls Tryd.prog 60 #[.string s, .int .i64 10, .int .i64 64] V fun e V' => e = .returned (.tuple #[.int .u64 u, .nilIface]) ∧ Below V.heap.size V V' := by
  have hv : Lib.parseUintB 64 s.data.toList = .ok u := by
    unfold puV at hp
    split at hp
    · rename_i v hv
      cases hp
      exact hv
    · cases hp
  exact (Any.strconv_ParseUint_10_at64_ok Tryd.layParse s (by omega) u hv V).mono fun e V' h => ⟨h.1, below_bytes h.2⟩
theorem parse_no (s : ByteArray) (hs : s.size ≤ 600) (hp : puV s = none) (V : World) (hg : Gl V) : Calls Tryd.prog 60 #[.string s, .int .i64 10, .int .i64 64] V fun e V' => (∃ (x : Int) (t : TypeId) (N : Nat), e = .returned (.tuple #[.int .u64 x, .iface t (.pointer (some ⟨N, 0, none⟩))])) ∧ Below V.heap.size V V' := by
  unfold puV at hp
  cases hq : Lib.parseUintB 64 (bl s) with
  | ok u => rw [hq] at hp; cases hp
  | «syntax» =>
    obtain ⟨ev, h1, h2⟩ := hg.es
    refine (Any.strconv_ParseUint_10_at64_syntax Tryd.layParse s (by omega) hq ev V h1 h2).mono ?_
    rintro e V' ⟨N, he, _, _, hb⟩
    exact ⟨⟨_, _, N, he⟩, hb⟩
  | range =>
    obtain ⟨ev, h1, h2⟩ := hg.er
    refine (Any.strconv_ParseUint_10_at64_range Tryd.layParse s (by omega) hq ev V h1 h2).mono ?_
    rintro e V' ⟨N, he, _, _, hb⟩
    exact ⟨⟨_, _, N, he⟩, hb⟩
theorem cell_b {V V' : World} {b p : Nat} {u : Value} (hg : V.grownBy V' (some b)) (hne : p ≠ b) (h : V.cell? ⟨p, 0, none⟩ = some u) : V'.cell? ⟨p, 0, none⟩ = some u := by
  have hlt : p < V.heap.size := Lib.lt_of_cell h
  have hb : V'.heap[p]? = V.heap[p]? := hg.block p hlt (fun e => hne (Option.some.inj e))
  exact (World.cell?_of_block (a := ⟨p, 0, none⟩) hb).trans h
end Go.Proofs.YtldnkminhppngaaDoor
/-
  The closure that number makes: a number is read off a draft and put.
-/
namespace Go.Proofs.YtldnkminhppngaaDoor
open Go.Proofs.YtldnkminhppngaaDoor.It
open Go.RowKit
set_option linter.unusedSimpArgs false
set_option linter.unusedVariables false
set_option maxRecDepth 100000

theorem ngo_pu (m : Nat) (put : Dr → Nat → Dr) (d : Dr) : ngo m put d = match puV (d.ws.headD ⟨#[]⟩) with | none => none | some u => if u ≤ m ∧ dec (u : Int) = d.ws.headD ⟨#[]⟩ then some (put ⟨d.r, d.ws.tail, d.vl⟩ u) else none := by
  have e : ngo m put d = match numW (d.ws.headD ⟨#[]⟩) m with | none => none | some n => some (put ⟨d.r, d.ws.tail, d.vl⟩ n) := by
    obtain ⟨r, ws, vl⟩ := d
    cases ws with
    | nil =>
      have : numW ⟨#[]⟩ m = none := by
        unfold numW
        rw [if_neg (by rintro ⟨h, _⟩; exact absurd h (by decide))]
      unfold ngo
      dsimp only [List.headD_nil]
      rw [this]
    | cons a l => rfl
  rw [e, numW_pu]
  cases puV (d.ws.headD ⟨#[]⟩) with
  | none => rfl
  | some u =>
    dsimp only
    by_cases hc : u ≤ m ∧ dec (u : Int) = d.ws.headD ⟨#[]⟩
    · rw [if_pos hc, if_pos hc]
    · rw [if_neg hc, if_neg hc]
/-- a function that puts a number -/
structure PutSays (h : Nat) (most : Nat) (put : Dr → Nat → Dr) : Prop where
  en : ∀ args w, (callFunc h args).run Tryd.prog w = .ok (.enter h args) w
  says : ∀ V b d n, n ≤ most → Dw V b d → Calls Tryd.prog h #[.pointer (some ⟨b, 0, none⟩), .int .u64 (n : Nat)] V fun e V' => PutD V V' b (put d n) e

set_option maxHeartbeats 2000000 in
theorem number1_any (h most : Nat) (hm : most ≤ 18446744073709551615) (put : Dr → Nat → Dr) (hP : PutSays h most put) (p q : Nat) (V : World) (b : Nat) (d : Dr) (hg : Gl V) (hD : Dw V b d) (np : p ≠ b) (nq : q ≠ b)
    (cp : V.cell? ⟨p, 0, none⟩ = some (.int .u64 (most : Nat))) (cq : V.cell? ⟨q, 0, none⟩ = some (.func (.func h) #[] #[])) :
    Calls Tryd.prog 59 #[.pointer (some ⟨b, 0, none⟩), .pointer (some ⟨p, 0, none⟩), .pointer (some ⟨q, 0, none⟩)] V fun e V' => Told V V' b e (ngo most put d) := by
  have HN := Hid.mk2 (next_any V b d hD)
  have hng : NG ≤ b := by obtain ⟨_, _, _, _, _, _, h⟩ := hD; exact h.ng
  have HT := Hid.mk2 (fun V' (hgr : V.grownBy V' (some b)) => hg.grown hgr (by intro r e; cases e; exact hng))
  have HP := Hid.mk2 (fun V' (hgr : V.grownBy V' (some b)) => cell_b hgr np cp)
  have HQ := Hid.mk2 (fun V' (hgr : V.grownBy V' (some b)) => cell_b hgr nq cq)
  have hsz := hD.head
  have HR := Hid.mk2 (ngo_pu most put d)
  obtain ⟨X, hX⟩ : ∃ X, X = ngo most put d := ⟨_, rfl⟩
  rw [← hX] at HR ⊢
  obtain ⟨s, hs⟩ : ∃ s, s = d.ws.headD ⟨#[]⟩ := ⟨_, rfl⟩
  rw [← hs] at hsz HR
  have HS := Hid.mk2 hs
  clear hs hg hD hX np nq cp cq hng
  have hmi : (most : Int) ≤ 18446744073709551615 := by omega
  cases hp : puV s with
  | none =>
    rw [hp] at HR
    have HU := Hid.mk2 (fun V' (hgr : V.grownBy V' (some b)) => parse_no s hsz hp V' (HT.out V' hgr))
    clear hp hsz HT
    go_enter Tryd.func59, Tryd.ntmps59
    go_wp2_with (first
      | (go_at_call 60; refine (HU.out _ HG.out).mono ?_; rintro e w2 ⟨⟨x, t, N, rfl⟩, hB⟩; have HBB := Hid.mk2 hB; clear hB)
      | (go_at_call 56; refine HN.out.mono ?_; rintro e w1 ⟨he, hD, hG⟩; rw [← HS.out] at he; subst he; have HD := Hid.mk2 hD; have HG := Hid.mk2 hG; clear hD hG))
    go_ret
    exact ⟨⟨_, HD.out.below HBB.out, .inr ⟨HR.out, rfl⟩⟩, HG.out.trans (grown_b HBB.out b)⟩
  | some u =>
    rw [hp] at HR
    have hu := puV_lt hp
    have HU := Hid.mk2 (fun V' => parse_yes s hsz u hp V')
    have hui : (u : Int) < 18446744073709551616 := by omega
    clear hp hsz
    by_cases hle : u ≤ most
    · have h1 : ¬ most < u := by omega
      clear hui hmi
      have HC := Hid.mk2 (fun V' (hT : Tab V') => dec64_any u hu V' hT)
      by_cases hds : dec (u : Int) = s
      · have HR2 : Hid (X = some (put ⟨d.r, d.ws.tail, d.vl⟩ u)) := by
          have h9 := HR.out
          dsimp only at h9
          rw [if_pos ⟨hle, hds⟩] at h9
          exact h9
        rw [hds] at HC
        have HPS := Hid.mk2 (fun V' (hd : Dw V' b ⟨d.r, d.ws.tail, d.vl⟩) => hP.says V' b ⟨d.r, d.ws.tail, d.vl⟩ u hle hd)
        have eh := hP.en
        have est : (s.toList == s.toList) = true := by simp
        clear HR hds hle hP hu
        go_enter Tryd.func59, Tryd.ntmps59
        go_wp2_with (first
          | (go_at_call 60; refine (HU.out _).mono ?_; rintro e w2 ⟨rfl, hB⟩; have r1 := HP.out _ (HG.out.trans (grown_b hB b)); have r2 := HQ.out _ (HG.out.trans (grown_b hB b)); have HBB := Hid.mk2 hB; clear hB)
          | (go_at_call 61; refine (HC.out w2 (HT.out w2 (HG.out.trans (grown_b HBB.out b))).tab).mono ?_; rintro e w3 ⟨rfl, hB⟩; clear r1 r2; have r2 := HQ.out _ ((HG.out.trans (grown_b HBB.out b)).trans (grown_b hB b)); have HB3 := Hid.mk2 hB; clear hB)
          | (go_at_call 56; refine HN.out.mono ?_; rintro e w1 ⟨he, hD, hG⟩; rw [← HS.out] at he; subst he; have HD := Hid.mk2 hD; have HG := Hid.mk2 hG; clear hD hG)
          | (go_at_fn h; refine (HPS.out _ ((HD.out.below HBB.out).below HB3.out)).mono ?_; rintro e w4 ⟨rfl, hD4, hG4⟩; have HD4 := Hid.mk2 hD4; have HG4 := Hid.mk2 hG4; clear hD4 hG4))
        go_ret
        exact ⟨⟨_, HD4.out, .inl ⟨HR2.out, rfl⟩⟩, ((HG.out.trans (grown_b HBB.out b)).trans (grown_b HB3.out b)).trans HG4.out⟩
      · have HR2 : Hid (X = none) := by
          have h9 := HR.out
          dsimp only at h9
          rw [if_neg (fun h => hds h.2)] at h9
          exact h9
        obtain ⟨D, hDD⟩ : ∃ D, D = dec (u : Int) := ⟨_, rfl⟩
        rw [← hDD] at HC hds
        have est : (D.toList == s.toList) = false := by
          have := str_eqb D s.toList
          rw [this, decide_eq_false]
          intro e
          apply hds
          rw [e]
          apply bl_inj
          rw [bl_mkB]
          rw [ByteArray.toList_eq]; rfl
        clear HR hds hle hP hu hDD
        go_enter Tryd.func59, Tryd.ntmps59
        go_wp2_with (first
          | (go_at_call 60; refine (HU.out _).mono ?_; rintro e w2 ⟨rfl, hB⟩; have r1 := HP.out _ (HG.out.trans (grown_b hB b)); have HBB := Hid.mk2 hB; clear hB)
          | (go_at_call 61; refine (HC.out w2 (HT.out w2 (HG.out.trans (grown_b HBB.out b))).tab).mono ?_; rintro e w3 ⟨rfl, hB⟩; clear r1; have HB3 := Hid.mk2 hB; clear hB)
          | (go_at_call 56; refine HN.out.mono ?_; rintro e w1 ⟨he, hD, hG⟩; rw [← HS.out] at he; subst he; have HD := Hid.mk2 hD; have HG := Hid.mk2 hG; clear hD hG))
        go_ret
        exact ⟨⟨_, (HD.out.below HBB.out).below HB3.out, .inr ⟨HR2.out, rfl⟩⟩, (HG.out.trans (grown_b HBB.out b)).trans (grown_b HB3.out b)⟩
    · have h1 : (most : Int) < (u : Int) := by omega
      have HR2 : Hid (X = none) := by
        have h9 := HR.out
        dsimp only at h9
        rw [if_neg (fun h => hle h.1)] at h9
        exact h9
      clear HR hle hP hu
      go_enter Tryd.func59, Tryd.ntmps59
      go_wp2_with (first
        | (go_at_call 60; refine (HU.out _).mono ?_; rintro e w2 ⟨rfl, hB⟩; have r1 := HP.out _ (HG.out.trans (grown_b hB b)); have HBB := Hid.mk2 hB; clear hB)
        | (go_at_call 56; refine HN.out.mono ?_; rintro e w1 ⟨he, hD, hG⟩; rw [← HS.out] at he; subst he; have HD := Hid.mk2 hD; have HG := Hid.mk2 hG; clear hD hG))
      go_ret
      exact ⟨⟨_, HD.out.below HBB.out, .inr ⟨HR2.out, rfl⟩⟩, HG.out.trans (grown_b HBB.out b)⟩
end Go.Proofs.YtldnkminhppngaaDoor
/-
  The closure that keysUpTo makes: keys are read off a draft.
-/
namespace Go.Proofs.YtldnkminhppngaaDoor
open Go.Proofs.YtldnkminhppngaaDoor.It
open Go.RowKit
set_option linter.unusedSimpArgs false
set_option linter.unusedVariables false
set_option maxRecDepth 100000

/-- all that a draft reads lies below block B -/
structure Old (B : Nat) (d : Dr) (ko wo : Option Addr) (X : List Wd) (ev : Value) : Prop where
  k : ∀ g o, ko = some ⟨g, o, none⟩ → d.r.cmd.keys ≠ [] → g < B
  w : ∀ g o, wo = some ⟨g, o, none⟩ → X ≠ [] → g < B
  x : ∀ x ∈ X, ∀ g o, x.ao = some ⟨g, o, none⟩ → x.l ≠ [] → g < B
  v : ∀ p q, ev = .func (.func 62) #[] #[.pointer (some ⟨p, 0, none⟩), .pointer (some ⟨q, 0, none⟩)] → p < B ∧ q < B
def DB (B : Nat) (V : World) (b : Nat) (d : Dr) : Prop := ∃ ko kc wo wc X ev, Dx V b d ko kc wo wc X ev ∧ Old B d ko wo X ev
theorem rd_lt {α : Type} {E : GEl α} {V : World} {ao : Option Addr} {l : List α} {cap : Nat} (h : GRd E V ao l cap) (g o : Nat) (e : ao = some ⟨g, o, none⟩) (hne : l ≠ []) : g < V.heap.size := by
  obtain ⟨b, off, e2, hb, _⟩ := h.lies hne
  rw [e] at e2
  cases e2
  exact hb
theorem Dw.db {V : World} {b : Nat} {d : Dr} (h : Dw V b d) : DB V.heap.size V b d := by
  obtain ⟨ko, kc, wo, wc, X, ev, h⟩ := h
  refine ⟨ko, kc, wo, wc, X, ev, h, fun g o e hne => rd_lt h.keys.rd g o e hne, fun g o e hne => rd_lt h.rows.rd g o e hne, fun x hx g o e hne => rd_lt (h.each x hx).rd g o e hne, fun p q e => ?_⟩
  have hv := h.ev
  rw [e] at hv
  generalize d.vl = vl at hv
  cases hv with
  | is n p q hn hp hq => exact ⟨hp, hq⟩
theorem DB.dw {B : Nat} {V : World} {b : Nat} {d : Dr} (h : DB B V b d) : Dw V b d := by
  obtain ⟨ko, kc, wo, wc, X, ev, h, _⟩ := h
  exact h.w
theorem Rx.off2 {α : Type} {E : GEl α} {V V' : World} {b r B : Nat} {ao : Option Addr} {l : List α} {cap : Nat} (h : Rx E V b ao l cap) (ho : ∀ g o, ao = some ⟨g, o, none⟩ → l ≠ [] → g < B) (hg : V.grownBy V' (some r)) (hr : B ≤ r) : Rx E V' b ao l cap := by
  refine ⟨⟨h.rd.hl, h.rd.hc, h.rd.hn, ?_⟩, h.off⟩
  rcases h.rd.at_ with e | ⟨g, off, e, hlt, hc⟩
  · exact .inl e
  · by_cases hne : l = []
    · exact .inl hne
    · have h1 := ho g off e hne
      have hb : V'.heap[g]? = V.heap[g]? := hg.block g hlt (fun e2 => by have := Option.some.inj e2; omega)
      exact .inr ⟨g, off, e, Nat.lt_of_lt_of_le hlt hg.size, fun i hi j hj => (World.cell?_of_block (a := ⟨g, off + i * E.sz + j, none⟩) hb).trans (hc i hi j hj)⟩
theorem DB.grown {B : Nat} {V V' : World} {b : Nat} {d : Dr} {row : Option Nat} (h : DB B V b d) (hg : V.grownBy V' row) (hr : ∀ r, row = some r → B ≤ r ∧ r ≠ b) : DB B V' b d := by
  cases row with
  | none =>
    obtain ⟨ko, kc, wo, wc, X, ev, h, ho⟩ := h
    exact ⟨ko, kc, wo, wc, X, ev, h.below (g_grown_below hg), ho⟩
  | some r =>
    obtain ⟨h1, h2⟩ := hr r rfl
    obtain ⟨ko, kc, wo, wc, X, ev, h, ho⟩ := h
    refine ⟨ko, kc, wo, wc, X, ev, ⟨h.bx.grown hg (by intro e; exact h2 (Option.some.inj e)), h.ng, h.keys.off2 ho.k hg h1, h.rows.off2 ho.w hg h1, fun x hx => (h.each x hx).off2 (ho.x x hx) hg h1, h.len, h.ws, h.far, ?_⟩, ho⟩
    have hv := h.ev
    have hov := ho.v
    generalize d.vl = vl at hv ⊢
    cases hv with
    | no => exact .no
    | is n p q hn hp hq np nq cp cq =>
      obtain ⟨e1, e2⟩ := hov p q rfl
      have bp : V'.heap[p]? = V.heap[p]? := hg.block p hp (fun e => by have := Option.some.inj e; omega)
      have bq : V'.heap[q]? = V.heap[q]? := hg.block q hq (fun e => by have := Option.some.inj e; omega)
      exact .is n p q hn (Nat.lt_of_lt_of_le hp hg.size) (Nat.lt_of_lt_of_le hq hg.size) np nq ((World.cell?_of_block (a := ⟨p, 0, none⟩) bp).trans cp) ((World.cell?_of_block (a := ⟨q, 0, none⟩) bq).trans cq)
theorem next_b (B : Nat) (V : World) (b : Nat) (d : Dr) (h : DB B V b d) : Calls Tryd.prog 56 #[.pointer (some ⟨b, 0, none⟩)] V fun e V' => e = .returned (.string (d.ws.headD ⟨#[]⟩)) ∧ DB B V' b ⟨d.r, d.ws.tail, d.vl⟩ ∧ V.grownBy V' (some b) := by
  obtain ⟨ko, kc, wo, wc, X, ev, h, ho⟩ := h
  refine (next_x V b d ko kc wo wc X ev h).mono ?_
  rintro e V' ⟨h1, ⟨wo', wc', h2, h3⟩, h4⟩
  refine ⟨h1, ⟨ko, kc, wo', wc', X.tail, ev, h2, ho.k, fun g o e hne => ?_, fun x hx => ho.x x (List.mem_of_mem_tail hx), ho.v⟩, h4⟩
  obtain ⟨o', e'⟩ := h3 hne g o e
  exact ho.w g o' e' (by intro e0; rw [e0] at hne; exact hne rfl)
theorem Dw.words {V : World} {b : Nat} {d : Dr} (h : Dw V b d) : ∃ wo wc, V.cell? ⟨b, 13, none⟩ = some (.slice wo d.ws.length wc) ∧ d.ws.length ≤ 600 := by
  obtain ⟨ko, kc, wo, wc, X, ev, h⟩ := h
  have e : d.ws.length = X.length := by rw [← h.ws, List.length_map]
  refine ⟨wo, wc, ?_, by rw [e]; exact h.len.1⟩
  rw [e]
  exact h.bx.c 13 (by rw [Dr.cl_len]; decide)
theorem Dw.setK {V : World} {b : Nat} {d : Dr} {ko : Option Addr} {kc : Nat} {ks : List ByteArray} (h : Dw V b d) (hk : Rx ES V b ko ks kc) (hf : ∀ g o, ko = some ⟨g, o, none⟩ → ks ≠ [] → b < g) : Dw (V.setCell ⟨b, 3, none⟩ (.slice ko ks.length kc)) b ⟨{ d.r with cmd := { d.r.cmd with keys := ks } }, d.ws, d.vl⟩ := by
  obtain ⟨_, _, _, _, _, _, h⟩ := h
  exact (h.setK ko kc ks hk hf).w
theorem grown_row {W V V' : World} {ro row : Option Nat} (h : W.grownBy V ro) (h' : V.grownBy V' row) (hr : ∀ r, row = some r → W.heap.size ≤ r) : W.grownBy V' ro :=
  ⟨h'.os.trans h.os, h'.tape.trans h.tape, h'.output.trans h.output, Nat.le_trans h.size h'.size, fun k hk hne => (h'.block k (Nat.lt_of_lt_of_le hk h.size) (by intro e; have := hr k e.symm; omega)).trans (h.block k hk hne)⟩
/-- what the loop over keys keeps -/
structure Kl (V wr : World) (b most : Nat) (d : Dr) (kv : Value) (ks rest : List ByteArray) : Prop where
  own : GOwn ES wr V.heap.size kv ks
  db : DB V.heap.size wr b ⟨d.r, rest, d.vl⟩
  gr : V.grownBy wr (some b)
  le : ks.length ≤ most
  kw : keysW most [] d.ws = keysW most ks rest
section
variable {V wr : World} {b most : Nat} {d : Dr} {kv : Value} {ks rest : List ByteArray}
theorem Kl.start (h : Dw V b d) : Kl V V b most d (.slice none 0 0) [] d.ws := ⟨GOwn.nil _ _, h.db, World.grownBy.refl V _, Nat.zero_le _, rfl⟩
theorem own_b {w w' : World} {base : Nat} (h : GOwn ES w base kv ks) (hg : w.grownBy w' (some b)) (hb : b < base) : GOwn ES w' base kv ks :=
  h.grown hg (by intro k hk e; have := (h.lt k hk).1; cases e; omega)
theorem GOwn.rd2 {α : Type} {E : GEl α} {w : World} {base m cap : Nat} {ao : Option Addr} {l : List α} (h : GOwn E w base (.slice ao l.length cap) l) (K : GOk E) (hm : m = l.length) : GRd E w ao l cap := by
  obtain ⟨ao', cap', e, hr⟩ := h.rd K
  cases e
  exact hr
/-- the loop is left: the keys are stored -/
theorem Kl.done {ko : Option Addr} {kc : Nat} (h : Kl V wr b most d (.slice ko ks.length kc) ks rest) (hb : b < V.heap.size) (hK : keysW most ks rest = some (ks, rest)) (m : Nat) (hm : m = ks.length) :
    Told V (wr.setCell ⟨b, 3, none⟩ (.slice ko m kc)) b (.returned (.bool (decide (0 < m)))) (kgo most d) := by
  subst hm
  obtain ⟨ao, cap, e, hr⟩ := Rx.own okS h.own hb
  cases e
  have hd := h.db.dw.setK hr (fun g o e _ => by have := (h.own.lt g (by rw [e]; rfl)).1; omega)
  refine ⟨⟨_, hd, ?_⟩, grown_set h.gr _ _⟩
  unfold kgo
  rw [h.kw, hK]
  dsimp only
  by_cases h0 : ks.length = 0
  · rw [if_pos h0]
    exact .inr ⟨rfl, by rw [h0]; rfl⟩
  · rw [if_neg h0]
    exact .inl ⟨rfl, by rw [decide_eq_true (by omega)]⟩
theorem Kl.no {wx : World} (h : Kl V wr b most d kv ks rest) (hK : keysW most ks rest = none) {d' : Dr} (hd : Dw wx b d') (hg : wr.grownBy wx (some b)) : Told V wx b (.returned (.bool false)) (kgo most d) := by
  refine ⟨⟨d', hd, .inr ⟨?_, rfl⟩⟩, h.gr.trans hg⟩
  unfold kgo
  rw [h.kw, hK]
end
end Go.Proofs.YtldnkminhppngaaDoor
/-
  The closure that keysUpTo makes: its walk.
-/
namespace Go.Proofs.YtldnkminhppngaaDoor
open Go.Proofs.YtldnkminhppngaaDoor.It
open Go.RowKit
set_option linter.unusedSimpArgs false
set_option linter.unusedVariables false
set_option maxRecDepth 100000

set_option maxHeartbeats 2000000 in
theorem keys1_any (most p : Nat) (hmost : most ≤ 8) (V : World) (b : Nat) (d : Dr) (hD : Dw V b d) (np : p ≠ b) (cp : V.cell? ⟨p, 0, none⟩ = some (.int .i64 (most : Nat))) :
    Calls Tryd.prog 55 #[.pointer (some ⟨b, 0, none⟩), .pointer (some ⟨p, 0, none⟩)] V fun e V' => Told V V' b e (kgo most d) := by
  have HP := Hid.mk2 (fun V' (hgr : V.grownBy V' (some b)) => cell_b hgr np cp)
  have HS := Hid.mk2 (Kl.start (most := most) hD)
  have HBL := Hid.mk2 hD.lt
  clear hD np cp
  go_enter Tryd.func55, Tryd.ntmps55
  go_wp2
  go_loopg [4] (most + 1) (fun g s4 wr => ∃ ks rest, Hid (g + ks.length = most + 1) ∧ Hid (Kl V wr b most d s4 ks rest))
  case atStart => exact ⟨[], d.ws, by show _ = _; simp, HS.out⟩
  case round =>
    clear HS
    obtain ⟨ks, rest, HGK, HK⟩ := hrel
    obtain ⟨ko, kc, hkv, hrd⟩ := HK.out.own.rd okS
    subst hkv
    have rp := HP.out _ HK.out.gr
    have hk := HK.out
    have hbl := HBL.out
    obtain ⟨wo, wc, r13, hwl⟩ := hk.db.dw.words
    obtain ⟨u3, r3⟩ := hk.db.dw.field 3 (by decide)
    have f3 := hk.db.dw.fro 3
    dsimp only at r13 hwl
    obtain ⟨m, hm⟩ : ∃ m, m = ks.length := ⟨_, rfl⟩
    have HM := Hid.mk2 hm
    have hml : m ≤ most := by rw [hm]; exact hk.le
    have HRD := Hid.mk2 hrd
    rw [← hm]
    clear hrd
    cases rest with
    | nil =>
      have r13' : wr.cell? ⟨b, 13, none⟩ = some (.slice wo 0 wc) := r13
      have HE := Hid.mk2 (Kl.done hk hbl rfl m hm)
      clear r13 hk hm HK hbl HGK hwl HRD HM
      go_wp2
      go_ret
      exact HE.out
    | cons k rest' =>
      obtain ⟨n, hn⟩ : ∃ n, n = (k :: rest').length := ⟨_, rfl⟩
      rw [← hn] at r13 hwl
      have hn0 : 0 < n := by rw [hn]; simp
      by_cases hlt : m < most
      · have HN := Hid.mk2 (next_b V.heap.size wr b _ hk.db)
        have hks : k.size ≤ 600 := hk.db.dw.head
        have HI := Hid.mk2 (isWord_any k 32 (by unfold maxLen; omega) (by decide))
        have HC := Hid.mk2 (fun (w' : World) (h : GRd ES w' ko ks kc) => containsS_any ks ko kc m hm k w' h)
        clear hn
        by_cases hw : wordOk k 32 = true
        · rw [hw] at HI
          by_cases hc : k ∈ ks
          · rw [decide_eq_true hc] at HC
            have HNO : Hid (keysW most ks (k :: rest') = none) := by
              show _ = _
              unfold keysW
              rw [if_pos (by rw [← hm]; exact hlt), if_neg (fun h => h.2 hc)]
            have HKG := Hid.mk2 hk
            clear hk HK hm hwl hks hw hc HGK r3 f3
            go_wp2_with (first
              | (go_at_call 57; refine (HI.out _).mono ?_; rintro e w2 ⟨rfl, hB⟩; have HBB := Hid.mk2 hB; clear hB)
              | (go_at_call 58; refine (HC.out _ (by first | exact ((own_b HKG.out.own HG1.out HBL.out).below HBB.out).rd2 okS HM.out)).mono ?_; rintro e w3 ⟨rfl, hw3⟩; replace hw3 := hw3.symm; subst hw3)
              | (go_at_call 56; refine HN.out.mono ?_; rintro e w1 ⟨rfl, hD1, hG1⟩; have HD1 := Hid.mk2 hD1; have HG1 := Hid.mk2 hG1; clear hD1 hG1))
            go_ret
            exact HKG.out.no HNO.out (HD1.out.dw.below HBB.out) (HG1.out.trans (grown_b HBB.out b))
          · rw [decide_eq_false hc] at HC
            have HNX : Hid (keysW most ks (k :: rest') = keysW most (ks ++ [k]) rest') := by
              show _ = _
              rw [keysW]
              rw [if_pos (by rw [← hm]; exact hlt), if_pos ⟨hw, hc⟩]
            have HKG := Hid.mk2 hk
            have hml2 : m + 1 ≤ 1000000 := by omega
            clear hk HK hm hwl hks hw hc r3 f3
            go_wp2_with (first
              | (go_at_call 57; refine (HI.out _).mono ?_; rintro e w2 ⟨rfl, hB⟩; have HBB := Hid.mk2 hB; clear hB)
              | (go_at_call 58; refine (HC.out _ (by first | exact ((own_b HKG.out.own HG1.out HBL.out).below HBB.out).rd2 okS HM.out)).mono ?_; rintro e w3 ⟨rfl, hw3⟩; replace hw3 := hw3.symm; subst hw3)
              | (at_builtin; refine g_one (w0 := w2) okS rfl _ _ _ rfl rfl V.heap.size _ ks ((own_b HKG.out.own HG1.out HBL.out).below HBB.out) (by rw [← HM.out]; rfl) k rfl _ rfl rfl (by have := HM.out; omega) (Nat.le_trans HKG.out.gr.size (Nat.le_trans HG1.out.size HBB.out.size)) ?_; intro v7 w7 hO7 hG7; have HO7 := Hid.mk2 hO7; have HG7 := Hid.mk2 hG7; clear hO7 hG7)
              | (go_at_call 56; refine HN.out.mono ?_; rintro e w1 ⟨rfl, hD1, hG1⟩; have HD1 := Hid.mk2 hD1; have HG1 := Hid.mk2 hG1; clear hD1 hG1))
            go_roundg (gk - 1)
            case measure => have h1 := HGK.out; have h2 := HM.out; omega
            case rel =>
              have h1 := HGK.out
              have h2 := HM.out
              have hO2 := (own_b HKG.out.own HG1.out HBL.out).below HBB.out
              have hrow : ∀ r, Value.ownBlock (.slice ko ks.length kc) = some r → V.heap.size ≤ r := fun r e => (hO2.lt r e).1
              refine ⟨ks ++ [k], rest', by show _ = _; simp; omega, HO7.out, ?_, ?_, by simp; omega, HKG.out.kw.trans HNX.out⟩
              · refine ((HD1.out.grown (row := none) (g_grown HBB.out none) (by intro r e; cases e)).grown HG7.out.grown ?_)
                intro r e
                have := hrow r e
                have := HBL.out
                omega
              · exact grown_row ((HKG.out.gr.trans HG1.out).trans (grown_b HBB.out b)) HG7.out.grown hrow
        · have hwf : wordOk k 32 = false := by simpa using hw
          rw [hwf] at HI
          have HNO : Hid (keysW most ks (k :: rest') = none) := by
            show _ = _
            unfold keysW
            rw [if_pos (by rw [← hm]; exact hlt), if_neg (fun h => hw h.1)]
          have HKG := Hid.mk2 hk
          clear hk HK hm hwl hks hw hwf HGK r3 f3 HC
          go_wp2_with (first
            | (go_at_call 57; refine (HI.out _).mono ?_; rintro e w2 ⟨rfl, hB⟩; have HBB := Hid.mk2 hB; clear hB)
            | (go_at_call 56; refine HN.out.mono ?_; rintro e w1 ⟨rfl, hD1, hG1⟩; have HD1 := Hid.mk2 hD1; have HG1 := Hid.mk2 hG1; clear hD1 hG1))
          go_ret
          exact HKG.out.no HNO.out (HD1.out.dw.below HBB.out) (HG1.out.trans (grown_b HBB.out b))
      · have hK : keysW most ks (k :: rest') = some (ks, k :: rest') := by
          unfold keysW
          rw [if_neg (by rw [← hm]; exact hlt)]
        have HE := Hid.mk2 (Kl.done hk hbl hK m hm)
        clear hk hm HK hbl HGK HRD HM hK hn
        go_wp2
        go_ret
        exact HE.out
end Go.Proofs.YtldnkminhppngaaDoor
