/-
  Inboxes out of which a ticket was taken, as data; the examples' inboxes.
-/
import Derived.Test.YtpnmokmadbapoaaTkW
import Derived.Test.YtpnmokmadbapoaaTkS
namespace Go.Proofs.Ytpnmokmadbapoaa
open Go.RowKit
set_option linter.unusedSimpArgs false
set_option linter.unusedVariables false
set_option maxRecDepth 100000

theorem rdy_heads {q : List (List Tk)} {i : Nat} {t : Tk} {l : List Tk} (e : bxs q i = t :: l) (h : rdy q i = true) : ∀ r, r < q.length → (r ∈ t.nd q.length ↔ ∃ l', bxs q r = t :: l') := by
  unfold rdy at h
  rw [e] at h
  have h2 := of_decide_eq_true h
  intro r hr
  have h3 := hld_eq.1 h2 r hr
  rw [lft_zero] at h3
  exact h3
theorem QOk.take {q : List (List Tk)} {next : Int} (h : QOk q next) {i : Nat} (hi : i < q.length) {t : Tk} {l : List Tk} (e : bxs q i = t :: l) (hr : rdy q i = true) : QOk (takeQ q t) next := by
  refine ⟨by rw [takeQ_len]; exact h.n0, by rw [takeQ_len]; exact h.n1, h.x0, h.x1, fun m hm => ?_, ?_⟩
  · obtain ⟨j, hj, rfl⟩ := mem_bxs hm
    rw [takeQ_len] at hj
    rw [takeQ_bxs j hj]
    have hb := h.box (bxs q j) (bxs_mem hj)
    unfold Tk.taken
    split
    · exact ⟨Nat.le_trans (by simp) hb.len, fun u hu => hb.may u (List.mem_of_mem_tail hu), fun u hu => hb.lo u (List.mem_of_mem_tail hu), fun u hu => hb.hi u (List.mem_of_mem_tail hu), hb.rise.sublist (List.tail_sublist _)⟩
    · exact hb
  · rw [takeQ_len]
    have hF := h.fit.take hi e (fun r hr' => by
      obtain ⟨l', e'⟩ := (rdy_heads e hr r (Tk.nd_lt r hr')).1 hr'
      exact ⟨t, l', e', rfl⟩)
    refine (Tk.Fit.congr fun j hj => ?_).1 hF
    rw [takeQ_bxs j hj]
def t0 : Tk := { exA with num := 0 }
def t1 : Tk := { exB with num := 1 }
def t2 : Tk := { exC with num := 2 }
def q4 : List (List Tk) := takeQ q3 t0
def q5 : List (List Tk) := takeQ q4 t1
theorem bx30 : bxs q3 0 = [t0, t1] := by decide
theorem rd30 : rdy q3 0 = true := by decide
theorem ok4 : QOk q4 3 := ok3.take (i := 0) (by decide) bx30 rd30
theorem rdy4 : rdyL q4 = [0, 1] := by decide
theorem bx41 : bxs q4 1 = [t1, t2] := by decide
theorem rd41 : rdy q4 1 = true := by decide
theorem ok5 : QOk q5 3 := ok4.take (i := 1) (by decide) bx41 rd41
theorem rdy5 : rdyL q5 = [1] := by decide
theorem rd50 : rdy q5 0 = false := by decide
theorem no_may : (Tk.mk 0 0 ⟨0, 0, [], ⟨#[]⟩, 0, 0, 0, 0⟩ 0 0).may = false := by decide
theorem Al.on {w wx w' : World} {Q g : Nat} {next : Int} {B : List Bx} {D : List (List Tk)} (h : Al w wx Q g next B D) (hb : Below wx.heap.size wx w') : Al w w' Q g next B D :=
  ⟨g_on h.bel hb, h.qb.below hb, h.rd.below hb, h.len, h.dt, h.q0⟩
/-- Take of the examples' inboxes -/
theorem takeA {w wx : World} {Q g : Nat} {B : List Bx} {D : List (List Tk)} (h : Al w wx Q g 3 B D) (hq : QOk D 3) (i : Nat) (hi : i < 2) (hr : rdy D i = true) {t : Tk} {l : List Tk} (e : bxs D i = t :: l) :
    Calls Try.prog 29 #[.agg #[.int .i64 3, .slice (some ⟨g, 0, none⟩) 2 2], .int .i64 i] wx fun e w' => ∃ g6 B6 ko kc, e = .returned (.tuple #[.agg #[.int .i64 3, .slice (some ⟨g6, 0, none⟩) 2 2], .agg (t.arr (.slice ko t.c.keys.length kc)), .int .i64 0]) ∧ wx.heap.size ≤ g6 ∧ Qo w' wx.heap.size g6 B6 ∧ dat B6 = takeQ D t ∧ Below wx.heap.size wx w' := by
  have h9 := take_ok B (some ⟨g, 0, none⟩) 2 2 h.len.symm 3 (by rw [h.dt]; exact hq) i (by rw [h.len]; exact hi) (by rw [h.dt]; exact hr) wx h.rd
  rw [h.len, h.dt] at h9
  refine h9.mono ?_
  rintro x w' ⟨g6, B6, t', l', ko, kc, rfl, hg, hqo, _, he, hd, hb⟩
  rw [e] at he
  obtain ⟨rfl, rfl⟩ := List.cons.inj he
  exact ⟨g6, B6, ko, kc, rfl, hg, hqo, hd, hb⟩
end Go.Proofs.Ytpnmokmadbapoaa
