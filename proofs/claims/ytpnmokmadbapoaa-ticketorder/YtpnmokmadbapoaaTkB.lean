/-
  Tickets as data: which may be, what they need; inboxes, which may be: gone through by the numbers, all boxes at once.
-/
import Derived.Test.YtpnmokmadbapoaaTkA
import Derived.Test.YtpnmokmadbapoaaOrPt
namespace Go.Proofs.Ytpnmokmadbapoaa
set_option linter.unusedSimpArgs false
set_option linter.unusedVariables false

instance : DecidableEq Cm := fun a b => decidable_of_iff (a.kind = b.kind ∧ a.tenant = b.tenant ∧ a.keys = b.keys ∧ a.value = b.value ∧ a.flags = b.flags ∧ a.life = b.life ∧ a.unique = b.unique ∧ a.by_ = b.by_) (by cases a; cases b; simp)
/-- a ticket -/
structure Tk where
  num : Int
  kind : Int
  c : Cm
  ten : Int
  dest : Int
instance : DecidableEq Tk := fun a b => decidable_of_iff (a.num = b.num ∧ a.kind = b.kind ∧ a.c = b.c ∧ a.ten = b.ten ∧ a.dest = b.dest) (by cases a; cases b; simp)
/-- P12.1: may it be -/
def Tk.may (t : Tk) : Bool :=
  if t.kind = 1 then t.c.may && decide (t.ten = 0) && decide (t.dest = 0)
  else if t.kind = 2 then decide (t.c = noC) && decide (t.ten = 0) && decide (0 ≤ t.dest) && decide (t.dest ≤ 1099511627776)
  else decide (t.kind = 3) && decide (t.c = noC) && decide (0 ≤ t.ten) && decide (t.ten < 4) && decide (0 ≤ t.dest) && decide (t.dest ≤ 16)
/-- does it need a shard; which -/
def Tk.isIn (t : Tk) (n i : Nat) : Bool := !decide (t.kind = 1) || t.c.isIn n i
def Tk.nd (n : Nat) (t : Tk) : List Nat := (List.range n).filter fun i => t.isIn n i
def Tk.needs (t : Tk) (n : Nat) : List Int := (t.nd n).map fun (i : Nat) => (i : Int)
theorem Tk.needs_cmd {t : Tk} (h : t.kind = 1) (n : Nat) : t.needs n = t.c.needs n := by
  unfold Tk.needs Tk.nd Cm.needs
  simp only [Tk.isIn, h, decide_true, Bool.not_true, Bool.false_or]
  rfl
theorem Tk.needs_all {t : Tk} (h : ¬ t.kind = 1) (n : Nat) : t.needs n = (List.range n).map fun (i : Nat) => (i : Int) := by
  unfold Tk.needs Tk.nd
  congr 1
  rw [List.filter_eq_self]
  intro a _
  simp [Tk.isIn, h]
theorem Tk.nd_mem {t : Tk} {n i : Nat} : i ∈ t.nd n ↔ i < n ∧ t.isIn n i = true := by
  unfold Tk.nd
  simp
theorem Tk.nd_lt {t : Tk} {n : Nat} : ∀ i ∈ t.nd n, i < n := fun i h => (Tk.nd_mem.1 h).1
theorem Tk.may_keys {t : Tk} (h : t.may = true) : t.c.keys.length ≤ 8 := by
  unfold Tk.may at h
  split at h
  · simp only [Bool.and_eq_true] at h
    exact Cm.kOk_len (Cm.may_parts h.1.1).2.2.1
  · split at h
    · simp only [Bool.and_eq_true, decide_eq_true_eq] at h
      rw [h.1.1.1]; simp [noC]
    · simp only [Bool.and_eq_true, decide_eq_true_eq] at h
      rw [h.1.1.1.1.2]; simp [noC]
theorem Tk.nd_pos {t : Tk} {n : Nat} (h : t.may = true) (hn0 : 1 ≤ n) (hn1 : n ≤ 4) : t.nd n ≠ [] := by
  by_cases hk : t.kind = 1
  · unfold Tk.may at h
    rw [if_pos hk] at h
    simp only [Bool.and_eq_true] at h
    have := needs_pos h.1.1 hn0 hn1
    rw [← Tk.needs_cmd hk] at this
    intro e
    apply this
    unfold Tk.needs
    rw [e]; rfl
  · intro e
    have : 0 ∈ t.nd n := Tk.nd_mem.2 ⟨by omega, by simp [Tk.isIn, hk]⟩
    rw [e] at this
    cases this
theorem cast_inj {l m : List Nat} (h : l.map (fun (i : Nat) => (i : Int)) = m.map fun (i : Nat) => (i : Int)) : l = m := by
  have hi : Function.Injective (fun (i : Nat) => (i : Int)) := fun a b h => Int.ofNat.inj h
  exact List.map_inj_right (fun a b h => hi h) |>.1 h

namespace Tk
section
variable {α : Type} {num : α → Int} {nd : α → List Nat} {q : Nat → List α} {n : Nat}
/-- a first ticket of the least number stands first with all who have it -/
theorem Fit.heads (F : Fit num nd q n) {s : Nat} (hs : s < n) {t : α} {l : List α} (e : q s = t :: l) (least : ∀ r, r < n → ∀ t' l', q r = t' :: l' → num t ≤ num t') (r : Nat) (hr : r < n) : r ∈ nd t ↔ ∃ l', q r = t :: l' := by
  have ht : t ∈ q s := by rw [e]; simp
  constructor
  · intro h
    obtain ⟨t1, l1, e1, h1⟩ := F.calm hs e least
    rw [e] at e1
    obtain ⟨rfl, rfl⟩ := List.cons.inj e1
    obtain ⟨t', l', e', h'⟩ := h1 r h
    exact ⟨l', by rw [e', F.first hs e h e' h']⟩
  · rintro ⟨l', h⟩
    exact (F.stand s hs t ht r hr).1 (by rw [h]; simp)
theorem Fit.taken_iff (hrise : ∀ i, i < n → Rise num (q i)) {s : Nat} (hs : s < n) {t : α} {l : List α} (e : q s = t :: l) (hh : ∀ r, r < n → (r ∈ nd t ↔ ∃ l', q r = t :: l')) (hlt : ∀ r ∈ nd t, r < n) : Fit num nd q n ↔ Fit num nd (taken q (nd t)) n := by
  constructor
  · intro F
    refine F.take hs e fun r hr => ?_
    obtain ⟨l', h⟩ := (hh r (hlt r hr)).1 hr
    exact ⟨t, l', h, rfl⟩
  · intro F
    have hst : s ∈ nd t := (hh s hs).2 ⟨l, e⟩
    have hne : ∀ i, i < n → t ∉ taken q (nd t) i := by
      intro i hi ht
      have h1 := (F.stand i hi t ht s hs).2 hst
      unfold taken at h1
      rw [if_pos hst, e] at h1
      have h2 := hrise s hs
      rw [e] at h2
      have := (List.pairwise_cons.1 h2).1 t h1
      omega
    have mem : ∀ r, r < n → ∀ u, u ∈ q r ↔ u ∈ taken q (nd t) r ∨ (u = t ∧ r ∈ nd t) := by
      intro r hr u
      unfold taken
      split
      · rename_i h
        obtain ⟨l', e'⟩ := (hh r hr).1 h
        rw [e']
        simp [h]
        exact or_comm
      · rename_i h
        simp [h]
    refine ⟨hrise, fun i hi u hu s' hs' => ?_, fun i hi u hu r hr => ?_⟩
    · rw [mem s' hs']
      rcases (mem i hi u).1 hu with h | ⟨h, h'⟩
      · rw [F.stand i hi u h s' hs']
        constructor
        · rintro (h1 | ⟨h1, h2⟩)
          · exact h1
          · rw [h1]; exact h2
        · exact fun h1 => .inl h1
      · subst h
        exact ⟨fun h1 => h1.elim (fun h2 => absurd h2 (hne s' hs')) (fun h2 => h2.2), fun h1 => .inr ⟨rfl, h1⟩⟩
    · rcases (mem i hi u).1 hu with h | ⟨h, h'⟩
      · exact F.lt i hi u h r hr
      · rw [h] at hr; exact hlt r hr
theorem Fit.empty (h : ∀ i, i < n → q i = []) : Fit num nd q n :=
  ⟨fun i hi => (by rw [h i hi]; exact List.Pairwise.nil), fun i hi t ht => absurd (h i hi ▸ ht) List.not_mem_nil, fun i hi t ht => absurd (h i hi ▸ ht) List.not_mem_nil⟩
theorem Fit.congr {q' : Nat → List α} (h : ∀ i, i < n → q i = q' i) : Fit num nd q n ↔ Fit num nd q' n := by
  have go : ∀ {q q' : Nat → List α}, (∀ i, i < n → q i = q' i) → Fit num nd q n → Fit num nd q' n := by
    intro q q' h F
    exact ⟨fun i hi => h i hi ▸ F.rise i hi, fun i hi t ht s hs => by rw [← h i hi] at ht; rw [← h s hs]; exact F.stand i hi t ht s hs, fun i hi t ht => by rw [← h i hi] at ht; exact F.lt i hi t ht⟩
  exact ⟨go h, go fun i hi => (h i hi).symm⟩
end
end Tk

/-- boxes: the tickets of a shard -/
def bxs (q : List (List Tk)) (i : Nat) : List Tk := q.getD i []
abbrev FitQ (q : Nat → List Tk) (n : Nat) : Prop := Tk.Fit Tk.num (Tk.nd n) q n
/-- one box alone -/
structure BxOk (next : Int) (l : List Tk) : Prop where
  len : l.length ≤ 256
  may : ∀ t ∈ l, t.may = true
  lo : ∀ t ∈ l, 0 ≤ t.num
  hi : ∀ t ∈ l, t.num < next
  rise : Tk.Rise Tk.num l
/-- P12.1: inboxes that may be -/
structure QOk (q : List (List Tk)) (next : Int) : Prop where
  n0 : 1 ≤ q.length
  n1 : q.length ≤ 4
  x0 : 0 ≤ next
  x1 : next ≤ 1099511627776
  box : ∀ l ∈ q, BxOk next l
  fit : FitQ (bxs q) q.length
/-- what is left of the boxes behind these places -/
def lft (q : List (List Tk)) (P : Nat → Nat) (i : Nat) : List Tk := (bxs q i).drop (P i)
/-- who has a ticket at its place -/
def holds (q : List (List Tk)) (P : Nat → Nat) (t : Tk) (i : Nat) : Bool := decide ((bxs q i)[P i]? = some t)
def hldTo (q : List (List Tk)) (P : Nat → Nat) (t : Tk) (k : Nat) : List Int := ((List.range k).filter fun i => holds q P t i).map fun (i : Nat) => (i : Int)
def hld (q : List (List Tk)) (P : Nat → Nat) (t : Tk) : List Int := hldTo q P t q.length
theorem hldTo_in {q : List (List Tk)} {P : Nat → Nat} {t : Tk} {k : Nat} (h : holds q P t k = true) : hldTo q P t (k + 1) = hldTo q P t k ++ [(k : Int)] := by
  unfold hldTo; rw [List.range_succ]; simp [h]
theorem hldTo_out {q : List (List Tk)} {P : Nat → Nat} {t : Tk} {k : Nat} (h : holds q P t k = false) : hldTo q P t (k + 1) = hldTo q P t k := by
  unfold hldTo; rw [List.range_succ]; simp [h]
theorem hldTo_len (q : List (List Tk)) (P : Nat → Nat) (t : Tk) (k : Nat) : (hldTo q P t k).length ≤ k := by
  unfold hldTo
  rw [List.length_map]
  exact Nat.le_trans (List.length_filter_le _ _) (by simp)
theorem holds_iff {q : List (List Tk)} {P : Nat → Nat} {t : Tk} {i : Nat} : holds q P t i = true ↔ ∃ l', lft q P i = t :: l' := by
  unfold holds lft
  rw [decide_eq_true_eq]
  constructor
  · intro h
    obtain ⟨h1, h2⟩ := List.getElem?_eq_some_iff.1 h
    exact ⟨(bxs q i).drop (P i + 1), by rw [List.drop_eq_getElem_cons h1, h2]⟩
  · rintro ⟨l', h⟩
    have := congrArg (fun l => l[0]?) h
    simpa using this
theorem hld_eq {q : List (List Tk)} {P : Nat → Nat} {t : Tk} : hld q P t = t.needs q.length ↔ ∀ r, r < q.length → (r ∈ t.nd q.length ↔ ∃ l', lft q P r = t :: l') := by
  constructor
  · intro h r hr
    have h1 := cast_inj h
    have : r ∈ (List.range q.length).filter (fun i => holds q P t i) ↔ r ∈ t.nd q.length := by rw [h1]
    rw [← this, List.mem_filter, List.mem_range, holds_iff]
    exact ⟨fun h => h.2, fun h => ⟨hr, h⟩⟩
  · intro h
    unfold hld hldTo Tk.needs Tk.nd
    congr 1
    apply List.filter_congr
    intro r hr
    have hr' := List.mem_range.1 hr
    have h1 := h r hr'
    rw [Tk.nd_mem, ← holds_iff] at h1
    rw [Bool.eq_iff_iff]
    exact ⟨fun h2 => (h1.2 h2).2, fun h2 => h1.1 ⟨hr', h2⟩⟩
/-- a place of the least number, or none -/
def Least (q : List (List Tk)) (P : Nat → Nat) (k : Nat) (r : Int) : Prop :=
  (r = -1 ∧ ∀ i, i < k → lft q P i = []) ∨ ∃ (s : Nat) (t : Tk) (l : List Tk), r = (s : Int) ∧ s < k ∧ lft q P s = t :: l ∧ ∀ i, i < k → ∀ t' l', lft q P i = t' :: l' → t.num ≤ t'.num
/-- the next places -/
def nextP (q : List (List Tk)) (P : Nat → Nat) (t : Tk) (i : Nat) : Nat := if t.isIn q.length i = true then P i + 1 else P i
theorem lft_next {q : List (List Tk)} {P : Nat → Nat} {t : Tk} (i : Nat) (hi : i < q.length) : lft q (nextP q P t) i = Tk.taken (lft q P) (t.nd q.length) i := by
  unfold lft nextP Tk.taken
  by_cases h : t.isIn q.length i = true
  · rw [if_pos h, if_pos (Tk.nd_mem.2 ⟨hi, h⟩), List.tail_drop]
  · rw [if_neg h, if_neg (fun x => h (Tk.nd_mem.1 x).2)]
theorem rise_lft {q : List (List Tk)} {P : Nat → Nat} {next : Int} (hb : ∀ l ∈ q, BxOk next l) (i : Nat) (hi : i < q.length) : Tk.Rise Tk.num (lft q P i) := by
  have : bxs q i ∈ q := by unfold bxs; rw [List.getD_eq_getElem?_getD, List.getElem?_eq_getElem hi]; exact List.getElem_mem hi
  exact (hb _ this).rise.sublist (List.drop_sublist _ _)
/-- a step of the going through -/
theorem step_yes {q : List (List Tk)} {P : Nat → Nat} {next : Int} (hb : ∀ l ∈ q, BxOk next l) {s : Nat} (hs : s < q.length) {t : Tk} {l : List Tk} (e : lft q P s = t :: l) (h : hld q P t = t.needs q.length) : FitQ (lft q P) q.length ↔ FitQ (lft q (nextP q P t)) q.length :=
  (Tk.Fit.taken_iff (rise_lft hb) hs e (hld_eq.1 h) Tk.nd_lt).trans (Tk.Fit.congr fun i hi => (lft_next i hi).symm)
theorem step_no {q : List (List Tk)} {P : Nat → Nat} {s : Nat} (hs : s < q.length) {t : Tk} {l : List Tk} (e : lft q P s = t :: l) (least : ∀ i, i < q.length → ∀ t' l', lft q P i = t' :: l' → t.num ≤ t'.num) (h : ¬ hld q P t = t.needs q.length) : ¬ FitQ (lft q P) q.length :=
  fun F => h (hld_eq.2 fun r hr => F.heads hs e least r hr)
theorem lft_zero (q : List (List Tk)) (i : Nat) : lft q (fun _ => 0) i = bxs q i := by unfold lft; simp
end Go.Proofs.Ytpnmokmadbapoaa
