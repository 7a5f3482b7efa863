/-
  Quotas as data: what Check, Sum, Set, Room and Over answer.
-/
import Derived.Test.YtkcgleahbhmggaaSbPure
namespace Go.Proofs.Ytkcgleahbhmggaa
open Go.RowKit
set_option linter.unusedSimpArgs false
set_option linter.unusedVariables false

def inQ (x : Int) : Bool := decide (0 ≤ x ∧ x ≤ 16)
def sumE (q : List Int) : Int := if 4 < q.length then 4 else if q.all inQ = true then 0 else 2
def sumV (q : List Int) : Int := if sumE q = 0 then q.sum else 0
/-- quotas may be, of a pool -/
def mayQ (pool : Int) (q : List Int) : Bool := decide (0 < q.length) && decide (sumE q = 0) && decide (q.sum ≤ pool)
def chkE (pool : Int) (q : List Int) : Int := if pool < 1 ∨ 16 < pool then 2 else if mayQ pool q = true then 0 else 80
def hasQ (q : List Int) (t : Int) : Bool := decide (0 ≤ t ∧ t < (q.length : Int))
def setE (pool : Int) (q : List Int) (t p : Int) : Int :=
  if chkE pool q ≠ 0 then chkE pool q else if hasQ q t = false then 2 else if inQ p = false then 2 else if mayQ pool (q.set t.toNat p) = true then 0 else 80
def setR (pool : Int) (q : List Int) (t p : Int) : List Int := if setE pool q t p = 0 then q.set t.toNat p else []
def askE (ps : List Pg) (q : List Int) (t : Int) : Int :=
  if sOk ps = false then 8 else if chkE ps.length q ≠ 0 then chkE ps.length q else if hasQ q t = false then 2 else 0
def qAt (q : List Int) (t : Int) : Int := q[t.toNat]?.getD 0
def roomV (ps : List Pg) (q : List Int) (t : Int) : Bool := decide (askE ps q t = 0) && decide ((owned ps t : Int) < qAt q t)
def overV (ps : List Pg) (q : List Int) (t : Int) : Int := if askE ps q t = 0 then max ((owned ps t : Int) - qAt q t) 0 else 0

theorem mayQ_len {pool : Int} {q : List Int} (h : mayQ pool q = true) : 1 ≤ q.length ∧ q.length ≤ 4 := by
  simp [mayQ, sumE] at h
  obtain ⟨⟨h1, h2⟩, h3⟩ := h
  refine ⟨by cases q; simp at h1; simp, ?_⟩
  rcases Nat.lt_or_ge 4 q.length with g | g
  · rw [if_pos g] at h2; exact absurd h2 (by decide)
  · exact g
theorem mayQ_in {pool : Int} {q : List Int} (h : mayQ pool q = true) : ∀ x ∈ q, 0 ≤ x ∧ x ≤ 16 := by
  have hl := mayQ_len h
  simp [mayQ, sumE] at h
  obtain ⟨⟨h1, h2⟩, h3⟩ := h
  rw [if_neg (by omega)] at h2
  have h4 : ∀ x ∈ q, inQ x = true := by
    by_cases g : ∀ x ∈ q, inQ x = true
    · exact g
    · rw [if_neg g] at h2; exact absurd h2 (by decide)
  intro x hx
  simpa [inQ] using h4 x hx
theorem mayQ_sum {pool : Int} {q : List Int} (h : mayQ pool q = true) : q.sum ≤ pool := by
  simp [mayQ] at h; exact h.2
theorem chkE_may {pool : Int} {q : List Int} (h : chkE pool q = 0) : 1 ≤ pool ∧ pool ≤ 16 ∧ mayQ pool q = true := by
  unfold chkE at h
  split at h
  · exact absurd h (by decide)
  · split at h
    · refine ⟨by omega, by omega, by assumption⟩
    · exact absurd h (by decide)
theorem askE_ok {ps : List Pg} {q : List Int} {t : Int} (h : askE ps q t = 0) : sOk ps = true ∧ chkE ps.length q = 0 ∧ hasQ q t = true := by
  unfold askE at h
  split at h
  · exact absurd h (by decide)
  · split at h
    · exact absurd h (by assumption)
    · split at h
      · exact absurd h (by decide)
      · rename_i h1 h2 h3
        exact ⟨by simpa using h1, by simpa using h2, by simpa using h3⟩
theorem sum_bounds {q : List Int} (h : ∀ x ∈ q, 0 ≤ x ∧ x ≤ 16) : 0 ≤ q.sum ∧ q.sum ≤ 16 * q.length := by
  induction q with
  | nil => simp
  | cons a q ih =>
    have := ih (fun x hx => h x (by simp [hx]))
    have := h a (by simp)
    simp
    omega
theorem sum_take {q : List Int} {k : Nat} (h : k < q.length) : (q.take (k + 1)).sum = (q.take k).sum + q[k] := by
  rw [List.take_succ_eq_append_getElem h, List.sum_append]
  simp
theorem qAt_get {q : List Int} {k : Nat} (h : k < q.length) : qAt q k = q[k] := by
  unfold qAt
  rw [Int.toNat_natCast, List.getElem?_eq_getElem h]
  rfl
end Go.Proofs.Ytkcgleahbhmggaa
