/-
  Slabs as data: what Check, Class, Take, Free, Owned and Last answer, and what follows.
-/
import Derived.Test.YtkcgleahbhmggaaRows
import Derived.WalkKit
import Derived.ProofKit
import Derived.OpenShut
import Derived.WalkSpells
import Derived.WalkLawsBesides
import Derived.Laws.Bits64b
import Derived.Laws.BitsAllLaws
namespace Go.Proofs.Ytkcgleahbhmggaa
open Go.RowKit
set_option linter.unusedSimpArgs false
set_option linter.unusedVariables false

/-- a page: whose, of which class, its used chunks -/
structure Pg where
  t : Int
  c : Int
  u : Nat
  hu : u < 65536
theorem Pg.eq {a b : Pg} (h1 : a.t = b.t) (h2 : a.c = b.c) (h3 : a.u = b.u) : a = b := by
  cases a; cases b; simp at h1 h2 h3; subst h1 h2 h3; rfl
instance : DecidableEq Pg := fun a b =>
  if h : a.t = b.t ∧ a.c = b.c ∧ a.u = b.u then .isTrue (Pg.eq h.1 h.2.1 h.2.2) else .isFalse (fun e => h (by subst e; exact ⟨rfl, rfl, rfl⟩))
def pz : Pg := ⟨0, 0, 0, by decide⟩
def isT (t : Int) : Bool := decide (0 ≤ t ∧ t < 4)
def isC (c : Int) : Bool := decide (0 ≤ c ∧ c < 5)
def isQ (q : Int) : Bool := decide (0 ≤ q ∧ q ≤ 16)
/-- how many chunks a page has -/
def chunks (c : Int) : Nat := 16 / 2 ^ c.toNat
/-- P5.1: a page may be -/
def pOk (p : Pg) : Bool := if p.u = 0 then decide (p = pz) else isT p.t && isC p.c && decide (p.u < 2 ^ chunks p.c)
def sOk (ps : List Pg) : Bool := decide (1 ≤ ps.length ∧ ps.length ≤ 16) && ps.all pOk
def sE (ps : List Pg) : Int := if sOk ps = true then 0 else 8
def tE (ps : List Pg) (t : Int) : Int := if sOk ps = false then 8 else if isT t = false then 2 else 0
def isOf (t : Int) (p : Pg) : Bool := decide (p.u ≠ 0) && decide (p.t = t)
def owned (ps : List Pg) (t : Int) : Nat := ps.countP (isOf t)

/-- the first of a row's answers -/
def firstN {α : Type} (f : Nat → Option α) : Nat → Option α
  | 0 => none
  | n + 1 => match firstN f n with
    | some x => some x
    | none => f n
theorem firstN_none {α : Type} {f : Nat → Option α} : ∀ {n : Nat}, (∀ j, j < n → f j = none) → firstN f n = none
  | 0, _ => rfl
  | n + 1, h => by unfold firstN; rw [firstN_none (fun j hj => h j (by omega))]; exact h n (by omega)
theorem firstN_at {α : Type} {f : Nat → Option α} {x : α} : ∀ {n j : Nat}, j < n → (∀ i, i < j → f i = none) → f j = some x → firstN f n = some x
  | 0, _, h, _, _ => absurd h (by omega)
  | n + 1, j, h, h1, h2 => by
    unfold firstN
    by_cases e : j = n
    · subst e; rw [firstN_none h1]; exact h2
    · rw [firstN_at (n := n) (by omega) h1 h2]
theorem firstN_some {α : Type} {f : Nat → Option α} {x : α} : ∀ {n : Nat}, firstN f n = some x → ∃ j, j < n ∧ (∀ i, i < j → f i = none) ∧ f j = some x
  | 0, h => by simp [firstN] at h
  | n + 1, h => by
    unfold firstN at h
    cases e : firstN f n with
    | some y =>
      rw [e] at h
      obtain ⟨j, h1, h2, h3⟩ := firstN_some e
      simp at h
      subst h
      exact ⟨j, by omega, h2, h3⟩
    | none =>
      rw [e] at h
      refine ⟨n, by omega, fun i hi => ?_, h⟩
      exact firstN_all e i hi
  where firstN_all {α : Type} {f : Nat → Option α} : ∀ {n : Nat}, firstN f n = none → ∀ i, i < n → f i = none
  | 0, _, _, h => absurd h (by omega)
  | n + 1, e, i, hi => by
    unfold firstN at e
    cases e2 : firstN f n with
    | some y => rw [e2] at e; simp at e
    | none =>
      rw [e2] at e
      by_cases hin : i = n
      · subst hin; exact e
      · exact firstN_all e2 i (by omega)
theorem firstN_all {α : Type} {f : Nat → Option α} {n : Nat} (e : firstN f n = none) : ∀ i, i < n → f i = none := firstN_some.firstN_all e

/-- the least chunk that is not used -/
def freeBit (u k : Nat) : Option Nat := if u.testBit k = true then none else some k
def lowFree (u n : Nat) : Option Nat := firstN (freeBit u) n
def roomP (t c : Int) (p : Pg) : Option Nat := if p.u ≠ 0 ∧ p.t = t ∧ p.c = c then lowFree p.u (chunks c) else none
def roomI (ps : List Pg) (t c : Int) (i : Nat) : Option (Nat × Nat) := match ps[i]? with
  | some p => (roomP t c p).map (fun k => (i, k))
  | none => none
def room (ps : List Pg) (t c : Int) : Option (Nat × Nat) := firstN (roomI ps t c) ps.length
def freeI (ps : List Pg) (i : Nat) : Option Nat := match ps[i]? with
  | some p => if p.u = 0 then some i else none
  | none => none
def freeP (ps : List Pg) : Option Nat := firstN (freeI ps) ps.length
/-- where a chunk is taken -/
def place (ps : List Pg) (t c q : Int) : Option (Nat × Nat) := match room ps t c with
  | some x => some x
  | none => if (owned ps t : Int) < q then (freeP ps).map (fun i => (i, 0)) else none
def takeE (ps : List Pg) (t c q : Int) : Int :=
  if sOk ps = false then 8 else if isT t = false then 2 else if isC c = false then 2 else if isQ q = false then 2 else if (place ps t c q).isNone = true then 9 else 0
/-- a page with one chunk more -/
def taken (ps : List Pg) (t c : Int) (i k : Nat) : Pg := ⟨t, c, ((ps[i]?.getD pz).u ||| 2 ^ k) % 65536, Nat.mod_lt _ (by decide)⟩
def takeR (ps : List Pg) (t c q : Int) : List Pg × Nat × Nat :=
  if takeE ps t c q = 0 then match place ps t c q with
    | some (i, k) => (ps.set i (taken ps t c i k), i, k)
    | none => ([], 0, 0)
  else ([], 0, 0)
/-- a page with one chunk less -/
def given (p : Pg) (k : Nat) : Pg := if p.u - 2 ^ k = 0 then pz else ⟨p.t, p.c, p.u - 2 ^ k, Nat.lt_of_le_of_lt (Nat.sub_le _ _) p.hu⟩
def pgAt (ps : List Pg) (i : Int) : Pg := ps[i.toNat]?.getD pz
def inP (ps : List Pg) (i : Int) : Bool := decide (0 ≤ i ∧ i < (ps.length : Int))
def hasK (p : Pg) (k : Int) : Bool := decide (0 ≤ k ∧ k < 16) && p.u.testBit k.toNat
def freeE (ps : List Pg) (i k : Int) : Int := if sOk ps = false then 8 else if inP ps i = false then 2 else if hasK (pgAt ps i) k = false then 6 else 0
def freeR (ps : List Pg) (i k : Int) : List Pg := if freeE ps i k = 0 then ps.set i.toNat (given (pgAt ps i) k.toNat) else []
def lastI (ps : List Pg) (t : Int) : Int := ps.foldl (fun (x : Int × Int) p => (if isOf t p then x.2 else x.1, x.2 + 1)) (-1, 0) |>.1

theorem isC_cases {c : Int} (h : isC c = true) : c = 0 ∨ c = 1 ∨ c = 2 ∨ c = 3 ∨ c = 4 := by
  simp [isC] at h; omega
theorem chunks_le {c : Int} (h : isC c = true) : 1 ≤ chunks c ∧ chunks c ≤ 16 := by
  rcases isC_cases h with rfl | rfl | rfl | rfl | rfl <;> decide
theorem pz_u : pz.u = 0 := rfl
theorem pOk_c {p : Pg} (h : pOk p = true) : isC p.c = true := by
  unfold pOk at h
  split at h
  · have : p = pz := by simpa using h
    subst this; rfl
  · simp at h; exact h.1.2
theorem pOk_u {p : Pg} (h : pOk p = true) : p.u < 2 ^ chunks p.c := by
  unfold pOk at h
  split at h
  · have : p = pz := by simpa using h
    subst this; decide
  · simp at h; exact h.2
theorem pOk_t {p : Pg} (h : pOk p = true) : isT p.t = true := by
  unfold pOk at h
  split at h
  · have : p = pz := by simpa using h
    subst this; rfl
  · simp at h; exact h.1.1
theorem pOk_zero {p : Pg} (h : pOk p = true) (hu : p.u = 0) : p = pz := by
  unfold pOk at h
  rw [if_pos hu] at h
  simpa using h
theorem pow_le16 {n : Nat} (h : n ≤ 16) : 2 ^ n ≤ 65536 := by
  have : 2 ^ n ≤ 2 ^ 16 := Nat.pow_le_pow_right (by decide) h
  simpa using this
theorem pow_lt16 {n : Nat} (h : n < 16) : 2 ^ n < 65536 := by
  have : 2 ^ n < 2 ^ 16 := Nat.pow_lt_pow_right (by decide) h
  simpa using this
theorem or_lt16 {u k : Nat} (hu : u < 65536) (hk : k < 16) : u ||| 2 ^ k < 65536 := by
  have : u ||| 2 ^ k < 2 ^ 16 := Nat.or_lt_two_pow (by simpa using hu) (Nat.pow_lt_pow_right (by decide) hk)
  simpa using this
theorem or_mod {u k : Nat} (hu : u < 65536) (hk : k < 16) : (u ||| 2 ^ k) % 65536 = u ||| 2 ^ k := Nat.mod_eq_of_lt (or_lt16 hu hk)
theorem or_ne {u k : Nat} : u ||| 2 ^ k ≠ 0 := by
  intro e
  have h1 : (u ||| 2 ^ k).testBit k = true := by simp [Nat.testBit_or, Nat.testBit_two_pow_self]
  rw [e] at h1
  simp at h1
/-- a chunk that is not used: taken is added -/
theorem or_add {u k : Nat} (h : u.testBit k = false) : u ||| 2 ^ k = u + 2 ^ k := by
  have h1 : (BitVec.ofNat (u + k + 2) u) &&& (BitVec.ofNat (u + k + 2) (2 ^ k)) = 0#(u + k + 2) := by
    apply BitVec.eq_of_getLsbD_eq
    intro i hi
    simp only [BitVec.getLsbD_and, BitVec.getLsbD_ofNat, BitVec.getLsbD_zero, Nat.testBit_two_pow]
    by_cases e : k = i
    · subst e; simp [h]
    · simp [e]
  have h2 := congrArg BitVec.toNat (BitVec.add_eq_or_of_and_eq_zero _ _ h1)
  have hp : 2 ^ (u + k + 2) = 4 * (2 ^ u * 2 ^ k) := by rw [Nat.pow_add, Nat.pow_add]; omega
  have hu : u < 2 ^ u := Nat.lt_two_pow_self
  have hk : 0 < 2 ^ k := Nat.two_pow_pos k
  have h3 : u ≤ 2 ^ u * 2 ^ k := Nat.le_trans (Nat.le_of_lt hu) (Nat.le_mul_of_pos_right _ hk)
  have h4 : 2 ^ k ≤ 2 ^ u * 2 ^ k := Nat.le_mul_of_pos_left _ (Nat.two_pow_pos u)
  simp only [BitVec.toNat_add, BitVec.toNat_or, BitVec.toNat_ofNat] at h2
  rw [Nat.mod_eq_of_lt (a := u) (by omega), Nat.mod_eq_of_lt (a := 2 ^ k) (by omega), Nat.mod_eq_of_lt (by omega)] at h2
  exact h2.symm
theorem lowFree_some {u n k : Nat} (h : lowFree u n = some k) : k < n ∧ u.testBit k = false ∧ ∀ i, i < k → u.testBit i = true := by
  obtain ⟨j, h1, h2, h3⟩ := firstN_some h
  unfold freeBit at h3
  split at h3
  · simp at h3
  · rename_i hb
    simp at h3
    subst h3
    refine ⟨h1, by simpa using hb, fun i hi => ?_⟩
    have := h2 i hi
    unfold freeBit at this
    split at this
    · assumption
    · simp at this
theorem lowFree_none {u n : Nat} (h : lowFree u n = none) : ∀ i, i < n → u.testBit i = true := by
  intro i hi
  have := firstN_all h i hi
  unfold freeBit at this
  split at this
  · assumption
  · simp at this
theorem room_some {ps : List Pg} {t c : Int} {i k : Nat} (h : room ps t c = some (i, k)) : ∃ hi : i < ps.length, ps[i].u ≠ 0 ∧ ps[i].t = t ∧ ps[i].c = c ∧ lowFree ps[i].u (chunks c) = some k := by
  obtain ⟨j, h1, h2, h3⟩ := firstN_some h
  unfold roomI at h3
  rw [List.getElem?_eq_getElem h1] at h3
  simp only [Option.map_eq_some_iff, Prod.mk.injEq] at h3
  obtain ⟨a, h4, rfl, rfl⟩ := h3
  unfold roomP at h4
  split at h4
  · rename_i hh
    exact ⟨h1, hh.1, hh.2.1, hh.2.2, h4⟩
  · simp at h4
theorem room_none {ps : List Pg} {t c : Int} (h : room ps t c = none) : ∀ i (hi : i < ps.length), ps[i].u ≠ 0 → ps[i].t = t → ps[i].c = c → lowFree ps[i].u (chunks c) = none := by
  intro i hi h1 h2 h3
  have := firstN_all h i hi
  unfold roomI at this
  rw [List.getElem?_eq_getElem hi] at this
  simp only [Option.map_eq_none_iff] at this
  unfold roomP at this
  rwa [if_pos ⟨h1, h2, h3⟩] at this
theorem freeP_some {ps : List Pg} {i : Nat} (h : freeP ps = some i) : ∃ hi : i < ps.length, ps[i].u = 0 := by
  obtain ⟨j, h1, h2, h3⟩ := firstN_some h
  unfold freeI at h3
  rw [List.getElem?_eq_getElem h1] at h3
  simp only at h3
  split at h3
  · simp at h3; subst h3; exact ⟨h1, by assumption⟩
  · simp at h3
theorem freeP_none {ps : List Pg} (h : freeP ps = none) : ∀ i (hi : i < ps.length), ps[i].u ≠ 0 := by
  intro i hi e
  have := firstN_all h i hi
  unfold freeI at this
  rw [List.getElem?_eq_getElem hi] at this
  simp [e] at this
end Go.Proofs.Ytkcgleahbhmggaa
