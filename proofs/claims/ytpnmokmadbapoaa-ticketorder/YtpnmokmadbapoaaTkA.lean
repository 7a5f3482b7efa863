/-
  Tickets as data, whatever they are: in which boxes they stand, who is ready, what is put and taken; the order in which they are taken.
-/
import Derived.Test.YtpnmokmadbapoaaRows
namespace Go.Proofs.Ytpnmokmadbapoaa.Tk
set_option linter.unusedSimpArgs false
set_option linter.unusedVariables false

section
variable {α : Type} (num : α → Int) (nd : α → List Nat)
/-- numbers rise -/
def Rise (l : List α) : Prop := l.Pairwise fun a b => num a < num b
/-- boxes that may be: numbers rise in each; each ticket stands in just its shards' -/
structure Fit (q : Nat → List α) (n : Nat) : Prop where
  rise : ∀ i, i < n → Rise num (q i)
  stand : ∀ i, i < n → ∀ t ∈ q i, ∀ s, s < n → (t ∈ q s ↔ s ∈ nd t)
  lt : ∀ i, i < n → ∀ t ∈ q i, ∀ s ∈ nd t, s < n
/-- a shard is ready: its first ticket is the first one of all its shards -/
def Ready (q : Nat → List α) (s : Nat) : Prop := ∃ t l, q s = t :: l ∧ ∀ r ∈ nd t, ∃ t' l', q r = t' :: l' ∧ num t' = num t
variable {num nd} {q : Nat → List α} {n : Nat}
/-- P12.5: whoever has the eldest first ticket is ready -/
theorem Fit.calm (F : Fit num nd q n) {s : Nat} (hs : s < n) {t : α} {l : List α} (e : q s = t :: l) (least : ∀ r, r < n → ∀ t' l', q r = t' :: l' → num t ≤ num t') : Ready num nd q s := by
  have ht : t ∈ q s := by rw [e]; simp
  refine ⟨t, l, e, fun r hr => ?_⟩
  have hrn := F.lt s hs t ht r hr
  have htr := (F.stand s hs t ht r hrn).2 hr
  cases hq : q r with
  | nil => rw [hq] at htr; cases htr
  | cons t' l' =>
    refine ⟨t', l', rfl, ?_⟩
    rw [hq] at htr
    rcases List.mem_cons.1 htr with h | h
    · rw [h]
    · have h1 := F.rise r hrn
      rw [hq] at h1
      have h2 := (List.pairwise_cons.1 h1).1 t h
      have h3 := least r hrn t' l' hq
      omega
/-- .. and then it is that very ticket -/
theorem Fit.first (F : Fit num nd q n) {s : Nat} (hs : s < n) {t : α} {l : List α} (e : q s = t :: l) {r : Nat} (hr : r ∈ nd t) {t' : α} {l' : List α} (e' : q r = t' :: l') (h : num t' = num t) : t' = t := by
  have ht : t ∈ q s := by rw [e]; simp
  have hrn := F.lt s hs t ht r hr
  have htr := (F.stand s hs t ht r hrn).2 hr
  rw [e'] at htr
  rcases List.mem_cons.1 htr with h1 | h1
  · exact h1.symm
  · have h2 := F.rise r hrn
    rw [e'] at h2
    have h3 := (List.pairwise_cons.1 h2).1 t h1
    omega
/-- its first ticket leaves all its shards -/
def taken (q : Nat → List α) (l : List Nat) (r : Nat) : List α := if r ∈ l then (q r).tail else q r
theorem Fit.take (F : Fit num nd q n) {s : Nat} (hs : s < n) {t : α} {l : List α} (e : q s = t :: l) (hR : ∀ r ∈ nd t, ∃ t' l', q r = t' :: l' ∧ num t' = num t) : Fit num nd (taken q (nd t)) n := by
  have ht : t ∈ q s := by rw [e]; simp
  have head : ∀ r ∈ nd t, ∃ l', q r = t :: l' := fun r hr => by
    obtain ⟨t', l', h1, h2⟩ := hR r hr
    exact ⟨l', by rw [h1, F.first hs e hr h1 h2]⟩
  have mem : ∀ r, r < n → ∀ u, u ∈ taken q (nd t) r ↔ u ∈ q r ∧ u ≠ t := by
    intro r hrn u
    unfold taken
    split
    · rename_i hr
      obtain ⟨l', h1⟩ := head r hr
      have h2 := F.rise r hrn
      rw [h1] at h2 ⊢
      constructor
      · intro hu
        refine ⟨List.mem_cons_of_mem _ hu, fun e => ?_⟩
        have := (List.pairwise_cons.1 h2).1 u hu
        rw [e] at this
        omega
      · rintro ⟨hu, hne⟩
        rcases List.mem_cons.1 hu with h3 | h3
        · exact absurd h3 hne
        · exact h3
    · rename_i hr
      refine ⟨fun hu => ⟨hu, fun e => hr ?_⟩, fun hu => hu.1⟩
      rw [e] at hu
      exact (F.stand s hs t ht r hrn).1 hu
  refine ⟨fun i hi => ?_, fun i hi u hu r hr => ?_, fun i hi u hu r hr => F.lt i hi u ((mem i hi u).1 hu).1 r hr⟩
  · unfold taken
    split
    · exact (F.rise i hi).sublist (List.tail_sublist _)
    · exact F.rise i hi
  · obtain ⟨h1, h2⟩ := (mem i hi u).1 hu
    rw [mem r hr]
    exact ⟨fun h => (F.stand i hi u h1 r hr).1 h.1, fun h => ⟨(F.stand i hi u h1 r hr).2 h, h2⟩⟩
/-- a ticket is put last into its shards' boxes -/
def putIn (q : Nat → List α) (t : α) (l : List Nat) (r : Nat) : List α := if r ∈ l then q r ++ [t] else q r
theorem Fit.put (F : Fit num nd q n) {t : α} (hl : ∀ r ∈ nd t, r < n) (hb : ∀ i, i < n → ∀ u ∈ q i, num u < num t) : Fit num nd (putIn q t (nd t)) n := by
  have mem : ∀ r, r < n → ∀ u, u ∈ putIn q t (nd t) r ↔ u ∈ q r ∨ (u = t ∧ r ∈ nd t) := by
    intro r _ u
    unfold putIn
    split
    · rename_i h; simp [h]
    · rename_i h; simp [h]
  refine ⟨fun i hi => ?_, fun i hi u hu r hr => ?_, fun i hi u hu r hr => ?_⟩
  · unfold putIn
    split
    · refine List.pairwise_append.2 ⟨F.rise i hi, List.pairwise_singleton _ _, fun a ha b hb' => ?_⟩
      rw [List.mem_singleton.1 hb']
      exact hb i hi a ha
    · exact F.rise i hi
  · rw [mem r hr]
    rcases (mem i hi u).1 hu with h | ⟨h, h'⟩
    · rw [F.stand i hi u h r hr]
      constructor
      · rintro (h1 | ⟨h1, h2⟩)
        · exact h1
        · rw [h1]; exact h2
      · exact fun h1 => .inl h1
    · subst h
      constructor
      · rintro (h1 | h1)
        · have := hb r hr u h1; omega
        · exact h1.2
      · exact fun h1 => .inr ⟨rfl, h1⟩
  · rcases (mem i hi u).1 hu with h | ⟨h, h'⟩
    · exact F.lt i hi u h r hr
    · rw [h] at hr; exact hl r hr
/-- boxes of one line of tickets -/
def ofLine (nd : α → List Nat) (L : List α) (r : Nat) : List α := L.filter fun t => decide (r ∈ nd t)
theorem line_fit {L : List α} (hr : Rise num L) (hl : ∀ t ∈ L, ∀ r ∈ nd t, r < n) : Fit num nd (ofLine nd L) n := by
  refine ⟨fun i _ => hr.sublist List.filter_sublist, fun i _ t ht s _ => ?_, fun i _ t ht s hs => hl t (List.mem_filter.1 ht).1 s hs⟩
  have h1 := (List.mem_filter.1 ht).1
  simp [ofLine, h1]
/-- who is first of one of its shards goes ahead of all that need it -/
theorem line_ahead {L : List α} (hr : Rise num L) {t : α} {r : Nat} {l : List α} (e : ofLine nd L r = t :: l) {u : α} (hu : u ∈ L) (hur : r ∈ nd u) (hne : u ≠ t) : num t < num u := by
  have h1 : u ∈ ofLine nd L r := List.mem_filter.2 ⟨hu, by simpa using hur⟩
  have h2 : Rise num (ofLine nd L r) := hr.sublist List.filter_sublist
  rw [e] at h1 h2
  rcases List.mem_cons.1 h1 with h | h
  · exact absurd h hne
  · exact (List.pairwise_cons.1 h2).1 u h
end
end Go.Proofs.Ytpnmokmadbapoaa.Tk
