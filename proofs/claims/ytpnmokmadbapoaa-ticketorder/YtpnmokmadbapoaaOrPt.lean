/-
  Commands and their parts, as data: each key is in the part of just one of the command's shards; each part may be, and has just that shard; with one shard the part is the command.
-/
import Derived.Test.YtpnmokmadbapoaaOrRefW
namespace Go.Proofs.Ytpnmokmadbapoaa
open Go.RowKit
set_option linter.unusedSimpArgs false
set_option linter.unusedVariables false
set_option maxRecDepth 100000

theorem of_bounds {c : Cm} {n : Nat} {k : ByteArray} (ht : tenOk c.tenant = true) (hk : keyOk k = true) (hn0 : 1 ≤ n) (hn1 : n ≤ 4) : 0 ≤ c.of n k ∧ c.of n k < n := by
  unfold Cm.of shardOf
  rw [ht, hk]
  have e : ¬ ((n : Int) < 1 ∨ 4 < (n : Int)) := by omega
  simp [e]
  have h1 := Int.emod_nonneg (hash0 (tenantText c.tenant ++ k).data.toList) (show (n : Int) ≠ 0 by omega)
  have h2 := Int.emod_lt_of_pos (hash0 (tenantText c.tenant ++ k).data.toList) (show 0 < (n : Int) by omega)
  first | exact ⟨h1, h2⟩ | (constructor <;> assumption) | simp_all
theorem needs_mem {c : Cm} {n : Nat} {s : Int} : s ∈ c.needs n ↔ ∃ i : Nat, i < n ∧ s = (i : Int) ∧ c.isIn n i = true := by
  rw [← Cm.needsTo_all]
  unfold Cm.needsTo
  simp only [List.mem_map, List.mem_filter, List.mem_range]
  constructor
  · rintro ⟨i, ⟨h1, h2⟩, rfl⟩
    exact ⟨i, h1, rfl, h2⟩
  · rintro ⟨i, h1, rfl, h2⟩
    exact ⟨i, ⟨h1, h2⟩, rfl⟩
theorem needs_sorted (c : Cm) (n : Nat) : (c.needs n).Pairwise (· < ·) := by
  rw [← Cm.needsTo_all]
  unfold Cm.needsTo
  rw [List.pairwise_map]
  exact (List.pairwise_lt_range.filter _).imp (fun h => by omega)
theorem key_in {c : Cm} {n : Nat} {k : ByteArray} (ht : tenOk c.tenant = true) (hka : ∀ k ∈ c.keys, keyOk k = true) (hn0 : 1 ≤ n) (hn1 : n ≤ 4) (hk : k ∈ c.keys) : c.of n k ∈ c.needs n := by
  obtain ⟨h0, h1⟩ := of_bounds ht (hka k hk) hn0 hn1
  rw [needs_mem]
  refine ⟨(c.of n k).toNat, by omega, by omega, ?_⟩
  unfold Cm.isIn
  rw [Bool.or_eq_true]
  right
  rw [List.any_eq_true]
  exact ⟨k, hk, by simp; omega⟩
/-- a shard of a command that is no flush has a key -/
theorem has_key {c : Cm} {n : Nat} {s : Int} (hk : ¬ c.kind = 11) (hs : s ∈ c.needs n) : ∃ k ∈ c.keys, c.of n k = s := by
  rw [needs_mem] at hs
  obtain ⟨i, _, rfl, h2⟩ := hs
  unfold Cm.isIn at h2
  rw [decide_eq_false hk, Bool.false_or, List.any_eq_true] at h2
  obtain ⟨k, h3, h4⟩ := h2
  exact ⟨k, h3, by simpa using h4⟩
theorem piece_of (c : Cm) (s n m : Int) (k : ByteArray) : (c.piece s n).of m k = c.of m k := rfl
theorem kOk_flush {c : Cm} (h : c.kOk = true) (hk : c.kind = 11) : c.keys = [] := by
  unfold Cm.kOk at h
  rw [if_pos hk] at h
  exact List.eq_nil_of_length_eq_zero (by simpa using h)
theorem kOk_more {c : Cm} (h : c.kOk = true) (hk : ¬ c.kind = 11) : (1 ≤ c.keys.length ∧ c.keys.length ≤ 8 ∧ (c.keys.length ≤ 1 ∨ c.kind = 1 ∨ c.kind = 10)) ∧ c.keys.all keyOk = true ∧ c.keys.Nodup := by
  unfold Cm.kOk at h
  rw [if_neg hk] at h
  simp only [Bool.and_eq_true, decide_eq_true_eq] at h
  exact ⟨h.1.1, h.1.2, h.2⟩
theorem piece_may {c : Cm} {n : Nat} {s : Int} (h : c.may = true) (hs : s ∈ c.needs n) : (c.piece s n).may = true := by
  obtain ⟨h1, h2, h3, h4, h5, h6, h7⟩ := Cm.may_parts h
  have hk : (c.piece s n).kOk = true := by
    by_cases hf : c.kind = 11
    · have he := kOk_flush h3 hf
      unfold Cm.kOk Cm.piece
      dsimp only
      rw [if_pos hf, he]
      rfl
    · obtain ⟨⟨a1, a2, a3⟩, a4, a5⟩ := kOk_more h3 hf
      have hle := List.length_filter_le (fun k => c.of n k == s) c.keys
      obtain ⟨k, hk1, hk2⟩ := has_key hf hs
      have hpos : 1 ≤ (c.keys.filter fun k => c.of n k == s).length := by
        have : k ∈ c.keys.filter fun k => c.of n k == s := List.mem_filter.2 ⟨hk1, by simpa using hk2⟩
        exact List.length_pos_of_mem this
      unfold Cm.kOk Cm.piece
      dsimp only
      rw [if_neg hf]
      simp only [Bool.and_eq_true, decide_eq_true_eq]
      refine ⟨⟨⟨hpos, by omega, by omega⟩, ?_⟩, a5.filter _⟩
      rw [List.all_eq_true] at a4 ⊢
      exact fun x hx => a4 x (List.mem_filter.1 hx).1
  unfold Cm.may
  simp only [Bool.and_eq_true, decide_eq_true_eq]
  exact ⟨⟨⟨⟨⟨⟨h1, h2⟩, hk⟩, h4⟩, h5⟩, h6⟩, h7⟩
theorem filter_one : ∀ {l : List Nat} {j : Nat} {p : Nat → Bool}, l.Nodup → j ∈ l → (∀ i ∈ l, p i = true ↔ i = j) → l.filter p = [j]
  | a :: l, j, p, hn, hj, hp => by
    rw [List.nodup_cons] at hn
    by_cases e : a = j
    · subst e
      rw [List.filter_cons, if_pos ((hp a (by simp)).2 rfl)]
      congr 1
      rw [List.filter_eq_nil_iff]
      intro x hx hpx
      have := (hp x (by simp [hx])).1 hpx
      rw [this] at hx
      exact hn.1 hx
    · rw [List.filter_cons, if_neg (fun x => e ((hp a (by simp)).1 x))]
      exact filter_one hn.2 (by simpa [Ne.symm e] using hj) (fun i hi => hp i (by simp [hi]))
theorem piece_needs {c : Cm} {n : Nat} {s : Int} (hf : ¬ c.kind = 11) (hs : s ∈ c.needs n) : (c.piece s n).needs n = [s] := by
  obtain ⟨k, hk1, hk2⟩ := has_key hf hs
  obtain ⟨j, hj, rfl, _⟩ := needs_mem.1 hs
  rw [← Cm.needsTo_all]
  unfold Cm.needsTo
  rw [filter_one (j := j) List.nodup_range (List.mem_range.2 hj)]
  · rfl
  · intro i _
    unfold Cm.isIn
    rw [show decide ((c.piece (j : Int) n).kind = 11) = false from decide_eq_false hf, Bool.false_or, List.any_eq_true]
    constructor
    · rintro ⟨x, hx1, hx2⟩
      have h1 := (List.mem_filter.1 hx1).2
      rw [piece_of] at hx2
      simp at h1 hx2
      omega
    · rintro rfl
      exact ⟨k, List.mem_filter.2 ⟨hk1, by simpa using hk2⟩, by rw [piece_of]; simpa using hk2⟩
/-- the parts' keys together: so many as the command has -/
theorem filter_count (f : ByteArray → Int) : ∀ (S : List Int) (keys : List ByteArray), S.Nodup → (S.map fun s => (keys.filter fun k => f k == s).length).sum = (keys.filter fun k => decide (f k ∈ S)).length
  | [], keys, _ => by
    have : (keys.filter fun k => decide (f k ∈ ([] : List Int))) = [] := by rw [List.filter_eq_nil_iff]; simp
    rw [this]
    rfl
  | s :: S, keys, hn => by
    rw [List.nodup_cons] at hn
    rw [List.map_cons, List.sum_cons, filter_count f S keys hn.2]
    induction keys with
    | nil => rfl
    | cons k keys ih =>
      rw [List.filter_cons, List.filter_cons, List.filter_cons]
      by_cases h1 : f k = s
      · have h2 : ¬ f k ∈ S := by rw [h1]; exact hn.1
        simp only [h1] at *
        simp [h2] at *
        omega
      · by_cases h2 : f k ∈ S
        · simp [h1, h2] at *
          omega
        · simp [h1, h2] at *
          omega
theorem parts_count {c : Cm} {n : Nat} (h : c.may = true) (hn0 : 1 ≤ n) (hn1 : n ≤ 4) : ((c.needs n).map fun s => (c.piece s n).keys.length).sum = c.keys.length := by
  obtain ⟨h1, h2, h3, _⟩ := Cm.may_parts h
  have hk := Cm.kOk_keys h3
  have := filter_count (c.of n) (c.needs n) c.keys ((needs_sorted c n).imp (fun h => by omega))
  unfold Cm.piece
  dsimp only
  rw [this]
  congr 1
  rw [List.filter_eq_self]
  intro k hkk
  simpa using key_in h2 hk hn0 hn1 hkk
theorem needs_pos {c : Cm} {n : Nat} (h : c.may = true) (hn0 : 1 ≤ n) (hn1 : n ≤ 4) : c.needs n ≠ [] := by
  obtain ⟨h1, h2, h3, _⟩ := Cm.may_parts h
  by_cases hf : c.kind = 11
  · have : (0 : Int) ∈ c.needs n := by
      rw [needs_mem]
      exact ⟨0, by omega, rfl, by unfold Cm.isIn; rw [decide_eq_true hf]; rfl⟩
    intro e
    rw [e] at this
    simp at this
  · obtain ⟨⟨a1, _⟩, _⟩ := kOk_more h3 hf
    obtain ⟨k, hk⟩ := List.exists_mem_of_length_pos (show 0 < c.keys.length by omega)
    have := key_in h2 (Cm.kOk_keys h3) hn0 hn1 hk
    intro e
    rw [e] at this
    simp at this
theorem needs_lt {c : Cm} {n : Nat} {s : Int} (hs : s ∈ c.needs n) : 0 ≤ s ∧ s < n := by
  obtain ⟨i, hi, rfl, _⟩ := needs_mem.1 hs
  omega
/-- with one shard the part is the command -/
theorem piece_one {c : Cm} {n : Nat} {s : Int} (h : c.may = true) (hn0 : 1 ≤ n) (hn1 : n ≤ 4) (h1 : (c.needs n).length = 1) (hs : s ∈ c.needs n) : c.piece s n = c := by
  obtain ⟨_, h2, h3, _⟩ := Cm.may_parts h
  obtain ⟨x, hx⟩ := List.length_eq_one_iff.1 h1
  have hk : c.keys.filter (fun k => c.of n k == s) = c.keys := by
    rw [List.filter_eq_self]
    intro k hk
    have h4 := key_in h2 (Cm.kOk_keys h3) hn0 hn1 hk
    rw [hx] at hs h4
    simp at hs h4
    simp [hs, h4]
  unfold Cm.piece
  rw [hk]
end Go.Proofs.Ytpnmokmadbapoaa
