/-
  Orders of keys, as lists: what may be, what is added, hit, taken out, levelled; what follows.
-/
import Derived.Sort.Row
import Derived.Lib.SlicesCompact
namespace Go.Proofs.Ytmdlampmoeiihaa
open Go.Lib Go.Sort
set_option linter.unusedSimpArgs false
set_option linter.unusedVariables false

instance : LawfulBEq ByteArray where
  eq_of_beq {a b} h := by
    cases a; cases b
    have h2 := eq_of_beq (α := Array UInt8) h
    subst h2
    rfl
  rfl {a} := by
    cases a with | mk d =>
    exact beq_self_eq_true (α := Array UInt8) d
/-- from 1 to 32 bytes -/
def kOk (k : ByteArray) : Bool := decide (1 ≤ k.size ∧ k.size ≤ 32)
/-- P7.1 -/
def okO (T K : List ByteArray) : Bool := decide ((K ++ T).length ≤ 256 ∧ K.length ≤ ((K ++ T).length + 1) / 2 ∧ (∀ k ∈ K ++ T, kOk k = true) ∧ (K ++ T).Nodup)
structure Ok (T K : List ByteArray) : Prop where
  many : K.length + T.length ≤ 256
  half : K.length ≤ (K.length + T.length + 1) / 2
  keys : ∀ k ∈ K ++ T, kOk k = true
  nodup : (K ++ T).Nodup
theorem okO_iff {T K : List ByteArray} : okO T K = true ↔ Ok T K := by
  unfold okO
  rw [decide_eq_true_iff]
  constructor
  · rintro ⟨a, b, c, d⟩
    rw [List.length_append] at a b
    exact ⟨a, b, c, d⟩
  · rintro ⟨a, b, c, d⟩
    refine ⟨?_, ?_, c, d⟩ <;> rw [List.length_append] <;> assumption
theorem okO_false {T K : List ByteArray} (h : ¬ Ok T K) : okO T K = false := by
  cases e : okO T K with
  | false => rfl
  | true => exact absurd (okO_iff.1 e) h
/-- how many stay in the kept row -/
def lvN (T K : List ByteArray) : Nat := min K.length ((K.length + T.length + 1) / 2)
def lvT (T K : List ByteArray) : List ByteArray := (K ++ T).drop (lvN T K)
def lvK (T K : List ByteArray) : List ByteArray := (K ++ T).take (lvN T K)
theorem lv_line (T K : List ByteArray) : lvK T K ++ lvT T K = K ++ T := List.take_append_drop _ _
theorem lvN_le (T K : List ByteArray) : lvN T K ≤ (K ++ T).length := by unfold lvN; simp; omega
theorem lvK_len (T K : List ByteArray) : (lvK T K).length = lvN T K := by
  unfold lvK
  rw [List.length_take]
  exact Nat.min_eq_left (lvN_le T K)
theorem lvT_len (T K : List ByteArray) : (lvT T K).length = K.length + T.length - lvN T K := by unfold lvT; simp
theorem lv_lens (T K : List ByteArray) : (lvK T K).length + (lvT T K).length = K.length + T.length := by
  have := congrArg List.length (lv_line T K)
  simpa using this
/-- what is levelled may be, if its keys may -/
theorem lv_ok {T K : List ByteArray} (h1 : K.length + T.length ≤ 256) (h2 : ∀ k ∈ K ++ T, kOk k = true) (h3 : (K ++ T).Nodup) : Ok (lvT T K) (lvK T K) := by
  refine ⟨by rw [lv_lens]; exact h1, ?_, by rw [lv_line]; exact h2, by rw [lv_line]; exact h3⟩
  rw [lv_lens, lvK_len]
  unfold lvN
  omega
/-- a step of the levelling: j keys have gone over -/
def stT (T K : List ByteArray) (j : Nat) : List ByteArray := K.drop (K.length - j) ++ T
def stK (K : List ByteArray) (j : Nat) : List ByteArray := K.take (K.length - j)
theorem stK_len (K : List ByteArray) (j : Nat) : (stK K j).length = K.length - j := by unfold stK; simp
theorem stT_len (T K : List ByteArray) (j : Nat) (hj : j ≤ K.length) : (stT T K j).length = T.length + j := by unfold stT; simp; omega
theorem st_zero (T K : List ByteArray) : stT T K 0 = T ∧ stK K 0 = K := by unfold stT stK; simp
theorem st_succ (T K : List ByteArray) (j : Nat) (hj : j < K.length) : stT T K (j + 1) = (stK K j)[K.length - j - 1]'(by rw [stK_len]; omega) :: stT T K j ∧ stK K (j + 1) = (stK K j).take (K.length - j - 1) := by
  unfold stT stK
  constructor
  · have h1 : K.length - (j + 1) < K.length := by omega
    rw [List.drop_eq_getElem_cons h1]
    have h2 : K.length - (j + 1) + 1 = K.length - j := by omega
    rw [h2, List.getElem_take]
    simp [Nat.sub_sub]
  · rw [List.take_take]
    congr 1
    omega
theorem st_end (T K : List ByteArray) (j : Nat) (hj : j ≤ K.length) (h1 : K.length - j ≤ (K.length + T.length + 1) / 2) (h2 : j = 0 ∨ (K.length + T.length + 1) / 2 < K.length - j + 1) : stT T K j = lvT T K ∧ stK K j = lvK T K := by
  have e : lvN T K = K.length - j := by
    unfold lvN
    omega
  unfold lvT lvK
  rw [e]
  unfold stT stK
  rw [List.drop_append_of_le_length (by omega), List.take_append_of_le_length (by omega)]
  exact ⟨rfl, rfl⟩
/-- Add, Hit, Del, what they leave -/
def htT (T K : List ByteArray) (k : ByteArray) : List ByteArray := lvT (T.erase k) (k :: K.erase k)
def htK (T K : List ByteArray) (k : ByteArray) : List ByteArray := lvK (T.erase k) (k :: K.erase k)
def dlT (T K : List ByteArray) (k : ByteArray) : List ByteArray := lvT (T.erase k) (K.erase k)
def dlK (T K : List ByteArray) (k : ByteArray) : List ByteArray := lvK (T.erase k) (K.erase k)
theorem erase_line {T K : List ByteArray} {k : ByteArray} (h : (K ++ T).Nodup) : K.erase k ++ T.erase k = (K ++ T).erase k := by
  rw [List.erase_append]
  by_cases hk : k ∈ K
  · rw [if_pos hk]
    have : k ∉ T := fun h2 => (List.nodup_append.1 h).2.2 k hk k h2 rfl
    rw [List.erase_of_not_mem this]
  · rw [if_neg hk, List.erase_of_not_mem hk]
theorem ht_line {T K : List ByteArray} {k : ByteArray} (h : (K ++ T).Nodup) : htK T K k ++ htT T K k = k :: (K ++ T).erase k := by
  unfold htK htT
  rw [lv_line, List.cons_append, erase_line h]
theorem dl_line {T K : List ByteArray} {k : ByteArray} (h : (K ++ T).Nodup) : dlK T K k ++ dlT T K k = (K ++ T).erase k := by
  unfold dlK dlT
  rw [lv_line, erase_line h]
theorem ad_ok {T K : List ByteArray} {k : ByteArray} (h : Ok T K) (hk : kOk k = true) (hn : k ∉ K ++ T) (hm : K.length + T.length < 256) : Ok (k :: T) K := by
  have hp : (K ++ k :: T).Perm (k :: (K ++ T)) := List.perm_middle
  refine ⟨by simp; omega, by have := h.half; simp; omega, fun x hx => ?_, ?_⟩
  · have := hp.mem_iff.1 hx
    rcases List.mem_cons.1 this with rfl | h2
    · exact hk
    · exact h.keys x h2
  · rw [hp.nodup_iff]
    exact List.nodup_cons.2 ⟨hn, h.nodup⟩
theorem ht_ok {T K : List ByteArray} {k : ByteArray} (h : Ok T K) (hk : k ∈ K ++ T) : Ok (htT T K k) (htK T K k) := by
  have hl : (k :: K.erase k ++ T.erase k) = k :: (K ++ T).erase k := by rw [List.cons_append, erase_line h.nodup]
  have hlen : ((K ++ T).erase k).length = (K ++ T).length - 1 := List.length_erase_of_mem hk
  have hpos : 0 < (K ++ T).length := List.length_pos_of_mem hk
  have hs : (k :: K.erase k).length + (T.erase k).length = (K ++ T).length := by
    have := congrArg List.length hl
    rw [List.length_append, List.length_cons (as := (K ++ T).erase k), hlen] at this
    omega
  unfold htT htK
  refine lv_ok (by rw [hs, List.length_append]; exact h.many) ?_ ?_
  · rw [hl]
    intro x hx
    rcases List.mem_cons.1 hx with rfl | h2
    · exact h.keys _ hk
    · exact h.keys x (List.mem_of_mem_erase h2)
  · rw [hl]
    exact List.nodup_cons.2 ⟨fun h2 => by
      have := (h.nodup.mem_erase_iff).1 h2
      exact this.1 rfl, h.nodup.erase k⟩
theorem dl_ok {T K : List ByteArray} {k : ByteArray} (h : Ok T K) : Ok (dlT T K k) (dlK T K k) := by
  unfold dlT dlK
  have hl := erase_line (k := k) h.nodup
  have hlen : ((K ++ T).erase k).length ≤ (K ++ T).length := List.length_erase_le
  refine lv_ok ?_ ?_ ?_
  · have := congrArg List.length hl
    rw [List.length_append] at this
    rw [List.length_append (as := K)] at hlen
    have := h.many
    omega
  · rw [hl]
    exact fun x hx => h.keys x (List.mem_of_mem_erase hx)
  · rw [hl]
    exact h.nodup.erase k
/-- how often a key stands in an order -/
def cnt (T K : List ByteArray) (k : ByteArray) : Nat := (K ++ T).count k
theorem cnt_one {T K : List ByteArray} {k : ByteArray} (h : (K ++ T).Nodup) (hk : k ∈ K ++ T) : cnt T K k = 1 := by
  have h1 : (K ++ T).count k ≤ 1 := List.nodup_iff_count.1 h k
  have h2 : 0 < (K ++ T).count k := List.count_pos_iff.2 hk
  unfold cnt
  omega
theorem cnt_zero {T K : List ByteArray} {k : ByteArray} (hk : k ∉ K ++ T) : cnt T K k = 0 := List.count_eq_zero.2 hk
/-- the sorted keys, made compact, are fewer where one stands twice -/
theorem keeps_all_iff {d : List (List UInt8)} (hs : d.Pairwise (fun x y => decide (x ≤ y) = true)) : (∀ j, j < d.length → keeps d.toArray j = true) ↔ d.Nodup := by
  constructor
  · intro h
    rw [List.nodup_iff_pairwise_ne, List.pairwise_iff_getElem]
    intro i j hi hj hij e
    have h1 : keeps d.toArray (i + 1) = true := h (i + 1) (by omega)
    have hi1 : i + 1 < d.length := by omega
    simp [keeps, hi, hi1] at h1
    have a1 : d[i] ≤ d[i + 1] := by
      have := List.pairwise_iff_getElem.1 hs i (i + 1) hi hi1 (by omega)
      simpa using this
    by_cases e2 : i + 1 = j
    · subst e2
      exact h1 e.symm
    · have a2 : d[i + 1] ≤ d[j] := by
        have := List.pairwise_iff_getElem.1 hs (i + 1) j hi1 hj (by omega)
        simpa using this
      rw [← e] at a2
      exact h1 (List.le_antisymm a2 a1)
  · intro h j hj
    unfold keeps
    rw [decide_eq_true_iff]
    by_cases h0 : j = 0
    · exact .inl h0
    · right
      have hj1 : j - 1 < d.length := by omega
      simp [hj, hj1]
      exact fun e => List.pairwise_iff_getElem.1 (List.nodup_iff_pairwise_ne.1 h) (j - 1) j hj1 hj (by omega) e.symm
theorem compact_lt {d : List (List UInt8)} (hs : d.Pairwise (fun x y => decide (x ≤ y) = true)) : decide ((compactUpTo d.toArray d.length).length < d.length) = !decide d.Nodup := by
  have hle : (compactUpTo d.toArray d.length).length ≤ d.length := by
    unfold compactUpTo
    have := List.length_filter_le (keeps d.toArray) (List.range d.length)
    simpa using this
  by_cases h : d.Nodup
  · have h2 := (keeps_all_iff hs).2 h
    have := compactUpTo_all d.toArray d.length h2
    rw [this]
    simp [h]
  · have h2 : ¬ ∀ j, j < d.length → keeps d.toArray j = true := fun h3 => h ((keeps_all_iff hs).1 h3)
    have : (compactUpTo d.toArray d.length).length ≠ d.length := by
      intro e
      apply h2
      unfold compactUpTo at e
      rw [List.length_map] at e
      have e2 : ((List.range d.length).filter (keeps d.toArray)).length = (List.range d.length).length := by rw [e]; simp
      intro j hj
      exact List.length_filter_eq_length_iff.1 e2 j (List.mem_range.2 hj)
    simp [h]
    omega
theorem sort_sorted (l : List (List UInt8)) : (l.mergeSort fun x y => decide (x ≤ y)).Pairwise (fun x y => decide (x ≤ y) = true) :=
  List.pairwise_mergeSort (fun a b c h1 h2 => by simp at *; exact List.le_trans h1 h2) (fun a b => by simp; exact List.le_total a b) l
theorem bytes_inj {a b : ByteArray} (h : a.data.toList = b.data.toList) : a = b := by
  cases a; cases b
  simp at h
  subst h
  rfl
def bs (l : List ByteArray) : List (List UInt8) := l.map (·.data.toList)
theorem bs_nodup (l : List ByteArray) : (bs l).Nodup ↔ l.Nodup := by
  unfold bs
  rw [List.nodup_iff_pairwise_ne, List.nodup_iff_pairwise_ne, List.pairwise_map]
  constructor
  · exact fun h => h.imp (fun hne e => hne (by rw [e]))
  · exact fun h => h.imp (fun hne e => hne (bytes_inj e))
/-- does a key stand twice? -/
theorem twice_eq (l : List ByteArray) : decide ((compactUpTo ((bs l).mergeSort fun x y => decide (x ≤ y)).toArray ((bs l).mergeSort fun x y => decide (x ≤ y)).length).length < ((bs l).mergeSort fun x y => decide (x ≤ y)).length) = !decide l.Nodup := by
  rw [compact_lt (sort_sorted _)]
  congr 1
  rw [decide_eq_decide, (List.mergeSort_perm _ _).nodup_iff, bs_nodup]
end Go.Proofs.Ytmdlampmoeiihaa
