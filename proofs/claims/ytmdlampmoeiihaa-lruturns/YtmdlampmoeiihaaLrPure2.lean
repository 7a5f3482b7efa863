/-
  Orders of keys, as lists, on: what Add, Hit and Del leave.
-/
import Derived.Test.YtmdlampmoeiihaaLrTurn
namespace Go.Proofs.Ytmdlampmoeiihaa
set_option linter.unusedSimpArgs false
set_option linter.unusedVariables false

theorem ht_perm {T K : List ByteArray} {k : ByteArray} (h : Ok T K) (hk : k ∈ K ++ T) : (htK T K k ++ htT T K k).Perm (K ++ T) := by
  rw [ht_line h.nodup]
  exact (List.perm_cons_erase hk).symm
theorem ht_cnt {T K : List ByteArray} {k x : ByteArray} (h : Ok T K) (hk : k ∈ K ++ T) (hx : x ∈ K ++ T) : cnt (htT T K k) (htK T K k) x = 1 := by
  have := (ht_perm h hk).count_eq x
  unfold cnt
  rw [this]
  exact cnt_one h.nodup hx
theorem ht_len {T K : List ByteArray} {k : ByteArray} (h : Ok T K) (hk : k ∈ K ++ T) : (htT T K k).length + (htK T K k).length = T.length + K.length := by
  have := (ht_perm h hk).length_eq
  rw [List.length_append, List.length_append] at this
  omega
theorem ht_head (T K : List ByteArray) (k : ByteArray) : ∃ h : 0 < (htK T K k).length, (htK T K k)[0] = k := by
  have hn : 0 < lvN (T.erase k) (k :: K.erase k) := by
    unfold lvN
    rw [List.length_cons]
    omega
  have hl : (htK T K k).length = lvN (T.erase k) (k :: K.erase k) := lvK_len _ _
  refine ⟨by omega, ?_⟩
  unfold htK lvK
  rw [List.getElem_take]
  rfl
theorem vic_line {T K L : List ByteArray} (h : K ++ T = L) : vic T K = L.getLast?.getD ⟨#[]⟩ := by unfold vic; rw [h]
theorem ht_vic {T K : List ByteArray} {k : ByteArray} (h : Ok T K) (hk : k ∈ K ++ T) (hn : 1 < T.length + K.length) : vic (htT T K k) (htK T K k) ≠ k := by
  rw [vic_line (ht_line h.nodup)]
  have hl : ((K ++ T).erase k).length = (K ++ T).length - 1 := List.length_erase_of_mem hk
  rw [List.length_append] at hl
  have hne : (K ++ T).erase k ≠ [] := by
    intro e
    rw [e] at hl
    simp at hl
    omega
  rw [List.getLast?_cons_of_ne_nil hne, List.getLast?_eq_some_getLast hne]
  intro e
  have hm := List.getLast_mem hne
  rw [show ((K ++ T).erase k).getLast hne = k from e] at hm
  exact ((h.nodup.mem_erase_iff).1 hm).1 rfl
theorem ht_vic1 {T K : List ByteArray} {k : ByteArray} (h : Ok T K) (hk : k ∈ K ++ T) (hn : T.length + K.length ≤ 1) : vic (htT T K k) (htK T K k) = k := by
  rw [vic_line (ht_line h.nodup)]
  have hl : ((K ++ T).erase k).length = (K ++ T).length - 1 := List.length_erase_of_mem hk
  rw [List.length_append] at hl
  have : (K ++ T).erase k = [] := List.eq_nil_of_length_eq_zero (by omega)
  rw [this]
  rfl
theorem dl_cnt0 {T K : List ByteArray} {k : ByteArray} (h : Ok T K) : cnt (dlT T K k) (dlK T K k) k = 0 := by
  unfold cnt
  rw [dl_line h.nodup]
  exact List.count_eq_zero.2 fun hm => ((h.nodup.mem_erase_iff).1 hm).1 rfl
theorem dl_cnt {T K : List ByteArray} {k x : ByteArray} (h : Ok T K) (hx : x ∈ K ++ T) (hne : x ≠ k) : cnt (dlT T K k) (dlK T K k) x = 1 := by
  unfold cnt
  rw [dl_line h.nodup, List.count_erase_of_ne hne]
  exact cnt_one h.nodup hx
theorem dl_len {T K : List ByteArray} {k : ByteArray} (h : Ok T K) (hk : k ∈ K ++ T) : (dlT T K k).length + (dlK T K k).length + 1 = T.length + K.length := by
  have h1 := congrArg List.length (dl_line (k := k) h.nodup)
  have hl : ((K ++ T).erase k).length = (K ++ T).length - 1 := List.length_erase_of_mem hk
  have hp : 0 < (K ++ T).length := List.length_pos_of_mem hk
  rw [List.length_append] at h1 hl hp
  omega
theorem ad_cnt {T K : List ByteArray} {k x : ByteArray} (h : Ok T K) (hk : k ∉ K ++ T) (hx : x = k ∨ x ∈ K ++ T) : cnt (k :: T) K x = 1 := by
  have hp : (K ++ k :: T).Perm (k :: (K ++ T)) := List.perm_middle
  have hnd : (K ++ k :: T).Nodup := hp.nodup_iff.2 (List.nodup_cons.2 ⟨hk, h.nodup⟩)
  refine cnt_one hnd (hp.mem_iff.2 ?_)
  rcases hx with rfl | hx
  · exact List.mem_cons_self
  · exact List.mem_cons_of_mem _ hx
theorem mem_comm {T K : List ByteArray} {x : ByteArray} (h : x ∈ T ++ K) : x ∈ K ++ T := by
  rcases List.mem_append.1 h with h | h
  · exact List.mem_append.2 (.inr h)
  · exact List.mem_append.2 (.inl h)
end Go.Proofs.Ytmdlampmoeiihaa
