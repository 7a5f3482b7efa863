/-
  The library's functions over rows of keys, on: Sort with Compact (hasTwice), ContainsFunc of isNoKey, Insert at the front, Concat.
-/
import Derived.Test.YtmdlampmoeiihaaLrLib
namespace Go.Proofs.Ytmdlampmoeiihaa
open Go.RowKit Go.Shelf Go.Lib Go.Sort
set_option linter.unusedSimpArgs false
set_option linter.unusedVariables false
set_option maxRecDepth 100000

theorem Try.zeroEnc : ∀ w, (zeroValue 9).run Try.prog w = .ok (encStr []) w := fun w => by kernel_rfl
theorem own_holdsE {w : World} {g : Nat} {cur : Array Value} {ks : List ByteArray} (hg : w.heap[g]? = some (.cells cur 9 (0, 0))) (hc : ∀ j (hj : j < ks.length), w.cell? ⟨g, j, none⟩ = some (.string ks[j])) : Holds encStr w g 0 (bs ks).toArray := by
  intro j hj
  have hj2 : j < ks.length := by simpa [bs] using hj
  refine ⟨?_, frozen_of_heap hg _⟩
  rw [Nat.zero_add, hc j hj2]
  have : (bs ks).toArray[j]! = ks[j].data.toList := by simp [bs, hj2]
  rw [this, encStr_bytes]
/-- P7.1's 'none stands in it twice' -/
theorem hasTwice_any (w : World) (base : Nat) (v : Value) (ks : List ByteArray) (h : OwnTs w base v ks) (hl : ks.length ≤ 1000) :
    Calls Try.prog 42 #[v] w fun e w' => e = .returned (.bool (!decide ks.Nodup)) ∧ w.grownBy w' v.ownBlock := by
  rcases h.parts with ⟨rfl, rfl⟩ | ⟨g, cap, cur, rfl, hb, hg, hs, hn, hm, hc⟩
  · have hcomp : ∀ w, Calls Try.prog 57 #[.slice none 0 0] w fun e w' => e = .returned (.slice none 0 0) ∧ w' = w := by
      intro w
      go_enter Try.func57, Try.ntmps57
      go_wp2
      go_ret
      exact ⟨rfl, rfl⟩
    clear h
    go_enter Try.func42, Try.ntmps42
    go_wp2_with (first
      | (go_at_call 56; refine (AnyM.slices_Sort_string_none Try.laySort none 0 _).mono ?_; rintro e w1 ⟨rfl, rfl⟩)
      | (go_at_call 57; refine (hcomp _).mono ?_; rintro e w1 ⟨rfl, rfl⟩))
    go_ret
    exact ⟨by simp, World.grownBy.refl _ _⟩
  · have hgl : g < w.heap.size := (Array.getElem?_eq_some_iff.1 hg).1
    have hbl : (bs ks).length = ks.length := by simp [bs]
    have hsort := AnyM.slices_Sort_string Try.laySort g 0 cap (bs ks) w (own_holdsE hg hc) hgl (by omega)
    rw [hbl] at hsort
    have hcomp : ∀ n os, Calls Try.prog 57 #[.slice (some ⟨g, 0, none⟩) ks.length cap] (grow (putRow encStr (Sort.ahead w n) g 0 (srt ks).toArray) os) fun e w' => e = .returned (.slice (some ⟨g, 0, none⟩) (compactUpTo (srt ks).toArray (srt ks).length).length cap) ∧ Hid (w.grownBy w' (some g)) := by
      intro n os
      obtain ⟨cur', hg', hs', hc'⟩ := turned_row (n := n) (os := os) encStr (srt ks).toArray hg (by simp [srt_len]; omega)
      have hgr := turned_grown (w := w) (g := g) (n := n) (os := os) encStr (srt ks).toArray
      obtain ⟨W, hW⟩ : ∃ W, W = grow (putRow encStr (Sort.ahead w n) g 0 (srt ks).toArray) os := ⟨_, rfl⟩
      rw [← hW] at hg' hgr ⊢
      have hH : Holds encStr W g 0 (srt ks).toArray := fun j hj => ⟨by rw [Nat.zero_add, cell_of_heap hg']; exact hc' j hj, frozen_of_heap hg' _⟩
      have hcon := AnyE.slices_Compact Try.layCompact encStr (fun _ => rfl) eqlStr neqStr [] Try.zeroEnc g 0 cap (srt ks).toArray W hH (by simp [srt_len]; omega) (by simp [srt_len]; omega)
      have e2 : (srt ks).toArray.size = (srt ks).length := by simp
      rw [e2, srt_len] at hcon
      rw [srt_len]
      refine hcon.mono ?_
      rintro e w' ⟨rfl, q, rfl⟩
      refine ⟨rfl, ?_⟩
      have h3 := turned_grown (w := W) (g := g) (n := q) (os := #[]) encStr (compactUpTo (srt ks).toArray ks.length ++ List.replicate (ks.length - (compactUpTo (srt ks).toArray ks.length).length) []).toArray
      rw [grow_none] at h3
      exact hgr.trans h3
    have HT : Hid (decide ((compactUpTo (srt ks).toArray (srt ks).length).length < ks.length) = !decide ks.Nodup) := by
      have := twice_eq ks
      rw [show ((bs ks).mergeSort fun x y => decide (x ≤ y)) = srt ks from rfl] at this
      rw [srt_len] at this ⊢
      exact this
    obtain ⟨m, hm2⟩ : ∃ m, m = (compactUpTo (srt ks).toArray (srt ks).length).length := ⟨_, rfl⟩
    rw [← hm2] at HT
    simp only [← hm2] at hcomp
    have hml : m ≤ ks.length := by
      rw [hm2, srt_len]
      unfold compactUpTo
      have := List.length_filter_le (keeps (srt ks).toArray) (List.range ks.length)
      simpa using this
    clear hm2 h hg hs hc
    unfold srt at hcomp
    go_enter Try.func42, Try.ntmps42
    go_wp2_with (first
      | (go_at_call 56; refine hsort.mono ?_; rintro e w1 ⟨rfl, n, os, rfl⟩)
      | (go_at_call 57; refine (hcomp _ _).mono ?_; rintro e w2 ⟨rfl, HG⟩))
    go_ret
    refine ⟨?_, HG.out⟩
    rw [← HT.out]
    congr 2
theorem isNoKey_any (k : ByteArray) (w : World) : Calls Try.prog 41 #[.string k] w fun e w' => e = .returned (.bool (!kOk k)) ∧ w' = w := by
  by_cases h1 : k.size < 1
  · have e : kOk k = false := by simp [kOk]; omega
    rw [e]
    have h2 : decide ((k.size : Int) < 1) = true := by simp; omega
    go_enter Try.func41, Try.ntmps41
    go_wp2
    all_goals
      go_ret
      exact ⟨by simp; try omega, rfl⟩
  · have h2 : decide ((k.size : Int) < 1) = false := by simp; omega
    by_cases h3 : 32 < k.size
    · have e : kOk k = false := by simp [kOk]; omega
      rw [e]
      go_enter Try.func41, Try.ntmps41
      go_wp2
      go_ret
      exact ⟨by simp; try omega, rfl⟩
    · have e : kOk k = true := by simp [kOk]; omega
      rw [e]
      go_enter Try.func41, Try.ntmps41
      go_wp2
      go_ret
      exact ⟨by simp; try omega, rfl⟩
theorem contains_any (w : World) (ao : Option Addr) (ks : List ByteArray) (cap : Nat) (h : Tl w ao ks cap) :
    Calls Try.prog 40 #[.slice ao ks.length cap, .func (.func 41) #[] #[]] w fun e w' => e = .returned (.bool (!ks.all kOk)) ∧ ∃ q, w' = w.drewN q := by
  rcases h.at_ with rfl | ⟨b, off, rfl, hb, hc⟩
  · refine (AnyE.slices_ContainsFunc_empty Try.layContains ao cap _ w).mono ?_
    rintro e w' ⟨rfl, rfl⟩
    exact ⟨by simp, 0, rfl⟩
  · have eg : ∀ args w, (callFunc 41 args).run Try.prog w = .ok (.enter 41 args) w := enters_of Try.func41 (by kernel_rfl) rfl
    refine (AnyE.slices_ContainsFunc Try.layContains Value.string (fun k => !kOk k) 41 #[] eg b off ks.length cap ks w ?_ (Nat.le_refl _) (Nat.le_trans h.hl h.hc) ?_).mono ?_
    · intro W x _
      refine (isNoKey_any x W).mono ?_
      rintro e w' ⟨rfl, rfl⟩
      exact ⟨rfl, 0, rfl⟩
    · intro j hj
      rw [hc j hj, getElem!_pos ks j hj]
    · rintro e w' ⟨rfl, q, rfl⟩
      refine ⟨?_, q, rfl⟩
      rw [List.take_length, List.all_eq_not_any_not, Bool.not_not]
end Go.Proofs.Ytmdlampmoeiihaa
