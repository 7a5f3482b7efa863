/-
  Contracts of the document's SameChanges (of equal lists), of the chapter's changes, and of what every statement begins with.
-/
import Derived.Test.YtlhlleokehkolaaOfChanges
import Derived.Deep.QuietTactic
import Derived.BigQuiet
namespace Go.Proofs.Ytlhlleokehkolaa
open Go.RowKit
set_option linter.unusedSimpArgs false
set_option linter.unusedVariables false
set_option maxRecDepth 100000

theorem flat_get (cs : List Chg) (i j : Nat) (hi : i < cs.length) (hj : j < 11) : (cs.flatMap Chg.cells)[i * 11 + j]? = some (cs[i].cells[j]'(by rw [cells_len]; exact hj)) := by
  induction cs generalizing i with
  | nil => simp at hi
  | cons c cs ih =>
    rw [List.flatMap_cons]
    cases i with
    | zero =>
      rw [List.getElem?_append_left (by rw [cells_len]; omega)]
      simp [cells_len, hj]
    | succ i =>
      rw [List.getElem?_append_right (by rw [cells_len]; omega), cells_len, show (i + 1) * 11 + j - 11 = i * 11 + j by omega]
      exact ih i (by simpa using hi)
theorem OwnC.at {w : World} {base : Nat} {v : Value} {cs : List Chg} (h : OwnC w base v cs) :
    ∃ ao cap, v = .slice ao cs.length cap ∧ cs.length ≤ cap ∧ cap ≤ maxLen ∧ ChAt w w.heap.size ao cs := by
  rcases h.2 with ⟨rfl, hn⟩ | ⟨g, cap, cur, rfl, hb, hg, hnc, hcm, hcs, htake⟩
  · have : cs = [] := List.eq_nil_of_length_eq_zero hn
    subst this
    exact ⟨none, 0, rfl, by simp, by simp [maxLen], .inl rfl⟩
  · refine ⟨_, cap, rfl, hnc, hcm, .inr ⟨g, 0, rfl, (Array.getElem?_eq_some_iff.1 hg).1, fun i hi j hj => ?_⟩⟩
    have := World.ownsRow.cells h (g := g) rfl (i * 11 + j) _ (flat_get cs i j hi hj)
    rw [addr_add] at this
    rw [Nat.zero_add] at this ⊢
    exact this

theorem changes_many (w : World) (ao : Option Addr) (cs : List Chg) (cap : Nat) (hlen : 4096 < cs.length) (hm : cs.length ≤ maxLen) :
    Calls Try.prog 13 #[.slice ao cs.length cap] w fun e w' => ∃ v', e = .returned (.tuple #[v', .int .i64 (chsE cs)]) ∧ Own w' w.heap.size v' (chsB cs) ∧ Below w.heap.size w w' := by
  have hl1 : (4096 : Int) < (cs.length : Int) := by omega
  unfold maxLen at hm
  have e1 : chsB cs = [] := by unfold chsB; rw [if_pos hlen]
  have e2 : chsE cs = 4 := by unfold chsE; rw [if_pos hlen]
  rw [e1, e2]
  clear e1 e2
  go_enter Try.func13, Try.ntmps13
  go_wp2
  go_ret2
  exact ⟨_, rfl, Own.nil _ _, Below.refl _ _⟩
theorem changes_none (w : World) (ao : Option Addr) (cap : Nat) :
    Calls Try.prog 13 #[.slice ao 0 cap] w fun e w' => ∃ v', e = .returned (.tuple #[v', .int .i64 (chsE [])]) ∧ Own w' w.heap.size v' (chsB []) ∧ Below w.heap.size w w' := by
  have e1 : chsB [] = small 0 := by decide
  have e2 : chsE [] = 0 := by decide
  rw [e1, e2]
  clear e1 e2
  have hf0 : Fits 0 := by unfold Fits; omega
  have hc0 := fun W => small_any 0 W hf0
  have hl0 : (small 0).length = 1 := by decide
  go_enter Try.func13, Try.ntmps13
  go_wp2
  refine wp_loop_rounds 1 ?_
  rw [rounds_succ]
  go_wp2_with (go_at_call 16; refine (hc0 _).mono ?_; rintro e w2 ⟨v2, rfl, ho2, hb2⟩)
  refine wp_loop_rounds 1 ?_
  rw [rounds_succ]
  obtain ⟨ao2, cap2, hv2, _, _, _, _⟩ := ho2.at
  rw [hl0] at hv2
  rw [hv2] at ho2 ⊢
  go_wp2
  go_ret2
  exact ⟨_, rfl, ho2, hb2⟩
theorem changes_any (w : World) (B : Nat) (ao : Option Addr) (cs : List Chg) (cap : Nat) (h : ChAt w B ao cs) (hB : B ≤ w.heap.size) (hm : cs.length ≤ maxLen) (hgood : ∀ c ∈ cs, c.Good) :
    Calls Try.prog 13 #[.slice ao cs.length cap] w fun e w' => ∃ v', e = .returned (.tuple #[v', .int .i64 (chsE cs)]) ∧ Own w' w.heap.size v' (chsB cs) ∧ Below w.heap.size w w' := by
  by_cases hlen : 4096 < cs.length
  · exact changes_many w ao cs cap hlen hm
  · rcases h with rfl | ⟨b, off, rfl, hb, hc⟩
    · exact changes_none w ao cap
    · exact changes_row w b off cs cap (by omega) (by omega) hc hgood

theorem same_row (w : World) (b off b' off' : Nat) (cs : List Chg) (cap cap' : Nat) (hm : cs.length ≤ maxLen) (hc : ∀ i (hi : i < cs.length) j (hj : j < 11), w.cell? ⟨b, off + i * 11 + j, none⟩ = some (cs[i].cells[j]'(by rw [cells_len]; exact hj))) (hc' : ∀ i (hi : i < cs.length) j (hj : j < 11), w.cell? ⟨b', off' + i * 11 + j, none⟩ = some (cs[i].cells[j]'(by rw [cells_len]; exact hj))) :
    Calls Try.prog 29 #[.slice (some ⟨b, off, none⟩) cs.length cap, .slice (some ⟨b', off', none⟩) cs.length cap'] w fun e w' => e = .returned (.bool true) ∧ ∃ n, w' = w.drewN n := by
  unfold maxLen at hm
  have HC : Hid (∀ i (hi : i < cs.length) j (hj : j < 11), w.cell? ⟨b, off + i * 11 + j, none⟩ = some (cs[i].cells[j]'(by rw [cells_len]; exact hj))) := hc
  have HD : Hid (∀ i (hi : i < cs.length) j (hj : j < 11), w.cell? ⟨b', off' + i * 11 + j, none⟩ = some (cs[i].cells[j]'(by rw [cells_len]; exact hj))) := hc'
  clear hc hc'
  go_enter Try.func29, Try.ntmps29
  go_wp2
  go_loopw [5] (fun i wr => ∃ k n : Nat, k ≤ cs.length ∧ i = .int .i64 k ∧ wr = w.drewN n) (fun i _ => cs.length - (intOf i).toNat)
  case atStart => exact ⟨0, 0, Nat.zero_le _, rfl, rfl⟩
  case round =>
    obtain ⟨k, n, hk, rfl, rfl⟩ := hrel
    by_cases hlt : k < cs.length
    · have hlt2 : (k : Int) < (cs.length : Int) := by omega
      obtain ⟨c, hce⟩ : ∃ c, c = cs[k] := ⟨_, rfl⟩
      have hL := lies_of HC.out k hlt
      have hM := lies_of HD.out k hlt
      rw [← hce] at hL hM
      clear hce
      obtain ⟨q0, q1, q2, q3, q4, q5, q6, q7, q8, q9, q10⟩ := hL
      obtain ⟨r0, r1, r2, r3, r4, r5, r6, r7, r8, r9, r10⟩ := hM
      go_wp2
      go_quiet (fail)
      go_wp2
      go_roundw
      case rel => exact ⟨k + 1, _, by omega, by go_num, rfl⟩
      case measure => simp [intOf]; omega
    · go_wp2
      go_ret
      exact ⟨rfl, n, rfl⟩
theorem same_none (w : World) (ao ao' : Option Addr) (cap cap' : Nat) :
    Calls Try.prog 29 #[.slice ao 0 cap, .slice ao' 0 cap'] w fun e w' => e = .returned (.bool true) ∧ ∃ n, w' = w.drewN n := by
  go_enter Try.func29, Try.ntmps29
  go_wp2
  refine wp_loop_rounds 1 ?_
  rw [rounds_succ]
  go_wp2
  go_ret
  exact ⟨rfl, 0, rfl⟩
theorem same_any (w : World) (B B' : Nat) (ao ao' : Option Addr) (cs : List Chg) (cap cap' : Nat) (hm : cs.length ≤ maxLen) (h : ChAt w B ao cs) (h' : ChAt w B' ao' cs) :
    Calls Try.prog 29 #[.slice ao cs.length cap, .slice ao' cs.length cap'] w fun e w' => e = .returned (.bool true) ∧ ∃ n, w' = w.drewN n := by
  rcases h with rfl | ⟨b, off, rfl, hb, hc⟩
  · exact same_none w ao ao' cap cap'
  · rcases h' with rfl | ⟨b', off', rfl, hb', hc'⟩
    · exact same_none w _ ao' cap cap'
    · exact same_row w b off b' off' cs cap cap' hm hc hc'

theorem chAt_made (w : World) (cs : List Chg) (t : TypeId) : ChAt (w.alloc (.cells (cs.flatMap Chg.cells).toArray t)) (w.heap.size + 1) (some ⟨w.heap.size, 0, none⟩) cs := by
  refine .inr ⟨w.heap.size, 0, rfl, by omega, fun i hi j hj => ?_⟩
  rw [Nat.zero_add]
  have h := flat_get cs i j hi hj
  have e : (w.alloc (.cells (cs.flatMap Chg.cells).toArray t)).cell? ⟨w.heap.size, i * 11 + j, none⟩ = (cs.flatMap Chg.cells).toArray[i * 11 + j]? := World.cell?_alloc_mark w _ t (0, 0) _
  rw [e, List.getElem?_toArray]
  exact h
def dropL : List Chg := [⟨2, 1, zItm, ⟨#[107]⟩, 2, 0, false⟩, ⟨4, 0, zItm, ⟨#[]⟩, 0, 5, false⟩]
theorem drop_any (w : World) :
    Calls Try.prog 46 #[] w fun e w' => e = .returned (.slice (some ⟨w.heap.size, 0, none⟩) 2 2) ∧ ChAt w' w'.heap.size (some ⟨w.heap.size, 0, none⟩) dropL ∧ Below w.heap.size w w' ∧ w.heap.size < w'.heap.size := by
  go_enter Try.func46, Try.ntmps46
  go_wp2
  go_ret
  refine ⟨rfl, ?_, (Below.refl _ _).alloc (Nat.le_refl _) _, by simp⟩
  have h := chAt_made w dropL 41
  have e : (w.alloc (.cells (dropL.flatMap Chg.cells).toArray 41)).heap.size = w.heap.size + 1 := by simp
  rw [← e] at h
  exact h

theorem drop_good : ∀ c ∈ dropL, c.Good := by
  intro c hc
  simp only [dropL, List.mem_cons, List.not_mem_nil, or_false] at hc
  rcases hc with rfl | rfl <;> exact ⟨by decide, by unfold Fits; decide⟩
theorem drop_E : chsE dropL = 0 := by decide +kernel
theorem drop_B : chsB dropL = [2, 2, 1, 1, 107, 2, 4, 5] := by decide +kernel
theorem drop_of : ofChs [2, 2, 1, 1, 107, 2, 4, 5] = (dropL, 0) := by kernel_rfl

theorem alive_any (w : World) :
    Calls Try.prog 19 #[] w fun e w' => e = .returned (.bool true) ∧ Below w.heap.size w w' := by
  have hml : dropL.length ≤ maxLen := by decide
  have c1 := fun W (h : ChAt W W.heap.size (some ⟨w.heap.size, 0, none⟩) dropL) => changes_any W W.heap.size (some ⟨w.heap.size, 0, none⟩) dropL 2 h (Nat.le_refl _) hml drop_good
  simp only [drop_E, drop_B, show dropL.length = 2 from rfl] at c1
  go_enter Try.func19, Try.ntmps19
  go_wp2_with (first
    | (go_at_call 29; refine (same_any w4 w3.heap.size w4.heap.size ao3 _ dropL cap3 2 hml (hch3.below hb4 (Nat.le_refl _)) hd4).mono ?_; rintro e w5 ⟨rfl, n5, hw5⟩)
    | (go_at_call 46; refine (drop_any w3).mono ?_; rintro e w4 ⟨rfl, hd4, hb4, _⟩)
    | (go_at_call 14; refine (ofChanges_any w2 w2.heap.size ao2 [2, 2, 1, 1, 107, 2, 4, 5] cap2 hbs2 hlc2 hcm2 hnl2.out (Nat.le_refl _)).mono ?_; rintro e w3 ⟨v3, rfl, ho3, hb3⟩; rw [drop_of]; rw [drop_of] at ho3; obtain ⟨ao3, cap3, hv3, hlc3, hcm3, hch3⟩ := ho3.at; rw [hv3]; have hcv2 : (convert 26 9 (.slice ao2 8 cap2)).run Try.prog w3 = .ok (.string ⟨#[2, 2, 1, 1, 107, 2, 4, 5]⟩) w3 := hcv w3 hb3)
    | (go_at_call 13; refine (c1 w1 hd1).mono ?_; rintro e w2 ⟨v2, rfl, ho2, hb2⟩; have hcv := ho2.conv; obtain ⟨ao2, cap2, hv2, hlc2, hcm2, hnl0, hbs2⟩ := ho2.at; rw [hv2]; rw [hv2] at hcv; have hnl2 : Hid (ao2 = none → cap2 = 0) := hnl0; clear hnl0)
    | (go_at_call 46; refine (drop_any w).mono ?_; rintro e w1 ⟨rfl, hd1, hb1, _⟩))
  go_ret
  subst hw5
  exact ⟨rfl, below_drewN (((hb1.trans (hb2.mono hb1.size)).trans (hb3.mono (Nat.le_trans hb1.size hb2.size))).trans (hb4.mono (Nat.le_trans hb1.size (Nat.le_trans hb2.size hb3.size)))) _⟩
end Go.Proofs.Ytlhlleokehkolaa
