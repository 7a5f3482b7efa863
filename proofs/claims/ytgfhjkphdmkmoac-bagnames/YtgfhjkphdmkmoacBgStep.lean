/-
  Contracts of Send and Step.
-/
import Derived.Test.YtgfhjkphdmkmoacBgCalls
namespace Go.Proofs.Ytgfhjkphdmkmoac
open Go.RowKit
set_option linter.unusedSimpArgs false
set_option linter.unusedVariables false
set_option maxRecDepth 100000

set_option maxHeartbeats 1000000 in
theorem send_good (w : World) (ao : Option Addr) (ls : List (List UInt8)) (cap : Nat) (h : Ll w ao ls cap) (hroom : ∀ p ∈ ls, p.length ≤ 140737488355328) (mo : Option Addr) (m : List UInt8) (mc : Nat) (hm : Sl w mo m mc) (h1 : ls.length < 64) (h2 : m.length ≤ 65600) :
    Calls Try.prog 18 #[.slice ao ls.length cap, .slice mo m.length mc] w fun e w' => ∃ v', e = .returned (.tuple #[v', .int .i64 0]) ∧ OwnLs w' w.heap.size v' (ls ++ [m]) ∧ Below w.heap.size w w' := by
  have g1 : decide ((64 : Int) < (ls.length : Int)) = false := by simp; omega
  have g2 : decide ((65600 : Int) < (m.length : Int)) = false := by simp; omega
  have g3 : ((ls.length : Int) == 64) = false := by simp; omega
  have hll := h.hl
  have hlm := h.hc
  have HL : Hid (LsAt w w.heap.size ao ls) := h.at_
  have HR : Hid (∀ p ∈ ls, p.length ≤ 140737488355328) := hroom
  have HM : Hid (Sl w mo m mc) := hm
  clear h hroom hm
  obtain ⟨i0, hi, hz0, hz1, hz2⟩ := info_parts Try.infoBytes
  go_enter Try.func18, Try.ntmps18
  go_wp2_with (first
    | (at_make; refine wpList_make_own _ rfl (.const (.int .i64 0)) (.tmp 18) 36 rfl w.heap.size 22 i0 _ 1 Try.underlying36 hi hz0 hz1 .i64 .i64 _ (ls.length + 1) rfl rfl (by first | rfl | go_num) (by rw [hz2]; omega) (by unfold maxLen; omega) (Nat.le_refl _) ?_; intro w1 ho1 hg1; have hb1 : Below w.heap.size w w1 := (Below.refl _ _).grown hg1 (Nat.le_refl _) (fun k hk => by cases hk); have hop : OwnLs w1 w.heap.size (.slice (some ⟨w.heap.size, 0, none⟩) 0 (ls.length + 1)) [] := ⟨[], rfl, ho1, fun i hi => by simp at hi⟩)
    | (go_at_call 42; refine (appendCopies_any w1 w.heap.size hb1.size _ [] hop ao ls cap (HL.out.below hb1 (Nat.le_refl _)) HR.out (by simp; omega) hll hlm).mono ?_; rintro e w2 ⟨v2, rfl, ho2, hb2⟩; rw [List.nil_append] at ho2; have hb02 := hb1.trans hb2)
    | (go_at_call 41; refine (bcopied_any w2 mo m mc (HM.out.below hb02).at_ (by omega)).mono ?_; rintro e w5 ⟨v5, rfl, hf5, hb5⟩; obtain ⟨ao5, c5, hv5⟩ := hf5.val; subst hv5; have how5 := ho2.below hb5; have hfb : FreshBut w5 w.heap.size v2.ownBlock _ m := (hf5.but (fun k hk => (ho2.lt k hk).2)).mono hb02.size; have hs5 := hb5.size; have hs02 := hb02.size)
    | (at_builtin; refine app_ls (w0 := w5) rfl (.tmp 23) (.tmp 26) rfl w.heap.size _ _ how5 rfl m _ hfb rfl rfl (by omega) (by omega) ?_; intro v7 w7 ho7 hg7))
  have hb7 : Below w.heap.size w w7 := (hb02.trans (hb5.mono hs02)).trans (hg7.below_ls how5 (by omega))
  go_ret2
  exact ⟨_, rfl, ho7, hb7⟩

theorem send_any (w : World) (ao : Option Addr) (ls : List (List UInt8)) (cap : Nat) (h : Ll w ao ls cap) (hroom : ∀ p ∈ ls, p.length ≤ 140737488355328) (mo : Option Addr) (m : List UInt8) (mc : Nat) (hm : Sl w mo m mc) :
    Calls Try.prog 18 #[.slice ao ls.length cap, .slice mo m.length mc] w fun e w' => ∃ v', e = .returned (.tuple #[v', .int .i64 (sendE ls m)]) ∧ OwnLs w' w.heap.size v' (sendL ls m) ∧ Below w.heap.size w w' := by
  have hll := h.hl
  have hlm := h.hc
  have hml := hm.hl
  have hmm := hm.hc
  by_cases h1 : 64 < ls.length
  · have hE : sendE ls m = 4 := by unfold sendE; rw [if_pos h1]
    have hR : sendL ls m = [] := by unfold sendL; rw [hE, if_neg (by decide)]
    rw [hE, hR]
    have g1 : (64 : Int) < (ls.length : Int) := by omega
    clear h hroom hm
    go_enter Try.func18, Try.ntmps18
    go_wp2
    go_ret2
    exact ⟨_, rfl, OwnLs.nil _ _, Below.refl _ _⟩
  · have g1 : decide ((64 : Int) < (ls.length : Int)) = false := by simp; omega
    by_cases h2 : 65600 < m.length
    · have hE : sendE ls m = 3 := by unfold sendE; rw [if_neg h1, if_pos h2]
      have hR : sendL ls m = [] := by unfold sendL; rw [hE, if_neg (by decide)]
      rw [hE, hR]
      have g2 : (65600 : Int) < (m.length : Int) := by omega
      clear h hroom hm
      go_enter Try.func18, Try.ntmps18
      go_wp2
      go_ret2
      exact ⟨_, rfl, OwnLs.nil _ _, Below.refl _ _⟩
    · have g2 : decide ((65600 : Int) < (m.length : Int)) = false := by simp; omega
      by_cases h3 : ls.length = 64
      · have hE : sendE ls m = 9 := by unfold sendE; rw [if_neg h1, if_neg h2, if_pos h3]
        have hR : sendL ls m = [] := by unfold sendL; rw [hE, if_neg (by decide)]
        rw [hE, hR]
        have g3 : ((ls.length : Int) == 64) = true := by simp; omega
        clear h hroom hm
        go_enter Try.func18, Try.ntmps18
        go_wp2
        go_ret2
        exact ⟨_, rfl, OwnLs.nil _ _, Below.refl _ _⟩
      · have hE : sendE ls m = 0 := by unfold sendE; rw [if_neg h1, if_neg h2, if_neg h3]
        have hR : sendL ls m = ls ++ [m] := by unfold sendL; rw [if_pos hE]
        rw [hE, hR]
        exact send_good w ao ls cap h hroom mo m mc hm (by omega) (by omega)

/-- what a step's walk leaves -/
def StepPost (w : World) (E : Int) (L : List (List UInt8)) (O : List UInt8) (e : Ending) (w' : World) : Prop :=
  ∃ v' o', e = .returned (.tuple #[v', o', .int .i64 E]) ∧ OwnLs w' w.heap.size v' L ∧ Fresh w' w.heap.size o' O ∧ Below w.heap.size w w'

set_option maxHeartbeats 1000000 in
theorem step_gives (w : World) (ao : Option Addr) (ls : List (List UInt8)) (cap : Nat) (h : Ll w ao ls cap) (hroom : ∀ p ∈ ls, p.length ≤ 140737488355328) (A : Nat) (hA : A < ls.length) (h1 : ls.length ≤ 64) :
    Calls Try.prog 16 #[.slice ao ls.length cap, .int .u8 0, .int .i64 A] w (StepPost w 0 (ls.take A ++ ls.drop (A + 1)) ls[A]) := by
  have g1 : decide ((64 : Int) < (ls.length : Int)) = false := by simp; omega
  have g2 : (A : Int) < (ls.length : Int) := by omega
  have hll := h.hl
  have hlm := h.hc
  have HL : Hid (LsAt w w.heap.size ao ls) := h.at_
  have HR : Hid (∀ p ∈ ls, p.length ≤ 140737488355328) := hroom
  have HT : Hid (∀ p ∈ ls.take A, p.length ≤ 140737488355328) := fun p hp => hroom p (List.mem_of_mem_take hp)
  have HD : Hid (∀ p ∈ ls.drop (A + 1), p.length ≤ 140737488355328) := fun p hp => hroom p (List.mem_of_mem_drop hp)
  have hlA := hroom ls[A] (List.getElem_mem hA)
  have htl : (ls.take A).length = A := by simp; omega
  have hdl : (ls.drop (A + 1)).length = ls.length - (A + 1) := by simp
  rcases h.at_ with h0 | ⟨b, off, rfl, hlt, hc⟩
  · rw [h0] at hA; simp at hA
  have hLT := h.at_.take A
  have hLD : LsAt w w.heap.size (if cap = A + 1 then some ⟨b, off, none⟩ else some ⟨b, off + (A + 1), none⟩) (ls.drop (A + 1)) := by
    by_cases hcA : cap = A + 1
    · exact .inl (List.drop_of_length_le (by omega))
    · rw [if_neg hcA]
      have := h.at_.drop (A + 1)
      simpa [addr_add] using this
  obtain ⟨v, hv, hd⟩ := hc A hA
  obtain ⟨a1, c1, rfl, hsl⟩ := hd.sl (Nat.le_refl _)
  obtain ⟨p, hpe⟩ : ∃ p, p = ls[A] := ⟨_, rfl⟩
  rw [← hpe] at hv hsl hlA
  try rw [← hpe]
  obtain ⟨T, hT⟩ : ∃ T, T = ls.take A := ⟨_, rfl⟩
  obtain ⟨D, hD⟩ : ∃ D, D = ls.drop (A + 1) := ⟨_, rfl⟩
  rw [← hT] at htl hLT HT
  rw [← hD] at hdl hLD HD
  rw [← hT, ← hD]
  have HLT : Hid (LsAt w w.heap.size (some ⟨b, off, none⟩) T) := hLT
  have HLD : Hid (LsAt w w.heap.size (if cap = A + 1 then some ⟨b, off, none⟩ else some ⟨b, off + (A + 1), none⟩) D) := hLD
  have HTL : Hid (T.length = A) := htl
  have HDL : Hid (D.length = ls.length - (A + 1)) := hdl
  have HPB : Hid (BsAt w w.heap.size a1 p) := hsl.at_
  clear hc hd h hroom hpe hT hD hLT hLD htl hdl hsl
  have hac : ∀ (W w0 : World) (base : Nat) (v : Value) (L : List (List UInt8)), Below w.heap.size w W → w.heap.size ≤ base → base ≤ W.heap.size → OwnLs W base v L → L.length ≤ 64 → Calls Try.prog 42 #[v, .slice (some ⟨b, off, none⟩) A cap] W fun e w' => ∃ v', e = .returned v' ∧ OwnLs w' base v' (L ++ T) ∧ Below base W w' := by
    intro W w0 base v L hb hbs hbW ho hn
    have hx := appendCopies_any W base hbW v L ho (some ⟨b, off, none⟩) T cap (HLT.out.below hb hbs) HT.out (by rw [HTL.out]; omega) (by rw [HTL.out]; omega) hlm
    rw [HTL.out] at hx
    exact hx
  have hcap : cap - (A + 1) ≤ 9223372036854775807 := by omega
  have had : ∀ (W w0 : World) (base : Nat) (v : Value) (L : List (List UInt8)), Below w.heap.size w W → w.heap.size ≤ base → base ≤ W.heap.size → OwnLs W base v L → L.length ≤ 64 → Calls Try.prog 42 #[v, .slice (if cap = A + 1 then some ⟨b, off, none⟩ else some ⟨b, off + (A + 1), none⟩) (ls.length - (A + 1)) (cap - (A + 1))] W fun e w' => ∃ v', e = .returned v' ∧ OwnLs w' base v' (L ++ D) ∧ Below base W w' := by
    intro W w0 base v L hb hbs hbW ho hn
    have hx := appendCopies_any W base hbW v L ho _ D (cap - (A + 1)) (HLD.out.below hb hbs) HD.out (by rw [HDL.out]; omega) (by rw [HDL.out]; omega) hcap
    rw [HDL.out] at hx
    exact hx
  obtain ⟨i0, hi, hz0, hz1, hz2⟩ := info_parts Try.infoBytes
  go_enter Try.func16, Try.ntmps16
  go_wp2_with (first
    | (go_at_call 41; refine (bcopied_any w a1 p c1 HPB.out hlA).mono ?_; rintro e w1 ⟨v1, rfl, hf1, hb1⟩)
    | (at_make; refine wpList_make_own _ rfl (.const (.int .i64 0)) (.tmp 40) 36 rfl w1.heap.size 22 i0 _ 1 Try.underlying36 hi hz0 hz1 .i64 .i64 _ (A + ls.length - (A + 1)) rfl rfl (by first | rfl | omega | (simp; omega)) (by rw [hz2]; omega) (by unfold maxLen; omega) (Nat.le_refl _) ?_; intro w2 ho2 hg2; have hb2 : Below w1.heap.size w1 w2 := (Below.refl _ _).grown hg2 (Nat.le_refl _) (fun k hk => by cases hk); have hop : OwnLs w2 w1.heap.size (.slice (some ⟨w1.heap.size, 0, none⟩) 0 (A + ls.length - (A + 1))) [] := ⟨[], rfl, ho2, fun i hi => by simp at hi⟩)
    | (go_at_call 42; (fail_if_success have hq := hmk); (refine (hac w2 w2 w1.heap.size _ [] (Below.trans hb1 (hb2.mono hb1.size)) hb1.size hb2.size hop (by simp)).mono ?_); rintro e w3 ⟨v3, rfl, ho3, hb3⟩; rw [List.nil_append] at ho3; have hb03 := hb2.trans hb3; have hmk := True.intro)
    | (go_at_call 42; have hq := hmk; (refine (had w3 w3 w1.heap.size _ T (Below.trans hb1 (hb03.mono hb1.size)) hb1.size hb03.size ho3 (by rw [HTL.out]; omega)).mono ?_); rintro e w4 ⟨v4, rfl, ho4, hb4⟩; have hb04 := hb03.trans hb4))
  all_goals
    go_ret3
    exact ⟨_, _, rfl, ho4.mono hb1.size, (hf1.below hb04), Below.trans hb1 (hb04.mono hb1.size)⟩

set_option maxHeartbeats 1000000 in
theorem step_twice (w : World) (ao : Option Addr) (ls : List (List UInt8)) (cap : Nat) (h : Ll w ao ls cap) (hroom : ∀ p ∈ ls, p.length ≤ 140737488355328) (A : Nat) (hA : A < ls.length) (h1 : ls.length ≤ 64) :
    Calls Try.prog 16 #[.slice ao ls.length cap, .int .u8 1, .int .i64 A] w (StepPost w 0 (ls.take A ++ ls.drop (A)) ls[A]) := by
  have g1 : decide ((64 : Int) < (ls.length : Int)) = false := by simp; omega
  have g2 : (A : Int) < (ls.length : Int) := by omega
  have hll := h.hl
  have hlm := h.hc
  have HL : Hid (LsAt w w.heap.size ao ls) := h.at_
  have HR : Hid (∀ p ∈ ls, p.length ≤ 140737488355328) := hroom
  have HT : Hid (∀ p ∈ ls.take A, p.length ≤ 140737488355328) := fun p hp => hroom p (List.mem_of_mem_take hp)
  have HD : Hid (∀ p ∈ ls.drop (A), p.length ≤ 140737488355328) := fun p hp => hroom p (List.mem_of_mem_drop hp)
  have hlA := hroom ls[A] (List.getElem_mem hA)
  have htl : (ls.take A).length = A := by simp; omega
  have hdl : (ls.drop (A)).length = ls.length - (A) := by simp
  rcases h.at_ with h0 | ⟨b, off, rfl, hlt, hc⟩
  · rw [h0] at hA; simp at hA
  have hLT := h.at_.take A
  have hLD : LsAt w w.heap.size (some ⟨b, off + A, none⟩) (ls.drop (A)) := by
    by_cases hcA : cap = A
    · exact .inl (List.drop_of_length_le (by omega))
    · skip
      have := h.at_.drop (A)
      simpa [addr_add] using this
  obtain ⟨v, hv, hd⟩ := hc A hA
  obtain ⟨a1, c1, rfl, hsl⟩ := hd.sl (Nat.le_refl _)
  obtain ⟨p, hpe⟩ : ∃ p, p = ls[A] := ⟨_, rfl⟩
  rw [← hpe] at hv hsl hlA
  try rw [← hpe]
  obtain ⟨T, hT⟩ : ∃ T, T = ls.take A := ⟨_, rfl⟩
  obtain ⟨D, hD⟩ : ∃ D, D = ls.drop (A) := ⟨_, rfl⟩
  rw [← hT] at htl hLT HT
  rw [← hD] at hdl hLD HD
  rw [← hT, ← hD]
  have HLT : Hid (LsAt w w.heap.size (some ⟨b, off, none⟩) T) := hLT
  have HLD : Hid (LsAt w w.heap.size (some ⟨b, off + A, none⟩) D) := hLD
  have HTL : Hid (T.length = A) := htl
  have HDL : Hid (D.length = ls.length - (A)) := hdl
  have HPB : Hid (BsAt w w.heap.size a1 p) := hsl.at_
  clear hc hd h hroom hpe hT hD hLT hLD htl hdl hsl
  have hac : ∀ (W w0 : World) (base : Nat) (v : Value) (L : List (List UInt8)), Below w.heap.size w W → w.heap.size ≤ base → base ≤ W.heap.size → OwnLs W base v L → L.length ≤ 64 → Calls Try.prog 42 #[v, .slice (some ⟨b, off, none⟩) A cap] W fun e w' => ∃ v', e = .returned v' ∧ OwnLs w' base v' (L ++ T) ∧ Below base W w' := by
    intro W w0 base v L hb hbs hbW ho hn
    have hx := appendCopies_any W base hbW v L ho (some ⟨b, off, none⟩) T cap (HLT.out.below hb hbs) HT.out (by rw [HTL.out]; omega) (by rw [HTL.out]; omega) hlm
    rw [HTL.out] at hx
    exact hx
  have hcap : cap - (A) ≤ 9223372036854775807 := by omega
  have had : ∀ (W w0 : World) (base : Nat) (v : Value) (L : List (List UInt8)), Below w.heap.size w W → w.heap.size ≤ base → base ≤ W.heap.size → OwnLs W base v L → L.length ≤ 64 → Calls Try.prog 42 #[v, .slice (some ⟨b, off + A, none⟩) (ls.length - (A)) (cap - (A))] W fun e w' => ∃ v', e = .returned v' ∧ OwnLs w' base v' (L ++ D) ∧ Below base W w' := by
    intro W w0 base v L hb hbs hbW ho hn
    have hx := appendCopies_any W base hbW v L ho _ D (cap - (A)) (HLD.out.below hb hbs) HD.out (by rw [HDL.out]; omega) (by rw [HDL.out]; omega) hcap
    rw [HDL.out] at hx
    exact hx
  obtain ⟨i0, hi, hz0, hz1, hz2⟩ := info_parts Try.infoBytes
  go_enter Try.func16, Try.ntmps16
  go_wp2_with (first
    | (go_at_call 41; refine (bcopied_any w a1 p c1 HPB.out hlA).mono ?_; rintro e w1 ⟨v1, rfl, hf1, hb1⟩)
    | (at_make; refine wpList_make_own _ rfl (.const (.int .i64 0)) (.tmp 40) 36 rfl w1.heap.size 22 i0 _ 1 Try.underlying36 hi hz0 hz1 .i64 .i64 _ (ls.length) rfl rfl (by first | rfl | omega | (simp; omega)) (by rw [hz2]; omega) (by unfold maxLen; omega) (Nat.le_refl _) ?_; intro w2 ho2 hg2; have hb2 : Below w1.heap.size w1 w2 := (Below.refl _ _).grown hg2 (Nat.le_refl _) (fun k hk => by cases hk); have hop : OwnLs w2 w1.heap.size (.slice (some ⟨w1.heap.size, 0, none⟩) 0 (ls.length)) [] := ⟨[], rfl, ho2, fun i hi => by simp at hi⟩)
    | (go_at_call 42; (fail_if_success have hq := hmk); (refine (hac w2 w2 w1.heap.size _ [] (Below.trans hb1 (hb2.mono hb1.size)) hb1.size hb2.size hop (by simp)).mono ?_); rintro e w3 ⟨v3, rfl, ho3, hb3⟩; rw [List.nil_append] at ho3; have hb03 := hb2.trans hb3; have hmk := True.intro)
    | (go_at_call 42; have hq := hmk; (refine (had w3 w3 w1.heap.size _ T (Below.trans hb1 (hb03.mono hb1.size)) hb1.size hb03.size ho3 (by rw [HTL.out]; omega)).mono ?_); rintro e w4 ⟨v4, rfl, ho4, hb4⟩; have hb04 := hb03.trans hb4))
  all_goals
    go_ret3
    exact ⟨_, _, rfl, ho4.mono hb1.size, (hf1.below hb04), Below.trans hb1 (hb04.mono hb1.size)⟩

set_option maxHeartbeats 1000000 in
theorem step_loses (w : World) (ao : Option Addr) (ls : List (List UInt8)) (cap : Nat) (h : Ll w ao ls cap) (hroom : ∀ p ∈ ls, p.length ≤ 140737488355328) (A : Nat) (hA : A < ls.length) (h1 : ls.length ≤ 64) :
    Calls Try.prog 16 #[.slice ao ls.length cap, .int .u8 2, .int .i64 A] w (StepPost w 0 (ls.take A ++ ls.drop (A + 1)) []) := by
  have g1 : decide ((64 : Int) < (ls.length : Int)) = false := by simp; omega
  have g2 : (A : Int) < (ls.length : Int) := by omega
  have hll := h.hl
  have hlm := h.hc
  have HL : Hid (LsAt w w.heap.size ao ls) := h.at_
  have HR : Hid (∀ p ∈ ls, p.length ≤ 140737488355328) := hroom
  have HT : Hid (∀ p ∈ ls.take A, p.length ≤ 140737488355328) := fun p hp => hroom p (List.mem_of_mem_take hp)
  have HD : Hid (∀ p ∈ ls.drop (A + 1), p.length ≤ 140737488355328) := fun p hp => hroom p (List.mem_of_mem_drop hp)
  have hlA := hroom ls[A] (List.getElem_mem hA)
  have htl : (ls.take A).length = A := by simp; omega
  have hdl : (ls.drop (A + 1)).length = ls.length - (A + 1) := by simp
  rcases h.at_ with h0 | ⟨b, off, rfl, hlt, hc⟩
  · rw [h0] at hA; simp at hA
  have hLT := h.at_.take A
  have hLD : LsAt w w.heap.size (if cap = A + 1 then some ⟨b, off, none⟩ else some ⟨b, off + (A + 1), none⟩) (ls.drop (A + 1)) := by
    by_cases hcA : cap = A + 1
    · exact .inl (List.drop_of_length_le (by omega))
    · rw [if_neg hcA]
      have := h.at_.drop (A + 1)
      simpa [addr_add] using this
  obtain ⟨v, hv, hd⟩ := hc A hA
  obtain ⟨a1, c1, rfl, hsl⟩ := hd.sl (Nat.le_refl _)
  obtain ⟨p, hpe⟩ : ∃ p, p = ls[A] := ⟨_, rfl⟩
  rw [← hpe] at hv hsl hlA
  try rw [← hpe]
  obtain ⟨T, hT⟩ : ∃ T, T = ls.take A := ⟨_, rfl⟩
  obtain ⟨D, hD⟩ : ∃ D, D = ls.drop (A + 1) := ⟨_, rfl⟩
  rw [← hT] at htl hLT HT
  rw [← hD] at hdl hLD HD
  rw [← hT, ← hD]
  have HLT : Hid (LsAt w w.heap.size (some ⟨b, off, none⟩) T) := hLT
  have HLD : Hid (LsAt w w.heap.size (if cap = A + 1 then some ⟨b, off, none⟩ else some ⟨b, off + (A + 1), none⟩) D) := hLD
  have HTL : Hid (T.length = A) := htl
  have HDL : Hid (D.length = ls.length - (A + 1)) := hdl
  have HPB : Hid (BsAt w w.heap.size a1 p) := hsl.at_
  clear hc hd h hroom hpe hT hD hLT hLD htl hdl hsl
  have hac : ∀ (W w0 : World) (base : Nat) (v : Value) (L : List (List UInt8)), Below w.heap.size w W → w.heap.size ≤ base → base ≤ W.heap.size → OwnLs W base v L → L.length ≤ 64 → Calls Try.prog 42 #[v, .slice (some ⟨b, off, none⟩) A cap] W fun e w' => ∃ v', e = .returned v' ∧ OwnLs w' base v' (L ++ T) ∧ Below base W w' := by
    intro W w0 base v L hb hbs hbW ho hn
    have hx := appendCopies_any W base hbW v L ho (some ⟨b, off, none⟩) T cap (HLT.out.below hb hbs) HT.out (by rw [HTL.out]; omega) (by rw [HTL.out]; omega) hlm
    rw [HTL.out] at hx
    exact hx
  have hcap : cap - (A + 1) ≤ 9223372036854775807 := by omega
  have had : ∀ (W w0 : World) (base : Nat) (v : Value) (L : List (List UInt8)), Below w.heap.size w W → w.heap.size ≤ base → base ≤ W.heap.size → OwnLs W base v L → L.length ≤ 64 → Calls Try.prog 42 #[v, .slice (if cap = A + 1 then some ⟨b, off, none⟩ else some ⟨b, off + (A + 1), none⟩) (ls.length - (A + 1)) (cap - (A + 1))] W fun e w' => ∃ v', e = .returned v' ∧ OwnLs w' base v' (L ++ D) ∧ Below base W w' := by
    intro W w0 base v L hb hbs hbW ho hn
    have hx := appendCopies_any W base hbW v L ho _ D (cap - (A + 1)) (HLD.out.below hb hbs) HD.out (by rw [HDL.out]; omega) (by rw [HDL.out]; omega) hcap
    rw [HDL.out] at hx
    exact hx
  obtain ⟨i0, hi, hz0, hz1, hz2⟩ := info_parts Try.infoBytes
  have hb1 : Below w.heap.size w w := Below.refl _ _
  go_enter Try.func16, Try.ntmps16
  go_wp2_with (first
    | (at_make; refine wpList_make_own _ rfl (.const (.int .i64 0)) (.tmp 40) 36 rfl w.heap.size 22 i0 _ 1 Try.underlying36 hi hz0 hz1 .i64 .i64 _ (A + ls.length - (A + 1)) rfl rfl (by first | rfl | omega | (simp; omega)) (by rw [hz2]; omega) (by unfold maxLen; omega) (Nat.le_refl _) ?_; intro w2 ho2 hg2; have hb2 : Below w.heap.size w w2 := (Below.refl _ _).grown hg2 (Nat.le_refl _) (fun k hk => by cases hk); have hop : OwnLs w2 w.heap.size (.slice (some ⟨w.heap.size, 0, none⟩) 0 (A + ls.length - (A + 1))) [] := ⟨[], rfl, ho2, fun i hi => by simp at hi⟩)
    | (go_at_call 42; (fail_if_success have hq := hmk); (refine (hac w2 w2 w.heap.size _ [] (Below.trans hb1 (hb2.mono hb1.size)) hb1.size hb2.size hop (by simp)).mono ?_); rintro e w3 ⟨v3, rfl, ho3, hb3⟩; rw [List.nil_append] at ho3; have hb03 := hb2.trans hb3; have hmk := True.intro)
    | (go_at_call 42; have hq := hmk; (refine (had w3 w3 w.heap.size _ T (Below.trans hb1 (hb03.mono hb1.size)) hb1.size hb03.size ho3 (by rw [HTL.out]; omega)).mono ?_); rintro e w4 ⟨v4, rfl, ho4, hb4⟩; have hb04 := hb03.trans hb4))
  all_goals
    go_ret3
    exact ⟨_, _, rfl, ho4.mono hb1.size, Fresh.nil _ _, Below.trans hb1 (hb04.mono hb1.size)⟩

theorem step_any (w : World) (ao : Option Addr) (ls : List (List UInt8)) (cap : Nat) (h : Ll w ao ls cap) (hroom : ∀ p ∈ ls, p.length ≤ 140737488355328) (K : Nat) (at_ : Int) :
    Calls Try.prog 16 #[.slice ao ls.length cap, .int .u8 K, .int .i64 at_] w (StepPost w (stepE ls.length K at_) (stepL ls K at_) (stepO ls K at_)) := by
  have hll := h.hl
  have hlm := h.hc
  by_cases h1 : 64 < ls.length
  · have hE : stepE ls.length K at_ = 4 := by unfold stepE; rw [if_pos h1]
    have hR : stepL ls K at_ = [] := by unfold stepL; rw [hE, if_neg (by decide)]
    have hO : stepO ls K at_ = [] := by unfold stepO; rw [hE, if_neg (by decide)]
    rw [hE, hR, hO]
    have g1 : (64 : Int) < (ls.length : Int) := by omega
    clear h hroom
    go_enter Try.func16, Try.ntmps16
    go_wp2
    go_ret3
    exact ⟨_, _, rfl, OwnLs.nil _ _, Fresh.nil _ _, Below.refl _ _⟩
  · have g1 : decide ((64 : Int) < (ls.length : Int)) = false := by simp; omega
    by_cases h2 : 2 < K
    · have hE : stepE ls.length K at_ = 2 := by unfold stepE; rw [if_neg h1, if_pos h2]
      have hR : stepL ls K at_ = [] := by unfold stepL; rw [hE, if_neg (by decide)]
      have hO : stepO ls K at_ = [] := by unfold stepO; rw [hE, if_neg (by decide)]
      rw [hE, hR, hO]
      have g2 : (2 : Int) < (K : Int) := by omega
      clear h hroom
      go_enter Try.func16, Try.ntmps16
      go_wp2
      go_ret3
      exact ⟨_, _, rfl, OwnLs.nil _ _, Fresh.nil _ _, Below.refl _ _⟩
    · have g2 : decide ((2 : Int) < (K : Int)) = false := by simp; omega
      by_cases h3 : inL ls.length at_ = true
      · have hE : stepE ls.length K at_ = 0 := by unfold stepE; rw [if_neg h1, if_neg h2, if_neg (by rw [h3]; decide)]
        have h4 : 0 ≤ at_ ∧ at_ < (ls.length : Int) := by simpa [inL] using h3
        obtain ⟨A, rfl⟩ : ∃ A : Nat, at_ = (A : Int) := ⟨at_.toNat, by omega⟩
        have hA : A < ls.length := by omega
        have hgd : ls.getD A [] = ls[A] := by simp [hA]
        have hK : K = 0 ∨ K = 1 ∨ K = 2 := by omega
        rcases hK with rfl | rfl | rfl
        · have hR : stepL ls 0 A = ls.take A ++ ls.drop (A + 1) := by unfold stepL; rw [if_pos hE, if_neg (by decide)]; simp
          have hO : stepO ls 0 A = ls[A] := by unfold stepO; rw [if_pos hE, if_neg (by decide), Int.toNat_natCast, hgd]
          rw [hE, hR, hO]
          exact step_gives w ao ls cap h hroom A hA (by omega)
        · have hR : stepL ls 1 A = ls := by unfold stepL; rw [if_pos hE, if_pos rfl]
          have hO : stepO ls 1 A = ls[A] := by unfold stepO; rw [if_pos hE, if_neg (by decide), Int.toNat_natCast, hgd]
          have hb := step_twice w ao ls cap h hroom A hA (by omega)
          rw [List.take_append_drop] at hb
          rw [hE, hR, hO]
          exact hb
        · have hR : stepL ls 2 A = ls.take A ++ ls.drop (A + 1) := by unfold stepL; rw [if_pos hE, if_neg (by decide)]; simp
          have hO : stepO ls 2 A = [] := by unfold stepO; rw [if_pos hE, if_pos rfl]
          rw [hE, hR, hO]
          exact step_loses w ao ls cap h hroom A hA (by omega)
      · have h3' : inL ls.length at_ = false := by simpa using h3
        have hE : stepE ls.length K at_ = 6 := by unfold stepE; rw [if_neg h1, if_neg h2, if_pos h3']
        have hR : stepL ls K at_ = [] := by unfold stepL; rw [hE, if_neg (by decide)]
        have hO : stepO ls K at_ = [] := by unfold stepO; rw [hE, if_neg (by decide)]
        rw [hE, hR, hO]
        clear h hroom
        by_cases h5 : at_ < 0
        · go_enter Try.func16, Try.ntmps16
          go_wp2
          go_ret3
          exact ⟨_, _, rfl, OwnLs.nil _ _, Fresh.nil _ _, Below.refl _ _⟩
        · have g5 : decide (at_ < 0) = false := by simp; omega
          have g6 : (ls.length : Int) ≤ at_ := by simp [inL] at h3'; omega
          clear h3 h3'
          go_enter Try.func16, Try.ntmps16
          go_wp2
          go_ret3
          exact ⟨_, _, rfl, OwnLs.nil _ _, Fresh.nil _ _, Below.refl _ _⟩
end Go.Proofs.Ytgfhjkphdmkmoac
