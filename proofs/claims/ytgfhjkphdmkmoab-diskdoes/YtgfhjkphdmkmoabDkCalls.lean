/-
  Contracts of the disk's small functions: blocks, hasBlock, Check, checkPut, mayCut, copied, block, Same.
-/
import Derived.Test.YtgfhjkphdmkmoabDkMem
import Derived.Test.YtgfhjkphdmkmoabDkPure
namespace Go.Proofs.Ytgfhjkphdmkmoab
open Go.RowKit
set_option linter.unusedSimpArgs false
set_option linter.unusedVariables false
set_option maxRecDepth 100000

theorem blocks_any (ao : Option Addr) (L cap : Nat) (w : World) (hL : L ≤ 9223372036854775807) :
    Calls Try.prog 57 #[.agg #[.slice ao L cap]] w fun e w' => e = .returned (.int .i64 ((L / 64 : Nat) : Int)) ∧ Below w.heap.size w w' := by
  go_enter Try.func57, Try.ntmps57
  go_wp2
  go_ret
  exact ⟨rfl, (Below.refl _ _).alloc (Nat.le_refl _) _⟩

theorem hasBlock_any (ao : Option Addr) (L cap : Nat) (n : Int) (w : World) (hL : L ≤ 9223372036854775807) :
    Calls Try.prog 58 #[.agg #[.slice ao L cap], .int .i64 n] w fun e w' => e = .returned (.bool (inD L n)) ∧ Below w.heap.size w w' := by
  by_cases h0 : 0 ≤ n
  · by_cases h1 : n < ((L / 64 : Nat) : Int)
    all_goals
      go_enter Try.func58, Try.ntmps58
      go_wp2_with (go_at_call 57; refine (blocks_any ao L cap _ hL).mono ?_; rintro e w1 ⟨rfl, hb1⟩)
      go_ret
      exact ⟨by simp [inD, *], below_alloc hb1⟩
  · go_enter Try.func58, Try.ntmps58
    go_wp2
    go_ret
    exact ⟨by simp [inD]; omega, (Below.refl _ _).alloc (Nat.le_refl _) _⟩

theorem mayCut_any (ao : Option Addr) (L cap : Nat) (n : Int) (w : World) :
    Calls Try.prog 61 #[.slice ao L cap, .int .i64 n] w fun e w' => e = .returned (.bool (cutOk L n)) ∧ w = w' := by
  by_cases h0 : 0 ≤ n
  all_goals
    by_cases h1 : n ≤ (L : Int)
    all_goals
      go_enter Try.func61, Try.ntmps61
      go_wp2
      go_ret
      exact ⟨by simp [cutOk, *], rfl⟩

theorem check_any (ao : Option Addr) (L cap : Nat) (w : World) (hL : L ≤ 9223372036854775807) :
    Calls Try.prog 29 #[.agg #[.slice ao L cap]] w fun e w' => e = .returned (.int .i64 (dE L)) ∧ Below w.heap.size w w' := by
  by_cases h1 : ((L / 64 : Nat) : Int) < 1
  · have h2 : dE L = 20 := by unfold dE dOk; rw [if_neg]; simp; omega
    rw [h2]
    go_enter Try.func29, Try.ntmps29
    go_wp2_with (go_at_call 57; refine (blocks_any ao L cap _ hL).mono ?_; rintro e w1 ⟨rfl, hb1⟩; have hc1 := below_cells hb1)
    go_ret
    exact ⟨rfl, below_alloc hb1⟩
  · by_cases h3 : (4096 : Int) < ((L / 64 : Nat) : Int)
    · have h2 : dE L = 20 := by unfold dE dOk; rw [if_neg]; simp; omega
      rw [h2]
      go_enter Try.func29, Try.ntmps29
      go_wp2_with (go_at_call 57; refine (blocks_any ao L cap _ hL).mono ?_; rintro e w1 ⟨rfl, hb1⟩; have hc1 := below_cells hb1)
      go_ret
      exact ⟨rfl, below_alloc hb1⟩
    · by_cases h4 : L % 64 = 0
      · have h5 : ((L : Int) % 64 != 0) = false := by simp; omega
        have h2 : dE L = 0 := by unfold dE dOk; rw [if_pos]; simp; omega
        rw [h2]
        go_enter Try.func29, Try.ntmps29
        go_wp2_with (go_at_call 57; refine (blocks_any ao L cap _ hL).mono ?_; rintro e w1 ⟨rfl, hb1⟩; have hc1 := below_cells hb1)
        go_ret
        exact ⟨rfl, below_alloc hb1⟩
      · have h5 : ((L : Int) % 64 != 0) = true := by simp; omega
        have h2 : dE L = 20 := by unfold dE dOk; rw [if_neg]; simp; omega
        rw [h2]
        go_enter Try.func29, Try.ntmps29
        go_wp2_with (go_at_call 57; refine (blocks_any ao L cap _ hL).mono ?_; rintro e w1 ⟨rfl, hb1⟩; have hc1 := below_cells hb1)
        go_ret
        exact ⟨rfl, below_alloc hb1⟩

theorem checkPut_any (ao : Option Addr) (L cap : Nat) (n : Int) (do_ : Option Addr) (dl dc : Nat) (p : Pt) (hp : p.n = n) (hd : p.data.length = dl) (w : World) (hL : L ≤ 9223372036854775807) :
    Calls Try.prog 62 #[.agg #[.slice ao L cap], .agg #[.int .i64 n, .slice do_ dl dc]] w fun e w' => e = .returned (.int .i64 (ptE L p)) ∧ Below w.heap.size w w' := by
  by_cases h1 : inD L n = true
  · by_cases h2 : dl = 64
    · have hE : ptE L p = 0 := by unfold ptE; rw [hp, hd]; simp [h1, h2]
      subst h2
      rw [hE]
      clear hp hd hE
      go_enter Try.func62, Try.ntmps62
      go_wp2_with (go_at_call 58; refine (hasBlock_any ao L cap n _ hL).mono ?_; rintro e w1 ⟨rfl, hb1⟩; have hc1 := below_cells hb1)
      go_ret
      exact ⟨rfl, below_alloc (below_alloc hb1)⟩
    · have hE : ptE L p = 3 := by unfold ptE; rw [hp, hd]; simp [h1, h2]
      have h3 : ((dl : Int) != 64) = true := by simp; omega
      rw [hE]
      clear hp hd hE
      go_enter Try.func62, Try.ntmps62
      go_wp2_with (go_at_call 58; refine (hasBlock_any ao L cap n _ hL).mono ?_; rintro e w1 ⟨rfl, hb1⟩; have hc1 := below_cells hb1)
      go_ret
      exact ⟨rfl, below_alloc (below_alloc hb1)⟩
  · have h1' : inD L n = false := by simpa using h1
    have hE : ptE L p = 2 := by unfold ptE; rw [hp]; simp [h1']
    rw [hE]
    clear hp hd hE
    go_enter Try.func62, Try.ntmps62
    go_wp2_with (go_at_call 58; refine (hasBlock_any ao L cap n _ hL).mono ?_; rintro e w1 ⟨rfl, hb1⟩; have hc1 := below_cells hb1)
    go_ret
    exact ⟨rfl, below_alloc (below_alloc hb1)⟩

theorem copied_any (w : World) (B : Nat) (ao : Option Addr) (l : List UInt8) (cap : Nat) (hb : BsAt w B ao l) (h3 : ao = none → cap = 0) (hl : l.length ≤ 140737488355328) :
    Calls Try.prog 59 #[.slice ao l.length cap] w fun e w' => ∃ v', e = .returned v' ∧ Fresh w' w.heap.size v' l ∧ Below w.heap.size w w' := by
  have HN : Hid (ao = none → cap = 0) := h3
  clear h3
  go_enter Try.func59, Try.ntmps59
  go_wp2_with (at_builtin; refine app_bytes rfl (.const (.slice none 0 0)) (.tmp 4) rfl w.heap.size _ [] (Own.nil _ _) rfl ao cap l _ rfl rfl B HN.out hb (by simp; omega) (Nat.le_refl _) ?_; intro v2 w2 ho2 hg2; rw [List.nil_append] at ho2; obtain ⟨ao2, cap2, hv2, hlc2, hcm2, hnl2, hrow⟩ := ho2.fresh; rw [hv2]; have HR : Hid (l = [] ∨ ∃ g cur, ao2 = some ⟨g, 0, none⟩ ∧ w.heap.size ≤ g ∧ w2.heap[g]? = some (.cells cur 5 (0, 0)) ∧ l.length ≤ cur.size ∧ cur.toList.take l.length = l.map bcell) := hrow; have HN2 : Hid (ao2 = none → cap2 = 0) := hnl2; clear hrow hnl2 hv2)
  go_ret
  have hz : ao2 = none → l.length = 0 := fun e => by have := HN2.out e; omega
  exact ⟨_, rfl, ⟨ao2, l.length, rfl, Nat.le_refl _, by omega, hz, HR.out⟩, hg2.below_nil⟩

/-- a block's bytes, as the disk's own -/
theorem block_any (b off L cap : Nat) (n : Nat) (w : World) (hn : 64 * n + 64 ≤ L) (hlc : L ≤ cap) (hcm : cap ≤ 9223372036854775807) :
    Calls Try.prog 60 #[.agg #[.slice (some ⟨b, off, none⟩) L cap], .int .i64 n] w fun e w' => e = .returned (.slice (some ⟨b, off + 64 * n, none⟩) 64 64) ∧ Below w.heap.size w w' := by
  go_enter Try.func60, Try.ntmps60
  go_wp2
  go_ret
  refine ⟨?_, (Below.refl _ _).alloc (Nat.le_refl _) _⟩
  show Ending.returned (.slice (some ⟨b, off + n * 64, none⟩) ((n + 1) * 64 - n * 64) ((n + 1) * 64 - n * 64)) = _
  rw [show (n + 1) * 64 - n * 64 = 64 by omega, Nat.mul_comm n 64]

theorem equal_any (w : World) (B B' : Nat) (ao ao' : Option Addr) (l l' : List UInt8) (cap cap' : Nat) (hb : BsAt w B ao l) (hb' : BsAt w B' ao' l') :
    Calls Try.prog 63 #[.slice ao l.length cap, .slice ao' l'.length cap'] w fun e w' => e = .returned (.bool (l == l')) ∧ w = w' := by
  have c1 := conv_bytes w B ao l cap hb
  have c2 := conv_bytes w B' ao' l' cap' hb'
  go_enter Try.func63, Try.ntmps63
  go_wp2
  go_ret
  exact ⟨rfl, rfl⟩

theorem dsame_any (w : World) (B B' : Nat) (ao ao' : Option Addr) (l l' : List UInt8) (cap cap' : Nat) (hb : BsAt w B ao l) (hb' : BsAt w B' ao' l') (hB : B ≤ w.heap.size) (hB' : B' ≤ w.heap.size) :
    Calls Try.prog 30 #[.agg #[.slice ao l.length cap], .agg #[.slice ao' l'.length cap']] w fun e w' => e = .returned (.bool (l == l')) ∧ Below w.heap.size w w' := by
  have hc := fun W (h : Below w.heap.size w W) => equal_any W B B' ao ao' l l' cap cap' (hb.below (h.mono hB) (Nat.le_refl _)) (hb'.below (h.mono hB') (Nat.le_refl _))
  have ha : ∀ o o', Below w.heap.size w ((w.alloc o).alloc o') := fun o o' => ((Below.refl _ _).alloc (Nat.le_refl _) _).alloc (by simp) _
  have HC : Hid (∀ W, Below w.heap.size w W → Calls Try.prog 63 #[.slice ao l.length cap, .slice ao' l'.length cap'] W fun e w' => e = .returned (.bool (l == l')) ∧ W = w') := hc
  clear hc hb hb'
  go_enter Try.func30, Try.ntmps30
  go_wp2_with (go_at_call 63; refine (HC.out _ (ha _ _)).mono ?_; rintro e w1 ⟨rfl, rfl⟩)
  go_ret
  exact ⟨rfl, ha _ _⟩
end Go.Proofs.Ytgfhjkphdmkmoab
