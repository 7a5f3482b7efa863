/-
  Contracts of New and Read, and of what the statements make: a block of one byte, the chapter's writes.
-/
import Derived.Test.YtgfhjkphdmkmoabDkLeft
namespace Go.Proofs.Ytgfhjkphdmkmoab
open Go.RowKit
set_option linter.unusedSimpArgs false
set_option linter.unusedVariables false
set_option maxRecDepth 100000

theorem set_rep (k : Nat) (hk : k < 64) (x : UInt8) : (List.replicate k x ++ List.replicate (64 - k) 0).set k x = List.replicate (k + 1) x ++ List.replicate (64 - (k + 1)) 0 := by
  have e : List.replicate (64 - k) (0 : UInt8) = 0 :: List.replicate (64 - (k + 1)) 0 := by rw [show 64 - k = (64 - (k + 1)) + 1 by omega]; rfl
  rw [e, List.set_append_right _ _ (by simp), List.replicate_succ']
  simp
/-- a block of the byte x -/
def blk (x : UInt8) : List UInt8 := List.replicate 64 x
theorem blk_len (x : UInt8) : (blk x).length = 64 := by simp [blk]

theorem all_any (x : UInt8) (w : World) :
    Calls Try.prog 22 #[.int .u8 (x.toNat : Int)] w fun e w' => e = .returned (.slice (some ⟨w.heap.size, 0, none⟩) 64 64) ∧ Own w' w.heap.size (.slice (some ⟨w.heap.size, 0, none⟩) 64 64) (blk x) ∧ Below w.heap.size w w' := by
  obtain ⟨i0, hi, hz0, hz1, hz2⟩ := info_parts Try.infoByte
  obtain ⟨X, hX⟩ : ∃ X : Int, X = (x.toNat : Int) := ⟨_, rfl⟩
  rw [← hX]
  have HX : Hid (X = (x.toNat : Int)) := hX
  clear hX
  go_enter Try.func22, Try.ntmps22
  go_wp2_with (refine wpList_make_full _ rfl (.const (.int .i64 64)) (.const (.int .i64 64)) 23 rfl w.heap.size 5 i0 _ 1 Try.underlying23 hi hz0 hz1 .i64 .i64 _ _ 64 rfl rfl (by rfl) (by rfl) (by rw [hz2]; omega) (by unfold maxLen; omega) (Nat.le_refl _) ?_; intro w1 ho1 hg1)
  rw [made_zero] at ho1
  have hb1 : Below w.heap.size w w1 := (Below.refl _ _).grown hg1 (Nat.le_refl _) (fun k hk => by cases hk)
  clear hg1 hz0 hz1 hz2 hi i0
  go_loopw [4] (fun i wr => ∃ k : Nat, k ≤ 64 ∧ i = .int .i64 k ∧ wr.ownsRow w.heap.size 5 1 (.slice (some ⟨w.heap.size, 0, none⟩) 64 64) 64 ((List.replicate k x ++ List.replicate (64 - k) 0).map bcell) ∧ Below w.heap.size w wr) (fun i _ => 64 - (intOf i).toNat)
  case atStart => exact ⟨0, by omega, rfl, by simpa using ho1, hb1⟩
  case round =>
    obtain ⟨k, hk, rfl, ho, hb⟩ := hrel
    clear ho1 hb1
    by_cases hlt : k < 64
    · have hlt2 : (k : Int) < 64 := by omega
      have hc := World.ownsRow.cellAt ho k (by omega)
      have hfr := World.ownsRow.frozenAt ho k
      obtain ⟨old, hold⟩ : ∃ old, ((List.replicate k x ++ List.replicate (64 - k) 0).map bcell)[k]? = some old := ⟨_, List.getElem?_eq_getElem (by simp; omega)⟩
      rw [hold] at hc
      obtain ⟨s1, s2⟩ := World.ownsRow.stored ho k (bcell x)
      rw [← List.map_set, set_rep k hlt x] at s1
      have hb' := hb.grown s2 hb.size (fun j hj => by cases hj; exact Nat.le_refl _)
      unfold bcell at s1 s2 hb'
      rw [← HX.out] at s1 hb'
      have S1 : Hid ((wr.setCell ⟨w.heap.size, k, none⟩ (.int .u8 X)).ownsRow w.heap.size 5 1 (.slice (some ⟨w.heap.size, 0, none⟩) 64 64) 64 ((List.replicate (k + 1) x ++ List.replicate (64 - (k + 1)) 0).map bcell)) := s1
      clear s1 s2 hold
      go_wp2
      go_roundw
      case rel => exact ⟨k + 1, by omega, by go_num, S1.out, hb'⟩
      case measure => simp [intOf]; omega
    · have hke : k = 64 := by omega
      subst hke
      go_wp2
      go_ret
      exact ⟨rfl, by simpa [Own, blk] using ho, hb⟩

theorem three_any (w : World) :
    Calls Try.prog 25 #[] w fun e w' => ∃ v, e = .returned v ∧ OwnPs w' w.heap.size v [⟨0, blk 1⟩, ⟨0, blk 2⟩, ⟨1, blk 1⟩] ∧ Below w.heap.size w w' := by
  have h1 := fun W => all_any 1 W
  have h2 := fun W => all_any 2 W
  go_enter Try.func25, Try.ntmps25
  go_wp2_with (first
    | (go_at_call 22; refine (h1 w2).mono ?_; rintro e w3 ⟨rfl, ho3, hb3⟩)
    | (go_at_call 22; refine (h2 w1).mono ?_; rintro e w2 ⟨rfl, ho2, hb2⟩)
    | (go_at_call 22; refine (h1 w).mono ?_; rintro e w1 ⟨rfl, ho1, hb1⟩))
  go_ret
  have hs1 := hb1.size
  have hs2 := hb2.size
  have hs3 := hb3.size
  have hb4 : ∀ o, Below w3.heap.size w3 (w3.alloc o) := fun o => (Below.refl _ _).alloc (Nat.le_refl _) o
  have r1 : ∀ k, (some w3.heap.size : Option Nat) = some k → w3.heap.size ≤ k := fun k hk => by cases hk; exact Nat.le_refl _
  have l1 : w.heap.size < w1.heap.size := (World.ownsRow.lt ho1 _ rfl).2
  have l2 : w1.heap.size < w2.heap.size := (World.ownsRow.lt ho2 _ rfl).2
  have l3 : w2.heap.size < w3.heap.size := (World.ownsRow.lt ho3 _ rfl).2
  have f1 := ((ho1.fresh.below (hb2.trans (hb3.mono hs2))).but (r := none) (fun k hk => by cases hk))
  have f2 := (((ho2.fresh.below hb3).mono hs1).but (r := none) (fun k hk => by cases hk))
  have f3 := ((ho3.fresh.mono (Nat.le_trans hs1 hs2)).but (r := none) (fun k hk => by cases hk))
  refine ⟨_, rfl, ⟨[.slice (some ⟨w.heap.size, 0, none⟩) 64 64, .slice (some ⟨w1.heap.size, 0, none⟩) 64 64, .slice (some ⟨w2.heap.size, 0, none⟩) 64 64], rfl, ?_, ?_⟩, (hb1.trans ((hb2.mono hs1).trans (hb3.mono (Nat.le_trans hs1 hs2)))).trans ((hb4 _).mono (by omega))⟩
  · exact World.ownsRow_lit w3 _ 3 (by omega) (by unfold maxLen; omega) rfl
  · intro i hi hj
    match i, hi with
    | 0, _ => exact f1.grown (grownBy_below (hb4 _) none) (.inr r1)
    | 1, _ => exact f2.grown (grownBy_below (hb4 _) none) (.inr r1)
    | 2, _ => exact f3.grown (grownBy_below (hb4 _) none) (.inr r1)
    | i + 3, hi => exact absurd hi (by simp)

/-- P2.1: what New answers -/
def newE (n : Int) : Int := if n < 1 ∨ 4096 < n then 20 else 0
def newB (n : Int) : List UInt8 := if n < 1 ∨ 4096 < n then [] else List.replicate (n.toNat * 64) 0

theorem new_any (n : Int) (w : World) :
    Calls Try.prog 19 #[.int .i64 n] w fun e w' => ∃ v', e = .returned (.tuple #[.agg #[v'], .int .i64 (newE n)]) ∧ Fresh w' w.heap.size v' (newB n) ∧ Below w.heap.size w w' := by
  obtain ⟨i0, hi, hz0, hz1, hz2⟩ := info_parts Try.infoByte
  by_cases h1 : n < 1
  · have e1 : newE n = 20 := by unfold newE; rw [if_pos (.inl h1)]
    have e2 : newB n = [] := by unfold newB; rw [if_pos (.inl h1)]
    rw [e1, e2]
    go_enter Try.func19, Try.ntmps19
    go_wp2
    refine bodyPost_ret (v := .tuple #[.agg #[.slice none 0 0], .int .i64 20]) (by simp [results, Try.results19, go_sem]) rfl ⟨_, rfl, Fresh.nil _ _, ?_⟩
    exact (Below.refl _ _).alloc (Nat.le_refl _) _
  · by_cases h2 : 4096 < n
    · have e1 : newE n = 20 := by unfold newE; rw [if_pos (.inr h2)]
      have e2 : newB n = [] := by unfold newB; rw [if_pos (.inr h2)]
      rw [e1, e2]
      go_enter Try.func19, Try.ntmps19
      go_wp2
      refine bodyPost_ret (v := .tuple #[.agg #[.slice none 0 0], .int .i64 20]) (by simp [results, Try.results19, go_sem]) rfl ⟨_, rfl, Fresh.nil _ _, ?_⟩
      exact (Below.refl _ _).alloc (Nat.le_refl _) _
    · have e1 : newE n = 0 := by unfold newE; rw [if_neg (by omega)]
      have e2 : newB n = List.replicate (n.toNat * 64) 0 := by unfold newB; rw [if_neg (by omega)]
      rw [e1, e2]
      clear e1 e2
      obtain ⟨N, rfl⟩ : ∃ N : Nat, n = (N : Int) := ⟨n.toNat, by omega⟩
      have e3 : ((N : Int).toNat) = N := by simp
      rw [e3]
      clear e3
      have hN : N ≤ 4096 := by omega
      go_enter Try.func19, Try.ntmps19
      go_wp2_with (refine wpList_make_full _ rfl (.tmp 12) (.tmp 12) 23 rfl w.heap.size 5 i0 _ 1 Try.underlying23 hi hz0 hz1 .i64 .i64 _ _ (N * 64) rfl rfl (by omega) (by omega) (by rw [hz2]; omega) (by unfold maxLen; omega) (by simp) ?_; intro w1 ho1 hg1; have z6 : w1.cell? ⟨w.heap.size, 0, none⟩ = some (.slice none 0 0) := hg1.cell (by simp) (by simp); have f6 : w1.frozen? ⟨w.heap.size, 0, none⟩ = false := (by rw [World.frozen?_of_block (w := w.alloc (Obj.cells #[Value.slice none 0 0] 48)) (hg1.block w.heap.size (by simp) (by simp))]; simp))
      have z0 : (w1.setCell ⟨w.heap.size, 0, none⟩ (.slice (some ⟨w.heap.size + 1, 0, none⟩) (N * 64) (N * 64))).cell? ⟨w.heap.size, 0, none⟩ = some (.slice (some ⟨w.heap.size + 1, 0, none⟩) (N * 64) (N * 64)) := World.cell?_setCell_same _ _ _ z6
      rw [made_zero] at ho1
      have hO : Own w1 w.heap.size (.slice (some ⟨w.heap.size + 1, 0, none⟩) (N * 64) (N * 64)) (List.replicate (N * 64) 0) := by
        unfold Own
        simpa using ho1
      obtain ⟨ao, cap, hv, h3, h4, h5, h6⟩ := hO.fresh
      refine bodyPost_ret (v := .tuple #[.agg #[.slice (some ⟨w.heap.size + 1, 0, none⟩) (N * 64) (N * 64)], .int .i64 0]) (by simp [results, Try.results19, go_sem, z0]) rfl ⟨_, rfl, ⟨ao, cap, hv, h3, h4, h5, ?_⟩, ?_⟩
      · rcases h6 with h6 | ⟨g, cur, rfl, hgb, hg, hl, ht⟩
        · exact .inl h6
        · have hge : g = w.heap.size + 1 := by simp at hv; omega
          exact .inr ⟨g, cur, rfl, hgb, (Below.heap_setCell w1 ⟨w.heap.size, 0, none⟩ _ g (by show g ≠ w.heap.size; omega)).trans hg, hl, ht⟩
      · exact (((Below.refl _ _).alloc (Nat.le_refl _) _).grown hg1 (by simp) (fun k hk => by cases hk)).setCell (by simp) _

/-- P2.2: what Read answers -/
def rdE (L : Nat) (n : Int) : Int := if dOk L = false then 20 else if inD L n = false then 2 else 0
def rdB (d : List UInt8) (n : Int) : List UInt8 := if rdE d.length n = 0 then (d.drop (64 * n.toNat)).take 64 else []

theorem read_any2 (w : World) (B : Nat) (ao : Option Addr) (d : List UInt8) (cap : Nat) (hb : BsAt w B ao d) (hlc : d.length ≤ cap) (hcm : cap ≤ 9223372036854775807) (hB : B ≤ w.heap.size) (n : Int) :
    Calls Try.prog 23 #[.agg #[.slice ao d.length cap], .int .i64 n] w fun e w' => ∃ v', e = .returned (.tuple #[v', .int .i64 (rdE d.length n)]) ∧ Fresh w' w.heap.size v' (rdB d n) ∧ Below w.heap.size w w' := by
  have hL : d.length ≤ 9223372036854775807 := by omega
  have hc := fun W => check_any ao d.length cap W hL
  by_cases k1 : dOk d.length = true
  · have e1 : dE d.length = 0 := by unfold dE; rw [if_pos k1]
    rw [e1] at hc
    have hne : d ≠ [] := by intro e; rw [e] at k1; simp [dOk] at k1
    rcases hb with h | ⟨b, off, rfl, hlt, hcells⟩
    · exact absurd h hne
    have HB : Hid (BsAt w B (some ⟨b, off, none⟩) d) := .inr ⟨b, off, rfl, hlt, hcells⟩
    clear hcells
    by_cases k2 : inD d.length n = true
    · have e2 : rdE d.length n = 0 := by unfold rdE; rw [if_neg (by rw [k1]; decide), if_neg (by rw [k2]; decide)]
      have e3 : rdB d n = (d.drop (64 * n.toNat)).take 64 := by unfold rdB; rw [if_pos e2]
      rw [e2, e3]
      have hn : 0 ≤ n ∧ n < ((d.length / 64 : Nat) : Int) := by simpa [inD] using k2
      obtain ⟨N, rfl⟩ : ∃ N : Nat, n = (N : Int) := ⟨n.toNat, by omega⟩
      have hN : 64 * N + 64 ≤ d.length := by omega
      have e4 : ((N : Int).toNat) = N := by simp
      rw [e4]
      clear e1 e2 e3 e4 hn k1
      obtain ⟨x, hx⟩ : ∃ x, x = (d.drop (64 * N)).take 64 := ⟨_, rfl⟩
      have hxl : x.length = 64 := by rw [hx]; simp; omega
      have hbx : ∀ W, Below w.heap.size w W → BsAt W B (some ⟨b, off + 64 * N, none⟩) x := fun W h => by
        have := ((HB.out.below (h.mono hB) (Nat.le_refl _)).drop (64 * N)).take 64
        rw [← hx] at this
        simpa [addr_add] using this
      rw [← hx]
      have HBX : Hid (∀ W, Below w.heap.size w W → BsAt W B (some ⟨b, off + 64 * N, none⟩) x) := hbx
      clear hx hbx
      have hh := fun W => hasBlock_any (some ⟨b, off, none⟩) d.length cap N W hL
      rw [k2] at hh
      go_enter Try.func23, Try.ntmps23
      go_wp2_with (first
        | (go_at_call 29; refine (hc _).mono ?_; rintro e w1 ⟨rfl, hb1⟩; have hc1 := below_cells hb1; have c0 : w1.cell? ⟨w.heap.size, 0, none⟩ = some (.slice (some ⟨b, off, none⟩) d.length cap) := (by rw [hc1 _ _ (by simp)]; simp); have hs1 := hb1.size; simp at hs1; have hb01 := below_alloc hb1; clear hc1)
        | (go_at_call 58; refine (hh _).mono ?_; rintro e w2 ⟨rfl, hb2⟩; have c2 : w2.cell? ⟨w.heap.size, 0, none⟩ = some (.slice (some ⟨b, off, none⟩) d.length cap) := (hb2.cell (p := ⟨w.heap.size, 0, none⟩) (by show w.heap.size < _; omega)).trans c0; have hb02 := hb01.trans (hb2.mono (by omega)))
        | (go_at_call 60; refine (block_any b off d.length cap N w2 hN hlc hcm).mono ?_; rintro e w3 ⟨rfl, hb3⟩; have hb03 := hb02.trans (hb3.mono hb02.size); have hcp := copied_any w3 B (some ⟨b, off + 64 * N, none⟩) x 64 (HBX.out w3 hb03) (by intro e; cases e) (by omega); rw [hxl] at hcp)
        | (go_at_call 59; refine hcp.mono ?_; rintro e w4 ⟨v4, rfl, ho4, hb4⟩))
      go_ret2
      exact ⟨_, rfl, ho4.mono hb03.size, hb03.trans (hb4.mono hb03.size)⟩
    · have k2' : inD d.length n = false := by simpa using k2
      have e2 : rdE d.length n = 2 := by unfold rdE; rw [if_neg (by rw [k1]; decide), if_pos k2']
      have e3 : rdB d n = [] := by unfold rdB; rw [e2, if_neg (by decide)]
      rw [e2, e3]
      have hh := fun W => hasBlock_any (some ⟨b, off, none⟩) d.length cap n W hL
      rw [k2'] at hh
      clear e1 e2 e3 k1 k2 k2'
      go_enter Try.func23, Try.ntmps23
      go_wp2_with (first
        | (go_at_call 29; refine (hc _).mono ?_; rintro e w1 ⟨rfl, hb1⟩; have hc1 := below_cells hb1; have c0 : w1.cell? ⟨w.heap.size, 0, none⟩ = some (.slice (some ⟨b, off, none⟩) d.length cap) := (by rw [hc1 _ _ (by simp)]; simp); have hs1 := hb1.size; simp at hs1; have hb01 := below_alloc hb1; clear hc1)
        | (go_at_call 58; refine (hh _).mono ?_; rintro e w2 ⟨rfl, hb2⟩; have hb02 := hb01.trans (hb2.mono (by omega))))
      go_ret2
      exact ⟨_, rfl, Fresh.nil _ _, hb02⟩
  · have k1' : dOk d.length = false := by simpa using k1
    have e1 : dE d.length = 20 := by unfold dE; rw [if_neg k1]
    rw [e1] at hc
    have e2 : rdE d.length n = 20 := by unfold rdE; rw [if_pos k1']
    have e3 : rdB d n = [] := by unfold rdB; rw [e2, if_neg (by decide)]
    rw [e2, e3]
    clear e1 e2 e3 k1 k1' hb
    go_enter Try.func23, Try.ntmps23
    go_wp2_with (go_at_call 29; refine (hc _).mono ?_; rintro e w1 ⟨rfl, hb1⟩)
    go_ret2
    exact ⟨_, rfl, Fresh.nil _ _, below_alloc hb1⟩

theorem large_any (ao : Option Addr) (L cap : Nat) (w : World) :
    Calls Try.prog 31 #[.agg #[.slice ao L cap]] w fun e w' => e = .returned (.bool (decide ((300000 : Int) < (L : Int)))) ∧ Below w.heap.size w w' := by
  go_enter Try.func31, Try.ntmps31
  go_wp2
  go_ret
  exact ⟨rfl, (Below.refl _ _).alloc (Nat.le_refl _) _⟩
end Go.Proofs.Ytgfhjkphdmkmoab
