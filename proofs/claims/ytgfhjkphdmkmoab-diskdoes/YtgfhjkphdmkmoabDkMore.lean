/-
  Contracts of Many and Write, and of the document's SamePuts, of equal lists.
-/
import Derived.Test.YtgfhjkphdmkmoabDkSl
import Derived.Test.YtgfhjkphdmkmoabQuiet
namespace Go.Proofs.Ytgfhjkphdmkmoab
open Go.RowKit
set_option linter.unusedSimpArgs false
set_option linter.unusedVariables false
set_option maxRecDepth 100000


def manyN (L : Nat) : Int := if dOk L = true then ((L / 64 : Nat) : Int) else 0
theorem many_any (ao : Option Addr) (L cap : Nat) (w : World) (hL : L ≤ 9223372036854775807) :
    Calls Try.prog 20 #[.agg #[.slice ao L cap]] w fun e w' => e = .returned (.tuple #[.int .i64 (manyN L), .int .i64 (dE L)]) ∧ Below w.heap.size w w' := by
  have hc := fun W => check_any ao L cap W hL
  by_cases k1 : dOk L = true
  · have e1 : dE L = 0 := by unfold dE; rw [if_pos k1]
    have e2 : manyN L = ((L / 64 : Nat) : Int) := by unfold manyN; rw [if_pos k1]
    rw [e1] at hc ⊢
    rw [e2]
    clear e1 e2 k1
    go_enter Try.func20, Try.ntmps20
    go_wp2_with (first
      | (go_at_call 29; refine (hc _).mono ?_; rintro e w1 ⟨rfl, hb1⟩; have hc1 : w1.cell? ⟨w.heap.size, 0, none⟩ = some (.slice ao L cap) := (by rw [below_cells hb1 _ _ (by simp)]; simp); have hb01 := below_alloc hb1)
      | (go_at_call 57; refine (blocks_any ao L cap _ hL).mono ?_; rintro e w2 ⟨rfl, hb2⟩))
    go_ret2
    exact ⟨rfl, hb01.trans (hb2.mono hb01.size)⟩
  · have e1 : dE L = 20 := by unfold dE; rw [if_neg k1]
    have e2 : manyN L = 0 := by unfold manyN; rw [if_neg k1]
    rw [e1] at hc ⊢
    rw [e2]
    clear e1 e2 k1
    go_enter Try.func20, Try.ntmps20
    go_wp2_with (go_at_call 29; refine (hc _).mono ?_; rintro e w1 ⟨rfl, hb1⟩)
    go_ret2
    exact ⟨rfl, below_alloc hb1⟩

/-- one write in a new block -/
theorem pl_one {w : World} {ao : Option Addr} {l : List UInt8} {cap : Nat} (h : Sl w ao l cap) (n : Int) :
    Pl (w.alloc (.cells #[.int .i64 n, .slice ao l.length cap] 77)) (some ⟨w.heap.size, 0, none⟩) [⟨n, l⟩] 1 := by
  have hb : Below w.heap.size w (w.alloc (.cells #[.int .i64 n, .slice ao l.length cap] 77)) := (Below.refl _ _).alloc (Nat.le_refl _) _
  refine ⟨by simp, by omega, (by intro e; cases e), .inr ⟨w.heap.size, 0, rfl, by simp, fun i hi => ?_⟩⟩
  have : i = 0 := by simp at hi; omega
  subst this
  refine ⟨by simp, .slice ao l.length cap, by simp, ao, cap, rfl, h.hl, h.hc, h.hn, h.at_.below hb (by simp)⟩

theorem Fresh.store {w : World} {base : Nat} {v : Value} {l : List UInt8} (h : Fresh w base v l) (X o : Nat) (u : Value) (hX : X < base) : Fresh (w.setCell ⟨X, o, none⟩ u) base v l := by
  obtain ⟨ao, cap, rfl, h1, h2, h3, h4⟩ := h
  refine ⟨ao, cap, rfl, h1, h2, h3, ?_⟩
  rcases h4 with h | ⟨g, cur, rfl, hb1, hg, hl, ht⟩
  · exact .inl h
  · exact .inr ⟨g, cur, rfl, hb1, (Below.heap_setCell w ⟨X, o, none⟩ u g (by show g ≠ X; omega)).trans hg, hl, ht⟩

theorem write_any (w : World) (ao : Option Addr) (d : List UInt8) (cap : Nat) (hd : Sl w ao d cap) (n : Int) (bo : Option Addr) (l : List UInt8) (bc : Nat) (hl : Sl w bo l bc) (E : Int) (R : List UInt8) (hE : doE d.length [⟨n, l⟩] 1 = E) (hR : doB d [⟨n, l⟩] 1 = R) :
    Calls Try.prog 21 #[.agg #[.slice ao d.length cap], .int .i64 n, .slice bo l.length bc] w fun e w' => ∃ ro rc, e = .returned (.tuple #[.agg #[.slice ro R.length rc], .int .i64 E]) ∧ Fresh w' w.heap.size (.slice ro R.length rc) R ∧ Below w.heap.size w w' := by
  have hb2 : ∀ o o', Below w.heap.size w ((w.alloc o).alloc o') := fun o o' => ((Below.refl _ _).alloc (Nat.le_refl _) _).alloc (by simp) _
  have hdo0 := fun o o' => do_any (((w.alloc o).alloc o').alloc (.cells #[.int .i64 n, .slice bo l.length bc] 77)) _ ao d cap ((hd.below (hb2 o o')).below ((Below.refl _ _).alloc (Nat.le_refl _) _)).at_ hd.hl hd.hc hd.hn (Nat.le_refl _) (some ⟨((w.alloc o).alloc o').heap.size, 0, none⟩) [⟨n, l⟩] 1 (pl_one (hl.below (hb2 o o')) n).at_ (by intro e; cases e) (by simp) (by omega) 1
  rw [hE, hR] at hdo0
  have hdo : ∀ o o' X, X = ((w.alloc o).alloc o').heap.size → Calls Try.prog 26 #[.agg #[.slice ao d.length cap], .slice (some ⟨X, 0, none⟩) 1 1, .int .i64 1] (((w.alloc o).alloc o').alloc (.cells #[.int .i64 n, .slice bo l.length bc] 77)) fun e w' => ∃ v', e = .returned (.tuple #[.agg #[v'], .int .i64 E]) ∧ Fresh w' (((w.alloc o).alloc o').alloc (.cells #[.int .i64 n, .slice bo l.length bc] 77)).heap.size v' R ∧ Below (((w.alloc o).alloc o').alloc (.cells #[.int .i64 n, .slice bo l.length bc] 77)).heap.size (((w.alloc o).alloc o').alloc (.cells #[.int .i64 n, .slice bo l.length bc] 77)) w' := fun o o' X hX => by subst hX; exact hdo0 o o'
  have HDO : Hid (∀ o o' X, X = ((w.alloc o).alloc o').heap.size → Calls Try.prog 26 #[.agg #[.slice ao d.length cap], .slice (some ⟨X, 0, none⟩) 1 1, .int .i64 1] (((w.alloc o).alloc o').alloc (.cells #[.int .i64 n, .slice bo l.length bc] 77)) fun e w' => ∃ v', e = .returned (.tuple #[.agg #[v'], .int .i64 E]) ∧ Fresh w' (((w.alloc o).alloc o').alloc (.cells #[.int .i64 n, .slice bo l.length bc] 77)).heap.size v' R ∧ Below (((w.alloc o).alloc o').alloc (.cells #[.int .i64 n, .slice bo l.length bc] 77)).heap.size (((w.alloc o).alloc o').alloc (.cells #[.int .i64 n, .slice bo l.length bc] 77)) w') := hdo
  clear hdo hdo0 hE hR hd hl
  go_enter Try.func21, Try.ntmps21
  go_wp2_with (go_at_call 26; refine (HDO.out _ _ _ (by simp)).mono ?_; rintro e w1 ⟨v1, rfl, hf1, hb1⟩; obtain ⟨ro, rc, hv1, -⟩ := hf1.sl; subst hv1; have z6 : w1.cell? ⟨w.heap.size + 1, 0, none⟩ = some (.slice none 0 0) := (hb1.cell (p := ⟨w.heap.size + 1, 0, none⟩) (by first | (simp; done) | (simp; omega))).trans ((World.cell?_alloc_past _ _ _ (by first | (simp; done) | (simp; omega))).trans (by simp)); have f6 : w1.frozen? ⟨w.heap.size + 1, 0, none⟩ = false := (hb1.frozen (p := ⟨w.heap.size + 1, 0, none⟩) (by first | (simp; done) | (simp; omega))).trans ((World.frozen?_alloc_past _ _ _ (by first | (simp; done) | (simp; omega))).trans (by simp)); have hs := hb1.size; simp at hs)
  have z0 : (w1.setCell ⟨w.heap.size + 1, 0, none⟩ (.slice ro R.length rc)).cell? ⟨w.heap.size + 1, 0, none⟩ = some (.slice ro R.length rc) := World.cell?_setCell_same _ _ _ z6
  refine bodyPost_ret (v := .tuple #[.agg #[.slice ro R.length rc], .int .i64 E]) (by simp [results, Try.results21, go_sem, z0]) rfl ⟨ro, rc, rfl, ?_, ?_⟩
  · exact (hf1.store (w.heap.size + 1) 0 _ (by first | (simp; done) | (simp; omega))).mono (by first | (simp; done) | (simp; omega))
  · exact (below_alloc (below_alloc (below_alloc hb1))).setCell (by simp) _

theorem samePuts_row (w : World) (B B' b off b' off' : Nat) (ps : List Pt) (cap cap' : Nat) (hm : ps.length ≤ 9223372036854775807) (hc : ∀ i (hi : i < ps.length), PtLies w B b (off + i * 2) ps[i]) (hc' : ∀ i (hi : i < ps.length), PtLies w B' b' (off' + i * 2) ps[i]) :
    Calls Try.prog 28 #[.slice (some ⟨b, off, none⟩) ps.length cap, .slice (some ⟨b', off', none⟩) ps.length cap'] w fun e w' => e = .returned (.bool true) ∧ ∃ n, w' = w.drewN n := by
  have HC : Hid (∀ i (hi : i < ps.length), PtLies w B b (off + i * 2) ps[i]) := hc
  have HD : Hid (∀ i (hi : i < ps.length), PtLies w B' b' (off' + i * 2) ps[i]) := hc'
  clear hc hc'
  go_enter Try.func28, Try.ntmps28
  go_wp2
  go_loopw [5] (fun i wr => ∃ k n : Nat, k ≤ ps.length ∧ i = .int .i64 k ∧ wr = w.drewN n) (fun i _ => ps.length - (intOf i).toNat)
  case atStart => exact ⟨0, 0, Nat.zero_le _, rfl, rfl⟩
  case round =>
    obtain ⟨k, n, hk, rfl, rfl⟩ := hrel
    by_cases hlt : k < ps.length
    · have hlt2 : (k : Int) < (ps.length : Int) := by omega
      obtain ⟨p, hpe⟩ : ∃ p, p = ps[k] := ⟨_, rfl⟩
      have hL := HC.out k hlt
      have hM := HD.out k hlt
      rw [← hpe] at hL hM
      clear hpe
      obtain ⟨q0, v, q1, a1, c1, rfl, -, -, -, hbs⟩ := hL
      obtain ⟨r0, u, r1, a2, c2, rfl, -, -, -, hbs'⟩ := hM
      have s1 : ∀ N, (convert 23 9 (.slice a1 p.data.length c1)).run Try.prog (w.drewN N) = .ok (.string ⟨p.data.toArray⟩) (w.drewN N) := fun N => conv_bytes (w.drewN N) B a1 p.data c1 (hbs.below (below_drewN2 (Below.refl _ _) N) (Nat.le_refl _))
      have s2 : ∀ N, (convert 23 9 (.slice a2 p.data.length c2)).run Try.prog (w.drewN N) = .ok (.string ⟨p.data.toArray⟩) (w.drewN N) := fun N => conv_bytes (w.drewN N) B' a2 p.data c2 (hbs'.below (below_drewN2 (Below.refl _ _) N) (Nat.le_refl _))
      clear hbs hbs'
      go_wp2
      go_quiet (fail)
      go_wp2
      go_roundw
      case rel => exact ⟨k + 1, _, by omega, by go_num, rfl⟩
      case measure => simp [intOf]; omega
    · go_wp2
      go_ret
      exact ⟨rfl, n, rfl⟩
theorem samePuts_none (w : World) (ao ao' : Option Addr) (cap cap' : Nat) :
    Calls Try.prog 28 #[.slice ao 0 cap, .slice ao' 0 cap'] w fun e w' => e = .returned (.bool true) ∧ ∃ n, w' = w.drewN n := by
  go_enter Try.func28, Try.ntmps28
  go_wp2
  refine wp_loop_rounds 1 ?_
  rw [rounds_succ]
  go_wp2
  go_ret
  exact ⟨rfl, 0, rfl⟩
theorem samePuts_sl (w : World) (ao ao' : Option Addr) (ps : List Pt) (cap cap' : Nat) (h : Pl w ao ps cap) (h' : Pl w ao' ps cap') :
    Calls Try.prog 28 #[.slice ao ps.length cap, .slice ao' ps.length cap'] w fun e w' => e = .returned (.bool true) ∧ Below w.heap.size w w' := by
  have key : Calls Try.prog 28 #[.slice ao ps.length cap, .slice ao' ps.length cap'] w fun e w' => e = .returned (.bool true) ∧ ∃ n, w' = w.drewN n := by
    rcases h.at_ with rfl | ⟨b, off, rfl, hb, hc⟩
    · exact samePuts_none w ao ao' cap cap'
    · rcases h'.at_ with rfl | ⟨b', off', rfl, hb', hc'⟩
      · exact samePuts_none w _ _ cap cap'
      · exact samePuts_row w _ _ b off b' off' ps cap cap' (Nat.le_trans h.hl h.hc) hc hc'
  refine key.mono ?_
  rintro e w' ⟨rfl, n, rfl⟩
  exact ⟨rfl, below_drewN2 (Below.refl _ _) n⟩
end Go.Proofs.Ytgfhjkphdmkmoab
