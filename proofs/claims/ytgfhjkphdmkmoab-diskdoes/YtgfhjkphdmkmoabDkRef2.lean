/-
  Contracts of the document's Read, asked, TwinPuts and Left.
-/
import Derived.Test.YtgfhjkphdmkmoabDkRef
namespace Go.Proofs.Ytgfhjkphdmkmoab
open Go.RowKit
set_option linter.unusedSimpArgs false
set_option linter.unusedVariables false
set_option maxRecDepth 100000

theorem rread_any (w : World) (ao : Option Addr) (d : List UInt8) (cap : Nat) (hd : Sl w ao d cap) (n : Int) :
    Calls Try.prog 36 #[.agg #[.slice ao d.length cap], .int .i64 n] w fun e w' => ∃ v', e = .returned (.tuple #[v', .int .i64 (rdE d.length n)]) ∧ Fresh w' w.heap.size v' (rdB d n) ∧ Below w.heap.size w w' := by
  have hL : d.length ≤ 9223372036854775807 := Nat.le_trans hd.hl hd.hc
  have hc := fun W => rcheck_any ao d.length cap W hL
  have hmn := fun W => rmany_any ao d.length cap W hL
  by_cases k1 : dOk d.length = true
  · have e1 : dE d.length = 0 := by unfold dE; rw [if_pos k1]
    rw [e1] at hc
    have hne : d ≠ [] := by intro e; rw [e] at k1; simp [dOk] at k1
    obtain ⟨b, off, rfl⟩ := hd.lies hne
    by_cases k0 : n < 0
    · have k2' : inD d.length n = false := by simp [inD]; omega
      have e2 : rdE d.length n = 2 := by unfold rdE; rw [if_neg (by rw [k1]; decide), if_pos k2']
      have e3 : rdB d n = [] := by unfold rdB; rw [e2, if_neg (by decide)]
      rw [e2, e3]
      clear e1 e2 e3 k1 k2' hd
      go_enter Try.func36, Try.ntmps36
      go_wp2_with (go_at_call 40; refine (hc _).mono ?_; rintro e w1 ⟨rfl, hb1⟩)
      go_ret2
      exact ⟨_, rfl, Fresh.nil _ _, below_alloc hb1⟩
    · by_cases k2 : n < ((d.length / 64 : Nat) : Int)
      · have k3 : inD d.length n = true := by simp [inD]; omega
        have e2 : rdE d.length n = 0 := by unfold rdE; rw [if_neg (by rw [k1]; decide), if_neg (by rw [k3]; decide)]
        have e3 : rdB d n = (d.drop (64 * n.toNat)).take 64 := by unfold rdB; rw [if_pos e2]
        rw [e2, e3]
        obtain ⟨N, rfl⟩ : ∃ N : Nat, n = (N : Int) := ⟨n.toNat, by omega⟩
        have hN : 64 * N + 64 ≤ d.length := by omega
        have e4 : ((N : Int).toNat) = N := by simp
        rw [e4]
        have hbk := fun W (h : Below w.heap.size w W) => rblock_any W b off d cap N (hd.below h) hN
        obtain ⟨x, hx⟩ : ∃ x, x = (d.drop (64 * N)).take 64 := ⟨_, rfl⟩
        rw [← hx] at hbk ⊢
        have HBK : Hid (∀ W, Below w.heap.size w W → Calls Try.prog 64 #[.agg #[.slice (some ⟨b, off, none⟩) d.length cap], .int .i64 N] W fun e w' => ∃ v', e = .returned v' ∧ Fresh w' W.heap.size v' x ∧ Below W.heap.size W w') := hbk
        clear hbk hx e1 e2 e3 e4 k1 k3 hd
        go_enter Try.func36, Try.ntmps36
        go_wp2_with (first
          | (go_at_call 40; refine (hc _).mono ?_; rintro e w1 ⟨rfl, hb1⟩; have c0 : w1.cell? ⟨w.heap.size, 0, none⟩ = some (.slice (some ⟨b, off, none⟩) d.length cap) := (by rw [below_cells hb1 _ _ (by simp)]; simp); have hs1 := hb1.size; simp at hs1; have hb01 := below_alloc hb1)
          | (go_at_call 41; refine (hmn _).mono ?_; rintro e w2 ⟨rfl, hb2⟩; have c2 : w2.cell? ⟨w.heap.size, 0, none⟩ = some (.slice (some ⟨b, off, none⟩) d.length cap) := (hb2.cell (p := ⟨w.heap.size, 0, none⟩) (by show w.heap.size < _; omega)).trans c0; have hb02 := hb01.trans (hb2.mono (by omega)))
          | (go_at_call 64; refine (HBK.out w2 hb02).mono ?_; rintro e w3 ⟨v3, rfl, ho3, hb3⟩))
        go_ret2
        exact ⟨_, rfl, ho3.mono hb02.size, hb02.trans (hb3.mono hb02.size)⟩
      · have k2' : inD d.length n = false := by simp [inD]; omega
        have e2 : rdE d.length n = 2 := by unfold rdE; rw [if_neg (by rw [k1]; decide), if_pos k2']
        have e3 : rdB d n = [] := by unfold rdB; rw [e2, if_neg (by decide)]
        rw [e2, e3]
        clear e1 e2 e3 k1 k2' hd
        go_enter Try.func36, Try.ntmps36
        go_wp2_with (first
          | (go_at_call 40; refine (hc _).mono ?_; rintro e w1 ⟨rfl, hb1⟩; have c0 : w1.cell? ⟨w.heap.size, 0, none⟩ = some (.slice (some ⟨b, off, none⟩) d.length cap) := (by rw [below_cells hb1 _ _ (by simp)]; simp); have hs1 := hb1.size; simp at hs1; have hb01 := below_alloc hb1)
          | (go_at_call 41; refine (hmn _).mono ?_; rintro e w2 ⟨rfl, hb2⟩; have hb02 := hb01.trans (hb2.mono (by omega))))
        go_ret2
        exact ⟨_, rfl, Fresh.nil _ _, hb02⟩
  · have k1' : dOk d.length = false := by simpa using k1
    have e1 : dE d.length = 20 := by unfold dE; rw [if_neg k1]
    rw [e1] at hc
    have e2 : rdE d.length n = 20 := by unfold rdE; rw [if_pos k1']
    have e3 : rdB d n = [] := by unfold rdB; rw [e2, if_neg (by decide)]
    rw [e2, e3]
    clear e1 e2 e3 k1 k1' hd
    go_enter Try.func36, Try.ntmps36
    go_wp2_with (go_at_call 40; refine (hc _).mono ?_; rintro e w1 ⟨rfl, hb1⟩)
    go_ret2
    exact ⟨_, rfl, Fresh.nil _ _, below_alloc hb1⟩

theorem asked_any (ao : Option Addr) (L cap : Nat) (n : Int) (do_ : Option Addr) (dl dc : Nat) (p : Pt) (hp : p.n = n) (hd : p.data.length = dl) (w : World) (hL : L ≤ 9223372036854775807) :
    Calls Try.prog 65 #[.agg #[.slice ao L cap], .agg #[.int .i64 n, .slice do_ dl dc]] w fun e w' => e = .returned (.int .i64 (ptE L p)) ∧ Below w.heap.size w w' := by
  have hmn := fun W => rmany_any ao L cap W hL
  have hb2 : Below w.heap.size w ((w.alloc (Obj.cells #[Value.slice ao L cap] 48)).alloc (Obj.cells #[Value.int IntKind.i64 n, Value.slice do_ dl dc] 77)).drew := (((Below.refl _ _).alloc (Nat.le_refl _) _).alloc (by simp) _).drew
  have k0 : ((w.alloc (Obj.cells #[Value.slice ao L cap] 48)).alloc (Obj.cells #[Value.int IntKind.i64 n, Value.slice do_ dl dc] 77)).drew.cell? ⟨w.heap.size, 0, none⟩ = some (.slice ao L cap) := by simp
  have k1 : ((w.alloc (Obj.cells #[Value.slice ao L cap] 48)).alloc (Obj.cells #[Value.int IntKind.i64 n, Value.slice do_ dl dc] 77)).drew.cell? ⟨w.heap.size + 1, 0, none⟩ = some (.int .i64 n) := by simp
  have k2 : ((w.alloc (Obj.cells #[Value.slice ao L cap] 48)).alloc (Obj.cells #[Value.int IntKind.i64 n, Value.slice do_ dl dc] 77)).drew.cell? ⟨w.heap.size + 1, 1, none⟩ = some (.slice do_ dl dc) := by simp
  by_cases c0 : n < 0
  · have hE : ptE L p = 2 := by unfold ptE inD; rw [hp]; simp; omega
    rw [hE]
    clear hp hd hE
    go_enter Try.func65, Try.ntmps65
    go_wp2
    go_quiet (fail)
    go_wp2
    go_ret
    exact ⟨rfl, below_drewN2 (((Below.refl _ _).alloc (Nat.le_refl _) _).alloc (by simp) _) _⟩
  · have c00 : decide (n < 0) = false := by simp; omega
    by_cases c1 : n < ((L / 64 : Nat) : Int)
    · have c2 : decide ((L : Int) / 64 ≤ n) = false := by simp; omega
      by_cases c3 : dl = 64
      · have hE : ptE L p = 0 := by unfold ptE inD; rw [hp, hd]; simp [c3]; omega
        have c4 : ((dl : Int) != 64) = false := by simp; omega
        rw [hE]
        clear hp hd hE c3
        go_enter Try.func65, Try.ntmps65
        go_wp2
        go_region_held3 (fun W => W.cell? ⟨w.heap.size, 0, none⟩ = some (.slice ao L cap) ∧ W.cell? ⟨w.heap.size + 1, 0, none⟩ = some (.int .i64 n) ∧ W.cell? ⟨w.heap.size + 1, 1, none⟩ = some (.slice do_ dl dc)) (first | exact ⟨k0, k1, k2⟩ | exact ⟨j0, j1, j2⟩)
          (first | (go_at_call 41; refine (hmn _).mono ?_; rintro e w1 ⟨rfl, hb1⟩; have j0 := (hb1.cell (p := ⟨w.heap.size, 0, none⟩) (by first | (simp; done) | (simp; omega))).trans k0; have j1 := (hb1.cell (p := ⟨w.heap.size + 1, 0, none⟩) (by first | (simp; done) | (simp; omega))).trans k1; have j2 := (hb1.cell (p := ⟨w.heap.size + 1, 1, none⟩) (by first | (simp; done) | (simp; omega))).trans k2; have hb01 := hb2.trans (hb1.mono (by first | (simp; done) | (simp; omega)))))
        go_wp2
        go_ret
        exact ⟨rfl, hb01⟩
      · have hE : ptE L p = 3 := by
          unfold ptE inD; rw [hp, hd]
          rw [if_neg (by simp; omega), if_pos c3]
        have c4 : ((dl : Int) != 64) = true := by simp; omega
        rw [hE]
        clear hp hd hE
        go_enter Try.func65, Try.ntmps65
        go_wp2
        go_region_held3 (fun W => W.cell? ⟨w.heap.size, 0, none⟩ = some (.slice ao L cap) ∧ W.cell? ⟨w.heap.size + 1, 0, none⟩ = some (.int .i64 n) ∧ W.cell? ⟨w.heap.size + 1, 1, none⟩ = some (.slice do_ dl dc)) (first | exact ⟨k0, k1, k2⟩ | exact ⟨j0, j1, j2⟩)
          (first | (go_at_call 41; refine (hmn _).mono ?_; rintro e w1 ⟨rfl, hb1⟩; have j0 := (hb1.cell (p := ⟨w.heap.size, 0, none⟩) (by first | (simp; done) | (simp; omega))).trans k0; have j1 := (hb1.cell (p := ⟨w.heap.size + 1, 0, none⟩) (by first | (simp; done) | (simp; omega))).trans k1; have j2 := (hb1.cell (p := ⟨w.heap.size + 1, 1, none⟩) (by first | (simp; done) | (simp; omega))).trans k2; have hb01 := hb2.trans (hb1.mono (by first | (simp; done) | (simp; omega)))))
        go_wp2
        go_ret
        exact ⟨rfl, hb01⟩
    · have c2 : decide ((L : Int) / 64 ≤ n) = true := by simp; omega
      have hE : ptE L p = 2 := by
        unfold ptE inD; rw [hp]
        rw [if_pos (by simp; omega)]
      rw [hE]
      clear hp hd hE
      go_enter Try.func65, Try.ntmps65
      go_wp2
      go_region_held3 (fun W => W.cell? ⟨w.heap.size, 0, none⟩ = some (.slice ao L cap) ∧ W.cell? ⟨w.heap.size + 1, 0, none⟩ = some (.int .i64 n) ∧ W.cell? ⟨w.heap.size + 1, 1, none⟩ = some (.slice do_ dl dc)) (first | exact ⟨k0, k1, k2⟩ | exact ⟨j0, j1, j2⟩)
        (first | (go_at_call 41; refine (hmn _).mono ?_; rintro e w1 ⟨rfl, hb1⟩; have j0 := (hb1.cell (p := ⟨w.heap.size, 0, none⟩) (by first | (simp; done) | (simp; omega))).trans k0; have j1 := (hb1.cell (p := ⟨w.heap.size + 1, 0, none⟩) (by first | (simp; done) | (simp; omega))).trans k1; have j2 := (hb1.cell (p := ⟨w.heap.size + 1, 1, none⟩) (by first | (simp; done) | (simp; omega))).trans k2; have hb01 := hb2.trans (hb1.mono (by first | (simp; done) | (simp; omega)))))
      go_wp2
      go_ret
      exact ⟨rfl, hb01⟩
end Go.Proofs.Ytgfhjkphdmkmoab
