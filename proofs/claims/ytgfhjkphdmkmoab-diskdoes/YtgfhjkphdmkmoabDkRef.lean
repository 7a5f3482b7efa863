/-
  Contracts of the document's answers for disks: Check, Many, New, Twin, Block, Read, asked.
-/
import Derived.Test.YtgfhjkphdmkmoabDkMore
import Derived.Test.YtgfhjkphdmkmoabDkSmall
namespace Go.Proofs.Ytgfhjkphdmkmoab
open Go.RowKit
set_option linter.unusedSimpArgs false
set_option linter.unusedVariables false
set_option maxRecDepth 100000

theorem rmany_any (ao : Option Addr) (L cap : Nat) (w : World) (hL : L ≤ 9223372036854775807) :
    Calls Try.prog 41 #[.agg #[.slice ao L cap]] w fun e w' => e = .returned (.int .i64 ((L / 64 : Nat) : Int)) ∧ Below w.heap.size w w' := by
  go_enter Try.func41, Try.ntmps41
  go_wp2
  go_ret
  exact ⟨rfl, (Below.refl _ _).alloc (Nat.le_refl _) _⟩

theorem rcheck_any (ao : Option Addr) (L cap : Nat) (w : World) (hL : L ≤ 9223372036854775807) :
    Calls Try.prog 40 #[.agg #[.slice ao L cap]] w fun e w' => e = .returned (.int .i64 (dE L)) ∧ Below w.heap.size w w' := by
  by_cases h1 : (L : Int) < 64
  · have h2 : dE L = 20 := by unfold dE dOk; rw [if_neg]; simp; omega
    rw [h2]
    go_enter Try.func40, Try.ntmps40
    go_wp2
    go_ret
    exact ⟨rfl, (Below.refl _ _).alloc (Nat.le_refl _) _⟩
  · by_cases h3 : (262144 : Int) < (L : Int)
    · have h2 : dE L = 20 := by unfold dE dOk; rw [if_neg]; simp; omega
      rw [h2]
      go_enter Try.func40, Try.ntmps40
      go_wp2
      go_ret
      exact ⟨rfl, (Below.refl _ _).alloc (Nat.le_refl _) _⟩
    · by_cases h4 : L % 64 = 0
      · have h5 : ((L : Int) % 64 != 0) = false := by simp; omega
        have h2 : dE L = 0 := by unfold dE dOk; rw [if_pos]; simp; omega
        rw [h2]
        go_enter Try.func40, Try.ntmps40
        go_wp2
        go_ret
        exact ⟨rfl, (Below.refl _ _).alloc (Nat.le_refl _) _⟩
      · have h5 : ((L : Int) % 64 != 0) = true := by simp; omega
        have h2 : dE L = 20 := by unfold dE dOk; rw [if_neg]; simp; omega
        rw [h2]
        go_enter Try.func40, Try.ntmps40
        go_wp2
        go_ret
        exact ⟨rfl, (Below.refl _ _).alloc (Nat.le_refl _) _⟩

theorem rnew_any (n : Int) (w : World) :
    Calls Try.prog 35 #[.int .i64 n] w fun e w' => ∃ v', e = .returned (.tuple #[.agg #[v'], .int .i64 (newE n)]) ∧ Fresh w' w.heap.size v' (newB n) ∧ Below w.heap.size w w' := by
  obtain ⟨i0, hi, hz0, hz1, hz2⟩ := info_parts Try.infoByte
  by_cases h1 : n < 1
  · have e1 : newE n = 20 := by unfold newE; rw [if_pos (.inl h1)]
    have e2 : newB n = [] := by unfold newB; rw [if_pos (.inl h1)]
    rw [e1, e2]
    go_enter Try.func35, Try.ntmps35
    go_wp2
    refine bodyPost_ret (v := .tuple #[.agg #[.slice none 0 0], .int .i64 20]) (by simp [results, Try.results35, go_sem]) rfl ⟨_, rfl, Fresh.nil _ _, ?_⟩
    exact (Below.refl _ _).alloc (Nat.le_refl _) _
  · by_cases h2 : 4096 < n
    · have e1 : newE n = 20 := by unfold newE; rw [if_pos (.inr h2)]
      have e2 : newB n = [] := by unfold newB; rw [if_pos (.inr h2)]
      rw [e1, e2]
      go_enter Try.func35, Try.ntmps35
      go_wp2
      refine bodyPost_ret (v := .tuple #[.agg #[.slice none 0 0], .int .i64 20]) (by simp [results, Try.results35, go_sem]) rfl ⟨_, rfl, Fresh.nil _ _, ?_⟩
      exact (Below.refl _ _).alloc (Nat.le_refl _) _
    · have e1 : newE n = 0 := by unfold newE; rw [if_neg (by omega)]
      have e2 : newB n = List.replicate (n.toNat * 64) 0 := by unfold newB; rw [if_neg (by omega)]
      rw [e1, e2]
      clear e1 e2
      obtain ⟨N, rfl⟩ : ∃ N : Nat, n = (N : Int) := ⟨n.toNat, by omega⟩
      have e3 : ((N : Int).toNat) = N := by simp
      rw [e3]
      clear e3
      have hN : N ≤ 4096 := by omega
      go_enter Try.func35, Try.ntmps35
      go_wp2_with (refine wpList_make_full _ rfl (.tmp 12) (.tmp 12) 23 rfl w.heap.size 5 i0 _ 1 Try.underlying23 hi hz0 hz1 .i64 .i64 _ _ (N * 64) rfl rfl (by omega) (by omega) (by rw [hz2]; omega) (by unfold maxLen; omega) (by simp) ?_; intro w1 ho1 hg1; have z6 : w1.cell? ⟨w.heap.size, 0, none⟩ = some (.slice none 0 0) := hg1.cell (by simp) (by simp); have f6 : w1.frozen? ⟨w.heap.size, 0, none⟩ = false := (by rw [World.frozen?_of_block (w := w.alloc (Obj.cells #[Value.slice none 0 0] 48)) (hg1.block w.heap.size (by simp) (by simp))]; simp))
      have z0 : (w1.setCell ⟨w.heap.size, 0, none⟩ (.slice (some ⟨w.heap.size + 1, 0, none⟩) (N * 64) (N * 64))).cell? ⟨w.heap.size, 0, none⟩ = some (.slice (some ⟨w.heap.size + 1, 0, none⟩) (N * 64) (N * 64)) := World.cell?_setCell_same _ _ _ z6
      rw [made_zero] at ho1
      have hO : Own w1 w.heap.size (.slice (some ⟨w.heap.size + 1, 0, none⟩) (N * 64) (N * 64)) (List.replicate (N * 64) 0) := by
        unfold Own
        simpa using ho1
      obtain ⟨ao, cap, hv, h3, h4, h5, h6⟩ := hO.fresh
      refine bodyPost_ret (v := .tuple #[.agg #[.slice (some ⟨w.heap.size + 1, 0, none⟩) (N * 64) (N * 64)], .int .i64 0]) (by simp [results, Try.results35, go_sem, z0]) rfl ⟨_, rfl, ⟨ao, cap, hv, h3, h4, h5, ?_⟩, ?_⟩
      · rcases h6 with h6 | ⟨g, cur, rfl, hgb, hg, hl, ht⟩
        · exact .inl h6
        · have hge : g = w.heap.size + 1 := by simp at hv; omega
          exact .inr ⟨g, cur, rfl, hgb, (Below.heap_setCell w1 ⟨w.heap.size, 0, none⟩ _ g (by show g ≠ w.heap.size; omega)).trans hg, hl, ht⟩
      · exact (((Below.refl _ _).alloc (Nat.le_refl _) _).grown hg1 (by simp) (fun k hk => by cases hk)).setCell (by simp) _

/-- a disk in new memory -/
theorem twin_any (w : World) (ao : Option Addr) (d : List UInt8) (cap : Nat) (hd : Sl w ao d cap) (hl : d.length ≤ 140737488355328) :
    Calls Try.prog 33 #[.agg #[.slice ao d.length cap]] w fun e w' => ∃ ro rc, e = .returned (.agg #[.slice ro d.length rc]) ∧ Fresh w' w.heap.size (.slice ro d.length rc) d ∧ Below w.heap.size w w' := by
  have hb2 : ∀ o o', Below w.heap.size w ((w.alloc o).alloc o') := fun o o' => ((Below.refl _ _).alloc (Nat.le_refl _) _).alloc (by simp) _
  have hbs : ∀ o o', BsAt ((w.alloc o).alloc o') w.heap.size ao d := fun o o' => hd.at_.below (hb2 o o') (Nat.le_refl _)
  have HN : Hid (ao = none → cap = 0) := hd.hn
  clear hd
  go_enter Try.func33, Try.ntmps33
  go_wp2_with (at_builtin; refine app_bytes rfl (.const (.slice none 0 0)) (.tmp 4) rfl (w.heap.size + 1 + 1) _ [] (Own.nil _ _) rfl ao cap d _ rfl rfl w.heap.size HN.out (hbs _ _) (by simp; omega) (by simp) ?_; intro v2 w2 ho2 hg2; rw [List.nil_append] at ho2; obtain ⟨ro, rc, hv2, -⟩ := ho2.fresh.sl; subst hv2; have hb3 := hg2.below_nil; have z6 : w2.cell? ⟨w.heap.size + 1, 0, none⟩ = some (.slice none 0 0) := (hb3.cell (p := ⟨w.heap.size + 1, 0, none⟩) (by simp)).trans (by simp); have f6 : w2.frozen? ⟨w.heap.size + 1, 0, none⟩ = false := (hb3.frozen (p := ⟨w.heap.size + 1, 0, none⟩) (by simp)).trans (by simp))
  have z0 : (w2.setCell ⟨w.heap.size + 1, 0, none⟩ (.slice ro d.length rc)).cell? ⟨w.heap.size + 1, 0, none⟩ = some (.slice ro d.length rc) := World.cell?_setCell_same _ _ _ z6
  refine bodyPost_ret (v := .agg #[.slice ro d.length rc]) (by simp [results, Try.results33, go_sem, z0]) rfl ⟨ro, rc, rfl, ?_, ?_⟩
  · exact (ho2.fresh.store (w.heap.size + 1) 0 _ (by omega)).mono (by omega)
  · exact (below_alloc (below_alloc hb3)).setCell (by simp) _

theorem rblock_any (w : World) (b off : Nat) (d : List UInt8) (cap n : Nat) (hd : Sl w (some ⟨b, off, none⟩) d cap) (hn : 64 * n + 64 ≤ d.length) :
    Calls Try.prog 64 #[.agg #[.slice (some ⟨b, off, none⟩) d.length cap], .int .i64 n] w fun e w' => ∃ v', e = .returned v' ∧ Fresh w' w.heap.size v' ((d.drop (64 * n)).take 64) ∧ Below w.heap.size w w' := by
  have hlc := hd.hl
  have hcm := hd.hc
  obtain ⟨x, hx⟩ : ∃ x, x = (d.drop (64 * n)).take 64 := ⟨_, rfl⟩
  have hxl : x.length = 64 := by rw [hx]; simp; omega
  have hbs : ∀ o, BsAt (w.alloc o) w.heap.size (some ⟨b, off + n * 64, none⟩) x := fun o => by
    have := ((hd.at_.drop (64 * n)).take 64)
    rw [← hx] at this
    have h2 := this.below ((Below.refl w.heap.size w).alloc (Nat.le_refl _) o) (Nat.le_refl _)
    rw [Nat.mul_comm n 64]
    simpa [addr_add] using h2
  rw [← hx]
  clear hx hd
  go_enter Try.func64, Try.ntmps64
  go_wp2_with (at_builtin; refine app_bytes rfl (.const (.slice none 0 0)) (.tmp 12) rfl (w.heap.size + 1) _ [] (Own.nil _ _) rfl (some ⟨b, off + n * 64, none⟩) (cap - n * 64) x _ (by first | exact hxl.symm | (rw [hxl]; omega)) rfl w.heap.size (by intro e; cases e) (hbs _) (by rw [hxl]; decide) (by simp) ?_; intro v2 w2 ho2 hg2; rw [List.nil_append] at ho2)
  go_ret
  exact ⟨_, rfl, ho2.fresh.mono (by omega), below_alloc hg2.below_nil⟩
end Go.Proofs.Ytgfhjkphdmkmoab
