/-
  The contracts of a table's small methods, and of begin.
-/
import Derived.Test.YtlomciinkpecpaaTbMove
namespace Go.Proofs.Ytlomciinkpecpaa
open Go.RowKit
set_option linter.unusedSimpArgs false
set_option linter.unusedVariables false
set_option maxRecDepth 100000

theorem ptr_same (p : Nat) (W : World) : (binOp .eql 23 (.pointer (some ⟨p, 0, none⟩)) (.pointer (some ⟨p, 0, none⟩))).run Try.prog W = .ok (.bool true) W := by
  have h9 : (Op.equalIn (9999 + 1) 23 (.pointer (some ⟨p, 0, none⟩)) (.pointer (some ⟨p, 0, none⟩))).run Try.prog W = .ok true W := by
    have hse : (Go.sizeOf 39).run Try.prog W = .ok 6 W := by kernel_rfl
    rw [Op.equalIn]
    simp only [Sem.run_bind, run_underlying Try.underlying23, Result.andThen_ok]
    simp [hse, sameAddr]
  simp only [binOp]
  have : (Op.equal 23 (.pointer (some ⟨p, 0, none⟩)) (.pointer (some ⟨p, 0, none⟩))).run Try.prog W = .ok true W := h9
  simp [this]
theorem isMade_any (w : World) (p : Nat) (h : w.cell? ⟨p, 0, none⟩ = some (.pointer (some ⟨p, 0, none⟩))) :
    Calls Try.prog 25 #[.pointer (some ⟨p, 0, none⟩)] w fun e w' => e = .returned (.bool true) ∧ w' = w := by
  have hps := fun W => ptr_same p W
  go_enter Try.func25, Try.ntmps25
  go_wp2
  go_ret
  exact ⟨rfl, rfl⟩
theorem mayBe_any (w : World) (y : Nm) :
    Calls Try.prog 33 #[.agg #[.int .i64 y.tenant, .string y.key]] w fun e w' => e = .returned (.bool (decide y.ok)) ∧ w' = w.alloc (.cells #[.int .i64 y.tenant, .string y.key] 28) := by
  obtain ⟨t, k⟩ := y
  unfold Nm.ok
  simp only []
  by_cases h1 : 0 ≤ t
  · by_cases h2 : t < 4
    · by_cases h3 : 1 ≤ (k.size : Int)
      · by_cases h4 : (k.size : Int) ≤ 32
        · go_enter Try.func33, Try.ntmps33
          go_wp2
          go_ret
          exact ⟨by simp [h1, h2]; omega, rfl⟩
        · have h4' : decide ((k.size : Int) ≤ 32) = false := by simpa using h4
          go_enter Try.func33, Try.ntmps33
          go_wp2
          go_ret
          exact ⟨by simp [h1, h2]; omega, rfl⟩
      · have h3' : decide (1 ≤ (k.size : Int)) = false := by simpa using h3
        go_enter Try.func33, Try.ntmps33
        go_wp2
        go_ret
        exact ⟨by simp [h1, h2]; omega, rfl⟩
    · have h2' : decide (t < 4) = false := by simpa using h2
      go_enter Try.func33, Try.ntmps33
      go_wp2
      go_ret
      exact ⟨by simp [h1, h2], rfl⟩
  · have h1' : decide (0 ≤ t) = false := by simpa using h1
    have hz : decide (0 ≤ t ∧ t < 4 ∧ 1 ≤ k.size ∧ k.size ≤ 32) = false := decide_eq_false (fun h => h1 h.1)
    rw [hz]
    clear hz
    go_enter Try.func33, Try.ntmps33
    go_wp2
    go_ret
    exact ⟨rfl, rfl⟩
theorem TB.self {w : World} {base p : Nat} {T : List NU} {moved C : Nat} {F : Nat → Prop} (h : TB w base p T moved C F) : w.cell? ⟨p, 0, none⟩ = some (.pointer (some ⟨p, 0, none⟩)) ∧ w.cell? ⟨p, 4, none⟩ = some (.int .i64 (T.length : Nat)) ∧ w.cell? ⟨p, 5, none⟩ = some (.int .i64 moved) := by
  obtain ⟨blk, num, val, ents, next, h1, _⟩ := h
  exact ⟨h1.self, h1.manyc, h1.movedc⟩
theorem len_any (w : World) (base p : Nat) (T : List NU) (moved C : Nat) (F : Nat → Prop) (h : TB w base p T moved C F) :
    Calls Try.prog 14 #[.pointer (some ⟨p, 0, none⟩)] w fun e w' => e = .returned (.tuple #[.int .i64 (T.length : Nat), .int .i64 0]) ∧ w' = w := by
  obtain ⟨h0, h4, h5⟩ := h.self
  have HM := Hid.mk2 (isMade_any w p h0)
  go_enter Try.func14, Try.ntmps14
  go_wp2_with (go_at_call 25; refine HM.out.mono ?_; rintro e w1 ⟨rfl, hwq⟩; obtain rfl := hwq.symm)
  go_ret2
  exact ⟨rfl, rfl⟩
theorem moved_any (w : World) (base p : Nat) (T : List NU) (moved C : Nat) (F : Nat → Prop) (h : TB w base p T moved C F) :
    Calls Try.prog 15 #[.pointer (some ⟨p, 0, none⟩)] w fun e w' => e = .returned (.tuple #[.int .i64 moved, .int .i64 0]) ∧ w' = w := by
  obtain ⟨h0, h4, h5⟩ := h.self
  have HM := Hid.mk2 (isMade_any w p h0)
  go_enter Try.func15, Try.ntmps15
  go_wp2_with (go_at_call 25; refine HM.out.mono ?_; rintro e w1 ⟨rfl, hwq⟩; obtain rfl := hwq.symm)
  go_ret2
  exact ⟨rfl, rfl⟩
theorem begin_ok (w : World) (base p : Nat) (T : List NU) (moved0 C : Nat) (F : Nat → Prop) (h : TB w base p T moved0 C F) (hC : T.length ≤ C) (hC2 : C ≤ 200000) (y : Nm) (hy : y.ok) :
    Calls Try.prog 21 #[.pointer (some ⟨p, 0, none⟩), .agg #[.int .i64 y.tenant, .string y.key]] w fun e w' => e = .returned (.int .i64 0) ∧ ∃ moved F', moved ≤ 4 ∧ TB w' base p T moved C F' ∧ Kept F w w' ∧ ∀ k, F' k → F k ∨ w.heap.size ≤ k := by
  have HT := Hid.mk2 h
  have HM := Hid.mk2 (fun W (hb : Below w.heap.size w W) => isMade_any W p (h.below hb).self.1)
  have HY := Hid.mk2 (fun W => mayBe_any W y)
  rw [decide_eq_true hy] at HY
  have HMV := Hid.mk2 (fun W (hb : Below w.heap.size w W) => moveOn_any W base p T moved0 C F (h.below hb) hC hC2)
  clear h hy
  go_enter Try.func21, Try.ntmps21
  go_upto_region 1 with (fail)
  obtain ⟨w0, hw0⟩ : ∃ w0, w0 = w.alloc (Obj.cells #[.int .i64 y.tenant, .string y.key] 28) := ⟨_, rfl⟩
  rw [← hw0]
  have HB0 : Hid (Below w.heap.size w w0) := by rw [hw0]; exact (Below.refl _ _).alloc (Nat.le_refl _) _
  have a0 : w0.cell? ⟨w.heap.size, 0, none⟩ = some (.int .i64 y.tenant) := by rw [hw0]; simp
  have a1 : w0.cell? ⟨w.heap.size, 1, none⟩ = some (.string y.key) := by rw [hw0]; simp
  have y0 : w.heap.size ≤ w0.heap.size := HB0.out.size
  clear hw0
  go_upto_region 5 with (first
    | (go_at_call 25; refine (HM.out _ HB0.out).mono ?_; rintro e w1 ⟨rfl, hwq⟩; obtain rfl := hwq.symm)
    | (go_at_call 33; refine (HY.out _).mono ?_; rintro e w2 ⟨rfl, hwq⟩; have HB2 : Hid (Below w.heap.size w w2) := (by rw [hwq]; exact HB0.out.alloc HB0.out.size _); clear hwq))
  go_wp2_with (go_at_call 34; refine (HMV.out _ HB2.out).mono ?_; rintro e w3 ⟨rfl, moved, F', hm, hT3, hK3, hF3⟩)
  go_ret
  exact ⟨rfl, moved, F', hm, hT3, (Kept.below (F := F) HB2.out).trans hK3 (fun k hk => .inl hk), fun k hk => (hF3 k hk).imp id (fun g => Nat.le_trans HB2.out.size g)⟩
theorem begin_bad (w : World) (base p : Nat) (T : List NU) (moved0 C : Nat) (F : Nat → Prop) (h : TB w base p T moved0 C F) (y : Nm) (hy : ¬ y.ok) :
    Calls Try.prog 21 #[.pointer (some ⟨p, 0, none⟩), .agg #[.int .i64 y.tenant, .string y.key]] w fun e w' => e = .returned (.int .i64 8) ∧ Below w.heap.size w w' := by
  have HM := Hid.mk2 (fun W (hb : Below w.heap.size w W) => isMade_any W p (h.below hb).self.1)
  have HY := Hid.mk2 (fun W => mayBe_any W y)
  rw [decide_eq_false hy] at HY
  clear h hy
  go_enter Try.func21, Try.ntmps21
  go_upto_region 1 with (fail)
  obtain ⟨w0, hw0⟩ : ∃ w0, w0 = w.alloc (Obj.cells #[.int .i64 y.tenant, .string y.key] 28) := ⟨_, rfl⟩
  rw [← hw0]
  have HB0 : Hid (Below w.heap.size w w0) := by rw [hw0]; exact (Below.refl _ _).alloc (Nat.le_refl _) _
  have a0 : w0.cell? ⟨w.heap.size, 0, none⟩ = some (.int .i64 y.tenant) := by rw [hw0]; simp
  have a1 : w0.cell? ⟨w.heap.size, 1, none⟩ = some (.string y.key) := by rw [hw0]; simp
  clear hw0
  go_wp2_with (first
    | (go_at_call 25; refine (HM.out _ HB0.out).mono ?_; rintro e w1 ⟨rfl, hwq⟩; obtain rfl := hwq.symm)
    | (go_at_call 33; refine (HY.out _).mono ?_; rintro e w2 ⟨rfl, hwq⟩; have HB2 : Hid (Below w.heap.size w w2) := (by rw [hwq]; exact HB0.out.alloc HB0.out.size _); clear hwq))
  go_ret
  exact ⟨rfl, HB2.out⟩
end Go.Proofs.Ytlomciinkpecpaa
