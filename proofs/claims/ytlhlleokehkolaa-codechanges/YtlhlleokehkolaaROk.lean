/-
  The document's Change: its contract (written by tools/genrok.py).
-/
import Derived.Test.YtlhlleokehkolaaRNeq
import Derived.Deep.RegionHeld3
namespace Go.Proofs.Ytlhlleokehkolaa
open Go.RowKit
set_option linter.unusedSimpArgs false
set_option linter.unusedVariables false
set_option maxRecDepth 100000

theorem Hid.mk2 {p : Prop} (h : p) : Hid p := h
set_option maxHeartbeats 1000000 in
theorem refChange_ten (c : Chg) (w : World) (hb : bareC c = c) (hten : tenOk c.tenant = false) :
    Calls Try.prog 50 #[c.val] w fun e w' => e = .returned (.bool (chgOk c)) ∧ Below w.heap.size w w' := by
  have hok : chgOk c = false := by
    cases h : chgOk c with
    | false => rfl
    | true => rw [(bare_of_ok h).2] at hten; cases hten
  rw [hok]
  clear hok
  have hba := fun W => refBare_any c W
  rw [hb] at hba
  clear hb
  have hneq : ∀ W : World, (binOp .neq 41 (.agg #[.int .u8 (c.kind.toNat : Int), .int .i64 c.tenant, .string c.item.key, .string c.item.value, .int .u32 c.item.flags, .int .i64 c.item.til, .int .u64 c.item.unique, .string c.key, .int .u8 (c.why.toNat : Int), .int .i64 c.to, .bool c.primary]) (.agg #[.int .u8 (c.kind.toNat : Int), .int .i64 c.tenant, .string c.item.key, .string c.item.value, .int .u32 c.item.flags, .int .i64 c.item.til, .int .u64 c.item.unique, .string c.key, .int .u8 (c.why.toNat : Int), .int .i64 c.to, .bool c.primary])).run Try.prog W = .ok (.bool false) W := fun W => neq_same _ _ _ _ _ _ _ _ _ _ _ W
  obtain ⟨kind, tenant, item, key, why, to, primary⟩ := c
  unfold Chg.val Chg.cells bcell at hba
  unfold Chg.val Chg.cells bcell
  simp only [] at hba hneq hten ⊢
  have HBA : Hid (∀ W : World, Calls Try.prog 70 #[.agg #[.int .u8 (kind.toNat : Int), .int .i64 tenant, .string item.key, .string item.value, .int .u32 item.flags, .int .i64 item.til, .int .u64 item.unique, .string key, .int .u8 (why.toNat : Int), .int .i64 to, .bool primary]] W fun e w' => e = .returned (.agg #[.int .u8 (kind.toNat : Int), .int .i64 tenant, .string item.key, .string item.value, .int .u32 item.flags, .int .i64 item.til, .int .u64 item.unique, .string key, .int .u8 (why.toNat : Int), .int .i64 to, .bool primary]) ∧ Below W.heap.size W w') := hba
  clear hba
  obtain ⟨X, hX⟩ : ∃ X, X = w.heap.size := ⟨_, rfl⟩
  obtain ⟨w1, hw1⟩ : ∃ w1, w1 = w.alloc (Obj.cells #[.int .u8 (kind.toNat : Int), .int .i64 tenant, .string item.key, .string item.value, .int .u32 item.flags, .int .i64 item.til, .int .u64 item.unique, .string key, .int .u8 (why.toNat : Int), .int .i64 to, .bool primary] 41) := ⟨_, rfl⟩
  have HBX : Hid (∀ V, Below w1.heap.size w1 V → V.cell? ⟨X, 0, none⟩ = some (.int .u8 (kind.toNat : Int)) ∧ V.cell? ⟨X, 1, none⟩ = some (.int .i64 tenant) ∧ V.cell? ⟨X, 2, none⟩ = some (.string item.key) ∧ V.cell? ⟨X, 3, none⟩ = some (.string item.value) ∧ V.cell? ⟨X, 4, none⟩ = some (.int .u32 item.flags) ∧ V.cell? ⟨X, 5, none⟩ = some (.int .i64 item.til) ∧ V.cell? ⟨X, 6, none⟩ = some (.int .u64 item.unique) ∧ V.cell? ⟨X, 7, none⟩ = some (.string key) ∧ V.cell? ⟨X, 8, none⟩ = some (.int .u8 (why.toNat : Int)) ∧ V.cell? ⟨X, 9, none⟩ = some (.int .i64 to) ∧ V.cell? ⟨X, 10, none⟩ = some (.bool primary)) := by
    intro V hV
    rw [hw1] at hV
    have hc := box_late hX hV
    exact ⟨hc 0 _ rfl, hc 1 _ rfl, hc 2 _ rfl, hc 3 _ rfl, hc 4 _ rfl, hc 5 _ rfl, hc 6 _ rfl, hc 7 _ rfl, hc 8 _ rfl, hc 9 _ rfl, hc 10 _ rfl⟩
  have hb01 : Below w.heap.size w w1 := by rw [hw1]; exact alb _ _
  go_enter Try.func50, Try.ntmps50
  go_upto_region 1 with fail
  rw [← hw1, ← hX]
  clear hw1 hX
  have hbD : Below w1.heap.size w1 w1.drew := (Below.refl _ _).drew
  obtain ⟨k0, k1, k2, k3, k4, k5, k6, k7, k8, k9, k10⟩ := HBX.out w1.drew hbD
  obtain ⟨n0, n1, n2, n3, n4, n5, n6, n7, n8, n9, n10⟩ := HBX.out w1 (Below.refl _ _)
  go_region_held3 (fun W => W.cell? ⟨X, 0, none⟩ = some (.int .u8 (kind.toNat : Int)) ∧ W.cell? ⟨X, 1, none⟩ = some (.int .i64 tenant) ∧ W.cell? ⟨X, 2, none⟩ = some (.string item.key) ∧ W.cell? ⟨X, 3, none⟩ = some (.string item.value) ∧ W.cell? ⟨X, 4, none⟩ = some (.int .u32 item.flags) ∧ W.cell? ⟨X, 5, none⟩ = some (.int .i64 item.til) ∧ W.cell? ⟨X, 6, none⟩ = some (.int .u64 item.unique) ∧ W.cell? ⟨X, 7, none⟩ = some (.string key) ∧ W.cell? ⟨X, 8, none⟩ = some (.int .u8 (why.toNat : Int)) ∧ W.cell? ⟨X, 9, none⟩ = some (.int .i64 to) ∧ W.cell? ⟨X, 10, none⟩ = some (.bool primary)) (first | exact ⟨k0, k1, k2, k3, k4, k5, k6, k7, k8, k9, k10⟩ | exact ⟨n0, n1, n2, n3, n4, n5, n6, n7, n8, n9, n10⟩ | exact ⟨m0, m1, m2, m3, m4, m5, m6, m7, m8, m9, m10⟩)
    (first
      | (go_at_call 70; refine (HBA.out w1.drew).mono ?_; rintro e w2 ⟨rfl, hb2⟩; have hb12 : Below w1.heap.size w1 w2 := hbD.trans hb2; obtain ⟨m0, m1, m2, m3, m4, m5, m6, m7, m8, m9, m10⟩ := HBX.out w2 hb12)
      | (go_at_call 47; refine (refTenant_any _ _).mono ?_; rintro e w' ⟨rfl, rfl⟩; rw [hten]))
  go_wp2
  go_ret
  exact ⟨rfl, hb01.trans (hb12.mono hb01.size)⟩

set_option maxHeartbeats 1000000 in
theorem refChange3 (c : Chg) (w : World) (hb : bareC c = c) (hten : tenOk c.tenant = true) (hk : c.kind.toNat = 3) :
    Calls Try.prog 50 #[c.val] w fun e w' => e = .returned (.bool (chgOk c)) ∧ Below w.heap.size w w' := by
  have hok : chgOk c = (true) := by
    rw [ok_of_bare hb hten]
    unfold askK
    simp [hk]
  rw [hok]
  clear hok
  have hba := fun W => refBare_any c W
  rw [hb] at hba
  clear hb
  have hneq : ∀ W : World, (binOp .neq 41 (.agg #[.int .u8 (c.kind.toNat : Int), .int .i64 c.tenant, .string c.item.key, .string c.item.value, .int .u32 c.item.flags, .int .i64 c.item.til, .int .u64 c.item.unique, .string c.key, .int .u8 (c.why.toNat : Int), .int .i64 c.to, .bool c.primary]) (.agg #[.int .u8 (c.kind.toNat : Int), .int .i64 c.tenant, .string c.item.key, .string c.item.value, .int .u32 c.item.flags, .int .i64 c.item.til, .int .u64 c.item.unique, .string c.key, .int .u8 (c.why.toNat : Int), .int .i64 c.to, .bool c.primary])).run Try.prog W = .ok (.bool false) W := fun W => neq_same _ _ _ _ _ _ _ _ _ _ _ W
  obtain ⟨kind, tenant, item, key, why, to, primary⟩ := c
  unfold Chg.val Chg.cells bcell at hba
  unfold Chg.val Chg.cells bcell
  simp only [] at hba hneq hten ⊢
  have HBA : Hid (∀ W : World, Calls Try.prog 70 #[.agg #[.int .u8 (kind.toNat : Int), .int .i64 tenant, .string item.key, .string item.value, .int .u32 item.flags, .int .i64 item.til, .int .u64 item.unique, .string key, .int .u8 (why.toNat : Int), .int .i64 to, .bool primary]] W fun e w' => e = .returned (.agg #[.int .u8 (kind.toNat : Int), .int .i64 tenant, .string item.key, .string item.value, .int .u32 item.flags, .int .i64 item.til, .int .u64 item.unique, .string key, .int .u8 (why.toNat : Int), .int .i64 to, .bool primary]) ∧ Below W.heap.size W w') := hba
  clear hba
  simp only [] at hk
  have e1 : ((kind.toNat : Int) == 1) = false := by rw [hk]; rfl
  have e2 : ((kind.toNat : Int) == 2) = false := by rw [hk]; rfl
  have e3 : ((kind.toNat : Int) == 3) = true := by rw [hk]; rfl
  clear hk
  obtain ⟨X, hX⟩ : ∃ X, X = w.heap.size := ⟨_, rfl⟩
  obtain ⟨w1, hw1⟩ : ∃ w1, w1 = w.alloc (Obj.cells #[.int .u8 (kind.toNat : Int), .int .i64 tenant, .string item.key, .string item.value, .int .u32 item.flags, .int .i64 item.til, .int .u64 item.unique, .string key, .int .u8 (why.toNat : Int), .int .i64 to, .bool primary] 41) := ⟨_, rfl⟩
  have HBX : Hid (∀ V, Below w1.heap.size w1 V → V.cell? ⟨X, 0, none⟩ = some (.int .u8 (kind.toNat : Int)) ∧ V.cell? ⟨X, 1, none⟩ = some (.int .i64 tenant) ∧ V.cell? ⟨X, 2, none⟩ = some (.string item.key) ∧ V.cell? ⟨X, 3, none⟩ = some (.string item.value) ∧ V.cell? ⟨X, 4, none⟩ = some (.int .u32 item.flags) ∧ V.cell? ⟨X, 5, none⟩ = some (.int .i64 item.til) ∧ V.cell? ⟨X, 6, none⟩ = some (.int .u64 item.unique) ∧ V.cell? ⟨X, 7, none⟩ = some (.string key) ∧ V.cell? ⟨X, 8, none⟩ = some (.int .u8 (why.toNat : Int)) ∧ V.cell? ⟨X, 9, none⟩ = some (.int .i64 to) ∧ V.cell? ⟨X, 10, none⟩ = some (.bool primary)) := by
    intro V hV
    rw [hw1] at hV
    have hc := box_late hX hV
    exact ⟨hc 0 _ rfl, hc 1 _ rfl, hc 2 _ rfl, hc 3 _ rfl, hc 4 _ rfl, hc 5 _ rfl, hc 6 _ rfl, hc 7 _ rfl, hc 8 _ rfl, hc 9 _ rfl, hc 10 _ rfl⟩
  have hb01 : Below w.heap.size w w1 := by rw [hw1]; exact alb _ _
  go_enter Try.func50, Try.ntmps50
  go_upto_region 1 with fail
  rw [← hw1, ← hX]
  clear hw1 hX
  have hbD : Below w1.heap.size w1 w1.drew := (Below.refl _ _).drew
  obtain ⟨k0, k1, k2, k3, k4, k5, k6, k7, k8, k9, k10⟩ := HBX.out w1.drew hbD
  obtain ⟨n0, n1, n2, n3, n4, n5, n6, n7, n8, n9, n10⟩ := HBX.out w1 (Below.refl _ _)
  go_region_held3 (fun W => W.cell? ⟨X, 0, none⟩ = some (.int .u8 (kind.toNat : Int)) ∧ W.cell? ⟨X, 1, none⟩ = some (.int .i64 tenant) ∧ W.cell? ⟨X, 2, none⟩ = some (.string item.key) ∧ W.cell? ⟨X, 3, none⟩ = some (.string item.value) ∧ W.cell? ⟨X, 4, none⟩ = some (.int .u32 item.flags) ∧ W.cell? ⟨X, 5, none⟩ = some (.int .i64 item.til) ∧ W.cell? ⟨X, 6, none⟩ = some (.int .u64 item.unique) ∧ W.cell? ⟨X, 7, none⟩ = some (.string key) ∧ W.cell? ⟨X, 8, none⟩ = some (.int .u8 (why.toNat : Int)) ∧ W.cell? ⟨X, 9, none⟩ = some (.int .i64 to) ∧ W.cell? ⟨X, 10, none⟩ = some (.bool primary)) (first | exact ⟨k0, k1, k2, k3, k4, k5, k6, k7, k8, k9, k10⟩ | exact ⟨n0, n1, n2, n3, n4, n5, n6, n7, n8, n9, n10⟩ | exact ⟨m0, m1, m2, m3, m4, m5, m6, m7, m8, m9, m10⟩)
    (first
      | (go_at_call 70; refine (HBA.out w1.drew).mono ?_; rintro e w2 ⟨rfl, hb2⟩; have hb12 : Below w1.heap.size w1 w2 := hbD.trans hb2; obtain ⟨m0, m1, m2, m3, m4, m5, m6, m7, m8, m9, m10⟩ := HBX.out w2 hb12)
      | (go_at_call 47; refine (refTenant_any _ _).mono ?_; rintro e w' ⟨rfl, rfl⟩; rw [hten]))
  go_wp2
  go_ret
  exact ⟨rfl, hb01.trans (hb12.mono hb01.size)⟩

set_option maxHeartbeats 1000000 in
theorem refChange1 (c : Chg) (w : World) (hb : bareC c = c) (hten : tenOk c.tenant = true) (hk : c.kind.toNat = 1) :
    Calls Try.prog 50 #[c.val] w fun e w' => e = .returned (.bool (chgOk c)) ∧ Below w.heap.size w w' := by
  have hok : chgOk c = (itmOk c.item) := by
    rw [ok_of_bare hb hten]
    unfold askK
    simp [hk]
  rw [hok]
  clear hok
  have hba := fun W => refBare_any c W
  rw [hb] at hba
  clear hb
  have hneq : ∀ W : World, (binOp .neq 41 (.agg #[.int .u8 (c.kind.toNat : Int), .int .i64 c.tenant, .string c.item.key, .string c.item.value, .int .u32 c.item.flags, .int .i64 c.item.til, .int .u64 c.item.unique, .string c.key, .int .u8 (c.why.toNat : Int), .int .i64 c.to, .bool c.primary]) (.agg #[.int .u8 (c.kind.toNat : Int), .int .i64 c.tenant, .string c.item.key, .string c.item.value, .int .u32 c.item.flags, .int .i64 c.item.til, .int .u64 c.item.unique, .string c.key, .int .u8 (c.why.toNat : Int), .int .i64 c.to, .bool c.primary])).run Try.prog W = .ok (.bool false) W := fun W => neq_same _ _ _ _ _ _ _ _ _ _ _ W
  obtain ⟨kind, tenant, item, key, why, to, primary⟩ := c
  unfold Chg.val Chg.cells bcell at hba
  unfold Chg.val Chg.cells bcell
  simp only [] at hba hneq hten ⊢
  have HBA : Hid (∀ W : World, Calls Try.prog 70 #[.agg #[.int .u8 (kind.toNat : Int), .int .i64 tenant, .string item.key, .string item.value, .int .u32 item.flags, .int .i64 item.til, .int .u64 item.unique, .string key, .int .u8 (why.toNat : Int), .int .i64 to, .bool primary]] W fun e w' => e = .returned (.agg #[.int .u8 (kind.toNat : Int), .int .i64 tenant, .string item.key, .string item.value, .int .u32 item.flags, .int .i64 item.til, .int .u64 item.unique, .string key, .int .u8 (why.toNat : Int), .int .i64 to, .bool primary]) ∧ Below W.heap.size W w') := hba
  clear hba
  simp only [] at hk
  have e1 : ((kind.toNat : Int) == 1) = true := by rw [hk]; rfl
  clear hk
  obtain ⟨X, hX⟩ : ∃ X, X = w.heap.size := ⟨_, rfl⟩
  obtain ⟨w1, hw1⟩ : ∃ w1, w1 = w.alloc (Obj.cells #[.int .u8 (kind.toNat : Int), .int .i64 tenant, .string item.key, .string item.value, .int .u32 item.flags, .int .i64 item.til, .int .u64 item.unique, .string key, .int .u8 (why.toNat : Int), .int .i64 to, .bool primary] 41) := ⟨_, rfl⟩
  have HBX : Hid (∀ V, Below w1.heap.size w1 V → V.cell? ⟨X, 0, none⟩ = some (.int .u8 (kind.toNat : Int)) ∧ V.cell? ⟨X, 1, none⟩ = some (.int .i64 tenant) ∧ V.cell? ⟨X, 2, none⟩ = some (.string item.key) ∧ V.cell? ⟨X, 3, none⟩ = some (.string item.value) ∧ V.cell? ⟨X, 4, none⟩ = some (.int .u32 item.flags) ∧ V.cell? ⟨X, 5, none⟩ = some (.int .i64 item.til) ∧ V.cell? ⟨X, 6, none⟩ = some (.int .u64 item.unique) ∧ V.cell? ⟨X, 7, none⟩ = some (.string key) ∧ V.cell? ⟨X, 8, none⟩ = some (.int .u8 (why.toNat : Int)) ∧ V.cell? ⟨X, 9, none⟩ = some (.int .i64 to) ∧ V.cell? ⟨X, 10, none⟩ = some (.bool primary)) := by
    intro V hV
    rw [hw1] at hV
    have hc := box_late hX hV
    exact ⟨hc 0 _ rfl, hc 1 _ rfl, hc 2 _ rfl, hc 3 _ rfl, hc 4 _ rfl, hc 5 _ rfl, hc 6 _ rfl, hc 7 _ rfl, hc 8 _ rfl, hc 9 _ rfl, hc 10 _ rfl⟩
  have hb01 : Below w.heap.size w w1 := by rw [hw1]; exact alb _ _
  go_enter Try.func50, Try.ntmps50
  go_upto_region 1 with fail
  rw [← hw1, ← hX]
  clear hw1 hX
  have hbD : Below w1.heap.size w1 w1.drew := (Below.refl _ _).drew
  obtain ⟨k0, k1, k2, k3, k4, k5, k6, k7, k8, k9, k10⟩ := HBX.out w1.drew hbD
  obtain ⟨n0, n1, n2, n3, n4, n5, n6, n7, n8, n9, n10⟩ := HBX.out w1 (Below.refl _ _)
  go_region_held3 (fun W => W.cell? ⟨X, 0, none⟩ = some (.int .u8 (kind.toNat : Int)) ∧ W.cell? ⟨X, 1, none⟩ = some (.int .i64 tenant) ∧ W.cell? ⟨X, 2, none⟩ = some (.string item.key) ∧ W.cell? ⟨X, 3, none⟩ = some (.string item.value) ∧ W.cell? ⟨X, 4, none⟩ = some (.int .u32 item.flags) ∧ W.cell? ⟨X, 5, none⟩ = some (.int .i64 item.til) ∧ W.cell? ⟨X, 6, none⟩ = some (.int .u64 item.unique) ∧ W.cell? ⟨X, 7, none⟩ = some (.string key) ∧ W.cell? ⟨X, 8, none⟩ = some (.int .u8 (why.toNat : Int)) ∧ W.cell? ⟨X, 9, none⟩ = some (.int .i64 to) ∧ W.cell? ⟨X, 10, none⟩ = some (.bool primary)) (first | exact ⟨k0, k1, k2, k3, k4, k5, k6, k7, k8, k9, k10⟩ | exact ⟨n0, n1, n2, n3, n4, n5, n6, n7, n8, n9, n10⟩ | exact ⟨m0, m1, m2, m3, m4, m5, m6, m7, m8, m9, m10⟩)
    (first
      | (go_at_call 70; refine (HBA.out w1.drew).mono ?_; rintro e w2 ⟨rfl, hb2⟩; have hb12 : Below w1.heap.size w1 w2 := hbD.trans hb2; obtain ⟨m0, m1, m2, m3, m4, m5, m6, m7, m8, m9, m10⟩ := HBX.out w2 hb12)
      | (go_at_call 47; refine (refTenant_any _ _).mono ?_; rintro e w' ⟨rfl, rfl⟩; rw [hten]))
  have hit := fun W => refItem_any item W
  unfold Itm.cells at hit
  go_wp2_with (go_at_call 71; refine (hit _).mono ?_; rintro e w3 ⟨rfl, hb3⟩)
  go_ret
  exact ⟨rfl, hb01.trans ((hb12.trans (hb3.mono hb12.size)).mono hb01.size)⟩

set_option maxHeartbeats 1000000 in
theorem refChange2 (c : Chg) (w : World) (hb : bareC c = c) (hten : tenOk c.tenant = true) (hk : c.kind.toNat = 2) :
    Calls Try.prog 50 #[c.val] w fun e w' => e = .returned (.bool (chgOk c)) ∧ Below w.heap.size w w' := by
  have hok : chgOk c = (keyOk c.key && whyOk c.why.toNat) := by
    rw [ok_of_bare hb hten]
    unfold askK
    simp [hk]
  rw [hok]
  clear hok
  have hba := fun W => refBare_any c W
  rw [hb] at hba
  clear hb
  have hneq : ∀ W : World, (binOp .neq 41 (.agg #[.int .u8 (c.kind.toNat : Int), .int .i64 c.tenant, .string c.item.key, .string c.item.value, .int .u32 c.item.flags, .int .i64 c.item.til, .int .u64 c.item.unique, .string c.key, .int .u8 (c.why.toNat : Int), .int .i64 c.to, .bool c.primary]) (.agg #[.int .u8 (c.kind.toNat : Int), .int .i64 c.tenant, .string c.item.key, .string c.item.value, .int .u32 c.item.flags, .int .i64 c.item.til, .int .u64 c.item.unique, .string c.key, .int .u8 (c.why.toNat : Int), .int .i64 c.to, .bool c.primary])).run Try.prog W = .ok (.bool false) W := fun W => neq_same _ _ _ _ _ _ _ _ _ _ _ W
  obtain ⟨kind, tenant, item, key, why, to, primary⟩ := c
  unfold Chg.val Chg.cells bcell at hba
  unfold Chg.val Chg.cells bcell
  simp only [] at hba hneq hten ⊢
  have HBA : Hid (∀ W : World, Calls Try.prog 70 #[.agg #[.int .u8 (kind.toNat : Int), .int .i64 tenant, .string item.key, .string item.value, .int .u32 item.flags, .int .i64 item.til, .int .u64 item.unique, .string key, .int .u8 (why.toNat : Int), .int .i64 to, .bool primary]] W fun e w' => e = .returned (.agg #[.int .u8 (kind.toNat : Int), .int .i64 tenant, .string item.key, .string item.value, .int .u32 item.flags, .int .i64 item.til, .int .u64 item.unique, .string key, .int .u8 (why.toNat : Int), .int .i64 to, .bool primary]) ∧ Below W.heap.size W w') := hba
  clear hba
  simp only [] at hk
  have e1 : ((kind.toNat : Int) == 1) = false := by rw [hk]; rfl
  have e2 : ((kind.toNat : Int) == 2) = true := by rw [hk]; rfl
  clear hk
  obtain ⟨X, hX⟩ : ∃ X, X = w.heap.size := ⟨_, rfl⟩
  obtain ⟨w1, hw1⟩ : ∃ w1, w1 = w.alloc (Obj.cells #[.int .u8 (kind.toNat : Int), .int .i64 tenant, .string item.key, .string item.value, .int .u32 item.flags, .int .i64 item.til, .int .u64 item.unique, .string key, .int .u8 (why.toNat : Int), .int .i64 to, .bool primary] 41) := ⟨_, rfl⟩
  have HBX : Hid (∀ V, Below w1.heap.size w1 V → V.cell? ⟨X, 0, none⟩ = some (.int .u8 (kind.toNat : Int)) ∧ V.cell? ⟨X, 1, none⟩ = some (.int .i64 tenant) ∧ V.cell? ⟨X, 2, none⟩ = some (.string item.key) ∧ V.cell? ⟨X, 3, none⟩ = some (.string item.value) ∧ V.cell? ⟨X, 4, none⟩ = some (.int .u32 item.flags) ∧ V.cell? ⟨X, 5, none⟩ = some (.int .i64 item.til) ∧ V.cell? ⟨X, 6, none⟩ = some (.int .u64 item.unique) ∧ V.cell? ⟨X, 7, none⟩ = some (.string key) ∧ V.cell? ⟨X, 8, none⟩ = some (.int .u8 (why.toNat : Int)) ∧ V.cell? ⟨X, 9, none⟩ = some (.int .i64 to) ∧ V.cell? ⟨X, 10, none⟩ = some (.bool primary)) := by
    intro V hV
    rw [hw1] at hV
    have hc := box_late hX hV
    exact ⟨hc 0 _ rfl, hc 1 _ rfl, hc 2 _ rfl, hc 3 _ rfl, hc 4 _ rfl, hc 5 _ rfl, hc 6 _ rfl, hc 7 _ rfl, hc 8 _ rfl, hc 9 _ rfl, hc 10 _ rfl⟩
  have hb01 : Below w.heap.size w w1 := by rw [hw1]; exact alb _ _
  go_enter Try.func50, Try.ntmps50
  go_upto_region 1 with fail
  rw [← hw1, ← hX]
  clear hw1 hX
  have hbD : Below w1.heap.size w1 w1.drew := (Below.refl _ _).drew
  obtain ⟨k0, k1, k2, k3, k4, k5, k6, k7, k8, k9, k10⟩ := HBX.out w1.drew hbD
  obtain ⟨n0, n1, n2, n3, n4, n5, n6, n7, n8, n9, n10⟩ := HBX.out w1 (Below.refl _ _)
  go_region_held3 (fun W => W.cell? ⟨X, 0, none⟩ = some (.int .u8 (kind.toNat : Int)) ∧ W.cell? ⟨X, 1, none⟩ = some (.int .i64 tenant) ∧ W.cell? ⟨X, 2, none⟩ = some (.string item.key) ∧ W.cell? ⟨X, 3, none⟩ = some (.string item.value) ∧ W.cell? ⟨X, 4, none⟩ = some (.int .u32 item.flags) ∧ W.cell? ⟨X, 5, none⟩ = some (.int .i64 item.til) ∧ W.cell? ⟨X, 6, none⟩ = some (.int .u64 item.unique) ∧ W.cell? ⟨X, 7, none⟩ = some (.string key) ∧ W.cell? ⟨X, 8, none⟩ = some (.int .u8 (why.toNat : Int)) ∧ W.cell? ⟨X, 9, none⟩ = some (.int .i64 to) ∧ W.cell? ⟨X, 10, none⟩ = some (.bool primary)) (first | exact ⟨k0, k1, k2, k3, k4, k5, k6, k7, k8, k9, k10⟩ | exact ⟨n0, n1, n2, n3, n4, n5, n6, n7, n8, n9, n10⟩ | exact ⟨m0, m1, m2, m3, m4, m5, m6, m7, m8, m9, m10⟩)
    (first
      | (go_at_call 70; refine (HBA.out w1.drew).mono ?_; rintro e w2 ⟨rfl, hb2⟩; have hb12 : Below w1.heap.size w1 w2 := hbD.trans hb2; obtain ⟨m0, m1, m2, m3, m4, m5, m6, m7, m8, m9, m10⟩ := HBX.out w2 hb12)
      | (go_at_call 47; refine (refTenant_any _ _).mono ?_; rintro e w' ⟨rfl, rfl⟩; rw [hten]))
  cases hkk : keyOk key with
  | false =>
    go_wp2_with (go_at_call 48; refine (refKey_any _ _).mono ?_; rintro e w' ⟨rfl, rfl⟩; rw [hkk])
    go_ret
    exact ⟨by simp [hkk], hb01.trans (hb12.mono hb01.size)⟩
  | true =>
    have hw : (whyOk why.toNat = true ∧ ((why.toNat : Int) == 1) = true) ∨ (whyOk why.toNat = true ∧ ((why.toNat : Int) == 1) = false ∧ ((why.toNat : Int) == 2) = true) ∨ (whyOk why.toNat = false ∧ ((why.toNat : Int) == 1) = false ∧ ((why.toNat : Int) == 2) = false) := by
      unfold whyOk
      by_cases h1 : why.toNat = 1
      · exact .inl ⟨by simp [h1], by simp [h1]⟩
      · by_cases h2 : why.toNat = 2
        · exact .inr (.inl ⟨by simp [h2], by simp [h2], by simp [h2]⟩)
        · exact .inr (.inr ⟨by simp [h1, h2], by simp; omega, by simp; omega⟩)
    rcases hw with ⟨a, b⟩ | ⟨a, b, c⟩ | ⟨a, b, c⟩
    all_goals
      have HA := Hid.mk2 a
      clear a
      go_wp2_with (go_at_call 48; refine (refKey_any _ _).mono ?_; rintro e w' ⟨rfl, rfl⟩; rw [hkk])
      go_ret
      exact ⟨by rw [hkk, HA.out]; rfl, hb01.trans (hb12.mono hb01.size)⟩

set_option maxHeartbeats 1000000 in
theorem refChange4 (c : Chg) (w : World) (hb : bareC c = c) (hten : tenOk c.tenant = true) (hk : c.kind.toNat = 4) :
    Calls Try.prog 50 #[c.val] w fun e w' => e = .returned (.bool (chgOk c)) ∧ Below w.heap.size w w' := by
  have hok : chgOk c = (decide (0 ≤ c.to) && decide (c.to ≤ 1099511627776)) := by
    rw [ok_of_bare hb hten]
    unfold askK
    simp [hk]
  rw [hok]
  clear hok
  have hba := fun W => refBare_any c W
  rw [hb] at hba
  clear hb
  have hneq : ∀ W : World, (binOp .neq 41 (.agg #[.int .u8 (c.kind.toNat : Int), .int .i64 c.tenant, .string c.item.key, .string c.item.value, .int .u32 c.item.flags, .int .i64 c.item.til, .int .u64 c.item.unique, .string c.key, .int .u8 (c.why.toNat : Int), .int .i64 c.to, .bool c.primary]) (.agg #[.int .u8 (c.kind.toNat : Int), .int .i64 c.tenant, .string c.item.key, .string c.item.value, .int .u32 c.item.flags, .int .i64 c.item.til, .int .u64 c.item.unique, .string c.key, .int .u8 (c.why.toNat : Int), .int .i64 c.to, .bool c.primary])).run Try.prog W = .ok (.bool false) W := fun W => neq_same _ _ _ _ _ _ _ _ _ _ _ W
  obtain ⟨kind, tenant, item, key, why, to, primary⟩ := c
  unfold Chg.val Chg.cells bcell at hba
  unfold Chg.val Chg.cells bcell
  simp only [] at hba hneq hten ⊢
  have HBA : Hid (∀ W : World, Calls Try.prog 70 #[.agg #[.int .u8 (kind.toNat : Int), .int .i64 tenant, .string item.key, .string item.value, .int .u32 item.flags, .int .i64 item.til, .int .u64 item.unique, .string key, .int .u8 (why.toNat : Int), .int .i64 to, .bool primary]] W fun e w' => e = .returned (.agg #[.int .u8 (kind.toNat : Int), .int .i64 tenant, .string item.key, .string item.value, .int .u32 item.flags, .int .i64 item.til, .int .u64 item.unique, .string key, .int .u8 (why.toNat : Int), .int .i64 to, .bool primary]) ∧ Below W.heap.size W w') := hba
  clear hba
  simp only [] at hk
  have e1 : ((kind.toNat : Int) == 1) = false := by rw [hk]; rfl
  have e2 : ((kind.toNat : Int) == 2) = false := by rw [hk]; rfl
  have e3 : ((kind.toNat : Int) == 3) = false := by rw [hk]; rfl
  have e4 : ((kind.toNat : Int) == 4) = true := by rw [hk]; rfl
  clear hk
  obtain ⟨X, hX⟩ : ∃ X, X = w.heap.size := ⟨_, rfl⟩
  obtain ⟨w1, hw1⟩ : ∃ w1, w1 = w.alloc (Obj.cells #[.int .u8 (kind.toNat : Int), .int .i64 tenant, .string item.key, .string item.value, .int .u32 item.flags, .int .i64 item.til, .int .u64 item.unique, .string key, .int .u8 (why.toNat : Int), .int .i64 to, .bool primary] 41) := ⟨_, rfl⟩
  have HBX : Hid (∀ V, Below w1.heap.size w1 V → V.cell? ⟨X, 0, none⟩ = some (.int .u8 (kind.toNat : Int)) ∧ V.cell? ⟨X, 1, none⟩ = some (.int .i64 tenant) ∧ V.cell? ⟨X, 2, none⟩ = some (.string item.key) ∧ V.cell? ⟨X, 3, none⟩ = some (.string item.value) ∧ V.cell? ⟨X, 4, none⟩ = some (.int .u32 item.flags) ∧ V.cell? ⟨X, 5, none⟩ = some (.int .i64 item.til) ∧ V.cell? ⟨X, 6, none⟩ = some (.int .u64 item.unique) ∧ V.cell? ⟨X, 7, none⟩ = some (.string key) ∧ V.cell? ⟨X, 8, none⟩ = some (.int .u8 (why.toNat : Int)) ∧ V.cell? ⟨X, 9, none⟩ = some (.int .i64 to) ∧ V.cell? ⟨X, 10, none⟩ = some (.bool primary)) := by
    intro V hV
    rw [hw1] at hV
    have hc := box_late hX hV
    exact ⟨hc 0 _ rfl, hc 1 _ rfl, hc 2 _ rfl, hc 3 _ rfl, hc 4 _ rfl, hc 5 _ rfl, hc 6 _ rfl, hc 7 _ rfl, hc 8 _ rfl, hc 9 _ rfl, hc 10 _ rfl⟩
  have hb01 : Below w.heap.size w w1 := by rw [hw1]; exact alb _ _
  go_enter Try.func50, Try.ntmps50
  go_upto_region 1 with fail
  rw [← hw1, ← hX]
  clear hw1 hX
  have hbD : Below w1.heap.size w1 w1.drew := (Below.refl _ _).drew
  obtain ⟨k0, k1, k2, k3, k4, k5, k6, k7, k8, k9, k10⟩ := HBX.out w1.drew hbD
  obtain ⟨n0, n1, n2, n3, n4, n5, n6, n7, n8, n9, n10⟩ := HBX.out w1 (Below.refl _ _)
  go_region_held3 (fun W => W.cell? ⟨X, 0, none⟩ = some (.int .u8 (kind.toNat : Int)) ∧ W.cell? ⟨X, 1, none⟩ = some (.int .i64 tenant) ∧ W.cell? ⟨X, 2, none⟩ = some (.string item.key) ∧ W.cell? ⟨X, 3, none⟩ = some (.string item.value) ∧ W.cell? ⟨X, 4, none⟩ = some (.int .u32 item.flags) ∧ W.cell? ⟨X, 5, none⟩ = some (.int .i64 item.til) ∧ W.cell? ⟨X, 6, none⟩ = some (.int .u64 item.unique) ∧ W.cell? ⟨X, 7, none⟩ = some (.string key) ∧ W.cell? ⟨X, 8, none⟩ = some (.int .u8 (why.toNat : Int)) ∧ W.cell? ⟨X, 9, none⟩ = some (.int .i64 to) ∧ W.cell? ⟨X, 10, none⟩ = some (.bool primary)) (first | exact ⟨k0, k1, k2, k3, k4, k5, k6, k7, k8, k9, k10⟩ | exact ⟨n0, n1, n2, n3, n4, n5, n6, n7, n8, n9, n10⟩ | exact ⟨m0, m1, m2, m3, m4, m5, m6, m7, m8, m9, m10⟩)
    (first
      | (go_at_call 70; refine (HBA.out w1.drew).mono ?_; rintro e w2 ⟨rfl, hb2⟩; have hb12 : Below w1.heap.size w1 w2 := hbD.trans hb2; obtain ⟨m0, m1, m2, m3, m4, m5, m6, m7, m8, m9, m10⟩ := HBX.out w2 hb12)
      | (go_at_call 47; refine (refTenant_any _ _).mono ?_; rintro e w' ⟨rfl, rfl⟩; rw [hten]))
  by_cases g0 : 0 ≤ to
  · by_cases g1 : to ≤ 1099511627776
    · go_wp2
      go_ret
      exact ⟨by simp [g0, g1], hb01.trans (hb12.mono hb01.size)⟩
    · have g1' : decide (to ≤ 1099511627776) = false := by simp; omega
      go_wp2
      go_ret
      exact ⟨by simp [g1], hb01.trans (hb12.mono hb01.size)⟩
  · have g0' : decide (0 ≤ to) = false := by simp; omega
    go_wp2
    go_ret
    exact ⟨by simp [g0], hb01.trans (hb12.mono hb01.size)⟩

set_option maxHeartbeats 1000000 in
theorem refChange5 (c : Chg) (w : World) (hb : bareC c = c) (hten : tenOk c.tenant = true) (hk : c.kind.toNat = 5) :
    Calls Try.prog 50 #[c.val] w fun e w' => e = .returned (.bool (chgOk c)) ∧ Below w.heap.size w w' := by
  have hok : chgOk c = (decide (0 ≤ c.to) && decide (c.to ≤ 16)) := by
    rw [ok_of_bare hb hten]
    unfold askK
    simp [hk]
  rw [hok]
  clear hok
  have hba := fun W => refBare_any c W
  rw [hb] at hba
  clear hb
  have hneq : ∀ W : World, (binOp .neq 41 (.agg #[.int .u8 (c.kind.toNat : Int), .int .i64 c.tenant, .string c.item.key, .string c.item.value, .int .u32 c.item.flags, .int .i64 c.item.til, .int .u64 c.item.unique, .string c.key, .int .u8 (c.why.toNat : Int), .int .i64 c.to, .bool c.primary]) (.agg #[.int .u8 (c.kind.toNat : Int), .int .i64 c.tenant, .string c.item.key, .string c.item.value, .int .u32 c.item.flags, .int .i64 c.item.til, .int .u64 c.item.unique, .string c.key, .int .u8 (c.why.toNat : Int), .int .i64 c.to, .bool c.primary])).run Try.prog W = .ok (.bool false) W := fun W => neq_same _ _ _ _ _ _ _ _ _ _ _ W
  obtain ⟨kind, tenant, item, key, why, to, primary⟩ := c
  unfold Chg.val Chg.cells bcell at hba
  unfold Chg.val Chg.cells bcell
  simp only [] at hba hneq hten ⊢
  have HBA : Hid (∀ W : World, Calls Try.prog 70 #[.agg #[.int .u8 (kind.toNat : Int), .int .i64 tenant, .string item.key, .string item.value, .int .u32 item.flags, .int .i64 item.til, .int .u64 item.unique, .string key, .int .u8 (why.toNat : Int), .int .i64 to, .bool primary]] W fun e w' => e = .returned (.agg #[.int .u8 (kind.toNat : Int), .int .i64 tenant, .string item.key, .string item.value, .int .u32 item.flags, .int .i64 item.til, .int .u64 item.unique, .string key, .int .u8 (why.toNat : Int), .int .i64 to, .bool primary]) ∧ Below W.heap.size W w') := hba
  clear hba
  simp only [] at hk
  have e1 : ((kind.toNat : Int) == 1) = false := by rw [hk]; rfl
  have e2 : ((kind.toNat : Int) == 2) = false := by rw [hk]; rfl
  have e3 : ((kind.toNat : Int) == 3) = false := by rw [hk]; rfl
  have e4 : ((kind.toNat : Int) == 4) = false := by rw [hk]; rfl
  have e5 : ((kind.toNat : Int) == 5) = true := by rw [hk]; rfl
  clear hk
  obtain ⟨X, hX⟩ : ∃ X, X = w.heap.size := ⟨_, rfl⟩
  obtain ⟨w1, hw1⟩ : ∃ w1, w1 = w.alloc (Obj.cells #[.int .u8 (kind.toNat : Int), .int .i64 tenant, .string item.key, .string item.value, .int .u32 item.flags, .int .i64 item.til, .int .u64 item.unique, .string key, .int .u8 (why.toNat : Int), .int .i64 to, .bool primary] 41) := ⟨_, rfl⟩
  have HBX : Hid (∀ V, Below w1.heap.size w1 V → V.cell? ⟨X, 0, none⟩ = some (.int .u8 (kind.toNat : Int)) ∧ V.cell? ⟨X, 1, none⟩ = some (.int .i64 tenant) ∧ V.cell? ⟨X, 2, none⟩ = some (.string item.key) ∧ V.cell? ⟨X, 3, none⟩ = some (.string item.value) ∧ V.cell? ⟨X, 4, none⟩ = some (.int .u32 item.flags) ∧ V.cell? ⟨X, 5, none⟩ = some (.int .i64 item.til) ∧ V.cell? ⟨X, 6, none⟩ = some (.int .u64 item.unique) ∧ V.cell? ⟨X, 7, none⟩ = some (.string key) ∧ V.cell? ⟨X, 8, none⟩ = some (.int .u8 (why.toNat : Int)) ∧ V.cell? ⟨X, 9, none⟩ = some (.int .i64 to) ∧ V.cell? ⟨X, 10, none⟩ = some (.bool primary)) := by
    intro V hV
    rw [hw1] at hV
    have hc := box_late hX hV
    exact ⟨hc 0 _ rfl, hc 1 _ rfl, hc 2 _ rfl, hc 3 _ rfl, hc 4 _ rfl, hc 5 _ rfl, hc 6 _ rfl, hc 7 _ rfl, hc 8 _ rfl, hc 9 _ rfl, hc 10 _ rfl⟩
  have hb01 : Below w.heap.size w w1 := by rw [hw1]; exact alb _ _
  go_enter Try.func50, Try.ntmps50
  go_upto_region 1 with fail
  rw [← hw1, ← hX]
  clear hw1 hX
  have hbD : Below w1.heap.size w1 w1.drew := (Below.refl _ _).drew
  obtain ⟨k0, k1, k2, k3, k4, k5, k6, k7, k8, k9, k10⟩ := HBX.out w1.drew hbD
  obtain ⟨n0, n1, n2, n3, n4, n5, n6, n7, n8, n9, n10⟩ := HBX.out w1 (Below.refl _ _)
  go_region_held3 (fun W => W.cell? ⟨X, 0, none⟩ = some (.int .u8 (kind.toNat : Int)) ∧ W.cell? ⟨X, 1, none⟩ = some (.int .i64 tenant) ∧ W.cell? ⟨X, 2, none⟩ = some (.string item.key) ∧ W.cell? ⟨X, 3, none⟩ = some (.string item.value) ∧ W.cell? ⟨X, 4, none⟩ = some (.int .u32 item.flags) ∧ W.cell? ⟨X, 5, none⟩ = some (.int .i64 item.til) ∧ W.cell? ⟨X, 6, none⟩ = some (.int .u64 item.unique) ∧ W.cell? ⟨X, 7, none⟩ = some (.string key) ∧ W.cell? ⟨X, 8, none⟩ = some (.int .u8 (why.toNat : Int)) ∧ W.cell? ⟨X, 9, none⟩ = some (.int .i64 to) ∧ W.cell? ⟨X, 10, none⟩ = some (.bool primary)) (first | exact ⟨k0, k1, k2, k3, k4, k5, k6, k7, k8, k9, k10⟩ | exact ⟨n0, n1, n2, n3, n4, n5, n6, n7, n8, n9, n10⟩ | exact ⟨m0, m1, m2, m3, m4, m5, m6, m7, m8, m9, m10⟩)
    (first
      | (go_at_call 70; refine (HBA.out w1.drew).mono ?_; rintro e w2 ⟨rfl, hb2⟩; have hb12 : Below w1.heap.size w1 w2 := hbD.trans hb2; obtain ⟨m0, m1, m2, m3, m4, m5, m6, m7, m8, m9, m10⟩ := HBX.out w2 hb12)
      | (go_at_call 47; refine (refTenant_any _ _).mono ?_; rintro e w' ⟨rfl, rfl⟩; rw [hten]))
  by_cases g0 : 0 ≤ to
  · by_cases g1 : to ≤ 16
    · go_wp2
      go_ret
      exact ⟨by simp [g0, g1], hb01.trans (hb12.mono hb01.size)⟩
    · have g1' : decide (to ≤ 16) = false := by simp; omega
      go_wp2
      go_ret
      exact ⟨by simp [g1], hb01.trans (hb12.mono hb01.size)⟩
  · have g0' : decide (0 ≤ to) = false := by simp; omega
    go_wp2
    go_ret
    exact ⟨by simp [g0], hb01.trans (hb12.mono hb01.size)⟩

set_option maxHeartbeats 1000000 in
theorem refChange6 (c : Chg) (w : World) (hb : bareC c = c) (hten : tenOk c.tenant = true) (hk : c.kind.toNat = 6) :
    Calls Try.prog 50 #[c.val] w fun e w' => e = .returned (.bool (chgOk c)) ∧ Below w.heap.size w w' := by
  have hok : chgOk c = (decide (0 ≤ c.to) && decide (c.to ≤ 2147483647)) := by
    rw [ok_of_bare hb hten]
    unfold askK
    simp [hk]
  rw [hok]
  clear hok
  have hba := fun W => refBare_any c W
  rw [hb] at hba
  clear hb
  have hneq : ∀ W : World, (binOp .neq 41 (.agg #[.int .u8 (c.kind.toNat : Int), .int .i64 c.tenant, .string c.item.key, .string c.item.value, .int .u32 c.item.flags, .int .i64 c.item.til, .int .u64 c.item.unique, .string c.key, .int .u8 (c.why.toNat : Int), .int .i64 c.to, .bool c.primary]) (.agg #[.int .u8 (c.kind.toNat : Int), .int .i64 c.tenant, .string c.item.key, .string c.item.value, .int .u32 c.item.flags, .int .i64 c.item.til, .int .u64 c.item.unique, .string c.key, .int .u8 (c.why.toNat : Int), .int .i64 c.to, .bool c.primary])).run Try.prog W = .ok (.bool false) W := fun W => neq_same _ _ _ _ _ _ _ _ _ _ _ W
  obtain ⟨kind, tenant, item, key, why, to, primary⟩ := c
  unfold Chg.val Chg.cells bcell at hba
  unfold Chg.val Chg.cells bcell
  simp only [] at hba hneq hten ⊢
  have HBA : Hid (∀ W : World, Calls Try.prog 70 #[.agg #[.int .u8 (kind.toNat : Int), .int .i64 tenant, .string item.key, .string item.value, .int .u32 item.flags, .int .i64 item.til, .int .u64 item.unique, .string key, .int .u8 (why.toNat : Int), .int .i64 to, .bool primary]] W fun e w' => e = .returned (.agg #[.int .u8 (kind.toNat : Int), .int .i64 tenant, .string item.key, .string item.value, .int .u32 item.flags, .int .i64 item.til, .int .u64 item.unique, .string key, .int .u8 (why.toNat : Int), .int .i64 to, .bool primary]) ∧ Below W.heap.size W w') := hba
  clear hba
  simp only [] at hk
  have e1 : ((kind.toNat : Int) == 1) = false := by rw [hk]; rfl
  have e2 : ((kind.toNat : Int) == 2) = false := by rw [hk]; rfl
  have e3 : ((kind.toNat : Int) == 3) = false := by rw [hk]; rfl
  have e4 : ((kind.toNat : Int) == 4) = false := by rw [hk]; rfl
  have e5 : ((kind.toNat : Int) == 5) = false := by rw [hk]; rfl
  have e6 : ((kind.toNat : Int) == 6) = true := by rw [hk]; rfl
  clear hk
  obtain ⟨X, hX⟩ : ∃ X, X = w.heap.size := ⟨_, rfl⟩
  obtain ⟨w1, hw1⟩ : ∃ w1, w1 = w.alloc (Obj.cells #[.int .u8 (kind.toNat : Int), .int .i64 tenant, .string item.key, .string item.value, .int .u32 item.flags, .int .i64 item.til, .int .u64 item.unique, .string key, .int .u8 (why.toNat : Int), .int .i64 to, .bool primary] 41) := ⟨_, rfl⟩
  have HBX : Hid (∀ V, Below w1.heap.size w1 V → V.cell? ⟨X, 0, none⟩ = some (.int .u8 (kind.toNat : Int)) ∧ V.cell? ⟨X, 1, none⟩ = some (.int .i64 tenant) ∧ V.cell? ⟨X, 2, none⟩ = some (.string item.key) ∧ V.cell? ⟨X, 3, none⟩ = some (.string item.value) ∧ V.cell? ⟨X, 4, none⟩ = some (.int .u32 item.flags) ∧ V.cell? ⟨X, 5, none⟩ = some (.int .i64 item.til) ∧ V.cell? ⟨X, 6, none⟩ = some (.int .u64 item.unique) ∧ V.cell? ⟨X, 7, none⟩ = some (.string key) ∧ V.cell? ⟨X, 8, none⟩ = some (.int .u8 (why.toNat : Int)) ∧ V.cell? ⟨X, 9, none⟩ = some (.int .i64 to) ∧ V.cell? ⟨X, 10, none⟩ = some (.bool primary)) := by
    intro V hV
    rw [hw1] at hV
    have hc := box_late hX hV
    exact ⟨hc 0 _ rfl, hc 1 _ rfl, hc 2 _ rfl, hc 3 _ rfl, hc 4 _ rfl, hc 5 _ rfl, hc 6 _ rfl, hc 7 _ rfl, hc 8 _ rfl, hc 9 _ rfl, hc 10 _ rfl⟩
  have hb01 : Below w.heap.size w w1 := by rw [hw1]; exact alb _ _
  go_enter Try.func50, Try.ntmps50
  go_upto_region 1 with fail
  rw [← hw1, ← hX]
  clear hw1 hX
  have hbD : Below w1.heap.size w1 w1.drew := (Below.refl _ _).drew
  obtain ⟨k0, k1, k2, k3, k4, k5, k6, k7, k8, k9, k10⟩ := HBX.out w1.drew hbD
  obtain ⟨n0, n1, n2, n3, n4, n5, n6, n7, n8, n9, n10⟩ := HBX.out w1 (Below.refl _ _)
  go_region_held3 (fun W => W.cell? ⟨X, 0, none⟩ = some (.int .u8 (kind.toNat : Int)) ∧ W.cell? ⟨X, 1, none⟩ = some (.int .i64 tenant) ∧ W.cell? ⟨X, 2, none⟩ = some (.string item.key) ∧ W.cell? ⟨X, 3, none⟩ = some (.string item.value) ∧ W.cell? ⟨X, 4, none⟩ = some (.int .u32 item.flags) ∧ W.cell? ⟨X, 5, none⟩ = some (.int .i64 item.til) ∧ W.cell? ⟨X, 6, none⟩ = some (.int .u64 item.unique) ∧ W.cell? ⟨X, 7, none⟩ = some (.string key) ∧ W.cell? ⟨X, 8, none⟩ = some (.int .u8 (why.toNat : Int)) ∧ W.cell? ⟨X, 9, none⟩ = some (.int .i64 to) ∧ W.cell? ⟨X, 10, none⟩ = some (.bool primary)) (first | exact ⟨k0, k1, k2, k3, k4, k5, k6, k7, k8, k9, k10⟩ | exact ⟨n0, n1, n2, n3, n4, n5, n6, n7, n8, n9, n10⟩ | exact ⟨m0, m1, m2, m3, m4, m5, m6, m7, m8, m9, m10⟩)
    (first
      | (go_at_call 70; refine (HBA.out w1.drew).mono ?_; rintro e w2 ⟨rfl, hb2⟩; have hb12 : Below w1.heap.size w1 w2 := hbD.trans hb2; obtain ⟨m0, m1, m2, m3, m4, m5, m6, m7, m8, m9, m10⟩ := HBX.out w2 hb12)
      | (go_at_call 47; refine (refTenant_any _ _).mono ?_; rintro e w' ⟨rfl, rfl⟩; rw [hten]))
  by_cases g0 : 0 ≤ to
  · by_cases g1 : to ≤ 2147483647
    · go_wp2
      go_ret
      exact ⟨by simp [g0, g1], hb01.trans (hb12.mono hb01.size)⟩
    · have g1' : decide (to ≤ 2147483647) = false := by simp; omega
      go_wp2
      go_ret
      exact ⟨by simp [g1], hb01.trans (hb12.mono hb01.size)⟩
  · have g0' : decide (0 ≤ to) = false := by simp; omega
    go_wp2
    go_ret
    exact ⟨by simp [g0], hb01.trans (hb12.mono hb01.size)⟩

set_option maxHeartbeats 1000000 in
theorem refChange7 (c : Chg) (w : World) (hb : bareC c = c) (hten : tenOk c.tenant = true) (hk : c.kind.toNat = 7) :
    Calls Try.prog 50 #[c.val] w fun e w' => e = .returned (.bool (chgOk c)) ∧ Below w.heap.size w w' := by
  have hok : chgOk c = (decide (0 ≤ c.to) && decide (c.to ≤ 2147483647)) := by
    rw [ok_of_bare hb hten]
    unfold askK
    simp [hk]
  rw [hok]
  clear hok
  have hba := fun W => refBare_any c W
  rw [hb] at hba
  clear hb
  have hneq : ∀ W : World, (binOp .neq 41 (.agg #[.int .u8 (c.kind.toNat : Int), .int .i64 c.tenant, .string c.item.key, .string c.item.value, .int .u32 c.item.flags, .int .i64 c.item.til, .int .u64 c.item.unique, .string c.key, .int .u8 (c.why.toNat : Int), .int .i64 c.to, .bool c.primary]) (.agg #[.int .u8 (c.kind.toNat : Int), .int .i64 c.tenant, .string c.item.key, .string c.item.value, .int .u32 c.item.flags, .int .i64 c.item.til, .int .u64 c.item.unique, .string c.key, .int .u8 (c.why.toNat : Int), .int .i64 c.to, .bool c.primary])).run Try.prog W = .ok (.bool false) W := fun W => neq_same _ _ _ _ _ _ _ _ _ _ _ W
  obtain ⟨kind, tenant, item, key, why, to, primary⟩ := c
  unfold Chg.val Chg.cells bcell at hba
  unfold Chg.val Chg.cells bcell
  simp only [] at hba hneq hten ⊢
  have HBA : Hid (∀ W : World, Calls Try.prog 70 #[.agg #[.int .u8 (kind.toNat : Int), .int .i64 tenant, .string item.key, .string item.value, .int .u32 item.flags, .int .i64 item.til, .int .u64 item.unique, .string key, .int .u8 (why.toNat : Int), .int .i64 to, .bool primary]] W fun e w' => e = .returned (.agg #[.int .u8 (kind.toNat : Int), .int .i64 tenant, .string item.key, .string item.value, .int .u32 item.flags, .int .i64 item.til, .int .u64 item.unique, .string key, .int .u8 (why.toNat : Int), .int .i64 to, .bool primary]) ∧ Below W.heap.size W w') := hba
  clear hba
  simp only [] at hk
  have e1 : ((kind.toNat : Int) == 1) = false := by rw [hk]; rfl
  have e2 : ((kind.toNat : Int) == 2) = false := by rw [hk]; rfl
  have e3 : ((kind.toNat : Int) == 3) = false := by rw [hk]; rfl
  have e4 : ((kind.toNat : Int) == 4) = false := by rw [hk]; rfl
  have e5 : ((kind.toNat : Int) == 5) = false := by rw [hk]; rfl
  have e6 : ((kind.toNat : Int) == 6) = false := by rw [hk]; rfl
  have e7 : ((kind.toNat : Int) == 7) = true := by rw [hk]; rfl
  clear hk
  obtain ⟨X, hX⟩ : ∃ X, X = w.heap.size := ⟨_, rfl⟩
  obtain ⟨w1, hw1⟩ : ∃ w1, w1 = w.alloc (Obj.cells #[.int .u8 (kind.toNat : Int), .int .i64 tenant, .string item.key, .string item.value, .int .u32 item.flags, .int .i64 item.til, .int .u64 item.unique, .string key, .int .u8 (why.toNat : Int), .int .i64 to, .bool primary] 41) := ⟨_, rfl⟩
  have HBX : Hid (∀ V, Below w1.heap.size w1 V → V.cell? ⟨X, 0, none⟩ = some (.int .u8 (kind.toNat : Int)) ∧ V.cell? ⟨X, 1, none⟩ = some (.int .i64 tenant) ∧ V.cell? ⟨X, 2, none⟩ = some (.string item.key) ∧ V.cell? ⟨X, 3, none⟩ = some (.string item.value) ∧ V.cell? ⟨X, 4, none⟩ = some (.int .u32 item.flags) ∧ V.cell? ⟨X, 5, none⟩ = some (.int .i64 item.til) ∧ V.cell? ⟨X, 6, none⟩ = some (.int .u64 item.unique) ∧ V.cell? ⟨X, 7, none⟩ = some (.string key) ∧ V.cell? ⟨X, 8, none⟩ = some (.int .u8 (why.toNat : Int)) ∧ V.cell? ⟨X, 9, none⟩ = some (.int .i64 to) ∧ V.cell? ⟨X, 10, none⟩ = some (.bool primary)) := by
    intro V hV
    rw [hw1] at hV
    have hc := box_late hX hV
    exact ⟨hc 0 _ rfl, hc 1 _ rfl, hc 2 _ rfl, hc 3 _ rfl, hc 4 _ rfl, hc 5 _ rfl, hc 6 _ rfl, hc 7 _ rfl, hc 8 _ rfl, hc 9 _ rfl, hc 10 _ rfl⟩
  have hb01 : Below w.heap.size w w1 := by rw [hw1]; exact alb _ _
  go_enter Try.func50, Try.ntmps50
  go_upto_region 1 with fail
  rw [← hw1, ← hX]
  clear hw1 hX
  have hbD : Below w1.heap.size w1 w1.drew := (Below.refl _ _).drew
  obtain ⟨k0, k1, k2, k3, k4, k5, k6, k7, k8, k9, k10⟩ := HBX.out w1.drew hbD
  obtain ⟨n0, n1, n2, n3, n4, n5, n6, n7, n8, n9, n10⟩ := HBX.out w1 (Below.refl _ _)
  go_region_held3 (fun W => W.cell? ⟨X, 0, none⟩ = some (.int .u8 (kind.toNat : Int)) ∧ W.cell? ⟨X, 1, none⟩ = some (.int .i64 tenant) ∧ W.cell? ⟨X, 2, none⟩ = some (.string item.key) ∧ W.cell? ⟨X, 3, none⟩ = some (.string item.value) ∧ W.cell? ⟨X, 4, none⟩ = some (.int .u32 item.flags) ∧ W.cell? ⟨X, 5, none⟩ = some (.int .i64 item.til) ∧ W.cell? ⟨X, 6, none⟩ = some (.int .u64 item.unique) ∧ W.cell? ⟨X, 7, none⟩ = some (.string key) ∧ W.cell? ⟨X, 8, none⟩ = some (.int .u8 (why.toNat : Int)) ∧ W.cell? ⟨X, 9, none⟩ = some (.int .i64 to) ∧ W.cell? ⟨X, 10, none⟩ = some (.bool primary)) (first | exact ⟨k0, k1, k2, k3, k4, k5, k6, k7, k8, k9, k10⟩ | exact ⟨n0, n1, n2, n3, n4, n5, n6, n7, n8, n9, n10⟩ | exact ⟨m0, m1, m2, m3, m4, m5, m6, m7, m8, m9, m10⟩)
    (first
      | (go_at_call 70; refine (HBA.out w1.drew).mono ?_; rintro e w2 ⟨rfl, hb2⟩; have hb12 : Below w1.heap.size w1 w2 := hbD.trans hb2; obtain ⟨m0, m1, m2, m3, m4, m5, m6, m7, m8, m9, m10⟩ := HBX.out w2 hb12)
      | (go_at_call 47; refine (refTenant_any _ _).mono ?_; rintro e w' ⟨rfl, rfl⟩; rw [hten]))
  by_cases g0 : 0 ≤ to
  · by_cases g1 : to ≤ 2147483647
    · go_wp2
      go_ret
      exact ⟨by simp [g0, g1], hb01.trans (hb12.mono hb01.size)⟩
    · have g1' : decide (to ≤ 2147483647) = false := by simp; omega
      go_wp2
      go_ret
      exact ⟨by simp [g1], hb01.trans (hb12.mono hb01.size)⟩
  · have g0' : decide (0 ≤ to) = false := by simp; omega
    go_wp2
    go_ret
    exact ⟨by simp [g0], hb01.trans (hb12.mono hb01.size)⟩

set_option maxHeartbeats 1000000 in
theorem refChange0 (c : Chg) (w : World) (hb : bareC c = c) (hten : tenOk c.tenant = true) (hk : ∀ i, 1 ≤ i → i ≤ 7 → ¬ c.kind.toNat = i) :
    Calls Try.prog 50 #[c.val] w fun e w' => e = .returned (.bool (chgOk c)) ∧ Below w.heap.size w w' := by
  have hok : chgOk c = false := by
    rw [ok_of_bare hb hten]
    unfold askK
    simp [hk 1 (by omega) (by omega), hk 2 (by omega) (by omega), hk 3 (by omega) (by omega), hk 4 (by omega) (by omega), hk 5 (by omega) (by omega), hk 6 (by omega) (by omega), hk 7 (by omega) (by omega)]
  rw [hok]
  clear hok
  have hba := fun W => refBare_any c W
  rw [hb] at hba
  clear hb
  have hneq : ∀ W : World, (binOp .neq 41 (.agg #[.int .u8 (c.kind.toNat : Int), .int .i64 c.tenant, .string c.item.key, .string c.item.value, .int .u32 c.item.flags, .int .i64 c.item.til, .int .u64 c.item.unique, .string c.key, .int .u8 (c.why.toNat : Int), .int .i64 c.to, .bool c.primary]) (.agg #[.int .u8 (c.kind.toNat : Int), .int .i64 c.tenant, .string c.item.key, .string c.item.value, .int .u32 c.item.flags, .int .i64 c.item.til, .int .u64 c.item.unique, .string c.key, .int .u8 (c.why.toNat : Int), .int .i64 c.to, .bool c.primary])).run Try.prog W = .ok (.bool false) W := fun W => neq_same _ _ _ _ _ _ _ _ _ _ _ W
  obtain ⟨kind, tenant, item, key, why, to, primary⟩ := c
  unfold Chg.val Chg.cells bcell at hba
  unfold Chg.val Chg.cells bcell
  simp only [] at hba hneq hten ⊢
  have HBA : Hid (∀ W : World, Calls Try.prog 70 #[.agg #[.int .u8 (kind.toNat : Int), .int .i64 tenant, .string item.key, .string item.value, .int .u32 item.flags, .int .i64 item.til, .int .u64 item.unique, .string key, .int .u8 (why.toNat : Int), .int .i64 to, .bool primary]] W fun e w' => e = .returned (.agg #[.int .u8 (kind.toNat : Int), .int .i64 tenant, .string item.key, .string item.value, .int .u32 item.flags, .int .i64 item.til, .int .u64 item.unique, .string key, .int .u8 (why.toNat : Int), .int .i64 to, .bool primary]) ∧ Below W.heap.size W w') := hba
  clear hba
  simp only [] at hk
  have e1 : ((kind.toNat : Int) == 1) = false := by have := hk 1 (by omega) (by omega); simp; omega
  have e2 : ((kind.toNat : Int) == 2) = false := by have := hk 2 (by omega) (by omega); simp; omega
  have e3 : ((kind.toNat : Int) == 3) = false := by have := hk 3 (by omega) (by omega); simp; omega
  have e4 : ((kind.toNat : Int) == 4) = false := by have := hk 4 (by omega) (by omega); simp; omega
  have e5 : ((kind.toNat : Int) == 5) = false := by have := hk 5 (by omega) (by omega); simp; omega
  have e6 : ((kind.toNat : Int) == 6) = false := by have := hk 6 (by omega) (by omega); simp; omega
  have e7 : ((kind.toNat : Int) == 7) = false := by have := hk 7 (by omega) (by omega); simp; omega
  clear hk
  obtain ⟨X, hX⟩ : ∃ X, X = w.heap.size := ⟨_, rfl⟩
  obtain ⟨w1, hw1⟩ : ∃ w1, w1 = w.alloc (Obj.cells #[.int .u8 (kind.toNat : Int), .int .i64 tenant, .string item.key, .string item.value, .int .u32 item.flags, .int .i64 item.til, .int .u64 item.unique, .string key, .int .u8 (why.toNat : Int), .int .i64 to, .bool primary] 41) := ⟨_, rfl⟩
  have HBX : Hid (∀ V, Below w1.heap.size w1 V → V.cell? ⟨X, 0, none⟩ = some (.int .u8 (kind.toNat : Int)) ∧ V.cell? ⟨X, 1, none⟩ = some (.int .i64 tenant) ∧ V.cell? ⟨X, 2, none⟩ = some (.string item.key) ∧ V.cell? ⟨X, 3, none⟩ = some (.string item.value) ∧ V.cell? ⟨X, 4, none⟩ = some (.int .u32 item.flags) ∧ V.cell? ⟨X, 5, none⟩ = some (.int .i64 item.til) ∧ V.cell? ⟨X, 6, none⟩ = some (.int .u64 item.unique) ∧ V.cell? ⟨X, 7, none⟩ = some (.string key) ∧ V.cell? ⟨X, 8, none⟩ = some (.int .u8 (why.toNat : Int)) ∧ V.cell? ⟨X, 9, none⟩ = some (.int .i64 to) ∧ V.cell? ⟨X, 10, none⟩ = some (.bool primary)) := by
    intro V hV
    rw [hw1] at hV
    have hc := box_late hX hV
    exact ⟨hc 0 _ rfl, hc 1 _ rfl, hc 2 _ rfl, hc 3 _ rfl, hc 4 _ rfl, hc 5 _ rfl, hc 6 _ rfl, hc 7 _ rfl, hc 8 _ rfl, hc 9 _ rfl, hc 10 _ rfl⟩
  have hb01 : Below w.heap.size w w1 := by rw [hw1]; exact alb _ _
  go_enter Try.func50, Try.ntmps50
  go_upto_region 1 with fail
  rw [← hw1, ← hX]
  clear hw1 hX
  have hbD : Below w1.heap.size w1 w1.drew := (Below.refl _ _).drew
  obtain ⟨k0, k1, k2, k3, k4, k5, k6, k7, k8, k9, k10⟩ := HBX.out w1.drew hbD
  obtain ⟨n0, n1, n2, n3, n4, n5, n6, n7, n8, n9, n10⟩ := HBX.out w1 (Below.refl _ _)
  go_region_held3 (fun W => W.cell? ⟨X, 0, none⟩ = some (.int .u8 (kind.toNat : Int)) ∧ W.cell? ⟨X, 1, none⟩ = some (.int .i64 tenant) ∧ W.cell? ⟨X, 2, none⟩ = some (.string item.key) ∧ W.cell? ⟨X, 3, none⟩ = some (.string item.value) ∧ W.cell? ⟨X, 4, none⟩ = some (.int .u32 item.flags) ∧ W.cell? ⟨X, 5, none⟩ = some (.int .i64 item.til) ∧ W.cell? ⟨X, 6, none⟩ = some (.int .u64 item.unique) ∧ W.cell? ⟨X, 7, none⟩ = some (.string key) ∧ W.cell? ⟨X, 8, none⟩ = some (.int .u8 (why.toNat : Int)) ∧ W.cell? ⟨X, 9, none⟩ = some (.int .i64 to) ∧ W.cell? ⟨X, 10, none⟩ = some (.bool primary)) (first | exact ⟨k0, k1, k2, k3, k4, k5, k6, k7, k8, k9, k10⟩ | exact ⟨n0, n1, n2, n3, n4, n5, n6, n7, n8, n9, n10⟩ | exact ⟨m0, m1, m2, m3, m4, m5, m6, m7, m8, m9, m10⟩)
    (first
      | (go_at_call 70; refine (HBA.out w1.drew).mono ?_; rintro e w2 ⟨rfl, hb2⟩; have hb12 : Below w1.heap.size w1 w2 := hbD.trans hb2; obtain ⟨m0, m1, m2, m3, m4, m5, m6, m7, m8, m9, m10⟩ := HBX.out w2 hb12)
      | (go_at_call 47; refine (refTenant_any _ _).mono ?_; rintro e w' ⟨rfl, rfl⟩; rw [hten]))
  go_wp2
  go_ret
  exact ⟨rfl, hb01.trans (hb12.mono hb01.size)⟩

end Go.Proofs.Ytlhlleokehkolaa
