/-
  The document's Item, ItemBytes and one: their contracts (written by tools/genrchg.py).
-/
import Derived.Test.YtlhlleokehkolaaRCmd2
import Derived.Test.YtlhlleokehkolaaRec3
namespace Go.Proofs.Ytlhlleokehkolaa
open Go.RowKit
set_option linter.unusedSimpArgs false
set_option linter.unusedVariables false
set_option maxRecDepth 100000

theorem refItem_any (x : Itm) (w : World) :
    Calls Try.prog 71 #[.agg x.cells.toArray] w fun e w' => e = .returned (.bool (itmOk x)) ∧ Below w.heap.size w w' := by
  obtain ⟨key, value, flags, til, unique⟩ := x
  unfold Itm.cells itmOk momOk
  simp only []
  cases hk : keyOk key with
  | false =>
    go_enter Try.func71, Try.ntmps71
    go_wp2_with (go_at_call 48; refine (refKey_any _ _).mono ?_; rintro e w' ⟨rfl, rfl⟩; rw [hk])
    go_ret
    exact ⟨by simp [*], (Below.refl _ _).alloc (Nat.le_refl _) _⟩
  | true =>
    by_cases h1 : value.size ≤ 512
    · have h1' : (value.size : Int) ≤ 512 := by omega
      by_cases h2 : 0 ≤ til
      · by_cases h3 : til ≤ 1099511627776
        · have HX : Hid (value.size ≤ 512) := h1
          clear h1
          go_enter Try.func71, Try.ntmps71
          go_wp2_with (go_at_call 48; refine (refKey_any _ _).mono ?_; rintro e w' ⟨rfl, rfl⟩; rw [hk])
          go_ret
          exact ⟨by have := HX.out; simp [*], (Below.refl _ _).alloc (Nat.le_refl _) _⟩
        · have h3' : decide (til ≤ 1099511627776) = false := by simp; omega
          have HX : Hid (value.size ≤ 512) := h1
          clear h1
          go_enter Try.func71, Try.ntmps71
          go_wp2_with (go_at_call 48; refine (refKey_any _ _).mono ?_; rintro e w' ⟨rfl, rfl⟩; rw [hk])
          go_ret
          exact ⟨by have := HX.out; simp [*], (Below.refl _ _).alloc (Nat.le_refl _) _⟩
      · have h2' : decide (0 ≤ til) = false := by simp; omega
        have HX : Hid (value.size ≤ 512) := h1
        clear h1
        go_enter Try.func71, Try.ntmps71
        go_wp2_with (go_at_call 48; refine (refKey_any _ _).mono ?_; rintro e w' ⟨rfl, rfl⟩; rw [hk])
        go_ret
        exact ⟨by have := HX.out; simp [*], (Below.refl _ _).alloc (Nat.le_refl _) _⟩
    · have h1' : decide ((value.size : Int) ≤ 512) = false := by simp; omega
      have HX : Hid (¬ value.size ≤ 512) := h1
      clear h1
      go_enter Try.func71, Try.ntmps71
      go_wp2_with (go_at_call 48; refine (refKey_any _ _).mono ?_; rintro e w' ⟨rfl, rfl⟩; rw [hk])
      go_ret
      exact ⟨by have := HX.out; simp [*], (Below.refl _ _).alloc (Nat.le_refl _) _⟩

theorem box_late {w V : World} {X : Nat} {cs : Array Value} {t : TypeId} (hX : X = w.heap.size) (hV : Below (w.alloc (.cells cs t)).heap.size (w.alloc (.cells cs t)) V) : ∀ j v, cs[j]? = some v → V.cell? ⟨X, j, none⟩ = some v := by
  intro j v hv
  rw [hX]
  refine (hV.cell (p := ⟨w.heap.size, j, none⟩) (by simp)).trans ?_
  rw [World.cell?_alloc_at _ _ _ _ rfl]
  exact hv

set_option maxHeartbeats 1000000 in
theorem refItemBytes_any (x : Itm) (w : World) (hok : itmOk x = true) (hf : x.flags ≤ 4294967295) (hu : Fits x.unique) :
    Calls Try.prog 72 #[.agg x.cells.toArray] w fun e w' => ∃ v', e = .returned v' ∧ Own w' w.heap.size v' (itmB x) ∧ Below w.heap.size w w' := by
  obtain ⟨k1, k2, k3, k4⟩ := itmOk_parts hok
  have k5 := keyOk_le k1
  obtain ⟨key, value, flags, til, unique⟩ := x
  unfold Itm.cells
  simp only [] at k2 k3 k4 k5 hf hu ⊢
  obtain ⟨u, rfl⟩ : ∃ u : Nat, til = (u : Int) := ⟨til.toNat, by omega⟩
  have fflags : Fits flags := by unfold Fits; omega
  have funique : Fits unique := hu
  have gu : u ≤ 9223372036854775807 := by omega
  have ww4 : IntKind.u64.wrap (flags : Int) = (flags : Int) := by rw [u64_wrap_eq]; omega
  have l1 := small_len key.size
  have l2 := small_len value.size
  have l3 := small_len flags
  have l4 := small_len u
  have l5 := small_len unique
  have lk : (text key.data.toList).length ≤ 42 := by simp [text]; omega
  have lv : (text value.data.toList).length ≤ 522 := by simp [text]; omega
  have hck := fun W => refText_any key W (by omega)
  have hcv := fun W => refText_any value W (by omega)
  have HEQ : Hid (itmB ⟨key, value, flags, u, unique⟩ = text key.data.toList ++ text value.data.toList ++ small flags ++ small u ++ small unique) := by simp [itmB, Hid]
  rw [HEQ.out]
  obtain ⟨TK, hTK⟩ : ∃ TK, TK = text key.data.toList := ⟨_, rfl⟩
  obtain ⟨TV, hTV⟩ : ∃ TV, TV = text value.data.toList := ⟨_, rfl⟩
  rw [← hTK] at lk hck ⊢
  rw [← hTV] at lv hcv ⊢
  have HTK : Hid (∀ W : World, Calls Try.prog 23 #[.string key] W fun e w' => ∃ v', e = .returned v' ∧ Own w' W.heap.size v' TK ∧ Below W.heap.size W w') := hck
  have HTV : Hid (∀ W : World, Calls Try.prog 23 #[.string value] W fun e w' => ∃ v', e = .returned v' ∧ Own w' W.heap.size v' TV ∧ Below W.heap.size W w') := hcv
  clear hck hcv hTK hTV hok k1 HEQ
  obtain ⟨X, hX⟩ : ∃ X, X = w.heap.size := ⟨_, rfl⟩
  obtain ⟨w1, hw1⟩ : ∃ w1, w1 = w.alloc (Obj.cells #[.string key, .string value, .int .u32 flags, .int .i64 u, .int .u64 unique] 39) := ⟨_, rfl⟩
  have HBX : Hid (∀ V, Below w1.heap.size w1 V → V.cell? ⟨X, 0, none⟩ = some (.string key) ∧ V.cell? ⟨X, 1, none⟩ = some (.string value) ∧ V.cell? ⟨X, 2, none⟩ = some (.int .u32 flags) ∧ V.cell? ⟨X, 3, none⟩ = some (.int .i64 u) ∧ V.cell? ⟨X, 4, none⟩ = some (.int .u64 unique)) := by
    intro V hV
    rw [hw1] at hV
    have hc := box_late hX hV
    exact ⟨hc 0 _ rfl, hc 1 _ rfl, hc 2 _ rfl, hc 3 _ rfl, hc 4 _ rfl⟩
  have hb01 : Below w.heap.size w w1 := by rw [hw1]; exact alb _ _
  go_enter Try.func72, Try.ntmps72
  go_upto_region 1 with fail
  rw [← hw1, ← hX]
  clear hw1 hX
  obtain ⟨c1_0, c1_1, c1_2, c1_3, c1_4⟩ := HBX.out w1 (Below.refl _ _)
  go_wp2_with (first
    | (at_builtin; refine app_own rfl (.tmp 24) (.tmp 27) rfl w1.heap.size _ _ r6 rfl _ _ _ p6 rfl (by first | omega | (simp; omega)) s6 ?_; intro v6 w6 ho6 hg6; have hb6 := (hb5.trans (q6.mono hb5.size)).trans (hg6.below r6 s6); obtain ⟨c6_0, c6_1, c6_2, c6_3, c6_4⟩ := HBX.out w6 hb6)
    | (go_at_call 22; refine (refSmall_any unique w5 funique).mono ?_; rintro e x6 ⟨y6, rfl, p6, q6⟩; have r6 := ho5.kept q6; have s6 : w1.heap.size ≤ x6.heap.size := Nat.le_trans hb5.size q6.size)
    | (at_builtin; refine app_own rfl (.tmp 18) (.tmp 22) rfl w1.heap.size _ _ r5 rfl _ _ _ p5 rfl (by first | omega | (simp; omega)) s5 ?_; intro v5 w5 ho5 hg5; have hb5 := (hb4.trans (q5.mono hb4.size)).trans (hg5.below r5 s5); obtain ⟨c5_0, c5_1, c5_2, c5_3, c5_4⟩ := HBX.out w5 hb5)
    | (go_at_call 49; refine (refSmall1 w4 u gu).mono ?_; rintro e x5 ⟨y5, rfl, p5, q5⟩; have r5 := ho4.kept q5; have s5 : w1.heap.size ≤ x5.heap.size := Nat.le_trans hb4.size q5.size)
    | (at_builtin; refine app_own rfl (.tmp 12) (.tmp 16) rfl w1.heap.size _ _ r4 rfl _ _ _ p4 rfl (by first | omega | (simp; omega)) s4 ?_; intro v4 w4 ho4 hg4; have hb4 := (hb3.trans (q4.mono hb3.size)).trans (hg4.below r4 s4); obtain ⟨c4_0, c4_1, c4_2, c4_3, c4_4⟩ := HBX.out w4 hb4)
    | (go_at_call 22; refine (refSmall_any flags w3 fflags).mono ?_; rintro e x4 ⟨y4, rfl, p4, q4⟩; have r4 := ho3.kept q4; have s4 : w1.heap.size ≤ x4.heap.size := Nat.le_trans hb3.size q4.size)
    | (at_builtin; refine app_own rfl (.tmp 7) (.tmp 10) rfl w1.heap.size _ _ r3 rfl _ _ _ p3 rfl (by first | omega | (simp; omega)) s3 ?_; intro v3 w3 ho3 hg3; have hb3 := (hb2.trans (q3.mono hb2.size)).trans (hg3.below r3 s3); obtain ⟨c3_0, c3_1, c3_2, c3_3, c3_4⟩ := HBX.out w3 hb3)
    | (go_at_call 23; refine (HTV.out w2).mono ?_; rintro e x3 ⟨y3, rfl, p3, q3⟩; have r3 := ho2.kept q3; have s3 : w1.heap.size ≤ x3.heap.size := Nat.le_trans hb2.size q3.size)
    | (go_at_call 23; refine (HTK.out w1).mono ?_; rintro e w2 ⟨v2, rfl, ho2, hb2⟩; obtain ⟨c2_0, c2_1, c2_2, c2_3, c2_4⟩ := HBX.out w2 hb2))
  go_ret
  exact ⟨_, rfl, by simpa using ho6.mono hb01.size, hb01.trans (hb6.mono hb01.size)⟩

set_option maxHeartbeats 1000000 in
theorem refOne1 (c : Chg) (w : World) (hok : chgOk c = true) (hg : c.Good) (hk : c.kind.toNat = 1) :
    Calls Try.prog 51 #[c.val] w fun e w' => ∃ v', e = .returned v' ∧ Own w' w.heap.size v' (chgB c) ∧ Below w.heap.size w w' := by
  obtain ⟨h0, h1⟩ := chgOk_ten' hok
  obtain ⟨o0, o1⟩ := chgOk_to hok
  have o2 : c.to ≤ 1099511627776 := by
    have : mostTo c.kind.toNat ≤ 1099511627776 := by unfold mostTo; rw [hk]; decide
    omega
  have hit := fun W => refItemBytes_any c.item W (chgOk_1 hok hk).1 hg.flags hg.unique
  have lit := itmB_len c.item (keyOk_le (itmOk_parts (chgOk_1 hok hk).1).1).2 (itmOk_parts (chgOk_1 hok hk).1).2.1
  obtain ⟨kind, tenant, item, key, why, to, primary⟩ := c
  unfold Chg.val Chg.cells bcell
  simp only [] at hk h0 h1 o0 o1 o2 hit lit  ⊢
  obtain ⟨t, rfl⟩ : ∃ t : Nat, tenant = (t : Int) := ⟨tenant.toNat, by omega⟩
  obtain ⟨o, rfl⟩ : ∃ o : Nat, to = (o : Int) := ⟨to.toNat, by omega⟩
  have gt : t ≤ 9223372036854775807 := by omega
  have go : o ≤ 9223372036854775807 := by omega
  have l1 := small_len t
  have l2 := small_len o
  have HEQ : Hid (chgB ⟨kind, t, item, key, why, o, primary⟩ = [kind] ++ small t ++ (itmB item)) := by
    show _ = _
    unfold chgB
    simp [hk, hasTen]
  rw [HEQ.out]
  obtain ⟨TI, hTI⟩ : ∃ TI, TI = itmB item := ⟨_, rfl⟩
  unfold Itm.cells at hit
  rw [← hTI] at hit lit ⊢
  have HIT : Hid (∀ W : World, Calls Try.prog 72 #[.agg #[.string item.key, .string item.value, .int .u32 item.flags, .int .i64 item.til, .int .u64 item.unique]] W fun e w' => ∃ v', e = .returned v' ∧ Own w' W.heap.size v' TI ∧ Below W.heap.size W w') := hit
  clear hit hTI
  have hki : ∀ j : Int, ((kind.toNat : Int) == j) = ((1 : Int) == j) := fun j => by rw [hk]; rfl
  have HK : Hid (kind.toNat = 1) := hk
  clear HEQ hok hg o1 hk
  have e1 : ((kind.toNat : Int) == 1) = true := by rw [hki]; rfl
  clear hki
  obtain ⟨X, hX⟩ : ∃ X, X = w.heap.size := ⟨_, rfl⟩
  obtain ⟨w1, hw1⟩ : ∃ w1, w1 = w.alloc (Obj.cells #[.int .u8 (kind.toNat : Int), .int .i64 t, .string item.key, .string item.value, .int .u32 item.flags, .int .i64 item.til, .int .u64 item.unique, .string key, .int .u8 (why.toNat : Int), .int .i64 o, .bool primary] 41) := ⟨_, rfl⟩
  have HBX : Hid (∀ V, Below w1.heap.size w1 V → V.cell? ⟨X, 0, none⟩ = some (.int .u8 (kind.toNat : Int)) ∧ V.cell? ⟨X, 1, none⟩ = some (.int .i64 t) ∧ V.cell? ⟨X, 2, none⟩ = some (.string item.key) ∧ V.cell? ⟨X, 3, none⟩ = some (.string item.value) ∧ V.cell? ⟨X, 4, none⟩ = some (.int .u32 item.flags) ∧ V.cell? ⟨X, 5, none⟩ = some (.int .i64 item.til) ∧ V.cell? ⟨X, 6, none⟩ = some (.int .u64 item.unique) ∧ V.cell? ⟨X, 7, none⟩ = some (.string key) ∧ V.cell? ⟨X, 8, none⟩ = some (.int .u8 (why.toNat : Int)) ∧ V.cell? ⟨X, 9, none⟩ = some (.int .i64 o) ∧ V.cell? ⟨X, 10, none⟩ = some (.bool primary)) := by
    intro V hV
    rw [hw1] at hV
    have hc := box_late hX hV
    exact ⟨hc 0 _ rfl, hc 1 _ rfl, hc 2 _ rfl, hc 3 _ rfl, hc 4 _ rfl, hc 5 _ rfl, hc 6 _ rfl, hc 7 _ rfl, hc 8 _ rfl, hc 9 _ rfl, hc 10 _ rfl⟩
  have hb01 : Below w.heap.size w w1 := by rw [hw1]; exact alb _ _
  go_enter Try.func51, Try.ntmps51
  go_upto_region 1 with fail
  rw [← hw1, ← hX]
  clear hw1 hX
  obtain ⟨c1_0, c1_1, c1_2, c1_3, c1_4, c1_5, c1_6, c1_7, c1_8, c1_9, c1_10⟩ := HBX.out w1 (Below.refl _ _)
  have ho2 : Own (w1.alloc (Obj.cells #[Value.int IntKind.u8 ↑kind.toNat] 5)) w1.heap.size (.slice (some ⟨w1.heap.size, 0, none⟩) 1 1) [kind] := World.ownsRow_lit w1 _ 1 (by omega) (by unfold maxLen; omega) rfl
  have hb2 : Below w1.heap.size w1 (w1.alloc (Obj.cells #[Value.int IntKind.u8 ↑kind.toNat] 5)) := alb _ _
  go_upto_region 2 with fail
  obtain ⟨v2, hv2⟩ : ∃ v2, v2 = Value.slice (some ⟨w1.heap.size, 0, none⟩) 1 1 := ⟨_, rfl⟩
  obtain ⟨w2, hw2⟩ : ∃ w2, w2 = w1.alloc (Obj.cells #[Value.int IntKind.u8 ↑kind.toNat] 5) := ⟨_, rfl⟩
  rw [← hv2, ← hw2] at ho2
  rw [← hw2] at hb2
  rw [← hv2, ← hw2]
  clear hv2 hw2
  obtain ⟨c2_0, c2_1, c2_2, c2_3, c2_4, c2_5, c2_6, c2_7, c2_8, c2_9, c2_10⟩ := HBX.out w2 hb2
  go_wp2_with (first
    | (at_builtin; refine app_own rfl (.tmp 17) (.tmp 20) rfl w1.heap.size _ _ r4 rfl _ _ _ p4 rfl (by first | omega | (simp; omega)) s4 ?_; intro v4 w4 ho4 hg4; have hb4 := (hb3.trans (q4.mono hb3.size)).trans (hg4.below r4 s4); obtain ⟨c4_0, c4_1, c4_2, c4_3, c4_4, c4_5, c4_6, c4_7, c4_8, c4_9, c4_10⟩ := HBX.out w4 hb4)
    | (go_at_call 72; refine (HIT.out w3).mono ?_; rintro e x4 ⟨y4, rfl, p4, q4⟩; have r4 := ho3.kept q4; have s4 : w1.heap.size ≤ x4.heap.size := Nat.le_trans hb3.size q4.size)
    | (at_builtin; refine app_own rfl (.tmp 11) (.tmp 15) rfl w1.heap.size _ _ r3 rfl _ _ _ p3 rfl (by first | omega | (simp; omega)) s3 ?_; intro v3 w3 ho3 hg3; have hb3 := (hb2.trans (q3.mono hb2.size)).trans (hg3.below r3 s3); obtain ⟨c3_0, c3_1, c3_2, c3_3, c3_4, c3_5, c3_6, c3_7, c3_8, c3_9, c3_10⟩ := HBX.out w3 hb3)
    | (go_at_call 49; refine (refSmall1 w2 t gt).mono ?_; rintro e x3 ⟨y3, rfl, p3, q3⟩; have r3 := ho2.kept q3; have s3 : w1.heap.size ≤ x3.heap.size := Nat.le_trans hb2.size q3.size))
  go_ret
  exact ⟨_, rfl, by simpa using ho4.mono hb01.size, hb01.trans (hb4.mono hb01.size)⟩

set_option maxHeartbeats 1000000 in
theorem refOne2 (c : Chg) (w : World) (hok : chgOk c = true) (hg : c.Good) (hk : c.kind.toNat = 2) :
    Calls Try.prog 51 #[c.val] w fun e w' => ∃ v', e = .returned v' ∧ Own w' w.heap.size v' (chgB c) ∧ Below w.heap.size w w' := by
  obtain ⟨h0, h1⟩ := chgOk_ten' hok
  obtain ⟨o0, o1⟩ := chgOk_to hok
  have o2 : c.to ≤ 1099511627776 := by
    have : mostTo c.kind.toNat ≤ 1099511627776 := by unfold mostTo; rw [hk]; decide
    omega
  have hck := fun W => refText_any c.key W (by have := keyOk_le (chgOk_2 hok hk).2.1; omega)
  have hkz := keyOk_le (chgOk_2 hok hk).2.1
  obtain ⟨kind, tenant, item, key, why, to, primary⟩ := c
  unfold Chg.val Chg.cells bcell
  simp only [] at hk h0 h1 o0 o1 o2  hck hkz ⊢
  obtain ⟨t, rfl⟩ : ∃ t : Nat, tenant = (t : Int) := ⟨tenant.toNat, by omega⟩
  obtain ⟨o, rfl⟩ : ∃ o : Nat, to = (o : Int) := ⟨to.toNat, by omega⟩
  have gt : t ≤ 9223372036854775807 := by omega
  have go : o ≤ 9223372036854775807 := by omega
  have l1 := small_len t
  have l2 := small_len o
  have l3 := small_len key.size
  have lk : (text key.data.toList).length ≤ 42 := by simp [text]; omega
  have HEQ : Hid (chgB ⟨kind, t, item, key, why, o, primary⟩ = [kind] ++ small t ++ (text key.data.toList ++ [why])) := by
    show _ = _
    unfold chgB
    simp [hk, hasTen]
  rw [HEQ.out]
  obtain ⟨TK, hTK⟩ : ∃ TK, TK = text key.data.toList := ⟨_, rfl⟩
  rw [← hTK] at lk hck ⊢
  have HTK : Hid (∀ W : World, Calls Try.prog 23 #[.string key] W fun e w' => ∃ v', e = .returned v' ∧ Own w' W.heap.size v' TK ∧ Below W.heap.size W w') := hck
  clear hck hTK
  have hki : ∀ j : Int, ((kind.toNat : Int) == j) = ((2 : Int) == j) := fun j => by rw [hk]; rfl
  have HK : Hid (kind.toNat = 2) := hk
  clear HEQ hok hg o1 hk
  have e1 : ((kind.toNat : Int) == 1) = false := by rw [hki]; rfl
  have e2 : ((kind.toNat : Int) == 2) = true := by rw [hki]; rfl
  clear hki
  obtain ⟨X, hX⟩ : ∃ X, X = w.heap.size := ⟨_, rfl⟩
  obtain ⟨w1, hw1⟩ : ∃ w1, w1 = w.alloc (Obj.cells #[.int .u8 (kind.toNat : Int), .int .i64 t, .string item.key, .string item.value, .int .u32 item.flags, .int .i64 item.til, .int .u64 item.unique, .string key, .int .u8 (why.toNat : Int), .int .i64 o, .bool primary] 41) := ⟨_, rfl⟩
  have HBX : Hid (∀ V, Below w1.heap.size w1 V → V.cell? ⟨X, 0, none⟩ = some (.int .u8 (kind.toNat : Int)) ∧ V.cell? ⟨X, 1, none⟩ = some (.int .i64 t) ∧ V.cell? ⟨X, 2, none⟩ = some (.string item.key) ∧ V.cell? ⟨X, 3, none⟩ = some (.string item.value) ∧ V.cell? ⟨X, 4, none⟩ = some (.int .u32 item.flags) ∧ V.cell? ⟨X, 5, none⟩ = some (.int .i64 item.til) ∧ V.cell? ⟨X, 6, none⟩ = some (.int .u64 item.unique) ∧ V.cell? ⟨X, 7, none⟩ = some (.string key) ∧ V.cell? ⟨X, 8, none⟩ = some (.int .u8 (why.toNat : Int)) ∧ V.cell? ⟨X, 9, none⟩ = some (.int .i64 o) ∧ V.cell? ⟨X, 10, none⟩ = some (.bool primary)) := by
    intro V hV
    rw [hw1] at hV
    have hc := box_late hX hV
    exact ⟨hc 0 _ rfl, hc 1 _ rfl, hc 2 _ rfl, hc 3 _ rfl, hc 4 _ rfl, hc 5 _ rfl, hc 6 _ rfl, hc 7 _ rfl, hc 8 _ rfl, hc 9 _ rfl, hc 10 _ rfl⟩
  have hb01 : Below w.heap.size w w1 := by rw [hw1]; exact alb _ _
  go_enter Try.func51, Try.ntmps51
  go_upto_region 1 with fail
  rw [← hw1, ← hX]
  clear hw1 hX
  obtain ⟨c1_0, c1_1, c1_2, c1_3, c1_4, c1_5, c1_6, c1_7, c1_8, c1_9, c1_10⟩ := HBX.out w1 (Below.refl _ _)
  have ho2 : Own (w1.alloc (Obj.cells #[Value.int IntKind.u8 ↑kind.toNat] 5)) w1.heap.size (.slice (some ⟨w1.heap.size, 0, none⟩) 1 1) [kind] := World.ownsRow_lit w1 _ 1 (by omega) (by unfold maxLen; omega) rfl
  have hb2 : Below w1.heap.size w1 (w1.alloc (Obj.cells #[Value.int IntKind.u8 ↑kind.toNat] 5)) := alb _ _
  go_upto_region 2 with fail
  obtain ⟨v2, hv2⟩ : ∃ v2, v2 = Value.slice (some ⟨w1.heap.size, 0, none⟩) 1 1 := ⟨_, rfl⟩
  obtain ⟨w2, hw2⟩ : ∃ w2, w2 = w1.alloc (Obj.cells #[Value.int IntKind.u8 ↑kind.toNat] 5) := ⟨_, rfl⟩
  rw [← hv2, ← hw2] at ho2
  rw [← hw2] at hb2
  rw [← hv2, ← hw2]
  clear hv2 hw2
  obtain ⟨c2_0, c2_1, c2_2, c2_3, c2_4, c2_5, c2_6, c2_7, c2_8, c2_9, c2_10⟩ := HBX.out w2 hb2
  go_wp2_with (first
    | (at_builtin; refine app_one (w0 := w4) rfl (.tmp 35) (.tmp 38) rfl w1.heap.size _ _ ho4 rfl _ _ rfl rfl rfl (by first | omega | (simp; omega)) hb4.size ?_; intro v5 w5 ho5 hg5; have hb5 := hb4.trans (hg5.below ho4 hb4.size); obtain ⟨c5_0, c5_1, c5_2, c5_3, c5_4, c5_5, c5_6, c5_7, c5_8, c5_9, c5_10⟩ := HBX.out w5 hb5)
    | (at_builtin; refine app_own rfl (.tmp 30) (.tmp 33) rfl w1.heap.size _ _ r4 rfl _ _ _ p4 rfl (by first | omega | (simp; omega)) s4 ?_; intro v4 w4 ho4 hg4; have hb4 := (hb3.trans (q4.mono hb3.size)).trans (hg4.below r4 s4); obtain ⟨c4_0, c4_1, c4_2, c4_3, c4_4, c4_5, c4_6, c4_7, c4_8, c4_9, c4_10⟩ := HBX.out w4 hb4)
    | (go_at_call 23; refine (HTK.out w3).mono ?_; rintro e x4 ⟨y4, rfl, p4, q4⟩; have r4 := ho3.kept q4; have s4 : w1.heap.size ≤ x4.heap.size := Nat.le_trans hb3.size q4.size)
    | (at_builtin; refine app_own rfl (.tmp 24) (.tmp 28) rfl w1.heap.size _ _ r3 rfl _ _ _ p3 rfl (by first | omega | (simp; omega)) s3 ?_; intro v3 w3 ho3 hg3; have hb3 := (hb2.trans (q3.mono hb2.size)).trans (hg3.below r3 s3); obtain ⟨c3_0, c3_1, c3_2, c3_3, c3_4, c3_5, c3_6, c3_7, c3_8, c3_9, c3_10⟩ := HBX.out w3 hb3)
    | (go_at_call 49; refine (refSmall1 w2 t gt).mono ?_; rintro e x3 ⟨y3, rfl, p3, q3⟩; have r3 := ho2.kept q3; have s3 : w1.heap.size ≤ x3.heap.size := Nat.le_trans hb2.size q3.size))
  go_ret
  exact ⟨_, rfl, by simpa using ho5.mono hb01.size, hb01.trans (hb5.mono hb01.size)⟩

set_option maxHeartbeats 1000000 in
theorem refOne3 (c : Chg) (w : World) (hok : chgOk c = true) (hg : c.Good) (hk : c.kind.toNat = 3) :
    Calls Try.prog 51 #[c.val] w fun e w' => ∃ v', e = .returned v' ∧ Own w' w.heap.size v' (chgB c) ∧ Below w.heap.size w w' := by
  obtain ⟨h0, h1⟩ := chgOk_ten' hok
  obtain ⟨o0, o1⟩ := chgOk_to hok
  have o2 : c.to ≤ 1099511627776 := by
    have : mostTo c.kind.toNat ≤ 1099511627776 := by unfold mostTo; rw [hk]; decide
    omega
  obtain ⟨kind, tenant, item, key, why, to, primary⟩ := c
  unfold Chg.val Chg.cells bcell
  simp only [] at hk h0 h1 o0 o1 o2   ⊢
  obtain ⟨t, rfl⟩ : ∃ t : Nat, tenant = (t : Int) := ⟨tenant.toNat, by omega⟩
  obtain ⟨o, rfl⟩ : ∃ o : Nat, to = (o : Int) := ⟨to.toNat, by omega⟩
  have gt : t ≤ 9223372036854775807 := by omega
  have go : o ≤ 9223372036854775807 := by omega
  have l1 := small_len t
  have l2 := small_len o
  have HEQ : Hid (chgB ⟨kind, t, item, key, why, o, primary⟩ = [kind] ++ small t ++ ([])) := by
    show _ = _
    unfold chgB
    simp [hk, hasTen]
  rw [HEQ.out]
  have hki : ∀ j : Int, ((kind.toNat : Int) == j) = ((3 : Int) == j) := fun j => by rw [hk]; rfl
  have HK : Hid (kind.toNat = 3) := hk
  clear HEQ hok hg o1 hk
  have e1 : ((kind.toNat : Int) == 1) = false := by rw [hki]; rfl
  have e2 : ((kind.toNat : Int) == 2) = false := by rw [hki]; rfl
  have e3 : ((kind.toNat : Int) == 3) = true := by rw [hki]; rfl
  clear hki
  obtain ⟨X, hX⟩ : ∃ X, X = w.heap.size := ⟨_, rfl⟩
  obtain ⟨w1, hw1⟩ : ∃ w1, w1 = w.alloc (Obj.cells #[.int .u8 (kind.toNat : Int), .int .i64 t, .string item.key, .string item.value, .int .u32 item.flags, .int .i64 item.til, .int .u64 item.unique, .string key, .int .u8 (why.toNat : Int), .int .i64 o, .bool primary] 41) := ⟨_, rfl⟩
  have HBX : Hid (∀ V, Below w1.heap.size w1 V → V.cell? ⟨X, 0, none⟩ = some (.int .u8 (kind.toNat : Int)) ∧ V.cell? ⟨X, 1, none⟩ = some (.int .i64 t) ∧ V.cell? ⟨X, 2, none⟩ = some (.string item.key) ∧ V.cell? ⟨X, 3, none⟩ = some (.string item.value) ∧ V.cell? ⟨X, 4, none⟩ = some (.int .u32 item.flags) ∧ V.cell? ⟨X, 5, none⟩ = some (.int .i64 item.til) ∧ V.cell? ⟨X, 6, none⟩ = some (.int .u64 item.unique) ∧ V.cell? ⟨X, 7, none⟩ = some (.string key) ∧ V.cell? ⟨X, 8, none⟩ = some (.int .u8 (why.toNat : Int)) ∧ V.cell? ⟨X, 9, none⟩ = some (.int .i64 o) ∧ V.cell? ⟨X, 10, none⟩ = some (.bool primary)) := by
    intro V hV
    rw [hw1] at hV
    have hc := box_late hX hV
    exact ⟨hc 0 _ rfl, hc 1 _ rfl, hc 2 _ rfl, hc 3 _ rfl, hc 4 _ rfl, hc 5 _ rfl, hc 6 _ rfl, hc 7 _ rfl, hc 8 _ rfl, hc 9 _ rfl, hc 10 _ rfl⟩
  have hb01 : Below w.heap.size w w1 := by rw [hw1]; exact alb _ _
  go_enter Try.func51, Try.ntmps51
  go_upto_region 1 with fail
  rw [← hw1, ← hX]
  clear hw1 hX
  obtain ⟨c1_0, c1_1, c1_2, c1_3, c1_4, c1_5, c1_6, c1_7, c1_8, c1_9, c1_10⟩ := HBX.out w1 (Below.refl _ _)
  have ho2 : Own (w1.alloc (Obj.cells #[Value.int IntKind.u8 ↑kind.toNat] 5)) w1.heap.size (.slice (some ⟨w1.heap.size, 0, none⟩) 1 1) [kind] := World.ownsRow_lit w1 _ 1 (by omega) (by unfold maxLen; omega) rfl
  have hb2 : Below w1.heap.size w1 (w1.alloc (Obj.cells #[Value.int IntKind.u8 ↑kind.toNat] 5)) := alb _ _
  go_upto_region 2 with fail
  obtain ⟨v2, hv2⟩ : ∃ v2, v2 = Value.slice (some ⟨w1.heap.size, 0, none⟩) 1 1 := ⟨_, rfl⟩
  obtain ⟨w2, hw2⟩ : ∃ w2, w2 = w1.alloc (Obj.cells #[Value.int IntKind.u8 ↑kind.toNat] 5) := ⟨_, rfl⟩
  rw [← hv2, ← hw2] at ho2
  rw [← hw2] at hb2
  rw [← hv2, ← hw2]
  clear hv2 hw2
  obtain ⟨c2_0, c2_1, c2_2, c2_3, c2_4, c2_5, c2_6, c2_7, c2_8, c2_9, c2_10⟩ := HBX.out w2 hb2
  go_wp2_with (first
    | (at_builtin; refine app_own rfl (.tmp 42) (.tmp 46) rfl w1.heap.size _ _ r3 rfl _ _ _ p3 rfl (by first | omega | (simp; omega)) s3 ?_; intro v3 w3 ho3 hg3; have hb3 := (hb2.trans (q3.mono hb2.size)).trans (hg3.below r3 s3); obtain ⟨c3_0, c3_1, c3_2, c3_3, c3_4, c3_5, c3_6, c3_7, c3_8, c3_9, c3_10⟩ := HBX.out w3 hb3)
    | (go_at_call 49; refine (refSmall1 w2 t gt).mono ?_; rintro e x3 ⟨y3, rfl, p3, q3⟩; have r3 := ho2.kept q3; have s3 : w1.heap.size ≤ x3.heap.size := Nat.le_trans hb2.size q3.size))
  go_ret
  exact ⟨_, rfl, by simpa using ho3.mono hb01.size, hb01.trans (hb3.mono hb01.size)⟩

set_option maxHeartbeats 1000000 in
theorem refOne4 (c : Chg) (w : World) (hok : chgOk c = true) (hg : c.Good) (hk : c.kind.toNat = 4) :
    Calls Try.prog 51 #[c.val] w fun e w' => ∃ v', e = .returned v' ∧ Own w' w.heap.size v' (chgB c) ∧ Below w.heap.size w w' := by
  obtain ⟨h0, h1⟩ := chgOk_ten' hok
  obtain ⟨o0, o1⟩ := chgOk_to hok
  have o2 : c.to ≤ 1099511627776 := by
    have : mostTo c.kind.toNat ≤ 1099511627776 := by unfold mostTo; rw [hk]; decide
    omega
  obtain ⟨kind, tenant, item, key, why, to, primary⟩ := c
  unfold Chg.val Chg.cells bcell
  simp only [] at hk h0 h1 o0 o1 o2   ⊢
  obtain ⟨t, rfl⟩ : ∃ t : Nat, tenant = (t : Int) := ⟨tenant.toNat, by omega⟩
  obtain ⟨o, rfl⟩ : ∃ o : Nat, to = (o : Int) := ⟨to.toNat, by omega⟩
  have gt : t ≤ 9223372036854775807 := by omega
  have go : o ≤ 9223372036854775807 := by omega
  have l1 := small_len t
  have l2 := small_len o
  have HEQ : Hid (chgB ⟨kind, t, item, key, why, o, primary⟩ = [kind] ++ [] ++ (small o)) := by
    show _ = _
    unfold chgB
    simp [hk, hasTen]
  rw [HEQ.out]
  have hki : ∀ j : Int, ((kind.toNat : Int) == j) = ((4 : Int) == j) := fun j => by rw [hk]; rfl
  have HK : Hid (kind.toNat = 4) := hk
  clear HEQ hok hg o1 hk
  have e1 : ((kind.toNat : Int) == 1) = false := by rw [hki]; rfl
  have e2 : ((kind.toNat : Int) == 2) = false := by rw [hki]; rfl
  have e3 : ((kind.toNat : Int) == 3) = false := by rw [hki]; rfl
  have e4 : ((kind.toNat : Int) == 4) = true := by rw [hki]; rfl
  clear hki
  obtain ⟨X, hX⟩ : ∃ X, X = w.heap.size := ⟨_, rfl⟩
  obtain ⟨w1, hw1⟩ : ∃ w1, w1 = w.alloc (Obj.cells #[.int .u8 (kind.toNat : Int), .int .i64 t, .string item.key, .string item.value, .int .u32 item.flags, .int .i64 item.til, .int .u64 item.unique, .string key, .int .u8 (why.toNat : Int), .int .i64 o, .bool primary] 41) := ⟨_, rfl⟩
  have HBX : Hid (∀ V, Below w1.heap.size w1 V → V.cell? ⟨X, 0, none⟩ = some (.int .u8 (kind.toNat : Int)) ∧ V.cell? ⟨X, 1, none⟩ = some (.int .i64 t) ∧ V.cell? ⟨X, 2, none⟩ = some (.string item.key) ∧ V.cell? ⟨X, 3, none⟩ = some (.string item.value) ∧ V.cell? ⟨X, 4, none⟩ = some (.int .u32 item.flags) ∧ V.cell? ⟨X, 5, none⟩ = some (.int .i64 item.til) ∧ V.cell? ⟨X, 6, none⟩ = some (.int .u64 item.unique) ∧ V.cell? ⟨X, 7, none⟩ = some (.string key) ∧ V.cell? ⟨X, 8, none⟩ = some (.int .u8 (why.toNat : Int)) ∧ V.cell? ⟨X, 9, none⟩ = some (.int .i64 o) ∧ V.cell? ⟨X, 10, none⟩ = some (.bool primary)) := by
    intro V hV
    rw [hw1] at hV
    have hc := box_late hX hV
    exact ⟨hc 0 _ rfl, hc 1 _ rfl, hc 2 _ rfl, hc 3 _ rfl, hc 4 _ rfl, hc 5 _ rfl, hc 6 _ rfl, hc 7 _ rfl, hc 8 _ rfl, hc 9 _ rfl, hc 10 _ rfl⟩
  have hb01 : Below w.heap.size w w1 := by rw [hw1]; exact alb _ _
  go_enter Try.func51, Try.ntmps51
  go_upto_region 1 with fail
  rw [← hw1, ← hX]
  clear hw1 hX
  obtain ⟨c1_0, c1_1, c1_2, c1_3, c1_4, c1_5, c1_6, c1_7, c1_8, c1_9, c1_10⟩ := HBX.out w1 (Below.refl _ _)
  have ho2 : Own (w1.alloc (Obj.cells #[Value.int IntKind.u8 ↑kind.toNat] 5)) w1.heap.size (.slice (some ⟨w1.heap.size, 0, none⟩) 1 1) [kind] := World.ownsRow_lit w1 _ 1 (by omega) (by unfold maxLen; omega) rfl
  have hb2 : Below w1.heap.size w1 (w1.alloc (Obj.cells #[Value.int IntKind.u8 ↑kind.toNat] 5)) := alb _ _
  go_upto_region 2 with fail
  obtain ⟨v2, hv2⟩ : ∃ v2, v2 = Value.slice (some ⟨w1.heap.size, 0, none⟩) 1 1 := ⟨_, rfl⟩
  obtain ⟨w2, hw2⟩ : ∃ w2, w2 = w1.alloc (Obj.cells #[Value.int IntKind.u8 ↑kind.toNat] 5) := ⟨_, rfl⟩
  rw [← hv2, ← hw2] at ho2
  rw [← hw2] at hb2
  rw [← hv2, ← hw2]
  clear hv2 hw2
  obtain ⟨c2_0, c2_1, c2_2, c2_3, c2_4, c2_5, c2_6, c2_7, c2_8, c2_9, c2_10⟩ := HBX.out w2 hb2
  go_wp2_with (first
    | (at_builtin; refine app_own rfl (.tmp 50) (.tmp 54) rfl w1.heap.size _ _ r3 rfl _ _ _ p3 rfl (by first | omega | (simp; omega)) s3 ?_; intro v3 w3 ho3 hg3; have hb3 := (hb2.trans (q3.mono hb2.size)).trans (hg3.below r3 s3); obtain ⟨c3_0, c3_1, c3_2, c3_3, c3_4, c3_5, c3_6, c3_7, c3_8, c3_9, c3_10⟩ := HBX.out w3 hb3)
    | (go_at_call 49; refine (refSmall1 w2 o go).mono ?_; rintro e x3 ⟨y3, rfl, p3, q3⟩; have r3 := ho2.kept q3; have s3 : w1.heap.size ≤ x3.heap.size := Nat.le_trans hb2.size q3.size))
  go_ret
  exact ⟨_, rfl, by simpa using ho3.mono hb01.size, hb01.trans (hb3.mono hb01.size)⟩

set_option maxHeartbeats 1000000 in
theorem refOne5 (c : Chg) (w : World) (hok : chgOk c = true) (hg : c.Good) (hk : c.kind.toNat = 5) :
    Calls Try.prog 51 #[c.val] w fun e w' => ∃ v', e = .returned v' ∧ Own w' w.heap.size v' (chgB c) ∧ Below w.heap.size w w' := by
  obtain ⟨h0, h1⟩ := chgOk_ten' hok
  obtain ⟨o0, o1⟩ := chgOk_to hok
  have o2 : c.to ≤ 1099511627776 := by
    have : mostTo c.kind.toNat ≤ 1099511627776 := by unfold mostTo; rw [hk]; decide
    omega
  obtain ⟨kind, tenant, item, key, why, to, primary⟩ := c
  unfold Chg.val Chg.cells bcell
  simp only [] at hk h0 h1 o0 o1 o2   ⊢
  obtain ⟨t, rfl⟩ : ∃ t : Nat, tenant = (t : Int) := ⟨tenant.toNat, by omega⟩
  obtain ⟨o, rfl⟩ : ∃ o : Nat, to = (o : Int) := ⟨to.toNat, by omega⟩
  have gt : t ≤ 9223372036854775807 := by omega
  have go : o ≤ 9223372036854775807 := by omega
  have l1 := small_len t
  have l2 := small_len o
  have HEQ : Hid (chgB ⟨kind, t, item, key, why, o, primary⟩ = [kind] ++ small t ++ (small o)) := by
    show _ = _
    unfold chgB
    simp [hk, hasTen]
  rw [HEQ.out]
  have hki : ∀ j : Int, ((kind.toNat : Int) == j) = ((5 : Int) == j) := fun j => by rw [hk]; rfl
  have HK : Hid (kind.toNat = 5) := hk
  clear HEQ hok hg o1 hk
  have e1 : ((kind.toNat : Int) == 1) = false := by rw [hki]; rfl
  have e2 : ((kind.toNat : Int) == 2) = false := by rw [hki]; rfl
  have e3 : ((kind.toNat : Int) == 3) = false := by rw [hki]; rfl
  have e4 : ((kind.toNat : Int) == 4) = false := by rw [hki]; rfl
  have e5 : ((kind.toNat : Int) == 5) = true := by rw [hki]; rfl
  clear hki
  obtain ⟨X, hX⟩ : ∃ X, X = w.heap.size := ⟨_, rfl⟩
  obtain ⟨w1, hw1⟩ : ∃ w1, w1 = w.alloc (Obj.cells #[.int .u8 (kind.toNat : Int), .int .i64 t, .string item.key, .string item.value, .int .u32 item.flags, .int .i64 item.til, .int .u64 item.unique, .string key, .int .u8 (why.toNat : Int), .int .i64 o, .bool primary] 41) := ⟨_, rfl⟩
  have HBX : Hid (∀ V, Below w1.heap.size w1 V → V.cell? ⟨X, 0, none⟩ = some (.int .u8 (kind.toNat : Int)) ∧ V.cell? ⟨X, 1, none⟩ = some (.int .i64 t) ∧ V.cell? ⟨X, 2, none⟩ = some (.string item.key) ∧ V.cell? ⟨X, 3, none⟩ = some (.string item.value) ∧ V.cell? ⟨X, 4, none⟩ = some (.int .u32 item.flags) ∧ V.cell? ⟨X, 5, none⟩ = some (.int .i64 item.til) ∧ V.cell? ⟨X, 6, none⟩ = some (.int .u64 item.unique) ∧ V.cell? ⟨X, 7, none⟩ = some (.string key) ∧ V.cell? ⟨X, 8, none⟩ = some (.int .u8 (why.toNat : Int)) ∧ V.cell? ⟨X, 9, none⟩ = some (.int .i64 o) ∧ V.cell? ⟨X, 10, none⟩ = some (.bool primary)) := by
    intro V hV
    rw [hw1] at hV
    have hc := box_late hX hV
    exact ⟨hc 0 _ rfl, hc 1 _ rfl, hc 2 _ rfl, hc 3 _ rfl, hc 4 _ rfl, hc 5 _ rfl, hc 6 _ rfl, hc 7 _ rfl, hc 8 _ rfl, hc 9 _ rfl, hc 10 _ rfl⟩
  have hb01 : Below w.heap.size w w1 := by rw [hw1]; exact alb _ _
  go_enter Try.func51, Try.ntmps51
  go_upto_region 1 with fail
  rw [← hw1, ← hX]
  clear hw1 hX
  obtain ⟨c1_0, c1_1, c1_2, c1_3, c1_4, c1_5, c1_6, c1_7, c1_8, c1_9, c1_10⟩ := HBX.out w1 (Below.refl _ _)
  have ho2 : Own (w1.alloc (Obj.cells #[Value.int IntKind.u8 ↑kind.toNat] 5)) w1.heap.size (.slice (some ⟨w1.heap.size, 0, none⟩) 1 1) [kind] := World.ownsRow_lit w1 _ 1 (by omega) (by unfold maxLen; omega) rfl
  have hb2 : Below w1.heap.size w1 (w1.alloc (Obj.cells #[Value.int IntKind.u8 ↑kind.toNat] 5)) := alb _ _
  go_upto_region 2 with fail
  obtain ⟨v2, hv2⟩ : ∃ v2, v2 = Value.slice (some ⟨w1.heap.size, 0, none⟩) 1 1 := ⟨_, rfl⟩
  obtain ⟨w2, hw2⟩ : ∃ w2, w2 = w1.alloc (Obj.cells #[Value.int IntKind.u8 ↑kind.toNat] 5) := ⟨_, rfl⟩
  rw [← hv2, ← hw2] at ho2
  rw [← hw2] at hb2
  rw [← hv2, ← hw2]
  clear hv2 hw2
  obtain ⟨c2_0, c2_1, c2_2, c2_3, c2_4, c2_5, c2_6, c2_7, c2_8, c2_9, c2_10⟩ := HBX.out w2 hb2
  go_wp2_with (first
    | (at_builtin; refine app_own rfl (.tmp 58) (.tmp 64) rfl w1.heap.size _ _ r3 rfl _ _ _ p3 rfl (by first | omega | (simp; omega)) s3 ?_; intro v3 w3 ho3 hg3; have hb3 := (hb2.trans (q3.mono hb2.size)).trans (hg3.below r3 s3); obtain ⟨c3_0, c3_1, c3_2, c3_3, c3_4, c3_5, c3_6, c3_7, c3_8, c3_9, c3_10⟩ := HBX.out w3 hb3)
    | (go_at_call 49; refine (refSmall2 w2 t o gt go).mono ?_; rintro e x3 ⟨y3, rfl, p3, q3⟩; have r3 := ho2.kept q3; have s3 : w1.heap.size ≤ x3.heap.size := Nat.le_trans hb2.size q3.size))
  go_ret
  exact ⟨_, rfl, by simpa using ho3.mono hb01.size, hb01.trans (hb3.mono hb01.size)⟩

set_option maxHeartbeats 1000000 in
theorem refOne6 (c : Chg) (w : World) (hok : chgOk c = true) (hg : c.Good) (hk : c.kind.toNat = 6) :
    Calls Try.prog 51 #[c.val] w fun e w' => ∃ v', e = .returned v' ∧ Own w' w.heap.size v' (chgB c) ∧ Below w.heap.size w w' := by
  obtain ⟨h0, h1⟩ := chgOk_ten' hok
  obtain ⟨o0, o1⟩ := chgOk_to hok
  have o2 : c.to ≤ 1099511627776 := by
    have : mostTo c.kind.toNat ≤ 1099511627776 := by unfold mostTo; rw [hk]; decide
    omega
  obtain ⟨kind, tenant, item, key, why, to, primary⟩ := c
  unfold Chg.val Chg.cells bcell
  simp only [] at hk h0 h1 o0 o1 o2   ⊢
  obtain ⟨t, rfl⟩ : ∃ t : Nat, tenant = (t : Int) := ⟨tenant.toNat, by omega⟩
  obtain ⟨o, rfl⟩ : ∃ o : Nat, to = (o : Int) := ⟨to.toNat, by omega⟩
  have gt : t ≤ 9223372036854775807 := by omega
  have go : o ≤ 9223372036854775807 := by omega
  have l1 := small_len t
  have l2 := small_len o
  have HEQ : Hid (chgB ⟨kind, t, item, key, why, o, primary⟩ = [kind] ++ [] ++ (small o ++ [truthB primary])) := by
    show _ = _
    unfold chgB
    simp [hk, hasTen]
  rw [HEQ.out]
  have hki : ∀ j : Int, ((kind.toNat : Int) == j) = ((6 : Int) == j) := fun j => by rw [hk]; rfl
  have HK : Hid (kind.toNat = 6) := hk
  clear HEQ hok hg o1 hk
  have e1 : ((kind.toNat : Int) == 1) = false := by rw [hki]; rfl
  have e2 : ((kind.toNat : Int) == 2) = false := by rw [hki]; rfl
  have e3 : ((kind.toNat : Int) == 3) = false := by rw [hki]; rfl
  have e4 : ((kind.toNat : Int) == 4) = false := by rw [hki]; rfl
  have e5 : ((kind.toNat : Int) == 5) = false := by rw [hki]; rfl
  have e7 : ((kind.toNat : Int) == 7) = false := by rw [hki]; rfl
  have e6 : ((kind.toNat : Int) == 6) = true := by rw [hki]; rfl
  clear hki
  obtain ⟨X, hX⟩ : ∃ X, X = w.heap.size := ⟨_, rfl⟩
  obtain ⟨w1, hw1⟩ : ∃ w1, w1 = w.alloc (Obj.cells #[.int .u8 (kind.toNat : Int), .int .i64 t, .string item.key, .string item.value, .int .u32 item.flags, .int .i64 item.til, .int .u64 item.unique, .string key, .int .u8 (why.toNat : Int), .int .i64 o, .bool primary] 41) := ⟨_, rfl⟩
  have HBX : Hid (∀ V, Below w1.heap.size w1 V → V.cell? ⟨X, 0, none⟩ = some (.int .u8 (kind.toNat : Int)) ∧ V.cell? ⟨X, 1, none⟩ = some (.int .i64 t) ∧ V.cell? ⟨X, 2, none⟩ = some (.string item.key) ∧ V.cell? ⟨X, 3, none⟩ = some (.string item.value) ∧ V.cell? ⟨X, 4, none⟩ = some (.int .u32 item.flags) ∧ V.cell? ⟨X, 5, none⟩ = some (.int .i64 item.til) ∧ V.cell? ⟨X, 6, none⟩ = some (.int .u64 item.unique) ∧ V.cell? ⟨X, 7, none⟩ = some (.string key) ∧ V.cell? ⟨X, 8, none⟩ = some (.int .u8 (why.toNat : Int)) ∧ V.cell? ⟨X, 9, none⟩ = some (.int .i64 o) ∧ V.cell? ⟨X, 10, none⟩ = some (.bool primary)) := by
    intro V hV
    rw [hw1] at hV
    have hc := box_late hX hV
    exact ⟨hc 0 _ rfl, hc 1 _ rfl, hc 2 _ rfl, hc 3 _ rfl, hc 4 _ rfl, hc 5 _ rfl, hc 6 _ rfl, hc 7 _ rfl, hc 8 _ rfl, hc 9 _ rfl, hc 10 _ rfl⟩
  have hb01 : Below w.heap.size w w1 := by rw [hw1]; exact alb _ _
  go_enter Try.func51, Try.ntmps51
  go_upto_region 1 with fail
  rw [← hw1, ← hX]
  clear hw1 hX
  obtain ⟨c1_0, c1_1, c1_2, c1_3, c1_4, c1_5, c1_6, c1_7, c1_8, c1_9, c1_10⟩ := HBX.out w1 (Below.refl _ _)
  have ho2 : Own (w1.alloc (Obj.cells #[Value.int IntKind.u8 ↑kind.toNat] 5)) w1.heap.size (.slice (some ⟨w1.heap.size, 0, none⟩) 1 1) [kind] := World.ownsRow_lit w1 _ 1 (by omega) (by unfold maxLen; omega) rfl
  have hb2 : Below w1.heap.size w1 (w1.alloc (Obj.cells #[Value.int IntKind.u8 ↑kind.toNat] 5)) := alb _ _
  go_upto_region 2 with fail
  obtain ⟨v2, hv2⟩ : ∃ v2, v2 = Value.slice (some ⟨w1.heap.size, 0, none⟩) 1 1 := ⟨_, rfl⟩
  obtain ⟨w2, hw2⟩ : ∃ w2, w2 = w1.alloc (Obj.cells #[Value.int IntKind.u8 ↑kind.toNat] 5) := ⟨_, rfl⟩
  rw [← hv2, ← hw2] at ho2
  rw [← hw2] at hb2
  rw [← hv2, ← hw2]
  clear hv2 hw2
  obtain ⟨c2_0, c2_1, c2_2, c2_3, c2_4, c2_5, c2_6, c2_7, c2_8, c2_9, c2_10⟩ := HBX.out w2 hb2
  cases primary with
  | true =>
    go_wp2_with (first
      | (at_builtin; refine app_one (w0 := w3) rfl (.tmp 84) (.tmp 85) rfl w1.heap.size _ _ ho3 rfl _ _ (show ((1 : Int)) = ((truthB true).toNat : Int) from rfl) rfl rfl (by first | omega | (simp; omega)) hb3.size ?_; intro v4 w4 ho4 hg4; have hb4 := hb3.trans (hg4.below ho3 hb3.size); obtain ⟨c4_0, c4_1, c4_2, c4_3, c4_4, c4_5, c4_6, c4_7, c4_8, c4_9, c4_10⟩ := HBX.out w4 hb4)
      | (at_builtin; refine app_own rfl (.tmp 76) (.tmp 80) rfl w1.heap.size _ _ r3 rfl _ _ _ p3 rfl (by first | omega | (simp; omega)) s3 ?_; intro v3 w3 ho3 hg3; have hb3 := (hb2.trans (q3.mono hb2.size)).trans (hg3.below r3 s3); obtain ⟨c3_0, c3_1, c3_2, c3_3, c3_4, c3_5, c3_6, c3_7, c3_8, c3_9, c3_10⟩ := HBX.out w3 hb3)
      | (go_at_call 49; refine (refSmall1 w2 o go).mono ?_; rintro e x3 ⟨y3, rfl, p3, q3⟩; have r3 := ho2.kept q3; have s3 : w1.heap.size ≤ x3.heap.size := Nat.le_trans hb2.size q3.size))
    go_ret
    exact ⟨_, rfl, by simpa using ho4.mono hb01.size, hb01.trans (hb4.mono hb01.size)⟩
  | false =>
    go_wp2_with (first
      | (at_builtin; refine app_one (w0 := w3) rfl (.tmp 87) (.tmp 88) rfl w1.heap.size _ _ ho3 rfl _ _ (show ((0 : Int)) = ((truthB false).toNat : Int) from rfl) rfl rfl (by first | omega | (simp; omega)) hb3.size ?_; intro v4 w4 ho4 hg4; have hb4 := hb3.trans (hg4.below ho3 hb3.size); obtain ⟨c4_0, c4_1, c4_2, c4_3, c4_4, c4_5, c4_6, c4_7, c4_8, c4_9, c4_10⟩ := HBX.out w4 hb4)
      | (at_builtin; refine app_own rfl (.tmp 76) (.tmp 80) rfl w1.heap.size _ _ r3 rfl _ _ _ p3 rfl (by first | omega | (simp; omega)) s3 ?_; intro v3 w3 ho3 hg3; have hb3 := (hb2.trans (q3.mono hb2.size)).trans (hg3.below r3 s3); obtain ⟨c3_0, c3_1, c3_2, c3_3, c3_4, c3_5, c3_6, c3_7, c3_8, c3_9, c3_10⟩ := HBX.out w3 hb3)
      | (go_at_call 49; refine (refSmall1 w2 o go).mono ?_; rintro e x3 ⟨y3, rfl, p3, q3⟩; have r3 := ho2.kept q3; have s3 : w1.heap.size ≤ x3.heap.size := Nat.le_trans hb2.size q3.size))
    go_ret
    exact ⟨_, rfl, by simpa using ho4.mono hb01.size, hb01.trans (hb4.mono hb01.size)⟩

set_option maxHeartbeats 1000000 in
theorem refOne7 (c : Chg) (w : World) (hok : chgOk c = true) (hg : c.Good) (hk : c.kind.toNat = 7) :
    Calls Try.prog 51 #[c.val] w fun e w' => ∃ v', e = .returned v' ∧ Own w' w.heap.size v' (chgB c) ∧ Below w.heap.size w w' := by
  obtain ⟨h0, h1⟩ := chgOk_ten' hok
  obtain ⟨o0, o1⟩ := chgOk_to hok
  have o2 : c.to ≤ 1099511627776 := by
    have : mostTo c.kind.toNat ≤ 1099511627776 := by unfold mostTo; rw [hk]; decide
    omega
  obtain ⟨kind, tenant, item, key, why, to, primary⟩ := c
  unfold Chg.val Chg.cells bcell
  simp only [] at hk h0 h1 o0 o1 o2   ⊢
  obtain ⟨t, rfl⟩ : ∃ t : Nat, tenant = (t : Int) := ⟨tenant.toNat, by omega⟩
  obtain ⟨o, rfl⟩ : ∃ o : Nat, to = (o : Int) := ⟨to.toNat, by omega⟩
  have gt : t ≤ 9223372036854775807 := by omega
  have go : o ≤ 9223372036854775807 := by omega
  have l1 := small_len t
  have l2 := small_len o
  have HEQ : Hid (chgB ⟨kind, t, item, key, why, o, primary⟩ = [kind] ++ [] ++ (small o)) := by
    show _ = _
    unfold chgB
    simp [hk, hasTen]
  rw [HEQ.out]
  have hki : ∀ j : Int, ((kind.toNat : Int) == j) = ((7 : Int) == j) := fun j => by rw [hk]; rfl
  have HK : Hid (kind.toNat = 7) := hk
  clear HEQ hok hg o1 hk
  have e1 : ((kind.toNat : Int) == 1) = false := by rw [hki]; rfl
  have e2 : ((kind.toNat : Int) == 2) = false := by rw [hki]; rfl
  have e3 : ((kind.toNat : Int) == 3) = false := by rw [hki]; rfl
  have e4 : ((kind.toNat : Int) == 4) = false := by rw [hki]; rfl
  have e5 : ((kind.toNat : Int) == 5) = false := by rw [hki]; rfl
  have e7 : ((kind.toNat : Int) == 7) = true := by rw [hki]; rfl
  clear hki
  obtain ⟨X, hX⟩ : ∃ X, X = w.heap.size := ⟨_, rfl⟩
  obtain ⟨w1, hw1⟩ : ∃ w1, w1 = w.alloc (Obj.cells #[.int .u8 (kind.toNat : Int), .int .i64 t, .string item.key, .string item.value, .int .u32 item.flags, .int .i64 item.til, .int .u64 item.unique, .string key, .int .u8 (why.toNat : Int), .int .i64 o, .bool primary] 41) := ⟨_, rfl⟩
  have HBX : Hid (∀ V, Below w1.heap.size w1 V → V.cell? ⟨X, 0, none⟩ = some (.int .u8 (kind.toNat : Int)) ∧ V.cell? ⟨X, 1, none⟩ = some (.int .i64 t) ∧ V.cell? ⟨X, 2, none⟩ = some (.string item.key) ∧ V.cell? ⟨X, 3, none⟩ = some (.string item.value) ∧ V.cell? ⟨X, 4, none⟩ = some (.int .u32 item.flags) ∧ V.cell? ⟨X, 5, none⟩ = some (.int .i64 item.til) ∧ V.cell? ⟨X, 6, none⟩ = some (.int .u64 item.unique) ∧ V.cell? ⟨X, 7, none⟩ = some (.string key) ∧ V.cell? ⟨X, 8, none⟩ = some (.int .u8 (why.toNat : Int)) ∧ V.cell? ⟨X, 9, none⟩ = some (.int .i64 o) ∧ V.cell? ⟨X, 10, none⟩ = some (.bool primary)) := by
    intro V hV
    rw [hw1] at hV
    have hc := box_late hX hV
    exact ⟨hc 0 _ rfl, hc 1 _ rfl, hc 2 _ rfl, hc 3 _ rfl, hc 4 _ rfl, hc 5 _ rfl, hc 6 _ rfl, hc 7 _ rfl, hc 8 _ rfl, hc 9 _ rfl, hc 10 _ rfl⟩
  have hb01 : Below w.heap.size w w1 := by rw [hw1]; exact alb _ _
  go_enter Try.func51, Try.ntmps51
  go_upto_region 1 with fail
  rw [← hw1, ← hX]
  clear hw1 hX
  obtain ⟨c1_0, c1_1, c1_2, c1_3, c1_4, c1_5, c1_6, c1_7, c1_8, c1_9, c1_10⟩ := HBX.out w1 (Below.refl _ _)
  have ho2 : Own (w1.alloc (Obj.cells #[Value.int IntKind.u8 ↑kind.toNat] 5)) w1.heap.size (.slice (some ⟨w1.heap.size, 0, none⟩) 1 1) [kind] := World.ownsRow_lit w1 _ 1 (by omega) (by unfold maxLen; omega) rfl
  have hb2 : Below w1.heap.size w1 (w1.alloc (Obj.cells #[Value.int IntKind.u8 ↑kind.toNat] 5)) := alb _ _
  go_upto_region 2 with fail
  obtain ⟨v2, hv2⟩ : ∃ v2, v2 = Value.slice (some ⟨w1.heap.size, 0, none⟩) 1 1 := ⟨_, rfl⟩
  obtain ⟨w2, hw2⟩ : ∃ w2, w2 = w1.alloc (Obj.cells #[Value.int IntKind.u8 ↑kind.toNat] 5) := ⟨_, rfl⟩
  rw [← hv2, ← hw2] at ho2
  rw [← hw2] at hb2
  rw [← hv2, ← hw2]
  clear hv2 hw2
  obtain ⟨c2_0, c2_1, c2_2, c2_3, c2_4, c2_5, c2_6, c2_7, c2_8, c2_9, c2_10⟩ := HBX.out w2 hb2
  go_wp2_with (first
    | (at_builtin; refine app_own rfl (.tmp 68) (.tmp 72) rfl w1.heap.size _ _ r3 rfl _ _ _ p3 rfl (by first | omega | (simp; omega)) s3 ?_; intro v3 w3 ho3 hg3; have hb3 := (hb2.trans (q3.mono hb2.size)).trans (hg3.below r3 s3); obtain ⟨c3_0, c3_1, c3_2, c3_3, c3_4, c3_5, c3_6, c3_7, c3_8, c3_9, c3_10⟩ := HBX.out w3 hb3)
    | (go_at_call 49; refine (refSmall1 w2 o go).mono ?_; rintro e x3 ⟨y3, rfl, p3, q3⟩; have r3 := ho2.kept q3; have s3 : w1.heap.size ≤ x3.heap.size := Nat.le_trans hb2.size q3.size))
  go_ret
  exact ⟨_, rfl, by simpa using ho3.mono hb01.size, hb01.trans (hb3.mono hb01.size)⟩

theorem refOne_any (c : Chg) (w : World) (hok : chgOk c = true) (hg : c.Good) :
    Calls Try.prog 51 #[c.val] w fun e w' => ∃ v', e = .returned v' ∧ Own w' w.heap.size v' (chgB c) ∧ Below w.heap.size w w' := by
  have h := chgOk_kind hok
  have h7 : c.kind.toNat = 1 ∨ c.kind.toNat = 2 ∨ c.kind.toNat = 3 ∨ c.kind.toNat = 4 ∨ c.kind.toNat = 5 ∨ c.kind.toNat = 6 ∨ c.kind.toNat = 7 := by omega
  rcases h7 with h | h | h | h | h | h | h
  · exact refOne1 c w hok hg h
  · exact refOne2 c w hok hg h
  · exact refOne3 c w hok hg h
  · exact refOne4 c w hok hg h
  · exact refOne5 c w hok hg h
  · exact refOne6 c w hok hg h
  · exact refOne7 c w hok hg h
end Go.Proofs.Ytlhlleokehkolaa
