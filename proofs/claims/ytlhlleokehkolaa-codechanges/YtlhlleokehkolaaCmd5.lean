/-
  Commands, read: the contracts of OfCommand and of Command, of any command.
-/
import Derived.Test.YtlhlleokehkolaaCmd2
import Derived.Test.YtlhlleokehkolaaCmd4
import Derived.Test.YtlhlleokehkolaaOfChanges
namespace Go.Proofs.Ytlhlleokehkolaa
open Go.RowKit
set_option linter.unusedSimpArgs false
set_option linter.unusedVariables false
set_option maxRecDepth 100000

theorem below_row {w w' : World} {rb B : Nat} (h : w.grownBy w' (some rb)) (hB : B ≤ rb) (hs : B ≤ w.heap.size) : Below B w w' := ⟨h.os, h.tape, h.output, h.size, fun k hk => h.block k (by omega) (fun e => by cases e; omega)⟩
theorem below_none {w w' : World} (h : Below w.heap.size w w') : w.grownBy w' none := ⟨h.os, h.tape, h.output, h.size, fun k hk _ => h.block k hk⟩
theorem tl_of {w : World} {base : Nat} {ko : Option Addr} {kc : Nat} {ks : List ByteArray} (h : OwnTs w base (.slice ko ks.length kc) ks) : Tl w ko ks kc := by
  obtain ⟨ko', kc', e', ht⟩ := h.tl
  cases e'
  exact ht
def cmdE (c : Cmd) : Int := if cmdOk c = true then 0 else 8
def cmdBB (c : Cmd) : List UInt8 := if cmdOk c = true then cmdB c else []
theorem command_any (c : Cmd) (w : World) (ko : Option Addr) (kc : Nat) (hk : Tl w ko c.keys kc) (hg : c.Good) :
    Calls Try.prog 12 #[.agg (c.cells (.slice ko c.keys.length kc)).toArray] w fun e w' => ∃ v', e = .returned (.tuple #[v', .int .i64 (cmdE c)]) ∧ Own w' w.heap.size v' (cmdBB c) ∧ Below w.heap.size w w' := by
  by_cases hok : cmdOk c = true
  · have e1 : cmdE c = 0 := by unfold cmdE; rw [if_pos hok]
    have e2 : cmdBB c = cmdB c := by unfold cmdBB; rw [if_pos hok]
    rw [e1, e2]
    exact command_good c w ko kc hk hok hg
  · have e1 : cmdE c = 8 := by unfold cmdE; rw [if_neg hok]
    have e2 : cmdBB c = [] := by unfold cmdBB; rw [if_neg hok]
    rw [e1, e2]
    have hsh := fun W (h : Below w.heap.size w W) => hasShape_any c W ko kc (hk.below h)
    have hok' : cmdOk c = false := by simpa using hok
    rw [hok'] at hsh
    obtain ⟨kind, tenant, keys, value, flags, dur, unique, by_⟩ := c
    unfold Cmd.cells bcell at hsh ⊢
    simp only [] at hk hsh ⊢
    have HSH : Hid (∀ W, Below w.heap.size w W → Calls Try.prog 37 #[.agg #[.int .u8 (kind.toNat : Int), .int .i64 tenant, .slice ko keys.length kc, .string value, .int .u32 flags, .int .i64 dur, .int .u64 unique, .int .u64 by_]] W fun e w' => e = .returned (.bool false) ∧ Below W.heap.size W w') := hsh
    clear hk hsh hok hok' e1 e2 hg
    go_enter Try.func12, Try.ntmps12
    go_wp2_with (go_at_call 37; refine (HSH.out _ ((Below.refl _ _).alloc (Nat.le_refl _) _)).mono ?_; rintro e w1 ⟨rfl, hb1⟩)
    go_ret2
    exact ⟨_, rfl, Own.nil _ _, below_alloc hb1⟩

def zeroC : Cmd := ⟨0, 0, [], ⟨#[]⟩, 0, 0, 0, 0⟩
/-- P1.4: what OfCommand answers -/
def cmdRead (l : List UInt8) : Bool := !(sCmd ⟨l, false⟩).2.bad && (sCmd ⟨l, false⟩).2.l.isEmpty && cmdOk (sCmd ⟨l, false⟩).1
def ofCmdE (l : List UInt8) : Int := if cmdRead l = true then 0 else 8
def ofCmd (l : List UInt8) : Cmd := if cmdRead l = true then (sCmd ⟨l, false⟩).1 else zeroC

set_option maxHeartbeats 1000000 in
theorem ofCommand_any (w : World) (ao : Option Addr) (l : List UInt8) (cap : Nat) (hb : BsAt w w.heap.size ao l) (h1 : l.length ≤ cap) (h2 : cap ≤ maxLen) (h3 : ao = none → cap = 0) :
    Calls Try.prog 15 #[.slice ao l.length cap] w fun e w' => ∃ ko kc, e = .returned (.tuple #[.agg ((ofCmd l).cells (.slice ko (ofCmd l).keys.length kc)).toArray, .int .i64 (ofCmdE l)]) ∧ Tl w' ko (ofCmd l).keys kc ∧ Below w.heap.size w w' := by
  have bA : Below w.heap.size w (w.alloc (.cells zeroCmd.toArray 36)) := (Below.refl _ _).alloc (Nat.le_refl _) _
  have hrd := Rd.made (w.alloc (.cells zeroCmd.toArray 36)) w.heap.size ao l cap (hb.below bA (Nat.le_refl _)) h1 h2 h3 (by simp)
  rw [show (w.alloc (.cells zeroCmd.toArray 36)).heap.size = w.heap.size + 1 by simp] at hrd
  have hRW : WB ((w.alloc (.cells zeroCmd.toArray 36)).alloc (.cells #[.slice ao l.length cap, .bool false] 72)) w.heap.size zeroCmd := (WB.made w zeroCmd 36).grown (World.grownBy_alloc _ _ none) (by simp)
  have bA2 : Below w.heap.size w ((w.alloc (.cells zeroCmd.toArray 36)).alloc (.cells #[.slice ao l.length cap, .bool false] 72)) := bA.alloc (by simp) _
  have hcm := fun W rb h => rcommand_any W w.heap.size rb ⟨l, false⟩ h
  unfold ofCmdE ofCmd cmdRead
  obtain ⟨q, hq⟩ : ∃ q, q = sCmd ⟨l, false⟩ := ⟨_, rfl⟩
  rw [← hq] at hcm ⊢
  clear hq hb h1 h2 h3 bA
  obtain ⟨⟨kind, tenant, keys, value, flags, dur, unique, by_⟩, st⟩ := q
  unfold Cmd.cells bcell at hcm ⊢
  simp only [] at hcm ⊢
  unfold zeroCmd at hrd bA2
  have HCM : Hid (∀ (W : World) (rb : Nat), Rd W w.heap.size rb ⟨l, false⟩ → Calls Try.prog 45 #[.pointer (some ⟨rb, 0, none⟩)] W fun e w' => ∃ v, e = .returned (.agg #[.int .u8 (kind.toNat : Int), .int .i64 tenant, v, .string value, .int .u32 flags, .int .i64 dur, .int .u64 unique, .int .u64 by_]) ∧ OwnTs w' W.heap.size v keys ∧ Rd w' w.heap.size rb st ∧ W.grownBy w' (some rb) ∧ (∀ k, v.ownBlock = some k → k ≠ rb)) := hcm
  clear hcm
  by_cases hen : (!st.bad && st.l.isEmpty) = true
  · by_cases hok : cmdOk ⟨kind, tenant, keys, value, flags, dur, unique, by_⟩ = true
    · rw [if_pos (by rw [hen, hok]; rfl), if_pos (by rw [hen, hok]; rfl)]
      simp only []
      go_enter Try.func15, Try.ntmps15
      go_wp2_with (first
        | (go_at_call 45; refine (HCM.out _ _ hrd).mono ?_; rintro e w1 ⟨v1, rfl, ho1, h1', g1, nb⟩; obtain ⟨ko, kc, hv1, htl⟩ := ho1.tl; subst hv1; have R1 : WB (w1.alloc (Obj.cells #[Value.int .u8 (kind.toNat : Int), Value.int .i64 tenant, Value.slice ko keys.length kc, Value.string value, Value.int .u32 flags, Value.int .i64 dur, Value.int .u64 unique, Value.int .u64 by_] 36)) w.heap.size zeroCmd := (hRW.grown g1 (by simp)).grown (World.grownBy_alloc w1 _ none) (by simp); have E1 := h1'.grown (World.grownBy_alloc w1 (Obj.cells #[Value.int .u8 (kind.toNat : Int), Value.int .i64 tenant, Value.slice ko keys.length kc, Value.string value, Value.int .u32 flags, Value.int .i64 dur, Value.int .u64 unique, Value.int .u64 by_] 36) none) (by simp) (by simp); have b01 : Below w.heap.size w w1 := (bA2.trans (below_row g1 (by simp) (by simp; omega))))
        | (go_at_call 44; refine (ended_any _ _ _ _ E1).mono ?_; rintro e w' ⟨rfl, rfl⟩; rw [hen])
        | (go_at_call 37; refine (hasShape_any ⟨kind, tenant, keys, value, flags, dur, unique, by_⟩ (w1.alloc (Obj.cells #[Value.int .u8 (kind.toNat : Int), Value.int .i64 tenant, Value.slice ko keys.length kc, Value.string value, Value.int .u32 flags, Value.int .i64 dur, Value.int .u64 unique, Value.int .u64 by_] 36)) ko kc (htl.below ((Below.refl _ _).alloc (Nat.le_refl _) _))).mono ?_; rintro e w2 ⟨rfl, hb2⟩; rw [hok]; have R2 := R1.grown (below_none hb2) (by simp); have z0 : w2.cell? ⟨w.heap.size, 0, none⟩ = some (.int .u8 0) := R2.cells 0 (by simp [zeroCmd]); have zf0 := R2.free 0; have z1 : w2.cell? ⟨w.heap.size, 1, none⟩ = some (.int .i64 0) := R2.cells 1 (by simp [zeroCmd]); have zf1 := R2.free 1; have z2 : w2.cell? ⟨w.heap.size, 2, none⟩ = some (.slice none 0 0) := R2.cells 2 (by simp [zeroCmd]); have zf2 := R2.free 2; have z3 : w2.cell? ⟨w.heap.size, 3, none⟩ = some (.string ⟨#[]⟩) := R2.cells 3 (by simp [zeroCmd]); have zf3 := R2.free 3; have z4 : w2.cell? ⟨w.heap.size, 4, none⟩ = some (.int .u32 0) := R2.cells 4 (by simp [zeroCmd]); have zf4 := R2.free 4; have z5 : w2.cell? ⟨w.heap.size, 5, none⟩ = some (.int .i64 0) := R2.cells 5 (by simp [zeroCmd]); have zf5 := R2.free 5; have z6 : w2.cell? ⟨w.heap.size, 6, none⟩ = some (.int .u64 0) := R2.cells 6 (by simp [zeroCmd]); have zf6 := R2.free 6; have z7 : w2.cell? ⟨w.heap.size, 7, none⟩ = some (.int .u64 0) := R2.cells 7 (by simp [zeroCmd]); have zf7 := R2.free 7; have cc := below_cells hb2; have sC := hb2.size; have b12 : Below w1.heap.size w1 w2 := below_alloc hb2))
      have HOB : Hid (∀ j, (Value.slice ko keys.length kc).ownBlock = some j → some w.heap.size ≠ some j) := fun j hj e => by
        have h1 := (ho1.lt j hj).1
        simp at h1
        cases e
        omega
      have T2 := ((ho1.grown (World.grownBy_alloc w1 (Obj.cells #[Value.int .u8 (kind.toNat : Int), Value.int .i64 tenant, Value.slice ko keys.length kc, Value.string value, Value.int .u32 flags, Value.int .i64 dur, Value.int .u64 unique, Value.int .u64 by_] 36) none) (by simp)).grown (below_none hb2) (by simp))
      have b02 : Below w.heap.size w w2 := b01.trans (b12.mono b01.size)
      refine bodyPost_ret (v := .tuple #[.agg #[.int .u8 (kind.toNat : Int), .int .i64 tenant, .slice ko keys.length kc, .string value, .int .u32 flags, .int .i64 dur, .int .u64 unique, .int .u64 by_], .int .i64 0]) (by simp [results, Try.results15, go_sem, z0, z1, z2, z3, z4, z5, z6, z7]) rfl ⟨ko, kc, rfl, ?_, ((((((((b02.setCell (Nat.le_refl _) _).setCell (Nat.le_refl _) _).setCell (Nat.le_refl _) _).setCell (Nat.le_refl _) _).setCell (Nat.le_refl _) _).setCell (Nat.le_refl _) _).setCell (Nat.le_refl _) _).setCell (Nat.le_refl _) _)⟩
      exact tl_of ((((((((T2.grown (grown_set _ w.heap.size 0 _) HOB.out).grown (grown_set _ w.heap.size 1 _) HOB.out).grown (grown_set _ w.heap.size 2 _) HOB.out).grown (grown_set _ w.heap.size 3 _) HOB.out).grown (grown_set _ w.heap.size 4 _) HOB.out).grown (grown_set _ w.heap.size 5 _) HOB.out).grown (grown_set _ w.heap.size 6 _) HOB.out).grown (grown_set _ w.heap.size 7 _) HOB.out)
    · have hok' : cmdOk ⟨kind, tenant, keys, value, flags, dur, unique, by_⟩ = false := by simpa using hok
      rw [if_neg (by rw [hen, hok']; decide), if_neg (by rw [hen, hok']; decide)]
      simp only [zeroC]
      go_enter Try.func15, Try.ntmps15
      go_wp2_with (first
        | (go_at_call 45; refine (HCM.out _ _ hrd).mono ?_; rintro e w1 ⟨v1, rfl, ho1, h1', g1, nb⟩; obtain ⟨ko, kc, hv1, htl⟩ := ho1.tl; subst hv1; have R1 : WB (w1.alloc (Obj.cells #[Value.int .u8 (kind.toNat : Int), Value.int .i64 tenant, Value.slice ko keys.length kc, Value.string value, Value.int .u32 flags, Value.int .i64 dur, Value.int .u64 unique, Value.int .u64 by_] 36)) w.heap.size zeroCmd := (hRW.grown g1 (by simp)).grown (World.grownBy_alloc w1 _ none) (by simp); have E1 := h1'.grown (World.grownBy_alloc w1 (Obj.cells #[Value.int .u8 (kind.toNat : Int), Value.int .i64 tenant, Value.slice ko keys.length kc, Value.string value, Value.int .u32 flags, Value.int .i64 dur, Value.int .u64 unique, Value.int .u64 by_] 36) none) (by simp) (by simp); have b01 : Below w.heap.size w w1 := (bA2.trans (below_row g1 (by simp) (by simp; omega))))
        | (go_at_call 44; refine (ended_any _ _ _ _ E1).mono ?_; rintro e w' ⟨rfl, rfl⟩; rw [hen])
        | (go_at_call 37; refine (hasShape_any ⟨kind, tenant, keys, value, flags, dur, unique, by_⟩ (w1.alloc (Obj.cells #[Value.int .u8 (kind.toNat : Int), Value.int .i64 tenant, Value.slice ko keys.length kc, Value.string value, Value.int .u32 flags, Value.int .i64 dur, Value.int .u64 unique, Value.int .u64 by_] 36)) ko kc (htl.below ((Below.refl _ _).alloc (Nat.le_refl _) _))).mono ?_; rintro e w2 ⟨rfl, hb2⟩; rw [hok']; have R2 := R1.grown (below_none hb2) (by simp); have z0 : w2.cell? ⟨w.heap.size, 0, none⟩ = some (.int .u8 0) := R2.cells 0 (by simp [zeroCmd]); have zf0 := R2.free 0; have z1 : w2.cell? ⟨w.heap.size, 1, none⟩ = some (.int .i64 0) := R2.cells 1 (by simp [zeroCmd]); have zf1 := R2.free 1; have z2 : w2.cell? ⟨w.heap.size, 2, none⟩ = some (.slice none 0 0) := R2.cells 2 (by simp [zeroCmd]); have zf2 := R2.free 2; have z3 : w2.cell? ⟨w.heap.size, 3, none⟩ = some (.string ⟨#[]⟩) := R2.cells 3 (by simp [zeroCmd]); have zf3 := R2.free 3; have z4 : w2.cell? ⟨w.heap.size, 4, none⟩ = some (.int .u32 0) := R2.cells 4 (by simp [zeroCmd]); have zf4 := R2.free 4; have z5 : w2.cell? ⟨w.heap.size, 5, none⟩ = some (.int .i64 0) := R2.cells 5 (by simp [zeroCmd]); have zf5 := R2.free 5; have z6 : w2.cell? ⟨w.heap.size, 6, none⟩ = some (.int .u64 0) := R2.cells 6 (by simp [zeroCmd]); have zf6 := R2.free 6; have z7 : w2.cell? ⟨w.heap.size, 7, none⟩ = some (.int .u64 0) := R2.cells 7 (by simp [zeroCmd]); have zf7 := R2.free 7; have cc := below_cells hb2; have sC := hb2.size; have b12 : Below w1.heap.size w1 w2 := below_alloc hb2))
      have b02 : Below w.heap.size w w2 := b01.trans (b12.mono b01.size)
      refine bodyPost_ret (v := .tuple #[.agg #[.int .u8 0, .int .i64 0, .slice none 0 0, .string ⟨#[]⟩, .int .u32 0, .int .i64 0, .int .u64 0, .int .u64 0], .int .i64 8]) (by simp [results, Try.results15, go_sem, z0, z1, z2, z3, z4, z5, z6, z7]) rfl ⟨none, 0, rfl, ⟨by simp, by omega, fun _ => rfl, .inl rfl⟩, ((((((((b02.setCell (Nat.le_refl _) _).setCell (Nat.le_refl _) _).setCell (Nat.le_refl _) _).setCell (Nat.le_refl _) _).setCell (Nat.le_refl _) _).setCell (Nat.le_refl _) _).setCell (Nat.le_refl _) _).setCell (Nat.le_refl _) _)⟩
  · have hen' : (!st.bad && st.l.isEmpty) = false := by simpa using hen
    rw [if_neg (by rw [hen', Bool.false_and]; decide), if_neg (by rw [hen', Bool.false_and]; decide)]
    simp only [zeroC]
    go_enter Try.func15, Try.ntmps15
    go_wp2_with (first
      | (go_at_call 45; refine (HCM.out _ _ hrd).mono ?_; rintro e w1 ⟨v1, rfl, ho1, h1', g1, nb⟩; obtain ⟨ko, kc, hv1, htl⟩ := ho1.tl; subst hv1; have R1 : WB (w1.alloc (Obj.cells #[Value.int .u8 (kind.toNat : Int), Value.int .i64 tenant, Value.slice ko keys.length kc, Value.string value, Value.int .u32 flags, Value.int .i64 dur, Value.int .u64 unique, Value.int .u64 by_] 36)) w.heap.size zeroCmd := (hRW.grown g1 (by simp)).grown (World.grownBy_alloc w1 _ none) (by simp); have E1 := h1'.grown (World.grownBy_alloc w1 (Obj.cells #[Value.int .u8 (kind.toNat : Int), Value.int .i64 tenant, Value.slice ko keys.length kc, Value.string value, Value.int .u32 flags, Value.int .i64 dur, Value.int .u64 unique, Value.int .u64 by_] 36) none) (by simp) (by simp); have b01 : Below w.heap.size w w1 := (bA2.trans (below_row g1 (by simp) (by simp; omega))))
      | (go_at_call 44; refine (ended_any _ _ _ _ E1).mono ?_; rintro e w' ⟨rfl, rfl⟩; rw [hen']; have z0 : (w1.alloc (Obj.cells #[Value.int .u8 (kind.toNat : Int), Value.int .i64 tenant, Value.slice ko keys.length kc, Value.string value, Value.int .u32 flags, Value.int .i64 dur, Value.int .u64 unique, Value.int .u64 by_] 36)).cell? ⟨w.heap.size, 0, none⟩ = some (.int .u8 0) := R1.cells 0 (by simp [zeroCmd]); have zf0 := R1.free 0; have z1 : (w1.alloc (Obj.cells #[Value.int .u8 (kind.toNat : Int), Value.int .i64 tenant, Value.slice ko keys.length kc, Value.string value, Value.int .u32 flags, Value.int .i64 dur, Value.int .u64 unique, Value.int .u64 by_] 36)).cell? ⟨w.heap.size, 1, none⟩ = some (.int .i64 0) := R1.cells 1 (by simp [zeroCmd]); have zf1 := R1.free 1; have z2 : (w1.alloc (Obj.cells #[Value.int .u8 (kind.toNat : Int), Value.int .i64 tenant, Value.slice ko keys.length kc, Value.string value, Value.int .u32 flags, Value.int .i64 dur, Value.int .u64 unique, Value.int .u64 by_] 36)).cell? ⟨w.heap.size, 2, none⟩ = some (.slice none 0 0) := R1.cells 2 (by simp [zeroCmd]); have zf2 := R1.free 2; have z3 : (w1.alloc (Obj.cells #[Value.int .u8 (kind.toNat : Int), Value.int .i64 tenant, Value.slice ko keys.length kc, Value.string value, Value.int .u32 flags, Value.int .i64 dur, Value.int .u64 unique, Value.int .u64 by_] 36)).cell? ⟨w.heap.size, 3, none⟩ = some (.string ⟨#[]⟩) := R1.cells 3 (by simp [zeroCmd]); have zf3 := R1.free 3; have z4 : (w1.alloc (Obj.cells #[Value.int .u8 (kind.toNat : Int), Value.int .i64 tenant, Value.slice ko keys.length kc, Value.string value, Value.int .u32 flags, Value.int .i64 dur, Value.int .u64 unique, Value.int .u64 by_] 36)).cell? ⟨w.heap.size, 4, none⟩ = some (.int .u32 0) := R1.cells 4 (by simp [zeroCmd]); have zf4 := R1.free 4; have z5 : (w1.alloc (Obj.cells #[Value.int .u8 (kind.toNat : Int), Value.int .i64 tenant, Value.slice ko keys.length kc, Value.string value, Value.int .u32 flags, Value.int .i64 dur, Value.int .u64 unique, Value.int .u64 by_] 36)).cell? ⟨w.heap.size, 5, none⟩ = some (.int .i64 0) := R1.cells 5 (by simp [zeroCmd]); have zf5 := R1.free 5; have z6 : (w1.alloc (Obj.cells #[Value.int .u8 (kind.toNat : Int), Value.int .i64 tenant, Value.slice ko keys.length kc, Value.string value, Value.int .u32 flags, Value.int .i64 dur, Value.int .u64 unique, Value.int .u64 by_] 36)).cell? ⟨w.heap.size, 6, none⟩ = some (.int .u64 0) := R1.cells 6 (by simp [zeroCmd]); have zf6 := R1.free 6; have z7 : (w1.alloc (Obj.cells #[Value.int .u8 (kind.toNat : Int), Value.int .i64 tenant, Value.slice ko keys.length kc, Value.string value, Value.int .u32 flags, Value.int .i64 dur, Value.int .u64 unique, Value.int .u64 by_] 36)).cell? ⟨w.heap.size, 7, none⟩ = some (.int .u64 0) := R1.cells 7 (by simp [zeroCmd]); have zf7 := R1.free 7))
    have b01a : Below w.heap.size w (w1.alloc (Obj.cells #[Value.int .u8 (kind.toNat : Int), Value.int .i64 tenant, Value.slice ko keys.length kc, Value.string value, Value.int .u32 flags, Value.int .i64 dur, Value.int .u64 unique, Value.int .u64 by_] 36)) := b01.alloc b01.size _
    refine bodyPost_ret (v := .tuple #[.agg #[.int .u8 0, .int .i64 0, .slice none 0 0, .string ⟨#[]⟩, .int .u32 0, .int .i64 0, .int .u64 0, .int .u64 0], .int .i64 8]) (by simp [results, Try.results15, go_sem, z0, z1, z2, z3, z4, z5, z6, z7]) rfl ⟨none, 0, rfl, ⟨by simp, by omega, fun _ => rfl, .inl rfl⟩, ((((((((b01a.setCell (Nat.le_refl _) _).setCell (Nat.le_refl _) _).setCell (Nat.le_refl _) _).setCell (Nat.le_refl _) _).setCell (Nat.le_refl _) _).setCell (Nat.le_refl _) _).setCell (Nat.le_refl _) _).setCell (Nat.le_refl _) _)⟩
end Go.Proofs.Ytlhlleokehkolaa
