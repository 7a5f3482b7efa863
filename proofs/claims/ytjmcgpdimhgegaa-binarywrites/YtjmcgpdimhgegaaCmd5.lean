/-
  (shaken)
-/
import Derived.Test.YtjmcgpdimhgegaaCmd2
import Derived.Test.YtjmcgpdimhgegaaCmd4
import Derived.Test.YtjmcgpdimhgegaaOfChanges
namespace Go.Proofs.Ytjmcgpdimhgegaa
open Go.RowKit
set_option linter.unusedSimpArgs false
set_option linter.unusedVariables false
set_option maxRecDepth 100000

def cmdE (c : Cmd) : Int := if cmdOk c = true then 0 else 8
def cmdBB (c : Cmd) : List UInt8 := if cmdOk c = true then cmdB c else []
theorem command_any (c : Cmd) (w : World) (ko : Option Addr) (kc : Nat) (hk : Tl w ko c.keys kc) (hg : c.Good) :
    Calls Try.prog 24 #[.agg (c.cells (.slice ko c.keys.length kc)).toArray] w fun e w' => ∃ v', e = .returned (.tuple #[v', .int .i64 (cmdE c)]) ∧ Own w' w.heap.size v' (cmdBB c) ∧ Below w.heap.size w w' := by
  by_cases hok : cmdOk c = true
  · have e1 : cmdE c = 0 := by unfold cmdE; rw [if_pos hok]
    have e2 : cmdBB c = cmdB c := by unfold cmdBB; rw [if_pos hok]
    rw [e1, e2]
    exact command_good c w ko kc hk hok hg
  · have e1 : cmdE c = 8 := by unfold cmdE; rw [if_neg hok]
    have e2 : cmdBB c = [] := by unfold cmdBB; rw [if_neg hok]
    rw [e1, e2]
    have hsh := fun W (h : Below w.heap.size w W) => hasShape_any c W ko kc (hk.below h)
    have hok' : cmdOk c = false := by simpa using hok
    rw [hok'] at hsh
    obtain ⟨kind, tenant, keys, value, flags, dur, unique, by_⟩ := c
    unfold Cmd.cells bcell at hsh ⊢
    simp only [] at hk hsh ⊢
    have HSH : Hid (∀ W, Below w.heap.size w W → Calls Try.prog 31 #[.agg #[.int .u8 (kind.toNat : Int), .int .i64 tenant, .slice ko keys.length kc, .string value, .int .u32 flags, .int .i64 dur, .int .u64 unique, .int .u64 by_]] W fun e w' => e = .returned (.bool false) ∧ Below W.heap.size W w') := hsh
    clear hk hsh hok hok' e1 e2 hg
    go_enter Try.func24, Try.ntmps24
    go_wp2_with (go_at_call 31; refine (HSH.out _ ((Below.refl _ _).alloc (Nat.le_refl _) _)).mono ?_; rintro e w1 ⟨rfl, hb1⟩)
    go_ret2
    exact ⟨_, rfl, Own.nil _ _, below_alloc hb1⟩

def zeroC : Cmd := ⟨0, 0, [], ⟨#[]⟩, 0, 0, 0, 0⟩
/-- P1.4: what OfCommand answers -/
def cmdRead (l : List UInt8) : Bool := !(sCmd ⟨l, false⟩).2.bad && (sCmd ⟨l, false⟩).2.l.isEmpty && cmdOk (sCmd ⟨l, false⟩).1
def ofCmdE (l : List UInt8) : Int := if cmdRead l = true then 0 else 8
def ofCmd (l : List UInt8) : Cmd := if cmdRead l = true then (sCmd ⟨l, false⟩).1 else zeroC

end Go.Proofs.Ytjmcgpdimhgegaa
