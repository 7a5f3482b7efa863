/-
  alive: two chunks of one page.
-/
import Derived.Test.YtkcgleahbhmggaaSbAll
namespace Go.Proofs.Ytkcgleahbhmggaa
open Go.RowKit
set_option linter.unusedSimpArgs false
set_option linter.unusedVariables false
set_option maxRecDepth 100000

def al0 : List Pg := List.replicate 2 pz
def al1 : List Pg := [⟨2, 3, 1, by decide⟩, pz]
def al2 : List Pg := [⟨2, 3, 3, by decide⟩, pz]
theorem alive_any (w : World) : Calls Try.prog 29 #[] w fun e w' => e = .returned (.bool true) ∧ Below w.heap.size w w' := by
  have N := fun W => new_sb 2 W (by decide)
  have T1 := fun W ao cap (h : Sb W ao al0 cap) => take_sb W ao al0 cap h 2 3 2 0 al1 0 0 (by decide) (by decide)
  have T2 := fun W ao cap (h : Sb W ao al1 cap) => take_sb W ao al1 cap h 2 3 2 0 al2 0 1 (by decide) (by decide)
  have l1 : al0.length = 2 := rfl
  have l2 : al1.length = 2 := rfl
  have l3 : al2.length = 2 := rfl
  have HS : Hid (∀ W ao cap, Sb W ao (List.replicate 2 pz) cap → Sb W ao al0 cap) := fun _ _ _ h => h
  rw [List.length_replicate] at N
  rw [l1, l2] at T1
  rw [l2, l3] at T2
  have HN := Hid.mk2 N
  have HT1 := Hid.mk2 T1
  have HT2 := Hid.mk2 T2
  clear N T1 T2 l1 l2 l3
  go_enter Try.func29, Try.ntmps29
  go_upto_region 4 with (first
    | (go_at_call 26; refine (HT2.out _ ro2 rc2 (HS2.out.below ((Below.refl _ _).alloc (Nat.le_refl _) _))).mono ?_; rintro e w3 ⟨ro3, rc3, rfl, hs3, -, hb3⟩; have HS3 := Hid.mk2 hs3; have HB3 := Hid.mk2 (HB2.out.trans ((below_alloc hb3).mono HB2.out.size)); clear hs3 hb3)
    | (go_at_call 26; refine (HT1.out _ ro1 rc1 (HS1.out.below ((Below.refl _ _).alloc (Nat.le_refl _) _))).mono ?_; rintro e w2 ⟨ro2, rc2, rfl, hs2, -, hb2⟩; have HS2 := Hid.mk2 hs2; have HB2 := Hid.mk2 (HB1.out.trans ((below_alloc hb2).mono HB1.out.size)); clear hs2 hb2)
    | (go_at_call 33; refine (HN.out _).mono ?_; rintro e w1 ⟨ro1, rc1, rfl, hs1, -, hb1⟩; have HS1 := Hid.mk2 (HS.out _ _ _ hs1); have HB1 := Hid.mk2 hb1; clear hs1 hb1))
  obtain ⟨b, off, hro, hbl, hcs⟩ := HS3.out.lies (by decide)
  subst hro
  have hc3 : 2 ≤ rc3 := HS3.out.hl
  obtain ⟨c0, c1, c2⟩ := hcs 0 (by decide)
  rw [Nat.zero_mul, Nat.add_zero] at c0 c1 c2
  have c0' : w3.cell? ⟨b, off, none⟩ = some (.int .i64 2) := c0
  have c1' : w3.cell? ⟨b, off + 1, none⟩ = some (.int .i64 3) := c1
  have c2' : w3.cell? ⟨b, off + 2, none⟩ = some (.int .u16 3) := c2
  clear c0 c1 c2 hcs HS3 HT1 HT2 HN HS HS1 HS2
  go_wp2
  go_ret
  exact ⟨rfl, HB3.out.alloc HB3.out.size _⟩
end Go.Proofs.Ytkcgleahbhmggaa
