/-
  OrderNames' own helpers: a command that may not be; two keys in two shards of two.
-/
import Derived.Test.YtiefdflkbihmkaaOrPd
namespace Go.Proofs.Ytiefdflkbihmkaa
open Go.RowKit
set_option linter.unusedSimpArgs false
set_option linter.unusedVariables false
set_option maxRecDepth 100000

theorem bad_any (c : Cm) (ko : Option Addr) (kc : Nat) (w : World) (h : GRd ES w ko c.keys kc) :
    Calls Try.prog 7 #[.agg (c.arr (.slice ko c.keys.length kc))] w fun e w' => e = .returned (.bool (c.chkE == 100)) ∧ Below w.heap.size w w' := by
  have HK := Hid.mk2 (fun W (hW : Below w.heap.size w W) => pcheck_any c ko kc W (h.below hW))
  have HM := Hid.mk2 (Cm.At.made c (.slice ko c.keys.length kc) w)
  obtain ⟨E, hE⟩ : ∃ E, E = c.chkE := ⟨_, rfl⟩
  rw [← hE] at HK ⊢
  clear hE h
  obtain ⟨kind, tenant, keys, value, flags, life, unique, by_⟩ := c
  unfold Cm.arr at *
  dsimp only at *
  obtain ⟨W, hW⟩ : ∃ W, W = w.alloc (.cells #[.int .u8 kind, .int .i64 tenant, .slice ko keys.length kc, .string value, .int .u32 flags, .int .i64 life, .int .u64 unique, .int .u64 by_] 27) := ⟨_, rfl⟩
  have HB : Hid (Below w.heap.size w W) := by rw [hW]; exact g_alloc _ _
  rw [← hW] at HM
  obtain ⟨hlt, c0, c1, c2, c3, c4, c5, c6, c7⟩ := HM.out
  dsimp only at c0 c1 c2 c3 c4 c5 c6 c7
  go_enter Try.func7, Try.ntmps7
  go_upto_region 1 with (fail)
  rw [← hW]
  clear hW
  go_wp2_with (go_at_call 18; refine (HK.out _ HB.out).mono ?_; rintro e w1 ⟨rfl, hb1⟩)
  go_ret
  exact ⟨rfl, g_on HB.out hb1⟩

def alpha : ByteArray := ⟨#[97, 98, 99, 100, 101, 102, 103, 104, 105, 106, 107, 108, 109, 110, 111, 112, 113, 114, 115, 116, 117, 118, 119, 120, 121, 122]⟩
/-- the i-th letter; a get of it; its shard of two -/
def ltr (i : Nat) : ByteArray := alpha.extract i (i + 1)
def getC (k : ByteArray) : Cm := ⟨1, 0, [k], ⟨#[]⟩, 0, 0, 0, 0⟩
def shOf (i : Nat) : Int := (shardOf 0 (ltr i) 2).1
theorem ltr_sh : ∀ i : Fin 26, (getC (ltr i)).shE 2 = 0 ∧ (getC (ltr i)).shL 2 = [shOf i] ∧ (shOf i = 0 ∨ shOf i = 1) := by decide +kernel
def lastA : Nat → ByteArray
  | 0 => ⟨#[]⟩
  | k + 1 => if shOf k = 0 then ltr k else lastA k
def lastB : Nat → ByteArray
  | 0 => ⟨#[]⟩
  | k + 1 => if shOf k = 1 then ltr k else lastB k
theorem last_yz : lastA 26 = ⟨#[121]⟩ ∧ lastB 26 = ⟨#[122]⟩ := by decide +kernel
/-- texts in a new block of their own -/
theorem g_lit (w : World) (l : List ByteArray) (n : Nat) (hn : n = l.length) (hne : l ≠ []) (h64 : l.length ≤ 1000) : GRd ES (w.alloc (.cells (l.map Value.string).toArray 9)) (some ⟨w.heap.size, 0, none⟩) l n := by
  subst hn
  refine ⟨Nat.le_refl _, by omega, (by intro e; cases e), .inr ⟨w.heap.size, 0, rfl, by simp, fun i hi j hj => ?_⟩⟩
  have : j = 0 := by simp [ES] at hj; exact hj
  subst this
  simp [ES, hi]
set_option maxHeartbeats 1000000 in
theorem apart_any (w : World) : Calls Try.prog 9 #[] w fun e w' => e = .returned (.tuple #[.string ⟨#[121]⟩, .string ⟨#[122]⟩]) ∧ Below w.heap.size w w' := by
  have HA0 : Hid (lastA 0 = ⟨#[]⟩ ∧ lastB 0 = ⟨#[]⟩) := ⟨rfl, rfl⟩
  have HAS : Hid (∀ k, lastA (k + 1) = (if shOf k = 0 then ltr k else lastA k) ∧ lastB (k + 1) = (if shOf k = 1 then ltr k else lastB k)) := fun k => ⟨rfl, rfl⟩
  have HE := Hid.mk2 last_yz
  have HSH : Hid (∀ k, k < 26 → (shOf k = 0 ∨ shOf k = 1) ∧ ∀ (W : World) (a : Option Addr) (cp : Nat), GRd ES W a [ltr k] cp → Calls Try.prog 8 #[.agg ((getC (ltr k)).arr (.slice a 1 cp)), .int .i64 2] W fun e w' => ∃ v, e = .returned (.tuple #[v, .int .i64 0]) ∧ GOwn EI w' W.heap.size v [shOf k] ∧ Below W.heap.size W w') := by
    intro k hk
    obtain ⟨h1, h2, h3⟩ := ltr_sh ⟨k, hk⟩
    refine ⟨h3, fun W a cp hg => ?_⟩
    have := pshards_any (getC (ltr k)) a cp 2 W hg
    dsimp only at h1 h2
    rw [h1, h2] at this
    exact this
  have HLT : Hid (∀ k, ltr k = alpha.extract k (k + 1)) := fun _ => rfl
  obtain ⟨LT, hLT⟩ : ∃ LT : Nat → ByteArray, ∀ k, LT k = ltr k := ⟨_, fun _ => rfl⟩
  obtain ⟨AA, hAA⟩ : ∃ AA : Nat → ByteArray, ∀ k, AA k = lastA k := ⟨_, fun _ => rfl⟩
  obtain ⟨BB, hBB⟩ : ∃ BB : Nat → ByteArray, ∀ k, BB k = lastB k := ⟨_, fun _ => rfl⟩
  obtain ⟨OO, hOO⟩ : ∃ OO : Nat → Int, ∀ k, OO k = shOf k := ⟨_, fun _ => rfl⟩
  simp only [← hLT, ← hAA, ← hBB, ← hOO] at HA0 HAS HE HSH HLT
  unfold getC Cm.arr at HSH
  dsimp only at HSH
  unfold alpha at HLT
  clear hLT hAA hBB hOO
  go_enter Try.func9, Try.ntmps9
  go_wp2
  go_loopw [2, 3, 4, 5, 6, 7] (fun s2 s3 s4 _ _ _ wr => ∃ k : Nat, k ≤ 26 ∧ s4 = .int .i64 k ∧ s2 = .string (AA k) ∧ s3 = .string (BB k) ∧ Hid (Below w.heap.size w wr)) (fun _ _ s4 _ _ _ _ => 26 - (intOf s4).toNat)
  case atStart => exact ⟨0, Nat.zero_le _, rfl, by rw [HA0.out.1], by rw [HA0.out.2], Below.refl _ _⟩
  case round =>
    obtain ⟨k, hk, rfl, rfl, rfl, HB⟩ := hrel
    by_cases hkl : k < 26
    · have hkl2 : (k : Int) < 26 := by omega
      have hl0 := HLT.out k
      have hl1 := hl0.symm
      clear hl0
      obtain ⟨h01, hsh⟩ := HSH.out k hkl
      have HS := Hid.mk2 hsh
      have HAK := Hid.mk2 (HAS.out k)
      obtain ⟨X, hX⟩ : ∃ X, X = LT k := ⟨_, rfl⟩
      obtain ⟨O, hO⟩ : ∃ O, O = OO k := ⟨_, rfl⟩
      rw [← hX] at hl1 HS HAK
      rw [← hO] at HS HAK h01
      clear hX hO hsh HSH HAS
      go_upto_region 6 with (fail)
      clear hl1
      rcases h01 with h0 | h0
      · subst h0
        have ea : AA (k + 1) = X := by rw [HAK.out.1, if_pos rfl]
        have eb : BB (k + 1) = BB k := by rw [HAK.out.2, if_neg (by decide)]
        have HEA := Hid.mk2 ea
        have HEB := Hid.mk2 eb
        clear ea eb HAK
        go_wp2_with (go_at_call 8; refine (HS.out _ _ _ (g_lit wr [X] 1 rfl (by simp) (by simp))).mono ?_; rintro e w1 ⟨v1, rfl, hO1, hb1⟩; obtain ⟨sa, sc, hv1, hS1⟩ := hO1.rd okI; subst hv1; obtain ⟨b, off, hsa, hbl, hcs⟩ := hS1.int (by simp); subst hsa; have r0 := hcs 0 (by simp); simp only [List.getElem_cons_zero, Nat.add_zero] at r0; have HB1 := Hid.mk2 (g_on HB.out (g_behind hb1)); clear hO1 hS1 hcs hb1)
        go_roundw
        case rel => exact ⟨k + 1, by omega, by go_num, by rw [HEA.out], by rw [HEB.out], HB1⟩
        case measure => simp [intOf]; omega
      · subst h0
        have ea : AA (k + 1) = AA k := by rw [HAK.out.1, if_neg (by decide)]
        have eb : BB (k + 1) = X := by rw [HAK.out.2, if_pos rfl]
        have HEA := Hid.mk2 ea
        have HEB := Hid.mk2 eb
        clear ea eb HAK
        go_wp2_with (go_at_call 8; refine (HS.out _ _ _ (g_lit wr [X] 1 rfl (by simp) (by simp))).mono ?_; rintro e w1 ⟨v1, rfl, hO1, hb1⟩; obtain ⟨sa, sc, hv1, hS1⟩ := hO1.rd okI; subst hv1; obtain ⟨b, off, hsa, hbl, hcs⟩ := hS1.int (by simp); subst hsa; have r0 := hcs 0 (by simp); simp only [List.getElem_cons_zero, Nat.add_zero] at r0; have HB1 := Hid.mk2 (g_on HB.out (g_behind hb1)); clear hO1 hS1 hcs hb1)
        go_roundw
        case rel => exact ⟨k + 1, by omega, by go_num, by rw [HEA.out], by rw [HEB.out], HB1⟩
        case measure => simp [intOf]; omega
    · have hkl2 : ¬ (k : Int) < 26 := by omega
      have ek : k = 26 := by omega
      subst ek
      obtain ⟨e1, e2⟩ := HE.out
      rw [e1, e2]
      clear e1 e2 HSH HAS HLT HE HA0
      go_wp2
      go_ret2
      exact ⟨rfl, HB.out⟩
end Go.Proofs.Ytiefdflkbihmkaa
