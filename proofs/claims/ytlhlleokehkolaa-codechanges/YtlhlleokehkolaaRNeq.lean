/-
  Two changes compared; what may be, in the document's words.
-/
import Derived.Test.YtlhlleokehkolaaRBare
namespace Go.Proofs.Ytlhlleokehkolaa
open Go.RowKit
set_option linter.unusedSimpArgs false
set_option linter.unusedVariables false
set_option maxRecDepth 100000

theorem ba_of {a b : ByteArray} (h : a.toList = b.toList) : a = b := by
  rw [ByteArray.toList_eq, ByteArray.toList_eq] at h
  cases a; cases b
  simp at h
  rw [ByteArray.mk.injEq]
  exact Array.toList_inj.1 (by simpa using h)
theorem neq_same (k : UInt8) (t : Int) (a1 b1 : ByteArray) (f1 : Nat) (u1 : Int) (x1 : Nat) (c1 : ByteArray) (y1 : UInt8) (o1 : Int) (p1 : Bool) (w : World) :
   (binOp .neq 41 (.agg #[.int .u8 (k.toNat : Int), .int .i64 t, .string a1, .string b1, .int .u32 f1, .int .i64 u1, .int .u64 x1, .string c1, .int .u8 (y1.toNat : Int), .int .i64 o1, .bool p1]) (.agg #[.int .u8 (k.toNat : Int), .int .i64 t, .string a1, .string b1, .int .u32 f1, .int .i64 u1, .int .u64 x1, .string c1, .int .u8 (y1.toNat : Int), .int .i64 o1, .bool p1])).run Try.prog w = .ok (.bool false) w := by
  go_simp
theorem neq_other (k k2 : UInt8) (t t2 : Int) (a1 a2 b1 b2 : ByteArray) (f1 f2 : Nat) (u1 u2 : Int) (x1 x2 : Nat) (c1 c2 : ByteArray) (y1 y2 : UInt8) (o1 o2 : Int) (p1 p2 : Bool) (w : World) (h : (⟨k, t, ⟨a1, b1, f1, u1, x1⟩, c1, y1, o1, p1⟩ : Chg) ≠ ⟨k2, t2, ⟨a2, b2, f2, u2, x2⟩, c2, y2, o2, p2⟩) :
   (binOp .neq 41 (.agg #[.int .u8 (k.toNat : Int), .int .i64 t, .string a1, .string b1, .int .u32 f1, .int .i64 u1, .int .u64 x1, .string c1, .int .u8 (y1.toNat : Int), .int .i64 o1, .bool p1]) (.agg #[.int .u8 (k2.toNat : Int), .int .i64 t2, .string a2, .string b2, .int .u32 f2, .int .i64 u2, .int .u64 x2, .string c2, .int .u8 (y2.toNat : Int), .int .i64 o2, .bool p2])).run Try.prog w = .ok (.bool true) w := by
  go_simp
  intro e1 e2 e3 e4 e5 e6 e7 e8 e9 e10 e11
  apply h
  have z1 : k = k2 := UInt8.toNat_inj.1 (by omega)
  have z9 : y1 = y2 := UInt8.toNat_inj.1 (by omega)
  have z5 : f1 = f2 := by omega
  have z7 : x1 = x2 := by omega
  rw [z1, e2, ba_of e3, ba_of e4, z5, e6, z7, ba_of e8, z9, e10, e11]
theorem ten_zero : tenOk 0 = true := by decide
theorem bare_of_ok {c : Chg} (h : chgOk c = true) : bareC c = c ∧ tenOk c.tenant = true := by
  have hk := chgOk_kind h
  have ht := chgOk_ten h
  have ho := chgOk_to h
  have ht' := chgOk_ten' h
  have htk : tenOk c.tenant = true := by unfold tenOk; simp; omega
  refine ⟨?_, htk⟩
  have h7 : c.kind.toNat = 1 ∨ c.kind.toNat = 2 ∨ c.kind.toNat = 6 ∨ (c.kind.toNat = 3 ∨ c.kind.toNat = 4 ∨ c.kind.toNat = 5 ∨ c.kind.toNat = 7) := by omega
  rcases h7 with e | e | e | e
  · obtain ⟨a, b, d⟩ := chgOk_1 h e
    obtain ⟨b1, b2⟩ := noDrop_eq b
    have hm : mostTo c.kind.toNat = 0 := by rw [e]; rfl
    have hto : c.to = 0 := by rw [hm] at ho; omega
    unfold bareC
    rw [if_pos e]
    obtain ⟨kind, tenant, item, key, why, to, primary⟩ := c
    simp only [] at b1 b2 d hto ⊢
    rw [b1, b2, d, hto]
  · obtain ⟨a, b, b2, d⟩ := chgOk_2 h e
    have a1 := noItm_eq a
    have hm : mostTo c.kind.toNat = 0 := by rw [e]; rfl
    have hto : c.to = 0 := by rw [hm] at ho; omega
    unfold bareC
    rw [if_neg (by omega), if_pos e]
    obtain ⟨kind, tenant, item, key, why, to, primary⟩ := c
    simp only [] at a1 d hto ⊢
    rw [a1, d, hto]
  · obtain ⟨a, b⟩ := chgOk_6 h e
    have a1 := noItm_eq a
    obtain ⟨b1, b2⟩ := noDrop_eq b
    have hte : c.tenant = 0 := by
      rcases ht with h0 | ⟨h0, -⟩
      · exact h0
      · rw [e] at h0; cases h0
    unfold bareC
    rw [if_neg (by omega), if_neg (by omega), if_neg (by omega), if_neg (by omega), if_neg (by omega), if_pos e]
    obtain ⟨kind, tenant, item, key, why, to, primary⟩ := c
    simp only [] at a1 b1 b2 hte ⊢
    rw [a1, b1, b2, hte]
  · obtain ⟨a, b, d⟩ := chgOk_r h e
    have a1 := noItm_eq a
    obtain ⟨b1, b2⟩ := noDrop_eq b
    rcases e with e | e | e | e
    · have hm : mostTo c.kind.toNat = 0 := by rw [e]; rfl
      have hto : c.to = 0 := by rw [hm] at ho; omega
      unfold bareC
      rw [if_neg (by omega), if_neg (by omega), if_pos e]
      obtain ⟨kind, tenant, item, key, why, to, primary⟩ := c
      simp only [] at a1 b1 b2 d hto ⊢
      rw [a1, b1, b2, d, hto]
    · have hte : c.tenant = 0 := by
        rcases ht with h0 | ⟨h0, -⟩
        · exact h0
        · rw [e] at h0; cases h0
      unfold bareC
      rw [if_neg (by omega), if_neg (by omega), if_neg (by omega), if_pos e]
      obtain ⟨kind, tenant, item, key, why, to, primary⟩ := c
      simp only [] at a1 b1 b2 d hte ⊢
      rw [a1, b1, b2, d, hte]
    · unfold bareC
      rw [if_neg (by omega), if_neg (by omega), if_neg (by omega), if_neg (by omega), if_pos e]
      obtain ⟨kind, tenant, item, key, why, to, primary⟩ := c
      simp only [] at a1 b1 b2 d ⊢
      rw [a1, b1, b2, d]
    · have hte : c.tenant = 0 := by
        rcases ht with h0 | ⟨h0, -⟩
        · exact h0
        · rw [e] at h0; cases h0
      unfold bareC
      rw [if_neg (by omega), if_neg (by omega), if_neg (by omega), if_neg (by omega), if_neg (by omega), if_neg (by omega), if_pos e]
      obtain ⟨kind, tenant, item, key, why, to, primary⟩ := c
      simp only [] at a1 b1 b2 d hte ⊢
      rw [a1, b1, b2, d, hte]
/-- what is asked behind the fields, kind by kind -/
def askK (c : Chg) : Bool :=
  if c.kind.toNat = 1 then itmOk c.item
  else if c.kind.toNat = 2 then keyOk c.key && whyOk c.why.toNat
  else if c.kind.toNat = 3 then true
  else if c.kind.toNat = 4 then decide (0 ≤ c.to) && decide (c.to ≤ 1099511627776)
  else if c.kind.toNat = 5 then decide (0 ≤ c.to) && decide (c.to ≤ 16)
  else if c.kind.toNat = 6 then decide (0 ≤ c.to) && decide (c.to ≤ 2147483647)
  else if c.kind.toNat = 7 then decide (0 ≤ c.to) && decide (c.to ≤ 2147483647)
  else false
theorem empty_l : (⟨#[]⟩ : ByteArray).toList = [] := by simp
theorem zItm_no : noItm zItm = true := by simp [noItm, zItm, empty_l]
theorem empty_no : decide ((⟨#[]⟩ : ByteArray).toList = []) = true := by simp [empty_l]
theorem between (a m : Int) : (!(decide (a < 0) || decide (m < a))) = (decide (0 ≤ a) && decide (a ≤ m)) := by
  rw [Bool.eq_iff_iff]
  simp
theorem ok_of_bare {c : Chg} (hb : bareC c = c) (ht : tenOk c.tenant = true) : chgOk c = askK c := by
  have hb' := hb
  unfold bareC at hb
  obtain ⟨kind, tenant, item, key, why, to, primary⟩ := c
  simp only [] at hb ht
  unfold askK chgOk ownOk noDrop
  simp only []
  by_cases e1 : kind.toNat = 1
  · rw [if_pos e1] at hb; simp only [Chg.mk.injEq, true_and] at hb; obtain ⟨rfl, rfl, rfl, rfl⟩ := hb
    simp [e1, ht, hasTen, mostTo, empty_no, empty_l]
  by_cases e2 : kind.toNat = 2
  · rw [if_neg e1, if_pos e2] at hb; simp only [Chg.mk.injEq, true_and] at hb; obtain ⟨rfl, rfl, rfl⟩ := hb
    simp [e2, ht, hasTen, mostTo, zItm_no]
  by_cases e3 : kind.toNat = 3
  · rw [if_neg e1, if_neg e2, if_pos e3] at hb; simp only [Chg.mk.injEq, true_and] at hb; obtain ⟨rfl, rfl, rfl, rfl, rfl⟩ := hb
    simp [e3, ht, hasTen, mostTo, zItm_no, empty_no, empty_l]
  by_cases e4 : kind.toNat = 4
  · rw [if_neg e1, if_neg e2, if_neg e3, if_pos e4] at hb; simp only [Chg.mk.injEq, true_and] at hb; obtain ⟨rfl, rfl, rfl, rfl, rfl⟩ := hb
    have hb2 := between to 1099511627776
    simp [e4, hasTen, mostTo, zItm_no, empty_no, empty_l] at hb2 ⊢
    try exact hb2
  by_cases e5 : kind.toNat = 5
  · rw [if_neg e1, if_neg e2, if_neg e3, if_neg e4, if_pos e5] at hb; simp only [Chg.mk.injEq, true_and] at hb; obtain ⟨rfl, rfl, rfl, rfl⟩ := hb
    have hb2 := between to 16
    simp [e5, ht, hasTen, mostTo, zItm_no, empty_no, empty_l] at hb2 ⊢
    try exact hb2
  by_cases e6 : kind.toNat = 6
  · rw [if_neg e1, if_neg e2, if_neg e3, if_neg e4, if_neg e5, if_pos e6] at hb; simp only [Chg.mk.injEq, true_and] at hb; obtain ⟨rfl, rfl, rfl, rfl, -⟩ := hb
    have hb2 := between to 2147483647
    simp [e6, hasTen, mostTo, zItm_no, empty_no, empty_l] at hb2 ⊢
    try exact hb2
  by_cases e7 : kind.toNat = 7
  · rw [if_neg e1, if_neg e2, if_neg e3, if_neg e4, if_neg e5, if_neg e6, if_pos e7] at hb; simp only [Chg.mk.injEq, true_and] at hb; obtain ⟨rfl, rfl, rfl, rfl, rfl⟩ := hb
    have hb2 := between to 2147483647
    simp [e7, hasTen, mostTo, zItm_no, empty_no, empty_l] at hb2 ⊢
    try exact hb2
  · simp [e1, e2, e3, e4, e5, e6, e7]
end Go.Proofs.Ytlhlleokehkolaa
