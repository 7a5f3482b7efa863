/-
  The document's bare: its contract (written by tools/genrbare.py).
-/
import Derived.Test.YtlhlleokehkolaaRChg
namespace Go.Proofs.Ytlhlleokehkolaa
open Go.RowKit
set_option linter.unusedSimpArgs false
set_option linter.unusedVariables false
set_option maxRecDepth 100000

/-- a change with its kind's fields alone -/
def bareC (c : Chg) : Chg :=
  if c.kind.toNat = 1 then ⟨c.kind, c.tenant, c.item, ⟨#[]⟩, 0, 0, false⟩
  else if c.kind.toNat = 2 then ⟨c.kind, c.tenant, zItm, c.key, c.why, 0, false⟩
  else if c.kind.toNat = 3 then ⟨c.kind, c.tenant, zItm, ⟨#[]⟩, 0, 0, false⟩
  else if c.kind.toNat = 4 then ⟨c.kind, 0, zItm, ⟨#[]⟩, 0, c.to, false⟩
  else if c.kind.toNat = 5 then ⟨c.kind, c.tenant, zItm, ⟨#[]⟩, 0, c.to, false⟩
  else if c.kind.toNat = 6 then ⟨c.kind, 0, zItm, ⟨#[]⟩, 0, c.to, c.primary⟩
  else if c.kind.toNat = 7 then ⟨c.kind, 0, zItm, ⟨#[]⟩, 0, c.to, false⟩
  else ⟨c.kind, 0, zItm, ⟨#[]⟩, 0, 0, false⟩

set_option maxHeartbeats 1000000 in
theorem refBare3 (c : Chg) (w : World) (hk : c.kind.toNat = 3) :
    Calls Try.prog 70 #[c.val] w fun e w' => e = .returned (bareC c).val ∧ Below w.heap.size w w' := by
  have HB : (bareC c).val = .agg #[.int .u8 (c.kind.toNat : Int), .int .i64 c.tenant, .string ⟨#[]⟩, .string ⟨#[]⟩, .int .u32 0, .int .i64 0, .int .u64 0, .string ⟨#[]⟩, .int .u8 0, .int .i64 0, .bool false] := by
    unfold bareC
    simp [hk, Chg.val, Chg.cells, bcell, zItm]
  rw [HB]
  clear HB
  obtain ⟨kind, tenant, item, key, why, to, primary⟩ := c
  unfold Chg.val Chg.cells bcell
  simp only [] at hk ⊢
  have e1 : ((kind.toNat : Int) == 1) = false := by rw [hk]; rfl
  have e2 : ((kind.toNat : Int) == 2) = false := by rw [hk]; rfl
  have e3 : ((kind.toNat : Int) == 3) = true := by rw [hk]; rfl
  clear hk
  go_enter Try.func70, Try.ntmps70
  go_wp2
  refine bodyPost_ret (v := .agg #[.int .u8 (kind.toNat : Int), .int .i64 tenant, .string ⟨#[]⟩, .string ⟨#[]⟩, .int .u32 0, .int .i64 0, .int .u64 0, .string ⟨#[]⟩, .int .u8 0, .int .i64 0, .bool false]) (by simp [results, Try.results70, go_sem]) rfl ⟨rfl, ?_⟩
  repeat' first
    | exact Below.refl _ _
    | refine Below.setCell ?_ (by first | (simp; done) | (simp; omega)) _
    | refine Below.alloc ?_ (by first | (simp; done) | (simp; omega)) _

set_option maxHeartbeats 1000000 in
theorem refBare4 (c : Chg) (w : World) (hk : c.kind.toNat = 4) :
    Calls Try.prog 70 #[c.val] w fun e w' => e = .returned (bareC c).val ∧ Below w.heap.size w w' := by
  have HB : (bareC c).val = .agg #[.int .u8 (c.kind.toNat : Int), .int .i64 0, .string ⟨#[]⟩, .string ⟨#[]⟩, .int .u32 0, .int .i64 0, .int .u64 0, .string ⟨#[]⟩, .int .u8 0, .int .i64 c.to, .bool false] := by
    unfold bareC
    simp [hk, Chg.val, Chg.cells, bcell, zItm]
  rw [HB]
  clear HB
  obtain ⟨kind, tenant, item, key, why, to, primary⟩ := c
  unfold Chg.val Chg.cells bcell
  simp only [] at hk ⊢
  have e1 : ((kind.toNat : Int) == 1) = false := by rw [hk]; rfl
  have e2 : ((kind.toNat : Int) == 2) = false := by rw [hk]; rfl
  have e3 : ((kind.toNat : Int) == 3) = false := by rw [hk]; rfl
  have e4 : ((kind.toNat : Int) == 4) = true := by rw [hk]; rfl
  clear hk
  go_enter Try.func70, Try.ntmps70
  go_wp2
  refine bodyPost_ret (v := .agg #[.int .u8 (kind.toNat : Int), .int .i64 0, .string ⟨#[]⟩, .string ⟨#[]⟩, .int .u32 0, .int .i64 0, .int .u64 0, .string ⟨#[]⟩, .int .u8 0, .int .i64 to, .bool false]) (by simp [results, Try.results70, go_sem]) rfl ⟨rfl, ?_⟩
  repeat' first
    | exact Below.refl _ _
    | refine Below.setCell ?_ (by first | (simp; done) | (simp; omega)) _
    | refine Below.alloc ?_ (by first | (simp; done) | (simp; omega)) _

set_option maxHeartbeats 1000000 in
theorem refBare1 (c : Chg) (w : World) (hk : c.kind.toNat = 1) :
    Calls Try.prog 70 #[c.val] w fun e w' => e = .returned (bareC c).val ∧ Below w.heap.size w w' := by
  have HB : (bareC c).val = .agg #[.int .u8 (c.kind.toNat : Int), .int .i64 c.tenant, .string c.item.key, .string c.item.value, .int .u32 c.item.flags, .int .i64 c.item.til, .int .u64 c.item.unique, .string ⟨#[]⟩, .int .u8 0, .int .i64 0, .bool false] := by
    unfold bareC
    simp [hk, Chg.val, Chg.cells, bcell, zItm]
  rw [HB]
  clear HB
  obtain ⟨kind, tenant, item, key, why, to, primary⟩ := c
  unfold Chg.val Chg.cells bcell
  simp only [] at hk ⊢
  have e1 : ((kind.toNat : Int) == 1) = true := by rw [hk]; rfl
  clear hk
  go_enter Try.func70, Try.ntmps70
  go_wp2
  refine bodyPost_ret (v := .agg #[.int .u8 (kind.toNat : Int), .int .i64 tenant, .string item.key, .string item.value, .int .u32 item.flags, .int .i64 item.til, .int .u64 item.unique, .string ⟨#[]⟩, .int .u8 0, .int .i64 0, .bool false]) (by simp [results, Try.results70, go_sem]) rfl ⟨rfl, ?_⟩
  repeat' first
    | exact Below.refl _ _
    | refine Below.setCell ?_ (by first | (simp; done) | (simp; omega)) _
    | refine Below.alloc ?_ (by first | (simp; done) | (simp; omega)) _

set_option maxHeartbeats 1000000 in
theorem refBare2 (c : Chg) (w : World) (hk : c.kind.toNat = 2) :
    Calls Try.prog 70 #[c.val] w fun e w' => e = .returned (bareC c).val ∧ Below w.heap.size w w' := by
  have HB : (bareC c).val = .agg #[.int .u8 (c.kind.toNat : Int), .int .i64 c.tenant, .string ⟨#[]⟩, .string ⟨#[]⟩, .int .u32 0, .int .i64 0, .int .u64 0, .string c.key, .int .u8 (c.why.toNat : Int), .int .i64 0, .bool false] := by
    unfold bareC
    simp [hk, Chg.val, Chg.cells, bcell, zItm]
  rw [HB]
  clear HB
  obtain ⟨kind, tenant, item, key, why, to, primary⟩ := c
  unfold Chg.val Chg.cells bcell
  simp only [] at hk ⊢
  have e1 : ((kind.toNat : Int) == 1) = false := by rw [hk]; rfl
  have e2 : ((kind.toNat : Int) == 2) = true := by rw [hk]; rfl
  clear hk
  go_enter Try.func70, Try.ntmps70
  go_wp2
  refine bodyPost_ret (v := .agg #[.int .u8 (kind.toNat : Int), .int .i64 tenant, .string ⟨#[]⟩, .string ⟨#[]⟩, .int .u32 0, .int .i64 0, .int .u64 0, .string key, .int .u8 (why.toNat : Int), .int .i64 0, .bool false]) (by simp [results, Try.results70, go_sem]) rfl ⟨rfl, ?_⟩
  repeat' first
    | exact Below.refl _ _
    | refine Below.setCell ?_ (by first | (simp; done) | (simp; omega)) _
    | refine Below.alloc ?_ (by first | (simp; done) | (simp; omega)) _

set_option maxHeartbeats 1000000 in
theorem refBare5 (c : Chg) (w : World) (hk : c.kind.toNat = 5) :
    Calls Try.prog 70 #[c.val] w fun e w' => e = .returned (bareC c).val ∧ Below w.heap.size w w' := by
  have HB : (bareC c).val = .agg #[.int .u8 (c.kind.toNat : Int), .int .i64 c.tenant, .string ⟨#[]⟩, .string ⟨#[]⟩, .int .u32 0, .int .i64 0, .int .u64 0, .string ⟨#[]⟩, .int .u8 0, .int .i64 c.to, .bool false] := by
    unfold bareC
    simp [hk, Chg.val, Chg.cells, bcell, zItm]
  rw [HB]
  clear HB
  obtain ⟨kind, tenant, item, key, why, to, primary⟩ := c
  unfold Chg.val Chg.cells bcell
  simp only [] at hk ⊢
  have e1 : ((kind.toNat : Int) == 1) = false := by rw [hk]; rfl
  have e2 : ((kind.toNat : Int) == 2) = false := by rw [hk]; rfl
  have e3 : ((kind.toNat : Int) == 3) = false := by rw [hk]; rfl
  have e4 : ((kind.toNat : Int) == 4) = false := by rw [hk]; rfl
  have e5 : ((kind.toNat : Int) == 5) = true := by rw [hk]; rfl
  clear hk
  go_enter Try.func70, Try.ntmps70
  go_wp2
  refine bodyPost_ret (v := .agg #[.int .u8 (kind.toNat : Int), .int .i64 tenant, .string ⟨#[]⟩, .string ⟨#[]⟩, .int .u32 0, .int .i64 0, .int .u64 0, .string ⟨#[]⟩, .int .u8 0, .int .i64 to, .bool false]) (by simp [results, Try.results70, go_sem]) rfl ⟨rfl, ?_⟩
  repeat' first
    | exact Below.refl _ _
    | refine Below.setCell ?_ (by first | (simp; done) | (simp; omega)) _
    | refine Below.alloc ?_ (by first | (simp; done) | (simp; omega)) _

set_option maxHeartbeats 1000000 in
theorem refBare6 (c : Chg) (w : World) (hk : c.kind.toNat = 6) :
    Calls Try.prog 70 #[c.val] w fun e w' => e = .returned (bareC c).val ∧ Below w.heap.size w w' := by
  have HB : (bareC c).val = .agg #[.int .u8 (c.kind.toNat : Int), .int .i64 0, .string ⟨#[]⟩, .string ⟨#[]⟩, .int .u32 0, .int .i64 0, .int .u64 0, .string ⟨#[]⟩, .int .u8 0, .int .i64 c.to, .bool c.primary] := by
    unfold bareC
    simp [hk, Chg.val, Chg.cells, bcell, zItm]
  rw [HB]
  clear HB
  obtain ⟨kind, tenant, item, key, why, to, primary⟩ := c
  unfold Chg.val Chg.cells bcell
  simp only [] at hk ⊢
  have e1 : ((kind.toNat : Int) == 1) = false := by rw [hk]; rfl
  have e2 : ((kind.toNat : Int) == 2) = false := by rw [hk]; rfl
  have e3 : ((kind.toNat : Int) == 3) = false := by rw [hk]; rfl
  have e4 : ((kind.toNat : Int) == 4) = false := by rw [hk]; rfl
  have e5 : ((kind.toNat : Int) == 5) = false := by rw [hk]; rfl
  have e6 : ((kind.toNat : Int) == 6) = true := by rw [hk]; rfl
  clear hk
  go_enter Try.func70, Try.ntmps70
  go_wp2
  refine bodyPost_ret (v := .agg #[.int .u8 (kind.toNat : Int), .int .i64 0, .string ⟨#[]⟩, .string ⟨#[]⟩, .int .u32 0, .int .i64 0, .int .u64 0, .string ⟨#[]⟩, .int .u8 0, .int .i64 to, .bool primary]) (by simp [results, Try.results70, go_sem]) rfl ⟨rfl, ?_⟩
  repeat' first
    | exact Below.refl _ _
    | refine Below.setCell ?_ (by first | (simp; done) | (simp; omega)) _
    | refine Below.alloc ?_ (by first | (simp; done) | (simp; omega)) _

set_option maxHeartbeats 1000000 in
theorem refBare7 (c : Chg) (w : World) (hk : c.kind.toNat = 7) :
    Calls Try.prog 70 #[c.val] w fun e w' => e = .returned (bareC c).val ∧ Below w.heap.size w w' := by
  have HB : (bareC c).val = .agg #[.int .u8 (c.kind.toNat : Int), .int .i64 0, .string ⟨#[]⟩, .string ⟨#[]⟩, .int .u32 0, .int .i64 0, .int .u64 0, .string ⟨#[]⟩, .int .u8 0, .int .i64 c.to, .bool false] := by
    unfold bareC
    simp [hk, Chg.val, Chg.cells, bcell, zItm]
  rw [HB]
  clear HB
  obtain ⟨kind, tenant, item, key, why, to, primary⟩ := c
  unfold Chg.val Chg.cells bcell
  simp only [] at hk ⊢
  have e1 : ((kind.toNat : Int) == 1) = false := by rw [hk]; rfl
  have e2 : ((kind.toNat : Int) == 2) = false := by rw [hk]; rfl
  have e3 : ((kind.toNat : Int) == 3) = false := by rw [hk]; rfl
  have e4 : ((kind.toNat : Int) == 4) = false := by rw [hk]; rfl
  have e5 : ((kind.toNat : Int) == 5) = false := by rw [hk]; rfl
  have e6 : ((kind.toNat : Int) == 6) = false := by rw [hk]; rfl
  have e7 : ((kind.toNat : Int) == 7) = true := by rw [hk]; rfl
  clear hk
  go_enter Try.func70, Try.ntmps70
  go_wp2
  refine bodyPost_ret (v := .agg #[.int .u8 (kind.toNat : Int), .int .i64 0, .string ⟨#[]⟩, .string ⟨#[]⟩, .int .u32 0, .int .i64 0, .int .u64 0, .string ⟨#[]⟩, .int .u8 0, .int .i64 to, .bool false]) (by simp [results, Try.results70, go_sem]) rfl ⟨rfl, ?_⟩
  repeat' first
    | exact Below.refl _ _
    | refine Below.setCell ?_ (by first | (simp; done) | (simp; omega)) _
    | refine Below.alloc ?_ (by first | (simp; done) | (simp; omega)) _

set_option maxHeartbeats 1000000 in
theorem refBare0 (c : Chg) (w : World) (hk : ∀ i, 1 ≤ i → i ≤ 7 → ¬ c.kind.toNat = i) :
    Calls Try.prog 70 #[c.val] w fun e w' => e = .returned (bareC c).val ∧ Below w.heap.size w w' := by
  have HB : (bareC c).val = .agg #[.int .u8 (c.kind.toNat : Int), .int .i64 0, .string ⟨#[]⟩, .string ⟨#[]⟩, .int .u32 0, .int .i64 0, .int .u64 0, .string ⟨#[]⟩, .int .u8 0, .int .i64 0, .bool false] := by
    unfold bareC
    have h1 := hk 1 (by omega) (by omega); have h2 := hk 2 (by omega) (by omega); have h3 := hk 3 (by omega) (by omega); have h4 := hk 4 (by omega) (by omega); have h5 := hk 5 (by omega) (by omega); have h6 := hk 6 (by omega) (by omega); have h7 := hk 7 (by omega) (by omega)
    simp [h1, h2, h3, h4, h5, h6, h7, Chg.val, Chg.cells, bcell, zItm]
  rw [HB]
  clear HB
  obtain ⟨kind, tenant, item, key, why, to, primary⟩ := c
  unfold Chg.val Chg.cells bcell
  simp only [] at hk ⊢
  have e1 : ((kind.toNat : Int) == 1) = false := by have := hk 1 (by omega) (by omega); simp; omega
  have e2 : ((kind.toNat : Int) == 2) = false := by have := hk 2 (by omega) (by omega); simp; omega
  have e3 : ((kind.toNat : Int) == 3) = false := by have := hk 3 (by omega) (by omega); simp; omega
  have e4 : ((kind.toNat : Int) == 4) = false := by have := hk 4 (by omega) (by omega); simp; omega
  have e5 : ((kind.toNat : Int) == 5) = false := by have := hk 5 (by omega) (by omega); simp; omega
  have e6 : ((kind.toNat : Int) == 6) = false := by have := hk 6 (by omega) (by omega); simp; omega
  have e7 : ((kind.toNat : Int) == 7) = false := by have := hk 7 (by omega) (by omega); simp; omega
  clear hk
  go_enter Try.func70, Try.ntmps70
  go_wp2
  refine bodyPost_ret (v := .agg #[.int .u8 (kind.toNat : Int), .int .i64 0, .string ⟨#[]⟩, .string ⟨#[]⟩, .int .u32 0, .int .i64 0, .int .u64 0, .string ⟨#[]⟩, .int .u8 0, .int .i64 0, .bool false]) (by simp [results, Try.results70, go_sem]) rfl ⟨rfl, ?_⟩
  repeat' first
    | exact Below.refl _ _
    | refine Below.setCell ?_ (by first | (simp; done) | (simp; omega)) _
    | refine Below.alloc ?_ (by first | (simp; done) | (simp; omega)) _

theorem refBare_any (c : Chg) (w : World) :
    Calls Try.prog 70 #[c.val] w fun e w' => e = .returned (bareC c).val ∧ Below w.heap.size w w' := by
  by_cases h1 : c.kind.toNat = 1
  · exact refBare1 c w h1
  by_cases h2 : c.kind.toNat = 2
  · exact refBare2 c w h2
  by_cases h3 : c.kind.toNat = 3
  · exact refBare3 c w h3
  by_cases h4 : c.kind.toNat = 4
  · exact refBare4 c w h4
  by_cases h5 : c.kind.toNat = 5
  · exact refBare5 c w h5
  by_cases h6 : c.kind.toNat = 6
  · exact refBare6 c w h6
  by_cases h7 : c.kind.toNat = 7
  · exact refBare7 c w h7
  exact refBare0 c w (fun i a b => by omega)
end Go.Proofs.Ytlhlleokehkolaa
