/-
  item.Text over the library's table of powers of ten, in the words of lines.
-/
import Derived.Test.YtfmpbddhejpjaaaDoorWoE
import Derived.Test.YtfmpbddhejpjaaaDoorItText
namespace Go.Proofs.YtfmpbddhejpjaaaDoor
open Go.Proofs.YtfmpbddhejpjaaaDoor.It
open Go.RowKit
set_option linter.unusedSimpArgs false
set_option linter.unusedVariables false
set_option maxRecDepth 100000

def Im.ar2 (x : Im) : Array Value := #[.string x.key, .string x.value, .int .u32 x.flags, .int .i64 x.till, .int .u64 x.unique]
theorem wtext_any (n : Int) (h0 : 0 ≤ n) (h1 : n < 18446744073709551616) (w : World) (ht : Tab w) : Calls Tryd.prog 46 #[.int .u64 n] w fun e w' => e = .returned (.string (dec n)) ∧ Below w.heap.size w w' := by
  obtain ⟨k, rfl⟩ : ∃ k : Nat, n = (k : Int) := ⟨n.toNat, by omega⟩
  refine (text_any k (by omega) w ht).mono ?_
  rintro e w' ⟨rfl, q, os, rfl⟩
  refine ⟨?_, below_grow1 w q os⟩
  unfold dec
  rw [Int.toNat_natCast]
theorem u64w {x : Int} (h0 : 0 ≤ x) (h1 : x < 18446744073709551616) : IntKind.u64.wrap x = x := by
  have e : IntKind.u64.wrap x = x % 18446744073709551616 := rfl
  rw [e]; omega
end Go.Proofs.YtfmpbddhejpjaaaDoor
