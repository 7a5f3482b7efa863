/-
  (shaken)
-/
import Derived.Test.YtfjcaofmcjhdpaaOrC
import Derived.Test.YtfjcaofmcjhdpaaGb
namespace Go.Proofs.Ytfjcaofmcjhdpaa
open Go.RowKit
set_option linter.unusedSimpArgs false
set_option linter.unusedVariables false
set_option maxRecDepth 100000

/-- an item, a result with where its items lie -/
structure Im where
  key : ByteArray
  value : ByteArray
  flags : Int
  till : Int
  unique : Int
def EM : GEl Im := ⟨34, 26, 5, 56, .agg #[.string ⟨#[]⟩, .string ⟨#[]⟩, .int .u32 0, .int .i64 0, .int .u64 0], fun x => [.string x.key, .string x.value, .int .u32 x.flags, .int .i64 x.till, .int .u64 x.unique]⟩
theorem okM : GOk EM := ⟨Try.underlying26, by kernel_rfl, rfl, by decide, by decide, fun _ => rfl, fun a u h => by simp [EM] at h; rcases h with rfl | rfl | rfl | rfl | rfl <;> rfl⟩
structure Rr where
  kind : Int
  io : Option Addr
  ic : Nat
  items : List Im
  number : Int
theorem GRd.im {w : World} {ao : Option Addr} {l : List Im} {cap : Nat} (h : GRd EM w ao l cap) (hne : l ≠ []) : ∃ b off, ao = some ⟨b, off, none⟩ ∧ b < w.heap.size ∧ ∀ i (hi : i < l.length), w.cell? ⟨b, off + i * 5, none⟩ = some (.string l[i].key) ∧ w.cell? ⟨b, off + i * 5 + 1, none⟩ = some (.string l[i].value) ∧ w.cell? ⟨b, off + i * 5 + 2, none⟩ = some (.int .u32 l[i].flags) ∧ w.cell? ⟨b, off + i * 5 + 3, none⟩ = some (.int .i64 l[i].till) ∧ w.cell? ⟨b, off + i * 5 + 4, none⟩ = some (.int .u64 l[i].unique) := by
  obtain ⟨b, off, e, hb, hc⟩ := h.lies hne
  refine ⟨b, off, e, hb, fun i hi => ?_⟩
  have h0 := hc i hi 0 (by decide)
  have h1 := hc i hi 1 (by decide)
  have h2 := hc i hi 2 (by decide)
  have h3 := hc i hi 3 (by decide)
  have h4 := hc i hi 4 (by decide)
  exact ⟨by simpa [EM] using h0, by simpa [EM] using h1, by simpa [EM] using h2, by simpa [EM] using h3, by simpa [EM] using h4⟩
set_option maxHeartbeats 2000000 in
theorem same10_any (kind number : Int) (L : List Im) (ka kb : Option Addr) (ca cb : Nat) (w : World) (ha : GRd EM w ka L ca) (hb : GRd EM w kb L cb) :
    Calls Try.prog 25 #[.agg #[.int .u8 kind, .slice ka L.length ca, .int .u64 number], .agg #[.int .u8 kind, .slice kb L.length cb, .int .u64 number]] w fun e w' => e = .returned (.bool true) ∧ Below w.heap.size w w' := by
  obtain ⟨W, hW⟩ : ∃ W, W = (w.alloc (.cells #[.int .u8 kind, .slice ka L.length ca, .int .u64 number] 29)).alloc (.cells #[.int .u8 kind, .slice kb L.length cb, .int .u64 number] 29) := ⟨_, rfl⟩
  have HB : Hid (Below w.heap.size w W) := by rw [hW]; exact g_on (g_alloc _ _) (g_alloc _ _)
  have HX : Hid (GBx W w.heap.size [.int .u8 kind, .slice ka L.length ca, .int .u64 number]) := by rw [hW]; exact (GBx.made w [.int .u8 kind, .slice ka L.length ca, .int .u64 number] _).alloc _
  have HY : Hid (GBx W (w.heap.size + 1) [.int .u8 kind, .slice kb L.length cb, .int .u64 number]) := by
    rw [hW]
    have := GBx.made (w.alloc (.cells #[.int .u8 kind, .slice ka L.length ca, .int .u64 number] 29)) [.int .u8 kind, .slice kb L.length cb, .int .u64 number] 29
    rw [show (w.alloc (.cells #[.int .u8 kind, .slice ka L.length ca, .int .u64 number] 29)).heap.size = w.heap.size + 1 by simp] at this
    exact this
  have HA := Hid.mk2 (ha.below HB.out)
  have HC := Hid.mk2 (hb.below HB.out)
  have hlen := ha.len
  clear ha hb
  have x0 := HX.out.c 0 (by simp)
  have x1 := HX.out.c 1 (by simp)
  have x2 := HX.out.c 2 (by simp)
  have y0 := HY.out.c 0 (by simp)
  have y1 := HY.out.c 1 (by simp)
  have y2 := HY.out.c 2 (by simp)
  simp only [List.getElem_cons_zero, List.getElem_cons_succ] at x0 x1 x2 y0 y1 y2
  have hlt := HX.out.lt
  have hlt1 := HY.out.lt
  clear HX HY
  go_enter Try.func25, Try.ntmps25
  go_upto_region 1 with (fail)
  rw [← hW]
  clear hW
  go_wp2
  go_loopw [5] (fun i wr => ∃ k n : Nat, k ≤ L.length ∧ i = .int .i64 k ∧ wr = W.drewN n) (fun i _ => L.length - (intOf i).toNat)
  case atStart => exact ⟨0, 0, Nat.zero_le _, rfl, rfl⟩
  case round =>
    obtain ⟨k, n, hk, rfl, rfl⟩ := hrel
    by_cases hkl : k < L.length
    · have hkl2 : (k : Int) < (L.length : Int) := by omega
      have hne : L ≠ [] := by intro e; rw [e] at hkl; simp at hkl
      obtain ⟨b, off, rfl, hbl, hcs⟩ := HA.out.im hne
      obtain ⟨b', off', rfl, hbl', hcs'⟩ := HC.out.im hne
      obtain ⟨r0, r1, r2, r3, r4⟩ := hcs k hkl
      obtain ⟨s0, s1, s2, s3, s4⟩ := hcs' k hkl
      obtain ⟨p, hpe⟩ : ∃ p, p = L[k] := ⟨_, rfl⟩
      rw [← hpe] at r0 r1 r2 r3 r4 s0 s1 s2 s3 s4
      clear hcs hcs' hne hpe
      go_wp2
      go_quiet (fail)
      go_wp2
      go_roundw
      case rel => exact ⟨k + 1, _, by omega, by go_num, by first | rfl | exact World.drewN_drewN _ _ _⟩
      case measure => simp [intOf]; omega
    · have hkl2 : ¬ ((k : Int) < (L.length : Int)) := by omega
      go_wp2
      go_ret
      exact ⟨rfl, g_quiet_on n HB.out⟩
end Go.Proofs.Ytfjcaofmcjhdpaa
