/-
  (shaken)
-/
import Derived.Test.YtfjcaofmcjhdpaaGb
import Derived.Test.YtfjcaofmcjhdpaaItNum
import Derived.Laws.IdiomStrings
namespace Go.Proofs.Ytfjcaofmcjhdpaa
open Go.Proofs.Ytfjcaofmcjhdpaa.It
open Go.RowKit
set_option linter.unusedSimpArgs false
set_option linter.unusedVariables false
set_option maxRecDepth 100000

def EY : GEl UInt8 := ⟨5, 22, 1, 1, .int .u8 0, fun c => [.int .u8 (c.toNat : Int)]⟩
theorem okY : GOk EY := ⟨Try.underlying22, by kernel_rfl, rfl, by decide, by decide, fun _ => rfl, fun a u h => by simp [EY] at h; subst h; rfl⟩
theorem GRd.uy {w : World} {ao : Option Addr} {l : List UInt8} {cap : Nat} (h : GRd EY w ao l cap) (hne : l ≠ []) : ∃ b off, ao = some ⟨b, off, none⟩ ∧ b < w.heap.size ∧ ∀ i (hi : i < l.length), w.cell? ⟨b, off + i, none⟩ = some (.int .u8 (l[i].toNat : Int)) := by
  obtain ⟨b, off, e, hb, hc⟩ := h.lies hne
  refine ⟨b, off, e, hb, fun i hi => ?_⟩
  have := hc i hi 0 (by decide)
  simpa [EY] using this
def capS (w : World) (s : ByteArray) : Nat := grownCap w s.size 0 5
/-- the world behind []byte(s) -/
def bsW (w : World) (s : ByteArray) : World := w.drew.alloc (.cells (bytesRow s (capS w s)) 5 ((bytesRow s (capS w s)).size, (bytesRow s (capS w s)).size + 1))
theorem conv_str (s : ByteArray) (w : World) : (convert 9 22 (.string s)).run Try.prog w = .ok (.slice (some ⟨w.heap.size, 0, none⟩) s.size (capS w s)) (bsW w s) :=
  run_bytes_of_string w 9 22 5 s Try.underlying9 Try.underlying22 Try.underlying5
theorem bsW_size (w : World) (s : ByteArray) : (bsW w s).heap.size = w.heap.size + 1 := by
  unfold bsW
  show (w.heap.push _).size = _
  simp
theorem bsW_below (w : World) (s : ByteArray) : Below w.heap.size w (bsW w s) := ((Below.refl _ _).drew).alloc (Nat.le_refl _) _
theorem bsW_cell (w : World) (s : ByteArray) (i : Nat) (hi : i < (bl s).length) : (bsW w s).cell? ⟨w.heap.size, i, none⟩ = some (.int .u8 ((bl s)[i].toNat : Int)) := by
  have h := World.cell?_alloc_mark w.drew (bytesRow s (capS w s)) 5 ((bytesRow s (capS w s)).size, (bytesRow s (capS w s)).size + 1) i
  rw [show w.drew.heap.size = w.heap.size from rfl] at h
  unfold bsW
  rw [h]
  have hi2 : i < s.data.size := by simpa [bl] using hi
  unfold bytesRow
  rw [Array.getElem?_append_left (by simpa using hi2)]
  simp [bl]
  exact ⟨_, Array.getElem?_eq_getElem hi2, rfl⟩
theorem bsW_rd (w : World) (s : ByteArray) (hs : s.size ≤ maxLen) : GRd EY (bsW w s) (some ⟨w.heap.size, 0, none⟩) (bl s) (capS w s) := by
  refine ⟨?_, ?_, (fun e => by cases e), ?_⟩
  · rw [bl_len]; exact grownCap_ge w s.size 0 _
  · have h1 := grownCap_le_maxLen w s.size 0 5 hs
    have h2 : maxLen ≤ 9223372036854775807 := by decide
    exact Nat.le_trans h1 h2
  · refine .inr ⟨w.heap.size, 0, rfl, by rw [bsW_size]; omega, fun i hi j hj => ?_⟩
    have hj0 : j = 0 := by have : j < 1 := hj; omega
    subst hj0
    have h := bsW_cell w s i hi
    simpa [EY] using h
/-- string(b) -/
theorem conv_rd {w : World} {ao : Option Addr} {l : List UInt8} {cap : Nat} (h : GRd EY w ao l cap) :
    (convert 22 9 (.slice ao l.length cap)).run Try.prog w = .ok (.string ⟨l.toArray⟩) w := by
  by_cases hne : l = []
  · subst hne
    rw [run_convert_bytes_string w 22 9 5 ao _ cap Try.underlying22 Try.underlying5 Try.underlying9]
    cases ao with
    | none => simp [Conv.bytesToString]; rfl
    | some a =>
      have h2 := run_bytesToString (P := Try.prog) w a 0 cap [] (by simp [loadCells, loadCellsFrom])
      exact h2
  · obtain ⟨b, off, rfl, hb, hc⟩ := h.uy hne
    exact run_convert_bytes_back (P := Try.prog) w 22 9 5 ⟨b, off, none⟩ cap l Try.underlying22 Try.underlying5 Try.underlying9 (fun j hj => by
      rw [g_add]
      exact hc j hj)
end Go.Proofs.Ytfjcaofmcjhdpaa
