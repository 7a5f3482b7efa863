/-
  The document's find: its contract.
-/
import Derived.Test.YtlomciinkpecpaaTdPure
namespace Go.Proofs.Ytlomciinkpecpaa
open Go.RowKit
set_option linter.unusedSimpArgs false
set_option linter.unusedVariables false
set_option maxRecDepth 100000

theorem TAt.belowD {w w' : World} {ao : Option Addr} {D : List NU} (h : TAt w ao D) (hb : Below w.heap.size w w') : TAt w' ao D := by
  rcases h with rfl | ⟨b, off, rfl, hlt, hc⟩
  · exact .inl rfl
  · exact .inr ⟨b, off, rfl, Nat.lt_of_lt_of_le hlt hb.size, fun i hi => ⟨(bcl hb _ _ hlt).trans (hc i hi).1, (bcl hb _ _ hlt).trans (hc i hi).2.1, (bcl hb _ _ hlt).trans (hc i hi).2.2⟩⟩
set_option maxHeartbeats 2000000 in
theorem rfind_any (w : World) (ao : Option Addr) (D : List NU) (cap : Nat) (hT : TAt w ao D) (hl : D.length ≤ 1000) (hcap : D.length ≤ cap) (y : Nm) :
    Calls Try.prog 44 #[.agg #[.slice ao D.length cap], .agg #[.int .i64 y.tenant, .string y.key]] w fun e w' => e = .returned (.tuple #[.int .i64 (fpos D y : Nat), .bool (fis D y)]) ∧ Below w.heap.size w w' := by
  have HT := Hid.mk2 hT
  have HNE := Hid.mk2 (fun a b W => nm_eql a b W)
  have hfl := fpos_le D y
  clear hT
  go_enter Try.func44, Try.ntmps44
  go_upto_region 1 with (fail)
  obtain ⟨w0, hw0⟩ : ∃ x, x = (w.alloc (Obj.cells #[.slice ao D.length cap] 46)).alloc (Obj.cells #[.int .i64 y.tenant, .string y.key] 28) := ⟨_, rfl⟩
  rw [← hw0]
  have z2 : w0.cell? ⟨w.heap.size, 0, none⟩ = some (.slice ao D.length cap) := by rw [hw0]; simp
  have z3 : w0.cell? ⟨w.heap.size + 1, 0, none⟩ = some (.int .i64 y.tenant) := by rw [hw0]; simp
  have z4 : w0.cell? ⟨w.heap.size + 1, 1, none⟩ = some (.string y.key) := by rw [hw0]; simp
  have x0 : w.heap.size + 1 < w0.heap.size := by rw [hw0]; simp
  have x1 : w.heap.size < w0.heap.size := by omega
  have HB0 : Hid (Below w.heap.size w w0) := by rw [hw0]; exact ((Below.refl _ _).alloc (Nat.le_refl _) _).alloc (by simp) _
  clear hw0
  go_wp2
  go_loopw [6] (fun s6 wr => ∃ k : Nat, k ≤ fpos D y ∧ s6 = .int .i64 k ∧ Hid (Below w0.heap.size w0 wr)) (fun s6 _ => D.length - (intOf s6).toNat)
  case atStart => exact ⟨0, Nat.zero_le _, rfl, Below.refl _ _⟩
  case round =>
    obtain ⟨k, hk, rfl, HBr⟩ := hrel
    have d2 := (bcl HBr.out _ 0 x1).trans z2
    have d3 := (bcl HBr.out _ 0 x0).trans z3
    have d4 := (bcl HBr.out _ 1 x0).trans z4
    have HBW : Hid (Below w.heap.size w wr) := HB0.out.trans (HBr.out.mono HB0.out.size)
    by_cases hkl : k < D.length
    · have hkl2 : (k : Int) < (D.length : Int) := by omega
      rcases HT.out.belowD HBW.out with h0 | ⟨b, off, rfl, hbb, hcs⟩
      · rw [h0] at hkl; simp at hkl
      obtain ⟨q0, q1, q2⟩ := hcs k hkl
      by_cases hlt : k < fpos D y
      · have hn := fpos_lt hlt hkl
        have HLS := Hid.mk2 (fun W => less_any W D[k].1 y)
        rw [decide_eq_true hn] at HLS
        obtain ⟨z, hz⟩ : ∃ z, z = D[k] := ⟨_, rfl⟩
        rw [← hz] at HLS q0 q1 q2
        have X2 := Nat.lt_of_lt_of_le x1 HBr.out.size
        have X3 := Nat.lt_of_lt_of_le x0 HBr.out.size
        clear hz hcs hn
        go_wp2
        go_region_held3 (fun W => W.cell? ⟨w.heap.size, 0, none⟩ = some (.slice (some ⟨b, off, none⟩) D.length cap) ∧ W.cell? ⟨w.heap.size + 1, 0, none⟩ = some (.int .i64 y.tenant) ∧ W.cell? ⟨w.heap.size + 1, 1, none⟩ = some (.string y.key) ∧ W.cell? ⟨b, off + k * 3, none⟩ = some (.int .i64 z.1.tenant) ∧ W.cell? ⟨b, off + k * 3 + 1, none⟩ = some (.string z.1.key)) (first | exact ⟨d2, d3, d4, q0, q1⟩ | exact ⟨by assumption, by assumption, by assumption, by assumption, by assumption⟩)
          (first | (go_at_call 20; refine (HLS.out _).mono ?_; rintro e w8 ⟨rfl, hb8⟩; have u0 := (bcl hb8 _ _ hbb).trans q0; have u1 := (bcl hb8 _ _ hbb).trans q1; have e2 := (bcl hb8 _ _ X2).trans d2; have e3 := (bcl hb8 _ _ X3).trans d3; have e4 := (bcl hb8 _ _ X3).trans d4; have HB8 : Hid (Below w0.heap.size w0 w8) := (by first | exact HBr.out.trans (hb8.mono HBr.out.size) | exact (below_drewR HBr.out 1).trans (hb8.mono HBr.out.size)); clear hb8))
        go_wp2
        go_roundw
        case rel => exact ⟨k + 1, by omega, by go_num, HB8⟩
        case measure => simp [intOf]; omega
      · have hke : k = fpos D y := by omega
        have hfis : fis D y = decide (D[k].1 = y) := by rw [fis_eq, ← hke, List.getElem?_eq_getElem hkl]; rfl
        have hn : ¬ nlt D[k].1 y := by
          have hd : fpos D y < D.length := by rw [← hke]; exact hkl
          have h9 := fpos_stop hd
          have e9 : D[k] = D[fpos D y] := by simp [hke]
          rw [e9]; exact h9
        have HLS := Hid.mk2 (fun W => less_any W D[k].1 y)
        rw [decide_eq_false hn] at HLS
        obtain ⟨z, hz⟩ : ∃ z, z = D[k] := ⟨_, rfl⟩
        rw [← hz] at HLS q0 q1 q2 hfis
        have HKE := Hid.mk2 hke
        have HFI := Hid.mk2 hfis
        have hne := fun W => nm_eql z.1 y W
        have X2 := Nat.lt_of_lt_of_le x1 HBr.out.size
        have X3 := Nat.lt_of_lt_of_le x0 HBr.out.size
        clear hz hcs hn hke hfis hlt hk hfl HNE
        go_wp2
        go_region_held3 (fun W => W.cell? ⟨w.heap.size, 0, none⟩ = some (.slice (some ⟨b, off, none⟩) D.length cap) ∧ W.cell? ⟨w.heap.size + 1, 0, none⟩ = some (.int .i64 y.tenant) ∧ W.cell? ⟨w.heap.size + 1, 1, none⟩ = some (.string y.key) ∧ W.cell? ⟨b, off + k * 3, none⟩ = some (.int .i64 z.1.tenant) ∧ W.cell? ⟨b, off + k * 3 + 1, none⟩ = some (.string z.1.key)) (first | exact ⟨d2, d3, d4, q0, q1⟩ | exact ⟨by assumption, by assumption, by assumption, by assumption, by assumption⟩)
          (first | (go_at_call 20; refine (HLS.out _).mono ?_; rintro e w8 ⟨rfl, hb8⟩; have u0 := (bcl hb8 _ _ hbb).trans q0; have u1 := (bcl hb8 _ _ hbb).trans q1; have e2 := (bcl hb8 _ _ X2).trans d2; have e3 := (bcl hb8 _ _ X3).trans d3; have e4 := (bcl hb8 _ _ X3).trans d4; have HB8 : Hid (Below w0.heap.size w0 w8) := (by first | exact HBr.out.trans (hb8.mono HBr.out.size) | exact (below_drewR HBr.out 1).trans (hb8.mono HBr.out.size)); clear hb8))
        go_wp2
        go_quiet (fail)
        go_wp2
        go_ret2
        exact ⟨by rw [← HKE.out, HFI.out] <;> simp, below_drewR (HB0.out.trans (HB8.out.mono HB0.out.size)) _⟩
    · have hkl2 : decide ((k : Int) < (D.length : Int)) = false := by simp; omega
      have hke : k = fpos D y := by omega
      have hfis : fis D y = false := by rw [fis_eq, ← hke, List.getElem?_eq_none (by omega)]; rfl
      have HKE := Hid.mk2 hke
      have HFI := Hid.mk2 hfis
      clear hke hfis hk hfl HNE
      go_wp2
      go_quiet (fail)
      go_wp2
      go_quiet (fail)
      go_wp2
      go_ret2
      exact ⟨by rw [← HKE.out, HFI.out] <;> simp, below_drewR (below_drewR HBW.out _) _⟩
end Go.Proofs.Ytlomciinkpecpaa
