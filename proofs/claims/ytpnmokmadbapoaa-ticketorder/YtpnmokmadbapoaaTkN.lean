/-
  Package ticket: contracts of New, hasFull.
-/
import Derived.Test.YtpnmokmadbapoaaTkM
namespace Go.Proofs.Ytpnmokmadbapoaa
open Go.RowKit
set_option linter.unusedSimpArgs false
set_option linter.unusedVariables false
set_option maxRecDepth 100000

theorem make_boxes (n : Nat) (h0 : 1 ≤ n) (h1 : n ≤ 4) (W : World) : ∃ w', (Instr.makeSlice 60 (.int .i64 n) (.int .i64 n)).run Try.prog W = .ok (.slice (some ⟨W.heap.size, 0, none⟩) n n) w' ∧ GBx w' W.heap.size (List.replicate n (.slice none 0 0)) ∧ Below W.heap.size W w' := by
  obtain ⟨i0, hi, hz0, hz1, hz2⟩ := info_parts okB.info
  obtain ⟨w', hrun, r1, r2⟩ := run_make_full (P := Try.prog) W W.heap.size 60 92 i0 _ 1 okB.und hi hz0 hz1 .i64 .i64 n (by rw [hz2]; show 24 * n ≤ _; omega) (by unfold maxLen; omega) (Nat.le_refl _)
  have e : (madeCells (Value.slice none 0 0).cells (n * 1)).toList = List.replicate n (.slice none 0 0) := by
    have : n = 1 ∨ n = 2 ∨ n = 3 ∨ n = 4 := by omega
    rcases this with rfl | rfl | rfl | rfl <;> first | kernel_rfl | (simp [madeCells, Value.cells]; done) | (simp [madeCells, Value.cells]; rfl)
  refine ⟨w', hrun, ?_, g_grown_below r2⟩
  have r3 : w'.ownsRow W.heap.size 92 1 (.slice (some ⟨W.heap.size, 0, none⟩) n n) n (List.replicate n (.slice none 0 0)) := by rw [← e]; exact r1
  have hc := World.ownsRow.cells r3 (g := W.heap.size) rfl
  rcases r3.2 with ⟨h9, _⟩ | ⟨g, cap, cur, h9, _, hg, _⟩
  · cases h9
  · injection h9 with h9 _ _
    have h9' := Option.some.inj h9
    injection h9' with h10
    subst h10
    refine ⟨(Array.getElem?_eq_some_iff.1 hg).1, fun j => g_frozen hg j, fun j hj => ?_⟩
    have := hc j _ (List.getElem?_eq_getElem hj)
    rw [g_add] at this
    simpa using this
theorem tnew_bad (n : Int) (h : ¬ (1 ≤ n ∧ n ≤ 4)) (w : World) :
    Calls Try.prog 25 #[.int .i64 n] w fun e w' => e = .returned (.tuple #[.agg #[.int .i64 0, .slice none 0 0], .int .i64 2]) ∧ Below w.heap.size w w' := by
  obtain ⟨W, hW⟩ : ∃ W, W = w.alloc (.cells #[.int .i64 0, .slice none 0 0] 62) := ⟨_, rfl⟩
  have HB : Hid (Below w.heap.size w W) := by rw [hW]; exact g_alloc _ _
  have HY : Hid (GBx W w.heap.size [.int .i64 0, .slice none 0 0]) := by rw [hW]; exact GBx.made w [.int .i64 0, .slice none 0 0] _
  have HSZ : Hid (W.heap.size = w.heap.size + 1) := by show _ = _; rw [hW]; simp
  have HS := Hid.mk2 (isShards_any n W)
  rw [decide_eq_false h] at HS
  have f0 := HY.out.f 0
  have f1 := HY.out.f 1
  have y0 := HY.out.c 0 (by simp)
  have y1 := HY.out.c 1 (by simp)
  simp only [List.getElem_cons_zero, List.getElem_cons_succ] at y0 y1
  have ylt := HY.out.lt
  go_enter Try.func25, Try.ntmps25
  go_upto_region 1 with (fail)
  rw [← hW]
  clear hW
  clear h
  go_wp2_with (go_at_call 64; refine HS.out.mono ?_; rintro e w1 ⟨rfl, hw1⟩; rw [hw1]; clear hw1 w1)
  have HZ : Hid (GBx ((W.setCell ⟨w.heap.size, 0, none⟩ (.int .i64 0)).setCell ⟨w.heap.size, 1, none⟩ (.slice none 0 0)) w.heap.size [.int .i64 0, .slice none 0 0]) := GBx.sets [.int .i64 0, .slice none 0 0] HY.out rfl
  have HBZ : Hid (Below w.heap.size w ((W.setCell ⟨w.heap.size, 0, none⟩ (.int .i64 0)).setCell ⟨w.heap.size, 1, none⟩ (.slice none 0 0))) := sets_below (b := w.heap.size) HB.out [.int .i64 0, .slice none 0 0] 0 (Nat.le_refl _) (Nat.le_of_lt ylt)
  have Z0 := HZ.out.c 0 (by simp)
  have Z1 := HZ.out.c 1 (by simp)
  simp only [List.getElem_cons_zero, List.getElem_cons_succ] at Z0 Z1
  try simp only [Exit.inBlock, Exit.then]
  refine bodyPost_ret (v := .tuple #[.agg #[.int .i64 0, .slice none 0 0], .int .i64 2]) (by simp [results, Try.results25, go_sem, Z0, Z1]) rfl ⟨rfl, HBZ.out⟩
theorem tnew_good (n : Nat) (h0 : 1 ≤ n) (h1 : n ≤ 4) (w : World) :
    Calls Try.prog 25 #[.int .i64 n] w fun e w' => ∃ g, e = .returned (.tuple #[.agg #[.int .i64 0, .slice (some ⟨g, 0, none⟩) n n], .int .i64 0]) ∧ w.heap.size ≤ g ∧ Qo w' w.heap.size g (List.replicate n nobox) ∧ Below w.heap.size w w' := by
  obtain ⟨W, hW⟩ : ∃ W, W = w.alloc (.cells #[.int .i64 0, .slice none 0 0] 62) := ⟨_, rfl⟩
  have HB : Hid (Below w.heap.size w W) := by rw [hW]; exact g_alloc _ _
  have HY : Hid (GBx W w.heap.size [.int .i64 0, .slice none 0 0]) := by rw [hW]; exact GBx.made w [.int .i64 0, .slice none 0 0] _
  have HS := Hid.mk2 (isShards_any n W)
  rw [decide_eq_true (by omega)] at HS
  obtain ⟨W1, hrun, hG, hb1⟩ := make_boxes n h0 h1 W
  have HG := Hid.mk2 hG
  have HB1 := Hid.mk2 hb1
  have HY1 := Hid.mk2 (HY.out.below hb1)
  clear hG hb1
  have f0 := HY1.out.f 0
  have f1 := HY1.out.f 1
  have y0 := HY1.out.c 0 (by simp)
  have y1 := HY1.out.c 1 (by simp)
  simp only [List.getElem_cons_zero, List.getElem_cons_succ] at y0 y1
  have ylt := HY1.out.lt
  have xlt := HY.out.lt
  go_enter Try.func25, Try.ntmps25
  go_upto_region 1 with (fail)
  rw [← hW]
  clear hW
  go_wp2_with (go_at_call 64; refine HS.out.mono ?_; rintro e w1 ⟨rfl, hw1⟩; rw [hw1]; clear hw1 w1)
  have HZ : Hid (GBx ((W1.setCell ⟨w.heap.size, 0, none⟩ (.int .i64 0)).setCell ⟨w.heap.size, 1, none⟩ (.slice (some ⟨W.heap.size, 0, none⟩) n n)) w.heap.size [.int .i64 0, .slice (some ⟨W.heap.size, 0, none⟩) n n]) := GBx.sets [.int .i64 0, .slice (some ⟨W.heap.size, 0, none⟩) n n] HY1.out rfl
  have HBZ : Hid (Below w.heap.size w ((W1.setCell ⟨w.heap.size, 0, none⟩ (.int .i64 0)).setCell ⟨w.heap.size, 1, none⟩ (.slice (some ⟨W.heap.size, 0, none⟩) n n))) := sets_below (b := w.heap.size) (g_on HB.out HB1.out) [.int .i64 0, .slice (some ⟨W.heap.size, 0, none⟩) n n] 0 (Nat.le_refl _) (Nat.le_of_lt ylt)
  have HQ : Hid (Qo ((W1.setCell ⟨w.heap.size, 0, none⟩ (.int .i64 0)).setCell ⟨w.heap.size, 1, none⟩ (.slice (some ⟨W.heap.size, 0, none⟩) n n)) w.heap.size W.heap.size (List.replicate n nobox)) := Qo.made (HG.out.grown (sets_grown (b := w.heap.size) [.int .i64 0, .slice (some ⟨W.heap.size, 0, none⟩) n n] _ 0) (by intro e; have := Option.some.inj e; omega))
  have Z0 := HZ.out.c 0 (by simp)
  have Z1 := HZ.out.c 1 (by simp)
  simp only [List.getElem_cons_zero, List.getElem_cons_succ] at Z0 Z1
  try simp only [Exit.inBlock, Exit.then]
  refine bodyPost_ret (v := .tuple #[.agg #[.int .i64 0, .slice (some ⟨W.heap.size, 0, none⟩) n n], .int .i64 0]) (by simp [results, Try.results25, go_sem, Z0, Z1]) rfl ⟨_, rfl, Nat.le_of_lt xlt, HQ.out, HBZ.out⟩
/-- is a box of these full -/
def fullIn (q : List (List Tk)) (l : List Nat) : Bool := l.any fun i => decide ((bxs q i).length = 256)
set_option maxHeartbeats 2000000 in
theorem hasFull_any (B : List Bx) (ao : Option Addr) (cap m : Nat) (hm : m = B.length) (next : Int) (L : List Nat) (hL : ∀ i ∈ L, i < B.length) (so : Option Addr) (sc sm : Nat) (hsm : sm = L.length) (w : World) (h : Qr w ao B cap) (hs : GRd EI w so (L.map fun (i : Nat) => (i : Int)) sc) :
    Calls Try.prog 67 #[.agg #[.int .i64 next, .slice ao m cap], .slice so sm sc] w fun e w' => e = .returned (.bool (fullIn (dat B) L)) ∧ Below w.heap.size w w' := by
  subst hm hsm
  have hlen := h.row.len
  obtain ⟨W, hW⟩ : ∃ W, W = w.alloc (.cells #[.int .i64 next, .slice ao B.length cap] 62) := ⟨_, rfl⟩
  have HB : Hid (Below w.heap.size w W) := by rw [hW]; exact g_alloc _ _
  have HX : Hid (GBx W w.heap.size [.int .i64 next, .slice ao B.length cap]) := by rw [hW]; exact GBx.made w [.int .i64 next, .slice ao B.length cap] _
  have HR := Hid.mk2 (h.below HB.out)
  have HS := Hid.mk2 (hs.below HB.out)
  have HLB := Hid.mk2 hL
  have hsl : L.length ≤ 9223372036854775807 := by have := hs.len; simpa using this
  have x1 := HX.out.c 1 (by simp)
  have xlt := HX.out.lt
  simp only [List.getElem_cons_zero, List.getElem_cons_succ] at x1
  obtain ⟨R, hR⟩ : ∃ R, R = fullIn (dat B) L := ⟨_, rfl⟩
  have HT : Hid (∀ k (hk : k < L.length), (bxs (dat B) L[k]).length = 256 → R = true) := by
    intro k hk e
    rw [hR]
    unfold fullIn
    rw [List.any_eq_true]
    exact ⟨L[k], List.getElem_mem hk, by simpa using e⟩
  have HF : Hid ((∀ k (hk : k < L.length), ¬ (bxs (dat B) L[k]).length = 256) → R = false) := by
    intro e
    rw [hR]
    unfold fullIn
    rw [List.any_eq_false]
    intro x hx
    obtain ⟨j, hj, rfl⟩ := List.getElem_of_mem hx
    simpa using e j hj
  rw [← hR]
  clear h hs hL HX hR
  go_enter Try.func67, Try.ntmps67
  go_upto_region 1 with (fail)
  rw [← hW]
  clear hW
  go_wp2
  go_loopw [6, 9] (fun _ i wr => ∃ k : Nat, k ≤ L.length ∧ i = .int .i64 k ∧ wr = W ∧ Hid (∀ j (hj : j < L.length), j < k → ¬ (bxs (dat B) L[j]).length = 256)) (fun _ i _ => L.length - (intOf i).toNat)
  case atStart => exact ⟨0, Nat.zero_le _, rfl, rfl, fun _ _ h => absurd h (by omega)⟩
  case round =>
    obtain ⟨k, hkn, rfl, rfl, HA⟩ := hrel
    by_cases hkl : k < L.length
    · have hkl2 : (k : Int) < (L.length : Int) := by omega
      have hj := HLB.out L[k] (List.getElem_mem hkl)
      have hneL : L.map (fun (i : Nat) => (i : Int)) ≠ [] := by intro e; have := congrArg List.length e; simp at this; rw [this] at hkl; simp at hkl
      have hne : B ≠ [] := by intro e; rw [e] at hj; simp at hj
      obtain ⟨b6, o6, rfl, hb6, hc6⟩ := HS.out.int hneL
      have r0 := hc6 k (by simpa using hkl)
      rw [List.getElem_map] at r0
      obtain ⟨b, off, rfl, hbl, hcs⟩ := HR.out.row.bx hne
      have rb := hcs L[k] hj
      have HTK := Hid.mk2 (HT.out k hkl)
      have HAK : Hid (¬ (bxs (dat B) L[k]).length = 256 → ∀ j (hj : j < L.length), j < k + 1 → ¬ (bxs (dat B) L[j]).length = 256) := by
        intro e j hj hjk
        by_cases ej : j = k
        · subst ej; exact e
        · exact HA.out j hj (by omega)
      rw [bxs_dat hj, List.length_map] at HTK HAK
      have hlk := (HR.out.box B[L[k]] (List.getElem_mem hj)).len
      obtain ⟨M, hM⟩ : ∃ M, M = B[L[k]].l.length := ⟨_, rfl⟩
      rw [← hM] at rb HTK HAK hlk
      obtain ⟨j, hje⟩ : ∃ j, j = L[k] := ⟨_, rfl⟩
      obtain ⟨bo, hbo⟩ : ∃ bo, bo = B[L[k]].ao := ⟨_, rfl⟩
      obtain ⟨bc, hbc⟩ : ∃ bc, bc = B[L[k]].cap := ⟨_, rfl⟩
      rw [← hbo, ← hbc] at rb
      rw [← hje] at r0 rb hj
      have hj2 : (j : Int) < (B.length : Int) := by omega
      clear hje hM hbo hbc hcs hc6 hne hneL HA
      by_cases hf : M = 256
      · have eR := HTK.out hf
        subst eR hf
        clear HTK HAK HT HF
        go_wp2
        go_ret
        exact ⟨rfl, HB.out⟩
      · have hf2 : ((M : Int) == 256) = false := by rw [beq_eq_false_iff_ne]; omega
        have HA2 := Hid.mk2 (HAK.out hf)
        clear HTK HAK
        go_wp2
        go_roundw
        case rel => exact ⟨k + 1, by omega, by go_num, by first | rfl | trivial, HA2⟩
        case measure => simp [intOf]; omega
    · have hkl2 : ¬ ((k : Int) < (L.length : Int)) := by omega
      have eR := HF.out (fun j hj => HA.out j hj (by omega))
      subst eR
      clear HT HF HA
      go_wp2
      go_ret
      exact ⟨rfl, HB.out⟩
end Go.Proofs.Ytpnmokmadbapoaa
