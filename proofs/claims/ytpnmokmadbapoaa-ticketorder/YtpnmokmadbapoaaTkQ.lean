/-
  The statements' own functions of layer 12: key, get, alive.
-/
import Derived.Test.YtpnmokmadbapoaaTkP
namespace Go.Proofs.Ytpnmokmadbapoaa
open Go.RowKit
set_option linter.unusedSimpArgs false
set_option linter.unusedVariables false
set_option maxRecDepth 100000

def getC (l : List ByteArray) : Cm := ⟨1, 0, l, ⟨#[]⟩, 0, 0, 0, 0⟩
def ka : ByteArray := ⟨#[97]⟩
def kb : ByteArray := ⟨#[98]⟩
theorem sh_a : (getC [ka]).shE 2 = 0 ∧ (getC [ka]).shL 2 = [0] := by decide
theorem sh_b : (getC [kb]).shE 2 = 0 ∧ (getC [kb]).shL 2 = [1] := by decide
set_option maxHeartbeats 1000000 in
theorem key0_any (w : World) : Calls Try.prog 28 #[.int .i64 0] w fun e w' => e = .returned (.string ka) ∧ Below w.heap.size w w' := by
  have HS := Hid.mk2 (fun V (ao : Option Addr) (h : GRd ES V ao [ka] 1) => pshards_any (getC [ka]) ao 1 2 V h)
  rw [sh_a.1, sh_a.2] at HS
  unfold getC Cm.arr at HS
  dsimp only [List.length_cons, List.length_nil] at HS
  go_enter Try.func28, Try.ntmps28
  go_wp2
  go_loopw [3] (fun i wr => i = .int .i64 0 ∧ wr = w) (fun _ _ => 0)
  case atStart => exact ⟨rfl, rfl⟩
  case round =>
    obtain ⟨rfl, rfl⟩ := hrel
    have HG := Hid.mk2 (g_new okS wr ka)
    go_wp2_with (go_at_call 11; refine (HS.out _ _ HG.out).mono ?_; rintro e w1 ⟨v1, rfl, hO1, hb1⟩; obtain ⟨sa, sc, hv1, hS⟩ := hO1.rd okI; subst hv1; obtain ⟨b, off, rfl, hbl, hcs⟩ := hS.int (by simp); have r0 := hcs 0 (by simp); simp only [Nat.add_zero, List.getElem_cons_zero] at r0)
    go_ret
    exact ⟨rfl, g_behind hb1⟩
set_option maxHeartbeats 1000000 in
theorem key1_any (w : World) : Calls Try.prog 28 #[.int .i64 1] w fun e w' => e = .returned (.string kb) ∧ Below w.heap.size w w' := by
  have HS := Hid.mk2 (fun V (ao : Option Addr) (h : GRd ES V ao [ka] 1) => pshards_any (getC [ka]) ao 1 2 V h)
  rw [sh_a.1, sh_a.2] at HS
  have HT := Hid.mk2 (fun V (ao : Option Addr) (h : GRd ES V ao [kb] 1) => pshards_any (getC [kb]) ao 1 2 V h)
  rw [sh_b.1, sh_b.2] at HT
  unfold getC Cm.arr at HS HT
  dsimp only [List.length_cons, List.length_nil] at HS HT
  go_enter Try.func28, Try.ntmps28
  go_wp2
  go_loopw [3, 4, 5, 6] (fun i _ _ _ wr => (i = .int .i64 0 ∨ i = .int .i64 1) ∧ Hid (Below w.heap.size w wr)) (fun i _ _ _ _ => 2 - (intOf i).toNat)
  case atStart => exact ⟨.inl rfl, Below.refl _ _⟩
  case round =>
    obtain ⟨hi, HB⟩ := hrel
    rcases hi with rfl | rfl
    · have HG := Hid.mk2 (g_new okS wr ka)
      go_wp2_with (go_at_call 11; refine (HS.out _ _ HG.out).mono ?_; rintro e w1 ⟨v1, rfl, hO1, hb1⟩; obtain ⟨sa, sc, hv1, hS⟩ := hO1.rd okI; subst hv1; obtain ⟨b, off, rfl, hbl, hcs⟩ := hS.int (by simp); have r0 := hcs 0 (by simp); simp only [Nat.add_zero, List.getElem_cons_zero] at r0; have HB1 := Hid.mk2 (g_behind hb1); clear hO1 hb1 hS hcs)
      go_roundw
      case rel => exact ⟨.inr (by go_num), g_on HB.out HB1.out⟩
      case measure => simp [intOf]
    · have HG := Hid.mk2 (g_new okS wr kb)
      go_wp2_with (go_at_call 11; refine (HT.out _ _ HG.out).mono ?_; rintro e w1 ⟨v1, rfl, hO1, hb1⟩; obtain ⟨sa, sc, hv1, hS⟩ := hO1.rd okI; subst hv1; obtain ⟨b, off, rfl, hbl, hcs⟩ := hS.int (by simp); have r0 := hcs 0 (by simp); simp only [Nat.add_zero, List.getElem_cons_zero] at r0; have HB1 := Hid.mk2 (g_behind hb1); clear hO1 hb1 hS hcs)
      go_ret
      exact ⟨rfl, g_on HB.out HB1.out⟩
def getT (l : List ByteArray) : Tk := ⟨0, 1, getC l, 0, 0⟩
theorem get_any (l : List ByteArray) (ao : Option Addr) (n c : Nat) (w : World) :
    Calls Try.prog 27 #[.slice ao n c] w fun e w' => e = .returned (.agg ((getT l).arr (.slice ao n c))) ∧ Below w.heap.size w w' := by
  obtain ⟨W, hW⟩ : ∃ W, W = w.alloc (.cells #[.int .i64 0, .int .u8 0, .int .u8 0, .int .i64 0, .slice none 0 0, .string ⟨#[]⟩, .int .u32 0, .int .i64 0, .int .u64 0, .int .u64 0, .int .i64 0, .int .i64 0] 68) := ⟨_, rfl⟩
  have HB : Hid (Below w.heap.size w W) := by rw [hW]; exact g_alloc _ _
  have HY : Hid (GBx W w.heap.size [.int .i64 0, .int .u8 0, .int .u8 0, .int .i64 0, .slice none 0 0, .string ⟨#[]⟩, .int .u32 0, .int .i64 0, .int .u64 0, .int .u64 0, .int .i64 0, .int .i64 0]) := by rw [hW]; exact GBx.made w [.int .i64 0, .int .u8 0, .int .u8 0, .int .i64 0, .slice none 0 0, .string ⟨#[]⟩, .int .u32 0, .int .i64 0, .int .u64 0, .int .u64 0, .int .i64 0, .int .i64 0] _
  have y0 := HY.out.c 0 (by simp)
  have f0 := HY.out.f 0
  have y1 := HY.out.c 1 (by simp)
  have f1 := HY.out.f 1
  have y2 := HY.out.c 2 (by simp)
  have f2 := HY.out.f 2
  have y3 := HY.out.c 3 (by simp)
  have f3 := HY.out.f 3
  have y4 := HY.out.c 4 (by simp)
  have f4 := HY.out.f 4
  have y5 := HY.out.c 5 (by simp)
  have f5 := HY.out.f 5
  have y6 := HY.out.c 6 (by simp)
  have f6 := HY.out.f 6
  have y7 := HY.out.c 7 (by simp)
  have f7 := HY.out.f 7
  have y8 := HY.out.c 8 (by simp)
  have f8 := HY.out.f 8
  have y9 := HY.out.c 9 (by simp)
  have f9 := HY.out.f 9
  have y10 := HY.out.c 10 (by simp)
  have f10 := HY.out.f 10
  have y11 := HY.out.c 11 (by simp)
  have f11 := HY.out.f 11
  simp only [List.getElem_cons_zero, List.getElem_cons_succ] at y0 y1 y2 y3 y4 y5 y6 y7 y8 y9 y10 y11
  have ylt := HY.out.lt
  unfold getT getC Tk.arr
  dsimp only
  go_enter Try.func27, Try.ntmps27
  go_upto_region 1 with (fail)
  rw [← hW]
  clear hW
  go_wp2
  have HZ : Hid (GBx ((((((((((((W.setCell ⟨w.heap.size, 0, none⟩ (.int .i64 0)).setCell ⟨w.heap.size, 1, none⟩ (.int .u8 1)).setCell ⟨w.heap.size, 2, none⟩ (.int .u8 1)).setCell ⟨w.heap.size, 3, none⟩ (.int .i64 0)).setCell ⟨w.heap.size, 4, none⟩ (.slice ao n c)).setCell ⟨w.heap.size, 5, none⟩ (.string ⟨#[]⟩)).setCell ⟨w.heap.size, 6, none⟩ (.int .u32 0)).setCell ⟨w.heap.size, 7, none⟩ (.int .i64 0)).setCell ⟨w.heap.size, 8, none⟩ (.int .u64 0)).setCell ⟨w.heap.size, 9, none⟩ (.int .u64 0)).setCell ⟨w.heap.size, 10, none⟩ (.int .i64 0)).setCell ⟨w.heap.size, 11, none⟩ (.int .i64 0)) w.heap.size [.int .i64 0, .int .u8 1, .int .u8 1, .int .i64 0, .slice ao n c, .string ⟨#[]⟩, .int .u32 0, .int .i64 0, .int .u64 0, .int .u64 0, .int .i64 0, .int .i64 0]) := GBx.sets [.int .i64 0, .int .u8 1, .int .u8 1, .int .i64 0, .slice ao n c, .string ⟨#[]⟩, .int .u32 0, .int .i64 0, .int .u64 0, .int .u64 0, .int .i64 0, .int .i64 0] HY.out rfl
  have HBZ : Hid (Below w.heap.size w ((((((((((((W.setCell ⟨w.heap.size, 0, none⟩ (.int .i64 0)).setCell ⟨w.heap.size, 1, none⟩ (.int .u8 1)).setCell ⟨w.heap.size, 2, none⟩ (.int .u8 1)).setCell ⟨w.heap.size, 3, none⟩ (.int .i64 0)).setCell ⟨w.heap.size, 4, none⟩ (.slice ao n c)).setCell ⟨w.heap.size, 5, none⟩ (.string ⟨#[]⟩)).setCell ⟨w.heap.size, 6, none⟩ (.int .u32 0)).setCell ⟨w.heap.size, 7, none⟩ (.int .i64 0)).setCell ⟨w.heap.size, 8, none⟩ (.int .u64 0)).setCell ⟨w.heap.size, 9, none⟩ (.int .u64 0)).setCell ⟨w.heap.size, 10, none⟩ (.int .i64 0)).setCell ⟨w.heap.size, 11, none⟩ (.int .i64 0))) := sets_below (b := w.heap.size) HB.out [.int .i64 0, .int .u8 1, .int .u8 1, .int .i64 0, .slice ao n c, .string ⟨#[]⟩, .int .u32 0, .int .i64 0, .int .u64 0, .int .u64 0, .int .i64 0, .int .i64 0] 0 (Nat.le_refl _) (Nat.le_of_lt ylt)
  have Z0 := HZ.out.c 0 (by simp)
  have Z1 := HZ.out.c 1 (by simp)
  have Z2 := HZ.out.c 2 (by simp)
  have Z3 := HZ.out.c 3 (by simp)
  have Z4 := HZ.out.c 4 (by simp)
  have Z5 := HZ.out.c 5 (by simp)
  have Z6 := HZ.out.c 6 (by simp)
  have Z7 := HZ.out.c 7 (by simp)
  have Z8 := HZ.out.c 8 (by simp)
  have Z9 := HZ.out.c 9 (by simp)
  have Z10 := HZ.out.c 10 (by simp)
  have Z11 := HZ.out.c 11 (by simp)
  simp only [List.getElem_cons_zero, List.getElem_cons_succ] at Z0 Z1 Z2 Z3 Z4 Z5 Z6 Z7 Z8 Z9 Z10 Z11
  try simp only [Exit.inBlock, Exit.then]
  refine bodyPost_ret (v := .agg #[.int .i64 0, .int .u8 1, .int .u8 1, .int .i64 0, .slice ao n c, .string ⟨#[]⟩, .int .u32 0, .int .i64 0, .int .u64 0, .int .u64 0, .int .i64 0, .int .i64 0]) (by simp [results, Try.results27, go_sem, Z0, Z1, Z2, Z3, Z4, Z5, Z6, Z7, Z8, Z9, Z10, Z11]) rfl ⟨rfl, HBZ.out⟩
end Go.Proofs.Ytpnmokmadbapoaa
