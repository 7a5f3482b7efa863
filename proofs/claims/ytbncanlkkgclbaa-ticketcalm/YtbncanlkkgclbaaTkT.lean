/-
  Where a ticket waits, a shard is ready: the document's Great of layer 12, and the walk of TicketCalm.
-/
import Derived.Test.YtbncanlkkgclbaaTkS
namespace Go.Proofs.Ytbncanlkkgclbaa
open Go.RowKit
set_option linter.unusedSimpArgs false
set_option linter.unusedVariables false
set_option maxRecDepth 100000

/-- it answers, whatever -/
def IsB (e : Ending) : Prop := ∃ b : Bool, e = .returned (.bool b)
theorem IsB.mk (b : Bool) : IsB (.returned (.bool b)) := ⟨b, rfl⟩
set_option maxHeartbeats 2000000 in
theorem great12_any (B : List Bx) (ao : Option Addr) (cap m : Nat) (hm : m = B.length) (next : Int) (w : World) (h : Qr w ao B cap) :
    Calls Try.prog 32 #[.agg #[.int .i64 next, .slice ao m cap]] w fun e w' => IsB e ∧ Below w.heap.size w w' := by
  subst hm
  have hlen := h.row.len
  obtain ⟨W, hW⟩ : ∃ W, W = w.alloc (.cells #[.int .i64 next, .slice ao B.length cap] 62) := ⟨_, rfl⟩
  have HB : Hid (Below w.heap.size w W) := by rw [hW]; exact g_alloc _ _
  have HX : Hid (GBx W w.heap.size [.int .i64 next, .slice ao B.length cap]) := by rw [hW]; exact GBx.made w [.int .i64 next, .slice ao B.length cap] _
  have HR := Hid.mk2 (h.below HB.out)
  have x1 := HX.out.c 1 (by simp)
  have xlt := HX.out.lt
  simp only [List.getElem_cons_zero, List.getElem_cons_succ] at x1
  clear h HX
  go_enter Try.func32, Try.ntmps32
  go_upto_region 1 with (fail)
  rw [← hW]
  clear hW
  by_cases h20 : 20 < B.length
  · have h20' : (20 : Int) < (B.length : Int) := by omega
    go_wp2
    go_ret
    exact ⟨IsB.mk _, HB.out⟩
  have h20' : ¬ ((20 : Int) < (B.length : Int)) := by omega
  go_wp2
  go_loopw [3, 4, 5] (fun a i _ wr => ∃ (k : Nat) (s : Int), k ≤ B.length ∧ i = .int .i64 k ∧ a = .int .i64 s ∧ Hid (Below W.heap.size W wr)) (fun _ i _ _ => B.length - (intOf i).toNat)
  case atStart => exact ⟨0, 0, Nat.zero_le _, rfl, rfl, Below.refl _ _⟩
  case round =>
    obtain ⟨k, s, hkn, rfl, rfl, HBW⟩ := hrel
    have y1 := (HBW.out.cell (p := ⟨w.heap.size, 1, none⟩) xlt).trans x1
    by_cases hkl : k < B.length
    · have hkl2 : (k : Int) < (B.length : Int) := by omega
      have hne : B ≠ [] := by intro e; rw [e] at hkl; simp at hkl
      have HBOX := Hid.mk2 (HR.out.box B[k] (List.getElem_mem hkl))
      have HKEY := Hid.mk2 (HR.out.keys B[k] (List.getElem_mem hkl))
      obtain ⟨b, off, rfl, hbl, hcs⟩ := HR.out.row.bx hne
      have rb := (HBW.out.cell (p := ⟨b, off + k, none⟩) hbl).trans (hcs k hkl)
      have rb0 := hcs k hkl
      obtain ⟨bx, hbx⟩ : ∃ bx, bx = B[k] := ⟨_, rfl⟩
      rw [← hbx] at rb rb0 HBOX HKEY
      clear hbx hcs hne
      obtain ⟨bl, bao, bcap⟩ := bx
      dsimp only at rb rb0 HBOX HKEY
      have hlk := HBOX.out.len
      obtain ⟨S, hS⟩ : ∃ S, S = IntKind.i64.wrap (s + (bl.length : Int)) := ⟨_, rfl⟩
      have hS' := hS.symm
      by_cases hgt : 100 < S
      · clear hS
        go_wp2
        go_ret
        exact ⟨IsB.mk _, g_on HB.out HBW.out⟩
      · clear hS
        go_wp2
        go_loopw [5] (fun i wr => ∃ (kk : Nat), kk ≤ bl.length ∧ i = .int .i64 kk ∧ Hid (Below W.heap.size W wr)) (fun i _ => bl.length - (intOf i).toNat)
        case atStart => exact ⟨0, Nat.zero_le _, rfl, HBW⟩
        case round =>
          obtain ⟨kk, hkn2, rfl, HBV⟩ := hrel
          have z1 := (HBV.out.cell (p := ⟨w.heap.size, 1, none⟩) xlt).trans x1
          have zb := (HBV.out.cell (p := ⟨b, off + k, none⟩) hbl).trans rb0
          by_cases hkl3 : kk < bl.length
          · have hkl4 : (kk : Int) < (bl.length : Int) := by omega
            have hneb : bl ≠ [] := by intro e; rw [e] at hkl3; simp at hkl3
            obtain ⟨b1, off1, rfl, hbl1, hc1⟩ := (HBOX.out.below HBV.out).tks hneb
            obtain ⟨r0, r1, r2, r3, r4, r5, r6, r7, r8, r9, r10, r11⟩ := hc1 kk hkl3
            have HLG := Hid.mk2 (rlong_any bl[kk].t.c bl[kk].so bl[kk].sc wr ((HKEY.out bl[kk] (List.getElem_mem hkl3)).below HBV.out))
            obtain ⟨d, hd⟩ : ∃ d, d = bl[kk] := ⟨_, rfl⟩
            rw [← hd] at r0 r1 r2 r3 r4 r5 r6 r7 r8 r9 r10 r11 HLG
            obtain ⟨G, hG⟩ : ∃ G, G = Cm.lg d.t.c := ⟨_, rfl⟩
            rw [← hG] at HLG
            obtain ⟨⟨num, kind, ⟨ckind, tenant, keys, value, flags, life, unique, by_⟩, ten, dest⟩, so, sc⟩ := d
            unfold Cm.arr at HLG
            dsimp only at *
            clear hd hc1 hneb hG rb
            cases G
            · go_wp2_with (go_at_call 15; refine HLG.out.mono ?_; rintro e w4 ⟨rfl, hb4⟩; have HB4 := Hid.mk2 hb4; clear hb4)
              go_roundw
              case rel => exact ⟨kk + 1, by omega, by go_num, g_on HBV.out HB4.out⟩
              case measure => simp [intOf]; omega
            · go_wp2_with (go_at_call 15; refine HLG.out.mono ?_; rintro e w4 ⟨rfl, hb4⟩; have HB4 := Hid.mk2 hb4; clear hb4)
              go_ret
              exact ⟨IsB.mk _, g_on HB.out (g_on HBV.out HB4.out)⟩
          · have hkl4 : ¬ ((kk : Int) < (bl.length : Int)) := by omega
            clear rb
            go_wp2
            go_roundw
            case rel => exact ⟨k + 1, S, by omega, by go_num, rfl, HBV⟩
            case measure => simp [intOf]; omega
    · have hkl2 : ¬ ((k : Int) < (B.length : Int)) := by omega
      go_wp2
      go_ret
      exact ⟨IsB.mk _, g_on HB.out HBW.out⟩
end Go.Proofs.Ytbncanlkkgclbaa
