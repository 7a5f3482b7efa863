/-
  putItem of package words: an item's line and value put into a strings.Builder.
-/
import Derived.Test.YtfmpbddhejpjaaaDoorWoS
import Derived.Test.YtfmpbddhejpjaaaDoorWoF
import Derived.Test.YtfmpbddhejpjaaaDoorWpA
import Derived.Test.YtfmpbddhejpjaaaDoorGq
namespace Go.Proofs.YtfmpbddhejpjaaaDoor
open Go.Proofs.YtfmpbddhejpjaaaDoor.It
open Go.RowKit
set_option linter.unusedSimpArgs false
set_option linter.unusedVariables false
set_option maxRecDepth 100000

theorem blk_new (w : World) (o : Obj) : (w.alloc o).heap[w.heap.size]? = some o := by
  show (w.heap.push o)[w.heap.size]? = some o
  simp
theorem Sx.made (w : World) (b : Nat) (ws : List ByteArray) (hb : b < w.heap.size) : Sx (w.alloc (.cells (ws.map Value.string).toArray 9)) b (some ⟨w.heap.size, 0, none⟩) ws :=
  .inr ⟨w.heap.size, _, (0, 0), rfl, by omega, blk_new _ _, fun i hi => by simp [hi]⟩
theorem box_oth {w w' : World} {b X : Nat} {cur : Array Value} {t : TypeId} (h : w.heap[X]? = some (.cells cur t (0, 0))) (hX : X ≠ b) (ht : t ≠ 5) (ho : Oth w w' b) : w'.heap[X]? = some (.cells cur t (0, 0)) :=
  ho X _ h (fun e => hX (Option.some.inj e)) (fun c f e => by injection e with _ e2; exact ht e2)
theorem cell_box {w : World} {X : Nat} {cur : Array Value} {t : TypeId} (h : w.heap[X]? = some (.cells cur t (0, 0))) (j : Nat) (v : Value) (hv : cur[j]? = some v) : w.cell? ⟨X, j, none⟩ = some v := by rw [g_cell h, hv]

set_option maxHeartbeats 4000000 in
theorem putItem_any (w : World) (base b : Nat) (l : List UInt8) (x : Im) (hx : x.ok) (ht : Tab w) (h : Bu w base b l) (hb : base ≤ w.heap.size) (hl : l.length + x.lines.length ≤ 900000) :
    Calls Tryd.prog 24 #[.pointer (some ⟨b, 0, none⟩), .agg x.ar2] w fun e w' => e = .returned (.tuple #[]) ∧ Bu w' base b (l ++ x.lines) ∧ Below base w w' ∧ Oth w w' b := by
  obtain ⟨xk, xv, xf, xt, xu⟩ := x
  obtain ⟨hk, hv, ⟨t0, t1⟩, ⟨f0, f1⟩, ⟨u0, u1⟩⟩ := hx
  dsimp only at hk hv t0 t1 f0 f1 u0 u1
  have hvl : ((xv.size : Nat) : Int) ≤ 512 := by omega
  obtain ⟨W, hW⟩ : ∃ W, W = w.alloc (.cells #[.string xk, .string xv, .int .u32 xf, .int .i64 xt, .int .u64 xu] 53) := ⟨_, rfl⟩
  have hB0 : Below w.heap.size w W := by rw [hW]; exact g_alloc _ _
  have HB := Hid.mk2 hB0
  have HX : Hid (W.heap[w.heap.size]? = some (.cells #[.string xk, .string xv, .int .u32 xf, .int .i64 xt, .int .u64 xu] 53 (0, 0))) := by show _ = _; rw [hW]; exact blk_new _ _
  have HU := Hid.mk2 (h.below hB0)
  have hbl := h.lt
  have HSB := Hid.mk2 hb
  have HXb : Hid (w.heap.size ≠ b ∧ b < W.heap.size ∧ base ≤ W.heap.size) := ⟨by omega, Nat.lt_of_lt_of_le hbl.2 hB0.size, Nat.le_trans hb hB0.size⟩
  have HT : Hid (∀ (n : Int), 0 ≤ n → n < 18446744073709551616 → ∀ V, Below W.heap.size W V → Calls Tryd.prog 46 #[.int .u64 n] V fun e w' => e = .returned (.string (dec n)) ∧ Below V.heap.size V w') := fun n h0 h1 V hV => wtext_any n h0 h1 V ((ht.below hB0).below hV)
  have HT1 := Hid.mk2 (HT.out xf f0 (by omega))
  have HT2 := Hid.mk2 (HT.out xt t0 (by omega))
  have HT3 := Hid.mk2 (HT.out xu u0 u1)
  have HT4 := Hid.mk2 (HT.out (xv.size : Int) (by omega) (by omega))
  have HPL := Hid.mk2 (fun V l ws ao cap h hb hx hl m hm hm2 => putLine_any V base b l ws ao cap h hb hx hl m hm hm2)
  have HL : Hid (l.length + (joinW [sVALUE, xk, dec xf, dec xt, dec xu, dec (xv.size : Int)]).length + 2 ≤ 1000000 ∧ (l ++ (joinW [sVALUE, xk, dec xf, dec xt, dec xu, dec (xv.size : Int)] ++ [13, 10])).length + (joinW [xv]).length + 2 ≤ 1000000) := by
    show _ ∧ _
    have h1 := hl
    unfold Im.lines Im.words at h1
    dsimp only at h1
    rw [joinW_one]
    simp only [List.length_append, List.length_cons, List.length_nil] at h1 ⊢
    omega
  have HLN : Hid ((l ++ (joinW [sVALUE, xk, dec xf, dec xt, dec xu, dec (xv.size : Int)] ++ [13, 10])) ++ (joinW [xv] ++ [13, 10]) = l ++ (Im.mk xk xv xf xt xu).lines) := by
    show _ = _
    unfold Im.lines Im.words
    dsimp only
    rw [joinW_one]
    simp
  obtain ⟨LN, hLN⟩ : ∃ LN, LN = (Im.mk xk xv xf xt xu).lines := ⟨_, rfl⟩
  rw [← hLN] at HLN ⊢
  obtain ⟨D1, hD1⟩ : ∃ D, D = dec xf := ⟨_, rfl⟩
  obtain ⟨D2, hD2⟩ : ∃ D, D = dec xt := ⟨_, rfl⟩
  obtain ⟨D3, hD3⟩ : ∃ D, D = dec xu := ⟨_, rfl⟩
  obtain ⟨D4, hD4⟩ : ∃ D, D = dec (xv.size : Int) := ⟨_, rfl⟩
  rw [← hD1] at HT1 HL HLN
  rw [← hD2] at HT2 HL HLN
  rw [← hD3] at HT3 HL HLN
  rw [← hD4] at HT4 HL HLN
  have wf : IntKind.u64.wrap xf = xf := u64w f0 (by omega)
  have wt : IntKind.u64.wrap xt = xt := u64w t0 (by omega)
  have wv : IntKind.u64.wrap (xv.size : Int) = (xv.size : Int) := u64w (by omega) (by omega)
  have x0 := cell_box HX.out 0 (.string xk) rfl
  have x1 := cell_box HX.out 1 (.string xv) rfl
  have x2 := cell_box HX.out 2 (.int .u32 xf) rfl
  have x3 := cell_box HX.out 3 (.int .i64 xt) rfl
  have x4 := cell_box HX.out 4 (.int .u64 xu) rfl
  clear hLN hD1 hD2 hD3 hD4 hB0 hbl hl ht h hb hk hv HT
  unfold Im.ar2
  dsimp only
  go_enter Tryd.func24, Tryd.ntmps24
  go_upto_region 1 with (fail)
  rw [← hW]
  clear hW
  go_cut [4, 5, 6] from 7 (fun s4 s5 s6 wx => s4 = .int .u64 xf ∧ s5 = .int .u64 xt ∧ s6 = .int .u64 (xv.size : Int) ∧ Hid (Below W.heap.size W wx))
  case first =>
    go_quiet (fail)
    go_wp2
    go_meet
    case rel => exact ⟨by first | rfl | rw [wf], by first | rfl | rw [wt], by first | rfl | rw [wv], (Below.refl _ _).trans ⟨rfl, rfl, rfl, Nat.le_refl _, fun _ _ => rfl⟩⟩
  case rest =>
    rename_i hK
    refine hK _ _ ?_
    clear hK
    obtain ⟨rfl, rfl, rfl, HBX⟩ := hcut
    obtain ⟨w0, hw0⟩ : ∃ w0, w0 = wc := ⟨_, rfl⟩
    rw [← hw0] at HBX ⊢
    clear hw0 x0 x1 x2 x3 x4 wf wt wv
    have HX0 : Hid (w0.heap[w.heap.size]? = some (.cells #[.string xk, .string xv, .int .u32 xf, .int .i64 xt, .int .u64 xu] 53 (0, 0))) := by
      show _ = _
      rw [HBX.out.block _ (Array.getElem?_eq_some_iff.1 HX.out).1]
      exact HX.out
    have HU0 := Hid.mk2 (HU.out.below HBX.out)
    have HB0 := Hid.mk2 (g_on HB.out HBX.out)
    have HXb0 : Hid (w.heap.size ≠ b ∧ b < w0.heap.size ∧ base ≤ w0.heap.size) := ⟨HXb.out.1, Nat.lt_of_lt_of_le HXb.out.2.1 HBX.out.size, Nat.le_trans HXb.out.2.2 HBX.out.size⟩
    have x0 := cell_box HX0.out 0 (.string xk) rfl
    have x4 := cell_box HX0.out 4 (.int .u64 xu) rfl
    have HSW : Hid (∀ V, Below w0.heap.size w0 V → V.cell? ⟨w.heap.size, 0, none⟩ = some (.string xk) ∧ V.cell? ⟨w.heap.size, 4, none⟩ = some (.int .u64 xu)) := fun V hV => ⟨(hV.cell (p := ⟨w.heap.size, 0, none⟩) (Array.getElem?_eq_some_iff.1 HX0.out).1).trans x0, (hV.cell (p := ⟨w.heap.size, 4, none⟩) (Array.getElem?_eq_some_iff.1 HX0.out).1).trans x4⟩
    go_upto_region 2 with (fail)
    go_cut [3] from 7 (fun s3 wx => s3 = .pointer (some ⟨w.heap.size, 0, none⟩) ∧ Hid (Bu wx base b (l ++ (joinW [sVALUE, xk, D1, D2, D3, D4] ++ [13, 10])) ∧ Below base w0 wx ∧ Oth w0 wx b))
    case first =>
      go_region_held3 (fun V => V.cell? ⟨w.heap.size, 0, none⟩ = some (.string xk) ∧ V.cell? ⟨w.heap.size, 4, none⟩ = some (.int .u64 xu)) (first | exact HSP.out | exact HSW.out _ (by repeat' (first | with_reducible exact HB4.out | with_reducible exact HB3.out | with_reducible exact HB2.out | with_reducible exact HB1.out | with_reducible exact Below.refl _ _ | with_reducible refine Below.drew ?_ | with_reducible refine g_on ?_ (g_alloc _ _))))
        (first
        | (have h9 := HB3; go_at_call 46; refine (HT4.out _ (g_on HBX.out HB3.out)).mono ?_; rintro e w4 ⟨rfl, hb4⟩; have HB4 := Hid.mk2 (g_on HB3.out hb4); clear hb4)
        | (have h9 := HB2; go_at_call 46; refine (HT3.out _ (g_on HBX.out HB2.out)).mono ?_; rintro e w3 ⟨rfl, hb3⟩; have HB3 := Hid.mk2 (g_on HB2.out hb3); clear hb3)
        | (have h9 := HB1; go_at_call 46; refine (HT2.out _ (g_on HBX.out HB1.out)).mono ?_; rintro e w2 ⟨rfl, hb2⟩; have HB2 := Hid.mk2 (g_on HB1.out hb2); clear hb2)
        | (go_at_call 46; refine (HT1.out _ (HBX.out.drew)).mono ?_; rintro e w1 ⟨rfl, hb1⟩; have HB1 : Hid (Below w0.heap.size w0 w1) := g_drew hb1; clear hb1)
        | (go_at_call 25; have h9 := HB4; refine (HPL.out _ l [sVALUE, xk, D1, D2, D3, D4] _ _ (HU0.out.below (g_on HB4.out (g_alloc _ _))) (Nat.le_trans HXb0.out.2.2 (g_on HB4.out (g_alloc _ _)).size) (Sx.made w4 b [sVALUE, xk, D1, D2, D3, D4] (Nat.lt_of_lt_of_le HXb0.out.2.1 HB4.out.size)) HL.out.1 6 rfl (by decide)).mono ?_; rintro e w5 ⟨rfl, hu5, hb5, ho5⟩; have HU5 := Hid.mk2 hu5; have HB5 : Hid (Below base w0 w5) := ((g_on HB4.out (g_alloc _ _)).mono HXb0.out.2.2).trans hb5; have HO5 : Hid (Oth w0 w5 b) := (Oth.of_below (g_on HB4.out (g_alloc _ _))).trans ho5; have HX5 := Hid.mk2 (box_oth HX0.out HXb0.out.1 (by decide) HO5.out); have HSP : Hid (w5.cell? ⟨w.heap.size, 0, none⟩ = some (.string xk) ∧ w5.cell? ⟨w.heap.size, 4, none⟩ = some (.int .u64 xu)) := ⟨cell_box HX5.out 0 _ rfl, cell_box HX5.out 4 _ rfl⟩; clear hu5 hb5 ho5))
      all_goals
        go_wp2_with fail
        go_meet
        case rel => exact ⟨rfl, HU5.out, HB5.out, HO5.out⟩
    case rest =>
      obtain ⟨rfl, HC⟩ := hcut
      obtain ⟨w5, hw5⟩ : ∃ w5, w5 = wc := ⟨_, rfl⟩
      rw [← hw5] at HC ⊢
      clear hw5 x0 x4
      have HX5 := Hid.mk2 (box_oth HX0.out HXb0.out.1 (by decide) HC.out.2.2)
      have y1 := cell_box HX5.out 1 (.string xv) rfl
      have HXb5 : Hid (b < w5.heap.size ∧ base ≤ w5.heap.size) := ⟨Nat.lt_of_lt_of_le HXb0.out.2.1 HC.out.2.1.size, Nat.le_trans HXb0.out.2.2 HC.out.2.1.size⟩
      go_wp2_with (go_at_call 25; refine (HPL.out _ _ [xv] _ _ (HC.out.1.below (g_alloc _ _)) (Nat.le_trans HXb5.out.2 (g_alloc _ _).size) (Sx.made w5 b [xv] HXb5.out.1) HL.out.2 1 rfl (by decide)).mono ?_; rintro e w6 ⟨rfl, hu6, hb6, ho6⟩)
      refine bodyPost_end (results_none rfl _ _ _) rfl ?_
      refine ⟨rfl, by rw [← HLN.out]; exact hu6, ?_, ?_⟩
      · exact (HB0.out.mono HSB.out).trans (HC.out.2.1.trans (((Below.refl _ _).alloc HXb5.out.2 _).trans hb6))
      · exact (Oth.of_below HB0.out).trans (HC.out.2.2.trans ((Oth.of_below (g_alloc _ _)).trans ho6))
end Go.Proofs.YtfmpbddhejpjaaaDoor
