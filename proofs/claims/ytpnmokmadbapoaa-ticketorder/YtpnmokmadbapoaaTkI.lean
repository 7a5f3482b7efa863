/-
  Package ticket: contract of holdersAt.
-/
import Derived.Test.YtpnmokmadbapoaaTkH
namespace Go.Proofs.Ytpnmokmadbapoaa
open Go.RowKit
set_option linter.unusedSimpArgs false
set_option linter.unusedVariables false
set_option maxRecDepth 100000


theorem cell_beh2 {W wr : World} (hb : Below W.heap.size W wr) {a : Addr} {v : Value} (hlt : a.block < W.heap.size) (h : W.cell? a = some v) (p : Beh wr) : p.v.cell? a = some v := (p.ok.cell (Nat.lt_of_lt_of_le hlt hb.size)).trans ((hb.cell hlt).trans h)
set_option maxHeartbeats 2000000 in
theorem holdersAt_any (B : List Bx) (ao : Option Addr) (cap m : Nat) (hm : m = B.length) (hn1 : B.length ≤ 4) (next : Int) (P : Nat → Nat) (p0 p1 p2 p3 : Value) (hp : plc P = [p0, p1, p2, p3]) (t : Tk) (ka : Option Addr) (ca ma : Nat) (hma : ma = t.c.keys.length) (w : World) (h : Qr w ao B cap) (ha : GRd ES w ka t.c.keys ca) :
    Calls Try.prog 90 #[.agg #[.int .i64 next, .slice ao m cap], .agg #[p0, p1, p2, p3], .agg (t.arr (.slice ka ma ca))] w fun e w' => ∃ v, e = .returned v ∧ GOwn EI w' w.heap.size v (hld (dat B) P t) ∧ Below w.heap.size w w' := by
  have mixed : Try.prog.follows .mixedOrders = true := by kernel_rfl
  subst hm
  have hlen := h.row.len
  obtain ⟨va, hva⟩ : ∃ va, va = Value.slice ka ma ca := ⟨_, rfl⟩
  rw [← hva]
  obtain ⟨W, hW⟩ : ∃ W, W = ((w.alloc (.cells #[.int .i64 next, .slice ao B.length cap] 62)).alloc (.cells #[p0, p1, p2, p3] 132)).alloc (.cells (t.arr va) 68) := ⟨_, rfl⟩
  have HB : Hid (Below w.heap.size w W) := by rw [hW]; exact g_on (g_on (g_alloc _ _) (g_alloc _ _)) (g_alloc _ _)
  have HX : Hid (GBx W w.heap.size [.int .i64 next, .slice ao B.length cap]) := by rw [hW]; exact ((GBx.made w [.int .i64 next, .slice ao B.length cap] _).alloc _).alloc _
  have HY : Hid (GBx W (w.heap.size + 1) (plc P)) := by
    rw [hW, hp]
    have := GBx.made (w.alloc (.cells #[.int .i64 next, .slice ao B.length cap] 62)) [p0, p1, p2, p3] 132
    rw [show (w.alloc (.cells #[.int .i64 next, .slice ao B.length cap] 62)).heap.size = w.heap.size + 1 by simp] at this
    exact this.alloc _
  have HZ : Hid (GBx W (w.heap.size + 2) (t.cl va)) := by
    rw [hW]
    have := GBx.made ((w.alloc (.cells #[.int .i64 next, .slice ao B.length cap] 62)).alloc (.cells #[p0, p1, p2, p3] 132)) (t.cl va) 68
    rw [show ((w.alloc (.cells #[.int .i64 next, .slice ao B.length cap] 62)).alloc (.cells #[p0, p1, p2, p3] 132)).heap.size = w.heap.size + 2 by simp] at this
    exact this
  have HR := Hid.mk2 (h.below HB.out)
  have HKA := Hid.mk2 (ha.below HB.out)
  have HSM := Hid.mk2 (fun (d : Td) (v : World) (hv : Below W.heap.size W v) (hk : GRd ES W d.so d.t.c.keys d.sc) => same12_any d.t t d.so ka d.sc ca d.t.c.keys.length ma rfl hma v (hk.below hv) ((ha.below HB.out).below hv))
  rw [← hva] at HSM
  have HIN := Hid.mk2 (fun k => @hldTo_in (dat B) P t k)
  have HOUT := Hid.mk2 (fun k => @hldTo_out (dat B) P t k)
  have HLE := Hid.mk2 (fun k => hldTo_len (dat B) P t k)
  have HLD : Hid (hld (dat B) P t = hldTo (dat B) P t B.length) := by show _ = _; unfold hld; rw [show (dat B).length = B.length by simp [dat]]
  have HN1 := Hid.mk2 (fun k => @holds_dat_no B P k t)
  have HN2 := Hid.mk2 (fun k => @holds_dat B P k t)
  obtain ⟨H, hH⟩ : ∃ H, H = hldTo (dat B) P t := ⟨_, rfl⟩
  have HH0 : Hid (H 0 = []) := by show _ = _; rw [hH]; rfl
  rw [← hH] at HIN HOUT HLE HLD
  rw [HLD.out]
  clear h ha hva hH hp HLD
  have x1 := HX.out.c 1 (by simp)
  have HPL := Hid.mk2 (plc_at HY.out)
  simp only [List.getElem_cons_zero, List.getElem_cons_succ] at x1
  have hlt := HX.out.lt
  have hlt1 := HY.out.lt
  have hlt2 := HZ.out.lt
  clear HX HY
  obtain ⟨num, kind, ⟨ckind, tenant, keys, value, flags, life, unique, by_⟩, ten, dest⟩ := t
  unfold Tk.arr at *
  unfold Tk.cl at HZ
  dsimp only at *
  go_enter Try.func90, Try.ntmps90
  go_upto_region 1 with (fail)
  rw [← hW]
  clear hW
  go_wp2
  go_loopw [7, 8, 12] (fun a _ i wr => ∃ (k : Nat) (v5 : Value), k ≤ B.length ∧ i = .int .i64 k ∧ a = v5 ∧ Hid (Below W.heap.size W wr) ∧ Hid (GOwn EI wr W.heap.size v5 (H k))) (fun _ _ i _ => B.length - (intOf i).toNat)
  case atStart => exact ⟨0, _, Nat.zero_le _, rfl, rfl, Below.refl _ _, by show GOwn _ _ _ _ _; rw [HH0.out]; exact GOwn.nil _ _⟩
  case round =>
    obtain ⟨k, v5, hkn, rfl, rfl, HBW, HOW⟩ := hrel
    have hbz := HBW.out.size
    by_cases hkl : k < B.length
    · have hkl2 : (k : Int) < (B.length : Int) := by omega
      have hk4 : (k : Int) < 4 := by omega
      have hne : B ≠ [] := by intro e; rw [e] at hkl; simp at hkl
      have hp := HPL.out k (by omega)
      have HINK := Hid.mk2 (HIN.out k)
      have HOUTK := Hid.mk2 (HOUT.out k)
      have HN1K := Hid.mk2 (HN1.out k hkl)
      have HN2K := Hid.mk2 (HN2.out k hkl)
      have hll := HLE.out k
      have HBOX := Hid.mk2 (HR.out.box B[k] (List.getElem_mem hkl))
      have HKEY := Hid.mk2 (HR.out.keys B[k] (List.getElem_mem hkl))
      obtain ⟨b, off, rfl, hbl, hcs⟩ := HR.out.row.bx hne
      have rb := hcs k hkl
      have hlk := HBOX.out.len
      have z0 := HZ.out.c 0 (by simp)
      have z1 := HZ.out.c 1 (by simp)
      have z2 := HZ.out.c 2 (by simp)
      have z3 := HZ.out.c 3 (by simp)
      have z4 := HZ.out.c 4 (by simp)
      have z5 := HZ.out.c 5 (by simp)
      have z6 := HZ.out.c 6 (by simp)
      have z7 := HZ.out.c 7 (by simp)
      have z8 := HZ.out.c 8 (by simp)
      have z9 := HZ.out.c 9 (by simp)
      have z10 := HZ.out.c 10 (by simp)
      have z11 := HZ.out.c 11 (by simp)
      simp only [List.getElem_cons_zero, List.getElem_cons_succ] at z0 z1 z2 z3 z4 z5 z6 z7 z8 z9 z10 z11
      obtain ⟨bx, hbx⟩ : ∃ bx, bx = B[k] := ⟨_, rfl⟩
      rw [← hbx] at rb hlk HN1K HBOX HKEY
      have HN3K : Hid (∀ h : P k < bx.l.length, holds (dat B) P ⟨num, kind, ⟨ckind, tenant, keys, value, flags, life, unique, by_⟩, ten, dest⟩ k = decide (bx.l[P k].t = ⟨num, kind, ⟨ckind, tenant, keys, value, flags, life, unique, by_⟩, ten, dest⟩)) := by intro h; subst hbx; exact HN2K.out h
      obtain ⟨hd, hhd⟩ : ∃ hd, hd = holds (dat B) P ⟨num, kind, ⟨ckind, tenant, keys, value, flags, life, unique, by_⟩, ten, dest⟩ k := ⟨_, rfl⟩
      rw [← hhd] at HINK HOUTK HN1K HN3K
      clear HN2K hbx HIN HOUT HN1 HN2 HLE hhd
      obtain ⟨bl, bao, bcap⟩ := bx
      dsimp only at *
      have y1 : ∀ p : Beh wr, _ := cell_beh2 HBW.out (a := ⟨w.heap.size, 1, none⟩) hlt x1
      have yp : ∀ p : Beh wr, _ := cell_beh2 HBW.out (a := ⟨w.heap.size + 1, k, none⟩) hlt1 hp
      have yb : ∀ p : Beh wr, _ := cell_beh2 HBW.out (a := ⟨b, off + k, none⟩) hbl rb
      obtain ⟨pk, hpk2⟩ : ∃ pk, pk = P k := ⟨_, rfl⟩
      rw [← hpk2] at yp HN1K
      by_cases hlt5 : pk < bl.length
      · have hlt6 : (pk : Int) < (bl.length : Int) := by omega
        have hneb : bl ≠ [] := by intro e; rw [e] at hlt5; simp at hlt5
        have HN4K : Hid (hd = decide (bl[pk].t = ⟨num, kind, ⟨ckind, tenant, keys, value, flags, life, unique, by_⟩, ten, dest⟩)) := by subst hpk2; exact HN3K.out hlt5
        have HS := Hid.mk2 (fun p : Beh wr => HSM.out bl[pk] p.v (g_on HBW.out p.ok) (HKEY.out bl[pk] (List.getElem_mem hlt5)))
        obtain ⟨b1, off1, rfl, hbl1, hc1⟩ := HBOX.out.tks hneb
        obtain ⟨r0, r1, r2, r3, r4, r5, r6, r7, r8, r9, r10, r11⟩ := hc1 pk hlt5
        obtain ⟨d, hde⟩ : ∃ d, d = bl[pk] := ⟨_, rfl⟩
        rw [← hde] at r0 r1 r2 r3 r4 r5 r6 r7 r8 r9 r10 r11 HS HN4K
        rw [← HN4K.out] at HS
        obtain ⟨⟨num1, kind1, ⟨ckind1, tenant1, keys1, value1, flags1, life1, unique1, by1⟩, ten1, dest1⟩, so1, sc1⟩ := d
        dsimp only at r0 r1 r2 r3 r4 r5 r6 r7 r8 r9 r10 r11 HS
        have s0 : ∀ p : Beh wr, _ := cell_beh2 HBW.out (a := ⟨w.heap.size + 2, 0, none⟩) hlt2 z0
        have q0 : ∀ p : Beh wr, _ := cell_beh2 HBW.out (a := ⟨b1, off1 + pk * 12, none⟩) hbl1 r0
        have s1 : ∀ p : Beh wr, _ := cell_beh2 HBW.out (a := ⟨w.heap.size + 2, 1, none⟩) hlt2 z1
        have q1 : ∀ p : Beh wr, _ := cell_beh2 HBW.out (a := ⟨b1, off1 + pk * 12 + 1, none⟩) hbl1 r1
        have s2 : ∀ p : Beh wr, _ := cell_beh2 HBW.out (a := ⟨w.heap.size + 2, 2, none⟩) hlt2 z2
        have q2 : ∀ p : Beh wr, _ := cell_beh2 HBW.out (a := ⟨b1, off1 + pk * 12 + 2, none⟩) hbl1 r2
        have s3 : ∀ p : Beh wr, _ := cell_beh2 HBW.out (a := ⟨w.heap.size + 2, 3, none⟩) hlt2 z3
        have q3 : ∀ p : Beh wr, _ := cell_beh2 HBW.out (a := ⟨b1, off1 + pk * 12 + 3, none⟩) hbl1 r3
        have s4 : ∀ p : Beh wr, _ := cell_beh2 HBW.out (a := ⟨w.heap.size + 2, 4, none⟩) hlt2 z4
        have q4 : ∀ p : Beh wr, _ := cell_beh2 HBW.out (a := ⟨b1, off1 + pk * 12 + 4, none⟩) hbl1 r4
        have s5 : ∀ p : Beh wr, _ := cell_beh2 HBW.out (a := ⟨w.heap.size + 2, 5, none⟩) hlt2 z5
        have q5 : ∀ p : Beh wr, _ := cell_beh2 HBW.out (a := ⟨b1, off1 + pk * 12 + 5, none⟩) hbl1 r5
        have s6 : ∀ p : Beh wr, _ := cell_beh2 HBW.out (a := ⟨w.heap.size + 2, 6, none⟩) hlt2 z6
        have q6 : ∀ p : Beh wr, _ := cell_beh2 HBW.out (a := ⟨b1, off1 + pk * 12 + 6, none⟩) hbl1 r6
        have s7 : ∀ p : Beh wr, _ := cell_beh2 HBW.out (a := ⟨w.heap.size + 2, 7, none⟩) hlt2 z7
        have q7 : ∀ p : Beh wr, _ := cell_beh2 HBW.out (a := ⟨b1, off1 + pk * 12 + 7, none⟩) hbl1 r7
        have s8 : ∀ p : Beh wr, _ := cell_beh2 HBW.out (a := ⟨w.heap.size + 2, 8, none⟩) hlt2 z8
        have q8 : ∀ p : Beh wr, _ := cell_beh2 HBW.out (a := ⟨b1, off1 + pk * 12 + 8, none⟩) hbl1 r8
        have s9 : ∀ p : Beh wr, _ := cell_beh2 HBW.out (a := ⟨w.heap.size + 2, 9, none⟩) hlt2 z9
        have q9 : ∀ p : Beh wr, _ := cell_beh2 HBW.out (a := ⟨b1, off1 + pk * 12 + 9, none⟩) hbl1 r9
        have s10 : ∀ p : Beh wr, _ := cell_beh2 HBW.out (a := ⟨w.heap.size + 2, 10, none⟩) hlt2 z10
        have q10 : ∀ p : Beh wr, _ := cell_beh2 HBW.out (a := ⟨b1, off1 + pk * 12 + 10, none⟩) hbl1 r10
        have s11 : ∀ p : Beh wr, _ := cell_beh2 HBW.out (a := ⟨w.heap.size + 2, 11, none⟩) hlt2 z11
        have q11 : ∀ p : Beh wr, _ := cell_beh2 HBW.out (a := ⟨b1, off1 + pk * 12 + 11, none⟩) hbl1 r11
        clear hpk2 HN1K HN3K HN4K hcs hc1 hne hneb HBOX HKEY HSM hde rb hp x1 z0 z1 z2 z3 z4 z5 z6 z7 z8 z9 z10 z11 r0 r1 r2 r3 r4 r5 r6 r7 r8 r9 r10 r11
        cases hd
        · have HE := Hid.mk2 (HOUTK.out rfl)
          clear HINK HOUTK
          go_wp2
          refine wp_region_quiet_beh (by assumption) (by kernel_rfl) ?_
          repeat (first | go_big_quiet_skip | (quiet_step (first | (go_at_call 103; exact Calls.beh_of (HS.out _)))))
          refine wpQuiet_nil ?_
          intro w5 hw'
          obtain ⟨⟨wq, hq⟩, hw''⟩ := hw'
          subst hw''
          clear y1 yp yb HS s0 s1 s2 s3 s4 s5 s6 s7 s8 s9 s10 s11 q0 q1 q2 q3 q4 q5 q6 q7 q8 q9 q10 q11
          go_wp2
          go_roundw
          case rel => exact ⟨k + 1, _, by omega, by go_num, rfl, g_on HBW.out hq, by show GOwn _ _ _ _ _; rw [HE.out]; exact HOW.out.below hq⟩
          case measure => simp [intOf]; omega
        · have HE := Hid.mk2 (HINK.out rfl)
          clear HINK HOUTK
          go_wp2
          refine wp_region_quiet_beh (by assumption) (by kernel_rfl) ?_
          repeat (first | go_big_quiet_skip | (quiet_step (first | (go_at_call 103; exact Calls.beh_of (HS.out _)))))
          refine wpQuiet_nil ?_
          intro w5 hw'
          obtain ⟨⟨wq, hq⟩, hw''⟩ := hw'
          subst hw''
          clear y1 yp yb HS s0 s1 s2 s3 s4 s5 s6 s7 s8 s9 s10 s11 q0 q1 q2 q3 q4 q5 q6 q7 q8 q9 q10 q11
          have HOQ := Hid.mk2 (HOW.out.below hq)
          have hqz := hq.size
          have hqz2 : W.heap.size ≤ w5.heap.size := Nat.le_trans hbz hqz
          have HLT : Hid ((H k).length + 1 ≤ 1000000) := by show _ ≤ _; omega
          go_wp2_with (at_builtin; refine g_one (w0 := w5) okI rfl _ _ _ rfl rfl W.heap.size _ (H k) HOQ.out rfl (k : Int) rfl _ rfl rfl HLT.out hqz2 ?_; intro v7 w7 hO7 hG7; have HO7 := Hid.mk2 hO7; have HG7 := Hid.mk2 hG7; clear hO7 hG7)
          go_roundw
          case rel => exact ⟨k + 1, v7, by omega, by go_num, rfl, (g_on HBW.out hq).trans (HG7.out.below HOQ.out hqz2), by show GOwn _ _ _ _ _; rw [HE.out]; exact HO7.out⟩
          case measure => simp [intOf]; omega
      · have hlt6 : ¬ ((pk : Int) < (bl.length : Int)) := by omega
        have ehd := HN1K.out (by omega)
        have HE := Hid.mk2 (HOUTK.out ehd)
        clear hpk2 HN1K HINK HOUTK HN3K hcs hne HBOX HKEY z0 z1 z2 z3 z4 z5 z6 z7 z8 z9 z10 z11 rb hp x1
        go_wp2
        refine wp_region_quiet_beh (by assumption) (by kernel_rfl) ?_
        repeat (first | go_big_quiet_skip | (quiet_step (fail)))
        refine wpQuiet_nil ?_
        intro w5 hw'
        obtain ⟨⟨wq, hq⟩, hw''⟩ := hw'
        subst hw''
        clear y1 yp yb
        go_wp2
        go_roundw
        case rel => exact ⟨k + 1, _, by omega, by go_num, rfl, g_on HBW.out hq, by show GOwn _ _ _ _ _; rw [HE.out]; exact HOW.out.below hq⟩
        case measure => simp [intOf]; omega
    · have hkl2 : ¬ ((k : Int) < (B.length : Int)) := by omega
      have ek : k = B.length := by omega
      subst ek
      go_wp2
      go_ret
      exact ⟨_, rfl, HOW.out.down HB.out.size, g_on HB.out HBW.out⟩
end Go.Proofs.Ytpnmokmadbapoaa
