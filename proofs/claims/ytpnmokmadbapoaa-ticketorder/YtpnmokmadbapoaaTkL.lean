/-
  Package ticket: contracts of isReady, Ready.
-/
import Derived.Test.YtpnmokmadbapoaaTkK
namespace Go.Proofs.Ytpnmokmadbapoaa
open Go.RowKit
set_option linter.unusedSimpArgs false
set_option linter.unusedVariables false
set_option maxRecDepth 100000

/-- P12.3: is a shard ready -/
def rdy (q : List (List Tk)) (i : Nat) : Bool := match bxs q i with
  | [] => false
  | t :: _ => decide (hld q (fun _ => 0) t = t.needs q.length)
def rdyTo (q : List (List Tk)) (k : Nat) : List Int := ((List.range k).filter fun i => rdy q i).map fun (i : Nat) => (i : Int)
def rdyL (q : List (List Tk)) : List Int := rdyTo q q.length
theorem rdyTo_in {q : List (List Tk)} {k : Nat} (h : rdy q k = true) : rdyTo q (k + 1) = rdyTo q k ++ [(k : Int)] := by
  unfold rdyTo; rw [List.range_succ]; simp [h]
theorem rdyTo_out {q : List (List Tk)} {k : Nat} (h : rdy q k = false) : rdyTo q (k + 1) = rdyTo q k := by
  unfold rdyTo; rw [List.range_succ]; simp [h]
theorem rdyTo_len (q : List (List Tk)) (k : Nat) : (rdyTo q k).length ≤ k := by
  unfold rdyTo
  rw [List.length_map]
  exact Nat.le_trans (List.length_filter_le _ _) (by simp)
theorem rdy_dat_nil {B : List Bx} {k : Nat} (hk : k < B.length) (h : B[k].l = []) : rdy (dat B) k = false := by
  unfold rdy; rw [bxs_dat hk, h]; rfl
theorem rdy_dat_cons {B : List Bx} {k : Nat} {d : Td} {l : List Td} (hk : k < B.length) (h : B[k].l = d :: l) : rdy (dat B) k = decide (hld (dat B) (fun _ => 0) d.t = d.t.needs B.length) := by
  unfold rdy; rw [bxs_dat hk, h, ← dat_len]; rfl

set_option maxHeartbeats 2000000 in
theorem isReady_any (B : List Bx) (ao : Option Addr) (cap m : Nat) (hm : m = B.length) (hn0 : 1 ≤ B.length) (hn1 : B.length ≤ 4) (next : Int) (hmay : ∀ l ∈ dat B, ∀ t ∈ l, t.may = true) (k : Nat) (hk : k < B.length) (w : World) (h : Qr w ao B cap) :
    Calls Try.prog 70 #[.agg #[.int .i64 next, .slice ao m cap], .int .i64 k] w fun e w' => e = .returned (.bool (rdy (dat B) k)) ∧ Below w.heap.size w w' := by
  subst hm
  have hlen := h.row.len
  obtain ⟨W, hW⟩ : ∃ W, W = w.alloc (.cells #[.int .i64 next, .slice ao B.length cap] 62) := ⟨_, rfl⟩
  have HB : Hid (Below w.heap.size w W) := by rw [hW]; exact g_alloc _ _
  have HX : Hid (GBx W w.heap.size [.int .i64 next, .slice ao B.length cap]) := by rw [hW]; exact GBx.made w [.int .i64 next, .slice ao B.length cap] _
  have HR := Hid.mk2 (h.below HB.out)
  have HMY := Hid.mk2 hmay
  have x0 := HX.out.c 0 (by simp)
  have x1 := HX.out.c 1 (by simp)
  have xlt := HX.out.lt
  simp only [List.getElem_cons_zero, List.getElem_cons_succ] at x0 x1
  have hkl2 : (k : Int) < (B.length : Int) := by omega
  have hne : B ≠ [] := by intro e; rw [e] at hk; simp at hk
  obtain ⟨b, off, rfl, hbl, hcs⟩ := HR.out.row.bx hne
  have rb := hcs k hk
  have HBOX := Hid.mk2 (HR.out.box B[k] (List.getElem_mem hk))
  have HKEY := Hid.mk2 (HR.out.keys B[k] (List.getElem_mem hk))
  have HNIL := Hid.mk2 (@rdy_dat_nil B k hk)
  have HCON := Hid.mk2 (fun d l => @rdy_dat_cons B k d l hk)
  have HMB : Hid (∀ d ∈ B[k].l, d.t.may = true) := fun d hd => HMY.out (B[k].l.map Td.t) (List.mem_map.2 ⟨B[k], List.getElem_mem hk, rfl⟩) d.t (List.mem_map.2 ⟨d, hd, rfl⟩)
  obtain ⟨R, hR⟩ : ∃ R, R = rdy (dat B) k := ⟨_, rfl⟩
  rw [← hR] at HNIL HCON ⊢
  obtain ⟨bx, hbx⟩ : ∃ bx, bx = B[k] := ⟨_, rfl⟩
  rw [← hbx] at rb HBOX HKEY HNIL HCON HMB
  clear h hmay hcs hne hR hbx HX HMY
  obtain ⟨bl, bao, bcap⟩ := bx
  dsimp only at rb HBOX HKEY HNIL HCON HMB
  have hlk := HBOX.out.len
  go_enter Try.func70, Try.ntmps70
  go_upto_region 1 with (fail)
  rw [← hW]
  clear hW
  cases bl with
  | nil =>
    have eR := HNIL.out rfl
    subst eR
    clear HNIL HCON
    dsimp only [List.length_nil] at rb
    go_wp2
    go_ret
    exact ⟨rfl, HB.out⟩
  | cons d bl =>
    have HD := Hid.mk2 (HCON.out d bl rfl)
    obtain ⟨b1, off1, rfl, hbl1, hc1⟩ := HBOX.out.tks (by simp)
    obtain ⟨r0, r1, r2, r3, r4, r5, r6, r7, r8, r9, r10, r11⟩ := hc1 0 (by simp)
    simp only [List.getElem_cons_zero, Nat.zero_mul, Nat.add_zero] at r0 r1 r2 r3 r4 r5 r6 r7 r8 r9 r10 r11
    have HK1 := Hid.mk2 (HKEY.out d (by simp))
    have HM1 := Hid.mk2 (HMB.out d (by simp))
    obtain ⟨M, hM⟩ : ∃ M, M = (d :: bl).length := ⟨_, rfl⟩
    have hM0 : ((M : Int) == 0) = false := by rw [beq_eq_false_iff_ne, hM]; simp; omega
    have hM1 : 0 < M := by rw [hM]; simp
    have hM2 : (0 : Int) < (M : Int) := by omega
    rw [← hM] at rb
    clear HNIL HCON HBOX HKEY HMB hc1 hM hlk
    obtain ⟨t, so, sc⟩ := d
    dsimp only at r0 r1 r2 r3 r4 r5 r6 r7 r8 r9 r10 r11 HK1 HM1 HD
    have HTC : Hid (∃ num kind ckind tenant keys value flags life unique by_ ten dest, t = Tk.mk num kind ⟨ckind, tenant, keys, value, flags, life, unique, by_⟩ ten dest) := by
      obtain ⟨num, kind, ⟨ckind, tenant, keys, value, flags, life, unique, by_⟩, ten, dest⟩ := t
      exact ⟨_, _, _, _, _, _, _, _, _, _, _, _, rfl⟩
    obtain ⟨num, kind, ckind, tenant, keys, value, flags, life, unique, by_, ten, dest, ht⟩ := HTC.out
    clear HTC
    have HT := Hid.mk2 ht
    rw [ht] at r0 r1 r2 r3 r4 r5 r6 r7 r8 r9 r10 r11
    dsimp only at r0 r1 r2 r3 r4 r5 r6 r7 r8 r9 r10 r11
    have HKL : Hid (keys = t.c.keys) := by show _ = _; rw [ht]
    have HHO := Hid.mk2 (fun w2 (hb2 : Below W.heap.size W w2) => holdersAt_any B (some ⟨b, off, none⟩) cap _ rfl hn1 next (fun _ => 0) (.int .i64 0) (.int .i64 0) (.int .i64 0) (.int .i64 0) (by simp [plc]) t so sc keys.length (by rw [HKL.out]) w2 (HR.out.below hb2) (HK1.out.below hb2))
    have HND := Hid.mk2 (fun w2 (hb2 : Below W.heap.size W w2) => needs12_any t B.length hn0 hn1 HM1.out so sc keys.length (by rw [HKL.out]) w2 (HK1.out.below hb2))
    have HTA : Hid (t.arr (.slice so keys.length sc) = #[.int .i64 num, .int .u8 kind, .int .u8 ckind, .int .i64 tenant, .slice so keys.length sc, .string value, .int .u32 flags, .int .i64 life, .int .u64 unique, .int .u64 by_, .int .i64 ten, .int .i64 dest]) := by show _ = _; rw [ht]; rfl
    rw [HTA.out] at HHO HND
    have HEQS := Hid.mk2 (fun (L M : List Int) x1 x2 x3 x4 x5 x6 h5 h6 wx g1 g2 => eqI_any L M x1 x2 x3 x4 x5 x6 h5 h6 wx g1 g2)
    obtain ⟨HL, hHL⟩ : ∃ HL, HL = hld (dat B) (fun _ => 0) t := ⟨_, rfl⟩
    obtain ⟨NL, hNL⟩ : ∃ NL, NL = t.needs B.length := ⟨_, rfl⟩
    rw [← hHL] at HHO HD
    rw [← hNL] at HND HD
    clear ht hHL hNL HT HTA HKL
    go_upto_region 4 with (fail)
    obtain ⟨W2, hW2⟩ : ∃ W2, W2 = W.alloc (.cells #[.int .i64 num, .int .u8 kind, .int .u8 ckind, .int .i64 tenant, .slice so keys.length sc, .string value, .int .u32 flags, .int .i64 life, .int .u64 unique, .int .u64 by_, .int .i64 ten, .int .i64 dest] 68) := ⟨_, rfl⟩
    have HB2 : Hid (Below W.heap.size W W2) := by rw [hW2]; exact g_alloc _ _
    have HTY : Hid (GBx W2 W.heap.size [.int .i64 num, .int .u8 kind, .int .u8 ckind, .int .i64 tenant, .slice so keys.length sc, .string value, .int .u32 flags, .int .i64 life, .int .u64 unique, .int .u64 by_, .int .i64 ten, .int .i64 dest]) := by rw [hW2]; exact GBx.made W [.int .i64 num, .int .u8 kind, .int .u8 ckind, .int .i64 tenant, .slice so keys.length sc, .string value, .int .u32 flags, .int .i64 life, .int .u64 unique, .int .u64 by_, .int .i64 ten, .int .i64 dest] _
    rw [← hW2]
    have x0' := (HB2.out.cell (p := ⟨w.heap.size, 0, none⟩) xlt).trans x0
    have x1' := (HB2.out.cell (p := ⟨w.heap.size, 1, none⟩) xlt).trans x1
    clear hW2 x0 x1 rb r0 r1 r2 r3 r4 r5 r6 r7 r8 r9 r10 r11
    have y0 := HTY.out.c 0 (by simp)
    have y1 := HTY.out.c 1 (by simp)
    have y2 := HTY.out.c 2 (by simp)
    have y3 := HTY.out.c 3 (by simp)
    have y4 := HTY.out.c 4 (by simp)
    have y5 := HTY.out.c 5 (by simp)
    have y6 := HTY.out.c 6 (by simp)
    have y7 := HTY.out.c 7 (by simp)
    have y8 := HTY.out.c 8 (by simp)
    have y9 := HTY.out.c 9 (by simp)
    have y10 := HTY.out.c 10 (by simp)
    have y11 := HTY.out.c 11 (by simp)
    simp only [List.getElem_cons_zero, List.getElem_cons_succ] at y0 y1 y2 y3 y4 y5 y6 y7 y8 y9 y10 y11
    have ylt := HTY.out.lt
    have HHO2 := Hid.mk2 (HHO.out W2 HB2.out)
    clear HHO
    go_upto_region 5 with (go_at_call 90; refine HHO2.out.mono ?_; rintro e w3 ⟨v6, rfl, hO3, hb3⟩; have HO3 := Hid.mk2 hO3; have HB3 := Hid.mk2 hb3; clear hO3 hb3)
    obtain ⟨a6, c6, hv6, hR6⟩ := HO3.out.rd okI
    subst hv6
    have HR6 := Hid.mk2 hR6
    have HTY3 := Hid.mk2 (HTY.out.below HB3.out)
    have x1'' := (HB3.out.cell (p := ⟨w.heap.size, 1, none⟩) (Nat.lt_of_lt_of_le xlt HB2.out.size)).trans x1'
    clear hR6 HHO2 HTY x0' x1' y0 y1 y2 y3 y4 y5 y6 y7 y8 y9 y10 y11 ylt
    have y0 := HTY3.out.c 0 (by simp)
    have y1 := HTY3.out.c 1 (by simp)
    have y2 := HTY3.out.c 2 (by simp)
    have y3 := HTY3.out.c 3 (by simp)
    have y4 := HTY3.out.c 4 (by simp)
    have y5 := HTY3.out.c 5 (by simp)
    have y6 := HTY3.out.c 6 (by simp)
    have y7 := HTY3.out.c 7 (by simp)
    have y8 := HTY3.out.c 8 (by simp)
    have y9 := HTY3.out.c 9 (by simp)
    have y10 := HTY3.out.c 10 (by simp)
    have y11 := HTY3.out.c 11 (by simp)
    simp only [List.getElem_cons_zero, List.getElem_cons_succ] at y0 y1 y2 y3 y4 y5 y6 y7 y8 y9 y10 y11
    have ylt := HTY3.out.lt
    have HND3 := Hid.mk2 (HND.out w3 (g_on HB2.out HB3.out))
    clear HND
    have eR := HD.out
    obtain ⟨Z, hZ⟩ : ∃ Z, Z = decide (HL = NL) := ⟨_, rfl⟩
    rw [← hZ] at eR
    subst eR
    have HZ := Hid.mk2 hZ
    clear hZ HD
    go_wp2_with (first
      | (go_at_call 66; refine HND3.out.mono ?_; rintro e w4 ⟨v7, rfl, hO4, hb4⟩; obtain ⟨a7, c7, hv7, hR7⟩ := hO4.rd okI; subst hv7; have HB4 := Hid.mk2 hb4; have HEQ := Hid.mk2 (HEQS.out HL NL a6 a7 c6 c7 _ _ rfl rfl w4 (HR6.out.below hb4) hR7); rw [← HZ.out] at HEQ; clear hO4 hb4 hR7)
      | (go_at_call 91; refine HEQ.out.mono ?_; rintro e w5 ⟨rfl, n5, rfl⟩))
    go_ret
    exact ⟨rfl, g_on HB.out (g_on HB2.out (g_on HB3.out (g_quiet_on _ HB4.out)))⟩

set_option maxHeartbeats 2000000 in
theorem ready_any (B : List Bx) (ao : Option Addr) (cap m : Nat) (hm : m = B.length) (next : Int) (w : World) (h : Qr w ao B cap) :
    Calls Try.prog 30 #[.agg #[.int .i64 next, .slice ao m cap]] w fun e w' => ∃ v, e = .returned (.tuple #[v, .int .i64 (ckQ (dat B) next)]) ∧ GOwn EI w' w.heap.size v (if ckQ (dat B) next = 0 then rdyL (dat B) else []) ∧ Below w.heap.size w w' := by
  subst hm
  have hlen := h.row.len
  obtain ⟨W, hW⟩ : ∃ W, W = w.alloc (.cells #[.int .i64 next, .slice ao B.length cap] 62) := ⟨_, rfl⟩
  have HB : Hid (Below w.heap.size w W) := by rw [hW]; exact g_alloc _ _
  have HX : Hid (GBx W w.heap.size [.int .i64 next, .slice ao B.length cap]) := by rw [hW]; exact GBx.made w [.int .i64 next, .slice ao B.length cap] _
  have HR := Hid.mk2 (h.below HB.out)
  have HCK := Hid.mk2 (tcheck_any B ao cap _ rfl next W HR.out)
  have x0 := HX.out.c 0 (by simp)
  have x1 := HX.out.c 1 (by simp)
  have xlt := HX.out.lt
  simp only [List.getElem_cons_zero, List.getElem_cons_succ] at x0 x1
  clear h HX
  by_cases hok : QOk (dat B) next
  case neg =>
    rw [ckQ_bad hok] at HCK ⊢
    rw [if_neg (by decide)]
    go_enter Try.func30, Try.ntmps30
    go_upto_region 1 with (fail)
    rw [← hW]
    clear hW
    go_wp2_with (go_at_call 43; refine HCK.out.mono ?_; rintro e w1 ⟨rfl, hb1⟩)
    go_ret2
    exact ⟨_, rfl, GOwn.nil _ _, g_on HB.out hb1⟩
  rw [ckQ_ok hok] at HCK ⊢
  rw [if_pos rfl]
  have hn0 : 1 ≤ B.length := by have := hok.n0; rw [dat_len] at this; exact this
  have hn1 : B.length ≤ 4 := by have := hok.n1; rw [dat_len] at this; exact this
  have HMY : Hid (∀ l ∈ dat B, ∀ t ∈ l, t.may = true) := fun l hl => (hok.box l hl).may
  have HRL : Hid (rdyL (dat B) = rdyTo (dat B) B.length) := by show _ = _; unfold rdyL; rw [dat_len]
  rw [HRL.out]
  have HIN := Hid.mk2 (fun k => @rdyTo_in (dat B) k)
  have HOUT := Hid.mk2 (fun k => @rdyTo_out (dat B) k)
  have HLE := Hid.mk2 (fun k => rdyTo_len (dat B) k)
  have HIR := Hid.mk2 (fun k hk w2 (hb2 : Below W.heap.size W w2) => isReady_any B ao cap _ rfl hn0 hn1 next HMY.out k hk w2 (HR.out.below hb2))
  obtain ⟨H, hH⟩ : ∃ H, H = rdyTo (dat B) := ⟨_, rfl⟩
  have HH0 : Hid (H 0 = []) := by show _ = _; rw [hH]; rfl
  rw [← hH] at HIN HOUT HLE ⊢
  clear hH HRL HMY hok
  go_enter Try.func30, Try.ntmps30
  go_upto_region 1 with (fail)
  rw [← hW]
  clear hW
  go_wp2_with (go_at_call 43; refine HCK.out.mono ?_; rintro e w1 ⟨rfl, hb1⟩; have HB1 := Hid.mk2 hb1; have x1' := (hb1.cell (p := ⟨w.heap.size, 1, none⟩) xlt).trans x1; have x0' := (hb1.cell (p := ⟨w.heap.size, 0, none⟩) xlt).trans x0; have xlt' := Nat.lt_of_lt_of_le xlt hb1.size; clear hb1)
  clear x0 x1 HCK
  go_loopw [5, 6, 15] (fun a _ i wr => ∃ (k : Nat) (v5 : Value), k ≤ B.length ∧ i = .int .i64 k ∧ a = v5 ∧ Hid (Below w1.heap.size w1 wr) ∧ Hid (GOwn EI wr w1.heap.size v5 (H k))) (fun _ _ i _ => B.length - (intOf i).toNat)
  case atStart => exact ⟨0, _, Nat.zero_le _, rfl, rfl, Below.refl _ _, by show GOwn _ _ _ _ _; rw [HH0.out]; exact GOwn.nil _ _⟩
  case round =>
    obtain ⟨k, v5, hkn, rfl, rfl, HBW, HOW⟩ := hrel
    have hbz := HBW.out.size
    by_cases hkl : k < B.length
    · have hkl2 : (k : Int) < (B.length : Int) := by omega
      have HC := Hid.mk2 (HIR.out k hkl wr (g_on HB1.out HBW.out))
      have HINK := Hid.mk2 (HIN.out k)
      have HOUTK := Hid.mk2 (HOUT.out k)
      have hll := HLE.out k
      have y0 := (HBW.out.cell (p := ⟨w.heap.size, 0, none⟩) xlt').trans x0'
      have y1 := (HBW.out.cell (p := ⟨w.heap.size, 1, none⟩) xlt').trans x1'
      obtain ⟨Z, hZ⟩ : ∃ Z, Z = rdy (dat B) k := ⟨_, rfl⟩
      rw [← hZ] at HC HINK HOUTK
      clear hZ HIN HOUT HLE HIR x0' x1'
      have ylt : w.heap.size < wr.heap.size := by omega
      cases Z
      · have HE := Hid.mk2 (HOUTK.out rfl)
        clear HINK HOUTK
        go_wp2_with (go_at_call 70; refine HC.out.mono ?_; rintro e w2 ⟨rfl, hb2⟩; have HB2 := Hid.mk2 hb2; clear hb2)
        go_roundw
        case rel => exact ⟨k + 1, _, by omega, by go_num, rfl, g_on HBW.out HB2.out, by show GOwn _ _ _ _ _; rw [HE.out]; exact HOW.out.below HB2.out⟩
        case measure => simp [intOf]; omega
      · have HE := Hid.mk2 (HINK.out rfl)
        clear HINK HOUTK
        have HLT : Hid ((H k).length + 1 ≤ 1000000) := by show _ ≤ _; omega
        go_wp2_with (first
          | (go_at_call 70; refine HC.out.mono ?_; rintro e w2 ⟨rfl, hb2⟩; have HB2 := Hid.mk2 (g_on HBW.out hb2); have HO2 := Hid.mk2 (HOW.out.below hb2); have hbz2 := Nat.le_trans hbz hb2.size; clear hb2)
          | (at_builtin; refine g_one (w0 := w2) okI rfl _ _ _ rfl rfl w1.heap.size _ (H k) HO2.out rfl (k : Int) rfl _ rfl rfl HLT.out hbz2 ?_; intro v7 w7 hO7 hG7; have HO7 := Hid.mk2 hO7; have HG7 := Hid.mk2 hG7; clear hO7 hG7))
        go_roundw
        case rel => exact ⟨k + 1, v7, by omega, by go_num, rfl, HB2.out.trans (HG7.out.below HO2.out hbz2), by show GOwn _ _ _ _ _; rw [HE.out]; exact HO7.out⟩
        case measure => simp [intOf]; omega
    · have hkl2 : ¬ ((k : Int) < (B.length : Int)) := by omega
      have ek : k = B.length := by omega
      subst ek
      clear x0' x1' HIR HIN HOUT HLE
      go_wp2
      go_ret2
      exact ⟨_, rfl, HOW.out.down (Nat.le_trans HB.out.size HB1.out.size), g_on HB.out (g_on HB1.out HBW.out)⟩
end Go.Proofs.Ytpnmokmadbapoaa
