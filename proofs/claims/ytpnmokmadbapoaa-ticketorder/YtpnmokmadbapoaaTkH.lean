/-
  Package ticket: contract of leastAt.
-/
import Derived.Test.YtpnmokmadbapoaaTkG
namespace Go.Proofs.Ytpnmokmadbapoaa
open Go.RowKit
set_option linter.unusedSimpArgs false
set_option linter.unusedVariables false
set_option maxRecDepth 100000


set_option maxHeartbeats 2000000 in
theorem leastAt_any (B : List Bx) (ao : Option Addr) (cap m : Nat) (hm : m = B.length) (hn1 : B.length ≤ 4) (next : Int) (P : Nat → Nat) (hP : ∀ i (hi : i < B.length), P i ≤ B[i].l.length) (w : World) (h : Qr w ao B cap) :
    Calls Try.prog 94 #[.agg #[.int .i64 next, .slice ao m cap], .agg #[.int .i64 (P 0), .int .i64 (P 1), .int .i64 (P 2), .int .i64 (P 3)]] w fun e w' => ∃ r : Int, e = .returned (.int .i64 r) ∧ Least (dat B) P B.length r ∧ Below w.heap.size w w' := by
  subst hm
  have hlen := h.row.len
  obtain ⟨W, hW⟩ : ∃ W, W = (w.alloc (.cells #[.int .i64 next, .slice ao B.length cap] 62)).alloc (.cells #[.int .i64 (P 0), .int .i64 (P 1), .int .i64 (P 2), .int .i64 (P 3)] 132) := ⟨_, rfl⟩
  have HB : Hid (Below w.heap.size w W) := by rw [hW]; exact g_on (g_alloc _ _) (g_alloc _ _)
  have HX : Hid (GBx W w.heap.size [.int .i64 next, .slice ao B.length cap]) := by rw [hW]; exact (GBx.made w [.int .i64 next, .slice ao B.length cap] _).alloc _
  have HY : Hid (GBx W (w.heap.size + 1) (plc P)) := by
    rw [hW]
    have := GBx.made (w.alloc (.cells #[.int .i64 next, .slice ao B.length cap] 62)) (plc P) 132
    rw [show (w.alloc (.cells #[.int .i64 next, .slice ao B.length cap] 62)).heap.size = w.heap.size + 1 by simp] at this
    exact this
  have HR := Hid.mk2 (h.below HB.out)
  have HP := Hid.mk2 hP
  clear h hP
  have x1 := HX.out.c 1 (by simp)
  have HPL := Hid.mk2 (plc_at HY.out)
  simp only [List.getElem_cons_zero, List.getElem_cons_succ] at x1
  have hlt := HX.out.lt
  have hlt1 := HY.out.lt
  clear HX HY
  go_enter Try.func94, Try.ntmps94
  go_upto_region 1 with (fail)
  rw [← hW]
  clear hW
  go_wp2
  go_loopw [5, 6, 10] (fun a _ i wr => ∃ (k n : Nat) (r : Int), k ≤ B.length ∧ i = .int .i64 k ∧ a = .int .i64 r ∧ wr = W.drewN n ∧ Hid (Least (dat B) P k r)) (fun _ _ i _ => B.length - (intOf i).toNat)
  case atStart => exact ⟨0, 0, -1, Nat.zero_le _, rfl, rfl, rfl, .inl ⟨rfl, fun i hi => absurd hi (by omega)⟩⟩
  case round =>
    obtain ⟨k, n, r, hkn, rfl, rfl, rfl, HL⟩ := hrel
    by_cases hkl : k < B.length
    · have hkl2 : (k : Int) < (B.length : Int) := by omega
      have hk4 : (k : Int) < 4 := by omega
      have hne : B ≠ [] := by intro e; rw [e] at hkl; simp at hkl
      have hp := HPL.out k (by omega)
      have HPK := Hid.mk2 (HP.out k hkl)
      have HNIL := Hid.mk2 (@lft_dat_nil B P k hkl)
      have HCON := Hid.mk2 (@lft_dat_cons B P k hkl)
      have HBOX := Hid.mk2 (HR.out.box B[k] (List.getElem_mem hkl))
      obtain ⟨b, off, rfl, hbl, hcs⟩ := HR.out.row.bx hne
      have rb := hcs k hkl
      have hlk := HBOX.out.len
      obtain ⟨bx, hbx⟩ : ∃ bx, bx = B[k] := ⟨_, rfl⟩
      rw [← hbx] at rb hlk HPK HNIL HBOX
      have HCON2 : Hid (∀ h : P k < bx.l.length, ∃ l', lft (dat B) P k = bx.l[P k].t :: l') := by intro h; subst hbx; exact ⟨_, HCON.out h⟩
      clear HCON hbx
      have hpk := HPK.out
      by_cases ha : P k = bx.l.length
      · have HL2 := Hid.mk2 (HL.out.skip (HNIL.out (by omega)))
        rw [ha] at hp
        clear HL HCON2 HNIL hcs hne
        go_wp2
        go_quiet (fail)
        go_wp2
        go_roundw
        case rel => exact ⟨k + 1, _, r, by omega, by go_num, rfl, by first | rfl | exact World.drewN_drewN _ _ _, HL2⟩
        case measure => simp [intOf]; omega
      · have ha2 : ((P k : Int) == (bx.l.length : Int)) = false := by rw [beq_eq_false_iff_ne]; omega
        have hlt2 : P k < bx.l.length := by omega
        have hlt3 : (P k : Int) < (bx.l.length : Int) := by omega
        obtain ⟨lk, HCK⟩ : ∃ l', Hid (lft (dat B) P k = bx.l[P k].t :: l') := HCON2.out hlt2
        have hneb : bx.l ≠ [] := by intro e; rw [e] at hlt2; simp at hlt2
        rcases HL.out with ⟨rfl, hall⟩ | ⟨s, t1, l1, rfl, hs, e1, hleast⟩
        · have HL2 := Hid.mk2 (Least.first hall HCK.out)
          clear HL HCON2 HNIL hcs hne hall HCK HBOX
          go_wp2
          go_quiet (fail)
          go_wp2
          go_quiet (fail)
          go_wp2
          go_roundw
          case rel => exact ⟨k + 1, _, k, by omega, by go_num, rfl, by first | rfl | exact World.drewN_drewN _ _ _ | simp [World.drewN_drewN], HL2⟩
          case measure => simp [intOf]; omega
        · have hsB : s < B.length := by omega
          have hps := HPL.out s (by omega)
          have rs := hcs s hsB
          have hs4 : (s : Int) < 4 := by omega
          have hsB2 : (s : Int) < (B.length : Int) := by omega
          have hs0 : ¬ ((s : Int) < 0) := by omega
          have hPs : P s < B[s].l.length := by
            by_cases g : P s < B[s].l.length
            · exact g
            · rw [lft_dat_nil hsB (by omega)] at e1; cases e1
          have HBS := Hid.mk2 (HR.out.box B[s] (List.getElem_mem hsB))
          have HT1 : Hid (t1 = B[s].l[P s].t) := by
            have g := lft_dat_cons hsB hPs
            rw [e1] at g
            exact (List.cons.inj g).1
          have hls := HBS.out.len
          obtain ⟨bs, hbs⟩ : ∃ bs, bs = B[s] := ⟨_, rfl⟩
          rw [← hbs] at rs HBS hls hPs
          have HT2 : Hid (∀ h : P s < bs.l.length, t1 = bs.l[P s].t) := by intro h; subst hbs; exact HT1.out
          have ht1 := HT2.out hPs
          clear HT1 HT2 hbs
          obtain ⟨bl, bao, bcap⟩ := bx
          obtain ⟨sl, sao, scap⟩ := bs
          have hPs4 : P s < sl.length := hPs
          have hlt4 : P k < bl.length := hlt2
          have hlt3' : (P k : Int) < (bl.length : Int) := hlt3
          have ha2' : ((P k : Int) == (bl.length : Int)) = false := ha2
          have hls' : sl.length ≤ 9223372036854775807 := hls
          have hlk' : bl.length ≤ 9223372036854775807 := hlk
          have ht2 : t1 = sl[P s].t := ht1
          have HCK2 : Hid (lft (dat B) P k = bl[P k].t :: lk) := HCK
          have hnes : sl ≠ [] := by intro e; rw [e] at hPs4; simp at hPs4
          have hneb' : bl ≠ [] := hneb
          have hPs3 : (P s : Int) < (sl.length : Int) := by omega
          have HBO2 : Hid (GRd ET W bao bl bcap) := HBOX
          have HBS2 : Hid (GRd ET W sao sl scap) := HBS
          have rb' := rb
          have rs' := rs
          dsimp only at rb' rs'
          clear rb rs hlk hls hlt3 ha2 hneb
          obtain ⟨b1, off1, rfl, hbl1, hc1⟩ := HBO2.out.tks hneb'
          have rn := (hc1 (P k) hlt4).1
          obtain ⟨b2, off2, rfl, hbl2, hc2⟩ := HBS2.out.tks hnes
          have rm := (hc2 (P s) hPs4).1
          rw [← ht2] at rm
          have HST := Hid.mk2 (Least.stay hs e1 hleast HCK2.out)
          have HLE := Hid.mk2 (Least.less hleast HCK2.out)
          obtain ⟨x, hx⟩ : ∃ x, x = bl[P k].t.num := ⟨_, rfl⟩
          obtain ⟨y, hy⟩ : ∃ y, y = t1.num := ⟨_, rfl⟩
          rw [← hx] at rn HST HLE
          rw [← hy] at rm HST HLE
          clear HL HCON2 HNIL hcs hne HCK HCK2 HBOX HBS HBO2 HBS2 hc1 hc2 e1 hleast ht1 ht2 hx hy hnes hneb' hPs HPK ha hlt2 hpk
          obtain ⟨pk, hpk2⟩ : ∃ pk, pk = P k := ⟨_, rfl⟩
          obtain ⟨ps, hps2⟩ : ∃ ps, ps = P s := ⟨_, rfl⟩
          rw [← hpk2] at hp ha2' hlt4 hlt3' rn
          rw [← hps2] at hps hPs4 hPs3 rm
          by_cases hxy : x < y
          · have HL2 := Hid.mk2 (HLE.out hxy)
            clear HST HLE hpk2 hps2
            go_wp2
            go_quiet (fail)
            go_wp2
            go_quiet (fail)
            go_wp2
            go_roundw
            case rel => exact ⟨k + 1, _, k, by omega, by go_num, rfl, by first | rfl | exact World.drewN_drewN _ _ _ | simp [World.drewN_drewN], HL2⟩
            case measure => simp [intOf]; omega
          · have HL2 := Hid.mk2 (HST.out hxy)
            clear HST HLE hpk2 hps2
            go_wp2
            go_quiet (fail)
            go_wp2
            go_quiet (fail)
            go_wp2
            go_roundw
            case rel => exact ⟨k + 1, _, s, by omega, by go_num, rfl, by first | rfl | exact World.drewN_drewN _ _ _ | simp [World.drewN_drewN], HL2⟩
            case measure => simp [intOf]; omega
    · have hkl2 : ¬ ((k : Int) < (B.length : Int)) := by omega
      have ek : k = B.length := by omega
      subst ek
      go_wp2
      go_ret
      exact ⟨r, rfl, HL.out, g_quiet_on _ HB.out⟩
end Go.Proofs.Ytpnmokmadbapoaa
