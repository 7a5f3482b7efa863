/-
  TableLast is true: each name's number is what was put last, whatever was moved meanwhile; no conditions.
-/
import Derived.Test.YtcmfgofknjlmgabTlPure
import Derived.ChangeSlices
import Derived.Test.YtcmfgofknjlmgabChecked
namespace Go.Proofs.Ytcmfgofknjlmgab
open Go.ChangeShapes Go.WideShapes Go.ChangeAt Go.RowKit
open Go.ChangeMaps (open_string shut_string)
set_option linter.unusedSimpArgs false
set_option linter.unusedVariables false
set_option maxRecDepth 100000

/-- numbers of sixteen bits lie at the address -/
def UAt (w : World) (ao : Option Addr) (cs : List Nat) : Prop :=
  cs = [] ∨ ∃ b off, ao = some ⟨b, off, none⟩ ∧ b < w.heap.size ∧ ∀ j, j < cs.length → w.cell? ⟨b, off + j, none⟩ = some (.int .u16 (at' cs j : Int))
theorem UAt.below {w w' : World} {ao : Option Addr} {cs : List Nat} (h : UAt w ao cs) (hb : Below w.heap.size w w') : UAt w' ao cs := by
  rcases h with rfl | ⟨b, off, rfl, hlt, hc⟩
  · exact .inl rfl
  · exact .inr ⟨b, off, rfl, Nat.lt_of_lt_of_le hlt hb.size, fun j hj => (bcl hb _ _ hlt).trans (hc j hj)⟩
def InU16 (w : World) (a : Option Addr) (len cap : Nat) (cs : List Nat) : Prop := cs.length = len ∧ len ≤ cap ∧ cap ≤ maxLen ∧ UAt w a cs ∧ ∀ i, at' cs i < 65536
theorem inU16_of {H : Type} {enc : TypeId × Value → H} {W : World} {base : Nat} {sp : Nat → Bool} {bb : Bool} {a : Option Addr} {len cap : Nat} {d : DataW H} {p : List MemPlace} (hsp : ∀ b, sp b = true)
    (hf : DataW.Trod enc Try.prog W base sp bb 53 (.slice a len cap) d p) : ∃ l, InU16 W a len cap l := by
  obtain ⟨fuel, hf⟩ := hf
  rcases open_ints Try.underlying53 Try.underlying55 (by kernel_rfl) hf with ⟨hcs, _⟩ | ⟨x, l, c, zs, hcs, _, hl, hm, hz, _, hcell, hwz⟩
  · simp [Value.cells] at hcs
    obtain ⟨rfl, rfl, rfl⟩ := hcs
    exact ⟨[], rfl, Nat.le_refl _, by simp [maxLen], .inl rfl, fun i => by simp [at']⟩
  · simp [Value.cells] at hcs
    obtain ⟨rfl, rfl, rfl⟩ := hcs
    rw [if_pos (hsp _)] at hz
    have hbd : ∀ z ∈ zs, 0 ≤ z ∧ z < 65536 := fun z hz' => by have := bounds_u16 (hwz z hz'); omega
    have hlen : ((zs.take len).map Int.toNat).length = len := by simp; omega
    have hat : ∀ j, j < len → (at' ((zs.take len).map Int.toNat) j : Int) = zs.getD j 0 := fun j hj => by
      have hj' : j < zs.length := by omega
      have h1 : at' ((zs.take len).map Int.toNat) j = (zs[j]).toNat := by
        unfold at'
        rw [List.getD_eq_getElem?_getD, List.getElem?_map, List.getElem?_take_of_lt hj, List.getElem?_eq_getElem hj']
        rfl
      have h2 := hbd zs[j] (List.getElem_mem hj')
      rw [h1, List.getD_eq_getElem?_getD, List.getElem?_eq_getElem hj']
      show ((zs[j].toNat : Nat) : Int) = zs[j]
      omega
    refine ⟨(zs.take len).map Int.toNat, hlen, hl, hm, ?_, fun i => ?_⟩
    · by_cases h0 : len = 0
      · subst h0; exact .inl rfl
      · obtain ⟨b, off, spot⟩ := x
        have hspot : spot = none := by simpa [Addr.add] using World.cell?_spot (hcell 0 (by omega))
        subst hspot
        refine .inr ⟨b, off, rfl, World.block_lt_of_cell? W _ (hcell 0 (by omega)), fun j hj => ?_⟩
        have hj' : j < len := by rw [hlen] at hj; exact hj
        have := hcell j (by omega)
        rw [addr_add] at this
        rw [this, hat j hj']
    · unfold at'
      rw [List.getD_eq_getElem?_getD]
      cases e : ((zs.take len).map Int.toNat)[i]? with
      | none => show (0 : Nat) < 65536; omega
      | some v =>
        have hm2 := List.mem_of_getElem? e
        obtain ⟨z, hz1, rfl⟩ := List.mem_map.1 hm2
        have := hbd z (List.mem_of_mem_take hz1)
        show z.toNat < 65536
        omega
theorem laidOut_all : laidOutB Try.prog = true := by kernel_rfl
theorem TBx.apart {w : World} {base p : Nat} {T : List NU} {C : Nat} (h : TBx w base p T C) : T.Pairwise (fun p q => p.1 ≠ q.1) := by
  obtain ⟨m, F, hm, h1⟩ := h
  exact h1.apart
theorem many_c (c : Nat) (hc : c < 65536) (W : World) :
    Calls Try.prog 19 #[.int .i64 ((c : Int) / 4)] W fun e w' => e = .returned (.agg #[.int .i64 (manyN (c / 4)).tenant, .string (manyN (c / 4)).key]) ∧ Below W.heap.size W w' := by
  have := many_any (c / 4) (by omega) W
  rwa [show (((c / 4 : Nat)) : Int) = (c : Int) / 4 by simp] at this
set_option maxHeartbeats 2000000 in
theorem tableLast_few (w : World) (ao : Option Addr) (cap : Nat) (cs : List Nat) (hU : UAt w ao cs) (hc : ∀ i, at' cs i < 65536) (hl : cs.length ≤ 600) (hcap : cs.length ≤ cap) :
    Calls Try.prog 5 #[.slice ao cs.length cap] w fun e w' => e = .returned (.bool true) ∧ Below w.heap.size w w' := by
  have h600 : decide ((600 : Int) < cs.length) = false := by simp; omega
  have h600n : ¬ 600 < cs.length := by omega
  have HU := Hid.mk2 hU
  have HC := Hid.mk2 hc
  clear hU hc
  go_enter Try.func5, Try.ntmps5
  go_upto_region 6 with (go_at_call 7; refine (alive_any _).mono ?_; rintro e w1 ⟨rfl, hb1⟩; have HB1 := Hid.mk2 hb1; clear hb1)
  have HNW := Hid.mk2 (new_x w1 700)
  go_upto_region 7 with (go_at_call 8; refine HNW.out.mono ?_; rintro e w2 ⟨p, rfl, hT2, hb2⟩; have HT2 := Hid.mk2 hT2; have HB2 := Hid.mk2 hb2; clear hT2 hb2)
  clear h600 h600n HNW
  have HWB : Hid (∀ W, Below w1.heap.size w1 W → Below w.heap.size w W) := fun W hb => HB1.out.trans (hb.mono HB1.out.size)
  go_wp2
  go_loopw [5] (fun s5 wr => ∃ k : Nat, k ≤ cs.length ∧ s5 = .int .i64 k ∧ Hid (TBx wr w1.heap.size p (tt cs k) 700) ∧ Hid (Below w1.heap.size w1 wr)) (fun s5 _ => cs.length - (intOf s5).toNat)
  case atStart => exact ⟨0, Nat.zero_le _, rfl, HT2, HB2⟩
  case round =>
    obtain ⟨k, hk, rfl, HT, HB⟩ := hrel
    by_cases hlt : k < cs.length
    · have hlt2 : (k : Int) < (cs.length : Int) := by omega
      rcases HU.out.below (HWB.out _ HB.out) with h0 | ⟨b, off, rfl, hbb, hcs⟩
      · rw [h0] at hlt; simp at hlt
      have c0 := hcs k hlt
      have hcb := HC.out k
      have HTT : Hid (tt cs (k + 1) = if at' cs k % 4 = 3 then strike (manyN (at' cs k / 4)) (tt cs k) else (manyN (at' cs k / 4), (k : Int)) :: strike (manyN (at' cs k / 4)) (tt cs k)) := rfl
      obtain ⟨c, hce⟩ : ∃ c, c = at' cs k := ⟨_, rfl⟩
      rw [← hce] at c0 hcb HTT
      have HMN := Hid.mk2 (fun W => many_c c hcb W)
      have HOK := Hid.mk2 (many_ok (c / 4))
      obtain ⟨Y, hY⟩ : ∃ Y, Y = manyN (c / 4) := ⟨_, rfl⟩
      rw [← hY] at HMN HOK HTT
      have HLN : Hid ((tt cs k).length ≤ k) := tt_len cs k
      clear hcs hce hY
      go_upto_region 11 with (go_at_call 19; refine (HMN.out _).mono ?_; rintro e w3 ⟨rfl, hb3⟩; have HB3 := Hid.mk2 hb3; clear hb3)
      obtain ⟨w4, hw4⟩ : ∃ x, x = w3.alloc (Obj.cells #[.int .i64 Y.tenant, .string Y.key] 28) := ⟨_, rfl⟩
      obtain ⟨X, hX⟩ : ∃ x, x = w3.heap.size := ⟨_, rfl⟩
      rw [← hw4, ← hX]
      have a0 : w4.cell? ⟨X, 0, none⟩ = some (.int .i64 Y.tenant) := by rw [hw4, hX]; simp
      have a1 : w4.cell? ⟨X, 1, none⟩ = some (.string Y.key) := by rw [hw4, hX]; simp
      have HB34 : Hid (Below wr.heap.size wr w4) := by rw [hw4]; exact HB3.out.alloc HB3.out.size _
      clear hw4 hX
      have c4 := (bcl HB34.out _ _ hbb).trans c0
      have HT4 := Hid.mk2 (HT.out.below HB34.out)
      have HB4 : Hid (Below w1.heap.size w1 w4) := HB.out.trans (HB34.out.mono HB.out.size)
      have HMV := Hid.mk2 (fun W T (h : TBx W w1.heap.size p T 700) => moved_x W w1.heap.size p T 700 h)
      clear c0
      by_cases hd : c % 4 = 3
      · have g1 : ((c : Int) % 4 == 3) = true := by simp; omega
        rw [if_pos hd] at HTT
        have HDL := Hid.mk2 (del_x w4 w1.heap.size p (tt cs k) 700 HT4.out HB4.out.size (by have := HLN.out; omega) (by omega) Y HOK.out)
        rw [← HTT.out] at HDL
        clear hd
        go_upto_region 15 with (go_at_call 12; refine HDL.out.mono ?_; rintro e w5 ⟨rfl, hT5, hb5⟩; have HT5 := Hid.mk2 hT5; have HB5 : Hid (Below w1.heap.size w1 w5) := HB4.out.trans hb5; clear hT5 hb5)
        go_upto_region 16 with (go_at_call 15; refine (HMV.out _ _ HT5.out).mono ?_; rintro e w6 ⟨m, hm4, rfl, hwq⟩; obtain rfl := hwq.symm)
        have gm1 : decide ((m : Int) < 0) = false := by simp
        have gm2 : decide ((4 : Int) < (m : Int)) = false := by simp; omega
        have gm3 : ¬ 4 < m := by omega
        go_wp2
        go_roundw
        case rel => exact ⟨k + 1, by omega, by go_num, HT5, HB5⟩
        case measure => simp [intOf]; omega
      · have g1 : ((c : Int) % 4 == 3) = false := by simp; omega
        rw [if_neg hd] at HTT
        have HPT := Hid.mk2 (put_x w4 w1.heap.size p (tt cs k) 700 HT4.out HB4.out.size (by have := HLN.out; omega) (by omega) Y HOK.out k)
        rw [← HTT.out] at HPT
        clear hd
        go_upto_region 15 with (go_at_call 9; refine HPT.out.mono ?_; rintro e w5 ⟨rfl, hT5, hb5⟩; have HT5 := Hid.mk2 hT5; have HB5 : Hid (Below w1.heap.size w1 w5) := HB4.out.trans hb5; clear hT5 hb5)
        go_upto_region 16 with (go_at_call 15; refine (HMV.out _ _ HT5.out).mono ?_; rintro e w6 ⟨m, hm4, rfl, hwq⟩; obtain rfl := hwq.symm)
        have gm1 : decide ((m : Int) < 0) = false := by simp
        have gm2 : decide ((4 : Int) < (m : Int)) = false := by simp; omega
        have gm3 : ¬ 4 < m := by omega
        go_wp2
        go_roundw
        case rel => exact ⟨k + 1, by omega, by go_num, HT5, HB5⟩
        case measure => simp [intOf]; omega
    · have hlt2 : decide ((k : Int) < (cs.length : Int)) = false := by simp; omega
      obtain rfl : k = cs.length := by omega
      obtain ⟨w6, hw6⟩ : ∃ x, x = wr := ⟨_, rfl⟩
      rw [← hw6] at HT HB ⊢
      have HAP := Hid.mk2 HT.out.apart
      have HCZ := Hid.mk2 (cntL_zero HC.out cs.length)
      have HCA := Hid.mk2 (cntL_all HC.out cs.length)
      have HLL : Hid ((tt cs cs.length).length ≤ 600) := Nat.le_trans (tt_len cs _) hl
      have HLK := Hid.mk2 (fun i last (h : IsLast cs cs.length i last) => lk_last HC.out h HAP.out)
      have HST := Hid.mk2 (fun i last (hi : i < cs.length) (h : IsLast cs cs.length i last) => cntL_step HC.out hi h HAP.out)
      obtain ⟨T, hTe⟩ : ∃ T, T = tt cs cs.length := ⟨_, rfl⟩
      rw [← hTe] at HT HCZ HCA HLL HLK HST
      have HCM : Hid (∀ i, cntL T i ≤ 600) := fun i => Nat.le_trans (List.countP_le_length) HLL.out
      clear hw6 hlt2 hlt HAP hTe HT2 HB2
      go_wp2
      go_loopw [10, 11] (fun s10 s11 wq => ∃ i : Nat, i ≤ cs.length ∧ s10 = .int .i64 (cntL T i : Nat) ∧ s11 = .int .i64 i ∧ Hid (TBx wq w1.heap.size p T 700) ∧ Hid (Below w1.heap.size w1 wq)) (fun _ s11 _ => cs.length - (intOf s11).toNat)
      case atStart => exact ⟨0, Nat.zero_le _, by rw [HCZ.out]; rfl, rfl, HT, HB⟩
      case round =>
        obtain ⟨i, hi, rfl, rfl, HTi, HBi⟩ := hrel
        obtain ⟨w7, hw7⟩ : ∃ x, x = wr := ⟨_, rfl⟩
        rw [← hw7] at HTi HBi ⊢
        clear hw7
        have hci := HCM.out i
        by_cases hil : i < cs.length
        · have hil2 : (i : Int) < (cs.length : Int) := by omega
          rcases HU.out.below (HWB.out _ HBi.out) with h0 | ⟨b, off, rfl, hbb, hcs⟩
          · rw [h0] at hil; simp at hil
          have c0 := hcs i hil
          have hcb := HC.out i
          have HCS := Hid.mk2 hcs
          obtain ⟨c, hce⟩ : ∃ c, c = at' cs i := ⟨_, rfl⟩
          rw [← hce] at c0 hcb
          have HCE := Hid.mk2 hce
          clear hcs hce
          obtain ⟨N, hN⟩ : ∃ N, N = cntL T i := ⟨_, rfl⟩
          rw [← hN] at hci ⊢
          have HN := Hid.mk2 hN
          clear hN
          go_wp2
          go_loopw [12, 13] (fun s12 s13 wz => ∃ last k n : Nat, i + 1 ≤ k ∧ k ≤ cs.length ∧ s12 = .int .i64 last ∧ s13 = .int .i64 k ∧ last ≤ 600 ∧ wz = w7.drewN n ∧ Hid (IsLast cs k i last)) (fun _ s13 _ => cs.length - (intOf s13).toNat)
          case atStart => exact ⟨i, i + 1, 0, Nat.le_refl _, by omega, rfl, by first | rfl | go_num, by omega, rfl, ⟨Nat.le_refl _, by omega, rfl, fun m h1 h2 => by omega⟩⟩
          case round =>
            obtain ⟨last, k, n, hk1, hk2, rfl, rfl, hl6, rfl, HIL⟩ := hrel
            by_cases hkl : k < cs.length
            · have hkl2 : (k : Int) < (cs.length : Int) := by omega
              have ck := HCS.out k hkl
              obtain ⟨d, hd⟩ : ∃ d, d = at' cs k := ⟨_, rfl⟩
              have hdb := HC.out k
              rw [← hd] at ck hdb
              have HD := Hid.mk2 hd
              clear hd
              by_cases hq : d / 4 = c / 4
              · have g1 : ((d : Int) / 4 == (c : Int) / 4) = true := by simp; omega
                have HQ := Hid.mk2 hq
                clear hq
                go_wp2
                go_quiet (fail)
                go_wp2
                go_roundw
                case rel =>
                  refine ⟨k, k + 1, _, by omega, by omega, rfl, by go_num, by omega, rfl, ?_⟩
                  refine ⟨by omega, by omega, ?_, fun m h1 h2 => by omega⟩
                  rw [← HD.out, ← HCE.out]; exact HQ.out
                case measure => simp [intOf]; omega
              · have g1 : ((d : Int) / 4 == (c : Int) / 4) = false := by simp; omega
                have HQ := Hid.mk2 hq
                clear hq
                go_wp2
                go_quiet (fail)
                go_wp2
                go_roundw
                case rel =>
                  refine ⟨last, k + 1, _, by omega, by omega, rfl, by go_num, by omega, rfl, ?_⟩
                  obtain ⟨i1, i2, i3, i4⟩ := HIL.out
                  refine ⟨i1, by omega, i3, fun m h1 h2 => ?_⟩
                  by_cases e : m = k
                  · subst e; rw [← HD.out, ← HCE.out]; exact HQ.out
                  · exact i4 m h1 (by omega)
                case measure => simp [intOf]; omega
            · have hkl2 : decide ((k : Int) < (cs.length : Int)) = false := by simp; omega
              obtain rfl : k = cs.length := by omega
              have HLK2 := Hid.mk2 (HLK.out i last HIL.out)
              have HST2 := Hid.mk2 (HST.out i last hil HIL.out)
              obtain ⟨i1, i2, i3, i4⟩ := HIL.out
              have cl := HCS.out last i2
              have hlc : (last : Int) < (cs.length : Int) := by omega
              obtain ⟨d, hd⟩ : ∃ d, d = at' cs last := ⟨_, rfl⟩
              have HDD := Hid.mk2 hd
              rw [← hd] at cl HLK2 HST2
              rw [← HCE.out] at HLK2
              rw [← HN.out] at HST2
              have HMN := Hid.mk2 (fun W => many_c c hcb W)
              have HOK := Hid.mk2 (many_ok (c / 4))
              have HGT := Hid.mk2 (fun W (h : TBx W w1.heap.size p T 700) hB => get_x W w1.heap.size p T 700 h hB (by have := HLL.out; omega) (by omega) (manyN (c / 4)) HOK.out)
              have HMV := Hid.mk2 (fun W (h : TBx W w1.heap.size p T 700) => moved_x W w1.heap.size p T 700 h)
              obtain ⟨Y, hY⟩ : ∃ Y, Y = manyN (c / 4) := ⟨_, rfl⟩
              rw [← hY] at HMN HGT HLK2
              have HTd : Hid (TBx (w7.drewN n) w1.heap.size p T 700) := HTi.out.below (below_drewR (Below.refl _ _) n)
              have HBd : Hid (Below w1.heap.size w1 (w7.drewN n)) := below_drewR HBi.out n
              have hbd : b < (w7.drewN n).heap.size := hbb
              obtain ⟨w8, hw8⟩ : ∃ x, x = w7.drewN n := ⟨_, rfl⟩
              have cd0 : w8.cell? ⟨b, off + i, none⟩ = some (.int .u16 (c : Int)) := by rw [hw8]; exact c0
              have cdl : w8.cell? ⟨b, off + last, none⟩ = some (.int .u16 (d : Int)) := by rw [hw8]; exact cl
              rw [← hw8] at HTd HBd hbd ⊢
              clear hw8 hY hd HIL i4 c0 cl hkl hkl2 HLK HST HCS HOK
              by_cases hd3 : d % 4 = 3
              · have g1 : ((d : Int) % 4 != 3) = false := by simp; omega
                rw [if_pos hd3] at HLK2
                rw [if_neg (fun h => h.1 hd3)] at HST2
                rw [HLK2.out] at HGT
                clear hd3
                go_upto_region 29 with (first
                  | (go_at_call 19; refine (HMN.out _).mono ?_; rintro e w9 ⟨rfl, hb9⟩; have HT9 := Hid.mk2 (HTd.out.below hb9); have HB9 : Hid (Below w1.heap.size w1 w9) := HBd.out.trans (hb9.mono HBd.out.size); have ce0 := (bcl hb9 _ _ hbd).trans cd0; have cel := (bcl hb9 _ _ hbd).trans cdl; have hbe : b < w9.heap.size := Nat.lt_of_lt_of_le hbd hb9.size; clear hb9)
                  | (go_at_call 13; refine (HGT.out _ HT9.out HB9.out.size).mono ?_; rintro e w10 ⟨rfl, hT10, hb10⟩; have HT10 := Hid.mk2 hT10; have HB10 : Hid (Below w1.heap.size w1 w10) := HB9.out.trans hb10; clear hT10 hb10))
                have cfl : w10.cell? ⟨b, off + last, none⟩ = some (.int .u16 (d : Int)) := by
                  rcases HU.out.below (HWB.out _ HB10.out) with h0 | ⟨b', off', e', hbb', hcs'⟩
                  · rw [h0] at i2; simp at i2
                  · cases e'
                    rw [HDD.out]
                    exact hcs' last i2
                go_upto_region 30 with (go_at_call 15; refine (HMV.out _ HT10.out).mono ?_; rintro e w11 ⟨m, hm4, rfl, hwq⟩; obtain rfl := hwq.symm)
                have gm2 : decide ((4 : Int) < (m : Int)) = false := by simp; omega
                have gm3 : ¬ 4 < m := by omega
                go_wp2
                go_roundw
                case rel => exact ⟨i + 1, by omega, by rw [HST2.out]; rfl, by go_num, HT10, HB10⟩
                case measure => simp [intOf]; omega
              · have g1 : ((d : Int) % 4 != 3) = true := by simp; omega
                rw [if_neg hd3] at HLK2
                rw [HLK2.out] at HGT
                by_cases hli : last = i
                · have g2 : ((last : Int) == (i : Int)) = true := by simp [hli]
                  rw [if_pos ⟨hd3, hli⟩] at HST2
                  clear hd3 hli
                  go_upto_region 29 with (first
                    | (go_at_call 19; refine (HMN.out _).mono ?_; rintro e w9 ⟨rfl, hb9⟩; have HT9 := Hid.mk2 (HTd.out.below hb9); have HB9 : Hid (Below w1.heap.size w1 w9) := HBd.out.trans (hb9.mono HBd.out.size); have ce0 := (bcl hb9 _ _ hbd).trans cd0; have cel := (bcl hb9 _ _ hbd).trans cdl; have hbe : b < w9.heap.size := Nat.lt_of_lt_of_le hbd hb9.size; clear hb9)
                    | (go_at_call 13; refine (HGT.out _ HT9.out HB9.out.size).mono ?_; rintro e w10 ⟨rfl, hT10, hb10⟩; have HT10 := Hid.mk2 hT10; have HB10 : Hid (Below w1.heap.size w1 w10) := HB9.out.trans hb10; clear hT10 hb10))
                  have cfl : w10.cell? ⟨b, off + last, none⟩ = some (.int .u16 (d : Int)) := by
                    rcases HU.out.below (HWB.out _ HB10.out) with h0 | ⟨b', off', e', hbb', hcs'⟩
                    · rw [h0] at i2; simp at i2
                    · cases e'
                      rw [HDD.out]
                      exact hcs' last i2
                  go_upto_region 30 with (go_at_call 15; refine (HMV.out _ HT10.out).mono ?_; rintro e w11 ⟨m, hm4, rfl, hwq⟩; obtain rfl := hwq.symm)
                  have gm2 : decide ((4 : Int) < (m : Int)) = false := by simp; omega
                  have gm3 : ¬ 4 < m := by omega
                  go_wp2
                  go_roundw
                  case rel => exact ⟨i + 1, by omega, by rw [HST2.out]; go_num, by go_num, HT10, HB10⟩
                  case measure => simp [intOf]; omega
                · have g2 : ((last : Int) == (i : Int)) = false := by simp; omega
                  rw [if_neg (fun h => hli h.2)] at HST2
                  clear hd3 hli
                  go_upto_region 29 with (first
                    | (go_at_call 19; refine (HMN.out _).mono ?_; rintro e w9 ⟨rfl, hb9⟩; have HT9 := Hid.mk2 (HTd.out.below hb9); have HB9 : Hid (Below w1.heap.size w1 w9) := HBd.out.trans (hb9.mono HBd.out.size); have ce0 := (bcl hb9 _ _ hbd).trans cd0; have cel := (bcl hb9 _ _ hbd).trans cdl; have hbe : b < w9.heap.size := Nat.lt_of_lt_of_le hbd hb9.size; clear hb9)
                    | (go_at_call 13; refine (HGT.out _ HT9.out HB9.out.size).mono ?_; rintro e w10 ⟨rfl, hT10, hb10⟩; have HT10 := Hid.mk2 hT10; have HB10 : Hid (Below w1.heap.size w1 w10) := HB9.out.trans hb10; clear hT10 hb10))
                  have cfl : w10.cell? ⟨b, off + last, none⟩ = some (.int .u16 (d : Int)) := by
                    rcases HU.out.below (HWB.out _ HB10.out) with h0 | ⟨b', off', e', hbb', hcs'⟩
                    · rw [h0] at i2; simp at i2
                    · cases e'
                      rw [HDD.out]
                      exact hcs' last i2
                  go_upto_region 30 with (go_at_call 15; refine (HMV.out _ HT10.out).mono ?_; rintro e w11 ⟨m, hm4, rfl, hwq⟩; obtain rfl := hwq.symm)
                  have gm2 : decide ((4 : Int) < (m : Int)) = false := by simp; omega
                  have gm3 : ¬ 4 < m := by omega
                  go_wp2
                  go_roundw
                  case rel => exact ⟨i + 1, by omega, by rw [HST2.out]; rfl, by go_num, HT10, HB10⟩
                  case measure => simp [intOf]; omega
        · have hil2 : decide ((i : Int) < (cs.length : Int)) = false := by simp; omega
          obtain rfl : i = cs.length := by omega
          rw [HCA.out]
          have HLX := Hid.mk2 (len_x w7 w1.heap.size p T 700 HTi.out)
          go_wp2_with (go_at_call 14; refine HLX.out.mono ?_; rintro e w9 ⟨rfl, hwq⟩; obtain rfl := hwq.symm)
          go_ret
          exact ⟨rfl, HWB.out _ HBi.out⟩
theorem tableLast_walk (w : World) (ao : Option Addr) (len cap : Nat) (cs : List Nat) (h : InU16 w ao len cap cs) :
    Calls Try.prog 5 #[.slice ao len cap] w fun e w' => e = .returned (.bool true) ∧ Below w.heap.size w w' := by
  obtain ⟨rfl, hcap, hm, hU, hc⟩ := h
  by_cases hmany : 600 < cs.length
  · have h1 : decide ((600 : Int) < cs.length) = true := by simp; omega
    clear hU
    go_enter Try.func5, Try.ntmps5
    go_wp2_with (go_at_call 7; refine (alive_any _).mono ?_; rintro e w1 ⟨rfl, hb1⟩)
    go_ret
    exact ⟨rfl, hb1⟩
  · exact tableLast_few w ao cap cs hU hc (by omega) hcap

set_option maxRecDepth 100000 in
theorem tableLast_lifted (os : Os) (started : os.Started) (H : Type) (enc : TypeId × Value → H) :
    ReturnsInHanded {} Try.checked os 5 .any (Rows.tableLastSpec.pre6 enc Try.prog Try.f5 Rows.tableLastRow.domain false) (Rows.tableLastSpec.post enc Try.prog Try.f5 false true false false) := by
  refine returnsInHanded_of_change (C := Try.checked) (by kernel_rfl) started (by kernel_rfl) Try.func5
    (ChangeSpec.witness6 (enc := enc) (C := Try.checked) false ⟨#[], #[.slice none 0 0], []⟩ 8 (by kernel_rfl) (by kernel_rfl) (by kernel_rfl) (by kernel_rfl)) ?_
  intro W base args ds gs before hval0 hW hcnd _
  have hval : ∀ (j : Nat) t v, Try.f5.params[j]? = some t → args[j]? = some v → Value.okWide Try.prog W .any base t v := hval0
  have hW' := hW
  obtain ⟨p, q, hA0, hV, rfl, hfz, hnd⟩ := hW
  have hA : DataW.TrodAll enc Try.prog W 0 (fun _ => true) true Try.f5.params.toList args.toList ds p := hA0
  rw [Try.params5] at hA hval
  obtain ⟨v0, vs0, d0, ds0, p0, q0, hargs, rfl, rfl, h0, r0⟩ := trodAll_cons hA
  obtain ⟨rfl, rfl, rfl⟩ := trodAll_nil r0
  obtain rfl : args = #[v0] := by cases args; simp_all
  obtain ⟨rfl, rfl⟩ := trodVars_none hV
  have k0 := h0
  have lt0 : ∀ x ∈ p0, x.block < W.heap.size := by obtain ⟨m, hm⟩ := k0; exact DataW.trod_lt m _ _ _ hm
  obtain ⟨a0, len0, cap0, rfl⟩ := okWide_slice Try.underlying53 (hval 0 53 v0 rfl rfl)
  obtain ⟨l0, w0⟩ := inU16_of (fun _ => rfl) h0
  clear hA0 hval0
  refine (tableLast_walk W a0 len0 cap0 l0 w0).mono fun e W' ⟨he, bel⟩ => ?_
  subst he
  exact ⟨_, rfl, _, _, _, [], _, [], hW', trodAll_mk1 (shut_bool Try.underlying4 _), (trodAll_cons_mk (Below.trod laidOut_all (by kernel_rfl) (of_decide_eq_true (by kernel_rfl)) k0 bel lt0) trodAll_mk0), rfl, bel.frame _, fun h => by cases h⟩

theorem tableLast_proved : Rows.TableLastSaid :=
  OpenClaim.holds_of_wide 5 Try.f5 rfl rfl rfl rfl rfl rfl rfl ⟨rfl, rfl, rfl, rfl, rfl⟩ rfl rfl rfl rfl rfl (by kernel_rfl) Try.func5 (by kernel_rfl)
    (of_decide_eq_true (by kernel_rfl)) (by unfold Func.isWrapper; first | (rw [if_pos (by decide +kernel)]; kernel_rfl) | (rw [if_neg (by decide +kernel)]; exact ⟨rfl, rfl⟩))
    (fun os started H enc _ => tableLast_lifted os started H enc)
#print axioms tableLast_proved
end Go.Proofs.Ytcmfgofknjlmgab
