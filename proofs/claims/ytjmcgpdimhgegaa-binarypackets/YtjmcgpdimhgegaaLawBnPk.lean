/-
  BinaryPackets, its walk.
-/
import Derived.Test.YtjmcgpdimhgegaaBnS
namespace Go.Proofs.Ytjmcgpdimhgegaa
open Go.Proofs.Ytjmcgpdimhgegaa.It
open Go.RowKit
set_option linter.unusedSimpArgs false
set_option linter.unusedVariables false
set_option maxRecDepth 100000

/-- a slice of bytes in memory of a call's own: its cells may be written to -/
structure Pk (B : Nat) (w : World) (ao : Option Addr) (n : Nat) : Prop where
  at_ : 0 < n → ∃ g, ao = some ⟨g, 0, none⟩ ∧ B ≤ g ∧ ∀ j, j < n → w.frozen? ⟨g, j, none⟩ = false ∧ ∃ c, w.cell? ⟨g, j, none⟩ = some (.int .u8 c)
theorem Pk.of {w : World} {B n cap : Nat} {ao : Option Addr} {l : List UInt8} (h : GOwn EY w B (.slice ao n cap) l) : Pk B w ao l.length := by
  refine ⟨fun hn => ?_⟩
  rcases h.parts okY with ⟨_, rfl⟩ | ⟨g, cp, cur, e, hb, hg, hs, h1, h2, hc⟩
  · simp at hn
  · cases e
    refine ⟨g, rfl, hb, fun j hj => ⟨g_frozen hg j, (l[j].toNat : Int), ?_⟩⟩
    have := hc j hj 0 (by decide)
    simpa [EY] using this
theorem Pk.set {w : World} {B n g j : Nat} {ao : Option Addr} (h : Pk B w ao n) (v : Int) : Pk B (w.setCell ⟨g, j, none⟩ (.int .u8 v)) ao n := by
  refine ⟨fun hn => ?_⟩
  obtain ⟨g', e, hb, hc⟩ := h.at_ hn
  refine ⟨g', e, hb, fun i hi => ?_⟩
  obtain ⟨h1, c, h2⟩ := hc i hi
  refine ⟨by rw [World.frozen?_setCell]; exact h1, ?_⟩
  by_cases e2 : (⟨g', i, none⟩ : Addr) = ⟨g, j, none⟩
  · rw [e2] at h2 ⊢
    exact ⟨v, World.cell?_setCell_same _ _ _ h2⟩
  · exact ⟨c, by rw [World.cell?_setCell_other _ _ _ _ (fun e3 => e2 e3.symm)]; exact h2⟩
set_option maxHeartbeats 2000000 in
theorem packets_any (f k : UInt8) (V : World) (ao : Option Addr) (L : List UInt8) (cap : Nat) (hr : GRd EY V ao L cap) (m : Nat) (hm : m = L.length) :
    Calls Try.prog 4 #[.int .u8 (f.toNat : Int), .int .u8 (k.toNat : Int), .slice ao m cap] V fun e V' => e = .returned (.bool true) ∧ Below V.heap.size V V' := by
  by_cases hA : (6000 < L.length ∧ L.length ≤ 16384) ∨ 17000 < L.length
  · have hA2 : (6000 < (m : Int) ∧ (m : Int) ≤ 16384) ∨ 17000 < (m : Int) := by omega
    clear hr hm hA
    rcases hA2 with ⟨h1, h2⟩ | h1
    · go_enter Try.func4, Try.ntmps4
      go_wp2
      go_ret
      exact ⟨rfl, Below.refl _ _⟩
    · have h2 : ¬ (m : Int) ≤ 16384 := by omega
      have h3 : 6000 < (m : Int) := by omega
      go_enter Try.func4, Try.ntmps4
      go_wp2
      go_ret
      exact ⟨rfl, Below.refl _ _⟩
  have hmi : (m : Int) ≤ 20000 := by omega
  have hm17 : ¬ 17000 < (m : Int) := by omega
  have hL : L.length ≤ 20000 := by omega
  have hcase : (6000 < (m : Int) ∧ ¬ (m : Int) ≤ 16384) ∨ ¬ 6000 < (m : Int) := by omega
  have HM := Hid.mk2 hm
  have HR := Hid.mk2 hr
  have HL := Hid.mk2 hL
  have HC := Hid.mk2 hcase
  clear hr hm hA hL hcase
  go_enter Try.func4, Try.ntmps4
  go_upto_region 1 with (fail)
  go_cut [35] from 23 to 34 (fun s35 wx => s35 = .bool false ∧ V = wx)
  case first =>
    rcases HC.out with ⟨c1, c2⟩ | c1
    · go_wp2
      go_meet
      case rel => exact ⟨by first | rfl | simp, rfl⟩
    · go_wp2
      go_meet
      case rel => exact ⟨by first | rfl | simp, rfl⟩
  case rest =>
    rename_i hK
    refine hK _ _ ?_
    clear hK
    obtain ⟨rfl, rfl⟩ := hcut
    obtain ⟨E, hE⟩ : ∃ E, E = pkE L := ⟨_, rfl⟩
    obtain ⟨P, hP⟩ : ∃ P, P = pkL f k L := ⟨_, rfl⟩
    obtain ⟨C, hC⟩ : ∃ C, C = cutQ f L := ⟨_, rfl⟩
    have H1 := Hid.mk2 (fun W o c (h : GRd EY W o L c) => packet_any f k W o L c h m HM.out HL.out)
    have H2 := Hid.mk2 (fun W o c (h : GRd EY W o L c) => rpacket_any f k W o L c h m HM.out HL.out)
    have H3 := Hid.mk2 (fun W o c (h : GRd EY W o L c) => cutc_any f W o L c h m HM.out HL.out)
    have H4 := Hid.mk2 (fun W o c (h : GRd EY W o L c) => rcut_any f W o L c h m HM.out HL.out)
    have HPL : Hid (P.length ≤ 5000) := by
      show _ ≤ _
      rw [hP]
      unfold pkL
      by_cases h : 4096 < L.length
      · rw [if_pos h]; simp
      · rw [if_neg h, pkt_len]; omega
    have HCL : Hid (C.b.length ≤ 5000) := by
      show _ ≤ _
      rw [hC]
      unfold cutQ
      by_cases h : 16384 < L.length
      · rw [if_pos h]; simp
      · rw [if_neg h]; have := cutE_pos f L; omega
    rw [← hE, ← hP] at H1 H2
    rw [← hC] at H3 H4
    clear hE hP hC hm17
    obtain ⟨ck, cb, cn, ce⟩ := C
    go_upto_region 9 with (first
      | (at_builtin; refine g_app okY rfl _ _ _ rfl rfl V.heap.size _ [] (GOwn.nil _ _) rfl ao cap L m HM.out rfl HR.out (by have := HL.out; simp; omega) (Nat.le_refl _) ?_; intro v1 w1 hO1 hG1; have hO1 : GOwn EY w1 V.heap.size v1 L := hO1; obtain ⟨oo, oc, hv1, hrd1⟩ := hO1.rd okY; rw [← HM.out] at hv1; subst hv1; have HO := Hid.mk2 hO1; have HRO := Hid.mk2 hrd1; have HB1 := Hid.mk2 (hG1.below (GOwn.nil (E := EY) _ _) (Nat.le_refl _)); clear hO1 hG1 hrd1)
      | (go_at_call 8; refine (H1.out w1 oo oc HRO.out).mono ?_; rintro e w2 ⟨v2, rfl, ho2, hb2⟩; obtain ⟨a2, c2, hv2, hrd2⟩ := ho2.rd okY; obtain ⟨n2, hn2⟩ : ∃ n2, n2 = P.length := ⟨_, rfl⟩; rw [← hn2] at hv2; subst hv2; have HO2 := Hid.mk2 ho2; have HRD2 := Hid.mk2 hrd2; have HN2 := Hid.mk2 hn2; have HB2 := Hid.mk2 hb2; clear ho2 hb2 hrd2 hn2)
      | (go_at_call 9; refine (H2.out w2 ao cap (HR.out.below (HB1.out.trans (HB2.out.mono HB1.out.size)))).mono ?_; rintro e w3 ⟨v3, rfl, ho3, hb3⟩; obtain ⟨a3, c3, hv3, hrd3⟩ := ho3.rd okY; rw [← HN2.out] at hv3; subst hv3; have HRD3 := Hid.mk2 hrd3; have HB3 := Hid.mk2 (g_on HB2.out hb3); have HB3' := Hid.mk2 hb3; clear ho3 hb3 hrd3)
      | (go_at_call 10; refine (H3.out w3 oo oc (HRO.out.below HB3.out)).mono ?_; rintro e w4 ⟨⟨v4, rfl, ho4⟩, hb4⟩; dsimp only at ho4; obtain ⟨a4, c4, hv4, hrd4⟩ := ho4.rd okY; obtain ⟨n4, hn4⟩ : ∃ n4, n4 = cb.length := ⟨_, rfl⟩; rw [← hn4] at hv4; subst hv4; have HO4 := Hid.mk2 ho4; have HRD4 := Hid.mk2 hrd4; have HN4 := Hid.mk2 hn4; have HB4 := Hid.mk2 (g_on HB3.out hb4); have HB4' := Hid.mk2 (g_on HB3'.out hb4); have HB4'' := Hid.mk2 hb4; clear ho4 hb4 hrd4 hn4)
      | (go_at_call 11; refine (H4.out w4 ao cap (HR.out.below (HB1.out.trans (HB4.out.mono HB1.out.size)))).mono ?_; rintro e w5 ⟨⟨v5, rfl, ho5⟩, hb5⟩; dsimp only at ho5; obtain ⟨a5, c5, hv5, hrd5⟩ := ho5.rd okY; rw [← HN4.out] at hv5; subst hv5; have HRD5 := Hid.mk2 hrd5; have HB5 := Hid.mk2 (g_on HB4.out hb5); have HB5' := Hid.mk2 (g_on HB4'.out hb5); have HB5'' := Hid.mk2 (g_on HB4''.out hb5); have HB5l := Hid.mk2 hb5; clear ho5 hb5 hrd5))
    have k2 := conv_rd (HRD2.out.below HB5'.out)
    have k3 := conv_rd (HRD3.out.below HB5''.out)
    have k4 := conv_rd (HRD4.out.below HB5l.out)
    have k5 := conv_rd HRD5.out
    rw [← HN2.out] at k2 k3
    rw [← HN4.out] at k4 k5
    obtain ⟨SP, hSP⟩ : ∃ SP : ByteArray, SP = ⟨P.toArray⟩ := ⟨_, rfl⟩
    obtain ⟨SC, hSC⟩ : ∃ SC : ByteArray, SC = ⟨cb.toArray⟩ := ⟨_, rfl⟩
    rw [← hSP] at k2 k3
    rw [← hSC] at k4 k5
    have q1 : (SP.toList == SP.toList) = true := by simp
    have q2 : (SC.toList == SC.toList) = true := by simp
    have PK2 := Hid.mk2 ((Pk.of (HO2.out.below HB5'.out)))
    have PK4 := Hid.mk2 ((Pk.of (HO4.out.below HB5l.out)))
    rw [← HN2.out] at PK2
    rw [← HN4.out] at PK4
    have hS1 : Hid (w1.heap.size ≤ w3.heap.size) := HB3.out.size
    have hn2 : (n2 : Int) ≤ 30000 := by have := HN2.out; have := HPL.out; omega
    have hn4 : (n4 : Int) ≤ 30000 := by have := HN4.out; have := HCL.out; omega
    clear hSP hSC
    go_wp2
    clear k2 k3 k4 k5 q1 q2
    go_loopw [21] (fun s21 wr => ∃ j : Nat, s21 = .int .i64 (j : Int) ∧ j ≤ n4 ∧ Below w1.heap.size w1 wr ∧ Pk w3.heap.size wr a4 n4 ∧ Pk w1.heap.size wr a2 n2) (fun s21 _ => n4 - (intOf s21).toNat)
    case atStart => exact ⟨0, by first | rfl | simp, Nat.zero_le _, HB5.out, PK4.out, PK2.out⟩
    case round =>
      obtain ⟨j, rfl, hj, hb, hp4, hp2⟩ := hrel
      by_cases hj2 : j < n4
      · obtain ⟨g, e4, hg, hcells⟩ := hp4.at_ (by omega)
        obtain ⟨hf, cc, hcc⟩ := hcells j hj2
        subst e4
        have hji : (j : Int) < (n4 : Int) := by omega
        have HB := Hid.mk2 hb
        have HP4 := Hid.mk2 hp4
        have HP2 := Hid.mk2 hp2
        have HG := Hid.mk2 hg
        clear hb hp4 hp2 hcells hg
        go_wp2
        exact ⟨⟨j + 1, by first | rfl | go_num, by omega, HB.out.setCell (Nat.le_trans hS1.out HG.out) _, HP4.out.set _, HP2.out.set _⟩, by simp [intOf]; omega⟩
      · have hji : ¬ (j : Int) < (n4 : Int) := by omega
        have HB := Hid.mk2 hb
        have HP2 := Hid.mk2 hp2
        clear hb hp4 hp2
        go_wp2
        go_loopw [22] (fun s22 wr => ∃ j : Nat, s22 = .int .i64 (j : Int) ∧ j ≤ n2 ∧ Below w1.heap.size w1 wr ∧ Pk w1.heap.size wr a2 n2) (fun s22 _ => n2 - (intOf s22).toNat)
        case atStart => exact ⟨0, by first | rfl | simp, Nat.zero_le _, HB.out, HP2.out⟩
        case round =>
          obtain ⟨j2, rfl, hj2, hb, hp2⟩ := hrel
          by_cases hj3 : j2 < n2
          · obtain ⟨g, e2, hg, hcells⟩ := hp2.at_ (by omega)
            obtain ⟨hf, cc, hcc⟩ := hcells j2 hj3
            subst e2
            have hji2 : (j2 : Int) < (n2 : Int) := by omega
            have HBb := Hid.mk2 hb
            have HPP := Hid.mk2 hp2
            have HG := Hid.mk2 hg
            clear hb hp2 hcells hg
            go_wp2
            exact ⟨⟨j2 + 1, by first | rfl | go_num, by omega, HBb.out.setCell HG.out _, HPP.out.set _⟩, by simp [intOf]; omega⟩
          · have hji2 : ¬ (j2 : Int) < (n2 : Int) := by omega
            have HBb := Hid.mk2 hb
            clear hb hp2
            have k6 := conv_rd (HRO.out.below HBb.out)
            have k7 := conv_rd (HR.out.below (HB1.out.trans (HBb.out.mono HB1.out.size)))
            rw [← HM.out] at k6 k7
            obtain ⟨SL, hSL⟩ : ∃ SL : ByteArray, SL = ⟨L.toArray⟩ := ⟨_, rfl⟩
            rw [← hSL] at k6 k7
            have q3 : (SL.toList == SL.toList) = true := by simp
            clear hSL
            go_wp2
            go_ret
            exact ⟨by first | rfl | simp, HB1.out.trans (HBb.out.mono HB1.out.size)⟩
end Go.Proofs.Ytjmcgpdimhgegaa
