/-
  The document's lines (cloakroomref14): contract of line: a command that may be, as bytes.
-/
import Derived.Test.YtldnkminhppngaaDoorTxG
import Derived.Deep.CutBlock
namespace Go.Proofs.YtldnkminhppngaaDoor
open Go.Proofs.YtldnkminhppngaaDoor.It
open Go.RowKit
set_option linter.unusedSimpArgs false
set_option linter.unusedVariables false
set_option maxRecDepth 100000

/-- a command's line and value -/
def Cm.wrL (c : Cm) : List UInt8 := joinW c.words ++ [13, 10] ++ (if hasVal c.kind = true then bl c.value ++ [13, 10] else [])
theorem rtext_d (n : Nat) (h : n < 18446744073709551616) (w : World) :
    Calls Tryd.prog 30 #[.int .u64 n] w fun e w' => e = .returned (.string (dec (n : Int))) ∧ w' = w := rtext_b n h w
theorem flat_snoc (l : List ByteArray) (k : Nat) (hk : k < l.length) : ((l.take (k + 1)).flatMap fun x => 32 :: bl x) = ((l.take k).flatMap fun x => 32 :: bl x) ++ (32 :: bl l[k]) := by
  rw [List.take_succ_eq_append_getElem hk, List.flatMap_append]
  simp

def A1 (ki : Nat) (F G U Y Z value : ByteArray) : List UInt8 := if 2 ≤ ki ∧ ki ≤ 5 then 32 :: (bl F ++ 32 :: bl G) else []
def A2 (ki : Nat) (F G U Y Z value : ByteArray) : List UInt8 := if (2 ≤ ki ∧ ki ≤ 5) ∨ ki = 8 then 32 :: bl Z else []
def A3 (ki : Nat) (F G U Y Z value : ByteArray) : List UInt8 := if ki = 5 then 32 :: bl U else []
def A4 (ki : Nat) (F G U Y Z value : ByteArray) : List UInt8 := if ki = 6 ∨ ki = 7 then 32 :: bl Y else []
def A5 (ki : Nat) (F G U Y Z value : ByteArray) : List UInt8 := if ki = 9 then 32 :: bl G else []
def A7 (ki : Nat) (F G U Y Z value : ByteArray) : List UInt8 := if (2 ≤ ki ∧ ki ≤ 5) ∨ ki = 8 then bl value ++ [13, 10] else []

set_option maxHeartbeats 2000000 in
theorem rline_any (c : Cm) (ko : Option Addr) (kc : Nat) (w : World) (h : GRd ES w ko c.keys kc) (hl : c.keys.length ≤ 8) (hkz : ∀ k ∈ c.keys, k.size ≤ 32) (hk1 : 1 ≤ c.kind) (hk2 : c.kind ≤ 11)
    (hv : c.value.size ≤ 512) (hf0 : 0 ≤ c.flags) (hf1 : c.flags < 4294967296) (hl0 : 0 ≤ c.life) (hl1 : c.life ≤ 1099511627776) (hu0 : 0 ≤ c.unique) (hu1 : c.unique < 18446744073709551616) (hb0 : 0 ≤ c.by_) (hb1 : c.by_ < 18446744073709551616) :
    Calls Tryd.prog 29 #[.agg (c.arr (.slice ko c.keys.length kc))] w fun e w' => ∃ s, e = .returned (.string s) ∧ bl s = c.wrL ∧ Below w.heap.size w w' := by
  have HTX := Hid.mk2 (fun (n : Nat) (hn : n < 18446744073709551616) V => rtext_d n hn V)
  have HR := Hid.mk2 h
  have hlen := h.len
  have HLL : Hid (c.wrL = bl (kw c.kind) ++ (c.keys.flatMap fun x => 32 :: bl x) ++ (c.args.flatMap fun x => 32 :: bl x) ++ [13, 10] ++ (if hasVal c.kind = true then bl c.value ++ [13, 10] else [])) := by
    show c.wrL = _
    unfold Cm.wrL Cm.words
    rw [joinW_cons, List.flatMap_append]
    simp only [List.append_assoc]
  obtain ⟨LL, hLL⟩ : ∃ LL, LL = c.wrL := ⟨_, rfl⟩
  rw [← hLL] at HLL ⊢
  have HKS := Hid.mk2 (kw_size c.kind)
  have HKZ := Hid.mk2 hkz
  have HLE := Hid.mk2 hl
  clear hLL h hkz hl
  obtain ⟨kind, tenant, keys, value, flags, life, unique, by_⟩ := c
  unfold Cm.args at HLL
  unfold Cm.arr
  dsimp only at *
  obtain ⟨ki, rfl⟩ : ∃ ki : Nat, kind = ki := ⟨kind.toNat, by omega⟩
  obtain ⟨fl, rfl⟩ : ∃ fl : Nat, flags = fl := ⟨flags.toNat, by omega⟩
  obtain ⟨li, rfl⟩ : ∃ li : Nat, life = li := ⟨life.toNat, by omega⟩
  obtain ⟨un, rfl⟩ : ∃ un : Nat, unique = un := ⟨unique.toNat, by omega⟩
  obtain ⟨byn, rfl⟩ : ∃ byn : Nat, by_ = byn := ⟨by_.toNat, by omega⟩
  have HFL := Hid.mk2 (show fl < 18446744073709551616 by omega)
  have HLI := Hid.mk2 (show li < 18446744073709551616 by omega)
  have HUN := Hid.mk2 (show un < 18446744073709551616 by omega)
  have HBY := Hid.mk2 (show byn < 18446744073709551616 by omega)
  have HVS := Hid.mk2 (show value.size < 18446744073709551616 by omega)
  have hki0 : 1 ≤ ki ∧ ki ≤ 11 := by omega
  have hfl : (fl : Int) < 4294967296 := by omega
  have hli : (li : Int) ≤ 1099511627776 := by omega
  have hvs : (value.size : Int) ≤ 512 := by omega
  have d1 := dec_size (n := fl) (by omega)
  have d2 := dec_size (n := li) (by omega)
  have d3 := dec_size (n := un) (by omega)
  have d4 := dec_size (n := byn) (by omega)
  have d5 := dec_size (n := value.size) (by omega)
  obtain ⟨K, hK⟩ : ∃ K, K = kw (ki : Int) := ⟨_, rfl⟩
  rw [← hK] at HLL HKS
  have HK := Hid.mk2 hK
  clear hK hf0 hf1 hl0 hl1 hu0 hu1 hb0 hb1 hk1 hk2 hv
  obtain ⟨F, hF⟩ : ∃ F, F = dec (fl : Int) := ⟨_, rfl⟩
  obtain ⟨G, hG⟩ : ∃ G, G = dec (li : Int) := ⟨_, rfl⟩
  obtain ⟨U, hU⟩ : ∃ U, U = dec (un : Int) := ⟨_, rfl⟩
  obtain ⟨Y, hY⟩ : ∃ Y, Y = dec (byn : Int) := ⟨_, rfl⟩
  obtain ⟨Z, hZ⟩ : ∃ Z, Z = dec (value.size : Int) := ⟨_, rfl⟩
  have TF := Hid.mk2 (HTX.out fl HFL.out)
  have TG := Hid.mk2 (HTX.out li HLI.out)
  have TU := Hid.mk2 (HTX.out un HUN.out)
  have TY := Hid.mk2 (HTX.out byn HBY.out)
  have TZ := Hid.mk2 (HTX.out value.size HVS.out)
  rw [← hF] at d1 HLL TF
  rw [← hG] at d2 HLL TG
  rw [← hU] at d3 HLL TU
  rw [← hY] at d4 HLL TY
  rw [← hZ] at d5 HLL TZ
  clear hF hG hU hY hZ HTX HFL HLI HUN HBY HVS
  go_enter Tryd.func29, Tryd.ntmps29
  go_upto_region 1 with (fail)
  obtain ⟨W, hW⟩ : ∃ W, W = w.alloc (.cells #[.int .u8 ki, .int .i64 tenant, .slice ko keys.length kc, .string value, .int .u32 fl, .int .i64 li, .int .u64 un, .int .u64 byn] 26) := ⟨_, rfl⟩
  have HB : Hid (Below w.heap.size w W) := by rw [hW]; exact g_alloc _ _
  have HX : Hid ((Cm.mk ki tenant keys value fl li un byn).At (.slice ko keys.length kc) W w.heap.size) := by rw [hW]; exact Cm.At.made (Cm.mk ki tenant keys value fl li un byn) _ w
  rw [← hW]
  clear hW
  have c0 := HX.out.c0
  have hlt := HX.out.lt
  dsimp only at c0
  go_upto_region 2 with (fail)
  go_cut [4] from 5 (fun s4 wx => s4 = .string K ∧ Hid (Below W.heap.size W wx))
  case first => as_aux_lemma =>
    have hks : ki = 1 ∨ ki = 2 ∨ ki = 3 ∨ ki = 4 ∨ ki = 5 ∨ ki = 6 ∨ ki = 7 ∨ ki = 8 ∨ ki = 9 ∨ ki = 10 ∨ ki = 11 := by omega
    have hK := HK.out
    clear HK HLL HKS
    rcases hks with rfl | rfl | rfl | rfl | rfl | rfl | rfl | rfl | rfl | rfl | rfl
    all_goals
      subst hK
      go_wp2
      go_meet
      case rel => exact ⟨rfl, g_alloc _ _⟩
  case rest =>
  obtain ⟨rfl, HBc⟩ := hcut
  obtain ⟨w2, hw2⟩ : ∃ w2, w2 = wc := ⟨_, rfl⟩
  rw [← hw2] at HBc ⊢
  clear hw2 c0 hlt HK
  have HX2 := Hid.mk2 (HX.out.below HBc.out)
  have HB2 := Hid.mk2 (g_on HB.out HBc.out)
  have HR2 := Hid.mk2 (HR.out.below HB2.out)
  have c0 := HX2.out.c0
  have c2 := HX2.out.c2
  have c3 := HX2.out.c3
  have c4 := HX2.out.c4
  have c5 := HX2.out.c5
  have c6 := HX2.out.c6
  have c7 := HX2.out.c7
  have hlt := HX2.out.lt
  dsimp only at c0 c2 c3 c4 c5 c6 c7
  clear HX HBc HB HR
  have hks := HKS.out
  go_upto_block 0 with (fail)
  go_cut [4, 5] from 6 (fun s4 s5 wx => ∃ S : ByteArray, s4 = .string S ∧ wx = w2 ∧ S.size ≤ 271 ∧ Hid (bl S = bl K ++ (keys.flatMap fun x => 32 :: bl x)))
  case first => as_aux_lemma =>
   go_wp2
   go_loopw [4, 5] (fun s i wr => ∃ (k : Nat) (S : ByteArray), k ≤ keys.length ∧ s = .string S ∧ i = .int .i64 k ∧ wr = w2 ∧ S.size ≤ 7 + 33 * k ∧ Hid (bl S = bl K ++ ((keys.take k).flatMap fun x => 32 :: bl x))) (fun _ i _ => keys.length - (intOf i).toNat)
   case atStart => exact ⟨0, K, Nat.zero_le _, rfl, rfl, rfl, by omega, by show bl K = _; simp⟩
   case round =>
     obtain ⟨k, S, hk, rfl, rfl, rfl, hS, HS⟩ := hrel
     have hl8 := HLE.out
     by_cases hkl : k < keys.length
     · have hkl2 : (k : Int) < (keys.length : Int) := by omega
       have hne : keys ≠ [] := by intro e; rw [e] at hkl; simp at hkl
       obtain ⟨b, off, rfl, hbl, hcs⟩ := HR2.out.str hne
       have r0 := hcs k hkl
       have HSN := Hid.mk2 (flat_snoc keys k hkl)
       have hkk := HKZ.out keys[k] (List.getElem_mem hkl)
       obtain ⟨p, hp⟩ : ∃ p, p = keys[k] := ⟨_, rfl⟩
       rw [← hp] at r0 HSN hkk
       have HS2 : Hid (bl (S ++ ⟨#[32]⟩ ++ p) = bl K ++ ((keys.take (k + 1)).flatMap fun x => 32 :: bl x)) := by
         show bl _ = _
         rw [HSN.out, bl_app, bl_app, HS.out]
         simp [bl]
       have hz2 : (S ++ ⟨#[32]⟩ ++ p : ByteArray).size ≤ 7 + 33 * (k + 1) := by
         rw [sz_app, sz_app]
         have : (⟨#[32]⟩ : ByteArray).size = 1 := rfl
         omega
       have HZ2 := Hid.mk2 hz2
       have z1 : ¬ 9223372036854775807 < S.size + 1 := by omega
       have z2 : ¬ 9223372036854775807 < S.size + (⟨#[32]⟩ : ByteArray).size := by show ¬ 9223372036854775807 < S.size + 1; omega
       have z3 : ¬ 9223372036854775807 < (S ++ ⟨#[32]⟩ : ByteArray).size + p.size := by rw [sz_app]; show ¬ 9223372036854775807 < S.size + 1 + p.size; omega
       clear hp hcs hne HSN hz2 HS HLL HKZ
       go_wp2
       go_roundw
       case rel => exact ⟨k + 1, _, by omega, rfl, by go_num, by first | rfl | trivial, HZ2.out, HS2⟩
       case measure => simp [intOf]; omega
     · have ek : keys.length = k := by omega
       have hkl2 : ¬ (k : Int) < (keys.length : Int) := by omega
       have hS2 : S.size ≤ 271 := by omega
       have HSE : Hid (bl S = bl K ++ (keys.flatMap fun x => 32 :: bl x)) := by
         show bl S = _
         rw [HS.out, List.take_of_length_le (by omega)]
       clear HS hS ek HLL HKZ HKS
       go_wp2
       go_meet
       case rel => exact ⟨_, rfl, rfl, hS2, HSE⟩
  case rest =>
  obtain ⟨S, rfl, hwc, hS2, HSE⟩ := hcut
  replace hwc := hwc.symm
  subst hwc
  have HLE2 : Hid (LL = bl S ++ A1 ki F G U Y Z value ++ A2 ki F G U Y Z value ++ A3 ki F G U Y Z value ++ A4 ki F G U Y Z value ++ A5 ki F G U Y Z value ++ [13, 10] ++ A7 ki F G U Y Z value) := by
    show LL = _
    rw [HLL.out, HSE.out]
    have hks : ki = 1 ∨ ki = 2 ∨ ki = 3 ∨ ki = 4 ∨ ki = 5 ∨ ki = 6 ∨ ki = 7 ∨ ki = 8 ∨ ki = 9 ∨ ki = 10 ∨ ki = 11 := by omega
    rcases hks with rfl | rfl | rfl | rfl | rfl | rfl | rfl | rfl | rfl | rfl | rfl
    all_goals simp [A1, A2, A3, A4, A5, A7, hasVal]
  clear HLL HSE HKS HKZ HR2 HLE
  go_upto_region 7 with (fail)
  go_cut [33] from 6 (fun s wx => ∃ b : Bool, s = .bool b ∧ wx = w2 ∧ Hid (b = true ↔ (2 ≤ ki ∧ ki ≤ 5)))
  case first => as_aux_lemma =>
    have hcs : (ki < 2) ∨ (5 < ki) ∨ (2 ≤ ki ∧ ki ≤ 5) := by omega
    rcases hcs with hc | hc | hc
    · have HC := Hid.mk2 hc
      have q1 : ¬ (2 : Int) ≤ ki := by omega
      clear hc
      go_wp2
      go_meet
      case rel => exact ⟨_, rfl, rfl, by show _ ↔ _; have hc := HC.out; first | (simp; done) | (simp; omega) | omega⟩
    · have HC := Hid.mk2 hc
      have q1 : (2 : Int) ≤ ki := by omega
      have q2 : ¬ (ki : Int) ≤ 5 := by omega
      clear hc
      go_wp2
      go_meet
      case rel => exact ⟨_, rfl, rfl, by show _ ↔ _; have hc := HC.out; first | (simp; done) | (simp; omega) | omega⟩
    · have HC := Hid.mk2 hc
      have q1 : (2 : Int) ≤ ki := by omega
      have q2 : (ki : Int) ≤ 5 := by omega
      clear hc
      go_wp2
      go_meet
      case rel => exact ⟨_, rfl, rfl, by show _ ↔ _; have hc := HC.out; first | (simp; done) | (simp; omega) | omega⟩
  case rest =>
  rename_i hK
  refine hK _ _ ?_
  clear hK
  obtain ⟨b, rfl, hwc, HQ⟩ := hcut
  replace hwc := hwc.symm
  subst hwc
  go_cut [4] from 6 (fun s4 wx => ∃ (n : Nat) (T : ByteArray), s4 = .string T ∧ wx = w2.drewN n ∧ T.size ≤ 313 ∧ Hid (bl T = bl S ++ A1 ki F G U Y Z value))
  case first => as_aux_lemma =>
    cases b
    · have HA : Hid (A1 ki F G U Y Z value = []) := by show A1 ki F G U Y Z value = _; unfold A1; rw [if_neg (fun h => absurd (HQ.out.2 h) (by decide))]
      clear HQ
      go_wp2
      go_meet
      case rel => exact ⟨_, _, rfl, by first | rfl | exact (World.drewN_zero _).symm, by first | omega | (rw [sz_app]; have e2 : (⟨#[13, 10]⟩ : ByteArray).size = 2 := rfl; omega), by show bl _ = _; rw [HA.out, List.append_nil]⟩
    · have HA : Hid (A1 ki F G U Y Z value = 32 :: (bl F ++ 32 :: bl G)) := by show A1 ki F G U Y Z value = _; unfold A1; rw [if_pos (HQ.out.1 rfl)]
      clear HQ
      have z0 : ¬ 9223372036854775807 < (S : ByteArray).size + (⟨#[32]⟩ : ByteArray).size := by
        (try simp only [sz_app])
        have e1 : (⟨#[32]⟩ : ByteArray).size = 1 := rfl
        have e2 : (⟨#[13, 10]⟩ : ByteArray).size = 2 := rfl
        omega
      have z1 : ¬ 9223372036854775807 < (S ++ ⟨#[32]⟩ : ByteArray).size + (F : ByteArray).size := by
        (try simp only [sz_app])
        have e1 : (⟨#[32]⟩ : ByteArray).size = 1 := rfl
        have e2 : (⟨#[13, 10]⟩ : ByteArray).size = 2 := rfl
        omega
      have z2 : ¬ 9223372036854775807 < (S ++ ⟨#[32]⟩ ++ F : ByteArray).size + (⟨#[32]⟩ : ByteArray).size := by
        (try simp only [sz_app])
        have e1 : (⟨#[32]⟩ : ByteArray).size = 1 := rfl
        have e2 : (⟨#[13, 10]⟩ : ByteArray).size = 2 := rfl
        omega
      have z3 : ¬ 9223372036854775807 < (S ++ ⟨#[32]⟩ ++ F ++ ⟨#[32]⟩ : ByteArray).size + (G : ByteArray).size := by
        (try simp only [sz_app])
        have e1 : (⟨#[32]⟩ : ByteArray).size = 1 := rfl
        have e2 : (⟨#[13, 10]⟩ : ByteArray).size = 2 := rfl
        omega
      have HZ : Hid ((S ++ ⟨#[32]⟩ ++ F ++ ⟨#[32]⟩ ++ G : ByteArray).size ≤ 313) := by
        show _ ≤ _
        simp only [sz_app]
        have e1 : (⟨#[32]⟩ : ByteArray).size = 1 := rfl
        have e2 : (⟨#[13, 10]⟩ : ByteArray).size = 2 := rfl
        omega
      have HT : Hid (bl (S ++ ⟨#[32]⟩ ++ F ++ ⟨#[32]⟩ ++ G) = bl S ++ A1 ki F G U Y Z value) := by
        show bl _ = _
        rw [HA.out]
        simp only [bl_app]
        simp [bl]
      go_upto_region 8 with (fail)
      go_quiet ((first | (go_at_call 30; with_reducible exact Calls.quiet_of_same (TF.out _)) | (go_at_call 30; with_reducible exact Calls.quiet_of_same (TG.out _))))
      go_wp2
      go_meet
      case rel => exact ⟨_, _, rfl, by first | rfl | exact (World.drewN_zero _).symm | exact World.drewN_drewN _ _ _, HZ.out, HT⟩
  case rest =>
  obtain ⟨n0, S1, rfl, hwc, hz0, HT0⟩ := hcut
  subst hwc
  go_upto_region 9 with (fail)
  go_cut [59] from 6 (fun s wx => ∃ b : Bool, s = .bool b ∧ wx = w2.drewN n0 ∧ Hid (b = true ↔ ((2 ≤ ki ∧ ki ≤ 5) ∨ ki = 8)))
  case first => as_aux_lemma =>
    have hcs : (ki < 2) ∨ (ki = 8) ∨ (5 < ki ∧ ki ≠ 8) ∨ (2 ≤ ki ∧ ki ≤ 5) := by omega
    rcases hcs with hc | hc | hc | hc
    · have HC := Hid.mk2 hc
      have q1 : ¬ (2 : Int) ≤ ki := by omega
      have q8 : ¬ (ki : Int) = 8 := by omega
      clear hc
      go_wp2
      go_meet
      case rel => exact ⟨_, rfl, rfl, by show _ ↔ _; have hc := HC.out; first | (simp; done) | (simp; omega) | omega⟩
    · subst hc
      go_wp2
      go_meet
      case rel => exact ⟨_, rfl, rfl, by show _ ↔ _; first | (simp; done) | (simp; omega) | omega⟩
    · have HC := Hid.mk2 hc
      have q1 : (2 : Int) ≤ ki := by omega
      have q2 : ¬ (ki : Int) ≤ 5 := by omega
      have q8 : ¬ (ki : Int) = 8 := by omega
      clear hc
      go_wp2
      go_meet
      case rel => exact ⟨_, rfl, rfl, by show _ ↔ _; have hc := HC.out; first | (simp; done) | (simp; omega) | omega⟩
    · have HC := Hid.mk2 hc
      have q1 : (2 : Int) ≤ ki := by omega
      have q2 : (ki : Int) ≤ 5 := by omega
      clear hc
      go_wp2
      go_meet
      case rel => exact ⟨_, rfl, rfl, by show _ ↔ _; have hc := HC.out; first | (simp; done) | (simp; omega) | omega⟩
  case rest =>
  rename_i hK
  refine hK _ _ ?_
  clear hK
  obtain ⟨b, rfl, hwc, HQ⟩ := hcut
  subst hwc
  go_cut [4] from 6 (fun s4 wx => ∃ (n : Nat) (T : ByteArray), s4 = .string T ∧ wx = w2.drewN n ∧ T.size ≤ 334 ∧ Hid (bl T = bl S1 ++ A2 ki F G U Y Z value))
  case first => as_aux_lemma =>
    cases b
    · have HA : Hid (A2 ki F G U Y Z value = []) := by show A2 ki F G U Y Z value = _; unfold A2; rw [if_neg (fun h => absurd (HQ.out.2 h) (by decide))]
      clear HQ
      go_wp2
      go_meet
      case rel => exact ⟨_, _, rfl, by first | rfl | exact (World.drewN_zero _).symm, by first | omega | (rw [sz_app]; have e2 : (⟨#[13, 10]⟩ : ByteArray).size = 2 := rfl; omega), by show bl _ = _; rw [HA.out, List.append_nil]⟩
    · have HA : Hid (A2 ki F G U Y Z value = 32 :: bl Z) := by show A2 ki F G U Y Z value = _; unfold A2; rw [if_pos (HQ.out.1 rfl)]
      clear HQ
      have z0 : ¬ 9223372036854775807 < (S1 : ByteArray).size + (⟨#[32]⟩ : ByteArray).size := by
        (try simp only [sz_app])
        have e1 : (⟨#[32]⟩ : ByteArray).size = 1 := rfl
        have e2 : (⟨#[13, 10]⟩ : ByteArray).size = 2 := rfl
        omega
      have z1 : ¬ 9223372036854775807 < (S1 ++ ⟨#[32]⟩ : ByteArray).size + (Z : ByteArray).size := by
        (try simp only [sz_app])
        have e1 : (⟨#[32]⟩ : ByteArray).size = 1 := rfl
        have e2 : (⟨#[13, 10]⟩ : ByteArray).size = 2 := rfl
        omega
      have HZ : Hid ((S1 ++ ⟨#[32]⟩ ++ Z : ByteArray).size ≤ 334) := by
        show _ ≤ _
        simp only [sz_app]
        have e1 : (⟨#[32]⟩ : ByteArray).size = 1 := rfl
        have e2 : (⟨#[13, 10]⟩ : ByteArray).size = 2 := rfl
        omega
      have HT : Hid (bl (S1 ++ ⟨#[32]⟩ ++ Z) = bl S1 ++ A2 ki F G U Y Z value) := by
        show bl _ = _
        rw [HA.out]
        simp only [bl_app]
        simp [bl]
      go_wp2_with (go_at_call 30; refine (TZ.out _).mono ?_; rintro e w5 ⟨rfl, hw5⟩; replace hw5 := hw5.symm; subst hw5)
      go_meet
      case rel => exact ⟨_, _, rfl, by first | rfl | exact (World.drewN_zero _).symm | exact World.drewN_drewN _ _ _, HZ.out, HT⟩
  case rest =>
  obtain ⟨n1, S2, rfl, hwc, hz1, HT1⟩ := hcut
  subst hwc
  go_upto_region 11 with (fail)
  go_cut [70] from 6 (fun s wx => ∃ b : Bool, s = .bool b ∧ wx = w2.drewN n1 ∧ Hid (b = true ↔ (ki = 5)))
  case first => as_aux_lemma =>
    have hcs : (ki = 5) ∨ (ki ≠ 5) := by omega
    rcases hcs with hc | hc
    · subst hc
      go_wp2
      go_meet
      case rel => exact ⟨_, rfl, rfl, by show _ ↔ _; first | (simp; done) | (simp; omega) | omega⟩
    · have HC := Hid.mk2 hc
      have q8 : ¬ (ki : Int) = 5 := by omega
      clear hc
      go_wp2
      go_meet
      case rel => exact ⟨_, rfl, rfl, by show _ ↔ _; have hc := HC.out; first | (simp; done) | (simp; omega) | omega⟩
  case rest =>
  rename_i hK
  refine hK _ _ ?_
  clear hK
  obtain ⟨b, rfl, hwc, HQ⟩ := hcut
  subst hwc
  go_cut [4] from 6 (fun s4 wx => ∃ (n : Nat) (T : ByteArray), s4 = .string T ∧ wx = w2.drewN n ∧ T.size ≤ 355 ∧ Hid (bl T = bl S2 ++ A3 ki F G U Y Z value))
  case first => as_aux_lemma =>
    cases b
    · have HA : Hid (A3 ki F G U Y Z value = []) := by show A3 ki F G U Y Z value = _; unfold A3; rw [if_neg (fun h => absurd (HQ.out.2 h) (by decide))]
      clear HQ
      go_wp2
      go_meet
      case rel => exact ⟨_, _, rfl, by first | rfl | exact (World.drewN_zero _).symm, by first | omega | (rw [sz_app]; have e2 : (⟨#[13, 10]⟩ : ByteArray).size = 2 := rfl; omega), by show bl _ = _; rw [HA.out, List.append_nil]⟩
    · have HA : Hid (A3 ki F G U Y Z value = 32 :: bl U) := by show A3 ki F G U Y Z value = _; unfold A3; rw [if_pos (HQ.out.1 rfl)]
      clear HQ
      have z0 : ¬ 9223372036854775807 < (S2 : ByteArray).size + (⟨#[32]⟩ : ByteArray).size := by
        (try simp only [sz_app])
        have e1 : (⟨#[32]⟩ : ByteArray).size = 1 := rfl
        have e2 : (⟨#[13, 10]⟩ : ByteArray).size = 2 := rfl
        omega
      have z1 : ¬ 9223372036854775807 < (S2 ++ ⟨#[32]⟩ : ByteArray).size + (U : ByteArray).size := by
        (try simp only [sz_app])
        have e1 : (⟨#[32]⟩ : ByteArray).size = 1 := rfl
        have e2 : (⟨#[13, 10]⟩ : ByteArray).size = 2 := rfl
        omega
      have HZ : Hid ((S2 ++ ⟨#[32]⟩ ++ U : ByteArray).size ≤ 355) := by
        show _ ≤ _
        simp only [sz_app]
        have e1 : (⟨#[32]⟩ : ByteArray).size = 1 := rfl
        have e2 : (⟨#[13, 10]⟩ : ByteArray).size = 2 := rfl
        omega
      have HT : Hid (bl (S2 ++ ⟨#[32]⟩ ++ U) = bl S2 ++ A3 ki F G U Y Z value) := by
        show bl _ = _
        rw [HA.out]
        simp only [bl_app]
        simp [bl]
      go_wp2_with (go_at_call 30; refine (TU.out _).mono ?_; rintro e w5 ⟨rfl, hw5⟩; replace hw5 := hw5.symm; subst hw5)
      go_meet
      case rel => exact ⟨_, _, rfl, by first | rfl | exact (World.drewN_zero _).symm | exact World.drewN_drewN _ _ _, HZ.out, HT⟩
  case rest =>
  obtain ⟨n2, S3, rfl, hwc, hz2, HT2⟩ := hcut
  subst hwc
  go_upto_region 13 with (fail)
  go_cut [84] from 6 (fun s wx => ∃ b : Bool, s = .bool b ∧ wx = w2.drewN n2 ∧ Hid (b = true ↔ (ki = 6 ∨ ki = 7)))
  case first => as_aux_lemma =>
    have hcs : (ki = 6) ∨ (ki = 7) ∨ (ki ≠ 6 ∧ ki ≠ 7) := by omega
    rcases hcs with hc | hc | hc
    · subst hc
      go_wp2
      go_meet
      case rel => exact ⟨_, rfl, rfl, by show _ ↔ _; first | (simp; done) | (simp; omega) | omega⟩
    · subst hc
      go_wp2
      go_meet
      case rel => exact ⟨_, rfl, rfl, by show _ ↔ _; first | (simp; done) | (simp; omega) | omega⟩
    · have HC := Hid.mk2 hc
      have q8 : ¬ (ki : Int) = 6 := by omega
      have q9 : ¬ (ki : Int) = 7 := by omega
      clear hc
      go_wp2
      go_meet
      case rel => exact ⟨_, rfl, rfl, by show _ ↔ _; have hc := HC.out; first | (simp; done) | (simp; omega) | omega⟩
  case rest =>
  rename_i hK
  refine hK _ _ ?_
  clear hK
  obtain ⟨b, rfl, hwc, HQ⟩ := hcut
  subst hwc
  go_cut [4] from 6 (fun s4 wx => ∃ (n : Nat) (T : ByteArray), s4 = .string T ∧ wx = w2.drewN n ∧ T.size ≤ 376 ∧ Hid (bl T = bl S3 ++ A4 ki F G U Y Z value))
  case first => as_aux_lemma =>
    cases b
    · have HA : Hid (A4 ki F G U Y Z value = []) := by show A4 ki F G U Y Z value = _; unfold A4; rw [if_neg (fun h => absurd (HQ.out.2 h) (by decide))]
      clear HQ
      go_wp2
      go_meet
      case rel => exact ⟨_, _, rfl, by first | rfl | exact (World.drewN_zero _).symm, by first | omega | (rw [sz_app]; have e2 : (⟨#[13, 10]⟩ : ByteArray).size = 2 := rfl; omega), by show bl _ = _; rw [HA.out, List.append_nil]⟩
    · have HA : Hid (A4 ki F G U Y Z value = 32 :: bl Y) := by show A4 ki F G U Y Z value = _; unfold A4; rw [if_pos (HQ.out.1 rfl)]
      clear HQ
      have z0 : ¬ 9223372036854775807 < (S3 : ByteArray).size + (⟨#[32]⟩ : ByteArray).size := by
        (try simp only [sz_app])
        have e1 : (⟨#[32]⟩ : ByteArray).size = 1 := rfl
        have e2 : (⟨#[13, 10]⟩ : ByteArray).size = 2 := rfl
        omega
      have z1 : ¬ 9223372036854775807 < (S3 ++ ⟨#[32]⟩ : ByteArray).size + (Y : ByteArray).size := by
        (try simp only [sz_app])
        have e1 : (⟨#[32]⟩ : ByteArray).size = 1 := rfl
        have e2 : (⟨#[13, 10]⟩ : ByteArray).size = 2 := rfl
        omega
      have HZ : Hid ((S3 ++ ⟨#[32]⟩ ++ Y : ByteArray).size ≤ 376) := by
        show _ ≤ _
        simp only [sz_app]
        have e1 : (⟨#[32]⟩ : ByteArray).size = 1 := rfl
        have e2 : (⟨#[13, 10]⟩ : ByteArray).size = 2 := rfl
        omega
      have HT : Hid (bl (S3 ++ ⟨#[32]⟩ ++ Y) = bl S3 ++ A4 ki F G U Y Z value) := by
        show bl _ = _
        rw [HA.out]
        simp only [bl_app]
        simp [bl]
      go_wp2_with (go_at_call 30; refine (TY.out _).mono ?_; rintro e w5 ⟨rfl, hw5⟩; replace hw5 := hw5.symm; subst hw5)
      go_meet
      case rel => exact ⟨_, _, rfl, by first | rfl | exact (World.drewN_zero _).symm | exact World.drewN_drewN _ _ _, HZ.out, HT⟩
  case rest =>
  obtain ⟨n3, S4, rfl, hwc, hz3, HT3⟩ := hcut
  subst hwc
  go_upto_region 15 with (fail)
  go_cut [93] from 6 (fun s wx => ∃ b : Bool, s = .bool b ∧ wx = w2.drewN n3 ∧ Hid (b = true ↔ (ki = 9)))
  case first => as_aux_lemma =>
    have hcs : (ki = 9) ∨ (ki ≠ 9) := by omega
    rcases hcs with hc | hc
    · subst hc
      go_wp2
      go_meet
      case rel => exact ⟨_, rfl, rfl, by show _ ↔ _; first | (simp; done) | (simp; omega) | omega⟩
    · have HC := Hid.mk2 hc
      have q8 : ¬ (ki : Int) = 9 := by omega
      clear hc
      go_wp2
      go_meet
      case rel => exact ⟨_, rfl, rfl, by show _ ↔ _; have hc := HC.out; first | (simp; done) | (simp; omega) | omega⟩
  case rest =>
  rename_i hK
  refine hK _ _ ?_
  clear hK
  obtain ⟨b, rfl, hwc, HQ⟩ := hcut
  subst hwc
  go_cut [4] from 6 (fun s4 wx => ∃ (n : Nat) (T : ByteArray), s4 = .string T ∧ wx = w2.drewN n ∧ T.size ≤ 397 ∧ Hid (bl T = bl S4 ++ A5 ki F G U Y Z value))
  case first => as_aux_lemma =>
    cases b
    · have HA : Hid (A5 ki F G U Y Z value = []) := by show A5 ki F G U Y Z value = _; unfold A5; rw [if_neg (fun h => absurd (HQ.out.2 h) (by decide))]
      clear HQ
      go_wp2
      go_meet
      case rel => exact ⟨_, _, rfl, by first | rfl | exact (World.drewN_zero _).symm, by first | omega | (rw [sz_app]; have e2 : (⟨#[13, 10]⟩ : ByteArray).size = 2 := rfl; omega), by show bl _ = _; rw [HA.out, List.append_nil]⟩
    · have HA : Hid (A5 ki F G U Y Z value = 32 :: bl G) := by show A5 ki F G U Y Z value = _; unfold A5; rw [if_pos (HQ.out.1 rfl)]
      clear HQ
      have z0 : ¬ 9223372036854775807 < (S4 : ByteArray).size + (⟨#[32]⟩ : ByteArray).size := by
        (try simp only [sz_app])
        have e1 : (⟨#[32]⟩ : ByteArray).size = 1 := rfl
        have e2 : (⟨#[13, 10]⟩ : ByteArray).size = 2 := rfl
        omega
      have z1 : ¬ 9223372036854775807 < (S4 ++ ⟨#[32]⟩ : ByteArray).size + (G : ByteArray).size := by
        (try simp only [sz_app])
        have e1 : (⟨#[32]⟩ : ByteArray).size = 1 := rfl
        have e2 : (⟨#[13, 10]⟩ : ByteArray).size = 2 := rfl
        omega
      have HZ : Hid ((S4 ++ ⟨#[32]⟩ ++ G : ByteArray).size ≤ 397) := by
        show _ ≤ _
        simp only [sz_app]
        have e1 : (⟨#[32]⟩ : ByteArray).size = 1 := rfl
        have e2 : (⟨#[13, 10]⟩ : ByteArray).size = 2 := rfl
        omega
      have HT : Hid (bl (S4 ++ ⟨#[32]⟩ ++ G) = bl S4 ++ A5 ki F G U Y Z value) := by
        show bl _ = _
        rw [HA.out]
        simp only [bl_app]
        simp [bl]
      go_wp2_with (go_at_call 30; refine (TG.out _).mono ?_; rintro e w5 ⟨rfl, hw5⟩; replace hw5 := hw5.symm; subst hw5)
      go_meet
      case rel => exact ⟨_, _, rfl, by first | rfl | exact (World.drewN_zero _).symm | exact World.drewN_drewN _ _ _, HZ.out, HT⟩
  case rest =>
  obtain ⟨n4, S5, rfl, hwc, hz4, HT4⟩ := hcut
  subst hwc
  have z0 : ¬ 9223372036854775807 < (S5 : ByteArray).size + (⟨#[13, 10]⟩ : ByteArray).size := by
    (try simp only [sz_app])
    have e1 : (⟨#[32]⟩ : ByteArray).size = 1 := rfl
    have e2 : (⟨#[13, 10]⟩ : ByteArray).size = 2 := rfl
    omega
  go_upto_region 18 with (fail)
  go_cut [115] from 6 (fun s wx => ∃ b : Bool, s = .bool b ∧ wx = w2.drewN n4 ∧ Hid (b = true ↔ ((2 ≤ ki ∧ ki ≤ 5) ∨ ki = 8)))
  case first => as_aux_lemma =>
    have hcs : (ki < 2) ∨ (ki = 8) ∨ (5 < ki ∧ ki ≠ 8) ∨ (2 ≤ ki ∧ ki ≤ 5) := by omega
    rcases hcs with hc | hc | hc | hc
    · have HC := Hid.mk2 hc
      have q1 : ¬ (2 : Int) ≤ ki := by omega
      have q8 : ¬ (ki : Int) = 8 := by omega
      clear hc
      go_wp2
      go_meet
      case rel => exact ⟨_, rfl, rfl, by show _ ↔ _; have hc := HC.out; first | (simp; done) | (simp; omega) | omega⟩
    · subst hc
      go_wp2
      go_meet
      case rel => exact ⟨_, rfl, rfl, by show _ ↔ _; first | (simp; done) | (simp; omega) | omega⟩
    · have HC := Hid.mk2 hc
      have q1 : (2 : Int) ≤ ki := by omega
      have q2 : ¬ (ki : Int) ≤ 5 := by omega
      have q8 : ¬ (ki : Int) = 8 := by omega
      clear hc
      go_wp2
      go_meet
      case rel => exact ⟨_, rfl, rfl, by show _ ↔ _; have hc := HC.out; first | (simp; done) | (simp; omega) | omega⟩
    · have HC := Hid.mk2 hc
      have q1 : (2 : Int) ≤ ki := by omega
      have q2 : (ki : Int) ≤ 5 := by omega
      clear hc
      go_wp2
      go_meet
      case rel => exact ⟨_, rfl, rfl, by show _ ↔ _; have hc := HC.out; first | (simp; done) | (simp; omega) | omega⟩
  case rest =>
  rename_i hK
  refine hK _ _ ?_
  clear hK
  obtain ⟨b, rfl, hwc, HQ⟩ := hcut
  subst hwc
  go_cut [4] from 6 (fun s4 wx => ∃ (n : Nat) (T : ByteArray), s4 = .string T ∧ wx = w2.drewN n ∧ T.size ≤ 913 ∧ Hid (bl T = bl (S5 ++ ⟨#[13, 10]⟩) ++ A7 ki F G U Y Z value))
  case first => as_aux_lemma =>
    cases b
    · have HA : Hid (A7 ki F G U Y Z value = []) := by show A7 ki F G U Y Z value = _; unfold A7; rw [if_neg (fun h => absurd (HQ.out.2 h) (by decide))]
      clear HQ
      go_wp2
      go_meet
      case rel => exact ⟨_, _, rfl, by first | rfl | exact (World.drewN_zero _).symm, by first | omega | (rw [sz_app]; have e2 : (⟨#[13, 10]⟩ : ByteArray).size = 2 := rfl; omega), by show bl _ = _; rw [HA.out, List.append_nil]⟩
    · have HA : Hid (A7 ki F G U Y Z value = bl value ++ [13, 10]) := by show A7 ki F G U Y Z value = _; unfold A7; rw [if_pos (HQ.out.1 rfl)]
      clear HQ
      have z0 : ¬ 9223372036854775807 < (S5 ++ ⟨#[13, 10]⟩ : ByteArray).size + (value : ByteArray).size := by
        (try simp only [sz_app])
        have e1 : (⟨#[32]⟩ : ByteArray).size = 1 := rfl
        have e2 : (⟨#[13, 10]⟩ : ByteArray).size = 2 := rfl
        omega
      have z1 : ¬ 9223372036854775807 < (S5 ++ ⟨#[13, 10]⟩ ++ value : ByteArray).size + (⟨#[13, 10]⟩ : ByteArray).size := by
        (try simp only [sz_app])
        have e1 : (⟨#[32]⟩ : ByteArray).size = 1 := rfl
        have e2 : (⟨#[13, 10]⟩ : ByteArray).size = 2 := rfl
        omega
      have HZ : Hid ((S5 ++ ⟨#[13, 10]⟩ ++ value ++ ⟨#[13, 10]⟩ : ByteArray).size ≤ 913) := by
        show _ ≤ _
        simp only [sz_app]
        have e1 : (⟨#[32]⟩ : ByteArray).size = 1 := rfl
        have e2 : (⟨#[13, 10]⟩ : ByteArray).size = 2 := rfl
        omega
      have HT : Hid (bl (S5 ++ ⟨#[13, 10]⟩ ++ value ++ ⟨#[13, 10]⟩) = bl (S5 ++ ⟨#[13, 10]⟩) ++ A7 ki F G U Y Z value) := by
        show bl _ = _
        rw [HA.out]
        simp only [bl_app]
        simp [bl]
      go_wp2
      go_meet
      case rel => exact ⟨_, _, rfl, by first | rfl | exact (World.drewN_zero _).symm | exact World.drewN_drewN _ _ _, HZ.out, HT⟩
  case rest =>
  obtain ⟨n5, S6, rfl, hwc, hz5, HT5⟩ := hcut
  subst hwc
  go_wp2
  go_ret
  exact ⟨_, rfl, by rw [HT5.out, bl_app, HT4.out, HT3.out, HT2.out, HT1.out, HT0.out, HLE2.out]; simp [bl], g_on HB2.out (g_drewN _)⟩
end Go.Proofs.YtldnkminhppngaaDoor
