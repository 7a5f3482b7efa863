/-
  add: its contract.
-/
import Derived.Test.YthcekkahkioibadWhDues
namespace Go.Proofs.Ythcekkahkioibad
open Go.RowKit
set_option linter.unusedSimpArgs false
set_option linter.unusedVariables false
set_option maxRecDepth 100000

def isIn (H : List NU) (y : Nm) : Bool := H.any (fun q => decide (q.1 = y))
theorem isIn_take {H : List NU} {k : Nat} (hk : k < H.length) (y : Nm) : isIn (H.take (k + 1)) y = (isIn (H.take k) y || decide (H[k].1 = y)) := by
  unfold isIn
  rw [List.take_succ_eq_append_getElem hk, List.any_append, List.any_cons, List.any_nil, Bool.or_false]
theorem isIn_false {H : List NU} {y : Nm} (h : isIn H y = false) : ∀ q ∈ H, q.1 ≠ y := by
  unfold isIn at h
  simpa using h

/-- what add leaves -/
def addedStep (now : Nat) (H : List NU) (q : NU) : List NU := if isIn H q.1 = false ∧ addE now q.1 q.2 = 0 then H ++ [q] else H
def addedL (now : Nat) (T : List NU) : List NU := T.foldl (addedStep now) []
theorem added_succ {now : Nat} {T : List NU} {k : Nat} (hk : k < T.length) : addedL now (T.take (k + 1)) = addedStep now (addedL now (T.take k)) T[k] := by
  unfold addedL
  rw [List.take_succ_eq_append_getElem hk, List.foldl_append]
  rfl

set_option maxHeartbeats 2000000 in
theorem addAll_eq (w : World) (p now : Nat) (b0 : Nat) (mb : Nat → Option Nat) (h : Wh w p now [] [] b0 mb 0) (ao : Option Addr) (T : List NU) (cap : Nat) (hT : TAt w ao T) (hTF : T ≠ [] → ∀ b off, ao = some ⟨b, off, none⟩ → ¬ Foot p b0 mb b) (hm : T.length ≤ 200) :
    Calls Try.prog 20 #[.pointer (some ⟨p, 0, none⟩), .slice ao T.length cap] w fun e w' => ∃ v', e = .returned v' ∧ ∃ H, OwnD w' w.heap.size v' H ∧ H.length ≤ 200 ∧ ∃ mb', Wh w' p now H H b0 mb' 400 ∧ Kept (Foot p b0 mb) w w' ∧ (∀ k, Foot p b0 mb' k → Foot p b0 mb k ∨ w.heap.size ≤ k) ∧ H = addedL now T := by
  have HT := Hid.mk2 hT
  have HTF := Hid.mk2 hTF
  have HW0 := Hid.mk2 h
  have hlt := h.lt (.inl rfl)
  have hcm : cap = cap := rfl
  clear hT hTF h
  go_enter Try.func20, Try.ntmps20
  go_wp2
  go_loopw [5, 6] (fun u i wr => ∃ (k : Nat) (H : List NU) (mb' : Nat → Option Nat), k ≤ T.length ∧ i = .int .i64 k ∧ H.length ≤ k ∧ OwnD wr w.heap.size u H ∧ Hid (Wh wr p now H H b0 mb' (2 * k)) ∧ Hid (Kept (Foot p b0 mb) w wr) ∧ Hid (∀ k, Foot p b0 mb' k → Foot p b0 mb k ∨ w.heap.size ≤ k) ∧ Hid (H = addedL now (T.take k))) (fun _ i _ => T.length - (intOf i).toNat)
  case atStart => exact ⟨0, [], mb, Nat.zero_le _, rfl, Nat.le_refl _, OwnD.nil _ _, HW0, Kept.refl _ _, fun k hk => .inl hk, rfl⟩
  case round =>
    obtain ⟨k, H, mb2, hk, rfl, hHk, hO, HW, HK, HF, HEQ⟩ := hrel
    obtain ⟨ws, rfl⟩ : ∃ ws, ws = wr := ⟨_, rfl⟩
    by_cases hlt2 : k < T.length
    · have hlt3 : (k : Int) < (T.length : Int) := by omega
      rcases HT.out with h0 | ⟨tb, off, rfl, htb, hcells⟩
      · rw [h0] at hlt2; simp at hlt2
      obtain ⟨c0, c1, c2⟩ := hcells k hlt2
      obtain ⟨q, hq⟩ : ∃ q, q = T[k] := ⟨_, rfl⟩
      rw [← hq] at c0 c1 c2
      have HST : Hid (addedL now (T.take (k + 1)) = addedStep now H q) := by
        show _ = _
        rw [added_succ hlt2, ← hq, ← HEQ.out]
      obtain ⟨y, v⟩ := q
      simp only [] at c0 c1 c2
      have hbl := HK.out.block tb htb (HTF.out (fun e => by rw [e] at hlt2; simp at hlt2) tb off rfl)
      have d0 : ws.cell? ⟨tb, off + k * 3, none⟩ = some (.int .i64 y.tenant) := (World.cell?_of_block hbl).trans c0
      have d1 : ws.cell? ⟨tb, off + k * 3 + 1, none⟩ = some (.string y.key) := (World.cell?_of_block hbl).trans c1
      have d2 : ws.cell? ⟨tb, off + k * 3 + 2, none⟩ = some (.int .i64 v) := (World.cell?_of_block hbl).trans c2
      have hszs := HK.out.size
      have htr : tb < ws.heap.size := by omega
      clear hcells c0 c1 c2 hq hbl
      obtain ⟨uo, uc, rfl, hu1, hu2, hHA⟩ := hO.at
      unfold maxLen at hu2
      have HHA := Hid.mk2 hHA
      have HO := Hid.mk2 hO
      clear hHA hO
      go_wp2
      go_loopw [7, 8] (fun a j wq => ∃ (m n : Nat), m ≤ H.length ∧ j = .int .i64 m ∧ a = .bool (isIn (H.take m) y) ∧ wq = ws.drewN n) (fun _ j _ => H.length - (intOf j).toNat)
      case atStart => exact ⟨0, 0, Nat.zero_le _, rfl, rfl, rfl⟩
      case round =>
        obtain ⟨m, n, hm2, rfl, rfl, rfl⟩ := hrel
        by_cases hml : m < H.length
        · have hml2 : (m : Int) < (H.length : Int) := by omega
          rcases HHA.out with h0 | ⟨hb, hoff, rfl, hhb, hhc⟩
          · rw [h0] at hml; simp at hml
          obtain ⟨e0, e1, e2⟩ := hhc m hml
          have HIT := Hid.mk2 (isIn_take hml y)
          obtain ⟨z, hz⟩ : ∃ z, z = H[m].1 := ⟨_, rfl⟩
          rw [← hz] at e0 e1 HIT
          clear hhc e2 hz
          have hne := nm_eql z y
          obtain ⟨bb, hbb⟩ : ∃ bb, bb = decide (z = y) := ⟨_, rfl⟩
          rw [← hbb] at hne HIT
          clear hbb
          cases hag : isIn (H.take m) y with
          | true =>
            rw [hag] at HIT
            go_wp2
            go_quiet (fail)
            go_wp2
            go_roundw
            case rel => exact ⟨m + 1, _, by omega, by go_num, by rw [HIT.out]; rfl, rfl⟩
            case measure => simp [intOf]; omega
          | false =>
            rw [hag] at HIT
            go_wp2
            go_quiet (fail)
            go_wp2
            go_roundw
            case rel => exact ⟨m + 1, _, by omega, by go_num, by rw [HIT.out]; rfl, rfl⟩
            case measure => simp [intOf]; omega
        · have hmH : m = H.length := by omega
          have hml2 : ¬ (m : Int) < (H.length : Int) := by omega
          subst hmH
          rw [List.take_length]
          have hWn : Wh (ws.drewN n) p now H H b0 mb2 (2 * k) := HW.out.below (below_drewN (Below.refl _ _) n)
          have hOn : OwnD (ws.drewN n) w.heap.size (.slice uo H.length uc) H := HO.out.below (below_drewN (Below.refl _ _) n)
          have HKn : Hid (Kept (Foot p b0 mb) w (ws.drewN n)) := HK.out.trans (Kept.below (F := Foot p b0 mb) (below_drewN (Below.refl _ _) n)) (fun j hj => .inl hj)
          obtain ⟨wn, hwn⟩ : ∃ wn, wn = ws.drewN n := ⟨_, rfl⟩
          have hd0 : wn.cell? ⟨tb, off + k * 3, none⟩ = some (.int .i64 y.tenant) := by rw [hwn]; exact d0
          have hd1 : wn.cell? ⟨tb, off + k * 3 + 1, none⟩ = some (.string y.key) := by rw [hwn]; exact d1
          have hd2 : wn.cell? ⟨tb, off + k * 3 + 2, none⟩ = some (.int .i64 v) := by rw [hwn]; exact d2
          have htn : tb < wn.heap.size := by rw [hwn]; exact htr
          rw [← hwn] at hWn hOn HKn ⊢
          have HWn := Hid.mk2 hWn
          have HOn := Hid.mk2 hOn
          clear hwn d0 d1 d2 hWn hOn htr HK HW HO HHA hszs
          have hszs := HKn.out.size
          cases hag : isIn H y with
          | true =>
            go_upto_region 10 with fail
            go_quiet (fail)
            go_wp2
            go_roundw
            case rel => exact ⟨k + 1, H, mb2, by omega, by go_num, by omega, HOn.out.below (below_drewN (Below.refl _ _) _), Hid.mk2 ((HWn.out.below (below_drewN (Below.refl _ _) _)).mono (by omega)), HKn.out.trans (Kept.below (F := Foot p b0 mb) (below_drewN (Below.refl _ _) _)) (fun j hj => .inl hj), HF, by show _ = _; rw [HST.out]; unfold addedStep; rw [if_neg (fun e => by have := e.1; simp [hag] at this)]⟩
            case measure => simp [intOf]; omega
          | false =>
            have HNO := Hid.mk2 (isIn_false hag)
            have HAG := Hid.mk2 hag
            have hnt : ¬ Foot p b0 mb2 tb := fun hf => (HF.out tb hf).elim (HTF.out (fun e => by rw [e] at hlt2; simp at hlt2) tb off rfl) (fun g => by omega)
            have HNT := Hid.mk2 hnt
            have had := add_any wn.drew p now H b0 mb2 (2 * k) HWn.out.drew (by omega) y v
            have HAWn := Hid.mk2 (fun g hg => (HOn.out.below ((Below.refl _ _).drew)).away HWn.out.drew hlt g hg)
            have hOd : OwnD wn.drew w.heap.size (.slice uo H.length uc) H := HOn.out.below ((Below.refl _ _).drew)
            have HOd := Hid.mk2 hOd
            clear hnt hag hOd
            by_cases hE : addE now y v = 0
            · have hL : addL H now y v = (y, v) :: H := by unfold addL; rw [if_pos hE, strike_none HNO.out]
              rw [hE, hL] at had
              have HAD := Hid.mk2 had
              have HHE := Hid.mk2 hE
              clear had hE hL
              go_upto_region 10 with fail
              go_region_held3 (fun V => V.cell? ⟨tb, off + k * 3, none⟩ = some (.int .i64 y.tenant) ∧ V.cell? ⟨tb, off + k * 3 + 1, none⟩ = some (.string y.key) ∧ V.cell? ⟨tb, off + k * 3 + 2, none⟩ = some (.int .i64 v))
                (first | exact ⟨hd0, hd1, hd2⟩ | exact ⟨k0, k1, k2⟩)
                (first | (go_at_call 11; refine HAD.out.mono ?_; rintro e w2 ⟨rfl, mb3, hW3, hK3, hF3⟩; have hbl := hK3.block tb htn HNT.out; have k0 : w2.cell? ⟨tb, off + k * 3, none⟩ = some (.int .i64 y.tenant) := (World.cell?_of_block hbl).trans hd0; have k1 : w2.cell? ⟨tb, off + k * 3 + 1, none⟩ = some (.string y.key) := (World.cell?_of_block hbl).trans hd1; have k2 : w2.cell? ⟨tb, off + k * 3 + 2, none⟩ = some (.int .i64 v) := (World.cell?_of_block hbl).trans hd2))
              have hO2 : OwnD w2 w.heap.size (.slice uo H.length uc) H := HOd.out.kept hK3 HAWn.out
              have hs2 := hK3.size
              have htb2 : tb < w2.heap.size := Nat.lt_of_lt_of_le htn hs2
              have hsz2 : w.heap.size ≤ w2.heap.size := Nat.le_trans hszs hs2
              have HW3 := Hid.mk2 hW3
              have HK3 := Hid.mk2 hK3
              have HF3 := Hid.mk2 hF3
              clear hW3 hK3 hF3 hbl
              go_wp2_with (at_builtin; refine app_d rfl (.tmp 52) (.tmp 57) rfl w.heap.size _ H hO2 rfl (y, v) rfl _ rfl rfl (by omega) hsz2 ?_; intro v4 w4 ho4 hg4)
              go_roundw
              case rel =>
                have hF03 : ∀ j, Foot p b0 mb3 j → Foot p b0 mb j ∨ w.heap.size ≤ j := fun j hj => (HF3.out j hj).elim (HF.out j) (fun g => .inr (Nat.le_trans hszs g))
                have haw : ∀ g, (Value.slice uo H.length uc).ownBlock = some g → ¬ Foot p b0 mb3 g := fun g hg => hO2.away HW3.out hlt g hg
                have hk4 : Kept (fun g => (Value.slice uo H.length uc).ownBlock = some g) w2 w4 := Kept.grown hg4.grown (fun g hg => .inl hg)
                have hP : ((y, v) :: H).Perm (H ++ [(y, v)]) := (List.perm_append_singleton _ _).symm
                refine ⟨k + 1, H ++ [(y, v)], mb3, by omega, by go_num, by simp; omega, ho4, Hid.mk2 (((HW3.out.kept hk4 (fun g hg e => haw g e hg)).perm hP hP).mono (by omega)), ?_, hF03, by show _ = _; rw [HST.out]; unfold addedStep; rw [if_pos ⟨HAG.out, HHE.out⟩]⟩
                exact ((HKn.out.trans (Kept.drew (Foot p b0 mb) wn) (fun j hj => .inl hj)).trans HK3.out HF.out).trans hk4 (fun g hg => .inr (hO2.lt g hg).1)
              case measure => simp [intOf]; omega
            · have hL : addL H now y v = H := by unfold addL; rw [if_neg hE]
              rw [hL] at had
              obtain ⟨E, hEE⟩ : ∃ E, E = addE now y v := ⟨_, rfl⟩
              have HHE := Hid.mk2 hE
              rw [← hEE] at had hE
              have hE2 : (E == 0) = false := by simpa using hE
              have HAD := Hid.mk2 had
              clear had hE hL hEE
              go_upto_region 10 with fail
              go_region_held3 (fun V => V.cell? ⟨tb, off + k * 3, none⟩ = some (.int .i64 y.tenant) ∧ V.cell? ⟨tb, off + k * 3 + 1, none⟩ = some (.string y.key) ∧ V.cell? ⟨tb, off + k * 3 + 2, none⟩ = some (.int .i64 v))
                (first | exact ⟨hd0, hd1, hd2⟩ | exact ⟨k0, k1, k2⟩)
                (first | (go_at_call 11; refine HAD.out.mono ?_; rintro e w2 ⟨rfl, mb3, hW3, hK3, hF3⟩; have hbl := hK3.block tb htn HNT.out; have k0 : w2.cell? ⟨tb, off + k * 3, none⟩ = some (.int .i64 y.tenant) := (World.cell?_of_block hbl).trans hd0; have k1 : w2.cell? ⟨tb, off + k * 3 + 1, none⟩ = some (.string y.key) := (World.cell?_of_block hbl).trans hd1; have k2 : w2.cell? ⟨tb, off + k * 3 + 2, none⟩ = some (.int .i64 v) := (World.cell?_of_block hbl).trans hd2))
              have hO2 : OwnD w2 w.heap.size (.slice uo H.length uc) H := HOd.out.kept hK3 HAWn.out
              have HW3 := Hid.mk2 hW3
              have HK3 := Hid.mk2 hK3
              have HF3 := Hid.mk2 hF3
              clear hW3 hK3 hF3 hbl
              go_wp2
              go_roundw
              case rel =>
                have hF03 : ∀ j, Foot p b0 mb3 j → Foot p b0 mb j ∨ w.heap.size ≤ j := fun j hj => (HF3.out j hj).elim (HF.out j) (fun g => .inr (Nat.le_trans hszs g))
                refine ⟨k + 1, H, mb3, by omega, by go_num, by omega, hO2, Hid.mk2 (HW3.out.mono (by omega)), ?_, hF03, by show _ = _; rw [HST.out]; unfold addedStep; rw [if_neg (fun e => HHE.out e.2)]⟩
                exact (HKn.out.trans (Kept.drew (Foot p b0 mb) wn) (fun j hj => .inl hj)).trans HK3.out HF.out
              case measure => simp [intOf]; omega
    · have hkT : k = T.length := by omega
      have hlt3 : ¬ (k : Int) < (T.length : Int) := by omega
      subst hkT
      go_wp2
      go_ret
      exact ⟨_, rfl, H, hO, by omega, mb2, HW.out.mono (by omega), HK.out, HF.out, by have := HEQ.out; rwa [List.take_length] at this⟩
theorem addAll_any (w : World) (p now : Nat) (b0 : Nat) (mb : Nat → Option Nat) (h : Wh w p now [] [] b0 mb 0) (ao : Option Addr) (T : List NU) (cap : Nat) (hT : TAt w ao T) (hTF : T ≠ [] → ∀ b off, ao = some ⟨b, off, none⟩ → ¬ Foot p b0 mb b) (hm : T.length ≤ 200) :
    Calls Try.prog 20 #[.pointer (some ⟨p, 0, none⟩), .slice ao T.length cap] w fun e w' => ∃ v', e = .returned v' ∧ ∃ H, OwnD w' w.heap.size v' H ∧ H.length ≤ 200 ∧ ∃ mb', Wh w' p now H H b0 mb' 400 ∧ Kept (Foot p b0 mb) w w' ∧ ∀ k, Foot p b0 mb' k → Foot p b0 mb k ∨ w.heap.size ≤ k := by
  refine (addAll_eq w p now b0 mb h ao T cap hT hTF hm).mono ?_
  rintro e w' ⟨v', h1, H, h2, h3, mb', h4, h5, h6, _⟩
  exact ⟨v', h1, H, h2, h3, mb', h4, h5, h6⟩
end Go.Proofs.Ythcekkahkioibad
