/-
  LruAll: for every order (whatever its size: those that are great are passed over): all keys of an order that may be go once, each as the victim of what is left.
-/
import Derived.Test.YtmdlampmoeiihaaLrAlive
import Derived.Test.YtmdlampmoeiihaaLrGreat
import Derived.Test.YtmdlampmoeiihaaLrPure2
import Derived.Test.YtmdlampmoeiihaaLrIn
namespace Go.Proofs.Ytmdlampmoeiihaa
open Go.ChangeShapes Go.WideShapes Go.ChangeAt Go.RowKit Go.Shelf Go.Lib Go.Sort
open Go.ChangeMaps (open_string shut_string)
set_option linter.unusedSimpArgs false
set_option linter.unusedVariables false
set_option maxRecDepth 100000

theorem last_take {L : List ByteArray} {m : Nat} (hm : m < L.length) : (L.take (m + 1)).getLast?.getD ⟨#[]⟩ = L[m] := by
  rw [List.take_succ_eq_append_getElem hm, List.getLast?_append]
  simp
theorem erase_take {L : List ByteArray} (hnd : L.Nodup) {m : Nat} (hm : m < L.length) : (L.take (m + 1)).erase L[m] = L.take m := by
  have hno : L[m] ∉ L.take m := fun h => by
    obtain ⟨j, hj, e⟩ := List.getElem_of_mem h
    have hj2 : j < m := by simp at hj; omega
    rw [List.getElem_take] at e
    exact List.pairwise_iff_getElem.1 (List.nodup_iff_pairwise_ne.1 hnd) j m (by omega) hm hj2 e
  rw [List.take_succ_eq_append_getElem hm, List.erase_append_right _ hno]
  simp
/-- what the loop keeps -/
structure La (w wr : World) (L M : List ByteArray) (am : Option Addr) (cm k : Nat) (aX : Option Addr) (cX : Nat) (aY : Option Addr) (cY : Nat) (X Y : List ByteArray) : Prop where
  ob : OB wr w.heap.size (.slice aX X.length cX) (.slice aY Y.length cY)
  x : Tl wr aX X cX
  y : Tl wr aY Y cY
  m : Tl wr am M cm
  li : Y ++ X = L.take (L.length - k)
  ok : Ok X Y
  be : Below w.heap.size w wr
theorem La.step {w wr w' : World} {L M : List ByteArray} {am : Option Addr} {cm k : Nat} {aX : Option Addr} {cX : Nat} {aY : Option Addr} {cY : Nat} {X Y : List ByteArray} (h : La w wr L M am cm k aX cX aY cY X Y) (hb : Below wr.heap.size wr w') : La w w' L M am cm k aX cX aY cY X Y :=
  ⟨h.ob.below hb, h.x.below hb, h.y.below hb, h.m.below hb, h.li, h.ok, h.be.trans (hb.mono h.be.size)⟩
/-- one key went -/
theorem La.next {w wr : World} {L M : List ByteArray} {am : Option Addr} {cm k : Nat} {aX : Option Addr} {cX : Nat} {aY : Option Addr} {cY : Nat} {X Y : List ByteArray} (h : La w wr L M am cm k aX cX aY cY X Y) (hL : L.Nodup) (hM : M = L.reverse) (hk : k < M.length)
    (hfar : ∀ g off, am = some ⟨g, off, none⟩ → M ≠ [] → g ≠ w.heap.size)
    {aP : Option Addr} {cP : Nat} {aQ : Option Addr} {cQ base : Nat} (hR : Rw wr base aP cP aQ cQ (dlT X Y M[k]) (dlK X Y M[k])) (hb : w.heap.size < base) :
    La w ((wr.setCell ⟨w.heap.size, 0, none⟩ (.slice aP (dlT X Y M[k]).length cP)).setCell ⟨w.heap.size, 1, none⟩ (.slice aQ (dlK X Y M[k]).length cQ)) L M am cm (k + 1) aP cP aQ cQ (dlT X Y M[k]) (dlK X Y M[k]) := by
  have fP : ∀ g off, aP = some ⟨g, off, none⟩ → dlT X Y M[k] ≠ [] → g ≠ w.heap.size := fun g off e _ => by have := hR.farT g off e; omega
  have fQ : ∀ g off, aQ = some ⟨g, off, none⟩ → dlK X Y M[k] ≠ [] → g ≠ w.heap.size := fun g off e _ => by have := hR.farK g off e; omega
  have hlM : M.length = L.length := by rw [hM]; simp
  have hi : L.length - (k + 1) < L.length := by omega
  have hMk : M[k] = L[L.length - (k + 1)] := by
    subst hM
    rw [List.getElem_reverse]
    congr 1
    omega
  refine ⟨(h.ob.set0 _).set1 _, (hR.tlT.setc _ _ fP).setc _ _ fP, (hR.tlK.setc _ _ fQ).setc _ _ fQ, (h.m.setc _ _ hfar).setc _ _ hfar, ?_, dl_ok h.ok, (h.be.setCell (Nat.le_refl _) _).setCell (Nat.le_refl _) _⟩
  rw [dl_line h.ok.nodup, h.li, hMk, show L.length - k = L.length - (k + 1) + 1 by omega]
  exact erase_take hL hi
theorem La.key {w wr : World} {L M : List ByteArray} {am : Option Addr} {cm k : Nat} {aX : Option Addr} {cX : Nat} {aY : Option Addr} {cY : Nat} {X Y : List ByteArray} (h : La w wr L M am cm k aX cX aY cY X Y) (hM : M = L.reverse) (hk : k < M.length) :
    vic X Y = M[k] ∧ M[k] ∈ Y ++ X ∧ X.length + Y.length ≠ 0 := by
  have hlM : M.length = L.length := by rw [hM]; simp
  have hi : L.length - (k + 1) < L.length := by omega
  have hMk : M[k] = L[L.length - (k + 1)] := by
    subst hM
    rw [List.getElem_reverse]
    congr 1
    omega
  have e : Y ++ X = L.take (L.length - (k + 1) + 1) := by rw [h.li]; congr 1; omega
  refine ⟨?_, ?_, ?_⟩
  · unfold vic
    rw [e, last_take hi, hMk]
  · rw [e, hMk, List.take_succ_eq_append_getElem hi]
    exact List.mem_append.2 (.inr (List.mem_singleton.2 rfl))
  · have := congrArg List.length e
    rw [List.length_append, List.length_take] at this
    omega
set_option maxHeartbeats 4000000 in
theorem all_great (w : World) (aT : Option Addr) (cT : Nat) (aK : Option Addr) (cK : Nat) (T K : List ByteArray) (hTl : Tl w aT T cT) (hKl : Tl w aK K cK) (hg : great T K = true) :
    Calls Try.prog 7 #[.agg #[.slice aT T.length cT, .slice aK K.length cK]] w fun e w' => e = .returned (.bool true) ∧ Below w.heap.size w w' := by
  obtain ⟨W, hW⟩ : ∃ W, W = w.alloc (Obj.cells #[.slice aT T.length cT, .slice aK K.length cK] 24) := ⟨_, rfl⟩
  have HBW : Hid (Below w.heap.size w W) := by rw [hW]; exact (Below.refl _ _).alloc (Nat.le_refl _) _
  have HOB : Hid (OB W w.heap.size (.slice aT T.length cT) (.slice aK K.length cK)) := by rw [hW]; exact OB.made _ _ _
  have HT := Hid.mk2 (fun V (hb : Below W.heap.size W V) => (hTl.below HBW.out).below hb)
  have HK := Hid.mk2 (fun V (hb : Below W.heap.size W V) => (hKl.below HBW.out).below hb)
  have HGR := Hid.mk2 (fun V (hb : Below W.heap.size W V) => great_is T K aT aK cT cK V (HT.out V hb) (HK.out V hb))
  rw [hg] at HGR
  clear hTl hKl hg
  go_enter Try.func7, Try.ntmps7
  go_upto_region 1 with (fail)
  rw [← hW]
  clear hW
  obtain ⟨c0, c1, f0, f1, l0⟩ := HOB.out
  go_wp2_with (first
    | (go_at_call 19; refine (HGR.out _ HB1.out).mono ?_; rintro e w2 ⟨rfl, hb2⟩; have HB2 : Hid (Below W.heap.size W w2) := HB1.out.trans (hb2.mono HB1.out.size); clear c0 c1 f0 f1 l0; obtain ⟨c0, c1, f0, f1, l0⟩ := HOB.out.below HB2.out; clear hb2)
    | (go_at_call 15; refine (alive_any _).mono ?_; rintro e w1 ⟨rfl, hb1⟩; have HB1 : Hid (Below W.heap.size W w1) := hb1; clear c0 c1 f0 f1 l0; obtain ⟨c0, c1, f0, f1, l0⟩ := HOB.out.below HB1.out; clear hb1))
  go_ret
  exact ⟨rfl, HBW.out.trans (HB2.out.mono HBW.out.size)⟩
set_option maxHeartbeats 4000000 in
theorem all_no (w : World) (aT : Option Addr) (cT : Nat) (aK : Option Addr) (cK : Nat) (T K : List ByteArray) (hTl : Tl w aT T cT) (hKl : Tl w aK K cK) (hg : great T K = false) (hok : ¬ Ok T K) :
    Calls Try.prog 7 #[.agg #[.slice aT T.length cT, .slice aK K.length cK]] w fun e w' => e = .returned (.bool true) ∧ Below w.heap.size w w' := by
  obtain ⟨W, hW⟩ : ∃ W, W = w.alloc (Obj.cells #[.slice aT T.length cT, .slice aK K.length cK] 24) := ⟨_, rfl⟩
  have HBW : Hid (Below w.heap.size w W) := by rw [hW]; exact (Below.refl _ _).alloc (Nat.le_refl _) _
  have HOB : Hid (OB W w.heap.size (.slice aT T.length cT) (.slice aK K.length cK)) := by rw [hW]; exact OB.made _ _ _
  have HT := Hid.mk2 (fun V (hb : Below W.heap.size W V) => (hTl.below HBW.out).below hb)
  have HK := Hid.mk2 (fun V (hb : Below W.heap.size W V) => (hKl.below HBW.out).below hb)
  have HGR := Hid.mk2 (fun V (hb : Below W.heap.size W V) => great_is T K aT aK cT cK V (HT.out V hb) (HK.out V hb))
  obtain ⟨hT3, hK3⟩ := great_len hg
  rw [hg] at HGR
  have HCH := Hid.mk2 (fun V (hb : Below W.heap.size W V) => check_any T K aT aK cT cK V (HT.out V hb) (HK.out V hb) hT3 hK3)
  rw [chk_bad hok] at HCH
  clear hTl hKl hg hok
  go_enter Try.func7, Try.ntmps7
  go_upto_region 1 with (fail)
  rw [← hW]
  clear hW
  obtain ⟨c0, c1, f0, f1, l0⟩ := HOB.out
  go_wp2_with (first
    | (go_at_call 18; refine (HCH.out _ HB2.out).mono ?_; rintro e w3 ⟨rfl, hb3⟩; have HB3 : Hid (Below W.heap.size W w3) := HB2.out.trans (hb3.mono HB2.out.size); clear c0 c1 f0 f1 l0; obtain ⟨c0, c1, f0, f1, l0⟩ := HOB.out.below HB3.out; clear hb3)
    | (go_at_call 19; refine (HGR.out _ HB1.out).mono ?_; rintro e w2 ⟨rfl, hb2⟩; have HB2 : Hid (Below W.heap.size W w2) := HB1.out.trans (hb2.mono HB1.out.size); clear c0 c1 f0 f1 l0; obtain ⟨c0, c1, f0, f1, l0⟩ := HOB.out.below HB2.out; clear hb2)
    | (go_at_call 15; refine (alive_any _).mono ?_; rintro e w1 ⟨rfl, hb1⟩; have HB1 : Hid (Below W.heap.size W w1) := hb1; clear c0 c1 f0 f1 l0; obtain ⟨c0, c1, f0, f1, l0⟩ := HOB.out.below HB1.out; clear hb1))
  go_ret
  exact ⟨rfl, HBW.out.trans (HB3.out.mono HBW.out.size)⟩
set_option maxHeartbeats 4000000 in
theorem all_yes (w : World) (aT : Option Addr) (cT : Nat) (aK : Option Addr) (cK : Nat) (T K : List ByteArray) (hTl : Tl w aT T cT) (hKl : Tl w aK K cK) (hg : great T K = false) (hok : Ok T K) :
    Calls Try.prog 7 #[.agg #[.slice aT T.length cT, .slice aK K.length cK]] w fun e w' => e = .returned (.bool true) ∧ Below w.heap.size w w' := by
  obtain ⟨W, hW⟩ : ∃ W, W = w.alloc (Obj.cells #[.slice aT T.length cT, .slice aK K.length cK] 24) := ⟨_, rfl⟩
  have HBW : Hid (Below w.heap.size w W) := by rw [hW]; exact (Below.refl _ _).alloc (Nat.le_refl _) _
  have HOB : Hid (OB W w.heap.size (.slice aT T.length cT) (.slice aK K.length cK)) := by rw [hW]; exact OB.made _ _ _
  have HT := Hid.mk2 (fun V (hb : Below W.heap.size W V) => (hTl.below HBW.out).below hb)
  have HK := Hid.mk2 (fun V (hb : Below W.heap.size W V) => (hKl.below HBW.out).below hb)
  have HGR := Hid.mk2 (fun V (hb : Below W.heap.size W V) => great_is T K aT aK cT cK V (HT.out V hb) (HK.out V hb))
  obtain ⟨hT3, hK3⟩ := great_len hg
  rw [hg] at HGR
  have HCH := Hid.mk2 (fun V (hb : Below W.heap.size W V) => check_any T K aT aK cT cK V (HT.out V hb) (HK.out V hb) hT3 hK3)
  rw [chk_ok hok] at HCH
  have HAL := Hid.mk2 (fun V (hb : Below W.heap.size W V) => all_ok T K aT aK cT cK V (HT.out V hb) (HK.out V hb) hT3 hK3 hok)
  obtain ⟨L, hL⟩ : ∃ L, L = K ++ T := ⟨_, rfl⟩
  obtain ⟨M, hM⟩ : ∃ M, M = L.reverse := ⟨_, rfl⟩
  rw [← hL, ← hM] at HAL
  have HND : Hid L.Nodup := by rw [hL]; exact hok.nodup
  have HMR := Hid.mk2 hM
  have HLL := Hid.mk2 hL
  have hML : M.length = T.length + K.length := by rw [hM, hL, List.length_reverse, List.length_append]; omega
  have q1 : ((M.length : Int) == (T.length : Int) + (K.length : Int)) = true := by simp; omega
  have q2 : ((M.length : Int) != (T.length : Int) + (K.length : Int)) = false := by simp; omega
  have HML : Hid (M.length ≤ 600 ∧ M.length = L.length) := ⟨by omega, by rw [hM]; simp⟩
  have hT3I : (T.length : Int) ≤ 300 := by omega
  have hK3I : (K.length : Int) ≤ 300 := by omega
  have HOK := Hid.mk2 hok
  clear hTl hKl hg hok hL hM hML hT3 hK3
  go_enter Try.func7, Try.ntmps7
  go_upto_region 1 with (fail)
  rw [← hW]
  clear hW
  obtain ⟨c0, c1, f0, f1, l0⟩ := HOB.out
  go_wp2_with (first
    | (go_at_call 11; refine (HAL.out _ HB3.out).mono ?_; rintro e w4 ⟨am, cm, rfl, hO4, hb4⟩; have HB4 : Hid (Below W.heap.size W w4) := HB3.out.trans (hb4.mono HB3.out.size); clear c0 c1 f0 f1 l0; obtain ⟨c0, c1, f0, f1, l0⟩ := HOB.out.below HB4.out; have HO4 := Hid.mk2 hO4; have HM : Hid (Tl w4 am M cm) := (by obtain ⟨ax, cx, e, hh⟩ := hO4.tl; cases e; exact hh); clear hO4 hb4)
    | (go_at_call 18; refine (HCH.out _ HB2.out).mono ?_; rintro e w3 ⟨rfl, hb3⟩; have HB3 : Hid (Below W.heap.size W w3) := HB2.out.trans (hb3.mono HB2.out.size); clear c0 c1 f0 f1 l0; obtain ⟨c0, c1, f0, f1, l0⟩ := HOB.out.below HB3.out; clear hb3)
    | (go_at_call 19; refine (HGR.out _ HB1.out).mono ?_; rintro e w2 ⟨rfl, hb2⟩; have HB2 : Hid (Below W.heap.size W w2) := HB1.out.trans (hb2.mono HB1.out.size); clear c0 c1 f0 f1 l0; obtain ⟨c0, c1, f0, f1, l0⟩ := HOB.out.below HB2.out; clear hb2)
    | (go_at_call 15; refine (alive_any _).mono ?_; rintro e w1 ⟨rfl, hb1⟩; have HB1 : Hid (Below W.heap.size W w1) := hb1; clear c0 c1 f0 f1 l0; obtain ⟨c0, c1, f0, f1, l0⟩ := HOB.out.below HB1.out; clear hb1))
  have HA0 : Hid (La w w4 L M am cm 0 aT cT aK cK T K) := ⟨⟨c0, c1, f0, f1, l0⟩, HT.out _ HB4.out, HK.out _ HB4.out, HM.out, by rw [Nat.sub_zero, List.take_length, HLL.out], HOK.out, HBW.out.trans (HB4.out.mono HBW.out.size)⟩
  have HFAR : Hid (∀ g off, am = some ⟨g, off, none⟩ → M ≠ [] → g ≠ w.heap.size) := fun g off e _ => by
    have h1 := (HO4.out.lt g (by rw [e]; rfl)).1
    have h2 := HB3.out.size
    have h3 := HOB.out.lt
    omega
  clear c0 c1 f0 f1 l0 q1 q2 HAL HCH HGR HB1 HB2 HB3 HB4 HO4 HM
  go_loopw [6] (fun s6 wr => ∃ (k : Nat) (aX : Option Addr) (cX : Nat) (aY : Option Addr) (cY : Nat) (X Y : List ByteArray), k ≤ M.length ∧ s6 = .int .i64 k ∧ Hid (La w wr L M am cm k aX cX aY cY X Y)) (fun s6 _ => M.length - (intOf s6).toNat)
  case atStart => exact ⟨0, aT, cT, aK, cK, T, K, Nat.zero_le _, rfl, HA0⟩
  case round =>
    obtain ⟨k, aX, cX, aY, cY, X, Y, hk, rfl, HA⟩ := hrel
    obtain ⟨c0, c1, f0, f1, l0⟩ := HA.out.ob
    have hkb : (k : Int) ≤ 600 := by have := HML.out.1; omega
    have hmX := HA.out.ok.many
    have HVI := Hid.mk2 (victim_any X Y aX aY cX cY wr HA.out.x HA.out.y (by omega) (by omega))
    rw [if_pos (okO_iff.2 HA.out.ok), if_pos (okO_iff.2 HA.out.ok)] at HVI
    by_cases hlt : k < M.length
    · have hlt2 : (k : Int) < (M.length : Int) := by omega
      obtain ⟨hv, hmem, hne⟩ := HA.out.key HMR.out hlt
      rw [if_neg hne, hv] at HVI
      have hE := htE_in HA.out.ok hmem
      have HDE := Hid.mk2 (fun V (hb : Below wr.heap.size wr V) => del_ok X Y aX aY cX cY M[k] V (HA.out.x.below hb) (HA.out.y.below hb) (by omega) (by omega) hE)
      have HNX := Hid.mk2 (fun (wz : World) (hA : La w wz L M am cm k aX cX aY cY X Y) aP cP aQ cQ base (hR : Rw wz base aP cP aQ cQ (dlT X Y M[k]) (dlK X Y M[k])) (hb : w.heap.size < base) => hA.next HND.out HMR.out hlt HFAR.out hR hb)
      obtain ⟨s, hs⟩ : ∃ s, s = M[k] := ⟨_, rfl⟩
      have HMC : Hid (∀ V, Below wr.heap.size wr V → ∃ b off, am = some ⟨b, off, none⟩ ∧ b < V.heap.size ∧ V.cell? ⟨b, off + k, none⟩ = some (.string s)) := fun V hb => by rw [hs]; exact at_of (HA.out.m.below hb) hlt
      rw [← hs] at HVI HDE HNX
      obtain ⟨P, hP⟩ : ∃ P, P = dlT X Y s := ⟨_, rfl⟩
      obtain ⟨Q, hQ⟩ : ∃ Q, Q = dlK X Y s := ⟨_, rfl⟩
      rw [← hP, ← hQ] at HDE HNX
      have ss : (s.toList == s.toList) = true := by simp
      have hsw : Hid (w.heap.size < wr.heap.size) := HA.out.ob.lt
      clear hv hmem hne hE hs hP hQ hmX
      go_upto_region 13 with (go_at_call 10; refine HVI.out.mono ?_; rintro e w5 ⟨rfl, hb5⟩; have HB5 := Hid.mk2 hb5; clear c0 c1 f0 f1 l0; obtain ⟨c0, c1, f0, f1, l0⟩ := HA.out.ob.below hb5; clear hb5)
      obtain ⟨b, off, rfl, hb, hc⟩ := HMC.out w5 HB5.out
      go_cut [9, 10] from 54 to 77 (fun s9 s10 wx => ∃ (C : Nat) (aP : Option Addr) (cP : Nat) (aQ : Option Addr) (cQ : Nat), s9 = .pointer (some ⟨C, 0, none⟩) ∧ s10 = .int .i64 0 ∧ Hid (Below w5.heap.size w5 wx) ∧ Hid (OB wx C (.slice aP P.length cP) (.slice aQ Q.length cQ)) ∧ Hid (Rw wx w5.heap.size aP cP aQ cQ P Q))
      case first =>
        go_region_with (go_at_call 13; refine (HDE.out _ (HB5.out.trans (show Below wr.heap.size w5 _ from Below.mono (by first | exact Below.refl _ _ | exact (Below.refl _ _).drew | exact ((Below.refl _ _).alloc (Nat.le_refl _) _).drew | exact (Below.refl _ _).alloc (Nat.le_refl _) _ | exact (Below.refl _ _).drew.alloc (Nat.le_refl _) _) HB5.out.size))).mono ?_; rintro e w6 ⟨aP, cP, aQ, cQ, rfl, hRw, hb6⟩; have HB6 : Hid (Below w5.heap.size w5 w6) := (by first | exact hb6 | exact below_drew0 hb6 | exact below_alloc (below_drew0 hb6) | exact below_alloc hb6 | exact below_drew0 (below_alloc hb6)); (try (have HN6 := Hid.mk2 ((OB.made w5 (.slice none 0 0) (.slice none 0 0)).below (by first | exact hb6 | exact below_drew0 hb6)); obtain ⟨n0, n1, m0, m1, nl⟩ := HN6.out)); have HR6 := Hid.mk2 hRw; clear hRw hb6)
        all_goals
          go_wp2
          go_meet
          case rel =>
            first
              | exact ⟨w6.heap.size, aP, cP, aQ, cQ, rfl, rfl, HB6.out.alloc HB6.out.size _, OB.made _ _ _, HR6.out.below ((Below.refl _ _).alloc (Nat.le_refl _) _)⟩
              | (have hR6 : Rw w6 (w5.heap.size + 1) aP cP aQ cQ P Q := HR6.out.base (by first | (simp; done) | (show _ ≤ (w5.alloc _).heap.size; simp))
                 have far : ∀ g, (Value.slice aP P.length cP).ownBlock = some g ∨ (Value.slice aQ Q.length cQ).ownBlock = some g → g ≠ w5.heap.size := fun g hg => by
                   rcases hg with hg | hg
                   · have := (hR6.t.lt g hg).1
                     omega
                   · have := (hR6.k.lt g hg).1
                     omega
                 exact ⟨w5.heap.size, aP, cP, aQ, cQ, rfl, rfl, (HB6.out.setCell (Nat.le_refl _) _).setCell (Nat.le_refl _) _, (HN6.out.set0 _).set1 _, ((hR6.set ⟨w5.heap.size, 0, none⟩ _ far).set ⟨w5.heap.size, 1, none⟩ _ far).base (by omega)⟩)
      case rest =>
        obtain ⟨C, aP, cP, aQ, cQ, rfl, rfl, HB7, HO7, HR7⟩ := hcut
        obtain ⟨w7, hw7⟩ : ∃ x, x = wc := ⟨_, rfl⟩
        rw [← hw7] at HB7 HO7 HR7 ⊢
        clear hw7 c0 c1 f0 f1 l0
        have HBr : Hid (Below wr.heap.size wr w7) := HB5.out.trans (HB7.out.mono HB5.out.size)
        have HA7 := Hid.mk2 (HA.out.step HBr.out)
        obtain ⟨c0, c1, f0, f1, l0⟩ := HA7.out.ob
        obtain ⟨x0, x1, y0, y1, xl⟩ := HO7.out
        have hc7 := (below_cells HB7.out b (off + k) hb).trans hc
        go_wp2
        go_roundw
        case rel => exact ⟨k + 1, aP, cP, aQ, cQ, P, Q, by omega, by go_num, HNX.out w7 HA7.out aP cP aQ cQ w5.heap.size HR7.out (Nat.lt_of_lt_of_le hsw.out HB5.out.size)⟩
        case measure => simp [intOf]; omega
    · have hlt2 : ¬ (k : Int) < (M.length : Int) := by omega
      have hz : X.length + Y.length = 0 := by
        have := congrArg List.length HA.out.li
        rw [List.length_append, List.length_take] at this
        have := HML.out.2
        omega
      rw [if_pos hz] at HVI
      obtain ⟨v, hv⟩ : ∃ v, v = vic X Y := ⟨_, rfl⟩
      rw [← hv] at HVI
      clear hv hz hmX
      go_wp2_with (go_at_call 10; refine HVI.out.mono ?_; rintro e w5 ⟨rfl, hb5⟩; have HB5 := Hid.mk2 hb5; clear hb5)
      go_ret
      exact ⟨rfl, HA.out.be.trans (HB5.out.mono HA.out.be.size)⟩
theorem lruAll_walk (w : World) (aT : Option Addr) (cT : Nat) (aK : Option Addr) (cK : Nat) (T K : List ByteArray) (hTl : Tl w aT T cT) (hKl : Tl w aK K cK) :
    Calls Try.prog 7 #[.agg #[.slice aT T.length cT, .slice aK K.length cK]] w fun e w' => e = .returned (.bool true) ∧ Below w.heap.size w w' := by
  cases hg : great T K with
  | true => exact all_great w aT cT aK cK T K hTl hKl hg
  | false =>
    by_cases hok : Ok T K
    · exact all_yes w aT cT aK cK T K hTl hKl hg hok
    · exact all_no w aT cT aK cK T K hTl hKl hg hok

set_option maxRecDepth 100000 in
theorem lruAll_lifted (os : Os) (started : os.Started) (H : Type) (enc : TypeId × Value → H) :
    ReturnsInHanded {} Try.checked os 7 .any (Rows.lruAllSpec.pre6 enc Try.prog Try.f7 Rows.lruAllRow.domain false) (Rows.lruAllSpec.post enc Try.prog Try.f7 false true false false) := by
  refine returnsInHanded_of_change (C := Try.checked) (by kernel_rfl) started (by kernel_rfl) Try.func7
    (ChangeSpec.witness6 (enc := enc) (C := Try.checked) false ⟨#[], #[.agg #[.slice none 0 0, .slice none 0 0]], []⟩ 8 (by kernel_rfl) (by kernel_rfl) (by kernel_rfl) (by kernel_rfl)) ?_
  intro W base args ds gs before hval0 hW hcnd _
  have hval : ∀ (j : Nat) t v, Try.f7.params[j]? = some t → args[j]? = some v → Value.okWide Try.prog W .any base t v := hval0
  have hW' := hW
  obtain ⟨p, q, hA0, hV, rfl, hfz, hnd⟩ := hW
  have hA : DataW.TrodAll enc Try.prog W 0 (fun _ => true) true Try.f7.params.toList args.toList ds p := hA0
  rw [Try.params7] at hA hval
  obtain ⟨v0, vs0, d0, ds0, p0, q0, hargs, rfl, rfl, h0, r0⟩ := trodAll_cons hA
  obtain ⟨rfl, rfl, rfl⟩ := trodAll_nil r0
  obtain rfl : args = #[v0] := by cases args; simp_all
  obtain ⟨rfl, rfl⟩ := trodVars_none hV
  have k0 := h0
  have lt0 : ∀ x ∈ p0, x.block < W.heap.size := by obtain ⟨m, hm⟩ := k0; exact DataW.trod_lt m _ _ _ hm
  obtain ⟨aT0, cT0, aK0, cK0, T0, K0, rfl, hT0, hK0⟩ := inOrder_of (fun _ => rfl) (hval 0 24 v0 rfl rfl) h0
  clear hA0 hval0
  refine (lruAll_walk W aT0 cT0 aK0 cK0 T0 K0 hT0 hK0).mono fun e W' ⟨he, bel⟩ => ?_
  subst he
  exact ⟨_, rfl, _, _, _, [], _, [], hW', trodAll_mk1 (shut_bool Try.underlying4 _), (trodAll_cons_mk (Below.trod laidOut_all (by kernel_rfl) (of_decide_eq_true (by kernel_rfl)) k0 bel lt0) trodAll_mk0), rfl, bel.frame _, fun h => by cases h⟩

theorem lruAll_proved : Rows.LruAllSaid :=
  OpenClaim.holds_of_wide 7 Try.f7 rfl rfl rfl rfl rfl rfl rfl ⟨rfl, rfl, rfl, rfl, rfl⟩ rfl rfl rfl rfl rfl (by kernel_rfl) Try.func7 (by kernel_rfl)
    (of_decide_eq_true (by kernel_rfl)) (by unfold Func.isWrapper; first | (rw [if_pos (by decide +kernel)]; kernel_rfl) | (rw [if_neg (by decide +kernel)]; exact ⟨rfl, rfl⟩))
    (fun os started H enc _ => lruAll_lifted os started H enc)
#print axioms lruAll_proved
end Go.Proofs.Ytmdlampmoeiihaa
