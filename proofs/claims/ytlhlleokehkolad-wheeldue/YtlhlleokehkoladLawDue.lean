/-
  WheelDue is true for every moment, every list of names with moments, every later moment: what is due is just what has that moment or one ahead, by the moments and then rising, and all else is left; no condition.
-/
import Derived.Test.YtlhlleokehkoladWhRows
namespace Go.Proofs.Ytlhlleokehkolad
open Go.ChangeShapes Go.WideShapes Go.ChangeAt Go.RowKit
open Go.ChangeMaps (open_string shut_string)
set_option linter.unusedSimpArgs false
set_option linter.unusedVariables false
set_option maxRecDepth 100000

theorem TAt.same {w w' : World} {ao : Option Addr} {T : List NU} (h : TAt w ao T) (hs : w.heap.size ≤ w'.heap.size) (e : ∀ b off, ao = some ⟨b, off, none⟩ → b < w.heap.size → w'.heap[b]? = w.heap[b]?) : TAt w' ao T := by
  rcases h with h | ⟨b, off, h1, h2, h3⟩
  · exact .inl h
  · have hb := e b off h1 h2
    refine .inr ⟨b, off, h1, by omega, fun i hi => ?_⟩
    obtain ⟨c0, c1, c2⟩ := h3 i hi
    exact ⟨(World.cell?_of_block hb).trans c0, (World.cell?_of_block hb).trans c1, (World.cell?_of_block hb).trans c2⟩
theorem due_rest (t : Nat) : ∀ H : List NU, (dueOf t H).length + (restOf t H).length = H.length
  | [] => rfl
  | q :: H => by
    have ih := due_rest t H
    unfold dueOf restOf at ih ⊢
    by_cases h : q.2 ≤ (t : Int)
    · have h2 : ¬ (t : Int) < q.2 := by omega
      simp [h, h2] at ih ⊢; omega
    · have h2 : (t : Int) < q.2 := by omega
      simp [h, h2] at ih ⊢; omega

def zNU : NU := (⟨0, ⟨#[]⟩⟩, -1)
/-- the one that was told last -/
def lastOf (S : List NU) (k : Nat) : NU := (zNU :: S).getD k zNU
theorem last_zero (S : List NU) : lastOf S 0 = zNU := rfl
theorem last_succ {S : List NU} {k : Nat} (hk : k < S.length) : lastOf S (k + 1) = S[k] := by
  unfold lastOf
  simp [hk]
theorem last_lt {S : List NU} (hS : S.Pairwise tlt) (hp : ∀ q ∈ S, 0 ≤ q.2) {k : Nat} (hk : k < S.length) : (lastOf S k).2 < S[k].2 ∨ ((lastOf S k).2 = S[k].2 ∧ nlt (lastOf S k).1 S[k].1) := by
  cases k with
  | zero =>
    rw [last_zero]
    exact .inl (by have := hp _ (List.getElem_mem hk); show (-1 : Int) < _; omega)
  | succ k =>
    rw [last_succ (by omega)]
    exact List.pairwise_iff_getElem.1 hS k (k + 1) (by omega) hk (by omega)
/-- the one that was found among the first ones -/
def atOf (H : List NU) (m : Nat) (q : NU) : NU := if isIn (H.take m) q.1 then q else zNU

theorem at_succ {H : List NU} (hap : H.Pairwise (fun p q => p.1 ≠ q.1)) {q : NU} (hq : q ∈ H) {m : Nat} (hm : m < H.length) : atOf H (m + 1) q = if H[m].1 = q.1 then H[m] else atOf H m q := by
  unfold atOf
  rw [isIn_take hm]
  by_cases h : H[m].1 = q.1
  · have e : H[m] = q := by
      have h1 : (q.1, H[m].2) ∈ H := by rw [← h]; exact List.getElem_mem hm
      have h2 := nu_one hap h1 (show (q.1, q.2) ∈ H from hq)
      exact Prod.ext h h2
    simp [h, e]
  · simp [h]
theorem at_all {H : List NU} {q : NU} (hq : q ∈ H) : atOf H H.length q = q := by
  unfold atOf isIn
  rw [List.take_length, if_pos]
  exact List.any_eq_true.2 ⟨q, hq, by simp⟩

theorem set3 {w : World} {B : Nat} {p0 p1 p2 : Value} (h0 : w.cell? ⟨B, 0, none⟩ = some p0) (h1 : w.cell? ⟨B, 1, none⟩ = some p1) (h2 : w.cell? ⟨B, 2, none⟩ = some p2) (a b c : Value) :
    (((w.setCell ⟨B, 0, none⟩ a).setCell ⟨B, 1, none⟩ b).setCell ⟨B, 2, none⟩ c).cell? ⟨B, 0, none⟩ = some a ∧ (((w.setCell ⟨B, 0, none⟩ a).setCell ⟨B, 1, none⟩ b).setCell ⟨B, 2, none⟩ c).cell? ⟨B, 1, none⟩ = some b ∧ (((w.setCell ⟨B, 0, none⟩ a).setCell ⟨B, 1, none⟩ b).setCell ⟨B, 2, none⟩ c).cell? ⟨B, 2, none⟩ = some c := by
  refine ⟨?_, ?_, ?_⟩
  · rw [World.cell?_setCell_other _ _ _ _ (by simp), World.cell?_setCell_other _ _ _ _ (by simp)]
    exact World.cell?_setCell_same _ _ _ h0
  · rw [World.cell?_setCell_other _ _ _ _ (by simp)]
    refine World.cell?_setCell_same (u := p1) _ _ _ ?_
    rw [World.cell?_setCell_other _ _ _ _ (by simp)]
    exact h1
  · refine World.cell?_setCell_same (u := p2) _ _ _ ?_
    rw [World.cell?_setCell_other _ _ _ _ (by simp), World.cell?_setCell_other _ _ _ _ (by simp)]
    exact h2

set_option maxHeartbeats 4000000 in
theorem wheelDue_good (w : World) (now t : Nat) (hn : now ≤ 1099511627776) (ht : now ≤ t) (ht2 : t ≤ 1099511627776) (a1 : Option Addr) (cap1 : Nat) (T : List NU) (hc1 : T.length ≤ cap1) (hc2 : cap1 ≤ maxLen) (hT : TAt w a1 T) :
    Calls Try.prog 5 #[.int .i64 now, .slice a1 T.length cap1, .int .i64 t] w fun e w' => e = .returned (.bool true) ∧ Below w.heap.size w w' := by
  have HAL := Hid.mk2 (alive_any w)
  have HT := Hid.mk2 hT
  have hTm : T.length ≤ maxLen := Nat.le_trans hc1 hc2
  unfold maxLen at hc2
  clear hT
  go_enter Try.func5, Try.ntmps5
  go_upto_region 4 with (go_at_call 8; refine HAL.out.mono ?_; rintro e w0 ⟨rfl, hb0⟩)
  have HN := Hid.mk2 (new_any w0 now hn)
  go_upto_region 5 with (go_at_call 9; refine HN.out.mono ?_; rintro e w1 ⟨p, rfl, hp, hb1, mu, hW1, hmu⟩)
  have hb01 : Below w.heap.size w w1 := hb0.trans (hb1.mono hb0.size)
  have hT1 := HT.out.below hb01
  have HSM := Hid.mk2 (small_any w1 a1 T cap1 hT1 hTm)
  have hF1 : ∀ k, Foot p mu (fun _ => none) k → w.heap.size ≤ k := fun k hk => by
    have := hb0.size
    rcases hk with rfl | rfl | ⟨i, _, e⟩
    · omega
    · omega
    · cases e
  have HF1 := Hid.mk2 hF1
  have HW1 := Hid.mk2 hW1
  have HB1 := Hid.mk2 hb01
  clear hW1 hF1 hb0 hb1 hp hmu hT1
  go_upto_region 7 with (go_at_call 18; refine HSM.out.mono ?_; rintro e wq ⟨⟨hv, rfl, hv2⟩, hwq⟩; obtain rfl : w1 = wq := hwq.symm; cases hv)
  · go_ret
    exact ⟨rfl, HB1.out⟩
  have hT200 : T.length ≤ 200 := by
    rcases hv2 with h | h
    · cases h
    · exact h
  have HAA := Hid.mk2 (addAll_any w1 p now mu (fun _ => none) HW1.out a1 T cap1 (HT.out.below HB1.out) (fun hne b off e hf => by
    have h1 := HF1.out b hf
    rcases HT.out with h0 | ⟨b', off', e', hb', _⟩
    · exact hne h0
    · rw [e'] at e
      cases e
      omega) hT200)
  have hp1 : p < w1.heap.size := HW1.out.lt (.inl rfl)
  clear hv2 HSM HAL HN
  go_upto_region 8 with (go_at_call 19; refine HAA.out.mono ?_; rintro e w2 ⟨v2, rfl, H, hO2, hH200, mb2, hW2, hK2, hF2⟩)
  obtain ⟨uo, uc, rfl, hu1, hu2, hHA⟩ := hO2.at
  unfold maxLen at hu2
  have hFB2 : ∀ k, Foot p mu mb2 k → w.heap.size ≤ k := fun k hk => (hF2 k hk).elim (HF1.out k) (fun g => by have := HB1.out.size; omega)
  have hb02 : Below w.heap.size w w2 := HB1.out.trans (hK2.to_below HB1.out.size HF1.out)
  have HTI := Hid.mk2 (tick_any w2 p now H mu mb2 400 hW2 (by omega) t ht ht2)
  have HAWY : Hid (∀ b off, uo = some ⟨b, off, none⟩ → H ≠ [] → ¬ Foot p mu mb2 b) := fun b off e hne => by
    rcases hO2.2 with ⟨e1, hn1⟩ | ⟨g, cap', cur, e1, _⟩
    · exact absurd (List.eq_nil_of_length_eq_zero hn1) hne
    · cases e1
      cases e
      exact hO2.away hW2 hp1 _ rfl
  have HFB2 := Hid.mk2 hFB2
  have HB2 := Hid.mk2 hb02
  have HHA := Hid.mk2 hHA
  have HGB := Hid.mk2 hW2.gb
  have HAP := Hid.mk2 hW2.apart
  clear hFB2 hb02 hHA hW2 hK2 hF2 hO2 HAA HF1 HB1 HW1 HT hp1
  go_upto_region 9 with (go_at_call 11; refine HTI.out.mono ?_; rintro e w5 ⟨g, S, rfl, hA5, hP5, hR5, mb5, hW5, hK5, hF5, hg5⟩)
  have hHA5 : TAt w5 uo H := by
    by_cases hH0 : H = []
    · exact .inl hH0
    · exact HHA.out.same hK5.size (fun b off e hb => hK5.block b hb (HAWY.out b off e hH0))
  have hb05 : Below w.heap.size w w5 := HB2.out.trans (hK5.to_below HB2.out.size HFB2.out)
  have hSl : S.length = (dueOf t H).length := hP5.length_eq
  have hSH : S.length ≤ H.length := by have : (dueOf t H).length ≤ H.length := List.length_filter_le _ _; omega
  have HSL := Hid.mk2 hSl
  have HP5 := Hid.mk2 hP5
  have HR5 := Hid.mk2 hR5
  have HW5 := Hid.mk2 hW5
  have HA5 := Hid.mk2 hA5
  have HHA5 := Hid.mk2 hHA5
  have HB5 := Hid.mk2 hb05
  clear hSl hK5 hF5 hg5 hP5 hR5 hW5 hA5 hHA5 hb05 HTI HAWY HFB2 HB2 HHA
  have HRL : Hid ((restOf t H).length + S.length = H.length) := by
    show _ = _
    have := due_rest t H
    have := HSL.out
    omega
  go_upto_region 13 with fail
  obtain ⟨w6, hw6⟩ : ∃ w6, w6 = w5.alloc (.cells #[.int .i64 0, .string ⟨#[]⟩, .int .i64 (-1)] 57) := ⟨_, rfl⟩
  obtain ⟨Z, hZ⟩ : ∃ Z, Z = w5.heap.size := ⟨_, rfl⟩
  have z0 : w6.cell? ⟨Z, 0, none⟩ = some (.int .i64 0) := by rw [hw6, hZ]; simp
  have z1 : w6.cell? ⟨Z, 1, none⟩ = some (.string ⟨#[]⟩) := by rw [hw6, hZ]; simp
  have z2 : w6.cell? ⟨Z, 2, none⟩ = some (.int .i64 (-1)) := by rw [hw6, hZ]; simp
  have zf : ∀ j, w6.frozen? ⟨Z, j, none⟩ = false := fun j => by rw [hw6, hZ]; simp
  have hb56 : Below w5.heap.size w5 w6 := by rw [hw6]; exact alb _ _
  have hs6 : Z < w6.heap.size := by rw [hw6, hZ]; simp
  have HZ5 : Hid (w5.heap.size ≤ Z) := by rw [hZ]; exact Nat.le_refl _
  have HW6 := Hid.mk2 (HW5.out.below hb56)
  have HA6 := Hid.mk2 (HA5.out.below hb56)
  have HHA6 := Hid.mk2 (HHA5.out.below hb56)
  have HB6 : Hid (Below w.heap.size w w6) := HB5.out.trans (hb56.mono HB5.out.size)
  have HZF := Hid.mk2 zf
  first
    | rw [← hw6, ← hZ]
    | (rw [← hZ]; rw [← hw6])
  have HZE := Hid.mk2 hZ
  have HB56 := Hid.mk2 hb56
  clear hw6 hZ hb56 zf
  have hHl : H.length ≤ 200 := hH200
  go_wp2
  go_loopw [15, 17] (fun n i wr => ∃ k : Nat, k ≤ H.length ∧ i = .int .i64 k ∧ n = .int .i64 ((dueOf t (H.take k)).length : Nat) ∧ Below w6.heap.size w6 wr) (fun _ i _ => H.length - (intOf i).toNat)
  case atStart => exact ⟨0, Nat.zero_le _, rfl, rfl, Below.refl _ _⟩
  case round =>
    obtain ⟨k, hk, rfl, rfl, hbr⟩ := hrel
    by_cases hlt : k < H.length
    · have hlt2 : (k : Int) < (H.length : Int) := by omega
      rcases HHA6.out with h0 | ⟨hb, hoff, rfl, hhb, hhc⟩
      · rw [h0] at hlt; simp at hlt
      obtain ⟨c0, c1, c2⟩ := hhc k hlt
      obtain ⟨q, hq⟩ : ∃ q, q = H[k] := ⟨_, rfl⟩
      have hqH : q ∈ H := by rw [hq]; exact List.getElem_mem hlt
      have htk : dueOf t (H.take (k + 1)) = if q.2 ≤ (t : Int) then dueOf t (H.take k) ++ [q] else dueOf t (H.take k) := by rw [List.take_succ_eq_append_getElem hlt, ← hq, due_snoc]
      rw [← hq] at c0 c1 c2
      have d0 := (hbr.cell (p := ⟨hb, hoff + k * 3, none⟩) hhb).trans c0
      have d1 := (hbr.cell (p := ⟨hb, hoff + k * 3 + 1, none⟩) hhb).trans c1
      have d2 := (hbr.cell (p := ⟨hb, hoff + k * 3 + 2, none⟩) hhb).trans c2
      have hdl : (dueOf t (H.take k)).length ≤ 200 := Nat.le_trans (List.length_filter_le _ _) (by simp; omega)
      have hun := until_any wr p t _ mu mb5 _ (HW6.out.below hbr) q.1
      have hok := (HGB.out q hqH).1
      have hbr2 : hb < wr.heap.size := Nat.lt_of_lt_of_le hhb hbr.size
      clear hhc c0 c1 c2 hq
      obtain ⟨y, v⟩ := q
      simp only [] at d0 d1 d2 hun hok htk
      by_cases hv : v ≤ (t : Int)
      · rw [if_pos hv] at htk
        have HTK := Hid.mk2 htk
        have hres : Calls Try.prog 12 #[.pointer (some ⟨p, 0, none⟩), .agg #[.int .i64 y.tenant, .string y.key]] wr fun e w' => e = .returned (.tuple #[.int .i64 0, .int .i64 6]) ∧ Below wr.heap.size wr w' := by
          refine hun.mono ?_
          rintro e w' ⟨hbw, hc⟩
          rcases hc with ⟨h1, _⟩ | ⟨_, _, rfl⟩ | ⟨_, u, hu, _⟩
          · exact absurd hok h1
          · exact ⟨rfl, hbw⟩
          · exfalso
            have hu2 := List.mem_filter.1 hu
            have := nu_one HAP.out hu2.1 hqH
            have h3 := hu2.2
            simp at h3
            omega
        have HRES := Hid.mk2 hres
        clear hres hun htk
        go_wp2_with (go_at_call 12; refine HRES.out.mono ?_; rintro e w7 ⟨rfl, hb7⟩; have k2 := (hb7.cell (p := ⟨hb, hoff + k * 3 + 2, none⟩) hbr2).trans d2; have hbr7 := Nat.lt_of_lt_of_le hbr2 hb7.size)
        go_roundw
        case rel => exact ⟨k + 1, by omega, by go_num, by rw [HTK.out]; simp, hbr.trans (hb7.mono hbr.size)⟩
        case measure => simp [intOf]; omega
      · have hv2 : decide (v ≤ (t : Int)) = false := by simpa using hv
        rw [if_neg hv] at htk
        have HTK := Hid.mk2 htk
        have hres : Calls Try.prog 12 #[.pointer (some ⟨p, 0, none⟩), .agg #[.int .i64 y.tenant, .string y.key]] wr fun e w' => e = .returned (.tuple #[.int .i64 v, .int .i64 0]) ∧ Below wr.heap.size wr w' := by
          have hqR : (y, v) ∈ restOf t H := List.mem_filter.2 ⟨hqH, by simp; omega⟩
          refine hun.mono ?_
          rintro e w' ⟨hbw, hc⟩
          rcases hc with ⟨h1, _⟩ | ⟨_, h1, _⟩ | ⟨_, u, hu, rfl⟩
          · exact absurd hok h1
          · exact absurd rfl (h1 (y, v) hqR)
          · have hu2 := List.mem_filter.1 hu
            have := nu_one HAP.out hu2.1 hqH
            rw [this]
            exact ⟨rfl, hbw⟩
        have HRES := Hid.mk2 hres
        clear hres hun htk
        go_wp2_with (go_at_call 12; refine HRES.out.mono ?_; rintro e w7 ⟨rfl, hb7⟩; have k2 := (hb7.cell (p := ⟨hb, hoff + k * 3 + 2, none⟩) hbr2).trans d2; have hbr7 := Nat.lt_of_lt_of_le hbr2 hb7.size)
        go_roundw
        case rel => exact ⟨k + 1, by omega, by go_num, by rw [HTK.out], hbr.trans (hb7.mono hbr.size)⟩
        case measure => simp [intOf]; omega
    · have hkH : k = H.length := by omega
      have hlt2 : ¬ (k : Int) < (H.length : Int) := by omega
      subst hkH
      rw [List.take_length, ← HSL.out]
      have HBL : Hid (Below Z w5 wr) := by
        show Below Z w5 wr
        rw [HZE.out]
        exact HB56.out.trans (hbr.mono HB56.out.size)
      have y0 := (hbr.cell (p := ⟨Z, 0, none⟩) hs6).trans z0
      have y1 := (hbr.cell (p := ⟨Z, 1, none⟩) hs6).trans z1
      have y2 := (hbr.cell (p := ⟨Z, 2, none⟩) hs6).trans z2
      have yf : ∀ j, wr.frozen? ⟨Z, j, none⟩ = false := fun j => (hbr.frozen (p := ⟨Z, j, none⟩) hs6).trans (HZF.out j)
      have hZr : Z < wr.heap.size := Nat.lt_of_lt_of_le hs6 hbr.size
      have HBEG : Hid (wr.cell? ⟨Z, 0, none⟩ = some (.int .i64 (lastOf S 0).1.tenant) ∧ wr.cell? ⟨Z, 1, none⟩ = some (.string (lastOf S 0).1.key) ∧ wr.cell? ⟨Z, 2, none⟩ = some (.int .i64 (lastOf S 0).2)) := ⟨y0, y1, y2⟩
      have HYF := Hid.mk2 yf
      have HPOS : Hid (∀ q ∈ S, q ∈ H ∧ 0 ≤ q.2 ∧ q.2 ≤ (t : Int)) := fun q hq => by
        have h1 := HP5.out.mem_iff.1 hq
        have h2 := List.mem_filter.1 h1
        have h3 := (HGB.out q h2.1).2.1
        have h4 := h2.2
        simp at h4
        exact ⟨h2.1, by omega, h4⟩
      clear y0 y1 y2 yf z0 z1 z2 hbr HZF HB56 HW6 HA6 HHA6 hs6
      go_wp2
      go_loopw [20] (fun i wr => ∃ k : Nat, k ≤ S.length ∧ i = .int .i64 k ∧ Below Z w5 wr ∧ Z < wr.heap.size ∧ Hid (wr.cell? ⟨Z, 0, none⟩ = some (.int .i64 (lastOf S k).1.tenant) ∧ wr.cell? ⟨Z, 1, none⟩ = some (.string (lastOf S k).1.key) ∧ wr.cell? ⟨Z, 2, none⟩ = some (.int .i64 (lastOf S k).2)) ∧ Hid (∀ j, wr.frozen? ⟨Z, j, none⟩ = false)) (fun i _ => S.length - (intOf i).toNat)
      case atStart => exact ⟨0, Nat.zero_le _, rfl, HBL.out, hZr, HBEG, HYF⟩
      case round =>
        obtain ⟨k, hk, rfl, hbr, hZr2, HLA, HZF⟩ := hrel
        obtain ⟨ws, rfl⟩ : ∃ ws, ws = wr := ⟨_, rfl⟩
        clear HBL HBEG HYF hZr
        by_cases hlt : k < S.length
        · have hltk : (k : Int) < (S.length : Int) := by omega
          obtain ⟨q, hq⟩ : ∃ q, q = S[k] := ⟨_, rfl⟩
          have hqS : q ∈ S := by rw [hq]; exact List.getElem_mem hlt
          obtain ⟨hqH, hq0, hqt⟩ := HPOS.out q hqS
          have HLL := Hid.mk2 (last_lt HR5.out (fun q hq => (HPOS.out q hq).2.1) hlt)
          have HLS := Hid.mk2 (last_succ hlt)
          rw [← hq] at HLL HLS
          have hgc := HA5.out.cells k (by simpa using hlt)
          have hgl : g < Z := by rw [HZE.out]; exact HA5.out.lt
          have e0 : ws.cell? ⟨g, k * 2, none⟩ = some (.int .i64 q.1.tenant) := by rw [hq]; exact (hbr.cell (p := ⟨g, k * 2, none⟩) hgl).trans (by simpa using hgc.1)
          have e1 : ws.cell? ⟨g, k * 2 + 1, none⟩ = some (.string q.1.key) := by rw [hq]; exact (hbr.cell (p := ⟨g, k * 2 + 1, none⟩) hgl).trans (by simpa using hgc.2)
          have HZG : Hid (g < Z) := hgl
          clear hq hgc hgl hqS
          go_upto_region 27 with fail
          obtain ⟨wY, hwY⟩ : ∃ wY, wY = ws.alloc (.cells #[.int .i64 0, .string ⟨#[]⟩, .int .i64 (-1)] 57) := ⟨_, rfl⟩
          obtain ⟨Y, hY⟩ : ∃ Y, Y = ws.heap.size := ⟨_, rfl⟩
          have HY0 : Hid (wY.cell? ⟨Y, 0, none⟩ = some (.int .i64 (atOf H 0 q).1.tenant) ∧ wY.cell? ⟨Y, 1, none⟩ = some (.string (atOf H 0 q).1.key) ∧ wY.cell? ⟨Y, 2, none⟩ = some (.int .i64 (atOf H 0 q).2)) := by
            show _ ∧ _ ∧ _
            rw [hwY, hY]
            refine ⟨?_, ?_, ?_⟩ <;> simp [atOf, isIn, zNU]
          have HYF : Hid (∀ j, wY.frozen? ⟨Y, j, none⟩ = false) := fun j => by rw [hwY, hY]; simp
          have hbY : Below Y ws wY := by rw [hwY, hY]; exact alb _ _
          have hYl : Y < wY.heap.size := by rw [hwY, hY]; simp
          have HYE : Hid (Y = ws.heap.size) := hY
          have hZY : Z < Y := by rw [hY]; exact hZr2
          first
            | rw [← hwY, ← hY]
            | (rw [← hY]; rw [← hwY])
          clear hwY hY
          go_wp2
          go_loopw [22] (fun j wq => ∃ m : Nat, m ≤ H.length ∧ j = .int .i64 m ∧ Below Y ws wq ∧ Y < wq.heap.size ∧ Hid (wq.cell? ⟨Y, 0, none⟩ = some (.int .i64 (atOf H m q).1.tenant) ∧ wq.cell? ⟨Y, 1, none⟩ = some (.string (atOf H m q).1.key) ∧ wq.cell? ⟨Y, 2, none⟩ = some (.int .i64 (atOf H m q).2)) ∧ Hid (∀ j, wq.frozen? ⟨Y, j, none⟩ = false)) (fun j _ => H.length - (intOf j).toNat)
          case atStart => exact ⟨0, Nat.zero_le _, rfl, hbY, hYl, HY0, HYF⟩
          case round =>
            obtain ⟨m, hm, rfl, hbq, hYq, HAT, HAF⟩ := hrel
            obtain ⟨wt, rfl⟩ : ∃ wt, wt = wr := ⟨_, rfl⟩
            clear HY0 HYF hbY hYl
            have hgY : g < Y := by have := HZG.out; omega
            have f0 := (hbq.cell (p := ⟨g, k * 2, none⟩) hgY).trans e0
            have f1 := (hbq.cell (p := ⟨g, k * 2 + 1, none⟩) hgY).trans e1
            have hgt : g < wt.heap.size := by omega
            obtain ⟨at0, at1, at2⟩ := HAT.out
            obtain ⟨A, hA⟩ : ∃ A, A = atOf H m q := ⟨_, rfl⟩
            rw [← hA] at at0 at1 at2
            by_cases hml : m < H.length
            · have hml2 : (m : Int) < (H.length : Int) := by omega
              rcases HHA5.out with h0 | ⟨hb, hoff, rfl, hhb, hhc⟩
              · rw [h0] at hml; simp at hml
              obtain ⟨c0, c1, c2⟩ := hhc m hml
              have HAS := Hid.mk2 (at_succ HAP.out hqH hml)
              obtain ⟨x, hx⟩ : ∃ x, x = H[m] := ⟨_, rfl⟩
              rw [← hx] at c0 c1 c2 HAS
              rw [← hA] at HAS
              have hhZ : hb < Z := by rw [HZE.out]; exact hhb
              have hhY : hb < Y := by omega
              have hht : hb < wt.heap.size := by omega
              have b0 := (hbq.cell (p := ⟨hb, hoff + m * 3, none⟩) hhY).trans ((hbr.cell (p := ⟨hb, hoff + m * 3, none⟩) hhZ).trans c0)
              have b1 := (hbq.cell (p := ⟨hb, hoff + m * 3 + 1, none⟩) hhY).trans ((hbr.cell (p := ⟨hb, hoff + m * 3 + 1, none⟩) hhZ).trans c1)
              have b2 := (hbq.cell (p := ⟨hb, hoff + m * 3 + 2, none⟩) hhY).trans ((hbr.cell (p := ⟨hb, hoff + m * 3 + 2, none⟩) hhZ).trans c2)
              have hne := nm_eql x.1 q.1
              have af0 := HAF.out 0
              have af1 := HAF.out 1
              have af2 := HAF.out 2
              clear hhc c0 c1 c2 hx hA HAT
              by_cases hxq : x.1 = q.1
              · have hxd : decide (x.1 = q.1) = true := by simpa using hxq
                rw [hxd] at hne
                rw [if_pos hxq] at HAS
                clear hxd hxq
                go_upto_region 30 with fail
                go_quiet (fail)
                go_wp2
                go_roundw
                case rel =>
                  refine ⟨m + 1, by omega, by go_num, (((below_drewN hbq _).setCell (Nat.le_refl _) _).setCell (Nat.le_refl _) _).setCell (Nat.le_refl _) _, by simp; exact hYq, ?_, fun j => ?_⟩
                  · rw [HAS.out]
                    exact set3 (w := wt.drewN _) at0 at1 at2 _ _ _
                  · rw [World.frozen?_setCell, World.frozen?_setCell, World.frozen?_setCell]
                    exact HAF.out j
                case measure => simp [intOf]; omega
              · have hxd : decide (x.1 = q.1) = false := by simpa using hxq
                rw [hxd] at hne
                rw [if_neg hxq] at HAS
                clear hxd hxq
                go_upto_region 30 with fail
                go_quiet (fail)
                go_wp2
                go_roundw
                case rel => exact ⟨m + 1, by omega, by go_num, below_drewN hbq _, hYq, by rw [HAS.out]; exact ⟨at0, at1, at2⟩, HAF⟩
                case measure => simp [intOf]; omega
            · have hmH : m = H.length := by omega
              have hml2 : ¬ (m : Int) < (H.length : Int) := by omega
              subst hmH
              rw [at_all hqH] at hA
              subst hA
              obtain ⟨l0, l1, l2⟩ := HLA.out
              obtain ⟨la, hla⟩ : ∃ la, la = lastOf S k := ⟨_, rfl⟩
              rw [← hla] at l0 l1 l2 HLL
              have g0 := (hbq.cell (p := ⟨Z, 0, none⟩) hZY).trans l0
              have g1 := (hbq.cell (p := ⟨Z, 1, none⟩) hZY).trans l1
              have g2 := (hbq.cell (p := ⟨Z, 2, none⟩) hZY).trans l2
              have zf0 := (hbq.frozen (p := ⟨Z, 0, none⟩) hZY).trans (HZF.out 0)
              have zf1 := (hbq.frozen (p := ⟨Z, 1, none⟩) hZY).trans (HZF.out 1)
              have zf2 := (hbq.frozen (p := ⟨Z, 2, none⟩) hZY).trans (HZF.out 2)
              have hZt : Z < wt.heap.size := by omega
              have hYZ : Y ≠ Z := by omega
              have n1 : ¬ A.2 < 0 := by omega
              have n1' : decide (A.2 < 0) = false := by simpa using n1
              have n2 : ¬ (t : Int) < A.2 := by omega
              have n2' : decide ((t : Int) < A.2) = false := by simpa using n2
              have HBF : Hid (Below Z w5 wt) := hbr.trans (hbq.mono (by omega))
              have HFZ : Hid (∀ j, wt.frozen? ⟨Z, j, none⟩ = false) := fun j => (hbq.frozen (p := ⟨Z, j, none⟩) hZY).trans (HZF.out j)
              clear hla HAT l0 l1 l2 HLA f0 f1 e0 e1
              rcases HLL.out with hlo | ⟨heq, hnl⟩
              · have n3 : ¬ A.2 < la.2 := by omega
                have n3' : decide (A.2 < la.2) = false := by simpa using n3
                have n4' : (A.2 == la.2) = false := by simp; omega
                clear HLL
                go_wp2
                go_roundw
                case rel =>
                  refine ⟨k + 1, by omega, by go_num, ((HBF.out.setCell (Nat.le_refl _) _).setCell (Nat.le_refl _) _).setCell (Nat.le_refl _) _, by simp; exact hZt, ?_, fun j => ?_⟩
                  · rw [HLS.out]
                    exact set3 g0 g1 g2 _ _ _
                  · rw [World.frozen?_setCell, World.frozen?_setCell, World.frozen?_setCell]
                    exact HFZ.out j
                case measure => simp [intOf]; omega
              · have n3 : ¬ A.2 < la.2 := by omega
                have n3' : decide (A.2 < la.2) = false := by simpa using n3
                have n4' : (A.2 == la.2) = true := by simp; omega
                have hls := less_any wt la.1 A.1
                have hnl' : decide (nlt la.1 A.1) = true := by simpa using hnl
                rw [hnl'] at hls
                have HLE := Hid.mk2 hls
                clear HLL heq hnl hnl' hls
                go_wp2_with (go_at_call 20; refine HLE.out.mono ?_; rintro e wv ⟨rfl, hbv⟩; have at0v := (hbv.cell (p := ⟨Y, 0, none⟩) hYq).trans at0; have at1v := (hbv.cell (p := ⟨Y, 1, none⟩) hYq).trans at1; have at2v := (hbv.cell (p := ⟨Y, 2, none⟩) hYq).trans at2; have g0v := (hbv.cell (p := ⟨Z, 0, none⟩) hZt).trans g0; have g1v := (hbv.cell (p := ⟨Z, 1, none⟩) hZt).trans g1; have g2v := (hbv.cell (p := ⟨Z, 2, none⟩) hZt).trans g2; have zf0v := (hbv.frozen (p := ⟨Z, 0, none⟩) hZt).trans zf0; have zf1v := (hbv.frozen (p := ⟨Z, 1, none⟩) hZt).trans zf1; have zf2v := (hbv.frozen (p := ⟨Z, 2, none⟩) hZt).trans zf2; have hYv := Nat.lt_of_lt_of_le hYq hbv.size; have hZv := Nat.lt_of_lt_of_le hZt hbv.size)
                go_roundw
                case rel =>
                  have HBV : Below Z w5 wv := HBF.out.trans (hbv.mono (by omega))
                  refine ⟨k + 1, by omega, by go_num, ((HBV.setCell (Nat.le_refl _) _).setCell (Nat.le_refl _) _).setCell (Nat.le_refl _) _, by simp; exact hZv, ?_, fun j => ?_⟩
                  · rw [HLS.out]
                    exact set3 g0v g1v g2v _ _ _
                  · rw [World.frozen?_setCell, World.frozen?_setCell, World.frozen?_setCell]
                    exact (hbv.frozen (p := ⟨Z, j, none⟩) hZt).trans (HFZ.out j)
                case measure => simp [intOf]; omega
        · have hkS : k = S.length := by omega
          have hlt2 : ¬ (k : Int) < (S.length : Int) := by omega
          subst hkS
          have hWr : Wh ws p t (restOf t H) (restOf t H) mu mb5 (3 * 400) := HW5.out.below (by rw [← HZE.out]; exact hbr)
          have HLE := Hid.mk2 (len_any ws p t _ mu mb5 _ hWr)
          have HBE : Hid (Below w.heap.size w ws) := HB5.out.trans (hbr.mono (by rw [HZE.out]; exact HB5.out.size))
          obtain ⟨rl, hrl⟩ : ∃ rl, rl = (restOf t H).length := ⟨_, rfl⟩
          rw [← hrl] at HLE HRL
          have hrl2 : (rl : Int) = (H.length : Int) - (S.length : Int) := by have := HRL.out; omega
          clear hWr hrl
          go_wp2_with (go_at_call 14; refine HLE.out.mono ?_; rintro e wq ⟨rfl, hwq⟩; obtain rfl : ws = wq := hwq.symm)
          go_ret
          exact ⟨by simp [hrl2], HBE.out⟩

set_option maxHeartbeats 4000000 in
theorem wheelDue_none (w : World) (now t : Int) (hn : now < 0 ∨ 1099511627776 < now) (v : Value) :
    Calls Try.prog 5 #[.int .i64 now, v, .int .i64 t] w fun e w' => e = .returned (.bool true) ∧ Below w.heap.size w w' := by
  have HAL := Hid.mk2 (alive_any w)
  go_enter Try.func5, Try.ntmps5
  go_upto_region 4 with (go_at_call 8; refine HAL.out.mono ?_; rintro e w0 ⟨rfl, hb0⟩)
  have HN := Hid.mk2 (new_bad w0 now hn)
  clear hn
  go_wp2_with (go_at_call 9; refine HN.out.mono ?_; rintro e wq ⟨rfl, hwq⟩; obtain rfl : w0 = wq := hwq.symm)
  go_ret
  exact ⟨rfl, hb0⟩

set_option maxHeartbeats 4000000 in
theorem wheelDue_late (w : World) (now : Nat) (t : Int) (hn : now ≤ 1099511627776) (ht : t < (now : Int) ∨ 1099511627776 < t) (a1 : Option Addr) (cap1 : Nat) (T : List NU) (hc1 : T.length ≤ cap1) (hc2 : cap1 ≤ maxLen) (hT : TAt w a1 T) :
    Calls Try.prog 5 #[.int .i64 now, .slice a1 T.length cap1, .int .i64 t] w fun e w' => e = .returned (.bool true) ∧ Below w.heap.size w w' := by
  have HAL := Hid.mk2 (alive_any w)
  have HT := Hid.mk2 hT
  have hTm : T.length ≤ maxLen := Nat.le_trans hc1 hc2
  unfold maxLen at hc2
  have HTT := Hid.mk2 ht
  clear hT ht
  go_enter Try.func5, Try.ntmps5
  go_upto_region 4 with (go_at_call 8; refine HAL.out.mono ?_; rintro e w0 ⟨rfl, hb0⟩)
  have HN := Hid.mk2 (new_any w0 now hn)
  go_upto_region 5 with (go_at_call 9; refine HN.out.mono ?_; rintro e w1 ⟨p, rfl, hp, hb1, mu, hW1, hmu⟩)
  have hb01 : Below w.heap.size w w1 := hb0.trans (hb1.mono hb0.size)
  have hT1 := HT.out.below hb01
  have HSM := Hid.mk2 (small_any w1 a1 T cap1 hT1 hTm)
  have hF1 : ∀ k, Foot p mu (fun _ => none) k → w.heap.size ≤ k := fun k hk => by
    have := hb0.size
    rcases hk with rfl | rfl | ⟨i, _, e⟩
    · omega
    · omega
    · cases e
  have HF1 := Hid.mk2 hF1
  have HW1 := Hid.mk2 hW1
  have HB1 := Hid.mk2 hb01
  clear hW1 hF1 hb0 hb1 hp hmu hT1
  go_upto_region 7 with (go_at_call 18; refine HSM.out.mono ?_; rintro e wq ⟨⟨hv, rfl, hv2⟩, hwq⟩; obtain rfl : w1 = wq := hwq.symm; cases hv)
  · go_ret
    exact ⟨rfl, HB1.out⟩
  have hT200 : T.length ≤ 200 := by
    rcases hv2 with h | h
    · cases h
    · exact h
  have HAA := Hid.mk2 (addAll_any w1 p now mu (fun _ => none) HW1.out a1 T cap1 (HT.out.below HB1.out) (fun hne b off e hf => by
    have h1 := HF1.out b hf
    rcases HT.out with h0 | ⟨b', off', e', hb', _⟩
    · exact hne h0
    · rw [e'] at e
      cases e
      omega) hT200)
  clear hv2 HSM HAL HN
  go_upto_region 8 with (go_at_call 19; refine HAA.out.mono ?_; rintro e w2 ⟨v2, rfl, H, hO2, hH200, mb2, hW2, hK2, hF2⟩)
  obtain ⟨uo, uc, rfl, hu1, hu2, hHA⟩ := hO2.at
  have HB2 : Hid (Below w.heap.size w w2) := HB1.out.trans (hK2.to_below HB1.out.size HF1.out)
  have HTI := Hid.mk2 (tick_bad w2 p now H mu mb2 400 hW2 t HTT.out)
  have HLE := Hid.mk2 (len_any w2 p now H mu mb2 _ hW2)
  clear hHA hW2 hK2 hF2 hO2 HAA HF1 HB1 HW1 HT
  rcases HTT.out with hlo | hhi
  · clear HTT
    go_wp2_with (first | (go_at_call 11; refine HTI.out.mono ?_; rintro e wq ⟨rfl, hwq⟩; obtain rfl : w2 = wq := hwq.symm) | (go_at_call 14; refine HLE.out.mono ?_; rintro e wq ⟨rfl, hwq⟩; obtain rfl : w2 = wq := hwq.symm))
    go_ret
    exact ⟨by simp, HB2.out⟩
  · have hnl : ¬ t < (now : Int) := by omega
    have hnl' : decide (t < (now : Int)) = false := by simpa using hnl
    clear HTT
    go_wp2_with (first | (go_at_call 11; refine HTI.out.mono ?_; rintro e wq ⟨rfl, hwq⟩; obtain rfl : w2 = wq := hwq.symm) | (go_at_call 14; refine HLE.out.mono ?_; rintro e wq ⟨rfl, hwq⟩; obtain rfl : w2 = wq := hwq.symm))
    go_ret
    exact ⟨by simp, HB2.out⟩

theorem wheelDue_walk (w : World) (now : Int) (hwn : (Lit.int .i64 now).wf = true) (a1 : Option Addr) (len1 cap1 : Nat) (T : List NU) (h : InDues w a1 len1 cap1 T) (t : Int) (hwt : (Lit.int .i64 t).wf = true) :
    Calls Try.prog 5 #[.int .i64 now, .slice a1 len1 cap1, .int .i64 t] w fun e w' => e = .returned (.bool true) ∧ Below w.heap.size w w' := by
  obtain ⟨rfl, hc1, hc2, hT⟩ := h
  by_cases hn : now < 0 ∨ 1099511627776 < now
  · exact wheelDue_none w now t hn _
  · obtain ⟨n, rfl⟩ : ∃ n : Nat, now = n := ⟨now.toNat, by omega⟩
    by_cases ht : t < (n : Int) ∨ 1099511627776 < t
    · exact wheelDue_late w n t (by omega) ht a1 cap1 T hc1 hc2 hT
    · obtain ⟨m, rfl⟩ : ∃ m : Nat, t = m := ⟨t.toNat, by omega⟩
      exact wheelDue_good w n m (by omega) (by omega) (by omega) a1 cap1 T hc1 hc2 hT

set_option maxRecDepth 100000 in
theorem wheelDue_lifted (os : Os) (started : os.Started) (H : Type) (enc : TypeId × Value → H) :
    ReturnsInHanded {} Try.checked os 5 .any (Rows.wheelDueSpec.pre6 enc Try.prog Try.f5 Rows.wheelDueRow.domain false) (Rows.wheelDueSpec.post enc Try.prog Try.f5 false true false false) := by
  refine returnsInHanded_of_change (C := Try.checked) (by kernel_rfl) started (by kernel_rfl) Try.func5
    (ChangeSpec.witness6 (enc := enc) (C := Try.checked) false ⟨#[], #[.int .i64 0, .slice none 0 0, .int .i64 0], []⟩ 8 (by kernel_rfl) (by kernel_rfl) (by kernel_rfl) (by kernel_rfl)) ?_
  intro W base args ds gs before hval0 hW hcnd _
  have hval : ∀ (j : Nat) t v, Try.f5.params[j]? = some t → args[j]? = some v → Value.okWide Try.prog W .any base t v := hval0
  have hW' := hW
  obtain ⟨p, q, hA0, hV, rfl, hfz, hnd⟩ := hW
  have hA : DataW.TrodAll enc Try.prog W 0 (fun _ => true) true Try.f5.params.toList args.toList ds p := hA0
  rw [Try.params5] at hA hval
  obtain ⟨v0, vs0, d0, ds0, p0, q0, hargs, rfl, rfl, h0, r0⟩ := trodAll_cons hA
  obtain ⟨v1, vs1, d1, ds1, p1, q1, rfl, rfl, rfl, h1, r1⟩ := trodAll_cons r0
  obtain ⟨v2, vs2, d2, ds2, p2, q2, rfl, rfl, rfl, h2, r2⟩ := trodAll_cons r1
  obtain ⟨rfl, rfl, rfl⟩ := trodAll_nil r2
  obtain rfl : args = #[v0, v1, v2] := by cases args; simp_all
  obtain ⟨rfl, rfl⟩ := trodVars_none hV
  obtain ⟨a0, rfl, rfl, rfl, w0⟩ := open_int Try.underlying3 (hval 0 3 v0 rfl rfl) h0
  have k1 := h1
  have lt1 : ∀ x ∈ p1, x.block < W.heap.size := by obtain ⟨m, hm⟩ := k1; exact DataW.trod_lt m _ _ _ hm
  obtain ⟨a1, len1, cap1, rfl⟩ := okWide_slice Try.underlying53 (hval 1 53 v1 rfl rfl)
  obtain ⟨l1, w1⟩ := inDues_of (fun _ => rfl) h1
  obtain ⟨a2, rfl, rfl, rfl, w2⟩ := open_int Try.underlying3 (hval 2 3 v2 rfl rfl) h2
  clear hA0 hval0
  refine (wheelDue_walk W a0 w0 a1 len1 cap1 l1 w1 a2 w2).mono fun e W' ⟨he, bel⟩ => ?_
  subst he
  exact ⟨_, rfl, _, _, _, [], _, [], hW', trodAll_mk1 (shut_bool Try.underlying4 _), (trodAll_cons_mk (shut_int Try.underlying3 w0) (trodAll_cons_mk (Below.trod laidOut_all (by kernel_rfl) (of_decide_eq_true (by kernel_rfl)) k1 bel lt1) (trodAll_cons_mk (shut_int Try.underlying3 w2) trodAll_mk0))), rfl, bel.frame _, fun h => by cases h⟩

theorem wheelDue_proved : Rows.WheelDueSaid :=
  OpenClaim.holds_of_wide 5 Try.f5 rfl rfl rfl rfl rfl rfl rfl ⟨rfl, rfl, rfl, rfl, rfl⟩ rfl rfl rfl rfl rfl (by kernel_rfl) Try.func5 (by kernel_rfl)
    (of_decide_eq_true (by kernel_rfl)) (by unfold Func.isWrapper; first | (rw [if_pos (by decide +kernel)]; kernel_rfl) | (rw [if_neg (by decide +kernel)]; exact ⟨rfl, rfl⟩))
    (fun os started H enc _ => wheelDue_lifted os started H enc)
#print axioms wheelDue_proved
end Go.Proofs.Ytlhlleokehkolad
