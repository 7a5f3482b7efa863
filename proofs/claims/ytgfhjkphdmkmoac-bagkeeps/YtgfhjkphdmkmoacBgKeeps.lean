/-
  BagKeeps is true for every bag, message, kind and place: what is sent can be given, and all others stay in their order; no condition.
-/
import Derived.Test.YtgfhjkphdmkmoacBgStep
import Derived.Test.YtgfhjkphdmkmoacBgAlive
import Derived.Test.YtgfhjkphdmkmoacBgRows
import Derived.Test.YtgfhjkphdmkmoacQuiet
import Derived.Deep.Cut
namespace Go.Proofs.Ytgfhjkphdmkmoac
open Go.ChangeShapes Go.WideShapes Go.ChangeAt Go.RowKit
open Go.ChangeMaps (open_string shut_string)
set_option linter.unusedSimpArgs false
set_option linter.unusedVariables false
set_option maxRecDepth 100000

theorem lsame_n (w : World) (ao ao' : Option Addr) (ls : List (List UInt8)) (n n' cap cap' : Nat) (h : Ll w ao ls cap) (h' : Ll w ao' ls cap') (hn : ls.length = n) (hn' : ls.length = n') :
    Calls Try.prog 19 #[.slice ao n cap, .slice ao' n' cap'] w fun e w' => e = .returned (.bool true) ∧ ∃ n, w' = w.drewN n := by
  subst hn; subst hn'; exact lsame_q w ao ao' ls cap cap' h h'
theorem Ll.take {w : World} {ao : Option Addr} {ls : List (List UInt8)} {cap : Nat} (h : Ll w ao ls cap) (A : Nat) : Ll w ao (ls.take A) cap :=
  ⟨Nat.le_trans (by simp; omega) h.hl, h.hc, h.hn, h.at_.take A⟩
theorem Ll.drop {w : World} {ao : Option Addr} {ls : List (List UInt8)} {cap : Nat} (h : Ll w ao ls cap) (A : Nat) : Ll w (if cap = A then ao else ao.map fun x => x.add A) (ls.drop A) (cap - A) := by
  refine ⟨by have := h.hl; simp; omega, by have := h.hc; omega, ?_, ?_⟩
  · split
    · intro _; omega
    · intro e
      have := h.hn (by simpa using e)
      omega
  · split
    · exact .inl (List.drop_of_length_le (by have := h.hl; omega))
    · exact h.at_.drop A

theorem min1b (m a : Nat) : ∃ m' : Nat, ((m : Int) + (if (100000 : Int) < (a : Int) then 100000 else (a : Int))) = (m' : Int) ∧ m' ≤ m + 100000 := by
  refine ⟨((m : Int) + (if (100000 : Int) < (a : Int) then 100000 else (a : Int))).toNat, ?_, ?_⟩ <;> (split <;> omega)

/-- what was sent is given again -/
theorem sent_given {ls : List (List UInt8)} {m : List UInt8} (h : sendE ls m = 0) : ls.length < 64 ∧ sendL ls m = ls ++ [m] ∧ stepE (ls ++ [m]).length 0 ls.length = 0 ∧ stepL (ls ++ [m]) 0 ls.length = ls ∧ stepO (ls ++ [m]) 0 ls.length = m := by
  have h0 := h
  unfold sendE at h0
  split at h0
  · cases h0
  · split at h0
    · cases h0
    · split at h0
      · cases h0
      · rename_i h1 h2 h3
        have hl : (ls ++ [m]).length = ls.length + 1 := by simp
        have hE : stepE (ls ++ [m]).length 0 ls.length = 0 := by
          unfold stepE
          rw [hl, if_neg (by omega), if_neg (by omega), if_neg]
          simp [inL]; omega
        refine ⟨by omega, by unfold sendL; rw [if_pos h], hE, ?_, ?_⟩
        · unfold stepL; rw [if_pos hE, if_neg (by decide)]; simp
        · unfold stepO; rw [if_pos hE, if_neg (by decide)]; simp

theorem step_ok {n K : Nat} {at_ : Int} (h : stepE n K at_ = 0) : ∃ A : Nat, at_ = (A : Int) ∧ A < n ∧ (K = 0 ∨ K = 1 ∨ K = 2) := by
  unfold stepE at h
  split at h
  · cases h
  · split at h
    · cases h
    · split at h
      · cases h
      · rename_i h1 h2 h3
        have h3 : inL n at_ = true := by simpa using h3
        have h4 : 0 ≤ at_ ∧ at_ < (n : Int) := by simpa [inL] using h3
        exact ⟨at_.toNat, by omega, by omega, by omega⟩

set_option maxHeartbeats 2000000 in
theorem keeps0 (w : World) (a0 : Option Addr) (cap0 : Nat) (ls : List (List UInt8)) (HL : Hid (Ll w a0 ls cap0)) (HR : Hid (∀ p ∈ ls, p.length ≤ 140737488355328)) (a1 : Option Addr) (cap1 : Nat) (m : List UInt8) (HM : Hid (Sl w a1 m cap1)) (A : Nat) (hA : A < ls.length) (HE : Hid (stepE ls.length 0 A = 0)) :
    Calls Try.prog 8 #[.slice a0 ls.length cap0, .slice a1 m.length cap1, .int .u8 0, .int .i64 A] w fun e w' => e = .returned (.bool true) ∧ Below w.heap.size w w' := by
  have hlm : ls.length ≤ 9223372036854775807 := Nat.le_trans HL.out.hl HL.out.hc
  have hmm : m.length ≤ 9223372036854775807 := Nat.le_trans HM.out.hl HM.out.hc
  have hal := fun W => balive_any W
  go_enter Try.func8, Try.ntmps8
  go_wp2_with (go_at_call 20; refine (hal _).mono ?_; rintro e w1 ⟨rfl, hb1⟩)
  go_loop [10, 11] (fun n i => ∃ k m : Nat, k ≤ ls.length ∧ k ≤ 100 ∧ m ≤ 100000 * k ∧ i = .int .i64 k ∧ n = .int .i64 m) (fun _ i => ls.length - (intOf i).toNat)
  case atStart => exact ⟨0, 0, by omega, by omega, by omega, rfl, rfl⟩
  case round =>
    obtain ⟨k, n, hk, hk1, hmb, rfl, rfl⟩ := hrel
    by_cases hlt : k < ls.length
    · have hlt2 : (k : Int) < (ls.length : Int) := by omega
      by_cases h1 : k < 100
      · have h12 : (k : Int) < 100 := by omega
        rcases HL.out.at_ with h | ⟨bk, off, rfl, hbk, hc⟩
        · rw [h] at hlt; simp at hlt
        · obtain ⟨v, hv, hd⟩ := hc k hlt
          obtain ⟨p, hpe⟩ : ∃ p, p = ls[k] := ⟨_, rfl⟩
          rw [← hpe] at hd
          obtain ⟨a2, c2, rfl, -, -, -, -⟩ := hd
          have hv1 := (hb1.cell (p := ⟨bk, off + k, none⟩) hbk).trans hv
          obtain ⟨n', em, hn'⟩ := min1b n p.length
          have EM : Hid (((n : Int) + (if (100000 : Int) < (p.length : Int) then 100000 else (p.length : Int))) = (n' : Int)) := em
          clear em hv hc hpe
          go_wp2
          go_round
          case rel => exact ⟨k + 1, n', by omega, by omega, by omega, by go_num, by rw [EM.out]⟩
          case measure => simp [intOf]; omega
      · have h12 : decide ((k : Int) < 100) = false := by simp; omega
        have g1 : (70 : Int) < (ls.length : Int) := by omega
        go_wp2
        go_ret
        exact ⟨rfl, hb1⟩
    · have hlt2 : decide ((k : Int) < (ls.length : Int)) = false := by simp; omega
      by_cases g1 : (70 : Int) < (ls.length : Int)
      · go_wp2
        go_ret
        exact ⟨rfl, hb1⟩
      · have g1' : decide ((70 : Int) < (ls.length : Int)) = false := by simp; omega
        by_cases g2 : (200000 : Int) < (n : Int)
        · go_wp2
          go_ret
          exact ⟨rfl, hb1⟩
        · have g2' : decide ((200000 : Int) < (n : Int)) = false := by simp; omega
          by_cases g3 : (70000 : Int) < (m.length : Int)
          · go_wp2
            go_ret
            exact ⟨rfl, hb1⟩
          · have g3' : decide ((70000 : Int) < (m.length : Int)) = false := by simp; omega
            have hsend := send_any w1 a0 ls cap0 (HL.out.below hb1) HR.out a1 m cap1 (HM.out.below hb1)
            obtain ⟨E1, hE1⟩ : ∃ E1, E1 = sendE ls m := ⟨_, rfl⟩
            obtain ⟨L1, hL1⟩ : ∃ L1, L1 = sendL ls m := ⟨_, rfl⟩
            rw [← hE1, ← hL1] at hsend
            have HE1 : Hid (E1 = sendE ls m) := hE1
            have HL1 : Hid (L1 = sendL ls m) := hL1
            clear hE1 hL1
            go_upto_if 61 with (go_at_call 18; refine hsend.mono ?_; rintro e w2 ⟨v2, rfl, ho2, hb2⟩; obtain ⟨vo, vc, hv2, hl2⟩ := ho2.ll; subst hv2; have hb02 := hb1.trans (hb2.mono hb1.size))
            go_cut [12, 13, 14, 15, 16] from 20 (fun s12 s13 s14 s15 s16 wx => Below w.heap.size w wx)
            case first =>
              by_cases hz : E1 = 0
              · obtain ⟨s1, s2, s3, s4, s5⟩ := sent_given (HE1.out.symm.trans hz)
                have hL : L1 = ls ++ [m] := HL1.out.trans s2
                subst hL hz
                have hl1 : (ls ++ [m]).length = ls.length + 1 := by simp
                have hstep := step_any w2 vo (ls ++ [m]) vc hl2 (by
                  intro p hp
                  rcases List.mem_append.1 hp with h | h
                  · exact HR.out p h
                  · simp at h; subst h; omega) 0 ls.length
                rw [s3, s4, s5] at hstep
                rw [hl1] at hstep
                clear s1 s2 s3 s4 s5 hl1
                go_wp2_with (first
                  | (go_at_call 16; refine hstep.mono ?_; rintro e w3 ⟨v3, o3, rfl, ho3, hf3, hb3⟩; obtain ⟨v3o, v3c, hv3, hl3⟩ := ho3.ll; subst hv3; have hb03 := hb02.trans (hb3.mono hb02.size); have q3 := hf3.conv w3 (Below.refl _ _); have q1 := HM.out.conv rfl w3 hb03)
                  | (go_at_call 19; refine (lsame_sl w3 v3o a0 ls v3c cap0 hl3 (HL.out.below hb03)).mono ?_; rintro e w4 ⟨rfl, hb4⟩))
                go_meet
                case rel => exact hb03.trans (hb4.mono hb03.size)
              · have hz' : (E1 == 0) = false := by simpa using hz
                rw [hz']
                go_wp2_with fail
                go_meet
                case rel => exact hb02
            case rest =>
            obtain ⟨wz, rfl⟩ : ∃ wz, wz = wc := ⟨_, rfl⟩
            have hst := step_any wz a0 ls cap0 (HL.out.below hcut) HR.out 0 A
            clear hsend hl2 ho2 hb2 hb02
            have hE := HE.out
            rcases HL.out.at_ with h | ⟨bk, off, rfl, hbk, hc⟩
            · rw [h] at hA; simp at hA
            obtain ⟨v, hv, hd⟩ := hc A hA
            have hgd : ls.getD A [] = ls[A] := by simp [hA]
            obtain ⟨p, hpe⟩ : ∃ p, p = ls[A] := ⟨_, rfl⟩
            rw [← hpe] at hgd hd
            obtain ⟨a2, c2, rfl, -, -, -, hbs⟩ := hd
            have HPB : Hid (BsAt w w.heap.size a2 p) := hbs
            have HV : Hid (w.cell? ⟨bk, off + A, none⟩ = some (.slice a2 p.length c2)) := hv
            clear hc hpe hbs hv
            have g4 : decide ((A : Int) < 0) = false := by simp
            have g5 : decide ((ls.length : Int) ≤ (A : Int)) = false := by simp; omega
            have g5b : decide (ls.length ≤ A) = false := by simp; omega
            have hR : stepL ls 0 A = ls.take A ++ ls.drop (A + 1) := by unfold stepL; rw [if_pos hE, if_neg (by decide)]; simp
            have hO : stepO ls 0 A = p := by unfold stepO; rw [if_pos hE, if_neg (by decide), Int.toNat_natCast, hgd]
            rw [hE, hR, hO] at hst
            clear hE hR hO hgd
            obtain ⟨L3, hL3⟩ : ∃ L3, L3 = ls.take A ++ ls.drop (A + 1) := ⟨_, rfl⟩
            rw [← hL3] at hst
            have hn3 : L3.length = ls.length - 1 := by rw [hL3]; simp; omega
            have ht3 : L3.take A = ls.take A := by rw [hL3, List.take_append_of_le_length (by simp; omega), List.take_take, Nat.min_self]
            have hd3 : L3.drop A = ls.drop (A + 1) := by rw [hL3, List.drop_append_of_le_length (by simp; omega), List.drop_of_length_le (by simp; omega), List.nil_append]
            have J3 : ((L3.length : Int) == (ls.length : Int) - 1) = true := by simp; omega
            have g6 : (A : Int) ≤ (L3.length : Int) := by omega
            have g7 : (A : Int) + 1 ≤ (ls.length : Int) := by omega
            have HT3 : Hid (L3.take A = ls.take A) := ht3
            have HD3 : Hid (L3.drop A = ls.drop (A + 1)) := hd3
            have HN3 : Hid (L3.length = ls.length - 1) := hn3
            clear ht3 hd3 hL3 hn3
            go_upto_region 19 with (go_at_call 16; refine hst.mono ?_; rintro e w3 ⟨v3, o3, rfl, ho3, hf3, hb3⟩; obtain ⟨v3o, v3c, hv3, hl3⟩ := ho3.ll; subst hv3; have hb03 := hcut.trans (hb3.mono hcut.size); have e3 := (hb03.cell (p := ⟨bk, off + A, none⟩) hbk).trans HV.out; have q3 := fun N => hf3.conv (w3.drewN N) (below_drewN2 (Below.refl _ _) N); have q4 := fun N => conv_bytes (w3.drewN N) w.heap.size a2 p c2 (HPB.out.below (below_drewN2 hb03 N) (Nat.le_refl _)))
            go_big_quiet (fail)
            go_upto_region 23 with fail
            have hcl3 := hl3.hl
            have hcm3 := hl3.hc
            have hcl0 := HL.out.hl
            have hcm0 := HL.out.hc
            have g8 : (A : Int) ≤ (v3c : Int) := by omega
            have g9 : (A : Int) ≤ (cap0 : Int) := by omega
            obtain ⟨wq, hwq⟩ : ∃ wq, wq = w3.drewN nq := ⟨_, rfl⟩
            rw [← hwq]
            have hb3q : Below w3.heap.size w3 wq := by rw [hwq]; exact below_drewN2 (Below.refl _ _) _
            have hb0q : Below w.heap.size w wq := hb03.trans (hb3q.mono hb03.size)
            have hlq := hl3.below hb3q
            clear hwq
            have hT : ∀ N, Calls Try.prog 19 #[.slice v3o A v3c, .slice (some ⟨bk, off, none⟩) A cap0] (wq.drewN N) fun e w' => e = .returned (.bool true) ∧ ∃ n, w' = (wq.drewN N).drewN n := by
              intro N
              have h3 := (hlq.below (below_drewN2 (Below.refl _ _) N)).take A
              rw [HT3.out] at h3
              exact lsame_n _ _ _ _ _ _ _ _ h3 ((HL.out.below (below_drewN2 hb0q N)).take A) (by simp; omega) (by simp; omega)
            have hD : ∀ N X Y, X = (if v3c = A then v3o else v3o.map fun x => x.add A) → Y = (if cap0 = A + 1 then some ⟨bk, off, none⟩ else some ⟨bk, off + (A + 1), none⟩) → Calls Try.prog 19 #[.slice X (L3.length - A) (v3c - A), .slice Y (ls.length - (A + 1)) (cap0 - (A + 1))] (wq.drewN N) fun e w' => e = .returned (.bool true) ∧ ∃ n, w' = (wq.drewN N).drewN n := by
              intro N X Y hX hY
              subst hX hY
              have h3 := (hlq.below (below_drewN2 (Below.refl _ _) N)).drop A
              have h4 := (HL.out.below (below_drewN2 hb0q N)).drop (A + 1)
              rw [HD3.out] at h3
              have e4 : (Option.map (fun x : Addr => x.add (A + 1)) (some ⟨bk, off, none⟩)) = some ⟨bk, off + (A + 1), none⟩ := by simp [addr_add]
              rw [e4] at h4
              exact lsame_n _ _ _ _ _ _ _ _ h3 h4 (by simp [HN3.out]; omega) (by simp)
            have HT : Hid (∀ N, Calls Try.prog 19 #[.slice v3o A v3c, .slice (some ⟨bk, off, none⟩) A cap0] (wq.drewN N) fun e w' => e = .returned (.bool true) ∧ ∃ n, w' = (wq.drewN N).drewN n) := hT
            have HD : Hid (∀ N X Y, X = (if v3c = A then v3o else v3o.map fun x => x.add A) → Y = (if cap0 = A + 1 then some ⟨bk, off, none⟩ else some ⟨bk, off + (A + 1), none⟩) → Calls Try.prog 19 #[.slice X (L3.length - A) (v3c - A), .slice Y (ls.length - (A + 1)) (cap0 - (A + 1))] (wq.drewN N) fun e w' => e = .returned (.bool true) ∧ ∃ n, w' = (wq.drewN N).drewN n) := hD
            clear hT hD HT3 HD3 HR HM hst e3 HPB HV ho3 hf3 hal HE1 HL1
            cases v3o with
            | none =>
              have hv0 : v3c = 0 := hl3.hn rfl
              have hA0 : A = 0 := by omega
              subst hv0 hA0
              have H2 : Hid (∀ N, Calls Try.prog 19 #[.slice none 0 0, .slice (if cap0 = 1 then some ⟨bk, off, none⟩ else some ⟨bk, off + 1, none⟩) (ls.length - 1) (cap0 - 1)] (wq.drewN N) fun e w' => e = .returned (.bool true) ∧ ∃ n, w' = (wq.drewN N).drewN n) := by
                intro N
                have h := HD.out N none _ (by simp) rfl
                have e0 : L3.length = 0 := by omega
                simpa only [e0, Nat.zero_add, Nat.sub_zero] using h
              go_big_quiet (first | (go_at_call_of 19 (Value.slice (some (Addr.mk bk off none)) 0 cap0); refine Calls.quiet_of (HT.out _)) | (go_at_call 19; refine Calls.quiet_of (H2.out _)))
              go_wp2
              all_goals
                go_ret
                exact ⟨rfl, below_drewN2 hb0q _⟩
            | some a3 =>
              by_cases k1 : v3c = A
              · subst k1
                have H2 : Hid (∀ N, Calls Try.prog 19 #[.slice (some a3) 0 0, .slice (if cap0 = v3c + 1 then some ⟨bk, off, none⟩ else some ⟨bk, off + (v3c + 1), none⟩) (ls.length - (v3c + 1)) (cap0 - (v3c + 1))] (wq.drewN N) fun e w' => e = .returned (.bool true) ∧ ∃ n, w' = (wq.drewN N).drewN n) := by
                  intro N
                  have h := HD.out N (some a3) _ (by simp) rfl
                  have e0 : L3.length - v3c = 0 := by omega
                  rw [e0, Nat.sub_self] at h
                  exact h
                go_big_quiet (first | (go_at_call_of 19 (Value.slice (some (Addr.mk bk off none)) v3c cap0); refine Calls.quiet_of (HT.out _)) | (go_at_call 19; refine Calls.quiet_of (H2.out _)))
                go_wp2
                all_goals
                  go_ret
                  exact ⟨rfl, below_drewN2 hb0q _⟩
              · have H2 : Hid (∀ N, Calls Try.prog 19 #[.slice (some (a3.add A)) (L3.length - A) (v3c - A), .slice (if cap0 = A + 1 then some ⟨bk, off, none⟩ else some ⟨bk, off + (A + 1), none⟩) (ls.length - (A + 1)) (cap0 - (A + 1))] (wq.drewN N) fun e w' => e = .returned (.bool true) ∧ ∃ n, w' = (wq.drewN N).drewN n) := by
                  intro N
                  exact HD.out N (some (a3.add A)) _ (by simp [k1]) rfl
                go_big_quiet (first | (go_at_call_of 19 (Value.slice (some (Addr.mk bk off none)) A cap0); refine Calls.quiet_of (HT.out _)) | (go_at_call 19; refine Calls.quiet_of (H2.out _)))
                go_wp2
                all_goals
                  go_ret
                  exact ⟨rfl, below_drewN2 hb0q _⟩

set_option maxHeartbeats 2000000 in
theorem keeps1 (w : World) (a0 : Option Addr) (cap0 : Nat) (ls : List (List UInt8)) (HL : Hid (Ll w a0 ls cap0)) (HR : Hid (∀ p ∈ ls, p.length ≤ 140737488355328)) (a1 : Option Addr) (cap1 : Nat) (m : List UInt8) (HM : Hid (Sl w a1 m cap1)) (A : Nat) (hA : A < ls.length) (HE : Hid (stepE ls.length 1 A = 0)) :
    Calls Try.prog 8 #[.slice a0 ls.length cap0, .slice a1 m.length cap1, .int .u8 1, .int .i64 A] w fun e w' => e = .returned (.bool true) ∧ Below w.heap.size w w' := by
  have hlm : ls.length ≤ 9223372036854775807 := Nat.le_trans HL.out.hl HL.out.hc
  have hmm : m.length ≤ 9223372036854775807 := Nat.le_trans HM.out.hl HM.out.hc
  have hal := fun W => balive_any W
  go_enter Try.func8, Try.ntmps8
  go_wp2_with (go_at_call 20; refine (hal _).mono ?_; rintro e w1 ⟨rfl, hb1⟩)
  go_loop [10, 11] (fun n i => ∃ k m : Nat, k ≤ ls.length ∧ k ≤ 100 ∧ m ≤ 100000 * k ∧ i = .int .i64 k ∧ n = .int .i64 m) (fun _ i => ls.length - (intOf i).toNat)
  case atStart => exact ⟨0, 0, by omega, by omega, by omega, rfl, rfl⟩
  case round =>
    obtain ⟨k, n, hk, hk1, hmb, rfl, rfl⟩ := hrel
    by_cases hlt : k < ls.length
    · have hlt2 : (k : Int) < (ls.length : Int) := by omega
      by_cases h1 : k < 100
      · have h12 : (k : Int) < 100 := by omega
        rcases HL.out.at_ with h | ⟨bk, off, rfl, hbk, hc⟩
        · rw [h] at hlt; simp at hlt
        · obtain ⟨v, hv, hd⟩ := hc k hlt
          obtain ⟨p, hpe⟩ : ∃ p, p = ls[k] := ⟨_, rfl⟩
          rw [← hpe] at hd
          obtain ⟨a2, c2, rfl, -, -, -, -⟩ := hd
          have hv1 := (hb1.cell (p := ⟨bk, off + k, none⟩) hbk).trans hv
          obtain ⟨n', em, hn'⟩ := min1b n p.length
          have EM : Hid (((n : Int) + (if (100000 : Int) < (p.length : Int) then 100000 else (p.length : Int))) = (n' : Int)) := em
          clear em hv hc hpe
          go_wp2
          go_round
          case rel => exact ⟨k + 1, n', by omega, by omega, by omega, by go_num, by rw [EM.out]⟩
          case measure => simp [intOf]; omega
      · have h12 : decide ((k : Int) < 100) = false := by simp; omega
        have g1 : (70 : Int) < (ls.length : Int) := by omega
        go_wp2
        go_ret
        exact ⟨rfl, hb1⟩
    · have hlt2 : decide ((k : Int) < (ls.length : Int)) = false := by simp; omega
      by_cases g1 : (70 : Int) < (ls.length : Int)
      · go_wp2
        go_ret
        exact ⟨rfl, hb1⟩
      · have g1' : decide ((70 : Int) < (ls.length : Int)) = false := by simp; omega
        by_cases g2 : (200000 : Int) < (n : Int)
        · go_wp2
          go_ret
          exact ⟨rfl, hb1⟩
        · have g2' : decide ((200000 : Int) < (n : Int)) = false := by simp; omega
          by_cases g3 : (70000 : Int) < (m.length : Int)
          · go_wp2
            go_ret
            exact ⟨rfl, hb1⟩
          · have g3' : decide ((70000 : Int) < (m.length : Int)) = false := by simp; omega
            have hsend := send_any w1 a0 ls cap0 (HL.out.below hb1) HR.out a1 m cap1 (HM.out.below hb1)
            obtain ⟨E1, hE1⟩ : ∃ E1, E1 = sendE ls m := ⟨_, rfl⟩
            obtain ⟨L1, hL1⟩ : ∃ L1, L1 = sendL ls m := ⟨_, rfl⟩
            rw [← hE1, ← hL1] at hsend
            have HE1 : Hid (E1 = sendE ls m) := hE1
            have HL1 : Hid (L1 = sendL ls m) := hL1
            clear hE1 hL1
            go_upto_if 61 with (go_at_call 18; refine hsend.mono ?_; rintro e w2 ⟨v2, rfl, ho2, hb2⟩; obtain ⟨vo, vc, hv2, hl2⟩ := ho2.ll; subst hv2; have hb02 := hb1.trans (hb2.mono hb1.size))
            go_cut [12, 13, 14, 15, 16] from 20 (fun s12 s13 s14 s15 s16 wx => Below w.heap.size w wx)
            case first =>
              by_cases hz : E1 = 0
              · obtain ⟨s1, s2, s3, s4, s5⟩ := sent_given (HE1.out.symm.trans hz)
                have hL : L1 = ls ++ [m] := HL1.out.trans s2
                subst hL hz
                have hl1 : (ls ++ [m]).length = ls.length + 1 := by simp
                have hstep := step_any w2 vo (ls ++ [m]) vc hl2 (by
                  intro p hp
                  rcases List.mem_append.1 hp with h | h
                  · exact HR.out p h
                  · simp at h; subst h; omega) 0 ls.length
                rw [s3, s4, s5] at hstep
                rw [hl1] at hstep
                clear s1 s2 s3 s4 s5 hl1
                go_wp2_with (first
                  | (go_at_call 16; refine hstep.mono ?_; rintro e w3 ⟨v3, o3, rfl, ho3, hf3, hb3⟩; obtain ⟨v3o, v3c, hv3, hl3⟩ := ho3.ll; subst hv3; have hb03 := hb02.trans (hb3.mono hb02.size); have q3 := hf3.conv w3 (Below.refl _ _); have q1 := HM.out.conv rfl w3 hb03)
                  | (go_at_call 19; refine (lsame_sl w3 v3o a0 ls v3c cap0 hl3 (HL.out.below hb03)).mono ?_; rintro e w4 ⟨rfl, hb4⟩))
                go_meet
                case rel => exact hb03.trans (hb4.mono hb03.size)
              · have hz' : (E1 == 0) = false := by simpa using hz
                rw [hz']
                go_wp2_with fail
                go_meet
                case rel => exact hb02
            case rest =>
            obtain ⟨wz, rfl⟩ : ∃ wz, wz = wc := ⟨_, rfl⟩
            have hst := step_any wz a0 ls cap0 (HL.out.below hcut) HR.out 1 A
            clear hsend hl2 ho2 hb2 hb02
            have hE := HE.out
            rcases HL.out.at_ with h | ⟨bk, off, rfl, hbk, hc⟩
            · rw [h] at hA; simp at hA
            obtain ⟨v, hv, hd⟩ := hc A hA
            have hgd : ls.getD A [] = ls[A] := by simp [hA]
            obtain ⟨p, hpe⟩ : ∃ p, p = ls[A] := ⟨_, rfl⟩
            rw [← hpe] at hgd hd
            obtain ⟨a2, c2, rfl, -, -, -, hbs⟩ := hd
            have HPB : Hid (BsAt w w.heap.size a2 p) := hbs
            have HV : Hid (w.cell? ⟨bk, off + A, none⟩ = some (.slice a2 p.length c2)) := hv
            clear hc hpe hbs hv
            have g4 : decide ((A : Int) < 0) = false := by simp
            have g5 : decide ((ls.length : Int) ≤ (A : Int)) = false := by simp; omega
            have g5b : decide (ls.length ≤ A) = false := by simp; omega
            have hR : stepL ls 1 A = ls := by unfold stepL; rw [if_pos hE, if_pos rfl]
            have hO : stepO ls 1 A = p := by unfold stepO; rw [if_pos hE, if_neg (by decide), Int.toNat_natCast, hgd]
            rw [hE, hR, hO] at hst
            clear hE hR hO hgd
            go_upto_region 19 with (go_at_call 16; refine hst.mono ?_; rintro e w3 ⟨v3, o3, rfl, ho3, hf3, hb3⟩; obtain ⟨v3o, v3c, hv3, hl3⟩ := ho3.ll; subst hv3; have hb03 := hcut.trans (hb3.mono hcut.size); have e3 := (hb03.cell (p := ⟨bk, off + A, none⟩) hbk).trans HV.out; have q3 := fun N => hf3.conv (w3.drewN N) (below_drewN2 (Below.refl _ _) N); have q4 := fun N => conv_bytes (w3.drewN N) w.heap.size a2 p c2 (HPB.out.below (below_drewN2 hb03 N) (Nat.le_refl _)))
            go_big_quiet (fail)
            go_wp2_with (go_at_call 19; refine (lsame_sl _ v3o (some ⟨bk, off, none⟩) ls v3c cap0 (hl3.below (below_drewN2 (Below.refl _ _) _)) (HL.out.below (below_drewN2 hb03 _))).mono ?_; rintro e w4 ⟨rfl, hb4⟩)
            go_ret
            exact ⟨rfl, (below_drewN2 hb03 _).trans (hb4.mono (Nat.le_trans hb03.size (Nat.le_refl _)))⟩

set_option maxHeartbeats 2000000 in
theorem keeps2 (w : World) (a0 : Option Addr) (cap0 : Nat) (ls : List (List UInt8)) (HL : Hid (Ll w a0 ls cap0)) (HR : Hid (∀ p ∈ ls, p.length ≤ 140737488355328)) (a1 : Option Addr) (cap1 : Nat) (m : List UInt8) (HM : Hid (Sl w a1 m cap1)) (A : Nat) (hA : A < ls.length) (HE : Hid (stepE ls.length 2 A = 0)) :
    Calls Try.prog 8 #[.slice a0 ls.length cap0, .slice a1 m.length cap1, .int .u8 2, .int .i64 A] w fun e w' => e = .returned (.bool true) ∧ Below w.heap.size w w' := by
  have hlm : ls.length ≤ 9223372036854775807 := Nat.le_trans HL.out.hl HL.out.hc
  have hmm : m.length ≤ 9223372036854775807 := Nat.le_trans HM.out.hl HM.out.hc
  have hal := fun W => balive_any W
  go_enter Try.func8, Try.ntmps8
  go_wp2_with (go_at_call 20; refine (hal _).mono ?_; rintro e w1 ⟨rfl, hb1⟩)
  go_loop [10, 11] (fun n i => ∃ k m : Nat, k ≤ ls.length ∧ k ≤ 100 ∧ m ≤ 100000 * k ∧ i = .int .i64 k ∧ n = .int .i64 m) (fun _ i => ls.length - (intOf i).toNat)
  case atStart => exact ⟨0, 0, by omega, by omega, by omega, rfl, rfl⟩
  case round =>
    obtain ⟨k, n, hk, hk1, hmb, rfl, rfl⟩ := hrel
    by_cases hlt : k < ls.length
    · have hlt2 : (k : Int) < (ls.length : Int) := by omega
      by_cases h1 : k < 100
      · have h12 : (k : Int) < 100 := by omega
        rcases HL.out.at_ with h | ⟨bk, off, rfl, hbk, hc⟩
        · rw [h] at hlt; simp at hlt
        · obtain ⟨v, hv, hd⟩ := hc k hlt
          obtain ⟨p, hpe⟩ : ∃ p, p = ls[k] := ⟨_, rfl⟩
          rw [← hpe] at hd
          obtain ⟨a2, c2, rfl, -, -, -, -⟩ := hd
          have hv1 := (hb1.cell (p := ⟨bk, off + k, none⟩) hbk).trans hv
          obtain ⟨n', em, hn'⟩ := min1b n p.length
          have EM : Hid (((n : Int) + (if (100000 : Int) < (p.length : Int) then 100000 else (p.length : Int))) = (n' : Int)) := em
          clear em hv hc hpe
          go_wp2
          go_round
          case rel => exact ⟨k + 1, n', by omega, by omega, by omega, by go_num, by rw [EM.out]⟩
          case measure => simp [intOf]; omega
      · have h12 : decide ((k : Int) < 100) = false := by simp; omega
        have g1 : (70 : Int) < (ls.length : Int) := by omega
        go_wp2
        go_ret
        exact ⟨rfl, hb1⟩
    · have hlt2 : decide ((k : Int) < (ls.length : Int)) = false := by simp; omega
      by_cases g1 : (70 : Int) < (ls.length : Int)
      · go_wp2
        go_ret
        exact ⟨rfl, hb1⟩
      · have g1' : decide ((70 : Int) < (ls.length : Int)) = false := by simp; omega
        by_cases g2 : (200000 : Int) < (n : Int)
        · go_wp2
          go_ret
          exact ⟨rfl, hb1⟩
        · have g2' : decide ((200000 : Int) < (n : Int)) = false := by simp; omega
          by_cases g3 : (70000 : Int) < (m.length : Int)
          · go_wp2
            go_ret
            exact ⟨rfl, hb1⟩
          · have g3' : decide ((70000 : Int) < (m.length : Int)) = false := by simp; omega
            have hsend := send_any w1 a0 ls cap0 (HL.out.below hb1) HR.out a1 m cap1 (HM.out.below hb1)
            obtain ⟨E1, hE1⟩ : ∃ E1, E1 = sendE ls m := ⟨_, rfl⟩
            obtain ⟨L1, hL1⟩ : ∃ L1, L1 = sendL ls m := ⟨_, rfl⟩
            rw [← hE1, ← hL1] at hsend
            have HE1 : Hid (E1 = sendE ls m) := hE1
            have HL1 : Hid (L1 = sendL ls m) := hL1
            clear hE1 hL1
            go_upto_if 61 with (go_at_call 18; refine hsend.mono ?_; rintro e w2 ⟨v2, rfl, ho2, hb2⟩; obtain ⟨vo, vc, hv2, hl2⟩ := ho2.ll; subst hv2; have hb02 := hb1.trans (hb2.mono hb1.size))
            go_cut [12, 13, 14, 15, 16] from 20 (fun s12 s13 s14 s15 s16 wx => Below w.heap.size w wx)
            case first =>
              by_cases hz : E1 = 0
              · obtain ⟨s1, s2, s3, s4, s5⟩ := sent_given (HE1.out.symm.trans hz)
                have hL : L1 = ls ++ [m] := HL1.out.trans s2
                subst hL hz
                have hl1 : (ls ++ [m]).length = ls.length + 1 := by simp
                have hstep := step_any w2 vo (ls ++ [m]) vc hl2 (by
                  intro p hp
                  rcases List.mem_append.1 hp with h | h
                  · exact HR.out p h
                  · simp at h; subst h; omega) 0 ls.length
                rw [s3, s4, s5] at hstep
                rw [hl1] at hstep
                clear s1 s2 s3 s4 s5 hl1
                go_wp2_with (first
                  | (go_at_call 16; refine hstep.mono ?_; rintro e w3 ⟨v3, o3, rfl, ho3, hf3, hb3⟩; obtain ⟨v3o, v3c, hv3, hl3⟩ := ho3.ll; subst hv3; have hb03 := hb02.trans (hb3.mono hb02.size); have q3 := hf3.conv w3 (Below.refl _ _); have q1 := HM.out.conv rfl w3 hb03)
                  | (go_at_call 19; refine (lsame_sl w3 v3o a0 ls v3c cap0 hl3 (HL.out.below hb03)).mono ?_; rintro e w4 ⟨rfl, hb4⟩))
                go_meet
                case rel => exact hb03.trans (hb4.mono hb03.size)
              · have hz' : (E1 == 0) = false := by simpa using hz
                rw [hz']
                go_wp2_with fail
                go_meet
                case rel => exact hb02
            case rest =>
            obtain ⟨wz, rfl⟩ : ∃ wz, wz = wc := ⟨_, rfl⟩
            have hst := step_any wz a0 ls cap0 (HL.out.below hcut) HR.out 2 A
            clear hsend hl2 ho2 hb2 hb02
            have hE := HE.out
            rcases HL.out.at_ with h | ⟨bk, off, rfl, hbk, hc⟩
            · rw [h] at hA; simp at hA
            obtain ⟨v, hv, hd⟩ := hc A hA
            have hgd : ls.getD A [] = ls[A] := by simp [hA]
            obtain ⟨p, hpe⟩ : ∃ p, p = ls[A] := ⟨_, rfl⟩
            rw [← hpe] at hgd hd
            obtain ⟨a2, c2, rfl, -, -, -, hbs⟩ := hd
            have HPB : Hid (BsAt w w.heap.size a2 p) := hbs
            have HV : Hid (w.cell? ⟨bk, off + A, none⟩ = some (.slice a2 p.length c2)) := hv
            clear hc hpe hbs hv
            have g4 : decide ((A : Int) < 0) = false := by simp
            have g5 : decide ((ls.length : Int) ≤ (A : Int)) = false := by simp; omega
            have g5b : decide (ls.length ≤ A) = false := by simp; omega
            have hR : stepL ls 2 A = ls.take A ++ ls.drop (A + 1) := by unfold stepL; rw [if_pos hE, if_neg (by decide)]; simp
            have hO : stepO ls 2 A = [] := by unfold stepO; rw [if_pos hE, if_pos rfl]
            rw [hE, hR, hO] at hst
            clear hE hR hO hgd
            obtain ⟨L3, hL3⟩ : ∃ L3, L3 = ls.take A ++ ls.drop (A + 1) := ⟨_, rfl⟩
            rw [← hL3] at hst
            have hn3 : L3.length = ls.length - 1 := by rw [hL3]; simp; omega
            have ht3 : L3.take A = ls.take A := by rw [hL3, List.take_append_of_le_length (by simp; omega), List.take_take, Nat.min_self]
            have hd3 : L3.drop A = ls.drop (A + 1) := by rw [hL3, List.drop_append_of_le_length (by simp; omega), List.drop_of_length_le (by simp; omega), List.nil_append]
            have J3 : ((L3.length : Int) == (ls.length : Int) - 1) = true := by simp; omega
            have g6 : (A : Int) ≤ (L3.length : Int) := by omega
            have g7 : (A : Int) + 1 ≤ (ls.length : Int) := by omega
            have HT3 : Hid (L3.take A = ls.take A) := ht3
            have HD3 : Hid (L3.drop A = ls.drop (A + 1)) := hd3
            have HN3 : Hid (L3.length = ls.length - 1) := hn3
            clear ht3 hd3 hL3 hn3
            go_upto_region 19 with (go_at_call 16; refine hst.mono ?_; rintro e w3 ⟨v3, o3, rfl, ho3, hf3, hb3⟩; obtain ⟨v3o, v3c, hv3, hl3⟩ := ho3.ll; subst hv3; have hb03 := hcut.trans (hb3.mono hcut.size); have e3 := (hb03.cell (p := ⟨bk, off + A, none⟩) hbk).trans HV.out; obtain ⟨o3o, o3c, ho3v⟩ := hf3.val; rw [List.length_nil] at ho3v; subst ho3v)
            go_big_quiet (fail)
            go_upto_region 23 with fail
            have hcl3 := hl3.hl
            have hcm3 := hl3.hc
            have hcl0 := HL.out.hl
            have hcm0 := HL.out.hc
            have g8 : (A : Int) ≤ (v3c : Int) := by omega
            have g9 : (A : Int) ≤ (cap0 : Int) := by omega
            obtain ⟨wq, hwq⟩ : ∃ wq, wq = w3.drewN nq := ⟨_, rfl⟩
            rw [← hwq]
            have hb3q : Below w3.heap.size w3 wq := by rw [hwq]; exact below_drewN2 (Below.refl _ _) _
            have hb0q : Below w.heap.size w wq := hb03.trans (hb3q.mono hb03.size)
            have hlq := hl3.below hb3q
            clear hwq
            have hT : ∀ N, Calls Try.prog 19 #[.slice v3o A v3c, .slice (some ⟨bk, off, none⟩) A cap0] (wq.drewN N) fun e w' => e = .returned (.bool true) ∧ ∃ n, w' = (wq.drewN N).drewN n := by
              intro N
              have h3 := (hlq.below (below_drewN2 (Below.refl _ _) N)).take A
              rw [HT3.out] at h3
              exact lsame_n _ _ _ _ _ _ _ _ h3 ((HL.out.below (below_drewN2 hb0q N)).take A) (by simp; omega) (by simp; omega)
            have hD : ∀ N X Y, X = (if v3c = A then v3o else v3o.map fun x => x.add A) → Y = (if cap0 = A + 1 then some ⟨bk, off, none⟩ else some ⟨bk, off + (A + 1), none⟩) → Calls Try.prog 19 #[.slice X (L3.length - A) (v3c - A), .slice Y (ls.length - (A + 1)) (cap0 - (A + 1))] (wq.drewN N) fun e w' => e = .returned (.bool true) ∧ ∃ n, w' = (wq.drewN N).drewN n := by
              intro N X Y hX hY
              subst hX hY
              have h3 := (hlq.below (below_drewN2 (Below.refl _ _) N)).drop A
              have h4 := (HL.out.below (below_drewN2 hb0q N)).drop (A + 1)
              rw [HD3.out] at h3
              have e4 : (Option.map (fun x : Addr => x.add (A + 1)) (some ⟨bk, off, none⟩)) = some ⟨bk, off + (A + 1), none⟩ := by simp [addr_add]
              rw [e4] at h4
              exact lsame_n _ _ _ _ _ _ _ _ h3 h4 (by simp [HN3.out]; omega) (by simp)
            have HT : Hid (∀ N, Calls Try.prog 19 #[.slice v3o A v3c, .slice (some ⟨bk, off, none⟩) A cap0] (wq.drewN N) fun e w' => e = .returned (.bool true) ∧ ∃ n, w' = (wq.drewN N).drewN n) := hT
            have HD : Hid (∀ N X Y, X = (if v3c = A then v3o else v3o.map fun x => x.add A) → Y = (if cap0 = A + 1 then some ⟨bk, off, none⟩ else some ⟨bk, off + (A + 1), none⟩) → Calls Try.prog 19 #[.slice X (L3.length - A) (v3c - A), .slice Y (ls.length - (A + 1)) (cap0 - (A + 1))] (wq.drewN N) fun e w' => e = .returned (.bool true) ∧ ∃ n, w' = (wq.drewN N).drewN n) := hD
            clear hT hD HT3 HD3 HR HM hst e3 HPB HV ho3 hf3 hal HE1 HL1
            cases v3o with
            | none =>
              have hv0 : v3c = 0 := hl3.hn rfl
              have hA0 : A = 0 := by omega
              subst hv0 hA0
              have H2 : Hid (∀ N, Calls Try.prog 19 #[.slice none 0 0, .slice (if cap0 = 1 then some ⟨bk, off, none⟩ else some ⟨bk, off + 1, none⟩) (ls.length - 1) (cap0 - 1)] (wq.drewN N) fun e w' => e = .returned (.bool true) ∧ ∃ n, w' = (wq.drewN N).drewN n) := by
                intro N
                have h := HD.out N none _ (by simp) rfl
                have e0 : L3.length = 0 := by omega
                simpa only [e0, Nat.zero_add, Nat.sub_zero] using h
              go_big_quiet (first | (go_at_call_of 19 (Value.slice (some (Addr.mk bk off none)) 0 cap0); refine Calls.quiet_of (HT.out _)) | (go_at_call 19; refine Calls.quiet_of (H2.out _)))
              go_wp2
              all_goals
                go_ret
                exact ⟨rfl, below_drewN2 hb0q _⟩
            | some a3 =>
              by_cases k1 : v3c = A
              · subst k1
                have H2 : Hid (∀ N, Calls Try.prog 19 #[.slice (some a3) 0 0, .slice (if cap0 = v3c + 1 then some ⟨bk, off, none⟩ else some ⟨bk, off + (v3c + 1), none⟩) (ls.length - (v3c + 1)) (cap0 - (v3c + 1))] (wq.drewN N) fun e w' => e = .returned (.bool true) ∧ ∃ n, w' = (wq.drewN N).drewN n) := by
                  intro N
                  have h := HD.out N (some a3) _ (by simp) rfl
                  have e0 : L3.length - v3c = 0 := by omega
                  rw [e0, Nat.sub_self] at h
                  exact h
                go_big_quiet (first | (go_at_call_of 19 (Value.slice (some (Addr.mk bk off none)) v3c cap0); refine Calls.quiet_of (HT.out _)) | (go_at_call 19; refine Calls.quiet_of (H2.out _)))
                go_wp2
                all_goals
                  go_ret
                  exact ⟨rfl, below_drewN2 hb0q _⟩
              · have H2 : Hid (∀ N, Calls Try.prog 19 #[.slice (some (a3.add A)) (L3.length - A) (v3c - A), .slice (if cap0 = A + 1 then some ⟨bk, off, none⟩ else some ⟨bk, off + (A + 1), none⟩) (ls.length - (A + 1)) (cap0 - (A + 1))] (wq.drewN N) fun e w' => e = .returned (.bool true) ∧ ∃ n, w' = (wq.drewN N).drewN n) := by
                  intro N
                  exact HD.out N (some (a3.add A)) _ (by simp [k1]) rfl
                go_big_quiet (first | (go_at_call_of 19 (Value.slice (some (Addr.mk bk off none)) A cap0); refine Calls.quiet_of (HT.out _)) | (go_at_call 19; refine Calls.quiet_of (H2.out _)))
                go_wp2
                all_goals
                  go_ret
                  exact ⟨rfl, below_drewN2 hb0q _⟩

set_option maxHeartbeats 2000000 in
theorem keepsB (w : World) (a0 : Option Addr) (cap0 : Nat) (ls : List (List UInt8)) (HL : Hid (Ll w a0 ls cap0)) (HR : Hid (∀ p ∈ ls, p.length ≤ 140737488355328)) (a1 : Option Addr) (cap1 : Nat) (m : List UInt8) (HM : Hid (Sl w a1 m cap1)) (K : Nat) (at_ : Int) (HE : Hid (¬ stepE ls.length K at_ = 0)) :
    Calls Try.prog 8 #[.slice a0 ls.length cap0, .slice a1 m.length cap1, .int .u8 K, .int .i64 at_] w fun e w' => e = .returned (.bool true) ∧ Below w.heap.size w w' := by
  have hlm : ls.length ≤ 9223372036854775807 := Nat.le_trans HL.out.hl HL.out.hc
  have hmm : m.length ≤ 9223372036854775807 := Nat.le_trans HM.out.hl HM.out.hc
  have hal := fun W => balive_any W
  go_enter Try.func8, Try.ntmps8
  go_wp2_with (go_at_call 20; refine (hal _).mono ?_; rintro e w1 ⟨rfl, hb1⟩)
  go_loop [10, 11] (fun n i => ∃ k m : Nat, k ≤ ls.length ∧ k ≤ 100 ∧ m ≤ 100000 * k ∧ i = .int .i64 k ∧ n = .int .i64 m) (fun _ i => ls.length - (intOf i).toNat)
  case atStart => exact ⟨0, 0, by omega, by omega, by omega, rfl, rfl⟩
  case round =>
    obtain ⟨k, n, hk, hk1, hmb, rfl, rfl⟩ := hrel
    by_cases hlt : k < ls.length
    · have hlt2 : (k : Int) < (ls.length : Int) := by omega
      by_cases h1 : k < 100
      · have h12 : (k : Int) < 100 := by omega
        rcases HL.out.at_ with h | ⟨bk, off, rfl, hbk, hc⟩
        · rw [h] at hlt; simp at hlt
        · obtain ⟨v, hv, hd⟩ := hc k hlt
          obtain ⟨p, hpe⟩ : ∃ p, p = ls[k] := ⟨_, rfl⟩
          rw [← hpe] at hd
          obtain ⟨a2, c2, rfl, -, -, -, -⟩ := hd
          have hv1 := (hb1.cell (p := ⟨bk, off + k, none⟩) hbk).trans hv
          obtain ⟨n', em, hn'⟩ := min1b n p.length
          have EM : Hid (((n : Int) + (if (100000 : Int) < (p.length : Int) then 100000 else (p.length : Int))) = (n' : Int)) := em
          clear em hv hc hpe
          go_wp2
          go_round
          case rel => exact ⟨k + 1, n', by omega, by omega, by omega, by go_num, by rw [EM.out]⟩
          case measure => simp [intOf]; omega
      · have h12 : decide ((k : Int) < 100) = false := by simp; omega
        have g1 : (70 : Int) < (ls.length : Int) := by omega
        go_wp2
        go_ret
        exact ⟨rfl, hb1⟩
    · have hlt2 : decide ((k : Int) < (ls.length : Int)) = false := by simp; omega
      by_cases g1 : (70 : Int) < (ls.length : Int)
      · go_wp2
        go_ret
        exact ⟨rfl, hb1⟩
      · have g1' : decide ((70 : Int) < (ls.length : Int)) = false := by simp; omega
        by_cases g2 : (200000 : Int) < (n : Int)
        · go_wp2
          go_ret
          exact ⟨rfl, hb1⟩
        · have g2' : decide ((200000 : Int) < (n : Int)) = false := by simp; omega
          by_cases g3 : (70000 : Int) < (m.length : Int)
          · go_wp2
            go_ret
            exact ⟨rfl, hb1⟩
          · have g3' : decide ((70000 : Int) < (m.length : Int)) = false := by simp; omega
            have hsend := send_any w1 a0 ls cap0 (HL.out.below hb1) HR.out a1 m cap1 (HM.out.below hb1)
            obtain ⟨E1, hE1⟩ : ∃ E1, E1 = sendE ls m := ⟨_, rfl⟩
            obtain ⟨L1, hL1⟩ : ∃ L1, L1 = sendL ls m := ⟨_, rfl⟩
            rw [← hE1, ← hL1] at hsend
            have HE1 : Hid (E1 = sendE ls m) := hE1
            have HL1 : Hid (L1 = sendL ls m) := hL1
            clear hE1 hL1
            go_upto_if 61 with (go_at_call 18; refine hsend.mono ?_; rintro e w2 ⟨v2, rfl, ho2, hb2⟩; obtain ⟨vo, vc, hv2, hl2⟩ := ho2.ll; subst hv2; have hb02 := hb1.trans (hb2.mono hb1.size))
            go_cut [12, 13, 14, 15, 16] from 20 (fun s12 s13 s14 s15 s16 wx => Below w.heap.size w wx)
            case first =>
              by_cases hz : E1 = 0
              · obtain ⟨s1, s2, s3, s4, s5⟩ := sent_given (HE1.out.symm.trans hz)
                have hL : L1 = ls ++ [m] := HL1.out.trans s2
                subst hL hz
                have hl1 : (ls ++ [m]).length = ls.length + 1 := by simp
                have hstep := step_any w2 vo (ls ++ [m]) vc hl2 (by
                  intro p hp
                  rcases List.mem_append.1 hp with h | h
                  · exact HR.out p h
                  · simp at h; subst h; omega) 0 ls.length
                rw [s3, s4, s5] at hstep
                rw [hl1] at hstep
                clear s1 s2 s3 s4 s5 hl1
                go_wp2_with (first
                  | (go_at_call 16; refine hstep.mono ?_; rintro e w3 ⟨v3, o3, rfl, ho3, hf3, hb3⟩; obtain ⟨v3o, v3c, hv3, hl3⟩ := ho3.ll; subst hv3; have hb03 := hb02.trans (hb3.mono hb02.size); have q3 := hf3.conv w3 (Below.refl _ _); have q1 := HM.out.conv rfl w3 hb03)
                  | (go_at_call 19; refine (lsame_sl w3 v3o a0 ls v3c cap0 hl3 (HL.out.below hb03)).mono ?_; rintro e w4 ⟨rfl, hb4⟩))
                go_meet
                case rel => exact hb03.trans (hb4.mono hb03.size)
              · have hz' : (E1 == 0) = false := by simpa using hz
                rw [hz']
                go_wp2_with fail
                go_meet
                case rel => exact hb02
            case rest =>
            obtain ⟨wz, rfl⟩ : ∃ wz, wz = wc := ⟨_, rfl⟩
            have hst := step_any wz a0 ls cap0 (HL.out.below hcut) HR.out K at_
            clear hsend hl2 ho2 hb2 hb02
            have hE := HE.out
            have hR : stepL ls K at_ = [] := by unfold stepL; rw [if_neg hE]
            have hO : stepO ls K at_ = [] := by unfold stepO; rw [if_neg hE]
            obtain ⟨E2, hE2⟩ : ∃ E2, E2 = stepE ls.length K at_ := ⟨_, rfl⟩
            rw [hR, hO, ← hE2] at hst
            have hne : (E2 != 0) = true := by rw [hE2]; simpa using hE
            clear hR hO hE2 hE
            go_wp2_with (go_at_call 16; refine hst.mono ?_; rintro e w3 ⟨v3, o3, rfl, ho3, hf3, hb3⟩; obtain ⟨v3o, v3c, hv3, hl3⟩ := ho3.ll; subst hv3; obtain ⟨o3o, o3c, ho3⟩ := hf3.val; subst ho3)
            go_ret
            exact ⟨rfl, hcut.trans (hb3.mono hcut.size)⟩

end Go.Proofs.Ytgfhjkphdmkmoac
