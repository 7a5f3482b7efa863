/-
  The document's orders: Add, Hit, Del.
-/
import Derived.Test.YtmdlampmoeiihaaLrRef2
import Derived.Test.YtmdlampmoeiihaaLrRef4
namespace Go.Proofs.Ytmdlampmoeiihaa
open Go.RowKit Go.Shelf Go.Lib Go.Sort
set_option linter.unusedSimpArgs false
set_option linter.unusedVariables false
set_option maxRecDepth 100000

theorem filt_erase {L : List ByteArray} (h : L.Nodup) (key : ByteArray) : L.filter (fun x => decide (x ≠ key)) = L.erase key := by
  rw [h.erase_eq_filter]
  congr 1
  funext x
  by_cases e : x = key <;> simp [e]
set_option maxHeartbeats 2000000 in
theorem radd_bad0 (T K : List ByteArray) (aT aK : Option Addr) (cT cK : Nat) (key : ByteArray) (w : World) (hTl : Tl w aT T cT) (hKl : Tl w aK K cK) (hT : T.length ≤ 300) (hK : K.length ≤ 300) (hE : ckw T K key ≠ 0) :
    Calls Try.prog 21 #[.agg #[.slice aT T.length cT, .slice aK K.length cK], .string key] w fun e w' => e = .returned (.tuple #[.agg #[.slice none 0 0, .slice none 0 0], .int .i64 (ckw T K key)]) ∧ Below w.heap.size w w' := by
  obtain ⟨w2, hw2, hb2, hA, hR, hs2⟩ := begin2 w (.slice aT T.length cT) (.slice aK K.length cK)
  have HC := Hid.mk2 (asked_any T K aT aK cT cK key w2 (hTl.below hb2) (hKl.below hb2) hT hK)
  have HT := Hid.mk2 (fun V (hb : Below w2.heap.size w2 V) => (hTl.below hb2).below hb)
  have HK := Hid.mk2 (fun V (hb : Below w2.heap.size w2 V) => (hKl.below hb2).below hb)
  have HB2 := Hid.mk2 hb2
  have HR := Hid.mk2 hR
  have HA := Hid.mk2 hA
  have HS2 := Hid.mk2 hs2
  obtain ⟨E, hEE⟩ : ∃ E, E = ckw T K key := ⟨_, rfl⟩
  rw [← hEE] at HC hE ⊢
  have hE2 : (E != 0) = true := by simpa using hE
  have hE3 : (E == 0) = false := by simpa using hE
  clear hEE hT hK
  clear hTl hKl hb2 hA hR hs2
  go_enter Try.func21, Try.ntmps21
  go_upto_region 1 with (fail)
  rw [← hw2]
  clear hw2
  obtain ⟨c0, c1, f0, f1, l0⟩ := HA.out
  obtain ⟨r0, r1, s0, s1, l1⟩ := HR.out
  go_wp2_with (first
    | (go_at_call 43; refine HC.out.mono ?_; rintro e w3 ⟨rfl, hb3⟩; have HB3 : Hid (Below w2.heap.size w2 w3) := hb3; clear hb3 c0 c1 f0 f1 l0 r0 r1 s0 s1 l1; obtain ⟨c0, c1, f0, f1, l0⟩ := HA.out.below HB3.out; obtain ⟨r0, r1, s0, s1, l1⟩ := HR.out.below HB3.out))
  obtain ⟨q0, q1, _, _, _⟩ := ((HR.out.below HB3.out).set0 (.slice none 0 0)).set1 (.slice none 0 0)
  try simp only [Exit.inBlock, Exit.then]
  refine bodyPost_ret (v := .tuple #[.agg #[.slice none 0 0, .slice none 0 0], .int .i64 (E)]) (by simp [results, Try.results21, go_sem, q0, q1]) rfl ⟨rfl, ?_⟩
  exact ((HB2.out.trans (HB3.out.mono HB2.out.size)).setCell (by simp) _).setCell (by simp) _
set_option maxHeartbeats 2000000 in
theorem radd_in (T K : List ByteArray) (aT aK : Option Addr) (cT cK : Nat) (key : ByteArray) (w : World) (hTl : Tl w aT T cT) (hKl : Tl w aK K cK) (hT : T.length ≤ 300) (hK : K.length ≤ 300) (h0 : ckw T K key = 0) (hin : key ∈ K ++ T) :
    Calls Try.prog 21 #[.agg #[.slice aT T.length cT, .slice aK K.length cK], .string key] w fun e w' => e = .returned (.tuple #[.agg #[.slice none 0 0, .slice none 0 0], .int .i64 (2)]) ∧ Below w.heap.size w w' := by
  obtain ⟨w2, hw2, hb2, hA, hR, hs2⟩ := begin2 w (.slice aT T.length cT) (.slice aK K.length cK)
  have HC := Hid.mk2 (asked_any T K aT aK cT cK key w2 (hTl.below hb2) (hKl.below hb2) hT hK)
  have HT := Hid.mk2 (fun V (hb : Below w2.heap.size w2 V) => (hTl.below hb2).below hb)
  have HK := Hid.mk2 (fun V (hb : Below w2.heap.size w2 V) => (hKl.below hb2).below hb)
  have HB2 := Hid.mk2 hb2
  have HR := Hid.mk2 hR
  have HA := Hid.mk2 hA
  have HS2 := Hid.mk2 hs2
  rw [h0] at HC
  obtain ⟨L, hL⟩ : ∃ L, L = T ++ K := ⟨_, rfl⟩
  have hLL : L.length = T.length + K.length := by rw [hL]; simp
  have HAL := Hid.mk2 (fun V (hb : Below w2.heap.size w2 V) => rall_any T K L hL aT aK cT cK V (HT.out V hb) (HK.out V hb) hT hK)
  obtain ⟨I, hI⟩ : ∃ I, I = ixf L key := ⟨_, rfl⟩
  have HI := Hid.mk2 hI
  have hi0 : 0 ≤ I := by rw [hI, hL]; exact ixf_in (mem_comm hin)
  have hi1 : ¬ I < 0 := by omega
  clear hI hL hLL hin h0 hT hK
  clear hTl hKl hb2 hA hR hs2
  go_enter Try.func21, Try.ntmps21
  go_upto_region 1 with (fail)
  rw [← hw2]
  clear hw2
  obtain ⟨c0, c1, f0, f1, l0⟩ := HA.out
  obtain ⟨r0, r1, s0, s1, l1⟩ := HR.out
  go_wp2_with (first
    | (go_at_call 44; refine (rfind_any ao L L.length cap key _ HT4.out rfl).mono ?_; rw [← HI.out]; rintro e wi ⟨rfl, hwi⟩; obtain rfl : w4 = wi := hwi.symm)
    | (go_at_call 45; refine (HAL.out _ HB3.out).mono ?_; rintro e w4 ⟨ao, cap, rfl, hT4, hb4⟩; have HT4 := Hid.mk2 hT4; clear hT4; have HB4 : Hid (Below w2.heap.size w2 w4) := HB3.out.trans (hb4.mono HB3.out.size); clear c0 c1 f0 f1 l0 r0 r1 s0 s1 l1 hb4; obtain ⟨c0, c1, f0, f1, l0⟩ := HA.out.below HB4.out; obtain ⟨r0, r1, s0, s1, l1⟩ := HR.out.below HB4.out)
    | (go_at_call 43; refine HC.out.mono ?_; rintro e w3 ⟨rfl, hb3⟩; have HB3 : Hid (Below w2.heap.size w2 w3) := hb3; clear hb3 c0 c1 f0 f1 l0 r0 r1 s0 s1 l1; obtain ⟨c0, c1, f0, f1, l0⟩ := HA.out.below HB3.out; obtain ⟨r0, r1, s0, s1, l1⟩ := HR.out.below HB3.out))
  obtain ⟨q0, q1, _, _, _⟩ := ((HR.out.below HB4.out).set0 (.slice none 0 0)).set1 (.slice none 0 0)
  try simp only [Exit.inBlock, Exit.then]
  refine bodyPost_ret (v := .tuple #[.agg #[.slice none 0 0, .slice none 0 0], .int .i64 (2)]) (by simp [results, Try.results21, go_sem, q0, q1]) rfl ⟨rfl, ?_⟩
  exact ((HB2.out.trans (HB4.out.mono HB2.out.size)).setCell (by simp) _).setCell (by simp) _
set_option maxHeartbeats 2000000 in
theorem radd_full (T K : List ByteArray) (aT aK : Option Addr) (cT cK : Nat) (key : ByteArray) (w : World) (hTl : Tl w aT T cT) (hKl : Tl w aK K cK) (hT : T.length ≤ 300) (hK : K.length ≤ 300) (h0 : ckw T K key = 0) (hin : key ∉ K ++ T) (hf : K.length + T.length = 256) :
    Calls Try.prog 21 #[.agg #[.slice aT T.length cT, .slice aK K.length cK], .string key] w fun e w' => e = .returned (.tuple #[.agg #[.slice none 0 0, .slice none 0 0], .int .i64 (9)]) ∧ Below w.heap.size w w' := by
  obtain ⟨w2, hw2, hb2, hA, hR, hs2⟩ := begin2 w (.slice aT T.length cT) (.slice aK K.length cK)
  have HC := Hid.mk2 (asked_any T K aT aK cT cK key w2 (hTl.below hb2) (hKl.below hb2) hT hK)
  have HT := Hid.mk2 (fun V (hb : Below w2.heap.size w2 V) => (hTl.below hb2).below hb)
  have HK := Hid.mk2 (fun V (hb : Below w2.heap.size w2 V) => (hKl.below hb2).below hb)
  have HB2 := Hid.mk2 hb2
  have HR := Hid.mk2 hR
  have HA := Hid.mk2 hA
  have HS2 := Hid.mk2 hs2
  rw [h0] at HC
  obtain ⟨L, hL⟩ : ∃ L, L = T ++ K := ⟨_, rfl⟩
  have hLL : L.length = T.length + K.length := by rw [hL]; simp
  have HAL := Hid.mk2 (fun V (hb : Below w2.heap.size w2 V) => rall_any T K L hL aT aK cT cK V (HT.out V hb) (HK.out V hb) hT hK)
  obtain ⟨I, hI⟩ : ∃ I, I = ixf L key := ⟨_, rfl⟩
  have HI := Hid.mk2 hI
  have hi0 : I = -1 := by rw [hI, hL]; exact ixf_no (fun h => hin (mem_comm h))
  have hl1 : ((L.length : Int) == 256) = true := by simp; omega
  clear hI hL hLL hin h0 hT hK hf
  clear hTl hKl hb2 hA hR hs2
  go_enter Try.func21, Try.ntmps21
  go_upto_region 1 with (fail)
  rw [← hw2]
  clear hw2
  obtain ⟨c0, c1, f0, f1, l0⟩ := HA.out
  obtain ⟨r0, r1, s0, s1, l1⟩ := HR.out
  go_wp2_with (first
    | (go_at_call 45; refine (HAL.out _ HB4.out).mono ?_; rintro e w5 ⟨ao5, cap5, rfl, hT5, hb5⟩; clear hT5; have HB5 : Hid (Below w2.heap.size w2 w5) := HB4.out.trans (hb5.mono HB4.out.size); clear c0 c1 f0 f1 l0 r0 r1 s0 s1 l1 hb5; obtain ⟨c0, c1, f0, f1, l0⟩ := HA.out.below HB5.out; obtain ⟨r0, r1, s0, s1, l1⟩ := HR.out.below HB5.out)
    | (go_at_call 44; refine (rfind_any ao L L.length cap key _ HT4.out rfl).mono ?_; rw [← HI.out]; rintro e wi ⟨rfl, hwi⟩; obtain rfl : w4 = wi := hwi.symm)
    | (go_at_call 45; refine (HAL.out _ HB3.out).mono ?_; rintro e w4 ⟨ao, cap, rfl, hT4, hb4⟩; have HT4 := Hid.mk2 hT4; clear hT4; have HB4 : Hid (Below w2.heap.size w2 w4) := HB3.out.trans (hb4.mono HB3.out.size); clear c0 c1 f0 f1 l0 r0 r1 s0 s1 l1 hb4; obtain ⟨c0, c1, f0, f1, l0⟩ := HA.out.below HB4.out; obtain ⟨r0, r1, s0, s1, l1⟩ := HR.out.below HB4.out)
    | (go_at_call 43; refine HC.out.mono ?_; rintro e w3 ⟨rfl, hb3⟩; have HB3 : Hid (Below w2.heap.size w2 w3) := hb3; clear hb3 c0 c1 f0 f1 l0 r0 r1 s0 s1 l1; obtain ⟨c0, c1, f0, f1, l0⟩ := HA.out.below HB3.out; obtain ⟨r0, r1, s0, s1, l1⟩ := HR.out.below HB3.out))
  obtain ⟨q0, q1, _, _, _⟩ := ((HR.out.below HB5.out).set0 (.slice none 0 0)).set1 (.slice none 0 0)
  try simp only [Exit.inBlock, Exit.then]
  refine bodyPost_ret (v := .tuple #[.agg #[.slice none 0 0, .slice none 0 0], .int .i64 (9)]) (by simp [results, Try.results21, go_sem, q0, q1]) rfl ⟨rfl, ?_⟩
  exact ((HB2.out.trans (HB5.out.mono HB2.out.size)).setCell (by simp) _).setCell (by simp) _
theorem radd_bad (T K : List ByteArray) (aT aK : Option Addr) (cT cK : Nat) (key : ByteArray) (w : World) (hTl : Tl w aT T cT) (hKl : Tl w aK K cK) (hT : T.length ≤ 300) (hK : K.length ≤ 300) (hE : adE T K key ≠ 0) :
    Calls Try.prog 21 #[.agg #[.slice aT T.length cT, .slice aK K.length cK], .string key] w fun e w' => e = .returned (.tuple #[.agg #[.slice none 0 0, .slice none 0 0], .int .i64 (adE T K key)]) ∧ Below w.heap.size w w' := by
  unfold adE at hE ⊢
  by_cases h1 : ckw T K key = 0
  · rw [if_neg (by simpa using h1)] at hE ⊢
    by_cases h2 : key ∈ K ++ T
    · rw [if_pos h2]
      exact radd_in T K aT aK cT cK key w hTl hKl hT hK h1 h2
    · rw [if_neg h2] at hE ⊢
      by_cases h3 : K.length + T.length = 256
      · rw [if_pos h3]
        exact radd_full T K aT aK cT cK key w hTl hKl hT hK h1 h2 h3
      · rw [if_neg h3] at hE
        exact absurd rfl hE
  · rw [if_pos h1]
    exact radd_bad0 T K aT aK cT cK key w hTl hKl hT hK h1
set_option maxHeartbeats 2000000 in
theorem radd_ok (T K : List ByteArray) (aT aK : Option Addr) (cT cK : Nat) (key : ByteArray) (w : World) (hTl : Tl w aT T cT) (hKl : Tl w aK K cK) (hT : T.length ≤ 300) (hK : K.length ≤ 300) (hE : adE T K key = 0) :
    Calls Try.prog 21 #[.agg #[.slice aT T.length cT, .slice aK K.length cK], .string key] w fun e w' => ∃ aT' cT' aK' cK', e = .returned (.tuple #[.agg #[.slice aT' (key :: T).length cT', .slice aK' (K).length cK'], .int .i64 0]) ∧ Tl w' aT' (key :: T) cT' ∧ Tl w' aK' (K) cK' ∧ Fr w.heap.size aT' (key :: T) ∧ Fr w.heap.size aK' (K) ∧ Below w.heap.size w w' := by
  obtain ⟨w2, hw2, hb2, hA, hR, hs2⟩ := begin2 w (.slice aT T.length cT) (.slice aK K.length cK)
  have HC := Hid.mk2 (asked_any T K aT aK cT cK key w2 (hTl.below hb2) (hKl.below hb2) hT hK)
  have HT := Hid.mk2 (fun V (hb : Below w2.heap.size w2 V) => (hTl.below hb2).below hb)
  have HK := Hid.mk2 (fun V (hb : Below w2.heap.size w2 V) => (hKl.below hb2).below hb)
  have HB2 := Hid.mk2 hb2
  have HR := Hid.mk2 hR
  have HA := Hid.mk2 hA
  have HS2 := Hid.mk2 hs2
  obtain ⟨hok, hk, hin, hm⟩ := adE_zero hE
  have h0 := ckw_ok hok hk
  rw [h0] at HC
  obtain ⟨L, hL⟩ : ∃ L, L = T ++ K := ⟨_, rfl⟩
  have hLL : L.length = T.length + K.length := by rw [hL]; simp
  have HAL := Hid.mk2 (fun V (hb : Below w2.heap.size w2 V) => rall_any T K L hL aT aK cT cK V (HT.out V hb) (HK.out V hb) hT hK)
  obtain ⟨I, hI⟩ : ∃ I, I = ixf L key := ⟨_, rfl⟩
  have HI := Hid.mk2 hI
  have hi0 : I = -1 := by rw [hI, hL]; exact ixf_no (fun h => hin (mem_comm h))
  have hl1 : ((L.length : Int) == 256) = false := by simp; omega
  obtain ⟨T1, hT1⟩ : ∃ T1, T1 = key :: T := ⟨_, rfl⟩
  rw [← hT1]
  have HFI := Hid.mk2 (fun V (hb : Below w2.heap.size w2 V) => rfirst_any key T T1 hT1 aT cT V (HT.out V hb) (by omega))
  have HLK : Hid (K.length ≤ 300) := hK
  clear hI hL hLL hin h0 hT hK hm hok hk hE hT1
  clear hTl hKl hb2 hA hR hs2
  go_enter Try.func21, Try.ntmps21
  go_upto_region 1 with (fail)
  rw [← hw2]
  clear hw2
  obtain ⟨c0, c1, f0, f1, l0⟩ := HA.out
  obtain ⟨r0, r1, s0, s1, l1⟩ := HR.out
  go_upto_region 8 with (first
    | (go_at_call 45; refine (HAL.out _ HB4.out).mono ?_; rintro e w5 ⟨ao5, cap5, rfl, hT5, hb5⟩; clear hT5; have HB5 : Hid (Below w2.heap.size w2 w5) := HB4.out.trans (hb5.mono HB4.out.size); clear c0 c1 f0 f1 l0 r0 r1 s0 s1 l1 hb5; obtain ⟨c0, c1, f0, f1, l0⟩ := HA.out.below HB5.out; obtain ⟨r0, r1, s0, s1, l1⟩ := HR.out.below HB5.out)
    | (go_at_call 44; refine (rfind_any ao L L.length cap key _ HT4.out rfl).mono ?_; rw [← HI.out]; rintro e wi ⟨rfl, hwi⟩; obtain rfl : w4 = wi := hwi.symm)
    | (go_at_call 45; refine (HAL.out _ HB3.out).mono ?_; rintro e w4 ⟨ao, cap, rfl, hT4, hb4⟩; have HT4 := Hid.mk2 hT4; clear hT4; have HB4 : Hid (Below w2.heap.size w2 w4) := HB3.out.trans (hb4.mono HB3.out.size); clear c0 c1 f0 f1 l0 r0 r1 s0 s1 l1 hb4; obtain ⟨c0, c1, f0, f1, l0⟩ := HA.out.below HB4.out; obtain ⟨r0, r1, s0, s1, l1⟩ := HR.out.below HB4.out)
    | (go_at_call 43; refine HC.out.mono ?_; rintro e w3 ⟨rfl, hb3⟩; have HB3 : Hid (Below w2.heap.size w2 w3) := hb3; clear hb3 c0 c1 f0 f1 l0 r0 r1 s0 s1 l1; obtain ⟨c0, c1, f0, f1, l0⟩ := HA.out.below HB3.out; obtain ⟨r0, r1, s0, s1, l1⟩ := HR.out.below HB3.out))
  go_region_law
    (first
      | (refine step_app_row (by rfl) (.const (.slice none 0 0)) (.tmp 30) (by rfl) w7.heap.size (.slice none 0 0) [] (OwnTs.nil _ _) (by rfl) aK cK K K.length rfl (by rfl) w7.heap.size (HK.out _ HB7.out).hn (HK.out _ HB7.out).at_ (by have := HLK.out; simp; omega) (Nat.le_refl _) ?_; intro v8 w8 hO8 hG8; have HO8 : Hid (OwnTs w8 w7.heap.size v8 K) := hO8; obtain ⟨b8, d8, rfl, hT8⟩ := hO8.tl; have hb8 : Below w7.heap.size w7 w8 := below_of_grew_nil hG8; have HBX := Hid.mk2 hb8; clear hO8 hT8 hG8; have HB8 : Hid (Below w2.heap.size w2 w8) := HB7.out.trans (hb8.mono HB7.out.size); clear c0 c1 f0 f1 l0 r0 r1 s0 s1 l1 hb8; obtain ⟨c0, c1, f0, f1, l0⟩ := HA.out.below HB8.out; obtain ⟨r0, r1, s0, s1, l1⟩ := HR.out.below HB8.out)
      | (go_simp; go_at_call 46; refine (HFI.out _ (by first | exact HB5.out | exact HB5.out.drew)).mono ?_; rintro e w7 ⟨a8, c8, rfl, hO7, hb70⟩; have HO7 : Hid (OwnTs w7 w5.heap.size (.slice a8 T1.length c8) T1) := hO7; have hb7 : Below w5.heap.size w5 w7 := (by first | exact hb70 | exact below_drew0 hb70); clear hO7 hb70; have HB7 : Hid (Below w2.heap.size w2 w7) := HB5.out.trans (hb7.mono HB5.out.size); clear c0 c1 f0 f1 l0 r0 r1 s0 s1 l1 hb7; obtain ⟨c0, c1, f0, f1, l0⟩ := HA.out.below HB7.out; obtain ⟨r0, r1, s0, s1, l1⟩ := HR.out.below HB7.out))
  all_goals
    go_wp2
    have HRZ := Hid.mk2 (HR.out.below HB8.out)
    have HBZ := HB8
    have HFR1 := Hid.mk2 (HO7.out.fr.mono (Nat.le_trans HB2.out.size HB5.out.size))
    have HFR2 := Hid.mk2 (HO8.out.fr.mono (Nat.le_trans HB2.out.size HB7.out.size))
    have HT8 : Hid (Tl w8 a8 T1 c8) := by obtain ⟨ax, cx, e, hh⟩ := HO7.out.tl; cases e; exact hh.below HBX.out
    have HK8 : Hid (Tl w8 b8 K d8) := by obtain ⟨ax, cx, e, hh⟩ := HO8.out.tl; cases e; exact hh
    have HF1 : Hid (∀ g off, a8 = some ⟨g, off, none⟩ → T1 ≠ [] → g ≠ w.heap.size + 1) := (fun g off e _ => by have h1 := (HO7.out.lt g (by rw [e]; rfl)).1; have h2 := HB5.out.size; have h3 := HS2.out; omega)
    have HF2 : Hid (∀ g off, b8 = some ⟨g, off, none⟩ → K ≠ [] → g ≠ w.heap.size + 1) := (fun g off e _ => by have h1 := (HO8.out.lt g (by rw [e]; rfl)).1; have h2 := HB7.out.size; have h3 := HS2.out; omega)
    obtain ⟨q0, q1, _, _, _⟩ := (HRZ.out.set0 (.slice a8 T1.length c8)).set1 (.slice b8 K.length d8)
    try simp only [Exit.inBlock, Exit.then]
    exact bodyPost_ret (v := .tuple #[.agg #[.slice a8 T1.length c8, .slice b8 K.length d8], .int .i64 0]) (by simp [results, Try.results21, go_sem, q0, q1]) rfl ⟨a8, c8, b8, d8, rfl, (HT8.out.setc _ _ HF1.out).setc _ _ HF1.out, (HK8.out.setc _ _ HF2.out).setc _ _ HF2.out, HFR1.out, HFR2.out, ((HB2.out.trans (HBZ.out.mono HB2.out.size)).setCell (by simp) _).setCell (by simp) _⟩
set_option maxHeartbeats 2000000 in
theorem rdel_bad0 (T K : List ByteArray) (aT aK : Option Addr) (cT cK : Nat) (key : ByteArray) (w : World) (hTl : Tl w aT T cT) (hKl : Tl w aK K cK) (hT : T.length ≤ 300) (hK : K.length ≤ 300) (hE : ckw T K key ≠ 0) :
    Calls Try.prog 23 #[.agg #[.slice aT T.length cT, .slice aK K.length cK], .string key] w fun e w' => e = .returned (.tuple #[.agg #[.slice none 0 0, .slice none 0 0], .int .i64 (ckw T K key)]) ∧ Below w.heap.size w w' := by
  obtain ⟨w2, hw2, hb2, hA, hR, hs2⟩ := begin2 w (.slice aT T.length cT) (.slice aK K.length cK)
  have HC := Hid.mk2 (asked_any T K aT aK cT cK key w2 (hTl.below hb2) (hKl.below hb2) hT hK)
  have HT := Hid.mk2 (fun V (hb : Below w2.heap.size w2 V) => (hTl.below hb2).below hb)
  have HK := Hid.mk2 (fun V (hb : Below w2.heap.size w2 V) => (hKl.below hb2).below hb)
  have HB2 := Hid.mk2 hb2
  have HR := Hid.mk2 hR
  have HA := Hid.mk2 hA
  have HS2 := Hid.mk2 hs2
  obtain ⟨E, hEE⟩ : ∃ E, E = ckw T K key := ⟨_, rfl⟩
  rw [← hEE] at HC hE ⊢
  have hE2 : (E != 0) = true := by simpa using hE
  have hE3 : (E == 0) = false := by simpa using hE
  clear hEE hT hK
  clear hTl hKl hb2 hA hR hs2
  go_enter Try.func23, Try.ntmps23
  go_upto_region 1 with (fail)
  rw [← hw2]
  clear hw2
  obtain ⟨c0, c1, f0, f1, l0⟩ := HA.out
  obtain ⟨r0, r1, s0, s1, l1⟩ := HR.out
  go_wp2_with (first
    | (go_at_call 43; refine HC.out.mono ?_; rintro e w3 ⟨rfl, hb3⟩; have HB3 : Hid (Below w2.heap.size w2 w3) := hb3; clear hb3 c0 c1 f0 f1 l0 r0 r1 s0 s1 l1; obtain ⟨c0, c1, f0, f1, l0⟩ := HA.out.below HB3.out; obtain ⟨r0, r1, s0, s1, l1⟩ := HR.out.below HB3.out))
  obtain ⟨q0, q1, _, _, _⟩ := ((HR.out.below HB3.out).set0 (.slice none 0 0)).set1 (.slice none 0 0)
  try simp only [Exit.inBlock, Exit.then]
  refine bodyPost_ret (v := .tuple #[.agg #[.slice none 0 0, .slice none 0 0], .int .i64 (E)]) (by simp [results, Try.results23, go_sem, q0, q1]) rfl ⟨rfl, ?_⟩
  exact ((HB2.out.trans (HB3.out.mono HB2.out.size)).setCell (by simp) _).setCell (by simp) _
set_option maxHeartbeats 2000000 in
theorem rdel_none (T K : List ByteArray) (aT aK : Option Addr) (cT cK : Nat) (key : ByteArray) (w : World) (hTl : Tl w aT T cT) (hKl : Tl w aK K cK) (hT : T.length ≤ 300) (hK : K.length ≤ 300) (h0 : ckw T K key = 0) (hin : key ∉ K ++ T) :
    Calls Try.prog 23 #[.agg #[.slice aT T.length cT, .slice aK K.length cK], .string key] w fun e w' => e = .returned (.tuple #[.agg #[.slice none 0 0, .slice none 0 0], .int .i64 (6)]) ∧ Below w.heap.size w w' := by
  obtain ⟨w2, hw2, hb2, hA, hR, hs2⟩ := begin2 w (.slice aT T.length cT) (.slice aK K.length cK)
  have HC := Hid.mk2 (asked_any T K aT aK cT cK key w2 (hTl.below hb2) (hKl.below hb2) hT hK)
  have HT := Hid.mk2 (fun V (hb : Below w2.heap.size w2 V) => (hTl.below hb2).below hb)
  have HK := Hid.mk2 (fun V (hb : Below w2.heap.size w2 V) => (hKl.below hb2).below hb)
  have HB2 := Hid.mk2 hb2
  have HR := Hid.mk2 hR
  have HA := Hid.mk2 hA
  have HS2 := Hid.mk2 hs2
  rw [h0] at HC
  obtain ⟨L, hL⟩ : ∃ L, L = T ++ K := ⟨_, rfl⟩
  have hLL : L.length = T.length + K.length := by rw [hL]; simp
  have HAL := Hid.mk2 (fun V (hb : Below w2.heap.size w2 V) => rall_any T K L hL aT aK cT cK V (HT.out V hb) (HK.out V hb) hT hK)
  obtain ⟨I, hI⟩ : ∃ I, I = ixf L key := ⟨_, rfl⟩
  have HI := Hid.mk2 hI
  have hi0 : I = -1 := by rw [hI, hL]; exact ixf_no (fun h => hin (mem_comm h))
  clear hI hL hLL hin h0 hT hK
  clear hTl hKl hb2 hA hR hs2
  go_enter Try.func23, Try.ntmps23
  go_upto_region 1 with (fail)
  rw [← hw2]
  clear hw2
  obtain ⟨c0, c1, f0, f1, l0⟩ := HA.out
  obtain ⟨r0, r1, s0, s1, l1⟩ := HR.out
  go_wp2_with (first
    | (go_at_call 44; refine (rfind_any ao L L.length cap key _ HT4.out rfl).mono ?_; rw [← HI.out]; rintro e wi ⟨rfl, hwi⟩; obtain rfl : w4 = wi := hwi.symm)
    | (go_at_call 45; refine (HAL.out _ HB3.out).mono ?_; rintro e w4 ⟨ao, cap, rfl, hT4, hb4⟩; have HT4 := Hid.mk2 hT4; clear hT4; have HB4 : Hid (Below w2.heap.size w2 w4) := HB3.out.trans (hb4.mono HB3.out.size); clear c0 c1 f0 f1 l0 r0 r1 s0 s1 l1 hb4; obtain ⟨c0, c1, f0, f1, l0⟩ := HA.out.below HB4.out; obtain ⟨r0, r1, s0, s1, l1⟩ := HR.out.below HB4.out)
    | (go_at_call 43; refine HC.out.mono ?_; rintro e w3 ⟨rfl, hb3⟩; have HB3 : Hid (Below w2.heap.size w2 w3) := hb3; clear hb3 c0 c1 f0 f1 l0 r0 r1 s0 s1 l1; obtain ⟨c0, c1, f0, f1, l0⟩ := HA.out.below HB3.out; obtain ⟨r0, r1, s0, s1, l1⟩ := HR.out.below HB3.out))
  obtain ⟨q0, q1, _, _, _⟩ := ((HR.out.below HB4.out).set0 (.slice none 0 0)).set1 (.slice none 0 0)
  try simp only [Exit.inBlock, Exit.then]
  refine bodyPost_ret (v := .tuple #[.agg #[.slice none 0 0, .slice none 0 0], .int .i64 (6)]) (by simp [results, Try.results23, go_sem, q0, q1]) rfl ⟨rfl, ?_⟩
  exact ((HB2.out.trans (HB4.out.mono HB2.out.size)).setCell (by simp) _).setCell (by simp) _
theorem rdel_bad (T K : List ByteArray) (aT aK : Option Addr) (cT cK : Nat) (key : ByteArray) (w : World) (hTl : Tl w aT T cT) (hKl : Tl w aK K cK) (hT : T.length ≤ 300) (hK : K.length ≤ 300) (hE : htE T K key ≠ 0) :
    Calls Try.prog 23 #[.agg #[.slice aT T.length cT, .slice aK K.length cK], .string key] w fun e w' => e = .returned (.tuple #[.agg #[.slice none 0 0, .slice none 0 0], .int .i64 (htE T K key)]) ∧ Below w.heap.size w w' := by
  unfold htE at hE ⊢
  by_cases h1 : ckw T K key = 0
  · rw [if_neg (by simpa using h1)] at hE ⊢
    by_cases h2 : key ∈ K ++ T
    · rw [if_pos h2] at hE
      exact absurd rfl hE
    · rw [if_neg h2]
      exact rdel_none T K aT aK cT cK key w hTl hKl hT hK h1 h2
  · rw [if_pos h1]
    exact rdel_bad0 T K aT aK cT cK key w hTl hKl hT hK h1
set_option maxHeartbeats 2000000 in
theorem rhit_bad0 (T K : List ByteArray) (aT aK : Option Addr) (cT cK : Nat) (key : ByteArray) (w : World) (hTl : Tl w aT T cT) (hKl : Tl w aK K cK) (hT : T.length ≤ 300) (hK : K.length ≤ 300) (hE : ckw T K key ≠ 0) :
    Calls Try.prog 22 #[.agg #[.slice aT T.length cT, .slice aK K.length cK], .string key] w fun e w' => e = .returned (.tuple #[.agg #[.slice none 0 0, .slice none 0 0], .int .i64 (ckw T K key)]) ∧ Below w.heap.size w w' := by
  obtain ⟨w2, hw2, hb2, hA, hR, hs2⟩ := begin2 w (.slice aT T.length cT) (.slice aK K.length cK)
  have HC := Hid.mk2 (asked_any T K aT aK cT cK key w2 (hTl.below hb2) (hKl.below hb2) hT hK)
  have HT := Hid.mk2 (fun V (hb : Below w2.heap.size w2 V) => (hTl.below hb2).below hb)
  have HK := Hid.mk2 (fun V (hb : Below w2.heap.size w2 V) => (hKl.below hb2).below hb)
  have HB2 := Hid.mk2 hb2
  have HR := Hid.mk2 hR
  have HA := Hid.mk2 hA
  have HS2 := Hid.mk2 hs2
  obtain ⟨E, hEE⟩ : ∃ E, E = ckw T K key := ⟨_, rfl⟩
  rw [← hEE] at HC hE ⊢
  have hE2 : (E != 0) = true := by simpa using hE
  have hE3 : (E == 0) = false := by simpa using hE
  clear hEE hT hK
  clear hTl hKl hb2 hA hR hs2
  go_enter Try.func22, Try.ntmps22
  go_upto_region 1 with (fail)
  rw [← hw2]
  clear hw2
  obtain ⟨c0, c1, f0, f1, l0⟩ := HA.out
  obtain ⟨r0, r1, s0, s1, l1⟩ := HR.out
  go_wp2_with (first
    | (go_at_call 43; refine HC.out.mono ?_; rintro e w3 ⟨rfl, hb3⟩; have HB3 : Hid (Below w2.heap.size w2 w3) := hb3; clear hb3 c0 c1 f0 f1 l0 r0 r1 s0 s1 l1; obtain ⟨c0, c1, f0, f1, l0⟩ := HA.out.below HB3.out; obtain ⟨r0, r1, s0, s1, l1⟩ := HR.out.below HB3.out))
  obtain ⟨q0, q1, _, _, _⟩ := ((HR.out.below HB3.out).set0 (.slice none 0 0)).set1 (.slice none 0 0)
  try simp only [Exit.inBlock, Exit.then]
  refine bodyPost_ret (v := .tuple #[.agg #[.slice none 0 0, .slice none 0 0], .int .i64 (E)]) (by simp [results, Try.results22, go_sem, q0, q1]) rfl ⟨rfl, ?_⟩
  exact ((HB2.out.trans (HB3.out.mono HB2.out.size)).setCell (by simp) _).setCell (by simp) _
set_option maxHeartbeats 2000000 in
theorem rhit_none (T K : List ByteArray) (aT aK : Option Addr) (cT cK : Nat) (key : ByteArray) (w : World) (hTl : Tl w aT T cT) (hKl : Tl w aK K cK) (hT : T.length ≤ 300) (hK : K.length ≤ 300) (h0 : ckw T K key = 0) (hin : key ∉ K ++ T) :
    Calls Try.prog 22 #[.agg #[.slice aT T.length cT, .slice aK K.length cK], .string key] w fun e w' => e = .returned (.tuple #[.agg #[.slice none 0 0, .slice none 0 0], .int .i64 (6)]) ∧ Below w.heap.size w w' := by
  obtain ⟨w2, hw2, hb2, hA, hR, hs2⟩ := begin2 w (.slice aT T.length cT) (.slice aK K.length cK)
  have HC := Hid.mk2 (asked_any T K aT aK cT cK key w2 (hTl.below hb2) (hKl.below hb2) hT hK)
  have HT := Hid.mk2 (fun V (hb : Below w2.heap.size w2 V) => (hTl.below hb2).below hb)
  have HK := Hid.mk2 (fun V (hb : Below w2.heap.size w2 V) => (hKl.below hb2).below hb)
  have HB2 := Hid.mk2 hb2
  have HR := Hid.mk2 hR
  have HA := Hid.mk2 hA
  have HS2 := Hid.mk2 hs2
  rw [h0] at HC
  obtain ⟨L, hL⟩ : ∃ L, L = T ++ K := ⟨_, rfl⟩
  have hLL : L.length = T.length + K.length := by rw [hL]; simp
  have HAL := Hid.mk2 (fun V (hb : Below w2.heap.size w2 V) => rall_any T K L hL aT aK cT cK V (HT.out V hb) (HK.out V hb) hT hK)
  obtain ⟨I, hI⟩ : ∃ I, I = ixf L key := ⟨_, rfl⟩
  have HI := Hid.mk2 hI
  have hi0 : I = -1 := by rw [hI, hL]; exact ixf_no (fun h => hin (mem_comm h))
  clear hI hL hLL hin h0 hT hK
  clear hTl hKl hb2 hA hR hs2
  go_enter Try.func22, Try.ntmps22
  go_upto_region 1 with (fail)
  rw [← hw2]
  clear hw2
  obtain ⟨c0, c1, f0, f1, l0⟩ := HA.out
  obtain ⟨r0, r1, s0, s1, l1⟩ := HR.out
  go_wp2_with (first
    | (go_at_call 44; refine (rfind_any ao L L.length cap key _ HT4.out rfl).mono ?_; rw [← HI.out]; rintro e wi ⟨rfl, hwi⟩; obtain rfl : w4 = wi := hwi.symm)
    | (go_at_call 45; refine (HAL.out _ HB3.out).mono ?_; rintro e w4 ⟨ao, cap, rfl, hT4, hb4⟩; have HT4 := Hid.mk2 hT4; clear hT4; have HB4 : Hid (Below w2.heap.size w2 w4) := HB3.out.trans (hb4.mono HB3.out.size); clear c0 c1 f0 f1 l0 r0 r1 s0 s1 l1 hb4; obtain ⟨c0, c1, f0, f1, l0⟩ := HA.out.below HB4.out; obtain ⟨r0, r1, s0, s1, l1⟩ := HR.out.below HB4.out)
    | (go_at_call 43; refine HC.out.mono ?_; rintro e w3 ⟨rfl, hb3⟩; have HB3 : Hid (Below w2.heap.size w2 w3) := hb3; clear hb3 c0 c1 f0 f1 l0 r0 r1 s0 s1 l1; obtain ⟨c0, c1, f0, f1, l0⟩ := HA.out.below HB3.out; obtain ⟨r0, r1, s0, s1, l1⟩ := HR.out.below HB3.out))
  obtain ⟨q0, q1, _, _, _⟩ := ((HR.out.below HB4.out).set0 (.slice none 0 0)).set1 (.slice none 0 0)
  try simp only [Exit.inBlock, Exit.then]
  refine bodyPost_ret (v := .tuple #[.agg #[.slice none 0 0, .slice none 0 0], .int .i64 (6)]) (by simp [results, Try.results22, go_sem, q0, q1]) rfl ⟨rfl, ?_⟩
  exact ((HB2.out.trans (HB4.out.mono HB2.out.size)).setCell (by simp) _).setCell (by simp) _
theorem rhit_bad (T K : List ByteArray) (aT aK : Option Addr) (cT cK : Nat) (key : ByteArray) (w : World) (hTl : Tl w aT T cT) (hKl : Tl w aK K cK) (hT : T.length ≤ 300) (hK : K.length ≤ 300) (hE : htE T K key ≠ 0) :
    Calls Try.prog 22 #[.agg #[.slice aT T.length cT, .slice aK K.length cK], .string key] w fun e w' => e = .returned (.tuple #[.agg #[.slice none 0 0, .slice none 0 0], .int .i64 (htE T K key)]) ∧ Below w.heap.size w w' := by
  unfold htE at hE ⊢
  by_cases h1 : ckw T K key = 0
  · rw [if_neg (by simpa using h1)] at hE ⊢
    by_cases h2 : key ∈ K ++ T
    · rw [if_pos h2] at hE
      exact absurd rfl hE
    · rw [if_neg h2]
      exact rhit_none T K aT aK cT cK key w hTl hKl hT hK h1 h2
  · rw [if_pos h1]
    exact rhit_bad0 T K aT aK cT cK key w hTl hKl hT hK h1
set_option maxHeartbeats 2000000 in
theorem rdel_ok (T K : List ByteArray) (aT aK : Option Addr) (cT cK : Nat) (key : ByteArray) (w : World) (hTl : Tl w aT T cT) (hKl : Tl w aK K cK) (hT : T.length ≤ 300) (hK : K.length ≤ 300) (hE : htE T K key = 0) :
    Calls Try.prog 23 #[.agg #[.slice aT T.length cT, .slice aK K.length cK], .string key] w fun e w' => ∃ aT' cT' aK' cK', e = .returned (.tuple #[.agg #[.slice aT' (dlT T K key).length cT', .slice aK' (dlK T K key).length cK'], .int .i64 0]) ∧ Tl w' aT' (dlT T K key) cT' ∧ Tl w' aK' (dlK T K key) cK' ∧ Fr w.heap.size aT' (dlT T K key) ∧ Fr w.heap.size aK' (dlK T K key) ∧ Below w.heap.size w w' := by
  obtain ⟨w2, hw2, hb2, hA, hR, hs2⟩ := begin2 w (.slice aT T.length cT) (.slice aK K.length cK)
  have HC := Hid.mk2 (asked_any T K aT aK cT cK key w2 (hTl.below hb2) (hKl.below hb2) hT hK)
  have HT := Hid.mk2 (fun V (hb : Below w2.heap.size w2 V) => (hTl.below hb2).below hb)
  have HK := Hid.mk2 (fun V (hb : Below w2.heap.size w2 V) => (hKl.below hb2).below hb)
  have HB2 := Hid.mk2 hb2
  have HR := Hid.mk2 hR
  have HA := Hid.mk2 hA
  have HS2 := Hid.mk2 hs2
  obtain ⟨h0, hok, hk, hin⟩ := htE_zero hE
  rw [h0] at HC
  obtain ⟨L, hL⟩ : ∃ L, L = T ++ K := ⟨_, rfl⟩
  have hLL : L.length = T.length + K.length := by rw [hL]; simp
  have HAL := Hid.mk2 (fun V (hb : Below w2.heap.size w2 V) => rall_any T K L hL aT aK cT cK V (HT.out V hb) (HK.out V hb) hT hK)
  obtain ⟨I, hI⟩ : ∃ I, I = ixf L key := ⟨_, rfl⟩
  have HI := Hid.mk2 hI
  have hi0 : 0 ≤ I := by rw [hI, hL]; exact ixf_in (mem_comm hin)
  have hi1 : ¬ I < 0 := by omega
  have hndT : T.Nodup := (List.nodup_append.1 hok.nodup).2.1
  have hndK : K.Nodup := (List.nodup_append.1 hok.nodup).1
  have l1 : (T.erase key).length ≤ 300 := Nat.le_trans List.length_erase_le hT
  have l2 : (K.erase key).length ≤ 299 := by have h1 := @List.length_erase_le _ _ key K; have h2 := hok.many; have h3 := hok.half; omega
  unfold dlT dlK
  obtain ⟨T0, hT0⟩ : ∃ T0, T0 = T.erase key := ⟨_, rfl⟩
  obtain ⟨K0, hK0⟩ : ∃ K0, K0 = K.erase key := ⟨_, rfl⟩
  rw [← hT0] at l1 ⊢
  rw [← hK0] at l2 ⊢
  have HOU := Hid.mk2 (fun V (hb : Below w2.heap.size w2 V) => rout_any T K T0 K0 key (by rw [hT0, filt_erase hndT]) (by rw [hK0, filt_erase hndK]) aT aK cT cK V (HT.out V hb) (HK.out V hb) hT hK)
  have HLV := Hid.mk2 (fun V (a : Option Addr) c (b : Option Addr) d (h1 : Tl V a T0 c) (h2 : Tl V b K0 d) (hs : w2.heap.size ≤ V.heap.size) (f1 : Fr w2.heap.size a T0) (f2 : Fr w2.heap.size b K0) => rlevel_any T0 K0 a b c d V h1 h2 l1 (by omega) w2.heap.size hs f1 f2)
  obtain ⟨T1, hT1⟩ : ∃ T1, T1 = lvT T0 K0 := ⟨_, rfl⟩
  obtain ⟨K1, hK1⟩ : ∃ K1, K1 = lvK T0 K0 := ⟨_, rfl⟩
  rw [← hT1, ← hK1] at HLV ⊢
  clear hI hL hLL hin h0 hT hK hok hk hE hndT hndK l1 l2 hT0 hK0 hT1 hK1
  clear hTl hKl hb2 hA hR hs2
  go_enter Try.func23, Try.ntmps23
  go_upto_region 1 with (fail)
  rw [← hw2]
  clear hw2
  obtain ⟨c0, c1, f0, f1, l0⟩ := HA.out
  obtain ⟨r0, r1, s0, s1, l1⟩ := HR.out
  go_wp2_with (first
    | (go_at_call 48; refine (HLV.out _ _ _ _ _ HT5.out HK5.out HB5.out.size HF5.out HG5.out).mono ?_; rintro e w8 ⟨a8, c8, b8, d8, rfl, hT8, hK8, hf8, hg8, hb8⟩; have HT8 := Hid.mk2 hT8; have HK8 := Hid.mk2 hK8; have HF8 := Hid.mk2 hf8; have HG8 := Hid.mk2 hg8; clear hT8 hK8 hf8 hg8; have HB8 : Hid (Below w2.heap.size w2 w8) := HB5.out.trans (hb8.mono HB5.out.size); clear c0 c1 f0 f1 l0 r0 r1 s0 s1 l1 hb8; obtain ⟨c0, c1, f0, f1, l0⟩ := HA.out.below HB8.out; obtain ⟨r0, r1, s0, s1, l1⟩ := HR.out.below HB8.out)
    | (go_at_call 47; refine (HOU.out _ HB4.out).mono ?_; rintro e w5 ⟨a5, c5, b5, d5, rfl, hT5, hK5, hf5, hg5, hb5⟩; have HT5 := Hid.mk2 hT5; have HK5 := Hid.mk2 hK5; have HF5 := Hid.mk2 (hf5.mono HB4.out.size); have HG5 := Hid.mk2 (hg5.mono HB4.out.size); clear hT5 hK5 hf5 hg5; have HB5 : Hid (Below w2.heap.size w2 w5) := HB4.out.trans (hb5.mono HB4.out.size); clear c0 c1 f0 f1 l0 r0 r1 s0 s1 l1 hb5; obtain ⟨c0, c1, f0, f1, l0⟩ := HA.out.below HB5.out; obtain ⟨r0, r1, s0, s1, l1⟩ := HR.out.below HB5.out)
    | (go_at_call 44; refine (rfind_any ao L L.length cap key _ HT4.out rfl).mono ?_; rw [← HI.out]; rintro e wi ⟨rfl, hwi⟩; obtain rfl : w4 = wi := hwi.symm)
    | (go_at_call 45; refine (HAL.out _ HB3.out).mono ?_; rintro e w4 ⟨ao, cap, rfl, hT4, hb4⟩; have HT4 := Hid.mk2 hT4; clear hT4; have HB4 : Hid (Below w2.heap.size w2 w4) := HB3.out.trans (hb4.mono HB3.out.size); clear c0 c1 f0 f1 l0 r0 r1 s0 s1 l1 hb4; obtain ⟨c0, c1, f0, f1, l0⟩ := HA.out.below HB4.out; obtain ⟨r0, r1, s0, s1, l1⟩ := HR.out.below HB4.out)
    | (go_at_call 43; refine HC.out.mono ?_; rintro e w3 ⟨rfl, hb3⟩; have HB3 : Hid (Below w2.heap.size w2 w3) := hb3; clear hb3 c0 c1 f0 f1 l0 r0 r1 s0 s1 l1; obtain ⟨c0, c1, f0, f1, l0⟩ := HA.out.below HB3.out; obtain ⟨r0, r1, s0, s1, l1⟩ := HR.out.below HB3.out))
  have HRZ := Hid.mk2 (HR.out.below HB8.out)
  have HBZ := HB8
  have HFR1 := Hid.mk2 (HF8.out.mono HB2.out.size)
  have HFR2 := Hid.mk2 (HG8.out.mono HB2.out.size)
  have HF1 : Hid (∀ g off, a8 = some ⟨g, off, none⟩ → T1 ≠ [] → g ≠ w.heap.size + 1) := fun g off e h => by have := HF8.out g off e h; have := HS2.out; omega
  have HF2 : Hid (∀ g off, b8 = some ⟨g, off, none⟩ → K1 ≠ [] → g ≠ w.heap.size + 1) := fun g off e h => by have := HG8.out g off e h; have := HS2.out; omega
  obtain ⟨q0, q1, _, _, _⟩ := (HRZ.out.set0 (.slice a8 T1.length c8)).set1 (.slice b8 K1.length d8)
  try simp only [Exit.inBlock, Exit.then]
  exact bodyPost_ret (v := .tuple #[.agg #[.slice a8 T1.length c8, .slice b8 K1.length d8], .int .i64 0]) (by simp [results, Try.results23, go_sem, q0, q1]) rfl ⟨a8, c8, b8, d8, rfl, (HT8.out.setc _ _ HF1.out).setc _ _ HF1.out, (HK8.out.setc _ _ HF2.out).setc _ _ HF2.out, HFR1.out, HFR2.out, ((HB2.out.trans (HBZ.out.mono HB2.out.size)).setCell (by simp) _).setCell (by simp) _⟩
set_option maxHeartbeats 2000000 in
theorem rhit_ok (T K : List ByteArray) (aT aK : Option Addr) (cT cK : Nat) (key : ByteArray) (w : World) (hTl : Tl w aT T cT) (hKl : Tl w aK K cK) (hT : T.length ≤ 300) (hK : K.length ≤ 300) (hE : htE T K key = 0) :
    Calls Try.prog 22 #[.agg #[.slice aT T.length cT, .slice aK K.length cK], .string key] w fun e w' => ∃ aT' cT' aK' cK', e = .returned (.tuple #[.agg #[.slice aT' (htT T K key).length cT', .slice aK' (htK T K key).length cK'], .int .i64 0]) ∧ Tl w' aT' (htT T K key) cT' ∧ Tl w' aK' (htK T K key) cK' ∧ Fr w.heap.size aT' (htT T K key) ∧ Fr w.heap.size aK' (htK T K key) ∧ Below w.heap.size w w' := by
  obtain ⟨w2, hw2, hb2, hA, hR, hs2⟩ := begin2 w (.slice aT T.length cT) (.slice aK K.length cK)
  have HC := Hid.mk2 (asked_any T K aT aK cT cK key w2 (hTl.below hb2) (hKl.below hb2) hT hK)
  have HT := Hid.mk2 (fun V (hb : Below w2.heap.size w2 V) => (hTl.below hb2).below hb)
  have HK := Hid.mk2 (fun V (hb : Below w2.heap.size w2 V) => (hKl.below hb2).below hb)
  have HB2 := Hid.mk2 hb2
  have HR := Hid.mk2 hR
  have HA := Hid.mk2 hA
  have HS2 := Hid.mk2 hs2
  obtain ⟨h0, hok, hk, hin⟩ := htE_zero hE
  rw [h0] at HC
  obtain ⟨L, hL⟩ : ∃ L, L = T ++ K := ⟨_, rfl⟩
  have hLL : L.length = T.length + K.length := by rw [hL]; simp
  have HAL := Hid.mk2 (fun V (hb : Below w2.heap.size w2 V) => rall_any T K L hL aT aK cT cK V (HT.out V hb) (HK.out V hb) hT hK)
  obtain ⟨I, hI⟩ : ∃ I, I = ixf L key := ⟨_, rfl⟩
  have HI := Hid.mk2 hI
  have hi0 : 0 ≤ I := by rw [hI, hL]; exact ixf_in (mem_comm hin)
  have hi1 : ¬ I < 0 := by omega
  have hndT : T.Nodup := (List.nodup_append.1 hok.nodup).2.1
  have hndK : K.Nodup := (List.nodup_append.1 hok.nodup).1
  have l1 : (T.erase key).length ≤ 300 := Nat.le_trans List.length_erase_le hT
  have l2 : (K.erase key).length ≤ 299 := by have h1 := @List.length_erase_le _ _ key K; have h2 := hok.many; have h3 := hok.half; omega
  unfold htT htK
  obtain ⟨T0, hT0⟩ : ∃ T0, T0 = T.erase key := ⟨_, rfl⟩
  obtain ⟨K0, hK0⟩ : ∃ K0, K0 = K.erase key := ⟨_, rfl⟩
  rw [← hT0] at l1 ⊢
  rw [← hK0] at l2 ⊢
  have HOU := Hid.mk2 (fun V (hb : Below w2.heap.size w2 V) => rout_any T K T0 K0 key (by rw [hT0, filt_erase hndT]) (by rw [hK0, filt_erase hndK]) aT aK cT cK V (HT.out V hb) (HK.out V hb) hT hK)
  obtain ⟨K9, hK9⟩ : ∃ K9, K9 = key :: K0 := ⟨_, rfl⟩
  rw [← hK9]
  have l9 : K9.length ≤ 300 := by rw [hK9]; simp; omega
  have HFI := Hid.mk2 (fun V (b : Option Addr) d (h1 : Tl V b K0 d) => rfirst_any key K0 K9 hK9 b d V h1 (by omega))
  have HLV := Hid.mk2 (fun V (a : Option Addr) c (b : Option Addr) d (h1 : Tl V a T0 c) (h2 : Tl V b K9 d) (hs : w2.heap.size ≤ V.heap.size) (f1 : Fr w2.heap.size a T0) (f2 : Fr w2.heap.size b K9) => rlevel_any T0 K9 a b c d V h1 h2 l1 l9 w2.heap.size hs f1 f2)
  obtain ⟨T1, hT1⟩ : ∃ T1, T1 = lvT T0 K9 := ⟨_, rfl⟩
  obtain ⟨K1, hK1⟩ : ∃ K1, K1 = lvK T0 K9 := ⟨_, rfl⟩
  rw [← hT1, ← hK1] at HLV ⊢
  clear hI hL hLL hin h0 hT hK hok hk hE hndT hndK l1 l2 hT0 hK0 hT1 hK1 hK9 l9
  clear hTl hKl hb2 hA hR hs2
  go_enter Try.func22, Try.ntmps22
  go_upto_region 1 with (fail)
  rw [← hw2]
  clear hw2
  obtain ⟨c0, c1, f0, f1, l0⟩ := HA.out
  obtain ⟨r0, r1, s0, s1, l1⟩ := HR.out
  go_upto_region 7 with (first
    | (go_at_call 47; refine (HOU.out _ HB4.out).mono ?_; rintro e w5 ⟨a5, c5, b5, d5, rfl, hT5, hK5, hf5, hg5, hb5⟩; have HT5 := Hid.mk2 hT5; have HK5 := Hid.mk2 hK5; have HF5 := Hid.mk2 (hf5.mono HB4.out.size); have HG5 := Hid.mk2 (hg5.mono HB4.out.size); clear hT5 hK5 hf5 hg5; have HB5 : Hid (Below w2.heap.size w2 w5) := HB4.out.trans (hb5.mono HB4.out.size); clear c0 c1 f0 f1 l0 r0 r1 s0 s1 l1 hb5; obtain ⟨c0, c1, f0, f1, l0⟩ := HA.out.below HB5.out; obtain ⟨r0, r1, s0, s1, l1⟩ := HR.out.below HB5.out)
    | (go_at_call 44; refine (rfind_any ao L L.length cap key _ HT4.out rfl).mono ?_; rw [← HI.out]; rintro e wi ⟨rfl, hwi⟩; obtain rfl : w4 = wi := hwi.symm)
    | (go_at_call 45; refine (HAL.out _ HB3.out).mono ?_; rintro e w4 ⟨ao, cap, rfl, hT4, hb4⟩; have HT4 := Hid.mk2 hT4; clear hT4; have HB4 : Hid (Below w2.heap.size w2 w4) := HB3.out.trans (hb4.mono HB3.out.size); clear c0 c1 f0 f1 l0 r0 r1 s0 s1 l1 hb4; obtain ⟨c0, c1, f0, f1, l0⟩ := HA.out.below HB4.out; obtain ⟨r0, r1, s0, s1, l1⟩ := HR.out.below HB4.out)
    | (go_at_call 43; refine HC.out.mono ?_; rintro e w3 ⟨rfl, hb3⟩; have HB3 : Hid (Below w2.heap.size w2 w3) := hb3; clear hb3 c0 c1 f0 f1 l0 r0 r1 s0 s1 l1; obtain ⟨c0, c1, f0, f1, l0⟩ := HA.out.below HB3.out; obtain ⟨r0, r1, s0, s1, l1⟩ := HR.out.below HB3.out))
  have HB6 : Hid (Below w2.heap.size w2 (w5.alloc (Obj.cells #[.slice a5 T0.length c5, .slice b5 K0.length d5] 24))) := HB5.out.alloc HB5.out.size _
  have HX6 := Hid.mk2 (OB.made w5 (.slice a5 T0.length c5) (.slice b5 K0.length d5))
  have HT6 := Hid.mk2 (HT5.out.alloc (Obj.cells #[.slice a5 T0.length c5, .slice b5 K0.length d5] 24))
  have HK6 := Hid.mk2 (HK5.out.alloc (Obj.cells #[.slice a5 T0.length c5, .slice b5 K0.length d5] 24))
  obtain ⟨w6, hw6⟩ : ∃ w6, w6 = w5.alloc (Obj.cells #[.slice a5 T0.length c5, .slice b5 K0.length d5] 24) := ⟨_, rfl⟩
  rw [← hw6] at HB6 HX6 HT6 HK6
  rw [← hw6]
  clear hw6 c0 c1 f0 f1 l0 r0 r1 s0 s1 l1
  obtain ⟨x0, x1, y0, y1, xl⟩ := HX6.out
  obtain ⟨r0, r1, s0, s1, l1⟩ := HR.out.below HB6.out
  go_region_with (first
    | (go_at_call 48; refine (HLV.out _ _ _ _ _ (HT6.out.below HB7.out) HK7.out HS7.out HF5.out HG7.out).mono ?_; rintro e w8 ⟨a8, c8, b8, d8, rfl, hT8, hK8, hf8, hg8, hb8⟩; have HT8 := Hid.mk2 hT8; have HK8 := Hid.mk2 hK8; have HF8 := Hid.mk2 hf8; have HG8 := Hid.mk2 hg8; have HB8 : Hid (Below w2.heap.size w2 w8) := (HB6.out.trans (HB7.out.mono HB6.out.size)).trans (hb8.mono HS7.out); clear hT8 hK8 hf8 hg8 hb8 r0 r1 s0 s1 l1; obtain ⟨r0, r1, s0, s1, l1⟩ := HR.out.below HB8.out)
    | (go_at_call 46; refine (HFI.out _ _ _ (by first | exact HK6.out | exact HK6.out.below (Below.refl _ _).drew)).mono ?_; rintro e w7 ⟨b7, d7, rfl, hO7, hb70⟩; have HB7 : Hid (Below w6.heap.size w6 w7) := (by first | exact hb70 | exact below_drew0 hb70); have HO7 : Hid (OwnTs w7 w6.heap.size (.slice b7 K9.length d7) K9) := hO7; have HK7 : Hid (Tl w7 b7 K9 d7) := (by obtain ⟨ax, cx, e, hh⟩ := HO7.out.tl; cases e; exact hh); have HS7 : Hid (w2.heap.size ≤ w7.heap.size) := Nat.le_trans HB6.out.size HB7.out.size; have HG7 := Hid.mk2 (HO7.out.fr.mono HB6.out.size); clear hO7 hb70 x0 x1 y0 y1 xl; obtain ⟨x0, x1, y0, y1, xl⟩ := HX6.out.below HB7.out))
  all_goals
    go_wp2
    have HRZ := Hid.mk2 (HR.out.below HB8.out)
    have HBZ := HB8
    have HFR1 := Hid.mk2 (HF8.out.mono HB2.out.size)
    have HFR2 := Hid.mk2 (HG8.out.mono HB2.out.size)
    have HF1 : Hid (∀ g off, a8 = some ⟨g, off, none⟩ → T1 ≠ [] → g ≠ w.heap.size + 1) := fun g off e h => by have := HF8.out g off e h; have := HS2.out; omega
    have HF2 : Hid (∀ g off, b8 = some ⟨g, off, none⟩ → K1 ≠ [] → g ≠ w.heap.size + 1) := fun g off e h => by have := HG8.out g off e h; have := HS2.out; omega
    obtain ⟨q0, q1, _, _, _⟩ := (HRZ.out.set0 (.slice a8 T1.length c8)).set1 (.slice b8 K1.length d8)
    try simp only [Exit.inBlock, Exit.then]
    exact bodyPost_ret (v := .tuple #[.agg #[.slice a8 T1.length c8, .slice b8 K1.length d8], .int .i64 0]) (by simp [results, Try.results22, go_sem, q0, q1]) rfl ⟨a8, c8, b8, d8, rfl, (HT8.out.setc _ _ HF1.out).setc _ _ HF1.out, (HK8.out.setc _ _ HF2.out).setc _ _ HF2.out, HFR1.out, HFR2.out, ((HB2.out.trans (HBZ.out.mono HB2.out.size)).setCell (by simp) _).setCell (by simp) _⟩
end Go.Proofs.Ytmdlampmoeiihaa
