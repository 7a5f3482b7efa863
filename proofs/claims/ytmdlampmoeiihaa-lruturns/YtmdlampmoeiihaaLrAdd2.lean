/-
  Package lru: the contract of Add.
-/
import Derived.Test.YtmdlampmoeiihaaLrAdd
namespace Go.Proofs.Ytmdlampmoeiihaa
open Go.RowKit Go.Shelf Go.Lib Go.Sort
set_option linter.unusedSimpArgs false
set_option linter.unusedVariables false
set_option maxRecDepth 100000

theorem add_bad0 (T K : List ByteArray) (aT aK : Option Addr) (cT cK : Nat) (key : ByteArray) (w : World) (hTl : Tl w aT T cT) (hKl : Tl w aK K cK) (hT : T.length ≤ 300) (hK : K.length ≤ 300) (hE : ckw T K key ≠ 0) :
    Calls Try.prog 14 #[.agg #[.slice aT T.length cT, .slice aK K.length cK], .string key] w fun e w' => e = .returned (.tuple #[.agg #[.slice none 0 0, .slice none 0 0], .int .i64 (ckw T K key)]) ∧ Below w.heap.size w w' := by
  obtain ⟨w2, hw2, hb2, hA, hR, hs2⟩ := begin2 w (.slice aT T.length cT) (.slice aK K.length cK)
  have HC := Hid.mk2 (checkWith_any T K aT aK cT cK key w2 (hTl.below hb2) (hKl.below hb2) hT hK)
  obtain ⟨E, hEE⟩ : ∃ E, E = ckw T K key := ⟨_, rfl⟩
  rw [← hEE] at HC hE ⊢
  have hE2 : (E != 0) = true := by simpa using hE
  have hE3 : (E == 0) = false := by simpa using hE
  have HB2 := Hid.mk2 hb2
  have HR := Hid.mk2 hR
  have HA := Hid.mk2 hA
  clear hTl hKl hT hK hb2 hEE hA hR
  go_enter Try.func14, Try.ntmps14
  go_upto_region 1 with (fail)
  rw [← hw2]
  clear hw2
  obtain ⟨c0, c1, f0, f1, l0⟩ := HA.out
  obtain ⟨r0, r1, s0, s1, l1⟩ := HR.out
  go_wp2_with (go_at_call 35; refine HC.out.mono ?_; rintro e w3 ⟨rfl, hb3⟩; have HB3 := Hid.mk2 hb3; clear r0 r1 s0 s1 l1; obtain ⟨r0, r1, s0, s1, l1⟩ := HR.out.below hb3; have HR3 := Hid.mk2 (HR.out.below hb3); clear hb3)
  obtain ⟨q0, q1, _, _, _⟩ := (HR3.out.set0 (.slice none 0 0)).set1 (.slice none 0 0)
  try simp only [Exit.inBlock, Exit.then]
  refine bodyPost_ret (v := .tuple #[.agg #[.slice none 0 0, .slice none 0 0], .int .i64 E]) (by simp [results, Try.results14, go_sem, q0, q1]) rfl ⟨rfl, ?_⟩
  exact ((HB2.out.trans (HB3.out.mono HB2.out.size)).setCell (by simp) _).setCell (by simp) _
set_option maxHeartbeats 1000000 in
theorem add_bad1 (T K : List ByteArray) (aT aK : Option Addr) (cT cK : Nat) (key : ByteArray) (w : World) (hTl : Tl w aT T cT) (hKl : Tl w aK K cK) (hT : T.length ≤ 300) (hK : K.length ≤ 300) (h0 : ckw T K key = 0) (hin : key ∈ K ++ T) :
    Calls Try.prog 14 #[.agg #[.slice aT T.length cT, .slice aK K.length cK], .string key] w fun e w' => e = .returned (.tuple #[.agg #[.slice none 0 0, .slice none 0 0], .int .i64 2]) ∧ Below w.heap.size w w' := by
  obtain ⟨w2, hw2, hb2, hA, hR, hs2⟩ := begin2 w (.slice aT T.length cT) (.slice aK K.length cK)
  have HC := Hid.mk2 (checkWith_any T K aT aK cT cK key w2 (hTl.below hb2) (hKl.below hb2) hT hK)
  rw [h0] at HC
  have HIX := Hid.mk2 (fun W (hb : Below w2.heap.size w2 W) => indexOf_any aT T cT key W ((hTl.below hb2).below hb))
  have HIY := Hid.mk2 (fun W (hb : Below w2.heap.size w2 W) => indexOf_any aK K cK key W ((hKl.below hb2).below hb))
  have HB2 := Hid.mk2 hb2
  have HR := Hid.mk2 hR
  have HA := Hid.mk2 hA
  by_cases hiT : key ∈ T
  · have HI := Hid.mk2 hiT
    clear hTl hKl hT hK hb2 hA hR h0 hs2 hin hiT
    go_enter Try.func14, Try.ntmps14
    go_upto_region 1 with (fail)
    rw [← hw2]
    clear hw2
    obtain ⟨c0, c1, f0, f1, l0⟩ := HA.out
    obtain ⟨r0, r1, s0, s1, l1⟩ := HR.out
    go_wp2_with (first
      | (go_at_call 36; refine (HIX.out _ HB3.out).mono ?_; rintro e wi ⟨i, rfl, hix, hwi⟩; obtain rfl : w3 = wi := hwi.symm; obtain ⟨j, rfl, hj, hje⟩ := hix.is HI.out; clear hix hje; have hj0 : (0 : Int) ≤ (j : Int) := (by omega); have hj1 : decide ((0 : Int) ≤ (j : Int)) = true := (by simp))
      | (go_at_call 35; refine HC.out.mono ?_; rintro e w3 ⟨rfl, hb3⟩; have HB3 := Hid.mk2 hb3; clear c0 c1 f0 f1 l0 r0 r1 s0 s1 l1; obtain ⟨c0, c1, f0, f1, l0⟩ := HA.out.below hb3; obtain ⟨r0, r1, s0, s1, l1⟩ := HR.out.below hb3; have HR3 := Hid.mk2 (HR.out.below hb3); clear hb3))
    obtain ⟨q0, q1, _, _, _⟩ := (HR3.out.set0 (.slice none 0 0)).set1 (.slice none 0 0)
    try simp only [Exit.inBlock, Exit.then]
    refine bodyPost_ret (v := .tuple #[.agg #[.slice none 0 0, .slice none 0 0], .int .i64 2]) (by simp [results, Try.results14, go_sem, q0, q1]) rfl ⟨rfl, ?_⟩
    exact ((HB2.out.trans (HB3.out.mono HB2.out.size)).setCell (by simp) _).setCell (by simp) _
  · have HI := Hid.mk2 hiT
    have HI2 : Hid (key ∈ K) := by rcases List.mem_append.1 hin with h | h; exact h; exact absurd h hiT
    clear hTl hKl hT hK hb2 hA hR h0 hs2 hin hiT
    go_enter Try.func14, Try.ntmps14
    go_upto_region 1 with (fail)
    rw [← hw2]
    clear hw2
    obtain ⟨c0, c1, f0, f1, l0⟩ := HA.out
    obtain ⟨r0, r1, s0, s1, l1⟩ := HR.out
    go_wp2_with (first
      | (go_at_call 36; refine (HIY.out _ mark.out).mono ?_; rintro e wi ⟨i, rfl, hix, hwi⟩; obtain rfl : w3 = wi := hwi.symm; obtain ⟨j, rfl, hj, hje⟩ := hix.is HI2.out; clear hix hje; have hj0 : (0 : Int) ≤ (j : Int) := (by omega); have hj1 : decide ((0 : Int) ≤ (j : Int)) = true := (by simp))
      | (go_at_call 36; refine (HIX.out _ HB3.out).mono ?_; rintro e wi ⟨i, rfl, hix, hwi⟩; obtain rfl : w3 = wi := hwi.symm; obtain rfl := hix.no HI.out; clear hix; have mark := HB3)
      | (go_at_call 35; refine HC.out.mono ?_; rintro e w3 ⟨rfl, hb3⟩; have HB3 := Hid.mk2 hb3; clear c0 c1 f0 f1 l0 r0 r1 s0 s1 l1; obtain ⟨c0, c1, f0, f1, l0⟩ := HA.out.below hb3; obtain ⟨r0, r1, s0, s1, l1⟩ := HR.out.below hb3; have HR3 := Hid.mk2 (HR.out.below hb3); clear hb3))
    obtain ⟨q0, q1, _, _, _⟩ := (HR3.out.set0 (.slice none 0 0)).set1 (.slice none 0 0)
    try simp only [Exit.inBlock, Exit.then]
    refine bodyPost_ret (v := .tuple #[.agg #[.slice none 0 0, .slice none 0 0], .int .i64 2]) (by simp [results, Try.results14, go_sem, q0, q1]) rfl ⟨rfl, ?_⟩
    exact ((HB2.out.trans (HB3.out.mono HB2.out.size)).setCell (by simp) _).setCell (by simp) _
set_option maxHeartbeats 1000000 in
theorem add_full (T K : List ByteArray) (aT aK : Option Addr) (cT cK : Nat) (key : ByteArray) (w : World) (hTl : Tl w aT T cT) (hKl : Tl w aK K cK) (hT : T.length ≤ 300) (hK : K.length ≤ 300) (h0 : ckw T K key = 0) (hin : key ∉ K ++ T) (hf : K.length + T.length = 256) :
    Calls Try.prog 14 #[.agg #[.slice aT T.length cT, .slice aK K.length cK], .string key] w fun e w' => e = .returned (.tuple #[.agg #[.slice none 0 0, .slice none 0 0], .int .i64 9]) ∧ Below w.heap.size w w' := by
  obtain ⟨w2, hw2, hb2, hA, hR, hs2⟩ := begin2 w (.slice aT T.length cT) (.slice aK K.length cK)
  have HC := Hid.mk2 (checkWith_any T K aT aK cT cK key w2 (hTl.below hb2) (hKl.below hb2) hT hK)
  rw [h0] at HC
  have HIX := Hid.mk2 (fun W (hb : Below w2.heap.size w2 W) => indexOf_any aT T cT key W ((hTl.below hb2).below hb))
  have HIY := Hid.mk2 (fun W (hb : Below w2.heap.size w2 W) => indexOf_any aK K cK key W ((hKl.below hb2).below hb))
  have HMN := Hid.mk2 (fun W => many_any aT aK T.length cT K.length cK W (by omega) (by omega))
  have hmI : ((T.length : Int) + (K.length : Int)) = 256 := by omega
  rw [hmI] at HMN
  have HB2 := Hid.mk2 hb2
  have HR := Hid.mk2 hR
  have HA := Hid.mk2 hA
  have HI : Hid (key ∉ T) := fun h => hin (List.mem_append.2 (.inr h))
  have HI2 : Hid (key ∉ K) := fun h => hin (List.mem_append.2 (.inl h))
  clear hTl hKl hT hK hb2 hA hR h0 hs2 hin hf hmI
  go_enter Try.func14, Try.ntmps14
  go_upto_region 1 with (fail)
  rw [← hw2]
  clear hw2
  obtain ⟨c0, c1, f0, f1, l0⟩ := HA.out
  obtain ⟨r0, r1, s0, s1, l1⟩ := HR.out
  go_wp2_with (first
    | (go_at_call 37; refine (HMN.out _).mono ?_; rintro e wi ⟨rfl, hwi⟩; have HB4 : Hid (Below w3.heap.size w3 wi) := (by rw [hwi]; exact (Below.refl _ _).alloc (Nat.le_refl _) _); clear hwi c0 c1 f0 f1 l0 r0 r1 s0 s1 l1; obtain ⟨r0, r1, s0, s1, l1⟩ := HR3.out.below HB4.out; have HR4 := Hid.mk2 (HR3.out.below HB4.out))
    | (go_at_call 36; refine (HIY.out _ mark.out).mono ?_; rintro e wi ⟨i, rfl, hix, hwi⟩; obtain rfl : w3 = wi := hwi.symm; obtain rfl := hix.no HI2.out; clear hix)
    | (go_at_call 36; refine (HIX.out _ HB3.out).mono ?_; rintro e wi ⟨i, rfl, hix, hwi⟩; obtain rfl : w3 = wi := hwi.symm; obtain rfl := hix.no HI.out; clear hix; have mark := HB3)
    | (go_at_call 35; refine HC.out.mono ?_; rintro e w3 ⟨rfl, hb3⟩; have HB3 := Hid.mk2 hb3; clear c0 c1 f0 f1 l0 r0 r1 s0 s1 l1; obtain ⟨c0, c1, f0, f1, l0⟩ := HA.out.below hb3; obtain ⟨r0, r1, s0, s1, l1⟩ := HR.out.below hb3; have HR3 := Hid.mk2 (HR.out.below hb3); clear hb3))
  obtain ⟨q0, q1, _, _, _⟩ := (HR4.out.set0 (.slice none 0 0)).set1 (.slice none 0 0)
  try simp only [Exit.inBlock, Exit.then]
  refine bodyPost_ret (v := .tuple #[.agg #[.slice none 0 0, .slice none 0 0], .int .i64 9]) (by simp [results, Try.results14, go_sem, q0, q1]) rfl ⟨rfl, ?_⟩
  have hb := HB2.out.trans (HB3.out.mono HB2.out.size)
  exact ((hb.trans (HB4.out.mono hb.size)).setCell (by simp) _).setCell (by simp) _
theorem add_bad (T K : List ByteArray) (aT aK : Option Addr) (cT cK : Nat) (key : ByteArray) (w : World) (hTl : Tl w aT T cT) (hKl : Tl w aK K cK) (hT : T.length ≤ 300) (hK : K.length ≤ 300) (hE : adE T K key ≠ 0) :
    Calls Try.prog 14 #[.agg #[.slice aT T.length cT, .slice aK K.length cK], .string key] w fun e w' => e = .returned (.tuple #[.agg #[.slice none 0 0, .slice none 0 0], .int .i64 (adE T K key)]) ∧ Below w.heap.size w w' := by
  unfold adE at hE ⊢
  by_cases h1 : ckw T K key = 0
  · rw [if_neg (by simpa using h1)] at hE ⊢
    by_cases h2 : key ∈ K ++ T
    · rw [if_pos h2]
      exact add_bad1 T K aT aK cT cK key w hTl hKl hT hK h1 h2
    · rw [if_neg h2] at hE ⊢
      by_cases h3 : K.length + T.length = 256
      · rw [if_pos h3]
        exact add_full T K aT aK cT cK key w hTl hKl hT hK h1 h2 h3
      · rw [if_neg h3] at hE
        exact absurd rfl hE
  · rw [if_pos h1]
    exact add_bad0 T K aT aK cT cK key w hTl hKl hT hK h1
set_option maxHeartbeats 1000000 in
theorem add_ok (T K : List ByteArray) (aT aK : Option Addr) (cT cK : Nat) (key : ByteArray) (w : World) (hTl : Tl w aT T cT) (hKl : Tl w aK K cK) (hE : adE T K key = 0) :
    Calls Try.prog 14 #[.agg #[.slice aT T.length cT, .slice aK K.length cK], .string key] w fun e w' => ∃ aT' cT' aK' cK', e = .returned (.tuple #[.agg #[.slice aT' (key :: T).length cT', .slice aK' K.length cK'], .int .i64 0]) ∧ Rw w' w.heap.size aT' cT' aK' cK' (key :: T) K ∧ Below w.heap.size w w' := by
  obtain ⟨hok, hk, hin, hm⟩ := adE_zero hE
  have h0 := ckw_ok hok hk
  have hT : T.length ≤ 300 := by omega
  have hK : K.length ≤ 300 := by omega
  obtain ⟨w2, hw2, hb2, hA, hR, hs2⟩ := begin2 w (.slice aT T.length cT) (.slice aK K.length cK)
  have HC := Hid.mk2 (checkWith_any T K aT aK cT cK key w2 (hTl.below hb2) (hKl.below hb2) hT hK)
  rw [h0] at HC
  have HIX := Hid.mk2 (fun W (hb : Below w2.heap.size w2 W) => indexOf_any aT T cT key W ((hTl.below hb2).below hb))
  have HIY := Hid.mk2 (fun W (hb : Below w2.heap.size w2 W) => indexOf_any aK K cK key W ((hKl.below hb2).below hb))
  have HMN := Hid.mk2 (fun W => many_any aT aK T.length cT K.length cK W (by omega) (by omega))
  have HCP := Hid.mk2 (fun W (hb : Below w2.heap.size w2 W) => copied_any T K aT aK cT cK W ((hTl.below hb2).below hb) ((hKl.below hb2).below hb) hT hK)
  obtain ⟨mm, hmm⟩ : ∃ mm : Int, mm = (T.length : Int) + (K.length : Int) := ⟨_, rfl⟩
  rw [← hmm] at HMN
  have hm1 : (mm == 256) = false := by simp; omega
  have HT3 : Hid (T.length ≤ 1000) := by show _ ≤ _; omega
  obtain ⟨T', hT'⟩ : ∃ T', T' = key :: T := ⟨_, rfl⟩
  rw [← hT']
  have HT' := Hid.mk2 hT'
  have HB2 := Hid.mk2 hb2
  have HR := Hid.mk2 hR
  have HA := Hid.mk2 hA
  have HS2 := Hid.mk2 hs2
  have HI : Hid (key ∉ T) := fun h => hin (List.mem_append.2 (.inr h))
  have HI2 : Hid (key ∉ K) := fun h => hin (List.mem_append.2 (.inl h))
  clear hTl hKl hT hK hb2 hA hR h0 hs2 hin hm hmm hok hk hE hT'
  go_enter Try.func14, Try.ntmps14
  go_upto_region 1 with (fail)
  rw [← hw2]
  clear hw2
  obtain ⟨c0, c1, f0, f1, l0⟩ := HA.out
  go_upto_region 9 with (first
    | (go_at_call 38; refine (HCP.out _ (HB3.out.trans (HB4.out.mono HB3.out.size))).mono ?_; rintro e w5 ⟨aX, cX, aY, cY, rfl, hRw, hb5⟩; have HRw := Hid.mk2 hRw; have HB5 := Hid.mk2 hb5; clear hRw hb5)
    | (go_at_call 37; refine (HMN.out _).mono ?_; rintro e wi ⟨rfl, hwi⟩; have HB4 : Hid (Below w3.heap.size w3 wi) := (by rw [hwi]; exact (Below.refl _ _).alloc (Nat.le_refl _) _); clear hwi c0 c1 f0 f1 l0; obtain ⟨c0, c1, f0, f1, l0⟩ := (HA3.out.below HB4.out); have HR4 := Hid.mk2 (HR3.out.below HB4.out))
    | (go_at_call 36; refine (HIY.out _ mark.out).mono ?_; rintro e wi ⟨i, rfl, hix, hwi⟩; obtain rfl : w3 = wi := hwi.symm; obtain rfl := hix.no HI2.out; clear hix)
    | (go_at_call 36; refine (HIX.out _ HB3.out).mono ?_; rintro e wi ⟨i, rfl, hix, hwi⟩; obtain rfl : w3 = wi := hwi.symm; obtain rfl := hix.no HI.out; clear hix; have mark := HB3)
    | (go_at_call 35; refine HC.out.mono ?_; rintro e w3 ⟨rfl, hb3⟩; have HB3 := Hid.mk2 hb3; clear c0 c1 f0 f1 l0; obtain ⟨c0, c1, f0, f1, l0⟩ := HA.out.below hb3; have HA3 := Hid.mk2 (HA.out.below hb3); have HR3 := Hid.mk2 (HR.out.below hb3); clear hb3))
  have hb4 := HB2.out.trans ((HB3.out.trans (HB4.out.mono HB3.out.size)).mono HB2.out.size)
  have HL : Hid (Lf w (w5.alloc (Obj.cells #[.slice aX T.length cX, .slice aY K.length cY] 24)) w.heap.size w5.heap.size (w.heap.size + 1) aX cX aY cY T K) :=
    Lf.begin (w2 := w2) (b2 := 0) (b3 := 0) (hb4.trans (HB5.out.mono hb4.size)) HR4.out HB5.out hb4.size HRw.out
  clear hb4
  obtain ⟨W5, hW5⟩ : ∃ W5, W5 = w5.alloc (Obj.cells #[.slice aX T.length cX, .slice aY K.length cY] 24) := ⟨_, rfl⟩
  obtain ⟨C, hC⟩ : ∃ C, C = w5.heap.size := ⟨_, rfl⟩
  rw [← hW5, ← hC] at HL
  rw [← hW5, ← hC]
  clear hW5 hC c0 c1 f0 f1 l0 HB4 HB5 HRw HC mark
  obtain ⟨c0, c1, f0, f1, l0⟩ := HL.out.ob
  have hbs : w.heap.size ≤ W5.heap.size := HL.out.be.size
  have HIN := Hid.mk2 (insert_any (W5.alloc (Obj.cells #[.string key] 9)) w.heap.size _ T (HL.out.rw_.t.alloc _) key W5.heap.size (alloc_heap _ _) (fun e => by have := (HL.out.rw_.t.lt _ e).2; omega) (by simp; omega) HT3.out)
  rw [← HT'.out] at HIN
  go_wp2_with (go_at_call 33; refine HIN.out.mono ?_; rintro e w7 ⟨v7, rfl, hO7, hG7⟩; have HO7 := Hid.mk2 hO7; obtain ⟨a7, c7, rfl, hT7⟩ := hO7.tl; have HG7 := Hid.mk2 hG7.alloc; clear hO7 hT7 hG7 c0 c1 f0 f1 l0; have HL7 := Hid.mk2 (HL.out.chT HO7.out HG7.out); obtain ⟨c0, c1, f0, f1, l0⟩ := HL.out.ob.grown HG7.out.grown (fun e => (HL.out.ft _ e).1 rfl); obtain ⟨b0, b1, _, _, _⟩ := HL7.out.ob; obtain ⟨r0, r1, s0, s1, l1⟩ := HL7.out.rs)
  obtain ⟨hRA, hBA, q0, q1, _, _, _⟩ := HL7.out.answer (by omega)
  try simp only [Exit.inBlock, Exit.then]
  exact bodyPost_ret (v := .tuple #[.agg #[.slice a7 T'.length c7, .slice aY K.length cY], .int .i64 0]) (by simp [results, Try.results14, go_sem, q0, q1]) rfl ⟨a7, c7, aY, cY, rfl, hRA, hBA⟩
end Go.Proofs.Ytmdlampmoeiihaa
