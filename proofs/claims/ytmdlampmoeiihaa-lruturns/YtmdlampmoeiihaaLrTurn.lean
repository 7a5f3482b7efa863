/-
  Package lru: the contracts of checkWith, Victim, All, without.
-/
import Derived.Test.YtmdlampmoeiihaaLrLev
namespace Go.Proofs.Ytmdlampmoeiihaa
open Go.RowKit Go.Shelf Go.Lib Go.Sort
set_option linter.unusedSimpArgs false
set_option linter.unusedVariables false
set_option maxRecDepth 100000

/-- P7.1: what is wrong with an order, a key -/
def ckw (T K : List ByteArray) (key : ByteArray) : Int := if okO T K = true then (if kOk key = true then 0 else 3) else 8
theorem checkWith_any (T K : List ByteArray) (aT aK : Option Addr) (cT cK : Nat) (key : ByteArray) (w : World) (hTl : Tl w aT T cT) (hKl : Tl w aK K cK) (hT : T.length ≤ 300) (hK : K.length ≤ 300) :
    Calls Try.prog 35 #[.agg #[.slice aT T.length cT, .slice aK K.length cK], .string key] w fun e w' => e = .returned (.int .i64 (ckw T K key)) ∧ Below w.heap.size w w' := by
  obtain ⟨W, hW⟩ : ∃ W, W = w.alloc (Obj.cells #[.slice aT T.length cT, .slice aK K.length cK] 24) := ⟨_, rfl⟩
  have HB : Hid (Below w.heap.size w W) := by rw [hW]; exact (Below.refl _ _).alloc (Nat.le_refl _) _
  have HC := Hid.mk2 (check_any T K aT aK cT cK W (hTl.below HB.out) (hKl.below HB.out) hT hK)
  have HW := Hid.mk2 hW
  have hle : Hid (w.heap.size ≤ W.heap.size) := HB.out.size
  clear hTl hKl hT hK
  rw [hW] at HC
  clear hW
  unfold ckw
  by_cases h : Ok T K
  · rw [if_pos (okO_iff.2 h)]
    rw [chk_ok h] at HC
    cases hk : kOk key with
    | true =>
      rw [if_pos rfl]
      have HK := Hid.mk2 (fun W => isNoKey_any key W)
      rw [hk] at HK
      clear h
      go_enter Try.func35, Try.ntmps35
      go_wp2_with (first
        | (go_at_call 18; refine HC.out.mono ?_; rintro e w1 ⟨rfl, hb1⟩; have HB1 := Hid.mk2 hb1; clear hb1)
        | (go_at_call 41; refine (HK.out _).mono ?_; rintro e w2 ⟨rfl, rfl⟩))
      go_ret
      exact ⟨rfl, below_alloc HB1.out⟩
    | false =>
      rw [if_neg (by simp)]
      have HK := Hid.mk2 (fun W => isNoKey_any key W)
      rw [hk] at HK
      clear h
      go_enter Try.func35, Try.ntmps35
      go_wp2_with (first
        | (go_at_call 18; refine HC.out.mono ?_; rintro e w1 ⟨rfl, hb1⟩; have HB1 := Hid.mk2 hb1; clear hb1)
        | (go_at_call 41; refine (HK.out _).mono ?_; rintro e w2 ⟨rfl, rfl⟩))
      go_ret
      exact ⟨rfl, below_alloc HB1.out⟩
  · rw [if_neg (fun e => h (okO_iff.1 e))]
    rw [chk_bad h] at HC
    clear h
    go_enter Try.func35, Try.ntmps35
    go_wp2_with (go_at_call 18; refine HC.out.mono ?_; rintro e w1 ⟨rfl, hb1⟩; have HB1 := Hid.mk2 hb1; clear hb1)
    go_ret
    exact ⟨rfl, below_alloc HB1.out⟩
/-- P7.3: the victim -/
def vic (T K : List ByteArray) : ByteArray := (K ++ T).getLast?.getD ⟨#[]⟩
theorem vic_try {T K : List ByteArray} {n : Nat} (h : T.length = n + 1) : vic T K = T[n]'(by omega) := by
  unfold vic
  have : T ≠ [] := by intro e; rw [e] at h; simp at h
  rw [List.getLast?_append, List.getLast?_eq_getElem? (l := T), List.getElem?_eq_getElem (by omega)]
  simp [h]
theorem vic_keep {K : List ByteArray} {n : Nat} (h : K.length = n + 1) : vic [] K = K[n]'(by omega) := by
  unfold vic
  rw [List.append_nil, List.getLast?_eq_getElem?, List.getElem?_eq_getElem (by omega)]
  simp [h]
theorem at_of {w : World} {ao : Option Addr} {ks : List ByteArray} {cap : Nat} (h : Tl w ao ks cap) {n : Nat} (hn : n < ks.length) : ∃ b off, ao = some ⟨b, off, none⟩ ∧ b < w.heap.size ∧ w.cell? ⟨b, off + n, none⟩ = some (.string ks[n]) := by
  rcases h.at_ with e | ⟨b, off, e, hb, hc⟩
  · rw [e] at hn; simp at hn
  · exact ⟨b, off, e, hb, hc n hn⟩
set_option maxHeartbeats 1000000 in
theorem victim_any (T K : List ByteArray) (aT aK : Option Addr) (cT cK : Nat) (w : World) (hTl : Tl w aT T cT) (hKl : Tl w aK K cK) (hT : T.length ≤ 300) (hK : K.length ≤ 300) :
    Calls Try.prog 10 #[.agg #[.slice aT T.length cT, .slice aK K.length cK]] w fun e w' => e = .returned (.tuple #[.string (if okO T K = true then vic T K else ⟨#[]⟩), .int .i64 (if okO T K = true then (if T.length + K.length = 0 then 6 else 0) else 8)]) ∧ Below w.heap.size w w' := by
  obtain ⟨W, hW⟩ : ∃ W, W = w.alloc (Obj.cells #[.slice aT T.length cT, .slice aK K.length cK] 24) := ⟨_, rfl⟩
  have HB : Hid (Below w.heap.size w W) := by rw [hW]; exact (Below.refl _ _).alloc (Nat.le_refl _) _
  have HOB : Hid (OB W w.heap.size (.slice aT T.length cT) (.slice aK K.length cK)) := by rw [hW]; exact OB.made _ _ _
  have HTW := Hid.mk2 (hTl.below HB.out)
  have HKW := Hid.mk2 (hKl.below HB.out)
  have HC := Hid.mk2 (check_any T K aT aK cT cK W HTW.out HKW.out hT hK)
  have hle : Hid (w.heap.size ≤ W.heap.size) := HB.out.size
  clear hTl hKl
  by_cases h : Ok T K
  · rw [if_pos (okO_iff.2 h), if_pos (okO_iff.2 h)]
    rw [chk_ok h] at HC
    clear h
    by_cases h0 : 0 < T.length
    · obtain ⟨n, hn⟩ : ∃ n, T.length = n + 1 := ⟨T.length - 1, by omega⟩
      have hnT : n < T.length := by omega
      have hnI : (n : Int) < (T.length : Int) := by omega
      have m1 : (T.length : Int) - 1 = (n : Int) := by omega
      have h0I : (0 : Int) < (T.length : Int) := by omega
      rw [if_neg (by omega)]
      obtain ⟨k, hk⟩ : ∃ k, k = vic T K := ⟨_, rfl⟩
      rw [← hk]
      have hk2 : T[n] = k := by rw [hk, vic_try hn]
      obtain ⟨b, off, rfl, hb, hc⟩ := at_of HTW.out hnT
      rw [hk2] at hc
      clear hk2 hn hk
      go_enter Try.func10, Try.ntmps10
      go_upto_region 1 with (fail)
      rw [← hW]
      clear hW
      obtain ⟨c0, c1, f0, f1, l0⟩ := HOB.out
      go_wp2_with (go_at_call 18; refine HC.out.mono ?_; rintro e w1 ⟨rfl, hb1⟩; have HB1 := Hid.mk2 hb1; clear c0 c1 f0 f1 l0; obtain ⟨c0, c1, f0, f1, l0⟩ := HOB.out.below hb1; have hc1 := (below_cells hb1 b (off + n) hb).trans hc; clear hb1)
      go_ret2
      exact ⟨rfl, HB.out.trans (HB1.out.mono hle.out)⟩
    · have hT0 : T = [] := List.eq_nil_of_length_eq_zero (by omega)
      subst hT0
      clear h0
      by_cases h1 : 0 < K.length
      · obtain ⟨n, hn⟩ : ∃ n, K.length = n + 1 := ⟨K.length - 1, by omega⟩
        have hnT : n < K.length := by omega
        have hnI : (n : Int) < (K.length : Int) := by omega
        have m1 : (K.length : Int) - 1 = (n : Int) := by omega
        have h0I : (0 : Int) < (K.length : Int) := by omega
        rw [if_neg (by intro e; simp only [List.length_nil] at e; omega)]
        obtain ⟨k, hk⟩ : ∃ k, k = vic [] K := ⟨_, rfl⟩
        rw [← hk]
        have hk2 : K[n] = k := by rw [hk, vic_keep hn]
        obtain ⟨b, off, rfl, hb, hc⟩ := at_of HKW.out hnT
        rw [hk2] at hc
        clear hk2 hn hk
        simp only [List.length_nil] at *
        go_enter Try.func10, Try.ntmps10
        go_upto_region 1 with (fail)
        rw [← hW]
        clear hW
        obtain ⟨c0, c1, f0, f1, l0⟩ := HOB.out
        go_wp2_with (go_at_call 18; refine HC.out.mono ?_; rintro e w1 ⟨rfl, hb1⟩; have HB1 := Hid.mk2 hb1; clear c0 c1 f0 f1 l0; obtain ⟨c0, c1, f0, f1, l0⟩ := HOB.out.below hb1; have hc1 := (below_cells hb1 b (off + n) hb).trans hc; clear hb1)
        go_ret2
        exact ⟨rfl, HB.out.trans (HB1.out.mono hle.out)⟩
      · have hK0 : K = [] := List.eq_nil_of_length_eq_zero (by omega)
        subst hK0
        clear h1
        simp only [List.length_nil] at *
        rw [if_pos trivial]
        have hv : vic [] [] = ⟨#[]⟩ := rfl
        rw [hv]
        clear hv
        go_enter Try.func10, Try.ntmps10
        go_upto_region 1 with (fail)
        rw [← hW]
        clear hW
        obtain ⟨c0, c1, f0, f1, l0⟩ := HOB.out
        go_wp2_with (go_at_call 18; refine HC.out.mono ?_; rintro e w1 ⟨rfl, hb1⟩; have HB1 := Hid.mk2 hb1; clear c0 c1 f0 f1 l0; obtain ⟨c0, c1, f0, f1, l0⟩ := HOB.out.below hb1; clear hb1)
        go_ret2
        exact ⟨rfl, HB.out.trans (HB1.out.mono hle.out)⟩
  · rw [if_neg (fun e => h (okO_iff.1 e)), if_neg (fun e => h (okO_iff.1 e))]
    rw [chk_bad h] at HC
    clear h
    go_enter Try.func10, Try.ntmps10
    go_upto_region 1 with (fail)
    rw [← hW]
    clear hW
    obtain ⟨c0, c1, f0, f1, l0⟩ := HOB.out
    go_wp2_with (go_at_call 18; refine HC.out.mono ?_; rintro e w1 ⟨rfl, hb1⟩; have HB1 := Hid.mk2 hb1; clear hb1)
    go_ret2
    exact ⟨rfl, HB.out.trans (HB1.out.mono hle.out)⟩
theorem all_bad (T K : List ByteArray) (aT aK : Option Addr) (cT cK : Nat) (w : World) (hTl : Tl w aT T cT) (hKl : Tl w aK K cK) (hT : T.length ≤ 300) (hK : K.length ≤ 300) (h : ¬ Ok T K) :
    Calls Try.prog 11 #[.agg #[.slice aT T.length cT, .slice aK K.length cK]] w fun e w' => e = .returned (.tuple #[.slice none 0 0, .int .i64 8]) ∧ Below w.heap.size w w' := by
  have HB : Hid (Below w.heap.size w (w.alloc (Obj.cells #[.slice aT T.length cT, .slice aK K.length cK] 24))) := (Below.refl _ _).alloc (Nat.le_refl _) _
  have HC := Hid.mk2 (check_any T K aT aK cT cK _ (hTl.below HB.out) (hKl.below HB.out) hT hK)
  rw [chk_bad h] at HC
  clear hTl hKl h
  go_enter Try.func11, Try.ntmps11
  go_wp2_with (go_at_call 18; refine HC.out.mono ?_; rintro e w1 ⟨rfl, hb1⟩; have HB1 := Hid.mk2 hb1; clear hb1)
  go_ret2
  exact ⟨rfl, below_alloc HB1.out⟩
set_option maxHeartbeats 1000000 in
theorem all_ok (T K : List ByteArray) (aT aK : Option Addr) (cT cK : Nat) (w : World) (hTl : Tl w aT T cT) (hKl : Tl w aK K cK) (hT : T.length ≤ 300) (hK : K.length ≤ 300) (h : Ok T K) :
    Calls Try.prog 11 #[.agg #[.slice aT T.length cT, .slice aK K.length cK]] w fun e w' => ∃ ao cap, e = .returned (.tuple #[.slice ao (K ++ T).reverse.length cap, .int .i64 0]) ∧ OwnTs w' w.heap.size (.slice ao (K ++ T).reverse.length cap) (K ++ T).reverse ∧ Below w.heap.size w w' := by
  obtain ⟨W, hW⟩ : ∃ W, W = w.alloc (Obj.cells #[.slice aT T.length cT, .slice aK K.length cK] 24) := ⟨_, rfl⟩
  have HB : Hid (Below w.heap.size w W) := by rw [hW]; exact (Below.refl _ _).alloc (Nat.le_refl _) _
  have HOB : Hid (OB W w.heap.size (.slice aT T.length cT) (.slice aK K.length cK)) := by rw [hW]; exact OB.made _ _ _
  have HTW := Hid.mk2 (hTl.below HB.out)
  have HKW := Hid.mk2 (hKl.below HB.out)
  have HC := Hid.mk2 (check_any T K aT aK cT cK W HTW.out HKW.out hT hK)
  rw [chk_ok h] at HC
  have hle : Hid (w.heap.size ≤ W.heap.size) := HB.out.size
  have HL : Hid (K.length + T.length ≤ 1000) := by show _ ≤ _; omega
  obtain ⟨L, hL⟩ : ∃ L, L = K ++ T := ⟨_, rfl⟩
  rw [← hL]
  have HCC : Hid (∀ V B, Below W.heap.size W V → V.cell? ⟨B, 0, none⟩ = some (.slice aK K.length cK) → V.cell? ⟨B, 1, none⟩ = some (.slice aT T.length cT) → Calls Try.prog 30 #[.slice (some ⟨B, 0, none⟩) 2 2] V fun e w' => ∃ v', e = .returned v' ∧ OwnTs w' V.heap.size v' L ∧ Below V.heap.size V w') := by
    intro V B hb h0 h1
    rw [hL]
    exact concat_any V B aK aT K T cK cT h0 h1 (HKW.out.below hb) (HTW.out.below hb) HL.out
  obtain ⟨M, hM⟩ : ∃ M, M = L.reverse := ⟨_, rfl⟩
  rw [← hM]
  have HM := Hid.mk2 hM
  have HML : Hid (M.length = L.length) := by rw [hM]; exact List.length_reverse
  clear hTl hKl h hT hK hL hM
  go_enter Try.func11, Try.ntmps11
  go_upto_region 1 with (fail)
  rw [← hW]
  clear hW
  obtain ⟨c0, c1, f0, f1, l0⟩ := HOB.out
  go_upto_region 4 with (go_at_call 18; refine HC.out.mono ?_; rintro e w1 ⟨rfl, hb1⟩; have HB1 := Hid.mk2 hb1; clear c0 c1 f0 f1 l0; obtain ⟨c0, c1, f0, f1, l0⟩ := HOB.out.below hb1; clear hb1)
  have HC2 : Hid (Calls Try.prog 30 #[.slice (some ⟨w1.heap.size, 0, none⟩) 2 2] (w1.alloc (Obj.cells #[.slice aK K.length cK, .slice aT T.length cT] 22)) fun e w' => ∃ v', e = .returned v' ∧ OwnTs w' (w1.alloc (Obj.cells #[.slice aK K.length cK, .slice aT T.length cT] 22)).heap.size v' L ∧ Below (w1.alloc (Obj.cells #[.slice aK K.length cK, .slice aT T.length cT] 22)).heap.size (w1.alloc (Obj.cells #[.slice aK K.length cK, .slice aT T.length cT] 22)) w') :=
    HCC.out _ w1.heap.size (HB1.out.alloc HB1.out.size _) (by simp) (by simp)
  go_wp2_with (first
    | (go_at_call 31; refine (reverse_any _ _ _ _ HO2.out).mono ?_; rintro e w3 ⟨rfl, hO3, hG3⟩; rw [← HM.out] at hO3; have HO3 := Hid.mk2 hO3; have HG3 := Hid.mk2 hG3; clear hO3 hG3)
    | (go_at_call 30; refine HC2.out.mono ?_; rintro e w2 ⟨v2, rfl, hO2, hb2⟩; have HO2 := Hid.mk2 hO2; obtain ⟨a2, c2, rfl, hT2⟩ := hO2.tl; have HB2 := Hid.mk2 hb2; clear hO2 hT2 hb2))
  go_ret2
  have hbw1 : Below w.heap.size w w1 := HB.out.trans (HB1.out.mono hle.out)
  have hs1 := hbw1.size
  have hb2 := hbw1.trans ((below_alloc HB2.out).mono hs1)
  refine ⟨a2, c2, by rw [HML.out]; rfl, ?_, hb2.grown HG3.out hb2.size (fun k hk => ?_)⟩
  · rw [HML.out]
    refine HO3.out.base ?_
    simp
    omega
  · have := (HO2.out.lt k hk).1
    simp at this
    omega
end Go.Proofs.Ytmdlampmoeiihaa
