/-
  The document's cutting of a line into words.
-/
import Derived.Test.YtihcnjbnlcgcoaaDoorWoP
import Derived.Test.YtihcnjbnlcgcoaaDoorWoD
namespace Go.Proofs.YtihcnjbnlcgcoaaDoor
open Go.Proofs.YtihcnjbnlcgcoaaDoor.It
open Go.RowKit
set_option linter.unusedSimpArgs false
set_option linter.unusedVariables false
set_option maxRecDepth 100000

/-- what the loop over a line's bytes keeps: so many bytes seen, where the word begins, the words so far -/
def CutW (L : List UInt8) (k f : Nat) (W : List ByteArray) : Prop :=
  (k ≤ L.length ∧ f ≤ k ∧ (∀ c ∈ (L.drop f).take (k - f), c ≠ 32) ∧ lw L = W ++ lw (L.drop f) ∧ W.length ≤ f) ∨ (k = L.length + 1 ∧ W = lw L)
theorem qcut_start (L : List UInt8) : CutW L 0 0 [] := .inl ⟨Nat.zero_le _, Nat.le_refl _, by simp, by simp, Nat.le_refl _⟩
theorem qcut_fst {L : List UInt8} {k f : Nat} {W : List ByteArray} (h : CutW L k f W) (hk : k ≤ L.length) : f ≤ k ∧ (∀ c ∈ (L.drop f).take (k - f), c ≠ 32) ∧ lw L = W ++ lw (L.drop f) ∧ W.length ≤ f := by
  rcases h with h | h
  · exact h.2
  · omega
theorem qdrop_split (L : List UInt8) (k f : Nat) (hf : f ≤ k) (hk : k < L.length) : L.drop f = (L.drop f).take (k - f) ++ L[k] :: L.drop (k + 1) := by
  have h1 : L.drop f = (L.drop f).take (k - f) ++ (L.drop f).drop (k - f) := (List.take_append_drop _ _).symm
  rw [List.drop_drop, show f + (k - f) = k by omega, List.drop_eq_getElem_cons hk] at h1
  exact h1
theorem qcut_word {L : List UInt8} {k f : Nat} {W : List ByteArray} (h : CutW L k f W) (hk : k < L.length) (hc : L[k] = 32) : CutW L (k + 1) (k + 1) (W ++ [mkB ((L.drop f).take (k - f))]) := by
  obtain ⟨h1, h2, h3, h4⟩ := qcut_fst h (by omega)
  refine .inl ⟨by omega, Nat.le_refl _, by simp, ?_, by simp; omega⟩
  have e : lw (L.drop f) = mkB ((L.drop f).take (k - f)) :: lw (L.drop (k + 1)) := by
    unfold lw
    conv => lhs; rw [qdrop_split L k f h1 hk, hc, wsp_app _ _ h2]
    rfl
  rw [h3, e]
  simp
theorem qcut_more {L : List UInt8} {k f : Nat} {W : List ByteArray} (h : CutW L k f W) (hk : k < L.length) (hc : L[k] ≠ 32) : CutW L (k + 1) f W := by
  obtain ⟨h1, h2, h3, h4⟩ := qcut_fst h (by omega)
  refine .inl ⟨by omega, by omega, ?_, h3, h4⟩
  have e : (L.drop f).take (k + 1 - f) = (L.drop f).take (k - f) ++ [L[k]] := by
    rw [show k + 1 - f = (k - f) + 1 by omega, List.take_add_one, List.getElem?_drop, show f + (k - f) = k by omega, List.getElem?_eq_getElem hk]
    rfl
  rw [e]
  intro c hcm
  rcases List.mem_append.1 hcm with h | h
  · exact h2 c h
  · rw [List.mem_singleton.1 h]; exact hc
theorem qcut_last {L : List UInt8} {f : Nat} {W : List ByteArray} (h : CutW L L.length f W) : CutW L (L.length + 1) (L.length + 1) (W ++ [mkB ((L.drop f).take (L.length - f))]) := by
  obtain ⟨h1, h2, h3, h4⟩ := qcut_fst h (Nat.le_refl _)
  refine .inr ⟨rfl, ?_⟩
  have e : (L.drop f).take (L.length - f) = L.drop f := List.take_of_length_le (by simp)
  rw [e] at h2 ⊢
  rw [h3]
  unfold lw
  rw [wsp_plain _ h2]
  rfl
theorem qcut_end {L : List UInt8} {k f : Nat} {W : List ByteArray} (h : CutW L k f W) (hk : L.length < k) : W = lw L := by
  rcases h with h | h
  · omega
  · exact h.2
theorem qcut_len {L : List UInt8} {k f : Nat} {W : List ByteArray} (h : CutW L k f W) (hk : k ≤ L.length) : W.length ≤ L.length := by
  obtain ⟨h1, h2, h3, h4⟩ := qcut_fst h hk
  omega
theorem ext_mk (s : ByteArray) (f k : Nat) : s.extract f k = mkB (((bl s).drop f).take (k - f)) := by
  apply bl_inj
  rw [bl_mkB]
  unfold bl
  rw [ByteArray.data_extract]
  simp

set_option maxHeartbeats 4000000 in
theorem rcut14_any (s : ByteArray) (hs : s.size ≤ 20000) (w : World) :
    Calls Tryd.prog 35 #[.string s] w fun e w' => (∃ (ao : Option Addr) (cap : Nat), e = .returned (.slice ao (lw (bl s)).length cap) ∧ GRd ES w' ao (lw (bl s)) cap) ∧ Below w.heap.size w w' := by
  have hl := bl_len s
  obtain ⟨n, hn⟩ : ∃ n, n = s.size := ⟨_, rfl⟩
  have HN : Hid (n = (bl s).length) := by show _ = _; omega
  have HNS := Hid.mk2 hn
  have HX := Hid.mk2 (fun (k : Nat) (h : k < s.size) (h' : k < (bl s).length) => idx_of s k h h')
  have HE := Hid.mk2 (fun f k => ext_mk s f k)
  have hn0 : (s.size : Int) = (n : Int) := by omega
  have hn2 : n ≤ 20000 := by omega
  clear hl hs hn
  go_enter Tryd.func35, Tryd.ntmps35
  go_wp2
  go_loopw [3, 4, 5] (fun so sf si wr => ∃ (k f : Nat) (W : List ByteArray), sf = .int .i64 f ∧ si = .int .i64 k ∧ k ≤ n + 1 ∧ Hid (GOwn ES wr w.heap.size so W) ∧ Hid (Below w.heap.size w wr) ∧ Hid (CutW (bl s) k f W)) (fun _ _ si _ => n + 1 - (intOf si).toNat)
  case atStart => exact ⟨0, 0, [], rfl, rfl, by omega, GOwn.nil _ _, Below.refl _ _, qcut_start _⟩
  case round =>
    obtain ⟨k, f, W, rfl, rfl, hk, HO, HB, HC⟩ := hrel
    by_cases hkn : k ≤ n
    · have hkni : (k : Int) ≤ (s.size : Int) := by omega
      have hkL : k ≤ (bl s).length := by rw [← HN.out]; exact hkn
      have hfk : f ≤ k := (qcut_fst HC.out hkL).1
      have hfki : (f : Int) ≤ (k : Int) := by omega
      have HLT : Hid (W.length + 1 ≤ 1000000) := by show _ ≤ _; have := qcut_len HC.out hkL; have := HN.out; omega
      have hbz := HB.out.size
      by_cases hke : k = n
      · have hb : ((k : Int) == (s.size : Int)) = true := by rw [hn0, hke]; simp
        have HC2 : Hid (CutW (bl s) (k + 1) (k + 1) (W ++ [s.extract f k])) := by
          have h := HC.out
          rw [HE.out]
          rw [show k = (bl s).length by rw [← HN.out]; exact hke] at h ⊢
          exact qcut_last h
        clear HC HX HE
        subst hke
        go_wp2_with (at_builtin; refine g_one (w0 := wr) okS rfl _ _ _ rfl rfl w.heap.size _ W HO.out rfl (s.extract f k) rfl _ rfl rfl HLT.out hbz ?_; intro v7 w7 hO7 hG7; have HO7 := Hid.mk2 hO7; have HB7 : Hid (Below w.heap.size w w7) := HB.out.trans (hG7.below HO.out hbz); clear hO7 hG7)
        exact ⟨⟨k + 1, k + 1, _, by go_num, by go_num, by omega, HO7.out, HB7.out, HC2.out⟩, by first | (simp [intOf]; done) | (simp [intOf]; omega)⟩
      · have hkl : k < s.size := by have := HNS.out; omega
        have hkb : k < (bl s).length := by rw [← HN.out]; omega
        have hb : ((k : Int) == (s.size : Int)) = false := beq_eq_false_iff_ne.2 (by omega)
        have hx := HX.out k hkl hkb
        have HW := Hid.mk2 (fun h => qcut_word (W := W) HC.out hkb h)
        have HM := Hid.mk2 (fun h => qcut_more (W := W) HC.out hkb h)
        obtain ⟨c, hc⟩ : ∃ c, c = (bl s)[k] := ⟨_, rfl⟩
        rw [← hc] at hx HW HM
        rw [← HE.out] at HW
        obtain ⟨q, hq⟩ : ∃ q : Nat, q = c.toNat := ⟨_, rfl⟩
        rw [← hq] at hx
        have hki : (k : Int) < (s.size : Int) := by omega
        by_cases h32 : q = 32
        · have hc32 : c = 32 := UInt8.toNat.inj (by rw [← hq, h32]; rfl)
          have HC2 := Hid.mk2 (HW.out hc32)
          have q32 : ((q : Int) == 32) = true := by rw [h32]; rfl
          clear HC HX HE HW HM hc32 h32 hc hq hke hkb hkl
          go_wp2_with (at_builtin; refine g_one (w0 := wr) okS rfl _ _ _ rfl rfl w.heap.size _ W HO.out rfl (s.extract f k) rfl _ rfl rfl HLT.out hbz ?_; intro v7 w7 hO7 hG7; have HO7 := Hid.mk2 hO7; have HB7 : Hid (Below w.heap.size w w7) := HB.out.trans (hG7.below HO.out hbz); clear hO7 hG7)
          exact ⟨⟨k + 1, k + 1, _, by go_num, by go_num, by omega, HO7.out, HB7.out, HC2.out⟩, by first | (simp [intOf]; done) | (simp [intOf]; omega)⟩
        · have hc32 : c ≠ 32 := fun e => h32 (by rw [hq, e]; rfl)
          have HC2 := Hid.mk2 (HM.out hc32)
          have q32 : ((q : Int) == 32) = false := beq_eq_false_iff_ne.2 (by omega)
          clear HC HX HE HW HM hc32 h32 hc hq hke hkb hkl
          go_wp2
          exact ⟨⟨k + 1, f, _, by first | rfl | go_num, by go_num, by omega, HO.out, HB.out, HC2.out⟩, by first | (simp [intOf]; done) | (simp [intOf]; omega)⟩
    · have hkni : ¬ (k : Int) ≤ (s.size : Int) := by omega
      have hW := qcut_end HC.out (by rw [← HN.out]; omega)
      obtain ⟨ao, cap, hv, hr⟩ := HO.out.rd okS
      rw [hW] at hv hr
      have HR := Hid.mk2 hr
      have HV := Hid.mk2 hv
      clear HC HO HX HE hW hr hv
      go_wp2
      go_ret
      exact ⟨⟨ao, cap, by rw [← HV.out]; rfl, HR.out⟩, HB.out⟩
end Go.Proofs.YtihcnjbnlcgcoaaDoor
