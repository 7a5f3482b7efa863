/-
  The document's orders: Twin, out, level.
-/
import Derived.Test.YtmdlampmoeiihaaLrRef
import Derived.Test.YtmdlampmoeiihaaLrOf
namespace Go.Proofs.Ytmdlampmoeiihaa
open Go.RowKit Go.Shelf Go.Lib Go.Sort
set_option linter.unusedSimpArgs false
set_option linter.unusedVariables false
set_option maxRecDepth 100000

theorem Tl.take' {w : World} {ao : Option Addr} {ks : List ByteArray} {cap : Nat} (h : Tl w ao ks cap) (k : Nat) : Tl w ao (ks.take k) cap := by
  refine ⟨Nat.le_trans (by simp; omega) h.hl, h.hc, h.hn, ?_⟩
  rcases h.at_ with rfl | ⟨b, off, rfl, hb, hc⟩
  · exact .inl (by simp)
  · exact .inr ⟨b, off, rfl, hb, fun j hj => by
      have hj2 : j < ks.length := by simp at hj; omega
      rw [hc j hj2, List.getElem_take]⟩
theorem begin3 (w : World) (x y : Value) : ∃ w2, w2 = (w.alloc (Obj.cells #[x, y] 24)).alloc (Obj.cells #[.slice none 0 0, .slice none 0 0] 24) ∧ Below w.heap.size w w2 ∧ OB w2 w.heap.size x y ∧ OB w2 (w.heap.size + 1) (.slice none 0 0) (.slice none 0 0) ∧ w2.heap.size = w.heap.size + 2 := begin2 w x y
theorem below_of_grew_nil {w w' : World} {v' : Value} (h : Grew w w' (.slice none 0 0) v') : Below w.heap.size w w' :=
  ⟨h.grown.os, h.grown.tape, h.grown.output, h.grown.size, fun k hk => h.grown.block k hk (by intro e; cases e)⟩
theorem below_of_grew_nil_drew {w w' : World} {v' : Value} (h : Grew w.drew w' (.slice none 0 0) v') : Below w.heap.size w w' :=
  below_of_grew_nil h.drew
set_option maxHeartbeats 2000000 in
theorem twin_any (T K : List ByteArray) (aT aK : Option Addr) (cT cK : Nat) (w : World) (hTl : Tl w aT T cT) (hKl : Tl w aK K cK) (hT : T.length ≤ 300) (hK : K.length ≤ 300) :
    Calls Try.prog 20 #[.agg #[.slice aT T.length cT, .slice aK K.length cK]] w fun e w' => ∃ aT' cT' aK' cK', e = .returned (.agg #[.slice aT' T.length cT', .slice aK' K.length cK']) ∧ Tl w' aT' T cT' ∧ Tl w' aK' K cK' ∧ Below w.heap.size w w' := by
  obtain ⟨w2, hw2, hb2, hA, hR, hs2⟩ := begin2 w (.slice aT T.length cT) (.slice aK K.length cK)
  have HB2 := Hid.mk2 hb2
  have HA := Hid.mk2 hA
  have HR := Hid.mk2 hR
  have HS2 := Hid.mk2 hs2
  have HT2 := Hid.mk2 (hTl.below hb2)
  have HK2 := Hid.mk2 (hKl.below hb2)
  have HLL : Hid (T.length ≤ 300 ∧ K.length ≤ 300) := ⟨hT, hK⟩
  clear hTl hKl hb2 hA hR hs2 hT hK
  go_enter Try.func20, Try.ntmps20
  go_upto_region 1 with (fail)
  rw [← hw2]
  clear hw2
  obtain ⟨c0, c1, f0, f1, l0⟩ := HA.out
  obtain ⟨r0, r1, s0, s1, l1⟩ := HR.out
  go_region_law
    (first
      | (refine step_app_row (by rfl) (.const (.slice none 0 0)) (.tmp 7) (by rfl) w3.heap.size (.slice none 0 0) [] (OwnTs.nil _ _) (by rfl) aK cK K K.length rfl (by rfl) w2.heap.size HK2.out.hn (HK2.out.at_.below HB3.out (Nat.le_refl _)) (by have := HLL.out; simp; omega) (Nat.le_refl _) ?_; intro v4 w4 hO4 hG4; have HO4 : Hid (OwnTs w4 w3.heap.size v4 K) := hO4; obtain ⟨aK', cK', rfl, hT4⟩ := hO4.tl; have HB4 : Hid (Below w3.heap.size w3 w4) := below_of_grew_nil hG4; clear hO4 hT4 hG4 r0 r1 s0 s1 l1; have HR4 := Hid.mk2 (HR3.out.below HB4.out); obtain ⟨r0, r1, s0, s1, l1⟩ := HR4.out)
      | (refine step_app_row (by rfl) (.const (.slice none 0 0)) (.tmp 4) (by rfl) w2.heap.size (.slice none 0 0) [] (OwnTs.nil _ _) (by rfl) aT cT T T.length rfl (by rfl) w2.heap.size HT2.out.hn HT2.out.at_ (by have := HLL.out; simp; omega) (Nat.le_refl _) ?_; intro v3 w3 hO3 hG3; have HO3 : Hid (OwnTs w3 w2.heap.size v3 T) := hO3; obtain ⟨aT', cT', rfl, hT3⟩ := hO3.tl; have HB3 : Hid (Below w2.heap.size w2 w3) := (by first | exact below_of_grew_nil hG3 | exact below_of_grew_nil_drew hG3); clear hO3 hT3 hG3 c0 c1 f0 f1 l0; have HR3 := Hid.mk2 (HR.out.below HB3.out); obtain ⟨c0, c1, f0, f1, l0⟩ := HA.out.below HB3.out))
  all_goals
    go_wp2
    obtain ⟨q0, q1, _, _, _⟩ := (HR4.out.set0 (.slice aT' T.length cT')).set1 (.slice aK' K.length cK')
    try simp only [Exit.inBlock, Exit.then]
    have e0 := HS2.out
    have e3 := HB3.out.size
    have fT : ∀ g off, aT' = some ⟨g, off, none⟩ → T ≠ [] → g ≠ w.heap.size + 1 := fun g off e _ => by have := (HO3.out.lt g (by rw [e]; rfl)).1; omega
    have fK : ∀ g off, aK' = some ⟨g, off, none⟩ → K ≠ [] → g ≠ w.heap.size + 1 := fun g off e _ => by have := (HO4.out.lt g (by rw [e]; rfl)).1; omega
    have t3 : Tl w3 aT' T cT' := by obtain ⟨ax, cx, e, hh⟩ := HO3.out.tl; cases e; exact hh
    have t4 : Tl w4 aK' K cK' := by obtain ⟨ax, cx, e, hh⟩ := HO4.out.tl; cases e; exact hh
    have hb := (HB2.out.trans (HB3.out.mono HB2.out.size)).trans (HB4.out.mono (Nat.le_trans HB2.out.size HB3.out.size))
    exact bodyPost_ret (v := .agg #[.slice aT' T.length cT', .slice aK' K.length cK']) (by simp [results, Try.results20, go_sem, q0, q1]) rfl ⟨aT', cT', aK', cK', rfl, ((t3.below HB4.out).setc _ _ fT).setc _ _ fT, (t4.setc _ _ fK).setc _ _ fK, (hb.setCell (by simp) _).setCell (by simp) _⟩
/-- a row that lies from a block on -/
def Fr (base : Nat) (ao : Option Addr) (ks : List ByteArray) : Prop := ∀ g off, ao = some ⟨g, off, none⟩ → ks ≠ [] → base ≤ g
theorem Fr.mono {b b' : Nat} {ao : Option Addr} {ks : List ByteArray} (h : Fr b ao ks) (hb : b' ≤ b) : Fr b' ao ks := fun g off e hk => Nat.le_trans hb (h g off e hk)
theorem OwnTs.fr {w : World} {base : Nat} {ao : Option Addr} {cap : Nat} {ks : List ByteArray} (h : OwnTs w base (.slice ao ks.length cap) ks) : Fr base ao ks := fun g off e _ => (h.lt g (by rw [e]; rfl)).1
set_option maxHeartbeats 2000000 in
theorem rout_any (T K T' K' : List ByteArray) (key : ByteArray) (hT' : T' = T.filter (fun x => decide (x ≠ key))) (hK' : K' = K.filter (fun x => decide (x ≠ key))) (aT aK : Option Addr) (cT cK : Nat) (w : World) (hTl : Tl w aT T cT) (hKl : Tl w aK K cK) (hT : T.length ≤ 300) (hK : K.length ≤ 300) :
    Calls Try.prog 47 #[.agg #[.slice aT T.length cT, .slice aK K.length cK], .string key] w fun e w' => ∃ aT' cT' aK' cK', e = .returned (.agg #[.slice aT' T'.length cT', .slice aK' K'.length cK']) ∧ Tl w' aT' T' cT' ∧ Tl w' aK' K' cK' ∧ Fr w.heap.size aT' T' ∧ Fr w.heap.size aK' K' ∧ Below w.heap.size w w' := by
  obtain ⟨w2, hw2, hb2, hA, hR, hs2⟩ := begin2 w (.slice aT T.length cT) (.slice aK K.length cK)
  have HB2 := Hid.mk2 hb2
  have HA := Hid.mk2 hA
  have HR := Hid.mk2 hR
  have HS2 := Hid.mk2 hs2
  have HW1 := Hid.mk2 (fun V (hb : Below w2.heap.size w2 V) => rwithout_any T T' key hT' aT cT V ((hTl.below hb2).below hb) (by omega))
  have HW2 := Hid.mk2 (fun V (hb : Below w2.heap.size w2 V) => rwithout_any K K' key hK' aK cK V ((hKl.below hb2).below hb) (by omega))
  clear hTl hKl hb2 hA hR hs2 hT hK hT' hK'
  go_enter Try.func47, Try.ntmps47
  go_upto_region 1 with (fail)
  rw [← hw2]
  clear hw2
  obtain ⟨c0, c1, f0, f1, l0⟩ := HA.out
  obtain ⟨r0, r1, s0, s1, l1⟩ := HR.out
  go_region_with (first
    | (go_at_call 58; refine (HW2.out _ HB3.out).mono ?_; rintro e w4 ⟨aK', cK', rfl, hO4, hb4⟩; have HO4 := Hid.mk2 hO4; have HB4 := Hid.mk2 hb4; clear hO4 hb4 r0 r1 s0 s1 l1; have HR4 := Hid.mk2 (HR3.out.below HB4.out); obtain ⟨r0, r1, s0, s1, l1⟩ := HR4.out)
    | (go_at_call 58; refine (HW1.out _ (by first | exact Below.refl _ _ | exact (Below.refl _ _).drew)).mono ?_; rintro e w3 ⟨aT', cT', rfl, hO3, hb3⟩; have HO3 : Hid (OwnTs w3 w2.heap.size (.slice aT' T'.length cT') T') := hO3; have HB3 : Hid (Below w2.heap.size w2 w3) := (by first | exact hb3 | exact below_drew0 hb3); clear hO3 hb3 c0 c1 f0 f1 l0; have HR3 := Hid.mk2 (HR.out.below HB3.out); obtain ⟨c0, c1, f0, f1, l0⟩ := HA.out.below HB3.out))
  all_goals
    go_wp2
    obtain ⟨q0, q1, _, _, _⟩ := (HR4.out.set0 (.slice aT' T'.length cT')).set1 (.slice aK' K'.length cK')
    try simp only [Exit.inBlock, Exit.then]
    have e0 := HS2.out
    have e3 := HB3.out.size
    have fT : ∀ g off, aT' = some ⟨g, off, none⟩ → T' ≠ [] → g ≠ w.heap.size + 1 := fun g off e _ => by have := (HO3.out.lt g (by rw [e]; rfl)).1; omega
    have fK : ∀ g off, aK' = some ⟨g, off, none⟩ → K' ≠ [] → g ≠ w.heap.size + 1 := fun g off e _ => by have := (HO4.out.lt g (by rw [e]; rfl)).1; omega
    have t3 : Tl w3 aT' T' cT' := by obtain ⟨ax, cx, e, hh⟩ := HO3.out.tl; cases e; exact hh
    have t4 : Tl w4 aK' K' cK' := by obtain ⟨ax, cx, e, hh⟩ := HO4.out.tl; cases e; exact hh
    have hb := (HB2.out.trans (HB3.out.mono HB2.out.size)).trans (HB4.out.mono (Nat.le_trans HB2.out.size HB3.out.size))
    exact bodyPost_ret (v := .agg #[.slice aT' T'.length cT', .slice aK' K'.length cK']) (by simp [results, Try.results47, go_sem, q0, q1]) rfl ⟨aT', cT', aK', cK', rfl, ((t3.below HB4.out).setc _ _ fT).setc _ _ fT, (t4.setc _ _ fK).setc _ _ fK, HO3.out.fr.mono (by omega), HO4.out.fr.mono (by omega), (hb.setCell (by simp) _).setCell (by simp) _⟩
end Go.Proofs.Ytmdlampmoeiihaa
