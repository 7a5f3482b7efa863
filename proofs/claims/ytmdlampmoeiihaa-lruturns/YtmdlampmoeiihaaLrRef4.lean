/-
  The document's orders: level.
-/
import Derived.Test.YtmdlampmoeiihaaLrRef3
namespace Go.Proofs.Ytmdlampmoeiihaa
open Go.RowKit Go.Shelf Go.Lib Go.Sort
set_option linter.unusedSimpArgs false
set_option linter.unusedVariables false
set_option maxRecDepth 100000

structure Rv (base : Nat) (w wr : World) (aX : Option Addr) (cX : Nat) (aY : Option Addr) (cY : Nat) (X Y : List ByteArray) : Prop where
  ob : OB wr w.heap.size (.slice aX X.length cX) (.slice aY Y.length cY)
  rs : OB wr (w.heap.size + 1) (.slice none 0 0) (.slice none 0 0)
  x : Tl wr aX X cX
  y : Tl wr aY Y cY
  fx : ∀ g off, aX = some ⟨g, off, none⟩ → X ≠ [] → g ≠ w.heap.size ∧ g ≠ w.heap.size + 1
  fy : ∀ g off, aY = some ⟨g, off, none⟩ → Y ≠ [] → g ≠ w.heap.size ∧ g ≠ w.heap.size + 1
  be : Below w.heap.size w wr
  bs : base ≤ w.heap.size
  lx : Fr base aX X
  ly : Fr base aY Y
theorem Rv.next {base : Nat} {w wr w5 w6 : World} {aX : Option Addr} {cX : Nat} {aY : Option Addr} {cY : Nat} {X Y X' Y' : List ByteArray} (h : Rv base w wr aX cX aY cY X Y) {a5 : Option Addr} {c5 : Nat} {a6 : Option Addr} {c6 : Nat} (h5 : OwnTs w5 wr.heap.size (.slice a5 X'.length c5) X') (hb5 : Below wr.heap.size wr w5)
    (h6 : OwnTs w6 w5.heap.size (.slice a6 Y'.length c6) Y') (hb6 : Below w5.heap.size w5 w6) :
    Rv base w ((w6.setCell ⟨w.heap.size, 0, none⟩ (.slice a5 X'.length c5)).setCell ⟨w.heap.size, 1, none⟩ (.slice a6 Y'.length c6)) a5 c5 a6 c6 X' Y' := by
  have hl := h.rs.lt
  have hs5 := hb5.size
  have f5 : ∀ g off, a5 = some ⟨g, off, none⟩ → X' ≠ [] → g ≠ w.heap.size ∧ g ≠ w.heap.size + 1 := fun g off e _ => by have := (h5.lt g (by rw [e]; rfl)).1; omega
  have f6 : ∀ g off, a6 = some ⟨g, off, none⟩ → Y' ≠ [] → g ≠ w.heap.size ∧ g ≠ w.heap.size + 1 := fun g off e _ => by have := (h6.lt g (by rw [e]; rfl)).1; omega
  have t5 : Tl w5 a5 X' c5 := by obtain ⟨ax, cx, e, hh⟩ := h5.tl; cases e; exact hh
  have t6 : Tl w6 a6 Y' c6 := by obtain ⟨ax, cx, e, hh⟩ := h6.tl; cases e; exact hh
  have hb := hb5.trans (hb6.mono hs5)
  have hne : w.heap.size ≠ w.heap.size + 1 := by omega
  refine ⟨((h.ob.below hb).set0 _).set1 _, ((h.rs.below hb).other _ _ hne).other _ _ hne, ?_, ?_, f5, f6, ?_, h.bs, h5.fr.mono (by have := h.bs; omega), h6.fr.mono (by have := h.bs; omega)⟩
  · exact ((t5.below hb6).setc _ _ (fun g off e hx => (f5 g off e hx).1)).setc _ _ (fun g off e hx => (f5 g off e hx).1)
  · exact (t6.setc _ _ (fun g off e hx => (f6 g off e hx).1)).setc _ _ (fun g off e hx => (f6 g off e hx).1)
  · exact ((h.be.trans (hb.mono h.be.size)).setCell (Nat.le_refl _) _).setCell (Nat.le_refl _) _
set_option maxHeartbeats 4000000 in
theorem rlevel_any (T K : List ByteArray) (aT aK : Option Addr) (cT cK : Nat) (w : World) (hTl : Tl w aT T cT) (hKl : Tl w aK K cK) (hT : T.length ≤ 300) (hK : K.length ≤ 300) (base : Nat) (hbase : base ≤ w.heap.size) (hfT : Fr base aT T) (hfK : Fr base aK K) :
    Calls Try.prog 48 #[.agg #[.slice aT T.length cT, .slice aK K.length cK]] w fun e w' => ∃ aT' cT' aK' cK', e = .returned (.agg #[.slice aT' (lvT T K).length cT', .slice aK' (lvK T K).length cK']) ∧ Tl w' aT' (lvT T K) cT' ∧ Tl w' aK' (lvK T K) cK' ∧ Fr base aT' (lvT T K) ∧ Fr base aK' (lvK T K) ∧ Below w.heap.size w w' := by
  obtain ⟨w2, hw2, hb2, hA, hR, hs2⟩ := begin2 w (.slice aT T.length cT) (.slice aK K.length cK)
  have far : ∀ {ao : Option Addr} {ks : List ByteArray} {cap : Nat}, Tl w ao ks cap → ∀ g off, ao = some ⟨g, off, none⟩ → ks ≠ [] → g ≠ w.heap.size ∧ g ≠ w.heap.size + 1 := by
    intro ao ks cap h g off e hne
    rcases h.at_ with e2 | ⟨b, off', e2, hb, _⟩
    · exact absurd e2 hne
    · rw [e] at e2
      cases e2
      omega
  have HV0 : Hid (Rv base w w2 aT cT aK cK T K) := ⟨hA, hR, hTl.below hb2, hKl.below hb2, far hTl, far hKl, hb2, hbase, hfT, hfK⟩
  have HKL : Hid (K.length ≤ 300 ∧ T.length ≤ 300) := ⟨hK, hT⟩
  clear hTl hKl hT hK hb2 hA hR hs2 far hfT hfK hbase
  go_enter Try.func48, Try.ntmps48
  go_upto_region 1 with (fail)
  rw [← hw2]
  clear hw2
  go_wp2
  go_loopg [3] K.length (fun g s3 wr => ∃ (j : Nat) (aX : Option Addr) (cX : Nat) (aY : Option Addr) (cY : Nat), Hid (j + g = K.length) ∧ Hid (Rv base w wr aX cX aY cY (stT T K j) (stK K j)) ∧ Hid (j = 0 ∨ (K.length + T.length + 1) / 2 < K.length - j + 1))
  case atStart => exact ⟨0, aT, cT, aK, cK, by show 0 + K.length = _; omega, by rw [(st_zero T K).1, (st_zero T K).2]; exact HV0.out, .inl rfl⟩
  case round =>
    obtain ⟨j, aX, cX, aY, cY, HJ, HV, HE⟩ := hrel
    have hjK : Hid (j ≤ K.length) := by show j ≤ _; have := HJ.out; omega
    obtain ⟨X, hX⟩ : ∃ X, X = stT T K j := ⟨_, rfl⟩
    obtain ⟨Y, hY⟩ : ∃ Y, Y = stK K j := ⟨_, rfl⟩
    have HXL : Hid (X.length = T.length + j) := by rw [hX]; exact stT_len T K j hjK.out
    have HYL : Hid (Y.length = K.length - j) := by rw [hY]; exact stK_len K j
    rw [← hX, ← hY] at HV
    have HX := Hid.mk2 hX
    have HY := Hid.mk2 hY
    clear hX hY
    have hX1 : (X.length : Int) ≤ 600 := by have := HXL.out; have := HKL.out; have := hjK.out; omega
    have hY1 : (Y.length : Int) ≤ 600 := by have := HYL.out; have := HKL.out; omega
    obtain ⟨c0, c1, f0, f1, l0⟩ := HV.out.ob
    by_cases hlt : (Y.length + X.length + 1) / 2 < Y.length
    · have g2 : ((Y.length : Int) + (X.length : Int) + 1) / 2 < (Y.length : Int) := by omega
      obtain ⟨m, hm⟩ : ∃ m, Y.length = m + 1 := ⟨Y.length - 1, by omega⟩
      have hmY : m < Y.length := by omega
      have hmI : (m : Int) < (Y.length : Int) := by omega
      have HMY := Hid.mk2 hm
      have m1 : (Y.length : Int) - 1 = (m : Int) := by omega
      have m2 : IntKind.i64.wrap ((Y.length : Int) - 1) = (m : Int) := by rw [m1]; simp [IntKind.wrap, IntKind.bits, IntKind.signed]; omega
      obtain ⟨gY, oY, haY, hgl, hck⟩ := at_of HV.out.y hmY
      obtain ⟨k, hk⟩ : ∃ k, k = Y[m] := ⟨_, rfl⟩
      rw [← hk] at hck
      have HKE := Hid.mk2 hk
      subst haY
      have hmc : m ≤ cY := by have := HV.out.y.hl; omega
      have hcm := HV.out.y.hc
      obtain ⟨X', hX'⟩ : ∃ X', X' = k :: X := ⟨_, rfl⟩
      obtain ⟨Y', hY'⟩ : ∃ Y', Y' = Y.take m := ⟨_, rfl⟩
      have HYL' : Hid (Y'.length = m) := by rw [hY']; show _ = _; simp; omega
      have HFI := Hid.mk2 (fun V (hb : Below wr.heap.size wr V) => rfirst_any k X X' hX' aX cX V (HV.out.x.below hb) (by omega))
      have HYT := Hid.mk2 (fun V (hb : Below wr.heap.size wr V) => hY' ▸ ((HV.out.y.below hb).take' m))
      have HXX := Hid.mk2 hX'
      have HYY := Hid.mk2 hY'
      have HYn : Hid (Y'.length ≤ 600) := by show _ ≤ _; rw [HYL'.out]; omega
      clear hk hm hX' hY'
      go_upto_region 3 with (fail)
      go_region_law
        (first
          | (refine step_app_row (by rfl) (.const (.slice none 0 0)) (.tmp 32) (by rfl) w5.heap.size (.slice none 0 0) [] (OwnTs.nil _ _) (by rfl) (some ⟨gY, oY, none⟩) cY Y' m HYL'.out.symm (by rfl) w5.heap.size (by intro e; cases e) (HYT.out _ HB5.out).at_ (by have := HYn.out; simp; omega) (Nat.le_refl _) ?_; intro v6 w6 hO6 hG6; have HO6 : Hid (OwnTs w6 w5.heap.size v6 Y') := hO6; obtain ⟨a6, c6, rfl, hT6⟩ := hO6.tl; have HB6 : Hid (Below w5.heap.size w5 w6) := below_of_grew_nil hG6; clear hO6 hT6 hG6 c0 c1 f0 f1 l0; obtain ⟨c0, c1, f0, f1, l0⟩ := HV.out.ob.below (HB5.out.trans (HB6.out.mono HB5.out.size)))
          | (go_simp; go_at_call 46; refine (HFI.out _ (by first | exact Below.refl _ _ | exact (Below.refl _ _).drew)).mono ?_; rintro e w5 ⟨a5, c5, rfl, hO5, hb5⟩; have HO5 : Hid (OwnTs w5 wr.heap.size (.slice a5 X'.length c5) X') := hO5; have HB5 : Hid (Below wr.heap.size wr w5) := (by first | exact hb5 | exact below_drew0 hb5); clear hO5 hb5 c0 c1 f0 f1 l0; obtain ⟨c0, c1, f0, f1, l0⟩ := HV.out.ob.below HB5.out))
      all_goals
        have HV6 := Hid.mk2 (HV.out.next HO5.out HB5.out HO6.out HB6.out)
        go_wp2
        obtain ⟨g', hg'⟩ : ∃ g', gk = g' + 1 := ⟨gk - 1, by have := HJ.out; have := HYL.out; omega⟩
        subst hg'
        have hjl : j < K.length := by have := HJ.out; omega
        have hsu := st_succ T K j hjl
        go_roundg g'
        case measure => omega
        case rel =>
          refine ⟨j + 1, a5, c5, a6, c6, by show _ = _; have := HJ.out; omega, ?_, .inr ?_⟩
          · have h1 : stT T K (j + 1) = X' := by
              rw [HXX.out, hsu.1, HX.out, HKE.out]
              congr 1
              have e2 : m = K.length - j - 1 := by have := HMY.out; have := HYL.out; omega
              subst e2
              simp only [HY.out]
            have h2 : stK K (j + 1) = Y' := by
              rw [HYY.out, hsu.2, ← HY.out]
              have e2 : K.length - j - 1 = m := by have := HMY.out; have := HYL.out; omega
              rw [e2]
            rw [h1, h2]
            exact HV6.out
          · have := HYL.out
            have := HXL.out
            have := hjK.out
            omega
    · have g2 : ¬ ((Y.length : Int) + (X.length : Int) + 1) / 2 < (Y.length : Int) := by omega
      have HN := Hid.mk2 hlt
      clear hlt
      obtain ⟨r0, r1, s0, s1, l1⟩ := HV.out.rs
      go_wp2
      obtain ⟨q0, q1, _, _, _⟩ := (HV.out.rs.set0 (.slice aX X.length cX)).set1 (.slice aY Y.length cY)
      have hend := st_end T K j hjK.out (by have := HN.out; have := HXL.out; have := HYL.out; have := hjK.out; omega) HE.out
      rw [← HX.out, ← HY.out] at hend
      try simp only [Exit.inBlock, Exit.then]
      refine bodyPost_ret (v := .agg #[.slice aX X.length cX, .slice aY Y.length cY]) (by simp [results, Try.results48, go_sem, q0, q1]) rfl ⟨aX, cX, aY, cY, by rw [hend.1, hend.2], ?_, ?_, hend.1 ▸ HV.out.lx, hend.2 ▸ HV.out.ly, ?_⟩
      · rw [← hend.1]
        exact (HV.out.x.setc _ _ (fun g off e hx => (HV.out.fx g off e hx).2)).setc _ _ (fun g off e hx => (HV.out.fx g off e hx).2)
      · rw [← hend.2]
        exact (HV.out.y.setc _ _ (fun g off e hx => (HV.out.fy g off e hx).2)).setc _ _ (fun g off e hx => (HV.out.fy g off e hx).2)
      · exact (HV.out.be.setCell (by show _ ≤ w.heap.size + 1; omega) _).setCell (by show _ ≤ w.heap.size + 1; omega) _
end Go.Proofs.Ytmdlampmoeiihaa
