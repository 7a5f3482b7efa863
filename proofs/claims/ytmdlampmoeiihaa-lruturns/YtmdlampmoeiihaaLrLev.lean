/-
  Package lru: the contract of levelled.
-/
import Derived.Test.YtmdlampmoeiihaaLrRow
namespace Go.Proofs.Ytmdlampmoeiihaa
open Go.RowKit Go.Shelf Go.Lib Go.Sort
set_option linter.unusedSimpArgs false
set_option linter.unusedVariables false
set_option maxRecDepth 100000

/-- what the loop keeps: the order in block b, the answer's cells in the next one -/
structure Lv (w0 w : World) (base b : Nat) (aT : Option Addr) (cT : Nat) (aK : Option Addr) (cK : Nat) (T K : List ByteArray) : Prop where
  ob : OB w b (.slice aT T.length cT) (.slice aK K.length cK)
  rs : OB w (b + 1) (.slice none 0 0) (.slice none 0 0)
  rw_ : Rw w base aT cT aK cK T K
  ft : ∀ g, (Value.slice aT T.length cT).ownBlock = some g → g ≠ b ∧ g ≠ b + 1
  fk : ∀ g, (Value.slice aK K.length cK).ownBlock = some g → g ≠ b ∧ g ≠ b + 1
  be : Below base w0 w
  bb : base ≤ b
theorem Lv.below {w0 w w' : World} {base b : Nat} {aT : Option Addr} {cT : Nat} {aK : Option Addr} {cK : Nat} {T K : List ByteArray} (h : Lv w0 w base b aT cT aK cK T K) (hb : Below w.heap.size w w') : Lv w0 w' base b aT cT aK cK T K :=
  ⟨h.ob.below hb, h.rs.below hb, h.rw_.below hb, h.ft, h.fk, h.be.trans (hb.mono (by have := h.bb; have := h.ob.lt; omega)), h.bb⟩
/-- a key was laid ahead of the try row -/
theorem Lv.ins {w0 w w' : World} {base b : Nat} {aT : Option Addr} {cT : Nat} {aK : Option Addr} {cK : Nat} {T T' K : List ByteArray} {a' : Option Addr} {c' : Nat} (h : Lv w0 w base b aT cT aK cK T K)
    (hO : OwnTs w' base (.slice a' T'.length c') T') (hG : Grew w w' (.slice aT T.length cT) (.slice a' T'.length c')) : Lv w0 (w'.setCell ⟨b, 0, none⟩ (.slice a' T'.length c')) base b a' c' aK cK T' K := by
  have hlt := h.ob.lt
  have hlr := h.rs.lt
  have ft' : ∀ g, (Value.slice a' T'.length c').ownBlock = some g → g ≠ b ∧ g ≠ b + 1 := fun g hg => by
    rcases hG.lies g hg with e | e
    · exact h.ft g e
    · omega
  have o1 : OB w' b (.slice aT T.length cT) (.slice aK K.length cK) := h.ob.grown hG.grown (fun e => (h.ft b e).1 rfl)
  have o2 : OB w' (b + 1) (.slice none 0 0) (.slice none 0 0) := h.rs.grown hG.grown (fun e => (h.ft (b + 1) e).2 rfl)
  have k1 : OwnTs w' base (.slice aK K.length cK) K := h.rw_.k.grown hG.grown (fun g hg e => h.rw_.ap g e hg)
  refine ⟨o1.set0 _, o2.other _ _ (by show b ≠ b + 1; omega), ?_, ft', h.fk, ?_, h.bb⟩
  · refine (Rw.mk hO k1 (fun g hg e => ?_)).set _ _ (fun g hg => ?_)
    · rcases hG.lies g hg with e2 | e2
      · exact h.rw_.ap g e2 e
      · have := (h.rw_.k.lt g e).2
        omega
    · rcases hg with hg | hg
      · exact (ft' g hg).1
      · exact (h.fk g hg).1
  · exact (h.be.grown hG.grown (by have := h.bb; have := h.ob.lt; omega) (fun g hg => (h.rw_.t.lt g hg).1)).setCell h.bb _
/-- keys were taken out of the kept row -/
theorem Lv.del {w0 w w' : World} {base b : Nat} {aT : Option Addr} {cT : Nat} {aK : Option Addr} {cK : Nat} {T K K' : List ByteArray} {a' : Option Addr} {c' : Nat} (h : Lv w0 w base b aT cT aK cK T K)
    (hO : OwnTs w' base (.slice a' K'.length c') K') (hG : w.grownBy w' (Value.slice aK K.length cK).ownBlock) (he : (Value.slice a' K'.length c').ownBlock = (Value.slice aK K.length cK).ownBlock) : Lv w0 (w'.setCell ⟨b, 1, none⟩ (.slice a' K'.length c')) base b aT cT a' c' T K' := by
  have o1 : OB w' b (.slice aT T.length cT) (.slice aK K.length cK) := h.ob.grown hG (fun e => (h.fk b e).1 rfl)
  have o2 : OB w' (b + 1) (.slice none 0 0) (.slice none 0 0) := h.rs.grown hG (fun e => (h.fk (b + 1) e).2 rfl)
  have t1 : OwnTs w' base (.slice aT T.length cT) T := h.rw_.t.grown hG (fun g hg e => h.rw_.ap g hg e)
  refine ⟨o1.set1 _, o2.other _ _ (by show b ≠ b + 1; omega), ?_, h.ft, fun g hg => h.fk g (he ▸ hg), ?_, h.bb⟩
  · refine (Rw.mk t1 hO (fun g hg e => h.rw_.ap g hg (he ▸ e))).set _ _ (fun g hg => ?_)
    rcases hg with hg | hg
    · exact (h.ft g hg).1
    · exact (h.fk g (he ▸ hg)).1
  · exact (h.be.grown hG (by have := h.bb; have := h.ob.lt; omega) (fun g hg => (h.rw_.k.lt g hg).1)).setCell h.bb _
theorem Grew.drew {w w' : World} {v v' : Value} (h : Grew w.drew w' v v') : Grew w w' v v' :=
  ⟨⟨h.grown.os, h.grown.tape, h.grown.output, h.grown.size, h.grown.block⟩, h.lies⟩
set_option maxHeartbeats 2000000 in
theorem levelled_any (T K : List ByteArray) (aT aK : Option Addr) (cT cK : Nat) (base : Nat) (w : World) (h : Rw w base aT cT aK cK T K) (hbase : base ≤ w.heap.size) (hT : T.length ≤ 300) (hK : K.length ≤ 300) :
    Calls Try.prog 34 #[.agg #[.slice aT T.length cT, .slice aK K.length cK]] w fun e w' => ∃ aT' cT' aK' cK', e = .returned (.agg #[.slice aT' (lvT T K).length cT', .slice aK' (lvK T K).length cK']) ∧ Rw w' base aT' cT' aK' cK' (lvT T K) (lvK T K) ∧ Below base w w' := by
  have mixed := Try.layInsert.mixed
  obtain ⟨w2, hw2⟩ : ∃ w2, w2 = (w.alloc (Obj.cells #[.slice aT T.length cT, .slice aK K.length cK] 24)).alloc (Obj.cells #[.slice none 0 0, .slice none 0 0] 24) := ⟨_, rfl⟩
  have HV0 : Hid (Lv w w2 base w.heap.size aT cT aK cK T K) := by
    have hb : Below w.heap.size w w2 := by rw [hw2]; exact ((Below.refl _ _).alloc (Nat.le_refl _) _).alloc (by simp) _
    have hA : OB w2 w.heap.size (.slice aT T.length cT) (.slice aK K.length cK) := by rw [hw2]; exact (OB.made _ _ _).alloc _
    have hR : OB w2 (w.heap.size + 1) (.slice none 0 0) (.slice none 0 0) := by
      rw [hw2]
      have := OB.made (w.alloc (Obj.cells #[.slice aT T.length cT, .slice aK K.length cK] 24)) (.slice none 0 0) (.slice none 0 0)
      rw [show (w.alloc (Obj.cells #[.slice aT T.length cT, .slice aK K.length cK] 24)).heap.size = w.heap.size + 1 by simp] at this
      exact this
    exact ⟨hA, hR, h.below hb, fun g hg => by have := (h.t.lt g hg).2; omega, fun g hg => by have := (h.k.lt g hg).2; omega, hb.mono hbase, hbase⟩
  obtain ⟨B, hB⟩ : ∃ B, B = w.heap.size := ⟨_, rfl⟩
  have HKL : Hid (K.length ≤ 300 ∧ T.length ≤ 300) := ⟨hK, hT⟩
  clear h hT hK
  go_enter Try.func34, Try.ntmps34
  go_upto_region 1 with (fail)
  rw [← hw2]
  clear hw2
  rw [← hB] at HV0 ⊢
  clear hB hbase
  go_wp2
  go_loopg [3] K.length (fun g s3 wr => ∃ (j : Nat) (aX : Option Addr) (cX : Nat) (aY : Option Addr) (cY : Nat), Hid (j + g = K.length) ∧ Hid (Lv w wr base B aX cX aY cY (stT T K j) (stK K j)) ∧ Hid (j = 0 ∨ (K.length + T.length + 1) / 2 < K.length - j + 1))
  case atStart => exact ⟨0, aT, cT, aK, cK, by show 0 + K.length = _; omega, by rw [(st_zero T K).1, (st_zero T K).2]; exact HV0.out, .inl rfl⟩
  case round =>
    obtain ⟨j, aX, cX, aY, cY, HJ, HV, HE⟩ := hrel
    have hjK : Hid (j ≤ K.length) := by show j ≤ _; have := HJ.out; omega
    obtain ⟨X, hX⟩ : ∃ X, X = stT T K j := ⟨_, rfl⟩
    obtain ⟨Y, hY⟩ : ∃ Y, Y = stK K j := ⟨_, rfl⟩
    have HXL : Hid (X.length = T.length + j) := by rw [hX]; exact stT_len T K j hjK.out
    have HYL : Hid (Y.length = K.length - j) := by rw [hY]; exact stK_len K j
    rw [← hX, ← hY] at HV
    have HX := Hid.mk2 hX
    have HY := Hid.mk2 hY
    clear hX hY
    have hX1 : X.length ≤ 1000 := by have := HXL.out; have := HKL.out; have := hjK.out; omega
    have hY1 : Y.length ≤ 1000 := by have := HYL.out; have := HKL.out; omega
    have hmany := fun W => many_grown aX aY X.length cX Y.length cY W hX1 hY1
    have hhalf := fun W => half_grown X.length Y.length W hX1 hY1
    obtain ⟨hf, hhf⟩ : ∃ hf : Nat, hf = (X.length + Y.length + 1) / 2 := ⟨_, rfl⟩
    rw [← hhf] at hhalf
    have HHF : Hid (hf = (K.length + T.length + 1) / 2) := by show hf = _; rw [hhf, HXL.out, HYL.out]; have := hjK.out; congr 2; omega
    clear hhf
    obtain ⟨c0, c1, f0, f1, l0⟩ := HV.out.ob
    have d0 : ∀ n os, (grow (wr.drewN n) os).cell? ⟨B, 0, none⟩ = some (.slice aX X.length cX) := cell_grown l0 c0
    have d1 : ∀ n os, (grow (wr.drewN n) os).cell? ⟨B, 1, none⟩ = some (.slice aY Y.length cY) := cell_grown l0 c1
    clear c0 c1 f0 f1
    by_cases hlt : hf < Y.length
    · have g2 : (hf : Int) < (Y.length : Int) := by omega
      go_wp2
      go_quiet_grown (first
        | (go_at_call 37; exact Calls.grown_of (hmany _))
        | (go_at_call 39; exact Calls.grown_of (hhalf _)))
      obtain ⟨V, hV⟩ : ∃ V, V = grow (wr.drewN nq) osq := ⟨_, rfl⟩
      have HVV : Hid (Lv w V base B aX cX aY cY X Y) := by rw [hV]; exact HV.out.below (below_grow wr nq osq)
      rw [← hV]
      clear hV d0 d1 hmany hhalf l0
      -- the last one of the kept row
      obtain ⟨m, hm⟩ : ∃ m, Y.length = m + 1 := ⟨Y.length - 1, by omega⟩
      have hmY : m < Y.length := by omega
      have hmI : (m : Int) < (Y.length : Int) := by omega
      have HMY := Hid.mk2 hm
      have m1 : (Y.length : Int) - 1 = (m : Int) := by omega
      have m2 : IntKind.i64.wrap ((Y.length : Int) - 1) = (m : Int) := by rw [m1]; simp [IntKind.wrap, IntKind.bits, IntKind.signed]; omega
      obtain ⟨k, hk⟩ : ∃ k, k = Y[m] := ⟨_, rfl⟩
      obtain ⟨gY, hgY⟩ : ∃ gY, aY = some ⟨gY, 0, none⟩ ∧ V.cell? ⟨gY, m, none⟩ = some (.string k) ∧ gY < V.heap.size := by
        rcases HVV.out.rw_.k.parts with ⟨e, e2⟩ | ⟨g, cap, cur, e, hb, hg, hs, hn, hmx, hc⟩
        · rw [e2] at hmY; simp at hmY
        · cases e
          exact ⟨g, rfl, by rw [hk]; exact hc m hmY, (Array.getElem?_eq_some_iff.1 hg).1⟩
      obtain ⟨rfl, hck, hgl⟩ := hgY
      have HKE := Hid.mk2 hk
      clear hk hm
      obtain ⟨c0, c1, f0, f1, l0⟩ := HVV.out.ob
      go_upto_region 3 with (fail)
      go_cut [] from 15 to 24 (fun wx => ∃ (a' : Option Addr) (c' : Nat) (X' : List ByteArray), Hid (X' = k :: X) ∧ Hid (Lv w wx base B a' c' (some ⟨gY, 0, none⟩) cY X' Y))
      case first =>
        go_region_with (go_at_call 33; refine (insert_any _ base _ X (by first | exact HVV.out.rw_.t.alloc _ | exact (HVV.out.rw_.t.below (Below.refl _ _).drew).alloc _ | exact (HVV.out.rw_.t.alloc _).below (Below.refl _ _).drew) k V.heap.size (by first | exact alloc_heap V _ | exact alloc_heap V.drew _) (fun e => by have := (HVV.out.rw_.t.lt _ e).2; omega) (by have := HVV.out.bb; have := HVV.out.ob.lt; first | (simp; omega) | (show _ ≤ (V.drew.alloc _).heap.size; simp; omega)) hX1).mono ?_; rintro e w5 ⟨v5, rfl, hO5, hG5⟩; obtain ⟨X', hX'⟩ : ∃ X', X' = k :: X := ⟨_, rfl⟩; rw [← hX'] at hO5; have HXX := Hid.mk2 hX'; have HO5 := Hid.mk2 hO5; obtain ⟨a5, c5, rfl, hT5⟩ := hO5.tl; have HG5 : Hid (Grew V w5 (.slice aX X.length cX) (.slice a5 X'.length c5)) := (by first | exact hG5.alloc | exact hG5.alloc.drew | exact hG5.drew.alloc); clear hX' hO5 hT5 hG5 c0 c1 f0 f1 l0; obtain ⟨c0, c1, f0, f1, l0⟩ := HVV.out.ob.grown HG5.out.grown (fun e => (HVV.out.ft B e).1 rfl))
        all_goals
          go_wp2
          go_meet
          case rel => exact ⟨a5, c5, X', HXX.out, HVV.out.ins HO5.out HG5.out⟩
      case rest =>
        obtain ⟨a5, c5, X', HXX, HV5⟩ := hcut
        obtain ⟨w6, hw6⟩ : ∃ x, x = wc := ⟨_, rfl⟩
        rw [← hw6] at HV5 ⊢
        clear hw6 c0 c1 f0 f1 l0 hck hgl
        obtain ⟨c0, c1, f0, f1, l0⟩ := HV5.out.ob
        have HDL := Hid.mk2 (delete_any w6 base _ Y HV5.out.rw_.k m hmY ((m : Int) + 1) rfl)
        have hmb : (m : Int) ≤ 1000 := by omega
        go_wp2_with (go_at_call 51; refine HDL.out.mono ?_; rintro e w7 ⟨v7, rfl, hO7, hG7, hE7⟩; obtain ⟨Y', hY'⟩ : ∃ Y', Y' = Y.eraseIdx m := ⟨_, rfl⟩; rw [← hY'] at hO7; have HYY := Hid.mk2 hY'; have HO7 := Hid.mk2 hO7; obtain ⟨a7, c7, rfl, hT7⟩ := hO7.tl; have HG7 := Hid.mk2 hG7; have HE7 := Hid.mk2 hE7; clear hY' hO7 hT7 hG7 hE7 c0 c1 f0 f1 l0; obtain ⟨c0, c1, f0, f1, l0⟩ := HV5.out.ob.grown HG7.out (fun e => (HV5.out.fk B e).1 rfl))
        obtain ⟨g', hg'⟩ : ∃ g', gk = g' + 1 := ⟨gk - 1, by have := HJ.out; have := HYL.out; omega⟩
        subst hg'
        have hjl : j < K.length := by have := HJ.out; omega
        have hsu := st_succ T K j hjl
        go_roundg g'
        case measure => omega
        case rel =>
          refine ⟨j + 1, a5, c5, a7, c7, by show _ = _; have := HJ.out; omega, ?_, .inr ?_⟩
          · have h1 : stT T K (j + 1) = X' := by
              rw [HXX.out, hsu.1, HX.out, HKE.out]
              congr 1
              have e2 : m = K.length - j - 1 := by have := HMY.out; have := HYL.out; omega
              subst e2
              simp only [HY.out]
            have h2 : stK K (j + 1) = Y' := by
              rw [HYY.out, hsu.2, ← HY.out]
              have e2 : K.length - j - 1 = m := by have := HMY.out; have := HYL.out; omega
              rw [e2, List.eraseIdx_eq_take_drop_succ, List.drop_of_length_le (by omega), List.append_nil]
            rw [h1, h2]
            exact HV5.out.del HO7.out HG7.out HE7.out
          · have := HHF.out
            have := HYL.out
            omega
    · have g2 : ¬ (hf : Int) < (Y.length : Int) := by omega
      have HN := Hid.mk2 hlt
      clear hlt
      go_wp2
      go_quiet_grown (first
        | (go_at_call 37; exact Calls.grown_of (hmany _))
        | (go_at_call 39; exact Calls.grown_of (hhalf _)))
      obtain ⟨V, hV⟩ : ∃ V, V = grow (wr.drewN nq) osq := ⟨_, rfl⟩
      have HVV : Hid (Lv w V base B aX cX aY cY X Y) := by rw [hV]; exact HV.out.below (below_grow wr nq osq)
      rw [← hV]
      clear hV d0 d1 hmany hhalf l0
      obtain ⟨c0, c1, f0, f1, l0⟩ := HVV.out.ob
      obtain ⟨r0, r1, s0, s1, l1⟩ := HVV.out.rs
      go_wp2
      obtain ⟨q0, q1, _, _, _⟩ := (HVV.out.rs.set0 (.slice aX X.length cX)).set1 (.slice aY Y.length cY)
      have hend := st_end T K j hjK.out (by have := HN.out; have := HHF.out; have := HYL.out; omega) HE.out
      rw [← HX.out, ← HY.out] at hend
      try simp only [Exit.inBlock, Exit.then]
      refine bodyPost_ret (v := .agg #[.slice aX X.length cX, .slice aY Y.length cY]) (by simp [results, Try.results34, go_sem, q0, q1]) rfl ⟨aX, cX, aY, cY, by rw [hend.1, hend.2], ?_, ?_⟩
      · rw [← hend.1, ← hend.2]
        have far : ∀ g, (Value.slice aX X.length cX).ownBlock = some g ∨ (Value.slice aY Y.length cY).ownBlock = some g → g ≠ B + 1 := fun g hg => by
          rcases hg with hg | hg
          · exact (HVV.out.ft g hg).2
          · exact (HVV.out.fk g hg).2
        exact (HVV.out.rw_.set ⟨B + 1, 0, none⟩ _ far).set ⟨B + 1, 1, none⟩ _ far
      · have hb := HVV.out.bb
        exact (HVV.out.be.setCell (by show _ ≤ B + 1; omega) _).setCell (by show _ ≤ B + 1; omega) _
end Go.Proofs.Ytmdlampmoeiihaa
