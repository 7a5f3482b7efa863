/-
  The document's table: Put.
-/
import Derived.Test.YtlomciinkpecpaaTdDel
namespace Go.Proofs.Ytlomciinkpecpaa
open Go.RowKit
set_option linter.unusedSimpArgs false
set_option linter.unusedVariables false
set_option maxRecDepth 100000

set_option maxHeartbeats 1000000 in
theorem rput_bad (w : World) (base : Nat) (ao : Option Addr) (D : List NU) (cap : Nat) (h : OwnE w base (.slice ao D.length cap) D) (y : Nm) (x : Int) (hok : ¬ y.ok) :
    Calls Try.prog 32 #[.agg #[.slice ao D.length cap], .agg #[.int .i64 y.tenant, .string y.key], .int .i64 x] w fun e w' => e = .returned (.tuple #[.agg #[.slice ao D.length cap], .int .i64 8]) ∧ OwnE w' base (.slice ao D.length cap) D ∧ Below w.heap.size w w' := by
  have HNM := Hid.mk2 (fun W => wname_any y W)
  rw [decide_eq_false hok] at HNM
  have HO := Hid.mk2 h
  obtain ⟨w0, hw0⟩ : ∃ x, x = ((w.alloc (Obj.cells #[.slice ao D.length cap] 46)).alloc (Obj.cells #[.int .i64 y.tenant, .string y.key] 28)).alloc (Obj.cells #[.slice none 0 0] 46) := ⟨_, rfl⟩
  have HK0 : Hid (Bt w w0 ao D.length cap y) := by rw [hw0]; exact Bt.begin _ _ _ _ _
  clear h hok
  go_enter Try.func32, Try.ntmps32
  go_upto_region 1 with (fail)
  rw [← hw0]
  clear hw0
  obtain ⟨k0, k1, k2, k3, k4, k5⟩ := HK0.out.facts
  go_wp2_with (go_at_call 43; refine (HNM.out _).mono ?_; rintro e w1 ⟨rfl, hb1⟩; have HK1 := Hid.mk2 (HK0.out.step hb1); clear hb1 k0 k1 k2 k3 k4 k5; obtain ⟨k0, k1, k2, k3, k4, k5⟩ := HK1.out.facts)
  try simp only [Exit.inBlock, Exit.then]
  have z0 := World.cell?_setCell_same w1 ⟨w.heap.size + 1 + 1, 0, none⟩ (.slice ao D.length cap) k3
  exact bodyPost_ret (v := .tuple #[.agg #[.slice ao D.length cap], .int .i64 8]) (by simp [results, Try.results32, go_sem, z0]) rfl ⟨rfl, HO.out.early HK1.out.below, HK1.out.below.setCell (by show w.heap.size ≤ w.heap.size + 1 + 1; omega) _⟩
set_option maxHeartbeats 2000000 in
theorem rput_ok (w : World) (base : Nat) (ao : Option Addr) (D : List NU) (cap : Nat) (h : OwnE w base (.slice ao D.length cap) D) (hl : D.length ≤ 1000) (y : Nm) (x : Int) (hok : y.ok) :
    Calls Try.prog 32 #[.agg #[.slice ao D.length cap], .agg #[.int .i64 y.tenant, .string y.key], .int .i64 x] w fun e w' => ∃ ro rc, e = .returned (.tuple #[.agg #[.slice ro (dput D y x).length rc], .int .i64 0]) ∧ OwnE w' w.heap.size (.slice ro (dput D y x).length rc) (dput D y x) ∧ Below w.heap.size w w' := by
  have HNM := Hid.mk2 (fun W => wname_any y W)
  rw [decide_eq_true hok] at HNM
  have HFI := Hid.mk2 (fun W (hb : Below w.heap.size w W) => rfind_any W ao D cap (h.de'.at_.belowD hb) hl h.de'.hl y)
  have hle := fpos_le D y
  have hlt : fis D y = true → fpos D y < D.length := fun hf => by
    rw [fis_eq] at hf
    refine Classical.byContradiction fun hn => ?_
    rw [List.getElem?_eq_none (by omega)] at hf
    cases hf
  obtain ⟨j, hj⟩ : ∃ j, j = fpos D y := ⟨_, rfl⟩
  have HS : Hid (dput D y x = D.take j ++ (y, x) :: D.drop (if fis D y then j + 1 else j)) := by show _ = _; rw [hj]; rfl
  rw [← hj] at HFI hlt hle
  have HD := Hid.mk2 h.de'
  have hcap := HD.out.hl
  have hcm := HD.out.hc
  unfold maxLen at hcm
  obtain ⟨R, hR⟩ : ∃ R, R = dput D y x := ⟨_, rfl⟩
  rw [← hR] at HS ⊢
  have htl : (D.take j).length = j := by simp; omega
  have HRO := Hid.mk2 h.row
  obtain ⟨w0, hw0⟩ : ∃ x, x = ((w.alloc (Obj.cells #[.slice ao D.length cap] 46)).alloc (Obj.cells #[.int .i64 y.tenant, .string y.key] 28)).alloc (Obj.cells #[.slice none 0 0] 46) := ⟨_, rfl⟩
  have HK0 : Hid (Bt w w0 ao D.length cap y) := by rw [hw0]; exact Bt.begin _ _ _ _ _
  clear h hok hj hR
  cases hf : fis D y
  · rw [hf] at HFI HS hlt
    clear hf
    have HS2 : Hid (R = D.take j ++ (y, x) :: D.drop j) := HS.out
    clear HS
    have hdl : (D.drop j).length = D.length - j := by simp
    clear hlt
    rcases HRO.out with ⟨rfl, rfl, rfl⟩ | ⟨g, rfl⟩
    · obtain rfl : j = 0 := by simpa using hle
      simp only [List.length_nil] at hw0 HK0 HFI
      go_enter Try.func32, Try.ntmps32
      go_upto_region 1 with (fail)
      rw [← hw0]
      clear hw0
      obtain ⟨k0, k1, k2, k3, k4, k5⟩ := HK0.out.facts
      go_upto_region 5 with (first | (go_at_call 43; refine (HNM.out _).mono ?_; rintro e w1 ⟨rfl, hb1⟩; have HK1 := Hid.mk2 (HK0.out.step hb1); clear hb1 k0 k1 k2 k3 k4 k5; obtain ⟨k0, k1, k2, k3, k4, k5⟩ := HK1.out.facts) | (go_at_call 44; refine (HFI.out _ HK1.out.below).mono ?_; rintro e w2 ⟨rfl, hb2⟩; have HK2 := Hid.mk2 (HK1.out.step hb2); clear hb2 k0 k1 k2 k3 k4 k5; obtain ⟨k0, k1, k2, k3, k4, k5⟩ := HK2.out.facts))
      have HD2 := Hid.mk2 (HD.out.below HK2.out.below)
      go_upto_region 6 with (at_builtin; refine app_es rfl (.tmp 21) (.tmp 25) rfl w2.heap.size _ [] (OwnE.nil _ _) rfl none [] 0 (by first | rfl | (rw [htl]; rfl)) (De.nil _) (by first | (simp; done) | (simp; omega)) (Nat.le_refl _) ?_; rw [List.nil_append]; intro v3 w3 ho3 hg3; have HB3 : Hid (Below w2.heap.size w2 w3) := (Below.refl _ _).grown hg3.grown (Nat.le_refl _) (fun k hk => by cases hk); have HK3 := Hid.mk2 (HK2.out.step HB3.out); clear k0 k1 k2 k3 k4 k5; obtain ⟨k0, k1, k2, k3, k4, k5⟩ := HK3.out.facts)
      clear hg3
      go_upto_region 9 with (at_builtin; refine app_e rfl (.tmp 27) (.tmp 31) rfl w2.heap.size _ _ ho3 rfl (y, x) rfl _ rfl rfl (by first | (simp; done) | (simp; omega)) HB3.out.size ?_; intro v4 w4 ho4 hg4; have HB4 : Hid (Below w2.heap.size w2 w4) := grew_below HB3.out ho3 HB3.out.size hg4; have HK4 := Hid.mk2 (HK2.out.step HB4.out); clear k0 k1 k2 k3 k4 k5; obtain ⟨k0, k1, k2, k3, k4, k5⟩ := HK4.out.facts)
      clear hg4 ho3
      go_wp2_with (at_builtin; refine app_es rfl (.tmp 36) (.tmp 40) rfl w2.heap.size _ _ ho4 rfl none [] 0 (by first | rfl | (simp; done)) (De.nil _) (by first | (simp; done) | (simp; omega)) HB4.out.size ?_; intro v5 w5 ho5 hg5; have HB5 : Hid (Below w2.heap.size w2 w5) := grew_below HB4.out ho4 HB4.out.size hg5; have HK5 := Hid.mk2 (HK2.out.step HB5.out); clear k0 k1 k2 k3 k4 k5; obtain ⟨k0, k1, k2, k3, k4, k5⟩ := HK5.out.facts; have hs5 := HS2.out; simp only [List.take_nil, List.drop_nil, List.nil_append] at hs5; simp only [List.nil_append, List.append_nil] at ho5; rw [← hs5] at ho5; clear hs5; obtain ⟨lo, lc, hv, -⟩ := ho5.de; subst hv; have HO5 := Hid.mk2 ho5; clear ho4 ho5 hg5)
      try simp only [Exit.inBlock, Exit.then]
      have z0 := World.cell?_setCell_same w5 ⟨w.heap.size + 1 + 1, 0, none⟩ (.slice lo R.length lc) k3
      exact bodyPost_ret (v := .tuple #[.agg #[.slice lo R.length lc], .int .i64 0]) (by simp [results, Try.results32, go_sem, z0]) rfl ⟨lo, lc, rfl, (HO5.out.down HK2.out.below.size).set1 (fun g hg => by have := (HO5.out.lt g hg).1; have := HK2.out.facts.2.2.2.2.2; omega), HK5.out.below.setCell (by show w.heap.size ≤ w.heap.size + 1 + 1; omega) _⟩
    · by_cases hcj : cap = j
      · have hDj : D.length = j := by omega
        have HDN := Hid.mk2 (show D.drop j = [] from List.drop_eq_nil_of_le (by omega))
        clear hDj
        have hcj2 := hcj.symm
        clear hcj
        subst hcj2
        go_enter Try.func32, Try.ntmps32
        go_upto_region 1 with (fail)
        rw [← hw0]
        clear hw0
        obtain ⟨k0, k1, k2, k3, k4, k5⟩ := HK0.out.facts
        go_upto_region 5 with (first | (go_at_call 43; refine (HNM.out _).mono ?_; rintro e w1 ⟨rfl, hb1⟩; have HK1 := Hid.mk2 (HK0.out.step hb1); clear hb1 k0 k1 k2 k3 k4 k5; obtain ⟨k0, k1, k2, k3, k4, k5⟩ := HK1.out.facts) | (go_at_call 44; refine (HFI.out _ HK1.out.below).mono ?_; rintro e w2 ⟨rfl, hb2⟩; have HK2 := Hid.mk2 (HK1.out.step hb2); clear hb2 k0 k1 k2 k3 k4 k5; obtain ⟨k0, k1, k2, k3, k4, k5⟩ := HK2.out.facts))
        have HD2 := Hid.mk2 (HD.out.below HK2.out.below)
        go_upto_region 6 with (at_builtin; refine app_es rfl (.tmp 21) (.tmp 25) rfl w2.heap.size _ [] (OwnE.nil _ _) rfl (some ⟨g, 0, none⟩) (D.take j) j (by first | rfl | (rw [htl]; rfl)) (HD2.out.take j) (by first | (simp; done) | (simp; omega)) (Nat.le_refl _) ?_; rw [List.nil_append]; intro v3 w3 ho3 hg3; have HB3 : Hid (Below w2.heap.size w2 w3) := (Below.refl _ _).grown hg3.grown (Nat.le_refl _) (fun k hk => by cases hk); have HK3 := Hid.mk2 (HK2.out.step HB3.out); clear k0 k1 k2 k3 k4 k5; obtain ⟨k0, k1, k2, k3, k4, k5⟩ := HK3.out.facts)
        clear hg3
        go_upto_region 9 with (at_builtin; refine app_e rfl (.tmp 27) (.tmp 31) rfl w2.heap.size _ _ ho3 rfl (y, x) rfl _ rfl rfl (by first | (simp; done) | (simp; omega)) HB3.out.size ?_; intro v4 w4 ho4 hg4; have HB4 : Hid (Below w2.heap.size w2 w4) := grew_below HB3.out ho3 HB3.out.size hg4; have HK4 := Hid.mk2 (HK2.out.step HB4.out); clear k0 k1 k2 k3 k4 k5; obtain ⟨k0, k1, k2, k3, k4, k5⟩ := HK4.out.facts)
        clear hg4 ho3
        go_wp2_with (at_builtin; refine app_es rfl (.tmp 36) (.tmp 40) rfl w2.heap.size _ _ ho4 rfl (some ⟨g, 0, none⟩) [] 0 (by first | rfl | (simp; done)) ⟨by simp, by simp [maxLen], (by intro e; cases e), .inl rfl⟩ (by first | (simp; done) | (simp; omega)) HB4.out.size ?_; intro v5 w5 ho5 hg5; have HB5 : Hid (Below w2.heap.size w2 w5) := grew_below HB4.out ho4 HB4.out.size hg5; have HK5 := Hid.mk2 (HK2.out.step HB5.out); clear k0 k1 k2 k3 k4 k5; obtain ⟨k0, k1, k2, k3, k4, k5⟩ := HK5.out.facts; have hs5 := HS2.out; rw [HDN.out] at hs5; rw [List.append_nil] at ho5; rw [← hs5] at ho5; clear hs5; obtain ⟨lo, lc, hv, -⟩ := ho5.de; subst hv; have HO5 := Hid.mk2 ho5; clear ho4 ho5 hg5)
        try simp only [Exit.inBlock, Exit.then]
        have z0 := World.cell?_setCell_same w5 ⟨w.heap.size + 1 + 1, 0, none⟩ (.slice lo R.length lc) k3
        exact bodyPost_ret (v := .tuple #[.agg #[.slice lo R.length lc], .int .i64 0]) (by simp [results, Try.results32, go_sem, z0]) rfl ⟨lo, lc, rfl, (HO5.out.down HK2.out.below.size).set1 (fun g hg => by have := (HO5.out.lt g hg).1; have := HK2.out.facts.2.2.2.2.2; omega), HK5.out.below.setCell (by show w.heap.size ≤ w.heap.size + 1 + 1; omega) _⟩
      · have hcj2 : ¬ j = cap := fun e => hcj e.symm
        have hcj3 : ¬ (cap : Int) = (j : Int) := by omega
        go_enter Try.func32, Try.ntmps32
        go_upto_region 1 with (fail)
        rw [← hw0]
        clear hw0
        obtain ⟨k0, k1, k2, k3, k4, k5⟩ := HK0.out.facts
        go_upto_region 5 with (first | (go_at_call 43; refine (HNM.out _).mono ?_; rintro e w1 ⟨rfl, hb1⟩; have HK1 := Hid.mk2 (HK0.out.step hb1); clear hb1 k0 k1 k2 k3 k4 k5; obtain ⟨k0, k1, k2, k3, k4, k5⟩ := HK1.out.facts) | (go_at_call 44; refine (HFI.out _ HK1.out.below).mono ?_; rintro e w2 ⟨rfl, hb2⟩; have HK2 := Hid.mk2 (HK1.out.step hb2); clear hb2 k0 k1 k2 k3 k4 k5; obtain ⟨k0, k1, k2, k3, k4, k5⟩ := HK2.out.facts))
        have HD2 := Hid.mk2 (HD.out.below HK2.out.below)
        go_upto_region 6 with (at_builtin; refine app_es rfl (.tmp 21) (.tmp 25) rfl w2.heap.size _ [] (OwnE.nil _ _) rfl (some ⟨g, 0, none⟩) (D.take j) cap (by first | rfl | (rw [htl]; rfl)) (HD2.out.take j) (by first | (simp; done) | (simp; omega)) (Nat.le_refl _) ?_; rw [List.nil_append]; intro v3 w3 ho3 hg3; have HB3 : Hid (Below w2.heap.size w2 w3) := (Below.refl _ _).grown hg3.grown (Nat.le_refl _) (fun k hk => by cases hk); have HK3 := Hid.mk2 (HK2.out.step HB3.out); clear k0 k1 k2 k3 k4 k5; obtain ⟨k0, k1, k2, k3, k4, k5⟩ := HK3.out.facts)
        clear hg3
        go_upto_region 9 with (at_builtin; refine app_e rfl (.tmp 27) (.tmp 31) rfl w2.heap.size _ _ ho3 rfl (y, x) rfl _ rfl rfl (by first | (simp; done) | (simp; omega)) HB3.out.size ?_; intro v4 w4 ho4 hg4; have HB4 : Hid (Below w2.heap.size w2 w4) := grew_below HB3.out ho3 HB3.out.size hg4; have HK4 := Hid.mk2 (HK2.out.step HB4.out); clear k0 k1 k2 k3 k4 k5; obtain ⟨k0, k1, k2, k3, k4, k5⟩ := HK4.out.facts)
        clear hg4 ho3
        go_wp2_with (at_builtin; refine app_es rfl (.tmp 36) (.tmp 40) rfl w2.heap.size _ _ ho4 rfl (some ⟨g, j * 3, none⟩) (D.drop j) (cap - j) (by first | rfl | (rw [hdl]; rfl)) (by have := (HD2.out.below HB4.out).drop j (by omega); rwa [Nat.zero_add] at this) (by first | (simp; done) | (simp; omega)) HB4.out.size ?_; intro v5 w5 ho5 hg5; have HB5 : Hid (Below w2.heap.size w2 w5) := grew_below HB4.out ho4 HB4.out.size hg5; have HK5 := Hid.mk2 (HK2.out.step HB5.out); clear k0 k1 k2 k3 k4 k5; obtain ⟨k0, k1, k2, k3, k4, k5⟩ := HK5.out.facts; rw [List.append_assoc, List.singleton_append, ← HS2.out] at ho5; obtain ⟨lo, lc, hv, -⟩ := ho5.de; subst hv; have HO5 := Hid.mk2 ho5; clear ho4 ho5 hg5)
        try simp only [Exit.inBlock, Exit.then]
        have z0 := World.cell?_setCell_same w5 ⟨w.heap.size + 1 + 1, 0, none⟩ (.slice lo R.length lc) k3
        exact bodyPost_ret (v := .tuple #[.agg #[.slice lo R.length lc], .int .i64 0]) (by simp [results, Try.results32, go_sem, z0]) rfl ⟨lo, lc, rfl, (HO5.out.down HK2.out.below.size).set1 (fun g hg => by have := (HO5.out.lt g hg).1; have := HK2.out.facts.2.2.2.2.2; omega), HK5.out.below.setCell (by show w.heap.size ≤ w.heap.size + 1 + 1; omega) _⟩
  · rw [hf] at HFI HS hlt
    clear hf
    have HS2 : Hid (R = D.take j ++ (y, x) :: D.drop (j + 1)) := HS.out
    clear HS
    have hdl : (D.drop (j + 1)).length = D.length - (j + 1) := by simp
    have hlt := hlt rfl
    have hltI : (j : Int) < (D.length : Int) := by omega
    rcases HRO.out with ⟨rfl, rfl, rfl⟩ | ⟨g, rfl⟩
    · simp at hlt
    · by_cases hcj : cap = (j + 1)
      · have hDj : D.length = (j + 1) := by omega
        have HDN := Hid.mk2 (show D.drop (j + 1) = [] from List.drop_eq_nil_of_le (by omega))
        clear hDj
        have hcj2 := hcj.symm
        clear hcj
        subst hcj2
        go_enter Try.func32, Try.ntmps32
        go_upto_region 1 with (fail)
        rw [← hw0]
        clear hw0
        obtain ⟨k0, k1, k2, k3, k4, k5⟩ := HK0.out.facts
        go_upto_region 5 with (first | (go_at_call 43; refine (HNM.out _).mono ?_; rintro e w1 ⟨rfl, hb1⟩; have HK1 := Hid.mk2 (HK0.out.step hb1); clear hb1 k0 k1 k2 k3 k4 k5; obtain ⟨k0, k1, k2, k3, k4, k5⟩ := HK1.out.facts) | (go_at_call 44; refine (HFI.out _ HK1.out.below).mono ?_; rintro e w2 ⟨rfl, hb2⟩; have HK2 := Hid.mk2 (HK1.out.step hb2); clear hb2 k0 k1 k2 k3 k4 k5; obtain ⟨k0, k1, k2, k3, k4, k5⟩ := HK2.out.facts))
        have HD2 := Hid.mk2 (HD.out.below HK2.out.below)
        go_upto_region 6 with (at_builtin; refine app_es rfl (.tmp 21) (.tmp 25) rfl w2.heap.size _ [] (OwnE.nil _ _) rfl (some ⟨g, 0, none⟩) (D.take j) (j + 1) (by first | rfl | (rw [htl]; rfl)) (HD2.out.take j) (by first | (simp; done) | (simp; omega)) (Nat.le_refl _) ?_; rw [List.nil_append]; intro v3 w3 ho3 hg3; have HB3 : Hid (Below w2.heap.size w2 w3) := (Below.refl _ _).grown hg3.grown (Nat.le_refl _) (fun k hk => by cases hk); have HK3 := Hid.mk2 (HK2.out.step HB3.out); clear k0 k1 k2 k3 k4 k5; obtain ⟨k0, k1, k2, k3, k4, k5⟩ := HK3.out.facts)
        clear hg3
        go_upto_region 9 with (at_builtin; refine app_e rfl (.tmp 27) (.tmp 31) rfl w2.heap.size _ _ ho3 rfl (y, x) rfl _ rfl rfl (by first | (simp; done) | (simp; omega)) HB3.out.size ?_; intro v4 w4 ho4 hg4; have HB4 : Hid (Below w2.heap.size w2 w4) := grew_below HB3.out ho3 HB3.out.size hg4; have HK4 := Hid.mk2 (HK2.out.step HB4.out); clear k0 k1 k2 k3 k4 k5; obtain ⟨k0, k1, k2, k3, k4, k5⟩ := HK4.out.facts)
        clear hg4 ho3
        go_wp2_with (at_builtin; refine app_es rfl (.tmp 36) (.tmp 40) rfl w2.heap.size _ _ ho4 rfl (some ⟨g, 0, none⟩) [] 0 (by first | rfl | (simp; done)) ⟨by simp, by simp [maxLen], (by intro e; cases e), .inl rfl⟩ (by first | (simp; done) | (simp; omega)) HB4.out.size ?_; intro v5 w5 ho5 hg5; have HB5 : Hid (Below w2.heap.size w2 w5) := grew_below HB4.out ho4 HB4.out.size hg5; have HK5 := Hid.mk2 (HK2.out.step HB5.out); clear k0 k1 k2 k3 k4 k5; obtain ⟨k0, k1, k2, k3, k4, k5⟩ := HK5.out.facts; have hs5 := HS2.out; rw [HDN.out] at hs5; rw [List.append_nil] at ho5; rw [← hs5] at ho5; clear hs5; obtain ⟨lo, lc, hv, -⟩ := ho5.de; subst hv; have HO5 := Hid.mk2 ho5; clear ho4 ho5 hg5)
        try simp only [Exit.inBlock, Exit.then]
        have z0 := World.cell?_setCell_same w5 ⟨w.heap.size + 1 + 1, 0, none⟩ (.slice lo R.length lc) k3
        exact bodyPost_ret (v := .tuple #[.agg #[.slice lo R.length lc], .int .i64 0]) (by simp [results, Try.results32, go_sem, z0]) rfl ⟨lo, lc, rfl, (HO5.out.down HK2.out.below.size).set1 (fun g hg => by have := (HO5.out.lt g hg).1; have := HK2.out.facts.2.2.2.2.2; omega), HK5.out.below.setCell (by show w.heap.size ≤ w.heap.size + 1 + 1; omega) _⟩
      · have hcj2 : ¬ (j + 1) = cap := fun e => hcj e.symm
        have hcj3 : ¬ (cap : Int) = (j : Int) + 1 := by omega
        go_enter Try.func32, Try.ntmps32
        go_upto_region 1 with (fail)
        rw [← hw0]
        clear hw0
        obtain ⟨k0, k1, k2, k3, k4, k5⟩ := HK0.out.facts
        go_upto_region 5 with (first | (go_at_call 43; refine (HNM.out _).mono ?_; rintro e w1 ⟨rfl, hb1⟩; have HK1 := Hid.mk2 (HK0.out.step hb1); clear hb1 k0 k1 k2 k3 k4 k5; obtain ⟨k0, k1, k2, k3, k4, k5⟩ := HK1.out.facts) | (go_at_call 44; refine (HFI.out _ HK1.out.below).mono ?_; rintro e w2 ⟨rfl, hb2⟩; have HK2 := Hid.mk2 (HK1.out.step hb2); clear hb2 k0 k1 k2 k3 k4 k5; obtain ⟨k0, k1, k2, k3, k4, k5⟩ := HK2.out.facts))
        have HD2 := Hid.mk2 (HD.out.below HK2.out.below)
        go_upto_region 6 with (at_builtin; refine app_es rfl (.tmp 21) (.tmp 25) rfl w2.heap.size _ [] (OwnE.nil _ _) rfl (some ⟨g, 0, none⟩) (D.take j) cap (by first | rfl | (rw [htl]; rfl)) (HD2.out.take j) (by first | (simp; done) | (simp; omega)) (Nat.le_refl _) ?_; rw [List.nil_append]; intro v3 w3 ho3 hg3; have HB3 : Hid (Below w2.heap.size w2 w3) := (Below.refl _ _).grown hg3.grown (Nat.le_refl _) (fun k hk => by cases hk); have HK3 := Hid.mk2 (HK2.out.step HB3.out); clear k0 k1 k2 k3 k4 k5; obtain ⟨k0, k1, k2, k3, k4, k5⟩ := HK3.out.facts)
        clear hg3
        go_upto_region 9 with (at_builtin; refine app_e rfl (.tmp 27) (.tmp 31) rfl w2.heap.size _ _ ho3 rfl (y, x) rfl _ rfl rfl (by first | (simp; done) | (simp; omega)) HB3.out.size ?_; intro v4 w4 ho4 hg4; have HB4 : Hid (Below w2.heap.size w2 w4) := grew_below HB3.out ho3 HB3.out.size hg4; have HK4 := Hid.mk2 (HK2.out.step HB4.out); clear k0 k1 k2 k3 k4 k5; obtain ⟨k0, k1, k2, k3, k4, k5⟩ := HK4.out.facts)
        clear hg4 ho3
        go_wp2_with (at_builtin; refine app_es rfl (.tmp 36) (.tmp 40) rfl w2.heap.size _ _ ho4 rfl (some ⟨g, (j + 1) * 3, none⟩) (D.drop (j + 1)) (cap - (j + 1)) (by first | rfl | (rw [hdl]; rfl)) (by have := (HD2.out.below HB4.out).drop (j + 1) (by omega); rwa [Nat.zero_add] at this) (by first | (simp; done) | (simp; omega)) HB4.out.size ?_; intro v5 w5 ho5 hg5; have HB5 : Hid (Below w2.heap.size w2 w5) := grew_below HB4.out ho4 HB4.out.size hg5; have HK5 := Hid.mk2 (HK2.out.step HB5.out); clear k0 k1 k2 k3 k4 k5; obtain ⟨k0, k1, k2, k3, k4, k5⟩ := HK5.out.facts; rw [List.append_assoc, List.singleton_append, ← HS2.out] at ho5; obtain ⟨lo, lc, hv, -⟩ := ho5.de; subst hv; have HO5 := Hid.mk2 ho5; clear ho4 ho5 hg5)
        try simp only [Exit.inBlock, Exit.then]
        have z0 := World.cell?_setCell_same w5 ⟨w.heap.size + 1 + 1, 0, none⟩ (.slice lo R.length lc) k3
        exact bodyPost_ret (v := .tuple #[.agg #[.slice lo R.length lc], .int .i64 0]) (by simp [results, Try.results32, go_sem, z0]) rfl ⟨lo, lc, rfl, (HO5.out.down HK2.out.below.size).set1 (fun g hg => by have := (HO5.out.lt g hg).1; have := HK2.out.facts.2.2.2.2.2; omega), HK5.out.below.setCell (by show w.heap.size ≤ w.heap.size + 1 + 1; omega) _⟩
end Go.Proofs.Ytlomciinkpecpaa
