/-
  The moving goes on: the contract of moveOn.
-/
import Derived.Test.YtlomciinkpecpaaTbResize
namespace Go.Proofs.Ytlomciinkpecpaa
open Go.RowKit
set_option linter.unusedSimpArgs false
set_option linter.unusedVariables false
set_option maxRecDepth 100000

/-- the table at p has the names with numbers T, in some order; F are its blocks -/
def TB (w : World) (base p : Nat) (T : List NU) (moved C : Nat) (F : Nat → Prop) : Prop :=
  ∃ blk num val ents next, Tm w base p blk num val ents next T.length moved ∧ Iv num ents next T.length ∧ (flat num ents).Perm T ∧ (∀ b, num b ≤ 2 * C + 8) ∧ F = Ft p blk num val
theorem TB.below {w w' : World} {base p : Nat} {T : List NU} {moved C : Nat} {F : Nat → Prop} (h : TB w base p T moved C F) (hb : Below w.heap.size w w') : TB w' base p T moved C F := by
  obtain ⟨blk, num, val, ents, next, h1, h2, h3, h4, h5⟩ := h
  exact ⟨blk, num, val, ents, next, h1.below hb, h2, h3, h4, h5⟩
theorem TB.lt {w : World} {base p : Nat} {T : List NU} {moved C : Nat} {F : Nat → Prop} (h : TB w base p T moved C F) {k : Nat} (hk : F k) : base ≤ k ∧ k < w.heap.size := by
  obtain ⟨blk, num, val, ents, next, h1, h2, h3, h4, rfl⟩ := h
  exact h1.lt hk
theorem TB.mono {w : World} {base p : Nat} {T : List NU} {moved C C' : Nat} {F : Nat → Prop} (h : TB w base p T moved C F) (hC : C ≤ C') : TB w base p T moved C' F := by
  obtain ⟨blk, num, val, ents, next, h1, h2, h3, h4, h5⟩ := h
  exact ⟨blk, num, val, ents, next, h1, h2, h3, fun b => by have := h4 b; omega, h5⟩
theorem Iv.empty {num : Bool → Nat} {ents : Bool → Nat → List NU} {next many : Nat} (h : Iv num ents next many) (hp : 1 ≤ num false) (hn : next < num true) (left : Nat) :
    Iv num (up2 (standAll (num false) ents ((ents true next).drop left)) true next ((ents true next).take left)) next many ∧ (flat num (up2 (standAll (num false) ents ((ents true next).drop left)) true next ((ents true next).take left))).Perm (flat num ents) := by
  have hp1 : (flat num (up2 (standAll (num false) ents ((ents true next).drop left)) true next ((ents true next).take left))).Perm (flat num ents) := by
    obtain ⟨rest, h1, h2⟩ := flat_split num (standAll (num false) ents ((ents true next).drop left)) true hn
    rw [standAll_old] at h1
    refine (h2 _).trans ?_
    have h3 := h1.symm.trans (standAll_flat num hp ((ents true next).drop left) ents)
    have h4 : (((ents true next).take left ++ rest) ++ (ents true next).drop left).Perm (flat num ents ++ (ents true next).drop left) := by
      refine List.Perm.trans ?_ h3
      conv => rhs; rw [← List.take_append_drop left (ents true next)]
      rw [List.append_assoc, List.append_assoc]
      exact List.Perm.append_left _ List.perm_append_comm
    exact (List.perm_append_right_iff _).1 h4
  have hh := standAll_home num ((ents true next).drop left) ents (fun b i hi q hq => ⟨h.home b i hi q hq, h.ok b i hi q hq⟩) (fun x hx => h.ok true next hn x (List.mem_of_mem_drop hx))
  have hh2 : ∀ b i, i < num b → ∀ q ∈ up2 (standAll (num false) ents ((ents true next).drop left)) true next ((ents true next).take left) b i, rix q.1 (num b) = i ∧ q.1.ok := by
    intro b i hi q hq
    by_cases e : b = true ∧ i = next
    · obtain ⟨rfl, rfl⟩ := e
      rw [up2_same] at hq
      have := List.mem_of_mem_take hq
      exact ⟨h.home true _ hi q this, h.ok true _ hi q this⟩
    · rw [up2_other e] at hq
      exact hh b i hi q hq
  refine ⟨⟨fun b i hi q hq => (hh2 b i hi q hq).1, fun b i hi q hq => (hh2 b i hi q hq).2, apart_perm hp1 h.apart, h.nx, fun i hi => ?_, by rw [hp1.length_eq]; exact h.cnt⟩, hp1⟩
  rw [up2_other (by omega), standAll_old]
  exact h.done i hi
/-- the old rows are given up -/
theorem Tm.done {w : World} {base p : Nat} {blk num : Bool → Nat} {val : Bool → Nat → Value} {ents : Bool → Nat → List NU} {next many moved : Nat} (h : Tm w base p blk num val ents next many moved) :
    Tm ((w.setCell ⟨p, 2, none⟩ (.slice none 0 0)).setCell ⟨p, 3, none⟩ (.int .i64 0)) base p blk (two (num false) 0) val ents 0 many moved := by
  obtain ⟨w1, hw1⟩ : ∃ x, x = (w.setCell ⟨p, 2, none⟩ (.slice none 0 0)).setCell ⟨p, 3, none⟩ (.int .i64 0) := ⟨_, rfl⟩
  rw [← hw1]
  have hs1 : w1.heap.size = w.heap.size := by rw [hw1]; simp
  have e1 : ∀ k, k ≠ p → w1.heap[k]? = w.heap[k]? := fun k hk => by
    rw [hw1]
    exact (Below.heap_setCell _ ⟨p, 3, none⟩ _ k hk).trans (Below.heap_setCell w ⟨p, 2, none⟩ _ k hk)
  have c2 : w1.cell? ⟨p, 2, none⟩ = some (.slice none 0 0) := by
    rw [hw1, World.cell?_setCell_other _ _ _ _ (by simp)]
    exact World.cell?_setCell_same _ _ _ h.oldc
  have c3 : w1.cell? ⟨p, 3, none⟩ = some (.int .i64 0) := by
    rw [hw1]
    refine World.cell?_setCell_same _ _ _ (u := .int .i64 next) ?_
    rw [World.cell?_setCell_other _ _ _ _ (by simp)]
    exact h.nextc
  have co : ∀ o, o ≠ 2 → o ≠ 3 → w1.cell? ⟨p, o, none⟩ = w.cell? ⟨p, o, none⟩ := fun o h1 h2 => by
    rw [hw1, World.cell?_setCell_other _ _ _ _ (by first | (simp; done) | (simp; omega)), World.cell?_setCell_other _ _ _ _ (by first | (simp; done) | (simp; omega))]
  have f1 : ∀ o, w1.frozen? ⟨p, o, none⟩ = false := fun o => by rw [hw1]; simpa using h.pfree o
  clear hw1
  have nb : ∀ b, 0 < two (num false) 0 b → b = false := fun b hb => by
    cases b
    · rfl
    · exact absurd hb (by show ¬ 0 < 0; omega)
  refine ⟨(co 0 (by omega) (by omega)).trans h.self, (co 1 (by omega) (by omega)).trans h.rowsc, c2, c3, (co 4 (by omega) (by omega)).trans h.manyc, (co 5 (by omega) (by omega)).trans h.movedc, f1, ⟨h.plt.1, by have := h.plt.2; omega⟩, fun b i hi => ?_, fun b hb i => ?_, fun b i hi => ?_, fun b hb => ?_, fun hb => absurd hb (by show ¬ 0 < 0; omega), fun b i b' i' g hi hi' g1 g2 => ?_, fun b i g hi hg => ?_, h.pos⟩
  · obtain rfl := nb b (by omega)
    exact (World.cell?_of_block (e1 _ (h.pblk false (by have := h.pos; omega)).1)).trans (h.cell false i hi)
  · obtain rfl := nb b hb
    exact (World.frozen?_of_block (e1 _ (h.pblk false (by have := h.pos; omega)).1)).trans (h.free false (by have := h.pos; omega) i)
  · obtain rfl := nb b (by omega)
    exact (h.own false i hi).same (fun g hg => e1 g (h.far false i g hi hg).1)
  · obtain rfl := nb b hb
    have := h.pblk false hb
    exact ⟨this.1, this.2.1, by omega⟩
  · obtain rfl := nb b (by omega)
    obtain rfl := nb b' (by omega)
    exact h.sep false i false i' g hi hi' g1 g2
  · obtain rfl := nb b (by omega)
    have h1 := h.far false i g hi hg
    refine ⟨h1.1, fun b' hb' => ?_⟩
    obtain rfl := nb b' hb'
    exact h1.2 false hb'
theorem Ft.done {p : Nat} {blk num : Bool → Nat} {val : Bool → Nat → Value} : ∀ k, Ft p blk (two (num false) 0) val k → Ft p blk num val k := by
  rintro k (rfl | ⟨b, hb, rfl⟩ | ⟨b, i, hi, hg⟩)
  · exact .inl rfl
  · cases b
    · exact .inr (.inl ⟨false, hb, rfl⟩)
    · exact absurd hb (by show ¬ 0 < 0; omega)
  · cases b
    · exact .inr (.inr ⟨false, i, hi, hg⟩)
    · exact absurd hi (by show ¬ i < 0; omega)
theorem Iv.stop {num : Bool → Nat} {ents : Bool → Nat → List NU} {many : Nat} (h : Iv num ents (num true) many) : flat (two (num false) 0) ents = flat num ents ∧ Iv (two (num false) 0) ents 0 many := by
  have hf : flat (two (num false) 0) ents = flat num ents := by
    unfold flat rowsOf
    show (List.range 0).flatMap (ents true) ++ (List.range (num false)).flatMap (ents false) = _
    have : (List.range (num true)).flatMap (ents true) = [] := by
      rw [List.flatMap_eq_nil_iff]
      intro i hi
      exact h.done i (List.mem_range.1 hi)
    rw [this]
    simp
  refine ⟨hf, ⟨fun b i hi q hq => ?_, fun b i hi q hq => ?_, by rw [hf]; exact h.apart, Nat.zero_le _, fun i hi => by omega, by rw [hf]; exact h.cnt⟩⟩
  · cases b
    · exact h.home false i hi q hq
    · exact absurd hi (by show ¬ i < 0; omega)
  · cases b
    · exact h.ok false i hi q hq
    · exact absurd hi (by show ¬ i < 0; omega)
theorem resize_tb (w : World) (base p : Nat) (blk num : Bool → Nat) (val : Bool → Nat → Value) (ents : Bool → Nat → List NU) (next moved : Nat) (T : List NU) (C : Nat) (h : Tm w base p blk num val ents next T.length moved) (hI : Iv num ents next T.length) (hP : (flat num ents).Perm T) (hN : ∀ b, num b ≤ 2 * C + 8) (hC : T.length ≤ C) (hC2 : C ≤ 200000) (h0 : num true = 0) :
    Calls Try.prog 45 #[.pointer (some ⟨p, 0, none⟩)] w fun e w' => e = .returned (.tuple #[]) ∧ ∃ F', TB w' base p T moved C F' ∧ Kept (Ft p blk num val) w w' ∧ ∀ k, F' k → Ft p blk num val k ∨ w.heap.size ≤ k := by
  have hn := hN false
  have hpos := h.pos
  have key : ∀ m w', 1 ≤ m → (m ≤ num false ∨ m < 2 * T.length) → Tm w' base p (two w.heap.size (blk false)) (two m (num false)) (two (fun _ => .slice none 0 0) (val false)) (two (fun _ => []) (ents false)) next T.length moved → Kept (Ft p blk num val) w w' → ∃ F', TB w' base p T moved C F' ∧ Kept (Ft p blk num val) w w' ∧ ∀ k, F' k → Ft p blk num val k ∨ w.heap.size ≤ k := fun m w' h1 h2 h3 h4 =>
    ⟨_, ⟨_, _, _, _, _, h3, hI.fresh h0 m, by rw [flat_fresh num ents h0]; exact hP, fun b => by cases b; (show m ≤ _; omega); (show num false ≤ _; omega), rfl⟩, h4, Ft.fresh (w := w) hpos⟩
  by_cases hA : num false < T.length
  · refine (resize_up w base p blk num val ents next T.length moved h (by omega) (by omega) hA).mono ?_
    rintro e w' ⟨rfl, m, h1, h2, h3, h4⟩
    exact ⟨rfl, key m w' h1 h2 h3 h4⟩
  · by_cases hB : 8 < num false ∧ T.length * 8 < num false
    · refine (resize_down w base p blk num val ents next T.length moved h (by omega) (by omega) hA hB.1 hB.2).mono ?_
      rintro e w' ⟨rfl, m, h1, h2, h3, h4⟩
      exact ⟨rfl, key m w' h1 h2 h3 h4⟩
    · refine (resize_not w base p blk num val ents next T.length moved h (by omega) (by omega) hA hB).mono ?_
      rintro e w' ⟨rfl, rfl⟩
      exact ⟨rfl, _, ⟨_, _, _, _, _, h, hI, hP, hN, rfl⟩, Kept.refl _ _, fun k hk => .inl hk⟩
set_option maxHeartbeats 2000000 in
theorem moveOn_any (w : World) (base p : Nat) (T : List NU) (moved0 C : Nat) (F : Nat → Prop) (h : TB w base p T moved0 C F) (hC : T.length ≤ C) (hC2 : C ≤ 200000) :
    Calls Try.prog 34 #[.pointer (some ⟨p, 0, none⟩)] w fun e w' => e = .returned (.tuple #[]) ∧ ∃ moved F', moved ≤ 4 ∧ TB w' base p T moved C F' ∧ Kept F w w' ∧ ∀ k, F' k → F k ∨ w.heap.size ≤ k := by
  obtain ⟨blk0, num0, val0, ents0, next0, hT0, hI0, hP0, hN0, rfl⟩ := h
  have c5 := hT0.movedc
  have f5 := hT0.pfree 5
  have HT0 := Hid.mk2 hT0
  have HI0 := Hid.mk2 hI0
  have HP0 := Hid.mk2 hP0
  have HN0 := Hid.mk2 hN0
  clear hT0 hI0 hP0 hN0
  go_enter Try.func34, Try.ntmps34
  go_upto_region 1 with (fail)
  obtain ⟨w0, hw0⟩ : ∃ x, x = w.setCell ⟨p, 5, none⟩ (.int .i64 0) := ⟨_, rfl⟩
  rw [← hw0]
  have HT1 : Hid (Tm w0 base p blk0 num0 val0 ents0 next0 T.length 0) := by rw [hw0]; exact HT0.out.setMoved 0
  have HK1 : Hid (Kept (Ft p blk0 num0 val0) w w0) := by rw [hw0]; exact Kept.set w (.inl rfl) 5 _
  clear hw0 c5 f5
  have c2 := HT1.out.oldc
  unfold osl at c2
  have HRZ := Hid.mk2 (fun h0 => resize_tb w0 base p blk0 num0 val0 ents0 next0 0 T C HT1.out HI0.out HP0.out HN0.out hC hC2 h0)
  have hcs : num0 true = 0 ∨ ¬ num0 true = 0 := Classical.em _
  rcases hcs with h0 | h0
  · rw [if_pos h0] at c2
    have HRY := Hid.mk2 (HRZ.out h0)
    clear h0
    go_upto_region 3 with (go_at_call 45; refine HRY.out.mono ?_; rintro e wL ⟨rfl, FL, hTB, hK, hF⟩; have HTB := Hid.mk2 hTB; have HKL : Hid (Kept (Ft p blk0 num0 val0) w wL) := HK1.out.trans hK (fun k hk => .inl hk); have HFL : Hid (∀ k, FL k → Ft p blk0 num0 val0 k ∨ w.heap.size ≤ k) := fun k hk => (hF k hk).imp id (fun g => Nat.le_trans HK1.out.size g); clear hTB hK hF)
    clear HRY c2
    go_wp2
    go_loopw [13] (fun s13 wr => ∃ (j moved : Nat) (F' : Nat → Prop), j ≤ 8 ∧ s13 = .int .i64 j ∧ moved ≤ 4 ∧ Hid (TB wr base p T moved C F') ∧ Hid (Kept (Ft p blk0 num0 val0) w wr) ∧ Hid (∀ k, F' k → Ft p blk0 num0 val0 k ∨ w.heap.size ≤ k)) (fun s13 _ => 8 - (intOf s13).toNat)
    case atStart => exact ⟨0, 0, FL, by omega, rfl, by omega, HTB, HKL, HFL⟩
    case round =>
      obtain ⟨j, moved, F', hj, rfl, hmv, HTBr, HKr, HFr⟩ := hrel
      by_cases hlt : j < 8
      · have hlt2 : (j : Int) < 8 := by omega
        have htb := HTBr.out
        obtain ⟨blk, num, val, ents, next, hT, hI, hP, hN, hFe⟩ := htb
        have d2 := hT.oldc
        unfold osl at d2
        have d3 := hT.nextc
        have f2 := hT.pfree 2
        have f3 := hT.pfree 3
        have HT := Hid.mk2 hT
        have HI := Hid.mk2 hI
        have HP := Hid.mk2 hP
        have HN := Hid.mk2 hN
        have HFe := Hid.mk2 hFe
        have hnx := hI.nx
        clear hT hI hP hN hFe
        by_cases hne : next = num true
        · have hfin : ∀ W, W = (wr.setCell ⟨p, 2, none⟩ (.slice none 0 0)).setCell ⟨p, 3, none⟩ (.int .i64 0) → ∀ n, ∃ moved F', moved ≤ 4 ∧ TB (W.drewN n) base p T moved C F' ∧ Kept (Ft p blk0 num0 val0) w (W.drewN n) ∧ ∀ k, F' k → Ft p blk0 num0 val0 k ∨ w.heap.size ≤ k := by
            intro W hW n
            have hI2 := HI.out
            rw [hne] at hI2
            obtain ⟨e1, e2⟩ := hI2.stop
            refine ⟨moved, Ft p blk (two (num false) 0) val, hmv, ⟨blk, two (num false) 0, val, ents, 0, ?_, e2, by rw [e1]; exact HP.out, fun b => ?_, rfl⟩, ?_, fun k hk => HFr.out k (by rw [HFe.out]; exact Ft.done k hk)⟩
            · rw [hW]; exact HT.out.done.below (below_drewR (Below.refl _ _) n)
            · cases b
              · exact HN.out false
              · exact Nat.zero_le _
            · have hp : Ft p blk num val p := .inl rfl
              have h1 := (HKr.out.trans (Kept.set (F := Ft p blk num val) wr hp 2 (.slice none 0 0)) (fun k hk => HFr.out k (by rw [HFe.out]; exact hk))).trans (Kept.set (F := Ft p blk num val) _ hp 3 (.int .i64 0)) (fun k hk => HFr.out k (by rw [HFe.out]; exact hk))
              rw [hW]
              exact ⟨h1.os, h1.tape, h1.output, h1.size, h1.block⟩
          have HFIN := Hid.mk2 hfin
          have g1 : ((next : Int) == (num true : Int)) = true := by simp [hne]
          have g1n : (next == num true) = true := by simp [hne]
          by_cases h00 : num true = 0
          · rw [if_pos h00] at d2
            have hn0 : next = 0 := by omega
            subst hn0
            clear hfin hne g1 g1n hnx h00
            go_upto_region 5 with (fail)
            go_quiet (fail)
            go_wp2
            try simp only [Exit.inBlock, Exit.then]
            refine bodyPost_ret (results_none rfl _ _ _) rfl ⟨rfl, ?_⟩
            exact HFIN.out _ rfl _
          · rw [if_neg h00] at d2
            clear hfin hne hnx h00
            go_upto_region 5 with (fail)
            go_quiet (fail)
            go_wp2
            try simp only [Exit.inBlock, Exit.then]
            refine bodyPost_ret (results_none rfl _ _ _) rfl ⟨rfl, ?_⟩
            exact HFIN.out _ rfl _
        · have hnl : next < num true := by omega
          rw [if_neg (by omega)] at d2
          have g1 : ((next : Int) == (num true : Int)) = false := by simp; omega
          have g1n : (next == num true) = false := by simp [hne]
          have hpr := HT.out.plt.2
          clear hne hnx f2
          go_upto_region 5 with (fail)
          go_cut [24] from 14 to 52 (fun s24 wx => s24 = .bool false ∧ Hid (Below wr.heap.size wr wx))
          case first =>
            go_quiet (fail)
            go_wp2
            go_meet
            case rel => exact ⟨rfl, below_drewR (Below.refl _ _) _⟩
          case rest =>
          obtain ⟨rfl, HB1⟩ := hcut
          obtain ⟨w1, hw1⟩ : ∃ x, x = wc := ⟨_, rfl⟩
          rw [← hw1] at HB1 ⊢
          clear hw1 d2 d3 f3 hpr
          have HT1' := Hid.mk2 (HT.out.below HB1.out)
          have HEM := Hid.mk2 (empty_any w1 base p blk num val ents next T.length moved HT1'.out (fun b => by have := HN.out b; omega) hnl hmv (HI.out.ok true next hnl) (by rw [HP.out.length_eq]; omega))
          go_upto_region 8 with (go_at_call 46; refine HEM.out.mono ?_; rintro e w2 ⟨rfl, val2, left, hleft, hT2, hK2, hF2⟩; have HT2 := Hid.mk2 hT2; have HK2 := Hid.mk2 hK2; have HF2 := Hid.mk2 hF2; have HLE := Hid.mk2 hleft; clear hT2 hK2 hF2 hleft)
          obtain ⟨Z, hZ⟩ : ∃ Z, Z = (ents true next).length := ⟨_, rfl⟩
          rw [← hZ] at HLE HT2
          have hlz : left ≤ Z := by have := HLE.out; omega
          have hzz : Z ≤ 400000 := by have h1 := row_le num ents true hnl; have h2 := HP.out.length_eq; omega
          have HMV2 : Hid (moved + (Z - left) ≤ 4) := by have := HLE.out; show _ ≤ _; omega
          have HIE := Hid.mk2 (HI.out.empty HT.out.pos hnl left)
          have hlen : ((ents true next).take left).length = left := by simp; omega
          obtain ⟨E2, hE2⟩ : ∃ E2, E2 = up2 (standAll (num false) ents ((ents true next).drop left)) true next ((ents true next).take left) := ⟨_, rfl⟩
          have HE3 : Hid (E2 true next = (ents true next).take left) := by show _ = _; rw [hE2, up2_same]
          rw [← hE2] at HIE HT2
          obtain ⟨aa, ac, hva, hla, -, -⟩ := (HT2.out.own true next hnl).at
          rw [HE3.out, hlen] at hva hla
          have e2 := HT2.out.oldc
          unfold osl at e2
          rw [if_neg (by omega)] at e2
          have e3 := HT2.out.nextc
          have ff3 := HT2.out.pfree 3
          have e4 := HT2.out.cell true next hnl
          rw [hva] at e4
          have hnl2 : (next : Int) < (num true : Int) := by omega
          have hpl2 := HT2.out.plt.2
          clear hva hla hE2 hlen hZ HEM
          have HKW : Hid (Kept (Ft p blk0 num0 val0) w w2) := (HKr.out.trans (Kept.below (F := Ft p blk0 num0 val0) HB1.out) (fun k hk => .inl hk)).trans HK2.out (fun k hk => HFr.out k (by rw [HFe.out]; exact hk))
          have HFW : Hid (∀ k, Ft p blk num val2 k → Ft p blk0 num0 val0 k ∨ w.heap.size ≤ k) := fun k hk => (HF2.out k hk).elim (fun g => HFr.out k (by rw [HFe.out]; exact g)) (fun g => .inr (Nat.le_trans HKr.out.size (Nat.le_trans HB1.out.size g)))
          go_cut [44] from 14 to 52 (fun s44 wx => s44 = .bool (decide (0 < left)) ∧ Hid (Below w2.heap.size w2 wx))
          case first =>
            go_quiet (fail)
            go_wp2
            go_meet
            case rel => exact ⟨by first | rfl | (congr 1; simp; done) | (simp; done), below_drewR (Below.refl _ _) _⟩
          case rest =>
          obtain ⟨rfl, HB3⟩ := hcut
          obtain ⟨w3, hw3⟩ : ∃ x, x = wc := ⟨_, rfl⟩
          rw [← hw3] at HB3 ⊢
          have x3 := (bcl HB3.out _ 3 hpl2).trans e3
          have y3 := (bfr HB3.out _ 3 hpl2).trans ff3
          clear hw3 e2 e3 e4 ff3
          have HT3 := Hid.mk2 (HT2.out.below HB3.out)
          have HKW3 : Hid (Kept (Ft p blk0 num0 val0) w w3) := HKW.out.trans (Kept.below (F := Ft p blk0 num0 val0) HB3.out) (fun k hk => .inl hk)
          by_cases hl0 : 0 < left
          · have hl1 : decide (0 < left) = true := by simp [hl0]
            rw [hl1]
            go_wp2
            try simp only [Exit.inBlock, Exit.then]
            refine bodyPost_ret (results_none rfl _ _ _) rfl ⟨rfl, moved + (Z - left), Ft p blk num val2, HMV2.out, ⟨blk, num, val2, E2, next, HT3.out, HIE.out.1, HIE.out.2.trans HP.out, HN.out, rfl⟩, HKW3.out, HFW.out⟩
          · have hl1 : decide (0 < left) = false := by simp; omega
            rw [hl1]
            obtain rfl : left = 0 := by omega
            have hE0 : Hid (E2 true next = []) := by show _ = _; rw [HE3.out]; simp
            have hnb : next ≤ 500000 := by have := HN.out true; omega
            clear hl0 hl1
            go_wp2
            go_roundw
            case rel =>
              have hI3 : Iv num E2 (next + 1) T.length := ⟨HIE.out.1.home, HIE.out.1.ok, HIE.out.1.apart, by omega, fun i hi => by
                by_cases e : i = next
                · subst e; exact hE0.out
                · exact HIE.out.1.done i (by omega), HIE.out.1.cnt⟩
              have en : ((next : Int) + 1) = ((next + 1 : Nat) : Int) := by omega
              have hT4 := HT3.out.setNext (next + 1)
              rw [← en] at hT4
              have hK4 : Kept (Ft p blk0 num0 val0) w (w3.setCell ⟨p, 3, none⟩ (.int .i64 ((next : Int) + 1))) := HKW3.out.trans (Kept.set (F := Ft p blk num val2) w3 (.inl rfl) 3 _) HFW.out
              have hfinal : ∃ (j' moved' : Nat) (F' : Nat → Prop), j' ≤ 8 ∧ Value.int .i64 ((j : Int) + 1) = .int .i64 j' ∧ moved' ≤ 4 ∧ Hid (TB (w3.setCell ⟨p, 3, none⟩ (.int .i64 ((next : Int) + 1))) base p T moved' C F') ∧ Hid (Kept (Ft p blk0 num0 val0) w (w3.setCell ⟨p, 3, none⟩ (.int .i64 ((next : Int) + 1)))) ∧ Hid (∀ k, F' k → Ft p blk0 num0 val0 k ∨ w.heap.size ≤ k) :=
                ⟨j + 1, moved + (Z - 0), Ft p blk num val2, by omega, by simp, HMV2.out, ⟨blk, num, val2, E2, next + 1, hT4, hI3, HIE.out.2.trans HP.out, HN.out, rfl⟩, hK4, HFW.out⟩
              first
                | exact hfinal
                | (repeat apply Exists.intro
                   exact ⟨hfinal, rfl⟩)
            case measure => simp [intOf]; omega
      · have hlt2 : ¬ (j : Int) < 8 := by omega
        go_wp2
        refine bodyPost_end (results_none rfl _ _ _) rfl ?_
        first
          | exact ⟨rfl, moved, F', hmv, HTBr.out, HKr.out, HFr.out⟩
          | exact ⟨rfl, moved, hmv, F', HTBr.out, HKr.out, HFr.out⟩
  · rw [if_neg h0] at c2
    have h0i : ¬ (num0 true : Int) = 0 := by omega
    have h0b : ((num0 true : Int) == 0) = false := by simp; omega
    have h0c : (num0 true == 0) = false := by simp [h0]
    go_upto_region 3 with (fail)
    obtain ⟨wL, hwL⟩ : ∃ x, x = w0 := ⟨_, rfl⟩
    have HTB : Hid (TB w0 base p T 0 C (Ft p blk0 num0 val0)) := ⟨blk0, num0, val0, ents0, next0, HT1.out, HI0.out, HP0.out, HN0.out, rfl⟩
    have HKL := HK1
    rw [← hwL] at HTB HKL ⊢
    obtain ⟨FL, hFL0⟩ : ∃ FL, FL = Ft p blk0 num0 val0 := ⟨_, rfl⟩
    have HFL : Hid (∀ k, FL k → Ft p blk0 num0 val0 k ∨ w.heap.size ≤ k) := fun k hk => .inl (by rw [← hFL0]; exact hk)
    rw [← hFL0] at HTB
    clear hwL hFL0 c2 h0 h0i h0b h0c
    go_wp2
    go_loopw [13] (fun s13 wr => ∃ (j moved : Nat) (F' : Nat → Prop), j ≤ 8 ∧ s13 = .int .i64 j ∧ moved ≤ 4 ∧ Hid (TB wr base p T moved C F') ∧ Hid (Kept (Ft p blk0 num0 val0) w wr) ∧ Hid (∀ k, F' k → Ft p blk0 num0 val0 k ∨ w.heap.size ≤ k)) (fun s13 _ => 8 - (intOf s13).toNat)
    case atStart => exact ⟨0, 0, FL, by omega, rfl, by omega, HTB, HKL, HFL⟩
    case round =>
      obtain ⟨j, moved, F', hj, rfl, hmv, HTBr, HKr, HFr⟩ := hrel
      by_cases hlt : j < 8
      · have hlt2 : (j : Int) < 8 := by omega
        have htb := HTBr.out
        obtain ⟨blk, num, val, ents, next, hT, hI, hP, hN, hFe⟩ := htb
        have d2 := hT.oldc
        unfold osl at d2
        have d3 := hT.nextc
        have f2 := hT.pfree 2
        have f3 := hT.pfree 3
        have HT := Hid.mk2 hT
        have HI := Hid.mk2 hI
        have HP := Hid.mk2 hP
        have HN := Hid.mk2 hN
        have HFe := Hid.mk2 hFe
        have hnx := hI.nx
        clear hT hI hP hN hFe
        by_cases hne : next = num true
        · have hfin : ∀ W, W = (wr.setCell ⟨p, 2, none⟩ (.slice none 0 0)).setCell ⟨p, 3, none⟩ (.int .i64 0) → ∀ n, ∃ moved F', moved ≤ 4 ∧ TB (W.drewN n) base p T moved C F' ∧ Kept (Ft p blk0 num0 val0) w (W.drewN n) ∧ ∀ k, F' k → Ft p blk0 num0 val0 k ∨ w.heap.size ≤ k := by
            intro W hW n
            have hI2 := HI.out
            rw [hne] at hI2
            obtain ⟨e1, e2⟩ := hI2.stop
            refine ⟨moved, Ft p blk (two (num false) 0) val, hmv, ⟨blk, two (num false) 0, val, ents, 0, ?_, e2, by rw [e1]; exact HP.out, fun b => ?_, rfl⟩, ?_, fun k hk => HFr.out k (by rw [HFe.out]; exact Ft.done k hk)⟩
            · rw [hW]; exact HT.out.done.below (below_drewR (Below.refl _ _) n)
            · cases b
              · exact HN.out false
              · exact Nat.zero_le _
            · have hp : Ft p blk num val p := .inl rfl
              have h1 := (HKr.out.trans (Kept.set (F := Ft p blk num val) wr hp 2 (.slice none 0 0)) (fun k hk => HFr.out k (by rw [HFe.out]; exact hk))).trans (Kept.set (F := Ft p blk num val) _ hp 3 (.int .i64 0)) (fun k hk => HFr.out k (by rw [HFe.out]; exact hk))
              rw [hW]
              exact ⟨h1.os, h1.tape, h1.output, h1.size, h1.block⟩
          have HFIN := Hid.mk2 hfin
          have g1 : ((next : Int) == (num true : Int)) = true := by simp [hne]
          have g1n : (next == num true) = true := by simp [hne]
          by_cases h00 : num true = 0
          · rw [if_pos h00] at d2
            have hn0 : next = 0 := by omega
            subst hn0
            clear hfin hne g1 g1n hnx h00
            go_upto_region 5 with (fail)
            go_quiet (fail)
            go_wp2
            try simp only [Exit.inBlock, Exit.then]
            refine bodyPost_ret (results_none rfl _ _ _) rfl ⟨rfl, ?_⟩
            exact HFIN.out _ rfl _
          · rw [if_neg h00] at d2
            clear hfin hne hnx h00
            go_upto_region 5 with (fail)
            go_quiet (fail)
            go_wp2
            try simp only [Exit.inBlock, Exit.then]
            refine bodyPost_ret (results_none rfl _ _ _) rfl ⟨rfl, ?_⟩
            exact HFIN.out _ rfl _
        · have hnl : next < num true := by omega
          rw [if_neg (by omega)] at d2
          have g1 : ((next : Int) == (num true : Int)) = false := by simp; omega
          have g1n : (next == num true) = false := by simp [hne]
          have hpr := HT.out.plt.2
          clear hne hnx f2
          go_upto_region 5 with (fail)
          go_cut [24] from 14 to 52 (fun s24 wx => s24 = .bool false ∧ Hid (Below wr.heap.size wr wx))
          case first =>
            go_quiet (fail)
            go_wp2
            go_meet
            case rel => exact ⟨rfl, below_drewR (Below.refl _ _) _⟩
          case rest =>
          obtain ⟨rfl, HB1⟩ := hcut
          obtain ⟨w1, hw1⟩ : ∃ x, x = wc := ⟨_, rfl⟩
          rw [← hw1] at HB1 ⊢
          clear hw1 d2 d3 f3 hpr
          have HT1' := Hid.mk2 (HT.out.below HB1.out)
          have HEM := Hid.mk2 (empty_any w1 base p blk num val ents next T.length moved HT1'.out (fun b => by have := HN.out b; omega) hnl hmv (HI.out.ok true next hnl) (by rw [HP.out.length_eq]; omega))
          go_upto_region 8 with (go_at_call 46; refine HEM.out.mono ?_; rintro e w2 ⟨rfl, val2, left, hleft, hT2, hK2, hF2⟩; have HT2 := Hid.mk2 hT2; have HK2 := Hid.mk2 hK2; have HF2 := Hid.mk2 hF2; have HLE := Hid.mk2 hleft; clear hT2 hK2 hF2 hleft)
          obtain ⟨Z, hZ⟩ : ∃ Z, Z = (ents true next).length := ⟨_, rfl⟩
          rw [← hZ] at HLE HT2
          have hlz : left ≤ Z := by have := HLE.out; omega
          have hzz : Z ≤ 400000 := by have h1 := row_le num ents true hnl; have h2 := HP.out.length_eq; omega
          have HMV2 : Hid (moved + (Z - left) ≤ 4) := by have := HLE.out; show _ ≤ _; omega
          have HIE := Hid.mk2 (HI.out.empty HT.out.pos hnl left)
          have hlen : ((ents true next).take left).length = left := by simp; omega
          obtain ⟨E2, hE2⟩ : ∃ E2, E2 = up2 (standAll (num false) ents ((ents true next).drop left)) true next ((ents true next).take left) := ⟨_, rfl⟩
          have HE3 : Hid (E2 true next = (ents true next).take left) := by show _ = _; rw [hE2, up2_same]
          rw [← hE2] at HIE HT2
          obtain ⟨aa, ac, hva, hla, -, -⟩ := (HT2.out.own true next hnl).at
          rw [HE3.out, hlen] at hva hla
          have e2 := HT2.out.oldc
          unfold osl at e2
          rw [if_neg (by omega)] at e2
          have e3 := HT2.out.nextc
          have ff3 := HT2.out.pfree 3
          have e4 := HT2.out.cell true next hnl
          rw [hva] at e4
          have hnl2 : (next : Int) < (num true : Int) := by omega
          have hpl2 := HT2.out.plt.2
          clear hva hla hE2 hlen hZ HEM
          have HKW : Hid (Kept (Ft p blk0 num0 val0) w w2) := (HKr.out.trans (Kept.below (F := Ft p blk0 num0 val0) HB1.out) (fun k hk => .inl hk)).trans HK2.out (fun k hk => HFr.out k (by rw [HFe.out]; exact hk))
          have HFW : Hid (∀ k, Ft p blk num val2 k → Ft p blk0 num0 val0 k ∨ w.heap.size ≤ k) := fun k hk => (HF2.out k hk).elim (fun g => HFr.out k (by rw [HFe.out]; exact g)) (fun g => .inr (Nat.le_trans HKr.out.size (Nat.le_trans HB1.out.size g)))
          go_cut [44] from 14 to 52 (fun s44 wx => s44 = .bool (decide (0 < left)) ∧ Hid (Below w2.heap.size w2 wx))
          case first =>
            go_quiet (fail)
            go_wp2
            go_meet
            case rel => exact ⟨by first | rfl | (congr 1; simp; done) | (simp; done), below_drewR (Below.refl _ _) _⟩
          case rest =>
          obtain ⟨rfl, HB3⟩ := hcut
          obtain ⟨w3, hw3⟩ : ∃ x, x = wc := ⟨_, rfl⟩
          rw [← hw3] at HB3 ⊢
          have x3 := (bcl HB3.out _ 3 hpl2).trans e3
          have y3 := (bfr HB3.out _ 3 hpl2).trans ff3
          clear hw3 e2 e3 e4 ff3
          have HT3 := Hid.mk2 (HT2.out.below HB3.out)
          have HKW3 : Hid (Kept (Ft p blk0 num0 val0) w w3) := HKW.out.trans (Kept.below (F := Ft p blk0 num0 val0) HB3.out) (fun k hk => .inl hk)
          by_cases hl0 : 0 < left
          · have hl1 : decide (0 < left) = true := by simp [hl0]
            rw [hl1]
            go_wp2
            try simp only [Exit.inBlock, Exit.then]
            refine bodyPost_ret (results_none rfl _ _ _) rfl ⟨rfl, moved + (Z - left), Ft p blk num val2, HMV2.out, ⟨blk, num, val2, E2, next, HT3.out, HIE.out.1, HIE.out.2.trans HP.out, HN.out, rfl⟩, HKW3.out, HFW.out⟩
          · have hl1 : decide (0 < left) = false := by simp; omega
            rw [hl1]
            obtain rfl : left = 0 := by omega
            have hE0 : Hid (E2 true next = []) := by show _ = _; rw [HE3.out]; simp
            have hnb : next ≤ 500000 := by have := HN.out true; omega
            clear hl0 hl1
            go_wp2
            go_roundw
            case rel =>
              have hI3 : Iv num E2 (next + 1) T.length := ⟨HIE.out.1.home, HIE.out.1.ok, HIE.out.1.apart, by omega, fun i hi => by
                by_cases e : i = next
                · subst e; exact hE0.out
                · exact HIE.out.1.done i (by omega), HIE.out.1.cnt⟩
              have en : ((next : Int) + 1) = ((next + 1 : Nat) : Int) := by omega
              have hT4 := HT3.out.setNext (next + 1)
              rw [← en] at hT4
              have hK4 : Kept (Ft p blk0 num0 val0) w (w3.setCell ⟨p, 3, none⟩ (.int .i64 ((next : Int) + 1))) := HKW3.out.trans (Kept.set (F := Ft p blk num val2) w3 (.inl rfl) 3 _) HFW.out
              have hfinal : ∃ (j' moved' : Nat) (F' : Nat → Prop), j' ≤ 8 ∧ Value.int .i64 ((j : Int) + 1) = .int .i64 j' ∧ moved' ≤ 4 ∧ Hid (TB (w3.setCell ⟨p, 3, none⟩ (.int .i64 ((next : Int) + 1))) base p T moved' C F') ∧ Hid (Kept (Ft p blk0 num0 val0) w (w3.setCell ⟨p, 3, none⟩ (.int .i64 ((next : Int) + 1)))) ∧ Hid (∀ k, F' k → Ft p blk0 num0 val0 k ∨ w.heap.size ≤ k) :=
                ⟨j + 1, moved + (Z - 0), Ft p blk num val2, by omega, by simp, HMV2.out, ⟨blk, num, val2, E2, next + 1, hT4, hI3, HIE.out.2.trans HP.out, HN.out, rfl⟩, hK4, HFW.out⟩
              first
                | exact hfinal
                | (repeat apply Exists.intro
                   exact ⟨hfinal, rfl⟩)
            case measure => simp [intOf]; omega
      · have hlt2 : ¬ (j : Int) < 8 := by omega
        go_wp2
        refine bodyPost_end (results_none rfl _ _ _) rfl ?_
        first
          | exact ⟨rfl, moved, F', hmv, HTBr.out, HKr.out, HFr.out⟩
          | exact ⟨rfl, moved, hmv, F', HTBr.out, HKr.out, HFr.out⟩
end Go.Proofs.Ytlomciinkpecpaa
