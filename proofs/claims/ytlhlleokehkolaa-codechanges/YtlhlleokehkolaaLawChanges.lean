/-
  CodeChanges is true for every list of changes and every bytes: changes are written, and read, as the document says; no condition.
-/
import Derived.Test.YtlhlleokehkolaaROfChs
import Derived.Test.YtlhlleokehkolaaHeavy
import Derived.Test.YtlhlleokehkolaaRows3
namespace Go.Proofs.Ytlhlleokehkolaa
open Go.ChangeShapes Go.WideShapes Go.ChangeAt Go.RowKit
open Go.ChangeMaps (open_string shut_string)
set_option linter.unusedSimpArgs false
set_option linter.unusedVariables false
set_option maxRecDepth 100000

structure Hv (e : Ending) (n : Nat) : Prop where
  ex : ∃ h : Bool, e = .returned (.bool h) ∧ (h = true ∨ n ≤ 5000)
set_option maxHeartbeats 2000000 in
theorem heavy2_row (w : World) (b off : Nat) (cs : List Chg) (cap : Nat) (hm : cs.length ≤ maxLen) (hc : ∀ i (hi : i < cs.length) j (hj : j < 11), w.cell? ⟨b, off + i * 11 + j, none⟩ = some (cs[i].cells[j]'(by rw [cells_len]; exact hj))) :
    Calls Try.prog 26 #[.slice (some ⟨b, off, none⟩) cs.length cap] w fun e w' => Hv e cs.length ∧ ∃ n, w' = w.drewN n := by
  unfold maxLen at hm
  have HC : Hid (∀ i (hi : i < cs.length) j (hj : j < 11), w.cell? ⟨b, off + i * 11 + j, none⟩ = some (cs[i].cells[j]'(by rw [cells_len]; exact hj))) := hc
  clear hc
  go_enter Try.func26, Try.ntmps26
  go_wp2
  go_loopw [3, 4] (fun n i wr => ∃ k m q : Nat, k ≤ cs.length ∧ k ≤ 10000 ∧ m ≤ 300000 * k ∧ i = .int .i64 k ∧ n = .int .i64 m ∧ wr = w.drewN q) (fun _ i _ => cs.length - (intOf i).toNat)
  case atStart => exact ⟨0, 0, 0, by omega, by omega, by omega, rfl, rfl, rfl⟩
  case round =>
    obtain ⟨k, m, q, hk, hk1, hmb, rfl, rfl, rfl⟩ := hrel
    by_cases hlt : k < cs.length
    · have hlt2 : (k : Int) < (cs.length : Int) := by omega
      by_cases h1 : k < 10000
      · have h12 : (k : Int) < 10000 := by omega
        obtain ⟨c, hce⟩ : ∃ c, c = cs[k] := ⟨_, rfl⟩
        have hL := lies_of HC.out k hlt
        rw [← hce] at hL
        clear hce
        obtain ⟨q0, q1, q2, q3, q4, q5, q6, q7, q8, q9, q10⟩ := hL
        clear q0 q1 q4 q5 q6 q8 q9 q10
        obtain ⟨m', em, hm'⟩ := min3 m c.item.key.size c.item.value.size c.key.size
        have EM : Hid (((m : Int) + (if (100000 : Int) < (c.item.key.size : Int) then 100000 else (c.item.key.size : Int)) + (if (100000 : Int) < (c.item.value.size : Int) then 100000 else (c.item.value.size : Int)) + (if (100000 : Int) < (c.key.size : Int) then 100000 else (c.key.size : Int))) = (m' : Int)) := em
        clear em
        go_wp2
        go_quiet (fail)
        go_wp2
        go_roundw
        case rel => exact ⟨k + 1, m', _, by omega, by omega, by omega, by go_num, by rw [EM.out], rfl⟩
        case measure => simp [intOf]; omega
      · have h12 : decide ((k : Int) < 10000) = false := by simp; omega
        by_cases g1 : (5000 : Int) < (cs.length : Int)
        · go_wp2
          all_goals
            go_ret
            exact ⟨⟨_, rfl, by first | (right; omega) | (left; rfl)⟩, q, rfl⟩
        · have g2 : decide ((5000 : Int) < (cs.length : Int)) = false := by simp; omega
          go_wp2
          all_goals
            go_ret
            exact ⟨⟨_, rfl, by first | (right; omega) | (left; rfl)⟩, q, rfl⟩
    · have hlt2 : decide ((k : Int) < (cs.length : Int)) = false := by simp; omega
      by_cases g1 : (5000 : Int) < (cs.length : Int)
      · go_wp2
        all_goals
          go_ret
          exact ⟨⟨_, rfl, by first | (right; omega) | (left; rfl)⟩, q, rfl⟩
      · have g2 : decide ((5000 : Int) < (cs.length : Int)) = false := by simp; omega
        go_wp2
        all_goals
          go_ret
          exact ⟨⟨_, rfl, by first | (right; omega) | (left; rfl)⟩, q, rfl⟩
theorem heavy2_none (w : World) (ao : Option Addr) (cap : Nat) :
    Calls Try.prog 26 #[.slice ao 0 cap] w fun e w' => Hv e 0 ∧ ∃ n, w' = w.drewN n := by
  go_enter Try.func26, Try.ntmps26
  go_wp2
  refine wp_loop_rounds 1 ?_
  rw [rounds_succ]
  go_wp2
  go_ret
  exact ⟨⟨_, rfl, by right; omega⟩, 0, rfl⟩
theorem heavy2_any (w : World) (B : Nat) (ao : Option Addr) (cs : List Chg) (cap : Nat) (hm : cs.length ≤ maxLen) (h : ChAt w B ao cs) :
    Calls Try.prog 26 #[.slice ao cs.length cap] w fun e w' => Hv e cs.length ∧ ∃ n, w' = w.drewN n := by
  rcases h with rfl | ⟨b, off, rfl, hb, hc⟩
  · exact heavy2_none w ao cap
  · exact heavy2_row w b off cs cap hm hc

theorem flat_len11 (cs : List Chg) : (cs.flatMap Chg.cells).length = 11 * cs.length := by
  induction cs with
  | nil => rfl
  | cons c r ih => rw [List.flatMap_cons, List.length_append, cells_len, ih, List.length_cons]; omega
theorem flat_one (cs : List Chg) : ∀ u ∈ cs.flatMap Chg.cells, u.oneCell' = true := by
  intro u hu
  obtain ⟨c, _, h2⟩ := List.mem_flatMap.1 hu
  exact cells_one c u h2
theorem app_chs {w : World} {ops : Array Oper} {rest : List Oper} {o : Oper} {a : Act} {Q : Exit → Act → World → Prop} (hgd : o.guard = none) (s x : Operand) (ho : o.op = .call { callee := .builtin .append, args := #[s, x], argTypes := #[42, 42] })
    (hs : a.eval s = .slice none 0 0) (ao : Option Addr) (c : Nat) (cs : List Chg) (hx : a.eval x = .slice ao cs.length c) (B : Nat) (hnil : ao = none → c = 0) (hsrc : ChAt w B ao cs) (hlen : cs.length ≤ 5000)
    (h : ∀ v' w', OwnC w' w.heap.size v' cs → Below w.heap.size w w' → wpList Try.prog ops Q rest (a.put o.dst v') w') : wpList Try.prog ops Q (o :: rest) a w := by
  obtain ⟨i0, hi, hz0, hz1, hz2⟩ := info_parts Try.infoChg
  have hm : maxLen = 9223372036854775807 := rfl
  cases ao with
  | none =>
    have hc := hnil rfl
    have hcs : cs = [] := by
      rcases hsrc with h | ⟨b, off, h, _⟩
      · exact h
      · cases h
    subst hc hcs
    refine wpList_plain hgd fun K hK => ?_
    have hr := run_append_owned_none (P := Try.prog) (w := w) w.heap.size 42 o.type 41 i0 11 Try.underlying42 hi (.slice none 0 0) 0 [] (World.ownsRow_nil w w.heap.size _ 11)
    unfold Oper.wp execOp
    simp only [ho, resolve, invoke, builtin, Sem.run_bind, Sem.run_pure, Result.andThen_ok, List.map_toArray, List.map_cons, List.map_nil, hs, hx, List.length_nil, hr]
    exact hK _ _ (h _ _ (OwnC.nil _ _) (Below.refl _ _))
  | some ad =>
    have hnews : ∀ j u, (cs.flatMap Chg.cells)[j]? = some u → w.cell? (ad.add j) = some u := by
      rcases hsrc with rfl | ⟨b, off, h, _, hc⟩
      · intro j u hu; simp at hu
      · cases h
        intro j u hu
        have hj := (List.getElem?_eq_some_iff.1 hu).1
        rw [flat_len11] at hj
        have h1 := flat_get cs (j / 11) (j % 11) (by omega) (by omega)
        rw [show j / 11 * 11 + j % 11 = j by omega, hu] at h1
        rw [addr_add]
        have h2 := hc (j / 11) (by omega) (j % 11) (by omega)
        rw [show off + j / 11 * 11 + j % 11 = off + j by omega] at h2
        rw [h2, h1]
    refine wpList_append_own_at _ hgd s x 42 ho w.heap.size 41 i0 _ 11 112 Try.underlying42 hi hz0 hz1 hz2 rfl (by decide) (.slice none 0 0) 0 [] hs (World.ownsRow_nil w w.heap.size _ 11) ad cs.length c (cs.flatMap Chg.cells) hx (by rw [flat_len11]; omega) hnews (flat_one cs) (by omega) (by omega) (Nat.le_refl _) ?_
    intro v' w' h1 h2 h3 h4
    refine h v' w' ?_ ((Below.refl _ _).grown h2 (Nat.le_refl _) (fun k hk => by simp [Value.ownBlock] at hk))
    unfold OwnC
    simpa using h1
def InChanges2 (w : World) (a : Option Addr) (len cap : Nat) (cs : List Chg) : Prop := InChanges w a len cap cs ∧ (a = none → cap = 0)
theorem inChanges2_of {H : Type} {enc : TypeId × Value → H} {W : World} {base : Nat} {sp : Nat → Bool} {bb : Bool} {a : Option Addr} {len cap : Nat} {d : DataW H} {p : List MemPlace} (hsp : ∀ b, sp b = true)
    (hf : DataW.Trod enc Try.prog W base sp bb 42 (.slice a len cap) d p) : ∃ cs, InChanges2 W a len cap cs := by
  obtain ⟨cs, hcs⟩ := inChanges_of hsp hf
  refine ⟨cs, hcs, fun ha => ?_⟩
  obtain ⟨fuel, hf⟩ := hf
  rcases Deep.open_slice Try.underlying42 hf with ⟨hcs, _⟩ | ⟨x, l, c, m, n, D, Pl, hcs, _⟩
  · simp [Value.cells] at hcs
    exact hcs.2.2
  · simp [Value.cells] at hcs
    rw [hcs.1] at ha
    cases ha

set_option maxHeartbeats 2000000 in
theorem codeChanges_walk (w : World) (a0 : Option Addr) (len0 cap0 : Nat) (cs : List Chg) (hi0 : InChanges2 w a0 len0 cap0 cs) (a1 : Option Addr) (len1 cap1 : Nat) (l : List UInt8) (hi1 : InBytes w a1 len1 cap1 l) :
    Calls Try.prog 6 #[.slice a0 len0 cap0, .slice a1 len1 cap1] w fun e w' => e = .returned (.bool true) ∧ Below w.heap.size w w' := by
  obtain ⟨⟨rfl, hlc0, hcm0, hch, hgood⟩, hnil0⟩ := hi0
  obtain ⟨rfl, hlc, hcm, hnil, hbs⟩ := hi1
  have hm : cs.length ≤ maxLen := Nat.le_trans hlc0 hcm0
  have hlm : l.length ≤ 9223372036854775807 := Nat.le_trans hlc hcm
  have hhv := heavy2_any w w.heap.size a0 cs cap0 hm hch
  have HN0 : Hid (a0 = none → cap0 = 0) := hnil0
  have HN1 : Hid (a1 = none → cap1 = 0) := hnil
  have HCH : Hid (ChAt w w.heap.size a0 cs) := hch
  have HBS : Hid (BsAt w w.heap.size a1 l) := hbs
  have HGD : Hid (∀ c ∈ cs, c.Good) := hgood
  have HCM : Hid (cap1 ≤ maxLen) := hcm
  have hgl : decide (100000 < (l.length : Int)) = true ∨ (decide (100000 < (l.length : Int)) = false ∧ ¬ 100000 < (l.length : Int)) := by
    by_cases g : 100000 < (l.length : Int)
    · exact .inl (by simpa using g)
    · exact .inr ⟨by simpa using g, g⟩
  clear hnil0 hnil hch hbs hgood hcm
  go_enter Try.func6, Try.ntmps6
  rcases hgl with hgl | ⟨hgl, hgl2⟩
  · go_wp2_with (go_at_call 26; refine hhv.mono ?_; rintro e w1 ⟨⟨hv, rfl, hv2⟩, n1, rfl⟩; clear hv2; cases hv)
    all_goals
      go_ret
      exact ⟨rfl, below_drewN (Below.refl _ _) _⟩
  go_upto_region 3 with (go_at_call 26; refine hhv.mono ?_; rintro e w1 ⟨⟨hv, rfl, hv2⟩, n1, rfl⟩; cases hv)
  rotate_left
  · go_ret
    exact ⟨rfl, below_drewN (Below.refl _ _) _⟩
  have hlen : cs.length ≤ 5000 := by
    rcases hv2 with h | h
    · cases h
    · exact h
  have hb1 : Below w.heap.size w (w.drewN n1) := below_drewN (Below.refl _ _) _
  obtain ⟨w1, hw1⟩ : ∃ w1, w1 = w.drewN n1 := ⟨_, rfl⟩
  rw [← hw1] at hb1 ⊢
  clear hw1 hv2 hhv
  obtain ⟨E1, hE1⟩ : ∃ E, E = chsE cs := ⟨_, rfl⟩
  obtain ⟨P, hP⟩ : ∃ P, P = chsB cs := ⟨_, rfl⟩
  obtain ⟨⟨ms, E2⟩, hR⟩ : ∃ p, p = ofChs l := ⟨_, rfl⟩
  have hx := HCH.out.below hb1 (Nat.le_refl _)
  have hcA := fun W ao c (h : ChAt W W.heap.size ao cs) => changes_any W W.heap.size ao cs c h (Nat.le_refl _) hm HGD.out
  have hcB := fun W (h : Below w.heap.size w W) => refChanges_any W w.heap.size a0 cs cap0 (HCH.out.below h (Nat.le_refl _)) h.size hm HGD.out
  have hoA := fun W ao c (h : BsAt W W.heap.size ao l) (h1 : l.length ≤ c) (h2 : c ≤ maxLen) (h3 : ao = none → c = 0) => ofChanges_any W W.heap.size ao l c h h1 h2 h3 (Nat.le_refl _)
  have hoB := fun W (h : Below w.heap.size w W) => refOfChanges_any W w.heap.size a1 l cap1 (HBS.out.below h (Nat.le_refl _)) hlc HCM.out HN1.out h.size
  rw [← hE1, ← hP] at hcA hcB
  rw [← hR] at hoA hoB
  have HCA : Hid (∀ W ao c, ChAt W W.heap.size ao cs → Calls Try.prog 13 #[.slice ao cs.length c] W fun e w' => ∃ v', e = .returned (.tuple #[v', .int .i64 E1]) ∧ Own w' W.heap.size v' P ∧ Below W.heap.size W w') := hcA
  have HCB : Hid (∀ W, Below w.heap.size w W → Calls Try.prog 27 #[.slice a0 cs.length cap0] W fun e w' => ∃ v', e = .returned (.tuple #[v', .int .i64 E1]) ∧ Own w' W.heap.size v' P ∧ Below W.heap.size W w') := hcB
  have HOA : Hid (∀ W ao c, BsAt W W.heap.size ao l → l.length ≤ c → c ≤ maxLen → (ao = none → c = 0) → Calls Try.prog 14 #[.slice ao l.length c] W fun e w' => ∃ v', e = .returned (.tuple #[v', .int .i64 E2]) ∧ OwnC w' W.heap.size v' ms ∧ Below W.heap.size W w') := hoA
  have HOB : Hid (∀ W, Below w.heap.size w W → Calls Try.prog 28 #[.slice a1 l.length cap1] W fun e w' => ∃ v', e = .returned (.tuple #[v', .int .i64 E2]) ∧ OwnC w' W.heap.size v' ms ∧ Below W.heap.size W w') := hoB
  clear hcA hcB hoA hoB hE1 hP hR
  go_upto_region 5 with (first
    | (at_builtin; refine app_chs rfl (.const (.slice none 0 0)) (.tmp 22) rfl rfl a0 cap0 cs rfl w.heap.size HN0.out hx hlen ?_; intro v2 w2 ho2 hb2; have hb02 := hb1.trans (hb2.mono hb1.size); have hy := HBS.out.below hb02 (Nat.le_refl _); have hbz := hb02.size)
    | (at_builtin; refine app_bytes rfl (.const (.slice none 0 0)) (.tmp 24) rfl w.heap.size _ _ (Own.nil _ _) rfl a1 cap1 l _ rfl rfl w.heap.size HN1.out hy (by simp; omega) hbz ?_; intro v3 w3 ho3 hg3))
  have hb23 := hg3.below_nil
  have hb03 := hb02.trans (hb23.mono hb02.size)
  have ho23 := ho2.below hb23
  rw [List.nil_append] at ho3
  obtain ⟨o2, c2, hv2, h21, h22, hch2⟩ := ho23.at
  obtain ⟨o3, c3, hv3, h31, h32, h33, hbs3⟩ := ho3.at
  subst hv2
  subst hv3
  have HO3 : Hid (Own w3 w.heap.size (.slice o3 l.length c3) l) := ho3
  have HC2 : Hid (ChAt w3 w3.heap.size o2 cs) := hch2
  have HB3 : Hid (BsAt w3 w3.heap.size o3 l) := hbs3
  have H33 : Hid (o3 = none → c3 = 0) := h33
  have H32 : Hid (c3 ≤ maxLen) := h32
  clear hx hy hbz ho2 hb2 ho3 hg3 ho23 hb23 hb02 hch2 hbs3 h33 h32 h21 h22
  go_upto_region 9 with (first
    | (go_at_call 13; refine (HCA.out w3 o2 c2 HC2.out).mono ?_; rintro e w4 ⟨v4, rfl, ho4, hb34⟩; have hb04 := hb03.trans (hb34.mono hb03.size))
    | (go_at_call 27; refine (HCB.out w4 hb04).mono ?_; rintro e w5 ⟨v5, rfl, ho5, hb45⟩; have hb05 := hb04.trans (hb45.mono hb04.size); have hb35 := hb34.trans (hb45.mono hb34.size))
    | (go_at_call 14; refine (HOA.out w5 o3 c3 (HB3.out.below hb35 hb35.size) h31 H32.out H33.out).mono ?_; rintro e w6 ⟨v6, rfl, ho6, hb56⟩; have hb06 := hb05.trans (hb56.mono hb05.size); have hb36 := hb35.trans (hb56.mono hb35.size))
    | (go_at_call 28; refine (HOB.out w6 hb06).mono ?_; rintro e w7 ⟨v7, rfl, ho7, hb67⟩; have hb07 := hb06.trans (hb67.mono hb06.size); have hb37 := hb36.trans (hb67.mono hb36.size)))
  have hb47 : Below w4.heap.size w4 w7 := hb45.trans ((hb56.trans (hb67.mono hb56.size)).mono hb45.size)
  have hb57 : Below w5.heap.size w5 w7 := hb56.trans (hb67.mono hb56.size)
  have q4 := ho4.conv w7 hb47
  have q5 := ho5.conv w7 hb57
  have q3 := fun n => conv_bytes (w7.drewN n) w3.heap.size o3 l c3 (HB3.out.below (below_drewN hb37 n) (Nat.le_refl _))
  have q1 := fun n => conv_bytes (w7.drewN n) w.heap.size a1 l cap1 (HBS.out.below (below_drewN hb07 n) (Nat.le_refl _))
  obtain ⟨o6, c6, hv6, h61, h62, hch6⟩ := (ho6.below hb67).at
  obtain ⟨o7, c7, hv7, h71, h72, hch7⟩ := ho7.at
  subst hv6
  subst hv7
  have hs1 := same_any w7 w7.heap.size w7.heap.size o6 o7 ms c6 c7 (Nat.le_trans h61 h62) hch6 hch7
  have hs2 := fun n => same_any (w7.drewN n) w3.heap.size w.heap.size o2 a0 cs c2 cap0 hm (HC2.out.below (below_drewN hb37 n) (Nat.le_refl _)) (HCH.out.below (below_drewN hb07 n) (Nat.le_refl _))
  have HS1 := Hid.mk2 hs1
  have HS2 := Hid.mk2 hs2
  have Q3 := Hid.mk2 q3
  have Q1 := Hid.mk2 q1
  have HBE := Hid.mk2 hb07
  clear hs1 hs2 q3 q1 hch6 hch7 ho6 ho7 ho4 ho5 hb34 hb45 hb56 hb67 hb04 hb05 hb06 hb35 hb36 hb37 hb47 hb57 hb07
  go_wp2_with (first
    | (go_at_call 29; refine (HS2.out n8).mono ?_; rintro e w9 ⟨rfl, n9, rfl⟩; have q9 := Q3.out (n8 + n9); have r9 := Q1.out (n8 + n9))
    | (go_at_call 29; refine HS1.out.mono ?_; rintro e w8 ⟨rfl, n8, rfl⟩))
  go_ret
  exact ⟨rfl, below_drewN HBE.out _⟩

set_option maxRecDepth 100000 in
theorem codeChanges_lifted (os : Os) (started : os.Started) (H : Type) (enc : TypeId × Value → H) :
    ReturnsInHanded {} Try.checked os 6 .any (Rows.codeChangesSpec.pre6 enc Try.prog Try.f6 Rows.codeChangesRow.domain false) (Rows.codeChangesSpec.post enc Try.prog Try.f6 false true false false) := by
  refine returnsInHanded_of_change (C := Try.checked) (by kernel_rfl) started (by kernel_rfl) Try.func6
    (ChangeSpec.witness6 (enc := enc) (C := Try.checked) false ⟨#[], #[.slice none 0 0, .slice none 0 0], []⟩ 8 (by kernel_rfl) (by kernel_rfl) (by kernel_rfl) (by kernel_rfl)) ?_
  intro W base args ds gs before hval0 hW hcnd _
  have hval : ∀ (j : Nat) t v, Try.f6.params[j]? = some t → args[j]? = some v → Value.okWide Try.prog W .any base t v := hval0
  have hW' := hW
  obtain ⟨p, q, hA0, hV, rfl, hfz, hnd⟩ := hW
  have hA : DataW.TrodAll enc Try.prog W 0 (fun _ => true) true Try.f6.params.toList args.toList ds p := hA0
  rw [Try.params6] at hA hval
  obtain ⟨v0, vs0, d0, ds0, p0, q0, hargs, rfl, rfl, h0, r0⟩ := trodAll_cons hA
  obtain ⟨v1, vs1, d1, ds1, p1, q1, rfl, rfl, rfl, h1, r1⟩ := trodAll_cons r0
  obtain ⟨rfl, rfl, rfl⟩ := trodAll_nil r1
  obtain rfl : args = #[v0, v1] := by cases args; simp_all
  obtain ⟨rfl, rfl⟩ := trodVars_none hV
  have k0 := h0
  have lt0 : ∀ x ∈ p0, x.block < W.heap.size := by obtain ⟨m, hm⟩ := k0; exact DataW.trod_lt m _ _ _ hm
  obtain ⟨a0, len0, cap0, rfl⟩ := okWide_slice Try.underlying42 (hval 0 42 v0 rfl rfl)
  obtain ⟨l0, w0⟩ := inChanges2_of (fun _ => rfl) h0
  have k1 := h1
  have lt1 : ∀ x ∈ p1, x.block < W.heap.size := by obtain ⟨m, hm⟩ := k1; exact DataW.trod_lt m _ _ _ hm
  obtain ⟨a1, len1, cap1, rfl⟩ := okWide_slice Try.underlying26 (hval 1 26 v1 rfl rfl)
  obtain ⟨l1, w1⟩ := inBytes_of (fun _ => rfl) h1
  clear hA0 hval0
  refine (codeChanges_walk W a0 len0 cap0 l0 w0 a1 len1 cap1 l1 w1).mono fun e W' ⟨he, bel⟩ => ?_
  subst he
  exact ⟨_, rfl, _, _, _, [], _, [], hW', trodAll_mk1 (shut_bool Try.underlying4 _), (trodAll_cons_mk (Below.trod laidOut_all (by kernel_rfl) (of_decide_eq_true (by kernel_rfl)) k0 bel lt0) (trodAll_cons_mk (Below.trod laidOut_all (by kernel_rfl) (of_decide_eq_true (by kernel_rfl)) k1 bel lt1) trodAll_mk0)), rfl, bel.frame _, fun h => by cases h⟩

theorem codeChanges_proved : Rows.CodeChangesSaid :=
  OpenClaim.holds_of_wide 6 Try.f6 rfl rfl rfl rfl rfl rfl rfl ⟨rfl, rfl, rfl, rfl, rfl⟩ rfl rfl rfl rfl rfl (by kernel_rfl) Try.func6 (by kernel_rfl)
    (of_decide_eq_true (by kernel_rfl)) (by unfold Func.isWrapper; first | (rw [if_pos (by decide +kernel)]; kernel_rfl) | (rw [if_neg (by decide +kernel)]; exact ⟨rfl, rfl⟩))
    (fun os started H enc _ => codeChanges_lifted os started H enc)
#print axioms codeChanges_proved
end Go.Proofs.Ytlhlleokehkolaa
