/-
  WheelDoes is true: a wheel does, and tells, what the document says, call by call; no conditions.
-/
import Derived.Test.YthcekkahkioibadWdN
namespace Go.Proofs.Ythcekkahkioibad
open Go.ChangeShapes Go.WideShapes Go.ChangeAt Go.RowKit
open Go.ChangeMaps (open_string shut_string)
set_option linter.unusedSimpArgs false
set_option linter.unusedVariables false
set_option maxRecDepth 100000

theorem one_any (w : World) (p base now : Nat) (L : List NU) (b0 : Nat) (mb : Nat → Option Nat) (N : Nat) (ao : Option Addr) (D : List NU) (cap : Nat) (h : Sd w p base now L b0 mb N ao D cap) (hN : N ≤ 1000000) (hl : L.length ≤ 100000) (q : Dq) :
    Calls Try.prog 18 #[.pointer (some ⟨p, 0, none⟩), wv now ao D.length cap, .agg #[.int .u8 (q.k : Int), .int .i64 q.y.tenant, .string q.y.key, .int .i64 q.u]] w (OneP w p base L b0 mb N) := by
  by_cases h2 : q.k % 5 = 2
  · exact one_del w p base now L b0 mb N ao D cap h hN hl q.k h2 q.y q.u
  by_cases h3 : q.k % 5 = 3
  · exact one_until w p base now L b0 mb N ao D cap h hN hl q.k h3 q.y q.u
  by_cases h4 : q.k % 5 = 4
  · by_cases hu : q.u < (now : Int) ∨ 1099511627776 < q.u
    · exact one_tickBad w p base now L b0 mb N ao D cap h hN hl q.k h4 q.y q.u hu
    · obtain ⟨t, ht⟩ : ∃ t : Nat, q.u = (t : Int) := ⟨q.u.toNat, by omega⟩
      rw [ht]
      exact one_tick w p base now L b0 mb N ao D cap h hN hl q.k h4 q.y t (by omega) (by omega)
  · exact one_add w p base now L b0 mb N ao D cap h hN hl q.k ⟨h2, h3, h4⟩ q.y q.u
theorem ptr_nil (p : Nat) (W : World) : (binOp .eql 25 (.pointer (some ⟨p, 0, none⟩)) (.pointer none)).run Try.prog W = .ok (.bool false) W := by
  go_simp
set_option maxHeartbeats 1000000 in
theorem wheelDoes_good (w : World) (now : Nat) (hn : now ≤ 1099511627776) (ao : Option Addr) (cap : Nat) (X : List Dq) (hX : QAt w ao X) (hcap : X.length ≤ cap) (h3 : X.length ≤ 300) :
    Calls Try.prog 4 #[.int .i64 now, .slice ao X.length cap] w fun e w' => e = .returned (.bool true) ∧ Below w.heap.size w w' := by
  have h300 : decide ((300 : Int) < X.length) = false := by simp; omega
  have h300n : ¬ 300 < X.length := by omega
  have HX := Hid.mk2 hX
  clear hX
  have HC1 := Hid.mk2 (new_any w now hn)
  have HC2 := Hid.mk2 (fun W => wnew_good now W hn)
  clear hn
  go_enter Try.func4, Try.ntmps4
  go_upto_region 4 with (go_at_call 10; refine HC1.out.mono ?_; rintro e w1 ⟨p, rfl, hp, hb1, b0, hW1, hb0⟩; have HB1 := Hid.mk2 hb1; have HW1 := Hid.mk2 hW1; clear hb1 hW1)
  go_upto_region 5 with (go_at_call 17; refine (HC2.out _).mono ?_; rintro e w2 ⟨rfl, hb2⟩; have HB2 := Hid.mk2 hb2; clear hb2)
  obtain ⟨w3, hw3⟩ : ∃ x, x = w2.alloc (Obj.cells #[.int .i64 now, .slice none 0 0] 45) := ⟨_, rfl⟩
  obtain ⟨R, hR⟩ : ∃ x, x = w2.heap.size := ⟨_, rfl⟩
  rw [← hw3, ← hR]
  have c0 : w3.cell? ⟨R, 0, none⟩ = some (.int .i64 now) := by rw [hw3, hR]; simp
  have c1 : w3.cell? ⟨R, 1, none⟩ = some (.slice none 0 0) := by rw [hw3, hR]; simp
  have f0 : w3.frozen? ⟨R, 0, none⟩ = false := by rw [hw3, hR]; simp
  have f1 : w3.frozen? ⟨R, 1, none⟩ = false := by rw [hw3, hR]; simp
  have hs3 : w3.heap.size = R + 1 := by rw [hw3, hR]; simp
  have HB3 : Hid (Below w1.heap.size w1 w3) := by rw [hw3]; exact HB2.out.alloc HB2.out.size _
  have hR1 : w1.heap.size ≤ R := by rw [hR]; exact HB2.out.size
  have hw1 : w.heap.size ≤ w1.heap.size := HB1.out.size
  have HP1 : Hid (∀ k, Foot p b0 (fun _ => none) k → w.heap.size ≤ k ∧ k < w1.heap.size) := by
    intro k hk
    have hk2 := HW1.out.lt hk
    rcases hk with rfl | rfl | ⟨i, _, e⟩
    · exact ⟨hp, hk2⟩
    · exact ⟨hb0, hk2⟩
    · cases e
  have HS3 : Hid (Sd w3 p (R + 1) now [] b0 (fun _ => none) 0 none [] 0) := ⟨HW1.out.below HB3.out, by have := (HP1.out p (.inl rfl)).2; omega, by omega, OwnE.nil _ _, List.Perm.nil, List.Pairwise.nil⟩
  have HBW3 : Hid (Below w.heap.size w w3) := HB1.out.trans (HB3.out.mono hw1)
  have hpn := ptr_nil p
  clear hw3 hR HC1 HC2 HB2 HB3 HB1 HW1
  go_upto_region 8 with (fail)
  clear hpn
  go_loopw [9] (fun s9 wr => ∃ (i now' : Nat) (L : List NU) (mb : Nat → Option Nat) (N : Nat) (ro : Option Addr) (D : List NU) (rc : Nat), i ≤ X.length ∧ s9 = .int .i64 i ∧ Hid (Sd wr p (R + 1) now' L b0 mb N ro D rc) ∧ wr.cell? ⟨R, 0, none⟩ = some (.int .i64 now') ∧ wr.cell? ⟨R, 1, none⟩ = some (.slice ro D.length rc) ∧ wr.frozen? ⟨R, 0, none⟩ = false ∧ wr.frozen? ⟨R, 1, none⟩ = false ∧ N ≤ i * 602 ∧ L.length ≤ i ∧ Hid (∀ k, Foot p b0 mb k → w.heap.size ≤ k ∧ k ≠ R) ∧ Hid (Below w.heap.size w wr)) (fun s9 _ => X.length - (intOf s9).toNat)
  case atStart => exact ⟨0, now, [], fun _ => none, 0, none, [], 0, Nat.zero_le _, rfl, HS3, c0, c1, f0, f1, by omega, by simp, fun k hk => ⟨(HP1.out k hk).1, by have := (HP1.out k hk).2; omega⟩, HBW3⟩
  case round =>
    obtain ⟨i, now', L, mb, N, ro, D, rc, hi, rfl, HS, r0, r1, g0, g1, hN, hL, HF, HBr⟩ := hrel
    have hRr : R < wr.heap.size := HS.out.bs
    clear c0 c1 f0 f1
    by_cases hlt : i < X.length
    · have hlt2 : (i : Int) < (X.length : Int) := by omega
      rcases HX.out.below HBr.out with h0 | ⟨b, off, rfl, hbb, hcs⟩
      · rw [h0] at hlt; simp at hlt
      obtain ⟨q0, q1, q2, q3⟩ := hcs i hlt
      obtain ⟨q, hq⟩ : ∃ q, q = X[i] := ⟨_, rfl⟩
      rw [← hq] at q0 q1 q2 q3
      clear hq hcs
      go_upto_region 11 with (fail)
      obtain ⟨w5, hw5⟩ : ∃ x, x = wr.alloc (Obj.cells #[.int .u8 (q.k : Int), .int .i64 q.y.tenant, .string q.y.key, .int .i64 q.u] 49) := ⟨_, rfl⟩
      obtain ⟨Q, hQ⟩ : ∃ x, x = wr.heap.size := ⟨_, rfl⟩
      rw [← hw5, ← hQ]
      have a0 : w5.cell? ⟨Q, 0, none⟩ = some (.int .u8 (q.k : Int)) := by rw [hw5, hQ]; simp
      have a1 : w5.cell? ⟨Q, 1, none⟩ = some (.int .i64 q.y.tenant) := by rw [hw5, hQ]; simp
      have a2 : w5.cell? ⟨Q, 2, none⟩ = some (.string q.y.key) := by rw [hw5, hQ]; simp
      have a3 : w5.cell? ⟨Q, 3, none⟩ = some (.int .i64 q.u) := by rw [hw5, hQ]; simp
      have HB5 : Hid (Below wr.heap.size wr w5) := by rw [hw5]; exact (Below.refl _ _).alloc (Nat.le_refl _) _
      clear hw5 hQ q0 q1 q2 q3
      have s0 := (bcl HB5.out _ 0 hRr).trans r0
      have s1 := (bcl HB5.out _ 1 hRr).trans r1
      have t0 := (bfr HB5.out _ 0 hRr).trans g0
      have t1 := (bfr HB5.out _ 1 hRr).trans g1
      have HS5 := Hid.mk2 (HS.out.below HB5.out)
      have HBW5 : Hid (Below w.heap.size w w5) := HBr.out.trans (HB5.out.mono HBr.out.size)
      have hRr5 : R < w5.heap.size := HS5.out.bs
      clear r0 r1 g0 g1
      by_cases hkey : 10000 < (q.y.key.size : Int)
      · have hkey2 : decide (10000 < (q.y.key.size : Int)) = true := by simp; omega
        have hkey3 : 10000 < q.y.key.size := by omega
        go_wp2
        go_ret
        exact ⟨rfl, HBW5.out⟩
      · have hkey2 : decide (10000 < (q.y.key.size : Int)) = false := by simp; omega
        have hkey3 : ¬ 10000 < q.y.key.size := by omega
        have HON := Hid.mk2 (one_any w5 p (R + 1) now' L b0 mb N ro D rc HS5.out (by omega) (by omega) q)
        go_upto_region 15 with (go_at_call 18; refine HON.out.mono ?_; rintro e w6 ⟨now2, L2, mb2, ro2, D2, rc2, rfl, hS2, hlen2, hK2, hF2⟩; have hbk := hK2.block R hRr5 (fun hf => (HF.out R hf).2 rfl); have v0 := (World.cell?_of_block (a := ⟨R, 0, none⟩) hbk).trans s0; have v1 := (World.cell?_of_block (a := ⟨R, 1, none⟩) hbk).trans s1; have x0 := (World.frozen?_of_block (a := ⟨R, 0, none⟩) hbk).trans t0; have x1 := (World.frozen?_of_block (a := ⟨R, 1, none⟩) hbk).trans t1; have HS2 := Hid.mk2 hS2; have HK2 := Hid.mk2 hK2; have HF2 := Hid.mk2 hF2; clear hS2 hK2 hF2 hbk)
        obtain ⟨w7, hw7⟩ : ∃ x, x = (w6.setCell ⟨R, 0, none⟩ (.int .i64 now2)).setCell ⟨R, 1, none⟩ (.slice ro2 D2.length rc2) := ⟨_, rfl⟩
        rw [← hw7]
        have HFN : Hid (∀ k, Foot p b0 mb2 k → w.heap.size ≤ k ∧ k ≠ R) := fun k hk => (HF2.out k hk).elim (HF.out k) (fun g => ⟨by have := HBW5.out.size; omega, by omega⟩)
        have HS7 : Hid (Sd w7 p (R + 1) now2 L2 b0 mb2 (N + 2 + 2 * L.length) ro2 D2 rc2) := by rw [hw7]; exact HS2.out.set2 R _ _ (fun hf => (HFN.out R hf).2 rfl) (fun g hg => by have := (HS2.out.own.lt g hg).1; omega)
        have HB7 : Hid (Below w.heap.size w w7) := by rw [hw7]; exact below_set2 (HBW5.out.trans (HK2.out.to_below HBW5.out.size (fun k hk => (HF.out k hk).1))) (by omega)
        have z0 : w7.cell? ⟨R, 0, none⟩ = some (.int .i64 now2) := by rw [hw7]; exact set2_0 v0
        have z1 : w7.cell? ⟨R, 1, none⟩ = some (.slice ro2 D2.length rc2) := by rw [hw7]; exact set2_1 v1
        have y0 : w7.frozen? ⟨R, 0, none⟩ = false := by rw [hw7]; simpa using x0
        have y1 : w7.frozen? ⟨R, 1, none⟩ = false := by rw [hw7]; simpa using x1
        have hdl : D2.length = L2.length := HS2.out.perm.length_eq
        have hnl : ((L2.length : Int) != (D2.length : Int)) = false := by rw [hdl]; simp
        have hnl2 : (L2.length != D2.length) = false := by rw [hdl]; simp
        have HDL := Hid.mk2 hdl
        have HLN := Hid.mk2 (len_any w7 p now2 L2 b0 mb2 _ HS7.out.wh)
        have HNW := Hid.mk2 (now_any w7 p now2 L2 b0 mb2 _ HS7.out.wh)
        clear hw7 v0 v1 x0 x1 s0 s1 t0 t1 a0 a1 a2 a3 HON HS2 HK2 HF2 hdl
        go_upto_region 17 with (first
          | (go_at_call 15; refine HLN.out.mono ?_; rintro e w8 ⟨rfl, hwq⟩; obtain rfl := hwq.symm)
          | (go_at_call 16; refine HNW.out.mono ?_; rintro e w8 ⟨rfl, hwq⟩; obtain rfl := hwq.symm))
        go_wp2
        go_roundw
        case rel => exact ⟨i + 1, now2, L2, mb2, _, ro2, D2, rc2, by omega, by go_num, HS7, z0, z1, y0, y1, by omega, by omega, HFN, HB7⟩
        case measure => simp [intOf]; omega
    · have hlt2 : decide ((i : Int) < (X.length : Int)) = false := by simp; omega
      go_wp2
      go_ret
      exact ⟨rfl, HBr.out⟩
theorem wheelDoes_walk (w : World) (now : Int) (wn : (Lit.int .i64 now).wf = true) (ao : Option Addr) (len cap : Nat) (X : List Dq) (hX : InDos w ao len cap X) :
    Calls Try.prog 4 #[.int .i64 now, .slice ao len cap] w fun e w' => e = .returned (.bool true) ∧ Below w.heap.size w w' := by
  obtain ⟨rfl, hcap, hm, hQ⟩ := hX
  by_cases hmany : 300 < X.length
  · have h1 : decide ((300 : Int) < X.length) = true := by simp; omega
    clear hQ
    go_enter Try.func4, Try.ntmps4
    go_wp2
    go_ret
    exact ⟨rfl, Below.refl _ _⟩
  · by_cases hn : now < 0 ∨ 1099511627776 < now
    · have h1 : decide ((300 : Int) < X.length) = false := by simp; omega
      have h1n : ¬ 300 < X.length := hmany
      have HC1 := Hid.mk2 (new_bad w now hn)
      have HC2 := Hid.mk2 (wnew_bad now w hn)
      clear hn hQ
      go_enter Try.func4, Try.ntmps4
      go_upto_region 5 with (first
        | (go_at_call 10; refine HC1.out.mono ?_; rintro e w1 ⟨rfl, hwq⟩; obtain rfl := hwq.symm)
        | (go_at_call 17; refine HC2.out.mono ?_; rintro e w2 ⟨rfl, hb2⟩; have HB2 := Hid.mk2 hb2; clear hb2))
      obtain ⟨w3, hw3⟩ : ∃ x, x = w2.alloc (Obj.cells #[.int .i64 0, .slice none 0 0] 45) := ⟨_, rfl⟩
      rw [← hw3]
      have HB3 : Hid (Below w.heap.size w w3) := by rw [hw3]; exact HB2.out.alloc HB2.out.size _
      clear hw3
      go_upto_region 8 with (fail)
      go_loopw [9] (fun s9 wx => s9 = .int .i64 0 ∧ Hid (Below w.heap.size w wx)) (fun _ _ => 0)
      case atStart => exact ⟨rfl, HB3⟩
      case round =>
        obtain ⟨rfl, HBx⟩ := hrel
        by_cases h0 : 0 < X.length
        · have h2 : (0 : Int) < (X.length : Int) := by omega
          go_wp2
          go_ret
          exact ⟨rfl, HBx.out⟩
        · have h2 : ¬ (0 : Int) < (X.length : Int) := by omega
          go_wp2
          go_ret
          exact ⟨rfl, HBx.out⟩
    · obtain ⟨t, rfl⟩ : ∃ t : Nat, now = (t : Int) := ⟨now.toNat, by omega⟩
      exact wheelDoes_good w t (by omega) ao cap X hQ hcap (by omega)

set_option maxRecDepth 100000 in
theorem wheelDoes_lifted (os : Os) (started : os.Started) (H : Type) (enc : TypeId × Value → H) :
    ReturnsInHanded {} Try.checked os 4 .any (Rows.wheelDoesSpec.pre6 enc Try.prog Try.f4 Rows.wheelDoesRow.domain false) (Rows.wheelDoesSpec.post enc Try.prog Try.f4 false true false false) := by
  refine returnsInHanded_of_change (C := Try.checked) (by kernel_rfl) started (by kernel_rfl) Try.func4
    (ChangeSpec.witness6 (enc := enc) (C := Try.checked) false ⟨#[], #[.int .i64 0, .slice none 0 0], []⟩ 8 (by kernel_rfl) (by kernel_rfl) (by kernel_rfl) (by kernel_rfl)) ?_
  intro W base args ds gs before hval0 hW hcnd _
  have hval : ∀ (j : Nat) t v, Try.f4.params[j]? = some t → args[j]? = some v → Value.okWide Try.prog W .any base t v := hval0
  have hW' := hW
  obtain ⟨p, q, hA0, hV, rfl, hfz, hnd⟩ := hW
  have hA : DataW.TrodAll enc Try.prog W 0 (fun _ => true) true Try.f4.params.toList args.toList ds p := hA0
  rw [Try.params4] at hA hval
  obtain ⟨v0, vs0, d0, ds0, p0, q0, hargs, rfl, rfl, h0, r0⟩ := trodAll_cons hA
  obtain ⟨v1, vs1, d1, ds1, p1, q1, rfl, rfl, rfl, h1, r1⟩ := trodAll_cons r0
  obtain ⟨rfl, rfl, rfl⟩ := trodAll_nil r1
  obtain rfl : args = #[v0, v1] := by cases args; simp_all
  obtain ⟨rfl, rfl⟩ := trodVars_none hV
  obtain ⟨a0, rfl, rfl, rfl, w0⟩ := open_int Try.underlying3 (hval 0 3 v0 rfl rfl) h0
  have k1 := h1
  have lt1 : ∀ x ∈ p1, x.block < W.heap.size := by obtain ⟨m, hm⟩ := k1; exact DataW.trod_lt m _ _ _ hm
  obtain ⟨a1, len1, cap1, rfl⟩ := okWide_slice Try.underlying42 (hval 1 42 v1 rfl rfl)
  obtain ⟨l1, w1⟩ := inDos_of (fun _ => rfl) h1
  clear hA0 hval0
  refine (wheelDoes_walk W a0 w0 a1 len1 cap1 l1 w1).mono fun e W' ⟨he, bel⟩ => ?_
  subst he
  exact ⟨_, rfl, _, _, _, [], _, [], hW', trodAll_mk1 (shut_bool Try.underlying4 _), (trodAll_cons_mk (shut_int Try.underlying3 w0) (trodAll_cons_mk (Below.trod laidOut_all (by kernel_rfl) (of_decide_eq_true (by kernel_rfl)) k1 bel lt1) trodAll_mk0)), rfl, bel.frame _, fun h => by cases h⟩

theorem wheelDoes_proved : Rows.WheelDoesSaid :=
  OpenClaim.holds_of_wide 4 Try.f4 rfl rfl rfl rfl rfl rfl rfl ⟨rfl, rfl, rfl, rfl, rfl⟩ rfl rfl rfl rfl rfl (by kernel_rfl) Try.func4 (by kernel_rfl)
    (of_decide_eq_true (by kernel_rfl)) (by unfold Func.isWrapper; first | (rw [if_pos (by decide +kernel)]; kernel_rfl) | (rw [if_neg (by decide +kernel)]; exact ⟨rfl, rfl⟩))
    (fun os started H enc _ => wheelDoes_lifted os started H enc)
#print axioms wheelDoes_proved
end Go.Proofs.Ythcekkahkioibad
