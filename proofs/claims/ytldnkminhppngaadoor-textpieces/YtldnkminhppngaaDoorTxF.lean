/-
  (shaken)
-/
import Derived.Test.YtldnkminhppngaaDoorTxE
import Derived.Test.YtldnkminhppngaaDoorItJoin
namespace Go.Proofs.YtldnkminhppngaaDoor
open Go.Proofs.YtldnkminhppngaaDoor.It
open Go.RowKit
set_option linter.unusedSimpArgs false
set_option linter.unusedVariables false
set_option maxRecDepth 100000

/-- a request whose numbers are of their kinds -/
structure Rq.Fit (r : Rq) : Prop where
  f0 : 0 ≤ r.cmd.flags
  f1 : r.cmd.flags < 4294967296
  u0 : 0 ≤ r.cmd.unique
  u1 : r.cmd.unique < 18446744073709551616
  b0 : 0 ≤ r.cmd.by_
  b1 : r.cmd.by_ < 18446744073709551616
theorem Cm.may_parts14 {c : Cm} (h : c.may = true) : 1 ≤ c.kind ∧ c.kind ≤ 11 ∧ c.keys.length ≤ 8 ∧ c.value.size ≤ 512 ∧ 0 ≤ c.life ∧ c.life ≤ 1099511627776 ∧ ∀ k ∈ c.keys, k.size ≤ 32 := by
  unfold Cm.may at h
  simp only [Bool.and_eq_true, decide_eq_true_eq] at h
  obtain ⟨⟨⟨⟨⟨⟨h1, h2⟩, h3⟩, h4⟩, h5⟩, h6⟩, h7⟩ := h
  unfold Cm.vOk at h4
  unfold Cm.lOk at h5
  simp only [Bool.and_eq_true, decide_eq_true_eq] at h4 h5
  refine ⟨h1.1, h1.2, ?_, h4.1, h5.1.1, h5.1.2, ?_⟩
  · unfold Cm.kOk at h3
    split at h3
    · simp at h3; simp [h3]
    · simp only [Bool.and_eq_true, decide_eq_true_eq] at h3
      exact h3.1.1.2.1
  · intro k hk
    unfold Cm.kOk at h3
    split at h3
    · simp at h3; rw [h3] at hk; cases hk
    · simp only [Bool.and_eq_true, decide_eq_true_eq, List.all_eq_true] at h3
      have := h3.1.2 k hk
      unfold keyOk at this
      simp at this
      exact this.2
theorem wrE_zero {r : Rq} (h : r.wrE = 0) : r.hasLine = true ∧ (r.kind = 1 → r.cmd.may = true ∧ r.cmd.tenant = 0 ∧ r.cmd.keys.all seen = true) := by
  unfold Rq.wrE at h
  split at h
  · rename_i hl
    refine ⟨hl, fun hk => ?_⟩
    rw [if_pos hk] at h
    unfold Cm.wrE at h
    split at h
    · rename_i hm
      split at h
      · rename_i h2
        exact ⟨hm, h2⟩
      · exact absurd h (by decide)
    · exact absurd h (by decide)
  · exact absurd h (by decide)
theorem hasLine_kinds {r : Rq} (h : r.hasLine = true) : r.kind = 1 ∨ (r.kind = 2 ∧ 0 ≤ r.tenant ∧ r.tenant < 4 ∧ r.secret.size ≤ 16) ∨ r.kind = 3 ∨ r.kind = 4 ∨ r.kind = 5 := by
  unfold Rq.hasLine at h
  split at h
  · rename_i k; exact .inl k
  split at h
  · rename_i k
    refine .inr (.inl ⟨k, ?_⟩)
    unfold wordOk at h
    simp only [Bool.and_eq_true, decide_eq_true_eq] at h
    exact ⟨h.1.1.1.1.1, h.1.1.1.1.2, h.1.1.1.2.1.2⟩
  split at h
  · rename_i k; exact .inr (.inr (.inl k))
  split at h
  · rename_i k; exact .inr (.inr (.inr k))
  · cases h
theorem hasLine_none {r : Rq} (h : r.hasLine = true) (hk : ¬ r.kind = 1) : r.cmd.kind = 0 := by
  have hn : r.cmd.isNone = true := by
    unfold Rq.hasLine at h
    rw [if_neg hk] at h
    split at h
    · simp only [Bool.and_eq_true] at h; exact h.1.1.2
    split at h
    · simp only [Bool.and_eq_true] at h; exact h.1.1.1
    split at h
    · simp only [Bool.and_eq_true] at h; exact h.1.1.1.1
    · cases h
  unfold Cm.isNone at hn
  simp only [Bool.and_eq_true] at hn
  have := hn.1.1.1.1.1.1.1
  simpa using this

set_option maxHeartbeats 2000000 in
theorem wordsOf_any (r : Rq) (ko : Option Addr) (kc : Nat) (w : World) (h : GRd ES w ko r.cmd.keys kc) (hE : r.wrE = 0) (hf : r.Fit) (ht : Tab w) (hkw : KwT w) :
    Calls Tryd.prog 24 #[.agg (r.arr (.slice ko r.cmd.keys.length kc))] w fun e w' => ∃ v, e = .returned v ∧ GOwn ES w' w.heap.size v r.words ∧ Below w.heap.size w w' := by
  obtain ⟨hline, hcmd⟩ := wrE_zero hE
  have hks := hasLine_kinds hline
  have HI := Hid.mk2 (fun (n : Nat) (hn : n ≤ 9223372036854775807) V (hV : Below w.heap.size w V) => decI_any n hn V (ht.below hV))
  have HC := Hid.mk2 (fun (hk : r.kind = 1) V (hV : Below w.heap.size w V) => (let p := Cm.may_parts14 (hcmd hk).1; wordsOfCommand_any r.cmd ko kc V (h.below hV) p.2.2.1 p.1 p.2.1 p.2.2.2.1 hf.f0 hf.f1 p.2.2.2.2.1 p.2.2.2.2.2.1 hf.u0 hf.u1 hf.b0 hf.b1 (ht.below hV) (hkw.below hV)))
  have HWS := Hid.mk2 (show r.words = r.words from rfl)
  obtain ⟨WS, hWS⟩ : ∃ WS, WS = r.words := ⟨_, rfl⟩
  rw [← hWS]
  have HW := Hid.mk2 hWS
  clear hWS HWS hline hcmd hE hf ht hkw h
  obtain ⟨W, hW⟩ : ∃ W, W = w.alloc (.cells (r.arr (.slice ko r.cmd.keys.length kc)) 28) := ⟨_, rfl⟩
  have HB : Hid (Below w.heap.size w W) := by rw [hW]; exact g_alloc _ _
  have HX : Hid (GBx W w.heap.size (r.cl (.slice ko r.cmd.keys.length kc))) := by rw [hW]; exact GBx.made w (r.cl _) _
  obtain ⟨rk, ⟨kind, tenant, keys, value, flags, life, unique, by_⟩, rt, secret, on, close⟩ := r
  have HWs : Hid (W.heap.size = w.heap.size + 1) := by rw [hW]; show (w.alloc _).heap.size = _; simp
  unfold Rq.words at HW
  unfold Cm.arr at HC
  unfold Rq.arr Rq.cl at *
  dsimp only at *
  have c0 := HX.out.c 0 (by simp)
  have c1 := HX.out.c 1 (by simp)
  have c2 := HX.out.c 2 (by simp)
  have c3 := HX.out.c 3 (by simp)
  have c4 := HX.out.c 4 (by simp)
  have c5 := HX.out.c 5 (by simp)
  have c6 := HX.out.c 6 (by simp)
  have c7 := HX.out.c 7 (by simp)
  have c8 := HX.out.c 8 (by simp)
  have c9 := HX.out.c 9 (by simp)
  have c10 := HX.out.c 10 (by simp)
  have c11 := HX.out.c 11 (by simp)
  have c12 := HX.out.c 12 (by simp)
  simp only [List.getElem_cons_zero, List.getElem_cons_succ] at c0 c1 c2 c3 c4 c5 c6 c7 c8 c9 c10 c11 c12
  have hlt := HX.out.lt
  go_enter Tryd.func24, Tryd.ntmps24
  go_upto_region 1 with (fail)
  rw [← hW]
  clear hW
  rcases hks with rfl | ⟨rfl, t0, t4, hs16⟩ | rfl | rfl | rfl
  · have HWE : Hid (WS = (Cm.mk kind tenant keys value flags life unique by_).words) := by show WS = _; rw [HW.out, if_neg (by decide), if_neg (by decide), if_neg (by decide), if_neg (by decide)]
    have HC1 := Hid.mk2 (HC.out rfl)
    clear HC HW
    go_wp2_with (go_at_call 53; refine (HC1.out _ HB.out).mono ?_; rintro e w5 ⟨v5, rfl, hO5, hb5⟩; have HO5 := Hid.mk2 hO5; have HB5 := Hid.mk2 (g_on HB.out hb5); clear hO5 hb5)
    go_ret
    exact ⟨_, rfl, by rw [HWE.out]; exact HO5.out.down (by have := HWs.out; omega), HB5.out⟩
  · obtain ⟨tn, rfl⟩ : ∃ tn : Nat, rt = tn := ⟨rt.toNat, by omega⟩
    have HTN := Hid.mk2 (show tn ≤ 9223372036854775807 by omega)
    have HWE : Hid (WS = [⟨#[117, 115, 101, 114]⟩, dec (tn : Int), secret]) := by show WS = _; rw [HW.out, if_pos rfl]
    clear HC HW t0 t4
    have HSV : Hid (∀ V, Below W.heap.size W V → V.cell? ⟨w.heap.size, 9, none⟩ = some (.int .i64 tn) ∧ V.cell? ⟨w.heap.size, 10, none⟩ = some (.string secret)) := fun V hV => ⟨(hV.cell (p := ⟨w.heap.size, 9, none⟩) hlt).trans c9, (hV.cell (p := ⟨w.heap.size, 10, none⟩) hlt).trans c10⟩
    go_upto_region 3 with (fail)
    have HB2 := Hid.mk2 ((Below.refl W.heap.size W).drew)
    go_region_held3 (fun V => V.cell? ⟨w.heap.size, 9, none⟩ = some (.int .i64 tn) ∧ V.cell? ⟨w.heap.size, 10, none⟩ = some (.string secret)) (exact HSV.out _ (by repeat' (first | with_reducible exact HB2.out | with_reducible exact Below.refl _ _ | with_reducible refine Below.drew ?_ | with_reducible refine g_on ?_ (g_alloc _ _)))) (first | (go_at_call 52; refine (HI.out _ HTN.out _ (g_on HB.out HB2.out)).mono ?_; rintro e w5 ⟨rfl, hb5⟩; have HB9 : Hid (Below W.heap.size W w5) := g_on HB2.out hb5; clear HB2 hb5; have HB2 := HB9; clear HB9))
    go_wp2_with fail
    go_ret
    exact ⟨_, rfl, by rw [HWE.out]; exact (GOwn.fresh okS w5 [⟨#[117, 115, 101, 114]⟩, dec (tn : Int), secret] [.string ⟨#[117, 115, 101, 114]⟩, .string (dec (tn : Int)), .string secret] rfl (by simp)).down (by have := HWs.out; have := HB2.out.size; omega), g_on (g_on HB.out HB2.out) (g_alloc _ _)⟩
  · clear HC
    cases on
    · have HWE : Hid (WS = [⟨#[116, 114, 97, 99, 107]⟩, ⟨#[111, 102, 102]⟩]) := by show WS = _; rw [HW.out, if_neg (by decide), if_pos rfl]; rfl
      clear HW
      go_wp2
      go_ret
      exact ⟨_, rfl, by rw [HWE.out]; exact (GOwn.fresh okS W [⟨#[116, 114, 97, 99, 107]⟩, ⟨#[111, 102, 102]⟩] [.string ⟨#[116, 114, 97, 99, 107]⟩, .string ⟨#[111, 102, 102]⟩] rfl (by simp)).down (by have := HWs.out; omega), g_on HB.out (g_alloc _ _)⟩
    · have HWE : Hid (WS = [⟨#[116, 114, 97, 99, 107]⟩, ⟨#[111, 110]⟩]) := by show WS = _; rw [HW.out, if_neg (by decide), if_pos rfl]; rfl
      clear HW
      go_wp2
      go_ret
      exact ⟨_, rfl, by rw [HWE.out]; exact (GOwn.fresh okS W [⟨#[116, 114, 97, 99, 107]⟩, ⟨#[111, 110]⟩] [.string ⟨#[116, 114, 97, 99, 107]⟩, .string ⟨#[111, 110]⟩] rfl (by simp)).down (by have := HWs.out; omega), g_on HB.out (g_alloc _ _)⟩
  · have HWE : Hid (WS = [⟨#[112, 105, 110, 103]⟩]) := by show WS = _; rw [HW.out, if_neg (by decide), if_neg (by decide), if_pos rfl]
    clear HC HW
    go_wp2
    go_ret
    exact ⟨_, rfl, by rw [HWE.out]; exact (GOwn.fresh okS W [⟨#[112, 105, 110, 103]⟩] [.string ⟨#[112, 105, 110, 103]⟩] rfl (by simp)).down (by have := HWs.out; omega), g_on HB.out (g_alloc _ _)⟩
  · have HWE : Hid (WS = [⟨#[113, 117, 105, 116]⟩]) := by show WS = _; rw [HW.out, if_neg (by decide), if_neg (by decide), if_neg (by decide), if_pos rfl]
    clear HC HW
    go_wp2
    go_ret
    exact ⟨_, rfl, by rw [HWE.out]; exact (GOwn.fresh okS W [⟨#[113, 117, 105, 116]⟩] [.string ⟨#[113, 117, 105, 116]⟩] rfl (by simp)).down (by have := HWs.out; omega), g_on HB.out (g_alloc _ _)⟩

/-- strings.Join of a row of its own, by blanks -/
theorem joinW_len (M : Nat) : ∀ L : List ByteArray, (∀ x ∈ L, x.size ≤ M) → (L.flatMap fun x => 32 :: bl x).length ≤ L.length * (M + 1)
  | [], _ => by simp
  | a :: L, h => by
    have h1 := h a (by simp)
    have h2 := joinW_len M L (fun x hx => h x (by simp [hx]))
    rw [List.flatMap_cons, List.length_append, List.length_cons, List.length_cons, bl_len, Nat.add_mul]
    omega
theorem join_any14 (L : List ByteArray) (base : Nat) (v : Value) (w : World) (hO : GOwn ES w base v L) (hne : L ≠ []) (hl : L.length ≤ 20) (hs : ∀ x ∈ L, x.size ≤ 1000) :
    Calls Tryd.prog 23 #[v, .string ⟨#[32]⟩] w fun e w' => e = .returned (.string ⟨(joinW L).toArray⟩) ∧ Below w.heap.size w w' := by
  rcases hO.parts okS with ⟨_, e⟩ | ⟨g, cap, cur, rfl, hb, hg, hsz, hn, hm, hc⟩
  · exact absurd e hne
  · have hlt : g < w.heap.size := (Array.getElem?_eq_some_iff.1 hg).1
    have hlen : (joinW L).length ≤ 140737488355328 := by
      cases L with
      | nil => exact absurd rfl hne
      | cons a L =>
        rw [joinW_cons, List.length_append, bl_len]
        have h1 := hs a (by simp)
        have h2 := joinW_len 1000 L (fun x hx => hs x (by simp [hx]))
        have h3 : L.length * 1001 ≤ 20 * 1001 := Nat.mul_le_mul_right _ (by simp at hl; omega)
        omega
    exact Any.strings_Join Tryd.layJoin joinExtra g 0 cap L ⟨#[32]⟩ w (fun j x hx => by
      have hj : j < L.length := (List.getElem?_eq_some_iff.1 hx).1
      have h1 := hc j hj 0 (by decide)
      rw [List.getElem?_eq_getElem hj] at hx
      have hx2 := Option.some.inj hx
      rw [hx2] at h1
      simpa [ES] using h1) hlt (by omega) hn hlen

theorem dec_size {n : Nat} (h : n < 18446744073709551616) : (dec (n : Int)).size ≤ 20 := by
  have e := bl_len (dec (n : Int))
  have e2 : bl (dec (n : Int)) = decL n := by unfold dec; rw [bl_mk]; rfl
  rw [e2] at e
  rw [← e]
  exact decL_len 19 n (Nat.lt_of_lt_of_le h (by decide))
theorem dec_size' {n : Int} (h0 : 0 ≤ n) (h : n < 18446744073709551616) : (dec n).size ≤ 20 := by
  obtain ⟨k, rfl⟩ : ∃ k : Nat, n = k := ⟨n.toNat, by omega⟩
  exact dec_size (by omega)
theorem kw_size (k : Int) : (kw k).size ≤ 7 := by
  unfold kw
  repeat' split
  all_goals decide
theorem words_small {r : Rq} (hE : r.wrE = 0) (hf : r.Fit) : r.words ≠ [] ∧ r.words.length ≤ 20 ∧ ∀ x ∈ r.words, x.size ≤ 1000 := by
  obtain ⟨hline, hcmd⟩ := wrE_zero hE
  have hks := hasLine_kinds hline
  obtain ⟨rk, c, rt, secret, on, close⟩ := r
  unfold Rq.words
  dsimp only at *
  rcases hks with rfl | ⟨rfl, t0, t4, hs16⟩ | rfl | rfl | rfl
  · rw [if_neg (by decide), if_neg (by decide), if_neg (by decide), if_neg (by decide)]
    obtain ⟨p1, p2, p3, p4, p5, p6, p7⟩ := Cm.may_parts14 (hcmd rfl).1
    have hd : ∀ n : Int, 0 ≤ n → n < 18446744073709551616 → (dec n).size ≤ 1000 := fun n h0 h1 => Nat.le_trans (dec_size' h0 h1) (by decide)
    have h1 := hd c.flags hf.f0 (Int.lt_trans hf.f1 (by decide))
    have h2 := hd c.life p5 (by omega)
    have h3 := hd (c.value.size : Int) (by omega) (by omega)
    have h4 := hd c.unique hf.u0 hf.u1
    have h5 := hd c.by_ hf.b0 hf.b1
    have ha : c.args.length ≤ 4 ∧ ∀ x ∈ c.args, x.size ≤ 1000 := by
      unfold Cm.args
      repeat' split
      all_goals simp [h1, h2, h3, h4, h5]
    unfold Cm.words
    refine ⟨by simp, by simp; have := ha.1; omega, fun x hx => ?_⟩
    rcases List.mem_cons.1 hx with rfl | hx
    · exact Nat.le_trans (kw_size _) (by decide)
    · rcases List.mem_append.1 hx with hx | hx
      · exact Nat.le_trans (p7 x hx) (by decide)
      · exact ha.2 x hx
  · rw [if_pos rfl]
    have h1 : (dec rt).size ≤ 1000 := Nat.le_trans (dec_size' t0 (by omega)) (by decide)
    refine ⟨by simp, by simp, ?_⟩
    simp [h1]
    exact ⟨by decide, by omega⟩
  · rw [if_neg (by decide), if_pos rfl]
    refine ⟨by simp, by simp, ?_⟩
    cases on <;> simp <;> decide
  · rw [if_neg (by decide), if_neg (by decide), if_pos rfl]
    refine ⟨by simp, by simp, ?_⟩
    simp
    decide
  · rw [if_neg (by decide), if_neg (by decide), if_neg (by decide), if_pos rfl]
    refine ⟨by simp, by simp, ?_⟩
    simp
    decide
end Go.Proofs.YtldnkminhppngaaDoor
