/-
  The document's item of a line's words.
-/
import Derived.Test.YtihcnjbnlcgcoaaDoorWqA
import Derived.Test.YtihcnjbnlcgcoaaDoorWqB
import Derived.Test.YtihcnjbnlcgcoaaDoorWoR
namespace Go.Proofs.YtihcnjbnlcgcoaaDoor
open Go.Proofs.YtihcnjbnlcgcoaaDoor.It
open Go.RowKit
set_option linter.unusedSimpArgs false
set_option linter.unusedVariables false
set_option maxRecDepth 100000

/-- what a line's words tell of an item -/
def qitemD (l : List ByteArray) : Option (Im × Nat) := match l with | [] => none | a :: t => if a = sVALUE then itemW t else none
structure QItemR (l : List ByteArray) (e : Ending) : Prop where
  ex : ∃ (x : Im) (nn : Int) (b : Bool), e = .returned (.tuple #[.agg #[.string x.key, .string x.value, .int .u32 x.flags, .int .i64 x.till, .int .u64 x.unique], .int .i64 nn, .bool b]) ∧ (b = true → ∃ m : Nat, nn = (m : Int) ∧ qitemD l = some (x, m)) ∧ (b = false → qitemD l = none)
theorem QItemR.no {l : List ByteArray} (h : qitemD l = none) (x : Im) (nn : Int) : QItemR l (.returned (.tuple #[.agg #[.string x.key, .string x.value, .int .u32 x.flags, .int .i64 x.till, .int .u64 x.unique], .int .i64 nn, .bool false])) := ⟨x, nn, false, rfl, fun e => by simp at e, fun _ => h⟩
theorem qitemD_len {l : List ByteArray} (h : l.length ≠ 6) : qitemD l = none := by
  unfold qitemD
  split
  · rfl
  · rename_i a t
    split
    · unfold itemW
      split
      · simp at h
      · rfl
    · rfl
theorem qitemD_six (l0 k f t u v : ByteArray) : qitemD [l0, k, f, t, u, v] = if l0 = sVALUE then (if wordOk k 32 = true ∧ numU 4294967295 f = true ∧ numU 1099511627776 t = true ∧ numU 18446744073709551615 u = true ∧ numU 512 v = true then some (⟨k, ⟨#[]⟩, (numV (bl f) : Int), (numV (bl t) : Int), (numV (bl u) : Int)⟩, numV (bl v)) else none) else none := rfl
theorem qwrap32 {n : Int} (h0 : 0 ≤ n) (h1 : n ≤ 4294967295) : n % 4294967296 = n := by omega
theorem qwrap64 {n : Int} (h0 : 0 ≤ n) (h1 : n ≤ 9000000000000000000) : wrap64 n = n := by
  unfold wrap64
  first | omega | (simp; omega) | (simp only [IntKind.wrap_i64]; omega)
theorem qnumU (s : ByteArray) (m : Nat) (hm : m < 18446744073709551616) : (isNum (bl s) && decide ((numV (bl s) : Int) ≤ (m : Int))) = numU m s := by
  unfold numU
  congr 1
  simp
set_option maxHeartbeats 8000000 in
theorem ritem15_any (w : World) (lo : Option Addr) (l : List ByteArray) (lc : Nat) (hl : GRd ES w lo l lc) (hs : ∀ x ∈ l, x.size ≤ maxLen) :
    Calls Tryd.prog 34 #[.slice lo l.length lc] w fun e w' => QItemR l e ∧ Below w.heap.size w w' := by
  obtain ⟨W, hW⟩ : ∃ W, W = w.alloc (.cells #[.string ⟨#[]⟩, .string ⟨#[]⟩, .int .u32 0, .int .i64 0, .int .u64 0] 53) := ⟨_, rfl⟩
  have HB : Hid (Below w.heap.size w W) := by rw [hW]; exact g_alloc _ _
  have HX : Hid (GBx W w.heap.size [.string ⟨#[]⟩, .string ⟨#[]⟩, .int .u32 0, .int .i64 0, .int .u64 0]) := by rw [hW]; exact GBx.made w [.string ⟨#[]⟩, .string ⟨#[]⟩, .int .u32 0, .int .i64 0, .int .u64 0] _
  have HL := Hid.mk2 (hl.below HB.out)
  have zf0 := HX.out.f 0
  have zf1 := HX.out.f 1
  have zf2 := HX.out.f 2
  have zf3 := HX.out.f 3
  have zf4 := HX.out.f 4
  have zlt := HX.out.lt
  have z0 := HX.out.c 0 (by simp)
  have z1 := HX.out.c 1 (by simp)
  have z2 := HX.out.c 2 (by simp)
  have z3 := HX.out.c 3 (by simp)
  have z4 := HX.out.c 4 (by simp)
  simp only [List.getElem_cons_zero, List.getElem_cons_succ] at z0 z1 z2 z3 z4
  by_cases h6 : l.length = 6
  case neg =>
    have HD := Hid.mk2 (qitemD_len h6)
    have hb : ((l.length : Int) != 6) = true := by simp; omega
    have HE := Hid.mk2 (fun nn => QItemR.no HD.out imz nn)
    clear h6 hs HL hl
    go_enter Tryd.func34, Tryd.ntmps34
    go_upto_region 1 with (fail)
    rw [← hW]
    clear hW
    go_wp2
    refine bodyPost_ret (res_cell3 rfl rfl (load_var (zset HX.out rfl _ _ _ _ _) 53 _ Tryd.underlying53 rfl item_info)) rfl ?_
    exact ⟨HE.out _, zbelow HB.out (Nat.le_refl _) _ _ _ _ _⟩
  match l, h6 with
  | [l0, k, f, t, u, v], _ =>
  obtain ⟨b, off, rfl, hbl, hcs⟩ := HL.out.str (by simp)
  have r0 := hcs 0 (by simp)
  have r1 := hcs 1 (by simp)
  have r2 := hcs 2 (by simp)
  have r3 := hcs 3 (by simp)
  have r4 := hcs 4 (by simp)
  have r5 := hcs 5 (by simp)
  simp only [List.getElem_cons_zero, List.getElem_cons_succ] at r0 r1 r2 r3 r4 r5
  rw [Nat.add_zero] at r0
  have HP := Hid.mk2 (fun V => plain_any k 32 (hs k (by simp)) (by decide) V)
  have HI : Hid (qitemD [l0, k, f, t, u, v] = _) := qitemD_six l0 k f t u v
  have HNO := Hid.mk2 (fun h x nn => @QItemR.no [l0, k, f, t, u, v] h x nn)
  obtain ⟨ID, hID⟩ : ∃ ID, ID = qitemD [l0, k, f, t, u, v] := ⟨_, rfl⟩
  clear hs hl HL hcs
  go_enter Tryd.func34, Tryd.ntmps34
  go_upto_region 1 with (fail)
  rw [← hW]
  clear hW
  by_cases e0 : l0 = sVALUE
  case neg =>
    have HD : Hid (qitemD [l0, k, f, t, u, v] = none) := by show _ = _; rw [HI.out, if_neg e0]
    have q1 := sne_l (s := l0) (l := [86, 65, 76, 85, 69]) e0
    have q2 : ¬ l0.toList = [86, 65, 76, 85, 69] := by simpa using q1
    have HE := Hid.mk2 (fun nn => HNO.out HD.out imz nn)
    clear e0 HI
    go_wp2
    refine bodyPost_ret (res_cell3 rfl rfl (load_var (zset HX.out rfl _ _ _ _ _) 53 _ Tryd.underlying53 rfl item_info)) rfl ?_
    exact ⟨HE.out _, zbelow HB.out (Nat.le_refl _) _ _ _ _ _⟩
  have q1 := seq_l (s := l0) (l := [86, 65, 76, 85, 69]) e0
  have q2 : l0.toList = [86, 65, 76, 85, 69] := by simpa using q1
  have HI2 := Hid.mk2 (HI.out.trans (if_pos e0))
  clear HI e0
  obtain ⟨PK, hPK⟩ : ∃ P, P = wordOk k 32 := ⟨_, rfl⟩
  rw [← hPK] at HP HI2
  clear hPK
  cases PK with
  | false =>
    have HD : Hid (qitemD [l0, k, f, t, u, v] = none) := by show _ = _; rw [HI2.out, if_neg (by simp)]
    have HE := Hid.mk2 (fun nn => HNO.out HD.out imz nn)
    clear HI2
    go_wp2_with (go_at_call 52; refine (HP.out _).mono ?_; rintro e w1 ⟨rfl, hw1⟩; replace hw1 := hw1.symm; subst hw1)
    refine bodyPost_ret (res_cell3 rfl rfl (load_var (zset HX.out rfl _ _ _ _ _) 53 _ Tryd.underlying53 rfl item_info)) rfl ?_
    exact ⟨HE.out _, zbelow HB.out (Nat.le_refl _) _ _ _ _ _⟩
  | true =>
  have HNF := Hid.mk2 (fun V => rnum15_any f 4294967295 V)
  have HNT := Hid.mk2 (fun V => rnum15_any t 1099511627776 V)
  have HNU := Hid.mk2 (fun V => rnum15_any u 18446744073709551615 V)
  have HNV := Hid.mk2 (fun V => rnum15_any v 512 V)
  have HGO : Hid (∀ cf ct cu cv : Bool, cf = numU 4294967295 f → ct = numU 1099511627776 t → cu = numU 18446744073709551615 u → cv = numU 512 v → QItemR [l0, k, f, t, u, v] (.returned (.tuple #[.agg #[.string k, .string ⟨#[]⟩, .int .u32 ((numV (bl f) : Int) % 4294967296), .int .i64 (wrap64 (numV (bl t) : Int)), .int .u64 (numV (bl u) : Int)], .int .i64 (wrap64 (numV (bl v) : Int)), .bool (cf && ct && cu && cv)]) )) := by
    intro cf ct cu cv h1 h2 h3 h4
    refine ⟨⟨k, ⟨#[]⟩, ((numV (bl f) : Int) % 4294967296), wrap64 (numV (bl t) : Int), (numV (bl u) : Int)⟩, _, _, rfl, fun hb => ?_, fun hb => ?_⟩
    · simp only [Bool.and_eq_true] at hb
      obtain ⟨⟨⟨b1, b2⟩, b3⟩, b4⟩ := hb
      rw [b1] at h1; rw [b2] at h2; rw [b3] at h3; rw [b4] at h4
      have c1 := h1.symm; have c2 := h2.symm; have c4 := h4.symm
      unfold numU at c1 c2 c4
      simp only [Bool.and_eq_true, decide_eq_true_eq] at c1 c2 c4
      refine ⟨numV (bl v), qwrap64 (by omega) (by omega), ?_⟩
      rw [HI2.out, if_pos ⟨rfl, h1.symm, h2.symm, h3.symm, h4.symm⟩, qwrap32 (by omega) (by omega), qwrap64 (by omega) (by omega)]
    · rw [HI2.out, if_neg]
      rintro ⟨_, n1, n2, n3, n4⟩
      rw [h1, h2, h3, h4, n1, n2, n3, n4] at hb
      cases hb
  obtain ⟨cf, hcf⟩ : ∃ c, c = (isNum (bl f) && decide ((numV (bl f) : Int) ≤ 4294967295)) := ⟨_, rfl⟩
  obtain ⟨ct, hct⟩ : ∃ c, c = (isNum (bl t) && decide ((numV (bl t) : Int) ≤ 1099511627776)) := ⟨_, rfl⟩
  obtain ⟨cu, hcu⟩ : ∃ c, c = (isNum (bl u) && decide ((numV (bl u) : Int) ≤ 18446744073709551615)) := ⟨_, rfl⟩
  obtain ⟨cv, hcv⟩ : ∃ c, c = (isNum (bl v) && decide ((numV (bl v) : Int) ≤ 512)) := ⟨_, rfl⟩
  have HG2 := Hid.mk2 (HGO.out cf ct cu cv (by rw [hcf]; exact qnumU _ _ (by decide)) (by rw [hct]; exact qnumU _ _ (by decide)) (by rw [hcu]; exact qnumU _ _ (by decide)) (by rw [hcv]; exact qnumU _ _ (by decide)))
  rw [← hcf] at HNF
  rw [← hct] at HNT
  rw [← hcu] at HNU
  rw [← hcv] at HNV
  generalize (numV (bl f) : Int) = nf at HNF HG2
  generalize (numV (bl t) : Int) = nt at HNT HG2
  generalize (numV (bl u) : Int) = nu at HNU HG2
  generalize (numV (bl v) : Int) = nv at HNV HG2
  clear hcf hct hcu hcv HGO HNO HI2
  cases cf <;> cases ct <;> cases cu <;> cases cv
  all_goals
    go_wp2_with (first
      | (go_at_call 52; refine (HP.out _).mono ?_; rintro e w1 ⟨rfl, hw1⟩; replace hw1 := hw1.symm; subst hw1)
      | (go_at_call 58; (first | (with_reducible refine (HNF.out _).mono ?_) | (with_reducible refine (HNT.out _).mono ?_) | (with_reducible refine (HNU.out _).mono ?_) | (with_reducible refine (HNV.out _).mono ?_)); rintro e w1 ⟨rfl, hw1⟩; replace hw1 := hw1.symm; subst hw1))
    refine bodyPost_ret (res_cell3 rfl rfl (load_var (zset HX.out rfl _ _ _ _ _) 53 _ Tryd.underlying53 rfl item_info)) rfl ?_
    exact ⟨HG2.out, zbelow HB.out (Nat.le_refl _) _ _ _ _ _⟩
end Go.Proofs.YtihcnjbnlcgcoaaDoor
