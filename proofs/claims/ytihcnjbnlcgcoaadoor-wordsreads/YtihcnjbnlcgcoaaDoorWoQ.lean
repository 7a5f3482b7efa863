/-
  lastOf of package words.
-/
import Derived.Test.YtihcnjbnlcgcoaaDoorWoO
namespace Go.Proofs.YtihcnjbnlcgcoaaDoor
open Go.Proofs.YtihcnjbnlcgcoaaDoor.It
open Go.RowKit
set_option linter.unusedSimpArgs false
set_option linter.unusedVariables false
set_option maxRecDepth 100000

/-- what lastOf answers -/
structure LastR (w w' : World) (o : Option An) (v : Value) (rd : Int) (e : Ending) : Prop where
  ex : (o = none ∧ e = .returned (.tuple #[.agg (az.arr (.slice none 0 0)), .int .i64 0, .int .i64 8])) ∨ ∃ a, o = some a ∧ e = .returned (.tuple #[.agg (a.arr v), .int .i64 rd, .int .i64 0])
  below : Below w.heap.size w w'

set_option maxHeartbeats 4000000 in
theorem wlastOf_any (s : ByteArray) (hs : s.size ≤ 600) (of_ : Int) (V : World) (hr : Rt V) (lo : Option Addr) (L : List Im) (n cap : Nat) (hn : n = L.length) (hn9 : n ≤ 9223372036854775807) (rd : Int) :
    Calls Tryd.prog 21 #[.string s, .int .u8 of_, .slice lo n cap, .int .i64 rd] V fun e V' => LastR V V' (lastOf (bl s) of_ L) (.slice lo n cap) rd e := by
  obtain ⟨W, hW⟩ : ∃ W, W = V.alloc (.cells #[.int .u8 0, .int .u8 0, .int .u8 0, .slice none 0 0, .int .u64 0, .bool false, .string ⟨#[]⟩] 27) := ⟨_, rfl⟩
  have hB0 : Below V.heap.size V W := by rw [hW]; exact g_alloc _ _
  have HB : Hid (Below V.heap.size V W) := hB0
  have HX : Hid (GBx W V.heap.size anz) := by rw [hW]; exact GBx.made V anz _
  have HRT := Hid.mk2 (hr.below hB0)
  have HA := Hid.mk2 (fun W h => wanswerOf_any s hs of_ W h)
  have HLO : Hid (lastOf (bl s) of_ L = match ansOf of_ s with | none => none | some a => if L ≠ [] ∧ s ≠ sEND then none else some { a with items := L }) := by
    have e : mkB (bl s) = s := mk_bl s
    show lastOf (bl s) of_ L = _
    unfold lastOf
    rw [e]
    cases ansOf of_ s <;> rfl
  obtain ⟨O, hO⟩ : ∃ O, O = lastOf (bl s) of_ L := ⟨_, rfl⟩
  obtain ⟨R, hR⟩ : ∃ R, R = ansOf of_ s := ⟨_, rfl⟩
  rw [← hO, ← hR] at HLO
  rw [← hO]
  rw [← hR] at HA
  have HN := Hid.mk2 hn
  have hni : (n : Int) ≤ 9223372036854775807 := by omega
  clear hO hR hB0 hr hs hn hn9
  by_cases hL : n = 0
  · have hL0 : L = [] := List.eq_nil_of_length_eq_zero (by rw [← HN.out]; exact hL)
    subst hL
    go_enter Tryd.func21, Tryd.ntmps21
    go_upto_region 1 with (fail)
    rw [← hW]
    clear hW
    go_upto_region 2 with (go_at_call 40; refine (HA.out _ HRT.out).mono ?_; rintro e w4 ⟨⟨a, b, rfl, hb⟩, hb4⟩; have HBB := Hid.mk2 hb; have HX4 := Hid.mk2 (HX.out.below hb4); have HB4 := Hid.mk2 (g_on HB.out hb4); have hl4 := Nat.lt_of_lt_of_le HX.out.lt hb4.size; have HL4 := Hid.mk2 hl4; clear hb hb4 hl4; obtain ⟨ak, ao, ar, ai, an, ay, akey⟩ := a; simp only [An.arr])
    obtain ⟨W5, hW5⟩ : ∃ W5, W5 = w4.alloc (.cells #[.int .u8 ak, .int .u8 ao, .int .u8 ar, .slice none 0 0, .int .u64 an, .bool ay, .string akey] 27) := ⟨_, rfl⟩
    have HX5 : Hid (GBx W5 V.heap.size anz) := by rw [hW5]; exact HX4.out.alloc _
    have HY5 : Hid (GBx W5 w4.heap.size [.int .u8 ak, .int .u8 ao, .int .u8 ar, .slice none 0 0, .int .u64 an, .bool ay, .string akey]) := by rw [hW5]; exact GBx.made w4 [.int .u8 ak, .int .u8 ao, .int .u8 ar, .slice none 0 0, .int .u64 an, .bool ay, .string akey] _
    have HB5 : Hid (Below V.heap.size V W5) := by rw [hW5]; exact g_on HB4.out (g_alloc _ _)
    (first | rw [← hW5] | (unfold An.arr; dsimp only; rw [← hW5]))
    clear hW5
    obtain ⟨Y, hY⟩ : ∃ Y, Y = w4.heap.size := ⟨_, rfl⟩
    rw [← hY] at HY5 HL4 ⊢
    clear hY
    rcases HBB.out with ⟨rfl, h⟩ | ⟨rfl, h⟩
    · have HO : Hid (O = some ⟨ak, ao, ar, L, an, ay, akey⟩) := by show _ = _; rw [HLO.out, h]; exact if_neg (fun hh => hh.1 hL0)
      clear HLO HBB h HN hL0
      have y3 := HY5.out.c 3 (by simp)
      simp only [List.getElem_cons_zero, List.getElem_cons_succ] at y3
      have yf3 := HY5.out.f 3
      go_upto_region 5 with (fail)
      obtain ⟨W6, hW6⟩ : ∃ W6, W6 = W5.setCell ⟨Y, 3, none⟩ (.slice lo 0 cap) := ⟨_, rfl⟩
      have hnq2 : Y ≠ V.heap.size := by have := HL4.out; omega
      have HX6 : Hid (GBx W6 V.heap.size anz) := by rw [hW6]; exact HX5.out.other 3 _ hnq2
      have HY6 : Hid (GBx W6 Y [.int .u8 ak, .int .u8 ao, .int .u8 ar, .slice lo 0 cap, .int .u64 an, .bool ay, .string akey]) := by rw [hW6]; exact HY5.out.set 3 (.slice lo 0 cap) (by simp)
      have HB6 : Hid (Below V.heap.size V W6) := by rw [hW6]; exact HB5.out.setCell (p := ⟨Y, 3, none⟩) (Nat.le_of_lt HL4.out) (.slice lo 0 cap)
      (first | rw [← hW6] | simp only [← hW6])
      clear hW6 hnq2 y3 yf3
      have z0 := HX6.out.c 0 (by simp [anz])
      have z1 := HX6.out.c 1 (by simp [anz])
      have z2 := HX6.out.c 2 (by simp [anz])
      have z3 := HX6.out.c 3 (by simp [anz])
      have z4 := HX6.out.c 4 (by simp [anz])
      have z5 := HX6.out.c 5 (by simp [anz])
      have z6 := HX6.out.c 6 (by simp [anz])
      simp only [anz, List.getElem_cons_zero, List.getElem_cons_succ] at z0 z1 z2 z3 z4 z5 z6
      have zf0 := HX6.out.f 0
      have zf1 := HX6.out.f 1
      have zf2 := HX6.out.f 2
      have zf3 := HX6.out.f 3
      have zf4 := HX6.out.f 4
      have zf5 := HX6.out.f 5
      have zf6 := HX6.out.f 6
      have y0 := HY6.out.c 0 (by simp [Im.cl])
      have y1 := HY6.out.c 1 (by simp [Im.cl])
      have y2 := HY6.out.c 2 (by simp [Im.cl])
      have y3 := HY6.out.c 3 (by simp [Im.cl])
      have y4 := HY6.out.c 4 (by simp [Im.cl])
      have y5 := HY6.out.c 5 (by simp [Im.cl])
      have y6 := HY6.out.c 6 (by simp [Im.cl])
      simp only [Im.cl, List.getElem_cons_zero, List.getElem_cons_succ] at y0 y1 y2 y3 y4 y5 y6
      go_wp2
      refine bodyPost_ret (res_cell3 rfl rfl (load_var (zset7 HX6.out rfl _ _ _ _ _ _ _) 27 _ Tryd.underlying27 rfl answer_info)) rfl ?_
      exact ⟨.inr ⟨_, HO.out, rfl⟩, zbelow7 HB6.out (Nat.le_refl _) _ _ _ _ _ _ _⟩
    · have HO : Hid (O = none) := by show _ = _; rw [HLO.out, h]
      clear HLO HBB h HN hL0
      have z0 := HX5.out.c 0 (by simp [anz])
      have z1 := HX5.out.c 1 (by simp [anz])
      have z2 := HX5.out.c 2 (by simp [anz])
      have z3 := HX5.out.c 3 (by simp [anz])
      have z4 := HX5.out.c 4 (by simp [anz])
      have z5 := HX5.out.c 5 (by simp [anz])
      have z6 := HX5.out.c 6 (by simp [anz])
      simp only [anz, List.getElem_cons_zero, List.getElem_cons_succ] at z0 z1 z2 z3 z4 z5 z6
      have zf0 := HX5.out.f 0
      have zf1 := HX5.out.f 1
      have zf2 := HX5.out.f 2
      have zf3 := HX5.out.f 3
      have zf4 := HX5.out.f 4
      have zf5 := HX5.out.f 5
      have zf6 := HX5.out.f 6
      go_wp2
      refine bodyPost_ret (res_cell3 rfl rfl (load_var (zset7 HX5.out rfl _ _ _ _ _ _ _) 27 _ Tryd.underlying27 rfl answer_info)) rfl ?_
      exact ⟨.inl ⟨HO.out, rfl⟩, zbelow7 HB5.out (Nat.le_refl _) _ _ _ _ _ _ _⟩
  · have hL0 : L ≠ [] := by intro e; apply hL; rw [HN.out, e]; rfl
    have hLi : (0 : Int) < (n : Int) := by omega
    by_cases he : s = sEND
    · have q1 : (s.toList == [69, 78, 68]) = true := seq_l he
      have q2 : (s.toList == (⟨#[69, 78, 68]⟩ : ByteArray).toList) = true := by rw [he]; exact beq_self_eq_true _
      have HE := Hid.mk2 he
      clear he
      go_enter Tryd.func21, Tryd.ntmps21
      go_upto_region 1 with (fail)
      rw [← hW]
      clear hW
      go_upto_region 2 with (go_at_call 40; refine (HA.out _ HRT.out).mono ?_; rintro e w4 ⟨⟨a, b, rfl, hb⟩, hb4⟩; have HBB := Hid.mk2 hb; have HX4 := Hid.mk2 (HX.out.below hb4); have HB4 := Hid.mk2 (g_on HB.out hb4); have hl4 := Nat.lt_of_lt_of_le HX.out.lt hb4.size; have HL4 := Hid.mk2 hl4; clear hb hb4 hl4; obtain ⟨ak, ao, ar, ai, an, ay, akey⟩ := a; simp only [An.arr])
      obtain ⟨W5, hW5⟩ : ∃ W5, W5 = w4.alloc (.cells #[.int .u8 ak, .int .u8 ao, .int .u8 ar, .slice none 0 0, .int .u64 an, .bool ay, .string akey] 27) := ⟨_, rfl⟩
      have HX5 : Hid (GBx W5 V.heap.size anz) := by rw [hW5]; exact HX4.out.alloc _
      have HY5 : Hid (GBx W5 w4.heap.size [.int .u8 ak, .int .u8 ao, .int .u8 ar, .slice none 0 0, .int .u64 an, .bool ay, .string akey]) := by rw [hW5]; exact GBx.made w4 [.int .u8 ak, .int .u8 ao, .int .u8 ar, .slice none 0 0, .int .u64 an, .bool ay, .string akey] _
      have HB5 : Hid (Below V.heap.size V W5) := by rw [hW5]; exact g_on HB4.out (g_alloc _ _)
      (first | rw [← hW5] | (unfold An.arr; dsimp only; rw [← hW5]))
      clear hW5
      obtain ⟨Y, hY⟩ : ∃ Y, Y = w4.heap.size := ⟨_, rfl⟩
      rw [← hY] at HY5 HL4 ⊢
      clear hY
      rcases HBB.out with ⟨rfl, h⟩ | ⟨rfl, h⟩
      · have HO : Hid (O = some ⟨ak, ao, ar, L, an, ay, akey⟩) := by show _ = _; rw [HLO.out, h]; exact if_neg (fun hh => hh.2 HE.out)
        clear HLO HBB h HN hL0
        have y3 := HY5.out.c 3 (by simp)
        simp only [List.getElem_cons_zero, List.getElem_cons_succ] at y3
        have yf3 := HY5.out.f 3
        go_upto_region 5 with (fail)
        obtain ⟨W6, hW6⟩ : ∃ W6, W6 = W5.setCell ⟨Y, 3, none⟩ (.slice lo n cap) := ⟨_, rfl⟩
        have hnq2 : Y ≠ V.heap.size := by have := HL4.out; omega
        have HX6 : Hid (GBx W6 V.heap.size anz) := by rw [hW6]; exact HX5.out.other 3 _ hnq2
        have HY6 : Hid (GBx W6 Y [.int .u8 ak, .int .u8 ao, .int .u8 ar, .slice lo n cap, .int .u64 an, .bool ay, .string akey]) := by rw [hW6]; exact HY5.out.set 3 (.slice lo n cap) (by simp)
        have HB6 : Hid (Below V.heap.size V W6) := by rw [hW6]; exact HB5.out.setCell (p := ⟨Y, 3, none⟩) (Nat.le_of_lt HL4.out) (.slice lo n cap)
        (first | rw [← hW6] | simp only [← hW6])
        clear hW6 hnq2 y3 yf3
        have z0 := HX6.out.c 0 (by simp [anz])
        have z1 := HX6.out.c 1 (by simp [anz])
        have z2 := HX6.out.c 2 (by simp [anz])
        have z3 := HX6.out.c 3 (by simp [anz])
        have z4 := HX6.out.c 4 (by simp [anz])
        have z5 := HX6.out.c 5 (by simp [anz])
        have z6 := HX6.out.c 6 (by simp [anz])
        simp only [anz, List.getElem_cons_zero, List.getElem_cons_succ] at z0 z1 z2 z3 z4 z5 z6
        have zf0 := HX6.out.f 0
        have zf1 := HX6.out.f 1
        have zf2 := HX6.out.f 2
        have zf3 := HX6.out.f 3
        have zf4 := HX6.out.f 4
        have zf5 := HX6.out.f 5
        have zf6 := HX6.out.f 6
        have y0 := HY6.out.c 0 (by simp [Im.cl])
        have y1 := HY6.out.c 1 (by simp [Im.cl])
        have y2 := HY6.out.c 2 (by simp [Im.cl])
        have y3 := HY6.out.c 3 (by simp [Im.cl])
        have y4 := HY6.out.c 4 (by simp [Im.cl])
        have y5 := HY6.out.c 5 (by simp [Im.cl])
        have y6 := HY6.out.c 6 (by simp [Im.cl])
        simp only [Im.cl, List.getElem_cons_zero, List.getElem_cons_succ] at y0 y1 y2 y3 y4 y5 y6
        go_wp2
        refine bodyPost_ret (res_cell3 rfl rfl (load_var (zset7 HX6.out rfl _ _ _ _ _ _ _) 27 _ Tryd.underlying27 rfl answer_info)) rfl ?_
        exact ⟨.inr ⟨_, HO.out, rfl⟩, zbelow7 HB6.out (Nat.le_refl _) _ _ _ _ _ _ _⟩
      · have HO : Hid (O = none) := by show _ = _; rw [HLO.out, h]
        clear HLO HBB h HN hL0
        have z0 := HX5.out.c 0 (by simp [anz])
        have z1 := HX5.out.c 1 (by simp [anz])
        have z2 := HX5.out.c 2 (by simp [anz])
        have z3 := HX5.out.c 3 (by simp [anz])
        have z4 := HX5.out.c 4 (by simp [anz])
        have z5 := HX5.out.c 5 (by simp [anz])
        have z6 := HX5.out.c 6 (by simp [anz])
        simp only [anz, List.getElem_cons_zero, List.getElem_cons_succ] at z0 z1 z2 z3 z4 z5 z6
        have zf0 := HX5.out.f 0
        have zf1 := HX5.out.f 1
        have zf2 := HX5.out.f 2
        have zf3 := HX5.out.f 3
        have zf4 := HX5.out.f 4
        have zf5 := HX5.out.f 5
        have zf6 := HX5.out.f 6
        go_wp2
        refine bodyPost_ret (res_cell3 rfl rfl (load_var (zset7 HX5.out rfl _ _ _ _ _ _ _) 27 _ Tryd.underlying27 rfl answer_info)) rfl ?_
        exact ⟨.inl ⟨HO.out, rfl⟩, zbelow7 HB5.out (Nat.le_refl _) _ _ _ _ _ _ _⟩
    · have q1 : (s.toList == [69, 78, 68]) = false := sne_l he
      have q2 : (s.toList == (⟨#[69, 78, 68]⟩ : ByteArray).toList) = false := sne_b he
      have HE := Hid.mk2 he
      clear he
      go_enter Tryd.func21, Tryd.ntmps21
      go_upto_region 1 with (fail)
      rw [← hW]
      clear hW
      go_upto_region 2 with (go_at_call 40; refine (HA.out _ HRT.out).mono ?_; rintro e w4 ⟨⟨a, b, rfl, hb⟩, hb4⟩; have HBB := Hid.mk2 hb; have HX4 := Hid.mk2 (HX.out.below hb4); have HB4 := Hid.mk2 (g_on HB.out hb4); have hl4 := Nat.lt_of_lt_of_le HX.out.lt hb4.size; have HL4 := Hid.mk2 hl4; clear hb hb4 hl4; obtain ⟨ak, ao, ar, ai, an, ay, akey⟩ := a; simp only [An.arr])
      obtain ⟨W5, hW5⟩ : ∃ W5, W5 = w4.alloc (.cells #[.int .u8 ak, .int .u8 ao, .int .u8 ar, .slice none 0 0, .int .u64 an, .bool ay, .string akey] 27) := ⟨_, rfl⟩
      have HX5 : Hid (GBx W5 V.heap.size anz) := by rw [hW5]; exact HX4.out.alloc _
      have HY5 : Hid (GBx W5 w4.heap.size [.int .u8 ak, .int .u8 ao, .int .u8 ar, .slice none 0 0, .int .u64 an, .bool ay, .string akey]) := by rw [hW5]; exact GBx.made w4 [.int .u8 ak, .int .u8 ao, .int .u8 ar, .slice none 0 0, .int .u64 an, .bool ay, .string akey] _
      have HB5 : Hid (Below V.heap.size V W5) := by rw [hW5]; exact g_on HB4.out (g_alloc _ _)
      (first | rw [← hW5] | (unfold An.arr; dsimp only; rw [← hW5]))
      clear hW5
      obtain ⟨Y, hY⟩ : ∃ Y, Y = w4.heap.size := ⟨_, rfl⟩
      rw [← hY] at HY5 HL4 ⊢
      clear hY
      rcases HBB.out with ⟨rfl, h⟩ | ⟨rfl, h⟩
      · have HO : Hid (O = none) := by show _ = _; rw [HLO.out, h]; exact if_pos ⟨hL0, HE.out⟩
        clear HLO HBB h HN hL0
        have z0 := HX5.out.c 0 (by simp [anz])
        have z1 := HX5.out.c 1 (by simp [anz])
        have z2 := HX5.out.c 2 (by simp [anz])
        have z3 := HX5.out.c 3 (by simp [anz])
        have z4 := HX5.out.c 4 (by simp [anz])
        have z5 := HX5.out.c 5 (by simp [anz])
        have z6 := HX5.out.c 6 (by simp [anz])
        simp only [anz, List.getElem_cons_zero, List.getElem_cons_succ] at z0 z1 z2 z3 z4 z5 z6
        have zf0 := HX5.out.f 0
        have zf1 := HX5.out.f 1
        have zf2 := HX5.out.f 2
        have zf3 := HX5.out.f 3
        have zf4 := HX5.out.f 4
        have zf5 := HX5.out.f 5
        have zf6 := HX5.out.f 6
        go_wp2
        refine bodyPost_ret (res_cell3 rfl rfl (load_var (zset7 HX5.out rfl _ _ _ _ _ _ _) 27 _ Tryd.underlying27 rfl answer_info)) rfl ?_
        exact ⟨.inl ⟨HO.out, rfl⟩, zbelow7 HB5.out (Nat.le_refl _) _ _ _ _ _ _ _⟩
      · have HO : Hid (O = none) := by show _ = _; rw [HLO.out, h]
        clear HLO HBB h HN hL0
        have z0 := HX5.out.c 0 (by simp [anz])
        have z1 := HX5.out.c 1 (by simp [anz])
        have z2 := HX5.out.c 2 (by simp [anz])
        have z3 := HX5.out.c 3 (by simp [anz])
        have z4 := HX5.out.c 4 (by simp [anz])
        have z5 := HX5.out.c 5 (by simp [anz])
        have z6 := HX5.out.c 6 (by simp [anz])
        simp only [anz, List.getElem_cons_zero, List.getElem_cons_succ] at z0 z1 z2 z3 z4 z5 z6
        have zf0 := HX5.out.f 0
        have zf1 := HX5.out.f 1
        have zf2 := HX5.out.f 2
        have zf3 := HX5.out.f 3
        have zf4 := HX5.out.f 4
        have zf5 := HX5.out.f 5
        have zf6 := HX5.out.f 6
        go_wp2
        refine bodyPost_ret (res_cell3 rfl rfl (load_var (zset7 HX5.out rfl _ _ _ _ _ _ _) 27 _ Tryd.underlying27 rfl answer_info)) rfl ?_
        exact ⟨.inl ⟨HO.out, rfl⟩, zbelow7 HB5.out (Nat.le_refl _) _ _ _ _ _ _ _⟩
end Go.Proofs.YtihcnjbnlcgcoaaDoor
