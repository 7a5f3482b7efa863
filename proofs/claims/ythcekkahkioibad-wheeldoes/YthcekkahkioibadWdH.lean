/-
  Contract of the document's Tick (wheel).
-/
import Derived.Test.YthcekkahkioibadWdG
namespace Go.Proofs.Ythcekkahkioibad
open Go.RowKit
set_option linter.unusedSimpArgs false
set_option linter.unusedVariables false
set_option maxRecDepth 100000

theorem ncells_one1 (q : Nm) : ∀ u ∈ ncells q, u.oneCell' = true := fun u hu => ncells_one [q] u (by simpa using hu)
theorem app_n1 {w w0 : World} {ops : Array Oper} {rest : List Oper} {o : Oper} {a : Act} {Q : Exit → Act → World → Prop} (hgd : o.guard = none) (s x : Operand) (ho : o.op = .call { callee := .builtin .append, args := #[s, x], argTypes := #[30, 30] })
    (base : Nat) (v : Value) (T : List Nm) (hown : OwnN w0 base v T) (hs : a.eval s = v) (q : Nm) (hw : w = w0.alloc (.cells (ncells q).toArray 24)) (H : Nat) (hx : a.eval x = .slice (some ⟨H, 0, none⟩) 1 1) (hH : H = w0.heap.size)
    (hlen : T.length + 1 ≤ 100000000) (hbase : base ≤ w0.heap.size)
    (h : ∀ v' w', OwnN w' base v' (T ++ [q]) → Grew w0 w' v v' → wpList Try.prog ops Q rest (a.put o.dst v') w') : wpList Try.prog ops Q (o :: rest) a w := by
  subst hH hw
  obtain ⟨i0, hi, hz0, hz1, hz2⟩ := info_parts Try.infoName
  have hm : maxLen = 9223372036854775807 := rfl
  refine wpList_append_own_at _ hgd s x 30 ho base 24 i0 _ 2 24 Try.underlying30 hi hz0 hz1 hz2 rfl (by decide) v T.length (T.flatMap ncells) hs (World.ownsRow.alloc hown _) ⟨w0.heap.size, 0, none⟩ 1 1 (ncells q) hx (by rw [ncells_len]) ?_ (ncells_one1 q) (by omega) (by omega) (by simp; omega) ?_
  · intro j u hu
    rw [addr_add]
    simp only [Nat.zero_add]
    have hj := (List.getElem?_eq_some_iff.1 hu).1
    have : u = (ncells q)[j] := by simpa [hj] using hu.symm
    subst this
    simp [hj]
  · intro v' w' h1 h2 h3 h4
    refine h v' w' ?_ ⟨(World.grownBy_alloc w0 _ _).trans h2, fun k hk => ?_⟩
    · have e : (T ++ [q]).length = T.length + 1 := by simp
      unfold OwnN
      rw [e, List.flatMap_append, List.flatMap_singleton]
      exact h1
    · rcases h4 with h4 | h4
      · exact .inl (h4 ▸ hk)
      · rw [h4] at hk
        cases hk
        exact .inr (by simp)


theorem own_ne {w : World} {B : Nat} {d l : Value} {ns : List Nm} {T : List NU} (h : OwnN w B d ns) (k : OwnE w B l T) : ∀ g, d.ownBlock = some g → l.ownBlock ≠ some g := by
  intro g hg e
  rcases h.2 with ⟨rfl, _⟩ | ⟨g1, c1, cur1, rfl, _, hg1, _⟩
  · cases hg
  rcases k.2 with ⟨rfl, _⟩ | ⟨g2, c2, cur2, rfl, _, hg2, _⟩
  · cases e
  cases hg
  cases e
  rw [hg1] at hg2
  have := Option.some.inj hg2
  simp at this
/-- names of such as are due -/
def dueN (t : Nat) (D : List NU) : List Nm := (dueOf t D).map Prod.fst
theorem dueN_snoc (t : Nat) (T : List NU) (q : NU) : dueN t (T ++ [q]) = if q.2 ≤ (t : Int) then dueN t T ++ [q.1] else dueN t T := by
  unfold dueN
  rw [due_snoc]
  split <;> simp
theorem due_le (t : Nat) (D : List NU) : (dueOf t D).length ≤ D.length := List.length_filter_le _ _
theorem rest_le (t : Nat) (D : List NU) : (restOf t D).length ≤ D.length := List.length_filter_le _ _
theorem dueN_le (t : Nat) (D : List NU) : (dueN t D).length ≤ D.length := by unfold dueN; rw [List.length_map]; exact due_le t D
theorem OwnN.set2 {w : World} {base X : Nat} {v a b : Value} {T : List Nm} (h : OwnN w base v T) (hX : X < base) : OwnN ((w.setCell ⟨X, 0, none⟩ a).setCell ⟨X, 1, none⟩ b) base v T :=
  h.same (fun g hg => set2_heap w X a b (by have := (h.lt g hg).1; omega))
theorem OwnN.down {w : World} {b b' : Nat} {v : Value} {T : List Nm} (h : OwnN w b v T) (hb : b' ≤ b) : OwnN w b' v T := ⟨h.1, by
  rcases h.2 with h | ⟨g, cap, cur, e, h1, h2⟩
  · exact .inl h
  · exact .inr ⟨g, cap, cur, e, by omega, h2⟩⟩
theorem wtick_bad (w : World) (now : Nat) (ao : Option Addr) (n cap : Nat) (t : Int) (h : t < (now : Int) ∨ 1099511627776 < t) :
    Calls Try.prog 44 #[wv now ao n cap, .int .i64 t] w fun e w' => e = .returned (.tuple #[wv now ao n cap, .slice none 0 0, .int .i64 2]) ∧ Below w.heap.size w w' := by
  have hb0 : Below w.heap.size w ((w.alloc (Obj.cells #[.int .i64 now, .slice ao n cap] 45)).alloc (Obj.cells #[.int .i64 0, .slice none 0 0] 45)) := ((Below.refl _ _).alloc (Nat.le_refl _) _).alloc (by simp) _
  by_cases h1 : t < (now : Int)
  · have h2 : decide (t < (now : Int)) = true := by simp [h1]
    clear h
    go_enter Try.func44, Try.ntmps44
    go_wp2
    try simp only [Exit.inBlock, Exit.then]
    refine bodyPost_ret (v := .tuple #[wv now ao n cap, .slice none 0 0, .int .i64 2]) (by simp [results, Try.results44, go_sem]) rfl ⟨rfl, ?_⟩
    repeat' first | exact Below.refl _ _ | refine Below.setCell ?_ (by simp) _ | refine Below.alloc ?_ (by simp) _
  · have h2 : decide (t < (now : Int)) = false := by simp; omega
    have h3 : decide (1099511627776 < t) = true := by simp; omega
    clear h
    go_enter Try.func44, Try.ntmps44
    go_wp2
    try simp only [Exit.inBlock, Exit.then]
    refine bodyPost_ret (v := .tuple #[wv now ao n cap, .slice none 0 0, .int .i64 2]) (by simp [results, Try.results44, go_sem]) rfl ⟨rfl, ?_⟩
    repeat' first | exact Below.refl _ _ | refine Below.setCell ?_ (by simp) _ | refine Below.alloc ?_ (by simp) _
theorem wtick_good (w : World) (now : Nat) (ao : Option Addr) (D : List NU) (cap : Nat) (h : De w ao D cap) (hl : D.length ≤ 100000) (t : Nat) (ht : now ≤ t) (ht2 : t ≤ 1099511627776) :
    Calls Try.prog 44 #[wv now ao D.length cap, .int .i64 t] w fun e w' => ∃ ro rc no nc, e = .returned (.tuple #[wv t ro (restOf t D).length rc, .slice no (dueN t D).length nc, .int .i64 0]) ∧ OwnE w' w.heap.size (.slice ro (restOf t D).length rc) (restOf t D) ∧ OwnN w' w.heap.size (.slice no (dueN t D).length nc) (dueN t D) ∧ Below w.heap.size w w' := by
  have HD := Hid.mk2 h
  have hcap := h.hl
  have t1 : decide ((t : Int) < (now : Int)) = false := by simp; omega
  have t2 : decide ((1099511627776 : Int) < (t : Int)) = false := by simp; omega
  have t3 : ¬ (t : Int) < (now : Int) := by omega
  have t4 : ¬ (1099511627776 : Int) < (t : Int) := by omega
  have t5 : ¬ t < now := by omega
  have t6 : ¬ 1099511627776 < t := by omega
  clear h ht ht2
  go_enter Try.func44, Try.ntmps44
  go_upto_region 3 with (fail)
  obtain ⟨w0, hw0⟩ : ∃ w0, w0 = (w.alloc (Obj.cells #[.int .i64 now, .slice ao D.length cap] 45)).alloc (Obj.cells #[.int .i64 0, .slice none 0 0] 45) := ⟨_, rfl⟩
  rw [← hw0]
  have c1 : w0.cell? ⟨w.heap.size, 1, none⟩ = some (.slice ao D.length cap) := by rw [hw0]; simp
  have r0 : w0.cell? ⟨w.heap.size + 1, 0, none⟩ = some (.int .i64 0) := by rw [hw0]; simp
  have r1 : w0.cell? ⟨w.heap.size + 1, 1, none⟩ = some (.slice none 0 0) := by rw [hw0]; simp
  have f0 : w0.frozen? ⟨w.heap.size + 1, 0, none⟩ = false := by rw [hw0]; simp
  have f1 : w0.frozen? ⟨w.heap.size + 1, 1, none⟩ = false := by rw [hw0]; simp
  have x0 : w.heap.size + 1 < w0.heap.size := by rw [hw0]; simp
  have HB : Hid (Below w.heap.size w w0) := by rw [hw0]; exact ((Below.refl _ _).alloc (Nat.le_refl _) _).alloc (by simp) _
  clear hw0 t1 t2 t3 t4 t5 t6
  go_wp2
  go_loopw [7, 8, 9] (fun d l i wr => ∃ (j : Nat), j ≤ D.length ∧ i = .int .i64 j ∧ OwnN wr w0.heap.size d (dueN t (D.take j)) ∧ OwnE wr w0.heap.size l (restOf t (D.take j)) ∧ Hid (Below w0.heap.size w0 wr)) (fun _ _ i _ => D.length - (intOf i).toNat)
  case atStart => exact ⟨0, Nat.zero_le _, rfl, OwnN.nil _ _, OwnE.nil _ _, Below.refl _ _⟩
  case round =>
    obtain ⟨j, hj, rfl, hN, hO, HBr⟩ := hrel
    have hbx := HBr.out.size
    have d1 := (bcl HBr.out _ 1 (Nat.lt_of_succ_lt x0)).trans c1
    have HBW : Hid (Below w.heap.size w wr) := HB.out.trans (HBr.out.mono (by omega))
    by_cases hlt : j < D.length
    · have hlt2 : (j : Int) < (D.length : Int) := by omega
      have hd := dueN_snoc t (D.take j) D[j]
      have hr := rest_snoc t (D.take j) D[j]
      rw [← List.take_succ_eq_append_getElem hlt] at hd hr
      have hn1 : (dueN t (D.take j)).length ≤ 100000 := Nat.le_trans (dueN_le _ _) (by simp; omega)
      have hn2 : (restOf t (D.take j)).length ≤ 100000 := Nat.le_trans (rest_le _ _) (by simp; omega)
      rcases (HD.out.below HBW.out).at_ with h0 | ⟨b, off, rfl, hbb, hcs⟩
      · rw [h0] at hlt; simp at hlt
      obtain ⟨q0, q1, q2⟩ := hcs j hlt
      obtain ⟨z, hz⟩ : ∃ z, z = D[j] := ⟨_, rfl⟩
      rw [← hz] at q0 q1 q2 hd hr
      have HNN := Hid.mk2 hN
      have HOO := Hid.mk2 hO
      clear hz hcs
      by_cases e : z.2 ≤ (t : Int)
      · have e2 : decide (z.2 ≤ (t : Int)) = true := by simp [e]
        rw [if_pos e] at hd hr
        have HDD := Hid.mk2 hd
        have HRR := Hid.mk2 hr
        clear hd hr hO
        go_wp2_with (at_builtin; refine app_n1 rfl (.tmp 34) (.tmp 41) rfl w0.heap.size _ _ hN rfl z.1 rfl _ rfl rfl (by omega) hbx ?_; intro v4 w4 ho4 hg4)
        go_roundw
        case rel =>
          refine ⟨j + 1, by omega, by go_num, by rw [HDD.out]; exact ho4, ?_, HBr.out.grown hg4.grown hbx (fun k hk => (HNN.out.lt k hk).1)⟩
          rw [HRR.out]
          exact HOO.out.same (fun g hg => hg4.grown.block g (HOO.out.lt g hg).2 (fun e3 => own_ne HNN.out HOO.out g e3.symm hg))
        case measure => simp [intOf]; omega
      · have e2 : decide (z.2 ≤ (t : Int)) = false := by simp; omega
        rw [if_neg e] at hd hr
        have HDD := Hid.mk2 hd
        have HRR := Hid.mk2 hr
        clear hd hr hN
        go_wp2_with (at_builtin; refine app_e rfl (.tmp 43) (.tmp 49) rfl w0.heap.size _ _ hO rfl z rfl _ rfl rfl (by omega) hbx ?_; intro v4 w4 ho4 hg4)
        go_roundw
        case rel =>
          refine ⟨j + 1, by omega, by go_num, ?_, by rw [HRR.out]; exact ho4, grew_below HBr.out HOO.out hbx hg4⟩
          rw [HDD.out]
          exact HNN.out.same (fun g hg => hg4.grown.block g (HNN.out.lt g hg).2 (fun e3 => own_ne HNN.out HOO.out g hg e3.symm))
        case measure => simp [intOf]; omega
    · have hlt2 : ¬ (j : Int) < (D.length : Int) := by omega
      have hkt : D.take j = D := List.take_of_length_le (by omega)
      rw [hkt] at hO hN
      obtain ⟨lo, lc, hv, -⟩ := hO.de
      obtain ⟨no, nc, hv2, -⟩ := hN.at
      have s0 := (bcl HBr.out _ 0 x0).trans r0
      have s1 := (bcl HBr.out _ 1 x0).trans r1
      have g0 := (bfr HBr.out _ 0 x0).trans f0
      have g1 := (bfr HBr.out _ 1 x0).trans f1
      subst hv
      subst hv2
      have HO := Hid.mk2 hO
      have HN := Hid.mk2 hN
      have z0 := set2_0 (a := .int .i64 t) (b := .slice lo (restOf t D).length lc) s0
      have z1 := set2_1 (a := .int .i64 t) (b := .slice lo (restOf t D).length lc) s1
      clear hkt hO hN
      go_wp2
      try simp only [Exit.inBlock, Exit.then]
      refine bodyPost_ret (v := .tuple #[wv t lo (restOf t D).length lc, .slice no (dueN t D).length nc, .int .i64 0]) (by simp [results, Try.results44, go_sem, z0, z1]) rfl ⟨lo, lc, no, nc, rfl, (HO.out.set2 x0).down (by omega), (HN.out.set2 x0).down (by omega), below_set2 HBW.out (by omega)⟩
end Go.Proofs.Ythcekkahkioibad
