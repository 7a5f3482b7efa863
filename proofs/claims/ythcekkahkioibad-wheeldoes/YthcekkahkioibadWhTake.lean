/-
  Names with their moments as slices; a ring's first slots are emptied: the contract of take.
-/
import Derived.Test.YthcekkahkioibadWhLeave
import Derived.Deep.CutRange
namespace Go.Proofs.Ythcekkahkioibad
open Go.RowKit
set_option linter.unusedSimpArgs false
set_option linter.unusedVariables false
set_option maxRecDepth 100000

theorem Try.infoTimed : (Try.prog.info? 85).map (fun i => (i.zero, i.size, i.bytes)) = some (some (.agg #[.int .i64 0, .string ⟨#[]⟩, .int .i64 0]), 3, 32) := by kernel_rfl
def tcells (q : NU) : List Value := [.int .i64 q.1.tenant, .string q.1.key, .int .i64 q.2]
theorem tcells_len (q : NU) : (tcells q).length = 3 := rfl
theorem tcells_one (q : NU) : ∀ u ∈ tcells q, u.oneCell' = true := by
  intro u hu
  simp only [tcells, List.mem_cons, List.not_mem_nil, or_false] at hu
  rcases hu with rfl | rfl | rfl <;> rfl
/-- the slice v owns the names with their moments T, in a block from base on -/
def OwnT (w : World) (base : Nat) (v : Value) (T : List NU) : Prop := w.ownsRow base 85 3 v T.length (T.flatMap tcells)
theorem OwnT.nil (w : World) (base : Nat) : OwnT w base (.slice none 0 0) [] := World.ownsRow_nil w base _ 3
theorem OwnT.alloc {w : World} {base : Nat} {v : Value} {T : List NU} (h : OwnT w base v T) (o : Obj) : OwnT (w.alloc o) base v T := World.ownsRow.alloc h o
theorem OwnT.grown {w w' : World} {base : Nat} {v : Value} {T : List NU} {row : Option Nat} (h : OwnT w base v T) (hg : w.grownBy w' row) (hne : ∀ k, v.ownBlock = some k → row ≠ some k) : OwnT w' base v T := by
  refine World.ownsRow.kept h hg ?_
  cases hv : v.ownBlock with
  | none => exact .inl rfl
  | some k => exact .inr (fun e => hne k hv e.symm)
theorem OwnT.below {w w' : World} {base : Nat} {v : Value} {T : List NU} (h : OwnT w base v T) (hb : Below w.heap.size w w') : OwnT w' base v T :=
  h.grown (row := none) ⟨hb.os, hb.tape, hb.output, hb.size, fun k hk _ => hb.block k hk⟩ (by intro k _ e; cases e)
theorem app_t {w w0 : World} {ops : Array Oper} {rest : List Oper} {o : Oper} {a : Act} {Q : Exit → Act → World → Prop} (hgd : o.guard = none) (s x : Operand) (ho : o.op = .call { callee := .builtin .append, args := #[s, x], argTypes := #[81, 81] })
    (base : Nat) (v : Value) (T : List NU) (hown : OwnT w0 base v T) (hs : a.eval s = v) (q : NU) (hw : w = w0.alloc (.cells (tcells q).toArray 85)) (H : Nat) (hx : a.eval x = .slice (some ⟨H, 0, none⟩) 1 1) (hH : H = w0.heap.size)
    (hlen : T.length + 1 ≤ 100000000) (hbase : base ≤ w0.heap.size)
    (h : ∀ v' w', OwnT w' base v' (T ++ [q]) → Grew w0 w' v v' → wpList Try.prog ops Q rest (a.put o.dst v') w') : wpList Try.prog ops Q (o :: rest) a w := by
  subst hH hw
  obtain ⟨i0, hi, hz0, hz1, hz2⟩ := info_parts Try.infoTimed
  have hm : maxLen = 9223372036854775807 := rfl
  refine wpList_append_own_at _ hgd s x 81 ho base 85 i0 _ 3 32 Try.underlying81 hi hz0 hz1 hz2 rfl (by decide) v T.length (T.flatMap tcells) hs (World.ownsRow.alloc hown _) ⟨w0.heap.size, 0, none⟩ 1 1 (tcells q) hx (by rw [tcells_len]) ?_ (tcells_one q) (by omega) (by omega) (by simp; omega) ?_
  · intro j u hu
    rw [addr_add]
    simp only [Nat.zero_add]
    have hj := (List.getElem?_eq_some_iff.1 hu).1
    have : u = (tcells q)[j] := by simpa [hj] using hu.symm
    subst this
    simp [hj]
  · intro v' w' h1 h2 h3 h4
    refine h v' w' ?_ ⟨(World.grownBy_alloc w0 _ _).trans h2, fun k hk => ?_⟩
    · have e : (T ++ [q]).length = T.length + 1 := by simp
      unfold OwnT
      rw [e, List.flatMap_append, List.flatMap_singleton]
      exact h1
    · rcases h4 with h4 | h4
      · exact .inl (h4 ▸ hk)
      · rw [h4] at hk
        cases hk
        exact .inr (by simp)

def inR (a lo hi : Nat) (q : NU) : Bool := decide (lo ≤ ix a q.2 ∧ ix a q.2 < hi)
def outOf (a lo hi : Nat) (G : List NU) : List NU := G.filter (inR a lo hi)
def keepIn (a lo hi : Nat) (G : List NU) : List NU := G.filter (fun q => !inR a lo hi q)
theorem out_none (a lo : Nat) (G : List NU) : outOf a lo lo G = [] := List.filter_eq_nil_iff.2 (fun q _ => by simp [inR]; try omega)
theorem keep_all (a lo : Nat) (G : List NU) : keepIn a lo lo G = G := List.filter_eq_self.2 (fun q _ => by simp [inR]; omega)
theorem mem_keep {a lo hi : Nat} {G : List NU} {q : NU} : q ∈ keepIn a lo hi G ↔ q ∈ G ∧ ¬ (lo ≤ ix a q.2 ∧ ix a q.2 < hi) := by
  simp only [keepIn, inR, List.mem_filter, Bool.not_eq_true', decide_eq_false_iff_not]
theorem mem_out {a lo hi : Nat} {G : List NU} {q : NU} : q ∈ outOf a lo hi G ↔ q ∈ G ∧ (lo ≤ ix a q.2 ∧ ix a q.2 < hi) := by
  simp only [outOf, inR, List.mem_filter, decide_eq_true_eq]
theorem part_keep {a lo hi : Nat} {G : List NU} {j : Nat} (hj : ¬ (lo ≤ j ∧ j < hi)) : part a j (keepIn a lo hi G) = part a j G := by
  unfold part keepIn
  rw [List.filter_filter]
  refine List.filter_congr (fun q _ => ?_)
  by_cases e : ix a q.2 = j
  · simp only [e, inR, decide_true, Bool.true_and]
    simp
    omega
  · simp [e]
theorem part_keep_in {a lo hi : Nat} {G : List NU} {j : Nat} (hj : lo ≤ j ∧ j < hi) : part a j (keepIn a lo hi G) = [] := by
  refine List.filter_eq_nil_iff.2 (fun q hq => ?_)
  obtain ⟨_, h2⟩ := mem_keep.1 hq
  simp only [decide_eq_true_eq]
  intro e
  rw [e] at h2
  exact h2 hj
theorem out_succ {a lo hi : Nat} (h : lo ≤ hi) : ∀ (G : List NU), (outOf a lo (hi + 1) G).Perm (outOf a lo hi G ++ part a hi G)
  | [] => by simp [outOf, part]
  | q :: G => by
    have ih := out_succ (a := a) h G
    have e1 : outOf a lo (hi + 1) (q :: G) = if inR a lo (hi + 1) q then q :: outOf a lo (hi + 1) G else outOf a lo (hi + 1) G := by simp [outOf, List.filter_cons]
    have e2 : outOf a lo hi (q :: G) = if inR a lo hi q then q :: outOf a lo hi G else outOf a lo hi G := by simp [outOf, List.filter_cons]
    have e3 : part a hi (q :: G) = if ix a q.2 = hi then q :: part a hi G else part a hi G := by simp [part, List.filter_cons]
    rw [e1, e2, e3]
    by_cases h1 : ix a q.2 = hi
    · have i1 : inR a lo (hi + 1) q = true := by simp [inR]; omega
      have i2 : inR a lo hi q = false := by simp [inR]; omega
      rw [i1, i2, if_pos h1]
      simp only [if_true, Bool.false_eq_true, if_false]
      exact (List.Perm.cons q ih).trans List.perm_middle.symm
    · have i1 : inR a lo (hi + 1) q = inR a lo hi q := by simp only [inR]; congr 1; apply propext; omega
      rw [i1, if_neg h1]
      cases inR a lo hi q with
      | true => simpa using ih
      | false => simpa using ih
theorem sub_len : ∀ {A B : List NU}, A.Pairwise (fun p q => p.1 ≠ q.1) → (∀ p ∈ A, p ∈ B) → A.length ≤ B.length
  | [], B, _, _ => by simp
  | p :: A, B, ha, h => by
    obtain ⟨h1, h2⟩ := List.pairwise_cons.1 ha
    have hp : p ∈ B := h p (by simp)
    have hBp := List.perm_cons_erase hp
    have := sub_len (B := B.erase p) h2 (fun q hq => by
      have hq' := hBp.mem_iff.1 (h q (List.mem_cons_of_mem _ hq))
      rcases List.mem_cons.1 hq' with e | e
      · exact absurd (by rw [e]) (h1 q hq)
      · exact e)
    have hl := hBp.length_eq
    simp only [List.length_cons] at hl ⊢
    omega
theorem Rg.len {w : World} {b r n : Nat} {M T : List NU} {cnt : Nat} (h : Rg w b r n M T cnt) : T.length ≤ M.length := by
  obtain ⟨D, left, h1, h2, h3, h4, h5, h6⟩ := h
  exact sub_len h6 h5

theorem slot_done {w : World} {p now : Nat} {U G : List NU} {b0 : Nat} {mb : Nat → Option Nat} {N lo k : Nat} (h : Wh w p now U (keepIn now lo (lo + k) G) b0 mb N) (hi : lo + k < 448) :
    Wh (w.setCell ⟨p, 3 + (lo + k), none⟩ (.map none)) p now U (keepIn now lo (lo + (k + 1)) G) b0 (upd mb (lo + k) none) N := by
  refine h.ring hi none _ (fun q hq => ?_) ?_ (fun j hj => ?_) (fun _ q hq e => ?_) (fun b hb => by cases hb)
  · obtain ⟨h1, h2⟩ := mem_keep.1 hq
    exact mem_keep.2 ⟨h1, by omega⟩
  · have hs : keepIn now lo (lo + (k + 1)) G = (keepIn now lo (lo + k) G).filter (fun q => !inR now lo (lo + (k + 1)) q) := by
      unfold keepIn
      rw [List.filter_filter]
      refine List.filter_congr (fun q _ => ?_)
      by_cases hq : inR now lo (lo + k) q = true
      · have : inR now lo (lo + (k + 1)) q = true := by simp [inR] at hq ⊢; omega
        simp [this]
      · simp at hq
        simp [hq]
    rw [hs]
    exact h.apart.filter _
  · by_cases hin : lo ≤ j ∧ j < lo + k
    · rw [part_keep_in hin, part_keep_in (by omega)]
    · rw [part_keep hin, part_keep (by omega)]
  · obtain ⟨h1, h2⟩ := mem_keep.1 hq
    omega
theorem foot_upd {p b0 : Nat} {mb : Nat → Option Nat} {i k : Nat} (h : Foot p b0 (upd mb i none) k) : Foot p b0 mb k := by
  rcases h with h | h | ⟨j, hj, h⟩
  · exact .inl h
  · exact .inr (.inl h)
  · by_cases e : j = i
    · subst e
      rw [upd_same] at h
      cases h
    · rw [upd_other e] at h
      exact .inr (.inr ⟨j, hj, h⟩)
theorem Wh.belowB {w w' : World} {p now : Nat} {U G : List NU} {b0 : Nat} {mb : Nat → Option Nat} {N B : Nat} (h : Wh w p now U G b0 mb N) (k : Below B w w') (hF : ∀ k, Foot p b0 mb k → k < B) : Wh w' p now U G b0 mb N :=
  h.same (fun j hj => k.block j (hF j hj))
theorem Kept.belowB {F : Nat → Prop} {w w' : World} {B : Nat} (h : Below B w w') (hF : ∀ k, B ≤ k → F k) : Kept F w w' :=
  ⟨h.os, h.tape, h.output, h.size, fun k hk hn => h.block k (Nat.lt_of_not_le fun hb => hn (hF k hb))⟩
theorem OwnT.set {w : World} {base : Nat} {v : Value} {T : List NU} (h : OwnT w base v T) {p o : Nat} (hp : p < base) (u : Value) : OwnT (w.setCell ⟨p, o, none⟩ u) base v T :=
  h.grown (grown_set w p o u) (fun k hk e => by have := (h.lt k hk).1; cases e; omega)

theorem OwnT.ne_of {w : World} {base : Nat} {v : Value} {T : List NU} (h : OwnT w base v T) {k : Nat} {o : Obj} (hk : w.heap[k]? = some o) (ho : ∀ c t m, o ≠ .cells c t m) : v.ownBlock ≠ some k := by
  intro e
  rcases h.2 with ⟨rfl, _⟩ | ⟨g, cap, cur, rfl, _, hg, _⟩
  · cases e
  · cases e
    rw [hg] at hk
    cases hk
    exact ho _ _ _ rfl
theorem Rg.iter {w : World} {b r n : Nat} {M T : List NU} {cnt : Nat} (h : Rg w b r n M T cnt) : ∃ o, w.heap[r]? = some o ∧ ∀ c t m, o ≠ .cells c t m := by
  obtain ⟨D, left, hr, _⟩ := h
  obtain ⟨es, clock, since, seen, c, h1, h2, h3, h4, h5, _⟩ := hr
  exact ⟨_, h5, by intro _ _ _ e; cases e⟩
theorem Mp.obj {w : World} {b n : Nat} {M : List NU} (h : Mp w b n M) : ∃ o, w.heap[b]? = some o ∧ ∀ c t m, o ≠ .cells c t m := by
  obtain ⟨D, ⟨es, clock, hb, _⟩, _⟩ := h
  exact ⟨_, hb, by intro _ _ _ e; cases e⟩

set_option maxHeartbeats 1000000 in
theorem take_any (w : World) (p now : Nat) (U G : List NU) (b0 : Nat) (mb : Nat → Option Nat) (N : Nat) (h : Wh w p now U G b0 mb N) (rg last : Nat) (hrg : rg ≤ 6) (hlast : last < 64) (B : Nat) (hB : B ≤ w.heap.size) (hF : ∀ k, Foot p b0 mb k → k < B)
    (v0 : Value) (T0 : List NU) (hT : OwnT w B v0 T0) (hTG : T0.length + G.length ≤ 10000000) :
    Calls Try.prog 61 #[.pointer (some ⟨p, 0, none⟩), .int .i64 rg, .int .i64 last, v0] w fun e w' => ∃ v', e = .returned v' ∧ ∃ T', OwnT w' B v' T' ∧ T'.Perm (T0 ++ outOf now (64 * rg) (64 * rg + (last + 1)) G) ∧
      ∃ mb', Wh w' p now U (keepIn now (64 * rg) (64 * rg + (last + 1)) G) b0 mb' N ∧ Kept (fun k => k = p ∨ B ≤ k) w w' ∧ ∀ k, Foot p b0 mb' k → Foot p b0 mb k := by
  have HW := Hid.mk2 h
  have HF := Hid.mk2 hF
  clear h hF
  have hrl : (rg : Int) < 7 := by omega
  go_enter Try.func61, Try.ntmps61
  go_wp2
  go_loopw [3, 14] (fun t i wr => ∃ (k : Nat) (T : List NU) (mb' : Nat → Option Nat), k ≤ last + 1 ∧ i = .int .i64 k ∧ OwnT wr B t T ∧ Hid (T.Perm (T0 ++ outOf now (64 * rg) (64 * rg + k) G)) ∧ Hid (Wh wr p now U (keepIn now (64 * rg) (64 * rg + k) G) b0 mb' N) ∧ Hid (Kept (fun k => k = p ∨ B ≤ k) w wr) ∧ Hid (∀ k, Foot p b0 mb' k → Foot p b0 mb k)) (fun _ i _ => last + 1 - (intOf i).toNat)
  case atStart => exact ⟨0, T0, mb, Nat.zero_le _, rfl, hT, by rw [Nat.add_zero, out_none, List.append_nil]; exact List.Perm.refl _, by rw [Nat.add_zero, keep_all]; exact HW.out, Kept.refl _ _, fun k hk => hk⟩
  case round =>
    obtain ⟨k, T, mb2, hk, rfl, hTr, HP, HWr, HK, HFT⟩ := hrel
    obtain ⟨ws, rfl⟩ : ∃ ws, ws = wr := ⟨_, rfl⟩
    by_cases hlt : k < last + 1
    · have hlt2 : (k : Int) < (last : Int) + 1 := by omega
      have hsl : (k : Int) < 64 := by omega
      have hp : p < B := HF.out p (.inl rfl)
      have hFr : ∀ k, Foot p b0 mb2 k → k < B := fun k hk => HF.out k (HFT.out k hk)
      have hBr : B ≤ ws.heap.size := Nat.le_trans hB HK.out.size
      have hpr : p < ws.heap.size := by omega
      obtain ⟨x, hx⟩ : ∃ x, x = mb2 (64 * rg + k) := ⟨_, rfl⟩
      have hrc := HWr.out.ringc (64 * rg + k) (by omega)
      rw [← hx, show 3 + (64 * rg + k) = 3 + rg * 64 + k by omega] at hrc
      have hfr := HWr.out.free (3 + rg * 64 + k)
      have HX := Hid.mk2 hx
      have HFR := Hid.mk2 hFr
      clear hx hFr
      have HPK : Hid (part now (64 * rg + k) (keepIn now (64 * rg) (64 * rg + k) G) = part now (64 * rg + k) G) := part_keep (by omega)
      have HOS := Hid.mk2 (out_succ (a := now) (lo := 64 * rg) (hi := 64 * rg + k) (by omega) G)
      cases x with
      | none =>
        have HE : Hid (part now (64 * rg + k) G = []) := by
          show _ = _
          rw [← HPK.out]
          exact part_none (HWr.out.gn _ (by omega) HX.out.symm)
        have hrun := run_range_nilMap (P := Try.prog) ws 36 24 3 Try.underlying36
        have hnx : ∀ ty, (Instr.next (.pointer (some ⟨ws.heap.size, 0, none⟩)) false ty).run Try.prog (ws.alloc (.mapIter none 0 #[] 0)) = _ := fun ty => run_next_nilMap ws ty 0 0 #[]
        go_wp2
        refine wp_loop_rounds 1 ?_
        rw [rounds_succ]
        go_wp2
        go_roundw
        case rel =>
          have hd := slot_done HWr.out (show 64 * rg + k < 448 by omega)
          rw [show 3 + (64 * rg + k) = 3 + rg * 64 + k by omega] at hd
          refine ⟨k + 1, T, upd mb2 (64 * rg + k) none, by omega, by go_num, (hTr.set hp _).alloc _, ?_, hd.below (alb _ _), ?_, fun j hj => HFT.out j (foot_upd hj)⟩
          · show List.Perm _ _
            have h1 := HOS.out
            rw [HE.out, List.append_nil] at h1
            exact HP.out.trans (List.Perm.append_left T0 h1.symm)
          · exact (HK.out.trans (Kept.grown (F := fun k => k = p ∨ B ≤ k) (grown_set ws p (3 + rg * 64 + k) (.map none)) (fun j hj => by cases hj; exact .inl (.inl rfl))) (fun j hj => .inl hj)).trans (Kept.below (F := fun k => k = p ∨ B ≤ k) (alb _ _)) (fun j hj => .inl hj)
        case measure => simp [intOf]; omega
      | some b =>
        have hmp := HWr.out.gm (64 * rg + k) b (by omega) HX.out.symm
        obtain ⟨M, hM⟩ : ∃ M, M = part now (64 * rg + k) (keepIn now (64 * rg) (64 * rg + k) G) := ⟨_, rfl⟩
        rw [← hM] at hmp
        have HM := Hid.mk2 hM
        clear hM
        go_wp2_with (first
          | (at_range; refine mp_range rfl (.tmp 24) rfl b N M rfl hmp ?_; intro w2 hrg2 hg2 hs2)
          | go_in)
        go_frame
        have hlM : T.length + M.length ≤ 10000000 := by
          have h1 := HP.out.length_eq
          have h2 := HOS.out.length_eq
          have h3 : (outOf now (64 * rg) (64 * rg + k + 1) G).length ≤ G.length := List.length_filter_le _ _
          rw [← HPK.out, ← HM.out] at h2
          simp only [List.length_append] at h1 h2
          omega
        have hb2 : Below B ws w2 := ⟨hg2.os, hg2.tape, hg2.output, hg2.size, fun j hj => hg2.block j (by omega) (by simp)⟩
        have HIT : Hid (B ≤ ws.heap.size) := hBr
        go_loopw [3] (fun t wq => ∃ (Tc : List NU) (cnt : Nat), Rg wq b ws.heap.size N M Tc cnt ∧ OwnT wq B t (T ++ Tc) ∧ Below B ws wq) (fun _ wq => wq.rangeLeft b ws.heap.size)
        case atStart => exact ⟨[], _, hrg2, by rw [List.append_nil]; exact hTr.grown hg2 (by simp), hb2⟩
        case round =>
          obtain ⟨Tc, cnt, hrg, hTq, hbq⟩ := hrel
          have hlc := hrg.len
          go_wp2_with (first
            | (at_next; refine rg_next rfl (.tmp 25) rfl b ws.heap.size N M Tc cnt rfl hrg ?_ ?_)
            | go_in)
          · intro hpm
            have hrcq : wr.cell? ⟨p, 3 + rg * 64 + k, none⟩ = some (.map (some b)) := (hbq.cell (p := ⟨p, 3 + rg * 64 + k, none⟩) hp).trans hrc
            have hfrq : wr.frozen? ⟨p, 3 + rg * 64 + k, none⟩ = false := (hbq.frozen (p := ⟨p, 3 + rg * 64 + k, none⟩) hp).trans hfr
            clear hrg hrg2 hg2 hs2 hb2 hmp
            go_wp2
            go_roundw
            case rel =>
              have hd := slot_done (HWr.out.belowB hbq HFR.out) (show 64 * rg + k < 448 by omega)
              rw [show 3 + (64 * rg + k) = 3 + rg * 64 + k by omega] at hd
              refine ⟨k + 1, T ++ Tc, upd mb2 (64 * rg + k) none, by omega, by go_num, hTq.set hp _, ?_, hd, ?_, fun j hj => HFT.out j (foot_upd hj)⟩
              · show List.Perm _ _
                have h1 := HOS.out
                rw [← HPK.out, ← HM.out] at h1
                have h2 : (T ++ Tc).Perm ((T0 ++ outOf now (64 * rg) (64 * rg + k) G) ++ M) := List.Perm.append HP.out hpm.symm
                rw [List.append_assoc] at h2
                exact h2.trans (List.Perm.append_left T0 h1.symm)
              · exact (HK.out.trans (Kept.belowB (F := fun k => k = p ∨ B ≤ k) hbq (fun j hj => .inr hj)) (fun j hj => .inl hj)).trans (Kept.grown (F := fun k => k = p ∨ B ≤ k) (grown_set wr p (3 + rg * 64 + k) (.map none)) (fun j hj => by cases hj; exact .inl (.inl rfl))) (fun j hj => .inl hj)
            case measure => simp [intOf]; omega
          · intro x u w3 cnt3 hmem hrg3 hlt3 hg3 hs3 hen
            have hT3 : OwnT w3 B u3 (T ++ Tc) := hTq.grown hg3 (fun j hj e => by obtain ⟨o, ho, hc⟩ := hrg.iter; cases e; exact hTq.ne_of ho hc hj)
            have hb3 : Below B ws w3 := hbq.grown hg3 (by have := hbq.size; omega) (fun j hj => by cases hj; exact hBr)
            have HS3 := Hid.mk2 hs3
            clear hs3
            go_wp2_with (first
              | (at_builtin; refine app_t rfl (.tmp 31) (.tmp 35) rfl B _ (T ++ Tc) (hT3.alloc _) rfl (x, u) rfl _ rfl (by simp) (by simp; omega) (by have := hb3.size; simp; omega) ?_; intro v4 w4 ho4 hg4)
              | go_in)
            obtain ⟨o1, ho1, hc1⟩ := hrg3.iter
            obtain ⟨o2, ho2, hc2⟩ := hrg3.mp.obj
            have n1 := hT3.ne_of ho1 hc1
            have n2 := hT3.ne_of ho2 hc2
            have hrg4 := (hrg3.kept (World.grownBy_alloc w3 (.cells #[.int .i64 x.tenant, .string x.key] 24) none) (by simp) (by simp)).kept hg4.grown (fun e => n2 e.symm) (fun e => n1 e.symm)
            have hs4 := hb3.size
            have hb4 : Below B ws w4 := (hb3.alloc (by omega) (.cells #[.int .i64 x.tenant, .string x.key] 24)).grown hg4.grown (by simp; omega) (fun j hj => (hT3.lt j hj).1)
            refine ⟨⟨Tc ++ [(x, u)], cnt3, hrg4, by rw [← List.append_assoc]; exact ho4, hb4⟩, ?_⟩
            rw [hrg4.left, hrg.left]
            exact hlt3
    · have hk1 : k = last + 1 := by omega
      have hlt2 : ¬ (k : Int) < (last : Int) + 1 := by omega
      subst hk1
      go_wp2
      go_ret
      exact ⟨_, rfl, T, hTr, HP.out, mb2, HWr.out, HK.out, HFT.out⟩
end Go.Proofs.Ythcekkahkioibad
