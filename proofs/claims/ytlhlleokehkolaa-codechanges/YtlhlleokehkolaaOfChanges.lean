/-
  Contract of OfChanges.
-/
import Derived.Test.YtlhlleokehkolaaRChangeB
import Derived.Test.YtlhlleokehkolaaRChangeC
import Derived.Test.YtlhlleokehkolaaRChangeD
import Derived.Test.YtlhlleokehkolaaRChangeE
import Derived.Test.YtlhlleokehkolaaChanges
namespace Go.Proofs.Ytlhlleokehkolaa
open Go.RowKit
set_option linter.unusedSimpArgs false
set_option linter.unusedVariables false
set_option maxRecDepth 100000

/-- a change, read -/
def sChange (s : St) : Chg × St :=
  if (sSingle s).1.toNat = 1 then sChange1 s else if (sSingle s).1.toNat = 2 then sChange2 s else if (sSingle s).1.toNat = 3 then sChange3 s else if (sSingle s).1.toNat = 4 then sChange4 s
  else if (sSingle s).1.toNat = 5 then sChange5 s else if (sSingle s).1.toNat = 6 then sChange6 s else if (sSingle s).1.toNat = 7 then sChange7 s else sChange0 s

theorem rchange_any (w : World) (B rb : Nat) (s : St) (h : Rd w B rb s) :
    Calls Try.prog 43 #[.pointer (some ⟨rb, 0, none⟩)] w fun e w' => e = .returned (sChange s).1.val ∧ Rd w' B rb (sChange s).2 ∧ w.grownBy w' (some rb) := by
  unfold sChange
  by_cases h1 : (sSingle s).1.toNat = 1
  · rw [if_pos h1]; exact rchange1 w B rb s h h1
  rw [if_neg h1]
  by_cases h2 : (sSingle s).1.toNat = 2
  · rw [if_pos h2]; exact rchange2 w B rb s h h2
  rw [if_neg h2]
  by_cases h3 : (sSingle s).1.toNat = 3
  · rw [if_pos h3]; exact rchange3 w B rb s h h3
  rw [if_neg h3]
  by_cases h4 : (sSingle s).1.toNat = 4
  · rw [if_pos h4]; exact rchange4 w B rb s h h4
  rw [if_neg h4]
  by_cases h5 : (sSingle s).1.toNat = 5
  · rw [if_pos h5]; exact rchange5 w B rb s h h5
  rw [if_neg h5]
  by_cases h6 : (sSingle s).1.toNat = 6
  · rw [if_pos h6]; exact rchange6 w B rb s h h6
  rw [if_neg h6]
  by_cases h7 : (sSingle s).1.toNat = 7
  · rw [if_pos h7]; exact rchange7 w B rb s h h7
  rw [if_neg h7]
  refine rchange0 w B rb s h (fun i hi1 hi7 => ?_)
  rcases (show i = 1 ∨ i = 2 ∨ i = 3 ∨ i = 4 ∨ i = 5 ∨ i = 6 ∨ i = 7 by omega) with rfl | rfl | rfl | rfl | rfl | rfl | rfl <;> assumption

theorem Try.infoChg : (Try.prog.info? 41).map (fun i => (i.zero, i.size, i.bytes)) = some (some (.agg #[.int .u8 0, .int .i64 0, .string ⟨#[]⟩, .string ⟨#[]⟩, .int .u32 0, .int .i64 0, .int .u64 0, .string ⟨#[]⟩, .int .u8 0, .int .i64 0, .bool false]), 11, 112) := by kernel_rfl
theorem cells_len (c : Chg) : c.cells.length = 11 := by simp [Chg.cells]
theorem cells_one (c : Chg) : ∀ u ∈ c.cells, u.oneCell' = true := by
  intro u hu
  simp only [Chg.cells, List.mem_cons, List.not_mem_nil, or_false, bcell] at hu
  rcases hu with rfl | rfl | rfl | rfl | rfl | rfl | rfl | rfl | rfl | rfl | rfl <;> rfl
/-- the slice v owns the changes cs, in a block from base on -/
def OwnC (w : World) (base : Nat) (v : Value) (cs : List Chg) : Prop := w.ownsRow base 41 11 v cs.length (cs.flatMap Chg.cells)
theorem OwnC.nil (w : World) (base : Nat) : OwnC w base (.slice none 0 0) [] := World.ownsRow_nil w base _ 11
theorem OwnC.alloc {w : World} {base : Nat} {v : Value} {cs : List Chg} (h : OwnC w base v cs) (o : Obj) : OwnC (w.alloc o) base v cs := World.ownsRow.alloc h o
theorem OwnC.grown {w w' : World} {base : Nat} {v : Value} {cs : List Chg} {row : Option Nat} (h : OwnC w base v cs) (hg : w.grownBy w' row) (hne : ∀ k, v.ownBlock = some k → row ≠ some k) : OwnC w' base v cs := by
  refine World.ownsRow.kept h hg ?_
  cases hv : v.ownBlock with
  | none => exact .inl rfl
  | some k => exact .inr (fun e => hne k hv e.symm)
theorem OwnC.below {w w' : World} {base : Nat} {v : Value} {cs : List Chg} (h : OwnC w base v cs) (hb : Below w.heap.size w w') : OwnC w' base v cs :=
  h.grown (row := none) ⟨hb.os, hb.tape, hb.output, hb.size, fun k hk _ => hb.block k hk⟩ (by intro k _ e; cases e)

theorem app_chg {w w0 : World} {ops : Array Oper} {rest : List Oper} {o : Oper} {a : Act} {Q : Exit → Act → World → Prop} (hgd : o.guard = none) (s x : Operand) (ho : o.op = .call { callee := .builtin .append, args := #[s, x], argTypes := #[42, 42] })
    (base : Nat) (v : Value) (cs : List Chg) (hown : OwnC w0 base v cs) (hs : a.eval s = v) (c : Chg) (hw : w = w0.alloc (.cells c.cells.toArray 41)) (H : Nat) (hx : a.eval x = .slice (some ⟨H, 0, none⟩) 1 1) (hH : H = w0.heap.size)
    (hlen : cs.length + 1 ≤ 1000000) (hbase : base ≤ w0.heap.size)
    (h : ∀ v' w', OwnC w' base v' (cs ++ [c]) → Grew w0 w' v v' → wpList Try.prog ops Q rest (a.put o.dst v') w') : wpList Try.prog ops Q (o :: rest) a w := by
  subst hH hw
  obtain ⟨i0, hi, hz0, hz1, hz2⟩ := info_parts Try.infoChg
  have hm : maxLen = 9223372036854775807 := rfl
  refine wpList_append_own_at _ hgd s x 42 ho base 41 i0 _ 11 112 Try.underlying42 hi hz0 hz1 hz2 rfl (by decide) v cs.length (cs.flatMap Chg.cells) hs (World.ownsRow.alloc hown _) ⟨w0.heap.size, 0, none⟩ 1 1 c.cells hx (by rw [cells_len]) ?_ (cells_one c) (by omega) (by omega) (by simp; omega) ?_
  · intro j u hu
    rw [addr_add]
    simp only [Nat.zero_add]
    have hj := (List.getElem?_eq_some_iff.1 hu).1
    have : u = c.cells[j] := by simpa [hj] using hu.symm
    subst this
    simp [hj]
  · intro v' w' h1 h2 h3 h4
    refine h v' w' ?_ ⟨(World.grownBy_alloc w0 _ _).trans h2, fun k hk => ?_⟩
    · have e : (cs ++ [c]).length = cs.length + 1 := by simp
      unfold OwnC
      rw [e, List.flatMap_append, List.flatMap_singleton]
      exact h1
    · rcases h4 with h4 | h4
      · exact .inl (h4 ▸ hk)
      · rw [h4] at hk
        cases hk
        exact .inr (by simp)

/-- so many changes, read one behind the other -/
def readMany : Nat → St → Option (List Chg × St)
  | 0, s => some ([], s)
  | n + 1, s => if (sChange s).2.bad = true ∨ chgOk (sChange s).1 = false then none else (readMany n (sChange s).2).map fun q => ((sChange s).1 :: q.1, q.2)
/-- P1.3: what OfChanges answers -/
def ofRead (r : Option (List Chg × St)) : List Chg × Int :=
  match r with
  | none => ([], 8)
  | some (cs, s) => if s.bad = false ∧ s.l = [] then (cs, 0) else ([], 8)
def ofChs (l : List UInt8) : List Chg × Int :=
  if 65536 < l.length then ([], 3) else ofRead (readMany (sSmall 4096 ⟨l, false⟩).1 (sSmall 4096 ⟨l, false⟩).2)

theorem many_stop {n : Nat} {st : St} (h : (sChange st).2.bad = true ∨ chgOk (sChange st).1 = false) : readMany (n + 1) st = none := by
  rw [readMany, if_pos h]
theorem many_on {n : Nat} {st : St} (h1 : (sChange st).2.bad = false) (h2 : chgOk (sChange st).1 = true) : readMany (n + 1) st = (readMany n (sChange st).2).map fun q => ((sChange st).1 :: q.1, q.2) := by
  rw [readMany, if_neg]
  rintro (h | h)
  · rw [h1] at h; cases h
  · rw [h2] at h; cases h
theorem rchange_row (w : World) (B rb : Nat) (s : St) (h : Rd w B rb s) (c : Chg) (st : St) (hp : (c, st) = sChange s) :
    Calls Try.prog 43 #[.pointer (some ⟨rb, 0, none⟩)] w fun e w' => e = .returned (.agg #[.int .u8 (c.kind.toNat : Int), .int .i64 c.tenant, .string c.item.key, .string c.item.value, .int .u32 c.item.flags, .int .i64 c.item.til, .int .u64 c.item.unique, .string c.key, .int .u8 (c.why.toNat : Int), .int .i64 c.to, .bool c.primary]) ∧ Rd w' B rb st ∧ w.grownBy w' (some rb) := by
  have := rchange_any w B rb s h
  rw [← hp] at this
  exact this

set_option maxHeartbeats 1000000 in
theorem ofChanges_any (w : World) (B : Nat) (ao : Option Addr) (l : List UInt8) (cap : Nat) (hb : BsAt w B ao l) (h1 : l.length ≤ cap) (h2 : cap ≤ maxLen) (h3 : ao = none → cap = 0) (hB : B ≤ w.heap.size) :
    Calls Try.prog 14 #[.slice ao l.length cap] w fun e w' => ∃ v', e = .returned (.tuple #[v', .int .i64 (ofChs l).2]) ∧ OwnC w' w.heap.size v' (ofChs l).1 ∧ Below w.heap.size w w' := by
  have hlm : l.length ≤ maxLen := by omega
  unfold maxLen at hlm
  by_cases hbig : 65536 < l.length
  · have hbi : (65536 : Int) < (l.length : Int) := by omega
    have e : ofChs l = ([], 3) := by unfold ofChs; rw [if_pos hbig]
    rw [e]
    clear hb h1 h2 h3
    go_enter Try.func14, Try.ntmps14
    go_wp2
    go_ret2
    exact ⟨_, rfl, OwnC.nil _ _, Below.refl _ _⟩
  · have hbi : (l.length : Int) ≤ 65536 := by omega
    have e : ofChs l = ofRead (readMany (sSmall 4096 ⟨l, false⟩).1 (sSmall 4096 ⟨l, false⟩).2) := by unfold ofChs; rw [if_neg hbig]
    rw [e]
    clear e
    have hrd := Rd.made w B ao l cap hb h1 h2 h3 hB
    clear hb h1 h2 h3
    have hc := rsmall_any _ B w.heap.size ⟨l, false⟩ 4096 hrd
    have hle := sSmall_le 4096 ⟨l, false⟩
    obtain ⟨p, hp⟩ : ∃ p, p = sSmall 4096 ⟨l, false⟩ := ⟨_, rfl⟩
    rw [← hp] at hc hle ⊢
    clear hp hrd
    obtain ⟨N, st0⟩ := p
    simp only [] at hc hle ⊢
    go_enter Try.func14, Try.ntmps14
    go_wp2_with (go_at_call 42; refine hc.mono ?_; rintro e w1 ⟨rfl, hr1, hg1⟩)
    have hsz1 : w.heap.size < w1.heap.size := size_alloc_lt hg1.size
    have hbe1 : Below w.heap.size w w1 := ((Below.refl _ _).alloc (Nat.le_refl _) _).grown hg1 (by simp) (fun k hk => by cases hk; exact Nat.le_refl _)
    clear hc hg1
    go_loopw [5, 13] (fun u i wr => ∃ (k : Nat) (cs : List Chg) (st : St), k ≤ N ∧ i = .int .u64 k ∧ cs.length = k ∧ readMany N st0 = (readMany (N - k) st).map (fun q => (cs ++ q.1, q.2)) ∧ OwnC wr (w.heap.size + 1) u cs ∧ Rd wr B w.heap.size st ∧ Below w.heap.size w wr) (fun _ i _ => N - (intOf i).toNat)
    case atStart => exact ⟨0, [], st0, Nat.zero_le _, rfl, rfl, by simp, OwnC.nil _ _, hr1, hbe1⟩
    case round =>
      obtain ⟨k, cs, st, hk, rfl, hcl, hrm, ho, hr, hbe⟩ := hrel
      have HRM : Hid (readMany N st0 = (readMany (N - k) st).map (fun q => (cs ++ q.1, q.2))) := hrm
      have HCL : Hid (cs.length = k) := hcl
      clear hrm hcl hr1 hbe1 hsz1
      have hszr : w.heap.size < wr.heap.size := hr.lt
      by_cases hlt : k < N
      · have hlt2 : (k : Int) < (N : Int) := by omega
        obtain ⟨⟨c, st'⟩, hp⟩ : ∃ p, p = sChange st := ⟨_, rfl⟩
        have hcc := rchange_row wr B w.heap.size st hr c st' hp
        have hnk : N - k = (N - k - 1) + 1 := by omega
        have HP : Hid ((c, st') = sChange st) := hp
        clear hp
        cases hbad : st'.bad with
        | true =>
          have HE : Hid (ofRead (readMany N st0) = ([], 8)) := by
            show ofRead (readMany N st0) = ([], 8)
            rw [HRM.out, hnk, many_stop (by rw [← HP.out]; exact .inl hbad)]
            rfl
          go_wp2_with (first
            | (go_at_call 43; refine hcc.mono ?_; rintro e w2 ⟨rfl, hr2, hg2⟩; have f1 := hr2.flag; rw [hbad] at f1; have hrb := hr2.lt))
          go_ret2
          rw [HE.out]
          exact ⟨_, rfl, OwnC.nil _ _, (hbe.grown hg2 (by omega) (fun k hk => by cases hk; exact Nat.le_refl _)).alloc (by have := hg2.size; omega) _⟩
        | false =>
          by_cases hok : chgOk c = true
          · go_wp2_with (first
              | (at_builtin; refine app_chg rfl (.tmp 23) (.tmp 25) rfl (w.heap.size + 1) _ cs ho3 rfl c rfl _ rfl (by simp) (by have := HCL.out; omega) (by have := hb3.size; simp at this; omega) ?_; intro v4 w4 ho4 hg4)
              | (go_at_call 40; refine (mayBe_row c _).mono ?_; rintro e w3 ⟨rfl, hb3⟩; have hc3 := below_cells hb3; have ho3 := ho2.below hb3)
              | (go_at_call 43; refine hcc.mono ?_; rintro e w2 ⟨rfl, hr2, hg2⟩; have f1 := hr2.flag; rw [hbad] at f1; have hrb := hr2.lt; have ho2 := (ho.grown hg2 (fun k hk e => by have := (ho.lt k hk).1; cases e; omega)).alloc (.cells #[.int .u8 (c.kind.toNat : Int), .int .i64 c.tenant, .string c.item.key, .string c.item.value, .int .u32 c.item.flags, .int .i64 c.item.til, .int .u64 c.item.unique, .string c.key, .int .u8 (c.why.toNat : Int), .int .i64 c.to, .bool c.primary] 41)))
            have hs2 := hg2.size
            have hb23 : Below w2.heap.size w2 w3 := below_alloc hb3
            have hne : ∀ j, u5.ownBlock = some j → w.heap.size + 1 ≤ j := fun j hj => (ho.lt j hj).1
            have hr3 : Rd w3 B w.heap.size st' := hr2.grown (row := none) ⟨hb23.os, hb23.tape, hb23.output, hb23.size, fun k hk _ => hb23.block k hk⟩ (by simp) (by simp)
            have hr4 : Rd w4 B w.heap.size st' := hr3.grown hg4.grown (fun e => by have := hne _ e.symm; omega) (fun j hj => by have := hne j hj; omega)
            have hbe3 : Below w.heap.size w w3 := (hbe.grown hg2 (by omega) (fun k hk => by cases hk; exact Nat.le_refl _)).trans (hb23.mono (by omega))
            have hbe4 : Below w.heap.size w w4 := hbe3.grown hg4.grown (by have := hb23.size; omega) (fun j hj => by have := hne j hj; omega)
            go_roundw
            case rel => exact ⟨k + 1, cs ++ [c], st', by omega, by go_num, by simp [HCL.out], by
              rw [HRM.out, hnk, many_on (by rw [← HP.out]; exact hbad) (by rw [← HP.out]; exact hok), ← HP.out, show N - (k + 1) = N - k - 1 by omega]
              cases readMany (N - k - 1) st' <;> simp, ho4, hr4, hbe4⟩
            case measure => simp [intOf]; omega
          · have hok2 : chgOk c = false := by simpa using hok
            clear hok
            have HE : Hid (ofRead (readMany N st0) = ([], 8)) := by
              show ofRead (readMany N st0) = ([], 8)
              rw [HRM.out, hnk, many_stop (by rw [← HP.out]; exact .inr hok2)]
              rfl
            go_wp2_with (first
              | (go_at_call 40; refine (mayBe_row c _).mono ?_; rintro e w3 ⟨rfl, hb3⟩)
              | (go_at_call 43; refine hcc.mono ?_; rintro e w2 ⟨rfl, hr2, hg2⟩; have f1 := hr2.flag; rw [hbad] at f1; have hrb := hr2.lt))
            go_ret2
            rw [HE.out]
            exact ⟨_, rfl, OwnC.nil _ _, (hbe.grown hg2 (by omega) (fun k hk => by cases hk; exact Nat.le_refl _)).trans ((below_alloc hb3).mono (by have := hg2.size; omega))⟩
      · have hkN : k = N := by omega
        have HE : Hid (ofRead (readMany N st0) = if st.bad = false ∧ st.l = [] then (cs, 0) else ([], 8)) := by
          show ofRead (readMany N st0) = _
          rw [HRM.out, hkN, Nat.sub_self]
          simp [readMany, ofRead]
        have HKN : Hid (k = N) := hkN
        clear hkN
        by_cases hen : st.bad = false ∧ st.l = []
        · have hee : (!st.bad && st.l.isEmpty) = true := by simp [hen.1, hen.2]
          have hce := ended_any wr B w.heap.size st hr
          rw [hee] at hce
          have HEN : Hid (st.bad = false ∧ st.l = []) := hen
          clear hen hee
          go_wp2_with (go_at_call 44; refine hce.mono ?_; rintro e w' ⟨rfl, rfl⟩)
          go_ret2
          rw [HE.out, if_pos HEN.out]
          exact ⟨_, rfl, ⟨ho.1, by
            rcases ho.2 with h | ⟨g, cap, cur, h1, h2, h3⟩
            · exact .inl h
            · exact .inr ⟨g, cap, cur, h1, by omega, h3⟩⟩, hbe⟩
        · have hee : (!st.bad && st.l.isEmpty) = false := by
            cases hbb : st.bad with
            | true => rfl
            | false =>
              cases hll : st.l with
              | nil => exact absurd ⟨hbb, hll⟩ hen
              | cons x r => rfl
          have hce := ended_any wr B w.heap.size st hr
          rw [hee] at hce
          have HEN : Hid (¬ (st.bad = false ∧ st.l = [])) := hen
          clear hen hee
          go_wp2_with (go_at_call 44; refine hce.mono ?_; rintro e w' ⟨rfl, rfl⟩)
          go_ret2
          rw [HE.out, if_neg HEN.out]
          exact ⟨_, rfl, OwnC.nil _ _, hbe⟩
end Go.Proofs.Ytlhlleokehkolaa
