/-
  Contract of Changes.
-/
import Derived.Test.YtlhlleokehkolaaAddChg
namespace Go.Proofs.Ytlhlleokehkolaa
open Go.RowKit
set_option linter.unusedSimpArgs false
set_option linter.unusedVariables false
set_option maxRecDepth 100000

/-- the changes cs lie at the address, below block B -/
def ChAt (w : World) (B : Nat) (ao : Option Addr) (cs : List Chg) : Prop :=
  cs = [] ∨ ∃ b off, ao = some ⟨b, off, none⟩ ∧ b < B ∧ ∀ i (hi : i < cs.length) j (hj : j < 11), w.cell? ⟨b, off + i * 11 + j, none⟩ = some (cs[i].cells[j]'(by simp [Chg.cells]; omega))
theorem ChAt.below {w w' : World} {B B' : Nat} {ao : Option Addr} {cs : List Chg} (h : ChAt w B ao cs) (hb : Below B w w') (hB : B ≤ B') : ChAt w' B' ao cs := by
  rcases h with rfl | ⟨b, off, rfl, hlt, hc⟩
  · exact .inl rfl
  · exact .inr ⟨b, off, rfl, by omega, fun i hi j hj => (hb.cell (p := ⟨b, off + i * 11 + j, none⟩) hlt).trans (hc i hi j hj)⟩

/-- the eleven cells of a change at an address -/
def Chg.Lies (c : Chg) (w : World) (b o : Nat) : Prop :=
  w.cell? ⟨b, o, none⟩ = some (.int .u8 (c.kind.toNat : Int)) ∧ w.cell? ⟨b, o + 1, none⟩ = some (.int .i64 c.tenant) ∧ w.cell? ⟨b, o + 2, none⟩ = some (.string c.item.key) ∧ w.cell? ⟨b, o + 3, none⟩ = some (.string c.item.value) ∧
  w.cell? ⟨b, o + 4, none⟩ = some (.int .u32 c.item.flags) ∧ w.cell? ⟨b, o + 5, none⟩ = some (.int .i64 c.item.til) ∧ w.cell? ⟨b, o + 6, none⟩ = some (.int .u64 c.item.unique) ∧ w.cell? ⟨b, o + 7, none⟩ = some (.string c.key) ∧
  w.cell? ⟨b, o + 8, none⟩ = some (.int .u8 (c.why.toNat : Int)) ∧ w.cell? ⟨b, o + 9, none⟩ = some (.int .i64 c.to) ∧ w.cell? ⟨b, o + 10, none⟩ = some (.bool c.primary)
theorem lies_of {w : World} {b off : Nat} {cs : List Chg} (hc : ∀ i (hi : i < cs.length) j (hj : j < 11), w.cell? ⟨b, off + i * 11 + j, none⟩ = some (cs[i].cells[j]'(by simp [Chg.cells]; omega))) (i : Nat) (hi : i < cs.length) : cs[i].Lies w b (off + i * 11) :=
  ⟨hc i hi 0 (by omega), hc i hi 1 (by omega), hc i hi 2 (by omega), hc i hi 3 (by omega), hc i hi 4 (by omega), hc i hi 5 (by omega), hc i hi 6 (by omega), hc i hi 7 (by omega), hc i hi 8 (by omega), hc i hi 9 (by omega), hc i hi 10 (by omega)⟩

/-- all of them may be -/
def allOk (cs : List Chg) : Bool := cs.all chgOk
def chsBytes (cs : List Chg) : List UInt8 := small cs.length ++ cs.flatMap chgB
/-- P1.3: what Changes answers -/
def chsB (cs : List Chg) : List UInt8 := if 4096 < cs.length then [] else if allOk cs = false then [] else if 65536 < (chsBytes cs).length then [] else chsBytes cs
def chsE (cs : List Chg) : Int := if 4096 < cs.length then 4 else if allOk cs = false then 8 else if 65536 < (chsBytes cs).length then 3 else 0
theorem allOk_false {cs : List Chg} {k : Nat} (hk : k < cs.length) (h : chgOk cs[k] = false) : allOk cs = false := by
  unfold allOk
  rw [List.all_eq_false]
  exact ⟨cs[k], List.getElem_mem hk, by simp [h]⟩
theorem allOk_true {cs : List Chg} (h : ∀ i (hi : i < cs.length), chgOk cs[i] = true) : allOk cs = true := by
  unfold allOk
  rw [List.all_eq_true]
  intro c hc
  obtain ⟨i, hi, rfl⟩ := List.mem_iff_getElem.1 hc
  exact h i hi
theorem flat_len : ∀ (cs : List Chg), (∀ c ∈ cs, chgOk c = true) → (cs.flatMap chgB).length ≤ 605 * cs.length
  | [], _ => by simp
  | c :: cs, h => by
    have h1 := chgB_len (h c (by simp))
    have h2 := flat_len cs (fun d hd => h d (by simp [hd]))
    simp only [List.flatMap_cons, List.length_append, List.length_cons]
    omega
theorem take_flat {cs : List Chg} {k : Nat} (hk : k < cs.length) : (cs.take (k + 1)).flatMap chgB = (cs.take k).flatMap chgB ++ chgB cs[k] := by
  rw [List.take_succ_eq_append_getElem hk, List.flatMap_append, List.flatMap_singleton]

theorem mayBe_row (c : Chg) (w : World) : Calls Try.prog 40 #[.agg #[.int .u8 (c.kind.toNat : Int), .int .i64 c.tenant, .string c.item.key, .string c.item.value, .int .u32 c.item.flags, .int .i64 c.item.til, .int .u64 c.item.unique, .string c.key, .int .u8 (c.why.toNat : Int), .int .i64 c.to, .bool c.primary]] w fun e w' => e = .returned (.bool (chgOk c)) ∧ Below w.heap.size w w' := changeMayBe_any c w
theorem addChange_row (base : Nat) (v : Value) (l : List UInt8) (c : Chg) (w : World) (hown : Own w base v l) (hbase : base ≤ w.heap.size) (hl : l.length ≤ 80000000) (hok : chgOk c = true) (hg : c.Good) :
    Calls Try.prog 41 #[v, .agg #[.int .u8 (c.kind.toNat : Int), .int .i64 c.tenant, .string c.item.key, .string c.item.value, .int .u32 c.item.flags, .int .i64 c.item.til, .int .u64 c.item.unique, .string c.key, .int .u8 (c.why.toNat : Int), .int .i64 c.to, .bool c.primary]] w fun e w' => ∃ v', e = .returned v' ∧ Own w' base v' (l ++ chgB c) ∧ Grew w w' v v' := addChange_any base v l c w hown hbase hl hok hg

theorem changes_row (w : World) (b off : Nat) (cs : List Chg) (cap : Nat) (hlen : cs.length ≤ 4096) (hbl : b < w.heap.size) (hc : ∀ i (hi : i < cs.length) j (hj : j < 11), w.cell? ⟨b, off + i * 11 + j, none⟩ = some (cs[i].cells[j]'(by simp [Chg.cells]; omega))) (hgood : ∀ c ∈ cs, c.Good) :
    Calls Try.prog 13 #[.slice (some ⟨b, off, none⟩) cs.length cap] w fun e w' => ∃ v', e = .returned (.tuple #[v', .int .i64 (chsE cs)]) ∧ Own w' w.heap.size v' (chsB cs) ∧ Below w.heap.size w w' := by
  have HC : Hid (∀ i (hi : i < cs.length) j (hj : j < 11), w.cell? ⟨b, off + i * 11 + j, none⟩ = some (cs[i].cells[j]'(by simp [Chg.cells]; omega))) := hc
  have HG : Hid (∀ c ∈ cs, c.Good) := hgood
  clear hc hgood
  have hl1 : (cs.length : Int) ≤ 4096 := by omega
  have h4 : ¬ 4096 < cs.length := by omega
  go_enter Try.func13, Try.ntmps13
  go_wp2
  go_loopw [14] (fun i wr => ∃ k : Nat, k ≤ cs.length ∧ i = .int .i64 k ∧ Below w.heap.size w wr ∧ (∀ i (hi : i < cs.length), i < k → chgOk cs[i] = true)) (fun i _ => cs.length - (intOf i).toNat)
  case atStart => exact ⟨0, Nat.zero_le _, rfl, Below.refl _ _, fun _ _ h => absurd h (by omega)⟩
  case round =>
    obtain ⟨k, hk, rfl, hb, hoks⟩ := hrel
    have HOK : Hid (∀ i (hi : i < cs.length), i < k → chgOk cs[i] = true) := hoks
    clear hoks
    by_cases hlt : k < cs.length
    · have hlt2 : (k : Int) < (cs.length : Int) := by omega
      obtain ⟨c, hce⟩ : ∃ c, c = cs[k] := ⟨_, rfl⟩
      have hL := lies_of HC.out k hlt
      rw [← hce] at hL
      have HCE : Hid (c = cs[k]) := hce
      clear hce
      have hbl2 : b < wr.heap.size := Nat.lt_of_lt_of_le hbl hb.size
      have hm := fun o => hb.cell (p := ⟨b, o, none⟩) hbl
      obtain ⟨q0, q1, q2, q3, q4, q5, q6, q7, q8, q9, q10⟩ := hL
      rw [← hm] at q0 q1 q2 q3 q4 q5 q6 q7 q8 q9 q10
      clear hm
      by_cases hok : chgOk c = true
      · go_wp2_with (go_at_call 40; refine (mayBe_row c _).mono ?_; rintro e w1 ⟨rfl, hb1⟩)
        go_roundw
        case rel => exact ⟨k + 1, by omega, by go_num, hb.trans ((below_alloc hb1).mono hb.size), fun i hi h => by
          by_cases e : i = k
          · subst e; rw [← HCE.out]; exact hok
          · exact HOK.out i hi (by omega)⟩
        case measure => simp [intOf]; omega
      · have hok2 : chgOk c = false := by simpa using hok
        clear hok
        have HAF : Hid (allOk cs = false) := allOk_false hlt (by rw [← HCE.out]; exact hok2)
        go_wp2_with (go_at_call 40; refine (mayBe_row c _).mono ?_; rintro e w1 ⟨rfl, hb1⟩)
        go_ret2
        have e1 : chsB cs = [] := by unfold chsB; rw [if_neg h4, if_pos HAF.out]
        have e2 : chsE cs = 8 := by unfold chsE; rw [if_neg h4, if_pos HAF.out]
        rw [e1, e2]
        exact ⟨_, rfl, Own.nil _ _, hb.trans ((below_alloc hb1).mono hb.size)⟩
    · have HAT : Hid (allOk cs = true) := allOk_true (fun i hi => HOK.out i hi (by omega))
      have HALL : Hid (∀ c ∈ cs, chgOk c = true) := by
        intro c hc
        obtain ⟨i, hi, rfl⟩ := List.mem_iff_getElem.1 hc
        exact HOK.out i hi (by omega)
      have hfit : Fits cs.length := by unfold Fits; omega
      have e1 := small_len cs.length
      go_wp2_with (go_at_call 16; refine (small_any cs.length wr hfit).mono ?_; rintro e w2 ⟨v2, rfl, ho2, hb2⟩)
      have hb02 : Below w.heap.size w w2 := hb.trans (hb2.mono hb.size)
      have ho2' : Own w2 w.heap.size v2 (small cs.length) := ⟨ho2.1, by
        rcases ho2.2 with h | ⟨g, cap, cur, h1, h2, h3⟩
        · exact .inl h
        · exact .inr ⟨g, cap, cur, h1, Nat.le_trans hb.size h2, h3⟩⟩
      clear ho2 hb2 hb hfit
      go_loopw [6, 28] (fun u i wq => ∃ m : Nat, m ≤ cs.length ∧ i = .int .i64 m ∧ Below w.heap.size w wq ∧ Own wq w.heap.size u (small cs.length ++ (cs.take m).flatMap chgB)) (fun _ i _ => cs.length - (intOf i).toNat)
      case atStart => exact ⟨0, Nat.zero_le _, rfl, hb02, by simpa using ho2'⟩
      case round =>
        obtain ⟨m, hmle, rfl, hbq, hoq⟩ := hrel
        have hfl := flat_len (cs.take m) (fun c hc => HALL.out c (List.mem_of_mem_take hc))
        have hfl2 : (small cs.length ++ (cs.take m).flatMap chgB).length ≤ 3000000 := by
          rw [List.length_take] at hfl
          simp only [List.length_append]
          have : min m cs.length ≤ 4096 := by omega
          omega
        clear hfl ho2' hb02
        by_cases hml : m < cs.length
        · have hml2 : (m : Int) < (cs.length : Int) := by omega
          obtain ⟨c, hce⟩ : ∃ c, c = cs[m] := ⟨_, rfl⟩
          have hL := lies_of HC.out m hml
          rw [← hce] at hL
          have hok : chgOk c = true := by rw [hce]; exact HALL.out _ (List.getElem_mem hml)
          have hgd : c.Good := by rw [hce]; exact HG.out _ (List.getElem_mem hml)
          have HCE : Hid (c = cs[m]) := hce
          clear hce
          have hbl2 : b < wr.heap.size := Nat.lt_of_lt_of_le hbl hbq.size
          have hm := fun o => hbq.cell (p := ⟨b, o, none⟩) hbl
          obtain ⟨q0, q1, q2, q3, q4, q5, q6, q7, q8, q9, q10⟩ := hL
          rw [← hm] at q0 q1 q2 q3 q4 q5 q6 q7 q8 q9 q10
          clear hm
          have hsz := hbq.size
          go_wp2_with (go_at_call 41; refine (addChange_row w.heap.size _ _ c _ (hoq.alloc _) (by simp; omega) (by omega) hok hgd).mono ?_; rintro e w3 ⟨v3, rfl, ho3, hg3⟩)
          go_roundw
          case rel => exact ⟨m + 1, by omega, by go_num, hbq.trans ((hg3.alloc).below hoq hsz), by rw [take_flat hml, ← HCE.out, ← List.append_assoc]; exact ho3⟩
          case measure => simp [intOf]; omega
        · have hmm : m = cs.length := by omega
          have HB : Hid (small cs.length ++ (cs.take m).flatMap chgB = chsBytes cs) := by
            show _ = _
            rw [hmm, List.take_length]; rfl
          clear hmm
          obtain ⟨bs, hbs⟩ : ∃ bs, bs = small cs.length ++ (cs.take m).flatMap chgB := ⟨_, rfl⟩
          rw [← hbs] at hoq hfl2
          have HBS : Hid (bs = chsBytes cs) := hbs.trans HB.out
          clear hbs
          obtain ⟨ao, cp, hv, h1, h2, h3, h5⟩ := hoq.at
          by_cases hbig : 65536 < bs.length
          · have hbig2 : (65536 : Int) < (bs.length : Int) := by omega
            rw [hv] at hoq ⊢
            go_wp2
            go_ret2
            have e1 : chsB cs = [] := by unfold chsB; rw [if_neg h4, if_neg (by rw [HAT.out]; decide), ← HBS.out, if_pos hbig]
            have e2 : chsE cs = 3 := by unfold chsE; rw [if_neg h4, if_neg (by rw [HAT.out]; decide), ← HBS.out, if_pos hbig]
            rw [e1, e2]
            exact ⟨_, rfl, Own.nil _ _, hbq⟩
          · have hbig2 : (bs.length : Int) ≤ 65536 := by omega
            rw [hv] at hoq ⊢
            go_wp2
            go_ret2
            have e1 : chsB cs = bs := by unfold chsB; rw [if_neg h4, if_neg (by rw [HAT.out]; decide), ← HBS.out, if_neg hbig]
            have e2 : chsE cs = 0 := by unfold chsE; rw [if_neg h4, if_neg (by rw [HAT.out]; decide), ← HBS.out, if_neg hbig]
            rw [e1, e2]
            exact ⟨_, rfl, hoq, hbq⟩
end Go.Proofs.Ytlhlleokehkolaa
