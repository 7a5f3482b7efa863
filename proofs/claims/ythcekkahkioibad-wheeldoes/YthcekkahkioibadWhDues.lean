/-
  Names with their moments that come in; small; add: their contracts.
-/
import Derived.Test.YthcekkahkioibadWhDel
import Derived.Test.YthcekkahkioibadRows2
namespace Go.Proofs.Ythcekkahkioibad
open Go.ChangeShapes Go.WideShapes Go.ChangeAt Go.RowKit
set_option linter.unusedSimpArgs false
set_option linter.unusedVariables false
set_option maxRecDepth 100000

theorem Try.infoDue : (Try.prog.info? 57).map (fun i => (i.zero, i.size, i.bytes)) = some (some (.agg #[.int .i64 0, .string ⟨#[]⟩, .int .i64 0]), 3, 32) := by kernel_rfl
/-- the slice v owns the names with their moments T, in a block from base on -/
def OwnD (w : World) (base : Nat) (v : Value) (T : List NU) : Prop := w.ownsRow base 57 3 v T.length (T.flatMap tcells)
theorem OwnD.nil (w : World) (base : Nat) : OwnD w base (.slice none 0 0) [] := World.ownsRow_nil w base _ 3
theorem OwnD.alloc {w : World} {base : Nat} {v : Value} {T : List NU} (h : OwnD w base v T) (o : Obj) : OwnD (w.alloc o) base v T := World.ownsRow.alloc h o
theorem OwnD.grown {w w' : World} {base : Nat} {v : Value} {T : List NU} {row : Option Nat} (h : OwnD w base v T) (hg : w.grownBy w' row) (hne : ∀ k, v.ownBlock = some k → row ≠ some k) : OwnD w' base v T := by
  refine World.ownsRow.kept h hg ?_
  cases hv : v.ownBlock with
  | none => exact .inl rfl
  | some k => exact .inr (fun e => hne k hv e.symm)
theorem OwnD.below {w w' : World} {base : Nat} {v : Value} {T : List NU} (h : OwnD w base v T) (hb : Below w.heap.size w w') : OwnD w' base v T :=
  h.grown (row := none) ⟨hb.os, hb.tape, hb.output, hb.size, fun k hk _ => hb.block k hk⟩ (by intro k _ e; cases e)
theorem app_d {w w0 : World} {ops : Array Oper} {rest : List Oper} {o : Oper} {a : Act} {Q : Exit → Act → World → Prop} (hgd : o.guard = none) (s x : Operand) (ho : o.op = .call { callee := .builtin .append, args := #[s, x], argTypes := #[53, 53] })
    (base : Nat) (v : Value) (T : List NU) (hown : OwnD w0 base v T) (hs : a.eval s = v) (q : NU) (hw : w = w0.alloc (.cells (tcells q).toArray 57)) (H : Nat) (hx : a.eval x = .slice (some ⟨H, 0, none⟩) 1 1) (hH : H = w0.heap.size)
    (hlen : T.length + 1 ≤ 100000000) (hbase : base ≤ w0.heap.size)
    (h : ∀ v' w', OwnD w' base v' (T ++ [q]) → Grew w0 w' v v' → wpList Try.prog ops Q rest (a.put o.dst v') w') : wpList Try.prog ops Q (o :: rest) a w := by
  subst hH hw
  obtain ⟨i0, hi, hz0, hz1, hz2⟩ := info_parts Try.infoDue
  have hm : maxLen = 9223372036854775807 := rfl
  refine wpList_append_own_at _ hgd s x 53 ho base 57 i0 _ 3 32 Try.underlying53 hi hz0 hz1 hz2 rfl (by decide) v T.length (T.flatMap tcells) hs (World.ownsRow.alloc hown _) ⟨w0.heap.size, 0, none⟩ 1 1 (tcells q) hx (by rw [tcells_len]) ?_ (tcells_one q) (by omega) (by omega) (by simp; omega) ?_
  · intro j u hu
    rw [addr_add]
    simp only [Nat.zero_add]
    have hj := (List.getElem?_eq_some_iff.1 hu).1
    have : u = (tcells q)[j] := by simpa [hj] using hu.symm
    subst this
    simp [hj]
  · intro v' w' h1 h2 h3 h4
    refine h v' w' ?_ ⟨(World.grownBy_alloc w0 _ _).trans h2, fun k hk => ?_⟩
    · have e : (T ++ [q]).length = T.length + 1 := by simp
      unfold OwnD
      rw [e, List.flatMap_append, List.flatMap_singleton]
      exact h1
    · rcases h4 with h4 | h4
      · exact .inl (h4 ▸ hk)
      · rw [h4] at hk
        cases hk
        exact .inr (by simp)

theorem OwnD.ne_of {w : World} {base : Nat} {v : Value} {T : List NU} (h : OwnD w base v T) {k : Nat} {o : Obj} (hk : w.heap[k]? = some o) (ho : ∀ c t m, o ≠ .cells c t m) : v.ownBlock ≠ some k := by
  intro e
  rcases h.2 with ⟨rfl, _⟩ | ⟨g, cap, cur, rfl, _, hg, _⟩
  · cases e
  · cases e
    rw [hg] at hk
    cases hk
    exact ho _ _ _ rfl
theorem OwnD.at {w : World} {base : Nat} {v : Value} {T : List NU} (h : OwnD w base v T) :
    ∃ ao cap, v = .slice ao T.length cap ∧ T.length ≤ cap ∧ cap ≤ maxLen ∧ TAt w ao T := by
  rcases h.2 with ⟨rfl, hn⟩ | ⟨g, cap, cur, rfl, hb, hg, hnc, hcm, hcs, htake⟩
  · have : T = [] := List.eq_nil_of_length_eq_zero hn
    subst this
    exact ⟨none, 0, rfl, by simp, by simp [maxLen], .inl rfl⟩
  · refine ⟨_, cap, rfl, hnc, hcm, .inr ⟨g, 0, rfl, (Array.getElem?_eq_some_iff.1 hg).1, fun i hi => ?_⟩⟩
    have key : ∀ j (hj : j < 3), w.cell? ⟨g, 0 + i * 3 + j, none⟩ = some ((tcells T[i])[j]'(by rw [tcells_len]; exact hj)) := fun j hj => by
      have := World.ownsRow.cells h (g := g) rfl (i * 3 + j) _ (flatT_get T i j hi hj)
      rw [addr_add] at this
      rw [Nat.zero_add] at this ⊢
      exact this
    exact ⟨key 0 (by omega), key 1 (by omega), key 2 (by omega)⟩
theorem OwnD.same {w w' : World} {base : Nat} {v : Value} {T : List NU} (h : OwnD w base v T) (e : ∀ g, v.ownBlock = some g → w'.heap[g]? = w.heap[g]?) : OwnD w' base v T := ⟨h.1, by
  rcases h.2 with h1 | ⟨g, cap, cur, h1, h2, h3, h4⟩
  · exact .inl h1
  · exact .inr ⟨g, cap, cur, h1, h2, (e g (by rw [h1]; rfl)).trans h3, h4⟩⟩
theorem OwnD.down {w : World} {b b' : Nat} {v : Value} {T : List NU} (h : OwnD w b v T) (hb : b' ≤ b) : OwnD w b' v T := ⟨h.1, by
  rcases h.2 with h | ⟨g, cap, cur, h1, h2, h3⟩
  · exact .inl h
  · exact .inr ⟨g, cap, cur, h1, Nat.le_trans hb h2, h3⟩⟩
/-- a row of names with their moments is none of a wheel's blocks -/
theorem OwnD.away {w : World} {base : Nat} {v : Value} {T : List NU} (hT : OwnD w base v T) {p now : Nat} {U G : List NU} {b0 : Nat} {mb : Nat → Option Nat} {N : Nat} (h : Wh w p now U G b0 mb N) (hp : p < base) (g : Nat) (hg : v.ownBlock = some g) : ¬ Foot p b0 mb g := fun hf => by
  rcases h.notCells hf with e | ⟨o, ho, hc⟩
  · have := (hT.lt g hg).1
    omega
  · exact hT.ne_of ho hc hg
theorem OwnD.kept {w w' : World} {base : Nat} {v : Value} {T : List NU} (hT : OwnD w base v T) {F : Nat → Prop} (hk : Kept F w w') (hF : ∀ g, v.ownBlock = some g → ¬ F g) : OwnD w' base v T :=
  hT.same (fun g hg => hk.block g (hT.lt g hg).2 (hF g hg))

theorem TAt.below {w w' : World} {ao : Option Addr} {T : List NU} (h : TAt w ao T) (hb : Below w.heap.size w w') : TAt w' ao T := by
  rcases h with h | ⟨b, off, h1, h2, h3⟩
  · exact .inl h
  · refine .inr ⟨b, off, h1, Nat.lt_of_lt_of_le h2 hb.size, fun i hi => ?_⟩
    obtain ⟨c0, c1, c2⟩ := h3 i hi
    exact ⟨(hb.cell (p := ⟨b, _, none⟩) h2).trans c0, (hb.cell (p := ⟨b, _, none⟩) h2).trans c1, (hb.cell (p := ⟨b, _, none⟩) h2).trans c2⟩
/-- some bool, and true only of so many -/
structure SmallB (e : Ending) (n : Nat) : Prop where
  ex : ∃ h : Bool, e = .returned (.bool h) ∧ (h = false ∨ n ≤ 200)
theorem small_any (w : World) (ao : Option Addr) (T : List NU) (cap : Nat) (h : TAt w ao T) (hm : T.length ≤ maxLen) :
    Calls Try.prog 19 #[.slice ao T.length cap] w fun e w' => SmallB e T.length ∧ w' = w := by
  unfold maxLen at hm
  have HT := Hid.mk2 h
  clear h
  go_enter Try.func19, Try.ntmps19
  go_wp2
  go_loopw [3] (fun i wr => ∃ k : Nat, k ≤ T.length ∧ k ≤ 500 ∧ i = .int .i64 k ∧ wr = w) (fun i _ => T.length - (intOf i).toNat)
  case atStart => exact ⟨0, Nat.zero_le _, by omega, rfl, rfl⟩
  case round =>
    obtain ⟨k, hk, hk5, rfl, rfl⟩ := hrel
    by_cases hlt : k < T.length
    · have hlt2 : (k : Int) < (T.length : Int) := by omega
      by_cases h5 : k < 500
      · have h52 : (k : Int) < 500 := by omega
        rcases HT.out with h0 | ⟨b, off, rfl, hb, hc⟩
        · rw [h0] at hlt; simp at hlt
        obtain ⟨c0, c1, c2⟩ := hc k hlt
        obtain ⟨y, hy⟩ : ∃ y, y = T[k].1 := ⟨_, rfl⟩
        rw [← hy] at c1
        clear c0 c2 hc hy
        by_cases hbig : (10000 : Int) < (y.key.size : Int)
        · go_wp2
          go_ret
          exact ⟨⟨_, rfl, .inl rfl⟩, rfl⟩
        · have hb2 : decide ((10000 : Int) < (y.key.size : Int)) = false := by simpa using hbig
          go_wp2
          go_roundw
          case rel => exact ⟨k + 1, by omega, by omega, by go_num, trivial⟩
          case measure => simp [intOf]; omega
      · have h52 : decide ((k : Int) < 500) = false := by simp; omega
        have hbig : ¬ (T.length : Int) ≤ 200 := by omega
        have hb2 : decide ((T.length : Int) ≤ 200) = false := by simpa using hbig
        go_wp2
        go_ret
        exact ⟨⟨_, rfl, .inl rfl⟩, rfl⟩
    · have hlt2 : decide ((k : Int) < (T.length : Int)) = false := by simp; omega
      by_cases c1 : (T.length : Int) ≤ 200
      · go_wp2
        go_ret
        exact ⟨⟨_, rfl, .inr (by omega)⟩, rfl⟩
      · have c2 : decide ((T.length : Int) ≤ 200) = false := by simpa using c1
        go_wp2
        go_ret
        exact ⟨⟨_, rfl, .inl rfl⟩, rfl⟩
theorem ba_same {a b : ByteArray} (h : a.toList = b.toList) : a = b := by
  rw [ByteArray.toList_eq, ByteArray.toList_eq] at h
  cases a; cases b
  simp at h
  rw [ByteArray.mk.injEq]
  exact Array.toList_inj.1 (by simpa using h)
theorem nm_eql (a b : Nm) (W : World) : (binOp .eql 24 (.agg #[.int .i64 a.tenant, .string a.key]) (.agg #[.int .i64 b.tenant, .string b.key])).run Try.prog W = .ok (.bool (decide (a = b))) W := by
  obtain ⟨t, k⟩ := a
  obtain ⟨t', k'⟩ := b
  go_simp
  have hk : k.toList = k'.toList ↔ k = k' := ⟨fun h => ba_same h, fun h => by rw [h]⟩
  by_cases h1 : t = t'
  · by_cases h2 : k = k'
    · simp [h1, h2]
    · have h3 : ¬ k.toList = k'.toList := fun h => h2 (hk.1 h)
      simp [h1, h2, h3]
  · simp [h1]
end Go.Proofs.Ythcekkahkioibad
