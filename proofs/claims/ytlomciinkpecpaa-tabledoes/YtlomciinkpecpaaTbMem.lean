/-
  Names with numbers as rows of entries; the hash; names held against each other.
-/
import Derived.Test.YtlomciinkpecpaaMem
import Derived.Deep.Cut
import Derived.Deep.CutRange
import Derived.Deep.QuietTactic
import Derived.BigQuiet
import Derived.Deep.RegionLaw
import Derived.Deep.RegionHeld3
import Derived.Deep.RegionWith
import Derived.Deep.AppendLies
namespace Go.Proofs.Ytlomciinkpecpaa
open Go.RowKit
set_option linter.unusedSimpArgs false
set_option linter.unusedVariables false
set_option maxRecDepth 100000

theorem Hid.mk2 {p : Prop} (h : p) : Hid p := h
structure Nm where
  tenant : Int
  key : ByteArray
deriving DecidableEq
def Nm.ok (x : Nm) : Prop := 0 ≤ x.tenant ∧ x.tenant < 4 ∧ 1 ≤ x.key.size ∧ x.key.size ≤ 32
instance (x : Nm) : Decidable x.ok := by unfold Nm.ok; exact inferInstance
abbrev NU := Nm × Int
def strike (x : Nm) (M : List NU) : List NU := M.filter (fun p => decide (p.1 ≠ x))
theorem mem_strike {x : Nm} {M : List NU} {p : NU} : p ∈ strike x M ↔ p ∈ M ∧ p.1 ≠ x := by simp [strike]
theorem strike_none {x : Nm} {M : List NU} (h : ∀ p ∈ M, p.1 ≠ x) : strike x M = M := List.filter_eq_self.2 (fun p hp => by simpa using h p hp)
def tcells (q : NU) : List Value := [.int .i64 q.1.tenant, .string q.1.key, .int .i64 q.2]
theorem tcells_len (q : NU) : (tcells q).length = 3 := rfl
theorem tcells_one (q : NU) : ∀ u ∈ tcells q, u.oneCell' = true := by
  intro u hu
  simp only [tcells, List.mem_cons, List.not_mem_nil, or_false] at hu
  rcases hu with rfl | rfl | rfl <;> rfl
theorem flatT_get (T : List NU) (i j : Nat) (hi : i < T.length) (hj : j < 3) : (T.flatMap tcells)[i * 3 + j]? = some ((tcells T[i])[j]'(by rw [tcells_len]; exact hj)) := by
  induction T generalizing i with
  | nil => simp at hi
  | cons c T ih =>
    rw [List.flatMap_cons]
    cases i with
    | zero =>
      rw [List.getElem?_append_left (by rw [tcells_len]; omega)]
      simp [tcells_len, hj]
    | succ i =>
      rw [List.getElem?_append_right (by rw [tcells_len]; omega), tcells_len, show (i + 1) * 3 + j - 3 = i * 3 + j by omega]
      exact ih i (by simpa using hi)
/-- names with their numbers lie at the address -/
def TAt (w : World) (ao : Option Addr) (T : List NU) : Prop :=
  T = [] ∨ ∃ b off, ao = some ⟨b, off, none⟩ ∧ b < w.heap.size ∧ ∀ i (hi : i < T.length), w.cell? ⟨b, off + i * 3, none⟩ = some (.int .i64 T[i].1.tenant) ∧ w.cell? ⟨b, off + i * 3 + 1, none⟩ = some (.string T[i].1.key) ∧ w.cell? ⟨b, off + i * 3 + 2, none⟩ = some (.int .i64 T[i].2)
theorem Try.infoEntry : (Try.prog.info? 64).map (fun i => (i.zero, i.size, i.bytes)) = some (some (.agg #[.int .i64 0, .string ⟨#[]⟩, .int .i64 0]), 3, 32) := by kernel_rfl
/-- the slice v owns the names with their moments T, in a block from base on -/
def OwnR (w : World) (base : Nat) (v : Value) (T : List NU) : Prop := w.ownsRow base 64 3 v T.length (T.flatMap tcells)
theorem OwnR.nil (w : World) (base : Nat) : OwnR w base (.slice none 0 0) [] := World.ownsRow_nil w base _ 3
theorem OwnR.alloc {w : World} {base : Nat} {v : Value} {T : List NU} (h : OwnR w base v T) (o : Obj) : OwnR (w.alloc o) base v T := World.ownsRow.alloc h o
theorem OwnR.grown {w w' : World} {base : Nat} {v : Value} {T : List NU} {row : Option Nat} (h : OwnR w base v T) (hg : w.grownBy w' row) (hne : ∀ k, v.ownBlock = some k → row ≠ some k) : OwnR w' base v T := by
  refine World.ownsRow.kept h hg ?_
  cases hv : v.ownBlock with
  | none => exact .inl rfl
  | some k => exact .inr (fun e => hne k hv e.symm)
theorem OwnR.below {w w' : World} {base : Nat} {v : Value} {T : List NU} (h : OwnR w base v T) (hb : Below w.heap.size w w') : OwnR w' base v T :=
  h.grown (row := none) ⟨hb.os, hb.tape, hb.output, hb.size, fun k hk _ => hb.block k hk⟩ (by intro k _ e; cases e)
theorem app_r {w w0 : World} {ops : Array Oper} {rest : List Oper} {o : Oper} {a : Act} {Q : Exit → Act → World → Prop} (hgd : o.guard = none) (s x : Operand) (ho : o.op = .call { callee := .builtin .append, args := #[s, x], argTypes := #[65, 65] })
    (base : Nat) (v : Value) (T : List NU) (hown : OwnR w0 base v T) (hs : a.eval s = v) (q : NU) (hw : w = w0.alloc (.cells (tcells q).toArray 64)) (H : Nat) (hx : a.eval x = .slice (some ⟨H, 0, none⟩) 1 1) (hH : H = w0.heap.size)
    (hlen : T.length + 1 ≤ 100000000) (hbase : base ≤ w0.heap.size)
    (h : ∀ v' w', OwnR w' base v' (T ++ [q]) → Grew w0 w' v v' → wpList Try.prog ops Q rest (a.put o.dst v') w') : wpList Try.prog ops Q (o :: rest) a w := by
  subst hH hw
  obtain ⟨i0, hi, hz0, hz1, hz2⟩ := info_parts Try.infoEntry
  have hm : maxLen = 9223372036854775807 := rfl
  refine wpList_append_own_at _ hgd s x 65 ho base 64 i0 _ 3 32 Try.underlying65 hi hz0 hz1 hz2 rfl (by decide) v T.length (T.flatMap tcells) hs (World.ownsRow.alloc hown _) ⟨w0.heap.size, 0, none⟩ 1 1 (tcells q) hx (by rw [tcells_len]) ?_ (tcells_one q) (by omega) (by omega) (by simp; omega) ?_
  · intro j u hu
    rw [addr_add]
    simp only [Nat.zero_add]
    have hj := (List.getElem?_eq_some_iff.1 hu).1
    have : u = (tcells q)[j] := by simpa [hj] using hu.symm
    subst this
    simp [hj]
  · intro v' w' h1 h2 h3 h4
    refine h v' w' ?_ ⟨(World.grownBy_alloc w0 _ _).trans h2, fun k hk => ?_⟩
    · have e : (T ++ [q]).length = T.length + 1 := by simp
      unfold OwnR
      rw [e, List.flatMap_append, List.flatMap_singleton]
      exact h1
    · rcases h4 with h4 | h4
      · exact .inl (h4 ▸ hk)
      · rw [h4] at hk
        cases hk
        exact .inr (by simp)

theorem OwnR.ne_of {w : World} {base : Nat} {v : Value} {T : List NU} (h : OwnR w base v T) {k : Nat} {o : Obj} (hk : w.heap[k]? = some o) (ho : ∀ c t m, o ≠ .cells c t m) : v.ownBlock ≠ some k := by
  intro e
  rcases h.2 with ⟨rfl, _⟩ | ⟨g, cap, cur, rfl, _, hg, _⟩
  · cases e
  · cases e
    rw [hg] at hk
    cases hk
    exact ho _ _ _ rfl
theorem OwnR.at {w : World} {base : Nat} {v : Value} {T : List NU} (h : OwnR w base v T) :
    ∃ ao cap, v = .slice ao T.length cap ∧ T.length ≤ cap ∧ cap ≤ maxLen ∧ TAt w ao T := by
  rcases h.2 with ⟨rfl, hn⟩ | ⟨g, cap, cur, rfl, hb, hg, hnc, hcm, hcs, htake⟩
  · have : T = [] := List.eq_nil_of_length_eq_zero hn
    subst this
    exact ⟨none, 0, rfl, by simp, by simp [maxLen], .inl rfl⟩
  · refine ⟨_, cap, rfl, hnc, hcm, .inr ⟨g, 0, rfl, (Array.getElem?_eq_some_iff.1 hg).1, fun i hi => ?_⟩⟩
    have key : ∀ j (hj : j < 3), w.cell? ⟨g, 0 + i * 3 + j, none⟩ = some ((tcells T[i])[j]'(by rw [tcells_len]; exact hj)) := fun j hj => by
      have := World.ownsRow.cells h (g := g) rfl (i * 3 + j) _ (flatT_get T i j hi hj)
      rw [addr_add] at this
      rw [Nat.zero_add] at this ⊢
      exact this
    exact ⟨key 0 (by omega), key 1 (by omega), key 2 (by omega)⟩
theorem OwnR.same {w w' : World} {base : Nat} {v : Value} {T : List NU} (h : OwnR w base v T) (e : ∀ g, v.ownBlock = some g → w'.heap[g]? = w.heap[g]?) : OwnR w' base v T := ⟨h.1, by
  rcases h.2 with h1 | ⟨g, cap, cur, h1, h2, h3, h4⟩
  · exact .inl h1
  · exact .inr ⟨g, cap, cur, h1, h2, (e g (by rw [h1]; rfl)).trans h3, h4⟩⟩
theorem OwnR.down {w : World} {b b' : Nat} {v : Value} {T : List NU} (h : OwnR w b v T) (hb : b' ≤ b) : OwnR w b' v T := ⟨h.1, by
  rcases h.2 with h | ⟨g, cap, cur, h1, h2, h3⟩
  · exact .inl h
  · exact .inr ⟨g, cap, cur, h1, Nat.le_trans hb h2, h3⟩⟩
/-- a row of names with their moments is none of a wheel's blocks -/
theorem tcells_all (T : List NU) : ∀ u ∈ T.flatMap tcells, u.oneCell' = true := by
  intro u hu
  obtain ⟨p, _, hp⟩ := List.mem_flatMap.1 hu
  exact tcells_one p u hp
theorem flatT_len (T : List NU) : (T.flatMap tcells).length = T.length * 3 := by
  induction T with
  | nil => rfl
  | cons p T ih => simp [tcells, ih]; omega
theorem ba_same {a b : ByteArray} (h : a.toList = b.toList) : a = b := by
  rw [ByteArray.toList_eq, ByteArray.toList_eq] at h
  cases a; cases b
  simp at h
  rw [ByteArray.mk.injEq]
  exact Array.toList_inj.1 (by simpa using h)
theorem nm_eql (a b : Nm) (W : World) : (binOp .eql 28 (.agg #[.int .i64 a.tenant, .string a.key]) (.agg #[.int .i64 b.tenant, .string b.key])).run Try.prog W = .ok (.bool (decide (a = b))) W := by
  obtain ⟨t, k⟩ := a
  obtain ⟨t', k'⟩ := b
  go_simp
  have hk : k.toList = k'.toList ↔ k = k' := ⟨fun h => ba_same h, fun h => by rw [h]⟩
  by_cases h1 : t = t'
  · by_cases h2 : k = k'
    · simp [h1, h2]
    · have h3 : ¬ k.toList = k'.toList := fun h => h2 (hk.1 h)
      simp [h1, h2, h3]
  · simp [h1]
theorem hashOn_any (h : Int) (s : ByteArray) (w : World) (hs : s.size ≤ maxLen) :
    Calls Try.prog 64 #[.int .u64 h, .string s] w fun e w' => e = .returned (.int .u64 (hashL h s.data.toList)) ∧ w = w' := by
  unfold maxLen at hs
  go_enter Try.func64, Try.ntmps64
  go_wp2
  go_loop [0, 8] (fun t i => ∃ k : Nat, k ≤ s.size ∧ i = .int .i64 k ∧ t = .int .u64 (hashL h (s.data.toList.take k))) (fun _ i => s.size - (intOf i).toNat)
  case atStart => exact ⟨0, Nat.zero_le _, rfl, rfl⟩
  case round =>
    obtain ⟨k, hk, rfl, rfl⟩ := hrel
    by_cases hlt : k < s.size
    · have HS : Hid (hashL h (s.data.toList.take (k + 1)) = hstep (hashL h (s.data.toList.take k)) s[k]) := by rw [take_snoc s k hlt, hashL_snoc]; exact rfl
      go_wp2
      go_round
      case rel => exact ⟨k + 1, by omega, by go_num, by rw [HS.out]; rfl⟩
      case measure => simp [intOf]; omega
    · go_wp2
      go_ret
      exact ⟨ret_int (by rw [take_all s k (by omega)]), rfl⟩

theorem hash_any (s : ByteArray) (w : World) (hs : s.size ≤ maxLen) :
    Calls Try.prog 47 #[.string s] w fun e w' => e = .returned (.int .u64 (hash0 s.data.toList)) ∧ w = w' := by
  go_enter Try.func47, Try.ntmps47
  go_wp2_with (go_at_call 64; refine (hashOn_any _ _ _ hs).mono ?_; rintro e w' ⟨rfl, rfl⟩)
  go_ret
  exact ⟨rfl, rfl⟩

theorem conv_one (t : Int) (w : World) : (convert 80 9 (.slice (some ⟨w.heap.size, 0, none⟩) 1 1)).run Try.prog (w.alloc (.cells #[.int .u8 t] 5)) =
    .ok (.string (tenantText t)) (w.alloc (.cells #[.int .u8 t] 5)) := by
  have h := run_convert_bytes_arg (P := Try.prog) (w.alloc (.cells #[.int .u8 t] 5)) 80 5 Try.underlying80 Try.underlying5 w.heap.size 0 1 1 [t] rfl
    (fun i hi => by
      have : i = 0 := by omega
      subst this
      simp) 9 Try.underlying9
  exact h


theorem bcl {W w1 : World} (hb : Below W.heap.size W w1) : ∀ b o, b < W.heap.size → w1.cell? ⟨b, o, none⟩ = W.cell? ⟨b, o, none⟩ := fun b o h => hb.cell (p := ⟨b, o, none⟩) h
theorem bfr {W w1 : World} (hb : Below W.heap.size W w1) : ∀ b o, b < W.heap.size → w1.frozen? ⟨b, o, none⟩ = W.frozen? ⟨b, o, none⟩ := fun b o h => hb.frozen (p := ⟨b, o, none⟩) h
theorem OwnR.lt {w : World} {base : Nat} {v : Value} {T : List NU} (h : OwnR w base v T) (g : Nat) (hg : v.ownBlock = some g) : base ≤ g ∧ g < w.heap.size := World.ownsRow.lt h g hg
end Go.Proofs.Ytlomciinkpecpaa
