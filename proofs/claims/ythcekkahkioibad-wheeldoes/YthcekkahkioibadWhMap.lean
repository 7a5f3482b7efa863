/-
  Names, and maps from names to moments, as lists of pairs.
-/
import Derived.Test.YthcekkahkioibadMem
import Derived.Maps.OwnSet
import Derived.Maps.RangeWalk
import Derived.DeepKeys5
namespace Go.Proofs.Ythcekkahkioibad
open Go.RowKit
open Go.Maps (Keyed)
set_option linter.unusedSimpArgs false
set_option linter.unusedVariables false
set_option maxRecDepth 100000

structure Nm where
  tenant : Int
  key : ByteArray
deriving DecidableEq
def Nm.val (x : Nm) : Value := .agg #[.int .i64 x.tenant, .string x.key]
def Nm.ok (x : Nm) : Prop := 0 ≤ x.tenant ∧ x.tenant < 4 ∧ 1 ≤ x.key.size ∧ x.key.size ≤ 32
instance (x : Nm) : Decidable x.ok := by unfold Nm.ok; exact inferInstance
def kl (x : Nm) : Lit := .string (keyBytes [.int .i64 x.tenant, .string x.key.data.toList])

theorem Try.laidNm : laidOutB Try.prog = true := by kernel_rfl
theorem Try.keyNm : Try.prog.keyType 24 = true := by kernel_rfl
theorem Try.rowNm : (24 : TypeId) < Try.prog.types.size := of_decide_eq_true (by kernel_rfl)
theorem Try.smallNm : Try.prog.types.size + 2 ≤ 10000 := of_decide_eq_true (by kernel_rfl)
theorem lawNm : Keyed Try.prog 24 := Keyed.of_law (deep_law_gate Try.laidNm Try.smallNm Try.rowNm Try.keyNm (by kernel_rfl))
theorem Try.cellsNm : Try.prog.cellsOf 24 = 2 := by kernel_rfl
theorem Try.cellsNmT : Try.prog.cellsOf 3 = 1 := by kernel_rfl
theorem Try.cellsNmK : Try.prog.cellsOf 9 = 1 := by kernel_rfl
theorem Try.typesNm : Try.prog.types.size = Try.prog.types.size - 1 + 1 := by kernel_rfl
theorem zeroNm (w : World) : (zeroValue 3).run Try.prog w = .ok (.int .i64 0) w := by kernel_rfl

theorem lits_int {P : Program} {t : TypeId} {q : IntKind} (h : P.underlying t = some (.int q)) (d : Nat) (n : Int) (hw : (Lit.int q n).wf = true) : P.keyLits (d + 1) t [.int q n] = some [.int q n] := by
  simp [Program.keyLits, h, hw]
theorem lits_str {P : Program} {t : TypeId} (h : P.underlying t = some .string) (d : Nat) (s : ByteArray) (hs : s.size ≤ maxLen) : P.keyLits (d + 1) t [.string s] = some [.string s.data.toList] := by
  simp [Program.keyLits, h, hs]
theorem lits_int_inv {P : Program} {t : TypeId} {q : IntKind} (h : P.underlying t = some (.int q)) {d : Nat} {c : Value} {l : List Lit} (hl : P.keyLits (d + 1) t [c] = some l) : ∃ n, c = .int q n := by
  cases c <;> simp [Program.keyLits, h] at hl
  obtain ⟨⟨rfl, _⟩, _⟩ := hl
  exact ⟨_, rfl⟩
theorem lits_str_inv {P : Program} {t : TypeId} (h : P.underlying t = some .string) {d : Nat} {c : Value} {l : List Lit} (hl : P.keyLits (d + 1) t [c] = some l) : ∃ s, c = .string s := by
  cases c <;> simp [Program.keyLits, h] at hl
  exact ⟨_, rfl⟩
theorem lits_two {P : Program} {t : TypeId} {f0 f1 : Field} (h : P.underlying t = some (.struct #[f0, f1])) (hc : P.cellsOf t = 2) (n0 : (f0.name != "_") = true) (n1 : (f1.name != "_") = true) (o0 : f0.offset = 0) (o1 : f1.offset = 1) (c0 : P.cellsOf f0.type = 1) (c1 : P.cellsOf f1.type = 1) (d : Nat) (x y : Value) :
    P.keyLits (d + 1) t [x, y] = (P.keyLits d f0.type [x]).bind fun l0 => (P.keyLits d f1.type [y]).map fun l1 => l0 ++ l1 := by
  have n0' : ¬ f0.name = "_" := by simpa using n0
  have n1' : ¬ f1.name = "_" := by simpa using n1
  simp only [Program.keyLits, h]
  rw [if_pos ⟨by rw [hc]; rfl, by simp [n0', n1']⟩]
  simp only [o0, o1, c0, c1, List.mapM_cons, List.mapM_nil, List.drop, List.take]
  cases P.keyLits d f0.type [x] with
  | none => rfl
  | some l0 =>
    cases P.keyLits d f1.type [y] with
    | none => rfl
    | some l1 => simp
theorem keyLits_nm (d : Nat) (x y : Value) : Try.prog.keyLits (d + 1) 24 [x, y] = (Try.prog.keyLits d 3 [x]).bind fun l0 => (Try.prog.keyLits d 9 [y]).map fun l1 => l0 ++ l1 :=
  lits_two Try.underlying24 Try.cellsNm rfl rfl rfl rfl Try.cellsNmT Try.cellsNmK d x y
theorem size_nm : ∃ m, Try.prog.types.size = m + 1 := ⟨Try.prog.types.size - 1, by kernel_rfl⟩
theorem keyOf_nm (x y : Value) : ∃ m, keyOf Try.prog 24 (.agg #[x, y]) = ((Try.prog.keyLits (m + 1) 3 [x]).bind fun l0 => (Try.prog.keyLits (m + 1) 9 [y]).map fun l1 => l0 ++ l1).map fun ls => .string (keyBytes ls) := by
  obtain ⟨m, hm⟩ := size_nm
  refine ⟨m, ?_⟩
  unfold keyOf
  rw [hm]
  have hu := Try.underlying24
  have hf : (Value.agg #[x, y]).formed Try.prog 24 = true := by
    simp only [Value.formed, hu, Try.cellsNm]
    rfl
  rw [hu]
  simp only [Try.keyNm, hf, Value.cells]
  rw [keyLits_nm]
  rfl
theorem key_is (x : Nm) (h1 : (Lit.int .i64 x.tenant).wf = true) (h2 : x.key.size ≤ maxLen) : keyOf Try.prog 24 x.val = some (kl x) := by
  obtain ⟨m, hm⟩ := keyOf_nm (.int .i64 x.tenant) (.string x.key)
  unfold Nm.val
  rw [hm, lits_int Try.underlying3 m _ h1, lits_str Try.underlying9 m _ h2]
  rfl
theorem key_ok {x : Nm} (h : x.ok) : keyOf Try.prog 24 x.val = some (kl x) := by
  obtain ⟨h1, h2, h3, h4⟩ := h
  exact key_is x (WalkArith.wf_i64 (by omega)) (by unfold maxLen; omega)
theorem val_inj {a b : Nm} (h : a.val = b.val) : a = b := by
  obtain ⟨a1, a2⟩ := a
  obtain ⟨b1, b2⟩ := b
  simp only [Nm.val, Value.agg.injEq, Array.mk.injEq, List.cons.injEq, Value.int.injEq, Value.string.injEq] at h
  obtain ⟨⟨_, h1⟩, h2, _⟩ := h
  rw [h1, h2]
theorem kl_inj {a b : Nm} (ha : a.ok) (hb : b.ok) (h : kl a = kl b) : a = b :=
  val_inj (lawNm.inj (key_ok ha) (h ▸ key_ok hb))
theorem key_inv {v : Value} {l : Lit} (h : keyOf Try.prog 24 v = some l) : ∃ x : Nm, v = x.val := by
  have hf : v.formed Try.prog 24 = true := by
    unfold keyOf at h
    have hu := Try.underlying24
    rw [hu] at h
    simp only [Try.keyNm, Bool.true_and] at h
    cases hv : v.formed Try.prog 24 with
    | true => rfl
    | false => rw [hv] at h; cases h
  have hc : ∃ cs, v = .agg cs ∧ cs.size = 2 := by
    unfold Value.formed at hf
    rw [Try.underlying24] at hf
    cases v with
    | agg cs => exact ⟨cs, rfl, by simpa [Try.cellsNm] using hf⟩
    | _ => cases hf
  obtain ⟨⟨cs⟩, rfl, h2⟩ := hc
  match cs, h2 with
  | [c0, c1], _ =>
    obtain ⟨m, hm⟩ := keyOf_nm c0 c1
    rw [hm] at h
    cases e0 : Try.prog.keyLits (m + 1) 3 [c0] with
    | none => rw [e0] at h; cases h
    | some l0 =>
      cases e1 : Try.prog.keyLits (m + 1) 9 [c1] with
      | none => rw [e0, e1] at h; cases h
      | some l1 =>
        obtain ⟨n, rfl⟩ := lits_int_inv Try.underlying3 e0
        obtain ⟨s, rfl⟩ := lits_str_inv Try.underlying9 e1
        exact ⟨⟨n, s⟩, rfl⟩
theorem kl_key (x : Nm) : WideAt.IsKeyLit (kl x) := trivial

abbrev NU := Nm × Int
/-- the map D has just the pairs of M -/
structure Is (D : DataW Unit) (M : List NU) : Prop where
  names : ∀ p ∈ M, p.1.ok
  wf : ∀ p ∈ M, (Lit.int .i64 p.2).wf = true
  apart : M.Pairwise (fun p q => p.1 ≠ q.1)
  has : ∀ p ∈ M, Maps.has D (kl p.1) = true ∧ ∀ z, D.atKey (kl p.1) z = .lit (.int .i64 p.2)
  only : ∀ k, Maps.has D k = true → ∃ p ∈ M, k = kl p.1
  size : Maps.size D = M.length

def strike (x : Nm) (M : List NU) : List NU := M.filter (fun p => decide (p.1 ≠ x))
theorem mem_strike {x : Nm} {M : List NU} {p : NU} : p ∈ strike x M ↔ p ∈ M ∧ p.1 ≠ x := by simp [strike]
theorem strike_none {x : Nm} {M : List NU} (h : ∀ p ∈ M, p.1 ≠ x) : strike x M = M := List.filter_eq_self.2 (fun p hp => by simpa using h p hp)
theorem strike_len {x : Nm} {u : Int} : ∀ {M : List NU}, M.Pairwise (fun p q => p.1 ≠ q.1) → (x, u) ∈ M → (strike x M).length + 1 = M.length
  | [], _, h => by cases h
  | p :: M, hp, h => by
    obtain ⟨h1, h2⟩ := List.pairwise_cons.1 hp
    by_cases e : p.1 = x
    · have : strike x (p :: M) = M := by
        unfold strike
        rw [List.filter_cons_of_neg (by simp [e])]
        exact List.filter_eq_self.2 (fun q hq => by have := h1 q hq; rw [e] at this; simpa using fun e' => this e'.symm)
      rw [this]; rfl
    · have hm : (x, u) ∈ M := by
        rcases List.mem_cons.1 h with h | h
        · rw [← h] at e; exact absurd rfl e
        · exact h
      have ih := strike_len h2 hm
      have : strike x (p :: M) = p :: strike x M := by
        unfold strike
        rw [List.filter_cons_of_pos (by simpa using e)]
      rw [this, List.length_cons, List.length_cons, ih]

theorem Is.empty : Is (.map []) [] := ⟨by simp, by simp, by simp, by simp, fun k h => by simp [Maps.has_eq] at h, rfl⟩
theorem Is.perm {D : DataW Unit} {M M' : List NU} (h : Is D M) (hp : M.Perm M') : Is D M' :=
  ⟨fun p hp' => h.names p (hp.mem_iff.2 hp'), fun p hp' => h.wf p (hp.mem_iff.2 hp'), (hp.pairwise_iff (fun {_ _} hne => Ne.symm hne)).1 h.apart, fun p hp' => h.has p (hp.mem_iff.2 hp'),
   fun k hk => by obtain ⟨p, h1, h2⟩ := h.only k hk; exact ⟨p, hp.mem_iff.1 h1, h2⟩, h.size.trans hp.length_eq⟩
theorem Is.missing {D : DataW Unit} {M : List NU} (h : Is D M) {x : Nm} (hx : x.ok) (hn : ∀ p ∈ M, p.1 ≠ x) : Maps.has D (kl x) = false := by
  cases e : Maps.has D (kl x) with
  | false => rfl
  | true =>
    obtain ⟨p, h1, h2⟩ := h.only _ e
    exact absurd (kl_inj hx (h.names p h1) h2).symm (hn p h1)
theorem Is.one {D : DataW Unit} {M : List NU} (h : Is D M) {x : Nm} {u v : Int} (h1 : (x, u) ∈ M) (h2 : (x, v) ∈ M) : u = v := by
  have a := (h.has _ h1).2 (.lit (.int .i64 0))
  rw [(h.has _ h2).2 (.lit (.int .i64 0))] at a
  simpa using a.symm
theorem Is.has_iff {D : DataW Unit} {M : List NU} (h : Is D M) {x : Nm} (hx : x.ok) : (∃ u, (x, u) ∈ M ∧ Maps.has D (kl x) = true ∧ ∀ z, D.atKey (kl x) z = .lit (.int .i64 u)) ∨ ((∀ p ∈ M, p.1 ≠ x) ∧ Maps.has D (kl x) = false) := by
  by_cases hn : ∀ p ∈ M, p.1 ≠ x
  · exact .inr ⟨hn, h.missing hx hn⟩
  · simp only [Classical.not_forall, Classical.not_imp, Classical.not_not] at hn
    obtain ⟨⟨y, u⟩, hp, e⟩ := hn
    simp only [] at e
    subst e
    exact .inl ⟨u, hp, h.has (y, u) hp⟩
theorem Is.del {D : DataW Unit} {M : List NU} (h : Is D M) (hT : Maps.Tidy D) {x : Nm} (hx : x.ok) : Is (D.del (kl x)) (strike x M) := by
  refine ⟨fun p hp => h.names p (mem_strike.1 hp).1, fun p hp => h.wf p (mem_strike.1 hp).1, h.apart.filter _, fun p hp => ?_, fun k hk => ?_, ?_⟩
  · obtain ⟨h1, h2⟩ := mem_strike.1 hp
    have hne : kl p.1 ≠ kl x := fun e => h2 (kl_inj (h.names p h1) hx e)
    rw [Maps.has_del_other hne]
    exact ⟨(h.has p h1).1, fun z => by rw [Maps.atKey_del_other hne]; exact (h.has p h1).2 z⟩
  · by_cases e : k = kl x
    · rw [e, Maps.has_del_same] at hk; cases hk
    · rw [Maps.has_del_other e] at hk
      obtain ⟨p, h1, h2⟩ := h.only k hk
      exact ⟨p, mem_strike.2 ⟨h1, fun e' => e (by rw [h2, e'])⟩, h2⟩
  · have hs := Maps.size_del (k := kl x) hT
    rw [h.size] at hs
    rcases h.has_iff hx with ⟨u, h1, h2, _⟩ | ⟨h1, h2⟩
    · rw [h2] at hs
      have := strike_len h.apart h1
      simp at hs
      omega
    · rw [h2] at hs
      rw [strike_none h1]
      simpa using hs
theorem Is.put {D : DataW Unit} {M : List NU} (h : Is D M) (hT : Maps.Tidy D) {x : Nm} (hx : x.ok) {u : Int} (hu : (Lit.int .i64 u).wf = true) : Is (D.put (kl x) (.lit (.int .i64 u))) ((x, u) :: strike x M) := by
  refine ⟨fun p hp => ?_, fun p hp => ?_, List.pairwise_cons.2 ⟨fun p hp => (mem_strike.1 hp).2.symm, h.apart.filter _⟩, fun p hp => ?_, fun k hk => ?_, ?_⟩
  · rcases List.mem_cons.1 hp with rfl | hp
    · exact hx
    · exact h.names p (mem_strike.1 hp).1
  · rcases List.mem_cons.1 hp with rfl | hp
    · exact hu
    · exact h.wf p (mem_strike.1 hp).1
  · rcases List.mem_cons.1 hp with rfl | hp
    · exact ⟨Maps.has_put_same hT.isMap (kl_key x) _, fun z => Maps.atKey_put_same hT.isMap (kl_key x) _ z⟩
    · obtain ⟨h1, h2⟩ := mem_strike.1 hp
      have hne : kl p.1 ≠ kl x := fun e => h2 (kl_inj (h.names p h1) hx e)
      rw [Maps.has_put_other hne]
      exact ⟨(h.has p h1).1, fun z => by rw [Maps.atKey_put_other hne]; exact (h.has p h1).2 z⟩
  · by_cases e : k = kl x
    · exact ⟨(x, u), by simp, e⟩
    · rw [Maps.has_put_other e] at hk
      obtain ⟨p, h1, h2⟩ := h.only k hk
      exact ⟨p, List.mem_cons_of_mem _ (mem_strike.2 ⟨h1, fun e' => e (by rw [h2, e'])⟩), h2⟩
  · have hs := Maps.size_put (k := kl x) hT (.lit (.int .i64 u))
    rw [h.size] at hs
    rw [hs]
    rcases h.has_iff hx with ⟨v, h1, h2, _⟩ | ⟨h1, h2⟩
    · rw [h2]
      have := strike_len h.apart h1
      simp
      omega
    · rw [h2, strike_none h1]
      simp

/-- block b is a map with just the pairs of M (n: no more entries than that) -/
def Mp (w : World) (b n : Nat) (M : List NU) : Prop := ∃ D : DataW Unit, w.ownsMap Try.prog 24 (plainElem Try.prog 3) b n D ∧ Is D M
theorem Mp.made (w : World) : Mp (w.alloc (.map #[] 0)) w.heap.size 0 [] := ⟨_, World.ownsMap_made w _ _ _, Is.empty⟩
theorem Mp.lt {w : World} {b n : Nat} {M : List NU} (h : Mp w b n M) : b < w.heap.size := by obtain ⟨D, h1, _⟩ := h; exact h1.lt
theorem Mp.mono {w : World} {b n n' : Nat} {M : List NU} (h : Mp w b n M) (hn : n ≤ n') : Mp w b n' M := by obtain ⟨D, h1, h2⟩ := h; exact ⟨D, h1.mono hn, h2⟩
theorem Mp.perm {w : World} {b n : Nat} {M M' : List NU} (h : Mp w b n M) (hp : M.Perm M') : Mp w b n M' := by obtain ⟨D, h1, h2⟩ := h; exact ⟨D, h1, h2.perm hp⟩
theorem Mp.kept {w w' : World} {b n : Nat} {M : List NU} {row : Option Nat} (h : Mp w b n M) (hg : w.grownBy w' row) (hne : some b ≠ row) : Mp w' b n M := by obtain ⟨D, h1, h2⟩ := h; exact ⟨D, h1.kept hg hne, h2⟩
theorem Mp.names {w : World} {b n : Nat} {M : List NU} (h : Mp w b n M) : ∀ p ∈ M, p.1.ok := by obtain ⟨D, h1, h2⟩ := h; exact h2.names
theorem Mp.apart {w : World} {b n : Nat} {M : List NU} (h : Mp w b n M) : M.Pairwise (fun p q => p.1 ≠ q.1) := by obtain ⟨D, h1, h2⟩ := h; exact h2.apart
theorem Mp.len {w : World} {b n : Nat} {M : List NU} (h : Mp w b n M) : M.length ≤ n := by obtain ⟨D, h1, h2⟩ := h; rw [← h2.size]; exact h1.size_le

section
variable {w : World} {ops : Array Oper} {rest : List Oper} {o : Oper} {a : Act} {Q : Exit → Act → World → Prop}
/-- v, ok := m[k] -/
theorem mp_look (hg : o.guard = none) (m x : Operand) (hop : o.op = Op.lookup 36 m x true) (b n : Nat) (M : List NU) (hm : a.eval m = .map (some b)) (h : Mp w b n M) (y : Nm) (hy : y.ok) (hx : a.eval x = y.val)
    (hK : ∀ u, (y, u) ∈ M → wpList Try.prog ops Q rest (a.put o.dst (.tuple #[.int .i64 u, .bool true])) w)
    (hN : (∀ p ∈ M, p.1 ≠ y) → wpList Try.prog ops Q rest (a.put o.dst (.tuple #[.int .i64 0, .bool false])) w) : wpList Try.prog ops Q (o :: rest) a w := by
  obtain ⟨D, ho, hi⟩ := h
  refine wpList_lookup_own_ok_int w hg m x _ hop _ 3 .i64 lawNm Try.underlying36 Try.underlying3 (zeroNm _) b n D hm ho _ (kl y) hx (key_ok hy) (fun c hc hw => ?_)
  rcases hi.has_iff hy with ⟨u, h1, h2, h3⟩ | ⟨h1, h2⟩
  · rw [h3] at hc
    have : c = u := by simpa using hc.symm
    rw [h2, this]
    exact hK u h1
  · rw [Maps.atKey_of_not_has h2] at hc
    have : c = 0 := by simpa using hc.symm
    rw [h2, this]
    exact hN h1
/-- delete(m, k) -/
theorem mp_del (hg : o.guard = none) (m x : Operand) (hop : o.op = Op.call { callee := Callee.builtin Builtin.delete, args := #[m, x], argTypes := #[36, 24] }) (b n : Nat) (M : List NU) (hm : a.eval m = .map (some b)) (h : Mp w b n M) (y : Nm) (hy : y.ok) (hx : a.eval x = y.val)
    (hK : ∀ w', Mp w' b n (strike y M) → w.mapTurned w' b → wpList Try.prog ops Q rest (a.put o.dst (.tuple #[])) w') : wpList Try.prog ops Q (o :: rest) a w := by
  obtain ⟨D, ho, hi⟩ := h
  exact wpList_delete_own w hg m x _ _ hop 3 lawNm Try.underlying36 _ b n D hm ho _ (kl y) hx (key_ok hy) (fun w' h1 h2 => hK w' ⟨_, h1, hi.del (ho.tidy lawNm) hy⟩ h2)
/-- len(m) -/
theorem mp_len (hg : o.guard = none) (m : Operand) (hop : o.op = Op.call { callee := Callee.builtin Builtin.len, args := #[m], argTypes := #[36] }) (b n : Nat) (M : List NU) (hm : a.eval m = .map (some b)) (h : Mp w b n M)
    (hK : wpList Try.prog ops Q rest (a.put o.dst (.int .i64 (M.length : Nat))) w) : wpList Try.prog ops Q (o :: rest) a w := by
  obtain ⟨D, ho, hi⟩ := h
  exact wpList_len_own w hg m _ hop _ _ Try.underlying36 _ b n D hm ho (by rw [hi.size]; exact hK)
/-- m[k] = v -/
theorem mp_put (hg : o.guard = none) (m x v : Operand) (hop : o.op = Op.mapUpdate 36 m x v) (b n : Nat) (M : List NU) (hm : a.eval m = .map (some b)) (h : Mp w b n M) (hn : n < maxLen) (y : Nm) (hy : y.ok) (hx : a.eval x = y.val) (u : Int) (hu : (Lit.int .i64 u).wf = true) (hv : a.eval v = .int .i64 u)
    (hK : ∀ w', Mp w' b (n + 1) ((y, u) :: strike y M) → w.mapTurned w' b → wpList Try.prog ops Q rest (a.put o.dst undef) w') : wpList Try.prog ops Q (o :: rest) a w := by
  obtain ⟨D, ho, hi⟩ := h
  exact wpList_mapUpdate_in w hg m x v _ hop _ _ lawNm Try.underlying36 _ b n D hm ho hn _ _ (kl y) hx hv (key_ok hy) _ [] (plainElem_int Try.underlying3 hu) (fun w' h1 h2 => hK w' ⟨_, h1, hi.put (ho.tidy lawNm) hy hu⟩ h2)
end

/-- while the map in block b is ranged over (r: the iterator's block; cnt: how many are still to come): T has come -/
def Rg (w : World) (b r n : Nat) (M T : List NU) (cnt : Nat) : Prop := ∃ (D : DataW Unit) (left : Lit → Bool), w.ranges Try.prog 24 (plainElem Try.prog 3) b r n D left cnt ∧ Is D M ∧
  (∀ p ∈ M, left (kl p.1) = false ↔ p ∈ T) ∧ (∀ k, left k = true → Maps.has D k = true) ∧ (∀ p ∈ T, p ∈ M) ∧ T.Pairwise (fun p q => p.1 ≠ q.1)
theorem Rg.mp {w : World} {b r n : Nat} {M T : List NU} {cnt : Nat} (h : Rg w b r n M T cnt) : Mp w b n M := by obtain ⟨D, left, h1, h2, _⟩ := h; exact ⟨D, h1.owns, h2⟩
theorem Rg.left {w : World} {b r n : Nat} {M T : List NU} {cnt : Nat} (h : Rg w b r n M T cnt) : w.rangeLeft b r = cnt := by obtain ⟨D, left, h1, h2, _⟩ := h; exact h1.left_eq
theorem Rg.lt {w : World} {b r n : Nat} {M T : List NU} {cnt : Nat} (h : Rg w b r n M T cnt) : r < w.heap.size := by obtain ⟨D, left, h1, h2, _⟩ := h; exact h1.lt
theorem Rg.kept {w w' : World} {b r n : Nat} {M T : List NU} {cnt : Nat} {row : Option Nat} (h : Rg w b r n M T cnt) (hg : w.grownBy w' row) (h1 : some b ≠ row) (h2 : some r ≠ row) : Rg w' b r n M T cnt := by
  obtain ⟨D, left, r1, r2⟩ := h
  exact ⟨D, left, r1.kept hg h1 h2, r2⟩
theorem perm_of_apart : ∀ {A B : List NU}, A.Pairwise (fun p q => p.1 ≠ q.1) → B.Pairwise (fun p q => p.1 ≠ q.1) → (∀ p, p ∈ A ↔ p ∈ B) → A.Perm B
  | [], B, _, _, h => by
    have : B = [] := List.eq_nil_iff_forall_not_mem.2 (fun p hp => by have := (h p).2 hp; cases this)
    rw [this]
  | p :: A, B, ha, hb, h => by
    obtain ⟨h1, h2⟩ := List.pairwise_cons.1 ha
    have hp : p ∈ B := (h p).1 (by simp)
    have hBp := List.perm_cons_erase hp
    have hb' : (p :: B.erase p).Pairwise (fun p q => p.1 ≠ q.1) := (hBp.pairwise_iff (fun {_ _} hne => Ne.symm hne)).1 hb
    obtain ⟨g1, g2⟩ := List.pairwise_cons.1 hb'
    refine List.Perm.trans (List.Perm.cons p (perm_of_apart h2 g2 (fun q => ?_))) hBp.symm
    constructor
    · intro hq
      have hqB : q ∈ p :: B.erase p := hBp.mem_iff.1 ((h q).1 (List.mem_cons_of_mem _ hq))
      rcases List.mem_cons.1 hqB with e | hqB
      · exact absurd (by rw [e]) (h1 q hq)
      · exact hqB
    · intro hq
      have hqA : q ∈ p :: A := (h q).2 (hBp.mem_iff.2 (List.mem_cons_of_mem _ hq))
      rcases List.mem_cons.1 hqA with e | hqA
      · exact absurd (by rw [e]) (g1 q hq)
      · exact hqA
section
variable {w : World} {ops : Array Oper} {rest : List Oper} {o : Oper} {a : Act} {Q : Exit → Act → World → Prop}
/-- range m -/
theorem mp_range (hg : o.guard = none) (m : Operand) (hop : o.op = Op.range 36 m) (b n : Nat) (M : List NU) (hm : a.eval m = .map (some b)) (h : Mp w b n M)
    (hK : ∀ w', Rg w' b w.heap.size n M [] M.length → w.grownBy w' none → w'.heap.size = w.heap.size + 1 → wpList Try.prog ops Q rest (a.put o.dst (.pointer (some ⟨w.heap.size, 0, none⟩))) w') : wpList Try.prog ops Q (o :: rest) a w := by
  obtain ⟨D, ho, hi⟩ := h
  refine wpList_range_own w hg m _ hop _ _ lawNm Try.underlying36 _ b n D hm ho (fun w' h1 h2 h3 => hK w' ⟨D, Maps.has D, ?_, hi, fun p hp => ?_, fun k hk => hk, by simp, by simp⟩ h2 h3)
  · rw [← hi.size]; exact h1
  · rw [(hi.has p hp).1]; simp
/-- the next entry -/
theorem rg_next (hg : o.guard = none) (it : Operand) (hop : o.op = Op.next it false) (b r n : Nat) (M T : List NU) (cnt : Nat) (hit : a.eval it = .pointer (some ⟨r, 0, none⟩)) (h : Rg w b r n M T cnt)
    (hDone : M.Perm T → wpList Try.prog ops Q rest (a.put o.dst (.tuple #[.bool false])) w)
    (hMore : ∀ (x : Nm) (u : Int) (w' : World) (cnt' : Nat), (x, u) ∈ M → Rg w' b r n M (T ++ [(x, u)]) cnt' → cnt' < cnt → w.grownBy w' (some r) → w'.heap.size = w.heap.size →
      (Instr.entry (.pointer (some ⟨r, 0, none⟩))).run Try.prog w' = .ok (.tuple #[.agg #[.int .i64 x.tenant, .string x.key], .int .i64 u]) w' → wpList Try.prog ops Q rest (a.put o.dst (.tuple #[.bool true, .agg #[.int .i64 x.tenant, .string x.key], .int .i64 u])) w') :
    wpList Try.prog ops Q (o :: rest) a w := by
  obtain ⟨D, left, hrg, hi, hl, hlh, hsub, hap⟩ := h
  refine wpList_next_ranges w hg it hop _ lawNm _ Nm.val (Value.int .i64) (fun key k hk => key_inv hk) (fun v y hv => by obtain ⟨c, rfl, _⟩ := plainElem_int_inv Try.underlying3 hv; exact ⟨c, rfl⟩) b r n D left cnt hit hrg (fun h0 hl0 => hDone ?_) (fun x c k y w' cnt' hkey hlk hv hat hrg' hlt hgr hsz hen => ?_)
  · exact perm_of_apart hi.apart hap (fun p => ⟨fun hp => (hl p hp).1 (hl0 _), hsub p⟩)
  · obtain ⟨p, hp, e⟩ := hi.only k (hlh k hlk)
    subst e
    have ex : x = p.1 := val_inj (lawNm.inj hkey (key_ok (hi.names p hp)))
    subst ex
    obtain ⟨c', e1, e2, _⟩ := plainElem_int_inv Try.underlying3 hv
    have hc : c = p.2 := by
      have h1 := hat (.lit (.int .i64 0))
      rw [(hi.has p hp).2, e2] at h1
      have : c = c' := by simpa using e1
      rw [this]
      simpa using h1.symm
    subst hc
    have hnT : p ∉ T := fun hT => by rw [(hl p hp).2 hT] at hlk; cases hlk
    refine hMore p.1 p.2 w' cnt' hp ⟨D, _, hrg', hi, fun q hq => ?_, fun k hk => ?_, fun q hq => ?_, ?_⟩ hlt hgr hsz hen
    · by_cases e : q = p
      · subst e
        simp [WideAt.sameKey_self (kl_key q.1)]
      · have hne : kl q.1 ≠ kl p.1 := fun e' => by
          have e2 := kl_inj (hi.names q hq) (hi.names p hp) e'
          have e3 : q.2 = p.2 := hi.one (x := q.1) (u := q.2) (v := p.2) hq (by rw [e2]; exact hp)
          exact e (Prod.ext e2 e3)
        rw [Maps.sameKey_ne hne]
        simp only [Bool.not_false, Bool.and_true]
        rw [hl q hq]
        simp [e]
    · simp only [Bool.and_eq_true] at hk
      exact hlh k hk.1
    · rcases List.mem_append.1 hq with h | h
      · exact hsub q h
      · have : q = p := by simpa using h
        rw [this]; exact hp
    · refine List.pairwise_append.2 ⟨hap, by simp, fun q hq q' hq' e => ?_⟩
      have : q' = p := by simpa using hq'
      subst this
      have e3 : q.2 = q'.2 := hi.one (x := q.1) (u := q.2) (v := q'.2) (hsub q hq) (by rw [e]; exact hp)
      exact hnT (by rw [← Prod.ext e e3]; exact hq)
end
end Go.Proofs.Ythcekkahkioibad
