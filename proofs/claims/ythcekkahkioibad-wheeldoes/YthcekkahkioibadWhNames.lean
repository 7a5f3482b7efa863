/-
  Names that are gathered: the slice that owns them, and the law of append.
-/
import Derived.Test.YthcekkahkioibadWhSteps
namespace Go.Proofs.Ythcekkahkioibad
open Go.RowKit
set_option linter.unusedSimpArgs false
set_option linter.unusedVariables false
set_option maxRecDepth 100000

def ncells (y : Nm) : List Value := [.int .i64 y.tenant, .string y.key]
theorem ncells_len (y : Nm) : (ncells y).length = 2 := rfl
theorem ncells_one (ns : List Nm) : ∀ u ∈ ns.flatMap ncells, u.oneCell' = true := by
  intro u hu
  obtain ⟨y, _, h⟩ := List.mem_flatMap.1 hu
  simp only [ncells, List.mem_cons, List.not_mem_nil, or_false] at h
  rcases h with rfl | rfl <;> rfl
theorem flatN_len (ns : List Nm) : (ns.flatMap ncells).length = ns.length * 2 := by
  induction ns with
  | nil => rfl
  | cons y ns ih => rw [List.flatMap_cons, List.length_append, ih, ncells_len, List.length_cons]; omega
theorem flatN_get (T : List Nm) (i j : Nat) (hi : i < T.length) (hj : j < 2) : (T.flatMap ncells)[i * 2 + j]? = some ((ncells T[i])[j]'(by rw [ncells_len]; exact hj)) := by
  induction T generalizing i with
  | nil => simp at hi
  | cons c T ih =>
    rw [List.flatMap_cons]
    cases i with
    | zero =>
      rw [List.getElem?_append_left (by rw [ncells_len]; omega)]
      simp [ncells_len, hj]
    | succ i =>
      rw [List.getElem?_append_right (by rw [ncells_len]; omega), ncells_len, show (i + 1) * 2 + j - 2 = i * 2 + j by omega]
      exact ih i (by simpa using hi)
/-- the slice v owns the names ns, in a block from base on -/
def OwnN (w : World) (base : Nat) (v : Value) (ns : List Nm) : Prop := w.ownsRow base 24 2 v ns.length (ns.flatMap ncells)
theorem OwnN.nil (w : World) (base : Nat) : OwnN w base (.slice none 0 0) [] := World.ownsRow_nil w base _ 2

theorem app_n {w : World} {ops : Array Oper} {rest : List Oper} {o : Oper} {a : Act} {Q : Exit → Act → World → Prop} (hgd : o.guard = none) (s x : Operand) (ho : o.op = .call { callee := .builtin .append, args := #[s, x], argTypes := #[30, 30] })
    (base : Nat) (v : Value) (T : List Nm) (hown : OwnN w base v T) (hs : a.eval s = v) (g b2 : Nat) (ns : List Nm) (hN : NmAt w b2 g ns) (hx : a.eval x = .slice (some ⟨g, 0, none⟩) ns.length ns.length)
    (hlen : T.length + ns.length ≤ 100000000) (hbase : base ≤ w.heap.size)
    (h : ∀ v' w', OwnN w' base v' (T ++ ns) → Grew w w' v v' → wpList Try.prog ops Q rest (a.put o.dst v') w') : wpList Try.prog ops Q (o :: rest) a w := by
  obtain ⟨i0, hi, hz0, hz1, hz2⟩ := info_parts Try.infoName
  have hm : maxLen = 9223372036854775807 := rfl
  refine wpList_append_own_at _ hgd s x 30 ho base 24 i0 _ 2 24 Try.underlying30 hi hz0 hz1 hz2 rfl (by decide) v T.length (T.flatMap ncells) hs hown ⟨g, 0, none⟩ ns.length ns.length (ns.flatMap ncells) hx (by rw [flatN_len]) ?_ (ncells_one ns) (by omega) (by omega) hbase ?_
  · intro j u hu
    rw [addr_add]
    simp only [Nat.zero_add]
    have hj := (List.getElem?_eq_some_iff.1 hu).1
    rw [flatN_len] at hj
    have hi2 : j / 2 < ns.length := by omega
    obtain ⟨k0, k1⟩ := hN.cells (j / 2) hi2
    rcases Nat.mod_two_eq_zero_or_one j with hm2 | hm2
    · have e : j = j / 2 * 2 + 0 := by omega
      have h3 := flatN_get ns (j / 2) 0 hi2 (by omega)
      rw [← e, hu] at h3
      cases h3
      have e2 : (⟨g, j, none⟩ : Addr) = ⟨g, j / 2 * 2, none⟩ := by congr 1
      rw [e2]
      simpa [ncells] using k0
    · have e : j = j / 2 * 2 + 1 := by omega
      have h3 := flatN_get ns (j / 2) 1 hi2 (by omega)
      rw [← e, hu] at h3
      cases h3
      have e2 : (⟨g, j, none⟩ : Addr) = ⟨g, j / 2 * 2 + 1, none⟩ := by congr 1
      rw [e2]
      simpa [ncells] using k1
  · intro v' w' h1 h2 h3 h4
    refine h v' w' ?_ ⟨h2, fun k hk => ?_⟩
    · have e : (T ++ ns).length = T.length + ns.length := by simp
      unfold OwnN
      rw [e, List.flatMap_append]
      exact h1
    · rcases h4 with h4 | h4
      · exact .inl (h4 ▸ hk)
      · rw [h4] at hk
        cases hk
        exact .inr (Nat.le_refl _)
theorem OwnN.lt {w : World} {base : Nat} {v : Value} {T : List Nm} (h : OwnN w base v T) (g : Nat) (hg : v.ownBlock = some g) : base ≤ g ∧ g < w.heap.size := World.ownsRow.lt h g hg
theorem OwnN.same {w w' : World} {base : Nat} {v : Value} {T : List Nm} (h : OwnN w base v T) (e : ∀ g, v.ownBlock = some g → w'.heap[g]? = w.heap[g]?) : OwnN w' base v T := ⟨h.1, by
  rcases h.2 with h1 | ⟨g, cap, cur, h1, h2, h3, h4⟩
  · exact .inl h1
  · exact .inr ⟨g, cap, cur, h1, h2, (e g (by rw [h1]; rfl)).trans h3, h4⟩⟩
theorem OwnN.kept {w w' : World} {base : Nat} {v : Value} {T : List Nm} (hT : OwnN w base v T) {F : Nat → Prop} (hk : Kept F w w') (hF : ∀ g, v.ownBlock = some g → ¬ F g) : OwnN w' base v T :=
  hT.same (fun g hg => hk.block g (hT.lt g hg).2 (hF g hg))
theorem OwnN.below {w w' : World} {base : Nat} {v : Value} {T : List Nm} (hT : OwnN w base v T) (hb : Below w.heap.size w w') : OwnN w' base v T := hT.same (fun g hg => hb.block g (hT.lt g hg).2)
/-- names lie at the address -/
def NsOr (w : World) (ao : Option Addr) (ns : List Nm) : Prop := ns = [] ∨ ∃ b, ao = some ⟨b, 0, none⟩ ∧ NsAt w b ns
theorem OwnN.at {w : World} {base : Nat} {v : Value} {T : List Nm} (h : OwnN w base v T) :
    ∃ ao cap, v = .slice ao T.length cap ∧ T.length ≤ cap ∧ cap ≤ maxLen ∧ NsOr w ao T ∧ ∀ g, v.ownBlock = some g → ao = some ⟨g, 0, none⟩ := by
  rcases h.2 with ⟨rfl, hn⟩ | ⟨g, cap, cur, rfl, hb, hg, hnc, hcm, hcs, htake⟩
  · have : T = [] := List.eq_nil_of_length_eq_zero hn
    subst this
    exact ⟨none, 0, rfl, by simp, by simp [maxLen], .inl rfl, fun g hg => by cases hg⟩
  · refine ⟨_, cap, rfl, hnc, hcm, .inr ⟨g, rfl, fun i hi => ?_⟩, fun g' hg' => by cases hg'; rfl⟩
    have key : ∀ j (hj : j < 2), w.cell? ⟨g, i * 2 + j, none⟩ = some ((ncells T[i])[j]'(by rw [ncells_len]; exact hj)) := fun j hj => by
      have := World.ownsRow.cells h (g := g) rfl (i * 2 + j) _ (flatN_get T i j hi hj)
      rw [addr_add] at this
      rw [Nat.zero_add] at this
      exact this
    exact ⟨key 0 (by omega), key 1 (by omega)⟩
set_option maxHeartbeats 1000000 in
theorem sameNames_or (w : World) (ao bo : Option Addr) (ac bc : Nat) (ns : List Nm) (h : NsOr w ao ns) (h' : NsOr w bo ns) (hm : ns.length ≤ 1000000000) (hac : ns.length ≤ ac) (hbc : ns.length ≤ bc) (hac2 : ac ≤ maxLen) (hbc2 : bc ≤ maxLen) :
    Calls Try.prog 22 #[.slice ao ns.length ac, .slice bo ns.length bc] w fun e w' => e = .returned (.bool true) ∧ ∃ n, w' = w.drewN n := by
  have HA := Hid.mk2 h
  have HB := Hid.mk2 h'
  unfold maxLen at hac2 hbc2
  clear h h'
  go_enter Try.func22, Try.ntmps22
  go_wp2
  go_loopw [5] (fun i wr => ∃ k n : Nat, k ≤ ns.length ∧ i = .int .i64 k ∧ wr = w.drewN n) (fun i _ => ns.length - (intOf i).toNat)
  case atStart => exact ⟨0, 0, Nat.zero_le _, rfl, rfl⟩
  case round =>
    obtain ⟨k, n, hk, rfl, rfl⟩ := hrel
    by_cases hlt : k < ns.length
    · have hlt2 : (k : Int) < (ns.length : Int) := by omega
      rcases HA.out with h0 | ⟨b, rfl, hA⟩
      · rw [h0] at hlt; simp at hlt
      rcases HB.out with h0 | ⟨b', rfl, hB⟩
      · rw [h0] at hlt; simp at hlt
      obtain ⟨q0, q1⟩ := hA k hlt
      obtain ⟨r0, r1⟩ := hB k hlt
      obtain ⟨y, hy⟩ : ∃ y, y = ns[k] := ⟨_, rfl⟩
      rw [← hy] at q0 q1 r0 r1
      clear hy hA hB
      go_wp2
      go_quiet (fail)
      go_wp2
      go_roundw
      case rel => exact ⟨k + 1, _, by omega, by go_num, rfl⟩
      case measure => simp [intOf]; omega
    · have hlt2 : ¬ (k : Int) < (ns.length : Int) := by omega
      go_wp2
      go_ret
      exact ⟨rfl, n, rfl⟩
end Go.Proofs.Ythcekkahkioibad
