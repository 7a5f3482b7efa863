/-
  A list of numbers that a call made: append of numbers to none.
-/
import Derived.Test.YtgfhjkphdmkmoacBgMem
namespace Go.Proofs.Ytgfhjkphdmkmoac
open Go.RowKit
set_option linter.unusedSimpArgs false
set_option linter.unusedVariables false
set_option maxRecDepth 100000

theorem Try.infoInt : (Try.prog.info? 3).map (fun i => (i.zero, i.size, i.bytes)) = some (some (.int .i64 0), 1, 8) := by kernel_rfl
def icell (n : Int) : Value := .int .i64 n
theorem icell_one (l : List Int) : ∀ u ∈ l.map icell, u.oneCell' = true := by
  intro u hu
  obtain ⟨c, _, rfl⟩ := List.mem_map.1 hu
  rfl
theorem is_news {w : World} {b off : Nat} {l : List Int} (hc : ∀ j (hj : j < l.length), w.cell? ⟨b, off + j, none⟩ = some (.int .i64 l[j])) :
    ∀ j u, (l.map icell)[j]? = some u → w.cell? ((⟨b, off, none⟩ : Addr).add j) = some u := by
  intro j u hu
  have hj : j < l.length := by simpa using (List.getElem?_eq_some_iff.1 hu).1
  have : u = icell l[j] := by simpa [hj] using hu.symm
  subst this
  rw [addr_add]
  exact hc j hj

/-- append([]int(nil), l...) -/
theorem run_app_ints (w : World) (ty : TypeId) (ao : Option Addr) (c : Nat) (l : List Int) (hnil : ao = none → c = 0) (hsrc : IsAt w w.heap.size ao l) (hlen : l.length ≤ 1000000) :
    ∃ v' w', (Builtin.append_ #[39, 39] ty #[.slice none 0 0, .slice ao l.length c]).run Try.prog w = .ok v' w' ∧ (∃ io ic, v' = .slice io l.length ic ∧ Il w' io l ic) ∧ Below w.heap.size w w' := by
  obtain ⟨i0, hi, hz0, hz1, hz2⟩ := info_parts Try.infoInt
  have hown : w.ownsRow w.heap.size 3 1 (.slice none 0 0) 0 [] := World.ownsRow_nil w _ _ 1
  have hm : maxLen = 9223372036854775807 := rfl
  cases ao with
  | none =>
    have hs : l = [] := by
      rcases hsrc with h | ⟨b, off, h, _⟩
      · exact h
      · cases h
    subst hs
    have hc := hnil rfl
    subst hc
    have hr := run_append_owned_none (P := Try.prog) (w := w) w.heap.size 39 ty 3 i0 1 Try.underlying39 hi (.slice none 0 0) 0 [] hown
    exact ⟨_, w, hr, ⟨none, 0, rfl, by simp, by omega, fun _ => rfl, .inl rfl⟩, Below.refl _ _⟩
  | some a =>
    have hnews : ∀ j u, (l.map icell)[j]? = some u → w.cell? (a.add j) = some u := by
      rcases hsrc with rfl | ⟨b, off, h, _, hc⟩
      · intro j u hu; simp at hu
      · cases h
        exact is_news hc
    obtain ⟨v', w', hr, ho, hg, _, hat⟩ := run_append_own_at (P := Try.prog) w w.heap.size 39 ty 3 i0 (.int .i64 0) 1 8 Try.underlying39 hi hz0 hz1 hz2 rfl (by decide) (.slice none 0 0) 0 [] hown a l.length c (l.map icell) (by simp) hnews (icell_one l) (by omega) (by omega) (Nat.le_refl _)
    rw [List.nil_append, Nat.zero_add] at ho
    refine ⟨v', w', hr, ?_, (Below.refl _ _).grown hg (Nat.le_refl _) (fun k hk => by simp [Value.ownBlock] at hk)⟩
    have ho' := ho
    rcases ho'.2 with ⟨rfl, hn⟩ | ⟨g, cap, cur, rfl, hb, hgg, hnc, hcm, hcs, htake⟩
    · have : l = [] := List.eq_nil_of_length_eq_zero hn
      subst this
      exact ⟨none, 0, rfl, by simp, by omega, fun _ => rfl, .inl rfl⟩
    · refine ⟨_, cap, rfl, hnc, hcm, (by intro e; cases e), .inr ⟨g, 0, rfl, (Array.getElem?_eq_some_iff.1 hgg).1, fun j hj => ?_⟩⟩
      have := World.ownsRow.cells ho (g := g) rfl j (icell l[j]) (by simp [hj])
      rw [addr_add] at this
      simpa [icell] using this
section
variable {w : World} {ops : Array Oper} {rest : List Oper} {o : Oper} {a : Act} {Q : Exit → Act → World → Prop}
theorem app_ints (hgd : o.guard = none) (s x : Operand) (ho : o.op = .call { callee := .builtin .append, args := #[s, x], argTypes := #[39, 39] })
    (hs : a.eval s = .slice none 0 0) (ao : Option Addr) (c : Nat) (l : List Int) (hx : a.eval x = .slice ao l.length c) (hnil : ao = none → c = 0) (hsrc : IsAt w w.heap.size ao l) (hlen : l.length ≤ 1000000)
    (h : ∀ io ic w', Il w' io l ic → Below w.heap.size w w' → wpList Try.prog ops Q rest (a.put o.dst (.slice io l.length ic)) w') : wpList Try.prog ops Q (o :: rest) a w := by
  refine wpList_plain hgd fun K hK => ?_
  obtain ⟨v', w', hr, ⟨io, ic, rfl, h2⟩, h3⟩ := run_app_ints w o.type ao c l hnil hsrc hlen
  unfold Oper.wp execOp
  simp only [ho, resolve, invoke, builtin, Sem.run_bind, Sem.run_pure, Result.andThen_ok, List.map_toArray, List.map_cons, List.map_nil, hs, hx, hr]
  exact hK _ _ (h io ic w' h2 h3)
end
end Go.Proofs.Ytgfhjkphdmkmoac
