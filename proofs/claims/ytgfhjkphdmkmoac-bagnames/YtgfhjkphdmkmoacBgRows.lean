/-
  From the rows' readings to the walks' words: a list of numbers, a list of lists of bytes that came in.
-/
import Derived.Test.YtgfhjkphdmkmoacBgMem
import Derived.Test.YtgfhjkphdmkmoacRows4
namespace Go.Proofs.Ytgfhjkphdmkmoac
open Go.ChangeShapes Go.WideShapes Go.ChangeAt Go.RowKit
open Go.ChangeMaps (open_string shut_string)
set_option linter.unusedSimpArgs false
set_option linter.unusedVariables false
set_option maxRecDepth 100000

variable {H : Type} {enc : TypeId × Value → H} {W : World} {base : Nat} {sp : Nat → Bool} {bb : Bool}

/-- a list of numbers that came in, as the walk wants it -/
def InInts (w : World) (a : Option Addr) (len cap : Nat) (l : List Int) : Prop := l.length = len ∧ Il w a l cap

theorem inInts_of {a : Option Addr} {len cap : Nat} {d : DataW H} {p : List MemPlace} (hsp : ∀ b, sp b = true)
    (hf : DataW.Trod enc Try.prog W base sp bb 39 (.slice a len cap) d p) : ∃ l, InInts W a len cap l := by
  obtain ⟨fuel, hf⟩ := hf
  rcases open_ints Try.underlying39 Try.underlying3 (by kernel_rfl) hf with ⟨hcs, _⟩ | ⟨x, l, c, zs, hcs, _, hl, hm, hz, _, hcell, hwz⟩
  · simp [Value.cells] at hcs
    obtain ⟨rfl, rfl, rfl⟩ := hcs
    exact ⟨[], rfl, Nat.le_refl _, by omega, fun _ => rfl, .inl rfl⟩
  · simp [Value.cells] at hcs
    obtain ⟨rfl, rfl, rfl⟩ := hcs
    rw [if_pos (hsp _)] at hz
    have hlen : (zs.take len).length = len := by simp; omega
    refine ⟨zs.take len, hlen, by omega, hm, fun e => (by cases e), ?_⟩
    by_cases h0 : len = 0
    · subst h0; exact .inl rfl
    · obtain ⟨b, off, spot⟩ := x
      have hspot : spot = none := by simpa [Addr.add] using World.cell?_spot (hcell 0 (by omega))
      subst hspot
      refine .inr ⟨b, off, rfl, World.block_lt_of_cell? W _ (hcell 0 (by omega)), fun j hj => ?_⟩
      have hj' : j < zs.length := by simp at hj; omega
      have := hcell j hj'
      rw [addr_add] at this
      rw [this]
      have hg : zs.getD j 0 = zs[j] := by simp [hj']
      rw [hg]
      simp

/-- a list of lists of bytes that came in, as the walk wants it -/
def InLists (w : World) (a : Option Addr) (len cap : Nat) (ls : List (List UInt8)) : Prop := ls.length = len ∧ Ll w a ls cap ∧ ∀ p ∈ ls, p.length ≤ 140737488351232

theorem inLists_of {a : Option Addr} {len cap : Nat} {d : DataW H} {p : List MemPlace} (hsp : ∀ b, sp b = true)
    (hf : DataW.Trod enc Try.prog W base sp bb 36 (.slice a len cap) d p) (hw : ∀ n ∈ d.weights Try.prog 36, n ≤ reachBytes) : ∃ ls, InLists W a len cap ls := by
  obtain ⟨fuel, hf⟩ := hf
  rcases Deep.open_slice Try.underlying36 hf with ⟨hcs, _⟩ | ⟨x, l, c, m, n, D, Pl, hcs, _, hl, hm, hz, hd, hall⟩
  · simp [Value.cells] at hcs
    obtain ⟨rfl, rfl, rfl⟩ := hcs
    exact ⟨[], rfl, ⟨Nat.le_refl _, by omega, fun _ => rfl, .inl rfl⟩, by simp⟩
  · simp [Value.cells] at hcs
    obtain ⟨rfl, rfl, rfl⟩ := hcs
    rw [if_pos (hsp _)] at hz
    subst hz
    rw [Try.pcbytes] at hall
    have hd1 : d = .slice ((List.range len).map D) ((List.range (m - len)).map fun j => D (len + j)) := (Prod.mk.inj hd).1
    have hex : ∀ i, i < len → ∃ q : List UInt8, (q.length ≤ 140737488351232) ∧ ∃ v, W.cell? (x.add i) = some v ∧ DtAt W W.heap.size v q := by
      intro i hi
      obtain ⟨cs', h1, h2⟩ := hall i (by omega)
      obtain ⟨a1, len1, cap1, l1, e1, hi1, hr1⟩ := inBytes_cells hsp h2
      have hr := hr1 (fun k hk => hw k (by
        rw [hd1]
        simp only [DataW.weights, Try.underlying36, List.mem_cons, List.mem_append]
        exact .inr (.inl (weightsAll_mem (List.mem_map.2 ⟨i, by simpa using hi, rfl⟩) k hk))))
      subst e1
      obtain ⟨rfl, g1, g2, g3, g4⟩ := hi1
      have h3 := (World.cells?_some h1).2.2 0 (by omega)
      rw [Deep.add_add] at h3
      exact ⟨l1, by omega, _, by simpa using h3, a1, cap1, rfl, g1, g2, g3, g4⟩
    obtain ⟨f, hfs⟩ := Deep.choose_lt hex
    have hlen : ((List.range len).map f).length = len := by simp
    refine ⟨(List.range len).map f, hlen, ⟨by omega, hm, (by intro e; cases e), ?_⟩, ?_⟩
    · by_cases h0 : len = 0
      · subst h0; exact .inl rfl
      · obtain ⟨b, off, spot⟩ := x
        obtain ⟨_, v0, h00, _⟩ := hfs 0 (by omega)
        have hspot : spot = none := by simpa [Addr.add] using World.cell?_spot h00
        subst hspot
        refine .inr ⟨b, off, rfl, World.block_lt_of_cell? W _ h00, fun i hi => ?_⟩
        have hi' : i < len := by simpa using hi
        obtain ⟨_, v, c0, hdt⟩ := hfs i hi'
        rw [addr_add] at c0
        have e : ((List.range len).map f)[i] = f i := by simp
        rw [e]
        exact ⟨v, c0, hdt⟩
    · intro q hq
      obtain ⟨i, hi, rfl⟩ := List.mem_map.1 hq
      exact (hfs i (by simpa using hi)).1
end Go.Proofs.Ytgfhjkphdmkmoac
