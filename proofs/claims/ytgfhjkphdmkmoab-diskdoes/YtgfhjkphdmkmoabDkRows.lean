/-
  From the rows' readings to the walks' words: a disk and a list of writes that came in.
-/
import Derived.Test.YtgfhjkphdmkmoabDkPts
import Derived.Test.YtgfhjkphdmkmoabRows4
namespace Go.Proofs.Ytgfhjkphdmkmoab
open Go.ChangeShapes Go.WideShapes Go.ChangeAt Go.RowKit
open Go.ChangeMaps (open_string shut_string)
set_option linter.unusedSimpArgs false
set_option linter.unusedVariables false
set_option maxRecDepth 100000

variable {H : Type} {enc : TypeId × Value → H} {W : World} {base : Nat} {sp : Nat → Bool} {bb : Bool}

theorem Try.pcdev : Try.prog.cellsOf 48 = 1 := by kernel_rfl
theorem Try.pcput : Try.prog.cellsOf 77 = 2 := by kernel_rfl

theorem put_of_cells {fuel : Nat} {cs : List Value} {x : DataW H × List MemPlace} (hsp : ∀ b, sp b = true) (h : DataW.trod enc Try.prog W base sp bb fuel 77 cs = some x) (hw : ∀ n ∈ x.1.weights Try.prog 77, n ≤ reachBytes) :
    ∃ (p : Pt) (v : Value), cs = [.int .i64 p.n, v] ∧ DtAt W W.heap.size v p.data ∧ p.data.length ≤ 140737488351232 := by
  obtain ⟨xs, n, _, hx, hlen, hxl, hf⟩ := DataW.trod_struct Try.underlying77 h
  rw [Try.pcput] at hlen
  match cs, hlen, xs, hxl with
  | [v0, v1], _, [y0, y1], _ =>
    have f0 := hf 0 _ rfl
    have f1 := hf 1 _ rfl
    simp [Try.pcint, Try.pcbytes] at f0 f1
    obtain ⟨n0, e0, _, g0⟩ := DataW.trod_int Try.underlying3 f0
    obtain ⟨a, len, cap, l, e1, hi, hr⟩ := inBytes_cells hsp f1
    simp at e0 e1
    subst e0 e1
    obtain ⟨rfl, h1, h2, h3, h4⟩ := hi
    refine ⟨⟨n0, l⟩, _, rfl, ⟨a, cap, rfl, h1, h2, h3, h4⟩, ?_⟩
    have := hr (fun k hk => hw k (by subst hx; simp [DataW.weights, DataW.weightsEach, Try.underlying77, hk]))
    show l.length ≤ _
    omega

/-- a list of writes that came in, as the walk wants it -/
def InPuts (w : World) (a : Option Addr) (len cap : Nat) (ps : List Pt) : Prop :=
  ps.length = len ∧ len ≤ cap ∧ cap ≤ maxLen ∧ (a = none → cap = 0) ∧ PtAt w w.heap.size a ps ∧ ∀ p ∈ ps, p.data.length ≤ 140737488351232

theorem inPuts_of {a : Option Addr} {len cap : Nat} {d : DataW H} {p : List MemPlace} (hsp : ∀ b, sp b = true)
    (hf : DataW.Trod enc Try.prog W base sp bb 55 (.slice a len cap) d p) (hw : ∀ n ∈ d.weights Try.prog 55, n ≤ reachBytes) : ∃ ps, InPuts W a len cap ps := by
  obtain ⟨fuel, hf⟩ := hf
  rcases Deep.open_slice Try.underlying55 hf with ⟨hcs, _⟩ | ⟨x, l, c, m, n, D, Pl, hcs, _, hl, hm, hz, hd, hall⟩
  · simp [Value.cells] at hcs
    obtain ⟨rfl, rfl, rfl⟩ := hcs
    exact ⟨[], rfl, Nat.le_refl _, by simp [maxLen], fun _ => rfl, .inl rfl, by simp⟩
  · simp [Value.cells] at hcs
    obtain ⟨rfl, rfl, rfl⟩ := hcs
    rw [if_pos (hsp _)] at hz
    subst hz
    rw [Try.pcput] at hall
    have hd1 : d = .slice ((List.range len).map D) ((List.range (m - len)).map fun j => D (len + j)) := (Prod.mk.inj hd).1
    have hex : ∀ i, i < len → ∃ q : Pt, (q.data.length ≤ 140737488351232) ∧ W.cell? (x.add (i * 2)) = some (.int .i64 q.n) ∧ ∃ v, W.cell? (x.add (i * 2 + 1)) = some v ∧ DtAt W W.heap.size v q.data := by
      intro i hi
      obtain ⟨cs', h1, h2⟩ := hall i (by omega)
      obtain ⟨q, v, rfl, hdt, hr⟩ := put_of_cells hsp h2 (fun k hk => hw k (by
        rw [hd1]
        simp only [DataW.weights, Try.underlying55, List.mem_cons, List.mem_append]
        exact .inr (.inl (weightsAll_mem (List.mem_map.2 ⟨i, by simpa using hi, rfl⟩) k hk))))
      have h3 := (World.cells?_some h1).2.2 0 (by omega)
      have h4 := (World.cells?_some h1).2.2 1 (by omega)
      rw [Deep.add_add] at h3 h4
      exact ⟨q, hr, by simpa using h3, v, by simpa using h4, hdt⟩
    have : Inhabited Pt := ⟨⟨0, []⟩⟩
    obtain ⟨f, hfs⟩ := Deep.choose_lt hex
    refine ⟨(List.range len).map f, by simp, hl, hm, (by intro e; cases e), ?_, ?_⟩
    · by_cases h0 : len = 0
      · subst h0; exact .inl rfl
      · obtain ⟨b, off, spot⟩ := x
        have h00 := (hfs 0 (by omega)).2.1
        have hspot : spot = none := by simpa [Addr.add] using World.cell?_spot h00
        subst hspot
        refine .inr ⟨b, off, rfl, World.block_lt_of_cell? W _ h00, fun i hi => ?_⟩
        have hi' : i < len := by simpa using hi
        obtain ⟨_, c0, v, c1, hdt⟩ := hfs i hi'
        rw [addr_add] at c0 c1
        have e : ((List.range len).map f)[i] = f i := by simp
        rw [e]
        exact ⟨c0, v, by rw [Nat.add_assoc]; exact c1, hdt⟩
    · intro q hq
      obtain ⟨i, hi, rfl⟩ := List.mem_map.1 hq
      exact (hfs i (by simpa using hi)).1

/-- a disk that came in -/
theorem inDevice_of {v : Value} {r : Reach} {b0 : Nat} {d : DataW H} {p : List MemPlace} (hsp : ∀ b, sp b = true) (hv : Value.okWide Try.prog W r b0 48 v)
    (hf : DataW.Trod enc Try.prog W base sp bb 48 v d p) : ∃ a len cap l, v = .agg #[.slice a len cap] ∧ InBytes W a len cap l := by
  obtain ⟨cs, rfl, hs⟩ := okWide_struct Try.underlying48 hv
  obtain ⟨fuel, hf⟩ := hf
  obtain ⟨xs, n, _, hx, hlen, hxl, hfs⟩ := DataW.trod_struct Try.underlying48 hf
  rw [Try.pcdev] at hs hlen
  obtain ⟨u, rfl⟩ : ∃ u, cs = #[u] := by
    cases cs with | mk l =>
    match l, hs with
    | [u], _ => exact ⟨u, rfl⟩
  match xs, hxl with
  | [y0], _ =>
    have f0 := hfs 0 _ rfl
    simp [Try.pcbytes, Value.cells] at f0
    obtain ⟨a, len, cap, l, e1, hi, _⟩ := inBytes_cells hsp f0
    simp at e1
    subst e1
    exact ⟨a, len, cap, l, rfl, hi⟩
end Go.Proofs.Ytgfhjkphdmkmoab
