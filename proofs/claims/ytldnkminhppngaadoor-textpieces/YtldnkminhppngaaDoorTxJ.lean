/-
  From the rows' readings to the walks' words: a request that came in; what the rows' condition on tables gives: powers of ten and the words of commands are as their texts lay them.
-/
import Derived.Test.YtldnkminhppngaaDoorTxG
import Derived.Test.YtldnkminhppngaaDoorGi
import Derived.Test.YtldnkminhppngaaDoorChecked
import Derived.Test.YtldnkminhppngaaDoorTie
import Derived.Test.YtldnkminhppngaaDoorCards
import Derived.LaidMore
import Derived.Lib.LaidTab
import Derived.Stop.LaidErr
import Derived.Stop.Joined
import Derived.OpenShut
namespace Go.Proofs.YtldnkminhppngaaDoor
open Go.Proofs.YtldnkminhppngaaDoor.It
open Go.ChangeShapes Go.WideShapes Go.ChangeAt Go.RowKit
open Go.ChangeMaps (open_string shut_string)
set_option linter.unusedSimpArgs false
set_option linter.unusedVariables false
set_option maxRecDepth 100000

theorem laidOut_all : laidOutB Tryd.prog = true := by kernel_rfl
theorem own : ownKnob Tryd.prog.godebug = none := by kernel_rfl
theorem Tryd.k8 : Tryd.prog.cellsOf 5 = 1 := by kernel_rfl
theorem Tryd.k64 : Tryd.prog.cellsOf 3 = 1 := by kernel_rfl
theorem Tryd.kstr : Tryd.prog.cellsOf 9 = 1 := by kernel_rfl
theorem Tryd.ku32 : Tryd.prog.cellsOf 23 = 1 := by kernel_rfl
theorem Tryd.ku64 : Tryd.prog.cellsOf 24 = 1 := by kernel_rfl
theorem Tryd.kbool : Tryd.prog.cellsOf 4 = 1 := by kernel_rfl
theorem Tryd.kstrs : Tryd.prog.cellsOf 22 = 1 := by kernel_rfl
theorem Tryd.kcmd : Tryd.prog.cellsOf 26 = 8 := by kernel_rfl
theorem Tryd.kreq : Tryd.prog.cellsOf 28 = 13 := by kernel_rfl
instance : Inhabited ByteArray := ⟨⟨#[]⟩⟩
def laid4 : List (String × DataW Unit) := [("math/bits.deBruijn32tab", Rows.laid_math_bits_deBruijn32tab), ("math/bits.deBruijn64tab", Rows.laid_math_bits_deBruijn64tab), ("internal/strconv.uint64pow10", Rows.laid_internal_strconv_uint64pow10), ("cloakroom/text.commandWords", Rows.laid_cloakroom_text_commandWords)]
theorem tab_data : (Rows.laid_internal_strconv_uint64pow10 : DataW Unit) = Lib.tabData .u64 Lib.pow10Tab := by
  unfold Rows.laid_internal_strconv_uint64pow10 Lib.tabData Lib.pow10Tab
  simp [List.range, List.range.loop]
theorem tab_type : (Tryd.prog.globalNamed "internal/strconv.uint64pow10").bind (fun g => (Tryd.prog.globals[g]?).map (·.type)) = some 151 := by kernel_rfl
theorem Tryd.k20 : Tryd.prog.cellsOf 151 = 20 := by kernel_rfl
theorem tab_of_laid {W : World} (h : laidMetH Tryd.prog laid4 W) : Tab W := by
  rw [MakeChecks.laidMetH_plain _ _ _ (by kernel_rfl)] at h
  obtain ⟨ps, ⟨g', t', cs, fuel, p, q, hg', ht', hvar, hd, _, _⟩, _⟩ := h.tail.tail
  have et : t' = 151 := by
    have h1 := tab_type
    rw [hg'] at h1
    exact Option.some.inj (ht'.symm.trans h1)
  subst et
  rw [tab_data] at hd
  unfold Tab Lib.TabIs
  rw [hvar, ← Lib.cells_of_tab Tryd.underlying151 Tryd.underlying24 Tryd.ku64 Tryd.k20 hd]
theorem kw_glob : Tryd.prog.globalNamed "cloakroom/text.commandWords" = some 1 := by kernel_rfl
theorem kw_type : (Tryd.prog.globalNamed "cloakroom/text.commandWords").bind (fun g => (Tryd.prog.globals[g]?).map (·.type)) = some 96 := by kernel_rfl
theorem Tryd.k12 : Tryd.prog.cellsOf 96 = 12 := by kernel_rfl
theorem kw_lits : (Rows.laid_cloakroom_text_commandWords : DataW Unit) = .agg ((List.range 12).map fun (i : Nat) => .lit (.string (kw i).data.toList)) := by
  unfold Rows.laid_cloakroom_text_commandWords
  simp [List.range, List.range.loop, kw]
theorem kw_of_laid {W : World} (h : laidMetH Tryd.prog laid4 W) : KwT W := by
  rw [MakeChecks.laidMetH_plain _ _ _ (by kernel_rfl)] at h
  obtain ⟨ps, ⟨g', t', cs, fuel, p, q, hg', ht', hvar, hd, _, _⟩, _⟩ := h.tail.tail.tail
  have et : t' = 96 := by
    have h1 := kw_type
    rw [hg'] at h1
    exact Option.some.inj (ht'.symm.trans h1)
  subst et
  have eg : g' = 1 := Option.some.inj (hg'.symm.trans kw_glob)
  subst eg
  obtain ⟨xs, m, _, hx, hlen, hxl, hf⟩ := DataW.trod_array Tryd.underlying96 hd
  rw [kw_lits] at hx
  have hx1 := congrArg Prod.fst hx
  have hx2 : (List.range 12).map (fun (i : Nat) => (DataW.lit (.string (kw i).data.toList) : DataW Unit)) = xs.map (·.1) := by
    injection hx1
  intro i hi
  have hfi := hf i hi
  rw [Tryd.kstr, Nat.mul_one] at hfi
  have hix : i < xs.length := by omega
  rw [List.getElem?_eq_getElem hix] at hfi
  obtain ⟨s, hc, hy, _⟩ := DataW.trod_string Tryd.underlying9 hfi
  have h1 : cs.toList[i]? = some (.string s) := by
    have := congrArg (·[0]?) hc
    simpa [List.getElem?_take, List.getElem?_drop] using this
  have h2 : (DataW.lit (.string (kw i).data.toList) : DataW Unit) = .lit (.string s.data.toList) := by
    have h3 := congrArg (·[i]?) hx2
    simp only [List.getElem?_map, List.getElem?_range hi, List.getElem?_eq_getElem hix, Option.map_some, Option.some.injEq] at h3
    rw [h3, hy]
  have h4 : (kw i).data.toList = s.data.toList := by injection h2 with h5; injection h5
  have h5 : s = kw i := bl_inj h4.symm
  rw [World.var?_cell kw_glob hvar i]
  rw [h5] at h1
  simpa using h1
theorem door_met (os : Os) (args : Array Value) : laidMetH Tryd.prog laid4 ((World.doorLaid Tryd.prog 400 os).forCall (fun _ _ => 0) ⟨#[], args, []⟩).memory :=
  laidMetH_of_parts3 (fuel := 8) (laidMet_of_run' 8 (by kernel_rfl) (by kernel_rfl)) (by kernel_rfl) (by kernel_rfl)

variable {H : Type} {enc : TypeId × Value → H} {W : World} {base : Nat} {sp : Nat → Bool} {bb : Bool}
theorem str_of_cells {fuel : Nat} {cs : List Value} {x : DataW H × List MemPlace} (h : DataW.trod enc Tryd.prog W base sp bb fuel 9 cs = some x) : ∃ s : ByteArray, cs = ES.cells s ∧ s.size ≤ maxLen := by
  obtain ⟨s, e, _, hs⟩ := DataW.trod_string Tryd.underlying9 h
  exact ⟨s, e, hs⟩
/-- a request that came in -/
structure RqIn (W : World) (r : Rq) (ko : Option Addr) (kc : Nat) : Prop where
  rd : GRd ES W ko r.cmd.keys kc
  keys : ∀ k ∈ r.cmd.keys, k.size ≤ maxLen
  sec : r.secret.size ≤ maxLen
  val : r.cmd.value.size ≤ maxLen
  fit : r.Fit
  kind : 0 ≤ r.kind ∧ r.kind ≤ 255
  ckind : 0 ≤ r.cmd.kind ∧ r.cmd.kind ≤ 255
theorem inReq_of {v : Value} {r : Reach} {b0 : Nat} {d : DataW H} {p : List MemPlace} (hsp : ∀ b, sp b = true) (hv : Value.okWide Tryd.prog W r b0 28 v)
    (hf : DataW.Trod enc Tryd.prog W base sp bb 28 v d p) : ∃ (c : Rq) (ko : Option Addr) (kc : Nat), v = .agg (c.arr (.slice ko c.cmd.keys.length kc)) ∧ RqIn W c ko kc := by
  obtain ⟨cs, rfl, hs⟩ := okWide_struct Tryd.underlying28 hv
  obtain ⟨fuel, hf⟩ := hf
  obtain ⟨xs, n, _, hx, hlen, hxl, hfs⟩ := DataW.trod_struct Tryd.underlying28 hf
  rw [Tryd.kreq] at hs hlen
  obtain ⟨z0, u0, u1, u2, u3, u4, u5, u6, u7, z2, z3, z4, z5, rfl⟩ : ∃ z0 u0 u1 u2 u3 u4 u5 u6 u7 z2 z3 z4 z5, cs = #[z0, u0, u1, u2, u3, u4, u5, u6, u7, z2, z3, z4, z5] := by
    cases cs with | mk l =>
    match l, hs with
    | [z0, u0, u1, u2, u3, u4, u5, u6, u7, z2, z3, z4, z5], _ => exact ⟨z0, u0, u1, u2, u3, u4, u5, u6, u7, z2, z3, z4, z5, rfl⟩
  match xs, hxl with
  | [y0, y1, y2, y3, y4, y5], _ =>
    have f0 := hfs 0 _ rfl
    have f1 := hfs 1 _ rfl
    have f2 := hfs 2 _ rfl
    have f3 := hfs 3 _ rfl
    have f4 := hfs 4 _ rfl
    have f5 := hfs 5 _ rfl
    simp [Tryd.k8, Tryd.k64, Tryd.kstr, Tryd.kbool, Tryd.kcmd, Value.cells] at f0 f1 f2 f3 f4 f5
    obtain ⟨m0, e0, _, g0⟩ := DataW.trod_int Tryd.underlying5 f0
    obtain ⟨m2, e2, _, g2⟩ := DataW.trod_int Tryd.underlying3 f2
    obtain ⟨m3, e3, _, g3⟩ := DataW.trod_string Tryd.underlying9 f3
    obtain ⟨m4, e4, _⟩ := DataW.trod_bool Tryd.underlying4 f4
    obtain ⟨m5, e5, _⟩ := DataW.trod_bool Tryd.underlying4 f5
    obtain ⟨xs1, n1, _, hx1, hlen1, hxl1, hfs1⟩ := DataW.trod_struct Tryd.underlying26 f1
    match xs1, hxl1 with
    | [t0, t1, t2, t3, t4, t5, t6, t7], _ =>
      have a0 := hfs1 0 _ rfl
      have a1 := hfs1 1 _ rfl
      have a2 := hfs1 2 _ rfl
      have a3 := hfs1 3 _ rfl
      have a4 := hfs1 4 _ rfl
      have a5 := hfs1 5 _ rfl
      have a6 := hfs1 6 _ rfl
      have a7 := hfs1 7 _ rfl
      simp [Tryd.k8, Tryd.k64, Tryd.kstrs, Tryd.kstr, Tryd.ku32, Tryd.ku64, Value.cells] at a0 a1 a2 a3 a4 a5 a6 a7
      obtain ⟨n0, b0, _, q0⟩ := DataW.trod_int Tryd.underlying5 a0
      obtain ⟨n1, b1, _, q1⟩ := DataW.trod_int Tryd.underlying3 a1
      obtain ⟨s3, b3, _, q3⟩ := DataW.trod_string Tryd.underlying9 a3
      obtain ⟨n4, b4, _, q4⟩ := DataW.trod_int Tryd.underlying23 a4
      obtain ⟨n5, b5, _, q5⟩ := DataW.trod_int Tryd.underlying3 a5
      obtain ⟨n6, b6, _, q6⟩ := DataW.trod_int Tryd.underlying24 a6
      obtain ⟨n7, b7, _, q7⟩ := DataW.trod_int Tryd.underlying24 a7
      obtain ⟨ko, l, kc, b2, hg, hp⟩ := g_open okS Tryd.kstr (fun (s : ByteArray) => s.size ≤ maxLen) hsp (fun _ _ _ hx => str_of_cells hx) a2
      simp at e0 e2 e3 e4 e5 b0 b1 b3 b4 b5 b6 b7
      subst e0 e2 e3 e4 e5 b0 b1 b2 b3 b4 b5 b6 b7
      have c0 := bounds_u8 g0
      have c1 := bounds_u8 q0
      have c4 := bounds_u32 q4
      have c6 := bounds_u64 q6
      have c7 := bounds_u64 q7
      exact ⟨⟨m0, ⟨n0, n1, l, s3, n4, n5, n6, n7⟩, m2, m3, m4, m5⟩, ko, kc, rfl, ⟨hg, (fun k hk => by obtain ⟨i, hi, rfl⟩ := List.getElem_of_mem hk; exact hp i hi), g3, q3, ⟨c4.1, by dsimp only; omega, c6.1, by dsimp only; omega, c7.1, by dsimp only; omega⟩, by dsimp only; omega, by dsimp only; omega⟩⟩
end Go.Proofs.YtldnkminhppngaaDoor
