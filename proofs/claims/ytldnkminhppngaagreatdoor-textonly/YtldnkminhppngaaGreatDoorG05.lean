/-
  Several texts in one: TxJ, Gh, TyU.
-/
import Derived.Test.YtldnkminhppngaaGreatDoorTxG
import Derived.Test.YtldnkminhppngaaGreatDoorG04
import Derived.Test.YtldnkminhppngaaGreatDoorChecked
import Derived.Test.YtldnkminhppngaaGreatDoorTie
import Derived.Test.YtldnkminhppngaaGreatDoorCards
import Derived.LaidMore
import Derived.Lib.LaidTab
import Derived.Stop.LaidErr
import Derived.Stop.Joined
import Derived.OpenShut
import Derived.Test.YtldnkminhppngaaGreatDoorGr
import Derived.SizedLaws
import Derived.Handed
import Derived.Shelf.Vars
import Derived.LaidLaws
import Derived.Lay
/-
  From the rows' readings to the walks' words: a request that came in; what the rows' condition on tables gives: powers of ten and the words of commands are as their texts lay them.
-/
namespace Go.Proofs.YtldnkminhppngaaGreatDoor
open Go.Proofs.YtldnkminhppngaaGreatDoor.It
open Go.ChangeShapes Go.WideShapes Go.ChangeAt Go.RowKit
open Go.ChangeMaps (open_string shut_string)
set_option linter.unusedSimpArgs false
set_option linter.unusedVariables false
set_option maxRecDepth 100000

theorem laidOut_all : laidOutB Tryz.prog = true := by kernel_rfl
theorem own : ownKnob Tryz.prog.godebug = none := by kernel_rfl
theorem Tryz.k8 : Tryz.prog.cellsOf 5 = 1 := by kernel_rfl
theorem Tryz.k64 : Tryz.prog.cellsOf 3 = 1 := by kernel_rfl
theorem Tryz.kstr : Tryz.prog.cellsOf 9 = 1 := by kernel_rfl
theorem Tryz.ku32 : Tryz.prog.cellsOf 23 = 1 := by kernel_rfl
theorem Tryz.ku64 : Tryz.prog.cellsOf 24 = 1 := by kernel_rfl
theorem Tryz.kbool : Tryz.prog.cellsOf 4 = 1 := by kernel_rfl
theorem Tryz.kstrs : Tryz.prog.cellsOf 22 = 1 := by kernel_rfl
theorem Tryz.kcmd : Tryz.prog.cellsOf 26 = 8 := by kernel_rfl
theorem Tryz.kreq : Tryz.prog.cellsOf 28 = 13 := by kernel_rfl
instance : Inhabited ByteArray := ⟨⟨#[]⟩⟩
def laid4 : List (String × DataW Unit) := [("math/bits.deBruijn32tab", Rows.laid_math_bits_deBruijn32tab), ("math/bits.deBruijn64tab", Rows.laid_math_bits_deBruijn64tab), ("internal/strconv.uint64pow10", Rows.laid_internal_strconv_uint64pow10), ("cloakroom/text.commandWords", Rows.laid_cloakroom_text_commandWords)]
theorem tab_data : (Rows.laid_internal_strconv_uint64pow10 : DataW Unit) = Lib.tabData .u64 Lib.pow10Tab := by
  unfold Rows.laid_internal_strconv_uint64pow10 Lib.tabData Lib.pow10Tab
  simp [List.range, List.range.loop]
theorem tab_type : (Tryz.prog.globalNamed "internal/strconv.uint64pow10").bind (fun g => (Tryz.prog.globals[g]?).map (·.type)) = some 120 := by kernel_rfl
theorem Tryz.k20 : Tryz.prog.cellsOf 120 = 20 := by kernel_rfl
theorem tab_of_laid {W : World} (h : laidMetH Tryz.prog laid4 W) : Tab W := by
  rw [MakeChecks.laidMetH_plain _ _ _ (by kernel_rfl)] at h
  obtain ⟨ps, ⟨g', t', cs, fuel, p, q, hg', ht', hvar, hd, _, _⟩, _⟩ := h.tail.tail
  have et : t' = 120 := by
    have h1 := tab_type
    rw [hg'] at h1
    exact Option.some.inj (ht'.symm.trans h1)
  subst et
  rw [tab_data] at hd
  unfold Tab Lib.TabIs
  rw [hvar, ← Lib.cells_of_tab Tryz.underlying120 Tryz.underlying24 Tryz.ku64 Tryz.k20 hd]
theorem kw_glob : Tryz.prog.globalNamed "cloakroom/text.commandWords" = some 0 := by kernel_rfl
theorem kw_type : (Tryz.prog.globalNamed "cloakroom/text.commandWords").bind (fun g => (Tryz.prog.globals[g]?).map (·.type)) = some 84 := by kernel_rfl
theorem Tryz.k12 : Tryz.prog.cellsOf 84 = 12 := by kernel_rfl
theorem kw_lits : (Rows.laid_cloakroom_text_commandWords : DataW Unit) = .agg ((List.range 12).map fun (i : Nat) => .lit (.string (kw i).data.toList)) := by
  unfold Rows.laid_cloakroom_text_commandWords
  simp [List.range, List.range.loop, kw]
theorem kw_of_laid {W : World} (h : laidMetH Tryz.prog laid4 W) : KwT W := by
  rw [MakeChecks.laidMetH_plain _ _ _ (by kernel_rfl)] at h
  obtain ⟨ps, ⟨g', t', cs, fuel, p, q, hg', ht', hvar, hd, _, _⟩, _⟩ := h.tail.tail.tail
  have et : t' = 84 := by
    have h1 := kw_type
    rw [hg'] at h1
    exact Option.some.inj (ht'.symm.trans h1)
  subst et
  have eg : g' = 0 := Option.some.inj (hg'.symm.trans kw_glob)
  subst eg
  obtain ⟨xs, m, _, hx, hlen, hxl, hf⟩ := DataW.trod_array Tryz.underlying84 hd
  rw [kw_lits] at hx
  have hx1 := congrArg Prod.fst hx
  have hx2 : (List.range 12).map (fun (i : Nat) => (DataW.lit (.string (kw i).data.toList) : DataW Unit)) = xs.map (·.1) := by
    injection hx1
  intro i hi
  have hfi := hf i hi
  rw [Tryz.kstr, Nat.mul_one] at hfi
  have hix : i < xs.length := by omega
  rw [List.getElem?_eq_getElem hix] at hfi
  obtain ⟨s, hc, hy, _⟩ := DataW.trod_string Tryz.underlying9 hfi
  have h1 : cs.toList[i]? = some (.string s) := by
    have := congrArg (·[0]?) hc
    simpa [List.getElem?_take, List.getElem?_drop] using this
  have h2 : (DataW.lit (.string (kw i).data.toList) : DataW Unit) = .lit (.string s.data.toList) := by
    have h3 := congrArg (·[i]?) hx2
    simp only [List.getElem?_map, List.getElem?_range hi, List.getElem?_eq_getElem hix, Option.map_some, Option.some.injEq] at h3
    rw [h3, hy]
  have h4 : (kw i).data.toList = s.data.toList := by injection h2 with h5; injection h5
  have h5 : s = kw i := bl_inj h4.symm
  rw [World.var?_cell kw_glob hvar i]
  rw [h5] at h1
  simpa using h1
theorem door_met (os : Os) (args : Array Value) : laidMetH Tryz.prog laid4 ((World.doorLaid Tryz.prog 400 os).forCall (fun _ _ => 0) ⟨#[], args, []⟩).memory :=
  laidMetH_of_parts3 (fuel := 8) (laidMet_of_run' 8 (by kernel_rfl) (by kernel_rfl)) (by kernel_rfl) (by kernel_rfl)

variable {H : Type} {enc : TypeId × Value → H} {W : World} {base : Nat} {sp : Nat → Bool} {bb : Bool}
theorem str_of_cells {fuel : Nat} {cs : List Value} {x : DataW H × List MemPlace} (h : DataW.trod enc Tryz.prog W base sp bb fuel 9 cs = some x) : ∃ s : ByteArray, cs = ES.cells s ∧ s.size ≤ maxLen := by
  obtain ⟨s, e, _, hs⟩ := DataW.trod_string Tryz.underlying9 h
  exact ⟨s, e, hs⟩
/-- a request that came in -/
structure RqIn (W : World) (r : Rq) (ko : Option Addr) (kc : Nat) : Prop where
  rd : GRd ES W ko r.cmd.keys kc
  keys : ∀ k ∈ r.cmd.keys, k.size ≤ maxLen
  sec : r.secret.size ≤ maxLen
  val : r.cmd.value.size ≤ maxLen
  fit : r.Fit
  kind : 0 ≤ r.kind ∧ r.kind ≤ 255
  ckind : 0 ≤ r.cmd.kind ∧ r.cmd.kind ≤ 255
theorem inReq_of {v : Value} {r : Reach} {b0 : Nat} {d : DataW H} {p : List MemPlace} (hsp : ∀ b, sp b = true) (hv : Value.okWide Tryz.prog W r b0 28 v)
    (hf : DataW.Trod enc Tryz.prog W base sp bb 28 v d p) : ∃ (c : Rq) (ko : Option Addr) (kc : Nat), v = .agg (c.arr (.slice ko c.cmd.keys.length kc)) ∧ RqIn W c ko kc := by
  obtain ⟨cs, rfl, hs⟩ := okWide_struct Tryz.underlying28 hv
  obtain ⟨fuel, hf⟩ := hf
  obtain ⟨xs, n, _, hx, hlen, hxl, hfs⟩ := DataW.trod_struct Tryz.underlying28 hf
  rw [Tryz.kreq] at hs hlen
  obtain ⟨z0, u0, u1, u2, u3, u4, u5, u6, u7, z2, z3, z4, z5, rfl⟩ : ∃ z0 u0 u1 u2 u3 u4 u5 u6 u7 z2 z3 z4 z5, cs = #[z0, u0, u1, u2, u3, u4, u5, u6, u7, z2, z3, z4, z5] := by
    cases cs with | mk l =>
    match l, hs with
    | [z0, u0, u1, u2, u3, u4, u5, u6, u7, z2, z3, z4, z5], _ => exact ⟨z0, u0, u1, u2, u3, u4, u5, u6, u7, z2, z3, z4, z5, rfl⟩
  match xs, hxl with
  | [y0, y1, y2, y3, y4, y5], _ =>
    have f0 := hfs 0 _ rfl
    have f1 := hfs 1 _ rfl
    have f2 := hfs 2 _ rfl
    have f3 := hfs 3 _ rfl
    have f4 := hfs 4 _ rfl
    have f5 := hfs 5 _ rfl
    simp [Tryz.k8, Tryz.k64, Tryz.kstr, Tryz.kbool, Tryz.kcmd, Value.cells] at f0 f1 f2 f3 f4 f5
    obtain ⟨m0, e0, _, g0⟩ := DataW.trod_int Tryz.underlying5 f0
    obtain ⟨m2, e2, _, g2⟩ := DataW.trod_int Tryz.underlying3 f2
    obtain ⟨m3, e3, _, g3⟩ := DataW.trod_string Tryz.underlying9 f3
    obtain ⟨m4, e4, _⟩ := DataW.trod_bool Tryz.underlying4 f4
    obtain ⟨m5, e5, _⟩ := DataW.trod_bool Tryz.underlying4 f5
    obtain ⟨xs1, n1, _, hx1, hlen1, hxl1, hfs1⟩ := DataW.trod_struct Tryz.underlying26 f1
    match xs1, hxl1 with
    | [t0, t1, t2, t3, t4, t5, t6, t7], _ =>
      have a0 := hfs1 0 _ rfl
      have a1 := hfs1 1 _ rfl
      have a2 := hfs1 2 _ rfl
      have a3 := hfs1 3 _ rfl
      have a4 := hfs1 4 _ rfl
      have a5 := hfs1 5 _ rfl
      have a6 := hfs1 6 _ rfl
      have a7 := hfs1 7 _ rfl
      simp [Tryz.k8, Tryz.k64, Tryz.kstrs, Tryz.kstr, Tryz.ku32, Tryz.ku64, Value.cells] at a0 a1 a2 a3 a4 a5 a6 a7
      obtain ⟨n0, b0, _, q0⟩ := DataW.trod_int Tryz.underlying5 a0
      obtain ⟨n1, b1, _, q1⟩ := DataW.trod_int Tryz.underlying3 a1
      obtain ⟨s3, b3, _, q3⟩ := DataW.trod_string Tryz.underlying9 a3
      obtain ⟨n4, b4, _, q4⟩ := DataW.trod_int Tryz.underlying23 a4
      obtain ⟨n5, b5, _, q5⟩ := DataW.trod_int Tryz.underlying3 a5
      obtain ⟨n6, b6, _, q6⟩ := DataW.trod_int Tryz.underlying24 a6
      obtain ⟨n7, b7, _, q7⟩ := DataW.trod_int Tryz.underlying24 a7
      obtain ⟨ko, l, kc, b2, hg, hp⟩ := g_open okS Tryz.kstr (fun (s : ByteArray) => s.size ≤ maxLen) hsp (fun _ _ _ hx => str_of_cells hx) a2
      simp at e0 e2 e3 e4 e5 b0 b1 b3 b4 b5 b6 b7
      subst e0 e2 e3 e4 e5 b0 b1 b2 b3 b4 b5 b6 b7
      have c0 := bounds_u8 g0
      have c1 := bounds_u8 q0
      have c4 := bounds_u32 q4
      have c6 := bounds_u64 q6
      have c7 := bounds_u64 q7
      exact ⟨⟨m0, ⟨n0, n1, l, s3, n4, n5, n6, n7⟩, m2, m3, m4, m5⟩, ko, kc, rfl, ⟨hg, (fun k hk => by obtain ⟨i, hi, rfl⟩ := List.getElem_of_mem hk; exact hp i hi), g3, q3, ⟨c4.1, by dsimp only; omega, c6.1, by dsimp only; omega, c7.1, by dsimp only; omega⟩, by dsimp only; omega, by dsimp only; omega⟩⟩
end Go.Proofs.YtldnkminhppngaaGreatDoor
/-
  A row's frame that keeps the world's shape and one condition more: for rows that list variables and call what reads a variable of the library that they do not list.
-/
namespace Go.Proofs.YtldnkminhppngaaGreatDoor
open Go Go.RowKit
set_option linter.unusedVariables false
variable {H : Type} {enc : TypeId × Value → H}

theorem handed_shaped_and {a : Assume} {C : Checked} {os : Os} {f : FuncId} {fn : Func} {s : ChangeSpec} {conds : List PathCond} {apart fresh handsOn again : Bool} {X : World → Array Value → Prop}
    (hX : ∀ (w w' : World) (args : Array Value), w.heap = w'.heap → X w args → X w' args)
    (own : ownKnob C.prog.godebug = none) (started : os.Started) (noInit : C.prog.inits.idxOf? f = none) (hfn : C.prog.funcs[f]? = some fn)
    (witness : ∃ (w : World) (tape : Tape) (i : Input), w.os = os ∧ (w.forCall tape i).Shaped C.prog ∧ i.vars = [] ∧ Input.okWide C.prog (w.forCall tape i) .any w.heap.size f i ∧
      ((s.pre enc C.prog fn conds apart (w.forCall tape i).memory i.args ∧ X (w.forCall tape i).memory i.args) ∧ sizedMet enc C.prog fn (OpenSpec.ofChange s) apart (w.forCall tape i).memory i.args) ∧ a.holds C.prog (lone (Frame.enter C.prog f i.args .normal) [] (w.forCall tape i)))
    (walk : ∀ (W : World) (base : Nat) (args : Array Value) (ds gs : List (DataW H)) (before : List MemPlace),
      (∀ (j : Nat) t v, fn.params[j]? = some t → args[j]? = some v → Value.okWide C.prog W .any base t v) →
      DataW.Whole enc C.prog fn.params.toList s.vars apart W args.toList ds gs before →
      conds.all (PathCond.test C.prog ⟨fn.params.toList, ds, s.plain.varTypes C.prog, gs⟩) = true →
      (DataW.weightsEach C.prog (fn.params.toList ++ s.plain.varTypes C.prog) (ds ++ gs)).all (· ≤ reachBytes) = true → X W args → W.ShapedOpen C.prog →
      Calls C.prog f args W fun e W' => ∃ v, e = .returned v ∧ s.post enc C.prog fn apart fresh handsOn again W args v W') :
    ReturnsInHanded a C os f .any (fun w args => (s.pre enc C.prog fn conds apart w args ∧ X w args) ∧ sizedMet enc C.prog fn (OpenSpec.ofChange s) apart w args) (s.post enc C.prog fn apart fresh handsOn again) := by
  refine returnsInHanded_of_calls own started noInit witness ?_
  intro w tape i _ hsh _ hok hpre _
  obtain ⟨_, _, _, fn', hfn', _, _, _, _, hval⟩ := hok
  have e : fn' = fn := Option.some.inj (hfn'.symm.trans hfn)
  subst e
  obtain ⟨⟨⟨ds, gs, before, hw, hc⟩, hx⟩, hz⟩ := hpre
  have hw' := DataW.Whole.of_heap (w' := w.forCall tape i) (by rfl) hw
  refine (walk (w.forCall tape i) w.heap.size i.args ds gs before hval hw' hc (hz.weights hw) (hX _ _ _ (by rfl) hx) hsh).mono fun e W' ⟨v, he, hp⟩ => ?_
  subst he
  exact ChangeSpec.post_blind hp
end Go.Proofs.YtldnkminhppngaaGreatDoor
/-
  From the rows' readings to the walks' words: what the rows' condition on variables, and the world's shape, give: the library's variables that reading asks; bytes that came in.
-/
namespace Go.Proofs.YtldnkminhppngaaGreatDoor
open Go.Proofs.YtldnkminhppngaaGreatDoor.It
open Go.ChangeShapes Go.WideShapes Go.ChangeAt Go.RowKit
open Go.ChangeMaps (open_string shut_string)
set_option linter.unusedSimpArgs false
set_option linter.unusedVariables false
set_option maxRecDepth 100000

def laid8 : List (String × DataW Unit) := [("math/bits.deBruijn32tab", Rows.laid_math_bits_deBruijn32tab), ("math/bits.deBruijn64tab", Rows.laid_math_bits_deBruijn64tab), ("internal/strconv.uint64pow10", Rows.laid_internal_strconv_uint64pow10), ("unicode/utf8.acceptRanges", Rows.laid_unicode_utf8_acceptRanges), ("strconv.ErrRange", Rows.laid_strconv_ErrRange), ("strconv.ErrSyntax", Rows.laid_strconv_ErrSyntax), ("cloakroom/text.commandWords", Rows.laid_cloakroom_text_commandWords), ("unicode/utf8.first", Rows.laid_unicode_utf8_first)]
theorem tab_of8 {W : World} {r : List (String × DataW Unit)} (h : laidMet Tryz.prog (("internal/strconv.uint64pow10", Rows.laid_internal_strconv_uint64pow10) :: r) W) : Tab W := by
  obtain ⟨ps, ⟨g', t', cs, fuel, p, q, hg', ht', hvar, hd, _, _⟩, _⟩ := h
  have et : t' = 120 := by
    have h1 := tab_type
    rw [hg'] at h1
    exact Option.some.inj (ht'.symm.trans h1)
  subst et
  rw [tab_data] at hd
  unfold Tab Lib.TabIs
  rw [hvar, ← Lib.cells_of_tab Tryz.underlying120 Tryz.underlying24 Tryz.ku64 Tryz.k20 hd]
theorem iface_of8 {W : World} {n nm : String} {g t : Nat} {ms : Array (String × TypeId)} {d : DataW Unit} {r : List (String × DataW Unit)} (hg : Tryz.prog.globalNamed n = some g) (ht : (Tryz.prog.globals[g]?).map (·.type) = some t) (hi : Tryz.prog.underlying t = some (.interface ms))
    (h : laidMet Tryz.prog ((n, .iface nm d) :: r) W) : ∃ ev, W.cell? ⟨g, 0, none⟩ = some ev ∧ (ev = .nilIface ∨ ∃ te pe, ev = .iface te pe) := by
  obtain ⟨ps, ⟨g', t', cs, fuel, p, q, hg', ht', hvar, hd, _, _⟩, _⟩ := h
  have eg : g' = g := Option.some.inj (hg'.symm.trans hg)
  subst eg
  have et : t' = t := Option.some.inj (ht'.symm.trans ht)
  subst et
  obtain ⟨fuel', u, v, hcs, _, _⟩ := Go.iface_of_trod hi hd
  have h1 := World.var?_cell hg hvar 0
  refine ⟨.iface u v, ?_, .inr ⟨u, v, rfl⟩⟩
  rw [h1]
  have : cs.toList[0]? = some (.iface u v) := by rw [hcs]; rfl
  simpa using this
theorem es_glob : Tryz.prog.globalNamed "strconv.ErrSyntax" = some 3 := by kernel_rfl
theorem er_glob : Tryz.prog.globalNamed "strconv.ErrRange" = some 4 := by kernel_rfl
theorem es_type : (Tryz.prog.globals[3]?).map (·.type) = some 57 := by kernel_rfl
theorem er_type : (Tryz.prog.globals[4]?).map (·.type) = some 57 := by kernel_rfl
theorem ml_of8 {W : World} (h : W.ShapedOpen Tryz.prog) : ∃ m, W.cell? ⟨1, 0, none⟩ = some (.int .i64 m) :=
  Go.Proofs.cell_of_shapedOpen_int (zero := #[.int .i64 0]) (t := 3) h (of_decide_eq_true (by kernel_rfl)) (by kernel_rfl) rfl (by kernel_rfl) (by kernel_rfl) Tryz.underlying3
theorem pow_lt {W : World} (h : Tab W) : 2 < W.heap.size := by
  unfold Tab Lib.TabIs World.var? at h
  rw [pow_glob] at h
  simp only [Option.bind_some] at h
  cases hh : W.heap[2]? with
  | none => rw [hh] at h; cases h
  | some o => exact (Array.getElem?_eq_some_iff.1 hh).1
theorem kw_of8 {W : World} (h0 : laidMetH Tryz.prog laid8 W) : KwT W := by
  rw [MakeChecks.laidMetH_plain _ _ _ (by kernel_rfl)] at h0
  obtain ⟨ps, ⟨g', t', cs, fuel, p, q, hg', ht', hvar, hd, _, _⟩, _⟩ := h0.tail.tail.tail.tail.tail.tail
  have et : t' = 84 := by
    have h1 := kw_type
    rw [hg'] at h1
    exact Option.some.inj (ht'.symm.trans h1)
  subst et
  have eg : g' = 0 := Option.some.inj (hg'.symm.trans kw_glob)
  subst eg
  obtain ⟨xs, m, _, hx, hlen, hxl, hf⟩ := DataW.trod_array Tryz.underlying84 hd
  rw [kw_lits] at hx
  have hx1 := congrArg Prod.fst hx
  have hx2 : (List.range 12).map (fun (i : Nat) => (DataW.lit (.string (kw i).data.toList) : DataW Unit)) = xs.map (·.1) := by
    injection hx1
  intro i hi
  have hfi := hf i hi
  rw [Tryz.kstr, Nat.mul_one] at hfi
  have hix : i < xs.length := by omega
  rw [List.getElem?_eq_getElem hix] at hfi
  obtain ⟨s, hc, hy, _⟩ := DataW.trod_string Tryz.underlying9 hfi
  have h1 : cs.toList[i]? = some (.string s) := by
    have := congrArg (·[0]?) hc
    simpa [List.getElem?_take, List.getElem?_drop] using this
  have h2 : (DataW.lit (.string (kw i).data.toList) : DataW Unit) = .lit (.string s.data.toList) := by
    have h3 := congrArg (·[i]?) hx2
    simp only [List.getElem?_map, List.getElem?_range hi, List.getElem?_eq_getElem hix, Option.map_some, Option.some.injEq] at h3
    rw [h3, hy]
  have h4 : (kw i).data.toList = s.data.toList := by injection h2 with h5; injection h5
  have h5 : s = kw i := bl_inj h4.symm
  rw [World.var?_cell kw_glob hvar i]
  rw [h5] at h1
  simpa using h1
theorem sized_any {W : World} {ev : Value} (ht : Tab W) (hc : W.cell? ⟨4, 0, none⟩ = some ev) : NG ≤ W.heap.size := by
  first
    | exact Nat.le_trans (by decide) (pow_lt ht)
    | exact Nat.le_trans (by decide) (g_cell_lt hc)
theorem gl_of8 {W : World} (h : laidMetH Tryz.prog laid8 W) (hs : W.ShapedOpen Tryz.prog) : Gl W := by
  rw [MakeChecks.laidMetH_plain _ _ _ (by kernel_rfl)] at h
  have ht := tab_of8 h.tail.tail
  have her := iface_of8 er_glob er_type Tryz.underlying57 h.tail.tail.tail.tail
  obtain ⟨ev, hc, _⟩ := id her
  exact ⟨sized_any ht hc, ht, iface_of8 es_glob es_type Tryz.underlying57 h.tail.tail.tail.tail.tail, her, ml_of8 hs⟩

variable {H : Type} {enc : TypeId × Value → H} {W : World} {base : Nat} {sp : Nat → Bool} {bb : Bool}
/-- bytes that came in -/
theorem inBytes14_of {v : Value} {r : Reach} {b0 : Nat} {d : DataW H} {p : List MemPlace} (hsp : ∀ b, sp b = true) (hv : Value.okWide Tryz.prog W r b0 29 v)
    (hf : DataW.Trod enc Tryz.prog W base sp bb 29 v d p) : ∃ (ao : Option Addr) (l : List UInt8) (cap : Nat), v = .slice ao l.length cap ∧ GRd EY W ao l cap := by
  obtain ⟨a, len, cap, rfl⟩ := okWide_slice Tryz.underlying29 hv
  obtain ⟨fuel, hf⟩ := hf
  obtain ⟨ao, l, c, e, hg, _⟩ := g_open okY Tryz.k8 (fun _ => True) hsp (fun _ cs _ hx => by
    obtain ⟨n, e, _, g⟩ := DataW.trod_int Tryz.underlying5 hx
    have hb := bounds_u8 g
    refine ⟨UInt8.ofNat n.toNat, ?_, trivial⟩
    rw [e]
    have : ((UInt8.ofNat n.toNat).toNat : Int) = n := by
      have h2 : n.toNat < 256 := by omega
      rw [UInt8.toNat_ofNat_of_lt' h2]
      omega
    show [Value.int .u8 n] = [.int .u8 ((UInt8.ofNat n.toNat).toNat : Int)]
    rw [this]) (show DataW.trod enc Tryz.prog W base sp bb fuel 29 [.slice a len cap] = _ from hf)
  exact ⟨ao, l, c, e, hg⟩
end Go.Proofs.YtldnkminhppngaaGreatDoor
