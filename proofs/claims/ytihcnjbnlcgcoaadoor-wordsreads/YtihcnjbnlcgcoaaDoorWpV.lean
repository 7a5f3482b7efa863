/-
  What the rows' condition on variables, and the world's shape, give: powers of ten and the words of results are as their texts lay them; the library's variable that reading asks.
-/
import Derived.Test.YtihcnjbnlcgcoaaDoorWoR
import Derived.Test.YtihcnjbnlcgcoaaDoorG01
import Derived.Test.YtihcnjbnlcgcoaaDoorWpI
import Derived.Test.YtihcnjbnlcgcoaaDoorTie
import Derived.Test.YtihcnjbnlcgcoaaDoorCards
import Derived.Test.YtihcnjbnlcgcoaaDoorGh
import Derived.LaidMore
import Derived.Lib.LaidTab
import Derived.Stop.LaidErr
import Derived.Stop.Joined
import Derived.LaidLaws
import Derived.Lay
namespace Go.Proofs.YtihcnjbnlcgcoaaDoor
open Go.Proofs.YtihcnjbnlcgcoaaDoor.It
open Go.ChangeShapes Go.WideShapes Go.ChangeAt Go.RowKit
open Go.ChangeMaps (open_string shut_string)
set_option linter.unusedSimpArgs false
set_option linter.unusedVariables false
set_option maxRecDepth 100000

theorem tab_data : (Rows.laid_internal_strconv_uint64pow10 : DataW Unit) = Lib.tabData .u64 Lib.pow10Tab := by
  unfold Rows.laid_internal_strconv_uint64pow10 Lib.tabData Lib.pow10Tab
  simp [List.range, List.range.loop]
theorem tab_type : (Tryd.prog.globalNamed "internal/strconv.uint64pow10").bind (fun g => (Tryd.prog.globals[g]?).map (·.type)) = some 129 := by kernel_rfl
theorem Tryd.k20 : Tryd.prog.cellsOf 129 = 20 := by kernel_rfl
theorem tab_of6 {W : World} {r : List (String × DataW Unit)} (h : laidMet Tryd.prog (("internal/strconv.uint64pow10", Rows.laid_internal_strconv_uint64pow10) :: r) W) : Tab W := by
  obtain ⟨ps, ⟨g', t', cs, fuel, p, q, hg', ht', hvar, hd, _, _⟩, _⟩ := h
  have et : t' = 129 := by
    have h1 := tab_type
    rw [hg'] at h1
    exact Option.some.inj (ht'.symm.trans h1)
  subst et
  rw [tab_data] at hd
  unfold Tab Lib.TabIs
  rw [hvar, ← Lib.cells_of_tab Tryd.underlying129 Tryd.underlying23 Tryd.ku64 Tryd.k20 hd]
theorem rt_glob : Tryd.prog.globalNamed "cloakroom/words.resultWords" = some 1 := by kernel_rfl
theorem rt_type : (Tryd.prog.globalNamed "cloakroom/words.resultWords").bind (fun g => (Tryd.prog.globals[g]?).map (·.type)) = some 106 := by kernel_rfl
theorem Tryd.k12 : Tryd.prog.cellsOf 106 = 8 := by kernel_rfl
theorem rt_lits : (Rows.laid_cloakroom_words_resultWords : DataW Unit) = .agg ((List.range 8).map fun (i : Nat) => .lit (.string (resW i).data.toList)) := by
  unfold Rows.laid_cloakroom_words_resultWords
  simp [List.range, List.range.loop, resW, sNOTFOUND, sEXISTS, sTOOLARGE, sNOMEMORY, sNOTNUMBER, sDENIED]
theorem rt_of6 {W : World} {r : List (String × DataW Unit)} (h : laidMet Tryd.prog (("cloakroom/words.resultWords", Rows.laid_cloakroom_words_resultWords) :: r) W) : Rt W := by
  obtain ⟨ps, ⟨g', t', cs, fuel, p, q, hg', ht', hvar, hd, _, _⟩, _⟩ := h
  have et : t' = 106 := by
    have h1 := rt_type
    rw [hg'] at h1
    exact Option.some.inj (ht'.symm.trans h1)
  subst et
  have eg : g' = 1 := Option.some.inj (hg'.symm.trans rt_glob)
  subst eg
  obtain ⟨xs, m, _, hx, hlen, hxl, hf⟩ := DataW.trod_array Tryd.underlying106 hd
  rw [rt_lits] at hx
  have hx1 := congrArg Prod.fst hx
  have hx2 : (List.range 8).map (fun (i : Nat) => (DataW.lit (.string (resW i).data.toList) : DataW Unit)) = xs.map (·.1) := by
    injection hx1
  refine ⟨fun i hi => ?_⟩
  have hfi := hf i hi
  rw [Tryd.kstr, Nat.mul_one] at hfi
  have hix : i < xs.length := by omega
  rw [List.getElem?_eq_getElem hix] at hfi
  obtain ⟨s, hc, hy, _⟩ := DataW.trod_string Tryd.underlying9 hfi
  have h1 : cs.toList[i]? = some (.string s) := by
    have := congrArg (·[0]?) hc
    simpa [List.getElem?_take, List.getElem?_drop] using this
  have h2 : (DataW.lit (.string (resW i).data.toList) : DataW Unit) = .lit (.string s.data.toList) := by
    have h3 := congrArg (·[i]?) hx2
    simp only [List.getElem?_map, List.getElem?_range hi, List.getElem?_eq_getElem hix, Option.map_some, Option.some.injEq] at h3
    rw [h3, hy]
  have h4 : (resW i).data.toList = s.data.toList := by injection h2 with h5; injection h5
  have h5 : s = resW i := bl_inj h4.symm
  rw [World.var?_cell rt_glob hvar i]
  rw [h5] at h1
  simpa using h1
theorem gw_of {W : World} (h : W.ShapedOpen Tryd.prog) : Gw W :=
  ⟨Go.Proofs.cell_of_shapedOpen_int (zero := #[.int .i64 0]) (t := 3) h (of_decide_eq_true (by kernel_rfl)) (by kernel_rfl) rfl (by kernel_rfl) (by kernel_rfl) Tryd.underlying3⟩
/-- the variables that words ask -/
structure Vw (W : World) : Prop where
  tab : Tab W
  rt : Rt W
  gw : Gw W
theorem Vw.below {W W' : World} (h : Vw W) (hb : Below W.heap.size W W') : Vw W' := ⟨h.tab.below hb, h.rt.below hb, h.gw.below hb⟩
def laid6 : List (String × DataW Unit) := [("math/bits.deBruijn32tab", Rows.laid_math_bits_deBruijn32tab), ("math/bits.deBruijn64tab", Rows.laid_math_bits_deBruijn64tab), ("internal/strconv.uint64pow10", Rows.laid_internal_strconv_uint64pow10), ("unicode/utf8.acceptRanges", Rows.laid_unicode_utf8_acceptRanges), ("cloakroom/words.resultWords", Rows.laid_cloakroom_words_resultWords), ("unicode/utf8.first", Rows.laid_unicode_utf8_first)]
theorem vw_of6 {W : World} (h : laidMetH Tryd.prog laid6 W) (hs : W.ShapedOpen Tryd.prog) : Vw W := by
  rw [MakeChecks.laidMetH_plain _ _ _ (by kernel_rfl)] at h
  exact ⟨tab_of6 h.tail.tail, rt_of6 h.tail.tail.tail.tail, gw_of hs⟩
def laid4 : List (String × DataW Unit) := [("math/bits.deBruijn32tab", Rows.laid_math_bits_deBruijn32tab), ("math/bits.deBruijn64tab", Rows.laid_math_bits_deBruijn64tab), ("internal/strconv.uint64pow10", Rows.laid_internal_strconv_uint64pow10), ("cloakroom/words.resultWords", Rows.laid_cloakroom_words_resultWords)]
theorem tab_of4 {W : World} (h : laidMetH Tryd.prog laid4 W) : Tab W := by
  rw [MakeChecks.laidMetH_plain _ _ _ (by kernel_rfl)] at h
  exact tab_of6 h.tail.tail
theorem rt_of4 {W : World} (h : laidMetH Tryd.prog laid4 W) : Rt W := by
  rw [MakeChecks.laidMetH_plain _ _ _ (by kernel_rfl)] at h
  exact rt_of6 h.tail.tail.tail
def laid3 : List (String × DataW Unit) := [("unicode/utf8.acceptRanges", Rows.laid_unicode_utf8_acceptRanges), ("cloakroom/words.resultWords", Rows.laid_cloakroom_words_resultWords), ("unicode/utf8.first", Rows.laid_unicode_utf8_first)]
theorem rt_of3 {W : World} (h : laidMetH Tryd.prog laid3 W) : Rt W := by
  rw [MakeChecks.laidMetH_plain _ _ _ (by kernel_rfl)] at h
  exact rt_of6 h.tail
end Go.Proofs.YtihcnjbnlcgcoaaDoor
