/-
  From the rows' readings to the walks' words: what the rows' condition on variables, and the world's shape, give: the library's variables that reading asks; bytes that came in.
-/
import Derived.Test.YtldnkminhppngaaDoorG04
import Derived.Test.YtldnkminhppngaaDoorTxJ
import Derived.Test.YtldnkminhppngaaDoorGh
import Derived.LaidLaws
import Derived.Lay
namespace Go.Proofs.YtldnkminhppngaaDoor
open Go.Proofs.YtldnkminhppngaaDoor.It
open Go.ChangeShapes Go.WideShapes Go.ChangeAt Go.RowKit
open Go.ChangeMaps (open_string shut_string)
set_option linter.unusedSimpArgs false
set_option linter.unusedVariables false
set_option maxRecDepth 100000

def laid8 : List (String × DataW Unit) := [("math/bits.deBruijn32tab", Rows.laid_math_bits_deBruijn32tab), ("math/bits.deBruijn64tab", Rows.laid_math_bits_deBruijn64tab), ("internal/strconv.uint64pow10", Rows.laid_internal_strconv_uint64pow10), ("unicode/utf8.acceptRanges", Rows.laid_unicode_utf8_acceptRanges), ("strconv.ErrRange", Rows.laid_strconv_ErrRange), ("strconv.ErrSyntax", Rows.laid_strconv_ErrSyntax), ("unicode/utf8.first", Rows.laid_unicode_utf8_first)]
theorem tab_of8 {W : World} {r : List (String × DataW Unit)} (h : laidMet Tryd.prog (("internal/strconv.uint64pow10", Rows.laid_internal_strconv_uint64pow10) :: r) W) : Tab W := by
  obtain ⟨ps, ⟨g', t', cs, fuel, p, q, hg', ht', hvar, hd, _, _⟩, _⟩ := h
  have et : t' = 151 := by
    have h1 := tab_type
    rw [hg'] at h1
    exact Option.some.inj (ht'.symm.trans h1)
  subst et
  rw [tab_data] at hd
  unfold Tab Lib.TabIs
  rw [hvar, ← Lib.cells_of_tab Tryd.underlying151 Tryd.underlying24 Tryd.ku64 Tryd.k20 hd]
theorem iface_of8 {W : World} {n nm : String} {g t : Nat} {ms : Array (String × TypeId)} {d : DataW Unit} {r : List (String × DataW Unit)} (hg : Tryd.prog.globalNamed n = some g) (ht : (Tryd.prog.globals[g]?).map (·.type) = some t) (hi : Tryd.prog.underlying t = some (.interface ms))
    (h : laidMet Tryd.prog ((n, .iface nm d) :: r) W) : ∃ ev, W.cell? ⟨g, 0, none⟩ = some ev ∧ (ev = .nilIface ∨ ∃ te pe, ev = .iface te pe) := by
  obtain ⟨ps, ⟨g', t', cs, fuel, p, q, hg', ht', hvar, hd, _, _⟩, _⟩ := h
  have eg : g' = g := Option.some.inj (hg'.symm.trans hg)
  subst eg
  have et : t' = t := Option.some.inj (ht'.symm.trans ht)
  subst et
  obtain ⟨fuel', u, v, hcs, _, _⟩ := Go.iface_of_trod hi hd
  have h1 := World.var?_cell hg hvar 0
  refine ⟨.iface u v, ?_, .inr ⟨u, v, rfl⟩⟩
  rw [h1]
  have : cs.toList[0]? = some (.iface u v) := by rw [hcs]; rfl
  simpa using this
theorem es_glob : Tryd.prog.globalNamed "strconv.ErrSyntax" = some 2 := by kernel_rfl
theorem er_glob : Tryd.prog.globalNamed "strconv.ErrRange" = some 3 := by kernel_rfl
theorem es_type : (Tryd.prog.globals[2]?).map (·.type) = some 90 := by kernel_rfl
theorem er_type : (Tryd.prog.globals[3]?).map (·.type) = some 90 := by kernel_rfl
theorem ml_of8 {W : World} (h : W.ShapedOpen Tryd.prog) : ∃ m, W.cell? ⟨0, 0, none⟩ = some (.int .i64 m) :=
  Go.Proofs.cell_of_shapedOpen_int (zero := #[.int .i64 0]) (t := 3) h (of_decide_eq_true (by kernel_rfl)) (by kernel_rfl) rfl (by kernel_rfl) (by kernel_rfl) Tryd.underlying3
theorem pow_lt {W : World} (h : Tab W) : 4 < W.heap.size := by
  unfold Tab Lib.TabIs World.var? at h
  rw [pow_glob] at h
  simp only [Option.bind_some] at h
  cases hh : W.heap[4]? with
  | none => rw [hh] at h; cases h
  | some o => exact (Array.getElem?_eq_some_iff.1 hh).1
theorem sized_any {W : World} {ev : Value} (ht : Tab W) (hc : W.cell? ⟨3, 0, none⟩ = some ev) : NG ≤ W.heap.size := by
  first
    | exact Nat.le_trans (by decide) (pow_lt ht)
    | exact Nat.le_trans (by decide) (g_cell_lt hc)
theorem gl_of8 {W : World} (h : laidMetH Tryd.prog laid8 W) (hs : W.ShapedOpen Tryd.prog) : Gl W := by
  rw [MakeChecks.laidMetH_plain _ _ _ (by kernel_rfl)] at h
  have ht := tab_of8 h.tail.tail
  have her := iface_of8 er_glob er_type Tryd.underlying90 h.tail.tail.tail.tail
  obtain ⟨ev, hc, _⟩ := id her
  exact ⟨sized_any ht hc, ht, iface_of8 es_glob es_type Tryd.underlying90 h.tail.tail.tail.tail.tail, her, ml_of8 hs⟩

variable {H : Type} {enc : TypeId × Value → H} {W : World} {base : Nat} {sp : Nat → Bool} {bb : Bool}
/-- bytes that came in -/
theorem inBytes14_of {v : Value} {r : Reach} {b0 : Nat} {d : DataW H} {p : List MemPlace} (hsp : ∀ b, sp b = true) (hv : Value.okWide Tryd.prog W r b0 34 v)
    (hf : DataW.Trod enc Tryd.prog W base sp bb 34 v d p) : ∃ (ao : Option Addr) (l : List UInt8) (cap : Nat), v = .slice ao l.length cap ∧ GRd EY W ao l cap := by
  obtain ⟨a, len, cap, rfl⟩ := okWide_slice Tryd.underlying34 hv
  obtain ⟨fuel, hf⟩ := hf
  obtain ⟨ao, l, c, e, hg, _⟩ := g_open okY Tryd.k8 (fun _ => True) hsp (fun _ cs _ hx => by
    obtain ⟨n, e, _, g⟩ := DataW.trod_int Tryd.underlying5 hx
    have hb := bounds_u8 g
    refine ⟨UInt8.ofNat n.toNat, ?_, trivial⟩
    rw [e]
    have : ((UInt8.ofNat n.toNat).toNat : Int) = n := by
      have h2 : n.toNat < 256 := by omega
      rw [UInt8.toNat_ofNat_of_lt' h2]
      omega
    show [Value.int .u8 n] = [.int .u8 ((UInt8.ofNat n.toNat).toNat : Int)]
    rw [this]) (show DataW.trod enc Tryd.prog W base sp bb fuel 34 [.slice a len cap] = _ from hf)
  exact ⟨ao, l, c, e, hg⟩
end Go.Proofs.YtldnkminhppngaaDoor
