/-
  doneOf of package words.
-/
import Derived.Test.YtihcnjbnlcgcoaaDoorWoK
namespace Go.Proofs.YtihcnjbnlcgcoaaDoor
open Go.Proofs.YtihcnjbnlcgcoaaDoor.It
open Go.RowKit
set_option linter.unusedSimpArgs false
set_option linter.unusedVariables false
set_option maxRecDepth 100000

theorem res_cell {fn : Func} {s t : Tmp} {ty : TypeId} {tmps : Array Value} {w : World} {b : Nat} {v : Value} (h : fn.results = #[.cell s ty, .tmp t]) (hs : tmps.getD s undef = .pointer (some ⟨b, 0, none⟩)) (hl : (loadVar ty ⟨b, 0, none⟩).run Tryd.prog w = .ok v w) :
    (results fn tmps).run Tryd.prog w = .ok (.tuple #[v, tmps.getD t undef]) w := by
  have hs2 : tmps[s]?.getD undef = .pointer (some ⟨b, 0, none⟩) := by simpa using hs
  simp [results, h, hs2, hl, asAddr]
theorem result_info : (Tryd.prog.info? 25).map (·.size) = some 3 := by kernel_rfl
theorem zset3 {w : World} {b : Nat} {vs : List Value} (h : GBx w b vs) (hl : vs.length = 3) (a0 a1 a2 : Value) : GBx (((w.setCell ⟨b, 0, none⟩ a0).setCell ⟨b, 1, none⟩ a1).setCell ⟨b, 2, none⟩ a2) b [a0, a1, a2] := by
  match vs, hl with
  | [_, _, _], _ => exact ((h.set 0 a0 (by simp)).set 1 a1 (by simp)).set 2 a2 (by simp)
theorem zbelow3 {n b : Nat} {w W : World} (h : Below n w W) (hb : n ≤ b) (a0 a1 a2 : Value) : Below n w (((W.setCell ⟨b, 0, none⟩ a0).setCell ⟨b, 1, none⟩ a1).setCell ⟨b, 2, none⟩ a2) :=
  ((h.setCell (p := ⟨b, 0, none⟩) hb a0).setCell (p := ⟨b, 1, none⟩) hb a1).setCell (p := ⟨b, 2, none⟩) hb a2
theorem wdoneWord_any (k : Int) (w : World) : Calls Tryd.prog 73 #[.int .u8 k] w fun e w' => e = .returned (.string (doneW k)) ∧ w' = w := by
  unfold doneW
  by_cases h2 : k = 2
  · subst h2
    go_enter Tryd.func73, Tryd.ntmps73
    go_wp2
    go_ret
    exact ⟨by first | rfl | simp, rfl⟩
  by_cases h3 : k = 3
  · subst h3
    go_enter Tryd.func73, Tryd.ntmps73
    go_wp2
    go_ret
    exact ⟨by first | rfl | simp, rfl⟩
  by_cases h4 : k = 4
  · subst h4
    go_enter Tryd.func73, Tryd.ntmps73
    go_wp2
    go_ret
    exact ⟨by first | rfl | simp, rfl⟩
  by_cases h5 : k = 5
  · subst h5
    go_enter Tryd.func73, Tryd.ntmps73
    go_wp2
    go_ret
    exact ⟨by first | rfl | simp, rfl⟩
  by_cases h8 : k = 8
  · subst h8
    go_enter Tryd.func73, Tryd.ntmps73
    go_wp2
    go_ret
    exact ⟨by first | rfl | simp, rfl⟩
  by_cases h6 : k = 6
  · subst h6
    go_enter Tryd.func73, Tryd.ntmps73
    go_wp2
    go_ret
    exact ⟨by first | rfl | simp, rfl⟩
  by_cases h7 : k = 7
  · subst h7
    go_enter Tryd.func73, Tryd.ntmps73
    go_wp2
    go_ret
    exact ⟨by first | rfl | simp, rfl⟩
  by_cases h9 : k = 9
  · subst h9
    go_enter Tryd.func73, Tryd.ntmps73
    go_wp2
    go_ret
    exact ⟨by first | rfl | simp, rfl⟩
  by_cases h11 : k = 11
  · subst h11
    go_enter Tryd.func73, Tryd.ntmps73
    go_wp2
    go_ret
    exact ⟨by first | rfl | simp, rfl⟩
  by_cases h10 : k = 10
  · subst h10
    go_enter Tryd.func73, Tryd.ntmps73
    go_wp2
    go_ret
    exact ⟨by first | rfl | simp, rfl⟩
  rw [if_neg (by omega), if_neg (by omega), if_neg (by omega), if_neg (by omega), if_neg (by omega)]
  go_enter Tryd.func73, Tryd.ntmps73
  go_wp2
  go_ret
  exact ⟨rfl, rfl⟩
theorem pre_iff (p l : List UInt8) : p.isPrefixOf l = decide (l.take p.length = p) := by
  induction p generalizing l with
  | nil => simp
  | cons a p ih =>
    cases l with
    | nil => simp
    | cons b l =>
      rw [List.isPrefixOf_cons_cons, ih l]
      by_cases h : a = b
      · subst h; simp
      · have : ¬ b = a := fun e => h e.symm
        simp [h, this]
theorem wcutPre_any (s p : ByteArray) (w : World) : Calls Tryd.prog 64 #[.string s, .string p] w fun e w' => (if (bl s).take (bl p).length = bl p then e = .returned (.tuple #[.string (mkB ((bl s).drop (bl p).length)), .bool true]) else e = .returned (.tuple #[.string s, .bool false])) ∧ w' = w := by
  have c := Any.strings_CutPrefix Tryd.layCutPrefix s p w
  refine c.mono ?_
  rintro e w' ⟨rfl, rfl⟩
  refine ⟨?_, rfl⟩
  have h := pre_iff (bl p) (bl s)
  by_cases hp : (bl s).take (bl p).length = bl p
  · rw [if_pos hp]
    rw [decide_eq_true hp] at h
    have h2 : Lib.hasPrefix s.data.toList p.data.toList = true := h
    have h3 : Lib.trimPrefix s.data.toList p.data.toList = (bl s).drop (bl p).length := by unfold Lib.trimPrefix; rw [h2]; rfl
    rw [h2, h3]
    rfl
  · rw [if_neg hp]
    rw [decide_eq_false hp] at h
    have h2 : Lib.hasPrefix s.data.toList p.data.toList = false := h
    have h3 : Lib.trimPrefix s.data.toList p.data.toList = bl s := by unfold Lib.trimPrefix; rw [h2]; rfl
    rw [h2, h3]
    have : (⟨(bl s).toArray⟩ : ByteArray) = s := mk_bl s
    rw [this]
end Go.Proofs.YtihcnjbnlcgcoaaDoor
