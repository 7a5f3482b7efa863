/-
  The library's functions over rows of keys: Clone, Delete, Insert at the front, Reverse, Sort with Compact, Concat, ContainsFunc.
-/
import Derived.Test.YtmdlampmoeiihaaLrLay
namespace Go.Proofs.Ytmdlampmoeiihaa
open Go.RowKit Go.Shelf Go.Lib Go.Sort
set_option linter.unusedSimpArgs false
set_option linter.unusedVariables false
set_option maxRecDepth 100000

instance : Inhabited ByteArray := ⟨⟨#[]⟩⟩
/-- a row that the library has turned in its place -/
theorem turned_row {α : Type} [Inhabited α] (enc : α → Value) {w : World} {g n : Nat} {os : Array Obj} {cur : Array Value} (d : Array α) (hg : w.heap[g]? = some (.cells cur 9 (0, 0))) (hd : d.size ≤ cur.size) :
    ∃ cur', (grow (putRow enc (Sort.ahead w n) g 0 d) os).heap[g]? = some (.cells cur' 9 (0, 0)) ∧ cur'.size = cur.size ∧ ∀ j, j < d.size → cur'[j]? = some (enc d[j]!) := by
  have hgl : g < w.heap.size := (Array.getElem?_eq_some_iff.1 hg).1
  refine ⟨putCells enc 0 d cur, ?_, by simp [putCells], fun j hj => ?_⟩
  · rw [heap_grow_old _ _ (by simp [putRow, mapBlock, Sort.ahead]; exact hgl)]
    simp [putRow, mapBlock, Sort.ahead, Array.getElem?_modify, hg, onCells]
  · simp [putCells, hj, show j < cur.size by omega]
theorem turned_grown {α : Type} [Inhabited α] (enc : α → Value) {w : World} {g n : Nat} {os : Array Obj} (d : Array α) : w.grownBy (grow (putRow enc (Sort.ahead w n) g 0 d) os) (some g) := by
  refine ⟨rfl, rfl, rfl, by simp [grow, putRow, mapBlock, Sort.ahead], fun k hk hne => ?_⟩
  rw [heap_grow_old _ _ (by simp [putRow, mapBlock, Sort.ahead]; exact hk)]
  have : g ≠ k := fun e => hne (by rw [e])
  simp [putRow, mapBlock, Sort.ahead, Array.getElem?_modify, this]
theorem grow_none (w : World) : grow w #[] = w := by simp [grow]
theorem own_holds {w : World} {g cap : Nat} {cur : Array Value} {ks : List ByteArray} (hg : w.heap[g]? = some (.cells cur 9 (0, 0))) (hc : ∀ j (hj : j < ks.length), w.cell? ⟨g, j, none⟩ = some (.string ks[j])) : Holds Value.string w g 0 ks.toArray := by
  intro j hj
  have hj2 : j < ks.length := by simpa using hj
  refine ⟨?_, frozen_of_heap hg _⟩
  rw [Nat.zero_add, hc j hj2]
  simp [hj2]

theorem clone_any (w : World) (ao : Option Addr) (ks : List ByteArray) (cap : Nat) (h : Tl w ao ks cap) (hl : ks.length ≤ 1000) :
    Calls Try.prog 54 #[.slice ao ks.length cap] w fun e w' => ∃ v', e = .returned v' ∧ OwnTs w' w.heap.size v' ks ∧ Below w.heap.size w w' := by
  have hsl := h.hn
  have HT := Hid.mk2 h.at_
  cases ao with
  | none =>
    have hc := hsl rfl
    have h2 := h.hl
    have : ks = [] := List.eq_nil_of_length_eq_zero (by omega)
    subst this
    refine (AnyE.slices_Clone_nil Try.layClone ([] : List ByteArray).length cap w).mono ?_
    rintro e w' ⟨rfl, rfl⟩
    exact ⟨_, rfl, OwnTs.nil _ _, Below.refl _ _⟩
  | some a =>
    have hq : ∀ (w : World), (binOp .eql 22 (.slice (some a) ks.length cap) (.slice none 0 0)).run Try.prog w = .ok (.bool false) w := fun w => Lib.run_eql_slice_nil w _ _ (some a) _ _ 0 0 Try.underlying22
    have hm : maxLen = 9223372036854775807 := rfl
    have HO : Hid (OwnTs (w.alloc (.cells #[] 9)) w.heap.size (.slice (some ⟨w.heap.size, 0, none⟩) 0 0) []) := World.ownsRow_made w #[] 0 (Nat.le_refl _) (Nat.zero_le _) (by simp)
    clear h hsl
    go_enter Try.func54, Try.ntmps54
    go_wp2_with (at_builtin; refine app_row rfl _ _ rfl w.heap.size _ [] HO.out rfl (some a) cap ks ks.length rfl rfl (w.heap.size + 1) (by intro e; cases e) (HT.out.below ((Below.refl _ _).alloc (Nat.le_refl _) _) (by omega)) (by simp; omega) (by simp) ?_; intro v' w1 hO hG)
    go_ret
    refine ⟨v', rfl, hO, ?_⟩
    exact ((Below.refl _ w).alloc (Nat.le_refl _) _).grown hG.grown (by simp) (by intro k hk; simp [Value.ownBlock] at hk; omega)

theorem Try.zeroStr : ∀ w, (zeroValue 9).run Try.prog w = .ok (Value.string default) w := fun w => by kernel_rfl
theorem delete_any (w : World) (base : Nat) (v : Value) (ks : List ByteArray) (h : OwnTs w base v ks) (i : Nat) (hi : i < ks.length) (i2 : Int) (hi2 : i2 = (i : Int) + 1) :
    Calls Try.prog 51 #[v, .int .i64 i, .int .i64 i2] w fun e w' => ∃ v', e = .returned v' ∧ OwnTs w' base v' (ks.eraseIdx i) ∧ w.grownBy w' v.ownBlock ∧ v'.ownBlock = v.ownBlock := by
  subst hi2
  rcases h.parts with ⟨rfl, rfl⟩ | ⟨g, cap, cur, rfl, hb, hg, hs, hn, hm, hc⟩
  · simp at hi
  · obtain ⟨i0, hi0, hz0, hz1, hz2⟩ := info_parts Try.infoStr
    have hcon := AnyE.slices_Delete Try.layDelete Value.string (fun _ => rfl) default Try.zeroStr i0 hi0 hz1 g 0 cap i (i + 1) ks.toArray w (own_holds (cap := cap) hg hc) (by simpa using hn) hm (by omega) (by simp; omega)
    have e1 : ((i + 1 : Nat) : Int) = (i : Int) + 1 := by omega
    have e2 : ks.toArray.size = ks.length := by simp
    rw [e1, e2] at hcon
    refine hcon.mono ?_
    rintro e w' ⟨rfl, q, rfl⟩
    have hL : ks.length - (i + 1 - i) = (ks.eraseIdx i).length := by rw [List.length_eraseIdx_of_lt hi]; omega
    obtain ⟨d, hd⟩ : ∃ d, d = (ks.toArray.toList.take i ++ ks.toArray.toList.drop (i + 1) ++ List.replicate (i + 1 - i) (default : ByteArray)).toArray := ⟨_, rfl⟩
    have hds : d.size = ks.length := by rw [hd]; simp; omega
    rw [← hd, hL]
    obtain ⟨cur', hg', hs', hc'⟩ := turned_row (n := q) (os := #[]) Value.string d hg (by omega)
    rw [grow_none] at hg'
    refine ⟨_, rfl, OwnTs.mk' hb hg' (by omega) (by rw [← hL]; omega) hm (fun j hj => ?_), ?_, rfl⟩
    · rw [cell_of_heap hg', hc' j (by rw [← hL] at hj; omega)]
      congr 2
      have hj2 : j < d.size := by rw [← hL] at hj; omega
      rw [getElem!_pos d j hj2]
      subst hd
      simp only [List.getElem_toArray]
      rw [List.getElem_append_left (by rw [← hL] at hj; simp; omega)]
      congr 1
      exact (List.eraseIdx_eq_take_drop_succ ks i).symm
    · have := turned_grown (w := w) (g := g) (n := q) (os := #[]) Value.string d
      rw [grow_none] at this
      exact this
theorem reverse_any (w : World) (base : Nat) (v : Value) (ks : List ByteArray) (h : OwnTs w base v ks) :
    Calls Try.prog 31 #[v] w fun e w' => e = .returned (.tuple #[]) ∧ OwnTs w' base v ks.reverse ∧ w.grownBy w' v.ownBlock := by
  rcases h.parts with ⟨rfl, rfl⟩ | ⟨g, cap, cur, rfl, hb, hg, hs, hn, hm, hc⟩
  · refine (AnyE.slices_Reverse_empty Try.layReverse none 0 w).mono ?_
    rintro e w' ⟨rfl, rfl⟩
    exact ⟨rfl, OwnTs.nil _ _, World.grownBy.refl _ _⟩
  · refine (AnyE.slices_Reverse Try.layReverse Value.string (fun _ => rfl) g 0 cap ks w (own_holds (cap := cap) hg hc) (by omega)).mono ?_
    rintro e w' ⟨rfl, n, rfl⟩
    obtain ⟨cur', hg', hs', hc'⟩ := turned_row (n := n) (os := #[]) Value.string ks.reverse.toArray hg (by simp; omega)
    have hgr := turned_grown (w := w) (g := g) (n := n) (os := #[]) Value.string ks.reverse.toArray
    rw [grow_none] at hg' hgr
    refine ⟨rfl, ?_, hgr⟩
    have := OwnTs.mk' (ks := ks.reverse) (cap := cap) hb hg' (by omega) (by simpa using hn) hm (fun j hj => by
      rw [cell_of_heap hg', hc' j (by simpa using hj)]
      congr 2
      rw [getElem!_pos _ j (by simpa using hj)]
      simp)
    simpa using this
/-- sorted -/
def srt (ks : List ByteArray) : List (List UInt8) := (bs ks).mergeSort fun x y => decide (x ≤ y)
theorem srt_len (ks : List ByteArray) : (srt ks).length = ks.length := by unfold srt bs; simp
theorem encStr_bytes (k : ByteArray) : encStr k.data.toList = Value.string k := by cases k; simp [encStr]
theorem eqlStr : EqlAt Try.prog 9 encStr (fun x y => decide (x = y)) := ⟨fun x y w => by
  have h := (EqlAt.string Try.prog 9).1 ⟨x.toArray⟩ ⟨y.toArray⟩ w
  refine h.trans ?_
  congr 2
  rw [Bool.eq_iff_iff]
  simp [ByteArray.toList_mk], fun op a b x y w => (GuardAt.string Try.prog 9) op a b ⟨x.toArray⟩ ⟨y.toArray⟩ w⟩
theorem neqStr : NeqAt Try.prog 9 encStr (fun x y => decide (x = y)) := ⟨fun x y w => by
  have h := (NeqAt.string Try.prog 9).1 ⟨x.toArray⟩ ⟨y.toArray⟩ w
  refine h.trans ?_
  congr 2
  rw [Bool.eq_iff_iff]
  simp [ByteArray.toList_mk], fun op a b x y w => (GuardAt.string Try.prog 9) op a b ⟨x.toArray⟩ ⟨y.toArray⟩ w⟩
end Go.Proofs.Ytmdlampmoeiihaa
