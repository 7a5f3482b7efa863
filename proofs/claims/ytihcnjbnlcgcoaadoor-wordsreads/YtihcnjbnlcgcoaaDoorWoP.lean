/-
  Lines as data: words between blanks, a line's end, numbers as words.
-/
import Derived.Test.YtihcnjbnlcgcoaaDoorWoD
namespace Go.Proofs.YtihcnjbnlcgcoaaDoor
open Go.Proofs.YtihcnjbnlcgcoaaDoor.It
open Go.RowKit
set_option linter.unusedSimpArgs false
set_option linter.unusedVariables false
set_option maxRecDepth 100000

/-- words between single blanks -/
def wsp : List UInt8 → List (List UInt8)
  | [] => [[]]
  | c :: l => if c = 32 then [] :: wsp l else (c :: (wsp l).headD []) :: (wsp l).tail
theorem wsp_ne : ∀ l, wsp l ≠ []
  | [] => by simp [wsp]
  | c :: l => by unfold wsp; split <;> simp
theorem wsp_cons (l : List UInt8) : wsp l = (wsp l).headD [] :: (wsp l).tail := by
  cases h : wsp l with
  | nil => exact absurd h (wsp_ne l)
  | cons a r => rfl
theorem wsp_plain : ∀ a : List UInt8, (∀ c ∈ a, c ≠ 32) → wsp a = [a]
  | [], _ => rfl
  | c :: a, h => by
    unfold wsp
    rw [if_neg (h c (by simp)), wsp_plain a (fun x hx => h x (by simp [hx]))]
    rfl
theorem wsp_app : ∀ a l : List UInt8, (∀ c ∈ a, c ≠ 32) → wsp (a ++ 32 :: l) = a :: wsp l
  | [], l, _ => by simp [wsp]
  | c :: a, l, h => by
    have ih := wsp_app a l (fun x hx => h x (by simp [hx]))
    rw [List.cons_append, wsp, if_neg (h c (by simp)), ih]
    rfl
/-- what words come to -/
def unw (ws : List (List UInt8)) : List UInt8 := ws.headD [] ++ ws.tail.flatMap fun x => 32 :: x
theorem unw_wsp : ∀ l, unw (wsp l) = l
  | [] => rfl
  | c :: l => by
    have ih := unw_wsp l
    unfold wsp
    split
    · rename_i e
      unfold unw at *
      rw [List.headD_cons, List.tail_cons, wsp_cons l, List.flatMap_cons, List.nil_append, List.cons_append, ih, e]
    · unfold unw at *
      rw [List.headD_cons, List.tail_cons, List.cons_append, ih]
theorem wsp_unw : ∀ (L : List (List UInt8)) (a : List UInt8), (∀ x ∈ a :: L, ∀ c ∈ x, c ≠ 32) → wsp (unw (a :: L)) = a :: L
  | [], a, h => by unfold unw; simp; exact wsp_plain a (h a (by simp))
  | b :: L, a, h => by
    have ih := wsp_unw L b (fun x hx => h x (by simp at hx ⊢; right; exact hx))
    unfold unw at *
    rw [List.headD_cons, List.tail_cons, List.flatMap_cons, List.cons_append, wsp_app a _ (h a (by simp))]
    rw [List.headD_cons, List.tail_cons] at ih
    rw [ih]
def mkB (x : List UInt8) : ByteArray := ⟨x.toArray⟩
theorem bl_mkB (x : List UInt8) : bl (mkB x) = x := bl_mk x
theorem mkB_bl (s : ByteArray) : mkB (bl s) = s := bl_inj (bl_mkB _)
/-- a line's words -/
def lw (l : List UInt8) : List ByteArray := (wsp l).map mkB
theorem joinW_unw (L : List ByteArray) (h : L ≠ []) : joinW L = unw (L.map bl) := by
  cases L with
  | nil => exact absurd rfl h
  | cons a L => rw [joinW_cons]; unfold unw; rw [List.map_cons, List.headD_cons, List.tail_cons, List.flatMap_map]
theorem lw_ne (l : List UInt8) : lw l ≠ [] := by unfold lw; simp [wsp_ne]
theorem joinW_lw (l : List UInt8) : joinW (lw l) = l := by
  rw [joinW_unw _ (lw_ne l)]
  unfold lw
  rw [List.map_map, show (bl ∘ mkB) = id from funext bl_mkB, List.map_id, unw_wsp]
theorem lw_joinW (L : List ByteArray) (h : L ≠ []) (hb : ∀ x ∈ L, ∀ c ∈ bl x, c ≠ 32) : lw (joinW L) = L := by
  cases L with
  | nil => exact absurd rfl h
  | cons a L =>
    rw [joinW_unw _ h, List.map_cons]
    unfold lw
    rw [wsp_unw (L.map bl) (bl a) (by
      intro x hx
      rw [← List.map_cons, List.mem_map] at hx
      obtain ⟨y, hy, rfl⟩ := hx
      exact hb y hy)]
    rw [← List.map_cons, List.map_map, show (mkB ∘ bl) = id from funext mkB_bl, List.map_id]

/-- where a line ends -/
def eol : List UInt8 → Option Nat
  | [] => none
  | [_] => none
  | a :: b :: l => if a = 13 ∧ b = 10 then some 0 else (eol (b :: l)).map (· + 1)
theorem eol_app : ∀ (a l : List UInt8), (∀ c ∈ a, c ≠ 13) → eol (a ++ 13 :: 10 :: l) = some a.length
  | [], l, _ => by simp [eol]
  | [c], l, h => by
    show eol (c :: 13 :: 10 :: l) = _
    unfold eol
    rw [if_neg (by intro e; exact h c (by simp) e.1)]
    simp [eol]
  | c :: d :: a, l, h => by
    have ih := eol_app (d :: a) l (fun x hx => h x (by simp at hx ⊢; right; exact hx))
    show eol (c :: d :: (a ++ 13 :: 10 :: l)) = _
    unfold eol
    rw [if_neg (by intro e; exact h c (by simp) e.1)]
    rw [List.cons_append] at ih
    rw [ih]
    rfl
theorem eol_some : ∀ (l : List UInt8) (e : Nat), eol l = some e → e + 2 ≤ l.length ∧ l = l.take e ++ 13 :: 10 :: l.drop (e + 2)
  | [], e, h => by simp [eol] at h
  | [_], e, h => by simp [eol] at h
  | a :: b :: l, e, h => by
    unfold eol at h
    split at h
    · rename_i hc
      obtain ⟨rfl, rfl⟩ := hc
      have : 0 = e := Option.some.inj h
      subst this
      simp
    · obtain ⟨e', he, rfl⟩ := Option.map_eq_some_iff.1 h
      obtain ⟨h1, h2⟩ := eol_some (b :: l) e' he
      refine ⟨by simp at h1 ⊢; omega, ?_⟩
      rw [List.take_succ_cons, List.cons_append, show e' + 1 + 2 = (e' + 2) + 1 by omega, List.drop_succ_cons]
      exact congrArg (a :: ·) h2

/-- a number's word, up to m -/
def numW (s : ByteArray) (m : Nat) : Option Nat := if isNum (bl s) = true ∧ valL (bl s) ≤ m then some (valL (bl s)) else none
theorem numW_some {s : ByteArray} {m n : Nat} (h : numW s m = some n) : s = dec (n : Int) ∧ n ≤ m ∧ n < 18446744073709551616 := by
  unfold numW at h
  split at h
  · rename_i hc
    have e := Option.some.inj h
    subst e
    have h1 := hc.1
    refine ⟨?_, hc.2, ?_⟩
    · apply bl_inj
      show bl s = bl (dec _)
      unfold dec
      rw [bl_mk]
      have e9 := decL_numV h1; unfold numV at e9; rw [if_pos h1] at e9; exact e9.symm
    · unfold isNum at h1
      simp only [Bool.and_eq_true, decide_eq_true_eq] at h1
      exact h1.2
  · cases h
theorem numW_dec {m n : Nat} (h : n ≤ m) (hn : n < 18446744073709551616) : numW (dec (n : Int)) m = some n := by
  have e : bl (dec (n : Int)) = decL n := by unfold dec; rw [bl_mk]; rfl
  unfold numW
  rw [e, if_pos ⟨isNum_decL hn, by rw [valL_decL]; exact h⟩, valL_decL]
theorem dec_size {n : Nat} (h : n < 18446744073709551616) : (dec (n : Int)).size ≤ 20 := by
  have e := bl_len (dec (n : Int))
  have e2 : bl (dec (n : Int)) = decL n := by unfold dec; rw [bl_mk]; rfl
  rw [e2] at e
  rw [← e]
  exact decL_len 19 n (Nat.lt_of_lt_of_le h (by decide))
theorem dec_size' {n : Int} (h0 : 0 ≤ n) (h : n < 18446744073709551616) : (dec n).size ≤ 20 := by
  obtain ⟨k, rfl⟩ : ∃ k : Nat, n = k := ⟨n.toNat, by omega⟩
  exact dec_size (by omega)
theorem joinW_len (M : Nat) : ∀ L : List ByteArray, (∀ x ∈ L, x.size ≤ M) → (L.flatMap fun x => 32 :: bl x).length ≤ L.length * (M + 1)
  | [], _ => by simp
  | a :: L, h => by
    have h1 := h a (by simp)
    have h2 := joinW_len M L (fun x hx => h x (by simp [hx]))
    rw [List.flatMap_cons, List.length_append, List.length_cons, List.length_cons, bl_len, Nat.add_mul]
    omega
theorem word_bytes {s : ByteArray} (h : seen s = true) : ∀ c ∈ bl s, c ≠ 32 ∧ c ≠ 13 := by
  intro c hc
  unfold seen at h
  rw [List.all_eq_true] at h
  have h1 := h c hc
  unfold seenB at h1
  simp at h1
  constructor <;> intro e <;> subst e <;> simp at h1
theorem dec_bytes {n : Int} : ∀ c ∈ bl (dec n), c ≠ 32 ∧ c ≠ 13 := by
  intro c hc
  have e : bl (dec n) = decL n.toNat := by unfold dec; rw [bl_mk]
  rw [e] at hc
  have h1 := List.all_eq_true.1 (decL_all n.toNat) c hc
  unfold isD at h1
  simp at h1
  constructor <;> intro e <;> subst e <;> simp at h1
theorem eol_more : ∀ (p q : List UInt8) (e : Nat), eol p = some e → eol (p ++ q) = some e
  | [], _, _, h => by simp [eol] at h
  | [_], _, _, h => by simp [eol] at h
  | a :: b :: l, q, e, h => by
    unfold eol at h
    show eol (a :: b :: (l ++ q)) = _
    unfold eol
    split at h
    · rename_i hc; rw [if_pos hc]; exact h
    · rename_i hc
      rw [if_neg hc]
      obtain ⟨e', he, rfl⟩ := Option.map_eq_some_iff.1 h
      have := eol_more (b :: l) q e' he
      rw [List.cons_append] at this
      rw [this]
      rfl
end Go.Proofs.YtihcnjbnlcgcoaaDoor
