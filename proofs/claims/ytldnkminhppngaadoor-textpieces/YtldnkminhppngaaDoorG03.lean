/-
  Several texts in one: TyM, TyN, TyO, TyP, TyQ.
-/
import Derived.Test.YtldnkminhppngaaDoorG02
import Derived.Lib.SlBytesConst
/-
  The library's Split and Index, in the words of lines: words between blanks, a line's end. What the map of lines tells of a word.
-/
namespace Go.Proofs.YtldnkminhppngaaDoor
open Go.Proofs.YtldnkminhppngaaDoor.It
open Go.RowKit
set_option linter.unusedSimpArgs false
set_option linter.unusedVariables false
set_option maxRecDepth 100000

def numsB (l : List UInt8) : List Int := l.map fun c => (c.toNat : Int)
theorem bytes_nums (l : List UInt8) : Lib.bytesOf (numsB l) = l := by
  unfold Lib.bytesOf numsB
  rw [List.map_map]
  have : ((fun n : Int => UInt8.ofNat n.toNat) ∘ fun c : UInt8 => (c.toNat : Int)) = id := by
    funext c
    simp
  rw [this, List.map_id]
theorem nums_len (l : List UInt8) : (numsB l).length = l.length := by simp [numsB]
theorem nums_in (l : List UInt8) : ∀ x ∈ numsB l, 0 ≤ x ∧ x < 256 := by
  intro x hx
  obtain ⟨c, _, rfl⟩ := List.mem_map.1 hx
  have := c.toNat_lt
  omega
theorem nums_get (l : List UInt8) (i : Nat) (h : i < l.length) : (numsB l).getD i 0 = (l[i].toNat : Int) := by
  simp [numsB, h]
theorem rd_nums {V : World} {b off cap : Nat} {l : List UInt8} (h : GRd EY V (some ⟨b, off, none⟩) l cap) : ∀ i, i < l.length → V.cell? ((⟨b, off, none⟩ : Addr).add i) = some (.int .u8 ((numsB l).getD i 0)) := by
  intro i hi
  have hne : l ≠ [] := by intro e; rw [e] at hi; simp at hi
  obtain ⟨b', off', e, _, hc⟩ := h.uy hne
  cases e
  rw [g_add, hc i hi, nums_get l i hi]

theorem idx32 : ∀ l : List UInt8, (Lib.index l [32] = -1 ∧ ∀ c ∈ l, c ≠ 32) ∨ ∃ i : Nat, Lib.index l [32] = (i : Int) ∧ i < l.length ∧ l = l.take i ++ 32 :: l.drop (i + 1) ∧ ∀ c ∈ l.take i, c ≠ 32
  | [] => .inl ⟨rfl, by simp⟩
  | c :: l => by
    by_cases hc : c = 32
    · subst hc
      exact .inr ⟨0, by simp [Lib.index], by simp, by simp, by simp⟩
    · have hp : ([32] : List UInt8).isPrefixOf (c :: l) = false := by
        simp [List.isPrefixOf]
        exact fun h => hc h.symm
      rcases idx32 l with ⟨h1, h2⟩ | ⟨i, h1, h2, h3, h4⟩
      · refine .inl ⟨by simp [Lib.index, hp, h1], ?_⟩
        intro x hx
        rcases List.mem_cons.1 hx with rfl | hx
        · exact hc
        · exact h2 x hx
      · refine .inr ⟨i + 1, ?_, by simp; omega, ?_, ?_⟩
        · unfold Lib.index
          rw [hp, h1]
          have : ((i : Int) == -1) = false := by simp
          simp [this]
        · rw [List.take_succ_cons, List.drop_succ_cons, List.cons_append]
          exact congrArg (c :: ·) h3
        · intro x hx
          rw [List.take_succ_cons] at hx
          rcases List.mem_cons.1 hx with rfl | hx
          · exact hc
          · exact h4 x hx
theorem split_wsp : ∀ (n : Nat) (l : List UInt8), l.length = n → Lib.splitK [32] 0 (Lib.count l [32]) l = wsp l := by
  intro n
  induction n using Nat.strongRecOn with
  | ind n ih =>
    intro l hn
    rcases idx32 l with ⟨h1, h2⟩ | ⟨i, h1, h2, h3, h4⟩
    · rw [Lib.count_miss h1, wsp_plain l h2]
      rfl
    · rw [Lib.count_hit (by simp) h1, Nat.add_comm]
      have e : (Lib.index l [32] == -1) = false := by rw [h1]; simp
      have e2 : (Lib.index l [32]).toNat = i := by rw [h1]; rfl
      unfold Lib.splitK
      rw [e]
      simp only [Bool.false_eq_true, if_false, e2]
      rw [ih (l.drop (i + 1)).length (by simp; omega) (l.drop (i + ([32] : List UInt8).length)) rfl]
      conv => rhs; rw [h3]
      rw [wsp_app _ _ h4]
      rfl
/-- the pieces of a slice, as words -/
structure Pc (b off : Nat) (l : List UInt8) (cap : Nat) (x : Wd) : Prop where
  len : x.l.length ≤ x.cap
  cap : x.cap ≤ cap
  small : x.l.length ≤ l.length
  at_ : ∃ o, x.ao = some ⟨b, o, none⟩ ∧ ∀ n (h : n < x.l.length), ∃ m, o + n = off + m ∧ l[m]? = some x.l[n]
def Wd.val (x : Wd) : Value := .slice x.ao x.l.length x.cap
theorem pc_whole (b off : Nat) (l : List UInt8) (cap : Nat) (hl : l.length ≤ cap) : Pc b off l cap ⟨some ⟨b, off, none⟩, cap, l⟩ :=
  ⟨hl, Nat.le_refl _, Nat.le_refl _, off, rfl, fun n h => ⟨n, rfl, List.getElem?_eq_getElem h⟩⟩
theorem split_wd (b : Nat) : ∀ (k off cap : Nat) (l : List UInt8), l.length ≤ cap → ∃ X : List Wd, X.map Wd.val = Lib.splitV [32] 0 k ⟨b, off, none⟩ cap l ∧ X.map (·.l) = Lib.splitK [32] 0 k l ∧ ∀ x ∈ X, Pc b off l cap x
  | 0, off, cap, l, hl => ⟨[⟨some ⟨b, off, none⟩, cap, l⟩], rfl, rfl, fun x hx => by rw [List.mem_singleton] at hx; subst hx; exact pc_whole b off l cap hl⟩
  | k + 1, off, cap, l, hl => by
    rcases idx32 l with ⟨h1, h2⟩ | ⟨i, h1, h2, h3, h4⟩
    · have e : (Lib.index l [32] == -1) = true := by rw [h1]; rfl
      refine ⟨[⟨some ⟨b, off, none⟩, cap, l⟩], ?_, ?_, fun x hx => by rw [List.mem_singleton] at hx; subst hx; exact pc_whole b off l cap hl⟩
      · unfold Lib.splitV; rw [if_pos e]; rfl
      · unfold Lib.splitK; rw [if_pos e]; rfl
    · have e : ¬ (Lib.index l [32] == -1) = true := by rw [h1]; simp
      have e2 : (Lib.index l [32]).toNat = i := by rw [h1]; rfl
      have hx0 : Pc b off l cap ⟨some ⟨b, off, none⟩, i, l.take i⟩ := by
        have hli : (l.take i).length = i := by rw [List.length_take]; omega
        refine ⟨by show (l.take i).length ≤ i; omega, by show i ≤ cap; omega, by show (l.take i).length ≤ l.length; omega, off, rfl, fun n h => ⟨n, rfl, ?_⟩⟩
        have h' : n < (l.take i).length := h
        show l[n]? = some (l.take i)[n]
        rw [List.getElem_take, List.getElem?_eq_getElem]
      have hdl : (l.drop (i + 1)).length = l.length - (i + 1) := by simp
      by_cases hc : cap = i + 1
      · obtain ⟨X, g1, g2, g3⟩ := split_wd b k off (cap - (i + 1)) (l.drop (i + 1)) (by omega)
        refine ⟨⟨some ⟨b, off, none⟩, i, l.take i⟩ :: X, ?_, ?_, fun x hx => ?_⟩
        · unfold Lib.splitV
          rw [if_neg e, e2, List.map_cons]
          have ht : Lib.tailAddr ⟨b, off, none⟩ cap (i + ([32] : List UInt8).length) = ⟨b, off, none⟩ := by
            unfold Lib.tailAddr
            rw [if_pos (by show cap = i + 1; exact hc)]
          rw [ht]
          have hli : (l.take i).length = i := by rw [List.length_take]; omega
          show Value.slice _ (l.take i).length i :: _ = _
          rw [hli, g1]
          rfl
        · unfold Lib.splitK
          rw [if_neg e, e2, List.map_cons, g2]
          rfl
        · rcases List.mem_cons.1 hx with rfl | hx
          · exact hx0
          · obtain ⟨a1, a2, a2b, o, a3, a4⟩ := g3 x hx
            have hnil : l.drop (i + 1) = [] := List.eq_nil_of_length_eq_zero (by omega)
            refine ⟨a1, by omega, by omega, o, a3, fun n hn => ?_⟩
            obtain ⟨m, b1, b2⟩ := a4 n hn
            rw [hnil] at b2
            cases b2
      · obtain ⟨X, g1, g2, g3⟩ := split_wd b k (off + (i + 1)) (cap - (i + 1)) (l.drop (i + 1)) (by omega)
        refine ⟨⟨some ⟨b, off, none⟩, i, l.take i⟩ :: X, ?_, ?_, fun x hx => ?_⟩
        · unfold Lib.splitV
          rw [if_neg e, e2, List.map_cons]
          have ht : Lib.tailAddr ⟨b, off, none⟩ cap (i + ([32] : List UInt8).length) = ⟨b, off + (i + 1), none⟩ := by
            unfold Lib.tailAddr
            rw [if_neg (by show ¬ cap = i + 1; exact hc), g_add]
            rfl
          rw [ht]
          have hli : (l.take i).length = i := by rw [List.length_take]; omega
          show Value.slice _ (l.take i).length i :: _ = _
          rw [hli, g1]
          rfl
        · unfold Lib.splitK
          rw [if_neg e, e2, List.map_cons, g2]
          rfl
        · rcases List.mem_cons.1 hx with rfl | hx
          · exact hx0
          · obtain ⟨a1, a2, a2b, o, a3, a4⟩ := g3 x hx
            refine ⟨a1, by omega, by omega, o, a3, fun n hn => ?_⟩
            obtain ⟨m, b1, b2⟩ := a4 n hn
            exact ⟨i + 1 + m, by omega, by rw [List.getElem?_drop] at b2; exact b2⟩
theorem Pc.rd {V : World} {b off cap : Nat} {l : List UInt8} {x : Wd} (h : Pc b off l cap x) (hr : GRd EY V (some ⟨b, off, none⟩) l cap) : GRd EY V x.ao x.l x.cap := by
  obtain ⟨o, e, hc⟩ := h.at_
  refine ⟨h.len, Nat.le_trans h.cap hr.hc, (fun e2 => by rw [e] at e2; cases e2), ?_⟩
  by_cases hne : x.l = []
  · exact .inl hne
  · have hl : l ≠ [] := by
      intro e0
      have := h.small
      rw [e0] at this
      exact hne (List.eq_nil_of_length_eq_zero (by simpa using this))
    obtain ⟨b', off', e3, hb, hcs⟩ := hr.uy hl
    cases e3
    refine .inr ⟨b, o, e, hb, fun n hn j hj => ?_⟩
    have hj0 : j = 0 := by have : j < 1 := hj; omega
    subst hj0
    obtain ⟨m, e4, e5⟩ := hc n hn
    obtain ⟨hm, e6⟩ := List.getElem?_eq_some_iff.1 e5
    have h7 := hcs m hm
    have e8 : o + n * EY.sz + 0 = off + m := by show o + n * 1 + 0 = off + m; omega
    rw [e8, h7, e6]
    rfl
theorem idx_eol : ∀ l : List UInt8, Lib.index l [13, 10] = match eol l with | none => -1 | some e => (e : Int)
  | [] => rfl
  | [a] => by
    have hp : ([13, 10] : List UInt8).isPrefixOf [a] = false := by simp [List.isPrefixOf]
    simp [Lib.index, hp, eol]
  | a :: b :: l => by
    have ih := idx_eol (b :: l)
    by_cases hc : a = 13 ∧ b = 10
    · obtain ⟨rfl, rfl⟩ := hc
      simp [Lib.index, eol]
    · have hp : ([13, 10] : List UInt8).isPrefixOf (a :: b :: l) = false := by
        simp [List.isPrefixOf]
        intro h1 h2
        exact hc ⟨h1.symm, h2.symm⟩
      have hU : eol (a :: b :: l) = (eol (b :: l)).map (· + 1) := by rw [eol, if_neg hc]
      rw [hU, Lib.index, hp, ih]
      cases he : eol (b :: l) with
      | none => simp
      | some e =>
        have : ((e : Int) == -1) = false := by simp
        simp [this]
end Go.Proofs.YtldnkminhppngaaDoor
/-
  Split and Index at the program; what the map of lines tells of a line's words.
-/
namespace Go.Proofs.YtldnkminhppngaaDoor
open Go.Proofs.YtldnkminhppngaaDoor.It
open Go.RowKit
set_option linter.unusedSimpArgs false
set_option linter.unusedVariables false
set_option maxRecDepth 100000

theorem y_drewN {B : Nat} {a w : World} (h : Below B a w) (n : Nat) : Below B a (w.drewN n) := h.trans ⟨rfl, rfl, rfl, Nat.le_refl _, fun _ _ => rfl⟩
theorem wsp_len : ∀ l : List UInt8, (wsp l).length ≤ l.length + 1
  | [] => by simp [wsp]
  | c :: l => by
    have ih := wsp_len l
    have hc := wsp_cons l
    unfold wsp
    split
    · simp; omega
    · have : (wsp l).length = (wsp l).tail.length + 1 := by rw [hc]; simp
      simp only [List.length_cons]
      omega
theorem wsp_count : ∀ (n : Nat) (l : List UInt8), l.length = n → Lib.count l [32] + 1 = (wsp l).length := by
  intro n
  induction n using Nat.strongRecOn with
  | ind n ih =>
    intro l hn
    rcases idx32 l with ⟨h1, h2⟩ | ⟨i, h1, h2, h3, h4⟩
    · rw [Lib.count_miss h1, wsp_plain l h2]
      rfl
    · rw [Lib.count_hit (by simp) h1]
      have := ih (l.drop (i + 1)).length (by simp; omega) (l.drop (i + 1)) rfl
      conv => rhs; rw [h3]
      rw [wsp_app _ _ h4]
      show 1 + Lib.count (l.drop (i + 1)) [32] + 1 = (wsp (l.drop (i + 1))).length + 1
      omega
structure Spl (V V' : World) (b : Nat) (l : List UInt8) (X : List Wd) : Prop where
  size : V'.heap.size = V.heap.size + 1
  below : Below V.heap.size V V'
  rows : GRd EW V' (some ⟨V.heap.size, 0, none⟩) X X.length
  each : ∀ x ∈ X, GRd EY V' x.ao x.l x.cap ∧ ∃ o, x.ao = some ⟨b, o, none⟩
  ws : X.map (fun x => mkB x.l) = lw l
  len : X.length ≤ l.length + 1 ∧ ∀ x ∈ X, x.l.length ≤ l.length
theorem split_any (V : World) (b off cap : Nat) (l : List UInt8) (hr : GRd EY V (some ⟨b, off, none⟩) l cap) (hl : l.length ≤ 600) (g c2 : Nat) (hs : V.cell? ⟨g, 0, none⟩ = some (.int .u8 32)) (hg : Gl V) (m : Nat) (hm : m = l.length) :
    Calls Tryd.prog 70 #[.slice (some ⟨b, off, none⟩) m cap, .slice (some ⟨g, 0, none⟩) 1 c2] V fun e V' => ∃ X, e = .returned (.slice (some ⟨V.heap.size, 0, none⟩) X.length X.length) ∧ Spl V V' b l X := by
  subst hm
  obtain ⟨mx, hmx⟩ := hg.ml
  have hs' : ∀ i, i < 1 → V.cell? ((⟨g, 0, none⟩ : Addr).add i) = some (.int .u8 (([32] : List Int).getD i 0)) := by
    intro i hi
    have e0 : i = 0 := by omega
    subst e0
    rw [g_add]
    exact hs
  have c := Any.bytes_Split Tryd.laySplit ⟨b, off, none⟩ ⟨g, 0, none⟩ l.length cap 1 c2 (numsB l) [32] mx V (nums_len l) rfl (nums_in l) (by intro y hy; simp at hy; subst hy; decide) (rd_nums hr) hs' hr.hl (by omega) (by decide) hr.hc (by decide) hmx
  refine c.mono ?_
  rintro e V' ⟨rfl, q, rfl⟩
  have e32 : Lib.bytesOf [32] = [32] := rfl
  rw [bytes_nums, e32]
  obtain ⟨X, g1, g2, g3⟩ := split_wd b (Lib.count l [32]) off cap l hr.hl
  have hX : X.length = (wsp l).length := by
    have := congrArg List.length g2
    rw [split_wsp _ l rfl, List.length_map] at this
    exact this
  rw [wsp_count _ l rfl, ← hX, ← g1]
  have hB : Below V.heap.size V ((V.alloc (.cells (X.map Wd.val).toArray 34)).drewN q) := y_drewN ((Below.refl _ _).alloc (Nat.le_refl _) _) q
  refine ⟨X, rfl, by simp, hB, ?_, fun x hx => ?_, ?_, ?_, ?_⟩
  · refine ⟨Nat.le_refl _, by have := wsp_len l; omega, (fun e => by cases e), .inr ⟨V.heap.size, 0, rfl, by simp, fun i hi j hj => ?_⟩⟩
    have hj0 : j = 0 := by have : j < 1 := hj; omega
    subst hj0
    have e0 : 0 + i * EW.sz + 0 = i := by show 0 + i * 1 + 0 = i; omega
    rw [e0, World.cell?_drewN]
    simp [EW, Wd.val, hi]
  · obtain ⟨o, e, _⟩ := (g3 x hx).at_
    exact ⟨((g3 x hx).rd hr).below hB, o, e⟩
  · have : X.map (fun x => mkB x.l) = (X.map (·.l)).map mkB := by rw [List.map_map]; rfl
    rw [this, g2, split_wsp _ l rfl]
    rfl
  · rw [hX]; exact wsp_len l
  · exact fun x hx => (g3 x hx).small
theorem index_any (V : World) (b off cap : Nat) (l : List UInt8) (hr : GRd EY V (some ⟨b, off, none⟩) l cap) (hl : l.length ≤ 600) (g c2 : Nat) (hs : V.cell? ⟨g, 0, none⟩ = some (.int .u8 13)) (hs2 : V.cell? ⟨g, 1, none⟩ = some (.int .u8 10)) (hg : Gl V) (m : Nat) (hm : m = l.length) :
    Calls Tryd.prog 44 #[.slice (some ⟨b, off, none⟩) m cap, .slice (some ⟨g, 0, none⟩) 2 c2] V fun e V' => e = .returned (.int .i64 (match eol l with | none => -1 | some e => (e : Int))) ∧ Below V.heap.size V V' := by
  subst hm
  obtain ⟨mx, hmx⟩ := hg.ml
  refine (Any.bytes_Index_at Tryd.layIndex ⟨b, off, none⟩ ⟨g, 0, none⟩ l.length cap 2 c2 (numsB l) [13, 10] mx V (nums_len l) rfl (nums_in l) (by intro y hy; simp at hy; rcases hy with rfl | rfl <;> decide) (rd_nums hr) (by
    intro i hi
    have : i = 0 ∨ i = 1 := by omega
    rcases this with rfl | rfl
    · rw [g_add]; exact hs
    · rw [g_add]; exact hs2) hr.hl (by omega) (by decide) hmx).mono ?_
  rintro e V' ⟨rfl, q, rfl⟩
  have e32 : Lib.bytesOf [13, 10] = [13, 10] := rfl
  rw [bytes_nums, e32, idx_eol]
  exact ⟨rfl, y_drewN (Below.refl _ _) q⟩
theorem goF_map : ∀ (ps : List Pt) (d : Dr), goF (ps.map Pt.go) d = goAll ps d
  | [], _ => rfl
  | p :: ps, d => by
    rw [List.map_cons]
    unfold goF goAll
    cases p.go d with
    | none => rfl
    | some d' => exact goF_map ps d'
theorem tell_line {a : ByteArray} {rk ck : Int} {ps : List Pt} (h : lineOf a = some (rk, ck, ps)) (l : List ByteArray) : endF (goF (ps.map Pt.go) (dz rk ck l)) = tellW (a :: l) := by
  rw [goF_map]
  simp only [tellW, h]
  cases goAll ps (dz rk ck l) with
  | none => rfl
  | some d => rfl
theorem tell_none {a : ByteArray} (h : lineOf a = none) (l : List ByteArray) : tellW (a :: l) = none := by
  simp only [tellW, h]
/-- what the map tells of a word -/
def MapSays (M : List Lne) : Prop := ∀ a : ByteArray, (lkF (M.map fun x => (x.1, x.2.1)) a = none ∧ lineOf a = none) ∨ ∃ x ∈ M, lkF (M.map fun x => (x.1, x.2.1)) a = some x.2.1 ∧ ∀ l, x.2.2 ⟨rz, l, none⟩ = tellW (a :: l)
theorem lkF_cons (x : ByteArray × Fv) (L : List (ByteArray × Fv)) (s : ByteArray) : lkF (x :: L) s = if s = x.1 then some x.2 else lkF L s := rfl
theorem lineL_says (f0 f1 f2 f3 f4 f5 f6 f7 f8 f9 f10 f11 f12 f13 f14 : Fv) : MapSays (lineL f0 f1 f2 f3 f4 f5 f6 f7 f8 f9 f10 f11 f12 f13 f14) := by
  intro a
  by_cases e0 : a = ⟨#[103, 101, 116]⟩
  · subst e0
    refine .inr ⟨(⟨#[103, 101, 116]⟩, f0, _), List.mem_of_getElem? (i := 0) rfl, ?_, fun l => tell_line lineOf_get l⟩
    show lkF (_ :: _) _ = _
    simp only [lkF_cons, lineL, List.map_cons, List.map_nil]
    rw [if_pos trivial]
  by_cases e1 : a = ⟨#[100, 101, 108, 101, 116, 101]⟩
  · subst e1
    refine .inr ⟨(⟨#[100, 101, 108, 101, 116, 101]⟩, f1, _), List.mem_of_getElem? (i := 1) rfl, ?_, fun l => tell_line lineOf_delete l⟩
    show lkF (_ :: _) _ = _
    simp only [lkF_cons, lineL, List.map_cons, List.map_nil]
    repeat rw [if_neg (by decide)]
    rw [if_pos trivial]
  by_cases e2 : a = ⟨#[115, 101, 116]⟩
  · subst e2
    refine .inr ⟨(⟨#[115, 101, 116]⟩, f2, _), List.mem_of_getElem? (i := 2) rfl, ?_, fun l => tell_line lineOf_set l⟩
    show lkF (_ :: _) _ = _
    simp only [lkF_cons, lineL, List.map_cons, List.map_nil]
    repeat rw [if_neg (by decide)]
    rw [if_pos trivial]
  by_cases e3 : a = ⟨#[97, 100, 100]⟩
  · subst e3
    refine .inr ⟨(⟨#[97, 100, 100]⟩, f3, _), List.mem_of_getElem? (i := 3) rfl, ?_, fun l => tell_line lineOf_add l⟩
    show lkF (_ :: _) _ = _
    simp only [lkF_cons, lineL, List.map_cons, List.map_nil]
    repeat rw [if_neg (by decide)]
    rw [if_pos trivial]
  by_cases e4 : a = ⟨#[114, 101, 112, 108, 97, 99, 101]⟩
  · subst e4
    refine .inr ⟨(⟨#[114, 101, 112, 108, 97, 99, 101]⟩, f4, _), List.mem_of_getElem? (i := 4) rfl, ?_, fun l => tell_line lineOf_replace l⟩
    show lkF (_ :: _) _ = _
    simp only [lkF_cons, lineL, List.map_cons, List.map_nil]
    repeat rw [if_neg (by decide)]
    rw [if_pos trivial]
  by_cases e5 : a = ⟨#[99, 97, 115]⟩
  · subst e5
    refine .inr ⟨(⟨#[99, 97, 115]⟩, f5, _), List.mem_of_getElem? (i := 5) rfl, ?_, fun l => tell_line lineOf_cas l⟩
    show lkF (_ :: _) _ = _
    simp only [lkF_cons, lineL, List.map_cons, List.map_nil]
    repeat rw [if_neg (by decide)]
    rw [if_pos trivial]
  by_cases e6 : a = ⟨#[97, 112, 112, 101, 110, 100]⟩
  · subst e6
    refine .inr ⟨(⟨#[97, 112, 112, 101, 110, 100]⟩, f6, _), List.mem_of_getElem? (i := 6) rfl, ?_, fun l => tell_line lineOf_append l⟩
    show lkF (_ :: _) _ = _
    simp only [lkF_cons, lineL, List.map_cons, List.map_nil]
    repeat rw [if_neg (by decide)]
    rw [if_pos trivial]
  by_cases e7 : a = ⟨#[105, 110, 99, 114]⟩
  · subst e7
    refine .inr ⟨(⟨#[105, 110, 99, 114]⟩, f7, _), List.mem_of_getElem? (i := 7) rfl, ?_, fun l => tell_line lineOf_incr l⟩
    show lkF (_ :: _) _ = _
    simp only [lkF_cons, lineL, List.map_cons, List.map_nil]
    repeat rw [if_neg (by decide)]
    rw [if_pos trivial]
  by_cases e8 : a = ⟨#[100, 101, 99, 114]⟩
  · subst e8
    refine .inr ⟨(⟨#[100, 101, 99, 114]⟩, f8, _), List.mem_of_getElem? (i := 8) rfl, ?_, fun l => tell_line lineOf_decr l⟩
    show lkF (_ :: _) _ = _
    simp only [lkF_cons, lineL, List.map_cons, List.map_nil]
    repeat rw [if_neg (by decide)]
    rw [if_pos trivial]
  by_cases e9 : a = ⟨#[116, 111, 117, 99, 104]⟩
  · subst e9
    refine .inr ⟨(⟨#[116, 111, 117, 99, 104]⟩, f9, _), List.mem_of_getElem? (i := 9) rfl, ?_, fun l => tell_line lineOf_touch l⟩
    show lkF (_ :: _) _ = _
    simp only [lkF_cons, lineL, List.map_cons, List.map_nil]
    repeat rw [if_neg (by decide)]
    rw [if_pos trivial]
  by_cases e10 : a = ⟨#[102, 108, 117, 115, 104]⟩
  · subst e10
    refine .inr ⟨(⟨#[102, 108, 117, 115, 104]⟩, f10, _), List.mem_of_getElem? (i := 10) rfl, ?_, fun l => tell_line lineOf_flush l⟩
    show lkF (_ :: _) _ = _
    simp only [lkF_cons, lineL, List.map_cons, List.map_nil]
    repeat rw [if_neg (by decide)]
    rw [if_pos trivial]
  by_cases e11 : a = ⟨#[117, 115, 101, 114]⟩
  · subst e11
    refine .inr ⟨(⟨#[117, 115, 101, 114]⟩, f11, _), List.mem_of_getElem? (i := 11) rfl, ?_, fun l => tell_line lineOf_user l⟩
    show lkF (_ :: _) _ = _
    simp only [lkF_cons, lineL, List.map_cons, List.map_nil]
    repeat rw [if_neg (by decide)]
    rw [if_pos trivial]
  by_cases e12 : a = ⟨#[116, 114, 97, 99, 107]⟩
  · subst e12
    refine .inr ⟨(⟨#[116, 114, 97, 99, 107]⟩, f12, _), List.mem_of_getElem? (i := 12) rfl, ?_, fun l => tell_line lineOf_track l⟩
    show lkF (_ :: _) _ = _
    simp only [lkF_cons, lineL, List.map_cons, List.map_nil]
    repeat rw [if_neg (by decide)]
    rw [if_pos trivial]
  by_cases e13 : a = ⟨#[112, 105, 110, 103]⟩
  · subst e13
    refine .inr ⟨(⟨#[112, 105, 110, 103]⟩, f13, _), List.mem_of_getElem? (i := 13) rfl, ?_, fun l => tell_line lineOf_ping l⟩
    show lkF (_ :: _) _ = _
    simp only [lkF_cons, lineL, List.map_cons, List.map_nil]
    repeat rw [if_neg (by decide)]
    rw [if_pos trivial]
  by_cases e14 : a = ⟨#[113, 117, 105, 116]⟩
  · subst e14
    refine .inr ⟨(⟨#[113, 117, 105, 116]⟩, f14, _), List.mem_of_getElem? (i := 14) rfl, ?_, fun l => tell_line lineOf_quit l⟩
    show lkF (_ :: _) _ = _
    simp only [lkF_cons, lineL, List.map_cons, List.map_nil]
    repeat rw [if_neg (by decide)]
    rw [if_pos trivial]
  refine .inl ⟨?_, ?_⟩
  · simp only [lkF_cons, lineL, List.map_cons, List.map_nil]
    rw [if_neg e0, if_neg e1, if_neg e2, if_neg e3, if_neg e4, if_neg e5, if_neg e6, if_neg e7, if_neg e8, if_neg e9, if_neg e10, if_neg e11, if_neg e12, if_neg e13, if_neg e14]
    rfl
  · unfold lineOf
    rw [if_neg e0, if_neg e1, if_neg e2, if_neg e3, if_neg e4, if_neg e5, if_neg e6, if_neg e7, if_neg e8, if_neg e9, if_neg e10, if_neg e11, if_neg e12, if_neg e13, if_neg e14]
end Go.Proofs.YtldnkminhppngaaDoor
/-
  Structs of several cells that are loaded, stored, answered whole; tell.
-/
namespace Go.Proofs.YtldnkminhppngaaDoor
open Go.Proofs.YtldnkminhppngaaDoor.It
open Go.RowKit
set_option linter.unusedSimpArgs false
set_option linter.unusedVariables false
set_option maxRecDepth 100000

def ysets (w : World) (b : Nat) : Nat → List Value → World
  | _, [] => w
  | j, v :: vs => ysets (w.setCell ⟨b, j, none⟩ v) b (j + 1) vs
theorem ysets_eq (b : Nat) : ∀ (vs : List Value) (w : World) (j : Nat), w.setCells b j vs = ysets w b j vs
  | [], _, _ => rfl
  | v :: vs, w, j => ysets_eq b vs _ (j + 1)
theorem ysets_grown (b : Nat) : ∀ (vs : List Value) (w : World) (j : Nat), w.grownBy (ysets w b j vs) (some b)
  | [], w, _ => World.grownBy.refl w _
  | v :: vs, w, j => (g_set w ⟨b, j, none⟩ v).trans (ysets_grown b vs _ (j + 1))
theorem ysets_box (b : Nat) : ∀ (vs us pre : List Value) (w : World), GBx w b (pre ++ us) → us.length = vs.length → GBx (ysets w b pre.length vs) b (pre ++ vs)
  | [], [], pre, w, h, _ => h
  | [], _ :: _, _, _, _, e => by simp at e
  | v :: vs, [], _, _, _, e => by simp at e
  | v :: vs, u :: us, pre, w, h, e => by
    have h1 : GBx (w.setCell ⟨b, pre.length, none⟩ v) b ((pre ++ [v]) ++ us) := by
      have := h.set pre.length v (by simp)
      refine this.ext ?_
      rw [List.set_append_right _ _ (Nat.le_refl _), Nat.sub_self, List.set_cons_zero, List.append_assoc]
      rfl
    have h2 := ysets_box b vs us (pre ++ [v]) _ h1 (by simpa using e)
    rw [List.length_append, List.length_singleton] at h2
    unfold ysets
    rw [List.append_assoc] at h2
    exact h2
theorem ybox {w : World} {b : Nat} {us : List Value} (h : GBx w b us) (vs : List Value) (e : us.length = vs.length) : GBx (ysets w b 0 vs) b vs := ysets_box b vs us [] w h e
theorem GBx.get {w : World} {b : Nat} {vs : List Value} (h : GBx w b vs) : ∀ j v, vs[j]? = some v → w.cell? ⟨b, j, none⟩ = some v := by
  intro j v hv
  obtain ⟨hj, e⟩ := List.getElem?_eq_some_iff.1 hv
  rw [h.c j hj, e]
theorem load_var {w : World} {b : Nat} {cs : List Value} (hb : GBx w b cs) (ty : TypeId) (d : TypeDesc) (hu : Tryd.prog.underlying ty = some d) (hd : (match d with | .struct _ | .array _ _ => true | _ => false) = true) (hi : (Tryd.prog.info? ty).map (·.size) = some cs.length) :
    (loadVar ty ⟨b, 0, none⟩).run Tryd.prog w = .ok (.agg cs.toArray) w := by
  have hl : (loadCells ⟨b, 0, none⟩ cs.length).run Tryd.prog w = .ok cs.toArray w :=
    run_loadCells_list (P := Tryd.prog) w ⟨b, 0, none⟩ cs (fun j v hv => by rw [g_add, Nat.zero_add]; exact hb.get j v hv)
  cases hq : Tryd.prog.info? ty with
  | none => simp [hq] at hi
  | some i =>
    have hs : i.size = cs.length := by simpa [hq] using hi
    have hagg : (isAgg ty).run Tryd.prog w = .ok true w := by
      unfold isAgg
      rw [Sem.run_bind, run_underlying hu w]
      cases d <;> simp_all
    simp [loadVar, Sem.run_bind, hagg, sizeOf, typeInfo, hq, hs, hl]
theorem ywpl_load {ops : Array Oper} {rest : List Oper} {o : Oper} {a : Act} {w : World} {Q : Exit → Act → World → Prop} (hgd : o.guard = none) (ty : TypeId) (s : Operand) (ho : o.op = .load ty s) (b : Nat) (hx : a.eval s = .pointer (some ⟨b, 0, none⟩)) (cs : List Value) (hc : GBx w b cs) (d : TypeDesc)
    (hu : Tryd.prog.underlying ty = some d) (hd : (match d with | .struct _ | .array _ _ => true | _ => false) = true) (hi : (Tryd.prog.info? ty).map (·.size) = some cs.length) (h : wpList Tryd.prog ops Q rest (a.put o.dst (.agg cs.toArray)) w) : wpList Tryd.prog ops Q (o :: rest) a w := by
  refine wpList_plain hgd fun K hK => ?_
  have hlv := load_var hc ty d hu hd hi
  unfold Oper.wp execOp
  simp only [ho, hx, Instr.loadAt, Instr.sureAddr, Sem.run_bind, Sem.run_pure, Result.andThen_ok, hlv]
  exact hK _ _ h
theorem ywpl_store {ops : Array Oper} {rest : List Oper} {o : Oper} {a : Act} {w : World} {Q : Exit → Act → World → Prop} (hgd : o.guard = none) (ty : TypeId) (s y : Operand) (ho : o.op = .store ty s y) (b : Nat) (cs us : List Value) (hx : a.eval s = .pointer (some ⟨b, 0, none⟩)) (hy : a.eval y = .agg cs.toArray) (hi : (Tryd.prog.info? ty).map (·.size) = some cs.length)
    (hb : GBx w b us) (hl : us.length = cs.length) (h1 : ∀ v ∈ cs, v.oneCell' = true) (h : wpList Tryd.prog ops Q rest (a.put o.dst undef) (ysets w b 0 cs)) : wpList Tryd.prog ops Q (o :: rest) a w := by
  refine wpList_plain hgd fun K hK => ?_
  have hst := run_storeCells_cells (P := Tryd.prog) b 0 cs 0 w (by intro j hj; rw [Nat.zero_add, hb.c j (by omega)]; rfl) (by intro j hj; rw [Nat.zero_add]; exact hb.f j) h1
  rw [Nat.zero_add, ysets_eq] at hst
  have hsv : (storeVar ty ⟨b, 0, none⟩ (.agg cs.toArray)).run Tryd.prog w = .ok () (ysets w b 0 cs) := by
    cases hq : Tryd.prog.info? ty with
    | none => simp [hq] at hi
    | some i =>
      have hs : cs.length = i.size := by simp [hq] at hi; omega
      simp [storeVar, sizeOf, typeInfo, hq, Value.cells, hs, hst]
  unfold Oper.wp execOp
  simp only [ho, hx, hy, Instr.storeAt, Instr.sureAddr, Sem.run_bind, Sem.run_pure, Result.andThen_ok, hsv]
  exact hK _ _ h
theorem res_cell {fn : Func} {s t : Tmp} {ty : TypeId} {tmps : Array Value} {w : World} {b : Nat} {v : Value} (h : fn.results = #[.cell s ty, .tmp t]) (hs : tmps.getD s undef = .pointer (some ⟨b, 0, none⟩)) (hl : (loadVar ty ⟨b, 0, none⟩).run Tryd.prog w = .ok v w) :
    (results fn tmps).run Tryd.prog w = .ok (.tuple #[v, tmps.getD t undef]) w := by
  have hs2 : tmps[s]?.getD undef = .pointer (some ⟨b, 0, none⟩) := by simpa using hs
  simp [results, h, hs2, hl, asAddr]
theorem res_cell2 {fn : Func} {s t u : Tmp} {ty : TypeId} {tmps : Array Value} {w : World} {b : Nat} {v : Value} (h : fn.results = #[.cell s ty, .tmp t, .tmp u]) (hs : tmps.getD s undef = .pointer (some ⟨b, 0, none⟩)) (hl : (loadVar ty ⟨b, 0, none⟩).run Tryd.prog w = .ok v w) :
    (results fn tmps).run Tryd.prog w = .ok (.tuple #[v, tmps.getD t undef, tmps.getD u undef]) w := by
  have hs2 : tmps[s]?.getD undef = .pointer (some ⟨b, 0, none⟩) := by simpa using hs
  simp [results, h, hs2, hl, asAddr]
end Go.Proofs.YtldnkminhppngaaDoor
/-
  tell: a line's words, told by the map of lines.
-/
namespace Go.Proofs.YtldnkminhppngaaDoor
open Go.Proofs.YtldnkminhppngaaDoor.It
open Go.RowKit
set_option linter.unusedSimpArgs false
set_option linter.unusedVariables false
set_option maxRecDepth 100000

/-- the map of lines in a world -/
structure Kn (V : World) (r : Nat) (M : List Lne) : Prop where
  mp : MpF V r (M.map fun x => (x.1, x.2.1))
  fn : ∀ x ∈ M, FnD none V x.2.1 x.2.2
  says : MapSays M
theorem Kn.below {V V' : World} {r : Nat} {M : List Lne} (h : Kn V r M) (hb : Below V.heap.size V V') : Kn V' r M := ⟨h.mp.below hb, fun x hx => (h.fn x hx).below hb, h.says⟩
theorem Ev.at_ {V : World} {b b' : Nat} {v : Value} {x : Option Nat} (h : Ev V b v x) (hb : V.heap.size ≤ b') : Ev V b' v x := by
  cases h with
  | no => exact .no
  | is n p q hn hp hq np nq cp cq => exact .is n p q hn hp hq (by omega) (by omega) cp cq
/-- what tell answers -/
structure TellR (V V' : World) (l : List UInt8) (e : Ending) (d : Dr) (ko : Option Addr) (kc : Nat) (wv ev : Value) (ok : Bool) : Prop where
  e : e = .returned (.tuple #[.agg (d.cl (.slice ko d.r.cmd.keys.length kc) wv ev).toArray, .bool ok])
  is : (ok = true ∧ tellW (lw l) = some d) ∨ (ok = false ∧ tellW (lw l) = none)
  keys : GRd ES V' ko d.r.cmd.keys kc
  kb : ∀ g o, ko = some ⟨g, o, none⟩ → d.r.cmd.keys ≠ [] → V.heap.size ≤ g
  ev : ∀ b, V'.heap.size ≤ b → Ev V' b ev d.vl
  wv : ∃ wo n wc, wv = .slice wo n wc
  below : Below V.heap.size V V'
theorem cl_one (d : Dr) (ko : Option Addr) (n kc : Nat) (wo : Option Addr) (m wc : Nat) (ev : Value) (he : ev.oneCell' = true) : ∀ v ∈ d.cl (.slice ko n kc) (.slice wo m wc) ev, v.oneCell' = true := by
  intro v hv
  simp [Dr.cl, Rq.cl] at hv
  rcases hv with rfl | rfl | rfl | rfl | rfl | rfl | rfl | rfl | rfl | rfl | rfl | rfl | rfl | rfl | rfl <;> first | rfl | exact he
theorem Ev.one {V : World} {b : Nat} {v : Value} {x : Option Nat} (h : Ev V b v x) : v.oneCell' = true := by cases h <;> rfl
theorem Ev.off {V V' : World} {b b' R : Nat} {v : Value} {x : Option Nat} (h : Ev V b v x) (hg : V.grownBy V' (some R)) (hf : ∀ p q, v = .func (.func 62) #[] #[.pointer (some ⟨p, 0, none⟩), .pointer (some ⟨q, 0, none⟩)] → p ≠ R ∧ q ≠ R) (hb : V'.heap.size ≤ b') : Ev V' b' v x := by
  cases h with
  | no => exact .no
  | is n p q hn hp hq np nq cp cq =>
    obtain ⟨h1, h2⟩ := hf p q rfl
    have hs := hg.size
    have bp : V'.heap[p]? = V.heap[p]? := hg.block p hp (fun e => h1 (Option.some.inj e))
    have bq : V'.heap[q]? = V.heap[q]? := hg.block q hq (fun e => h2 (Option.some.inj e))
    exact .is n p q hn (by omega) (by omega) (by omega) (by omega) ((World.cell?_of_block (a := ⟨p, 0, none⟩) bp).trans cp) ((World.cell?_of_block (a := ⟨q, 0, none⟩) bq).trans cq)
def zd : Dr := ⟨rz, [], none⟩
/-- what stands when the words are laid: the draft, and the room for the answer -/
structure Td (V W : World) (R b : Nat) (l : List UInt8) (d : Dr) : Prop where
  below : Below V.heap.size V W
  dw : Dw W b d
  res : GBx W R (zd.cl (.slice none 0 0) (.slice none 0 0) .nilFunc)
  nb : R + 3 = b
  lb : V.heap.size ≤ b
  lr : V.heap.size ≤ R
theorem Td.on {V W W' : World} {R b : Nat} {l : List UInt8} {d d' : Dr} (h : Td V W R b l d) (hd : Dw W' b d') (hg : W.grownBy W' (some b)) : Td V W' R b l d' :=
  ⟨h.below.grown hg h.below.size (fun k hk => by cases hk; exact h.lb), hd, h.res.grown hg (by intro e; have := Option.some.inj e; have := h.nb; omega), h.nb, h.lb, h.lr⟩
/-- the answer is stored -/
theorem Td.answer {V W : World} {R b : Nat} {l : List UInt8} {d : Dr} (h : Td V W R b l d) : ∃ ko kc wo n wc ev, GBx W b (d.cl (.slice ko d.r.cmd.keys.length kc) (.slice wo n wc) ev) ∧ (∀ v ∈ d.cl (.slice ko d.r.cmd.keys.length kc) (.slice wo n wc) ev, v.oneCell' = true) ∧
    ∀ W2, W2 = ysets W R 0 (d.cl (.slice ko d.r.cmd.keys.length kc) (.slice wo n wc) ev) → GBx W2 R (d.cl (.slice ko d.r.cmd.keys.length kc) (.slice wo n wc) ev) ∧ ∀ ok, ((ok = true ∧ tellW (lw l) = some d) ∨ (ok = false ∧ tellW (lw l) = none)) → TellR V W2 l (.returned (.tuple #[.agg (d.cl (.slice ko d.r.cmd.keys.length kc) (.slice wo n wc) ev).toArray, .bool ok])) d ko kc (.slice wo n wc) ev ok := by
  obtain ⟨ko, kc, wo, wc, X, ev, hx⟩ := h.dw
  refine ⟨ko, kc, wo, X.length, wc, ev, hx.bx, cl_one _ _ _ _ _ _ _ _ hx.ev.one, fun W2 e => ?_⟩
  subst e
  have hg := ysets_grown R (d.cl (.slice ko d.r.cmd.keys.length kc) (.slice wo X.length wc) ev) W 0
  refine ⟨ybox h.res _ rfl, fun ok hok => ⟨rfl, hok, ?_, fun g o e hne => by have := hx.far.k g o e hne; have := h.lb; omega, fun b' hb' => ?_, ⟨_, _, _, rfl⟩, h.below.grown hg h.below.size (fun k hk => by cases hk; exact h.lr)⟩⟩
  · exact hx.keys.rd.grownr hg (fun g o e hne e2 => by have := hx.far.k g o e hne; have := Option.some.inj e2; have := h.nb; omega)
  · exact hx.ev.off hg (fun p q e => by have := hx.far.v p q e; have := h.nb; omega) hb'
theorem store_nil (w : World) (u : Value) : (store ⟨w.heap.size, 14, none⟩ .nilFunc).run Tryd.prog (w.alloc (.cells #[.int .u8 0, .int .u8 0, .int .i64 0, .slice none 0 0, .string ⟨#[]⟩, .int .u32 0, .int .i64 0, .int .u64 0, .int .u64 0, .int .i64 0, .string ⟨#[]⟩, .bool false, .bool false, u, .nilFunc] 75)) = .ok () (w.alloc (.cells #[.int .u8 0, .int .u8 0, .int .i64 0, .slice none 0 0, .string ⟨#[]⟩, .int .u32 0, .int .i64 0, .int .u64 0, .int .u64 0, .int .i64 0, .string ⟨#[]⟩, .bool false, .bool false, u, .nilFunc] 75)) := by
  rw [run_store _ _ _ _ _ rfl]
  simp [World.frozen?_alloc_new]
  rw [World.setCell_alloc_new]
  rfl

set_option maxHeartbeats 4000000 in
theorem tell_any (V : World) (lb off cap : Nat) (l : List UInt8) (hr : GRd EY V (some ⟨lb, off, none⟩) l cap) (hl : l.length ≤ 512) (hg : Gl V) (r : Nat) (M : List Lne) (hK : Kn V r M) (m : Nat) (hm : m = l.length) :
    Calls Tryd.prog 45 #[.slice (some ⟨lb, off, none⟩) m cap, .map (some r)] V fun e V' => ∃ d ko kc wv ev ok, TellR V V' l e d ko kc wv ev ok := by
  obtain ⟨w1, hw1⟩ : ∃ w1, w1 = (V.alloc (.cells #[.int .u8 0, .int .u8 0, .int .i64 0, .slice none 0 0, .string ⟨#[]⟩, .int .u32 0, .int .i64 0, .int .u64 0, .int .u64 0, .int .i64 0, .string ⟨#[]⟩, .bool false, .bool false, .slice none 0 0, .nilFunc] 75)).alloc (.cells #[.int .u8 32] 5 (1, 2)) := ⟨_, rfl⟩
  have hcc : (convert 34 34 (.slice (some ⟨V.heap.size + 1, 0, none⟩) 1 1)).run Tryd.prog ((V.alloc (.cells #[.int .u8 0, .int .u8 0, .int .i64 0, .slice none 0 0, .string ⟨#[]⟩, .int .u32 0, .int .i64 0, .int .u64 0, .int .u64 0, .int .i64 0, .string ⟨#[]⟩, .bool false, .bool false, .slice none 0 0, .nilFunc] 75)).alloc (.cells #[.int .u8 32] 5)) = .ok (.slice (some ⟨V.heap.size + 1, 0, none⟩) 1 1) w1 := by
    have h := Lib.run_convert_bytes_const (P := Tryd.prog) (V.alloc (.cells #[.int .u8 0, .int .u8 0, .int .i64 0, .slice none 0 0, .string ⟨#[]⟩, .int .u32 0, .int .i64 0, .int .u64 0, .int .u64 0, .int .i64 0, .string ⟨#[]⟩, .bool false, .bool false, .slice none 0 0, .nilFunc] 75)) 34 5 #[.int .u8 32] 1 1 Tryd.underlying34 Tryd.underlying5
    rw [hw1]
    simpa using h
  have hB1 : Below V.heap.size V w1 := by rw [hw1]; exact ((Below.refl _ _).alloc (Nat.le_refl _) _).alloc (by simp) _
  have hs1 : w1.heap.size = V.heap.size + 2 := by rw [hw1]; simp
  have hc1 : w1.cell? ⟨V.heap.size + 1, 0, none⟩ = some (.int .u8 32) := by
    rw [hw1]
    have h := World.cell?_alloc_mark (V.alloc (.cells #[.int .u8 0, .int .u8 0, .int .i64 0, .slice none 0 0, .string ⟨#[]⟩, .int .u32 0, .int .i64 0, .int .u64 0, .int .u64 0, .int .i64 0, .string ⟨#[]⟩, .bool false, .bool false, .slice none 0 0, .nilFunc] 75)) #[.int .u8 32] 5 (1, 2) 0
    simpa using h
  have hbx1 : GBx w1 V.heap.size (zd.cl (.slice none 0 0) (.slice none 0 0) .nilFunc) := by
    rw [hw1]
    exact (GBx.made V (zd.cl (.slice none 0 0) (.slice none 0 0) .nilFunc) 75).alloc _
  have HSP := Hid.mk2 (split_any w1 lb off cap l (hr.below hB1) (by omega) (V.heap.size + 1) 1 hc1 (hg.below hB1) m hm)
  have HTD : Hid (∀ w2 X, Spl w1 w2 lb l X → Td V (w2.alloc (.cells #[.int .u8 0, .int .u8 0, .int .i64 0, .slice none 0 0, .string ⟨#[]⟩, .int .u32 0, .int .i64 0, .int .u64 0, .int .u64 0, .int .i64 0, .string ⟨#[]⟩, .bool false, .bool false, .slice (some ⟨w1.heap.size, 0, none⟩) X.length X.length, .nilFunc] 75)) V.heap.size w2.heap.size l ⟨rz, lw l, none⟩) := by
    intro w2 X h
    have hsz := h.size
    have hBl : lb < V.heap.size ∨ l = [] := by
      by_cases hne : l = []
      · exact .inr hne
      · exact .inl (rd_lt hr lb off rfl hne)
    have ha := g_alloc w2 (.cells #[.int .u8 0, .int .u8 0, .int .i64 0, .slice none 0 0, .string ⟨#[]⟩, .int .u32 0, .int .i64 0, .int .u64 0, .int .u64 0, .int .i64 0, .string ⟨#[]⟩, .bool false, .bool false, .slice (some ⟨w1.heap.size, 0, none⟩) X.length X.length, .nilFunc] 75)
    refine ⟨g_on (g_on hB1 h.below) ha, ⟨none, 0, some ⟨w1.heap.size, 0, none⟩, X.length, X, .nilFunc, ⟨GBx.made w2 ((⟨rz, lw l, none⟩ : Dr).cl (.slice none 0 0) (.slice (some ⟨w1.heap.size, 0, none⟩) X.length X.length) .nilFunc) 75, by have := hg.n; omega, Rx.nil, ⟨h.rows.below ha, fun g o e _ => by cases e; omega⟩, fun x hx => ⟨(h.each x hx).1.below ha, fun g o e hne => ?_⟩, ⟨by have := h.len.1; omega, fun x hx => by have := h.len.2 x hx; omega⟩, h.ws, ⟨fun g o e => by (cases e), fun p q e => by (cases e)⟩, .no⟩⟩, (hbx1.below h.below).below ha, by omega, by omega, Nat.le_refl _⟩
    obtain ⟨o2, e2⟩ := (h.each x hx).2
    rw [e] at e2
    cases e2
    rcases hBl with h3 | h3
    · omega
    · have h4 := h.len.2 x hx
      rw [h3] at h4
      exact absurd (List.eq_nil_of_length_eq_zero (by simpa using h4)) hne
  have HGL := Hid.mk2 (fun W (h : Below V.heap.size V W) => hg.below h)
  have HKN := Hid.mk2 (fun W (h : Below V.heap.size V W) => hK.below h)
  have hls := lw_ne l
  obtain ⟨a, tl, hat⟩ : ∃ a tl, lw l = a :: tl := by
    cases h : lw l with
    | nil => exact absurd h hls
    | cons a tl => exact ⟨a, tl, rfl⟩
  have HAT := Hid.mk2 hat
  have HSY := Hid.mk2 (hK.says a)
  clear hls hat hw1 hB1 hs1 hc1 hbx1 hr hl hg hK hm
  rcases HSY.out with ⟨hno, hln⟩ | ⟨x, hx, hyes, htl⟩
  · have HNO := Hid.mk2 hno
    have HTW : Hid (tellW (lw l) = none) := by show _ = _; rw [HAT.out]; exact tell_none hln tl
    have hneq : ∀ w : World, (binOp .neq 67 .nilFunc .nilFunc).run Tryd.prog w = .ok (.bool false) w := fun w => by kernel_rfl
    clear HSY hno hln
    go_enter Tryd.func45, Tryd.ntmps45
    go_wp2_with (first
      | (go_at_call 70; refine HSP.out.mono ?_; rintro e w2 ⟨X, rfl, hS⟩; have HT0 := Hid.mk2 (HTD.out w2 X hS); have hst := store_nil w2 (.slice (some ⟨w1.heap.size, 0, none⟩) X.length X.length); clear hS HTD HSP)
      | (go_at_call 56; refine (next_any _ _ _ HT0.out.dw).mono ?_; rintro e w3 ⟨he, hD3, hG3⟩; dsimp only at he hD3; rw [HAT.out] at he hD3; dsimp only [List.headD_cons, List.tail_cons] at he hD3; subst he; have HT9 := Hid.mk2 (HT0.out.on hD3 hG3); have hlk := look_no (HKN.out w3 HT9.out.below).mp a HNO.out; clear hD3 hG3 hst; obtain ⟨ko, kc, wo, nn, wc, ev, hbx, hone, hans⟩ := HT9.out.answer; obtain ⟨CS, hCS⟩ : ∃ CS, CS = ((⟨rz, tl, none⟩ : Dr)).cl (.slice ko ((⟨rz, tl, none⟩ : Dr)).r.cmd.keys.length kc) (.slice wo nn wc) ev := ⟨_, rfl⟩; have HCI : Hid ((Tryd.prog.info? 75).map (·.size) = some CS.length) := (by show _ = _; rw [hCS, Dr.cl_len]; kernel_rfl); have HLN : Hid ((zd.cl (.slice none 0 0) (.slice none 0 0) .nilFunc).length = CS.length) := (by show _ = _; rw [hCS, Dr.cl_len, Dr.cl_len]); rw [← hCS] at hbx hone hans; have HBX := Hid.mk2 hbx; have HONE := Hid.mk2 hone; have HANS := Hid.mk2 hans; have HRES := Hid.mk2 HT9.out.res; clear hbx hone hans hCS)
      | (refine ywpl_load rfl 75 _ rfl w2.heap.size rfl CS HBX.out _ Tryd.underlying75 rfl HCI.out ?_) | (refine ywpl_store rfl 75 _ _ rfl V.heap.size CS (zd.cl (.slice none 0 0) (.slice none 0 0) .nilFunc) rfl rfl HCI.out HRES.out HLN.out HONE.out ?_))
    (try simp only [Exit.inBlock, Exit.then])
    obtain ⟨h1, h2⟩ := HANS.out _ rfl
    refine bodyPost_ret (res_cell rfl rfl (load_var h1 75 _ Tryd.underlying75 rfl HCI.out)) rfl ?_
    exact ⟨_, _, _, _, _, _, h2 false (.inr ⟨rfl, HTW.out⟩)⟩
  · have HYES := Hid.mk2 hyes
    have HTL := Hid.mk2 (htl tl)
    have HFN := Hid.mk2 (fun W (h : Below V.heap.size V W) => (HKN.out W h).fn x hx)
    obtain ⟨xs, ⟨g, lbx⟩, F⟩ := x
    dsimp only at HYES HTL HFN
    have hneq : ∀ w : World, (binOp .neq 67 (.func (.func g) #[] lbx) .nilFunc).run Tryd.prog w = .ok (.bool true) w := fun w => by kernel_rfl
    have eg := (HFN.out V (Below.refl _ _)).en
    dsimp only at eg
    rw [← HAT.out] at HTL
    clear HSY hyes htl hx
    cases hY : tellW (lw l) with
    | none =>
      rw [hY] at HTL
      have HTW := Hid.mk2 hY
      clear hY
      go_enter Tryd.func45, Tryd.ntmps45
      go_wp2_with (first
        | (go_at_call 70; refine HSP.out.mono ?_; rintro e w2 ⟨X, rfl, hS⟩; have HT0 := Hid.mk2 (HTD.out w2 X hS); have hst := store_nil w2 (.slice (some ⟨w1.heap.size, 0, none⟩) X.length X.length); clear hS HTD HSP)
        | (go_at_call 56; refine (next_any _ _ _ HT0.out.dw).mono ?_; rintro e w3 ⟨he, hD3, hG3⟩; dsimp only at he hD3; rw [HAT.out] at he hD3; dsimp only [List.headD_cons, List.tail_cons] at he hD3; subst he; have HT3 := Hid.mk2 (HT0.out.on hD3 hG3); have hlk := look_yes (HKN.out w3 HT3.out.below).mp a _ HYES.out; dsimp only at hlk; clear hD3 hG3 hst)
        | (go_at_fn g; refine ((HFN.out V (Below.refl _ _)).says w3 (g_grown HT3.out.below none) (HGL.out w3 HT3.out.below) _ _ HT3.out.lb HT3.out.dw).mono ?_; intro e w4 hT; obtain ⟨he, ⟨d2, hD2⟩, hG2⟩ := hT.no HTL.out; subst he; have HT9 := Hid.mk2 (HT3.out.on hD2 hG2); clear hT hD2 hG2; obtain ⟨ko, kc, wo, nn, wc, ev, hbx, hone, hans⟩ := HT9.out.answer; obtain ⟨CS, hCS⟩ : ∃ CS, CS = (d2).cl (.slice ko (d2).r.cmd.keys.length kc) (.slice wo nn wc) ev := ⟨_, rfl⟩; have HCI : Hid ((Tryd.prog.info? 75).map (·.size) = some CS.length) := (by show _ = _; rw [hCS, Dr.cl_len]; kernel_rfl); have HLN : Hid ((zd.cl (.slice none 0 0) (.slice none 0 0) .nilFunc).length = CS.length) := (by show _ = _; rw [hCS, Dr.cl_len, Dr.cl_len]); rw [← hCS] at hbx hone hans; have HBX := Hid.mk2 hbx; have HONE := Hid.mk2 hone; have HANS := Hid.mk2 hans; have HRES := Hid.mk2 HT9.out.res; clear hbx hone hans hCS)
        | (refine ywpl_load rfl 75 _ rfl w2.heap.size rfl CS HBX.out _ Tryd.underlying75 rfl HCI.out ?_) | (refine ywpl_store rfl 75 _ _ rfl V.heap.size CS (zd.cl (.slice none 0 0) (.slice none 0 0) .nilFunc) rfl rfl HCI.out HRES.out HLN.out HONE.out ?_))
      (try simp only [Exit.inBlock, Exit.then])
      obtain ⟨h1, h2⟩ := HANS.out _ rfl
      refine bodyPost_ret (res_cell rfl rfl (load_var h1 75 _ Tryd.underlying75 rfl HCI.out)) rfl ?_
      exact ⟨_, _, _, _, _, _, h2 false (.inr ⟨rfl, HTW.out⟩)⟩
    | some d2 =>
      rw [hY] at HTL
      have HTW := Hid.mk2 hY
      clear hY
      go_enter Tryd.func45, Tryd.ntmps45
      go_wp2_with (first
        | (go_at_call 70; refine HSP.out.mono ?_; rintro e w2 ⟨X, rfl, hS⟩; have HT0 := Hid.mk2 (HTD.out w2 X hS); have hst := store_nil w2 (.slice (some ⟨w1.heap.size, 0, none⟩) X.length X.length); clear hS HTD HSP)
        | (go_at_call 56; refine (next_any _ _ _ HT0.out.dw).mono ?_; rintro e w3 ⟨he, hD3, hG3⟩; dsimp only at he hD3; rw [HAT.out] at he hD3; dsimp only [List.headD_cons, List.tail_cons] at he hD3; subst he; have HT3 := Hid.mk2 (HT0.out.on hD3 hG3); have hlk := look_yes (HKN.out w3 HT3.out.below).mp a _ HYES.out; dsimp only at hlk; clear hD3 hG3 hst)
        | (go_at_fn g; refine ((HFN.out V (Below.refl _ _)).says w3 (g_grown HT3.out.below none) (HGL.out w3 HT3.out.below) _ _ HT3.out.lb HT3.out.dw).mono ?_; intro e w4 hT; obtain ⟨he, hD2, hG2⟩ := hT.yes HTL.out; subst he; have HT9 := Hid.mk2 (HT3.out.on hD2 hG2); clear hT hD2 hG2; obtain ⟨ko, kc, wo, nn, wc, ev, hbx, hone, hans⟩ := HT9.out.answer; obtain ⟨CS, hCS⟩ : ∃ CS, CS = (d2).cl (.slice ko (d2).r.cmd.keys.length kc) (.slice wo nn wc) ev := ⟨_, rfl⟩; have HCI : Hid ((Tryd.prog.info? 75).map (·.size) = some CS.length) := (by show _ = _; rw [hCS, Dr.cl_len]; kernel_rfl); have HLN : Hid ((zd.cl (.slice none 0 0) (.slice none 0 0) .nilFunc).length = CS.length) := (by show _ = _; rw [hCS, Dr.cl_len, Dr.cl_len]); rw [← hCS] at hbx hone hans; have HBX := Hid.mk2 hbx; have HONE := Hid.mk2 hone; have HANS := Hid.mk2 hans; have HRES := Hid.mk2 HT9.out.res; clear hbx hone hans hCS)
        | (refine ywpl_load rfl 75 _ rfl w2.heap.size rfl CS HBX.out _ Tryd.underlying75 rfl HCI.out ?_) | (refine ywpl_store rfl 75 _ _ rfl V.heap.size CS (zd.cl (.slice none 0 0) (.slice none 0 0) .nilFunc) rfl rfl HCI.out HRES.out HLN.out HONE.out ?_))
      (try simp only [Exit.inBlock, Exit.then])
      obtain ⟨h1, h2⟩ := HANS.out _ rfl
      refine bodyPost_ret (res_cell rfl rfl (load_var h1 75 _ Tryd.underlying75 rfl HCI.out)) rfl ?_
      exact ⟨_, _, _, _, _, _, h2 true (.inl ⟨rfl, HTW.out⟩)⟩
end Go.Proofs.YtldnkminhppngaaDoor
/-
  A value's end: what valueOf makes.
-/
namespace Go.Proofs.YtldnkminhppngaaDoor
open Go.Proofs.YtldnkminhppngaaDoor.It
open Go.RowKit
set_option linter.unusedSimpArgs false
set_option linter.unusedVariables false
set_option maxRecDepth 100000

structure EndR (B : Nat) (V V' : World) (x : Rq × Nat) (e : Ending) : Prop where
  ex : ∃ ko kc, e = .returned (.tuple #[.agg (x.1.arr (.slice ko x.1.cmd.keys.length kc)), .int .i64 (x.2 : Int)]) ∧ GRd ES V' ko x.1.cmd.keys kc ∧ ∀ g o, ko = some ⟨g, o, none⟩ → x.1.cmd.keys ≠ [] → B ≤ g
  below : Below V.heap.size V V'
theorem GBx.made2 (w : World) (vs : List Value) (t : TypeId) (b : Nat) (hb : b = w.heap.size) : GBx (w.alloc (.cells vs.toArray t)) b vs := by subst hb; exact GBx.made w vs t
theorem GRd.sub {V : World} {b o cap : Nat} {l : List UInt8} (h : GRd EY V (some ⟨b, o, none⟩) l cap) (i k : Nat) (hk : i + k ≤ l.length) : GRd EY V (some ⟨b, o + i, none⟩) ((l.drop i).take k) (cap - i) := by
  have hl := h.hl
  have hlen : ((l.drop i).take k).length = k := by rw [List.length_take, List.length_drop]; omega
  refine ⟨by omega, Nat.le_trans (Nat.sub_le _ _) h.hc, (fun e => by cases e), ?_⟩
  by_cases hne : l = []
  · subst hne
    exact .inl (by simp)
  · obtain ⟨b', o', e, hb, hc⟩ := h.lies hne
    cases e
    refine .inr ⟨b, o + i, rfl, hb, fun x hx j hj => ?_⟩
    have hj0 : j = 0 := by have : j < 1 := hj; omega
    subst hj0
    have h2 := hc (i + x) (by omega) 0 (by decide)
    have e1 : o + i + x * EY.sz + 0 = o + (i + x) * EY.sz + 0 := by show o + i + x * 1 + 0 = o + (i + x) * 1 + 0; omega
    rw [e1, h2]
    congr 1
    rw [List.getElem_take, List.getElem_drop]
theorem GRd.tk {V : World} {b o cap : Nat} {l : List UInt8} (h : GRd EY V (some ⟨b, o, none⟩) l cap) (k : Nat) (hk : k ≤ l.length) : GRd EY V (some ⟨b, o, none⟩) (l.take k) cap := by
  have := h.sub 0 k (by omega)
  rw [List.drop_zero, Nat.add_zero, Nat.sub_zero] at this
  exact this
theorem req_info (r : Rq) (v : Value) : (Tryd.prog.info? 28).map (·.size) = some (r.cl v).length := by kernel_rfl
theorem end_new {B : Nat} {V W : World} {x : Rq} {k : Nat} {ko : Option Addr} {kc : Nat} {fn : Func} {s t : Tmp} {tmps : Array Value} {b : Nat} (h : fn.results = #[.cell s 28, .tmp t]) (hs : tmps.getD s undef = .pointer (some ⟨b, 0, none⟩)) (ht : tmps.getD t undef = .int .i64 (k : Int)) (hb : GBx W b (x.cl (.slice ko x.cmd.keys.length kc))) (hk : GRd ES W ko x.cmd.keys kc) (hkb : ∀ g o, ko = some ⟨g, o, none⟩ → x.cmd.keys ≠ [] → B ≤ g) (hB : Below V.heap.size V W) :
    (results fn tmps).run Tryd.prog W = .ok (.tuple #[.agg (x.arr (.slice ko x.cmd.keys.length kc)), .int .i64 (k : Int)]) W ∧ EndR B V W (x, k) (.returned (.tuple #[.agg (x.arr (.slice ko x.cmd.keys.length kc)), .int .i64 (k : Int)])) := by
  refine ⟨?_, ⟨ko, kc, rfl, hk, hkb⟩, hB⟩
  have h1 := res_cell (t := t) h hs (load_var hb 28 _ Tryd.underlying28 rfl (req_info _ _))
  rw [ht] at h1
  exact h1
theorem end_post {B : Nat} {V W : World} {x : Rq} {k : Nat} {ko : Option Addr} {kc : Nat} {fn : Func} {s t : Tmp} {a : Act} {b : Nat} (h : fn.results = #[.cell s 28, .tmp t]) (hs : a.tmps.getD s undef = .pointer (some ⟨b, 0, none⟩)) (ht : a.tmps.getD t undef = .int .i64 (k : Int)) (hd : a.defers = []) (hb : GBx W b (x.cl (.slice ko x.cmd.keys.length kc))) (hk : GRd ES W ko x.cmd.keys kc) (hkb : ∀ g o, ko = some ⟨g, o, none⟩ → x.cmd.keys ≠ [] → B ≤ g) (hB : Below V.heap.size V W) :
    bodyPost Tryd.prog fn (fun e V' => EndR B V V' (x, k) e) .ret a W := by
  obtain ⟨h1, h2⟩ := end_new (V := V) h hs ht hb hk hkb hB
  exact bodyPost_ret h1 hd h2

set_option maxHeartbeats 2000000 in
theorem value1_any (B : Nat) (V : World) (r : Rq) (ko : Option Addr) (kc : Nat) (hk : GRd ES V ko r.cmd.keys kc) (hkb : ∀ g o, ko = some ⟨g, o, none⟩ → r.cmd.keys ≠ [] → B ≤ g) (bb bo bc : Nat) (L : List UInt8) (hb : GRd EY V (some ⟨bb, bo, none⟩) L bc) (hL : L.length ≤ 20000) (n p q : Nat) (hn : n ≤ 512)
    (cp : V.cell? ⟨p, 0, none⟩ = some (.int .i64 (n + 2 : Nat))) (cq : V.cell? ⟨q, 0, none⟩ = some (.int .i64 (n : Nat))) (m : Nat) (hm : m = L.length) :
    Calls Tryd.prog 62 #[.agg (r.arr (.slice ko r.cmd.keys.length kc)), .slice (some ⟨bb, bo, none⟩) m bc, .pointer (some ⟨p, 0, none⟩), .pointer (some ⟨q, 0, none⟩)] V fun e V' => EndR B V V' (endW r n L) e := by
  have cp2 : V.cell? ⟨p, 0, none⟩ = some (.int .i64 ((n : Int) + 2)) := by rw [cp]; simp
  have hmc : m ≤ bc := by rw [hm]; exact hb.hl
  have hbc := hb.hc
  have hlp := Lib.lt_of_cell cp
  have hlq := Lib.lt_of_cell cq
  dsimp only at hlp hlq
  have hni : (n : Int) ≤ 512 := by omega
  have hmi : (m : Int) ≤ 20000 := by omega
  have hbci : (bc : Int) ≤ 9223372036854775807 := by omega
  have HK := Hid.mk2 hk
  have HKB := Hid.mk2 hkb
  have HM := Hid.mk2 hm
  have HB := Hid.mk2 hb
  obtain ⟨rk, ⟨ck, ct, keys, value, fl, li, un, byn⟩, rt, sec, on, close⟩ := r
  dsimp only at HK HKB ⊢
  obtain ⟨kl, hkl⟩ : ∃ kl, kl = keys.length := ⟨_, rfl⟩
  have HKL := Hid.mk2 hkl
  unfold Rq.arr
  dsimp only
  rw [← hkl]
  by_cases hlt : m < n + 2
  · have h1 : (m : Int) < (n : Int) + 2 := by omega
    have HE : Hid (endW ⟨rk, ⟨ck, ct, keys, value, fl, li, un, byn⟩, rt, sec, on, close⟩ n L = (rz, 0)) := by
      show _ = _
      unfold endW
      rw [if_pos (by rw [← hm]; exact hlt)]
    clear hk hkb hm hb hkl hlt cp
    go_enter Tryd.func62, Tryd.ntmps62
    go_wp2
    rw [HE.out]
    exact end_post (ko := none) (kc := 0) rfl rfl rfl rfl (GBx.made2 (V.alloc _) (rz.cl (.slice none 0 0)) 28 (V.heap.size + 1) (by simp)) (GRd.nil _) (fun g o e => by (cases e)) (((Below.refl _ V).alloc (Nat.le_refl _) _).alloc (by simp) _)
  · have h1 : ¬ (m : Int) < (n : Int) + 2 := by omega
    have hn1 : ¬ bc - n = 0 := by omega
    have hn2 : ¬ bc = n := by omega
    have hln : n + 2 ≤ L.length := by omega
    have hcv := fun (W : World) (h : Below V.heap.size V W) => conv_rd ((hb.below h).sub n 2 hln)
    have hl2 : ((L.drop n).take 2).length = 2 := by rw [List.length_take, List.length_drop]; omega
    rw [hl2] at hcv
    obtain ⟨S, hS⟩ : ∃ S : ByteArray, S = ⟨((L.drop n).take 2).toArray⟩ := ⟨_, rfl⟩
    rw [← hS] at hcv
    have HA := Hid.mk2 (fun o => (Below.refl V.heap.size V).alloc (Nat.le_refl _) o)
    have hcv1 := hcv _ (((Below.refl _ V).alloc (Nat.le_refl _) (.cells #[.int .u8 rk, .int .u8 ck, .int .i64 ct, .slice ko kl kc, .string value, .int .u32 fl, .int .i64 li, .int .u64 un, .int .u64 byn, .int .i64 rt, .string sec, .bool on, .bool close] 28)).alloc (by simp) (.cells #[.int .u8 0, .int .u8 0, .int .i64 0, .slice none 0 0, .string ⟨#[]⟩, .int .u32 0, .int .i64 0, .int .u64 0, .int .u64 0, .int .i64 0, .string ⟨#[]⟩, .bool false, .bool false] 28))
    have hnm : (n : Int) ≤ (n : Int) + 2 := by omega
    have hnb : (n : Int) + 2 ≤ (bc : Int) := by omega
    have hes := str_eqb S [13, 10]
    obtain ⟨B1, hB1⟩ : ∃ B1, (S.toList == [13, 10]) = B1 := ⟨_, rfl⟩
    rw [hB1] at hes
    have HES := Hid.mk2 hes
    have HSS := Hid.mk2 hS
    have hcv2 := fun (W : World) (h : Below V.heap.size V W) => conv_rd ((hb.below h).tk n (by omega))
    have hlt2 : (L.take n).length = n := by rw [List.length_take]; omega
    rw [hlt2] at hcv2
    obtain ⟨S2, hS2⟩ : ∃ S2 : ByteArray, S2 = ⟨(L.take n).toArray⟩ := ⟨_, rfl⟩
    rw [← hS2] at hcv2
    have HS2 := Hid.mk2 hS2
    have hcv3 := hcv2 _ (((Below.refl _ V).alloc (Nat.le_refl _) (.cells #[.int .u8 rk, .int .u8 ck, .int .i64 ct, .slice ko kl kc, .string value, .int .u32 fl, .int .i64 li, .int .u64 un, .int .u64 byn, .int .i64 rt, .string sec, .bool on, .bool close] 28)).alloc (by simp) (.cells #[.int .u8 0, .int .u8 0, .int .i64 0, .slice none 0 0, .string ⟨#[]⟩, .int .u32 0, .int .i64 0, .int .u64 0, .int .u64 0, .int .i64 0, .string ⟨#[]⟩, .bool false, .bool false] 28))
    have hnb2 : (n : Int) ≤ (bc : Int) := by omega
    clear hk hkb hm hb hkl hlt cp hcv hl2 hes hS HA hcv2 hlt2 hS2
    cases B1 with
    | false =>
      have HE : Hid (endW ⟨rk, ⟨ck, ct, keys, value, fl, li, un, byn⟩, rt, sec, on, close⟩ n L = (bad true, n + 2)) := by
        show _ = _
        unfold endW
        have h9 := of_decide_eq_false HES.out.symm
        rw [if_neg (by omega), if_neg]
        intro e
        apply h9
        rw [HSS.out, e]
        rfl
      go_enter Tryd.func62, Tryd.ntmps62
      go_wp2
      go_region
      all_goals go_wp2
      rw [HE.out]
      exact end_post (ko := none) (kc := 0) rfl rfl (by first | rfl | simp) rfl ((GBx.made2 (V.alloc _) ((bad true).cl (.slice none 0 0)) 28 (V.heap.size + 1) (by simp)).below ((Below.refl _ _).drew)) (GRd.nil _) (fun g o e => by (cases e)) ((((Below.refl _ V).alloc (Nat.le_refl _) _).alloc (by simp) _).drew)
    | true =>
      have HE : Hid (endW ⟨rk, ⟨ck, ct, keys, value, fl, li, un, byn⟩, rt, sec, on, close⟩ n L = (withV ⟨rk, ⟨ck, ct, keys, value, fl, li, un, byn⟩, rt, sec, on, close⟩ (mkB (L.take n)), n + 2)) := by
        show _ = _
        unfold endW
        have h9 : S = mkB [13, 10] := of_decide_eq_true HES.out.symm
        rw [if_neg (by omega), if_pos]
        have h8 := congrArg bl (HSS.out.symm.trans h9)
        rw [bl_mkB, bl_mk] at h8
        exact h8
      go_enter Tryd.func62, Tryd.ntmps62
      go_wp2
      go_region
      all_goals go_wp2
      rw [HE.out, show mkB (L.take n) = S2 from HS2.out.symm]
      have hkl := HKL.out
      subst hkl
      have hBB := (((Below.refl _ V).alloc (Nat.le_refl _) (.cells #[.int .u8 rk, .int .u8 ck, .int .i64 ct, .slice ko keys.length kc, .string S2, .int .u32 fl, .int .i64 li, .int .u64 un, .int .u64 byn, .int .i64 rt, .string sec, .bool on, .bool close] 28)).alloc (by simp) (.cells #[.int .u8 rk, .int .u8 ck, .int .i64 ct, .slice ko keys.length kc, .string S2, .int .u32 fl, .int .i64 li, .int .u64 un, .int .u64 byn, .int .i64 rt, .string sec, .bool on, .bool close] 28)).drew
      exact end_post (x := withV ⟨rk, ⟨ck, ct, keys, value, fl, li, un, byn⟩, rt, sec, on, close⟩ S2) (ko := ko) (kc := kc) rfl rfl (by first | rfl | simp) rfl ((GBx.made2 (V.alloc _) ((withV ⟨rk, ⟨ck, ct, keys, value, fl, li, un, byn⟩, rt, sec, on, close⟩ S2).cl (.slice ko keys.length kc)) 28 (V.heap.size + 1) (by simp)).below ((Below.refl _ _).drew)) (HK.out.below hBB) HKB.out hBB
end Go.Proofs.YtldnkminhppngaaDoor
