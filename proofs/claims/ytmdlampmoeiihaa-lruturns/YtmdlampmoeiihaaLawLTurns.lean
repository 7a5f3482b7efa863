/-
  LruTurns: for every order and key (whatever their sizes: those that are great are passed over): Add, Hit, Del, Victim, All and Check answer what the document's own answer; what was handed in stays, also when what was answered is turned.
-/
import Derived.Test.YtmdlampmoeiihaaLrRef6
import Derived.Test.YtmdlampmoeiihaaLrIn
namespace Go.Proofs.Ytmdlampmoeiihaa
open Go.ChangeShapes Go.WideShapes Go.ChangeAt Go.RowKit Go.Shelf Go.Lib Go.Sort
open Go.ChangeMaps (open_string shut_string)
set_option linter.unusedSimpArgs false
set_option linter.unusedVariables false
set_option maxRecDepth 100000

/-- an order in a block, with its rows -/
structure Oj (w : World) (b : Nat) (aT : Option Addr) (n cT : Nat) (aK : Option Addr) (m cK : Nat) (T K : List ByteArray) : Prop where
  ob : OB w b (.slice aT n cT) (.slice aK m cK)
  t : Tl w aT T cT
  k : Tl w aK K cK
theorem Oj.below {w w' : World} {b : Nat} {aT : Option Addr} {n cT : Nat} {aK : Option Addr} {m cK : Nat} {T K : List ByteArray} (h : Oj w b aT n cT aK m cK T K) (hb : Below w.heap.size w w') : Oj w' b aT n cT aK m cK T K := ⟨h.ob.below hb, h.t.below hb, h.k.below hb⟩
theorem Oj.made {w : World} (aT : Option Addr) (n cT : Nat) (aK : Option Addr) (m cK : Nat) {T K : List ByteArray} (hT : Tl w aT T cT) (hK : Tl w aK K cK) : Oj (w.alloc (Obj.cells #[.slice aT n cT, .slice aK m cK] 24)) w.heap.size aT n cT aK m cK T K := ⟨OB.made _ _ _, hT.alloc _, hK.alloc _⟩
theorem below_made {w w' : World} (hb : Below w.heap.size w w') (o : Obj) : Below w.heap.size w (w'.alloc o) := hb.alloc hb.size o
/-- what the calls come to, whatever is asked -/
def oAT (T K : List ByteArray) (k : ByteArray) : List ByteArray := if adE T K k = 0 then k :: T else []
def oAK (T K : List ByteArray) (k : ByteArray) : List ByteArray := if adE T K k = 0 then K else []
def oHT (T K : List ByteArray) (k : ByteArray) : List ByteArray := if htE T K k = 0 then htT T K k else []
def oHK (T K : List ByteArray) (k : ByteArray) : List ByteArray := if htE T K k = 0 then htK T K k else []
def oDT (T K : List ByteArray) (k : ByteArray) : List ByteArray := if htE T K k = 0 then dlT T K k else []
def oDK (T K : List ByteArray) (k : ByteArray) : List ByteArray := if htE T K k = 0 then dlK T K k else []
def oAll (T K : List ByteArray) : List ByteArray := if okO T K = true then (K ++ T).reverse else []
theorem rw_nil (w : World) (base : Nat) : Rw w base none 0 none 0 [] [] := ⟨OwnTs.nil _ _, OwnTs.nil _ _, by intro g h; cases h⟩
theorem uAdd (T K : List ByteArray) (aT aK : Option Addr) (cT cK : Nat) (key : ByteArray) (w : World) (hTl : Tl w aT T cT) (hKl : Tl w aK K cK) (hT : T.length ≤ 300) (hK : K.length ≤ 300) (X Y : List ByteArray) (hX : X = oAT T K key) (hY : Y = oAK T K key) :
    Calls Try.prog 14 #[.agg #[.slice aT T.length cT, .slice aK K.length cK], .string key] w fun e w' => ∃ aT' cT' aK' cK', e = .returned (.tuple #[.agg #[.slice aT' X.length cT', .slice aK' Y.length cK'], .int .i64 (adE T K key)]) ∧ Rw w' w.heap.size aT' cT' aK' cK' X Y ∧ Below w.heap.size w w' := by
  unfold oAT at hX
  unfold oAK at hY
  by_cases hE : adE T K key = 0
  · rw [if_pos hE] at hX hY
    rw [hX, hY, hE]
    refine (add_ok T K aT aK cT cK key w hTl hKl hE).mono ?_
    rintro e w' ⟨a, c, b, d, rfl, hR, hb⟩
    exact ⟨a, c, b, d, rfl, hR, hb⟩
  · rw [if_neg hE] at hX hY
    rw [hX, hY]
    refine (add_bad T K aT aK cT cK key w hTl hKl hT hK hE).mono ?_
    rintro e w' ⟨rfl, hb⟩
    exact ⟨none, 0, none, 0, rfl, rw_nil _ _, hb⟩
theorem uHit (T K : List ByteArray) (aT aK : Option Addr) (cT cK : Nat) (key : ByteArray) (w : World) (hTl : Tl w aT T cT) (hKl : Tl w aK K cK) (hT : T.length ≤ 300) (hK : K.length ≤ 300) (X Y : List ByteArray) (hX : X = oHT T K key) (hY : Y = oHK T K key) :
    Calls Try.prog 12 #[.agg #[.slice aT T.length cT, .slice aK K.length cK], .string key] w fun e w' => ∃ aT' cT' aK' cK', e = .returned (.tuple #[.agg #[.slice aT' X.length cT', .slice aK' Y.length cK'], .int .i64 (htE T K key)]) ∧ Rw w' w.heap.size aT' cT' aK' cK' X Y ∧ Below w.heap.size w w' := by
  unfold oHT at hX
  unfold oHK at hY
  by_cases hE : htE T K key = 0
  · rw [if_pos hE] at hX hY
    rw [hX, hY, hE]
    refine (hit_ok T K aT aK cT cK key w hTl hKl (by have := (htE_zero hE).2.1.many; omega) (by have := (htE_zero hE).2.1.many; omega) hE).mono ?_
    rintro e w' ⟨a, c, b, d, rfl, hR, hb⟩
    exact ⟨a, c, b, d, rfl, hR, hb⟩
  · rw [if_neg hE] at hX hY
    rw [hX, hY]
    refine (hit_bad T K aT aK cT cK key w hTl hKl hT hK hE).mono ?_
    rintro e w' ⟨rfl, hb⟩
    exact ⟨none, 0, none, 0, rfl, rw_nil _ _, hb⟩
theorem uDel (T K : List ByteArray) (aT aK : Option Addr) (cT cK : Nat) (key : ByteArray) (w : World) (hTl : Tl w aT T cT) (hKl : Tl w aK K cK) (hT : T.length ≤ 300) (hK : K.length ≤ 300) (X Y : List ByteArray) (hX : X = oDT T K key) (hY : Y = oDK T K key) :
    Calls Try.prog 13 #[.agg #[.slice aT T.length cT, .slice aK K.length cK], .string key] w fun e w' => ∃ aT' cT' aK' cK', e = .returned (.tuple #[.agg #[.slice aT' X.length cT', .slice aK' Y.length cK'], .int .i64 (htE T K key)]) ∧ Rw w' w.heap.size aT' cT' aK' cK' X Y ∧ Below w.heap.size w w' := by
  unfold oDT at hX
  unfold oDK at hY
  by_cases hE : htE T K key = 0
  · rw [if_pos hE] at hX hY
    rw [hX, hY, hE]
    refine (del_ok T K aT aK cT cK key w hTl hKl hT hK hE).mono ?_
    rintro e w' ⟨a, c, b, d, rfl, hR, hb⟩
    exact ⟨a, c, b, d, rfl, hR, hb⟩
  · rw [if_neg hE] at hX hY
    rw [hX, hY]
    refine (del_bad T K aT aK cT cK key w hTl hKl hT hK hE).mono ?_
    rintro e w' ⟨rfl, hb⟩
    exact ⟨none, 0, none, 0, rfl, rw_nil _ _, hb⟩
theorem vAdd (T K : List ByteArray) (aT aK : Option Addr) (cT cK : Nat) (key : ByteArray) (w : World) (hTl : Tl w aT T cT) (hKl : Tl w aK K cK) (hT : T.length ≤ 300) (hK : K.length ≤ 300) (X Y : List ByteArray) (hX : X = oAT T K key) (hY : Y = oAK T K key) :
    Calls Try.prog 21 #[.agg #[.slice aT T.length cT, .slice aK K.length cK], .string key] w fun e w' => ∃ aT' cT' aK' cK', e = .returned (.tuple #[.agg #[.slice aT' X.length cT', .slice aK' Y.length cK'], .int .i64 (adE T K key)]) ∧ Tl w' aT' X cT' ∧ Tl w' aK' Y cK' ∧ Below w.heap.size w w' := by
  unfold oAT at hX
  unfold oAK at hY
  by_cases hE : adE T K key = 0
  · rw [if_pos hE] at hX hY
    rw [hX, hY, hE]
    refine (radd_ok T K aT aK cT cK key w hTl hKl hT hK hE).mono ?_
    rintro e w' ⟨a, c, b, d, rfl, h1, h2, _, _, hb⟩
    exact ⟨a, c, b, d, rfl, h1, h2, hb⟩
  · rw [if_neg hE] at hX hY
    rw [hX, hY]
    refine (radd_bad T K aT aK cT cK key w hTl hKl hT hK hE).mono ?_
    rintro e w' ⟨rfl, hb⟩
    exact ⟨none, 0, none, 0, rfl, Tl.nil _, Tl.nil _, hb⟩
theorem vHit (T K : List ByteArray) (aT aK : Option Addr) (cT cK : Nat) (key : ByteArray) (w : World) (hTl : Tl w aT T cT) (hKl : Tl w aK K cK) (hT : T.length ≤ 300) (hK : K.length ≤ 300) (X Y : List ByteArray) (hX : X = oHT T K key) (hY : Y = oHK T K key) :
    Calls Try.prog 22 #[.agg #[.slice aT T.length cT, .slice aK K.length cK], .string key] w fun e w' => ∃ aT' cT' aK' cK', e = .returned (.tuple #[.agg #[.slice aT' X.length cT', .slice aK' Y.length cK'], .int .i64 (htE T K key)]) ∧ Tl w' aT' X cT' ∧ Tl w' aK' Y cK' ∧ Below w.heap.size w w' := by
  unfold oHT at hX
  unfold oHK at hY
  by_cases hE : htE T K key = 0
  · rw [if_pos hE] at hX hY
    rw [hX, hY, hE]
    refine (rhit_ok T K aT aK cT cK key w hTl hKl hT hK hE).mono ?_
    rintro e w' ⟨a, c, b, d, rfl, h1, h2, _, _, hb⟩
    exact ⟨a, c, b, d, rfl, h1, h2, hb⟩
  · rw [if_neg hE] at hX hY
    rw [hX, hY]
    refine (rhit_bad T K aT aK cT cK key w hTl hKl hT hK hE).mono ?_
    rintro e w' ⟨rfl, hb⟩
    exact ⟨none, 0, none, 0, rfl, Tl.nil _, Tl.nil _, hb⟩
theorem vDel (T K : List ByteArray) (aT aK : Option Addr) (cT cK : Nat) (key : ByteArray) (w : World) (hTl : Tl w aT T cT) (hKl : Tl w aK K cK) (hT : T.length ≤ 300) (hK : K.length ≤ 300) (X Y : List ByteArray) (hX : X = oDT T K key) (hY : Y = oDK T K key) :
    Calls Try.prog 23 #[.agg #[.slice aT T.length cT, .slice aK K.length cK], .string key] w fun e w' => ∃ aT' cT' aK' cK', e = .returned (.tuple #[.agg #[.slice aT' X.length cT', .slice aK' Y.length cK'], .int .i64 (htE T K key)]) ∧ Tl w' aT' X cT' ∧ Tl w' aK' Y cK' ∧ Below w.heap.size w w' := by
  unfold oDT at hX
  unfold oDK at hY
  by_cases hE : htE T K key = 0
  · rw [if_pos hE] at hX hY
    rw [hX, hY, hE]
    refine (rdel_ok T K aT aK cT cK key w hTl hKl hT hK hE).mono ?_
    rintro e w' ⟨a, c, b, d, rfl, h1, h2, _, _, hb⟩
    exact ⟨a, c, b, d, rfl, h1, h2, hb⟩
  · rw [if_neg hE] at hX hY
    rw [hX, hY]
    refine (rdel_bad T K aT aK cT cK key w hTl hKl hT hK hE).mono ?_
    rintro e w' ⟨rfl, hb⟩
    exact ⟨none, 0, none, 0, rfl, Tl.nil _, Tl.nil _, hb⟩
theorem uAll (T K : List ByteArray) (aT aK : Option Addr) (cT cK : Nat) (w : World) (hTl : Tl w aT T cT) (hKl : Tl w aK K cK) (hT : T.length ≤ 300) (hK : K.length ≤ 300) (M : List ByteArray) (hM : M = oAll T K) :
    Calls Try.prog 11 #[.agg #[.slice aT T.length cT, .slice aK K.length cK]] w fun e w' => ∃ ao cap, e = .returned (.tuple #[.slice ao M.length cap, .int .i64 (chk T K)]) ∧ Tl w' ao M cap ∧ Below w.heap.size w w' := by
  unfold oAll at hM
  by_cases h : Ok T K
  · rw [if_pos (okO_iff.2 h)] at hM
    subst hM
    rw [chk_ok h]
    refine (all_ok T K aT aK cT cK w hTl hKl hT hK h).mono ?_
    rintro e w' ⟨a, c, rfl, hO, hb⟩
    obtain ⟨ax, cx, e, hh⟩ := hO.tl
    cases e
    exact ⟨_, _, rfl, hh, hb⟩
  · rw [if_neg (fun e => h (okO_iff.1 e))] at hM
    subst hM
    rw [chk_bad h]
    refine (all_bad T K aT aK cT cK w hTl hKl hT hK h).mono ?_
    rintro e w' ⟨rfl, hb⟩
    exact ⟨none, 0, rfl, Tl.nil _, hb⟩
theorem vAll (T K : List ByteArray) (aT aK : Option Addr) (cT cK : Nat) (w : World) (hTl : Tl w aT T cT) (hKl : Tl w aK K cK) (hT : T.length ≤ 300) (hK : K.length ≤ 300) (M : List ByteArray) (hM : M = oAll T K) :
    Calls Try.prog 25 #[.agg #[.slice aT T.length cT, .slice aK K.length cK]] w fun e w' => ∃ ao cap, e = .returned (.tuple #[.slice ao M.length cap, .int .i64 (chk T K)]) ∧ Tl w' ao M cap ∧ Below w.heap.size w w' := by
  unfold oAll at hM
  by_cases h : Ok T K
  · rw [if_pos (okO_iff.2 h)] at hM
    subst hM
    rw [chk_ok h]
    refine (rall_ok T K aT aK cT cK w hTl hKl hT hK h).mono ?_
    rintro e w' ⟨a, c, rfl, hO, hb⟩
    exact ⟨_, _, rfl, hO, hb⟩
  · rw [if_neg (fun e => h (okO_iff.1 e))] at hM
    subst hM
    rw [chk_bad h]
    refine (rall_bad T K aT aK cT cK w hTl hKl hT hK h).mono ?_
    rintro e w' ⟨rfl, hb⟩
    exact ⟨none, 0, rfl, Tl.nil _, hb⟩
/-- a row's cells may be written to -/
def Opn (w : World) (lo hi : Nat) (ao : Option Addr) (n : Nat) : Prop := ∀ j, j < n → ∃ g, ao = some ⟨g, 0, none⟩ ∧ lo ≤ g ∧ g < hi ∧ (w.cell? ⟨g, j, none⟩).isSome = true ∧ w.frozen? ⟨g, j, none⟩ = false
theorem Opn.set {w : World} {lo hi : Nat} {ao : Option Addr} {n : Nat} (h : Opn w lo hi ao n) (p : Addr) (v : Value) : Opn (w.setCell p v) lo hi ao n := fun j hj => by
  obtain ⟨g, e, h1, h2, h3, h4⟩ := h j hj
  refine ⟨g, e, h1, h2, ?_, by rw [World.frozen?_setCell]; exact h4⟩
  obtain ⟨x, hx⟩ := Option.isSome_iff_exists.1 h3
  by_cases ep : (⟨g, j, none⟩ : Addr) = p
  · rw [← ep, World.cell?_setCell_same _ _ _ hx]
    rfl
  · rw [World.cell?_setCell_other _ _ _ _ (fun e => ep e.symm)]
    exact h3
theorem OwnTs.opn {w : World} {base : Nat} {ao : Option Addr} {cap : Nat} {ks : List ByteArray} (h : OwnTs w base (.slice ao ks.length cap) ks) : Opn w base w.heap.size ao ks.length := fun j hj => by
  rcases h.parts with ⟨e, e2⟩ | ⟨g, cap', cur, e, hb, hg, hs, hn, hm, hc⟩
  · rw [e2] at hj; simp at hj
  · cases e
    exact ⟨g, rfl, hb, (Array.getElem?_eq_some_iff.1 hg).1, by rw [hc j hj]; rfl, frozen_of_heap hg _⟩
theorem Opn.below {w w' : World} {lo hi : Nat} {ao : Option Addr} {n : Nat} (h : Opn w lo hi ao n) (hb : Below w.heap.size w w') (hh : hi ≤ w.heap.size) : Opn w' lo hi ao n := fun j hj => by
  obtain ⟨g, e, h1, h2, h3, h4⟩ := h j hj
  exact ⟨g, e, h1, h2, by rw [below_cells hb g j (by omega)]; exact h3, by rw [below_frozen hb g j (by omega)]; exact h4⟩
/-- what stays while answers are turned -/
structure Pks (V2 wr : World) (b2 b4 b6 l4 l6 : Nat) (t2 : Option Addr) (n2 c2 : Nat) (u4 : Option Addr) (n4 d4 : Nat) (t6 : Option Addr) (n6 c6 : Nat) : Prop where
  k2 : wr.cell? ⟨b2, 0, none⟩ = some (.slice t2 n2 c2)
  k4 : wr.cell? ⟨b4, 1, none⟩ = some (.slice u4 n4 d4)
  k6 : wr.cell? ⟨b6, 0, none⟩ = some (.slice t6 n6 c6)
  o2 : Opn wr V2.heap.size b2 t2 n2
  o4 : Opn wr l4 b4 u4 n4
  o6 : Opn wr l6 b6 t6 n6
  be : Below V2.heap.size V2 wr
theorem Pks.set {V2 wr : World} {b2 b4 b6 l4 l6 : Nat} {t2 : Option Addr} {n2 c2 : Nat} {u4 : Option Addr} {n4 d4 : Nat} {t6 : Option Addr} {n6 c6 : Nat} (h : Pks V2 wr b2 b4 b6 l4 l6 t2 n2 c2 u4 n4 d4 t6 n6 c6) (g j : Nat) (v : Value) (h2 : g ≠ b2) (h4 : g ≠ b4) (h6 : g ≠ b6) (hb : V2.heap.size ≤ g) : Pks V2 (wr.setCell ⟨g, j, none⟩ v) b2 b4 b6 l4 l6 t2 n2 c2 u4 n4 d4 t6 n6 c6 :=
  ⟨by rw [World.cell?_setCell_other _ _ _ _ (by intro e; cases e; exact h2 rfl)]; exact h.k2, by rw [World.cell?_setCell_other _ _ _ _ (by intro e; cases e; exact h4 rfl)]; exact h.k4, by rw [World.cell?_setCell_other _ _ _ _ (by intro e; cases e; exact h6 rfl)]; exact h.k6, h.o2.set _ _, h.o4.set _ _, h.o6.set _ _, h.be.setCell hb _⟩
set_option maxHeartbeats 8000000 in
theorem turns_great (w : World) (aT : Option Addr) (cT : Nat) (aK : Option Addr) (cK : Nat) (T K : List ByteArray) (hTl : Tl w aT T cT) (hKl : Tl w aK K cK) (key : ByteArray) (hkey : key.size ≤ maxLen) (hg : great T K = true) :
    Calls Try.prog 4 #[.agg #[.slice aT T.length cT, .slice aK K.length cK], .string key] w fun e w' => e = .returned (.bool true) ∧ Below w.heap.size w w' := by
  unfold maxLen at hkey
  obtain ⟨W, hW⟩ : ∃ W, W = w.alloc (Obj.cells #[.slice aT T.length cT, .slice aK K.length cK] 24) := ⟨_, rfl⟩
  have HBW : Hid (Below w.heap.size w W) := by rw [hW]; exact (Below.refl _ _).alloc (Nat.le_refl _) _
  have HO0 : Hid (Oj W w.heap.size aT T.length cT aK K.length cK T K) := by rw [hW]; exact Oj.made aT T.length cT aK K.length cK hTl hKl
  have HGR := Hid.mk2 (great_is T K aT aK cT cK W HO0.out.t HO0.out.k)
  rw [hg] at HGR
  clear hTl hKl hg
  go_enter Try.func4, Try.ntmps4
  go_upto_region 1 with (fail)
  rw [← hW]
  clear hW
  obtain ⟨p00, p01, p02, p03, p04⟩ := HO0.out.ob
  go_wp2_with (go_at_call 19; refine HGR.out.mono ?_; rintro e w1 ⟨rfl, hb1⟩; have HB1 := Hid.mk2 hb1; clear hb1)
  go_ret
  exact ⟨rfl, HBW.out.trans (HB1.out.mono HBW.out.size)⟩
set_option maxHeartbeats 8000000 in
theorem turns_long (w : World) (aT : Option Addr) (cT : Nat) (aK : Option Addr) (cK : Nat) (T K : List ByteArray) (hTl : Tl w aT T cT) (hKl : Tl w aK K cK) (key : ByteArray) (hkey : key.size ≤ maxLen) (hg : great T K = false) (hl : 10000 < key.size) :
    Calls Try.prog 4 #[.agg #[.slice aT T.length cT, .slice aK K.length cK], .string key] w fun e w' => e = .returned (.bool true) ∧ Below w.heap.size w w' := by
  unfold maxLen at hkey
  obtain ⟨W, hW⟩ : ∃ W, W = w.alloc (Obj.cells #[.slice aT T.length cT, .slice aK K.length cK] 24) := ⟨_, rfl⟩
  have HBW : Hid (Below w.heap.size w W) := by rw [hW]; exact (Below.refl _ _).alloc (Nat.le_refl _) _
  have HO0 : Hid (Oj W w.heap.size aT T.length cT aK K.length cK T K) := by rw [hW]; exact Oj.made aT T.length cT aK K.length cK hTl hKl
  have HGR := Hid.mk2 (great_is T K aT aK cT cK W HO0.out.t HO0.out.k)
  rw [hg] at HGR
  have hl2 : (10000 : Int) < (key.size : Int) := by omega
  clear hTl hKl hg hl
  go_enter Try.func4, Try.ntmps4
  go_upto_region 1 with (fail)
  rw [← hW]
  clear hW
  obtain ⟨p00, p01, p02, p03, p04⟩ := HO0.out.ob
  go_wp2_with (go_at_call 19; refine HGR.out.mono ?_; rintro e w1 ⟨rfl, hb1⟩; have HB1 := Hid.mk2 hb1; clear hb1)
  go_ret
  exact ⟨rfl, HBW.out.trans (HB1.out.mono HBW.out.size)⟩
set_option maxHeartbeats 8000000 in
theorem turns_walk (w : World) (aT : Option Addr) (cT : Nat) (aK : Option Addr) (cK : Nat) (T K : List ByteArray) (hTl : Tl w aT T cT) (hKl : Tl w aK K cK) (key : ByteArray) (hkey : key.size ≤ maxLen) (hg : great T K = false) (hl : key.size ≤ 10000) :
    Calls Try.prog 4 #[.agg #[.slice aT T.length cT, .slice aK K.length cK], .string key] w fun e w' => e = .returned (.bool true) ∧ Below w.heap.size w w' := by
  unfold maxLen at hkey
  obtain ⟨W, hW⟩ : ∃ W, W = w.alloc (Obj.cells #[.slice aT T.length cT, .slice aK K.length cK] 24) := ⟨_, rfl⟩
  have HBW : Hid (Below w.heap.size w W) := by rw [hW]; exact (Below.refl _ _).alloc (Nat.le_refl _) _
  have HO0 : Hid (Oj W w.heap.size aT T.length cT aK K.length cK T K) := by rw [hW]; exact Oj.made aT T.length cT aK K.length cK hTl hKl
  have HGR := Hid.mk2 (great_is T K aT aK cT cK W HO0.out.t HO0.out.k)
  obtain ⟨hT3, hK3⟩ := great_len hg
  rw [hg] at HGR
  have hl2 : ¬ (10000 : Int) < (key.size : Int) := by omega
  have HTW := Hid.mk2 (fun V (a : Option Addr) c (b : Option Addr) d (h1 : Tl V a T c) (h2 : Tl V b K d) => twin_any T K a b c d V h1 h2 hT3 hK3)
  obtain ⟨A1, hA1⟩ : ∃ X, X = oAT T K key := ⟨_, rfl⟩
  obtain ⟨A2, hA2⟩ : ∃ X, X = oAK T K key := ⟨_, rfl⟩
  have HUA := Hid.mk2 (fun V (a : Option Addr) c (b : Option Addr) d (h1 : Tl V a T c) (h2 : Tl V b K d) => uAdd T K a b c d key V h1 h2 hT3 hK3 A1 A2 hA1 hA2)
  have HVA := Hid.mk2 (fun V (a : Option Addr) c (b : Option Addr) d (h1 : Tl V a T c) (h2 : Tl V b K d) => vAdd T K a b c d key V h1 h2 hT3 hK3 A1 A2 hA1 hA2)
  obtain ⟨H1, hH1⟩ : ∃ X, X = oHT T K key := ⟨_, rfl⟩
  obtain ⟨H2, hH2⟩ : ∃ X, X = oHK T K key := ⟨_, rfl⟩
  have HUH := Hid.mk2 (fun V (a : Option Addr) c (b : Option Addr) d (h1 : Tl V a T c) (h2 : Tl V b K d) => uHit T K a b c d key V h1 h2 hT3 hK3 H1 H2 hH1 hH2)
  have HVH := Hid.mk2 (fun V (a : Option Addr) c (b : Option Addr) d (h1 : Tl V a T c) (h2 : Tl V b K d) => vHit T K a b c d key V h1 h2 hT3 hK3 H1 H2 hH1 hH2)
  obtain ⟨D1, hD1⟩ : ∃ X, X = oDT T K key := ⟨_, rfl⟩
  obtain ⟨D2, hD2⟩ : ∃ X, X = oDK T K key := ⟨_, rfl⟩
  have HUD := Hid.mk2 (fun V (a : Option Addr) c (b : Option Addr) d (h1 : Tl V a T c) (h2 : Tl V b K d) => uDel T K a b c d key V h1 h2 hT3 hK3 D1 D2 hD1 hD2)
  have HVD := Hid.mk2 (fun V (a : Option Addr) c (b : Option Addr) d (h1 : Tl V a T c) (h2 : Tl V b K d) => vDel T K a b c d key V h1 h2 hT3 hK3 D1 D2 hD1 hD2)
  obtain ⟨M, hM⟩ : ∃ M, M = oAll T K := ⟨_, rfl⟩
  have HUM := Hid.mk2 (fun V (a : Option Addr) c (b : Option Addr) d (h1 : Tl V a T c) (h2 : Tl V b K d) => uAll T K a b c d V h1 h2 hT3 hK3 M hM)
  have HVM := Hid.mk2 (fun V (a : Option Addr) c (b : Option Addr) d (h1 : Tl V a T c) (h2 : Tl V b K d) => vAll T K a b c d V h1 h2 hT3 hK3 M hM)
  have HUV := Hid.mk2 (fun V (a : Option Addr) c (b : Option Addr) d (h1 : Tl V a T c) (h2 : Tl V b K d) => victim_any T K a b c d V h1 h2 hT3 hK3)
  have HVV := Hid.mk2 (fun V (a : Option Addr) c (b : Option Addr) d (h1 : Tl V a T c) (h2 : Tl V b K d) => rvictim_any T K a b c d V h1 h2 hT3 hK3)
  have HUC := Hid.mk2 (fun V (a : Option Addr) c (b : Option Addr) d (h1 : Tl V a T c) (h2 : Tl V b K d) => check_any T K a b c d V h1 h2 hT3 hK3)
  have HVC := Hid.mk2 (fun V (a : Option Addr) c (b : Option Addr) d (h1 : Tl V a T c) (h2 : Tl V b K d) => rcheck_any T K a b c d V h1 h2 hT3 hK3)
  obtain ⟨v, hv⟩ : ∃ v : ByteArray, v = (if okO T K = true then vic T K else ⟨#[]⟩) := ⟨_, rfl⟩
  obtain ⟨E4, hE4⟩ : ∃ E4 : Int, E4 = (if okO T K = true then (if T.length + K.length = 0 then 6 else 0) else 8) := ⟨_, rfl⟩
  rw [← hv, ← hE4] at HUV HVV
  obtain ⟨E5, hE5⟩ : ∃ E5 : Int, E5 = chk T K := ⟨_, rfl⟩
  rw [← hE5] at HUM HVM HUC HVC
  obtain ⟨E1, hE1⟩ : ∃ E1 : Int, E1 = adE T K key := ⟨_, rfl⟩
  rw [← hE1] at HUA HVA
  obtain ⟨E2, hE2⟩ : ∃ E2 : Int, E2 = htE T K key := ⟨_, rfl⟩
  rw [← hE2] at HUH HVH HUD HVD
  have hl1 : (A1.length : Int) ≤ 1000 ∧ (H2.length : Int) ≤ 1000 ∧ (D1.length : Int) ≤ 1000 := by
    rw [hA1, hH2, hD1]
    unfold oAT oHK oDT
    refine ⟨?_, ?_, ?_⟩
    · split
      · simp; omega
      · simp
    · split
      · rename_i h
        have h1 := (ht_ok (htE_zero h).2.1 (htE_zero h).2.2.2).many
        omega
      · simp
    · split
      · rename_i h
        have h1 := (dl_ok (k := key) (htE_zero h).2.1).many
        omega
      · simp
  obtain ⟨hlA, hlH, hlD⟩ := hl1
  clear hTl hKl hg hl hA1 hA2 hH1 hH2 hD1 hD2 hM hv hE4 hE5 hE1 hE2 hT3 hK3
  go_enter Try.func4, Try.ntmps4
  go_upto_region 1 with (fail)
  rw [← hW]
  clear hW
  obtain ⟨p00, p01, p02, p03, p04⟩ := HO0.out.ob
  go_upto_region 3 with (go_at_call 19; refine HGR.out.mono ?_; rintro e w1 ⟨rfl, hb1⟩; have HB1 := Hid.mk2 hb1; clear hb1)
  replace HO0 := Hid.mk2 (HO0.out.below HB1.out)
  clear p00 p01 p02 p03 p04
  obtain ⟨p00, p01, p02, p03, p04⟩ := HO0.out.ob
  have HB1 : Hid (Below w.heap.size w w1) := HBW.out.trans (HB1.out.mono HBW.out.size)
  go_upto_region 4 with (go_at_call 20; refine (HTW.out _ aT cT aK cK HO0.out.t HO0.out.k).mono ?_; rintro e u2w ⟨t1, c1, u1, d1, rfl, h1, h2, hb⟩)
  have hx := below_made hb (Obj.cells #[.slice t1 T.length c1, .slice u1 K.length d1] 24)
  have HO1 := Hid.mk2 (Oj.made t1 T.length c1 u1 K.length d1 h1 h2)
  obtain ⟨V2, hV2⟩ : ∃ V, V = u2w.alloc (Obj.cells #[.slice t1 T.length c1, .slice u1 K.length d1] 24) := ⟨_, rfl⟩
  obtain ⟨b1, hbi1⟩ : ∃ b, b = u2w.heap.size := ⟨_, rfl⟩
  rw [← hV2, ← hbi1] at HO1
  rw [← hV2] at hx
  rw [← hV2, ← hbi1]
  have HB2 : Hid (Below w.heap.size w V2) := HB1.out.trans (hx.mono HB1.out.size)
  have HZ : Hid (Below V2.heap.size V2 V2) := Below.refl _ _
  replace HO0 := Hid.mk2 (HO0.out.below hx)
  clear p00 p01 p02 p03 p04
  obtain ⟨p00, p01, p02, p03, p04⟩ := HO0.out.ob
  obtain ⟨p10, p11, p12, p13, p14⟩ := HO1.out.ob
  clear hb hx hV2 h1 h2 hbi1
  have HY0 := HO0
  have HY1 := HO1
  go_upto_region 5 with (go_at_call 14; refine (HUA.out _ t1 c1 u1 d1 HO1.out.t HO1.out.k).mono ?_; rintro e u3w ⟨t2, c2, u2, d2, rfl, hR, hb⟩)
  have hx := below_made hb (Obj.cells #[.slice t2 A1.length c2, .slice u2 A2.length d2] 24)
  have HO2 := Hid.mk2 (Oj.made t2 A1.length c2 u2 A2.length d2 hR.tlT hR.tlK)
  obtain ⟨V3, hV3⟩ : ∃ V, V = u3w.alloc (Obj.cells #[.slice t2 A1.length c2, .slice u2 A2.length d2] 24) := ⟨_, rfl⟩
  obtain ⟨b2, hbi2⟩ : ∃ b, b = u3w.heap.size := ⟨_, rfl⟩
  rw [← hV3, ← hbi2] at HO2
  rw [← hV3] at hx
  rw [← hV3, ← hbi2]
  have HB3 : Hid (Below w.heap.size w V3) := HB2.out.trans (hx.mono HB2.out.size)
  replace HZ := Hid.mk2 (HZ.out.trans (hx.mono HZ.out.size))
  have HP2 : Hid (Opn V3 V2.heap.size b2 t2 A1.length) := by rw [hbi2]; exact (hR.t.opn).below (by rw [hV3]; exact (Below.refl _ _).alloc (Nat.le_refl _) _) (Nat.le_refl _)
  have HQ2 : Hid (V2.heap.size ≤ b2 ∧ b2 < V3.heap.size) := by rw [hbi2]; exact ⟨hb.size, by rw [hV3]; simp⟩
  have HS2 : Hid (V3.heap.size ≤ V3.heap.size) := Nat.le_refl _
  replace HO0 := Hid.mk2 (HO0.out.below hx)
  clear p00 p01 p02 p03 p04
  obtain ⟨p00, p01, p02, p03, p04⟩ := HO0.out.ob
  replace HO1 := Hid.mk2 (HO1.out.below hx)
  clear p10 p11 p12 p13 p14
  obtain ⟨p10, p11, p12, p13, p14⟩ := HO1.out.ob
  obtain ⟨p20, p21, p22, p23, p24⟩ := HO2.out.ob
  clear hb hx hV3 hR hbi2
  go_upto_region 6 with (go_at_call 21; refine (HVA.out _ aT cT aK cK HO0.out.t HO0.out.k).mono ?_; rintro e u4w ⟨t3, c3, u3, d3, rfl, h1, h2, hb⟩)
  have hx := below_made hb (Obj.cells #[.slice t3 A1.length c3, .slice u3 A2.length d3] 24)
  have HO3 := Hid.mk2 (Oj.made t3 A1.length c3 u3 A2.length d3 h1 h2)
  obtain ⟨V4, hV4⟩ : ∃ V, V = u4w.alloc (Obj.cells #[.slice t3 A1.length c3, .slice u3 A2.length d3] 24) := ⟨_, rfl⟩
  obtain ⟨b3, hbi3⟩ : ∃ b, b = u4w.heap.size := ⟨_, rfl⟩
  rw [← hV4, ← hbi3] at HO3
  rw [← hV4] at hx
  rw [← hV4, ← hbi3]
  have HB4 : Hid (Below w.heap.size w V4) := HB3.out.trans (hx.mono HB3.out.size)
  replace HZ := Hid.mk2 (HZ.out.trans (hx.mono HZ.out.size))
  replace HP2 := Hid.mk2 (HP2.out.below hx (Nat.le_of_lt (Nat.lt_of_lt_of_le HQ2.out.2 HS2.out)))
  replace HS2 := Hid.mk2 (Nat.le_trans HS2.out hx.size)
  replace HO0 := Hid.mk2 (HO0.out.below hx)
  clear p00 p01 p02 p03 p04
  obtain ⟨p00, p01, p02, p03, p04⟩ := HO0.out.ob
  replace HO1 := Hid.mk2 (HO1.out.below hx)
  clear p10 p11 p12 p13 p14
  obtain ⟨p10, p11, p12, p13, p14⟩ := HO1.out.ob
  replace HO2 := Hid.mk2 (HO2.out.below hx)
  clear p20 p21 p22 p23 p24
  obtain ⟨p20, p21, p22, p23, p24⟩ := HO2.out.ob
  obtain ⟨p30, p31, p32, p33, p34⟩ := HO3.out.ob
  clear hb hx hV4 h1 h2 hbi3
  go_upto_region 7 with (go_at_call 12; refine (HUH.out _ t1 c1 u1 d1 HO1.out.t HO1.out.k).mono ?_; rintro e u5w ⟨t4, c4, u4, d4, rfl, hR, hb⟩)
  have hx := below_made hb (Obj.cells #[.slice t4 H1.length c4, .slice u4 H2.length d4] 24)
  have HO4 := Hid.mk2 (Oj.made t4 H1.length c4 u4 H2.length d4 hR.tlT hR.tlK)
  obtain ⟨V5, hV5⟩ : ∃ V, V = u5w.alloc (Obj.cells #[.slice t4 H1.length c4, .slice u4 H2.length d4] 24) := ⟨_, rfl⟩
  obtain ⟨b4, hbi4⟩ : ∃ b, b = u5w.heap.size := ⟨_, rfl⟩
  rw [← hV5, ← hbi4] at HO4
  rw [← hV5] at hx
  rw [← hV5, ← hbi4]
  have HB5 : Hid (Below w.heap.size w V5) := HB4.out.trans (hx.mono HB4.out.size)
  have HL24 : Hid (b2 < V4.heap.size) := Nat.lt_of_lt_of_le HQ2.out.2 HS2.out
  replace HZ := Hid.mk2 (HZ.out.trans (hx.mono HZ.out.size))
  replace HP2 := Hid.mk2 (HP2.out.below hx (Nat.le_of_lt (Nat.lt_of_lt_of_le HQ2.out.2 HS2.out)))
  replace HS2 := Hid.mk2 (Nat.le_trans HS2.out hx.size)
  have HP4 : Hid (Opn V5 V4.heap.size b4 u4 H2.length) := by rw [hbi4]; exact (hR.k.opn).below (by rw [hV5]; exact (Below.refl _ _).alloc (Nat.le_refl _) _) (Nat.le_refl _)
  have HQ4 : Hid (V4.heap.size ≤ b4 ∧ b4 < V5.heap.size) := by rw [hbi4]; exact ⟨hb.size, by rw [hV5]; simp⟩
  have HS4 : Hid (V5.heap.size ≤ V5.heap.size) := Nat.le_refl _
  replace HO0 := Hid.mk2 (HO0.out.below hx)
  clear p00 p01 p02 p03 p04
  obtain ⟨p00, p01, p02, p03, p04⟩ := HO0.out.ob
  replace HO1 := Hid.mk2 (HO1.out.below hx)
  clear p10 p11 p12 p13 p14
  obtain ⟨p10, p11, p12, p13, p14⟩ := HO1.out.ob
  replace HO2 := Hid.mk2 (HO2.out.below hx)
  clear p20 p21 p22 p23 p24
  obtain ⟨p20, p21, p22, p23, p24⟩ := HO2.out.ob
  replace HO3 := Hid.mk2 (HO3.out.below hx)
  clear p30 p31 p32 p33 p34
  obtain ⟨p30, p31, p32, p33, p34⟩ := HO3.out.ob
  obtain ⟨p40, p41, p42, p43, p44⟩ := HO4.out.ob
  clear hb hx hV5 hR hbi4
  go_upto_region 8 with (go_at_call 22; refine (HVH.out _ aT cT aK cK HO0.out.t HO0.out.k).mono ?_; rintro e u6w ⟨t5, c5, u5, d5, rfl, h1, h2, hb⟩)
  have hx := below_made hb (Obj.cells #[.slice t5 H1.length c5, .slice u5 H2.length d5] 24)
  have HO5 := Hid.mk2 (Oj.made t5 H1.length c5 u5 H2.length d5 h1 h2)
  obtain ⟨V6, hV6⟩ : ∃ V, V = u6w.alloc (Obj.cells #[.slice t5 H1.length c5, .slice u5 H2.length d5] 24) := ⟨_, rfl⟩
  obtain ⟨b5, hbi5⟩ : ∃ b, b = u6w.heap.size := ⟨_, rfl⟩
  rw [← hV6, ← hbi5] at HO5
  rw [← hV6] at hx
  rw [← hV6, ← hbi5]
  have HB6 : Hid (Below w.heap.size w V6) := HB5.out.trans (hx.mono HB5.out.size)
  replace HZ := Hid.mk2 (HZ.out.trans (hx.mono HZ.out.size))
  replace HP2 := Hid.mk2 (HP2.out.below hx (Nat.le_of_lt (Nat.lt_of_lt_of_le HQ2.out.2 HS2.out)))
  replace HP4 := Hid.mk2 (HP4.out.below hx (Nat.le_of_lt (Nat.lt_of_lt_of_le HQ4.out.2 HS4.out)))
  replace HS2 := Hid.mk2 (Nat.le_trans HS2.out hx.size)
  replace HS4 := Hid.mk2 (Nat.le_trans HS4.out hx.size)
  replace HO0 := Hid.mk2 (HO0.out.below hx)
  clear p00 p01 p02 p03 p04
  obtain ⟨p00, p01, p02, p03, p04⟩ := HO0.out.ob
  replace HO1 := Hid.mk2 (HO1.out.below hx)
  clear p10 p11 p12 p13 p14
  obtain ⟨p10, p11, p12, p13, p14⟩ := HO1.out.ob
  replace HO2 := Hid.mk2 (HO2.out.below hx)
  clear p20 p21 p22 p23 p24
  obtain ⟨p20, p21, p22, p23, p24⟩ := HO2.out.ob
  replace HO3 := Hid.mk2 (HO3.out.below hx)
  clear p30 p31 p32 p33 p34
  obtain ⟨p30, p31, p32, p33, p34⟩ := HO3.out.ob
  replace HO4 := Hid.mk2 (HO4.out.below hx)
  clear p40 p41 p42 p43 p44
  obtain ⟨p40, p41, p42, p43, p44⟩ := HO4.out.ob
  obtain ⟨p50, p51, p52, p53, p54⟩ := HO5.out.ob
  clear hb hx hV6 h1 h2 hbi5
  go_upto_region 9 with (go_at_call 13; refine (HUD.out _ t1 c1 u1 d1 HO1.out.t HO1.out.k).mono ?_; rintro e u7w ⟨t6, c6, u6, d6, rfl, hR, hb⟩)
  have hx := below_made hb (Obj.cells #[.slice t6 D1.length c6, .slice u6 D2.length d6] 24)
  have HO6 := Hid.mk2 (Oj.made t6 D1.length c6 u6 D2.length d6 hR.tlT hR.tlK)
  obtain ⟨V7, hV7⟩ : ∃ V, V = u7w.alloc (Obj.cells #[.slice t6 D1.length c6, .slice u6 D2.length d6] 24) := ⟨_, rfl⟩
  obtain ⟨b6, hbi6⟩ : ∃ b, b = u7w.heap.size := ⟨_, rfl⟩
  rw [← hV7, ← hbi6] at HO6
  rw [← hV7] at hx
  rw [← hV7, ← hbi6]
  have HB7 : Hid (Below w.heap.size w V7) := HB6.out.trans (hx.mono HB6.out.size)
  have HL46 : Hid (b4 < V6.heap.size) := Nat.lt_of_lt_of_le HQ4.out.2 HS4.out
  replace HZ := Hid.mk2 (HZ.out.trans (hx.mono HZ.out.size))
  replace HP2 := Hid.mk2 (HP2.out.below hx (Nat.le_of_lt (Nat.lt_of_lt_of_le HQ2.out.2 HS2.out)))
  replace HP4 := Hid.mk2 (HP4.out.below hx (Nat.le_of_lt (Nat.lt_of_lt_of_le HQ4.out.2 HS4.out)))
  replace HS2 := Hid.mk2 (Nat.le_trans HS2.out hx.size)
  replace HS4 := Hid.mk2 (Nat.le_trans HS4.out hx.size)
  have HP6 : Hid (Opn V7 V6.heap.size b6 t6 D1.length) := by rw [hbi6]; exact (hR.t.opn).below (by rw [hV7]; exact (Below.refl _ _).alloc (Nat.le_refl _) _) (Nat.le_refl _)
  have HQ6 : Hid (V6.heap.size ≤ b6 ∧ b6 < V7.heap.size) := by rw [hbi6]; exact ⟨hb.size, by rw [hV7]; simp⟩
  have HS6 : Hid (V7.heap.size ≤ V7.heap.size) := Nat.le_refl _
  replace HO0 := Hid.mk2 (HO0.out.below hx)
  clear p00 p01 p02 p03 p04
  obtain ⟨p00, p01, p02, p03, p04⟩ := HO0.out.ob
  replace HO1 := Hid.mk2 (HO1.out.below hx)
  clear p10 p11 p12 p13 p14
  obtain ⟨p10, p11, p12, p13, p14⟩ := HO1.out.ob
  replace HO2 := Hid.mk2 (HO2.out.below hx)
  clear p20 p21 p22 p23 p24
  obtain ⟨p20, p21, p22, p23, p24⟩ := HO2.out.ob
  replace HO3 := Hid.mk2 (HO3.out.below hx)
  clear p30 p31 p32 p33 p34
  obtain ⟨p30, p31, p32, p33, p34⟩ := HO3.out.ob
  replace HO4 := Hid.mk2 (HO4.out.below hx)
  clear p40 p41 p42 p43 p44
  obtain ⟨p40, p41, p42, p43, p44⟩ := HO4.out.ob
  replace HO5 := Hid.mk2 (HO5.out.below hx)
  clear p50 p51 p52 p53 p54
  obtain ⟨p50, p51, p52, p53, p54⟩ := HO5.out.ob
  obtain ⟨p60, p61, p62, p63, p64⟩ := HO6.out.ob
  clear hb hx hV7 hR hbi6
  go_upto_region 10 with (go_at_call 23; refine (HVD.out _ aT cT aK cK HO0.out.t HO0.out.k).mono ?_; rintro e u8w ⟨t7, c7, u7, d7, rfl, h1, h2, hb⟩)
  have hx := below_made hb (Obj.cells #[.slice t7 D1.length c7, .slice u7 D2.length d7] 24)
  have HO7 := Hid.mk2 (Oj.made t7 D1.length c7 u7 D2.length d7 h1 h2)
  obtain ⟨V8, hV8⟩ : ∃ V, V = u8w.alloc (Obj.cells #[.slice t7 D1.length c7, .slice u7 D2.length d7] 24) := ⟨_, rfl⟩
  obtain ⟨b7, hbi7⟩ : ∃ b, b = u8w.heap.size := ⟨_, rfl⟩
  rw [← hV8, ← hbi7] at HO7
  rw [← hV8] at hx
  rw [← hV8, ← hbi7]
  have HB8 : Hid (Below w.heap.size w V8) := HB7.out.trans (hx.mono HB7.out.size)
  replace HZ := Hid.mk2 (HZ.out.trans (hx.mono HZ.out.size))
  replace HP2 := Hid.mk2 (HP2.out.below hx (Nat.le_of_lt (Nat.lt_of_lt_of_le HQ2.out.2 HS2.out)))
  replace HP4 := Hid.mk2 (HP4.out.below hx (Nat.le_of_lt (Nat.lt_of_lt_of_le HQ4.out.2 HS4.out)))
  replace HP6 := Hid.mk2 (HP6.out.below hx (Nat.le_of_lt (Nat.lt_of_lt_of_le HQ6.out.2 HS6.out)))
  replace HS2 := Hid.mk2 (Nat.le_trans HS2.out hx.size)
  replace HS4 := Hid.mk2 (Nat.le_trans HS4.out hx.size)
  replace HS6 := Hid.mk2 (Nat.le_trans HS6.out hx.size)
  replace HO0 := Hid.mk2 (HO0.out.below hx)
  clear p00 p01 p02 p03 p04
  obtain ⟨p00, p01, p02, p03, p04⟩ := HO0.out.ob
  replace HO1 := Hid.mk2 (HO1.out.below hx)
  clear p10 p11 p12 p13 p14
  obtain ⟨p10, p11, p12, p13, p14⟩ := HO1.out.ob
  replace HO2 := Hid.mk2 (HO2.out.below hx)
  clear p20 p21 p22 p23 p24
  obtain ⟨p20, p21, p22, p23, p24⟩ := HO2.out.ob
  replace HO3 := Hid.mk2 (HO3.out.below hx)
  clear p30 p31 p32 p33 p34
  obtain ⟨p30, p31, p32, p33, p34⟩ := HO3.out.ob
  replace HO4 := Hid.mk2 (HO4.out.below hx)
  clear p40 p41 p42 p43 p44
  obtain ⟨p40, p41, p42, p43, p44⟩ := HO4.out.ob
  replace HO5 := Hid.mk2 (HO5.out.below hx)
  clear p50 p51 p52 p53 p54
  obtain ⟨p50, p51, p52, p53, p54⟩ := HO5.out.ob
  replace HO6 := Hid.mk2 (HO6.out.below hx)
  clear p60 p61 p62 p63 p64
  obtain ⟨p60, p61, p62, p63, p64⟩ := HO6.out.ob
  obtain ⟨p70, p71, p72, p73, p74⟩ := HO7.out.ob
  clear hb hx hV8 h1 h2 hbi7
  go_upto_region 11 with (go_at_call 10; refine (HUV.out _ t1 c1 u1 d1 HO1.out.t HO1.out.k).mono ?_; rintro e V9 ⟨rfl, hx⟩)
  have HB9 : Hid (Below w.heap.size w V9) := HB8.out.trans (hx.mono HB8.out.size)
  replace HZ := Hid.mk2 (HZ.out.trans (hx.mono HZ.out.size))
  replace HP2 := Hid.mk2 (HP2.out.below hx (Nat.le_of_lt (Nat.lt_of_lt_of_le HQ2.out.2 HS2.out)))
  replace HP4 := Hid.mk2 (HP4.out.below hx (Nat.le_of_lt (Nat.lt_of_lt_of_le HQ4.out.2 HS4.out)))
  replace HP6 := Hid.mk2 (HP6.out.below hx (Nat.le_of_lt (Nat.lt_of_lt_of_le HQ6.out.2 HS6.out)))
  replace HS2 := Hid.mk2 (Nat.le_trans HS2.out hx.size)
  replace HS4 := Hid.mk2 (Nat.le_trans HS4.out hx.size)
  replace HS6 := Hid.mk2 (Nat.le_trans HS6.out hx.size)
  replace HO0 := Hid.mk2 (HO0.out.below hx)
  clear p00 p01 p02 p03 p04
  obtain ⟨p00, p01, p02, p03, p04⟩ := HO0.out.ob
  replace HO1 := Hid.mk2 (HO1.out.below hx)
  clear p10 p11 p12 p13 p14
  obtain ⟨p10, p11, p12, p13, p14⟩ := HO1.out.ob
  replace HO2 := Hid.mk2 (HO2.out.below hx)
  clear p20 p21 p22 p23 p24
  obtain ⟨p20, p21, p22, p23, p24⟩ := HO2.out.ob
  replace HO3 := Hid.mk2 (HO3.out.below hx)
  clear p30 p31 p32 p33 p34
  obtain ⟨p30, p31, p32, p33, p34⟩ := HO3.out.ob
  replace HO4 := Hid.mk2 (HO4.out.below hx)
  clear p40 p41 p42 p43 p44
  obtain ⟨p40, p41, p42, p43, p44⟩ := HO4.out.ob
  replace HO5 := Hid.mk2 (HO5.out.below hx)
  clear p50 p51 p52 p53 p54
  obtain ⟨p50, p51, p52, p53, p54⟩ := HO5.out.ob
  replace HO6 := Hid.mk2 (HO6.out.below hx)
  clear p60 p61 p62 p63 p64
  obtain ⟨p60, p61, p62, p63, p64⟩ := HO6.out.ob
  replace HO7 := Hid.mk2 (HO7.out.below hx)
  clear p70 p71 p72 p73 p74
  obtain ⟨p70, p71, p72, p73, p74⟩ := HO7.out.ob
  clear hx
  go_upto_region 12 with (go_at_call 24; refine (HVV.out _ aT cT aK cK HO0.out.t HO0.out.k).mono ?_; rintro e V10 ⟨rfl, hx⟩)
  have HB10 : Hid (Below w.heap.size w V10) := HB9.out.trans (hx.mono HB9.out.size)
  replace HZ := Hid.mk2 (HZ.out.trans (hx.mono HZ.out.size))
  replace HP2 := Hid.mk2 (HP2.out.below hx (Nat.le_of_lt (Nat.lt_of_lt_of_le HQ2.out.2 HS2.out)))
  replace HP4 := Hid.mk2 (HP4.out.below hx (Nat.le_of_lt (Nat.lt_of_lt_of_le HQ4.out.2 HS4.out)))
  replace HP6 := Hid.mk2 (HP6.out.below hx (Nat.le_of_lt (Nat.lt_of_lt_of_le HQ6.out.2 HS6.out)))
  replace HS2 := Hid.mk2 (Nat.le_trans HS2.out hx.size)
  replace HS4 := Hid.mk2 (Nat.le_trans HS4.out hx.size)
  replace HS6 := Hid.mk2 (Nat.le_trans HS6.out hx.size)
  replace HO0 := Hid.mk2 (HO0.out.below hx)
  clear p00 p01 p02 p03 p04
  obtain ⟨p00, p01, p02, p03, p04⟩ := HO0.out.ob
  replace HO1 := Hid.mk2 (HO1.out.below hx)
  clear p10 p11 p12 p13 p14
  obtain ⟨p10, p11, p12, p13, p14⟩ := HO1.out.ob
  replace HO2 := Hid.mk2 (HO2.out.below hx)
  clear p20 p21 p22 p23 p24
  obtain ⟨p20, p21, p22, p23, p24⟩ := HO2.out.ob
  replace HO3 := Hid.mk2 (HO3.out.below hx)
  clear p30 p31 p32 p33 p34
  obtain ⟨p30, p31, p32, p33, p34⟩ := HO3.out.ob
  replace HO4 := Hid.mk2 (HO4.out.below hx)
  clear p40 p41 p42 p43 p44
  obtain ⟨p40, p41, p42, p43, p44⟩ := HO4.out.ob
  replace HO5 := Hid.mk2 (HO5.out.below hx)
  clear p50 p51 p52 p53 p54
  obtain ⟨p50, p51, p52, p53, p54⟩ := HO5.out.ob
  replace HO6 := Hid.mk2 (HO6.out.below hx)
  clear p60 p61 p62 p63 p64
  obtain ⟨p60, p61, p62, p63, p64⟩ := HO6.out.ob
  replace HO7 := Hid.mk2 (HO7.out.below hx)
  clear p70 p71 p72 p73 p74
  obtain ⟨p70, p71, p72, p73, p74⟩ := HO7.out.ob
  clear hx
  go_upto_region 13 with (go_at_call 11; refine (HUM.out _ t1 c1 u1 d1 HO1.out.t HO1.out.k).mono ?_; rintro e V11 ⟨am, cm, rfl, hm, hx⟩)
  have HB11 : Hid (Below w.heap.size w V11) := HB10.out.trans (hx.mono HB10.out.size)
  replace HZ := Hid.mk2 (HZ.out.trans (hx.mono HZ.out.size))
  replace HP2 := Hid.mk2 (HP2.out.below hx (Nat.le_of_lt (Nat.lt_of_lt_of_le HQ2.out.2 HS2.out)))
  replace HP4 := Hid.mk2 (HP4.out.below hx (Nat.le_of_lt (Nat.lt_of_lt_of_le HQ4.out.2 HS4.out)))
  replace HP6 := Hid.mk2 (HP6.out.below hx (Nat.le_of_lt (Nat.lt_of_lt_of_le HQ6.out.2 HS6.out)))
  replace HS2 := Hid.mk2 (Nat.le_trans HS2.out hx.size)
  replace HS4 := Hid.mk2 (Nat.le_trans HS4.out hx.size)
  replace HS6 := Hid.mk2 (Nat.le_trans HS6.out hx.size)
  have HM1 := Hid.mk2 hm
  clear hm
  replace HO0 := Hid.mk2 (HO0.out.below hx)
  clear p00 p01 p02 p03 p04
  obtain ⟨p00, p01, p02, p03, p04⟩ := HO0.out.ob
  replace HO1 := Hid.mk2 (HO1.out.below hx)
  clear p10 p11 p12 p13 p14
  obtain ⟨p10, p11, p12, p13, p14⟩ := HO1.out.ob
  replace HO2 := Hid.mk2 (HO2.out.below hx)
  clear p20 p21 p22 p23 p24
  obtain ⟨p20, p21, p22, p23, p24⟩ := HO2.out.ob
  replace HO3 := Hid.mk2 (HO3.out.below hx)
  clear p30 p31 p32 p33 p34
  obtain ⟨p30, p31, p32, p33, p34⟩ := HO3.out.ob
  replace HO4 := Hid.mk2 (HO4.out.below hx)
  clear p40 p41 p42 p43 p44
  obtain ⟨p40, p41, p42, p43, p44⟩ := HO4.out.ob
  replace HO5 := Hid.mk2 (HO5.out.below hx)
  clear p50 p51 p52 p53 p54
  obtain ⟨p50, p51, p52, p53, p54⟩ := HO5.out.ob
  replace HO6 := Hid.mk2 (HO6.out.below hx)
  clear p60 p61 p62 p63 p64
  obtain ⟨p60, p61, p62, p63, p64⟩ := HO6.out.ob
  replace HO7 := Hid.mk2 (HO7.out.below hx)
  clear p70 p71 p72 p73 p74
  obtain ⟨p70, p71, p72, p73, p74⟩ := HO7.out.ob
  clear hx
  go_upto_region 14 with (go_at_call 25; refine (HVM.out _ aT cT aK cK HO0.out.t HO0.out.k).mono ?_; rintro e V12 ⟨an, cn, rfl, hm, hx⟩)
  have HB12 : Hid (Below w.heap.size w V12) := HB11.out.trans (hx.mono HB11.out.size)
  replace HZ := Hid.mk2 (HZ.out.trans (hx.mono HZ.out.size))
  replace HP2 := Hid.mk2 (HP2.out.below hx (Nat.le_of_lt (Nat.lt_of_lt_of_le HQ2.out.2 HS2.out)))
  replace HP4 := Hid.mk2 (HP4.out.below hx (Nat.le_of_lt (Nat.lt_of_lt_of_le HQ4.out.2 HS4.out)))
  replace HP6 := Hid.mk2 (HP6.out.below hx (Nat.le_of_lt (Nat.lt_of_lt_of_le HQ6.out.2 HS6.out)))
  replace HS2 := Hid.mk2 (Nat.le_trans HS2.out hx.size)
  replace HS4 := Hid.mk2 (Nat.le_trans HS4.out hx.size)
  replace HS6 := Hid.mk2 (Nat.le_trans HS6.out hx.size)
  have HM2 := Hid.mk2 hm
  replace HM1 := Hid.mk2 (HM1.out.below hx)
  clear hm
  replace HO0 := Hid.mk2 (HO0.out.below hx)
  clear p00 p01 p02 p03 p04
  obtain ⟨p00, p01, p02, p03, p04⟩ := HO0.out.ob
  replace HO1 := Hid.mk2 (HO1.out.below hx)
  clear p10 p11 p12 p13 p14
  obtain ⟨p10, p11, p12, p13, p14⟩ := HO1.out.ob
  replace HO2 := Hid.mk2 (HO2.out.below hx)
  clear p20 p21 p22 p23 p24
  obtain ⟨p20, p21, p22, p23, p24⟩ := HO2.out.ob
  replace HO3 := Hid.mk2 (HO3.out.below hx)
  clear p30 p31 p32 p33 p34
  obtain ⟨p30, p31, p32, p33, p34⟩ := HO3.out.ob
  replace HO4 := Hid.mk2 (HO4.out.below hx)
  clear p40 p41 p42 p43 p44
  obtain ⟨p40, p41, p42, p43, p44⟩ := HO4.out.ob
  replace HO5 := Hid.mk2 (HO5.out.below hx)
  clear p50 p51 p52 p53 p54
  obtain ⟨p50, p51, p52, p53, p54⟩ := HO5.out.ob
  replace HO6 := Hid.mk2 (HO6.out.below hx)
  clear p60 p61 p62 p63 p64
  obtain ⟨p60, p61, p62, p63, p64⟩ := HO6.out.ob
  replace HO7 := Hid.mk2 (HO7.out.below hx)
  clear p70 p71 p72 p73 p74
  obtain ⟨p70, p71, p72, p73, p74⟩ := HO7.out.ob
  clear hx
  have HKP : Hid (∀ W', Below V12.heap.size V12 W' → W'.cell? ⟨w.heap.size, 0, none⟩ = some (.slice aT T.length cT) ∧ W'.cell? ⟨w.heap.size, 1, none⟩ = some (.slice aK K.length cK) ∧ W'.cell? ⟨b1, 0, none⟩ = some (.slice t1 T.length c1) ∧ W'.cell? ⟨b1, 1, none⟩ = some (.slice u1 K.length d1) ∧ W'.cell? ⟨b2, 0, none⟩ = some (.slice t2 A1.length c2) ∧ W'.cell? ⟨b2, 1, none⟩ = some (.slice u2 A2.length d2) ∧ W'.cell? ⟨b3, 0, none⟩ = some (.slice t3 A1.length c3) ∧ W'.cell? ⟨b3, 1, none⟩ = some (.slice u3 A2.length d3) ∧ W'.cell? ⟨b4, 0, none⟩ = some (.slice t4 H1.length c4) ∧ W'.cell? ⟨b4, 1, none⟩ = some (.slice u4 H2.length d4) ∧ W'.cell? ⟨b5, 0, none⟩ = some (.slice t5 H1.length c5) ∧ W'.cell? ⟨b5, 1, none⟩ = some (.slice u5 H2.length d5) ∧ W'.cell? ⟨b6, 0, none⟩ = some (.slice t6 D1.length c6) ∧ W'.cell? ⟨b6, 1, none⟩ = some (.slice u6 D2.length d6) ∧ W'.cell? ⟨b7, 0, none⟩ = some (.slice t7 D1.length c7) ∧ W'.cell? ⟨b7, 1, none⟩ = some (.slice u7 D2.length d7)) := fun W' hb => ⟨(HO0.out.ob.below hb).c0, (HO0.out.ob.below hb).c1, (HO1.out.ob.below hb).c0, (HO1.out.ob.below hb).c1, (HO2.out.ob.below hb).c0, (HO2.out.ob.below hb).c1, (HO3.out.ob.below hb).c0, (HO3.out.ob.below hb).c1, (HO4.out.ob.below hb).c0, (HO4.out.ob.below hb).c1, (HO5.out.ob.below hb).c0, (HO5.out.ob.below hb).c1, (HO6.out.ob.below hb).c0, (HO6.out.ob.below hb).c1, (HO7.out.ob.below hb).c0, (HO7.out.ob.below hb).c1⟩
  have HSM0 := Hid.mk2 (fun W' (hb : Below V12.heap.size V12 W') => same_any A1 A2 t2 u2 t3 u3 c2 d2 c3 d3 W' (HO2.out.t.below hb) (HO2.out.k.below hb) (HO3.out.t.below hb) (HO3.out.k.below hb))
  have HSM1 := Hid.mk2 (fun W' (hb : Below V12.heap.size V12 W') => same_any H1 H2 t4 u4 t5 u5 c4 d4 c5 d5 W' (HO4.out.t.below hb) (HO4.out.k.below hb) (HO5.out.t.below hb) (HO5.out.k.below hb))
  have HSM2 := Hid.mk2 (fun W' (hb : Below V12.heap.size V12 W') => same_any D1 D2 t6 u6 t7 u7 c6 d6 c7 d7 W' (HO6.out.t.below hb) (HO6.out.k.below hb) (HO7.out.t.below hb) (HO7.out.k.below hb))
  have HST := Hid.mk2 (fun W' (hb : Below V12.heap.size V12 W') => sameTexts_tl W' am an M cm cn (HM1.out.below hb) (HM2.out.below hb))
  have HCU := Hid.mk2 (fun W' (hb : Below V12.heap.size V12 W') => HUC.out W' t1 c1 u1 d1 (HO1.out.t.below hb) (HO1.out.k.below hb))
  have HCV := Hid.mk2 (fun W' (hb : Below V12.heap.size V12 W') => HVC.out W' aT cT aK cK (HO0.out.t.below hb) (HO0.out.k.below hb))
  have vv : (v.toList == v.toList) = true := by simp
  have vv2 : (v.toList != v.toList) = false := by simp
  clear p00 p01 p02 p03 p04 p10 p11 p12 p13 p14 p20 p21 p22 p23 p24 p30 p31 p32 p33 p34 p40 p41 p42 p43 p44 p50 p51 p52 p53 p54 p60 p61 p62 p63 p64 p70 p71 p72 p73 p74
  go_cut [152] from 94 (fun s152 wx => s152 = .bool false ∧ Hid (Below V12.heap.size V12 wx))
  case first =>
    as_aux_lemma =>
      obtain ⟨k00, k01, k10, k11, k20, k21, k30, k31, k40, k41, k50, k51, k60, k61, k70, k71⟩ := HKP.out _ (Below.refl _ _)
      go_region_held3 (fun W' => W'.cell? ⟨w.heap.size, 0, none⟩ = some (.slice aT T.length cT) ∧ W'.cell? ⟨w.heap.size, 1, none⟩ = some (.slice aK K.length cK) ∧ W'.cell? ⟨b1, 0, none⟩ = some (.slice t1 T.length c1) ∧ W'.cell? ⟨b1, 1, none⟩ = some (.slice u1 K.length d1) ∧ W'.cell? ⟨b2, 0, none⟩ = some (.slice t2 A1.length c2) ∧ W'.cell? ⟨b2, 1, none⟩ = some (.slice u2 A2.length d2) ∧ W'.cell? ⟨b3, 0, none⟩ = some (.slice t3 A1.length c3) ∧ W'.cell? ⟨b3, 1, none⟩ = some (.slice u3 A2.length d3) ∧ W'.cell? ⟨b4, 0, none⟩ = some (.slice t4 H1.length c4) ∧ W'.cell? ⟨b4, 1, none⟩ = some (.slice u4 H2.length d4) ∧ W'.cell? ⟨b5, 0, none⟩ = some (.slice t5 H1.length c5) ∧ W'.cell? ⟨b5, 1, none⟩ = some (.slice u5 H2.length d5) ∧ W'.cell? ⟨b6, 0, none⟩ = some (.slice t6 D1.length c6) ∧ W'.cell? ⟨b6, 1, none⟩ = some (.slice u6 D2.length d6) ∧ W'.cell? ⟨b7, 0, none⟩ = some (.slice t7 D1.length c7) ∧ W'.cell? ⟨b7, 1, none⟩ = some (.slice u7 D2.length d7))
        (first
          | exact HKP.out _ HQF.out
          | exact HKP.out _ HQE.out
          | exact HKP.out _ HQD.out
          | exact HKP.out _ HQC.out
          | exact HKP.out _ HQB.out
          | exact HKP.out _ HQA.out
          | exact HKP.out _ (Below.refl _ _)
          | exact HKP.out _ (Below.refl _ _).drew)
        (first
          | (go_at_call_of 26 (Value.agg #[Value.slice t2 A1.length c2, Value.slice u2 A2.length d2]); refine (HSM0.out _ (by first | exact Below.refl _ _ | exact (Below.refl _ _).drew)).mono ?_; rintro e wa ⟨rfl, hba⟩; have HQA : Hid (Below V12.heap.size V12 wa) := (by first | exact hba | exact below_drew0 hba))
          | (go_at_call_of 26 (Value.agg #[Value.slice t4 H1.length c4, Value.slice u4 H2.length d4]); refine (HSM1.out _ HQA.out).mono ?_; rintro e wb ⟨rfl, hbb⟩; have HQB : Hid (Below V12.heap.size V12 wb) := HQA.out.trans (hbb.mono HQA.out.size))
          | (go_at_call_of 26 (Value.agg #[Value.slice t6 D1.length c6, Value.slice u6 D2.length d6]); refine (HSM2.out _ HQB.out).mono ?_; rintro e wc' ⟨rfl, hbc⟩; have HQC : Hid (Below V12.heap.size V12 wc') := HQB.out.trans (hbc.mono HQB.out.size))
          | (go_at_call 16; refine (HST.out _ HQC.out).mono ?_; rintro e wd ⟨rfl, hbd⟩; have HQD : Hid (Below V12.heap.size V12 wd) := HQC.out.trans (hbd.mono HQC.out.size))
          | (go_at_call 18; refine (HCU.out _ (by first | exact HQF.out | exact HQD.out)).mono ?_; rintro e we ⟨rfl, hbe⟩; have HQE : Hid (Below V12.heap.size V12 we) := (by first | exact HQF.out.trans (hbe.mono HQF.out.size) | exact HQD.out.trans (hbe.mono HQD.out.size)))
          | (go_at_call 27; refine (HCV.out _ (by first | exact HQE.out | exact HQD.out)).mono ?_; rintro e wf ⟨rfl, hbf⟩; have HQF : Hid (Below V12.heap.size V12 wf) := (by first | exact HQE.out.trans (hbf.mono HQE.out.size) | exact HQD.out.trans (hbf.mono HQD.out.size))))
      all_goals
        go_wp2
        go_meet
        case rel =>
          first
            | exact ⟨rfl, HQF⟩
            | exact ⟨rfl, HQE⟩
  case rest =>
  obtain ⟨rfl, HX0⟩ := hcut
  obtain ⟨w8, hw8⟩ : ∃ x, x = wc := ⟨_, rfl⟩
  rw [← hw8] at HX0 ⊢
  clear hw8 HSM0 HSM1 HSM2 HST HCU HCV HUA HVA HUH HVH HUD HVD HUM HVM HUV HVV HUC HVC vv vv2
  have HPK : Hid (Pks V2 w8 b2 b4 b6 V4.heap.size V6.heap.size t2 A1.length c2 u4 H2.length d4 t6 D1.length c6) :=
    ⟨(HO2.out.ob.below HX0.out).c0, (HO4.out.ob.below HX0.out).c1, (HO6.out.ob.below HX0.out).c0, HP2.out.below HX0.out (Nat.le_of_lt (Nat.lt_of_lt_of_le HQ2.out.2 HS2.out)), HP4.out.below HX0.out (Nat.le_of_lt (Nat.lt_of_lt_of_le HQ4.out.2 HS4.out)), HP6.out.below HX0.out (Nat.le_of_lt (Nat.lt_of_lt_of_le HQ6.out.2 HS6.out)), HZ.out.trans (HX0.out.mono HZ.out.size)⟩
  clear HKP HO0 HO1 HO2 HO3 HO4 HO5 HO6 HO7 HP2 HP4 HP6 HM1 HM2 HX0 HZ
  obtain ⟨q2, q4, q6, _, _, _, _⟩ := HPK.out
  go_wp2
  go_loopw [26] (fun si wx => ∃ j : Nat, j ≤ A1.length ∧ si = .int .i64 j ∧ Hid (Pks V2 wx b2 b4 b6 V4.heap.size V6.heap.size t2 A1.length c2 u4 H2.length d4 t6 D1.length c6)) (fun si _ => A1.length - (intOf si).toNat)
  case atStart => exact ⟨0, Nat.zero_le _, rfl, HPK⟩
  case round =>
  obtain ⟨j, hj, rfl, HPr⟩ := hrel
  have q2 := HPr.out.k2
  have q4 := HPr.out.k4
  have q6 := HPr.out.k6
  have hjb : (j : Int) ≤ 1000 := by omega
  by_cases hlt : j < A1.length
  · have hlt2 : (j : Int) < (A1.length : Int) := by omega
    obtain ⟨g, rfl, hg1, hg2, hg3, hg4⟩ := HPr.out.o2 j hlt
    obtain ⟨x, hx⟩ := Option.isSome_iff_exists.1 hg3
    have HN : Hid (g ≠ b2 ∧ g ≠ b4 ∧ g ≠ b6 ∧ V2.heap.size ≤ g) := by
      have h1 := HQ2.out.1
      have h2 := HL24.out
      have h3 := HQ4.out.1
      have h4 := HL46.out
      have h5 := HQ6.out.1
      exact ⟨by omega, by omega, by omega, by omega⟩
    go_wp2
    go_roundw
    case rel => exact ⟨j + 1, by omega, by go_num, HPr.out.set g j _ HN.out.1 HN.out.2.1 HN.out.2.2.1 HN.out.2.2.2⟩
    case measure => simp [intOf]; omega
  have hlt2 : ¬ (j : Int) < (A1.length : Int) := by omega
  have HPK := HPr
  clear HPr q2 q4 q6 hlt
  obtain ⟨q2, q4, q6, _, _, _, _⟩ := HPK.out
  go_wp2
  go_loopw [27] (fun si wx => ∃ j : Nat, j ≤ H2.length ∧ si = .int .i64 j ∧ Hid (Pks V2 wx b2 b4 b6 V4.heap.size V6.heap.size t2 A1.length c2 u4 H2.length d4 t6 D1.length c6)) (fun si _ => H2.length - (intOf si).toNat)
  case atStart => exact ⟨0, Nat.zero_le _, rfl, HPK⟩
  case round =>
  obtain ⟨j, hj, rfl, HPr⟩ := hrel
  have q2 := HPr.out.k2
  have q4 := HPr.out.k4
  have q6 := HPr.out.k6
  have hjb : (j : Int) ≤ 1000 := by omega
  by_cases hlt : j < H2.length
  · have hlt2 : (j : Int) < (H2.length : Int) := by omega
    obtain ⟨g, rfl, hg1, hg2, hg3, hg4⟩ := HPr.out.o4 j hlt
    obtain ⟨x, hx⟩ := Option.isSome_iff_exists.1 hg3
    have HN : Hid (g ≠ b2 ∧ g ≠ b4 ∧ g ≠ b6 ∧ V2.heap.size ≤ g) := by
      have h1 := HQ2.out.1
      have h2 := HL24.out
      have h3 := HQ4.out.1
      have h4 := HL46.out
      have h5 := HQ6.out.1
      exact ⟨by omega, by omega, by omega, by omega⟩
    go_wp2
    go_roundw
    case rel => exact ⟨j + 1, by omega, by go_num, HPr.out.set g j _ HN.out.1 HN.out.2.1 HN.out.2.2.1 HN.out.2.2.2⟩
    case measure => simp [intOf]; omega
  have hlt2 : ¬ (j : Int) < (H2.length : Int) := by omega
  have HPK := HPr
  clear HPr q2 q4 q6 hlt
  obtain ⟨q2, q4, q6, _, _, _, _⟩ := HPK.out
  go_wp2
  go_loopw [28] (fun si wx => ∃ j : Nat, j ≤ D1.length ∧ si = .int .i64 j ∧ Hid (Pks V2 wx b2 b4 b6 V4.heap.size V6.heap.size t2 A1.length c2 u4 H2.length d4 t6 D1.length c6)) (fun si _ => D1.length - (intOf si).toNat)
  case atStart => exact ⟨0, Nat.zero_le _, rfl, HPK⟩
  case round =>
  obtain ⟨j, hj, rfl, HPr⟩ := hrel
  have q2 := HPr.out.k2
  have q4 := HPr.out.k4
  have q6 := HPr.out.k6
  have hjb : (j : Int) ≤ 1000 := by omega
  by_cases hlt : j < D1.length
  · have hlt2 : (j : Int) < (D1.length : Int) := by omega
    obtain ⟨g, rfl, hg1, hg2, hg3, hg4⟩ := HPr.out.o6 j hlt
    obtain ⟨x, hx⟩ := Option.isSome_iff_exists.1 hg3
    have HN : Hid (g ≠ b2 ∧ g ≠ b4 ∧ g ≠ b6 ∧ V2.heap.size ≤ g) := by
      have h1 := HQ2.out.1
      have h2 := HL24.out
      have h3 := HQ4.out.1
      have h4 := HL46.out
      have h5 := HQ6.out.1
      exact ⟨by omega, by omega, by omega, by omega⟩
    go_wp2
    go_roundw
    case rel => exact ⟨j + 1, by omega, by go_num, HPr.out.set g j _ HN.out.1 HN.out.2.1 HN.out.2.2.1 HN.out.2.2.2⟩
    case measure => simp [intOf]; omega
  have hlt2 : ¬ (j : Int) < (D1.length : Int) := by omega
  have HPK := HPr
  clear HPr q2 q4 q6 hlt
  obtain ⟨q2, q4, q6, _, _, _, _⟩ := HPK.out
  have hbe := HPK.out.be
  obtain ⟨z00, z01, _, _, _⟩ := (HY0.out.below hbe).ob
  obtain ⟨z10, z11, _, _, _⟩ := (HY1.out.below hbe).ob
  have HSZ := Hid.mk2 (fun V (hb : Below V2.heap.size V2 V) => same_any T K t1 u1 aT aK c1 d1 cT cK V (HY1.out.t.below hb) (HY1.out.k.below hb) (HY0.out.t.below hb) (HY0.out.k.below hb))
  have HBE := Hid.mk2 hbe
  clear hbe
  go_wp2_with (go_at_call 26; refine (HSZ.out _ HBE.out).mono ?_; rintro e wz ⟨rfl, hbz⟩; have HBZ := Hid.mk2 hbz; clear hbz)
  go_ret
  have hb2 := HB2.out.trans (HBE.out.mono HB2.out.size)
  exact ⟨rfl, hb2.trans (HBZ.out.mono hb2.size)⟩
theorem lruTurns_walk (w : World) (aT : Option Addr) (cT : Nat) (aK : Option Addr) (cK : Nat) (T K : List ByteArray) (hTl : Tl w aT T cT) (hKl : Tl w aK K cK) (key : ByteArray) (hkey : key.size ≤ maxLen) :
    Calls Try.prog 4 #[.agg #[.slice aT T.length cT, .slice aK K.length cK], .string key] w fun e w' => e = .returned (.bool true) ∧ Below w.heap.size w w' := by
  cases hg : great T K with
  | true => exact turns_great w aT cT aK cK T K hTl hKl key hkey hg
  | false =>
    by_cases hl : 10000 < key.size
    · exact turns_long w aT cT aK cK T K hTl hKl key hkey hg hl
    · exact turns_walk w aT cT aK cK T K hTl hKl key hkey hg (by omega)

set_option maxRecDepth 100000 in
theorem lruTurns_lifted (os : Os) (started : os.Started) (H : Type) (enc : TypeId × Value → H) :
    ReturnsInHanded {} Try.checked os 4 .any (Rows.lruTurnsSpec.pre6 enc Try.prog Try.f4 Rows.lruTurnsRow.domain false) (Rows.lruTurnsSpec.post enc Try.prog Try.f4 false true false false) := by
  refine returnsInHanded_of_change (C := Try.checked) (by kernel_rfl) started (by kernel_rfl) Try.func4
    (ChangeSpec.witness6 (enc := enc) (C := Try.checked) false ⟨#[], #[.agg #[.slice none 0 0, .slice none 0 0], .string ByteArray.empty], []⟩ 8 (by kernel_rfl) (by kernel_rfl) (by kernel_rfl) (by kernel_rfl)) ?_
  intro W base args ds gs before hval0 hW hcnd _
  have hval : ∀ (j : Nat) t v, Try.f4.params[j]? = some t → args[j]? = some v → Value.okWide Try.prog W .any base t v := hval0
  have hW' := hW
  obtain ⟨p, q, hA0, hV, rfl, hfz, hnd⟩ := hW
  have hA : DataW.TrodAll enc Try.prog W 0 (fun _ => true) true Try.f4.params.toList args.toList ds p := hA0
  rw [Try.params4] at hA hval
  obtain ⟨v0, vs0, d0, ds0, p0, q0, hargs, rfl, rfl, h0, r0⟩ := trodAll_cons hA
  obtain ⟨v1, vs1, d1, ds1, p1, q1, rfl, rfl, rfl, h1, r1⟩ := trodAll_cons r0
  obtain ⟨rfl, rfl, rfl⟩ := trodAll_nil r1
  obtain rfl : args = #[v0, v1] := by cases args; simp_all
  obtain ⟨rfl, rfl⟩ := trodVars_none hV
  have k0 := h0
  have lt0 : ∀ x ∈ p0, x.block < W.heap.size := by obtain ⟨m, hm⟩ := k0; exact DataW.trod_lt m _ _ _ hm
  obtain ⟨aT0, cT0, aK0, cK0, T0, K0, rfl, hT0, hK0⟩ := inOrder_of (fun _ => rfl) (hval 0 24 v0 rfl rfl) h0
  obtain ⟨a1, rfl, rfl, rfl, w1⟩ := open_string Try.underlying9 (hval 1 9 v1 rfl rfl) h1
  clear hA0 hval0
  refine (lruTurns_walk W aT0 cT0 aK0 cK0 T0 K0 hT0 hK0 a1 w1).mono fun e W' ⟨he, bel⟩ => ?_
  subst he
  exact ⟨_, rfl, _, _, _, [], _, [], hW', trodAll_mk1 (shut_bool Try.underlying4 _), (trodAll_cons_mk (Below.trod laidOut_all (by kernel_rfl) (of_decide_eq_true (by kernel_rfl)) k0 bel lt0) (trodAll_cons_mk (shut_string Try.underlying9 w1) trodAll_mk0)), rfl, bel.frame _, fun h => by cases h⟩

theorem lruTurns_proved : Rows.LruTurnsSaid :=
  OpenClaim.holds_of_wide 4 Try.f4 rfl rfl rfl rfl rfl rfl rfl ⟨rfl, rfl, rfl, rfl, rfl⟩ rfl rfl rfl rfl rfl (by kernel_rfl) Try.func4 (by kernel_rfl)
    (of_decide_eq_true (by kernel_rfl)) (by unfold Func.isWrapper; first | (rw [if_pos (by decide +kernel)]; kernel_rfl) | (rw [if_neg (by decide +kernel)]; exact ⟨rfl, rfl⟩))
    (fun os started H enc _ => lruTurns_lifted os started H enc)
#print axioms lruTurns_proved
end Go.Proofs.Ytmdlampmoeiihaa
