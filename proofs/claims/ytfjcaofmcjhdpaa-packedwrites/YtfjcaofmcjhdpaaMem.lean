/-
  (shaken)
-/
import Derived.Test.YtfjcaofmcjhdpaaPure
import Derived.Maps.AppendAt
import Derived.Lib.AppendStr
import Derived.Laws.AppendOwnNone
import Derived.Laws.IdiomStrings
namespace Go.Proofs.Ytfjcaofmcjhdpaa
open Go.RowKit
set_option linter.unusedSimpArgs false
set_option linter.unusedVariables false

theorem Try.infoByte : (Try.prog.info? 5).map (fun i => (i.zero, i.size, i.bytes)) = some (some (.int .u8 0), 1, 1) := by kernel_rfl

theorem addr_add (b off j : Nat) : (⟨b, off, none⟩ : Addr).add j = ⟨b, off + j, none⟩ := by unfold Addr.add; split <;> simp_all
theorem below_cells {W w1 : World} (hb : Below W.heap.size W w1) : ∀ b o, b < W.heap.size → w1.cell? ⟨b, o, none⟩ = W.cell? ⟨b, o, none⟩ :=
  fun b o h => hb.cell (p := ⟨b, o, none⟩) h
theorem below_frozen {W w1 : World} (hb : Below W.heap.size W w1) : ∀ b o, b < W.heap.size → w1.frozen? ⟨b, o, none⟩ = W.frozen? ⟨b, o, none⟩ :=
  fun b o h => hb.frozen (p := ⟨b, o, none⟩) h
/-- a call made a block and went on -/
theorem below_alloc {w w1 : World} {o : Obj} (hb : Below (w.alloc o).heap.size (w.alloc o) w1) : Below w.heap.size w w1 :=
  ((Below.refl _ _).alloc (Nat.le_refl _) _).trans (hb.mono (by simp))
/-- a byte's cell -/
def bcell (c : UInt8) : Value := .int .u8 (c.toNat : Int)
/-- the slice v owns the bytes l, in a block from base on -/
def Own (w : World) (base : Nat) (v : Value) (l : List UInt8) : Prop := w.ownsRow base 5 1 v l.length (l.map bcell)
/-- what an append leaves: only v's own row and new blocks have turned; the new slice lies in v's row or in a new block -/
structure Grew (w w' : World) (v v' : Value) : Prop where
  grown : w.grownBy w' v.ownBlock
  lies : ∀ k, v'.ownBlock = some k → v.ownBlock = some k ∨ w.heap.size ≤ k

theorem Grew.refl (w : World) (v : Value) : Grew w w v v := ⟨World.grownBy.refl w _, fun k h => .inl h⟩
theorem Grew.trans {a b c : World} {u v x : Value} (h : Grew a b u v) (k : Grew b c v x) : Grew a c u x := by
  refine ⟨⟨k.grown.os.trans h.grown.os, k.grown.tape.trans h.grown.tape, k.grown.output.trans h.grown.output, Nat.le_trans h.grown.size k.grown.size, fun i hi hne => ?_⟩, fun i hi => ?_⟩
  · have h1 := h.grown.block i hi hne
    have h2 := k.grown.block i (Nat.lt_of_lt_of_le hi h.grown.size) (fun e => by
      rcases h.lies i e.symm with g | g
      · exact hne g.symm
      · omega)
    exact h2.trans h1
  · rcases k.lies i hi with g | g
    · exact h.lies i g
    · exact .inr (Nat.le_trans h.grown.size g)
theorem Grew.alloc {w w' : World} {v v' : Value} {o : Obj} (h : Grew (w.alloc o) w' v v') : Grew w w' v v' := by
  have hs : (w.alloc o).heap.size = w.heap.size + 1 := by simp
  refine ⟨(World.grownBy_alloc w o v.ownBlock).trans h.grown, fun k hk => ?_⟩
  rcases h.lies k hk with g | g
  · exact .inl g
  · exact .inr (by omega)
theorem Grew.below {w w' : World} {v v' : Value} {base : Nat} {l : List UInt8} (h : Grew w w' v v') (ho : Own w base v l) (hb : base ≤ w.heap.size) : Below base w w' :=
  (Below.refl _ _).grown h.grown hb (fun k hk => (ho.lt k hk).1)
theorem Grew.below_nil {w w' : World} {v' : Value} (h : Grew w w' (.slice none 0 0) v') : Below w.heap.size w w' :=
  (Below.refl _ _).grown h.grown (Nat.le_refl _) (fun k hk => by simp [Value.ownBlock] at hk)

theorem Own.nil (w : World) (base : Nat) : Own w base (.slice none 0 0) [] := World.ownsRow_nil w base _ 1
theorem Own.alloc {w : World} {base : Nat} {v : Value} {l : List UInt8} (h : Own w base v l) (o : Obj) : Own (w.alloc o) base v l := World.ownsRow.alloc h o

theorem bcell_one (l : List UInt8) : ∀ u ∈ l.map bcell, u.oneCell' = true := by
  intro u hu
  obtain ⟨c, _, rfl⟩ := List.mem_map.1 hu
  rfl

/-- the bytes l lie at the address, below block B -/
def BsAt (w : World) (B : Nat) (ao : Option Addr) (l : List UInt8) : Prop :=
  l = [] ∨ ∃ b off, ao = some ⟨b, off, none⟩ ∧ b < B ∧ ∀ j (hj : j < l.length), w.cell? ⟨b, off + j, none⟩ = some (bcell l[j])

theorem BsAt.nil (w : World) (B : Nat) (ao : Option Addr) : BsAt w B ao [] := .inl rfl
theorem BsAt.below {w w' : World} {B B' : Nat} {ao : Option Addr} {l : List UInt8} (h : BsAt w B ao l) (hb : Below B w w') (hB : B ≤ B') : BsAt w' B' ao l := by
  rcases h with rfl | ⟨b, off, rfl, hlt, hc⟩
  · exact .inl rfl
  · exact .inr ⟨b, off, rfl, by omega, fun j hj => (hb.cell (p := ⟨b, off + j, none⟩) hlt).trans (hc j hj)⟩

theorem BsAt.drop {w : World} {B : Nat} {ao : Option Addr} {l : List UInt8} (h : BsAt w B ao l) (k : Nat) : BsAt w B (ao.map fun x => x.add k) (l.drop k) := by
  rcases h with rfl | ⟨b, off, rfl, hlt, hc⟩
  · exact .inl (by simp)
  · refine .inr ⟨b, off + k, by simp [addr_add], hlt, fun j hj => ?_⟩
    have h1 : k + j < l.length := by simp at hj; omega
    have := hc (k + j) h1
    rw [Nat.add_assoc, this]
    simp
theorem BsAt.drop_all {w : World} {B : Nat} {ao : Option Addr} {l : List UInt8} {k : Nat} (h : l.length ≤ k) : BsAt w B ao (l.drop k) := .inl (by simp [h])
theorem BsAt.take {w : World} {B : Nat} {ao : Option Addr} {l : List UInt8} (h : BsAt w B ao l) (k : Nat) : BsAt w B ao (l.take k) := by
  rcases h with rfl | ⟨b, off, rfl, hlt, hc⟩
  · exact .inl (by simp)
  · refine .inr ⟨b, off, rfl, hlt, fun j hj => ?_⟩
    have h1 : j < l.length := by simp at hj; omega
    rw [hc j h1]
    simp
theorem grownBy_setCell (w : World) (p : Addr) (v : Value) : w.grownBy (w.setCell p v) (some p.block) :=
  ⟨rfl, rfl, rfl, by simp, fun k hk hne => Below.heap_setCell w p v k (fun e => hne (by rw [e]))⟩
theorem grown_set (w : World) (b o : Nat) (v : Value) : w.grownBy (w.setCell ⟨b, o, none⟩ v) (some b) := grownBy_setCell w ⟨b, o, none⟩ v
/-- a row that is owned may be read -/
theorem Own.at {w : World} {base : Nat} {v : Value} {l : List UInt8} (h : Own w base v l) :
    ∃ ao cap, v = .slice ao l.length cap ∧ l.length ≤ cap ∧ cap ≤ maxLen ∧ (ao = none → cap = 0) ∧ BsAt w w.heap.size ao l := by
  rcases h.2 with ⟨rfl, hn⟩ | ⟨g, cap, cur, rfl, hb, hg, hnc, hcm, hcs, htake⟩
  · have : l = [] := List.eq_nil_of_length_eq_zero hn
    subst this
    exact ⟨none, 0, rfl, by simp, by simp [maxLen], fun _ => rfl, .inl rfl⟩
  · refine ⟨_, cap, rfl, hnc, hcm, (by intro e; cases e), .inr ⟨g, 0, rfl, (Array.getElem?_eq_some_iff.1 hg).1, fun j hj => ?_⟩⟩
    have := World.ownsRow.cells h (g := g) rfl j (bcell l[j]) (by simp [hj])
    rw [addr_add] at this
    simpa using this

theorem bs_news {w : World} {B b off : Nat} {l : List UInt8} (hc : ∀ j (hj : j < l.length), w.cell? ⟨b, off + j, none⟩ = some (bcell l[j])) :
    ∀ j u, (l.map bcell)[j]? = some u → w.cell? ((⟨b, off, none⟩ : Addr).add j) = some u := by
  intro j u hu
  have hj : j < l.length := by simpa using (List.getElem?_eq_some_iff.1 hu).1
  have : u = bcell l[j] := by simpa [hj] using hu.symm
  subst this
  rw [addr_add]
  exact hc j hj

/-- append of bytes that lie somewhere, onto a row of the call's own: the run -/
theorem run_app_bytes (w : World) (ty : TypeId) (base : Nat) (v : Value) (l : List UInt8) (hown : Own w base v l) (ao : Option Addr) (c : Nat) (src : List UInt8) (B : Nat) (hnil : ao = none → c = 0) (hsrc : BsAt w B ao src)
    (hlen : l.length + src.length ≤ 140737488355328) (hbase : base ≤ w.heap.size) :
    ∃ v' w', (Builtin.append_ #[22, 22] ty #[v, .slice ao src.length c]).run Try.prog w = .ok v' w' ∧ Own w' base v' (l ++ src) ∧ Grew w w' v v' := by
  obtain ⟨i0, hi, hz0, hz1, hz2⟩ := info_parts Try.infoByte
  cases ao with
  | none =>
    have hs : src = [] := by
      rcases hsrc with h | ⟨b, off, h, _⟩
      · exact h
      · cases h
    subst hs
    have hc := hnil rfl
    subst hc
    have hr := run_append_owned_none (P := Try.prog) (w := w) base 22 ty 5 i0 1 Try.underlying22 hi v l.length (l.map bcell) hown
    exact ⟨v, w, hr, by simpa using hown, Grew.refl w v⟩
  | some a =>
    have hm : maxLen = 9223372036854775807 := rfl
    have hnews : ∀ j u, (src.map bcell)[j]? = some u → w.cell? (a.add j) = some u := by
      rcases hsrc with rfl | ⟨b, off, h, _, hc⟩
      · intro j u hu; simp at hu
      · cases h
        exact bs_news (B := B) hc
    obtain ⟨v', w', hr, ho, hg, _, hat⟩ := run_append_own_at (P := Try.prog) w base 22 ty 5 i0 (.int .u8 0) 1 1 Try.underlying22 hi hz0 hz1 hz2 rfl (by decide) v l.length (l.map bcell) hown a src.length c (src.map bcell) (by simp) hnews (bcell_one src) (by omega) (by omega) hbase
    refine ⟨v', w', hr, ?_, hg, fun k hk => ?_⟩
    · have : (l ++ src).length = l.length + src.length := by simp
      unfold Own
      rw [this, List.map_append]
      exact ho
    · rcases hat with h | h
      · exact .inl (h ▸ hk)
      · rw [h] at hk; cases hk; exact .inr (Nat.le_refl _)

theorem Own.place {w w' : World} {base : Nat} {v v' : Value} {s : ByteArray} {l : List UInt8} (i0 : TypeInfo) (hi : Try.prog.info? 5 = some i0) (hz0 : i0.zero = some (.int .u8 0)) (hz1 : i0.size = 1) (hz2 : i0.bytes = 1) (ty : TypeId)
    (h : Own w base v l) (hlen : l.length + s.size ≤ 140737488355328)
    (hr : (Builtin.append_ #[22, 9] ty #[v, .string s]).run Try.prog w = .ok v' w') (hnil : v' = .slice none 0 0 ↔ v = .slice none 0 0 ∧ s.size = 0) :
    ∀ k, v'.ownBlock = some k → v.ownBlock = some k ∨ w.heap.size ≤ k := by
  intro k hk
  rcases h.2 with ⟨rfl, hn⟩ | ⟨g, cap, cur, rfl, hb, hg, hnc, hcm, hcs, htake⟩
  · by_cases hz : s.size = 0
    · have := hnil.2 ⟨rfl, hz⟩
      subst this
      simp [Value.ownBlock] at hk
    · have h2 := run_append_nil_string (P := Try.prog) w 22 9 ty 5 i0 (.int .u8 0) Try.underlying22 Try.underlying9 hi hz0 s (by omega) (by omega) (by rw [hz2]; omega)
      rw [h2] at hr
      cases hr
      simp [Value.ownBlock] at hk
      exact .inr (by omega)
  · by_cases hroom : l.length + s.size ≤ cap
    · have h2 := Lib.run_append_room_string (P := Try.prog) w 22 9 ty 5 i0 Try.underlying22 Try.underlying9 hi hz1 g l.length cap cur hg s hroom (by omega)
      rw [h2] at hr
      cases hr
      simp [Value.ownBlock] at hk ⊢
      exact .inl hk
    · have h2 := Lib.run_append_grow_string (P := Try.prog) w 22 9 ty 5 i0 (.int .u8 0) Try.underlying22 Try.underlying9 hi hz0 ⟨g, 0, none⟩ l.length cap (l.map bcell) (by simp [hz1]) (World.ownsRow.cells h (g := g) rfl) s (by omega) (by omega) (by rw [hz2]; exact growslice_fits (by omega) (by omega))
      rw [h2] at hr
      cases hr
      simp [Value.ownBlock] at hk
      exact .inr (by omega)

/-- append of a text's bytes onto a row of the call's own: the run -/
theorem run_app_text (w : World) (ty : TypeId) (base : Nat) (v : Value) (l : List UInt8) (hown : Own w base v l) (s : ByteArray)
    (hlen : l.length + s.size ≤ 140737488355328) (hbase : base ≤ w.heap.size) :
    ∃ v' w', (Builtin.append_ #[22, 9] ty #[v, .string s]).run Try.prog w = .ok v' w' ∧ Own w' base v' (l ++ s.data.toList) ∧ Grew w w' v v' := by
  obtain ⟨i0, hi, hz0, hz1, hz2⟩ := info_parts Try.infoByte
  have hm : maxLen = 9223372036854775807 := rfl
  obtain ⟨v', w', hr, ho, hg, hn⟩ := Lib.run_append_own_string (P := Try.prog) w base 22 9 ty 5 i0 Try.underlying22 Try.underlying9 hi hz0 hz1 hz2 v l.length (l.map bcell) hown s (by omega) hlen hbase
  refine ⟨v', w', hr, ?_, hg, Own.place i0 hi hz0 hz1 hz2 ty hown hlen hr hn⟩
  have : (l ++ s.data.toList).length = l.length + s.size := by simp
  unfold Own
  rw [this, List.map_append]
  exact ho

section
variable {w : World} {ops : Array Oper} {rest : List Oper} {o : Oper} {a : Act} {Q : Exit → Act → World → Prop}

/-- append(v, src...), src some bytes: at the operation -/
theorem app_bytes (hgd : o.guard = none) (s x : Operand) (ho : o.op = .call { callee := .builtin .append, args := #[s, x], argTypes := #[22, 22] })
    (base : Nat) (v : Value) (l : List UInt8) (hown : Own w base v l) (hs : a.eval s = v) (ao : Option Addr) (c : Nat) (src : List UInt8) (m : Nat) (hm : m = src.length) (hx : a.eval x = .slice ao m c) (B : Nat) (hnil : ao = none → c = 0) (hsrc : BsAt w B ao src)
    (hlen : l.length + src.length ≤ 140737488355328) (hbase : base ≤ w.heap.size)
    (h : ∀ v' w', Own w' base v' (l ++ src) → Grew w w' v v' → wpList Try.prog ops Q rest (a.put o.dst v') w') : wpList Try.prog ops Q (o :: rest) a w := by
  subst hm
  refine wpList_plain hgd fun K hK => ?_
  obtain ⟨v', w', hr, h2, h3⟩ := run_app_bytes w o.type base v l hown ao c src B hnil hsrc hlen hbase
  unfold Oper.wp execOp
  simp only [ho, resolve, invoke, builtin, Sem.run_bind, Sem.run_pure, Result.andThen_ok, List.map_toArray, List.map_cons, List.map_nil, hs, hx, hr]
  exact hK _ _ (h v' w' h2 h3)

/-- append(v, s...), s a text: at the operation -/
theorem app_text (hgd : o.guard = none) (sl x : Operand) (ho : o.op = .call { callee := .builtin .append, args := #[sl, x], argTypes := #[22, 9] })
    (base : Nat) (v : Value) (l : List UInt8) (hown : Own w base v l) (hs : a.eval sl = v) (s : ByteArray) (hx : a.eval x = .string s)
    (hlen : l.length + s.size ≤ 140737488355328) (hbase : base ≤ w.heap.size)
    (h : ∀ v' w', Own w' base v' (l ++ s.data.toList) → Grew w w' v v' → wpList Try.prog ops Q rest (a.put o.dst v') w') : wpList Try.prog ops Q (o :: rest) a w := by
  refine wpList_plain hgd fun K hK => ?_
  obtain ⟨v', w', hr, h2, h3⟩ := run_app_text w o.type base v l hown s hlen hbase
  unfold Oper.wp execOp
  simp only [ho, resolve, invoke, builtin, Sem.run_bind, Sem.run_pure, Result.andThen_ok, List.map_toArray, List.map_cons, List.map_nil, hs, hx, hr]
  exact hK _ _ (h v' w' h2 h3)

/-- append(v, x), x one byte: at the operation; the element lies in a new block of its own -/
theorem app_one {w0 : World} (hgd : o.guard = none) (s x : Operand) (ho : o.op = .call { callee := .builtin .append, args := #[s, x], argTypes := #[22, 22] })
    (base : Nat) (v : Value) (l : List UInt8) (hown : Own w0 base v l) (hs : a.eval s = v) (n : Int) (c : UInt8) (hc : n = (c.toNat : Int)) (hw : w = w0.alloc (.cells #[.int .u8 n] 5)) (hx : a.eval x = .slice (some ⟨w0.heap.size, 0, none⟩) 1 1)
    (hlen : l.length + 1 ≤ 140737488355328) (hbase : base ≤ w0.heap.size)
    (h : ∀ v' w', Own w' base v' (l ++ [c]) → Grew w0 w' v v' → wpList Try.prog ops Q rest (a.put o.dst v') w') : wpList Try.prog ops Q (o :: rest) a w := by
  subst hw hc
  refine app_bytes hgd s x ho base v l (hown.alloc _) hs (some ⟨w0.heap.size, 0, none⟩) 1 [c] 1 rfl hx (w0.heap.size + 1) (by intro e; cases e) (.inr ⟨w0.heap.size, 0, rfl, by omega, fun j hj => ?_⟩) (by simpa using hlen) (by simp; omega) (fun v' w' h1 h2 => h v' w' h1 h2.alloc)
  have : j = 0 := by simp at hj; omega
  subst this
  simp [bcell]
end

/-- string(b) -/
theorem conv_bytes (w : World) (B : Nat) (ao : Option Addr) (l : List UInt8) (cap : Nat) (h : BsAt w B ao l) :
    (convert 22 9 (.slice ao l.length cap)).run Try.prog w = .ok (.string ⟨l.toArray⟩) w := by
  rcases h with rfl | ⟨b, off, rfl, _, hc⟩
  · rw [run_convert_bytes_string w 22 9 5 ao _ cap Try.underlying22 Try.underlying5 Try.underlying9]
    cases ao with
    | none => simp [Conv.bytesToString]; rfl
    | some a =>
      have h2 := run_bytesToString (P := Try.prog) w a 0 cap [] (by simp [loadCells, loadCellsFrom])
      exact h2
  · exact run_convert_bytes_back (P := Try.prog) w 22 9 5 ⟨b, off, none⟩ cap l Try.underlying22 Try.underlying5 Try.underlying9 (fun j hj => by
      rw [addr_add]
      exact hc j hj)

/-- the facts on string(b) of a row that is owned, in whatever later world -/
theorem Own.conv {w : World} {base : Nat} {v : Value} {l : List UInt8} (h : Own w base v l) :
    ∀ W, Below w.heap.size w W → (convert 22 9 v).run Try.prog W = .ok (.string ⟨l.toArray⟩) W := by
  intro W hb
  obtain ⟨ao, cap, rfl, _, _, _, hbs⟩ := h.at
  exact conv_bytes W w.heap.size ao l cap (hbs.below hb (Nat.le_refl _))

end Go.Proofs.Ytfjcaofmcjhdpaa
