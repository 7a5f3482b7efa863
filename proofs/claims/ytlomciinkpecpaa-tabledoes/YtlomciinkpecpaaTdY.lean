/-
  The table beside blocks that are none of its own; each call's contract, whatever the name.
-/
import Derived.Test.YtlomciinkpecpaaTdPut
import Derived.Test.YtlomciinkpecpaaTbNot
namespace Go.Proofs.Ytlomciinkpecpaa
open Go.RowKit
set_option linter.unusedSimpArgs false
set_option linter.unusedVariables false
set_option maxRecDepth 100000

/-- a table none of whose blocks is one of K -/
def TBy (w : World) (base p : Nat) (T : List NU) (C : Nat) (K : Nat → Prop) : Prop := ∃ moved F, moved ≤ 4 ∧ TB w base p T moved C F ∧ ∀ k, K k → ¬ F k ∧ k < w.heap.size
theorem TBy.below {w w' : World} {base p : Nat} {T : List NU} {C : Nat} {K : Nat → Prop} (h : TBy w base p T C K) (hb : Below w.heap.size w w') : TBy w' base p T C K := by
  obtain ⟨m, F, hm, h1, h2⟩ := h
  exact ⟨m, F, hm, h1.below hb, fun k hk => ⟨(h2 k hk).1, Nat.lt_of_lt_of_le (h2 k hk).2 hb.size⟩⟩
theorem TBx.toY {w w' : World} {base p : Nat} {T : List NU} {C : Nat} {K : Nat → Prop} (h : TBx w base p T C) (hb : Below w.heap.size w w') (hK : ∀ k, K k → w.heap.size ≤ k ∧ k < w'.heap.size) : TBy w' base p T C K := by
  obtain ⟨m, F, hm, h1⟩ := h
  exact ⟨m, F, hm, h1.below hb, fun k hk => ⟨fun hf => by have := (h1.lt hf).2; have := (hK k hk).1; omega, (hK k hk).2⟩⟩
theorem Same.stepy {w w' : World} {base p : Nat} {T T' : List NU} {moved C : Nat} {F K : Nat → Prop} (h : TB w base p T moved C F) (hs : Same w base p T' C F w') (hB : base ≤ w.heap.size) (hK : ∀ k, K k → ¬ F k ∧ k < w.heap.size) :
    TBy w' base p T' C K ∧ Below base w w' ∧ ∀ k, K k → w'.heap[k]? = w.heap[k]? := by
  obtain ⟨m, F', hm, h1, h2, h3⟩ := hs
  refine ⟨⟨m, F', hm, h1, fun k hk => ⟨fun hf => ?_, Nat.lt_of_lt_of_le (hK k hk).2 h2.size⟩⟩, h2.to_below hB (fun k hk => (h.lt hk).1), fun k hk => h2.block k (hK k hk).2 (hK k hk).1⟩
  rcases h3 k hf with h4 | h4
  · exact (hK k hk).1 h4
  · have := (hK k hk).2
    omega
theorem del_y (w : World) (base p : Nat) (T : List NU) (C : Nat) (K : Nat → Prop) (h : TBy w base p T C K) (hB : base ≤ w.heap.size) (hC : T.length ≤ C) (hC2 : C ≤ 200000) (y : Nm) (hy : y.ok) :
    Calls Try.prog 12 #[.pointer (some ⟨p, 0, none⟩), .agg #[.int .i64 y.tenant, .string y.key]] w fun e w' => e = .returned (.tuple #[.bool (lk T y).isSome, .int .i64 0]) ∧ TBy w' base p (strike y T) C K ∧ Below base w w' ∧ ∀ k, K k → w'.heap[k]? = w.heap[k]? := by
  obtain ⟨m, F, hm, h1, h2⟩ := h
  refine (del_ok w base p T m C F h1 hC hC2 y hy).mono ?_
  rintro e w' ⟨rfl, T', rfl, hs⟩
  exact ⟨rfl, Same.stepy h1 hs hB h2⟩
theorem get_y (w : World) (base p : Nat) (T : List NU) (C : Nat) (K : Nat → Prop) (h : TBy w base p T C K) (hB : base ≤ w.heap.size) (hC : T.length ≤ C) (hC2 : C ≤ 200000) (y : Nm) (hy : y.ok) :
    Calls Try.prog 13 #[.pointer (some ⟨p, 0, none⟩), .agg #[.int .i64 y.tenant, .string y.key]] w fun e w' => e = .returned (.tuple #[.int .i64 ((lk T y).getD 0), .bool (lk T y).isSome, .int .i64 0]) ∧ TBy w' base p T C K ∧ Below base w w' ∧ ∀ k, K k → w'.heap[k]? = w.heap[k]? := by
  obtain ⟨m, F, hm, h1, h2⟩ := h
  refine (get_ok w base p T m C F h1 hC hC2 y hy).mono ?_
  rintro e w' ⟨rfl, hs⟩
  exact ⟨rfl, Same.stepy h1 hs hB h2⟩
theorem putbad_y (w : World) (base p : Nat) (T : List NU) (C : Nat) (K : Nat → Prop) (h : TBy w base p T C K) (y : Nm) (hy : ¬ y.ok) (x : Int) :
    Calls Try.prog 9 #[.pointer (some ⟨p, 0, none⟩), .agg #[.int .i64 y.tenant, .string y.key], .int .i64 x] w fun e w' => e = .returned (.int .i64 8) ∧ Below w.heap.size w w' := by
  obtain ⟨m, F, hm, h1, h2⟩ := h
  exact put_bad w base p T m C F h1 y hy x
/-- the block of an answer -/
def Ko (ao : Option Addr) (k : Nat) : Prop := ao = some ⟨k, 0, none⟩
theorem NsAt.far {w w' : World} {ao : Option Addr} {ns : List Nm} (h : NsAt w ao ns) (e : ∀ k, Ko ao k → w'.heap[k]? = w.heap[k]?) (hs : w.heap.size ≤ w'.heap.size) : NsAt w' ao ns := by
  rcases h with rfl | ⟨b, rfl, hlt, hc⟩
  · exact .inl rfl
  · exact .inr ⟨b, rfl, Nat.lt_of_lt_of_le hlt hs, fun i hi => ⟨(World.cell?_of_block (e b rfl)).trans (hc i hi).1, (World.cell?_of_block (e b rfl)).trans (hc i hi).2⟩⟩
theorem alls_ko {w w' : World} {T : List NU} {ao : Option Addr} {cap : Nat} {S : List Nm} (hA : Alls w w' T ao cap S) (hne : S ≠ []) : ∀ k, Ko ao k → w.heap.size ≤ k ∧ k < w'.heap.size := by
  intro k hk
  refine ⟨hA.new _ hk, ?_⟩
  rcases hA.at_ with h0 | ⟨b, hb, hlt, _⟩
  · exact absurd h0 hne
  · unfold Ko at hk
    rw [hk] at hb
    cases hb
    exact hlt

theorem TB.same {w w' : World} {base p : Nat} {T : List NU} {moved C : Nat} {F : Nat → Prop} (h : TB w base p T moved C F) (hs : w.heap.size ≤ w'.heap.size) (e : ∀ k, F k → w'.heap[k]? = w.heap[k]?) : TB w' base p T moved C F := by
  obtain ⟨blk, num, val, ents, next, h1, h2, h3, h4, rfl⟩ := h
  exact ⟨blk, num, val, ents, next, h1.same hs e, h2, h3, h4, rfl⟩
/-- a cell of a block that is none of the table's is written -/
theorem TBy.set {w : World} {base p : Nat} {T : List NU} {C : Nat} {K : Nat → Prop} (h : TBy w base p T C K) {X : Nat} (hX : K X) (o : Nat) (v : Value) : TBy (w.setCell ⟨X, o, none⟩ v) base p T C K := by
  obtain ⟨m, F, hm, h1, h2⟩ := h
  refine ⟨m, F, hm, h1.same (by simp) (fun k hk => Below.heap_setCell _ ⟨X, o, none⟩ v k (fun e => ?_)), fun k hk => ⟨(h2 k hk).1, by simpa using (h2 k hk).2⟩⟩
  have e2 : k = X := e
  rw [e2] at hk
  exact (h2 X hX).1 hk
/-- other blocks, newer ones -/
theorem TBy.move {w w' : World} {base p : Nat} {T : List NU} {C : Nat} {K K' : Nat → Prop} (h : TBy w base p T C K) (hb : Below w.heap.size w w') (hK : ∀ k, K' k → (K k ∨ w.heap.size ≤ k) ∧ k < w'.heap.size) : TBy w' base p T C K' := by
  obtain ⟨m, F, hm, h1, h2⟩ := h
  refine ⟨m, F, hm, h1.below hb, fun k hk => ⟨fun hf => ?_, (hK k hk).2⟩⟩
  rcases (hK k hk).1 with h3 | h3
  · exact (h2 k h3).1 hf
  · have := (h1.lt hf).2
    omega
theorem TBy.x {w : World} {base p : Nat} {T : List NU} {C : Nat} {K : Nat → Prop} (h : TBy w base p T C K) : TBx w base p T C := by
  obtain ⟨m, F, hm, h1, h2⟩ := h
  exact ⟨m, F, hm, h1⟩
theorem TBy.apart {w : World} {base p : Nat} {T : List NU} {C : Nat} {K : Nat → Prop} (h : TBy w base p T C K) : T.Pairwise (fun p q => p.1 ≠ q.1) := by
  obtain ⟨m, F, hm, h1, h2⟩ := h
  exact h1.apart
theorem put_y (w : World) (base p : Nat) (T : List NU) (C : Nat) (K : Nat → Prop) (h : TBy w base p T C K) (hB : base ≤ w.heap.size) (hC : T.length < C) (hC2 : C ≤ 200000) (y : Nm) (hy : y.ok) (x : Int) :
    Calls Try.prog 9 #[.pointer (some ⟨p, 0, none⟩), .agg #[.int .i64 y.tenant, .string y.key], .int .i64 x] w fun e w' => e = .returned (.int .i64 0) ∧ TBy w' base p ((y, x) :: strike y T) C K ∧ Below base w w' ∧ ∀ k, K k → w'.heap[k]? = w.heap[k]? := by
  obtain ⟨m, F, hm, h1, h2⟩ := h
  refine (put_ok w base p T m C F h1 hC hC2 y hy x).mono ?_
  rintro e w' ⟨rfl, T', rfl, hs⟩
  exact ⟨rfl, Same.stepy h1 hs hB h2⟩
theorem get_bad (w : World) (base p : Nat) (T : List NU) (moved0 C : Nat) (F : Nat → Prop) (h : TB w base p T moved0 C F) (y : Nm) (hy : ¬ y.ok) :
    Calls Try.prog 13 #[.pointer (some ⟨p, 0, none⟩), .agg #[.int .i64 y.tenant, .string y.key]] w fun e w' => e = .returned (.tuple #[.int .i64 0, .bool false, .int .i64 8]) ∧ Below w.heap.size w w' := by
  have HB : Hid (Below w.heap.size w (w.alloc (Obj.cells #[.int .i64 y.tenant, .string y.key] 28))) := (Below.refl _ _).alloc (Nat.le_refl _) _
  have HBN := Hid.mk2 (fun W (hb : Below w.heap.size w W) => begin_bad W base p T moved0 C F (h.below hb) y hy)
  clear h hy
  go_enter Try.func13, Try.ntmps13
  go_wp2_with (go_at_call 21; refine (HBN.out _ HB.out).mono ?_; rintro e w1 ⟨rfl, hb1⟩; have HB1 : Hid (Below w.heap.size w w1) := HB.out.trans (hb1.mono HB.out.size); clear hb1)
  try simp only [Exit.inBlock, Exit.then]
  exact bodyPost_ret (v := .tuple #[.int .i64 0, .bool false, .int .i64 8]) (by simp [results, Try.results13, go_sem]) rfl ⟨rfl, HB1.out⟩
theorem del_bad (w : World) (base p : Nat) (T : List NU) (moved0 C : Nat) (F : Nat → Prop) (h : TB w base p T moved0 C F) (y : Nm) (hy : ¬ y.ok) :
    Calls Try.prog 12 #[.pointer (some ⟨p, 0, none⟩), .agg #[.int .i64 y.tenant, .string y.key]] w fun e w' => e = .returned (.tuple #[.bool false, .int .i64 8]) ∧ Below w.heap.size w w' := by
  have HB : Hid (Below w.heap.size w (w.alloc (Obj.cells #[.int .i64 y.tenant, .string y.key] 28))) := (Below.refl _ _).alloc (Nat.le_refl _) _
  have HBN := Hid.mk2 (fun W (hb : Below w.heap.size w W) => begin_bad W base p T moved0 C F (h.below hb) y hy)
  clear h hy
  go_enter Try.func12, Try.ntmps12
  go_wp2_with (go_at_call 21; refine (HBN.out _ HB.out).mono ?_; rintro e w1 ⟨rfl, hb1⟩; have HB1 : Hid (Below w.heap.size w w1) := HB.out.trans (hb1.mono HB.out.size); clear hb1)
  try simp only [Exit.inBlock, Exit.then]
  exact bodyPost_ret (v := .tuple #[.bool false, .int .i64 8]) (by simp [results, Try.results12, go_sem]) rfl ⟨rfl, HB1.out⟩
/-- the error of a name -/
def eNm (y : Nm) : Int := if y.ok then 0 else 8
def gN (T : List NU) (y : Nm) : Int := if y.ok then (lk T y).getD 0 else 0
def gB (T : List NU) (y : Nm) : Bool := if y.ok then (lk T y).isSome else false
def afD (T : List NU) (y : Nm) : List NU := if y.ok then strike y T else T
def afP (T : List NU) (y : Nm) (x : Int) : List NU := if y.ok then (y, x) :: strike y T else T
section
variable (w : World) (base p : Nat) (T : List NU) (C : Nat) (K : Nat → Prop) (h : TBy w base p T C K) (hB : base ≤ w.heap.size)
include h hB
theorem get_u (hC : T.length ≤ C) (hC2 : C ≤ 200000) (y : Nm) :
    Calls Try.prog 13 #[.pointer (some ⟨p, 0, none⟩), .agg #[.int .i64 y.tenant, .string y.key]] w fun e w' => e = .returned (.tuple #[.int .i64 (gN T y), .bool (gB T y), .int .i64 (eNm y)]) ∧ TBy w' base p T C K ∧ Below base w w' ∧ ∀ k, K k → w'.heap[k]? = w.heap[k]? := by
  unfold gN gB eNm
  by_cases hy : y.ok
  · simp only [if_pos hy]
    exact get_y w base p T C K h hB hC hC2 y hy
  · simp only [if_neg hy]
    obtain ⟨m, F, hm, h1, h2⟩ := id h
    refine (get_bad w base p T m C F h1 y hy).mono ?_
    rintro e w' ⟨rfl, hb⟩
    exact ⟨rfl, h.below hb, hb.mono hB, fun k hk => hb.block k (h2 k hk).2⟩
theorem del_u (hC : T.length ≤ C) (hC2 : C ≤ 200000) (y : Nm) :
    Calls Try.prog 12 #[.pointer (some ⟨p, 0, none⟩), .agg #[.int .i64 y.tenant, .string y.key]] w fun e w' => e = .returned (.tuple #[.bool (gB T y), .int .i64 (eNm y)]) ∧ TBy w' base p (afD T y) C K ∧ Below base w w' ∧ ∀ k, K k → w'.heap[k]? = w.heap[k]? := by
  unfold gB eNm afD
  by_cases hy : y.ok
  · simp only [if_pos hy]
    exact del_y w base p T C K h hB hC hC2 y hy
  · simp only [if_neg hy]
    obtain ⟨m, F, hm, h1, h2⟩ := id h
    refine (del_bad w base p T m C F h1 y hy).mono ?_
    rintro e w' ⟨rfl, hb⟩
    exact ⟨rfl, h.below hb, hb.mono hB, fun k hk => hb.block k (h2 k hk).2⟩
theorem put_u (hC : T.length < C) (hC2 : C ≤ 200000) (y : Nm) (x : Int) :
    Calls Try.prog 9 #[.pointer (some ⟨p, 0, none⟩), .agg #[.int .i64 y.tenant, .string y.key], .int .i64 x] w fun e w' => e = .returned (.int .i64 (eNm y)) ∧ TBy w' base p (afP T y x) C K ∧ Below base w w' ∧ ∀ k, K k → w'.heap[k]? = w.heap[k]? := by
  unfold eNm afP
  by_cases hy : y.ok
  · simp only [if_pos hy]
    exact put_y w base p T C K h hB hC hC2 y hy x
  · simp only [if_neg hy]
    obtain ⟨m, F, hm, h1, h2⟩ := id h
    refine (put_bad w base p T m C F h1 y hy x).mono ?_
    rintro e w' ⟨rfl, hb⟩
    exact ⟨rfl, h.below hb, hb.mono hB, fun k hk => hb.block k (h2 k hk).2⟩
end
/-- the document's: what is left -/
def dfP (D : List NU) (y : Nm) (x : Int) : List NU := if y.ok then dput D y x else D
theorem lk_perm {D T : List NU} {y : Nm} (hr : Rise D) (hP : D.Perm T) (ha : T.Pairwise (fun p q => p.1 ≠ q.1)) : lk D y = lk T y := by
  rcases lk_fis (y := y) hr with ⟨hf, hl⟩ | ⟨hf, hlt, hn, hl⟩
  · rw [hl, lk_none (fun q hq => fis_no hr hf q (hP.symm.subset hq))]
  · rw [hl]
    refine (lk_mem ha (hP.subset ?_)).symm
    have := List.getElem_mem hlt
    have e : D[fpos D y] = (y, D[fpos D y].2) := Prod.ext hn rfl
    rw [e] at this
    exact this
theorem gB_fis {D : List NU} {y : Nm} (hr : Rise D) (hy : y.ok) : gB D y = fis D y := by
  unfold gB
  rw [if_pos hy]
  rcases lk_fis (y := y) hr with ⟨hf, hl⟩ | ⟨hf, hlt, hn, hl⟩ <;> rw [hl, hf] <;> rfl
theorem rget_u (w : World) (base : Nat) (ao : Option Addr) (D : List NU) (cap : Nat) (h : OwnE w base (.slice ao D.length cap) D) (hl : D.length ≤ 1000) (hr : Rise D) (y : Nm) :
    Calls Try.prog 30 #[.agg #[.slice ao D.length cap], .agg #[.int .i64 y.tenant, .string y.key]] w fun e w' => e = .returned (.tuple #[.int .i64 (gN D y), .bool (gB D y), .int .i64 (eNm y)]) ∧ Below w.heap.size w w' := by
  refine (rget_any w ao D cap h.de'.at_ hl h.de'.hl hr y).mono ?_
  rintro e w' ⟨rfl, hb⟩
  refine ⟨?_, hb⟩
  unfold gN gB eNm getV
  split <;> rfl
theorem rdel_u (w : World) (base : Nat) (hB : base ≤ w.heap.size) (ao : Option Addr) (D : List NU) (cap : Nat) (h : OwnE w base (.slice ao D.length cap) D) (hl : D.length ≤ 1000) (hr : Rise D) (y : Nm) :
    Calls Try.prog 31 #[.agg #[.slice ao D.length cap], .agg #[.int .i64 y.tenant, .string y.key]] w fun e w' => ∃ ro rc, e = .returned (.tuple #[.agg #[.slice ro (afD D y).length rc], .bool (gB D y), .int .i64 (eNm y)]) ∧ OwnE w' base (.slice ro (afD D y).length rc) (afD D y) ∧ (∀ k, (Value.slice ro (afD D y).length rc).ownBlock = some k → (Value.slice ao D.length cap).ownBlock = some k ∨ w.heap.size ≤ k) ∧ Below w.heap.size w w' := by
  by_cases hy : y.ok
  · rw [gB_fis hr hy]
    unfold afD eNm
    rw [if_pos hy, if_pos hy]
    cases hf : fis D y with
    | false =>
      have e : strike y D = D := strike_none (fis_no hr hf)
      rw [e]
      refine (rdel_none w base ao D cap h hl y hy hf).mono ?_
      rintro e w' ⟨rfl, ho, hb⟩
      exact ⟨ao, cap, rfl, ho, fun k hk => .inl hk, hb⟩
    | true =>
      refine (rdel_is w base ao D cap h hl y hy hr hf).mono ?_
      rintro e w' ⟨ro, rc, rfl, ho, hb⟩
      exact ⟨ro, rc, rfl, ho.down hB, fun k hk => .inr (ho.lt k hk).1, hb⟩
  · unfold gB afD eNm
    rw [if_neg hy, if_neg hy, if_neg hy]
    refine (rdel_bad w base ao D cap h y hy).mono ?_
    rintro e w' ⟨rfl, ho, hb⟩
    exact ⟨ao, cap, rfl, ho, fun k hk => .inl hk, hb⟩
theorem rput_u (w : World) (base : Nat) (hB : base ≤ w.heap.size) (ao : Option Addr) (D : List NU) (cap : Nat) (h : OwnE w base (.slice ao D.length cap) D) (hl : D.length ≤ 1000) (y : Nm) (x : Int) :
    Calls Try.prog 32 #[.agg #[.slice ao D.length cap], .agg #[.int .i64 y.tenant, .string y.key], .int .i64 x] w fun e w' => ∃ ro rc, e = .returned (.tuple #[.agg #[.slice ro (dfP D y x).length rc], .int .i64 (eNm y)]) ∧ OwnE w' base (.slice ro (dfP D y x).length rc) (dfP D y x) ∧ (∀ k, (Value.slice ro (dfP D y x).length rc).ownBlock = some k → (Value.slice ao D.length cap).ownBlock = some k ∨ w.heap.size ≤ k) ∧ Below w.heap.size w w' := by
  unfold dfP eNm
  by_cases hy : y.ok
  · rw [if_pos hy, if_pos hy]
    refine (rput_ok w base ao D cap h hl y x hy).mono ?_
    rintro e w' ⟨ro, rc, rfl, ho, hb⟩
    exact ⟨ro, rc, rfl, ho.down hB, fun k hk => .inr (ho.lt k hk).1, hb⟩
  · rw [if_neg hy, if_neg hy]
    refine (rput_bad w base ao D cap h y x hy).mono ?_
    rintro e w' ⟨rfl, ho, hb⟩
    exact ⟨ao, cap, rfl, ho, fun k hk => .inl hk, hb⟩
end Go.Proofs.Ytlomciinkpecpaa
