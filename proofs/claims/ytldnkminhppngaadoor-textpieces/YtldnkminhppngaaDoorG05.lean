/-
  Several texts in one: TyY, TyV, TyZ, TzA.
-/
import Derived.Test.YtldnkminhppngaaDoorG04
import Derived.Test.YtldnkminhppngaaDoorTxS
/-
  Requests as a kind of elements; the document's SameAll of two rows of the same requests.
-/
namespace Go.Proofs.YtldnkminhppngaaDoor
open Go.Proofs.YtldnkminhppngaaDoor.It
open Go.RowKit
set_option linter.unusedSimpArgs false
set_option linter.unusedVariables false
set_option maxRecDepth 100000

/-- a request, with where its keys lie -/
structure Rm where
  r : Rq
  ko : Option Addr
  kc : Nat
def EQ : GEl Rm := ⟨28, 30, 13, 128, .agg #[.int .u8 0, .int .u8 0, .int .i64 0, .slice none 0 0, .string ⟨#[]⟩, .int .u32 0, .int .i64 0, .int .u64 0, .int .u64 0, .int .i64 0, .string ⟨#[]⟩, .bool false, .bool false], fun x => x.r.cl (.slice x.ko x.r.cmd.keys.length x.kc)⟩
theorem okQ : GOk EQ := ⟨Tryd.underlying30, by kernel_rfl, rfl, by decide, by decide, fun _ => rfl, fun a u h => rqcl_one a.r a.ko a.r.cmd.keys.length a.kc u h⟩
theorem GRd.rq {w : World} {ao : Option Addr} {l : List Rm} {cap : Nat} (h : GRd EQ w ao l cap) (hne : l ≠ []) : ∃ b off, ao = some ⟨b, off, none⟩ ∧ b < w.heap.size ∧ ∀ i (hi : i < l.length), w.cell? ⟨b, off + i * 13, none⟩ = some (.int .u8 l[i].r.kind) ∧ w.cell? ⟨b, off + i * 13 + 1, none⟩ = some (.int .u8 l[i].r.cmd.kind) ∧ w.cell? ⟨b, off + i * 13 + 2, none⟩ = some (.int .i64 l[i].r.cmd.tenant) ∧ w.cell? ⟨b, off + i * 13 + 3, none⟩ = some (.slice l[i].ko l[i].r.cmd.keys.length l[i].kc) ∧ w.cell? ⟨b, off + i * 13 + 4, none⟩ = some (.string l[i].r.cmd.value) ∧ w.cell? ⟨b, off + i * 13 + 5, none⟩ = some (.int .u32 l[i].r.cmd.flags) ∧ w.cell? ⟨b, off + i * 13 + 6, none⟩ = some (.int .i64 l[i].r.cmd.life) ∧ w.cell? ⟨b, off + i * 13 + 7, none⟩ = some (.int .u64 l[i].r.cmd.unique) ∧ w.cell? ⟨b, off + i * 13 + 8, none⟩ = some (.int .u64 l[i].r.cmd.by_) ∧ w.cell? ⟨b, off + i * 13 + 9, none⟩ = some (.int .i64 l[i].r.tenant) ∧ w.cell? ⟨b, off + i * 13 + 10, none⟩ = some (.string l[i].r.secret) ∧ w.cell? ⟨b, off + i * 13 + 11, none⟩ = some (.bool l[i].r.on) ∧ w.cell? ⟨b, off + i * 13 + 12, none⟩ = some (.bool l[i].r.close) := by
  obtain ⟨b, off, e, hb, hc⟩ := h.lies hne
  refine ⟨b, off, e, hb, fun i hi => ?_⟩
  have h0 := hc i hi 0 (by decide)
  have h1 := hc i hi 1 (by decide)
  have h2 := hc i hi 2 (by decide)
  have h3 := hc i hi 3 (by decide)
  have h4 := hc i hi 4 (by decide)
  have h5 := hc i hi 5 (by decide)
  have h6 := hc i hi 6 (by decide)
  have h7 := hc i hi 7 (by decide)
  have h8 := hc i hi 8 (by decide)
  have h9 := hc i hi 9 (by decide)
  have h10 := hc i hi 10 (by decide)
  have h11 := hc i hi 11 (by decide)
  have h12 := hc i hi 12 (by decide)
  exact ⟨by simpa [EQ, Rq.cl] using h0, by simpa [EQ, Rq.cl] using h1, by simpa [EQ, Rq.cl] using h2, by simpa [EQ, Rq.cl] using h3, by simpa [EQ, Rq.cl] using h4, by simpa [EQ, Rq.cl] using h5, by simpa [EQ, Rq.cl] using h6, by simpa [EQ, Rq.cl] using h7, by simpa [EQ, Rq.cl] using h8, by simpa [EQ, Rq.cl] using h9, by simpa [EQ, Rq.cl] using h10, by simpa [EQ, Rq.cl] using h11, by simpa [EQ, Rq.cl] using h12⟩
/-- requests that are read: the row, and their keys -/
structure Rqs (w : World) (ao : Option Addr) (l : List Rm) (cap : Nat) : Prop where
  row : GRd EQ w ao l cap
  keys : ∀ x ∈ l, GRd ES w x.ko x.r.cmd.keys x.kc
theorem Rqs.below {w w' : World} {ao : Option Addr} {l : List Rm} {cap : Nat} (h : Rqs w ao l cap) (hb : Below w.heap.size w w') : Rqs w' ao l cap := ⟨h.row.below hb, fun x hx => (h.keys x hx).below hb⟩

set_option maxHeartbeats 4000000 in
theorem sameAll_any (X Y : List Rm) (hXY : X.map (·.r) = Y.map (·.r)) (xo yo : Option Addr) (xc yc : Nat) (w : World) (hx : Rqs w xo X xc) (hy : Rqs w yo Y yc) (n : Nat) (hn : n = X.length) (m : Nat) (hm : m = Y.length) :
    Calls Tryd.prog 14 #[.slice xo n xc, .slice yo m yc] w fun e w' => e = .returned (.bool true) ∧ Below w.heap.size w w' := by
  have hlen : X.length = Y.length := by have := congrArg List.length hXY; simpa using this
  have hmn : m = n := by omega
  subst hmn
  have hnl : (m : Int) ≤ 9223372036854775807 := by have := hx.row.len; omega
  have HX := Hid.mk2 (fun V (h : Below w.heap.size w V) => hx.below h)
  have HY := Hid.mk2 (fun V (h : Below w.heap.size w V) => hy.below h)
  have hq : ((m : Int) == (m : Int)) = true := by simp
  go_enter Tryd.func14, Tryd.ntmps14
  go_wp2
  go_loopw [5] (fun i wr => ∃ k : Nat, k ≤ m ∧ i = .int .i64 k ∧ Below w.heap.size w wr) (fun i _ => m - (intOf i).toNat)
  case atStart => exact ⟨0, Nat.zero_le _, rfl, Below.refl _ _⟩
  case round =>
    obtain ⟨k, hk, rfl, hB⟩ := hrel
    by_cases hkl : k < m
    · have hkl2 : (k : Int) < (m : Int) := by omega
      have hk0 : (0 : Int) ≤ (k : Int) := by omega
      have hx2 := HX.out _ hB
      have hy2 := HY.out _ hB
      have hkx : k < X.length := by omega
      have hky : k < Y.length := by omega
      obtain ⟨b, off, rfl, hbl, hcs⟩ := hx2.row.rq (by intro e; rw [e] at hkx; simp at hkx)
      obtain ⟨b', off', rfl, hbl', hcs'⟩ := hy2.row.rq (by intro e; rw [e] at hky; simp at hky)
      obtain ⟨x0, x1, x2, x3, x4, x5, x6, x7, x8, x9, x10, x11, x12⟩ := hcs k hkx
      obtain ⟨y0, y1, y2, y3, y4, y5, y6, y7, y8, y9, y10, y11, y12⟩ := hcs' k hky
      have kx := hx2.keys X[k] (List.getElem_mem _)
      have ky := hy2.keys Y[k] (List.getElem_mem _)
      have hr : X[k].r = Y[k].r := by
        have h1 := congrArg (fun l => l[k]?) hXY
        simp only [List.getElem?_map, List.getElem?_eq_getElem hkx, List.getElem?_eq_getElem hky, Option.map_some, Option.some.injEq] at h1
        exact h1
      obtain ⟨x, hxe⟩ : ∃ x, x = X[k] := ⟨_, rfl⟩
      obtain ⟨y, hye⟩ : ∃ y, y = Y[k] := ⟨_, rfl⟩
      rw [← hxe] at x0 x1 x2 x3 x4 x5 x6 x7 x8 x9 x10 x11 x12 kx hr
      rw [← hye] at y0 y1 y2 y3 y4 y5 y6 y7 y8 y9 y10 y11 y12 ky hr
      clear hcs hcs' hxe hye hx2 hy2
      obtain ⟨xr, ko, kc⟩ := x
      obtain ⟨yr, ko', kc'⟩ := y
      dsimp only at *
      subst hr
      have p0 := fun p : Beh wr => cell_beh hbl x0 p
      have p1 := fun p : Beh wr => cell_beh hbl x1 p
      have p2 := fun p : Beh wr => cell_beh hbl x2 p
      have p3 := fun p : Beh wr => cell_beh hbl x3 p
      have p4 := fun p : Beh wr => cell_beh hbl x4 p
      have p5 := fun p : Beh wr => cell_beh hbl x5 p
      have p6 := fun p : Beh wr => cell_beh hbl x6 p
      have p7 := fun p : Beh wr => cell_beh hbl x7 p
      have p8 := fun p : Beh wr => cell_beh hbl x8 p
      have p9 := fun p : Beh wr => cell_beh hbl x9 p
      have p10 := fun p : Beh wr => cell_beh hbl x10 p
      have p11 := fun p : Beh wr => cell_beh hbl x11 p
      have p12 := fun p : Beh wr => cell_beh hbl x12 p
      have q0 := fun p : Beh wr => cell_beh hbl' y0 p
      have q1 := fun p : Beh wr => cell_beh hbl' y1 p
      have q2 := fun p : Beh wr => cell_beh hbl' y2 p
      have q3 := fun p : Beh wr => cell_beh hbl' y3 p
      have q4 := fun p : Beh wr => cell_beh hbl' y4 p
      have q5 := fun p : Beh wr => cell_beh hbl' y5 p
      have q6 := fun p : Beh wr => cell_beh hbl' y6 p
      have q7 := fun p : Beh wr => cell_beh hbl' y7 p
      have q8 := fun p : Beh wr => cell_beh hbl' y8 p
      have q9 := fun p : Beh wr => cell_beh hbl' y9 p
      have q10 := fun p : Beh wr => cell_beh hbl' y10 p
      have q11 := fun p : Beh wr => cell_beh hbl' y11 p
      have q12 := fun p : Beh wr => cell_beh hbl' y12 p
      have HS := Hid.mk2 (fun p : Beh wr => rsame14_any xr ko ko' kc kc' p.v (kx.below p.ok) (ky.below p.ok))
      clear x0 x1 x2 x3 x4 x5 x6 x7 x8 x9 x10 x11 x12 y0 y1 y2 y3 y4 y5 y6 y7 y8 y9 y10 y11 y12 kx ky
      obtain ⟨rk, ⟨kind, tenant, keys, value, flags, life, unique, by_⟩, rt, secret, on, close⟩ := xr
      unfold Rq.arr at HS
      dsimp only at *
      go_wp2
      refine wp_region_quiet_beh (by kernel_rfl) (by kernel_rfl) ?_
      repeat (first | go_big_quiet_skip | (quiet_step (first | (go_at_call 13; exact Calls.beh_of (HS.out _)))))
      refine wpQuiet_nil ?_
      rintro w2 ⟨p, rfl⟩
      go_wp2
      go_roundw
      case rel => exact ⟨k + 1, by omega, by go_num, g_on hB p.ok⟩
      case measure => simp [intOf]; omega
    · have hkl2 : ¬ ((k : Int) < (m : Int)) := by omega
      go_wp2
      go_ret
      exact ⟨rfl, hB⟩
end Go.Proofs.YtldnkminhppngaaDoor
/-
  All requests of bytes, as data; bytes that come in two pieces tell the same.
-/
namespace Go.Proofs.YtldnkminhppngaaDoor
open Go.Proofs.YtldnkminhppngaaDoor.It
open Go.RowKit
set_option linter.unusedSimpArgs false
set_option linter.unusedVariables false
set_option maxRecDepth 100000

/-- behind it nothing is read any more -/
def lastR (r : Rq) : Bool := r.close || (r.kind == 5)
def allN : Nat → List UInt8 → List Rq × Nat
  | 0, _ => ([], 0)
  | f + 1, b => if (firstW b).2 = 0 then ([], 0) else if lastR (firstW b).1 = true then ([(firstW b).1], (firstW b).2) else ((firstW b).1 :: (allN f (b.drop (firstW b).2)).1, (firstW b).2 + (allN f (b.drop (firstW b).2)).2)
/-- all requests that are there whole, and how many bytes they have -/
def allW (b : List UInt8) : List Rq × Nat := allN (b.length + 1) b
theorem firstW_le (b : List UInt8) : (firstW b).2 ≤ b.length := (first_only (b := b) (r := (firstW b).1) (n := (firstW b).2) rfl).1
theorem allN_more : ∀ (f g : Nat) (b : List UInt8), b.length < f → b.length < g → allN f b = allN g b
  | 0, _, _, h, _ => by omega
  | _ + 1, 0, _, _, h => by omega
  | f + 1, g + 1, b, hf, hg => by
    have hle := firstW_le b
    by_cases h0 : (firstW b).2 = 0
    · unfold allN; rw [if_pos h0, if_pos h0]
    · have hd : (b.drop (firstW b).2).length < b.length := by rw [List.length_drop]; omega
      have ih := allN_more f g (b.drop (firstW b).2) (by omega) (by omega)
      unfold allN
      rw [ih]
theorem allW_eq (b : List UInt8) : allW b = if (firstW b).2 = 0 then ([], 0) else if lastR (firstW b).1 = true then ([(firstW b).1], (firstW b).2) else ((firstW b).1 :: (allW (b.drop (firstW b).2)).1, (firstW b).2 + (allW (b.drop (firstW b).2)).2) := by
  have hle := firstW_le b
  show allN (b.length + 1) b = _
  unfold allN
  by_cases h0 : (firstW b).2 = 0
  · rw [if_pos h0, if_pos h0]
  · rw [if_neg h0, if_neg h0]
    have hd : (b.drop (firstW b).2).length < b.length := by rw [List.length_drop]; omega
    rw [allN_more b.length ((b.drop (firstW b).2).length + 1) (b.drop (firstW b).2) hd (Nat.lt_succ_self _)]
    rfl
theorem eol_more : ∀ (p q : List UInt8) (e : Nat), eol p = some e → eol (p ++ q) = some e
  | [], _, _, h => by simp [eol] at h
  | [_], _, _, h => by simp [eol] at h
  | a :: b :: l, q, e, h => by
    unfold eol at h
    show eol (a :: b :: (l ++ q)) = _
    unfold eol
    split at h
    · rename_i hc; rw [if_pos hc]; exact h
    · rename_i hc
      rw [if_neg hc]
      obtain ⟨e', he, rfl⟩ := Option.map_eq_some_iff.1 h
      have := eol_more (b :: l) q e' he
      rw [List.cons_append] at this
      rw [this]
      rfl
theorem endW_more (r : Rq) (n : Nat) (l q : List UInt8) (h : (endW r n l).2 ≠ 0) : endW r n (l ++ q) = endW r n l := by
  have hl : ¬ l.length < n + 2 := by
    intro hl
    unfold endW at h
    rw [if_pos hl] at h
    exact h rfl
  have hl2 : ¬ (l ++ q).length < n + 2 := by rw [List.length_append]; omega
  unfold endW
  rw [if_neg hl, if_neg hl2]
  have e1 : ((l ++ q).drop n).take 2 = (l.drop n).take 2 := by
    rw [List.drop_append_of_le_length (by omega), List.take_append_of_le_length (by rw [List.length_drop]; omega)]
  have e2 : (l ++ q).take n = l.take n := List.take_append_of_le_length (by omega)
  rw [e1, e2]
/-- a request that was read stays the first one, whatever comes behind -/
theorem first_more {p q : List UInt8} {r : Rq} {n : Nat} (h : firstW p = (r, n)) (hn : n ≠ 0) (hc : r.close = false) : firstW (p ++ q) = (r, n) := by
  unfold firstW at h
  cases he : eol (p.take 514) with
  | none =>
    rw [he] at h
    dsimp only at h
    by_cases hl : p.length < 514
    · rw [if_pos hl] at h
      simp only [Prod.mk.injEq] at h
      exact absurd h.2.symm hn
    · rw [if_neg hl] at h
      simp only [Prod.mk.injEq] at h
      rw [← h.1] at hc
      cases hc
  | some e =>
    rw [he] at h
    dsimp only at h
    obtain ⟨e1, _⟩ := eol_some _ _ he
    have hpl : e + 2 ≤ p.length := by have : (p.take 514).length ≤ p.length := by simp; omega
                                      omega
    have he2 : eol ((p ++ q).take 514) = some e := by
      rw [List.take_append]
      exact eol_more _ _ _ he
    have ht : (p ++ q).take e = p.take e := List.take_append_of_le_length (by omega)
    have hd : (p ++ q).drop (e + 2) = p.drop (e + 2) ++ q := List.drop_append_of_le_length hpl
    unfold firstW
    rw [he2]
    dsimp only
    rw [ht, hd]
    cases hw : tellW (lw (p.take e)) with
    | none => rw [hw] at h; exact h
    | some d =>
      rw [hw] at h
      dsimp only at h ⊢
      cases hv : d.vl with
      | none => rw [hv] at h; exact h
      | some m =>
        rw [hv] at h
        dsimp only at h ⊢
        have h0 : (endW d.r m (p.drop (e + 2))).2 ≠ 0 := by
          intro h0
          rw [if_pos h0] at h
          simp only [Prod.mk.injEq] at h
          exact hn h.2.symm
        rw [endW_more _ _ _ q h0]
        exact h
theorem close_bad {b : List UInt8} {r : Rq} {n : Nat} (h : firstW b = (r, n)) (hc : r.close = true) : r.kind = 6 := by
  obtain ⟨_, h0, h1⟩ := first_only h
  by_cases hn : n = 0
  · rw [h0 hn] at hc; cases hc
  · rcases h1 hn with ⟨c, rfl⟩ | ⟨_, h2, _⟩
    · rfl
    · have h3 := (wrE_zero h2).1
      unfold Rq.hasLine at h3
      rw [hc] at h3
      simp at h3
/-- how many, and how far -/
theorem allW_le : ∀ (k : Nat) (b : List UInt8), b.length ≤ k → (allW b).2 ≤ b.length ∧ (allW b).1.length ≤ b.length := by
  intro k
  induction k with
  | zero =>
    intro b hb
    have hle := firstW_le b
    rw [allW_eq, if_pos (by omega)]
    simp
  | succ k ih =>
    intro b hb
    have hle := firstW_le b
    rw [allW_eq]
    by_cases h0 : (firstW b).2 = 0
    · rw [if_pos h0]; simp
    · rw [if_neg h0]
      by_cases hL : lastR (firstW b).1 = true
      · rw [if_pos hL]; exact ⟨hle, by simp; omega⟩
      · rw [if_neg hL]
        have hd : (b.drop (firstW b).2).length = b.length - (firstW b).2 := List.length_drop
        obtain ⟨i1, i2⟩ := ih (b.drop (firstW b).2) (by omega)
        dsimp only
        refine ⟨by omega, by rw [List.length_cons]; omega⟩
/-- in two pieces -/
theorem all_pieces : ∀ (k : Nat) (p q : List UInt8), p.length ≤ k →
    (∃ L x, (allW p).1 = L ++ [x] ∧ lastR x = true ∧ (x.close = true ∨ (allW p).1.length ≤ (allW (p ++ q)).1.length))
    ∨ ((∀ x ∈ (allW p).1, lastR x = false) ∧ (allW (p ++ q)).1 = (allW p).1 ++ (allW ((p ++ q).drop (allW p).2)).1 ∧ (allW (p ++ q)).2 = (allW p).2 + (allW ((p ++ q).drop (allW p).2)).2) := by
  intro k
  induction k with
  | zero =>
    intro p q hp
    have hle := firstW_le p
    have e : allW p = ([], 0) := by rw [allW_eq, if_pos (by omega)]
    rw [e]
    exact .inr ⟨by simp, by simp, by simp⟩
  | succ k ih =>
    intro p q hp
    have hle := firstW_le p
    by_cases h0 : (firstW p).2 = 0
    · have e : allW p = ([], 0) := by rw [allW_eq, if_pos h0]
      rw [e]
      exact .inr ⟨by simp, by simp, by simp⟩
    · by_cases hL : lastR (firstW p).1 = true
      · have e : allW p = ([(firstW p).1], (firstW p).2) := by rw [allW_eq, if_neg h0, if_pos hL]
        rw [e]
        refine .inl ⟨[], (firstW p).1, rfl, hL, ?_⟩
        cases hc : (firstW p).1.close with
        | true => exact .inl rfl
        | false =>
          have hm := first_more (q := q) (p := p) (r := (firstW p).1) (n := (firstW p).2) rfl h0 hc
          right
          rw [allW_eq, hm]
          dsimp only
          rw [if_neg h0, if_pos hL]
          simp
      · have hL2 : lastR (firstW p).1 = false := by simpa using hL
        have hc : (firstW p).1.close = false := by
          unfold lastR at hL2
          simp only [Bool.or_eq_false_iff] at hL2
          exact hL2.1
        have hm := first_more (q := q) (p := p) (r := (firstW p).1) (n := (firstW p).2) rfl h0 hc
        have hd : (p.drop (firstW p).2).length = p.length - (firstW p).2 := List.length_drop
        have hdq : (p ++ q).drop (firstW p).2 = p.drop (firstW p).2 ++ q := List.drop_append_of_le_length hle
        have e1 : allW p = ((firstW p).1 :: (allW (p.drop (firstW p).2)).1, (firstW p).2 + (allW (p.drop (firstW p).2)).2) := by rw [allW_eq, if_neg h0, if_neg hL]
        have e2 : allW (p ++ q) = ((firstW p).1 :: (allW (p.drop (firstW p).2 ++ q)).1, (firstW p).2 + (allW (p.drop (firstW p).2 ++ q)).2) := by
          rw [allW_eq, hm]
          dsimp only
          rw [if_neg h0, if_neg hL, hdq]
        rw [e1, e2]
        dsimp only
        rw [← List.drop_drop, hdq]
        rcases ih (p.drop (firstW p).2) q (by omega) with ⟨L, x, h1, h2, h3⟩ | ⟨h1, h2, h3⟩
        · refine .inl ⟨(firstW p).1 :: L, x, by rw [h1]; rfl, h2, ?_⟩
          rcases h3 with h3 | h3
          · exact .inl h3
          · exact .inr (by simp only [List.length_cons]; omega)
        · refine .inr ⟨?_, ?_, ?_⟩
          · intro x hx
            rcases List.mem_cons.1 hx with rfl | hx
            · exact hL2
            · exact h1 x hx
          · rw [h2]; rfl
          · rw [h3]; omega
end Go.Proofs.YtldnkminhppngaaDoor
/-
  b[k:] and b[:k] of bytes that are read, as one operation each.
-/
namespace Go.Proofs.YtldnkminhppngaaDoor
open Go.Proofs.YtldnkminhppngaaDoor.It
open Go.RowKit
set_option linter.unusedSimpArgs false
set_option linter.unusedVariables false
set_option maxRecDepth 100000

def restA (ao : Option Addr) (k cap : Nat) : Option Addr := if cap = k then ao else ao.map (·.add k)
theorem rest_rd {V : World} {ao : Option Addr} {L : List UInt8} {cap : Nat} (h : GRd EY V ao L cap) (k : Nat) (hk : k ≤ L.length) : GRd EY V (restA ao k cap) (L.drop k) (cap - k) := by
  have hl := h.hl
  refine ⟨by rw [List.length_drop]; omega, Nat.le_trans (Nat.sub_le _ _) h.hc, fun e => ?_, ?_⟩
  · unfold restA at e
    split at e
    · omega
    · cases ao with
      | none => have := h.hn rfl; omega
      | some a => cases e
  · by_cases hne : L.drop k = []
    · exact .inl hne
    · have hlt : k < L.length := by
        rcases Nat.lt_or_ge k L.length with h1 | h1
        · exact h1
        · exact absurd (List.drop_of_length_le h1) hne
      obtain ⟨b, off, rfl, hb, hc⟩ := h.lies (by intro e; rw [e] at hlt; simp at hlt)
      refine .inr ⟨b, off + k, ?_, hb, fun i hi j hj => ?_⟩
      · unfold restA
        rw [if_neg (by omega)]
        simp [g_add]
      · rw [List.length_drop] at hi
        have h2 := hc (k + i) (by omega) j hj
        have e : off + k + i * EY.sz + j = off + (k + i) * EY.sz + j := by show off + k + i * 1 + j = off + (k + i) * 1 + j; omega
        rw [e, h2, List.getElem_drop]
theorem sliced_l (ao : Option Addr) (k m cap : Nat) : sliced ao k m cap 1 = .slice (restA ao k cap) (m - k) (cap - k) := by
  unfold sliced restA
  rw [Nat.mul_one]
theorem wpl_slice_l {ops : Array Oper} {rest : List Oper} {o : Oper} {a : Act} {w : World} {Q : Exit → Act → World → Prop} (hgd : o.guard = none) (s x : Operand) (ho : o.op = .slice 34 s (some x) none none) (ao : Option Addr) (k m cap : Nat) (hs : a.eval s = .slice ao m cap) (hx : a.eval x = .int .i64 (k : Int)) (hk : k ≤ m)
    (h : wpList Tryd.prog ops Q rest (a.put o.dst (.slice (restA ao k cap) (m - k) (cap - k))) w) : wpList Tryd.prog ops Q (o :: rest) a w := by
  refine wpList_plain hgd fun K hK => ?_
  have he : Tryd.prog.elem 34 = 5 := by kernel_rfl
  have hu : Tryd.prog.underlying 34 = some (.slice (Tryd.prog.elem 34)) := by rw [he]; exact Tryd.underlying34
  have h1 : (Instr.sliceAt 34 (.slice ao m cap) (some (.int .i64 (k : Int))) none none).run Tryd.prog w = .ok (.slice (restA ao k cap) (m - k) (cap - k)) w := by
    rw [run_sliceAt_slice w 34 _ _ _ _ hu, run_slice_l w 34 ao m cap hu .i64 (k : Int) (by omega) (by omega), he, Tryd.sizeOf5]
    show Result.ok (sliced ao (k : Int).toNat m cap 1) w = _
    rw [Int.toNat_natCast, sliced_l]
  unfold Oper.wp execOp
  simp only [ho, hs, hx, Option.map_some, Option.map_none, Sem.run_bind, Sem.run_pure, Result.andThen_ok, h1]
  exact hK _ _ h
def headA (ao : Option Addr) (cap : Nat) : Option Addr := if cap = 0 then ao else ao.map (·.add 0)
theorem head_rd {V : World} {ao : Option Addr} {L : List UInt8} {cap : Nat} (h : GRd EY V ao L cap) (k : Nat) (hk : k ≤ L.length) : GRd EY V (headA ao cap) (L.take k) cap := by
  have hl := h.hl
  refine ⟨by rw [List.length_take]; omega, h.hc, fun e => ?_, ?_⟩
  · unfold headA at e
    split at e
    · assumption
    · cases ao with
      | none => exact h.hn rfl
      | some a => cases e
  · by_cases hne : L.take k = []
    · exact .inl hne
    · have hL : L ≠ [] := by intro e; subst e; simp at hne
      obtain ⟨b, off, rfl, hb, hc⟩ := h.lies hL
      have hL2 : 0 < L.length := (by cases L with | nil => exact absurd rfl hL | cons a t => simp)
      refine .inr ⟨b, off, ?_, hb, fun i hi j hj => ?_⟩
      · unfold headA
        rw [if_neg (by omega)]
        simp [g_add]
      · rw [List.length_take] at hi
        rw [hc i (by omega) j hj, List.getElem_take]
theorem sliced_h (ao : Option Addr) (k cap : Nat) : sliced ao 0 k cap 1 = .slice (headA ao cap) k cap := by
  unfold sliced headA
  rfl
theorem wpl_slice_h {ops : Array Oper} {rest : List Oper} {o : Oper} {a : Act} {w : World} {Q : Exit → Act → World → Prop} (hgd : o.guard = none) (s x : Operand) (ho : o.op = .slice 34 s none (some x) none) (ao : Option Addr) (k m cap : Nat) (hs : a.eval s = .slice ao m cap) (hx : a.eval x = .int .i64 (k : Int)) (hk : k ≤ cap)
    (h : wpList Tryd.prog ops Q rest (a.put o.dst (.slice (headA ao cap) k cap)) w) : wpList Tryd.prog ops Q (o :: rest) a w := by
  refine wpList_plain hgd fun K hK => ?_
  have he : Tryd.prog.elem 34 = 5 := by kernel_rfl
  have hu : Tryd.prog.underlying 34 = some (.slice (Tryd.prog.elem 34)) := by rw [he]; exact Tryd.underlying34
  have h1 : (Instr.sliceAt 34 (.slice ao m cap) none (some (.int .i64 (k : Int))) none).run Tryd.prog w = .ok (.slice (headA ao cap) k cap) w := by
    rw [run_sliceAt_slice w 34 _ _ _ _ hu, run_slice_h w 34 ao m cap hu .i64 (k : Int) (by omega) (by omega), he, Tryd.sizeOf5]
    show Result.ok (sliced ao 0 (k : Int).toNat cap 1) w = _
    rw [Int.toNat_natCast, sliced_h]
  unfold Oper.wp execOp
  simp only [ho, hs, hx, Option.map_some, Option.map_none, Sem.run_bind, Sem.run_pure, Result.andThen_ok, h1]
  exact hK _ _ h

/-- what the loop of All keeps -/
structure Al (V1 wr : World) (L : List UInt8) (k : Nat) (X : List Rm) (v : Value) : Prop where
  below : Below V1.heap.size V1 wr
  own : GOwn EQ wr V1.heap.size v X
  keys : ∀ x ∈ X, GRd ES wr x.ko x.r.cmd.keys x.kc
  off : ∀ x ∈ X, ∀ g o, x.ko = some ⟨g, o, none⟩ → x.r.cmd.keys ≠ [] → v.ownBlock ≠ some g
  le : k ≤ L.length
  so : X.map (·.r) ++ (allW (L.drop k)).1 = (allW L).1
  sk : k + (allW (L.drop k)).2 = (allW L).2
/-- what All answers -/
structure AllR (V V' : World) (L : List UInt8) (e : Ending) : Prop where
  ex : ∃ v X, e = .returned (.tuple #[v, .int .i64 ((allW L).2 : Int), .int .i64 0]) ∧ X.map (·.r) = (allW L).1 ∧ GOwn EQ V' V.heap.size v X ∧ (∀ x ∈ X, GRd ES V' x.ko x.r.cmd.keys x.kc) ∧ (∀ x ∈ X, ∀ g o, x.ko = some ⟨g, o, none⟩ → x.r.cmd.keys ≠ [] → v.ownBlock ≠ some g)
  below : Below V.heap.size V V'
theorem Al.len {V1 wr : World} {L : List UInt8} {k : Nat} {X : List Rm} {v : Value} (h : Al V1 wr L k X v) : X.length ≤ L.length := by
  have h1 := congrArg List.length h.so
  have h2 := (allW_le L.length L (Nat.le_refl _)).2
  simp at h1
  omega
/-- nothing more is there whole -/
theorem Al.fin {V V1 wr : World} {L : List UInt8} {k : Nat} {X : List Rm} {v : Value} (h : Al V1 wr L k X v) (hV : Below V.heap.size V V1) (h0 : (firstW (L.drop k)).2 = 0) : AllR V wr L (.returned (.tuple #[v, .int .i64 (k : Int), .int .i64 0])) := by
  have e : allW (L.drop k) = ([], 0) := by rw [allW_eq, if_pos h0]
  have h1 := h.so
  have h2 := h.sk
  rw [e] at h1 h2
  refine ⟨⟨v, X, by rw [← h2]; rfl, by simpa using h1, h.own.down hV.size, h.keys, h.off⟩, g_on hV h.below⟩
/-- one request more -/
theorem Al.more {V1 wr w0 w2 : World} {L : List UInt8} {k : Nat} {X : List Rm} {v v2 : Value} (h : Al V1 wr L k X v) {x : Rq} {n : Nat} (hf : firstW (L.drop k) = (x, n)) (hn : n ≠ 0) {ko : Option Addr} {kc : Nat}
    (hb : Below wr.heap.size wr w0) (hk : GRd ES w0 ko x.cmd.keys kc) (hkb : ∀ g o, ko = some ⟨g, o, none⟩ → x.cmd.keys ≠ [] → wr.heap.size ≤ g)
    (ho : GOwn EQ w2 V1.heap.size v2 (X ++ [⟨x, ko, kc⟩])) (hg : GGrew w0 w2 v v2) :
    Below V1.heap.size V1 w2 ∧ (∀ y ∈ X ++ [⟨x, ko, kc⟩], GRd ES w2 y.ko y.r.cmd.keys y.kc) ∧ (∀ y ∈ X ++ [⟨x, ko, kc⟩], ∀ g o, y.ko = some ⟨g, o, none⟩ → y.r.cmd.keys ≠ [] → v2.ownBlock ≠ some g) ∧ k + n ≤ L.length
    ∧ (lastR x = true → (X ++ [Rm.mk x ko kc]).map (·.r) = (allW L).1 ∧ k + n = (allW L).2) ∧ (lastR x = false → Al V1 w2 L (k + n) (X ++ [⟨x, ko, kc⟩]) v2) := by
  have hown0 : GOwn EQ w0 V1.heap.size v X := h.own.below hb
  have hB2 : Below V1.heap.size w0 w2 := hg.below hown0 (Nat.le_trans h.below.size hb.size)
  have hBB : Below V1.heap.size V1 w2 := (g_on h.below hb).trans hB2
  have hlt : ∀ y ∈ X ++ [⟨x, ko, kc⟩], GRd ES w0 y.ko y.r.cmd.keys y.kc ∧ (∀ g o, y.ko = some ⟨g, o, none⟩ → y.r.cmd.keys ≠ [] → v.ownBlock ≠ some g) := by
    intro y hy
    rcases List.mem_append.1 hy with hy | hy
    · exact ⟨(h.keys y hy).below hb, h.off y hy⟩
    · have : y = ⟨x, ko, kc⟩ := by simpa using hy
      subst this
      refine ⟨hk, fun g o e hne e2 => ?_⟩
      have h1 := hkb g o e hne
      have h2 := (h.own.lt g e2).2
      omega
  have hkeys : ∀ y ∈ X ++ [⟨x, ko, kc⟩], GRd ES w2 y.ko y.r.cmd.keys y.kc := by
    intro y hy
    obtain ⟨h1, h2⟩ := hlt y hy
    exact h1.grownr hg.grown h2
  have hoff : ∀ y ∈ X ++ [⟨x, ko, kc⟩], ∀ g o, y.ko = some ⟨g, o, none⟩ → y.r.cmd.keys ≠ [] → v2.ownBlock ≠ some g := by
    intro y hy g o e hne e2
    obtain ⟨h1, h2⟩ := hlt y hy
    rcases hg.lies g e2 with h3 | h3
    · exact h2 g o e hne h3
    · have h4 := rd_lt h1 g o e hne
      omega
  have hle := firstW_le (L.drop k)
  have hl2 := h.le
  rw [hf, List.length_drop] at hle
  dsimp only at hle
  have hkn : k + n ≤ L.length := by omega
  refine ⟨hBB, hkeys, hoff, hkn, fun hl => ?_, fun hl => ?_⟩
  · have e : allW (L.drop k) = ([x], n) := by rw [allW_eq, hf]; dsimp only; rw [if_neg hn, if_pos hl]
    have h1 := h.so
    have h2 := h.sk
    rw [e] at h1 h2
    exact ⟨by rw [List.map_append]; exact h1, h2⟩
  · have e : allW (L.drop k) = (x :: (allW ((L.drop k).drop n)).1, n + (allW ((L.drop k).drop n)).2) := by
      rw [allW_eq, hf]
      dsimp only
      rw [if_neg hn, if_neg (by rw [hl]; decide)]
    have h1 := h.so
    have h2 := h.sk
    rw [e, List.drop_drop] at h1 h2
    dsimp only at h1 h2
    exact ⟨hBB, ho, hkeys, hoff, hkn, by rw [List.map_append, List.append_assoc]; exact h1, by omega⟩
end Go.Proofs.YtldnkminhppngaaDoor
/-
  All, whole.
-/
namespace Go.Proofs.YtldnkminhppngaaDoor
open Go.Proofs.YtldnkminhppngaaDoor.It
open Go.RowKit
set_option linter.unusedSimpArgs false
set_option linter.unusedVariables false
set_option maxRecDepth 100000

theorem Al.on {V1 wr w' : World} {L : List UInt8} {k : Nat} {X : List Rm} {v : Value} (h : Al V1 wr L k X v) (hb : Below wr.heap.size wr w') : Al V1 w' L k X v :=
  ⟨g_on h.below hb, h.own.below hb, fun x hx => (h.keys x hx).below hb, h.off, h.le, h.so, h.sk⟩
set_option maxHeartbeats 4000000 in
theorem all14_any (V : World) (ao : Option Addr) (L : List UInt8) (cap : Nat) (hr : GRd EY V ao L cap) (hL : L.length ≤ 16384) (hg : Gl V) (m : Nat) (hm : m = L.length) :
    Calls Tryd.prog 8 #[.slice ao m cap] V fun e V' => AllR V V' L e := by
  have HLN := Hid.mk2 (lines_any V)
  have hmi : ¬ (16384 : Int) < (m : Int) := by omega
  have hmc : (m : Int) ≤ (cap : Int) := by have := hr.hl; omega
  have hcc : (cap : Int) ≤ 9223372036854775807 := by have := hr.hc; omega
  have HM := Hid.mk2 hm
  have HFI := Hid.mk2 (fun W (h : Below V.heap.size V W) (r : Nat) (M : List Lne) (hK : Kn W r M) (k : Nat) (hk : k ≤ L.length) => first_any W (restA ao k cap) (L.drop k) (cap - k) ((rest_rd hr k hk).below h) (by rw [List.length_drop]; omega) (hg.below h) r M hK (m - k) (by rw [List.length_drop, hm]))
  have hLN := Hid.mk2 hL
  clear hr hg hm hL
  go_enter Tryd.func8, Tryd.ntmps8
  go_wp2_with (go_at_call 18; refine HLN.out.mono ?_; rintro e1 w1 ⟨r, f0, f1, f2, f3, f4, f5, f6, f7, f8, f9, f10, f11, f12, f13, f14, rfl, hN⟩; have HB1 := Hid.mk2 hN.b0; obtain ⟨MM, hMM⟩ : ∃ MM, MM = lineL f0 f1 f2 f3 f4 f5 f6 f7 f8 f9 f10 f11 f12 f13 f14 := ⟨_, rfl⟩; have HKN : Hid (Kn w1 r MM) := (by rw [hMM]; exact ⟨hN.mp, hN.fn, lineL_says _ _ _ _ _ _ _ _ _ _ _ _ _ _ _⟩); clear hN hMM)
  go_loopw [6, 7] (fun s6 s7 wr => ∃ (k : Nat) (X : List Rm), s7 = .int .i64 (k : Int) ∧ Al w1 wr L k X s6) (fun s6 s7 _ => L.length - (intOf s7).toNat)
  case atStart => exact ⟨0, [], rfl, ⟨Below.refl _ _, GOwn.nil _ _, (fun x hx => by cases hx), (fun x hx => by cases hx), Nat.zero_le _, by simp, by simp⟩⟩
  case round =>
    obtain ⟨k, X, rfl, hA⟩ := hrel
    have HAL := Hid.mk2 hA
    have hkm : k ≤ m := by have := hA.le; have := HM.out; omega
    have hkmi : (k : Int) ≤ (m : Int) := by omega
    obtain ⟨⟨x, n⟩, hX⟩ : ∃ q, q = firstW (L.drop k) := ⟨_, rfl⟩
    have HX : Hid (firstW (L.drop k) = (x, n)) := hX.symm
    have hn2 : (n : Int) ≤ 20000 := by
      have h1 := firstW_le (L.drop k)
      rw [HX.out, List.length_drop] at h1
      have := hLN.out
      dsimp only at h1
      omega
    have hk2 : (k : Int) ≤ 20000 := by have := hA.le; have := hLN.out; omega
    have HFR := Hid.mk2 (HFI.out wr (g_on HB1.out hA.below) r MM (HKN.out.below hA.below) k hA.le)
    clear hA hX
    obtain ⟨rk, ⟨kind, tenant, keys, value, flags, life, unique, by_⟩, rt, secret, on, close⟩ := x
    have hnn : (n : Int) + (k : Int) ≤ 9223372036854775807 := by omega
    have hnk : (k : Int) + (n : Int) ≤ 9223372036854775807 := by omega
    have hn0 : (0 : Int) ≤ (n : Int) := by omega
    have hk0 : (0 : Int) ≤ (k : Int) := by omega
    by_cases h0 : n = 0
    · subst h0
      go_wp2_with (first
        | (refine wpl_slice_l rfl _ _ rfl ao k m cap rfl rfl hkm ?_)
        | (go_at_call 19; refine HFR.out.mono ?_; rintro e8 w6 hE6; rw [HX.out] at hE6; obtain ⟨⟨k6, c6, he8, hk6, hkb6⟩, hB6⟩ := hE6; dsimp only at he8 hk6 hkb6; have he7 : e8 = .returned (.tuple #[.agg #[.int .u8 rk, .int .u8 kind, .int .i64 tenant, .slice k6 keys.length c6, .string value, .int .u32 flags, .int .i64 life, .int .u64 unique, .int .u64 by_, .int .i64 rt, .string secret, .bool on, .bool close], .int .i64 0]) := he8; clear he8; subst he7; have HK6 := Hid.mk2 hk6; have HKB6 := Hid.mk2 hkb6; have HB6 := Hid.mk2 hB6; clear hk6 hkb6 hB6)
        | (refine ywpl_store rfl 28 _ _ rfl w6.heap.size [.int .u8 rk, .int .u8 kind, .int .i64 tenant, .slice k6 keys.length c6, .string value, .int .u32 flags, .int .i64 life, .int .u64 unique, .int .u64 by_, .int .i64 rt, .string secret, .bool on, .bool close] (rz.cl (.slice none 0 0)) rfl rfl (req_info (Rq.mk rk ⟨kind, tenant, keys, value, flags, life, unique, by_⟩ rt secret on close) (.slice k6 keys.length c6)) (GBx.made w6 _ _) rfl (rqcl_one (Rq.mk rk ⟨kind, tenant, keys, value, flags, life, unique, by_⟩ rt secret on close) _ _ _) ?_; obtain ⟨w7, hw7⟩ : ∃ w7, w7 = ysets (w6.alloc (.cells (rz.cl (.slice none 0 0)).toArray 28)) w6.heap.size 0 [.int .u8 rk, .int .u8 kind, .int .i64 tenant, .slice k6 keys.length c6, .string value, .int .u32 flags, .int .i64 life, .int .u64 unique, .int .u64 by_, .int .i64 rt, .string secret, .bool on, .bool close] := ⟨_, rfl⟩; (first | rw [← hw7] | (change wpList _ _ _ _ _ (ysets (w6.alloc (.cells (rz.cl (.slice none 0 0)).toArray 28)) w6.heap.size 0 [.int .u8 rk, .int .u8 kind, .int .i64 tenant, .slice k6 keys.length c6, .string value, .int .u32 flags, .int .i64 life, .int .u64 unique, .int .u64 by_, .int .i64 rt, .string secret, .bool on, .bool close]); rw [← hw7])); have hb7 : Below w6.heap.size w6 w7 := (by rw [hw7]; exact (g_alloc w6 _).grown (ysets_grown _ _ _ _) (by simp) (fun k hk => by cases hk; exact Nat.le_refl _)); have hD7 : GBx w7 w6.heap.size [.int .u8 rk, .int .u8 kind, .int .i64 tenant, .slice k6 keys.length c6, .string value, .int .u32 flags, .int .i64 life, .int .u64 unique, .int .u64 by_, .int .i64 rt, .string secret, .bool on, .bool close] := (by rw [hw7]; exact ybox (GBx.made w6 _ _) _ rfl); have d0 := hD7.get 0 _ rfl; have d1 := hD7.get 1 _ rfl; have d2 := hD7.get 2 _ rfl; have d3 := hD7.get 3 _ rfl; have d4 := hD7.get 4 _ rfl; have d5 := hD7.get 5 _ rfl; have d6 := hD7.get 6 _ rfl; have d7 := hD7.get 7 _ rfl; have d8 := hD7.get 8 _ rfl; have d9 := hD7.get 9 _ rfl; have d10 := hD7.get 10 _ rfl; have d11 := hD7.get 11 _ rfl; have d12 := hD7.get 12 _ rfl; have hlt7 := hD7.lt; have HB7 := Hid.mk2 hb7; have HK7 := Hid.mk2 (HK6.out.below hb7); clear hw7 hb7 hD7))
      refine bodyPost_ret (results_tmp3 rfl _ _ _) rfl ?_
      exact (HAL.out.on (g_on HB6.out HB7.out)).fin HB1.out (by rw [HX.out])
    · have h0i : ¬ (n : Int) = 0 := by omega
      have h0b : ((n : Int) == 0) = false := by simpa using h0
      go_upto_region 11 with (first
        | (refine wpl_slice_l rfl _ _ rfl ao k m cap rfl rfl hkm ?_)
        | (go_at_call 19; refine HFR.out.mono ?_; rintro e8 w6 hE6; rw [HX.out] at hE6; obtain ⟨⟨k6, c6, he8, hk6, hkb6⟩, hB6⟩ := hE6; dsimp only at he8 hk6 hkb6; have he7 : e8 = .returned (.tuple #[.agg #[.int .u8 rk, .int .u8 kind, .int .i64 tenant, .slice k6 keys.length c6, .string value, .int .u32 flags, .int .i64 life, .int .u64 unique, .int .u64 by_, .int .i64 rt, .string secret, .bool on, .bool close], .int .i64 (n : Int)]) := he8; clear he8; subst he7; have HK6 := Hid.mk2 hk6; have HKB6 := Hid.mk2 hkb6; have HB6 := Hid.mk2 hB6; clear hk6 hkb6 hB6)
        | (refine ywpl_store rfl 28 _ _ rfl w6.heap.size [.int .u8 rk, .int .u8 kind, .int .i64 tenant, .slice k6 keys.length c6, .string value, .int .u32 flags, .int .i64 life, .int .u64 unique, .int .u64 by_, .int .i64 rt, .string secret, .bool on, .bool close] (rz.cl (.slice none 0 0)) rfl rfl (req_info (Rq.mk rk ⟨kind, tenant, keys, value, flags, life, unique, by_⟩ rt secret on close) (.slice k6 keys.length c6)) (GBx.made w6 _ _) rfl (rqcl_one (Rq.mk rk ⟨kind, tenant, keys, value, flags, life, unique, by_⟩ rt secret on close) _ _ _) ?_; obtain ⟨w7, hw7⟩ : ∃ w7, w7 = ysets (w6.alloc (.cells (rz.cl (.slice none 0 0)).toArray 28)) w6.heap.size 0 [.int .u8 rk, .int .u8 kind, .int .i64 tenant, .slice k6 keys.length c6, .string value, .int .u32 flags, .int .i64 life, .int .u64 unique, .int .u64 by_, .int .i64 rt, .string secret, .bool on, .bool close] := ⟨_, rfl⟩; (first | rw [← hw7] | (change wpList _ _ _ _ _ (ysets (w6.alloc (.cells (rz.cl (.slice none 0 0)).toArray 28)) w6.heap.size 0 [.int .u8 rk, .int .u8 kind, .int .i64 tenant, .slice k6 keys.length c6, .string value, .int .u32 flags, .int .i64 life, .int .u64 unique, .int .u64 by_, .int .i64 rt, .string secret, .bool on, .bool close]); rw [← hw7])); have hb7 : Below w6.heap.size w6 w7 := (by rw [hw7]; exact (g_alloc w6 _).grown (ysets_grown _ _ _ _) (by simp) (fun k hk => by cases hk; exact Nat.le_refl _)); have hD7 : GBx w7 w6.heap.size [.int .u8 rk, .int .u8 kind, .int .i64 tenant, .slice k6 keys.length c6, .string value, .int .u32 flags, .int .i64 life, .int .u64 unique, .int .u64 by_, .int .i64 rt, .string secret, .bool on, .bool close] := (by rw [hw7]; exact ybox (GBx.made w6 _ _) _ rfl); have d0 := hD7.get 0 _ rfl; have d1 := hD7.get 1 _ rfl; have d2 := hD7.get 2 _ rfl; have d3 := hD7.get 3 _ rfl; have d4 := hD7.get 4 _ rfl; have d5 := hD7.get 5 _ rfl; have d6 := hD7.get 6 _ rfl; have d7 := hD7.get 7 _ rfl; have d8 := hD7.get 8 _ rfl; have d9 := hD7.get 9 _ rfl; have d10 := hD7.get 10 _ rfl; have d11 := hD7.get 11 _ rfl; have d12 := hD7.get 12 _ rfl; have hlt7 := hD7.lt; have HB7 := Hid.mk2 hb7; have HD7 := Hid.mk2 hD7; have HK7 := Hid.mk2 (HK6.out.below hb7); clear hw7 hb7 hD7)
        | (at_builtin; refine g_one (w0 := w7) okQ rfl _ _ _ rfl rfl w1.heap.size _ X (HAL.out.own.below (g_on HB6.out HB7.out)) rfl (Rm.mk (Rq.mk rk ⟨kind, tenant, keys, value, flags, life, unique, by_⟩ rt secret on close) k6 c6) rfl _ rfl rfl (by have := HAL.out.len; have := hLN.out; omega) (Nat.le_trans HAL.out.below.size (g_on HB6.out HB7.out).size) ?_; intro v9 w9 hO9 hG9; have HO9 := Hid.mk2 hO9; have HMO := Hid.mk2 (HAL.out.more HX.out h0 (g_on HB6.out HB7.out) HK7.out HKB6.out hO9 hG9); have hD9 : GBx w9 w6.heap.size [.int .u8 rk, .int .u8 kind, .int .i64 tenant, .slice k6 keys.length c6, .string value, .int .u32 flags, .int .i64 life, .int .u64 unique, .int .u64 by_, .int .i64 rt, .string secret, .bool on, .bool close] := HD7.out.grown hG9.grown (by intro e; have h1 := (HAL.out.own.lt _ e).2; have h2 := HB6.out.size; omega); clear d0 d1 d2 d3 d4 d5 d6 d7 d8 d9 d10 d11 d12; have e0 := hD9.get 0 _ rfl; have e12 := hD9.get 12 _ rfl; have hlt9 := hD9.lt; clear hO9 hG9 hD9))
      obtain ⟨hBB, hkeys, hoff, hkn, hlast, hon⟩ := HMO.out
      have HKN2 := Hid.mk2 hkn
      have hlr : lastR (Rq.mk rk ⟨kind, tenant, keys, value, flags, life, unique, by_⟩ rt secret on close) = (close || (rk == 5)) := rfl
      rw [hlr] at hlast hon
      have HLAST := Hid.mk2 hlast
      have HON := Hid.mk2 hon
      have HKE := Hid.mk2 hkeys
      have HOF := Hid.mk2 hoff
      have HBB := Hid.mk2 hBB
      clear hBB hkeys hoff hkn hlast hon hlr
      cases hc : (close || (rk == 5)) with
      | true =>
        obtain ⟨q1, q2⟩ := HLAST.out hc
        have hend : ∀ w' : World, w' = w9 → AllR V w' L (.returned (.tuple #[v9, .int .i64 ((k : Int) + (n : Int)), .int .i64 0])) := by
          rintro w' rfl
          exact ⟨⟨v9, _, by rw [← q2]; congr 4, q1, HO9.out.down HB1.out.size, HKE.out, HOF.out⟩, g_on HB1.out HBB.out⟩
        have HEND := Hid.mk2 hend
        clear q1 q2 hend
        cases close with
        | true =>
          go_wp2
          refine bodyPost_ret (results_tmp3 rfl _ _ _) rfl ?_
          exact HEND.out _ rfl
        | false =>
          have h5 : (rk == 5) = true := by simpa using hc
          clear hc
          go_wp2
          refine bodyPost_ret (results_tmp3 rfl _ _ _) rfl ?_
          exact HEND.out _ rfl
      | false =>
        have hA2 := HON.out hc
        simp only [Bool.or_eq_false_iff] at hc
        obtain ⟨rfl, h5⟩ := hc
        have HA2 := Hid.mk2 hA2
        clear hA2
        go_wp2
        go_roundw
        case rel => exact ⟨k + n, _, by first | rfl | go_num, HA2.out⟩
        case measure => have := HKN2.out; simp [intOf]; omega
end Go.Proofs.YtldnkminhppngaaDoor
