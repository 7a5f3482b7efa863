/-
  The document's reading of an answer's body, as data, against the program's; the document's Cut and Read of code in these texts' words.
-/
import Derived.Test.YtfjcaofmcjhdpaaPkE
import Derived.Test.YtfjcaofmcjhdpaaRefCut
namespace Go.Proofs.Ytfjcaofmcjhdpaa
open Go.Proofs.Ytfjcaofmcjhdpaa.It
open Go.RowKit
set_option linter.unusedSimpArgs false
set_option linter.unusedVariables false
set_option maxRecDepth 100000

/-- so many numbers, one behind the other, and what is left -/
def qnum : Nat → List UInt8 → Option (List Nat × List UInt8)
  | 0, l => some ([], l)
  | j + 1, l => match qnum j l with
    | none => none
    | some (ns, r) => match readL r with | none => none | some (n, k) => some (ns ++ [n], r.drop k)
theorem qnum_none {l : List UInt8} {j i : Nat} (h : qnum j l = none) (hji : j ≤ i) : qnum i l = none := by
  induction i with
  | zero => rw [show j = 0 by omega] at h; exact h
  | succ i ih =>
    by_cases e : j = i + 1
    · rw [← e]; exact h
    · have := ih (by omega)
      show (match qnum i l with | none => none | some (ns, r) => _) = none
      rw [this]
theorem qnum_len {l : List UInt8} : ∀ {j : Nat} {ns : List Nat} {r : List UInt8}, qnum j l = some (ns, r) → ns.length = j ∧ r.length ≤ l.length
  | 0, ns, r, h => by cases h; exact ⟨rfl, Nat.le_refl _⟩
  | j + 1, ns, r, h => by
    unfold qnum at h
    cases hq : qnum j l with
    | none => rw [hq] at h; cases h
    | some p =>
      obtain ⟨ms, t⟩ := p
      rw [hq] at h
      dsimp only at h
      cases hr : readL t with
      | none => rw [hr] at h; cases h
      | some p =>
        obtain ⟨n, k⟩ := p
        rw [hr] at h
        cases h
        obtain ⟨h1, h2⟩ := qnum_len hq
        exact ⟨by simp [h1], by simp; omega⟩
theorem pSmall_ok {most n k : Nat} {l : List UInt8} {b : Bool} (h : readL l = some (n, k)) (hn : n ≤ most) : pSmall most ⟨l, b⟩ = (n, ⟨l.drop k, b⟩) := by
  unfold pSmall
  rw [h]
  exact if_pos hn
theorem pSmall_good {most : Nat} {s : Ps} (h : (pSmall most s).2.bad = false) : s.bad = false ∧ ∃ n k, readL s.l = some (n, k) ∧ n ≤ most ∧ pSmall most s = (n, ⟨s.l.drop k, s.bad⟩) := by
  obtain ⟨l, b⟩ := s
  unfold pSmall at h ⊢
  cases hr : readL l with
  | none => rw [hr] at h; cases h
  | some p =>
    obtain ⟨n, k⟩ := p
    rw [hr] at h
    dsimp only at h ⊢
    by_cases hn : n ≤ most
    · rw [if_pos hn] at h
      rw [if_pos hn]
      exact ⟨h, n, k, rfl, hn, rfl⟩
    · rw [if_neg hn] at h; cases h
theorem pText_good {s : Ps} (h : (pText s).2.bad = false) : s.bad = false ∧ cutE s.l = 0 ∧ pText s = (cutT s.l, ⟨cutR s.l, s.bad⟩) := by
  unfold pText at h ⊢
  by_cases he : cutE s.l = 0
  · rw [if_pos he] at h ⊢; exact ⟨h, he, rfl⟩
  · rw [if_neg he] at h; cases h
theorem pText_ok {l : List UInt8} {b : Bool} (h : cutE l = 0) : pText ⟨l, b⟩ = (cutT l, ⟨cutR l, b⟩) := if_pos h
/-- the document's item -/
def ditem (l : List UInt8) : Option (Im × List UInt8) :=
  if cutE l ≠ 0 ∨ cutE (cutR l) ≠ 0 then none
  else match qnum 3 (cutR (cutR l)) with
    | some ([n0, n1, n2], r) => if 4294967295 < n0 ∨ 1099511627776 < n1 then none else some (⟨mk1 (cutT l), mk1 (cutT (cutR l)), (n0 : Int), (n1 : Int), (n2 : Int)⟩, r)
    | _ => none
theorem qnum3 {l r : List UInt8} {n0 k0 n1 k1 n2 k2 : Nat} (h0 : readL l = some (n0, k0)) (h1 : readL (l.drop k0) = some (n1, k1)) (h2 : readL ((l.drop k0).drop k1) = some (n2, k2)) : qnum 3 l = some ([n0, n1, n2], ((l.drop k0).drop k1).drop k2) := by
  have e1 : qnum 1 l = some ([n0], l.drop k0) := by unfold qnum qnum; dsimp only; rw [h0]; rfl
  have e2 : qnum 2 l = some ([n0, n1], (l.drop k0).drop k1) := by
    show (match qnum 1 l with | none => none | some (ns, r) => _) = _
    rw [e1]
    dsimp only
    rw [h1]
    rfl
  show (match qnum 2 l with | none => none | some (ns, r) => _) = _
  rw [e2]
  dsimp only
  rw [h2]
  rfl
theorem qnum3_inv {l r : List UInt8} {ns : List Nat} (h : qnum 3 l = some (ns, r)) : ∃ n0 k0 n1 k1 n2 k2, readL l = some (n0, k0) ∧ readL (l.drop k0) = some (n1, k1) ∧ readL ((l.drop k0).drop k1) = some (n2, k2) ∧ ns = [n0, n1, n2] ∧ r = ((l.drop k0).drop k1).drop k2 := by
  cases r0 : readL l with
  | none =>
    have e1 : qnum 1 l = none := by unfold qnum qnum; dsimp only; rw [r0]
    rw [qnum_none e1 (by omega)] at h; cases h
  | some p0 =>
    obtain ⟨n0, k0⟩ := p0
    have e1 : qnum 1 l = some ([n0], l.drop k0) := by unfold qnum qnum; dsimp only; rw [r0]; rfl
    cases r1 : readL (l.drop k0) with
    | none =>
      have e2 : qnum 2 l = none := by
        show (match qnum 1 l with | none => none | some (ns, r) => _) = _
        rw [e1]
        dsimp only
        rw [r1]
      rw [qnum_none e2 (by omega)] at h; cases h
    | some p1 =>
      obtain ⟨n1, k1⟩ := p1
      cases r2 : readL ((l.drop k0).drop k1) with
      | none =>
        have e2 : qnum 2 l = some ([n0, n1], (l.drop k0).drop k1) := by
          show (match qnum 1 l with | none => none | some (ns, r) => _) = _
          rw [e1]
          dsimp only
          rw [r1]
          rfl
        have e3 : qnum 3 l = none := by
          show (match qnum 2 l with | none => none | some (ns, r) => _) = _
          rw [e2]
          dsimp only
          rw [r2]
        rw [e3] at h; cases h
      | some p2 =>
        obtain ⟨n2, k2⟩ := p2
        rw [qnum3 (r := r) r0 r1 r2] at h
        cases h
        exact ⟨n0, k0, n1, k1, n2, k2, rfl, r1, r2, rfl, rfl⟩
/-- the document's item is the program's -/
theorem pItem_ok {l r : List UInt8} {x : Im} (h : ditem l = some (x, r)) : pItem ⟨l, false⟩ = (x, ⟨r, false⟩) := by
  unfold ditem at h
  by_cases he : cutE l ≠ 0 ∨ cutE (cutR l) ≠ 0
  · rw [if_pos he] at h; cases h
  rw [if_neg he] at h
  have h1 : cutE l = 0 := by
    by_cases e : cutE l = 0
    · exact e
    · exact absurd (.inl e) he
  have h2 : cutE (cutR l) = 0 := by
    by_cases e : cutE (cutR l) = 0
    · exact e
    · exact absurd (.inr e) he
  cases hq : qnum 3 (cutR (cutR l)) with
  | none => rw [hq] at h; cases h
  | some p =>
    obtain ⟨ns, r'⟩ := p
    obtain ⟨n0, k0, n1, k1, n2, k2, r0, r1, r2, rfl, rfl⟩ := qnum3_inv hq
    rw [hq] at h
    dsimp only at h
    by_cases hl : 4294967295 < n0 ∨ 1099511627776 < n1
    · rw [if_pos hl] at h; cases h
    rw [if_neg hl] at h
    cases h
    unfold pItem
    rw [pText_ok h1]
    dsimp only
    rw [pText_ok h2]
    dsimp only
    rw [pSmall_ok r0 (by omega)]
    dsimp only
    rw [pSmall_ok r1 (by omega)]
    dsimp only
    rw [pSmall_ok r2 (by have := (readL_le r2).2.2; omega)]
theorem pItem_bad {l : List UInt8} (h : ditem l = none) : (pItem ⟨l, false⟩).2.bad = true := by
  cases hb : (pItem ⟨l, false⟩).2.bad with
  | true => rfl
  | false =>
    exfalso
    unfold pItem at hb
    dsimp only at hb
    obtain ⟨u0, n2, k2, u1, u2, u3⟩ := pSmall_good hb
    obtain ⟨t0, n1, k1, t1, t2, t3⟩ := pSmall_good u0
    obtain ⟨f0, n0, k0, f1, f2, f3⟩ := pSmall_good t0
    obtain ⟨v0, v1, v2⟩ := pText_good f0
    obtain ⟨w0, w1, w2⟩ := pText_good v0
    dsimp only at w1 w2
    rw [w2] at v1 v2
    dsimp only at v1 v2
    rw [w2] at f1 f3
    rw [v2] at f1 f3
    dsimp only at f1 f3
    rw [w2, v2, f3] at t1 t3
    dsimp only at t1 t3
    rw [w2, v2, f3, t3] at u1
    dsimp only at u1
    unfold ditem at h
    rw [if_neg (fun q => q.elim (fun q => q w1) (fun q => q v1)), qnum3 (r := []) f1 t1 u1] at h
    dsimp only at h
    rw [if_neg (by omega)] at h
    cases h
theorem pItems_snoc : ∀ (i : Nat) (s : Ps), pItems (i + 1) s = ((pItems i s).1 ++ [(pItem (pItems i s).2).1], (pItem (pItems i s).2).2)
  | 0, s => by simp only [pItems, List.nil_append]
  | i + 1, s => by
    have ih := pItems_snoc i (pItem s).2
    rw [pItems, ih]
    simp only [pItems, List.cons_append]
theorem pItems_snoc2 {i : Nat} {s t : Ps} {L : List Im} (h : pItems i s = (L, t)) : pItems (i + 1) s = (L ++ [(pItem t).1], (pItem t).2) := by rw [pItems_snoc, h]
theorem pItems_bad : ∀ (n i : Nat) (s : Ps), i ≤ n → (pItems i s).2.bad = true → (pItems n s).2.bad = true
  | n, 0, s, _, h => by
    cases hb : (pItems n s).2.bad with
    | true => rfl
    | false => have := (pItems_inv n s hb).1; rw [show (pItems 0 s).2 = s from rfl, this] at h; cases h
  | 0, i + 1, s, hi, _ => by omega
  | n + 1, i + 1, s, hi, h => pItems_bad n i (pItem s).2 (by omega) h
/-- so many items of a body, as the document's loop has them -/
structure Qi (B : List UInt8) (i : Nat) (L : List Im) (r : List UInt8) : Prop where
  eq : pItems i ⟨B, false⟩ = (L, ⟨r, false⟩)
theorem qpair {p : Im × Ps} {x : Im} {s : Ps} {L : List Im} (h : p = (x, s)) : (L ++ [p.1], p.2) = (L ++ [x], s) := by rw [h]
theorem qbad {p : Im × Ps} {q : List Im × Ps} {L : List Im} (h : q = (L ++ [p.1], p.2)) (hb : p.2.bad = true) : q.2.bad = true := by rw [h]; exact hb
theorem Qi.start (B : List UInt8) : Qi B 0 [] B := ⟨rfl⟩
theorem Qi.step {B r r' : List UInt8} {i : Nat} {L : List Im} {x : Im} (h : Qi B i L r) (hx : ditem r = some (x, r')) : Qi B (i + 1) (L ++ [x]) r' :=
  ⟨(pItems_snoc2 h.eq).trans (qpair (pItem_ok hx))⟩
theorem Qi.bad {B r : List UInt8} {i n : Nat} {L : List Im} (h : Qi B i L r) (hx : ditem r = none) (hin : i < n) : (pItems n ⟨B, false⟩).2.bad = true :=
  pItems_bad n (i + 1) _ (by omega) (qbad (pItems_snoc2 h.eq) (pItem_bad hx))
theorem Qi.len {B r : List UInt8} {i : Nat} {L : List Im} (h : Qi B i L r) : L.length = i ∧ r.length ≤ B.length := by
  have h1 := pItems_inv i ⟨B, false⟩ (by rw [h.eq])
  rw [h.eq] at h1
  refine ⟨h1.2.2.1, ?_⟩
  have := congrArg List.length h1.2.1
  rw [List.length_append] at this
  dsimp only at this
  omega
theorem cutR_len (l : List UInt8) : (cutR l).length ≤ l.length := by
  unfold cutR
  split
  · simp
  · exact sText_len ⟨l, false⟩
theorem cutT_len (l : List UInt8) : (cutT l).length ≤ l.length := by
  cases hr : readL l with
  | none => rw [(cut_none hr).1]; simp
  | some p =>
    obtain ⟨n, k⟩ := p
    by_cases hs : l.length - k < n
    · rw [(cut_short hr hs).1]; simp
    · rw [(cut_some hr hs).1, List.length_take, List.length_drop]; omega
theorem rcut1_any (w : World) (ao : Option Addr) (l : List UInt8) (cap : Nat) (h : GRd EY w ao l cap) (hl : l.length ≤ 100000000) (m : Nat) (hm : m = l.length) :
    Calls Try.prog 58 #[.slice ao m cap] w fun e w' => (∃ (o : Option Addr) (c : Nat), e = .returned (.tuple #[.string (mk1 (cutT l)), .slice o (cutR l).length c, .int .i64 (cutE l)]) ∧ GRd EY w' o (cutR l) c ∧ ∀ a, o = some a → w.heap.size ≤ a.block) ∧ Below w.heap.size w w' := by
  subst hm
  refine (refCut_any w w.heap.size ao l cap (bsat_of h) h.hl h.hc h.hn (Nat.le_refl _) hl).mono ?_
  rintro e w' ⟨v', he, ho, hb⟩
  subst he
  have hgo := own_ofb ho
  obtain ⟨o, c, hv, hr, _⟩ := gown_rd2 hgo
  exact ⟨⟨o, c, by rw [hv]; rfl, hr, fun a q => (hgo.lt a.block (by rw [hv, q]; rfl)).1⟩, hb⟩
theorem rread1_any (w : World) (ao : Option Addr) (l : List UInt8) (cap : Nat) (h : GRd EY w ao l cap) (hl : l.length ≤ 100000000) (m : Nat) (hm : m = l.length) :
    Calls Try.prog 47 #[.slice ao m cap] w fun e w' => e = .returned (.tuple #[.int .u64 (readN l : Int), .int .i64 (readK l : Int), .int .i64 (readE l)]) ∧ w' = w := by
  subst hm
  refine (refRead_any w w.heap.size ao l cap (by have : maxLen = 9223372036854775807 := rfl; omega) (bsat_of h)).mono ?_
  rintro e w' ⟨rfl, rfl⟩
  exact ⟨rfl, rfl⟩
end Go.Proofs.Ytfjcaofmcjhdpaa
