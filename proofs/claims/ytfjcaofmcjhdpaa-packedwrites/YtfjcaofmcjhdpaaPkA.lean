/-
  Answers' packets as data: bodies, how they are read; what is written is read back, what is read was written so.
-/
import Derived.Test.YtfjcaofmcjhdpaaWoA
import Derived.Test.YtfjcaofmcjhdpaaBnP
import Derived.Test.YtfjcaofmcjhdpaaBack
import Derived.Test.YtfjcaofmcjhdpaaRec
namespace Go.Proofs.Ytfjcaofmcjhdpaa
open Go.Proofs.Ytfjcaofmcjhdpaa.It
open Go.RowKit
set_option linter.unusedSimpArgs false
set_option linter.unusedVariables false
set_option maxRecDepth 100000

def bl1 (s : ByteArray) : List UInt8 := s.data.toList
def mk1 (l : List UInt8) : ByteArray := ⟨l.toArray⟩
theorem mk1_bl (s : ByteArray) : mk1 (bl1 s) = s := by cases s; rfl
theorem bl1_mk (l : List UInt8) : bl1 (mk1 l) = l := by simp [bl1, mk1]
def n8 (k : Int) : UInt8 := UInt8.ofNat k.toNat
theorem n8_of {k : Int} (h0 : 0 ≤ k) (h1 : k ≤ 255) : ((n8 k).toNat : Int) = k := by
  have h2 : k.toNat < 256 := by omega
  unfold n8
  rw [UInt8.toNat_ofNat_of_lt' h2]
  omega
/-- an item's bytes in a body -/
def Im.pb (x : Im) : List UInt8 := text (bl1 x.key) ++ (text (bl1 x.value) ++ (small x.flags.toNat ++ (small x.till.toNat ++ small x.unique.toNat)))
/-- an answer's body -/
def An.body (a : An) : List UInt8 :=
  if a.kind = 1 then n8 a.of_ :: n8 a.rk :: (small a.num.toNat ++ (small a.items.length ++ a.items.flatMap Im.pb))
  else if a.kind = 2 ∨ a.kind = 3 then [if a.yes = true then 1 else 0]
  else if a.kind = 7 then bl1 a.key else []
def An.wpE (a : An) : Int := if a.may = true then (if 4096 < a.body.length then 3 else 0) else 8
def An.wp (a : An) : List UInt8 := if a.wpE = 0 then pkt 178 (n8 a.kind) a.body else []

/-- a reader of a body -/
structure Ps where
  l : List UInt8
  bad : Bool
def pSmall (most : Nat) (s : Ps) : Nat × Ps := match readL s.l with
  | some (n, k) => if n ≤ most then (n, ⟨s.l.drop k, s.bad⟩) else (0, ⟨s.l, true⟩)
  | none => (0, ⟨s.l, true⟩)
def pText (s : Ps) : List UInt8 × Ps := if cutE s.l = 0 then (cutT s.l, ⟨cutR s.l, s.bad⟩) else ([], ⟨s.l, true⟩)
def pSingle (s : Ps) : UInt8 × Ps := match s.l with
  | [] => (0, ⟨[], true⟩)
  | x :: t => (x, ⟨t, s.bad⟩)
def pTruth (s : Ps) : Bool × Ps := (decide ((pSingle s).1 = 1), ⟨(pSingle s).2.l, (pSingle s).2.bad || (!decide ((pSingle s).1 = 1) && !decide ((pSingle s).1 = 0))⟩)
def pItem (s : Ps) : Im × Ps :=
  (⟨mk1 (pText s).1, mk1 (pText (pText s).2).1, ((pSmall 4294967295 (pText (pText s).2).2).1 : Int), ((pSmall 1099511627776 (pSmall 4294967295 (pText (pText s).2).2).2).1 : Int), ((pSmall 18446744073709551615 (pSmall 1099511627776 (pSmall 4294967295 (pText (pText s).2).2).2).2).1 : Int)⟩, (pSmall 18446744073709551615 (pSmall 1099511627776 (pSmall 4294967295 (pText (pText s).2).2).2).2).2)
def pItems : Nat → Ps → List Im × Ps
  | 0, s => ([], s)
  | n + 1, s => ((pItem s).1 :: (pItems n (pItem s).2).1, (pItems n (pItem s).2).2)
/-- what stands in a body -/
def pAns (k : UInt8) (b : List UInt8) : An × Ps :=
  if k = 1 then
    let s1 := pSingle ⟨b, false⟩
    let s2 := pSingle s1.2
    let s3 := pSmall 18446744073709551615 s2.2
    let s4 := pSmall 8 s3.2
    let s5 := pItems s4.1 s4.2
    (⟨1, (s1.1.toNat : Int), (s2.1.toNat : Int), s5.1, (s3.1 : Int), false, ⟨#[]⟩⟩, s5.2)
  else if k = 2 ∨ k = 3 then (⟨(k.toNat : Int), 0, 0, [], 0, (pTruth ⟨b, false⟩).1, ⟨#[]⟩⟩, (pTruth ⟨b, false⟩).2)
  else if k = 7 then (⟨7, 0, 0, [], 0, false, mk1 b⟩, ⟨[], false⟩)
  else (⟨(k.toNat : Int), 0, 0, [], 0, false, ⟨#[]⟩⟩, ⟨b, false⟩)
def zan : An := ⟨0, 0, 0, [], 0, false, ⟨#[]⟩⟩
def readP (L : List UInt8) : An × Nat × Int :=
  if (cutP 178 L).e ≠ 0 ∨ (cutP 178 L).n = 0 then (zan, 0, (cutP 178 L).e)
  else if (pAns (cutP 178 L).k (cutP 178 L).b).2.bad = true ∨ (pAns (cutP 178 L).k (cutP 178 L).b).2.l ≠ [] ∨ (pAns (cutP 178 L).k (cutP 178 L).b).1.may = false then (zan, 0, 8)
  else ((pAns (cutP 178 L).k (cutP 178 L).b).1, (cutP 178 L).n, 0)

theorem pSmall_back (most n : Nat) (hn : Fits n) (hm : n ≤ most) (r : List UInt8) (b : Bool) : pSmall most ⟨small n ++ r, b⟩ = (n, ⟨r, b⟩) := by
  unfold pSmall
  dsimp only
  rw [read_small n hn r]
  dsimp only
  rw [if_pos hm, List.drop_left]
theorem pText_back (t r : List UInt8) (b : Bool) (ht : Fits t.length) : pText ⟨text t ++ r, b⟩ = (t, ⟨r, b⟩) := by
  obtain ⟨h1, h2, h3⟩ := cut_text t r ht
  unfold pText
  dsimp only
  rw [if_pos h3, h1, h2]
/-- an item whose numbers are as their types, and item.Check, have them -/
structure Im.fine (x : Im) : Prop where
  key : Fits (bl1 x.key).length
  val : Fits (bl1 x.value).length
  till : 0 ≤ x.till ∧ x.till ≤ 1099511627776
  flags : 0 ≤ x.flags ∧ x.flags < 4294967296
  uniq : 0 ≤ x.unique ∧ x.unique < 18446744073709551616
theorem pItem_back {x : Im} (h : x.fine) (r : List UInt8) (b : Bool) : pItem ⟨x.pb ++ r, b⟩ = (x, ⟨r, b⟩) := by
  obtain ⟨h1, h2, ⟨t0, t1⟩, ⟨f0, f1⟩, ⟨u0, u1⟩⟩ := h
  unfold Im.pb
  simp only [List.append_assoc]
  unfold pItem
  rw [pText_back _ _ _ h1]
  dsimp only
  rw [pText_back _ _ _ h2]
  dsimp only
  rw [pSmall_back 4294967295 x.flags.toNat (by unfold Fits; omega) (by omega)]
  dsimp only
  rw [pSmall_back 1099511627776 x.till.toNat (by unfold Fits; omega) (by omega)]
  dsimp only
  rw [pSmall_back 18446744073709551615 x.unique.toNat (by unfold Fits; omega) (by omega)]
  dsimp only
  rw [mk1_bl, mk1_bl, Int.toNat_of_nonneg f0, Int.toNat_of_nonneg t0, Int.toNat_of_nonneg u0]
theorem pItems_back : ∀ (L : List Im) (r : List UInt8) (b : Bool), (∀ x ∈ L, x.fine) → pItems L.length ⟨L.flatMap Im.pb ++ r, b⟩ = (L, ⟨r, b⟩)
  | [], r, b, _ => rfl
  | x :: t, r, b, h => by
    rw [List.flatMap_cons, List.append_assoc, List.length_cons]
    unfold pItems
    rw [pItem_back (h x (by simp))]
    dsimp only
    rw [pItems_back t r b (fun y hy => h y (by simp [hy]))]

theorem pSmall_inv {most : Nat} {s : Ps} (h : (pSmall most s).2.bad = false) : s.bad = false ∧ s.l = small (pSmall most s).1 ++ (pSmall most s).2.l ∧ Fits (pSmall most s).1 ∧ (pSmall most s).1 ≤ most := by
  unfold pSmall at h ⊢
  cases hr : readL s.l with
  | none => rw [hr] at h; cases h
  | some p =>
    obtain ⟨n, k⟩ := p
    rw [hr] at h
    dsimp only at h ⊢
    by_cases hn : n ≤ most
    · rw [if_pos hn] at h ⊢
      obtain ⟨h1, h2⟩ := read_inv hr
      exact ⟨h, h2, h1, hn⟩
    · rw [if_neg hn] at h; cases h
theorem pSingle_inv {s : Ps} (h : (pSingle s).2.bad = false) : s.bad = false ∧ s.l = (pSingle s).1 :: (pSingle s).2.l := by
  obtain ⟨l, b⟩ := s
  cases l with
  | nil => simp [pSingle] at h
  | cons x r => exact ⟨h, rfl⟩
theorem pText_inv {s : Ps} (h : (pText s).2.bad = false) : s.bad = false ∧ s.l = text (pText s).1 ++ (pText s).2.l := by
  unfold pText at h ⊢
  by_cases he : cutE s.l = 0
  · rw [if_pos he] at h ⊢
    refine ⟨h, ?_⟩
    unfold cutE at he
    have hb : (sText ⟨s.l, false⟩).2.bad = false := by
      cases hc : (sText ⟨s.l, false⟩).2.bad with
      | false => rfl
      | true => rw [hc] at he; simp at he
    have := (sText_inv hb).2
    dsimp only
    unfold cutT cutR
    rw [hb]
    simpa using this
  · rw [if_neg he] at h; cases h
theorem pTruth_inv {s : Ps} (h : (pTruth s).2.bad = false) : s.bad = false ∧ s.l = (if (pTruth s).1 = true then 1 else 0) :: (pTruth s).2.l := by
  unfold pTruth at h ⊢
  dsimp only at h ⊢
  simp only [Bool.or_eq_false_iff, Bool.and_eq_false_iff, Bool.not_eq_false', decide_eq_true_eq] at h
  obtain ⟨h1, h2⟩ := h
  obtain ⟨h3, h4⟩ := pSingle_inv h1
  refine ⟨h3, ?_⟩
  rw [h4]
  congr 1
  rcases h2 with h2 | h2
  · rw [h2]; rfl
  · rw [h2]; rfl
theorem pItem_inv {s : Ps} (h : (pItem s).2.bad = false) : s.bad = false ∧ s.l = (pItem s).1.pb ++ (pItem s).2.l ∧ (0 ≤ (pItem s).1.flags ∧ (pItem s).1.flags < 4294967296) ∧ (0 ≤ (pItem s).1.unique ∧ (pItem s).1.unique < 18446744073709551616) := by
  unfold pItem at h
  dsimp only at h
  obtain ⟨u1, u2, u3, u4⟩ := pSmall_inv h
  obtain ⟨t1, t2, t3, t4⟩ := pSmall_inv u1
  obtain ⟨f1, f2, f3, f4⟩ := pSmall_inv t1
  obtain ⟨v1, v2⟩ := pText_inv f1
  obtain ⟨k1, k2⟩ := pText_inv v1
  refine ⟨k1, ?_, ?_, ?_⟩
  · unfold Im.pb pItem
    dsimp only
    rw [bl1_mk, bl1_mk, Int.toNat_natCast, Int.toNat_natCast, Int.toNat_natCast]
    simp only [List.append_assoc]
    rw [← u2, ← t2, ← f2, ← v2, ← k2]
  · unfold pItem
    dsimp only
    omega
  · unfold pItem
    dsimp only
    omega
theorem pItem_sticky {s : Ps} (h : (pItem s).2.bad = false) : s.bad = false := (pItem_inv h).1
theorem pItems_inv : ∀ (n : Nat) (s : Ps), (pItems n s).2.bad = false → s.bad = false ∧ s.l = (pItems n s).1.flatMap Im.pb ++ (pItems n s).2.l ∧ (pItems n s).1.length = n ∧ ∀ x ∈ (pItems n s).1, (0 ≤ x.flags ∧ x.flags < 4294967296) ∧ (0 ≤ x.unique ∧ x.unique < 18446744073709551616)
  | 0, s, h => ⟨h, rfl, rfl, fun x hx => by cases hx⟩
  | n + 1, s, h => by
    unfold pItems at h
    dsimp only at h
    obtain ⟨i1, i2, i3, i4⟩ := pItems_inv n _ h
    obtain ⟨j1, j2, j3, j4⟩ := pItem_inv i1
    refine ⟨j1, ?_, by unfold pItems; simp [i3], ?_⟩
    · unfold pItems
      dsimp only
      rw [List.flatMap_cons, List.append_assoc, ← i2, ← j2]
    · unfold pItems
      dsimp only
      intro x hx
      rcases List.mem_cons.1 hx with rfl | hx
      · exact ⟨j3, j4⟩
      · exact i4 x hx
end Go.Proofs.Ytfjcaofmcjhdpaa
