/-
  (shaken)
-/
import Derived.Test.YtfjcaofmcjhdpaaRows
import Derived.WalkKit
import Derived.ProofKit
import Derived.OpenShut
import Derived.WalkSpells
import Derived.WalkLawsBesides
import Derived.Laws.Bits64b
import Derived.Laws.BitsAllLaws
namespace Go.Proofs.Ytfjcaofmcjhdpaa
open Go.RowKit
set_option linter.unusedSimpArgs false
set_option linter.unusedVariables false

/-- one byte more in a hash -/
def hstep (h : Int) (c : UInt8) : Int := IntKind.u64.wrap (bits BinOp.xor IntKind.u64 h (IntKind.u64.wrap ↑c.toNat) * 1099511628211)
def hashL (h : Int) (l : List UInt8) : Int := l.foldl hstep h
/-- the text of one byte that a tenant's number is -/
def tenantText (t : Int) : ByteArray := strOfNums [t]
def keyOk (s : ByteArray) : Bool := decide (1 ≤ s.size ∧ s.size ≤ 32)
def tenOk (t : Int) : Bool := decide (0 ≤ t ∧ t < 4)
def hash0 (l : List UInt8) : Int := hashL 14695981039346656037 l
/-- P1.2: what Shard answers -/
def shardOf (t : Int) (s : ByteArray) (n : Int) : Int × Int :=
  if tenOk t = false then (0, 2) else if keyOk s = false then (0, 3) else if n < 1 ∨ 4 < n then (0, 2) else (hash0 ((tenantText t).data.toList ++ s.data.toList) % n, 0)
/-- a number of 64 bits -/
def Fits (n : Nat) : Prop := n < 18446744073709551616
/-- small bytes, with fuel -/
def smallF : Nat → Nat → List UInt8
  | 0, n => [UInt8.ofNat n]
  | f + 1, n => if n < 128 then [UInt8.ofNat n] else UInt8.ofNat (n % 128 + 128) :: smallF f (n / 128)
def small (n : Nat) : List UInt8 := smallF 9 n
theorem smallF_more : ∀ (f n : Nat), n < 128 ^ (f + 1) → smallF (f + 1) n = smallF f n
  | 0, n, h => by simp at h; simp [smallF, h]
  | f + 1, n, h => by
    have : n / 128 < 128 ^ (f + 1) := by rw [Nat.div_lt_iff_lt_mul (by decide)]; rw [Nat.pow_succ] at h; exact h
    have e := smallF_more f _ this
    show (if n < 128 then _ else _ :: smallF (f + 1) (n / 128)) = _
    rw [e]
    rfl
theorem small_lt {n : Nat} (h : n < 128) : small n = [UInt8.ofNat n] := by simp [small, smallF, h]
theorem small_ge {n : Nat} (h : 128 ≤ n) (h2 : n < 18446744073709551616) : small n = UInt8.ofNat (n % 128 + 128) :: small (n / 128) := by
  have : n / 128 < 128 ^ (8 + 1) := by omega
  have e := smallF_more 8 (n / 128) this
  unfold small
  rw [e, smallF, if_neg (by omega)]
theorem smallF_len : ∀ (f n : Nat), (smallF f n).length ≤ f + 1
  | 0, n => by simp [smallF]
  | f + 1, n => by
    rw [smallF]
    split
    · simp
    · have := smallF_len f (n / 128); simp; omega
theorem small_len (n : Nat) : (small n).length ≤ 10 := smallF_len 9 n
theorem smallF_pos : ∀ (f n : Nat), 0 < (smallF f n).length
  | 0, n => by simp [smallF]
  | f + 1, n => by rw [smallF]; split <;> simp
theorem small_pos (n : Nat) : 0 < (small n).length := smallF_pos 9 n

/-- a text's bytes -/
def text (l : List UInt8) : List UInt8 := small l.length ++ l
theorem or128_fin : ∀ x : Fin 256, bits BinOp.or IntKind.u8 ((x.val : Nat) : Int) 128 = ((x.val % 128 + 128 : Nat) : Int) := by decide +kernel
/-- a small byte that goes on -/
theorem or128 (m : Nat) : bits BinOp.or IntKind.u8 ((m : Int) % 256) 128 = ((UInt8.ofNat (m % 128 + 128)).toNat : Int) := by
  have h := or128_fin ⟨m % 256, by omega⟩
  simp only [] at h
  rw [show ((m : Int) % 256) = ((m % 256 : Nat) : Int) by omega, h]
  have : (UInt8.ofNat (m % 128 + 128)).toNat = m % 128 + 128 := by simp; omega
  rw [this]; omega
theorem last_byte (m : Nat) (h : m < 128) : (m : Int) = ((UInt8.ofNat m).toNat : Int) := by
  have : (UInt8.ofNat m).toNat = m := by simp; omega
  rw [this]

theorem andNot128_fin : ∀ x : Fin 256, bits BinOp.andNot IntKind.u8 ((x.val : Nat) : Int) 128 = ((x.val % 128 : Nat) : Int) := by decide +kernel
theorem andNot128 (x : Nat) (h : x < 256) : bits BinOp.andNot IntKind.u8 (x : Int) 128 = ((x % 128 : Nat) : Int) := andNot128_fin ⟨x, h⟩
theorem u64_wrap_eq (n : Int) : IntKind.u64.wrap n = n % 18446744073709551616 := by
  simp [IntKind.wrap, IntKind.bits, IntKind.signed]
/-- does the shift push nothing out? -/
def fits7 (y k : Nat) : Bool := decide (y * 128 ^ k < 18446744073709551616)
theorem pow_form (k : Nat) : (2 : Int) ^ (7 * k) = ((128 ^ k : Nat) : Int) := by
  rw [Int.pow_mul, Int.natCast_pow]; rfl
theorem shl_form (y k : Nat) (h : fits7 y k = true) : IntKind.u64.wrap ((y : Int) * 2 ^ (7 * k)) = ((y * 128 ^ k : Nat) : Int) := by
  have h' : y * 128 ^ k < 18446744073709551616 := by simpa [fits7] using h
  rw [pow_form, u64_wrap_eq, ← Int.natCast_mul]
  exact Int.emod_eq_of_lt (by omega) (by omega)
theorem shr_form (y k : Nat) : ((y * 128 ^ k : Nat) : Int) / 2 ^ (7 * k) = (y : Int) := by
  rw [pow_form, ← Int.natCast_ediv, Nat.mul_div_cancel _ (Nat.pow_pos (by decide))]
theorem over_form (y k : Nat) (hy : y < 128) (hk : k < 10) (h : fits7 y k = false) : (IntKind.u64.wrap ((y : Int) * 2 ^ (7 * k)) / 2 ^ (7 * k) != (y : Int)) = true := by
  have h' : ¬ y * 128 ^ k < 18446744073709551616 := by simpa [fits7] using h
  have hk9 : k = 9 := by
    rcases (show k = 0 ∨ k = 1 ∨ k = 2 ∨ k = 3 ∨ k = 4 ∨ k = 5 ∨ k = 6 ∨ k = 7 ∨ k = 8 ∨ k = 9 by omega) with rfl | rfl | rfl | rfl | rfl | rfl | rfl | rfl | rfl | rfl <;> simp at h' ⊢ <;> omega
  subst hk9
  rw [pow_form, u64_wrap_eq]
  simp at h' ⊢
  omega
theorem fits7_iff (y k : Nat) (hy : y < 128) (hk : k < 10) : fits7 y k = false ↔ k = 9 ∧ 2 ≤ y := by
  rcases (show k = 0 ∨ k = 1 ∨ k = 2 ∨ k = 3 ∨ k = 4 ∨ k = 5 ∨ k = 6 ∨ k = 7 ∨ k = 8 ∨ k = 9 by omega) with rfl | rfl | rfl | rfl | rfl | rfl | rfl | rfl | rfl | rfl <;> simp [fits7] <;> omega
theorem or_form (n y k : Nat) (hk : k < 10) (hn : n < 128 ^ k) (h : fits7 y k = true) : bits BinOp.or IntKind.u64 (n : Int) ((y * 128 ^ k : Nat) : Int) = ((n + y * 128 ^ k : Nat) : Int) := by
  have h' : y * 128 ^ k < 18446744073709551616 := by simpa [fits7] using h
  have hp : 128 ^ k = 2 ^ (7 * k) := by rw [Nat.pow_mul]
  · have : 128 ^ k ≤ 128 ^ 9 := Nat.pow_le_pow_right (by decide) (by omega)
    rw [bits_or_u64_nat n (y * 128 ^ k) (by omega) h', hp, Nat.mul_comm, Nat.or_comm, ← Nat.two_pow_add_eq_or_of_lt (by rw [← hp]; exact hn), Nat.add_comm]

/-- the number whose bytes, seven bits in each, the lowest first, these are -/
def val : List UInt8 → Nat
  | [] => 0
  | x :: r => x.toNat % 128 + 128 * val r
theorem val_snoc : ∀ (l : List UInt8) (x : UInt8), val (l ++ [x]) = val l + x.toNat % 128 * 128 ^ l.length
  | [], x => by simp [val]
  | y :: l, x => by
    simp only [List.cons_append, val, List.length_cons, val_snoc l x, Nat.pow_succ]
    rw [Nat.mul_add, Nat.add_assoc]; congr 2
    rw [Nat.mul_comm 128, Nat.mul_assoc]
theorem val_lt : ∀ l : List UInt8, val l < 128 ^ l.length
  | [] => by simp [val]
  | x :: l => by
    have := val_lt l
    simp only [val, List.length_cons, Nat.pow_succ]
    omega
/-- how many bytes go on -/
def lead : List UInt8 → Nat
  | [] => 0
  | x :: r => if 128 ≤ x.toNat then lead r + 1 else 0
theorem lead_ge : ∀ (l : List UInt8) (k : Nat), k ≤ l.length → (∀ j (h : j < l.length), j < k → 128 ≤ l[j].toNat) → k ≤ lead l
  | [], k, h, _ => by simp at h; omega
  | x :: l, 0, _, _ => Nat.zero_le _
  | x :: l, k + 1, h, hj => by
    have h0 : 128 ≤ x.toNat := hj 0 (by simp) (by omega)
    simp only [lead, if_pos h0]
    have := lead_ge l k (by simpa using h) (fun j h1 h2 => hj (j + 1) (by simpa using h1) (by omega))
    omega
theorem lead_eq : ∀ (l : List UInt8) (k : Nat) (hk : k < l.length), (∀ j (h : j < l.length), j < k → 128 ≤ l[j].toNat) → l[k].toNat < 128 → lead l = k
  | x :: l, 0, _, _, h => by have : ¬ 128 ≤ x.toNat := by simpa using h
                             simp [lead, this]
  | x :: l, k + 1, hk, hj, h => by
    have h0 : 128 ≤ x.toNat := hj 0 (by simp) (by omega)
    simp only [lead, if_pos h0]
    rw [lead_eq l k (by simpa using hk) (fun j h1 h2 => hj (j + 1) (by simpa using h1) (by omega)) (by simpa using h)]
/-- P1.1: what Read finds: the number, and how many bytes it has -/
def readL (l : List UInt8) : Option (Nat × Nat) :=
  if lead l < l.length ∧ lead l < 10 ∧ ¬ (lead l = 9 ∧ 1 < (l.getD 9 0).toNat) ∧ ¬ (0 < lead l ∧ (l.getD (lead l) 0).toNat = 0) then some (val (l.take (lead l + 1)), lead l + 1) else none
def readN (l : List UInt8) : Nat := ((readL l).getD (0, 0)).1
def readK (l : List UInt8) : Nat := ((readL l).getD (0, 0)).2
def readE (l : List UInt8) : Int := if (readL l).isSome then 0 else 8
theorem read_none {l : List UInt8} (h : readL l = none) : readN l = 0 ∧ readK l = 0 ∧ readE l = 8 := by simp [readN, readK, readE, h]
theorem read_some {l : List UInt8} {n k : Nat} (h : readL l = some (n, k)) : readN l = n ∧ readK l = k ∧ readE l = 0 := by simp [readN, readK, readE, h]

theorem val_bound {l : List UInt8} {k : Nat} (hk : k < l.length) (h10 : k < 10) (h9 : ¬ (k = 9 ∧ 1 < (l.getD 9 0).toNat)) (hx : l[k].toNat < 128) : val (l.take (k + 1)) < 18446744073709551616 := by
  rw [List.take_succ_eq_append_getElem hk, val_snoc, List.length_take, Nat.min_eq_left (by omega)]
  have hv := val_lt (l.take k)
  rw [List.length_take, Nat.min_eq_left (by omega)] at hv
  by_cases e : k = 9
  · subst e
    have h1 : ¬ 1 < (l[9]).toNat := fun e => h9 ⟨rfl, by simpa [hk] using e⟩
    have h2 : (l[9]).toNat % 128 ≤ 1 := by omega
    have h3 := Nat.mul_le_mul_right (128 ^ 9) h2
    have h6 : (128 : Nat) ^ 9 = 9223372036854775808 := by decide
    omega
  · have h8 : k ≤ 8 := by omega
    have h3 : (l[k]).toNat % 128 ≤ 127 := by omega
    have h4 := Nat.mul_le_mul_right (128 ^ k) h3
    have h5 : 128 ^ k ≤ 128 ^ 8 := Nat.pow_le_pow_right (by decide) h8
    have h6 : (128 : Nat) ^ 8 = 72057594037927936 := by decide
    omega
theorem lead_lt : ∀ (l : List UInt8) (h : lead l < l.length), l[lead l].toNat < 128
  | [], h => by simp [lead] at h
  | x :: l, h => by
    by_cases hx : 128 ≤ x.toNat
    · have e : lead (x :: l) = lead l + 1 := by simp [lead, hx]
      have := lead_lt l (by rw [e] at h; simpa using h)
      simpa [e] using this
    · have e : lead (x :: l) = 0 := by simp [lead, hx]
      simpa [e] using hx
theorem readL_le {l : List UInt8} {n k : Nat} (h : readL l = some (n, k)) : k ≤ l.length ∧ 0 < k ∧ n < 18446744073709551616 := by
  unfold readL at h
  split at h
  · next hc =>
    have e : val (l.take (lead l + 1)) = n ∧ lead l + 1 = k := by simpa using h
    obtain ⟨rfl, rfl⟩ := e
    exact ⟨by omega, by omega, val_bound hc.1 hc.2.1 hc.2.2.1 (lead_lt l hc.1)⟩
  · cases h

/-- a reader: what is left to read, and whether something was wrong -/
structure St where
  l : List UInt8
  bad : Bool
def St.fail : St := ⟨[], true⟩
def sSmall (most : Nat) (s : St) : Nat × St :=
  match readL s.l with
  | some (n, k) => if n ≤ most then (n, ⟨s.l.drop k, s.bad⟩) else (0, St.fail)
  | none => (0, St.fail)
theorem sSmall_ok {most : Nat} {s : St} {n k : Nat} (h : readL s.l = some (n, k)) (hn : n ≤ most) : sSmall most s = (n, ⟨s.l.drop k, s.bad⟩) := by simp [sSmall, h, hn]
theorem sSmall_much {most : Nat} {s : St} {n k : Nat} (h : readL s.l = some (n, k)) (hn : ¬ n ≤ most) : sSmall most s = (0, St.fail) := by simp [sSmall, h, hn]
theorem sSmall_none {most : Nat} {s : St} (h : readL s.l = none) : sSmall most s = (0, St.fail) := by simp [sSmall, h]
theorem sSmall_len (most : Nat) (s : St) : (sSmall most s).2.l.length ≤ s.l.length := by
  rcases h : readL s.l with _ | ⟨n, k⟩
  · rw [sSmall_none h]; exact Nat.zero_le _
  · by_cases hn : n ≤ most
    · rw [sSmall_ok h hn]; simp
    · rw [sSmall_much h hn]; exact Nat.zero_le _
def sSingle (s : St) : UInt8 × St :=
  match s.l with
  | [] => (0, St.fail)
  | x :: r => (x, ⟨r, s.bad⟩)
def sText (s : St) : List UInt8 × St :=
  if (sSmall 18446744073709551615 s).2.l.length < (sSmall 18446744073709551615 s).1 then ([], St.fail)
  else ((sSmall 18446744073709551615 s).2.l.take (sSmall 18446744073709551615 s).1, ⟨(sSmall 18446744073709551615 s).2.l.drop (sSmall 18446744073709551615 s).1, (sSmall 18446744073709551615 s).2.bad⟩)

/-- P1.1: what Cut answers: the text, what stands behind it, the error -/
def cutT (l : List UInt8) : List UInt8 := if (sText ⟨l, false⟩).2.bad then [] else (sText ⟨l, false⟩).1
def cutR (l : List UInt8) : List UInt8 := if (sText ⟨l, false⟩).2.bad then [] else (sText ⟨l, false⟩).2.l
def cutE (l : List UInt8) : Int := if (sText ⟨l, false⟩).2.bad then 8 else 0
theorem sText_len (s : St) : (sText s).2.l.length ≤ s.l.length := by
  have := sSmall_len 18446744073709551615 s
  unfold sText
  split
  · exact Nat.zero_le _
  · simp; omega

end Go.Proofs.Ytfjcaofmcjhdpaa
