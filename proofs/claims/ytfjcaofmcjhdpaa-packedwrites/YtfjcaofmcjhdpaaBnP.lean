/-
  Packets as data: how one is written, what is cut off; four bytes of a number, by shifts.
-/
import Derived.Test.YtfjcaofmcjhdpaaGy
import Derived.Laws.Bits64b
import Derived.Handy
namespace Go.Proofs.Ytfjcaofmcjhdpaa
open Go.Proofs.Ytfjcaofmcjhdpaa.It
open Go.RowKit
set_option linter.unusedSimpArgs false
set_option linter.unusedVariables false
set_option maxRecDepth 100000

/-- a number in four bytes, the highest first -/
def be4 (n : Nat) : List UInt8 := [UInt8.ofNat (n / 16777216), UInt8.ofNat (n / 65536), UInt8.ofNat (n / 256), UInt8.ofNat n]
/-- a packet -/
def pkt (f k : UInt8) (b : List UInt8) : List UInt8 := f :: k :: (be4 b.length ++ b)
/-- how long the body is -/
def len4 : List UInt8 → Nat
  | _ :: _ :: a :: b :: c :: d :: _ => a.toNat * 16777216 + b.toNat * 65536 + c.toNat * 256 + d.toNat
  | _ => 0
/-- P16.1: what is cut off: which kind, the body, how many bytes, which error -/
structure Ct where
  k : UInt8
  b : List UInt8
  n : Nat
  e : Int
def kind2 : List UInt8 → UInt8
  | _ :: k :: _ => k
  | _ => 0
def cutP (f : UInt8) (L : List UInt8) : Ct :=
  match L with
  | [] => ⟨0, [], 0, 0⟩
  | x :: _ => if ¬ x = f then ⟨0, [], 0, 8⟩ else if L.length < 6 then ⟨0, [], 0, 0⟩ else if 4096 < len4 L then ⟨0, [], 0, 8⟩ else if L.length < 6 + len4 L then ⟨0, [], 0, 0⟩ else ⟨kind2 L, (L.drop 6).take (len4 L), 6 + len4 L, 0⟩
theorem be4_len4 (f k : UInt8) (n : Nat) (h : n < 4294967296) (l : List UInt8) : len4 (f :: k :: (be4 n ++ l)) = n := by
  unfold be4 len4
  simp
  omega
theorem len4_lt (L : List UInt8) : len4 L < 4294967296 := by
  unfold len4
  split
  · rename_i a b c d _
    have := a.toNat_lt; have := b.toNat_lt; have := c.toNat_lt; have := d.toNat_lt
    omega
  · omega
theorem len4_app (L q : List UInt8) (h : 6 ≤ L.length) : len4 (L ++ q) = len4 L := by
  match L, h with
  | _ :: _ :: _ :: _ :: _ :: _ :: _, _ => rfl
theorem u8_of (d : UInt8) (n : Nat) (h : n % 256 = d.toNat) : UInt8.ofNat n = d := by
  apply UInt8.toNat_inj.1
  simp [h]
def kind0 : List UInt8 → UInt8
  | x :: _ => x
  | _ => 0
theorem len4_be4 {L : List UInt8} (h : 6 ≤ L.length) : L = kind0 L :: kind2 L :: (be4 (len4 L) ++ L.drop 6) := by
  match L, h with
  | f :: k :: a :: b :: c :: d :: l, _ =>
    unfold be4 len4 kind2 kind0
    have := a.toNat_lt; have := b.toNat_lt; have := c.toNat_lt; have := d.toNat_lt
    simp only [List.drop_succ_cons, List.drop_zero, List.cons_append, List.nil_append]
    rw [u8_of a _ (by omega), u8_of b _ (by omega), u8_of c _ (by omega), u8_of d _ (by omega)]
theorem cut_pkt (f k : UInt8) (b q : List UInt8) (h : b.length ≤ 4096) : cutP f (pkt f k b ++ q) = ⟨k, b, 6 + b.length, 0⟩ := by
  have e : pkt f k b ++ q = f :: k :: (be4 b.length ++ (b ++ q)) := by unfold pkt; simp
  have h4 := be4_len4 f k b.length (by omega) (b ++ q)
  have hd : (f :: k :: (be4 b.length ++ (b ++ q))).drop 6 = b ++ q := by unfold be4; rfl
  have hl : (f :: k :: (be4 b.length ++ (b ++ q))).length = 6 + b.length + q.length := by unfold be4; simp; omega
  rw [e]
  unfold cutP
  dsimp only
  rw [if_neg (by simp), if_neg (by rw [hl]; omega), h4, if_neg (by omega), if_neg (by rw [hl]; omega), hd]
  simp [kind2]
theorem pkt_len (f k : UInt8) (b : List UInt8) : (pkt f k b).length = 6 + b.length := by unfold pkt be4; simp; omega
/-- what was cut off is the packet -/
theorem cut_only {f : UInt8} {L : List UInt8} {c : Ct} (h : cutP f L = c) (hn : c.n ≠ 0) : c.n ≤ L.length ∧ c.e = 0 ∧ c.n = 6 + c.b.length ∧ c.b.length ≤ 4096 ∧ L.take c.n = pkt f c.k c.b ∧ c.k = kind2 L := by
  cases L with
  | nil => unfold cutP at h; rw [← h] at hn; exact absurd rfl hn
  | cons x l =>
    unfold cutP at h
    dsimp only at h
    by_cases h0 : x = f
    case neg => rw [if_pos h0] at h; rw [← h] at hn; exact absurd rfl hn
    rw [if_neg (by simpa using h0)] at h
    by_cases h1 : (x :: l).length < 6
    · rw [if_pos h1] at h; rw [← h] at hn; exact absurd rfl hn
    rw [if_neg h1] at h
    by_cases h2 : 4096 < len4 (x :: l)
    · rw [if_pos h2] at h; rw [← h] at hn; exact absurd rfl hn
    rw [if_neg h2] at h
    by_cases h3 : (x :: l).length < 6 + len4 (x :: l)
    · rw [if_pos h3] at h; rw [← h] at hn; exact absurd rfl hn
    rw [if_neg h3] at h
    subst h0
    have e := len4_be4 (L := x :: l) (by omega)
    obtain ⟨N, hN⟩ : ∃ N, N = len4 (x :: l) := ⟨_, rfl⟩
    rw [← hN] at h h2 h3 e
    subst h
    dsimp only
    have hbl : (((x :: l).drop 6).take N).length = N := by rw [List.length_take, List.length_drop]; omega
    refine ⟨by omega, rfl, by rw [hbl], by rw [hbl]; omega, ?_, rfl⟩
    have e2 : kind0 (x :: l) = x := rfl
    rw [e2] at e
    unfold pkt
    rw [hbl]
    obtain ⟨D, hD⟩ : ∃ D, D = (x :: l).drop 6 := ⟨_, rfl⟩
    rw [← hD] at e ⊢
    obtain ⟨K, hK⟩ : ∃ K, K = kind2 (x :: l) := ⟨_, rfl⟩
    rw [← hK] at e ⊢
    rw [e]
    have : (x :: K :: (be4 N ++ D)).take (6 + N) = x :: K :: (be4 N ++ D.take N) := by
      unfold be4
      rw [show 6 + N = N + 6 by omega]
      simp
    exact this
theorem cut_more {f : UInt8} {L q : List UInt8} (hn : (cutP f L).n ≠ 0) : cutP f (L ++ q) = cutP f L := by
  obtain ⟨h1, h2, h3, h4, h5, _⟩ := cut_only rfl hn
  have e : L = pkt f (cutP f L).k (cutP f L).b ++ L.drop (cutP f L).n := by
    rw [← h5, List.take_append_drop]
  have e1 := cut_pkt f (cutP f L).k (cutP f L).b (L.drop (cutP f L).n ++ q) h4
  rw [← List.append_assoc, ← e] at e1
  rw [e1, ← h3, ← h2]
theorem bits_or_u32_nat (a b : Nat) (ha : a < 4294967296) (hb : b < 4294967296) : bits BinOp.or IntKind.u32 (a : Int) (b : Int) = ((a ||| b : Nat) : Int) := by
  have hx : a ||| b < 2 ^ 32 := Nat.or_lt_two_pow (by omega) (by omega)
  have h1 : (BitVec.ofInt 32 (a : Int)).toNat = a := by
    rw [BitVec.ofInt_natCast, BitVec.toNat_ofNat]; exact Nat.mod_eq_of_lt (by omega)
  have h2 : (BitVec.ofInt 32 (b : Int)).toNat = b := by
    rw [BitVec.ofInt_natCast, BitVec.toNat_ofNat]; exact Nat.mod_eq_of_lt (by omega)
  show IntKind.u32.wrap ((BitVec.ofInt 32 (a : Int) ||| BitVec.ofInt 32 (b : Int)).toNat : Int) = _
  rw [BitVec.toNat_or, h1, h2, IntKind.wrap_u32]
  omega
/-- four bytes, the highest first -/
theorem or4 (a b c d : Nat) (ha : a < 256) (hb : b < 256) (hc : c < 256) (hd : d < 256) :
    bits BinOp.or IntKind.u32 (bits BinOp.or IntKind.u32 (bits BinOp.or IntKind.u32 ((a * 16777216 : Nat) : Int) ((b * 65536 : Nat) : Int)) ((c * 256 : Nat) : Int)) (d : Int) = ((a * 16777216 + b * 65536 + c * 256 + d : Nat) : Int) := by
  have e1 : a * 16777216 ||| b * 65536 = a * 16777216 + b * 65536 := by
    have h := Nat.two_pow_add_eq_or_of_lt (i := 24) (b := b * 65536) (by omega) a
    rw [show 2 ^ 24 * a = a * 16777216 by omega] at h
    exact h.symm
  have e2 : (a * 16777216 + b * 65536) ||| c * 256 = a * 16777216 + b * 65536 + c * 256 := by
    have h := Nat.two_pow_add_eq_or_of_lt (i := 16) (b := c * 256) (by omega) (a * 256 + b)
    rw [show 2 ^ 16 * (a * 256 + b) = a * 16777216 + b * 65536 by omega] at h
    exact h.symm
  have e3 : (a * 16777216 + b * 65536 + c * 256) ||| d = a * 16777216 + b * 65536 + c * 256 + d := by
    have h := Nat.two_pow_add_eq_or_of_lt (i := 8) (b := d) (by omega) (a * 65536 + b * 256 + c)
    rw [show 2 ^ 8 * (a * 65536 + b * 256 + c) = a * 16777216 + b * 65536 + c * 256 by omega] at h
    exact h.symm
  rw [bits_or_u32_nat _ _ (by omega) (by omega), e1, bits_or_u32_nat _ _ (by omega) (by omega), e2, bits_or_u32_nat _ _ (by omega) (by omega), e3]
theorem shl_u32 (a : Nat) (k : Nat) (h : a * 2 ^ k < 4294967296) : IntKind.u32.wrap ((a : Int) * 2 ^ k) = ((a * 2 ^ k : Nat) : Int) := by
  rw [IntKind.wrap_u32, show ((a : Int) * 2 ^ k) = ((a * 2 ^ k : Nat) : Int) by simp]
  omega
end Go.Proofs.Ytfjcaofmcjhdpaa
