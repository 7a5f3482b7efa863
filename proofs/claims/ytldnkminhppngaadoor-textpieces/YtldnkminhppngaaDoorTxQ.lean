/-
  A line's parts as data: which word has which, what they make of a request; that reading a line and writing it are each other's inverse.
-/
import Derived.Test.YtldnkminhppngaaDoorTxP
namespace Go.Proofs.YtldnkminhppngaaDoor
open Go.Proofs.YtldnkminhppngaaDoor.It
open Go.RowKit
set_option linter.unusedSimpArgs false
set_option linter.unusedVariables false
set_option maxRecDepth 100000

/-- a draft: the request so far, the words that are left, how long its value is -/
structure Dr where
  r : Rq
  ws : List ByteArray
  vl : Option Nat
inductive Pt where | key | keys | flags | life | value | unique | by_ | tenant | secret | onoff
def kgo (most : Nat) (d : Dr) : Option Dr := match keysW most [] d.ws with
  | none => none
  | some (ks, rest) => if ks.length = 0 then none else some ⟨{ d.r with cmd := { d.r.cmd with keys := ks } }, rest, d.vl⟩
def ngo (m : Nat) (put : Dr → Nat → Dr) (d : Dr) : Option Dr := match d.ws with
  | [] => none
  | a :: l => match numW a m with | none => none | some n => some (put ⟨d.r, l, d.vl⟩ n)
def putF (d : Dr) (n : Nat) : Dr := ⟨{ d.r with cmd := { d.r.cmd with flags := n } }, d.ws, d.vl⟩
def putL (d : Dr) (n : Nat) : Dr := ⟨{ d.r with cmd := { d.r.cmd with life := n } }, d.ws, d.vl⟩
def putV (d : Dr) (n : Nat) : Dr := ⟨d.r, d.ws, some n⟩
def putU (d : Dr) (n : Nat) : Dr := ⟨{ d.r with cmd := { d.r.cmd with unique := n } }, d.ws, d.vl⟩
def putB (d : Dr) (n : Nat) : Dr := ⟨{ d.r with cmd := { d.r.cmd with by_ := n } }, d.ws, d.vl⟩
def putT (d : Dr) (n : Nat) : Dr := ⟨{ d.r with tenant := n }, d.ws, d.vl⟩
def sgo (d : Dr) : Option Dr := match d.ws with
  | [] => none
  | a :: l => if wordOk a 16 = true then some ⟨{ d.r with secret := a }, l, d.vl⟩ else none
def sOn : ByteArray := ⟨#[111, 110]⟩
def sOff : ByteArray := ⟨#[111, 102, 102]⟩
def ogo (d : Dr) : Option Dr := match d.ws with
  | [] => none
  | a :: l => if a = sOn then some ⟨{ d.r with on := true }, l, d.vl⟩ else if a = sOff then some ⟨{ d.r with on := false }, l, d.vl⟩ else none
/-- what a part makes of a draft -/
def Pt.go : Pt → Dr → Option Dr
  | .key => kgo 1
  | .keys => kgo 8
  | .flags => ngo 4294967295 putF
  | .life => ngo 1099511627776 putL
  | .value => ngo 512 putV
  | .unique => ngo 18446744073709551615 putU
  | .by_ => ngo 18446744073709551615 putB
  | .tenant => ngo 3 putT
  | .secret => sgo
  | .onoff => ogo
def goAll : List Pt → Dr → Option Dr
  | [], d => some d
  | p :: ps, d => match p.go d with | none => none | some d' => goAll ps d'
/-- a line's first word: its request's kind, its command's, its parts -/
def lineOf (a : ByteArray) : Option (Int × Int × List Pt) :=
  if a = ⟨#[103, 101, 116]⟩ then some (1, 1, [.keys])
  else if a = ⟨#[100, 101, 108, 101, 116, 101]⟩ then some (1, 10, [.keys])
  else if a = ⟨#[115, 101, 116]⟩ then some (1, 2, [.key, .flags, .life, .value])
  else if a = ⟨#[97, 100, 100]⟩ then some (1, 3, [.key, .flags, .life, .value])
  else if a = ⟨#[114, 101, 112, 108, 97, 99, 101]⟩ then some (1, 4, [.key, .flags, .life, .value])
  else if a = ⟨#[99, 97, 115]⟩ then some (1, 5, [.key, .flags, .life, .value, .unique])
  else if a = ⟨#[97, 112, 112, 101, 110, 100]⟩ then some (1, 8, [.key, .value])
  else if a = ⟨#[105, 110, 99, 114]⟩ then some (1, 6, [.key, .by_])
  else if a = ⟨#[100, 101, 99, 114]⟩ then some (1, 7, [.key, .by_])
  else if a = ⟨#[116, 111, 117, 99, 104]⟩ then some (1, 9, [.key, .life])
  else if a = ⟨#[102, 108, 117, 115, 104]⟩ then some (1, 11, [])
  else if a = ⟨#[117, 115, 101, 114]⟩ then some (2, 0, [.tenant, .secret])
  else if a = ⟨#[116, 114, 97, 99, 107]⟩ then some (3, 0, [.onoff])
  else if a = ⟨#[112, 105, 110, 103]⟩ then some (4, 0, [])
  else if a = ⟨#[113, 117, 105, 116]⟩ then some (5, 0, [])
  else none
def dz (rk ck : Int) (l : List ByteArray) : Dr := ⟨{ rz with kind := rk, cmd := { cz with kind := ck } }, l, none⟩
/-- what a line's words tell -/
def tellW : List ByteArray → Option Dr
  | [] => none
  | a :: l => match lineOf a with
    | none => none
    | some (rk, ck, ps) => match goAll ps (dz rk ck l) with
      | none => none
      | some d => if d.ws.length = 0 then some d else none
theorem kgo_ok (most : Nat) (r : Rq) (ks rest : List ByteArray) (vl : Option Nat) (h1 : ks.length ≤ most) (h2 : ∀ k ∈ ks, wordOk k 32 = true) (h3 : ks.Nodup) (h4 : rest = [] ∨ ks.length = most) (h0 : ks.length ≠ 0) :
    kgo most ⟨r, ks ++ rest, vl⟩ = some ⟨{ r with cmd := { r.cmd with keys := ks } }, rest, vl⟩ := by
  have := keysW_ok most ks [] rest (by simpa using h1) h2 (by simpa using h3) (by simpa using h4)
  unfold kgo
  dsimp only
  rw [this]
  dsimp only
  rw [List.nil_append, if_neg h0]
theorem kgo_some {most : Nat} {r : Rq} {ws : List ByteArray} {vl : Option Nat} {d : Dr} (h : kgo most ⟨r, ws, vl⟩ = some d) :
    ∃ ks rest, ws = ks ++ rest ∧ ks.length ≠ 0 ∧ ks.length ≤ most ∧ (∀ k ∈ ks, wordOk k 32 = true) ∧ ks.Nodup ∧ d = ⟨{ r with cmd := { r.cmd with keys := ks } }, rest, vl⟩ := by
  unfold kgo at h
  dsimp only at h
  split at h
  · cases h
  · rename_i ks rest hk
    split at h
    · cases h
    · rename_i h0
      obtain ⟨k2, e1, e2, e3, e4, e5⟩ := keysW_some most ws [] ks rest (Nat.zero_le _) hk
      rw [List.nil_append] at e1
      subst e1
      exact ⟨ks, rest, e2, h0, e3, e4, e5 (by simp), (Option.some.inj h).symm⟩
theorem ngo_ok {m n : Nat} (put : Dr → Nat → Dr) (r : Rq) (l : List ByteArray) (vl : Option Nat) (h : n ≤ m) (hn : n < 18446744073709551616) : ngo m put ⟨r, dec (n : Int) :: l, vl⟩ = some (put ⟨r, l, vl⟩ n) := by
  unfold ngo
  dsimp only
  rw [numW_dec h hn]
theorem ngo_some {m : Nat} {put : Dr → Nat → Dr} {r : Rq} {ws : List ByteArray} {vl : Option Nat} {d : Dr} (h : ngo m put ⟨r, ws, vl⟩ = some d) : ∃ (n : Nat) (l : List ByteArray), ws = dec (n : Int) :: l ∧ n ≤ m ∧ n < 18446744073709551616 ∧ d = put ⟨r, l, vl⟩ n := by
  unfold ngo at h
  dsimp only at h
  split at h
  · cases h
  · rename_i a l
    split at h
    · cases h
    · rename_i n hn
      obtain ⟨e1, e2, e3⟩ := numW_some hn
      subst e1
      exact ⟨n, l, rfl, e2, e3, (Option.some.inj h).symm⟩
theorem lineOf_get : lineOf ⟨#[103, 101, 116]⟩ = some (1, 1, [.keys]) := by kernel_rfl
theorem lineOf_delete : lineOf ⟨#[100, 101, 108, 101, 116, 101]⟩ = some (1, 10, [.keys]) := by kernel_rfl
theorem lineOf_set : lineOf ⟨#[115, 101, 116]⟩ = some (1, 2, [.key, .flags, .life, .value]) := by kernel_rfl
theorem lineOf_add : lineOf ⟨#[97, 100, 100]⟩ = some (1, 3, [.key, .flags, .life, .value]) := by kernel_rfl
theorem lineOf_replace : lineOf ⟨#[114, 101, 112, 108, 97, 99, 101]⟩ = some (1, 4, [.key, .flags, .life, .value]) := by kernel_rfl
theorem lineOf_cas : lineOf ⟨#[99, 97, 115]⟩ = some (1, 5, [.key, .flags, .life, .value, .unique]) := by kernel_rfl
theorem lineOf_append : lineOf ⟨#[97, 112, 112, 101, 110, 100]⟩ = some (1, 8, [.key, .value]) := by kernel_rfl
theorem lineOf_incr : lineOf ⟨#[105, 110, 99, 114]⟩ = some (1, 6, [.key, .by_]) := by kernel_rfl
theorem lineOf_decr : lineOf ⟨#[100, 101, 99, 114]⟩ = some (1, 7, [.key, .by_]) := by kernel_rfl
theorem lineOf_touch : lineOf ⟨#[116, 111, 117, 99, 104]⟩ = some (1, 9, [.key, .life]) := by kernel_rfl
theorem lineOf_flush : lineOf ⟨#[102, 108, 117, 115, 104]⟩ = some (1, 11, []) := by kernel_rfl
theorem lineOf_user : lineOf ⟨#[117, 115, 101, 114]⟩ = some (2, 0, [.tenant, .secret]) := by kernel_rfl
theorem lineOf_track : lineOf ⟨#[116, 114, 97, 99, 107]⟩ = some (3, 0, [.onoff]) := by kernel_rfl
theorem lineOf_ping : lineOf ⟨#[112, 105, 110, 103]⟩ = some (4, 0, []) := by kernel_rfl
theorem lineOf_quit : lineOf ⟨#[113, 117, 105, 116]⟩ = some (5, 0, []) := by kernel_rfl
theorem lineOf_some {a : ByteArray} {x : Int × Int × List Pt} (h : lineOf a = some x) :
    (a = ⟨#[103, 101, 116]⟩ ∧ x = (1, 1, [.keys]))
    ∨ (a = ⟨#[100, 101, 108, 101, 116, 101]⟩ ∧ x = (1, 10, [.keys]))
    ∨ (a = ⟨#[115, 101, 116]⟩ ∧ x = (1, 2, [.key, .flags, .life, .value]))
    ∨ (a = ⟨#[97, 100, 100]⟩ ∧ x = (1, 3, [.key, .flags, .life, .value]))
    ∨ (a = ⟨#[114, 101, 112, 108, 97, 99, 101]⟩ ∧ x = (1, 4, [.key, .flags, .life, .value]))
    ∨ (a = ⟨#[99, 97, 115]⟩ ∧ x = (1, 5, [.key, .flags, .life, .value, .unique]))
    ∨ (a = ⟨#[97, 112, 112, 101, 110, 100]⟩ ∧ x = (1, 8, [.key, .value]))
    ∨ (a = ⟨#[105, 110, 99, 114]⟩ ∧ x = (1, 6, [.key, .by_]))
    ∨ (a = ⟨#[100, 101, 99, 114]⟩ ∧ x = (1, 7, [.key, .by_]))
    ∨ (a = ⟨#[116, 111, 117, 99, 104]⟩ ∧ x = (1, 9, [.key, .life]))
    ∨ (a = ⟨#[102, 108, 117, 115, 104]⟩ ∧ x = (1, 11, []))
    ∨ (a = ⟨#[117, 115, 101, 114]⟩ ∧ x = (2, 0, [.tenant, .secret]))
    ∨ (a = ⟨#[116, 114, 97, 99, 107]⟩ ∧ x = (3, 0, [.onoff]))
    ∨ (a = ⟨#[112, 105, 110, 103]⟩ ∧ x = (4, 0, []))
    ∨ (a = ⟨#[113, 117, 105, 116]⟩ ∧ x = (5, 0, [])) := by
  unfold lineOf at h
  by_cases e : a = ⟨#[103, 101, 116]⟩
  · rw [if_pos e] at h; exact .inl ⟨e, (Option.some.inj h).symm⟩
  rw [if_neg e] at h
  clear e
  by_cases e : a = ⟨#[100, 101, 108, 101, 116, 101]⟩
  · rw [if_pos e] at h; exact .inr (.inl ⟨e, (Option.some.inj h).symm⟩)
  rw [if_neg e] at h
  clear e
  by_cases e : a = ⟨#[115, 101, 116]⟩
  · rw [if_pos e] at h; exact .inr (.inr (.inl ⟨e, (Option.some.inj h).symm⟩))
  rw [if_neg e] at h
  clear e
  by_cases e : a = ⟨#[97, 100, 100]⟩
  · rw [if_pos e] at h; exact .inr (.inr (.inr (.inl ⟨e, (Option.some.inj h).symm⟩)))
  rw [if_neg e] at h
  clear e
  by_cases e : a = ⟨#[114, 101, 112, 108, 97, 99, 101]⟩
  · rw [if_pos e] at h; exact .inr (.inr (.inr (.inr (.inl ⟨e, (Option.some.inj h).symm⟩))))
  rw [if_neg e] at h
  clear e
  by_cases e : a = ⟨#[99, 97, 115]⟩
  · rw [if_pos e] at h; exact .inr (.inr (.inr (.inr (.inr (.inl ⟨e, (Option.some.inj h).symm⟩)))))
  rw [if_neg e] at h
  clear e
  by_cases e : a = ⟨#[97, 112, 112, 101, 110, 100]⟩
  · rw [if_pos e] at h; exact .inr (.inr (.inr (.inr (.inr (.inr (.inl ⟨e, (Option.some.inj h).symm⟩))))))
  rw [if_neg e] at h
  clear e
  by_cases e : a = ⟨#[105, 110, 99, 114]⟩
  · rw [if_pos e] at h; exact .inr (.inr (.inr (.inr (.inr (.inr (.inr (.inl ⟨e, (Option.some.inj h).symm⟩)))))))
  rw [if_neg e] at h
  clear e
  by_cases e : a = ⟨#[100, 101, 99, 114]⟩
  · rw [if_pos e] at h; exact .inr (.inr (.inr (.inr (.inr (.inr (.inr (.inr (.inl ⟨e, (Option.some.inj h).symm⟩))))))))
  rw [if_neg e] at h
  clear e
  by_cases e : a = ⟨#[116, 111, 117, 99, 104]⟩
  · rw [if_pos e] at h; exact .inr (.inr (.inr (.inr (.inr (.inr (.inr (.inr (.inr (.inl ⟨e, (Option.some.inj h).symm⟩)))))))))
  rw [if_neg e] at h
  clear e
  by_cases e : a = ⟨#[102, 108, 117, 115, 104]⟩
  · rw [if_pos e] at h; exact .inr (.inr (.inr (.inr (.inr (.inr (.inr (.inr (.inr (.inr (.inl ⟨e, (Option.some.inj h).symm⟩))))))))))
  rw [if_neg e] at h
  clear e
  by_cases e : a = ⟨#[117, 115, 101, 114]⟩
  · rw [if_pos e] at h; exact .inr (.inr (.inr (.inr (.inr (.inr (.inr (.inr (.inr (.inr (.inr (.inl ⟨e, (Option.some.inj h).symm⟩)))))))))))
  rw [if_neg e] at h
  clear e
  by_cases e : a = ⟨#[116, 114, 97, 99, 107]⟩
  · rw [if_pos e] at h; exact .inr (.inr (.inr (.inr (.inr (.inr (.inr (.inr (.inr (.inr (.inr (.inr (.inl ⟨e, (Option.some.inj h).symm⟩))))))))))))
  rw [if_neg e] at h
  clear e
  by_cases e : a = ⟨#[112, 105, 110, 103]⟩
  · rw [if_pos e] at h; exact .inr (.inr (.inr (.inr (.inr (.inr (.inr (.inr (.inr (.inr (.inr (.inr (.inr (.inl ⟨e, (Option.some.inj h).symm⟩)))))))))))))
  rw [if_neg e] at h
  clear e
  by_cases e : a = ⟨#[113, 117, 105, 116]⟩
  · rw [if_pos e] at h; exact .inr (.inr (.inr (.inr (.inr (.inr (.inr (.inr (.inr (.inr (.inr (.inr (.inr (.inr (⟨e, (Option.some.inj h).symm⟩))))))))))))))
  rw [if_neg e] at h
  clear e
  cases h
theorem wordOk_parts {s : ByteArray} {m : Nat} (h : wordOk s m = true) : 0 < s.size ∧ s.size ≤ m ∧ seen s = true := by
  unfold wordOk at h
  simp only [Bool.and_eq_true, decide_eq_true_eq] at h
  exact ⟨h.1.1, h.1.2, h.2⟩
theorem em_iff (s : ByteArray) : s.toList.isEmpty = true ↔ s = ⟨#[]⟩ := ⟨isEmpty_eq, fun h => h ▸ em0⟩
end Go.Proofs.YtldnkminhppngaaDoor
