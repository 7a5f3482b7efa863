/-
  Reading and writing are each other's inverse, as data: a line's words, the first request of bytes.
-/
import Derived.Test.YtldnkminhppngaaDoorTxQ
import Derived.Test.YtldnkminhppngaaDoorTxG
namespace Go.Proofs.YtldnkminhppngaaDoor
open Go.Proofs.YtldnkminhppngaaDoor.It
open Go.RowKit
set_option linter.unusedSimpArgs false
set_option linter.unusedVariables false
set_option maxRecDepth 100000

def withV (r : Rq) (v : ByteArray) : Rq := { r with cmd := { r.cmd with value := v } }
theorem wordOk_of {k : ByteArray} (h : keyOk k = true) (hs : seen k = true) : wordOk k 32 = true := by
  unfold keyOk at h
  simp at h
  unfold wordOk
  rw [hs, decide_eq_true (by omega), decide_eq_true (by omega)]
  rfl
theorem keyOk_of {k : ByteArray} (h : wordOk k 32 = true) : keyOk k = true := by
  obtain ⟨h1, h2, _⟩ := wordOk_parts h
  unfold keyOk
  simp
  omega
theorem isNone_eq {c : Cm} (h : c.isNone = true) : c = cz := by
  unfold Cm.isNone at h
  simp only [Bool.and_eq_true, beq_iff_eq] at h
  obtain ⟨⟨⟨⟨⟨⟨⟨h1, h2⟩, h3⟩, h4⟩, h5⟩, h6⟩, h7⟩, h8⟩ := h
  obtain ⟨kind, tenant, keys, value, flags, life, unique, by_⟩ := c
  dsimp only at *
  have e3 : keys = [] := List.eq_nil_of_length_eq_zero (by omega)
  have e4 := isEmpty_eq h4
  subst h1 h2 e3 e4 h5 h6 h7 h8
  rfl
theorem size_zero {s : ByteArray} (h : s.size = 0) : s = ⟨#[]⟩ := by
  apply bl_inj
  have := bl_len s
  rw [h] at this
  rw [List.eq_nil_of_length_eq_zero this]
  rfl
/-- what a request's words tell -/
theorem tell_words {r : Rq} (h : r.wrE = 0) (hf : r.Fit) : tellW r.words = some ⟨withV r ⟨#[]⟩, [], if hasVal r.cmd.kind = true then some r.cmd.value.size else none⟩ := by
  obtain ⟨hl, hc⟩ := wrE_zero h
  obtain ⟨rk, c, rt, secret, on, close⟩ := r
  obtain ⟨f0, f1, u0, u1, b0, b1⟩ := hf
  dsimp only at *
  by_cases k1 : rk = 1
  · subst k1
    obtain ⟨hm, ht, hs⟩ := hc rfl
    unfold Rq.hasLine at hl
    rw [if_pos rfl] at hl
    simp only [Bool.and_eq_true, beq_iff_eq, Bool.not_eq_true'] at hl
    obtain ⟨⟨⟨l1, l2⟩, l3⟩, l4⟩ := hl
    have l2 := isEmpty_eq l2
    obtain ⟨p1, p2, p3, p4, p5, p6, p7⟩ := Cm.may_parts14 hm
    unfold Cm.may at hm
    simp only [Bool.and_eq_true, decide_eq_true_eq] at hm
    obtain ⟨⟨⟨⟨⟨⟨_, _⟩, m3⟩, m4⟩, m5⟩, m6⟩, m7⟩ := hm
    obtain ⟨kind, tenant, keys, value, flags, life, unique, by_⟩ := c
    unfold Cm.vOk Cm.puts at m4
    unfold Cm.lOk Cm.puts at m5
    unfold Cm.fOk Cm.puts at m6
    unfold Cm.bOk at m7
    simp only [Bool.and_eq_true, Bool.or_eq_true, decide_eq_true_eq] at m4 m5 m6 m7
    dsimp only at *
    subst l1 l2 l3 l4 ht
    have ew : Rq.words ⟨1, ⟨kind, 0, keys, value, flags, life, unique, by_⟩, 0, ⟨#[]⟩, false, false⟩ = kw kind :: (keys ++ Cm.args ⟨kind, 0, keys, value, flags, life, unique, by_⟩) := by
      unfold Rq.words Cm.words
      rfl
    rw [ew]
    unfold withV
    dsimp only
    have hkw : keys.all seen = true := hs
    rw [List.all_eq_true] at hkw
    have hok : kind ≠ 11 → keys.length ≠ 0 ∧ (keys.length ≤ 1 ∨ kind = 1 ∨ kind = 10) ∧ (∀ k ∈ keys, wordOk k 32 = true) ∧ keys.Nodup := by
      intro h11
      unfold Cm.kOk at m3
      dsimp only at m3
      rw [if_neg h11] at m3
      simp only [Bool.and_eq_true, decide_eq_true_eq, List.all_eq_true] at m3
      exact ⟨by omega, m3.1.1.2.2, fun k hk => wordOk_of (m3.1.2 k hk) (hkw k hk), m3.2⟩
    have hk11 : kind = 11 → keys = [] := by
      intro h11
      unfold Cm.kOk at m3
      dsimp only at m3
      rw [if_pos h11] at m3
      simp at m3
      exact m3
    clear m3 hs hkw ew h hc
    obtain ⟨fl, rfl⟩ : ∃ fl : Nat, flags = fl := ⟨flags.toNat, by omega⟩
    obtain ⟨li, rfl⟩ : ∃ li : Nat, life = li := ⟨life.toNat, by omega⟩
    obtain ⟨un, rfl⟩ : ∃ un : Nat, unique = un := ⟨unique.toNat, by omega⟩
    obtain ⟨byn, rfl⟩ : ∃ byn : Nat, by_ = byn := ⟨by_.toNat, by omega⟩
    have hks : kind = 1 ∨ kind = 2 ∨ kind = 3 ∨ kind = 4 ∨ kind = 5 ∨ kind = 6 ∨ kind = 7 ∨ kind = 8 ∨ kind = 9 ∨ kind = 10 ∨ kind = 11 := by omega
    rcases hks with rfl | rfl | rfl | rfl | rfl | rfl | rfl | rfl | rfl | rfl | rfl
    · have zv : value = ⟨#[]⟩ := size_zero (by omega)
      have zf : fl = 0 := by omega
      have zl : li = 0 := by omega
      have zu : un = 0 := by omega
      have zb : byn = 0 := by omega
      subst zv zf zl zu zb
      obtain ⟨h0, h1, h2, h3⟩ := hok (by decide)
      rw [show Cm.args ⟨1, 0, keys, ⟨#[]⟩, ((0 : Nat) : Int), ((0 : Nat) : Int), ((0 : Nat) : Int), ((0 : Nat) : Int)⟩ = [] from rfl, show hasVal 1 = false from rfl]
      simp only [tellW]
      rw [show kw 1 = ⟨#[103, 101, 116]⟩ from rfl, lineOf_get]
      simp only [goAll, Pt.go, dz, cz, rz]
      rw [kgo_ok 8 _ keys _ _ p3 h2 h3 (.inl (by simp)) h0]
      (try dsimp only [putF, putL, putV, putU, putB])
      rfl
    · have zu : un = 0 := by omega
      have zb : byn = 0 := by omega
      subst zu zb
      obtain ⟨h0, h1, h2, h3⟩ := hok (by decide)
      rw [show Cm.args ⟨2, 0, keys, value, (fl : Int), (li : Int), ((0 : Nat) : Int), ((0 : Nat) : Int)⟩ = [dec (fl : Int), dec (li : Int), dec (value.size : Int)] from rfl, show hasVal 2 = true from rfl]
      simp only [tellW]
      rw [show kw 2 = ⟨#[115, 101, 116]⟩ from rfl, lineOf_set]
      simp only [goAll, Pt.go, dz, cz, rz]
      rw [kgo_ok 1 _ keys _ _ (by omega) h2 h3 (.inr (by omega)) h0]
      dsimp only [putF, putL, putV, putU, putB]
      rw [ngo_ok _ _ _ _ (show fl ≤ 4294967295 by omega) (by omega)]
      dsimp only [putF, putL, putV, putU, putB]
      rw [ngo_ok _ _ _ _ (show li ≤ 1099511627776 by omega) (by omega)]
      dsimp only [putF, putL, putV, putU, putB]
      rw [ngo_ok _ _ _ _ (show value.size ≤ 512 by omega) (by omega)]
      (try dsimp only [putF, putL, putV, putU, putB])
      rfl
    · have zu : un = 0 := by omega
      have zb : byn = 0 := by omega
      subst zu zb
      obtain ⟨h0, h1, h2, h3⟩ := hok (by decide)
      rw [show Cm.args ⟨3, 0, keys, value, (fl : Int), (li : Int), ((0 : Nat) : Int), ((0 : Nat) : Int)⟩ = [dec (fl : Int), dec (li : Int), dec (value.size : Int)] from rfl, show hasVal 3 = true from rfl]
      simp only [tellW]
      rw [show kw 3 = ⟨#[97, 100, 100]⟩ from rfl, lineOf_add]
      simp only [goAll, Pt.go, dz, cz, rz]
      rw [kgo_ok 1 _ keys _ _ (by omega) h2 h3 (.inr (by omega)) h0]
      dsimp only [putF, putL, putV, putU, putB]
      rw [ngo_ok _ _ _ _ (show fl ≤ 4294967295 by omega) (by omega)]
      dsimp only [putF, putL, putV, putU, putB]
      rw [ngo_ok _ _ _ _ (show li ≤ 1099511627776 by omega) (by omega)]
      dsimp only [putF, putL, putV, putU, putB]
      rw [ngo_ok _ _ _ _ (show value.size ≤ 512 by omega) (by omega)]
      (try dsimp only [putF, putL, putV, putU, putB])
      rfl
    · have zu : un = 0 := by omega
      have zb : byn = 0 := by omega
      subst zu zb
      obtain ⟨h0, h1, h2, h3⟩ := hok (by decide)
      rw [show Cm.args ⟨4, 0, keys, value, (fl : Int), (li : Int), ((0 : Nat) : Int), ((0 : Nat) : Int)⟩ = [dec (fl : Int), dec (li : Int), dec (value.size : Int)] from rfl, show hasVal 4 = true from rfl]
      simp only [tellW]
      rw [show kw 4 = ⟨#[114, 101, 112, 108, 97, 99, 101]⟩ from rfl, lineOf_replace]
      simp only [goAll, Pt.go, dz, cz, rz]
      rw [kgo_ok 1 _ keys _ _ (by omega) h2 h3 (.inr (by omega)) h0]
      dsimp only [putF, putL, putV, putU, putB]
      rw [ngo_ok _ _ _ _ (show fl ≤ 4294967295 by omega) (by omega)]
      dsimp only [putF, putL, putV, putU, putB]
      rw [ngo_ok _ _ _ _ (show li ≤ 1099511627776 by omega) (by omega)]
      dsimp only [putF, putL, putV, putU, putB]
      rw [ngo_ok _ _ _ _ (show value.size ≤ 512 by omega) (by omega)]
      (try dsimp only [putF, putL, putV, putU, putB])
      rfl
    · have zb : byn = 0 := by omega
      subst zb
      obtain ⟨h0, h1, h2, h3⟩ := hok (by decide)
      rw [show Cm.args ⟨5, 0, keys, value, (fl : Int), (li : Int), (un : Int), ((0 : Nat) : Int)⟩ = [dec (fl : Int), dec (li : Int), dec (value.size : Int), dec (un : Int)] from rfl, show hasVal 5 = true from rfl]
      simp only [tellW]
      rw [show kw 5 = ⟨#[99, 97, 115]⟩ from rfl, lineOf_cas]
      simp only [goAll, Pt.go, dz, cz, rz]
      rw [kgo_ok 1 _ keys _ _ (by omega) h2 h3 (.inr (by omega)) h0]
      dsimp only [putF, putL, putV, putU, putB]
      rw [ngo_ok _ _ _ _ (show fl ≤ 4294967295 by omega) (by omega)]
      dsimp only [putF, putL, putV, putU, putB]
      rw [ngo_ok _ _ _ _ (show li ≤ 1099511627776 by omega) (by omega)]
      dsimp only [putF, putL, putV, putU, putB]
      rw [ngo_ok _ _ _ _ (show value.size ≤ 512 by omega) (by omega)]
      dsimp only [putF, putL, putV, putU, putB]
      rw [ngo_ok _ _ _ _ (show un ≤ 18446744073709551615 by omega) (by omega)]
      (try dsimp only [putF, putL, putV, putU, putB])
      rfl
    · have zv : value = ⟨#[]⟩ := size_zero (by omega)
      have zf : fl = 0 := by omega
      have zl : li = 0 := by omega
      have zu : un = 0 := by omega
      subst zv zf zl zu
      obtain ⟨h0, h1, h2, h3⟩ := hok (by decide)
      rw [show Cm.args ⟨6, 0, keys, ⟨#[]⟩, ((0 : Nat) : Int), ((0 : Nat) : Int), ((0 : Nat) : Int), (byn : Int)⟩ = [dec (byn : Int)] from rfl, show hasVal 6 = false from rfl]
      simp only [tellW]
      rw [show kw 6 = ⟨#[105, 110, 99, 114]⟩ from rfl, lineOf_incr]
      simp only [goAll, Pt.go, dz, cz, rz]
      rw [kgo_ok 1 _ keys _ _ (by omega) h2 h3 (.inr (by omega)) h0]
      dsimp only [putF, putL, putV, putU, putB]
      rw [ngo_ok _ _ _ _ (show byn ≤ 18446744073709551615 by omega) (by omega)]
      (try dsimp only [putF, putL, putV, putU, putB])
      rfl
    · have zv : value = ⟨#[]⟩ := size_zero (by omega)
      have zf : fl = 0 := by omega
      have zl : li = 0 := by omega
      have zu : un = 0 := by omega
      subst zv zf zl zu
      obtain ⟨h0, h1, h2, h3⟩ := hok (by decide)
      rw [show Cm.args ⟨7, 0, keys, ⟨#[]⟩, ((0 : Nat) : Int), ((0 : Nat) : Int), ((0 : Nat) : Int), (byn : Int)⟩ = [dec (byn : Int)] from rfl, show hasVal 7 = false from rfl]
      simp only [tellW]
      rw [show kw 7 = ⟨#[100, 101, 99, 114]⟩ from rfl, lineOf_decr]
      simp only [goAll, Pt.go, dz, cz, rz]
      rw [kgo_ok 1 _ keys _ _ (by omega) h2 h3 (.inr (by omega)) h0]
      dsimp only [putF, putL, putV, putU, putB]
      rw [ngo_ok _ _ _ _ (show byn ≤ 18446744073709551615 by omega) (by omega)]
      (try dsimp only [putF, putL, putV, putU, putB])
      rfl
    · have zf : fl = 0 := by omega
      have zl : li = 0 := by omega
      have zu : un = 0 := by omega
      have zb : byn = 0 := by omega
      subst zf zl zu zb
      obtain ⟨h0, h1, h2, h3⟩ := hok (by decide)
      rw [show Cm.args ⟨8, 0, keys, value, ((0 : Nat) : Int), ((0 : Nat) : Int), ((0 : Nat) : Int), ((0 : Nat) : Int)⟩ = [dec (value.size : Int)] from rfl, show hasVal 8 = true from rfl]
      simp only [tellW]
      rw [show kw 8 = ⟨#[97, 112, 112, 101, 110, 100]⟩ from rfl, lineOf_append]
      simp only [goAll, Pt.go, dz, cz, rz]
      rw [kgo_ok 1 _ keys _ _ (by omega) h2 h3 (.inr (by omega)) h0]
      dsimp only [putF, putL, putV, putU, putB]
      rw [ngo_ok _ _ _ _ (show value.size ≤ 512 by omega) (by omega)]
      (try dsimp only [putF, putL, putV, putU, putB])
      rfl
    · have zv : value = ⟨#[]⟩ := size_zero (by omega)
      have zf : fl = 0 := by omega
      have zu : un = 0 := by omega
      have zb : byn = 0 := by omega
      subst zv zf zu zb
      obtain ⟨h0, h1, h2, h3⟩ := hok (by decide)
      rw [show Cm.args ⟨9, 0, keys, ⟨#[]⟩, ((0 : Nat) : Int), (li : Int), ((0 : Nat) : Int), ((0 : Nat) : Int)⟩ = [dec (li : Int)] from rfl, show hasVal 9 = false from rfl]
      simp only [tellW]
      rw [show kw 9 = ⟨#[116, 111, 117, 99, 104]⟩ from rfl, lineOf_touch]
      simp only [goAll, Pt.go, dz, cz, rz]
      rw [kgo_ok 1 _ keys _ _ (by omega) h2 h3 (.inr (by omega)) h0]
      dsimp only [putF, putL, putV, putU, putB]
      rw [ngo_ok _ _ _ _ (show li ≤ 1099511627776 by omega) (by omega)]
      (try dsimp only [putF, putL, putV, putU, putB])
      rfl
    · have zv : value = ⟨#[]⟩ := size_zero (by omega)
      have zf : fl = 0 := by omega
      have zl : li = 0 := by omega
      have zu : un = 0 := by omega
      have zb : byn = 0 := by omega
      subst zv zf zl zu zb
      obtain ⟨h0, h1, h2, h3⟩ := hok (by decide)
      rw [show Cm.args ⟨10, 0, keys, ⟨#[]⟩, ((0 : Nat) : Int), ((0 : Nat) : Int), ((0 : Nat) : Int), ((0 : Nat) : Int)⟩ = [] from rfl, show hasVal 10 = false from rfl]
      simp only [tellW]
      rw [show kw 10 = ⟨#[100, 101, 108, 101, 116, 101]⟩ from rfl, lineOf_delete]
      simp only [goAll, Pt.go, dz, cz, rz]
      rw [kgo_ok 8 _ keys _ _ p3 h2 h3 (.inl (by simp)) h0]
      (try dsimp only [putF, putL, putV, putU, putB])
      rfl
    · have zv : value = ⟨#[]⟩ := size_zero (by omega)
      have zf : fl = 0 := by omega
      have zl : li = 0 := by omega
      have zu : un = 0 := by omega
      have zb : byn = 0 := by omega
      subst zv zf zl zu zb
      have ek := hk11 rfl
      subst ek
      rw [show Cm.args ⟨11, 0, [], ⟨#[]⟩, ((0 : Nat) : Int), ((0 : Nat) : Int), ((0 : Nat) : Int), ((0 : Nat) : Int)⟩ = [] from rfl, show hasVal 11 = false from rfl]
      simp only [tellW]
      rw [show kw 11 = ⟨#[102, 108, 117, 115, 104]⟩ from rfl, lineOf_flush]
      simp only [goAll, Pt.go, dz, cz, rz]
      (try dsimp only [putF, putL, putV, putU, putB])
      rfl
  · have hn := isNone_eq (show c.isNone = true by
      unfold Rq.hasLine at hl
      rw [if_neg k1] at hl
      split at hl
      · simp only [Bool.and_eq_true] at hl; exact hl.1.1.2
      split at hl
      · simp only [Bool.and_eq_true] at hl; exact hl.1.1.1
      split at hl
      · simp only [Bool.and_eq_true] at hl; exact hl.1.1.1.1
      · cases hl)
    subst hn
    rw [show hasVal cz.kind = false from rfl]
    unfold Rq.hasLine at hl
    dsimp only at hl
    rw [if_neg k1] at hl
    clear hc h f0 f1 u0 u1 b0 b1
    by_cases k2 : rk = 2
    · subst k2
      rw [if_pos rfl] at hl
      simp only [Bool.and_eq_true, decide_eq_true_eq, Bool.not_eq_true'] at hl
      obtain ⟨⟨⟨⟨t, hw⟩, _⟩, e1⟩, e2⟩ := hl
      subst e1 e2
      obtain ⟨tn, rfl⟩ : ∃ tn : Nat, rt = tn := ⟨rt.toNat, by omega⟩
      rw [show Rq.words ⟨2, cz, (tn : Int), secret, false, false⟩ = [⟨#[117, 115, 101, 114]⟩, dec (tn : Int), secret] from rfl]
      simp only [tellW]
      rw [lineOf_user]
      simp only [goAll, Pt.go, dz, rz]
      rw [ngo_ok _ _ _ _ (show tn ≤ 3 by omega) (by omega)]
      simp only [putT, sgo]
      rw [if_pos hw]
      rfl
    rw [if_neg k2] at hl
    by_cases k3 : rk = 3
    · subst k3
      rw [if_pos rfl] at hl
      simp only [Bool.and_eq_true, decide_eq_true_eq, beq_iff_eq, Bool.not_eq_true'] at hl
      obtain ⟨⟨⟨_, e1⟩, e2⟩, e3⟩ := hl
      have e2 := isEmpty_eq e2
      subst e1 e2 e3
      cases on
      · rw [show Rq.words ⟨3, cz, 0, ⟨#[]⟩, false, false⟩ = [⟨#[116, 114, 97, 99, 107]⟩, sOff] from rfl]
        simp only [tellW]
        rw [lineOf_track]
        first | rfl | (show _ = _; kernel_rfl)
      · rw [show Rq.words ⟨3, cz, 0, ⟨#[]⟩, true, false⟩ = [⟨#[116, 114, 97, 99, 107]⟩, sOn] from rfl]
        simp only [tellW]
        rw [lineOf_track]
        first | rfl | (show _ = _; kernel_rfl)
    rw [if_neg k3] at hl
    by_cases k45 : rk = 4 ∨ rk = 5
    · rw [if_pos k45] at hl
      simp only [Bool.and_eq_true, decide_eq_true_eq, beq_iff_eq, Bool.not_eq_true'] at hl
      obtain ⟨⟨⟨⟨_, e1⟩, e2⟩, e3⟩, e4⟩ := hl
      have e2 := isEmpty_eq e2
      subst e1 e2 e3 e4
      rcases k45 with rfl | rfl
      · rw [show Rq.words ⟨4, cz, 0, ⟨#[]⟩, false, false⟩ = [⟨#[112, 105, 110, 103]⟩] from rfl]
        simp only [tellW]
        rw [lineOf_ping]
        rfl
      · rw [show Rq.words ⟨5, cz, 0, ⟨#[]⟩, false, false⟩ = [⟨#[113, 117, 105, 116]⟩] from rfl]
        simp only [tellW]
        rw [lineOf_quit]
        rfl
    rw [if_neg k45] at hl
    cases hl

theorem goAll_cons {p : Pt} {ps : List Pt} {d x : Dr} (h : goAll (p :: ps) d = some x) : ∃ d', p.go d = some d' ∧ goAll ps d' = some x := by
  unfold goAll at h
  cases hp : p.go d with
  | none => rw [hp] at h; cases h
  | some d' => rw [hp] at h; exact ⟨d', rfl, h⟩
theorem goAll_nil {d x : Dr} (h : goAll [] d = some x) : x = d := (Option.some.inj h).symm
theorem may_mk {k : Int} {keys : List ByteArray} {v : ByteArray} {fl li un byn : Nat} (hk : 1 ≤ k ∧ k ≤ 11)
    (kc : (k = 11 ∧ keys = []) ∨ (k ≠ 11 ∧ keys.length ≠ 0 ∧ keys.length ≤ 8 ∧ (keys.length ≤ 1 ∨ k = 1 ∨ k = 10) ∧ (∀ x ∈ keys, wordOk x 32 = true) ∧ keys.Nodup))
    (hv : v.size ≤ 512 ∧ (v.size = 0 ∨ (2 ≤ k ∧ k ≤ 5) ∨ k = 8)) (hl : li ≤ 1099511627776 ∧ (li = 0 ∨ (2 ≤ k ∧ k ≤ 5) ∨ k = 9)) (hf : fl = 0 ∨ (2 ≤ k ∧ k ≤ 5)) (hu : un = 0 ∨ k = 5) (hb : byn = 0 ∨ k = 6 ∨ k = 7) :
    Cm.may ⟨k, 0, keys, v, (fl : Int), (li : Int), (un : Int), (byn : Int)⟩ = true ∧ keys.all seen = true := by
  have hks : ∀ x ∈ keys, wordOk x 32 = true := by
    rcases kc with ⟨_, rfl⟩ | h
    · intro x hx; cases hx
    · exact h.2.2.2.2.1
  refine ⟨?_, ?_⟩
  · unfold Cm.may Cm.kOk Cm.vOk Cm.lOk Cm.fOk Cm.bOk Cm.puts tenOk
    simp only [Bool.and_eq_true, Bool.or_eq_true, decide_eq_true_eq]
    refine ⟨⟨⟨⟨⟨⟨hk, by first | decide | simp⟩, ?_⟩, ?_⟩, ?_⟩, ?_⟩, ?_⟩
    · rcases kc with ⟨h1, h2⟩ | ⟨h1, h2, h3, h4, h5, h6⟩
      · rw [if_pos h1, h2]; rfl
      · rw [if_neg h1]
        simp only [Bool.and_eq_true, decide_eq_true_eq, List.all_eq_true]
        exact ⟨⟨⟨by omega, h3, h4⟩, fun x hx => keyOk_of (h5 x hx)⟩, h6⟩
    · omega
    · omega
    · omega
    · omega
  · rw [List.all_eq_true]
    exact fun x hx => (wordOk_parts (hks x hx)).2.2
theorem cmd_ok {c : Cm} (hm : c.may = true ∧ c.keys.all seen = true) (ht : c.tenant = 0) : (Rq.mk 1 c 0 ⟨#[]⟩ false false).wrE = 0 := by
  have hl : (Rq.mk 1 c 0 ⟨#[]⟩ false false).hasLine = true := by
    unfold Rq.hasLine
    rw [if_pos rfl]
    simp [em0]
  unfold Rq.wrE
  rw [if_pos hl, if_pos rfl]
  unfold Cm.wrE
  rw [if_pos hm.1, if_pos ⟨ht, hm.2⟩]
theorem fit_mk {k : Int} {keys : List ByteArray} {v : ByteArray} {fl un byn : Nat} {li : Int} {rk rt : Int} {sec : ByteArray} {on close : Bool} (h1 : fl ≤ 4294967295) (h2 : un < 18446744073709551616) (h3 : byn < 18446744073709551616) : (Rq.mk rk ⟨k, 0, keys, v, (fl : Int), li, (un : Int), (byn : Int)⟩ rt sec on close).Fit :=
  ⟨by dsimp only; omega, by dsimp only; omega, by dsimp only; omega, by dsimp only; omega, by dsimp only; omega, by dsimp only; omega⟩
theorem sgo_some {r : Rq} {ws : List ByteArray} {vl : Option Nat} {d : Dr} (h : sgo ⟨r, ws, vl⟩ = some d) : ∃ s l, ws = s :: l ∧ wordOk s 16 = true ∧ d = ⟨{ r with secret := s }, l, vl⟩ := by
  cases ws with
  | nil => cases h
  | cons a l =>
    unfold sgo at h
    dsimp only at h
    by_cases hw : wordOk a 16 = true
    · rw [if_pos hw] at h
      exact ⟨a, l, rfl, hw, (Option.some.inj h).symm⟩
    · rw [if_neg hw] at h
      cases h
theorem ogo_some {r : Rq} {ws : List ByteArray} {vl : Option Nat} {d : Dr} (h : ogo ⟨r, ws, vl⟩ = some d) : ∃ (b : Bool) (l : List ByteArray), ws = (if b = true then sOn else sOff) :: l ∧ d = ⟨{ r with on := b }, l, vl⟩ := by
  cases ws with
  | nil => cases h
  | cons a l =>
    unfold ogo at h
    dsimp only at h
    by_cases h1 : a = sOn
    · rw [if_pos h1] at h
      exact ⟨true, l, by rw [h1]; rfl, (Option.some.inj h).symm⟩
    · rw [if_neg h1] at h
      by_cases h2 : a = sOff
      · rw [if_pos h2] at h
        exact ⟨false, l, by rw [h2]; rfl, (Option.some.inj h).symm⟩
      · rw [if_neg h2] at h
        cases h
theorem cz_none : cz.isNone = true := by simp [Cm.isNone, cz, em0]
theorem fit_cz (rk rt : Int) (s : ByteArray) (on close : Bool) : (Rq.mk rk cz rt s on close).Fit := ⟨(by show (0 : Int) ≤ 0; decide), (by show (0 : Int) < 4294967296; decide), (by show (0 : Int) ≤ 0; decide), (by show (0 : Int) < 18446744073709551616; decide), (by show (0 : Int) ≤ 0; decide), (by show (0 : Int) < 18446744073709551616; decide)⟩
theorem user_ok {tn : Nat} {s : ByteArray} (h : tn ≤ 3) (hs : wordOk s 16 = true) : (Rq.mk 2 cz (tn : Int) s false false).wrE = 0 := by
  have hl : (Rq.mk 2 cz (tn : Int) s false false).hasLine = true := by
    unfold Rq.hasLine
    rw [if_neg (by show ¬ (2 : Int) = 1; decide), if_pos rfl]
    dsimp only
    rw [hs, cz_none, decide_eq_true (by omega)]
    rfl
  unfold Rq.wrE
  rw [if_pos hl, if_neg (by show ¬ (2 : Int) = 1; decide)]
theorem rfl_track (b : Bool) : (Rq.mk 3 cz 0 ⟨#[]⟩ b false).wrE = 0 := by
  have hl : (Rq.mk 3 cz 0 ⟨#[]⟩ b false).hasLine = true := by
    unfold Rq.hasLine
    rw [if_neg (by show ¬ (3 : Int) = 1; decide), if_neg (by show ¬ (3 : Int) = 2; decide), if_pos rfl]
    dsimp only
    rw [cz_none, em0]
    rfl
  unfold Rq.wrE
  rw [if_pos hl, if_neg (by show ¬ (3 : Int) = 1; decide)]
theorem rfl_ping : (Rq.mk 4 cz 0 ⟨#[]⟩ false false).wrE = 0 := by
  have hl : (Rq.mk 4 cz 0 ⟨#[]⟩ false false).hasLine = true := by
    unfold Rq.hasLine
    rw [if_neg (by decide), if_neg (by decide), if_neg (by decide), if_pos (by decide)]
    dsimp only
    rw [cz_none, em0]
    rfl
  unfold Rq.wrE
  rw [if_pos hl, if_neg (by decide)]
theorem rfl_quit : (Rq.mk 5 cz 0 ⟨#[]⟩ false false).wrE = 0 := by
  have hl : (Rq.mk 5 cz 0 ⟨#[]⟩ false false).hasLine = true := by
    unfold Rq.hasLine
    rw [if_neg (by decide), if_neg (by decide), if_neg (by decide), if_pos (by decide)]
    dsimp only
    rw [cz_none, em0]
    rfl
  unfold Rq.wrE
  rw [if_pos hl, if_neg (by decide)]
/-- what a line's words tell is written as these words, with whatever value -/
theorem words_tell {ws : List ByteArray} {d : Dr} (h : tellW ws = some d) (v : ByteArray) (hv : v.size = d.vl.getD 0) :
    d.ws = [] ∧ (withV d.r v).wrE = 0 ∧ (withV d.r v).Fit ∧ (withV d.r v).words = ws ∧ (hasVal d.r.cmd.kind = d.vl.isSome) ∧ d.r.cmd.value = ⟨#[]⟩ ∧ d.r.kind ≠ 6 := by
  cases ws with
  | nil => cases h
  | cons a l =>
    simp only [tellW] at h
    obtain ⟨x, hlo⟩ : ∃ x, lineOf a = some x := by
      cases hx : lineOf a with
      | none => rw [hx] at h; cases h
      | some x => exact ⟨x, rfl⟩
    obtain ⟨rk, ck, ps⟩ := x
    rw [hlo] at h
    dsimp only at h
    obtain ⟨d1, hgo⟩ : ∃ d1, goAll ps (dz rk ck l) = some d1 := by
      cases hx : goAll ps (dz rk ck l) with
      | none => rw [hx] at h; cases h
      | some x => exact ⟨x, rfl⟩
    rw [hgo] at h
    dsimp only at h
    by_cases hw0 : d1.ws.length = 0
    case neg => rw [if_neg hw0] at h; cases h
    rw [if_pos hw0] at h
    have := Option.some.inj h
    subst this
    have hws := List.eq_nil_of_length_eq_zero hw0
    refine ⟨hws, ?_⟩
    clear h hw0
    rcases lineOf_some hlo with ⟨ea, ex⟩ | ⟨ea, ex⟩ | ⟨ea, ex⟩ | ⟨ea, ex⟩ | ⟨ea, ex⟩ | ⟨ea, ex⟩ | ⟨ea, ex⟩ | ⟨ea, ex⟩ | ⟨ea, ex⟩ | ⟨ea, ex⟩ | ⟨ea, ex⟩ | ⟨ea, ex⟩ | ⟨ea, ex⟩ | ⟨ea, ex⟩ | ⟨ea, ex⟩
    · simp only [Prod.mk.injEq] at ex
      obtain ⟨rfl, rfl, rfl⟩ := ex
      subst ea
      clear hlo
      obtain ⟨d9, g9, hgo0⟩ := goAll_cons hgo
      clear hgo
      obtain ⟨ks, rest, e1, e2, e3, e4, e5, e6⟩ := kgo_some g9
      subst e1 e6
      clear g9
      have := goAll_nil hgo0
      subst this
      dsimp only at hws hv ⊢
      subst hws
      have zv : v = ⟨#[]⟩ := size_zero hv
      subst zv
      have hm := may_mk (k := 1) (keys := ks) (v := ⟨#[]⟩) (fl := 0) (li := 0) (un := 0) (byn := 0) (by decide) (.inr ⟨by decide, e2, by omega, by omega, e4, e5⟩) ⟨by decide, .inl rfl⟩ (by omega) (by omega) (by omega) (by omega)
      exact ⟨cmd_ok hm rfl, fit_mk (fl := 0) (un := 0) (byn := 0) (by omega) (by omega) (by omega), by first | rfl | (show _ :: (ks ++ []) = _; simp) | simp [withV, Rq.words, Cm.words, Cm.args, kw], rfl, rfl, by show (1 : Int) ≠ 6; decide⟩
    · simp only [Prod.mk.injEq] at ex
      obtain ⟨rfl, rfl, rfl⟩ := ex
      subst ea
      clear hlo
      obtain ⟨d9, g9, hgo0⟩ := goAll_cons hgo
      clear hgo
      obtain ⟨ks, rest, e1, e2, e3, e4, e5, e6⟩ := kgo_some g9
      subst e1 e6
      clear g9
      have := goAll_nil hgo0
      subst this
      dsimp only at hws hv ⊢
      subst hws
      have zv : v = ⟨#[]⟩ := size_zero hv
      subst zv
      have hm := may_mk (k := 10) (keys := ks) (v := ⟨#[]⟩) (fl := 0) (li := 0) (un := 0) (byn := 0) (by decide) (.inr ⟨by decide, e2, by omega, by omega, e4, e5⟩) ⟨by decide, .inl rfl⟩ (by omega) (by omega) (by omega) (by omega)
      exact ⟨cmd_ok hm rfl, fit_mk (fl := 0) (un := 0) (byn := 0) (by omega) (by omega) (by omega), by first | rfl | (show _ :: (ks ++ []) = _; simp) | simp [withV, Rq.words, Cm.words, Cm.args, kw], rfl, rfl, by show (1 : Int) ≠ 6; decide⟩
    · simp only [Prod.mk.injEq] at ex
      obtain ⟨rfl, rfl, rfl⟩ := ex
      subst ea
      clear hlo
      obtain ⟨d9, g9, hgo0⟩ := goAll_cons hgo
      clear hgo
      obtain ⟨ks, rest, e1, e2, e3, e4, e5, e6⟩ := kgo_some g9
      subst e1 e6
      clear g9
      obtain ⟨d9, g9, hgo1⟩ := goAll_cons hgo0
      clear hgo0
      obtain ⟨fl, l_fl, e_fl, h_fl, s_fl, e9⟩ := ngo_some g9
      subst e9
      dsimp only [putF, putL, putV, putU, putB, putT] at hgo1
      subst e_fl
      clear g9
      obtain ⟨d9, g9, hgo2⟩ := goAll_cons hgo1
      clear hgo1
      obtain ⟨li, l_li, e_li, h_li, s_li, e9⟩ := ngo_some g9
      subst e9
      dsimp only [putF, putL, putV, putU, putB, putT] at hgo2
      subst e_li
      clear g9
      obtain ⟨d9, g9, hgo3⟩ := goAll_cons hgo2
      clear hgo2
      obtain ⟨n, l_n, e_n, h_n, s_n, e9⟩ := ngo_some g9
      subst e9
      dsimp only [putF, putL, putV, putU, putB, putT] at hgo3
      subst e_n
      clear g9
      have := goAll_nil hgo3
      subst this
      dsimp only at hws hv ⊢
      subst hws
      simp only [Option.getD_some] at hv
      have hm := may_mk (k := 2) (keys := ks) (v := v) (fl := fl) (li := li) (un := 0) (byn := 0) (by decide) (.inr ⟨by decide, e2, by omega, by omega, e4, e5⟩) (by omega) (by omega) (by omega) (by omega) (by omega)
      obtain ⟨k, rfl⟩ : ∃ k, ks = [k] := List.length_eq_one_iff.1 (by omega)
      subst hv
      exact ⟨cmd_ok hm rfl, fit_mk (fl := fl) (un := 0) (byn := 0) (by omega) (by omega) (by omega), by first | rfl | (show _ :: (ks ++ []) = _; simp) | simp [withV, Rq.words, Cm.words, Cm.args, kw], rfl, rfl, by show (1 : Int) ≠ 6; decide⟩
    · simp only [Prod.mk.injEq] at ex
      obtain ⟨rfl, rfl, rfl⟩ := ex
      subst ea
      clear hlo
      obtain ⟨d9, g9, hgo0⟩ := goAll_cons hgo
      clear hgo
      obtain ⟨ks, rest, e1, e2, e3, e4, e5, e6⟩ := kgo_some g9
      subst e1 e6
      clear g9
      obtain ⟨d9, g9, hgo1⟩ := goAll_cons hgo0
      clear hgo0
      obtain ⟨fl, l_fl, e_fl, h_fl, s_fl, e9⟩ := ngo_some g9
      subst e9
      dsimp only [putF, putL, putV, putU, putB, putT] at hgo1
      subst e_fl
      clear g9
      obtain ⟨d9, g9, hgo2⟩ := goAll_cons hgo1
      clear hgo1
      obtain ⟨li, l_li, e_li, h_li, s_li, e9⟩ := ngo_some g9
      subst e9
      dsimp only [putF, putL, putV, putU, putB, putT] at hgo2
      subst e_li
      clear g9
      obtain ⟨d9, g9, hgo3⟩ := goAll_cons hgo2
      clear hgo2
      obtain ⟨n, l_n, e_n, h_n, s_n, e9⟩ := ngo_some g9
      subst e9
      dsimp only [putF, putL, putV, putU, putB, putT] at hgo3
      subst e_n
      clear g9
      have := goAll_nil hgo3
      subst this
      dsimp only at hws hv ⊢
      subst hws
      simp only [Option.getD_some] at hv
      have hm := may_mk (k := 3) (keys := ks) (v := v) (fl := fl) (li := li) (un := 0) (byn := 0) (by decide) (.inr ⟨by decide, e2, by omega, by omega, e4, e5⟩) (by omega) (by omega) (by omega) (by omega) (by omega)
      obtain ⟨k, rfl⟩ : ∃ k, ks = [k] := List.length_eq_one_iff.1 (by omega)
      subst hv
      exact ⟨cmd_ok hm rfl, fit_mk (fl := fl) (un := 0) (byn := 0) (by omega) (by omega) (by omega), by first | rfl | (show _ :: (ks ++ []) = _; simp) | simp [withV, Rq.words, Cm.words, Cm.args, kw], rfl, rfl, by show (1 : Int) ≠ 6; decide⟩
    · simp only [Prod.mk.injEq] at ex
      obtain ⟨rfl, rfl, rfl⟩ := ex
      subst ea
      clear hlo
      obtain ⟨d9, g9, hgo0⟩ := goAll_cons hgo
      clear hgo
      obtain ⟨ks, rest, e1, e2, e3, e4, e5, e6⟩ := kgo_some g9
      subst e1 e6
      clear g9
      obtain ⟨d9, g9, hgo1⟩ := goAll_cons hgo0
      clear hgo0
      obtain ⟨fl, l_fl, e_fl, h_fl, s_fl, e9⟩ := ngo_some g9
      subst e9
      dsimp only [putF, putL, putV, putU, putB, putT] at hgo1
      subst e_fl
      clear g9
      obtain ⟨d9, g9, hgo2⟩ := goAll_cons hgo1
      clear hgo1
      obtain ⟨li, l_li, e_li, h_li, s_li, e9⟩ := ngo_some g9
      subst e9
      dsimp only [putF, putL, putV, putU, putB, putT] at hgo2
      subst e_li
      clear g9
      obtain ⟨d9, g9, hgo3⟩ := goAll_cons hgo2
      clear hgo2
      obtain ⟨n, l_n, e_n, h_n, s_n, e9⟩ := ngo_some g9
      subst e9
      dsimp only [putF, putL, putV, putU, putB, putT] at hgo3
      subst e_n
      clear g9
      have := goAll_nil hgo3
      subst this
      dsimp only at hws hv ⊢
      subst hws
      simp only [Option.getD_some] at hv
      have hm := may_mk (k := 4) (keys := ks) (v := v) (fl := fl) (li := li) (un := 0) (byn := 0) (by decide) (.inr ⟨by decide, e2, by omega, by omega, e4, e5⟩) (by omega) (by omega) (by omega) (by omega) (by omega)
      obtain ⟨k, rfl⟩ : ∃ k, ks = [k] := List.length_eq_one_iff.1 (by omega)
      subst hv
      exact ⟨cmd_ok hm rfl, fit_mk (fl := fl) (un := 0) (byn := 0) (by omega) (by omega) (by omega), by first | rfl | (show _ :: (ks ++ []) = _; simp) | simp [withV, Rq.words, Cm.words, Cm.args, kw], rfl, rfl, by show (1 : Int) ≠ 6; decide⟩
    · simp only [Prod.mk.injEq] at ex
      obtain ⟨rfl, rfl, rfl⟩ := ex
      subst ea
      clear hlo
      obtain ⟨d9, g9, hgo0⟩ := goAll_cons hgo
      clear hgo
      obtain ⟨ks, rest, e1, e2, e3, e4, e5, e6⟩ := kgo_some g9
      subst e1 e6
      clear g9
      obtain ⟨d9, g9, hgo1⟩ := goAll_cons hgo0
      clear hgo0
      obtain ⟨fl, l_fl, e_fl, h_fl, s_fl, e9⟩ := ngo_some g9
      subst e9
      dsimp only [putF, putL, putV, putU, putB, putT] at hgo1
      subst e_fl
      clear g9
      obtain ⟨d9, g9, hgo2⟩ := goAll_cons hgo1
      clear hgo1
      obtain ⟨li, l_li, e_li, h_li, s_li, e9⟩ := ngo_some g9
      subst e9
      dsimp only [putF, putL, putV, putU, putB, putT] at hgo2
      subst e_li
      clear g9
      obtain ⟨d9, g9, hgo3⟩ := goAll_cons hgo2
      clear hgo2
      obtain ⟨n, l_n, e_n, h_n, s_n, e9⟩ := ngo_some g9
      subst e9
      dsimp only [putF, putL, putV, putU, putB, putT] at hgo3
      subst e_n
      clear g9
      obtain ⟨d9, g9, hgo4⟩ := goAll_cons hgo3
      clear hgo3
      obtain ⟨un, l_un, e_un, h_un, s_un, e9⟩ := ngo_some g9
      subst e9
      dsimp only [putF, putL, putV, putU, putB, putT] at hgo4
      subst e_un
      clear g9
      have := goAll_nil hgo4
      subst this
      dsimp only at hws hv ⊢
      subst hws
      simp only [Option.getD_some] at hv
      have hm := may_mk (k := 5) (keys := ks) (v := v) (fl := fl) (li := li) (un := un) (byn := 0) (by decide) (.inr ⟨by decide, e2, by omega, by omega, e4, e5⟩) (by omega) (by omega) (by omega) (by omega) (by omega)
      obtain ⟨k, rfl⟩ : ∃ k, ks = [k] := List.length_eq_one_iff.1 (by omega)
      subst hv
      exact ⟨cmd_ok hm rfl, fit_mk (fl := fl) (un := un) (byn := 0) (by omega) (by omega) (by omega), by first | rfl | (show _ :: (ks ++ []) = _; simp) | simp [withV, Rq.words, Cm.words, Cm.args, kw], rfl, rfl, by show (1 : Int) ≠ 6; decide⟩
    · simp only [Prod.mk.injEq] at ex
      obtain ⟨rfl, rfl, rfl⟩ := ex
      subst ea
      clear hlo
      obtain ⟨d9, g9, hgo0⟩ := goAll_cons hgo
      clear hgo
      obtain ⟨ks, rest, e1, e2, e3, e4, e5, e6⟩ := kgo_some g9
      subst e1 e6
      clear g9
      obtain ⟨d9, g9, hgo1⟩ := goAll_cons hgo0
      clear hgo0
      obtain ⟨n, l_n, e_n, h_n, s_n, e9⟩ := ngo_some g9
      subst e9
      dsimp only [putF, putL, putV, putU, putB, putT] at hgo1
      subst e_n
      clear g9
      have := goAll_nil hgo1
      subst this
      dsimp only at hws hv ⊢
      subst hws
      simp only [Option.getD_some] at hv
      have hm := may_mk (k := 8) (keys := ks) (v := v) (fl := 0) (li := 0) (un := 0) (byn := 0) (by decide) (.inr ⟨by decide, e2, by omega, by omega, e4, e5⟩) (by omega) (by omega) (by omega) (by omega) (by omega)
      obtain ⟨k, rfl⟩ : ∃ k, ks = [k] := List.length_eq_one_iff.1 (by omega)
      subst hv
      exact ⟨cmd_ok hm rfl, fit_mk (fl := 0) (un := 0) (byn := 0) (by omega) (by omega) (by omega), by first | rfl | (show _ :: (ks ++ []) = _; simp) | simp [withV, Rq.words, Cm.words, Cm.args, kw], rfl, rfl, by show (1 : Int) ≠ 6; decide⟩
    · simp only [Prod.mk.injEq] at ex
      obtain ⟨rfl, rfl, rfl⟩ := ex
      subst ea
      clear hlo
      obtain ⟨d9, g9, hgo0⟩ := goAll_cons hgo
      clear hgo
      obtain ⟨ks, rest, e1, e2, e3, e4, e5, e6⟩ := kgo_some g9
      subst e1 e6
      clear g9
      obtain ⟨d9, g9, hgo1⟩ := goAll_cons hgo0
      clear hgo0
      obtain ⟨byn, l_byn, e_byn, h_byn, s_byn, e9⟩ := ngo_some g9
      subst e9
      dsimp only [putF, putL, putV, putU, putB, putT] at hgo1
      subst e_byn
      clear g9
      have := goAll_nil hgo1
      subst this
      dsimp only at hws hv ⊢
      subst hws
      have zv : v = ⟨#[]⟩ := size_zero hv
      subst zv
      have hm := may_mk (k := 6) (keys := ks) (v := ⟨#[]⟩) (fl := 0) (li := 0) (un := 0) (byn := byn) (by decide) (.inr ⟨by decide, e2, by omega, by omega, e4, e5⟩) ⟨by decide, .inl rfl⟩ (by omega) (by omega) (by omega) (by omega)
      obtain ⟨k, rfl⟩ : ∃ k, ks = [k] := List.length_eq_one_iff.1 (by omega)
      exact ⟨cmd_ok hm rfl, fit_mk (fl := 0) (un := 0) (byn := byn) (by omega) (by omega) (by omega), by first | rfl | (show _ :: (ks ++ []) = _; simp) | simp [withV, Rq.words, Cm.words, Cm.args, kw], rfl, rfl, by show (1 : Int) ≠ 6; decide⟩
    · simp only [Prod.mk.injEq] at ex
      obtain ⟨rfl, rfl, rfl⟩ := ex
      subst ea
      clear hlo
      obtain ⟨d9, g9, hgo0⟩ := goAll_cons hgo
      clear hgo
      obtain ⟨ks, rest, e1, e2, e3, e4, e5, e6⟩ := kgo_some g9
      subst e1 e6
      clear g9
      obtain ⟨d9, g9, hgo1⟩ := goAll_cons hgo0
      clear hgo0
      obtain ⟨byn, l_byn, e_byn, h_byn, s_byn, e9⟩ := ngo_some g9
      subst e9
      dsimp only [putF, putL, putV, putU, putB, putT] at hgo1
      subst e_byn
      clear g9
      have := goAll_nil hgo1
      subst this
      dsimp only at hws hv ⊢
      subst hws
      have zv : v = ⟨#[]⟩ := size_zero hv
      subst zv
      have hm := may_mk (k := 7) (keys := ks) (v := ⟨#[]⟩) (fl := 0) (li := 0) (un := 0) (byn := byn) (by decide) (.inr ⟨by decide, e2, by omega, by omega, e4, e5⟩) ⟨by decide, .inl rfl⟩ (by omega) (by omega) (by omega) (by omega)
      obtain ⟨k, rfl⟩ : ∃ k, ks = [k] := List.length_eq_one_iff.1 (by omega)
      exact ⟨cmd_ok hm rfl, fit_mk (fl := 0) (un := 0) (byn := byn) (by omega) (by omega) (by omega), by first | rfl | (show _ :: (ks ++ []) = _; simp) | simp [withV, Rq.words, Cm.words, Cm.args, kw], rfl, rfl, by show (1 : Int) ≠ 6; decide⟩
    · simp only [Prod.mk.injEq] at ex
      obtain ⟨rfl, rfl, rfl⟩ := ex
      subst ea
      clear hlo
      obtain ⟨d9, g9, hgo0⟩ := goAll_cons hgo
      clear hgo
      obtain ⟨ks, rest, e1, e2, e3, e4, e5, e6⟩ := kgo_some g9
      subst e1 e6
      clear g9
      obtain ⟨d9, g9, hgo1⟩ := goAll_cons hgo0
      clear hgo0
      obtain ⟨li, l_li, e_li, h_li, s_li, e9⟩ := ngo_some g9
      subst e9
      dsimp only [putF, putL, putV, putU, putB, putT] at hgo1
      subst e_li
      clear g9
      have := goAll_nil hgo1
      subst this
      dsimp only at hws hv ⊢
      subst hws
      have zv : v = ⟨#[]⟩ := size_zero hv
      subst zv
      have hm := may_mk (k := 9) (keys := ks) (v := ⟨#[]⟩) (fl := 0) (li := li) (un := 0) (byn := 0) (by decide) (.inr ⟨by decide, e2, by omega, by omega, e4, e5⟩) ⟨by decide, .inl rfl⟩ (by omega) (by omega) (by omega) (by omega)
      obtain ⟨k, rfl⟩ : ∃ k, ks = [k] := List.length_eq_one_iff.1 (by omega)
      exact ⟨cmd_ok hm rfl, fit_mk (fl := 0) (un := 0) (byn := 0) (by omega) (by omega) (by omega), by first | rfl | (show _ :: (ks ++ []) = _; simp) | simp [withV, Rq.words, Cm.words, Cm.args, kw], rfl, rfl, by show (1 : Int) ≠ 6; decide⟩
    · simp only [Prod.mk.injEq] at ex
      obtain ⟨rfl, rfl, rfl⟩ := ex
      subst ea
      clear hlo
      have := goAll_nil hgo
      subst this
      dsimp only [dz, rz, cz] at hws hv ⊢
      subst hws
      have zv : v = ⟨#[]⟩ := size_zero hv
      subst zv
      have hm := may_mk (k := 11) (keys := []) (v := ⟨#[]⟩) (fl := 0) (li := 0) (un := 0) (byn := 0) (by decide) (.inl ⟨rfl, rfl⟩) ⟨by decide, .inl rfl⟩ (by omega) (by omega) (by omega) (by omega)
      exact ⟨cmd_ok hm rfl, fit_mk (fl := 0) (un := 0) (byn := 0) (by omega) (by omega) (by omega), by first | rfl | (show _ :: (ks ++ []) = _; simp) | simp [withV, Rq.words, Cm.words, Cm.args, kw], rfl, rfl, by show (1 : Int) ≠ 6; decide⟩
    · simp only [Prod.mk.injEq] at ex
      obtain ⟨rfl, rfl, rfl⟩ := ex
      subst ea
      clear hlo
      obtain ⟨d9, g9, hgo0⟩ := goAll_cons hgo
      clear hgo
      obtain ⟨tn, l_tn, e_tn, h_tn, s_tn, e9⟩ := ngo_some g9
      subst e9
      dsimp only [putF, putL, putV, putU, putB, putT] at hgo0
      subst e_tn
      clear g9
      obtain ⟨d9, g9, hgo1⟩ := goAll_cons hgo0
      clear hgo0
      obtain ⟨sec, l_sec, e_sec, h_sec, e9⟩ := sgo_some g9
      subst e9 e_sec
      clear g9
      have := goAll_nil hgo1
      subst this
      dsimp only at hws hv ⊢
      subst hws
      have zv : v = ⟨#[]⟩ := size_zero hv
      subst zv
      exact ⟨user_ok h_tn h_sec, fit_cz _ _ _ _ _, rfl, rfl, rfl, by show (2 : Int) ≠ 6; decide⟩
    · simp only [Prod.mk.injEq] at ex
      obtain ⟨rfl, rfl, rfl⟩ := ex
      subst ea
      clear hlo
      obtain ⟨d9, g9, hgo0⟩ := goAll_cons hgo
      clear hgo
      obtain ⟨bb, l_on, e_on, e9⟩ := ogo_some g9
      subst e9 e_on
      clear g9
      have := goAll_nil hgo0
      subst this
      dsimp only at hws hv ⊢
      subst hws
      have zv : v = ⟨#[]⟩ := size_zero hv
      subst zv
      cases bb <;> exact ⟨rfl_track _, fit_cz _ _ _ _ _, rfl, rfl, rfl, by show (3 : Int) ≠ 6; decide⟩
    · simp only [Prod.mk.injEq] at ex
      obtain ⟨rfl, rfl, rfl⟩ := ex
      subst ea
      clear hlo
      have := goAll_nil hgo
      subst this
      dsimp only [dz, rz, cz] at hws hv ⊢
      subst hws
      have zv : v = ⟨#[]⟩ := size_zero hv
      subst zv
      exact ⟨rfl_ping, fit_cz _ _ _ _ _, rfl, rfl, rfl, by show (4 : Int) ≠ 6; decide⟩
    · simp only [Prod.mk.injEq] at ex
      obtain ⟨rfl, rfl, rfl⟩ := ex
      subst ea
      clear hlo
      have := goAll_nil hgo
      subst this
      dsimp only [dz, rz, cz] at hws hv ⊢
      subst hws
      have zv : v = ⟨#[]⟩ := size_zero hv
      subst zv
      exact ⟨rfl_quit, fit_cz _ _ _ _ _, rfl, rfl, rfl, by show (5 : Int) ≠ 6; decide⟩
end Go.Proofs.YtldnkminhppngaaDoor
