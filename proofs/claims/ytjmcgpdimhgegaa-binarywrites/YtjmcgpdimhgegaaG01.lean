/-
  Several texts in one: BnA, OrRefA, OrRefB, OrRefM, OrPa, RefHash, OrRefS, OrLa, OrLb, OrRefT, OrRefU.
-/
import Derived.Test.YtjmcgpdimhgegaaBnP
import Derived.Test.YtjmcgpdimhgegaaTxA
import Derived.Test.YtjmcgpdimhgegaaCmd6
import Derived.Test.YtjmcgpdimhgegaaOrC
import Derived.LoopTactic
import Derived.Test.YtjmcgpdimhgegaaHash
import Derived.Shelf.SlSortCmp.QuietGrown
/-
  Requests as packets, as data: packets, what is cut off, the first request of bytes, what Write answers; what is written is read back; what is read is written so.
-/
namespace Go.Proofs.Ytjmcgpdimhgegaa
open Go.Proofs.Ytjmcgpdimhgegaa.It
open Go.RowKit
set_option linter.unusedSimpArgs false
set_option linter.unusedVariables false
set_option maxRecDepth 100000

/-- a command of the code's words in the document's, and back -/
def Cmd.cm (c : Cmd) : Cm := ⟨c.kind.toNat, c.tenant, c.keys, c.value, c.flags, c.dur, c.unique, c.by_⟩
def Cm.cmd (c : Cm) : Cmd := ⟨UInt8.ofNat c.kind.toNat, c.tenant, c.keys, c.value, c.flags.toNat, c.life, c.unique.toNat, c.by_.toNat⟩
theorem Cmd.cm_cmd (c : Cmd) : c.cm.cmd = c := by
  obtain ⟨k, t, ks, v, f, d, u, b⟩ := c
  simp [Cmd.cm, Cm.cmd]
structure CmFit (c : Cm) : Prop where
  k0 : 0 ≤ c.kind
  k1 : c.kind ≤ 255
  f0 : 0 ≤ c.flags
  f1 : c.flags < 4294967296
  u0 : 0 ≤ c.unique
  u1 : c.unique < 18446744073709551616
  b0 : 0 ≤ c.by_
  b1 : c.by_ < 18446744073709551616
theorem Cm.cmd_cm {c : Cm} (h : CmFit c) : c.cmd.cm = c := by
  obtain ⟨k, t, ks, v, f, d, u, b⟩ := c
  obtain ⟨k0, k1, f0, f1, u0, u1, b0, b1⟩ := h
  dsimp only at *
  unfold Cmd.cm Cm.cmd
  simp only [Cm.mk.injEq, true_and]
  refine ⟨?_, by omega, by omega, by omega⟩
  have : (UInt8.ofNat k.toNat).toNat = k.toNat := by rw [UInt8.toNat_ofNat']; omega
  rw [this]; omega
theorem Cmd.good_fit {c : Cmd} (h : c.Good) : CmFit c.cm := by
  obtain ⟨k, t, ks, v, f, d, u, b⟩ := c
  obtain ⟨h1, h2, h3⟩ := h
  unfold Fits at h2 h3
  have := k.toNat_lt
  unfold Cmd.cm
  dsimp only at *
  refine ⟨?_, ?_, ?_, ?_, ?_, ?_, ?_, ?_⟩ <;> dsimp only <;> omega
theorem CmFit.good {c : Cm} (h : CmFit c) : c.cmd.Good := by
  obtain ⟨k0, k1, f0, f1, u0, u1, b0, b1⟩ := h
  unfold Cm.cmd
  refine ⟨?_, ?_, ?_⟩ <;> (try unfold Fits) <;> dsimp only <;> omega
theorem may_ok {c : Cm} (h : c.may = true) (hf : CmFit c) : cmdOk c.cmd = true := by
  unfold Cm.may at h
  simp only [Bool.and_eq_true, decide_eq_true_eq] at h
  obtain ⟨⟨⟨⟨⟨⟨h1, h2⟩, h3⟩, h4⟩, h5⟩, h6⟩, h7⟩ := h
  unfold Cm.vOk at h4
  unfold Cm.lOk at h5
  simp only [Bool.and_eq_true, decide_eq_true_eq] at h4 h5
  have hk : c.keys.length ≤ 8 ∧ c.keys.all keyOk = true := by
    unfold Cm.kOk at h3
    split at h3
    · have : c.keys = [] := List.eq_nil_of_length_eq_zero (by simpa using h3)
      rw [this]; simp
    · simp only [Bool.and_eq_true, decide_eq_true_eq] at h3
      exact ⟨h3.1.1.2.1, h3.1.2⟩
  have e : (UInt8.ofNat c.kind.toNat).toNat = c.kind.toNat := by rw [UInt8.toNat_ofNat']; have := hf.k1; omega
  unfold cmdOk Cm.cmd momOk
  dsimp only
  rw [e, hk.2]
  simp only [Bool.and_eq_true, decide_eq_true_eq]
  exact ⟨⟨⟨⟨⟨by omega, h2⟩, hk.1⟩, trivial⟩, h4.1⟩, h5.1⟩
theorem cmdB_len {c : Cmd} (h : cmdOk c = true) : (cmdB c).length ≤ 1000 := by
  have hf := cmdOk_fit h
  have h1 := keysB_len c.keys hf.keys
  have h2 := small_len c.tenant.toNat
  have h3 := small_len c.keys.length
  have h4 := small_len c.value.data.toList.length
  have h5 := small_len c.flags
  have h6 := small_len c.dur.toNat
  have h7 := small_len c.unique
  have h8 := small_len c.by_
  have h9 := hf.many
  have h10 := hf.value
  have h11 : c.value.data.toList.length = c.value.size := by simp
  unfold cmdB text
  simp only [List.length_append, List.length_cons, List.length_nil]
  omega
theorem arr_cells (c : Cmd) (v : Value) : (c.cells v).toArray = c.cm.arr v := rfl

/-- a request of a kind alone -/
def rqk (k : Int) : Rq := ⟨k, cz, 0, ⟨#[]⟩, false, false⟩
def rbad : Rq := ⟨6, cz, 0, ⟨#[]⟩, false, false⟩
def rshut : Rq := ⟨6, cz, 0, ⟨#[]⟩, false, true⟩
def logOk (t : Int) (n : Nat) : Bool := decide (0 ≤ t) && decide (t < 4) && decide (1 ≤ n) && decide (n ≤ 16)
/-- a command's errors: order.Check's, then the tenant's -/
def Cm.ckE (c : Cm) : Int := if c.may = true then (if c.tenant = 0 then 0 else 8) else 100
/-- the request of a packet's body -/
def reqOf (k : UInt8) (B : List UInt8) : Rq :=
  if (k = 4 ∨ k = 5) ∧ B = [] then rqk k.toNat
  else if k = 3 ∧ B = [1] then ⟨3, cz, 0, ⟨#[]⟩, true, false⟩
  else if k = 3 ∧ B = [0] then rqk 3
  else if k = 2 ∧ 0 < B.length ∧ logOk (B.headD 0).toNat (B.length - 1) = true then ⟨2, cz, (B.headD 0).toNat, ⟨(B.drop 1).toArray⟩, false, false⟩
  else if k = 1 ∧ ofCmdE B = 0 ∧ (ofCmd B).cm.ckE = 0 then ⟨1, (ofCmd B).cm, 0, ⟨#[]⟩, false, false⟩
  else rbad
def isRq (k : UInt8) : Bool := decide (1 ≤ k.toNat) && decide (k.toNat ≤ 5)
/-- P16.2: the first request of bytes -/
def firstB (L : List UInt8) : Rq × Nat :=
  if (cutP 177 L).e ≠ 0 ∨ 1 < L.length ∧ isRq (kind2 L) = false then (rshut, L.length)
  else if (cutP 177 L).n = 0 then (rz, 0) else (reqOf (cutP 177 L).k (cutP 177 L).b, (cutP 177 L).n)
/-- P16.3: what Write looks at -/
def Rq.hasRow (r : Rq) : Bool :=
  decide (1 ≤ r.kind ∧ r.kind ≤ 5) && !r.close && (decide (r.kind = 1) || r.cmd.isNone) && (decide (r.kind = 3) || !r.on) && (decide (r.kind = 2) || (decide (r.tenant = 0) && r.secret.toList.isEmpty)) && (!decide (r.kind = 2) || logOk r.tenant r.secret.size)
def Rq.wbE (r : Rq) : Int := if r.hasRow = true then (if r.kind = 1 then r.cmd.ckE else 0) else 8
def Rq.body (r : Rq) : List UInt8 :=
  if r.kind = 1 then cmdB r.cmd.cmd else if r.kind = 2 then UInt8.ofNat r.tenant.toNat :: bl r.secret else if r.kind = 3 then [if r.on = true then 1 else 0] else []
def Rq.wb (r : Rq) : List UInt8 := if r.wbE = 0 then pkt 177 (UInt8.ofNat r.kind.toNat) r.body else []
theorem bl_inj2 {s t : ByteArray} (h : bl s = bl t) : s = t := by
  have h2 : s.data.toList = t.data.toList := h
  have h3 : s.data = t.data := Array.toList_inj.1 h2
  cases s; cases t; simpa using h3
theorem isNone_cz {c : Cm} (h : c.isNone = true) : c = cz := by
  obtain ⟨k, t, ks, v, f, d, u, b⟩ := c
  unfold Cm.isNone at h
  simp only [Bool.and_eq_true, beq_iff_eq, List.isEmpty_iff] at h
  obtain ⟨⟨⟨⟨⟨⟨⟨h1, h2⟩, h3⟩, h4⟩, h5⟩, h6⟩, h7⟩, h8⟩ := h
  have h3' : ks = [] := List.eq_nil_of_length_eq_zero (by omega)
  rw [ByteArray.toList_eq] at h4
  have h4' : v = ⟨#[]⟩ := bl_inj2 h4
  subst h1 h2 h3' h4' h5 h6 h7 h8
  rfl
end Go.Proofs.Ytjmcgpdimhgegaa
/-
  (shaken)
-/
namespace Go.Proofs.Ytjmcgpdimhgegaa
open Go.RowKit
set_option linter.unusedSimpArgs false
set_option linter.unusedVariables false
set_option maxRecDepth 100000

theorem twice_any (l : List ByteArray) (ao : Option Addr) (cap : Nat) (w : World) (h : GRd ES w ao l cap) :
    Calls Try.prog 43 #[.slice ao l.length cap] w fun e w' => e = .returned (.bool (!decide l.Nodup)) ∧ ∃ n, w' = w.drewN n := by
  obtain ⟨B, hB⟩ : ∃ B, B = !decide l.Nodup := ⟨_, rfl⟩
  rw [← hB]
  have HB := Hid.mk2 hB
  have HR := Hid.mk2 h
  have hlen := h.len
  clear hB h
  go_enter Try.func43, Try.ntmps43
  go_wp2
  go_loopw [3] (fun i wr => ∃ k n : Nat, k ≤ l.length ∧ i = .int .i64 k ∧ wr = w.drewN n ∧ Hid (∀ j (hj : j < l.length), j < k → l[j] ∉ l.take j)) (fun i _ => l.length - (intOf i).toNat)
  case atStart => exact ⟨0, 0, Nat.zero_le _, rfl, rfl, fun _ _ h => absurd h (by omega)⟩
  case round =>
    obtain ⟨k, n, hk, rfl, rfl, HA⟩ := hrel
    by_cases hlt : k < l.length
    · have hlt2 : (k : Int) < (l.length : Int) := by omega
      have hne : l ≠ [] := by intro e; rw [e] at hlt; simp at hlt
      obtain ⟨b, off, rfl, hbl, hcs⟩ := HR.out.str hne
      have r0 := hcs k hlt
      obtain ⟨p, hpe⟩ : ∃ p, p = l[k] := ⟨_, rfl⟩
      rw [← hpe] at r0
      have HP := Hid.mk2 hpe
      have HC := Hid.mk2 hcs
      clear hpe hcs hne
      go_wp2
      go_loopw [4] (fun i wr => ∃ j n : Nat, j ≤ k ∧ i = .int .i64 j ∧ wr = w.drewN n ∧ Hid (p ∉ l.take j)) (fun i _ => k - (intOf i).toNat)
      case atStart => exact ⟨0, n, Nat.zero_le _, rfl, rfl, by show _ ∉ _; simp⟩
      case round =>
        obtain ⟨j, n, hj, rfl, rfl, HN⟩ := hrel
        by_cases hjk : j < k
        · have hjl : j < l.length := by omega
          have hj2 : (j : Int) < (l.length : Int) := by omega
          have hj3 : (j : Int) < (k : Int) := by omega
          have r1 := HC.out j hjl
          obtain ⟨q, hqe⟩ : ∃ q, q = l[j] := ⟨_, rfl⟩
          rw [← hqe] at r1
          by_cases hpq : p = q
          · have e1 : B = true := by
              rw [HB.out]
              have : ¬ l.Nodup := by
                intro hn
                refine takes_of_nodup hn k hlt ?_
                rw [← HP.out, hpq, hqe, List.mem_take_iff_getElem]
                exact ⟨j, by omega, rfl⟩
              simp [this]
            have hs := ba_eq hpq
            subst e1
            clear HB HA HN HP HC hqe hpq
            go_wp2
            go_quiet (fail)
            go_wp2
            go_ret
            exact ⟨rfl, _, World.drewN_drewN _ _ _⟩
          · have hs := ba_ne hpq
            have HN2 : Hid (p ∉ l.take (j + 1)) := by
              show p ∉ _
              rw [List.take_add_one, List.getElem?_eq_getElem hjl]
              simp only [Option.toList_some, List.mem_append, List.mem_singleton, not_or]
              exact ⟨HN.out, by rw [← hqe]; exact hpq⟩
            clear HN hqe hpq
            go_wp2
            go_quiet (fail)
            go_wp2
            go_roundw
            case rel => exact ⟨j + 1, _, by omega, by go_num, rfl, HN2⟩
            case measure => simp [intOf]; omega
        · have ej : j = k := by omega
          subst ej
          have HA2 : Hid (∀ i (hi : i < l.length), i < j + 1 → l[i] ∉ l.take i) := by
            intro i hi hik
            by_cases e : i = j
            · subst e
              have := HN.out
              rw [HP.out] at this
              exact this
            · exact HA.out i hi (by omega)
          clear HN HA HC HP
          go_wp2
          go_roundw
          case rel => exact ⟨j + 1, n, by omega, by go_num, rfl, HA2⟩
          case measure => simp [intOf]; omega
    · have ek : k = l.length := by omega
      have e1 : B = false := by
        rw [HB.out]
        have : l.Nodup := nodup_of_takes fun j hj => HA.out j hj (by omega)
        simp [this]
      subst e1
      clear HB HA
      go_wp2
      go_ret
      exact ⟨rfl, n, rfl⟩
end Go.Proofs.Ytjmcgpdimhgegaa
/-
  (shaken)
-/
namespace Go.Proofs.Ytjmcgpdimhgegaa
open Go.RowKit
set_option linter.unusedSimpArgs false
set_option linter.unusedVariables false
set_option maxRecDepth 100000

theorem beq_f {a b : Int} (h : ¬ a = b) : (a == b) = false := by simpa using h
theorem bne_t {a b : Int} (h : ¬ a = b) : (a != b) = true := by simpa using h
theorem bne_f {a b : Int} (h : a = b) : (a != b) = false := by simpa using h

set_option maxHeartbeats 2000000 in
theorem rkeys_any (c : Cm) (ko : Option Addr) (kc : Nat) (w : World) (h : GRd ES w ko c.keys kc) :
    Calls Try.prog 34 #[.agg (c.arr (.slice ko c.keys.length kc))] w fun e w' => e = .returned (.bool c.kOk) ∧ Below w.heap.size w w' := by
  have HR := Hid.mk2 h
  have hlen := h.len
  clear h
  obtain ⟨kind, tenant, keys, value, flags, life, unique, by_⟩ := c
  unfold Cm.kOk Cm.arr
  dsimp only at *
  by_cases h11 : kind = 11
  · subst h11
    rw [if_pos rfl]
    clear HR
    by_cases hz : keys.length = 0
    · rw [decide_eq_true hz]
      have hz1 : ((keys.length : Int) == 0) = true := by simp [hz]
      have HZ := Hid.mk2 hz
      clear hz
      go_enter Try.func34, Try.ntmps34
      go_wp2
      go_ret
      refine ⟨?_, g_alloc _ _⟩
      simp [HZ.out]
    · rw [decide_eq_false hz]
      go_enter Try.func34, Try.ntmps34
      go_wp2
      go_ret
      refine ⟨?_, g_alloc _ _⟩
      simp [hz]
  rw [if_neg h11]
  have k11 := beq_f h11
  by_cases hn : 1 ≤ keys.length ∧ keys.length ≤ 8 ∧ (keys.length ≤ 1 ∨ kind = 1 ∨ kind = 10)
  case neg =>
    rw [decide_eq_false hn]
    have hcase : keys.length < 1 ∨ (¬ keys.length < 1 ∧ 8 < keys.length) ∨ (¬ keys.length < 1 ∧ ¬ 8 < keys.length ∧ 1 < keys.length ∧ ¬ kind = 1 ∧ ¬ kind = 10) := by omega
    clear hn h11 HR
    rcases hcase with hc | ⟨hc, hd⟩ | ⟨hc, hd, he, hf, hg⟩
    · have hc1 : (keys.length : Int) < 1 := by omega
      go_enter Try.func34, Try.ntmps34
      go_wp2
      go_ret
      exact ⟨rfl, g_alloc _ _⟩
    · have hc1 : ¬ ((keys.length : Int) < 1) := by omega
      have hd1 : (8 : Int) < (keys.length : Int) := by omega
      go_enter Try.func34, Try.ntmps34
      go_wp2
      go_ret
      exact ⟨rfl, g_alloc _ _⟩
    · have hc1 : ¬ ((keys.length : Int) < 1) := by omega
      have hd1 : ¬ ((8 : Int) < (keys.length : Int)) := by omega
      have he1 : (1 : Int) < (keys.length : Int) := by omega
      have hf1 := bne_t hf
      have hg1 := bne_t hg
      clear hf hg
      go_enter Try.func34, Try.ntmps34
      go_wp2
      go_ret
      exact ⟨rfl, g_alloc _ _⟩
  rw [decide_eq_true hn]
  obtain ⟨hn1, hn8, hcase⟩ := hn
  have hc1 : ¬ ((keys.length : Int) < 1) := by omega
  have hd1 : ¬ ((8 : Int) < (keys.length : Int)) := by omega
  have hne : keys ≠ [] := by intro e; rw [e] at hn1; simp at hn1
  obtain ⟨b, off, rfl, hbl, hcs⟩ := HR.out.str hne
  have HC := Hid.mk2 hcs
  obtain ⟨R, hRe⟩ : ∃ R, R = (true && keys.all keyOk && decide keys.Nodup) := ⟨_, rfl⟩
  rw [← hRe]
  have HRE := Hid.mk2 hRe
  have HTW := Hid.mk2 (fun W (hW : Below w.heap.size w W) => twice_any keys (some ⟨b, off, none⟩) kc W (HR.out.below hW))
  clear hRe hcs hne h11 HR
  have hgo : (¬ ((1 : Int) < (keys.length : Int))) ∨ (((1 : Int) < (keys.length : Int)) ∧ (kind != 1) = false) ∨ (((1 : Int) < (keys.length : Int)) ∧ (kind != 1) = true ∧ (kind != 10) = false) := by
    by_cases ha : 1 < keys.length
    · by_cases hb : kind = 1
      · exact .inr (.inl ⟨by omega, bne_f hb⟩)
      · exact .inr (.inr ⟨by omega, bne_t hb, bne_f (by omega)⟩)
    · exact .inl (by omega)
  clear hcase
  rcases hgo with hg | ⟨hg, hg2⟩ | ⟨hg, hg2, hg3⟩
  · go_enter Try.func34, Try.ntmps34
    go_wp2
    go_loopw [4] (fun i wr => ∃ k : Nat, k ≤ keys.length ∧ i = .int .i64 k ∧ wr = w.alloc (.cells #[.int .u8 kind, .int .i64 tenant, .slice (some ⟨b, off, none⟩) keys.length kc, .string value, .int .u32 flags, .int .i64 life, .int .u64 unique, .int .u64 by_] 26) ∧ Hid (∀ j (hj : j < keys.length), j < k → keyOk keys[j] = true)) (fun i _ => keys.length - (intOf i).toNat)
    case atStart => exact ⟨0, Nat.zero_le _, rfl, rfl, fun _ _ h => absurd h (by omega)⟩
    case round =>
      obtain ⟨k, hk, rfl, rfl, HA⟩ := hrel
      by_cases hlt : k < keys.length
      · have hlt2 : (k : Int) < (keys.length : Int) := by omega
        have r0 : (w.alloc (.cells #[.int .u8 kind, .int .i64 tenant, .slice (some ⟨b, off, none⟩) keys.length kc, .string value, .int .u32 flags, .int .i64 life, .int .u64 unique, .int .u64 by_] 26)).cell? ⟨b, off + k, none⟩ = _ := ((g_alloc w _).cell (p := ⟨b, off + k, none⟩) hbl).trans (HC.out k hlt)
        obtain ⟨p, hpe⟩ : ∃ p, p = keys[k] := ⟨_, rfl⟩
        rw [← hpe] at r0
        cases hko : keyOk p
        · have e1 : R = false := by
            rw [HRE.out]
            have : keys.all keyOk = false := by
              rw [List.all_eq_false]
              exact ⟨keys[k], List.getElem_mem hlt, by rw [← hpe, hko]; simp⟩
            rw [this]
            rfl
          subst e1
          have hp : p.size < 1 ∨ (¬ p.size < 1 ∧ 32 < p.size) := by
            simp only [keyOk, decide_eq_false_iff_not] at hko
            omega
          clear HRE HTW HA HC hpe hko
          rcases hp with hp | ⟨hp, hq⟩
          · have hp1 : (p.size : Int) < 1 := by omega
            go_wp2
            go_ret
            exact ⟨rfl, g_alloc _ _⟩
          · have hp1 : ¬ ((p.size : Int) < 1) := by omega
            have hq1 : (32 : Int) < (p.size : Int) := by omega
            go_wp2
            go_ret
            exact ⟨rfl, g_alloc _ _⟩
        · have hp : 1 ≤ p.size ∧ p.size ≤ 32 := by simpa [keyOk] using hko
          have hp1 : ¬ ((p.size : Int) < 1) := by omega
          have hq1 : ¬ ((32 : Int) < (p.size : Int)) := by omega
          have HA2 : Hid (∀ j (hj : j < keys.length), j < k + 1 → keyOk keys[j] = true) := by
            intro j hj hjk
            by_cases e : j = k
            · subst e; rw [← hpe]; exact hko
            · exact HA.out j hj (by omega)
          clear HA hpe hko hp
          go_wp2
          go_roundw
          case rel => exact ⟨k + 1, by omega, by go_num, by first | rfl | trivial, HA2⟩
          case measure => simp [intOf]; omega
      · have hall : keys.all keyOk = true := by
          rw [List.all_eq_true]
          intro x hx
          obtain ⟨j, hj, rfl⟩ := List.getElem_of_mem hx
          exact HA.out j hj (by omega)
        have e1 : R = decide keys.Nodup := by rw [HRE.out, hall]; simp
        subst e1
        clear HRE HA HC hall
        go_wp2_with (go_at_call 43; refine (HTW.out _ (g_alloc _ _)).mono ?_; rintro e w1 ⟨rfl, n, rfl⟩)
        go_ret
        exact ⟨by simp, g_quiet_on n (g_alloc _ _)⟩
  · go_enter Try.func34, Try.ntmps34
    go_wp2
    go_loopw [4] (fun i wr => ∃ k : Nat, k ≤ keys.length ∧ i = .int .i64 k ∧ wr = w.alloc (.cells #[.int .u8 kind, .int .i64 tenant, .slice (some ⟨b, off, none⟩) keys.length kc, .string value, .int .u32 flags, .int .i64 life, .int .u64 unique, .int .u64 by_] 26) ∧ Hid (∀ j (hj : j < keys.length), j < k → keyOk keys[j] = true)) (fun i _ => keys.length - (intOf i).toNat)
    case atStart => exact ⟨0, Nat.zero_le _, rfl, rfl, fun _ _ h => absurd h (by omega)⟩
    case round =>
      obtain ⟨k, hk, rfl, rfl, HA⟩ := hrel
      by_cases hlt : k < keys.length
      · have hlt2 : (k : Int) < (keys.length : Int) := by omega
        have r0 : (w.alloc (.cells #[.int .u8 kind, .int .i64 tenant, .slice (some ⟨b, off, none⟩) keys.length kc, .string value, .int .u32 flags, .int .i64 life, .int .u64 unique, .int .u64 by_] 26)).cell? ⟨b, off + k, none⟩ = _ := ((g_alloc w _).cell (p := ⟨b, off + k, none⟩) hbl).trans (HC.out k hlt)
        obtain ⟨p, hpe⟩ : ∃ p, p = keys[k] := ⟨_, rfl⟩
        rw [← hpe] at r0
        cases hko : keyOk p
        · have e1 : R = false := by
            rw [HRE.out]
            have : keys.all keyOk = false := by
              rw [List.all_eq_false]
              exact ⟨keys[k], List.getElem_mem hlt, by rw [← hpe, hko]; simp⟩
            rw [this]
            rfl
          subst e1
          have hp : p.size < 1 ∨ (¬ p.size < 1 ∧ 32 < p.size) := by
            simp only [keyOk, decide_eq_false_iff_not] at hko
            omega
          clear HRE HTW HA HC hpe hko
          rcases hp with hp | ⟨hp, hq⟩
          · have hp1 : (p.size : Int) < 1 := by omega
            go_wp2
            go_ret
            exact ⟨rfl, g_alloc _ _⟩
          · have hp1 : ¬ ((p.size : Int) < 1) := by omega
            have hq1 : (32 : Int) < (p.size : Int) := by omega
            go_wp2
            go_ret
            exact ⟨rfl, g_alloc _ _⟩
        · have hp : 1 ≤ p.size ∧ p.size ≤ 32 := by simpa [keyOk] using hko
          have hp1 : ¬ ((p.size : Int) < 1) := by omega
          have hq1 : ¬ ((32 : Int) < (p.size : Int)) := by omega
          have HA2 : Hid (∀ j (hj : j < keys.length), j < k + 1 → keyOk keys[j] = true) := by
            intro j hj hjk
            by_cases e : j = k
            · subst e; rw [← hpe]; exact hko
            · exact HA.out j hj (by omega)
          clear HA hpe hko hp
          go_wp2
          go_roundw
          case rel => exact ⟨k + 1, by omega, by go_num, by first | rfl | trivial, HA2⟩
          case measure => simp [intOf]; omega
      · have hall : keys.all keyOk = true := by
          rw [List.all_eq_true]
          intro x hx
          obtain ⟨j, hj, rfl⟩ := List.getElem_of_mem hx
          exact HA.out j hj (by omega)
        have e1 : R = decide keys.Nodup := by rw [HRE.out, hall]; simp
        subst e1
        clear HRE HA HC hall
        go_wp2_with (go_at_call 43; refine (HTW.out _ (g_alloc _ _)).mono ?_; rintro e w1 ⟨rfl, n, rfl⟩)
        go_ret
        exact ⟨by simp, g_quiet_on n (g_alloc _ _)⟩
  · go_enter Try.func34, Try.ntmps34
    go_wp2
    go_loopw [4] (fun i wr => ∃ k : Nat, k ≤ keys.length ∧ i = .int .i64 k ∧ wr = w.alloc (.cells #[.int .u8 kind, .int .i64 tenant, .slice (some ⟨b, off, none⟩) keys.length kc, .string value, .int .u32 flags, .int .i64 life, .int .u64 unique, .int .u64 by_] 26) ∧ Hid (∀ j (hj : j < keys.length), j < k → keyOk keys[j] = true)) (fun i _ => keys.length - (intOf i).toNat)
    case atStart => exact ⟨0, Nat.zero_le _, rfl, rfl, fun _ _ h => absurd h (by omega)⟩
    case round =>
      obtain ⟨k, hk, rfl, rfl, HA⟩ := hrel
      by_cases hlt : k < keys.length
      · have hlt2 : (k : Int) < (keys.length : Int) := by omega
        have r0 : (w.alloc (.cells #[.int .u8 kind, .int .i64 tenant, .slice (some ⟨b, off, none⟩) keys.length kc, .string value, .int .u32 flags, .int .i64 life, .int .u64 unique, .int .u64 by_] 26)).cell? ⟨b, off + k, none⟩ = _ := ((g_alloc w _).cell (p := ⟨b, off + k, none⟩) hbl).trans (HC.out k hlt)
        obtain ⟨p, hpe⟩ : ∃ p, p = keys[k] := ⟨_, rfl⟩
        rw [← hpe] at r0
        cases hko : keyOk p
        · have e1 : R = false := by
            rw [HRE.out]
            have : keys.all keyOk = false := by
              rw [List.all_eq_false]
              exact ⟨keys[k], List.getElem_mem hlt, by rw [← hpe, hko]; simp⟩
            rw [this]
            rfl
          subst e1
          have hp : p.size < 1 ∨ (¬ p.size < 1 ∧ 32 < p.size) := by
            simp only [keyOk, decide_eq_false_iff_not] at hko
            omega
          clear HRE HTW HA HC hpe hko
          rcases hp with hp | ⟨hp, hq⟩
          · have hp1 : (p.size : Int) < 1 := by omega
            go_wp2
            go_ret
            exact ⟨rfl, g_alloc _ _⟩
          · have hp1 : ¬ ((p.size : Int) < 1) := by omega
            have hq1 : (32 : Int) < (p.size : Int) := by omega
            go_wp2
            go_ret
            exact ⟨rfl, g_alloc _ _⟩
        · have hp : 1 ≤ p.size ∧ p.size ≤ 32 := by simpa [keyOk] using hko
          have hp1 : ¬ ((p.size : Int) < 1) := by omega
          have hq1 : ¬ ((32 : Int) < (p.size : Int)) := by omega
          have HA2 : Hid (∀ j (hj : j < keys.length), j < k + 1 → keyOk keys[j] = true) := by
            intro j hj hjk
            by_cases e : j = k
            · subst e; rw [← hpe]; exact hko
            · exact HA.out j hj (by omega)
          clear HA hpe hko hp
          go_wp2
          go_roundw
          case rel => exact ⟨k + 1, by omega, by go_num, by first | rfl | trivial, HA2⟩
          case measure => simp [intOf]; omega
      · have hall : keys.all keyOk = true := by
          rw [List.all_eq_true]
          intro x hx
          obtain ⟨j, hj, rfl⟩ := List.getElem_of_mem hx
          exact HA.out j hj (by omega)
        have e1 : R = decide keys.Nodup := by rw [HRE.out, hall]; simp
        subst e1
        clear HRE HA HC hall
        go_wp2_with (go_at_call 43; refine (HTW.out _ (g_alloc _ _)).mono ?_; rintro e w1 ⟨rfl, n, rfl⟩)
        go_ret
        exact ⟨by simp, g_quiet_on n (g_alloc _ _)⟩
end Go.Proofs.Ytjmcgpdimhgegaa
/-
  (shaken)
-/
namespace Go.Proofs.Ytjmcgpdimhgegaa
open Go.RowKit
set_option linter.unusedSimpArgs false
set_option linter.unusedVariables false
set_option maxRecDepth 100000

/-- the first test: its kind, its tenant, its keys -/
def Cm.aOk (c : Cm) : Bool := decide (1 ≤ c.kind ∧ c.kind ≤ 11) && tenOk c.tenant && c.kOk
theorem ba_empty {s : ByteArray} (h : s.size = 0) : s.toList.isEmpty = true := by
  rw [ByteArray.toList_eq]
  have : s.data.toList.length = 0 := by rw [Array.length_toList]; exact h
  cases e : s.data.toList with
  | nil => rfl
  | cons a l => rw [e] at this; simp at this
theorem ba_full {s : ByteArray} (h : ¬ s.size = 0) : s.toList.isEmpty = false := by
  rw [ByteArray.toList_eq]
  have : ¬ s.data.toList.length = 0 := by rw [Array.length_toList]; exact h
  cases e : s.data.toList with
  | nil => rw [e] at this; simp at this
  | cons a l => rfl

set_option maxHeartbeats 4000000 in
theorem rmay_any (c : Cm) (ko : Option Addr) (kc : Nat) (w : World) (h : GRd ES w ko c.keys kc) :
    Calls Try.prog 25 #[.agg (c.arr (.slice ko c.keys.length kc))] w fun e w' => e = .returned (.bool c.may) ∧ Below w.heap.size w w' := by
  have HK := Hid.mk2 (fun W (hW : Below w.heap.size w W) => rkeys_any c ko kc W (h.below hW))
  have HM := Hid.mk2 (Cm.At.made c (.slice ko c.keys.length kc) w)
  obtain ⟨A, hA⟩ : ∃ A, A = c.aOk := ⟨_, rfl⟩
  obtain ⟨P, hP⟩ : ∃ P, P = c.puts := ⟨_, rfl⟩
  obtain ⟨V, hV⟩ : ∃ V, V = c.vOk := ⟨_, rfl⟩
  obtain ⟨L, hL⟩ : ∃ L, L = c.lOk := ⟨_, rfl⟩
  obtain ⟨F, hF⟩ : ∃ F, F = c.fOk := ⟨_, rfl⟩
  obtain ⟨Y, hY⟩ : ∃ Y, Y = c.bOk := ⟨_, rfl⟩
  have hmay : c.may = (A && V && L && F && Y) := by rw [hA, hV, hL, hF, hY]; rfl
  rw [hmay]
  obtain ⟨K, hK⟩ : ∃ K, K = c.kOk := ⟨_, rfl⟩
  rw [← hK] at HK
  unfold Cm.aOk at hA
  unfold Cm.puts at hP
  unfold Cm.vOk at hV
  unfold Cm.lOk at hL
  unfold Cm.fOk at hF
  unfold Cm.bOk at hY
  rw [← hK] at hA
  unfold Cm.puts at hV hL hF
  rw [← hP] at hV hL hF
  have HA := Hid.mk2 hA
  have HP := Hid.mk2 hP
  have HV := Hid.mk2 hV
  have HL := Hid.mk2 hL
  have HF := Hid.mk2 hF
  have HY := Hid.mk2 hY
  clear hA hP hV hL hF hY hK hmay h
  obtain ⟨kind, tenant, keys, value, flags, life, unique, by_⟩ := c
  unfold Cm.arr at *
  dsimp only at *
  obtain ⟨W, hW⟩ : ∃ W, W = w.alloc (.cells #[.int .u8 kind, .int .i64 tenant, .slice ko keys.length kc, .string value, .int .u32 flags, .int .i64 life, .int .u64 unique, .int .u64 by_] 26) := ⟨_, rfl⟩
  have HB : Hid (Below w.heap.size w W) := by rw [hW]; exact g_alloc _ _
  rw [← hW] at HM
  obtain ⟨hlt, c0, c1, c2, c3, c4, c5, c6, c7⟩ := HM.out
  dsimp only at c0 c1 c2 c3 c4 c5 c6 c7
  go_enter Try.func25, Try.ntmps25
  go_upto_region 1 with (fail)
  rw [← hW]
  clear hW
  go_cut [26] from 4 (fun s26 wx => s26 = .bool (!A) ∧ Below W.heap.size W wx)
  case first =>
    by_cases a1 : kind < 1
    · have e : A = false := by rw [HA.out]; simp; omega
      subst e
      go_wp2
      go_meet
      case rel => exact ⟨rfl, Below.refl _ _⟩
    by_cases a2 : 11 < kind
    · have e : A = false := by rw [HA.out]; simp; omega
      subst e
      go_wp2
      go_meet
      case rel => exact ⟨rfl, Below.refl _ _⟩
    by_cases a3 : tenant < 0
    · have e : A = false := by rw [HA.out]; simp [tenOk]; omega
      subst e
      go_wp2
      go_meet
      case rel => exact ⟨rfl, Below.refl _ _⟩
    by_cases a4 : 4 ≤ tenant
    · have e : A = false := by rw [HA.out]; simp [tenOk]; omega
      subst e
      go_wp2
      go_meet
      case rel => exact ⟨rfl, Below.refl _ _⟩
    have e : A = K := by
      rw [HA.out]
      have h1 : decide (1 ≤ kind ∧ kind ≤ 11) = true := by simp; omega
      have h2 : tenOk tenant = true := by simp [tenOk]; omega
      rw [h1, h2]
      rfl
    subst e
    go_wp2_with (go_at_call 34; refine (HK.out _ HB.out).mono ?_; rintro e w1 ⟨rfl, hb1⟩)
    go_meet
    case rel => exact ⟨rfl, hb1⟩
  case rest =>
  obtain ⟨rfl, hbc⟩ := hcut
  obtain ⟨wa, hwa⟩ : ∃ wa, wa = wc := ⟨_, rfl⟩
  rw [← hwa] at hbc ⊢
  clear hwa
  have HB1 : Hid (Below w.heap.size w wa) := g_on HB.out hbc
  have hAt := HM.out.below hbc
  clear c0 c1 c2 c3 c4 c5 c6 c7 hlt HM HB HK hbc
  have HM := Hid.mk2 hAt
  obtain ⟨hlt, c0, c1, c2, c3, c4, c5, c6, c7⟩ := hAt
  dsimp only at c0 c1 c2 c3 c4 c5 c6 c7
  cases A
  · go_wp2
    go_ret
    exact ⟨by simp, HB1.out⟩
  clear HA
  go_upto_region 3 with (fail)
  go_cut [3] from 4 (fun s3 wx => s3 = .bool P ∧ wx = wa)
  case first =>
    by_cases a1 : 2 ≤ kind
    · by_cases a2 : kind ≤ 5
      · have e : P = true := by rw [HP.out]; simp [a1, a2]
        subst e
        go_wp2
        go_meet
        case rel => exact ⟨rfl, rfl⟩
      · have e : P = false := by rw [HP.out]; simp [a2]
        subst e
        go_wp2
        go_meet
        case rel => exact ⟨rfl, rfl⟩
    · have e : P = false := by rw [HP.out]; simp [a1]
      subst e
      go_wp2
      go_meet
      case rel => exact ⟨rfl, rfl⟩
  case rest =>
  obtain ⟨rfl, hw⟩ := hcut
  have hw := hw.symm
  subst hw
  clear HP
  go_upto_region 4 with (fail)
  go_cut [52] from 4 (fun s52 wx => s52 = .bool (!V) ∧ wx = wa)
  case first =>
    by_cases a1 : 512 < value.size
    · have e : V = false := by rw [HV.out]; simp [show ¬ value.size ≤ 512 by omega]
      have a1' : (512 : Int) < (value.size : Int) := by omega
      subst e
      go_wp2
      go_meet
      case rel => exact ⟨rfl, rfl⟩
    have a1' : ¬ ((512 : Int) < (value.size : Int)) := by omega
    have hle : decide (value.size ≤ 512) = true := by simp; omega
    by_cases a2 : value.size = 0
    · have e : V = true := by rw [HV.out, hle]; simp [a2]
      have a2' := ba_empty a2
      subst e
      clear a2 hle
      go_wp2
      go_meet
      case rel => exact ⟨rfl, rfl⟩
    have a2' := ba_full a2
    cases P
    · by_cases a3 : kind = 8
      · have e : V = true := by rw [HV.out, hle]; simp [a3]
        have a3' := bne_f a3
        subst e
        clear a2 hle a3
        go_wp2
        go_meet
        case rel => exact ⟨rfl, rfl⟩
      · have e : V = false := by rw [HV.out, hle]; simp [a2, a3]
        have a3' := bne_t a3
        subst e
        clear a2 hle a3
        go_wp2
        go_meet
        case rel => exact ⟨rfl, rfl⟩
    · have e : V = true := by rw [HV.out, hle]; simp
      subst e
      clear a2 hle
      go_wp2
      go_meet
      case rel => exact ⟨rfl, rfl⟩
  case rest =>
  obtain ⟨rfl, hw⟩ := hcut
  have hw := hw.symm
  subst hw
  cases V
  · go_wp2
    go_ret
    exact ⟨by simp, HB1.out⟩
  clear HV
  go_upto_region 6 with (fail)
  go_cut [74] from 4 (fun s74 wx => s74 = .bool (!L) ∧ wx = wa)
  case first =>
    by_cases a1 : life < 0
    · have e : L = false := by rw [HL.out]; simp; omega
      subst e
      go_wp2
      go_meet
      case rel => exact ⟨rfl, rfl⟩
    by_cases a2 : 1099511627776 < life
    · have e : L = false := by rw [HL.out]; simp; omega
      subst e
      go_wp2
      go_meet
      case rel => exact ⟨rfl, rfl⟩
    have hle : decide (0 ≤ life ∧ life ≤ 1099511627776) = true := by simp; omega
    by_cases a3 : life = 0
    · have e : L = true := by rw [HL.out, hle]; simp [a3]
      subst e
      subst a3
      clear hle
      go_wp2
      go_meet
      case rel => exact ⟨rfl, rfl⟩
    have a3' := bne_t a3
    cases P
    · by_cases a4 : kind = 9
      · have e : L = true := by rw [HL.out, hle]; simp [a4]
        have a4' := bne_f a4
        subst e
        clear hle a3 a4
        go_wp2
        go_meet
        case rel => exact ⟨rfl, rfl⟩
      · have e : L = false := by rw [HL.out, hle]; simp [a3, a4]
        have a4' := bne_t a4
        subst e
        clear hle a3 a4
        go_wp2
        go_meet
        case rel => exact ⟨rfl, rfl⟩
    · have e : L = true := by rw [HL.out, hle]; simp
      subst e
      clear hle a3
      go_wp2
      go_meet
      case rel => exact ⟨rfl, rfl⟩
  case rest =>
  obtain ⟨rfl, hw⟩ := hcut
  have hw := hw.symm
  subst hw
  cases L
  · go_wp2
    go_ret
    exact ⟨by simp, HB1.out⟩
  clear HL
  go_upto_region 8 with (fail)
  go_cut [91] from 4 (fun s91 wx => s91 = .bool (!F) ∧ wx = wa)
  case first =>
    have hfl : (flags = 0 ∨ P = true) ∨ (¬ flags = 0 ∧ P = false) := by
      by_cases a : flags = 0
      · exact .inl (.inl a)
      · cases P
        · exact .inr ⟨a, rfl⟩
        · exact .inl (.inr rfl)
    rcases hfl with hfl | ⟨a1, rfl⟩
    case inr =>
      have e : F = false := by rw [HF.out]; simp [a1]
      have a1' := bne_t a1
      subst e
      clear a1
      go_wp2
      go_meet
      case rel => exact ⟨rfl, rfl⟩
    have hd : (decide (flags = 0) || P) = true := by rcases hfl with h | h <;> simp [h]
    by_cases a2 : unique = 0
    · have e : F = true := by rw [HF.out, hd]; simp [a2]
      subst e
      subst a2
      clear hd
      by_cases a1 : flags = 0
      · subst a1
        go_wp2
        go_meet
        case rel => exact ⟨rfl, rfl⟩
      · have a1' := bne_t a1
        have hp : P = true := by rcases hfl with h | h; exact absurd h a1; exact h
        subst hp
        clear a1 hfl
        go_wp2
        go_meet
        case rel => exact ⟨rfl, rfl⟩
    have a2' := bne_t a2
    by_cases a3 : kind = 5
    · have e : F = true := by rw [HF.out, hd]; simp [a3]
      have a3' := bne_f a3
      subst e
      clear hd a2 a3
      by_cases a1 : flags = 0
      · subst a1
        go_wp2
        go_meet
        case rel => exact ⟨rfl, rfl⟩
      · have a1' := bne_t a1
        have hp : P = true := by rcases hfl with h | h; exact absurd h a1; exact h
        subst hp
        clear a1 hfl
        go_wp2
        go_meet
        case rel => exact ⟨rfl, rfl⟩
    · have e : F = false := by rw [HF.out, hd]; simp [a2, a3]
      have a3' := bne_t a3
      subst e
      clear hd a2 a3
      by_cases a1 : flags = 0
      · subst a1
        go_wp2
        go_meet
        case rel => exact ⟨rfl, rfl⟩
      · have a1' := bne_t a1
        have hp : P = true := by rcases hfl with h | h; exact absurd h a1; exact h
        subst hp
        clear a1 hfl
        go_wp2
        go_meet
        case rel => exact ⟨rfl, rfl⟩
  case rest =>
  obtain ⟨rfl, hw⟩ := hcut
  have hw := hw.symm
  subst hw
  cases F
  · go_wp2
    go_ret
    exact ⟨by simp, HB1.out⟩
  clear HF
  by_cases a1 : by_ = 0
  · have e : Y = true := by rw [HY.out]; simp [a1]
    subst e
    subst a1
    go_wp2
    go_ret
    exact ⟨by simp, HB1.out⟩
  have a1' := beq_f a1
  by_cases a2 : kind = 6
  · have e : Y = true := by rw [HY.out]; simp [a2]
    subst e
    subst a2
    clear a1
    go_wp2
    go_ret
    exact ⟨by simp, HB1.out⟩
  have a2' := beq_f a2
  by_cases a3 : kind = 7
  · have e : Y = true := by rw [HY.out]; simp [a3]
    subst e
    subst a3
    clear a1 a2
    go_wp2
    go_ret
    exact ⟨by simp, HB1.out⟩
  · have e : Y = false := by rw [HY.out]; simp [a1, a2, a3]
    have a3' := beq_f a3
    subst e
    clear a1 a2 a3
    go_wp2
    go_ret
    exact ⟨by simp, HB1.out⟩
end Go.Proofs.Ytjmcgpdimhgegaa
/-
  (shaken)
-/
namespace Go.Proofs.Ytjmcgpdimhgegaa
open Go.RowKit
set_option linter.unusedSimpArgs false
set_option linter.unusedVariables false
set_option maxRecDepth 100000

def manyN (n : Nat) : Nat := if n = 0 then 1 else if n = 1 then 2 else 4
def mayN (kind : Int) : Nat :=
  if kind = 1 ∨ kind = 10 then 6 else if kind = 2 ∨ kind = 3 ∨ kind = 4 then 58 else if kind = 5 then 122 else if kind = 6 ∨ kind = 7 then 130 else if kind = 8 then 10 else if kind = 9 then 34 else if kind = 11 then 1 else 0
def orIf (b : Bool) (x m : Nat) : Nat := if b = true then x ||| m else x
theorem orIf_t (x m : Nat) : orIf true x m = x ||| m := rfl
theorem orIf_lt {b : Bool} {x m : Nat} (hx : x < 256) (hm : m < 256) : orIf b x m < 256 := by
  unfold orIf
  split
  · exact Nat.or_lt_two_pow (n := 8) hx hm
  · exact hx
def Cm.hasN (c : Cm) : Nat := orIf (!decide (c.by_ = 0)) (orIf (!decide (c.unique = 0)) (orIf (!decide (c.life = 0)) (orIf (!decide (c.flags = 0)) (orIf (!decide (c.value.size = 0)) (manyN c.keys.length) 8) 16) 32) 64) 128

theorem bor_all : ∀ x : Fin 256, bits BinOp.or IntKind.u64 ((x.val : Nat) : Int) 8 = ((x.val ||| 8 : Nat) : Int) ∧ bits BinOp.or IntKind.u64 ((x.val : Nat) : Int) 16 = ((x.val ||| 16 : Nat) : Int) ∧ bits BinOp.or IntKind.u64 ((x.val : Nat) : Int) 32 = ((x.val ||| 32 : Nat) : Int) ∧ bits BinOp.or IntKind.u64 ((x.val : Nat) : Int) 64 = ((x.val ||| 64 : Nat) : Int) ∧ bits BinOp.or IntKind.u64 ((x.val : Nat) : Int) 128 = ((x.val ||| 128 : Nat) : Int) := by decide +kernel
theorem bor8 {x : Nat} (h : x < 256) : bits BinOp.or IntKind.u64 (x : Int) 8 = ((x ||| 8 : Nat) : Int) := (bor_all ⟨x, h⟩).1
theorem bor16 {x : Nat} (h : x < 256) : bits BinOp.or IntKind.u64 (x : Int) 16 = ((x ||| 16 : Nat) : Int) := (bor_all ⟨x, h⟩).2.1
theorem bor32 {x : Nat} (h : x < 256) : bits BinOp.or IntKind.u64 (x : Int) 32 = ((x ||| 32 : Nat) : Int) := (bor_all ⟨x, h⟩).2.2.1
theorem bor64 {x : Nat} (h : x < 256) : bits BinOp.or IntKind.u64 (x : Int) 64 = ((x ||| 64 : Nat) : Int) := (bor_all ⟨x, h⟩).2.2.2.1
theorem bor128 {x : Nat} (h : x < 256) : bits BinOp.or IntKind.u64 (x : Int) 128 = ((x ||| 128 : Nat) : Int) := (bor_all ⟨x, h⟩).2.2.2.2
theorem manyKeys_any (n : Nat) (w : World) : Calls Try.prog 44 #[.int .i64 n] w fun e w' => e = .returned (.int .u64 (manyN n : Nat)) ∧ w' = w := by
  by_cases h0 : n = 0
  · subst h0
    go_enter Try.func44, Try.ntmps44
    go_wp2
    go_ret
    exact ⟨rfl, rfl⟩
  by_cases h1 : n = 1
  · subst h1
    go_enter Try.func44, Try.ntmps44
    go_wp2
    go_ret
    exact ⟨rfl, rfl⟩
  have e : manyN n = 4 := by unfold manyN; rw [if_neg h0, if_neg h1]
  rw [e]
  have a0 : ((n : Int) == 0) = false := beq_eq_false_iff_ne.2 (by omega)
  have a1 : ((n : Int) == 1) = false := beq_eq_false_iff_ne.2 (by omega)
  clear e
  go_enter Try.func44, Try.ntmps44
  go_wp2
  go_ret
  exact ⟨rfl, rfl⟩
theorem mayHave_any (kind : Int) (w : World) : Calls Try.prog 38 #[.int .u8 kind] w fun e w' => e = .returned (.int .u64 (mayN kind : Nat)) ∧ w' = w := by
  by_cases h1 : kind = 1
  · subst h1
    go_enter Try.func38, Try.ntmps38
    go_wp2
    go_ret
    exact ⟨rfl, rfl⟩
  by_cases h2 : kind = 2
  · subst h2
    go_enter Try.func38, Try.ntmps38
    go_wp2
    go_ret
    exact ⟨rfl, rfl⟩
  by_cases h3 : kind = 3
  · subst h3
    go_enter Try.func38, Try.ntmps38
    go_wp2
    go_ret
    exact ⟨rfl, rfl⟩
  by_cases h4 : kind = 4
  · subst h4
    go_enter Try.func38, Try.ntmps38
    go_wp2
    go_ret
    exact ⟨rfl, rfl⟩
  by_cases h5 : kind = 5
  · subst h5
    go_enter Try.func38, Try.ntmps38
    go_wp2
    go_ret
    exact ⟨rfl, rfl⟩
  by_cases h6 : kind = 6
  · subst h6
    go_enter Try.func38, Try.ntmps38
    go_wp2
    go_ret
    exact ⟨rfl, rfl⟩
  by_cases h7 : kind = 7
  · subst h7
    go_enter Try.func38, Try.ntmps38
    go_wp2
    go_ret
    exact ⟨rfl, rfl⟩
  by_cases h8 : kind = 8
  · subst h8
    go_enter Try.func38, Try.ntmps38
    go_wp2
    go_ret
    exact ⟨rfl, rfl⟩
  by_cases h9 : kind = 9
  · subst h9
    go_enter Try.func38, Try.ntmps38
    go_wp2
    go_ret
    exact ⟨rfl, rfl⟩
  by_cases h10 : kind = 10
  · subst h10
    go_enter Try.func38, Try.ntmps38
    go_wp2
    go_ret
    exact ⟨rfl, rfl⟩
  by_cases h11 : kind = 11
  · subst h11
    go_enter Try.func38, Try.ntmps38
    go_wp2
    go_ret
    exact ⟨rfl, rfl⟩
  have e : mayN kind = 0 := by unfold mayN; simp [h1, h2, h3, h4, h5, h6, h7, h8, h9, h10, h11]
  rw [e]
  have a1 : (kind == 1) = false := beq_eq_false_iff_ne.2 h1
  have a2 : (kind == 2) = false := beq_eq_false_iff_ne.2 h2
  have a3 : (kind == 3) = false := beq_eq_false_iff_ne.2 h3
  have a4 : (kind == 4) = false := beq_eq_false_iff_ne.2 h4
  have a5 : (kind == 5) = false := beq_eq_false_iff_ne.2 h5
  have a6 : (kind == 6) = false := beq_eq_false_iff_ne.2 h6
  have a7 : (kind == 7) = false := beq_eq_false_iff_ne.2 h7
  have a8 : (kind == 8) = false := beq_eq_false_iff_ne.2 h8
  have a9 : (kind == 9) = false := beq_eq_false_iff_ne.2 h9
  have a10 : (kind == 10) = false := beq_eq_false_iff_ne.2 h10
  have a11 : (kind == 11) = false := beq_eq_false_iff_ne.2 h11
  clear e h1 h2 h3 h4 h5 h6 h7 h8 h9 h10 h11
  go_enter Try.func38, Try.ntmps38
  go_wp2
  go_ret
  exact ⟨rfl, rfl⟩

set_option maxHeartbeats 1000000 in
theorem has_any (c : Cm) (ko : Option Addr) (kc : Nat) (w : World) :
    Calls Try.prog 37 #[.agg (c.arr (.slice ko c.keys.length kc))] w fun e w' => e = .returned (.int .u64 (c.hasN : Nat)) ∧ w' = w.alloc (.cells (c.arr (.slice ko c.keys.length kc)) 26) := by
  have HM := Hid.mk2 (Cm.At.made c (.slice ko c.keys.length kc) w)
  have HMK := Hid.mk2 (fun W => manyKeys_any c.keys.length W)
  obtain ⟨X0, hX0⟩ : ∃ X0, X0 = manyN c.keys.length := ⟨_, rfl⟩
  have hx0 : X0 < 256 := by rw [hX0]; unfold manyN; split <;> first | decide | (split <;> decide)
  obtain ⟨B0, hB0⟩ : ∃ B : Bool, B = !decide (c.value.size = 0) := ⟨_, rfl⟩
  obtain ⟨X1, hX1⟩ : ∃ X, X = orIf B0 X0 8 := ⟨_, rfl⟩
  have hx1 : X1 < 256 := by rw [hX1]; exact orIf_lt hx0 (by decide)
  obtain ⟨B1, hB1⟩ : ∃ B : Bool, B = !decide (c.flags = 0) := ⟨_, rfl⟩
  obtain ⟨X2, hX2⟩ : ∃ X, X = orIf B1 X1 16 := ⟨_, rfl⟩
  have hx2 : X2 < 256 := by rw [hX2]; exact orIf_lt hx1 (by decide)
  obtain ⟨B2, hB2⟩ : ∃ B : Bool, B = !decide (c.life = 0) := ⟨_, rfl⟩
  obtain ⟨X3, hX3⟩ : ∃ X, X = orIf B2 X2 32 := ⟨_, rfl⟩
  have hx3 : X3 < 256 := by rw [hX3]; exact orIf_lt hx2 (by decide)
  obtain ⟨B3, hB3⟩ : ∃ B : Bool, B = !decide (c.unique = 0) := ⟨_, rfl⟩
  obtain ⟨X4, hX4⟩ : ∃ X, X = orIf B3 X3 64 := ⟨_, rfl⟩
  have hx4 : X4 < 256 := by rw [hX4]; exact orIf_lt hx3 (by decide)
  obtain ⟨B4, hB4⟩ : ∃ B : Bool, B = !decide (c.by_ = 0) := ⟨_, rfl⟩
  obtain ⟨X5, hX5⟩ : ∃ X, X = orIf B4 X4 128 := ⟨_, rfl⟩
  have hx5 : X5 < 256 := by rw [hX5]; exact orIf_lt hx4 (by decide)
  have e : c.hasN = X5 := by rw [hX5, hX4, hX3, hX2, hX1, hX0, hB4, hB3, hB2, hB1, hB0]; rfl
  rw [e]
  rw [← hX0] at HMK
  have HX1 := Hid.mk2 hX1
  have HB0 := Hid.mk2 hB0
  have HX2 := Hid.mk2 hX2
  have HB1 := Hid.mk2 hB1
  have HX3 := Hid.mk2 hX3
  have HB2 := Hid.mk2 hB2
  have HX4 := Hid.mk2 hX4
  have HB3 := Hid.mk2 hB3
  have HX5 := Hid.mk2 hX5
  have HB4 := Hid.mk2 hB4
  clear e hX0 hX1 hX2 hX3 hX4 hX5 hB0 hB1 hB2 hB3 hB4
  obtain ⟨kind, tenant, keys, value, flags, life, unique, by_⟩ := c
  unfold Cm.arr at *
  dsimp only at *
  obtain ⟨W, hW⟩ : ∃ W, W = w.alloc (.cells #[.int .u8 kind, .int .i64 tenant, .slice ko keys.length kc, .string value, .int .u32 flags, .int .i64 life, .int .u64 unique, .int .u64 by_] 26) := ⟨_, rfl⟩
  rw [← hW] at HM ⊢
  obtain ⟨hlt, c0, c1, c2, c3, c4, c5, c6, c7⟩ := HM.out
  dsimp only at c0 c1 c2 c3 c4 c5 c6 c7
  have b0 : value.toList.isEmpty = !B0 := by
    rw [HB0.out, Bool.not_not]
    by_cases e : value.size = 0
    · rw [ba_empty e]; simp [e]
    · rw [ba_full e]; simp [e]
  have b1 : (flags != 0) = B1 := by rw [HB1.out]; by_cases e : flags = 0 <;> simp [e]
  have b2 : (life != 0) = B2 := by rw [HB2.out]; by_cases e : life = 0 <;> simp [e]
  have b3 : (unique != 0) = B3 := by rw [HB3.out]; by_cases e : unique = 0 <;> simp [e]
  have b4 : (by_ != 0) = B4 := by rw [HB4.out]; by_cases e : by_ = 0 <;> simp [e]
  clear HB0 HB1 HB2 HB3 HB4
  go_enter Try.func37, Try.ntmps37
  go_upto_region 1 with (fail)
  rw [← hW]
  clear hW
  go_upto_if 10 with (go_at_call 44; refine (HMK.out _).mono ?_; rintro e w1 ⟨rfl, hw1⟩; have hw1 := hw1.symm; subst hw1)
  go_cut [3] from 4 (fun s3 wx => s3 = .int .u64 (X1 : Nat) ∧ wx = W)
  case first =>
    cases B0
    · go_wp2
      go_meet
      case rel => exact ⟨by rw [HX1.out]; rfl, rfl⟩
    · go_wp2
      go_meet
      case rel => exact ⟨by rw [HX1.out, orIf_t, ← bor8 hx0], rfl⟩
  case rest =>
  obtain ⟨rfl, hwc⟩ := hcut
  have hwc := hwc.symm
  subst hwc
  go_upto_if 15 with (fail)
  go_cut [3] from 4 (fun s3 wx => s3 = .int .u64 (X2 : Nat) ∧ wx = W)
  case first =>
    cases B1
    · go_wp2
      go_meet
      case rel => exact ⟨by rw [HX2.out]; rfl, rfl⟩
    · go_wp2
      go_meet
      case rel => exact ⟨by rw [HX2.out, orIf_t, ← bor16 hx1], rfl⟩
  case rest =>
  obtain ⟨rfl, hwc⟩ := hcut
  have hwc := hwc.symm
  subst hwc
  go_upto_if 20 with (fail)
  go_cut [3] from 4 (fun s3 wx => s3 = .int .u64 (X3 : Nat) ∧ wx = W)
  case first =>
    cases B2
    · go_wp2
      go_meet
      case rel => exact ⟨by rw [HX3.out]; rfl, rfl⟩
    · go_wp2
      go_meet
      case rel => exact ⟨by rw [HX3.out, orIf_t, ← bor32 hx2], rfl⟩
  case rest =>
  obtain ⟨rfl, hwc⟩ := hcut
  have hwc := hwc.symm
  subst hwc
  go_upto_if 25 with (fail)
  go_cut [3] from 4 (fun s3 wx => s3 = .int .u64 (X4 : Nat) ∧ wx = W)
  case first =>
    cases B3
    · go_wp2
      go_meet
      case rel => exact ⟨by rw [HX4.out]; rfl, rfl⟩
    · go_wp2
      go_meet
      case rel => exact ⟨by rw [HX4.out, orIf_t, ← bor64 hx3], rfl⟩
  case rest =>
  obtain ⟨rfl, hwc⟩ := hcut
  have hwc := hwc.symm
  subst hwc
  go_upto_if 30 with (fail)
  go_cut [3] from 4 (fun s3 wx => s3 = .int .u64 (X5 : Nat) ∧ wx = W)
  case first =>
    cases B4
    · go_wp2
      go_meet
      case rel => exact ⟨by rw [HX5.out]; rfl, rfl⟩
    · go_wp2
      go_meet
      case rel => exact ⟨by rw [HX5.out, orIf_t, ← bor128 hx4], rfl⟩
  case rest =>
  obtain ⟨rfl, hwc⟩ := hcut
  have hwc := hwc.symm
  subst hwc
  go_wp2
  go_ret
  exact ⟨rfl, rfl⟩
end Go.Proofs.Ytjmcgpdimhgegaa
/-
  (shaken)
-/
namespace Go.Proofs.Ytjmcgpdimhgegaa
open Go.RowKit
set_option linter.unusedSimpArgs false
set_option linter.unusedVariables false

theorem refTenant_any (t : Int) (w : World) :
    Calls Try.prog 35 #[.int .i64 t] w fun e w' => e = .returned (.bool (tenOk t)) ∧ w = w' := by
  by_cases h0 : 0 ≤ t
  all_goals
    by_cases h1 : t < 4
    all_goals
      go_enter Try.func35, Try.ntmps35
      go_wp2
      go_ret
      exact ⟨by simp [tenOk, *], rfl⟩

theorem refKey_any (s : ByteArray) (w : World) :
    Calls Try.prog 36 #[.string s] w fun e w' => e = .returned (.bool (keyOk s)) ∧ w = w' := by
  by_cases h0 : 1 ≤ s.size
  · have e0 : (1 : Int) ≤ (s.size : Int) := by omega
    by_cases h1 : s.size ≤ 32
    · have e1 : (s.size : Int) ≤ 32 := by omega
      go_enter Try.func36, Try.ntmps36
      go_wp2
      go_ret
      exact ⟨by simp [keyOk, h0, h1], rfl⟩
    · have e1 : ¬ (s.size : Int) ≤ 32 := by omega
      have hd : decide ((s.size : Int) ≤ 32) = false := by simpa using e1
      go_enter Try.func36, Try.ntmps36
      go_wp2
      go_ret
      exact ⟨by simp [keyOk, h1], rfl⟩
  · have e0 : ¬ (1 : Int) ≤ (s.size : Int) := by omega
    have hd : decide ((1 : Int) ≤ (s.size : Int)) = false := by simpa using e0
    go_enter Try.func36, Try.ntmps36
    go_wp2
    go_ret
    exact ⟨by simp [keyOk, h0], rfl⟩

end Go.Proofs.Ytjmcgpdimhgegaa
/-
  (shaken)
-/
namespace Go.Proofs.Ytjmcgpdimhgegaa
open Go.RowKit Go.Sort Go.Shelf
set_option linter.unusedSimpArgs false
set_option linter.unusedVariables false
set_option maxRecDepth 100000

theorem rcheck10_any (c : Cm) (ko : Option Addr) (kc : Nat) (w : World) (h : GRd ES w ko c.keys kc) :
    Calls Try.prog 15 #[.agg (c.arr (.slice ko c.keys.length kc))] w fun e w' => e = .returned (.int .i64 c.chkE) ∧ RowKit.Below w.heap.size w w' := by
  have HK := Hid.mk2 (fun W (hW : RowKit.Below w.heap.size w W) => rmay_any c ko kc W (h.below hW))
  have HM := Hid.mk2 (Cm.At.made c (.slice ko c.keys.length kc) w)
  unfold Cm.chkE
  obtain ⟨M, hM⟩ : ∃ M, M = c.may := ⟨_, rfl⟩
  rw [← hM] at HK ⊢
  clear hM h
  obtain ⟨kind, tenant, keys, value, flags, life, unique, by_⟩ := c
  unfold Cm.arr at *
  dsimp only at *
  obtain ⟨W, hW⟩ : ∃ W, W = w.alloc (.cells #[.int .u8 kind, .int .i64 tenant, .slice ko keys.length kc, .string value, .int .u32 flags, .int .i64 life, .int .u64 unique, .int .u64 by_] 26) := ⟨_, rfl⟩
  have HB : Hid (RowKit.Below w.heap.size w W) := by rw [hW]; exact g_alloc _ _
  rw [← hW] at HM
  obtain ⟨hlt, c0, c1, c2, c3, c4, c5, c6, c7⟩ := HM.out
  dsimp only at c0 c1 c2 c3 c4 c5 c6 c7
  go_enter Try.func15, Try.ntmps15
  go_upto_region 1 with (fail)
  rw [← hW]
  clear hW
  cases M
  · go_wp2_with (go_at_call 25; refine (HK.out _ HB.out).mono ?_; rintro e w1 ⟨rfl, hb1⟩)
    go_ret
    exact ⟨rfl, g_on HB.out hb1⟩
  · go_wp2_with (go_at_call 25; refine (HK.out _ HB.out).mono ?_; rintro e w1 ⟨rfl, hb1⟩)
    go_ret
    exact ⟨rfl, g_on HB.out hb1⟩

/-- longer than statements go through -/
def Cm.lg (c : Cm) : Bool := decide (2000 < c.value.size) || decide (40 < c.keys.length) || c.keys.any fun k => decide (200 < k.size)
theorem rlong_any (c : Cm) (ko : Option Addr) (kc : Nat) (w : World) (h : GRd ES w ko c.keys kc) :
    Calls Try.prog 5 #[.agg (c.arr (.slice ko c.keys.length kc))] w fun e w' => e = .returned (.bool c.lg) ∧ RowKit.Below w.heap.size w w' := by
  have HM := Hid.mk2 (Cm.At.made c (.slice ko c.keys.length kc) w)
  have HR := Hid.mk2 h
  have hlen := h.len
  obtain ⟨G, hG⟩ : ∃ G, G = c.lg := ⟨_, rfl⟩
  rw [← hG]
  unfold Cm.lg at hG
  have HG := Hid.mk2 hG
  clear hG h
  obtain ⟨kind, tenant, keys, value, flags, life, unique, by_⟩ := c
  unfold Cm.arr at *
  dsimp only at *
  obtain ⟨W, hW⟩ : ∃ W, W = w.alloc (.cells #[.int .u8 kind, .int .i64 tenant, .slice ko keys.length kc, .string value, .int .u32 flags, .int .i64 life, .int .u64 unique, .int .u64 by_] 26) := ⟨_, rfl⟩
  have HB : Hid (RowKit.Below w.heap.size w W) := by rw [hW]; exact g_alloc _ _
  rw [← hW] at HM
  obtain ⟨hlt, c0, c1, c2, c3, c4, c5, c6, c7⟩ := HM.out
  dsimp only at c0 c1 c2 c3 c4 c5 c6 c7
  go_enter Try.func5, Try.ntmps5
  go_upto_region 1 with (fail)
  rw [← hW]
  clear hW
  by_cases a1 : 2000 < value.size
  · have e : G = true := by rw [HG.out]; simp [a1]
    subst e
    have a1' : (2000 : Int) < (value.size : Int) := by omega
    go_wp2
    go_ret
    exact ⟨rfl, HB.out⟩
  have a1' : ¬ ((2000 : Int) < (value.size : Int)) := by omega
  by_cases a2 : 40 < keys.length
  · have e : G = true := by rw [HG.out]; simp [a2]
    subst e
    have a2' : (40 : Int) < (keys.length : Int) := by omega
    go_wp2
    go_ret
    exact ⟨rfl, HB.out⟩
  have a2' : ¬ ((40 : Int) < (keys.length : Int)) := by omega
  have HG2 : Hid (G = keys.any fun k => decide (200 < k.size)) := by show G = _; rw [HG.out]; simp [a1, a2]
  clear HG a1 a2
  go_wp2
  go_loopw [4] (fun i wr => ∃ k : Nat, k ≤ keys.length ∧ i = .int .i64 k ∧ wr = W ∧ Hid (∀ j (hj : j < keys.length), j < k → ¬ 200 < keys[j].size)) (fun i _ => keys.length - (RowKit.intOf i).toNat)
  case atStart => exact ⟨0, Nat.zero_le _, rfl, rfl, fun _ _ h => absurd h (by omega)⟩
  case round =>
    obtain ⟨k, hk, rfl, rfl, HA⟩ := hrel
    by_cases hkl : k < keys.length
    · have hkl2 : (k : Int) < (keys.length : Int) := by omega
      have hne : keys ≠ [] := by intro e; rw [e] at hkl; simp at hkl
      obtain ⟨b, off, rfl, hbl, hcs⟩ := (HR.out.below HB.out).str hne
      have r0 := hcs k hkl
      obtain ⟨p, hpe⟩ : ∃ p, p = keys[k] := ⟨_, rfl⟩
      rw [← hpe] at r0
      by_cases hp : 200 < p.size
      · have e : G = true := by
          rw [HG2.out, List.any_eq_true]
          exact ⟨keys[k], List.getElem_mem hkl, by rw [← hpe]; simpa using hp⟩
        subst e
        have hp1 : (200 : Int) < (p.size : Int) := by omega
        clear HG2 HA hcs hne hpe
        go_wp2
        go_ret
        exact ⟨rfl, HB.out⟩
      · have hp1 : ¬ ((200 : Int) < (p.size : Int)) := by omega
        have HA2 : Hid (∀ j (hj : j < keys.length), j < k + 1 → ¬ 200 < keys[j].size) := by
          intro j hj hjk
          by_cases e : j = k
          · subst e; rw [← hpe]; exact hp
          · exact HA.out j hj (by omega)
        clear HA hcs hne hpe hp
        go_wp2
        go_roundw
        case rel => exact ⟨k + 1, by omega, by go_num, by first | rfl | trivial, HA2⟩
        case measure => simp [RowKit.intOf]; omega
    · have e : G = false := by
        rw [HG2.out, List.any_eq_false]
        intro x hx
        obtain ⟨j, hj, rfl⟩ := List.getElem_of_mem hx
        have := HA.out j hj (by omega)
        simpa using this
      subst e
      clear HG2 HA
      go_wp2
      go_ret
      exact ⟨rfl, HB.out⟩

theorem grow_same (w : World) : ∃ q os', w = grow (w.drewN q) os' := ⟨0, #[], by simp [grow, World.drewN_zero]⟩
end Go.Proofs.Ytjmcgpdimhgegaa
/-
  (shaken)
-/
namespace Go.Proofs.Ytjmcgpdimhgegaa
open Go.RowKit
set_option linter.unusedSimpArgs false
set_option linter.unusedVariables false
set_option maxRecDepth 100000

instance : LawfulBEq ByteArray where
  eq_of_beq {a b} h := by
    have h' : a.data == b.data := h
    cases a; cases b
    simpa using h'
  rfl {a} := by
    show (a.data == a.data) = true
    simp
/-- where a text stands first, or -1 -/
def ixS (L : List ByteArray) (x : ByteArray) : Int := if x ∈ L then (L.idxOf x : Nat) else -1
theorem ixS_hit {L : List ByteArray} {x : ByteArray} {k : Nat} (hk : k < L.length) (h : L[k] = x) (ha : ∀ j (hj : j < L.length), j < k → ¬ L[j] = x) : ixS L x = (k : Int) := by
  have hm : x ∈ L := by rw [← h]; exact List.getElem_mem hk
  unfold ixS
  rw [if_pos hm]
  have h1 : L.idxOf x < L.length := List.idxOf_lt_length_of_mem hm
  have h2 : L[L.idxOf x] = x := List.getElem_idxOf h1
  have h3 : ¬ L.idxOf x < k := fun hl => ha _ h1 hl h2
  have h4 : ¬ k < L.idxOf x := fun hl => by
    have := List.not_of_lt_findIdx (p := fun y => y == x) (xs := L) (i := k) hl
    simp [h] at this
  omega
theorem ixS_miss {L : List ByteArray} {x : ByteArray} (ha : ∀ j (hj : j < L.length), ¬ L[j] = x) : ixS L x = -1 := by
  unfold ixS
  rw [if_neg]
  intro hm
  obtain ⟨j, hj, e⟩ := List.getElem_of_mem hm
  exact ha j hj e
theorem ixS_mem (L : List ByteArray) (x : ByteArray) : decide (0 ≤ ixS L x) = decide (x ∈ L) := by
  unfold ixS
  by_cases h : x ∈ L
  · rw [if_pos h]; simp [h]
  · rw [if_neg h]; simp [h]
theorem indexS_any (L : List ByteArray) (ao : Option Addr) (cap m : Nat) (hm : m = L.length) (x : ByteArray) (w : World) (h : GRd ES w ao L cap) :
    Calls Try.prog 46 #[.slice ao m cap, .string x] w fun e w' => e = .returned (.int .i64 (ixS L x)) ∧ w' = w := by
  subst hm
  have hlen := h.len
  have HR := Hid.mk2 h
  have HH := Hid.mk2 (fun k hk => @ixS_hit L x k hk)
  have HM := Hid.mk2 (@ixS_miss L x)
  obtain ⟨R, hR⟩ : ∃ R, R = ixS L x := ⟨_, rfl⟩
  rw [← hR] at HH HM ⊢
  clear hR h
  go_enter Try.func46, Try.ntmps46
  go_wp2
  go_loopw [5, 8] (fun _ i wr => ∃ k : Nat, k ≤ L.length ∧ i = .int .i64 k ∧ wr = w ∧ Hid (∀ j (hj : j < L.length), j < k → ¬ L[j] = x)) (fun _ i _ => L.length - (intOf i).toNat)
  case atStart => exact ⟨0, Nat.zero_le _, rfl, rfl, fun _ _ h => absurd h (by omega)⟩
  case round =>
    obtain ⟨k, hk, rfl, rfl, HA⟩ := hrel
    by_cases hkl : k < L.length
    · have hkl2 : (k : Int) < (L.length : Int) := by omega
      have hne : L ≠ [] := by intro e; rw [e] at hkl; simp at hkl
      obtain ⟨b, off, rfl, hbl, hcs⟩ := HR.out.str hne
      have r0 := hcs k hkl
      obtain ⟨p, hpe⟩ : ∃ p, p = L[k] := ⟨_, rfl⟩
      rw [← hpe] at r0
      by_cases hp : p = x
      · have e := HH.out k hkl (by rw [← hpe]; exact hp) HA.out
        subst e
        have hp1 : (x.toList == p.toList) = true := ba_eq hp.symm
        clear HH HM HA hcs hne hpe hp
        go_wp2
        go_ret
        exact ⟨rfl, rfl⟩
      · have hp1 : (x.toList == p.toList) = false := ba_ne (fun e => hp e.symm)
        have HA2 : Hid (∀ j (hj : j < L.length), j < k + 1 → ¬ L[j] = x) := by
          intro j hj hjk
          by_cases e : j = k
          · subst e; rw [← hpe]; exact hp
          · exact HA.out j hj (by omega)
        clear HA hcs hne hpe hp
        go_wp2
        go_roundw
        case rel => exact ⟨k + 1, by omega, by go_num, by first | rfl | trivial, HA2⟩
        case measure => simp [intOf]; omega
    · have e := HM.out (fun j hj => HA.out j hj (by omega))
      subst e
      have hkl2 : ¬ (k : Int) < (L.length : Int) := by omega
      clear HH HM HA
      go_wp2
      go_ret
      exact ⟨rfl, rfl⟩
theorem containsS_any (L : List ByteArray) (ao : Option Addr) (cap m : Nat) (hm : m = L.length) (x : ByteArray) (w : World) (h : GRd ES w ao L cap) :
    Calls Try.prog 45 #[.slice ao m cap, .string x] w fun e w' => e = .returned (.bool (decide (x ∈ L))) ∧ w' = w := by
  subst hm
  have HI := Hid.mk2 (indexS_any L ao cap L.length rfl x w h)
  rw [← ixS_mem]
  obtain ⟨R, hR⟩ : ∃ R, R = ixS L x := ⟨_, rfl⟩
  rw [← hR] at HI ⊢
  clear hR h
  go_enter Try.func45, Try.ntmps45
  go_wp2_with (go_at_call 46; refine HI.out.mono ?_; rintro e w1 ⟨rfl, rfl⟩)
  go_ret
  exact ⟨rfl, rfl⟩
end Go.Proofs.Ytjmcgpdimhgegaa
/-
  (shaken)
-/
namespace Go.Proofs.Ytjmcgpdimhgegaa
open Go.RowKit Go.Sort Go.Shelf
set_option linter.unusedSimpArgs false
set_option linter.unusedVariables false
set_option maxRecDepth 100000

end Go.Proofs.Ytjmcgpdimhgegaa
/-
  (shaken)
-/
namespace Go.Proofs.Ytjmcgpdimhgegaa
open Go.RowKit Go.Sort Go.Shelf
set_option linter.unusedSimpArgs false
set_option linter.unusedVariables false
set_option maxRecDepth 100000

theorem g_grow (w : World) (n : Nat) (os : Array Obj) : RowKit.Below w.heap.size w (grow (w.drewN n) os) :=
  ⟨rfl, rfl, rfl, by simp [grow, World.drewN], fun k hk => heap_grow_old _ _ hk⟩

end Go.Proofs.Ytjmcgpdimhgegaa
/-
  (shaken)
-/
namespace Go.Proofs.Ytjmcgpdimhgegaa
open Go.RowKit Go.Sort Go.Shelf
set_option linter.unusedSimpArgs false
set_option linter.unusedVariables false
set_option maxRecDepth 100000

end Go.Proofs.Ytjmcgpdimhgegaa
