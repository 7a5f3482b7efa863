/-
  (shaken)
-/
import Derived.Test.YtjmcgpdimhgegaaChg
import Derived.Test.YtjmcgpdimhgegaaReader
namespace Go.Proofs.Ytjmcgpdimhgegaa
open Go.RowKit
set_option linter.unusedSimpArgs false
set_option linter.unusedVariables false
set_option maxRecDepth 100000

structure Cmd where
  kind : UInt8
  tenant : Int
  keys : List ByteArray
  value : ByteArray
  flags : Nat
  dur : Int
  unique : Nat
  by_ : Nat
def Cmd.cells (c : Cmd) (ks : Value) : List Value := [bcell c.kind, .int .i64 c.tenant, ks, .string c.value, .int .u32 c.flags, .int .i64 c.dur, .int .u64 c.unique, .int .u64 c.by_]
structure Cmd.Good (c : Cmd) : Prop where
  flags : c.flags ≤ 4294967295
  unique : Fits c.unique
  by_ : Fits c.by_
/-- P1.4: what may be -/
def cmdOk (c : Cmd) : Bool := decide (1 ≤ c.kind.toNat ∧ c.kind.toNat ≤ 11) && tenOk c.tenant && decide (c.keys.length ≤ 8) && c.keys.all keyOk && decide (c.value.size ≤ 512) && momOk c.dur
def keysB (ks : List ByteArray) : List UInt8 := ks.flatMap fun k => text k.data.toList
def cmdB (c : Cmd) : List UInt8 := [c.kind] ++ small c.tenant.toNat ++ small c.keys.length ++ keysB c.keys ++ text c.value.data.toList ++ small c.flags ++ small c.dur.toNat ++ small c.unique ++ small c.by_
structure CmdFit (c : Cmd) : Prop where
  k1 : 1 ≤ c.kind.toNat
  k2 : c.kind.toNat ≤ 11
  t0 : 0 ≤ c.tenant
  t1 : c.tenant < 4
  many : c.keys.length ≤ 8
  keys : ∀ k ∈ c.keys, keyOk k = true
  value : c.value.size ≤ 512
  d0 : 0 ≤ c.dur
  d1 : c.dur ≤ 1099511627776
theorem cmdOk_fit {c : Cmd} (h : cmdOk c = true) : CmdFit c := by
  simp [cmdOk, tenOk, momOk] at h
  obtain ⟨⟨⟨⟨⟨⟨h1, h2⟩, h3, h4⟩, h5⟩, h6⟩, h7⟩, h8, h9⟩ := h
  exact ⟨h1, h2, h3, h4, h5, h6, h7, h8, h9⟩

/-- texts lie at the address, below block B -/
def TsAt (w : World) (B : Nat) (ao : Option Addr) (ks : List ByteArray) : Prop :=
  ks = [] ∨ ∃ b off, ao = some ⟨b, off, none⟩ ∧ b < B ∧ ∀ j (hj : j < ks.length), w.cell? ⟨b, off + j, none⟩ = some (.string ks[j])
theorem TsAt.below {w w' : World} {B B' : Nat} {ao : Option Addr} {ks : List ByteArray} (h : TsAt w B ao ks) (hb : Below B w w') (hB : B ≤ B') : TsAt w' B' ao ks := by
  rcases h with rfl | ⟨b, off, rfl, hlt, hc⟩
  · exact .inl rfl
  · exact .inr ⟨b, off, rfl, by omega, fun j hj => (hb.cell (p := ⟨b, off + j, none⟩) hlt).trans (hc j hj)⟩
/-- a list of texts' own facts, for reading -/
structure Tl (w : World) (ao : Option Addr) (ks : List ByteArray) (cap : Nat) : Prop where
  hl : ks.length ≤ cap
  hc : cap ≤ 9223372036854775807
  hn : ao = none → cap = 0
  at_ : TsAt w w.heap.size ao ks
theorem Tl.below {w w' : World} {ao : Option Addr} {ks : List ByteArray} {cap : Nat} (h : Tl w ao ks cap) (hb : Below w.heap.size w w') : Tl w' ao ks cap :=
  ⟨h.hl, h.hc, h.hn, h.at_.below hb hb.size⟩

theorem all_take_false {ks : List ByteArray} {k : Nat} (hk : k < ks.length) (h : keyOk ks[k] = false) : ks.all keyOk = false := by
  cases hh : ks.all keyOk with
  | false => rfl
  | true => rw [List.all_eq_true] at hh; rw [hh _ (List.getElem_mem hk)] at h; cases h

set_option maxHeartbeats 1000000 in
theorem hasShape_any (c : Cmd) (w : World) (ko : Option Addr) (kc : Nat) (hk : Tl w ko c.keys kc) :
    Calls Try.prog 31 #[.agg (c.cells (.slice ko c.keys.length kc)).toArray] w fun e w' => e = .returned (.bool (cmdOk c)) ∧ Below w.heap.size w w' := by
  obtain ⟨kind, tenant, keys, value, flags, dur, unique, by_⟩ := c
  unfold Cmd.cells bcell
  simp only [] at hk ⊢
  have hkl := hk.hl
  have hkm := hk.hc
  have HT : Hid (TsAt w w.heap.size ko keys) := hk.at_
  have hval : value.size ≤ 9223372036854775807 ∨ ¬ value.size ≤ 9223372036854775807 := Classical.em _
  clear hk hval
  by_cases h1 : (kind.toNat : Int) < 1
  · have hE : cmdOk ⟨kind, tenant, keys, value, flags, dur, unique, by_⟩ = false := by
      simp [cmdOk]; intro a; omega
    rw [hE]
    go_enter Try.func31, Try.ntmps31
    go_wp2
    go_ret
    exact ⟨rfl, (Below.refl _ _).alloc (Nat.le_refl _) _⟩
  · have h1' : decide ((kind.toNat : Int) < 1) = false := by simp; omega
    by_cases h2 : (11 : Int) < (kind.toNat : Int)
    · have hE : cmdOk ⟨kind, tenant, keys, value, flags, dur, unique, by_⟩ = false := by
        simp [cmdOk]; intro a b; omega
      rw [hE]
      go_enter Try.func31, Try.ntmps31
      go_wp2
      go_ret
      exact ⟨rfl, (Below.refl _ _).alloc (Nat.le_refl _) _⟩
    · have h2' : decide ((11 : Int) < (kind.toNat : Int)) = false := by simp; omega
      have hkd : decide (1 ≤ kind.toNat ∧ kind.toNat ≤ 11) = true := by simp; omega
      by_cases h3 : tenOk tenant = true
      · by_cases h4 : (8 : Int) < (keys.length : Int)
        · have hE : cmdOk ⟨kind, tenant, keys, value, flags, dur, unique, by_⟩ = false := by
            have : decide (keys.length ≤ 8) = false := by simp; omega
            simp only [cmdOk, this, Bool.and_false, Bool.false_and]
          rw [hE]
          go_enter Try.func31, Try.ntmps31
          go_wp2_with (go_at_call 40; refine (tenantMayBe_any _ _).mono ?_; rintro e w' ⟨rfl, rfl⟩; rw [h3])
          go_ret
          exact ⟨rfl, (Below.refl _ _).alloc (Nat.le_refl _) _⟩
        · have h4' : decide ((8 : Int) < (keys.length : Int)) = false := by simp; omega
          have hkl8 : decide (keys.length ≤ 8) = true := by simp; omega
          have HK : Hid (cmdOk ⟨kind, tenant, keys, value, flags, dur, unique, by_⟩ = (keys.all keyOk && decide (value.size ≤ 512) && momOk dur)) := by
            show _ = _
            simp only [cmdOk, hkd, h3, hkl8, Bool.true_and]
          clear hkd hkl8
          go_enter Try.func31, Try.ntmps31
          go_wp2_with (go_at_call 40; refine (tenantMayBe_any _ _).mono ?_; rintro e w' ⟨rfl, rfl⟩; rw [h3])
          obtain ⟨W, hW⟩ : ∃ W, W = w.alloc (Obj.cells #[Value.int IntKind.u8 ↑kind.toNat, Value.int IntKind.i64 tenant, Value.slice ko keys.length kc, Value.string value, Value.int IntKind.u32 ↑flags, Value.int IntKind.i64 dur, Value.int IntKind.u64 ↑unique, Value.int IntKind.u64 ↑by_] 26) := ⟨_, rfl⟩
          have hbW : Below w.heap.size w W := by rw [hW]; exact (Below.refl _ _).alloc (Nat.le_refl _) _
          have c3 : W.cell? ⟨w.heap.size, 3, none⟩ = some (.string value) := by rw [hW]; simp
          have c5 : W.cell? ⟨w.heap.size, 5, none⟩ = some (.int .i64 dur) := by rw [hW]; simp
          rw [← hW]
          clear hW
          go_loop [26] (fun i => ∃ k : Nat, k ≤ keys.length ∧ i = .int .i64 k ∧ Hid (∀ j (hj : j < keys.length), j < k → keyOk keys[j] = true)) (fun i => keys.length - (intOf i).toNat)
          case atStart => exact ⟨0, by omega, rfl, fun j hj h => by omega⟩
          case round =>
            obtain ⟨k, hk, rfl, HA⟩ := hrel
            by_cases hlt : k < keys.length
            · have hlt2 : (k : Int) < (keys.length : Int) := by omega
              rcases HT.out with h | ⟨b, off, rfl, hb, hc⟩
              · rw [h] at hlt; simp at hlt
              have hx := (hbW.cell (p := ⟨b, off + k, none⟩) hb).trans (hc k hlt)
              have hA2 : ∀ (x : Bool), keyOk keys[k] = x → x = true → Hid (∀ j (hj : j < keys.length), j < k + 1 → keyOk keys[j] = true) := by
                intro x hx1 hx2 j hj hjk
                by_cases e : j = k
                · subst e; rw [hx1, hx2]
                · exact HA.out j hj (by omega)
              have hAF : keyOk keys[k] = false → keys.all keyOk = false := all_take_false hlt
              obtain ⟨s, hs⟩ : ∃ s, s = keys[k] := ⟨_, rfl⟩
              rw [← hs] at hx hA2 hAF
              clear hs hc
              by_cases hko : keyOk s = true
              · have HA2 := hA2 true hko rfl
                clear hA2 hAF HA
                go_wp2_with (go_at_call 41; refine (keyMayBe_any _ _).mono ?_; rintro e w' ⟨rfl, rfl⟩; rw [hko])
                go_round
                case rel => exact ⟨k + 1, by omega, by go_num, HA2⟩
                case measure => simp [intOf]; omega
              · have hko' : keyOk s = false := by simpa using hko
                have HF : Hid (cmdOk ⟨kind, tenant, keys, value, flags, dur, unique, by_⟩ = false) := by rw [HK.out, hAF hko']; exact rfl
                clear hA2 hAF HA
                go_wp2_with (go_at_call 41; refine (keyMayBe_any _ _).mono ?_; rintro e w' ⟨rfl, rfl⟩; rw [hko'])
                go_ret
                exact ⟨by rw [HF.out]; rfl, hbW⟩
            · have hlt2 : decide ((k : Int) < (keys.length : Int)) = false := by simp; omega
              have hall : keys.all keyOk = true := by
                rw [List.all_eq_true]
                intro x hx
                obtain ⟨j, hj, rfl⟩ := List.getElem_of_mem hx
                exact HA.out j hj (by omega)
              have HK2 : Hid (cmdOk ⟨kind, tenant, keys, value, flags, dur, unique, by_⟩ = (decide (value.size ≤ 512) && momOk dur)) := by rw [HK.out, hall, Bool.true_and]; exact rfl
              clear HK HA hall
              by_cases h5 : (value.size : Int) ≤ 512
              · have h5b : decide (value.size ≤ 512) = true := by simp; omega
                have HK3 : Hid (cmdOk ⟨kind, tenant, keys, value, flags, dur, unique, by_⟩ = momOk dur) := by rw [HK2.out, h5b, Bool.true_and]; exact rfl
                clear h5b
                go_wp2_with (go_at_call 42; refine (moment_any _ _).mono ?_; rintro e w' ⟨rfl, rfl⟩)
                all_goals
                  go_ret
                  exact ⟨by rw [HK3.out]; first | rfl | simp_all, hbW⟩
              · have h5b : decide (value.size ≤ 512) = false := by simp; omega
                have h5c : decide ((value.size : Int) ≤ 512) = false := by simp; omega
                have HK3 : Hid (cmdOk ⟨kind, tenant, keys, value, flags, dur, unique, by_⟩ = false) := by rw [HK2.out, h5b, Bool.false_and]; exact rfl
                clear h5b
                go_wp2
                go_ret
                exact ⟨by rw [HK3.out]; rfl, hbW⟩
      · have h3' : tenOk tenant = false := by simpa using h3
        have hE : cmdOk ⟨kind, tenant, keys, value, flags, dur, unique, by_⟩ = false := by
          simp only [cmdOk, h3', Bool.and_false, Bool.false_and]
        rw [hE]
        go_enter Try.func31, Try.ntmps31
        go_wp2_with (go_at_call 40; refine (tenantMayBe_any _ _).mono ?_; rintro e w' ⟨rfl, rfl⟩; rw [h3'])
        go_ret
        exact ⟨rfl, (Below.refl _ _).alloc (Nat.le_refl _) _⟩
end Go.Proofs.Ytjmcgpdimhgegaa
