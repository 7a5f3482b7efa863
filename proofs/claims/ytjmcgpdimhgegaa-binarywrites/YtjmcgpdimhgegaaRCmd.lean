/-
  (shaken)
-/
import Derived.Test.YtjmcgpdimhgegaaCmd2
import Derived.Test.YtjmcgpdimhgegaaCut
import Derived.Test.YtjmcgpdimhgegaaRefNum
import Derived.Test.YtjmcgpdimhgegaaRefHash
import Derived.Deep.Cut
namespace Go.Proofs.Ytjmcgpdimhgegaa
open Go.RowKit
set_option linter.unusedSimpArgs false
set_option linter.unusedVariables false
set_option maxRecDepth 100000

theorem Own.kept {w w' : World} {base : Nat} {v : Value} {l : List UInt8} (h : Own w base v l) (hb : Below w.heap.size w w') : Own w' base v l := by
  refine World.ownsRow.kept h (row := none) ⟨hb.os, hb.tape, hb.output, hb.size, fun k hk _ => hb.block k hk⟩ ?_
  cases hv : v.ownBlock with
  | none => exact .inl rfl
  | some k => exact .inr (fun e => by cases e)
section
variable {w : World} {ops : Array Oper} {rest : List Oper} {o : Oper} {a : Act} {Q : Exit → Act → World → Prop}
/-- append(v, u...), u bytes that a call made -/
theorem app_own (hgd : o.guard = none) (s x : Operand) (ho : o.op = .call { callee := .builtin .append, args := #[s, x], argTypes := #[30, 30] })
    (base : Nat) (v : Value) (l : List UInt8) (hown : Own w base v l) (hs : a.eval s = v) (b2 : Nat) (u : Value) (l2 : List UInt8) (hu : Own w b2 u l2) (hx : a.eval x = u)
    (hlen : l.length + l2.length ≤ 140737488355328) (hbase : base ≤ w.heap.size)
    (h : ∀ v' w', Own w' base v' (l ++ l2) → Grew w w' v v' → wpList Try.prog ops Q rest (a.put o.dst v') w') : wpList Try.prog ops Q (o :: rest) a w := by
  obtain ⟨ao, cap, rfl, h1, h2, h3, h4⟩ := hu.at
  exact app_bytes hgd s x ho base v l hown hs ao cap l2 _ rfl hx w.heap.size h3 h4 hlen hbase h
end

set_option maxHeartbeats 1000000 in
theorem refShaped_any (c : Cmd) (w : World) (ko : Option Addr) (kc : Nat) (hk : Tl w ko c.keys kc) :
    Calls Try.prog 26 #[.agg (c.cells (.slice ko c.keys.length kc)).toArray] w fun e w' => e = .returned (.bool (cmdOk c)) ∧ Below w.heap.size w w' := by
  obtain ⟨kind, tenant, keys, value, flags, dur, unique, by_⟩ := c
  unfold Cmd.cells bcell
  simp only [] at hk ⊢
  have hkl := hk.hl
  have hkm := hk.hc
  have HT : Hid (TsAt w w.heap.size ko keys) := hk.at_
  clear hk
  by_cases h1 : (kind.toNat : Int) < 1
  · have hE : cmdOk ⟨kind, tenant, keys, value, flags, dur, unique, by_⟩ = false := by
      simp [cmdOk]; intro a; omega
    rw [hE]
    go_enter Try.func26, Try.ntmps26
    go_wp2
    go_ret
    exact ⟨rfl, (Below.refl _ _).alloc (Nat.le_refl _) _⟩
  have h1' : decide ((kind.toNat : Int) < 1) = false := by simp; omega
  by_cases h2 : (11 : Int) < (kind.toNat : Int)
  · have hE : cmdOk ⟨kind, tenant, keys, value, flags, dur, unique, by_⟩ = false := by
      simp [cmdOk]; intro a b; omega
    rw [hE]
    go_enter Try.func26, Try.ntmps26
    go_wp2
    go_ret
    exact ⟨rfl, (Below.refl _ _).alloc (Nat.le_refl _) _⟩
  have h2' : decide ((11 : Int) < (kind.toNat : Int)) = false := by simp; omega
  have hkd : decide (1 ≤ kind.toNat ∧ kind.toNat ≤ 11) = true := by simp; omega
  by_cases h3 : tenOk tenant = true
  · by_cases h4 : (8 : Int) < (keys.length : Int)
    · have hE : cmdOk ⟨kind, tenant, keys, value, flags, dur, unique, by_⟩ = false := by
        have : decide (keys.length ≤ 8) = false := by simp; omega
        simp only [cmdOk, this, Bool.and_false, Bool.false_and]
      rw [hE]
      go_enter Try.func26, Try.ntmps26
      go_wp2_with (go_at_call 35; refine (refTenant_any _ _).mono ?_; rintro e w' ⟨rfl, rfl⟩; rw [h3])
      go_ret
      exact ⟨rfl, (Below.refl _ _).alloc (Nat.le_refl _) _⟩
    have h4' : decide ((8 : Int) < (keys.length : Int)) = false := by simp; omega
    have hkl8 : decide (keys.length ≤ 8) = true := by simp; omega
    by_cases h5 : (512 : Int) < (value.size : Int)
    · have hE : cmdOk ⟨kind, tenant, keys, value, flags, dur, unique, by_⟩ = false := by
        have : decide (value.size ≤ 512) = false := by simp; omega
        simp only [cmdOk, this, Bool.and_false, Bool.false_and]
      rw [hE]
      clear hkd hkl8
      go_enter Try.func26, Try.ntmps26
      go_wp2_with (go_at_call 35; refine (refTenant_any _ _).mono ?_; rintro e w' ⟨rfl, rfl⟩; rw [h3])
      go_ret
      exact ⟨rfl, (Below.refl _ _).alloc (Nat.le_refl _) _⟩
    have h5' : decide ((512 : Int) < (value.size : Int)) = false := by simp; omega
    have hv5 : decide (value.size ≤ 512) = true := by simp; omega
    by_cases h6 : dur < 0
    · have hE : cmdOk ⟨kind, tenant, keys, value, flags, dur, unique, by_⟩ = false := by
        have : momOk dur = false := by unfold momOk; simp; omega
        simp only [cmdOk, this, Bool.and_false, Bool.false_and]
      rw [hE]
      clear hkd hkl8 hv5
      go_enter Try.func26, Try.ntmps26
      go_wp2_with (go_at_call 35; refine (refTenant_any _ _).mono ?_; rintro e w' ⟨rfl, rfl⟩; rw [h3])
      go_ret
      exact ⟨rfl, (Below.refl _ _).alloc (Nat.le_refl _) _⟩
    have h6' : decide (dur < 0) = false := by simp; omega
    by_cases h7 : 1099511627776 < dur
    · have hE : cmdOk ⟨kind, tenant, keys, value, flags, dur, unique, by_⟩ = false := by
        have : momOk dur = false := by unfold momOk; simp; omega
        simp only [cmdOk, this, Bool.and_false, Bool.false_and]
      rw [hE]
      clear hkd hkl8 hv5
      go_enter Try.func26, Try.ntmps26
      go_wp2_with (go_at_call 35; refine (refTenant_any _ _).mono ?_; rintro e w' ⟨rfl, rfl⟩; rw [h3])
      go_ret
      exact ⟨rfl, (Below.refl _ _).alloc (Nat.le_refl _) _⟩
    have h7' : decide (1099511627776 < dur) = false := by simp; omega
    have hmo : momOk dur = true := by unfold momOk; simp; omega
    have HK : Hid (cmdOk ⟨kind, tenant, keys, value, flags, dur, unique, by_⟩ = keys.all keyOk) := by
      show _ = _
      simp only [cmdOk, hkd, h3, hkl8, hv5, hmo, Bool.true_and, Bool.and_true]
    clear hkd hkl8 hv5 hmo
    go_enter Try.func26, Try.ntmps26
    go_wp2_with (go_at_call 35; refine (refTenant_any _ _).mono ?_; rintro e w' ⟨rfl, rfl⟩; rw [h3])
    obtain ⟨W, hW⟩ : ∃ W, W = w.alloc (Obj.cells #[Value.int IntKind.u8 ↑kind.toNat, Value.int IntKind.i64 tenant, Value.slice ko keys.length kc, Value.string value, Value.int IntKind.u32 ↑flags, Value.int IntKind.i64 dur, Value.int IntKind.u64 ↑unique, Value.int IntKind.u64 ↑by_] 26) := ⟨_, rfl⟩
    have hbW : Below w.heap.size w W := by rw [hW]; exact (Below.refl _ _).alloc (Nat.le_refl _) _
    have c2 : W.cell? ⟨w.heap.size, 2, none⟩ = some (.slice ko keys.length kc) := by rw [hW]; simp
    rw [← hW]
    clear hW
    go_loop [3] (fun i => ∃ k : Nat, k ≤ keys.length ∧ i = .int .i64 k ∧ Hid (∀ j (hj : j < keys.length), j < k → keyOk keys[j] = true)) (fun i => keys.length - (intOf i).toNat)
    case atStart => exact ⟨0, by omega, rfl, fun j hj h => by omega⟩
    case round =>
      obtain ⟨k, hk, rfl, HA⟩ := hrel
      by_cases hlt : k < keys.length
      · have hlt2 : (k : Int) < (keys.length : Int) := by omega
        rcases HT.out with h | ⟨b, off, rfl, hb, hc⟩
        · rw [h] at hlt; simp at hlt
        have hx := (hbW.cell (p := ⟨b, off + k, none⟩) hb).trans (hc k hlt)
        have hA2 : ∀ (x : Bool), keyOk keys[k] = x → x = true → Hid (∀ j (hj : j < keys.length), j < k + 1 → keyOk keys[j] = true) := by
          intro x hx1 hx2 j hj hjk
          by_cases e : j = k
          · subst e; rw [hx1, hx2]
          · exact HA.out j hj (by omega)
        have hAF : keyOk keys[k] = false → keys.all keyOk = false := all_take_false hlt
        obtain ⟨s, hs⟩ : ∃ s, s = keys[k] := ⟨_, rfl⟩
        rw [← hs] at hx hA2 hAF
        clear hs hc
        by_cases hko : keyOk s = true
        · have HA2 := hA2 true hko rfl
          clear hA2 hAF HA
          go_wp2_with (go_at_call 36; refine (refKey_any _ _).mono ?_; rintro e w' ⟨rfl, rfl⟩; rw [hko])
          go_round
          case rel => exact ⟨k + 1, by omega, by go_num, HA2⟩
          case measure => simp [intOf]; omega
        · have hko' : keyOk s = false := by simpa using hko
          have HF : Hid (cmdOk ⟨kind, tenant, keys, value, flags, dur, unique, by_⟩ = false) := by rw [HK.out, hAF hko']; exact rfl
          clear hA2 hAF HA
          go_wp2_with (go_at_call 36; refine (refKey_any _ _).mono ?_; rintro e w' ⟨rfl, rfl⟩; rw [hko'])
          go_ret
          exact ⟨by rw [HF.out]; rfl, hbW⟩
      · have hlt2 : decide ((k : Int) < (keys.length : Int)) = false := by simp; omega
        have hall : keys.all keyOk = true := by
          rw [List.all_eq_true]
          intro x hx
          obtain ⟨j, hj, rfl⟩ := List.getElem_of_mem hx
          exact HA.out j hj (by omega)
        have HK2 : Hid (cmdOk ⟨kind, tenant, keys, value, flags, dur, unique, by_⟩ = true) := by rw [HK.out, hall]; exact rfl
        clear HK HA hall
        go_wp2
        go_ret
        exact ⟨by rw [HK2.out]; rfl, hbW⟩
  · have h3' : tenOk tenant = false := by simpa using h3
    have hE : cmdOk ⟨kind, tenant, keys, value, flags, dur, unique, by_⟩ = false := by
      simp only [cmdOk, h3', Bool.and_false, Bool.false_and]
    rw [hE]
    go_enter Try.func26, Try.ntmps26
    go_wp2_with (go_at_call 35; refine (refTenant_any _ _).mono ?_; rintro e w' ⟨rfl, rfl⟩; rw [h3'])
    go_ret
    exact ⟨rfl, (Below.refl _ _).alloc (Nat.le_refl _) _⟩

def smalls (ns : List Nat) : List UInt8 := ns.flatMap small
theorem smalls_take {ns : List Nat} {k : Nat} (hk : k < ns.length) : smalls (ns.take (k + 1)) = smalls (ns.take k) ++ small ns[k] := by
  unfold smalls; rw [List.take_succ_eq_append_getElem hk, List.flatMap_append]; simp
theorem smalls_len : ∀ ns : List Nat, (smalls ns).length ≤ 10 * ns.length
  | [] => by simp [smalls]
  | n :: ns => by
    have ih := smalls_len ns
    have h := small_len n
    have e : smalls (n :: ns) = small n ++ smalls ns := rfl
    rw [e, List.length_append, List.length_cons]; omega
theorem refSmalls_any (w : World) (b : Nat) (ns : List Nat) (n cap : Nat) (hn : ns.length = n) (hb : b < w.heap.size) (hc : ∀ j (hj : j < ns.length), w.cell? ⟨b, j, none⟩ = some (.int .i64 (ns[j] : Int))) (hf : ∀ x ∈ ns, x ≤ 9223372036854775807) (hl : ns.length ≤ 1000) :
    Calls Try.prog 27 #[.slice (some ⟨b, 0, none⟩) n cap] w fun e w' => ∃ v', e = .returned v' ∧ Own w' w.heap.size v' (smalls ns) ∧ Below w.heap.size w w' := by
  subst hn
  have HC : Hid (∀ j (hj : j < ns.length), w.cell? ⟨b, j, none⟩ = some (.int .i64 (ns[j] : Int))) := hc
  have HF : Hid (∀ x ∈ ns, x ≤ 9223372036854775807) := hf
  clear hc hf
  go_enter Try.func27, Try.ntmps27
  go_wp2
  go_loopw [3, 4] (fun u i wr => ∃ k : Nat, k ≤ ns.length ∧ i = .int .i64 k ∧ Own wr w.heap.size u (smalls (ns.take k)) ∧ Below w.heap.size w wr) (fun _ i _ => ns.length - (intOf i).toNat)
  case atStart => exact ⟨0, Nat.zero_le _, rfl, Own.nil _ _, Below.refl _ _⟩
  case round =>
    obtain ⟨k, hk, rfl, ho, hbr⟩ := hrel
    have hsr := hbr.size
    by_cases hlt : k < ns.length
    · have hlt2 : (k : Int) < (ns.length : Int) := by omega
      have hx := (hbr.cell (p := ⟨b, k, none⟩) hb).trans (HC.out k hlt)
      have hfx := HF.out _ (List.getElem_mem hlt)
      have hst := smalls_take hlt
      have hln := smalls_len (ns.take k)
      rw [List.length_take] at hln
      obtain ⟨P, hP⟩ : ∃ P, P = smalls (ns.take k) := ⟨_, rfl⟩
      obtain ⟨x, hxe⟩ : ∃ x, x = ns[k] := ⟨_, rfl⟩
      rw [← hxe] at hx hfx hst
      rw [← hP] at ho hst hln
      have HS : Hid (smalls (ns.take (k + 1)) = P ++ small x) := hst
      have hlP : P.length ≤ 10000 := by omega
      clear hst hP hxe hln
      have fx : Fits x := by unfold Fits; omega
      have hsx := small_len x
      have ww : IntKind.u64.wrap (x : Int) = (x : Int) := by rw [u64_wrap_eq]; omega
      go_wp2_with (first
        | (go_at_call 29; refine (refSmall_any x wr fx).mono ?_; rintro e w1 ⟨v1, rfl, ho1, hb1⟩; have ho2 := ho.kept hb1; have hz1 := hb1.size; have hs2 : w.heap.size ≤ w1.heap.size := Nat.le_trans hsr hz1)
        | (at_builtin; refine app_own rfl (.tmp 11) (.tmp 17) rfl w.heap.size _ _ ho2 rfl _ _ _ ho1 rfl (by omega) hs2 ?_; intro v3 w3 ho3 hg3))
      have hb3 := (hbr.trans (hb1.mono hsr)).trans (hg3.below ho2 hs2)
      rw [← HS.out] at ho3
      go_roundw
      case rel => exact ⟨k + 1, by omega, by go_num, ho3, hb3⟩
      case measure => simp [intOf]; omega
    · have hlt2 : decide ((k : Int) < (ns.length : Int)) = false := by simp; omega
      have e0 : ns.take k = ns := List.take_of_length_le (by omega)
      rw [e0] at ho
      go_wp2
      go_ret
      exact ⟨_, rfl, ho, hbr⟩
end Go.Proofs.Ytjmcgpdimhgegaa
