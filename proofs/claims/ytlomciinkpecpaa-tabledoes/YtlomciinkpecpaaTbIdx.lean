/-
  Where in a row a name stands: the contracts of indexOf and of what it calls of the library.
-/
import Derived.Test.YtlomciinkpecpaaTbHash
namespace Go.Proofs.Ytlomciinkpecpaa
open Go.RowKit
set_option linter.unusedSimpArgs false
set_option linter.unusedVariables false
set_option maxRecDepth 100000

theorem TAt.below {w w' : World} {ao : Option Addr} {T : List NU} (h : TAt w ao T) (hb : Below w.heap.size w w') : TAt w' ao T := by
  rcases h with rfl | ⟨b, off, rfl, hlt, hc⟩
  · exact .inl rfl
  · refine .inr ⟨b, off, rfl, Nat.lt_of_lt_of_le hlt hb.size, fun i hi => ?_⟩
    obtain ⟨c0, c1, c2⟩ := hc i hi
    exact ⟨(bcl hb _ _ hlt).trans c0, (bcl hb _ _ hlt).trans c1, (bcl hb _ _ hlt).trans c2⟩
theorem same_name (w : World) (q : NU) (B : Nat) (y : Nm) (h0 : w.cell? ⟨B, 0, none⟩ = some (.int .i64 y.tenant)) (h1 : w.cell? ⟨B, 1, none⟩ = some (.string y.key)) (hB : B < w.heap.size) :
    Calls Try.prog 49 #[.agg #[.int .i64 q.1.tenant, .string q.1.key, .int .i64 q.2], .pointer (some ⟨B, 0, none⟩)] w fun e w' => e = .returned (.bool (decide (q.1 = y))) ∧ Below w.heap.size w w' := by
  have hne := nm_eql q.1 y
  obtain ⟨b, hb⟩ : ∃ b, b = decide (q.1 = y) := ⟨_, rfl⟩
  rw [← hb] at hne ⊢
  clear hb
  go_enter Try.func49, Try.ntmps49
  go_wp2
  go_ret
  exact ⟨rfl, (Below.refl _ _).alloc (Nat.le_refl _) _⟩
/-- the first place of a name; -1: there is none -/
def ixOf (T : List NU) (y : Nm) : Int := match T.findIdx? (fun q => decide (q.1 = y)) with
  | some i => (i : Int)
  | none => -1
theorem ixOf_some {T : List NU} {y : Nm} {k : Nat} (hk : k < T.length) (h : T[k].1 = y) (hb : ∀ q ∈ T.take k, q.1 ≠ y) : ixOf T y = k := by
  have : T.findIdx? (fun q => decide (q.1 = y)) = some k := by
    rw [List.findIdx?_eq_some_iff_getElem]
    refine ⟨hk, by simp [h], fun j hj => ?_⟩
    have := hb T[j] (by rw [List.mem_take_iff_getElem]; exact ⟨j, by omega, rfl⟩)
    simpa using this
  unfold ixOf
  rw [this]
theorem ixOf_none {T : List NU} {y : Nm} (hb : ∀ q ∈ T, q.1 ≠ y) : ixOf T y = -1 := by
  have : T.findIdx? (fun q => decide (q.1 = y)) = none := by
    rw [List.findIdx?_eq_none_iff]
    intro q hq
    simpa using hb q hq
  unfold ixOf
  rw [this]
theorem indexFunc_any (w : World) (ao : Option Addr) (T : List NU) (cap : Nat) (h : TAt w ao T) (hl : T.length ≤ 1000000) (hcap : T.length ≤ cap) (B : Nat) (y : Nm) (h0 : w.cell? ⟨B, 0, none⟩ = some (.int .i64 y.tenant)) (h1 : w.cell? ⟨B, 1, none⟩ = some (.string y.key)) (hB : B < w.heap.size) :
    Calls Try.prog 48 #[.slice ao T.length cap, .func (.func 49) #[] #[.pointer (some ⟨B, 0, none⟩)]] w fun e w' => e = .returned (.int .i64 (ixOf T y)) ∧ Below w.heap.size w w' := by
  have HT := Hid.mk2 h
  have HC := Hid.mk2 (fun W (hb : Below w.heap.size w W) q => same_name W q B y ((bcl hb _ _ hB).trans h0) ((bcl hb _ _ hB).trans h1) (Nat.lt_of_lt_of_le hB hb.size))
  clear h h0 h1
  go_enter Try.func48, Try.ntmps48
  go_wp2
  go_loopw [8] (fun s8 wr => ∃ k : Nat, k ≤ T.length ∧ s8 = .int .i64 k ∧ Hid (∀ q ∈ T.take k, q.1 ≠ y) ∧ Hid (Below w.heap.size w wr)) (fun s8 _ => T.length - (intOf s8).toNat)
  case atStart => exact ⟨0, Nat.zero_le _, rfl, by intro q hq; simp at hq, Below.refl _ _⟩
  case round =>
    obtain ⟨k, hk, rfl, HN, HB⟩ := hrel
    by_cases hlt : k < T.length
    · have hlt2 : (k : Int) < (T.length : Int) := by omega
      rcases HT.out.below HB.out with hz | ⟨b, off, rfl, hbb, hcs⟩
      · rw [hz] at hlt; simp at hlt
      obtain ⟨c0, c1, c2⟩ := hcs k hlt
      obtain ⟨z, hz⟩ : ∃ z, z = T[k] := ⟨_, rfl⟩
      rw [← hz] at c0 c1 c2
      have HZ := Hid.mk2 hz
      have HQ := Hid.mk2 (HC.out _ HB.out z)
      clear hz hcs
      by_cases e : z.1 = y
      · rw [decide_eq_true e] at HQ
        have HV : Hid (ixOf T y = k) := ixOf_some hlt (by rw [← HZ.out]; exact e) HN.out
        clear e
        go_wp2_with (go_at_call 49; refine HQ.out.mono ?_; rintro e w2 ⟨rfl, hb2⟩)
        go_ret
        exact ⟨by rw [HV.out]; rfl, HB.out.trans (hb2.mono HB.out.size)⟩
      · rw [decide_eq_false e] at HQ
        have HE := Hid.mk2 e
        clear e
        go_wp2_with (go_at_call 49; refine HQ.out.mono ?_; rintro e w2 ⟨rfl, hb2⟩)
        go_roundw
        case rel =>
          refine ⟨k + 1, by omega, by go_num, ?_, HB.out.trans (hb2.mono HB.out.size)⟩
          intro q hq
          rw [List.take_succ_eq_append_getElem hlt] at hq
          rcases List.mem_append.1 hq with hm | hm
          · exact HN.out q hm
          · rw [List.mem_singleton.1 hm, ← HZ.out]; exact HE.out
        case measure => simp [intOf]; omega
    · have hlt2 : ¬ (k : Int) < (T.length : Int) := by omega
      have hkt : T.take k = T := List.take_of_length_le (by omega)
      rw [hkt] at HN
      have HV : Hid (ixOf T y = -1) := ixOf_none HN.out
      clear hkt
      go_wp2
      go_ret
      exact ⟨by rw [HV.out]; rfl, HB.out⟩
theorem indexOf_any (w : World) (ao : Option Addr) (T : List NU) (cap : Nat) (h : TAt w ao T) (hl : T.length ≤ 1000000) (hcap : T.length ≤ cap) (y : Nm) :
    Calls Try.prog 36 #[.slice ao T.length cap, .agg #[.int .i64 y.tenant, .string y.key]] w fun e w' => e = .returned (.int .i64 (ixOf T y)) ∧ Below w.heap.size w w' := by
  have hb : Below w.heap.size w (w.alloc (Obj.cells #[.int .i64 y.tenant, .string y.key] 28)) := (Below.refl _ _).alloc (Nat.le_refl _) _
  have HI := Hid.mk2 (indexFunc_any (w.alloc (Obj.cells #[.int .i64 y.tenant, .string y.key] 28)) ao T cap (h.below hb) hl hcap w.heap.size y (by simp) (by simp) (by simp))
  clear h hb
  have hmf : ∀ (fn : Fn) (first cap : Array Value) (w : World), (Instr.makeFunc fn first cap).run Try.prog w = .ok (.func fn first cap) w := fun _ _ _ _ => rfl
  go_enter Try.func36, Try.ntmps36
  go_wp2_with (go_at_call 48; refine HI.out.mono ?_; rintro e w2 ⟨rfl, hb2⟩)
  go_ret
  exact ⟨rfl, below_alloc hb2⟩
end Go.Proofs.Ytlomciinkpecpaa
