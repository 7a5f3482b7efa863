/-
  Contracts of the document's Name, New, find, without, Del, Until (wheel).
-/
import Derived.Test.YthcekkahkioibadWdE
namespace Go.Proofs.Ythcekkahkioibad
open Go.RowKit
set_option linter.unusedSimpArgs false
set_option linter.unusedVariables false
set_option maxRecDepth 100000

theorem wten_any (t : Int) (w : World) :
    Calls Try.prog 84 #[.int .i64 t] w fun e w' => e = .returned (.bool (decide (0 ≤ t ∧ t < 4))) ∧ w' = w := by
  by_cases h : 0 ≤ t
  · have h2 : decide (0 ≤ t) = true := by simp [h]
    go_enter Try.func84, Try.ntmps84
    go_wp2
    go_ret
    exact ⟨by simp [h], rfl⟩
  · have h2 : decide (0 ≤ t) = false := by simp; omega
    go_enter Try.func84, Try.ntmps84
    go_wp2
    go_ret
    exact ⟨by simp [h], rfl⟩
theorem wkey_any (k : ByteArray) (w : World) :
    Calls Try.prog 85 #[.string k] w fun e w' => e = .returned (.bool (decide (1 ≤ k.size ∧ k.size ≤ 32))) ∧ w' = w := by
  by_cases h3 : 1 ≤ (k.size : Int)
  · have h4 : decide (1 ≤ (k.size : Int)) = true := by simpa using h3
    have e : decide (1 ≤ k.size ∧ k.size ≤ 32) = decide ((k.size : Int) ≤ 32) := by rw [decide_eq_decide]; omega
    rw [e]
    go_enter Try.func85, Try.ntmps85
    go_wp2
    go_ret
    exact ⟨rfl, rfl⟩
  · have h4 : decide (1 ≤ (k.size : Int)) = false := by simpa using h3
    have e : decide (1 ≤ k.size ∧ k.size ≤ 32) = false := decide_eq_false (by omega)
    rw [e]
    clear e
    go_enter Try.func85, Try.ntmps85
    go_wp2
    go_ret
    exact ⟨rfl, rfl⟩
theorem wname_any (y : Nm) (w : World) :
    Calls Try.prog 68 #[.agg #[.int .i64 y.tenant, .string y.key]] w fun e w' => e = .returned (.bool (decide y.ok)) ∧ Below w.heap.size w w' := by
  obtain ⟨t, k⟩ := y
  unfold Nm.ok
  simp only []
  have HT := Hid.mk2 (fun W => wten_any t W)
  have HK := Hid.mk2 (fun W => wkey_any k W)
  by_cases h1 : 0 ≤ t ∧ t < 4
  · rw [decide_eq_true h1] at HT
    obtain ⟨b, hb⟩ : ∃ b, b = decide (1 ≤ k.size ∧ k.size ≤ 32) := ⟨_, rfl⟩
    have e : decide (0 ≤ t ∧ t < 4 ∧ 1 ≤ k.size ∧ k.size ≤ 32) = b := by rw [hb, decide_eq_decide]; constructor <;> (intro h; omega)
    rw [← hb] at HK
    rw [e]
    clear hb e h1
    go_enter Try.func68, Try.ntmps68
    go_wp2_with (first
      | (go_at_call 84; refine (HT.out _).mono ?_; rintro e w1 ⟨rfl, hwq⟩; obtain rfl := hwq)
      | (go_at_call 85; refine (HK.out _).mono ?_; rintro e w2 ⟨rfl, hwq⟩; obtain rfl := hwq))
    go_ret
    exact ⟨rfl, (Below.refl _ _).alloc (Nat.le_refl _) _⟩
  · rw [decide_eq_false h1] at HT
    have e : decide (0 ≤ t ∧ t < 4 ∧ 1 ≤ k.size ∧ k.size ≤ 32) = false := decide_eq_false (fun h => h1 ⟨h.1, h.2.1⟩)
    rw [e]
    clear e h1 HK
    go_enter Try.func68, Try.ntmps68
    go_wp2_with (go_at_call 84; refine (HT.out _).mono ?_; rintro e w1 ⟨rfl, hwq⟩; obtain rfl := hwq)
    go_ret
    exact ⟨rfl, (Below.refl _ _).alloc (Nat.le_refl _) _⟩
/-- the document's wheel, as a value -/
abbrev wv (now : Int) (ao : Option Addr) (n cap : Nat) : Value := .agg #[.int .i64 now, .slice ao n cap]
theorem wnew_good (now : Nat) (w : World) (h : now ≤ 1099511627776) :
    Calls Try.prog 17 #[.int .i64 now] w fun e w' => e = .returned (.tuple #[wv now none 0 0, .int .i64 0]) ∧ Below w.heap.size w w' := by
  have h1 : decide ((now : Int) < 0) = false := by simp
  have h2 : decide ((1099511627776 : Int) < now) = false := by simp; omega
  go_enter Try.func17, Try.ntmps17
  go_wp2
  try simp only [Exit.inBlock, Exit.then]
  refine bodyPost_ret (v := .tuple #[wv now none 0 0, .int .i64 0]) (by simp [results, Try.results17, go_sem]) rfl ⟨rfl, (Below.refl _ _).alloc (Nat.le_refl _) _⟩
theorem wnew_bad (now : Int) (w : World) (h : now < 0 ∨ 1099511627776 < now) :
    Calls Try.prog 17 #[.int .i64 now] w fun e w' => e = .returned (.tuple #[wv 0 none 0 0, .int .i64 2]) ∧ Below w.heap.size w w' := by
  by_cases h1 : now < 0
  · have h2 : decide (now < 0) = true := by simp [h1]
    go_enter Try.func17, Try.ntmps17
    go_wp2
    try simp only [Exit.inBlock, Exit.then]
    refine bodyPost_ret (v := .tuple #[wv 0 none 0 0, .int .i64 2]) (by simp [results, Try.results17, go_sem]) rfl ⟨rfl, (Below.refl _ _).alloc (Nat.le_refl _) _⟩
  · have h2 : decide (now < 0) = false := by simp; omega
    have h3 : decide (1099511627776 < now) = true := by simp; omega
    go_enter Try.func17, Try.ntmps17
    go_wp2
    try simp only [Exit.inBlock, Exit.then]
    refine bodyPost_ret (v := .tuple #[wv 0 none 0 0, .int .i64 2]) (by simp [results, Try.results17, go_sem]) rfl ⟨rfl, (Below.refl _ _).alloc (Nat.le_refl _) _⟩
theorem wfind_any (w : World) (now : Int) (ao : Option Addr) (D : List NU) (cap : Nat) (h : De w ao D cap) (hl : D.length ≤ 100000) (y : Nm) :
    Calls Try.prog 69 #[wv now ao D.length cap, .agg #[.int .i64 y.tenant, .string y.key]] w fun e w' => Below w.heap.size w w' ∧ ((e = .returned (.int .i64 (-1)) ∧ ∀ q ∈ D, q.1 ≠ y) ∨ ∃ (k : Nat) (u : Int), e = .returned (.int .i64 k) ∧ D[k]? = some (y, u)) := by
  have HD := Hid.mk2 h
  have hcap := h.hl
  clear h
  go_enter Try.func69, Try.ntmps69
  go_wp2
  obtain ⟨w0, hw0⟩ : ∃ w0, w0 = (w.alloc (Obj.cells #[.int .i64 now, .slice ao D.length cap] 45)).alloc (Obj.cells #[.int .i64 y.tenant, .string y.key] 24) := ⟨_, rfl⟩
  rw [← hw0]
  have c0 : w0.cell? ⟨w.heap.size, 1, none⟩ = some (.slice ao D.length cap) := by rw [hw0]; simp
  have c1 : w0.cell? ⟨w.heap.size + 1, 0, none⟩ = some (.int .i64 y.tenant) := by rw [hw0]; simp
  have c2 : w0.cell? ⟨w.heap.size + 1, 1, none⟩ = some (.string y.key) := by rw [hw0]; simp
  have HB : Hid (Below w.heap.size w w0) := by rw [hw0]; exact ((Below.refl _ _).alloc (Nat.le_refl _) _).alloc (by simp) _
  clear hw0
  go_loopw [5] (fun i wr => ∃ k n : Nat, k ≤ D.length ∧ i = .int .i64 k ∧ wr = w0.drewN n ∧ Hid (∀ q ∈ D.take k, q.1 ≠ y)) (fun i _ => D.length - (intOf i).toNat)
  case atStart => exact ⟨0, 0, Nat.zero_le _, rfl, rfl, by intro q hq; simp at hq⟩
  case round =>
    obtain ⟨k, n, hk, rfl, rfl, HN⟩ := hrel
    by_cases hlt : k < D.length
    · have hlt2 : (k : Int) < (D.length : Int) := by omega
      rcases (HD.out.below HB.out).at_ with h0 | ⟨b, off, rfl, hbb, hcs⟩
      · rw [h0] at hlt; simp at hlt
      obtain ⟨q0, q1, q2⟩ := hcs k hlt
      obtain ⟨z, hz⟩ : ∃ z, z = D[k] := ⟨_, rfl⟩
      rw [← hz] at q0 q1 q2
      have HZ := Hid.mk2 hz
      clear hz hcs q2
      have hne := nm_eql z.1 y
      by_cases e : z.1 = y
      · rw [decide_eq_true e] at hne
        go_wp2
        go_quiet (fail)
        go_wp2
        go_ret
        refine ⟨below_drewN (below_drewN HB.out _) _, .inr ⟨k, z.2, rfl, ?_⟩⟩
        rw [List.getElem?_eq_getElem hlt, ← HZ.out, ← e]
      · rw [decide_eq_false e] at hne
        go_wp2
        go_quiet (fail)
        go_wp2
        go_roundw
        case rel =>
          refine ⟨k + 1, _, by omega, by go_num, rfl, ?_⟩
          intro q hq
          rw [List.take_succ_eq_append_getElem hlt] at hq
          rcases List.mem_append.1 hq with hm | hm
          · exact HN.out q hm
          · rw [List.mem_singleton.1 hm, ← HZ.out]; exact e
        case measure => simp [intOf]; omega
    · have hlt2 : ¬ (k : Int) < (D.length : Int) := by omega
      have hkt : D.take k = D := List.take_of_length_le (by omega)
      rw [hkt] at HN
      clear hkt
      go_wp2
      go_ret
      exact ⟨below_drewN HB.out _, .inl ⟨rfl, fun a b hm => HN.out (a, b) hm⟩⟩
end Go.Proofs.Ythcekkahkioibad
