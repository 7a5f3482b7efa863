/-
  The document's table: Name, Get; rows of its entries.
-/
import Derived.Test.YtlomciinkpecpaaTdFind
import Derived.Test.YtlomciinkpecpaaTbGet
namespace Go.Proofs.Ytlomciinkpecpaa
open Go.RowKit
set_option linter.unusedSimpArgs false
set_option linter.unusedVariables false
set_option maxRecDepth 100000

theorem wten_any (t : Int) (w : World) :
    Calls Try.prog 62 #[.int .i64 t] w fun e w' => e = .returned (.bool (decide (0 ≤ t ∧ t < 4))) ∧ w' = w := by
  by_cases h : 0 ≤ t
  · have h2 : decide (0 ≤ t) = true := by simp [h]
    go_enter Try.func62, Try.ntmps62
    go_wp2
    go_ret
    exact ⟨by simp [h], rfl⟩
  · have h2 : decide (0 ≤ t) = false := by simp; omega
    go_enter Try.func62, Try.ntmps62
    go_wp2
    go_ret
    exact ⟨by simp [h], rfl⟩
theorem wkey_any (k : ByteArray) (w : World) :
    Calls Try.prog 63 #[.string k] w fun e w' => e = .returned (.bool (decide (1 ≤ k.size ∧ k.size ≤ 32))) ∧ w' = w := by
  by_cases h3 : 1 ≤ (k.size : Int)
  · have h4 : decide (1 ≤ (k.size : Int)) = true := by simpa using h3
    have e : decide (1 ≤ k.size ∧ k.size ≤ 32) = decide ((k.size : Int) ≤ 32) := by rw [decide_eq_decide]; omega
    rw [e]
    go_enter Try.func63, Try.ntmps63
    go_wp2
    go_ret
    exact ⟨rfl, rfl⟩
  · have h4 : decide (1 ≤ (k.size : Int)) = false := by simpa using h3
    have e : decide (1 ≤ k.size ∧ k.size ≤ 32) = false := decide_eq_false (by omega)
    rw [e]
    clear e
    go_enter Try.func63, Try.ntmps63
    go_wp2
    go_ret
    exact ⟨rfl, rfl⟩
theorem wname_any (y : Nm) (w : World) :
    Calls Try.prog 43 #[.agg #[.int .i64 y.tenant, .string y.key]] w fun e w' => e = .returned (.bool (decide y.ok)) ∧ Below w.heap.size w w' := by
  obtain ⟨t, k⟩ := y
  unfold Nm.ok
  simp only []
  have HT := Hid.mk2 (fun W => wten_any t W)
  have HK := Hid.mk2 (fun W => wkey_any k W)
  by_cases h1 : 0 ≤ t ∧ t < 4
  · rw [decide_eq_true h1] at HT
    obtain ⟨b, hb⟩ : ∃ b, b = decide (1 ≤ k.size ∧ k.size ≤ 32) := ⟨_, rfl⟩
    have e : decide (0 ≤ t ∧ t < 4 ∧ 1 ≤ k.size ∧ k.size ≤ 32) = b := by rw [hb, decide_eq_decide]; constructor <;> (intro h; omega)
    rw [← hb] at HK
    rw [e]
    clear hb e h1
    go_enter Try.func43, Try.ntmps43
    go_wp2_with (first
      | (go_at_call 62; refine (HT.out _).mono ?_; rintro e w1 ⟨rfl, hwq⟩; obtain rfl := hwq)
      | (go_at_call 63; refine (HK.out _).mono ?_; rintro e w2 ⟨rfl, hwq⟩; obtain rfl := hwq))
    go_ret
    exact ⟨rfl, (Below.refl _ _).alloc (Nat.le_refl _) _⟩
  · rw [decide_eq_false h1] at HT
    have e : decide (0 ≤ t ∧ t < 4 ∧ 1 ≤ k.size ∧ k.size ≤ 32) = false := decide_eq_false (fun h => h1 ⟨h.1, h.2.1⟩)
    rw [e]
    clear e h1 HK
    go_enter Try.func43, Try.ntmps43
    go_wp2_with (go_at_call 62; refine (HT.out _).mono ?_; rintro e w1 ⟨rfl, hwq⟩; obtain rfl := hwq)
    go_ret
    exact ⟨rfl, (Below.refl _ _).alloc (Nat.le_refl _) _⟩
/-- what the document's Get answers -/
theorem lk_fis {D : List NU} {y : Nm} (hr : Rise D) : (fis D y = false ∧ lk D y = none) ∨ (fis D y = true ∧ ∃ h : fpos D y < D.length, D[fpos D y].1 = y ∧ lk D y = some D[fpos D y].2) := by
  cases hf : fis D y with
  | false => exact .inl ⟨rfl, lk_none (fis_no hr hf)⟩
  | true =>
    right
    refine ⟨rfl, ?_⟩
    rw [fis_eq] at hf
    cases hq : D[fpos D y]? with
    | none => rw [hq] at hf; simp at hf
    | some q =>
      rw [hq] at hf
      have hlt := (List.getElem?_eq_some_iff.1 hq).1
      have hqe := (List.getElem?_eq_some_iff.1 hq).2
      have hn : q.1 = y := by simpa using hf
      refine ⟨hlt, by rw [hqe]; exact hn, ?_⟩
      have hm : (y, D[fpos D y].2) ∈ D := by
        have h1 := List.getElem_mem hlt
        have e : D[fpos D y] = (y, D[fpos D y].2) := by
          rw [hqe]
          exact Prod.ext hn rfl
        rw [e] at h1
        exact h1
      exact lk_mem (hr.imp (fun h => nlt_ne h)) hm
set_option maxHeartbeats 1000000 in
theorem rget_any (w : World) (ao : Option Addr) (D : List NU) (cap : Nat) (hT : TAt w ao D) (hl : D.length ≤ 1000) (hcap : D.length ≤ cap) (hr : Rise D) (y : Nm) :
    Calls Try.prog 30 #[.agg #[.slice ao D.length cap], .agg #[.int .i64 y.tenant, .string y.key]] w fun e w' => e = .returned (if y.ok then getV D y else .tuple #[.int .i64 0, .bool false, .int .i64 8]) ∧ Below w.heap.size w w' := by
  obtain ⟨w0, hw0⟩ : ∃ x, x = (w.alloc (Obj.cells #[.slice ao D.length cap] 46)).alloc (Obj.cells #[.int .i64 y.tenant, .string y.key] 28) := ⟨_, rfl⟩
  have z2 : w0.cell? ⟨w.heap.size, 0, none⟩ = some (.slice ao D.length cap) := by rw [hw0]; simp
  have z3 : w0.cell? ⟨w.heap.size + 1, 0, none⟩ = some (.int .i64 y.tenant) := by rw [hw0]; simp
  have z4 : w0.cell? ⟨w.heap.size + 1, 1, none⟩ = some (.string y.key) := by rw [hw0]; simp
  have x0 : w.heap.size + 1 < w0.heap.size := by rw [hw0]; simp
  have x1 : w.heap.size < w0.heap.size := by omega
  have HB0 : Hid (Below w.heap.size w w0) := by rw [hw0]; exact ((Below.refl _ _).alloc (Nat.le_refl _) _).alloc (by simp) _
  have HNM := Hid.mk2 (fun W => wname_any y W)
  have HFI := Hid.mk2 (fun W (hb : Below w0.heap.size w0 W) => rfind_any W ao D cap ((hT.belowD HB0.out).belowD hb) hl hcap y)
  have HP : Hid (∀ W, Below w0.heap.size w0 W → W.cell? ⟨w.heap.size, 0, none⟩ = some (.slice ao D.length cap) ∧ W.cell? ⟨w.heap.size + 1, 0, none⟩ = some (.int .i64 y.tenant) ∧ W.cell? ⟨w.heap.size + 1, 1, none⟩ = some (.string y.key)) := fun W hb => ⟨(bcl hb _ 0 x1).trans z2, (bcl hb _ 0 x0).trans z3, (bcl hb _ 1 x0).trans z4⟩
  have HT0 := Hid.mk2 (fun W (hb : Below w0.heap.size w0 W) => (hT.belowD HB0.out).belowD hb)
  by_cases hok : y.ok
  · rw [if_pos hok]
    rw [decide_eq_true hok] at HNM
    rcases lk_fis (y := y) hr with ⟨hf, hlk⟩ | ⟨hf, hlt, hnm, hlk⟩
    · rw [hf] at HFI
      have HV : Hid (getV D y = .tuple #[.int .i64 0, .bool false, .int .i64 0]) := by show _ = _; unfold getV; rw [hlk]; rfl
      clear hT hr hok hf hlk hl hcap
      go_enter Try.func30, Try.ntmps30
      go_upto_region 1 with (fail)
      rw [← hw0]
      clear hw0
      go_wp2_with (first
        | (go_at_call 44; refine (HFI.out _ HB1.out).mono ?_; rintro e w2 ⟨rfl, hb2⟩; have HB2 : Hid (Below w0.heap.size w0 w2) := HB1.out.trans (hb2.mono HB1.out.size); clear hb2)
        | (go_at_call 43; refine (HNM.out _).mono ?_; rintro e w1 ⟨rfl, hb1⟩; have HB1 : Hid (Below w0.heap.size w0 w1) := hb1; clear hb1 z2 z3 z4; obtain ⟨z2, z3, z4⟩ := HP.out _ HB1.out))
      try simp only [Exit.inBlock, Exit.then]
      exact bodyPost_ret (v := .tuple #[.int .i64 0, .bool false, .int .i64 0]) (by simp [results, Try.results30, go_sem]) rfl ⟨by rw [HV.out], HB0.out.trans (HB2.out.mono HB0.out.size)⟩
    · rw [hf] at HFI
      have HV : Hid (getV D y = .tuple #[.int .i64 D[fpos D y].2, .bool true, .int .i64 0]) := by show _ = _; unfold getV; rw [hlk]; rfl
      obtain ⟨i, hi⟩ : ∃ i, i = fpos D y := ⟨_, rfl⟩
      have HCX : Hid (∀ W, Below w0.heap.size w0 W → ∃ b off, ao = some ⟨b, off, none⟩ ∧ W.cell? ⟨b, off + i * 3 + 2, none⟩ = some (.int .i64 D[fpos D y].2)) := fun W hb => by
        rcases HT0.out W hb with e | ⟨b, off, e, hbb, hc⟩
        · rw [e] at hlt; simp at hlt
        · exact ⟨b, off, e, by rw [hi]; exact (hc _ hlt).2.2⟩
      obtain ⟨u, hu⟩ : ∃ u, u = D[fpos D y].2 := ⟨_, rfl⟩
      rw [← hu] at HV HCX
      rw [← hi] at HFI hlt
      have hltI : (i : Int) < (D.length : Int) := by omega
      obtain ⟨b, off, hao, _⟩ := HCX.out w0 (Below.refl _ _)
      subst hao
      clear hT hr hok hf hlk hi hu hnm
      go_enter Try.func30, Try.ntmps30
      go_upto_region 1 with (fail)
      rw [← hw0]
      clear hw0
      go_wp2_with (first
        | (go_at_call 44; refine (HFI.out _ HB1.out).mono ?_; rintro e w2 ⟨rfl, hb2⟩; have HB2 : Hid (Below w0.heap.size w0 w2) := HB1.out.trans (hb2.mono HB1.out.size); clear hb2 z2 z3 z4; obtain ⟨z2, z3, z4⟩ := HP.out _ HB2.out; obtain ⟨b', off', hao', hcx⟩ := HCX.out _ HB2.out; cases hao')
        | (go_at_call 43; refine (HNM.out _).mono ?_; rintro e w1 ⟨rfl, hb1⟩; have HB1 : Hid (Below w0.heap.size w0 w1) := hb1; clear hb1 z2 z3 z4; obtain ⟨z2, z3, z4⟩ := HP.out _ HB1.out))
      try simp only [Exit.inBlock, Exit.then]
      exact bodyPost_ret (v := .tuple #[.int .i64 u, .bool true, .int .i64 0]) (by simp [results, Try.results30, go_sem]) rfl ⟨by rw [HV.out], HB0.out.trans (HB2.out.mono HB0.out.size)⟩
  · rw [if_neg hok]
    rw [decide_eq_false hok] at HNM
    clear hT hr hok HFI
    go_enter Try.func30, Try.ntmps30
    go_upto_region 1 with (fail)
    rw [← hw0]
    clear hw0
    go_wp2_with (go_at_call 43; refine (HNM.out _).mono ?_; rintro e w1 ⟨rfl, hb1⟩; have HB1 : Hid (Below w0.heap.size w0 w1) := hb1; clear hb1)
    try simp only [Exit.inBlock, Exit.then]
    exact bodyPost_ret (v := .tuple #[.int .i64 0, .bool false, .int .i64 8]) (by simp [results, Try.results30, go_sem]) rfl ⟨rfl, HB0.out.trans (HB1.out.mono HB0.out.size)⟩
end Go.Proofs.Ytlomciinkpecpaa
