/-
  BagWhole is true for all bytes and places: what is cut into pieces is put together again as it was; no condition.
-/
import Derived.Test.YtgfhjkphdmkmoacBgPieces
import Derived.Test.YtgfhjkphdmkmoacBgAlive
import Derived.Test.YtgfhjkphdmkmoacBgRows
namespace Go.Proofs.Ytgfhjkphdmkmoac
open Go.ChangeShapes Go.WideShapes Go.ChangeAt Go.RowKit
open Go.ChangeMaps (open_string shut_string)
set_option linter.unusedSimpArgs false
set_option linter.unusedVariables false
set_option maxRecDepth 100000

theorem pieces_small {b : List UInt8} {at_ : List Int} (h : b.length ≤ 16384) : ∀ p ∈ piecesL b at_, p.length ≤ 140737488355328 := by
  intro p hp
  unfold piecesL at hp
  split at hp
  · have hx : ∀ (xs : List Int) (f : Nat), p ∈ pcs b f xs → p.length ≤ b.length := by
      intro xs
      induction xs with
      | nil => intro f h; simp [pcs] at h; rw [h]; simp
      | cons x xs ih =>
        intro f h
        simp only [pcs, List.mem_cons] at h
        rcases h with rfl | h
        · simp; omega
        · exact ih _ h
    have := hx at_ 0 hp
    omega
  · simp at hp
theorem pieces_short {b : List UInt8} {at_ : List Int} (h : piecesE b at_ = 0) : b.length ≤ 16384 := by
  unfold piecesE at h
  split at h
  · cases h
  · omega

set_option maxHeartbeats 1000000 in
theorem bagWhole_walk (w : World) (a0 : Option Addr) (len0 cap0 : Nat) (b : List UInt8) (hi0 : InBytes w a0 len0 cap0 b) (a1 : Option Addr) (len1 cap1 : Nat) (at_ : List Int) (hi1 : InInts w a1 len1 cap1 at_) :
    Calls Try.prog 7 #[.slice a0 len0 cap0, .slice a1 len1 cap1] w fun e w' => e = .returned (.bool true) ∧ Below w.heap.size w w' := by
  obtain ⟨rfl, h01, h02, h03, h04⟩ := hi0
  obtain ⟨rfl, h1⟩ := hi1
  have HB : Hid (Sl w a0 b cap0) := ⟨h01, h02, h03, h04⟩
  have HI : Hid (Il w a1 at_ cap1) := h1
  have hbm : b.length ≤ 9223372036854775807 := Nat.le_trans h01 h02
  have him : at_.length ≤ 9223372036854775807 := Nat.le_trans h1.hl h1.hc
  clear h01 h02 h03 h04 h1
  have hal := fun W => balive_any W
  by_cases g0 : (100000 : Int) < (b.length : Int)
  · go_enter Try.func7, Try.ntmps7
    go_wp2_with (go_at_call 20; refine (hal _).mono ?_; rintro e w1 ⟨rfl, hb1⟩)
    go_ret
    exact ⟨rfl, hb1⟩
  · have g0' : decide ((100000 : Int) < (b.length : Int)) = false := by simp; omega
    by_cases g1 : (1000 : Int) < (at_.length : Int)
    · go_enter Try.func7, Try.ntmps7
      go_wp2_with (go_at_call 20; refine (hal _).mono ?_; rintro e w1 ⟨rfl, hb1⟩)
      go_ret
      exact ⟨rfl, hb1⟩
    · have g1' : decide ((1000 : Int) < (at_.length : Int)) = false := by simp; omega
      have hpc := fun W (h : Below w.heap.size w W) => pieces_any W a0 b cap0 (HB.out.below h) a1 at_ cap1 (HI.out.below h)
      by_cases hE : piecesE b at_ = 0
      · obtain ⟨j1, j2, j3⟩ := whole hE
        rw [hE] at hpc
        have hroom := pieces_small (at_ := at_) (pieces_short hE)
        obtain ⟨L, hL⟩ : ∃ L, L = piecesL b at_ := ⟨_, rfl⟩
        rw [← hL] at j1 j2 j3 hpc hroom
        have hjn := fun W ao cap (h : Ll W ao L cap) => join_any W ao L cap h hroom
        rw [j1, j2] at hjn
        have HPC : Hid (∀ W, Below w.heap.size w W → Calls Try.prog 15 #[.slice a0 b.length cap0, .slice a1 at_.length cap1] W fun e w' => ∃ v', e = .returned (.tuple #[v', .int .i64 0]) ∧ OwnLs w' W.heap.size v' L ∧ Below W.heap.size W w') := hpc
        have HJN : Hid (∀ W ao cap, Ll W ao L cap → Calls Try.prog 24 #[.slice ao L.length cap] W fun e w' => ∃ v', e = .returned (.tuple #[v', .int .i64 0]) ∧ Own w' W.heap.size v' b ∧ Below W.heap.size W w') := hjn
        have J3 : ((L.length : Int) == (at_.length : Int) + 1) = true := by simp; omega
        clear hpc hjn j1 j2 j3 hroom hL hE
        go_enter Try.func7, Try.ntmps7
        go_wp2_with (first
          | (go_at_call 20; refine (hal _).mono ?_; rintro e w1 ⟨rfl, hb1⟩)
          | (go_at_call 15; refine (HPC.out w1 hb1).mono ?_; rintro e w2 ⟨v2, rfl, ho2, hb2⟩; obtain ⟨vo, vc, hv2, hl2⟩ := ho2.ll; subst hv2; have hb02 := hb1.trans (hb2.mono hb1.size))
          | (go_at_call 24; refine (HJN.out w2 vo vc hl2).mono ?_; rintro e w3 ⟨v3, rfl, ho3, hb3⟩; have q3 := ho3.conv w3 (Below.refl _ _); have hb03 := hb02.trans (hb3.mono hb02.size); have q0 := HB.out.conv rfl w3 hb03))
        all_goals
          go_ret
          exact ⟨rfl, hb03⟩
      · have hR : piecesL b at_ = [] := by unfold piecesL; rw [if_neg hE]
        obtain ⟨E, hEe⟩ : ∃ E, E = piecesE b at_ := ⟨_, rfl⟩
        rw [hR, ← hEe] at hpc
        have hne : (E != 0) = true := by rw [hEe]; simpa using hE
        have HPC : Hid (∀ W, Below w.heap.size w W → Calls Try.prog 15 #[.slice a0 b.length cap0, .slice a1 at_.length cap1] W fun e w' => ∃ v', e = .returned (.tuple #[v', .int .i64 E]) ∧ OwnLs w' W.heap.size v' [] ∧ Below W.heap.size W w') := hpc
        clear hpc hR hEe hE
        go_enter Try.func7, Try.ntmps7
        go_wp2_with (first
          | (go_at_call 20; refine (hal _).mono ?_; rintro e w1 ⟨rfl, hb1⟩)
          | (go_at_call 15; refine (HPC.out w1 hb1).mono ?_; rintro e w2 ⟨v2, rfl, ho2, hb2⟩; obtain ⟨vo, vc, hv2, hl2⟩ := ho2.ll; subst hv2; have hb02 := hb1.trans (hb2.mono hb1.size)))
        go_ret
        exact ⟨rfl, hb02⟩

set_option maxRecDepth 100000 in
theorem bagWhole_lifted (os : Os) (started : os.Started) (H : Type) (enc : TypeId × Value → H) :
    ReturnsInHanded {} Try.checked os 7 .any (Rows.bagWholeSpec.pre6 enc Try.prog Try.f7 Rows.bagWholeRow.domain false) (Rows.bagWholeSpec.post enc Try.prog Try.f7 false true false false) := by
  refine returnsInHanded_of_change (C := Try.checked) (by kernel_rfl) started (by kernel_rfl) Try.func7
    (ChangeSpec.witness6 (enc := enc) (C := Try.checked) false ⟨#[], #[.slice none 0 0, .slice none 0 0], []⟩ 8 (by kernel_rfl) (by kernel_rfl) (by kernel_rfl) (by kernel_rfl)) ?_
  intro W base args ds gs before hval0 hW hcnd _
  have hval : ∀ (j : Nat) t v, Try.f7.params[j]? = some t → args[j]? = some v → Value.okWide Try.prog W .any base t v := hval0
  have hW' := hW
  obtain ⟨p, q, hA0, hV, rfl, hfz, hnd⟩ := hW
  have hA : DataW.TrodAll enc Try.prog W 0 (fun _ => true) true Try.f7.params.toList args.toList ds p := hA0
  rw [Try.params7] at hA hval
  obtain ⟨v0, vs0, d0, ds0, p0, q0, hargs, rfl, rfl, h0, r0⟩ := trodAll_cons hA
  obtain ⟨v1, vs1, d1, ds1, p1, q1, rfl, rfl, rfl, h1, r1⟩ := trodAll_cons r0
  obtain ⟨rfl, rfl, rfl⟩ := trodAll_nil r1
  obtain rfl : args = #[v0, v1] := by cases args; simp_all
  obtain ⟨rfl, rfl⟩ := trodVars_none hV
  have k0 := h0
  have lt0 : ∀ x ∈ p0, x.block < W.heap.size := by obtain ⟨m, hm⟩ := k0; exact DataW.trod_lt m _ _ _ hm
  obtain ⟨a0, len0, cap0, rfl⟩ := okWide_slice Try.underlying22 (hval 0 22 v0 rfl rfl)
  obtain ⟨l0, w0⟩ := inBytes_of (fun _ => rfl) h0
  have k1 := h1
  have lt1 : ∀ x ∈ p1, x.block < W.heap.size := by obtain ⟨m, hm⟩ := k1; exact DataW.trod_lt m _ _ _ hm
  obtain ⟨a1, len1, cap1, rfl⟩ := okWide_slice Try.underlying39 (hval 1 39 v1 rfl rfl)
  obtain ⟨l1, w1⟩ := inInts_of (fun _ => rfl) h1
  clear hA0 hval0
  refine (bagWhole_walk W a0 len0 cap0 l0 w0 a1 len1 cap1 l1 w1).mono fun e W' ⟨he, bel⟩ => ?_
  subst he
  exact ⟨_, rfl, _, _, _, [], _, [], hW', trodAll_mk1 (shut_bool Try.underlying4 _), (trodAll_cons_mk (Below.trod laidOut_all (by kernel_rfl) (of_decide_eq_true (by kernel_rfl)) k0 bel lt0) (trodAll_cons_mk (Below.trod laidOut_all (by kernel_rfl) (of_decide_eq_true (by kernel_rfl)) k1 bel lt1) trodAll_mk0)), rfl, bel.frame _, fun h => by cases h⟩

theorem bagWhole_proved : Rows.BagWholeSaid :=
  OpenClaim.holds_of_wide 7 Try.f7 rfl rfl rfl rfl rfl rfl rfl ⟨rfl, rfl, rfl, rfl, rfl⟩ rfl rfl rfl rfl rfl (by kernel_rfl) Try.func7 (by kernel_rfl)
    (of_decide_eq_true (by kernel_rfl)) (by unfold Func.isWrapper; first | (rw [if_pos (by decide +kernel)]; kernel_rfl) | (rw [if_neg (by decide +kernel)]; exact ⟨rfl, rfl⟩))
    (fun os started H enc _ => bagWhole_lifted os started H enc)
#print axioms bagWhole_proved
end Go.Proofs.Ytgfhjkphdmkmoac
