/-
  Calls that are refused; names held against each other.
-/
import Derived.Test.YtlomciinkpecpaaTbAll
namespace Go.Proofs.Ytlomciinkpecpaa
open Go.RowKit
set_option linter.unusedSimpArgs false
set_option linter.unusedVariables false
set_option maxRecDepth 100000

theorem all_x (w : World) (base p : Nat) (T : List NU) (C : Nat) (h : TBx w base p T C) (hC : T.length ≤ C) (hC2 : C ≤ 200000) :
    Calls Try.prog 11 #[.pointer (some ⟨p, 0, none⟩)] w fun e w' => ∃ ao cap S, e = .returned (.tuple #[.slice ao T.length cap, .int .i64 0]) ∧ Alls w w' T ao cap S := by
  obtain ⟨m, F, hm, h1⟩ := h
  exact all_ok w base p T m C F h1 hC hC2
theorem NsAt.below {w w' : World} {ao : Option Addr} {ns : List Nm} (h : NsAt w ao ns) (hb : Below w.heap.size w w') : NsAt w' ao ns := by
  rcases h with rfl | ⟨b, rfl, hlt, hc⟩
  · exact .inl rfl
  · exact .inr ⟨b, rfl, Nat.lt_of_lt_of_le hlt hb.size, fun i hi => ⟨(bcl hb _ _ hlt).trans (hc i hi).1, (bcl hb _ _ hlt).trans (hc i hi).2⟩⟩
set_option maxHeartbeats 1000000 in
theorem sameNames_or (w : World) (ao bo : Option Addr) (ac bc : Nat) (ns : List Nm) (h : NsAt w ao ns) (h' : NsAt w bo ns) (hm : ns.length ≤ 1000000000) (hac : ns.length ≤ ac) (hbc : ns.length ≤ bc) (hac2 : ac ≤ maxLen) (hbc2 : bc ≤ maxLen) :
    Calls Try.prog 16 #[.slice ao ns.length ac, .slice bo ns.length bc] w fun e w' => e = .returned (.bool true) ∧ ∃ n, w' = w.drewN n := by
  have HA := Hid.mk2 h
  have HB := Hid.mk2 h'
  unfold maxLen at hac2 hbc2
  clear h h'
  go_enter Try.func16, Try.ntmps16
  go_wp2
  go_loopw [5] (fun i wr => ∃ k n : Nat, k ≤ ns.length ∧ i = .int .i64 k ∧ wr = w.drewN n) (fun i _ => ns.length - (intOf i).toNat)
  case atStart => exact ⟨0, 0, Nat.zero_le _, rfl, rfl⟩
  case round =>
    obtain ⟨k, n, hk, rfl, rfl⟩ := hrel
    by_cases hlt : k < ns.length
    · have hlt2 : (k : Int) < (ns.length : Int) := by omega
      rcases HA.out with h0 | ⟨b, rfl, _, hA⟩
      · rw [h0] at hlt; simp at hlt
      rcases HB.out with h0 | ⟨b', rfl, _, hB⟩
      · rw [h0] at hlt; simp at hlt
      obtain ⟨q0, q1⟩ := hA k hlt
      obtain ⟨r0, r1⟩ := hB k hlt
      obtain ⟨y, hy⟩ : ∃ y, y = ns[k] := ⟨_, rfl⟩
      rw [← hy] at q0 q1 r0 r1
      clear hy hA hB
      go_wp2
      go_quiet (fail)
      go_wp2
      go_roundw
      case rel => exact ⟨k + 1, _, by omega, by go_num, rfl⟩
      case measure => simp [intOf]; omega
    · have hlt2 : ¬ (k : Int) < (ns.length : Int) := by omega
      go_wp2
      go_ret
      exact ⟨rfl, n, rfl⟩
theorem isMade_nil (w : World) : Calls Try.prog 25 #[.pointer none] w fun e w' => e = .returned (.bool false) ∧ w' = w := by
  go_enter Try.func25, Try.ntmps25
  go_wp2
  go_ret
  exact ⟨rfl, rfl⟩
theorem ptr_none (p : Nat) (W : World) : (binOp .eql 23 (.pointer none) (.pointer (some ⟨p, 0, none⟩))).run Try.prog W = .ok (.bool false) W := by
  have h9 : (Op.equalIn (9999 + 1) 23 (.pointer none) (.pointer (some ⟨p, 0, none⟩))).run Try.prog W = .ok false W := by
    have hse : (Go.sizeOf 39).run Try.prog W = .ok 6 W := by kernel_rfl
    rw [Op.equalIn]
    simp only [Sem.run_bind, run_underlying Try.underlying23, Result.andThen_ok]
    simp [hse, sameAddr]
  simp only [binOp]
  have : (Op.equal 23 (.pointer none) (.pointer (some ⟨p, 0, none⟩))).run Try.prog W = .ok false W := h9
  simp [this]
theorem isMade_plain (w : World) (p : Nat) (h : w.cell? ⟨p, 0, none⟩ = some (.pointer none)) :
    Calls Try.prog 25 #[.pointer (some ⟨p, 0, none⟩)] w fun e w' => e = .returned (.bool false) ∧ w' = w := by
  have hps := fun W => ptr_none p W
  go_enter Try.func25, Try.ntmps25
  go_wp2
  go_ret
  exact ⟨rfl, rfl⟩
theorem len_plain (w : World) (p : Nat) (h : w.cell? ⟨p, 0, none⟩ = some (.pointer none)) :
    Calls Try.prog 14 #[.pointer (some ⟨p, 0, none⟩)] w fun e w' => e = .returned (.tuple #[.int .i64 0, .int .i64 1]) ∧ w' = w := by
  have HM := Hid.mk2 (isMade_plain w p h)
  go_enter Try.func14, Try.ntmps14
  go_wp2_with (go_at_call 25; refine HM.out.mono ?_; rintro e w1 ⟨rfl, hwq⟩; obtain rfl := hwq.symm)
  go_ret2
  exact ⟨rfl, rfl⟩
theorem moved_plain (w : World) (p : Nat) (h : w.cell? ⟨p, 0, none⟩ = some (.pointer none)) :
    Calls Try.prog 15 #[.pointer (some ⟨p, 0, none⟩)] w fun e w' => e = .returned (.tuple #[.int .i64 0, .int .i64 1]) ∧ w' = w := by
  have HM := Hid.mk2 (isMade_plain w p h)
  go_enter Try.func15, Try.ntmps15
  go_wp2_with (go_at_call 25; refine HM.out.mono ?_; rintro e w1 ⟨rfl, hwq⟩; obtain rfl := hwq.symm)
  go_ret2
  exact ⟨rfl, rfl⟩
theorem begin_nil (w : World) (y : Nm) :
    Calls Try.prog 21 #[.pointer none, .agg #[.int .i64 y.tenant, .string y.key]] w fun e w' => e = .returned (.int .i64 1) ∧ Below w.heap.size w w' := by
  have hb : Below w.heap.size w (w.alloc (Obj.cells #[.int .i64 y.tenant, .string y.key] 28)) := (Below.refl _ _).alloc (Nat.le_refl _) _
  have HB := Hid.mk2 hb
  clear hb
  go_enter Try.func21, Try.ntmps21
  go_wp2_with (go_at_call 25; refine (isMade_nil _).mono ?_; rintro e w1 ⟨rfl, hwq⟩; obtain rfl := hwq.symm)
  go_ret
  exact ⟨rfl, HB.out⟩
theorem get_nil (w : World) (y : Nm) :
    Calls Try.prog 13 #[.pointer none, .agg #[.int .i64 y.tenant, .string y.key]] w fun e w' => e = .returned (.tuple #[.int .i64 0, .bool false, .int .i64 1]) ∧ Below w.heap.size w w' := by
  have HB : Hid (Below w.heap.size w (w.alloc (Obj.cells #[.int .i64 y.tenant, .string y.key] 28))) := (Below.refl _ _).alloc (Nat.le_refl _) _
  have HBN := Hid.mk2 (fun W => begin_nil W y)
  go_enter Try.func13, Try.ntmps13
  go_wp2_with (go_at_call 21; refine (HBN.out _).mono ?_; rintro e w1 ⟨rfl, hb1⟩; have HB1 : Hid (Below w.heap.size w w1) := HB.out.trans (hb1.mono HB.out.size); clear hb1)
  try simp only [Exit.inBlock, Exit.then]
  refine bodyPost_ret (v := .tuple #[.int .i64 0, .bool false, .int .i64 1]) (by simp [results, Try.results13, go_sem]) rfl ⟨rfl, HB1.out⟩
theorem put_nil (w : World) (y : Nm) (x : Int) :
    Calls Try.prog 9 #[.pointer none, .agg #[.int .i64 y.tenant, .string y.key], .int .i64 x] w fun e w' => e = .returned (.int .i64 1) ∧ Below w.heap.size w w' := by
  have HB : Hid (Below w.heap.size w (w.alloc (Obj.cells #[.int .i64 y.tenant, .string y.key] 28))) := (Below.refl _ _).alloc (Nat.le_refl _) _
  have HBN := Hid.mk2 (fun W => begin_nil W y)
  go_enter Try.func9, Try.ntmps9
  go_wp2_with (go_at_call 21; refine (HBN.out _).mono ?_; rintro e w1 ⟨rfl, hb1⟩; have HB1 : Hid (Below w.heap.size w w1) := HB.out.trans (hb1.mono HB.out.size); clear hb1)
  go_ret
  exact ⟨rfl, HB1.out⟩
theorem put_bad (w : World) (base p : Nat) (T : List NU) (moved0 C : Nat) (F : Nat → Prop) (h : TB w base p T moved0 C F) (y : Nm) (hy : ¬ y.ok) (x : Int) :
    Calls Try.prog 9 #[.pointer (some ⟨p, 0, none⟩), .agg #[.int .i64 y.tenant, .string y.key], .int .i64 x] w fun e w' => e = .returned (.int .i64 8) ∧ Below w.heap.size w w' := by
  have HB : Hid (Below w.heap.size w (w.alloc (Obj.cells #[.int .i64 y.tenant, .string y.key] 28))) := (Below.refl _ _).alloc (Nat.le_refl _) _
  have HBN := Hid.mk2 (fun W (hb : Below w.heap.size w W) => begin_bad W base p T moved0 C F (h.below hb) y hy)
  clear h hy
  go_enter Try.func9, Try.ntmps9
  go_wp2_with (go_at_call 21; refine (HBN.out _ HB.out).mono ?_; rintro e w1 ⟨rfl, hb1⟩; have HB1 : Hid (Below w.heap.size w w1) := HB.out.trans (hb1.mono HB.out.size); clear hb1)
  go_ret
  exact ⟨rfl, HB1.out⟩
theorem putbad_x (w : World) (base p : Nat) (T : List NU) (C : Nat) (h : TBx w base p T C) (y : Nm) (hy : ¬ y.ok) (x : Int) :
    Calls Try.prog 9 #[.pointer (some ⟨p, 0, none⟩), .agg #[.int .i64 y.tenant, .string y.key], .int .i64 x] w fun e w' => e = .returned (.int .i64 8) ∧ Below w.heap.size w w' := by
  obtain ⟨m, F, hm, h1⟩ := h
  exact put_bad w base p T m C F h1 y hy x
end Go.Proofs.Ytlomciinkpecpaa
