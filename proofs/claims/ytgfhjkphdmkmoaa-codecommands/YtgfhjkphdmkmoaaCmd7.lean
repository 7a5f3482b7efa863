/-
  The document's comparison of commands; a command that came in.
-/
import Derived.Test.YtgfhjkphdmkmoaaCmd6
import Derived.Test.YtgfhjkphdmkmoaaRows3
import Derived.SliceStrings
import Derived.SizedLaws
namespace Go.Proofs.Ytgfhjkphdmkmoaa
open Go.ChangeShapes Go.WideShapes Go.ChangeAt Go.RowKit
open Go.ChangeMaps (open_string shut_string)
set_option linter.unusedSimpArgs false
set_option linter.unusedVariables false
set_option maxRecDepth 100000

theorem sameTexts_row (w : World) (b off b' off' : Nat) (ks : List ByteArray) (cap cap' : Nat) (hm : ks.length ≤ 9223372036854775807) (hc : ∀ j (hj : j < ks.length), w.cell? ⟨b, off + j, none⟩ = some (.string ks[j])) (hc' : ∀ j (hj : j < ks.length), w.cell? ⟨b', off' + j, none⟩ = some (.string ks[j])) :
    Calls Try.prog 57 #[.slice (some ⟨b, off, none⟩) ks.length cap, .slice (some ⟨b', off', none⟩) ks.length cap'] w fun e w' => e = .returned (.bool true) ∧ ∃ n, w' = w.drewN n := by
  have HC : Hid (∀ j (hj : j < ks.length), w.cell? ⟨b, off + j, none⟩ = some (.string ks[j])) := hc
  have HD : Hid (∀ j (hj : j < ks.length), w.cell? ⟨b', off' + j, none⟩ = some (.string ks[j])) := hc'
  clear hc hc'
  go_enter Try.func57, Try.ntmps57
  go_wp2
  go_loopw [5] (fun i wr => ∃ k n : Nat, k ≤ ks.length ∧ i = .int .i64 k ∧ wr = w.drewN n) (fun i _ => ks.length - (intOf i).toNat)
  case atStart => exact ⟨0, 0, Nat.zero_le _, rfl, rfl⟩
  case round =>
    obtain ⟨k, n, hk, rfl, rfl⟩ := hrel
    by_cases hlt : k < ks.length
    · have hlt2 : (k : Int) < (ks.length : Int) := by omega
      obtain ⟨p, hpe⟩ : ∃ p, p = ks[k] := ⟨_, rfl⟩
      have hL := HC.out k hlt
      have hM := HD.out k hlt
      rw [← hpe] at hL hM
      clear hpe
      go_wp2
      go_big_quiet (fail)
      go_wp2
      go_roundw
      case rel => exact ⟨k + 1, _, by omega, by go_num, rfl⟩
      case measure => simp [intOf]; omega
    · go_wp2
      go_ret
      exact ⟨rfl, n, rfl⟩
theorem sameTexts_none (w : World) (ao ao' : Option Addr) (cap cap' : Nat) :
    Calls Try.prog 57 #[.slice ao 0 cap, .slice ao' 0 cap'] w fun e w' => e = .returned (.bool true) ∧ ∃ n, w' = w.drewN n := by
  go_enter Try.func57, Try.ntmps57
  go_wp2
  refine wp_loop_rounds 1 ?_
  rw [rounds_succ]
  go_wp2
  go_ret
  exact ⟨rfl, 0, rfl⟩
theorem sameTexts_tl (w : World) (ao ao' : Option Addr) (ks : List ByteArray) (cap cap' : Nat) (h : Tl w ao ks cap) (h' : Tl w ao' ks cap') :
    Calls Try.prog 57 #[.slice ao ks.length cap, .slice ao' ks.length cap'] w fun e w' => e = .returned (.bool true) ∧ Below w.heap.size w w' := by
  have key : Calls Try.prog 57 #[.slice ao ks.length cap, .slice ao' ks.length cap'] w fun e w' => e = .returned (.bool true) ∧ ∃ n, w' = w.drewN n := by
    rcases h.at_ with rfl | ⟨b, off, rfl, hb, hc⟩
    · exact sameTexts_none w ao ao' cap cap'
    · rcases h'.at_ with rfl | ⟨b', off', rfl, hb', hc'⟩
      · exact sameTexts_none w _ _ cap cap'
      · exact sameTexts_row w b off b' off' ks cap cap' (Nat.le_trans h.hl h.hc) hc hc'
  refine key.mono ?_
  rintro e w' ⟨rfl, n, rfl⟩
  exact ⟨rfl, below_drewN2 (Below.refl _ _) n⟩

/-- a command is the same as itself, wherever its keys lie -/
theorem sameCommand_any (c : Cmd) (w : World) (ko ko' : Option Addr) (kc kc' : Nat) (h : Tl w ko c.keys kc) (h' : Tl w ko' c.keys kc') :
    Calls Try.prog 32 #[.agg (c.cells (.slice ko c.keys.length kc)).toArray, .agg (c.cells (.slice ko' c.keys.length kc')).toArray] w fun e w' => e = .returned (.bool true) ∧ Below w.heap.size w w' := by
  obtain ⟨kind, tenant, keys, value, flags, dur, unique, by_⟩ := c
  unfold Cmd.cells bcell
  simp only [] at h h' ⊢
  have HS : Hid (∀ W, Below w.heap.size w W → Calls Try.prog 57 #[.slice ko keys.length kc, .slice ko' keys.length kc'] W fun e w' => e = .returned (.bool true) ∧ Below W.heap.size W w') := fun W hW => sameTexts_tl W ko ko' keys kc kc' (h.below hW) (h'.below hW)
  clear h h'
  obtain ⟨W, hW⟩ : ∃ W, W = (w.alloc (Obj.cells #[Value.int IntKind.u8 ↑kind.toNat, Value.int IntKind.i64 tenant, Value.slice ko keys.length kc, Value.string value, Value.int IntKind.u32 ↑flags, Value.int IntKind.i64 dur, Value.int IntKind.u64 ↑unique, Value.int IntKind.u64 ↑by_] 36)).alloc (Obj.cells #[Value.int IntKind.u8 ↑kind.toNat, Value.int IntKind.i64 tenant, Value.slice ko' keys.length kc', Value.string value, Value.int IntKind.u32 ↑flags, Value.int IntKind.i64 dur, Value.int IntKind.u64 ↑unique, Value.int IntKind.u64 ↑by_] 36) := ⟨_, rfl⟩
  have hbW : Below w.heap.size w W := by rw [hW]; exact ((Below.refl _ _).alloc (Nat.le_refl _) _).alloc (by simp) _
  have ha : ∀ j v, (#[Value.int IntKind.u8 ↑kind.toNat, Value.int IntKind.i64 tenant, Value.slice ko keys.length kc, Value.string value, Value.int IntKind.u32 ↑flags, Value.int IntKind.i64 dur, Value.int IntKind.u64 ↑unique, Value.int IntKind.u64 ↑by_] : Array Value)[j]? = some v → W.cell? ⟨w.heap.size, j, none⟩ = some v := by
    intro j v hv
    rw [hW, World.cell?_alloc_past _ _ _ (by simp), World.cell?_alloc_at _ _ _ _ rfl]
    exact hv
  have hb : ∀ j v, (#[Value.int IntKind.u8 ↑kind.toNat, Value.int IntKind.i64 tenant, Value.slice ko' keys.length kc', Value.string value, Value.int IntKind.u32 ↑flags, Value.int IntKind.i64 dur, Value.int IntKind.u64 ↑unique, Value.int IntKind.u64 ↑by_] : Array Value)[j]? = some v → W.cell? ⟨w.heap.size + 1, j, none⟩ = some v := by
    intro j v hv
    rw [hW, World.cell?_alloc_at _ _ _ _ (by simp)]
    exact hv
  have hsz : w.heap.size + 2 ≤ W.heap.size := by rw [hW]; simp
  have HA : Hid (∀ V, Below W.heap.size W V → V.cell? ⟨w.heap.size, 3, none⟩ = some (.string value) ∧ V.cell? ⟨w.heap.size, 4, none⟩ = some (.int .u32 flags) ∧ V.cell? ⟨w.heap.size, 5, none⟩ = some (.int .i64 dur) ∧ V.cell? ⟨w.heap.size, 6, none⟩ = some (.int .u64 unique) ∧ V.cell? ⟨w.heap.size, 7, none⟩ = some (.int .u64 by_) ∧ V.cell? ⟨w.heap.size + 1, 3, none⟩ = some (.string value) ∧ V.cell? ⟨w.heap.size + 1, 4, none⟩ = some (.int .u32 flags) ∧ V.cell? ⟨w.heap.size + 1, 5, none⟩ = some (.int .i64 dur) ∧ V.cell? ⟨w.heap.size + 1, 6, none⟩ = some (.int .u64 unique) ∧ V.cell? ⟨w.heap.size + 1, 7, none⟩ = some (.int .u64 by_)) := by
    intro V hV
    have e1 : ∀ j v, W.cell? ⟨w.heap.size, j, none⟩ = some v → V.cell? ⟨w.heap.size, j, none⟩ = some v := fun j v h => (hV.cell (p := ⟨w.heap.size, j, none⟩) (by show w.heap.size < _; omega)).trans h
    have e2 : ∀ j v, W.cell? ⟨w.heap.size + 1, j, none⟩ = some v → V.cell? ⟨w.heap.size + 1, j, none⟩ = some v := fun j v h => (hV.cell (p := ⟨w.heap.size + 1, j, none⟩) (by show w.heap.size + 1 < _; omega)).trans h
    exact ⟨e1 _ _ (ha 3 _ rfl), e1 _ _ (ha 4 _ rfl), e1 _ _ (ha 5 _ rfl), e1 _ _ (ha 6 _ rfl), e1 _ _ (ha 7 _ rfl), e2 _ _ (hb 3 _ rfl), e2 _ _ (hb 4 _ rfl), e2 _ _ (hb 5 _ rfl), e2 _ _ (hb 6 _ rfl), e2 _ _ (hb 7 _ rfl)⟩
  have HST := HS.out W hbW
  rw [hW] at HST HA hbW
  clear ha hb HS hW hsz
  go_enter Try.func32, Try.ntmps32
  go_wp2_with (go_at_call 57; refine HST.mono ?_; rintro e w1 ⟨rfl, hb1⟩; obtain ⟨x3, x4, x5, x6, x7, y3, y4, y5, y6, y7⟩ := HA.out w1 hb1)
  go_ret
  exact ⟨rfl, hbW.trans (hb1.mono hbW.size)⟩

variable {H : Type} {enc : TypeId × Value → H} {W : World} {base : Nat} {sp : Nat → Bool} {bb : Bool}
theorem Try.ccmd : Try.prog.cellsOf 36 = 8 := by kernel_rfl
theorem Try.cstrs : Try.prog.cellsOf 33 = 1 := by kernel_rfl

/-- a command that came in, as the walk wants it -/
def InCommand (w : World) (v : Value) (c : Cmd) : Prop := ∃ ko kc, v = .agg (c.cells (.slice ko c.keys.length kc)).toArray ∧ Tl w ko c.keys kc ∧ c.Good ∧ c.value.size ≤ 140737488355328
theorem inCommand_of {v : Value} {r : Reach} {b0 : Nat} {d : DataW H} {p : List MemPlace} (hsp : ∀ b, sp b = true) (hv : Value.okWide Try.prog W r b0 36 v)
    (hf : DataW.Trod enc Try.prog W base sp bb 36 v d p) (hw : ∀ n ∈ d.weights Try.prog 36, n ≤ reachBytes) : ∃ c, InCommand W v c := by
  obtain ⟨cs, rfl, hs⟩ := okWide_struct Try.underlying36 hv
  obtain ⟨fuel, hf⟩ := hf
  obtain ⟨xs, n, _, hx, hlen, hxl, hfs⟩ := DataW.trod_struct Try.underlying36 hf
  rw [Try.ccmd] at hs hlen
  obtain ⟨u0, u1, u2, u3, u4, u5, u6, u7, rfl⟩ : ∃ u0 u1 u2 u3 u4 u5 u6 u7, cs = #[u0, u1, u2, u3, u4, u5, u6, u7] := by
    cases cs with | mk l =>
    match l, hs with
    | [u0, u1, u2, u3, u4, u5, u6, u7], _ => exact ⟨u0, u1, u2, u3, u4, u5, u6, u7, rfl⟩
  match xs, hxl with
  | [y0, y1, y2, y3, y4, y5, y6, y7], _ =>
    have f0 := hfs 0 _ rfl
    have f1 := hfs 1 _ rfl
    have f2 := hfs 2 _ rfl
    have f3 := hfs 3 _ rfl
    have f4 := hfs 4 _ rfl
    have f5 := hfs 5 _ rfl
    have f6 := hfs 6 _ rfl
    have f7 := hfs 7 _ rfl
    simp [Try.c8, Try.c64, Try.cstrs, Try.cstr, Try.cu32, Try.cu64, Value.cells] at f0 f1 f2 f3 f4 f5 f6 f7
    obtain ⟨n0, e0, _, g0⟩ := DataW.trod_int Try.underlying5 f0
    obtain ⟨n1, e1, _, g1⟩ := DataW.trod_int Try.underlying3 f1
    obtain ⟨s3, e3, hx3, g3⟩ := DataW.trod_string Try.underlying9 f3
    obtain ⟨n4, e4, _, g4⟩ := DataW.trod_int Try.underlying34 f4
    obtain ⟨n5, e5, _, g5⟩ := DataW.trod_int Try.underlying3 f5
    obtain ⟨n6, e6, _, g6⟩ := DataW.trod_int Try.underlying22 f6
    obtain ⟨n7, e7, _, g7⟩ := DataW.trod_int Try.underlying22 f7
    obtain ⟨m4, rfl, b4⟩ := u32_of g4
    obtain ⟨m6, rfl, b6⟩ := u64_of g6
    obtain ⟨m7, rfl, b7⟩ := u64_of g7
    obtain ⟨k0, ek0⟩ := u8_of g0
    simp at e0 e1 e3 e4 e5 e6 e7
    subst e0 e1 e3 e4 e5 e6 e7
    have hv3 : s3.size ≤ 140737488355328 := by
      have hmem : s3.data.toList.length ∈ d.weights Try.prog 36 := by
        have hd : d = .agg [y0.1, y1.1, y2.1, y3.1, y4.1, y5.1, y6.1, y7.1] := (Prod.mk.inj hx).1
        rw [hd, hx3]
        simp [DataW.weights, DataW.weightsEach, Try.underlying36]
      have := hw _ hmem
      simp [reachBytes] at this
      omega
    rcases open_strings Try.underlying33 Try.underlying9 Try.cstr f2 with ⟨hcs, _⟩ | ⟨a, len, cap, ss, hcs, _, hl, hm, hz, _, hcell, hss⟩
    · simp at hcs
      subst hcs
      exact ⟨⟨k0, n1, [], s3, m4, n5, m6, m7⟩, none, 0, by simp [Cmd.cells, ek0], ⟨by simp, by omega, fun _ => rfl, .inl rfl⟩, ⟨b4, b6, b7⟩, hv3⟩
    · simp at hcs
      subst hcs
      rw [if_pos (hsp _)] at hz
      have hlen2 : (ss.take len).length = len := by simp; omega
      refine ⟨⟨k0, n1, ss.take len, s3, m4, n5, m6, m7⟩, some a, cap, by simp only [Cmd.cells, ek0, hlen2], ⟨by simp only [hlen2]; exact hl, hm, (by intro e; cases e), ?_⟩, ⟨b4, b6, b7⟩, hv3⟩
      by_cases h0 : len = 0
      · subst h0; exact .inl rfl
      · obtain ⟨b, off, spot⟩ := a
        have hspot : spot = none := by simpa [Addr.add] using World.cell?_spot (hcell 0 (by omega))
        subst hspot
        refine .inr ⟨b, off, rfl, World.block_lt_of_cell? W _ (hcell 0 (by omega)), fun j hj => ?_⟩
        have hj' : j < ss.length := by simp at hj; omega
        have := hcell j hj'
        rw [addr_add] at this
        rw [this]
        simp [hj']
end Go.Proofs.Ytgfhjkphdmkmoaa
