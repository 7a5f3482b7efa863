/-
  Contract of Free.
-/
import Derived.Test.YtkcgleahbhmggaaSbTake
namespace Go.Proofs.Ytkcgleahbhmggaa
open Go.RowKit
set_option linter.unusedSimpArgs false
set_option linter.unusedVariables false
set_option maxRecDepth 100000

theorem and_xor {u k : Nat} (hu : u < 65536) (hk : k < 16) (h : u.testBit k = true) : u &&& (65535 - 2 ^ k) = u ^^^ 2 ^ k := by
  have e : 65535 - 2 ^ k = 2 ^ 16 - (2 ^ k + 1) := by omega
  have hp : 2 ^ k < 2 ^ 16 := Nat.pow_lt_pow_right (by decide) hk
  rw [e]
  apply Nat.eq_of_testBit_eq
  intro i
  rw [Nat.testBit_and, Nat.testBit_two_pow_sub_succ hp, Nat.testBit_xor, Nat.testBit_two_pow]
  by_cases hi : k = i
  · subst hi; simp [h]
  · simp [hi]
    intro h1
    apply Decidable.byContradiction
    intro h2
    have h3 : u < 2 ^ i := Nat.lt_of_lt_of_le hu (by have : 2 ^ 16 ≤ 2 ^ i := Nat.pow_le_pow_right (by decide) (by omega); simpa using this)
    rw [Nat.testBit_lt_two_pow h3] at h1
    cases h1
theorem xor_sub {u k : Nat} (h : u.testBit k = true) : u ^^^ 2 ^ k = u - 2 ^ k := by
  have h1 : (u ^^^ 2 ^ k).testBit k = false := by rw [Nat.testBit_xor, h, Nat.testBit_two_pow_self]; rfl
  have h2 := or_add h1
  have h3 : (u ^^^ 2 ^ k) ||| 2 ^ k = u := by
    apply Nat.eq_of_testBit_eq
    intro i
    rw [Nat.testBit_or, Nat.testBit_xor, Nat.testBit_two_pow]
    by_cases hi : k = i
    · subst hi; simp [h]
    · simp [hi]
  omega
theorem and_sub {u k : Nat} (hu : u < 65536) (hk : k < 16) (h : u.testBit k = true) : u &&& (65535 - 2 ^ k) = u - 2 ^ k := by
  rw [and_xor hu hk h, xor_sub h]
theorem hasK_lt {p : Pg} {k : Int} (ho : pOk p = true) (h : hasK p k = true) : 0 ≤ k ∧ k < (chunks p.c : Int) ∧ p.u.testBit k.toNat = true := by
  unfold hasK at h
  simp at h
  refine ⟨h.1.1, ?_, h.2⟩
  have hu := pOk_u ho
  apply Decidable.byContradiction
  intro hn
  have h2 : chunks p.c ≤ k.toNat := by omega
  have h3 : p.u < 2 ^ k.toNat := Nat.lt_of_lt_of_le hu (Nat.pow_le_pow_right (by decide) h2)
  rw [Nat.testBit_lt_two_pow h3] at h
  exact absurd h.2 (by simp)
theorem free_bad1 (w : World) (ao : Option Addr) (ps : List Pg) (cap : Nat) (h : Sb w ao ps cap) (i k : Int) (he : sOk ps = false) :
    Calls Try.prog 28 #[.agg #[.slice ao ps.length cap], .int .i64 i, .int .i64 k] w fun e w' => e = .returned (.tuple #[.agg #[.slice none 0 0], .int .i64 8]) ∧ Below w.heap.size w w' := by
  have HCK := Hid.mk2 (fun W (hb : Below w.heap.size w W) => scheck_any W ao ps cap (h.below hb))
  rw [show sE ps = 8 by unfold sE; rw [he]; rfl] at HCK
  clear h he
  go_enter Try.func28, Try.ntmps28
  go_upto_region 1 with (fail)
  obtain ⟨w0, hw0⟩ : ∃ w0, w0 = (w.alloc (Obj.cells #[Value.slice ao ps.length cap] 33)).alloc (Obj.cells #[Value.slice none 0 0] 33) := ⟨_, rfl⟩
  rw [← hw0]
  have T0 : TK w w0 (.slice ao ps.length cap) := by rw [hw0]; exact TK.begin _ _ _ _
  have a0 := T0.c0
  have x0 := T0.x0
  have HT0 := Hid.mk2 T0
  clear hw0 T0
  go_wp2_with (go_at_call 35; refine (HCK.out _ HT0.out.below).mono ?_; rintro e w1 ⟨rfl, hb1⟩; have T1 := HT0.out.step hb1; have a1 := T1.c0; have b1 := T1.c1; have f1 := T1.f1; have x1 := T1.x0; have y1 := T1.x1; have HT1 := Hid.mk2 T1; clear T1 hb1 a0 x0)
  have z0 : (w1.setCell ⟨w.heap.size + 1, 0, none⟩ (.slice none 0 0)).cell? ⟨w.heap.size + 1, 0, none⟩ = some (.slice none 0 0) := World.cell?_setCell_same _ _ _ b1
  try simp only [Exit.inBlock, Exit.then]
  exact bodyPost_ret (v := .tuple #[.agg #[.slice none 0 0], .int .i64 8]) (by simp [results, Try.results28, go_sem, z0]) rfl ⟨rfl, HT1.out.below.setCell (by simp) _⟩
theorem free_bad2 (w : World) (ao : Option Addr) (ps : List Pg) (cap : Nat) (h : Sb w ao ps cap) (i k : Int) (ho : sOk ps = true) (he : inP ps i = false) :
    Calls Try.prog 28 #[.agg #[.slice ao ps.length cap], .int .i64 i, .int .i64 k] w fun e w' => e = .returned (.tuple #[.agg #[.slice none 0 0], .int .i64 2]) ∧ Below w.heap.size w w' := by
  have HCK := Hid.mk2 (fun W (hb : Below w.heap.size w W) => scheck_any W ao ps cap (h.below hb))
  rw [show sE ps = 0 by unfold sE; rw [ho]; rfl] at HCK
  have hlen := sOk_len ho
  simp only [inP, decide_eq_false_iff_not] at he
  clear h ho
  by_cases h0 : i < 0
  · have h1 : decide (i < 0) = true := by simp [h0]
    clear he h0
    go_enter Try.func28, Try.ntmps28
    go_upto_region 1 with (fail)
    obtain ⟨w0, hw0⟩ : ∃ w0, w0 = (w.alloc (Obj.cells #[Value.slice ao ps.length cap] 33)).alloc (Obj.cells #[Value.slice none 0 0] 33) := ⟨_, rfl⟩
    rw [← hw0]
    have T0 : TK w w0 (.slice ao ps.length cap) := by rw [hw0]; exact TK.begin _ _ _ _
    have a0 := T0.c0
    have x0 := T0.x0
    have HT0 := Hid.mk2 T0
    clear hw0 T0
    go_wp2_with (go_at_call 35; refine (HCK.out _ HT0.out.below).mono ?_; rintro e w1 ⟨rfl, hb1⟩; have T1 := HT0.out.step hb1; have a1 := T1.c0; have b1 := T1.c1; have f1 := T1.f1; have x1 := T1.x0; have y1 := T1.x1; have HT1 := Hid.mk2 T1; clear T1 hb1 a0 x0)
    have z0 : (w1.setCell ⟨w.heap.size + 1, 0, none⟩ (.slice none 0 0)).cell? ⟨w.heap.size + 1, 0, none⟩ = some (.slice none 0 0) := World.cell?_setCell_same _ _ _ b1
    try simp only [Exit.inBlock, Exit.then]
    exact bodyPost_ret (v := .tuple #[.agg #[.slice none 0 0], .int .i64 2]) (by simp [results, Try.results28, go_sem, z0]) rfl ⟨rfl, HT1.out.below.setCell (by simp) _⟩
  · have h1 : decide (i < 0) = false := by simp; omega
    have h2 : decide ((ps.length : Int) ≤ i) = true := by simp; omega
    clear he h0
    go_enter Try.func28, Try.ntmps28
    go_upto_region 1 with (fail)
    obtain ⟨w0, hw0⟩ : ∃ w0, w0 = (w.alloc (Obj.cells #[Value.slice ao ps.length cap] 33)).alloc (Obj.cells #[Value.slice none 0 0] 33) := ⟨_, rfl⟩
    rw [← hw0]
    have T0 : TK w w0 (.slice ao ps.length cap) := by rw [hw0]; exact TK.begin _ _ _ _
    have a0 := T0.c0
    have x0 := T0.x0
    have HT0 := Hid.mk2 T0
    clear hw0 T0
    go_wp2_with (go_at_call 35; refine (HCK.out _ HT0.out.below).mono ?_; rintro e w1 ⟨rfl, hb1⟩; have T1 := HT0.out.step hb1; have a1 := T1.c0; have b1 := T1.c1; have f1 := T1.f1; have x1 := T1.x0; have y1 := T1.x1; have HT1 := Hid.mk2 T1; clear T1 hb1 a0 x0)
    have z0 : (w1.setCell ⟨w.heap.size + 1, 0, none⟩ (.slice none 0 0)).cell? ⟨w.heap.size + 1, 0, none⟩ = some (.slice none 0 0) := World.cell?_setCell_same _ _ _ b1
    try simp only [Exit.inBlock, Exit.then]
    exact bodyPost_ret (v := .tuple #[.agg #[.slice none 0 0], .int .i64 2]) (by simp [results, Try.results28, go_sem, z0]) rfl ⟨rfl, HT1.out.below.setCell (by simp) _⟩
/-- a chunk that is not used -/
theorem free_bad3 (w : World) (ao : Option Addr) (ps : List Pg) (cap : Nat) (h : Sb w ao ps cap) (i : Nat) (k : Int) (ho : sOk ps = true) (hi : i < ps.length) (he : hasK ps[i] k = false) :
    Calls Try.prog 28 #[.agg #[.slice ao ps.length cap], .int .i64 i, .int .i64 k] w fun e w' => e = .returned (.tuple #[.agg #[.slice none 0 0], .int .i64 6]) ∧ Below w.heap.size w w' := by
  have HCK := Hid.mk2 (fun W (hb : Below w.heap.size w W) => scheck_any W ao ps cap (h.below hb))
  rw [show sE ps = 0 by unfold sE; rw [ho]; rfl] at HCK
  have hlen := sOk_len ho
  have hpo := sOk_pg ho i hi
  obtain ⟨b, off, rfl, hbl, hcs⟩ := h.lies (by intro e; rw [e] at hlen; simp at hlen)
  have HC := Hid.mk2 (hcs i hi)
  obtain ⟨p, hp⟩ : ∃ p, p = ps[i] := ⟨_, rfl⟩
  rw [← hp] at hpo HC he
  have hch := fun W => chunksOf_any p.c W (pOk_c hpo)
  have hcl := chunks_le (pOk_c hpo)
  have g1 : decide ((i : Int) < 0) = false := by simp
  have g2 : decide ((ps.length : Int) ≤ (i : Int)) = false := by simp; omega
  have g2n : decide (ps.length ≤ i) = false := by simp; omega
  have hcase : decide (k < 0) = true ∨ (decide (k < 0) = false ∧ decide ((chunks p.c : Int) ≤ k) = true) ∨ ∃ K : Nat, k = (K : Int) ∧ K < chunks p.c ∧ p.u.testBit K = false := by
    by_cases h0 : k < 0
    · exact .inl (by simp [h0])
    · by_cases h1 : (chunks p.c : Int) ≤ k
      · exact .inr (.inl ⟨by simp; omega, by simp [h1]⟩)
      · refine .inr (.inr ⟨k.toNat, by omega, by omega, ?_⟩)
        unfold hasK at he
        have : decide (0 ≤ k ∧ k < 16) = true := by simp; omega
        rw [this] at he
        simpa using he
  obtain ⟨N, hN⟩ : ∃ N, N = chunks p.c := ⟨_, rfl⟩
  rw [← hN] at hch hcl hcase
  clear hp hN h ho hpo he hcs
  rcases hcase with h1 | ⟨h1, h2⟩ | ⟨K, rfl, hK, hbt⟩
  · skip
    go_enter Try.func28, Try.ntmps28
    go_upto_region 1 with (fail)
    obtain ⟨w0, hw0⟩ : ∃ w0, w0 = (w.alloc (Obj.cells #[Value.slice (some ⟨b, off, none⟩) ps.length cap] 33)).alloc (Obj.cells #[Value.slice none 0 0] 33) := ⟨_, rfl⟩
    rw [← hw0]
    have T0 : TK w w0 (.slice (some ⟨b, off, none⟩) ps.length cap) := by rw [hw0]; exact TK.begin _ _ _ _
    have a0 := T0.c0
    have x0 := T0.x0
    have HT0 := Hid.mk2 T0
    clear hw0 T0
    go_upto_region 6 with (go_at_call 35; refine (HCK.out _ HT0.out.below).mono ?_; rintro e w1 ⟨rfl, hb1⟩; have T1 := HT0.out.step hb1; have a1 := T1.c0; have b1 := T1.c1; have f1 := T1.f1; have x1 := T1.x0; have y1 := T1.x1; have HT1 := Hid.mk2 T1; clear T1 hb1 a0 x0)
    obtain ⟨r0, r1, r2⟩ := HC.out.below HT1.out.below hbl
    have hbl1 : b < w1.heap.size := by omega
    go_upto_region 7 with (fail)
    obtain ⟨w2, hw2⟩ : ∃ w2, w2 = w1.alloc (Obj.cells #[Value.int .i64 p.t, Value.int .i64 p.c, Value.int .u16 (p.u : Int)] 30) := ⟨_, rfl⟩
    rw [← hw2]
    have hb2 : Below w1.heap.size w1 w2 := by rw [hw2]; exact (Below.refl _ _).alloc (Nat.le_refl _) _
    obtain ⟨pb, hpb⟩ : ∃ pb, pb = w1.heap.size := ⟨_, rfl⟩
    have p0 : w2.cell? ⟨pb, 0, none⟩ = some (.int .i64 p.t) := by rw [hw2, hpb]; simp
    have p1 : w2.cell? ⟨pb, 1, none⟩ = some (.int .i64 p.c) := by rw [hw2, hpb]; simp
    have p2 : w2.cell? ⟨pb, 2, none⟩ = some (.int .u16 (p.u : Int)) := by rw [hw2, hpb]; simp
    have pf0 : w2.frozen? ⟨pb, 0, none⟩ = false := by rw [hw2, hpb]; simp
    have pf1 : w2.frozen? ⟨pb, 1, none⟩ = false := by rw [hw2, hpb]; simp
    have pf2 : w2.frozen? ⟨pb, 2, none⟩ = false := by rw [hw2, hpb]; simp
    have ps2 : pb < w2.heap.size := by rw [hw2, hpb]; simp
    have pw : w.heap.size + 1 < pb := by rw [hpb]; exact y1
    rw [← hpb]
    have T2 := HT1.out.step hb2
    have a2 := T2.c0
    have b2 := T2.c1
    have f2 := T2.f1
    have x2 := T2.x0
    have y2 := T2.x1
    have HT2 := Hid.mk2 T2
    clear hw2 hb2 hpb T2 a1 b1 f1 x1 y1 r0 r1 r2 hbl1
    go_wp2
    have z0 : (w2.setCell ⟨w.heap.size + 1, 0, none⟩ (.slice none 0 0)).cell? ⟨w.heap.size + 1, 0, none⟩ = some (.slice none 0 0) := World.cell?_setCell_same _ _ _ b2
    try simp only [Exit.inBlock, Exit.then]
    exact bodyPost_ret (v := .tuple #[.agg #[.slice none 0 0], .int .i64 6]) (by simp [results, Try.results28, go_sem, z0]) rfl ⟨rfl, HT2.out.below.setCell (by simp) _⟩
  · skip
    go_enter Try.func28, Try.ntmps28
    go_upto_region 1 with (fail)
    obtain ⟨w0, hw0⟩ : ∃ w0, w0 = (w.alloc (Obj.cells #[Value.slice (some ⟨b, off, none⟩) ps.length cap] 33)).alloc (Obj.cells #[Value.slice none 0 0] 33) := ⟨_, rfl⟩
    rw [← hw0]
    have T0 : TK w w0 (.slice (some ⟨b, off, none⟩) ps.length cap) := by rw [hw0]; exact TK.begin _ _ _ _
    have a0 := T0.c0
    have x0 := T0.x0
    have HT0 := Hid.mk2 T0
    clear hw0 T0
    go_upto_region 6 with (go_at_call 35; refine (HCK.out _ HT0.out.below).mono ?_; rintro e w1 ⟨rfl, hb1⟩; have T1 := HT0.out.step hb1; have a1 := T1.c0; have b1 := T1.c1; have f1 := T1.f1; have x1 := T1.x0; have y1 := T1.x1; have HT1 := Hid.mk2 T1; clear T1 hb1 a0 x0)
    obtain ⟨r0, r1, r2⟩ := HC.out.below HT1.out.below hbl
    have hbl1 : b < w1.heap.size := by omega
    go_upto_region 7 with (fail)
    obtain ⟨w2, hw2⟩ : ∃ w2, w2 = w1.alloc (Obj.cells #[Value.int .i64 p.t, Value.int .i64 p.c, Value.int .u16 (p.u : Int)] 30) := ⟨_, rfl⟩
    rw [← hw2]
    have hb2 : Below w1.heap.size w1 w2 := by rw [hw2]; exact (Below.refl _ _).alloc (Nat.le_refl _) _
    obtain ⟨pb, hpb⟩ : ∃ pb, pb = w1.heap.size := ⟨_, rfl⟩
    have p0 : w2.cell? ⟨pb, 0, none⟩ = some (.int .i64 p.t) := by rw [hw2, hpb]; simp
    have p1 : w2.cell? ⟨pb, 1, none⟩ = some (.int .i64 p.c) := by rw [hw2, hpb]; simp
    have p2 : w2.cell? ⟨pb, 2, none⟩ = some (.int .u16 (p.u : Int)) := by rw [hw2, hpb]; simp
    have pf0 : w2.frozen? ⟨pb, 0, none⟩ = false := by rw [hw2, hpb]; simp
    have pf1 : w2.frozen? ⟨pb, 1, none⟩ = false := by rw [hw2, hpb]; simp
    have pf2 : w2.frozen? ⟨pb, 2, none⟩ = false := by rw [hw2, hpb]; simp
    have ps2 : pb < w2.heap.size := by rw [hw2, hpb]; simp
    have pw : w.heap.size + 1 < pb := by rw [hpb]; exact y1
    rw [← hpb]
    have T2 := HT1.out.step hb2
    have a2 := T2.c0
    have b2 := T2.c1
    have f2 := T2.f1
    have x2 := T2.x0
    have y2 := T2.x1
    have HT2 := Hid.mk2 T2
    clear hw2 hb2 hpb T2 a1 b1 f1 x1 y1 r0 r1 r2 hbl1
    go_wp2_with (go_at_call 62; refine (hch _).mono ?_; rintro e w3 ⟨rfl, hwq⟩; obtain rfl : w2 = w3 := hwq.symm)
    have z0 : (w2.setCell ⟨w.heap.size + 1, 0, none⟩ (.slice none 0 0)).cell? ⟨w.heap.size + 1, 0, none⟩ = some (.slice none 0 0) := World.cell?_setCell_same _ _ _ b2
    try simp only [Exit.inBlock, Exit.then]
    exact bodyPost_ret (v := .tuple #[.agg #[.slice none 0 0], .int .i64 6]) (by simp [results, Try.results28, go_sem, z0]) rfl ⟨rfl, HT2.out.below.setCell (by simp) _⟩
  · have h1 : decide ((K : Int) < 0) = false := by simp
    have h2 : decide ((N : Int) ≤ (K : Int)) = false := by simp; omega
    have h2n : decide (N ≤ K) = false := by simp; omega
    have hus := fun W => isUsed_any p K W (by omega)
    rw [hbt] at hus
    clear hbt
    go_enter Try.func28, Try.ntmps28
    go_upto_region 1 with (fail)
    obtain ⟨w0, hw0⟩ : ∃ w0, w0 = (w.alloc (Obj.cells #[Value.slice (some ⟨b, off, none⟩) ps.length cap] 33)).alloc (Obj.cells #[Value.slice none 0 0] 33) := ⟨_, rfl⟩
    rw [← hw0]
    have T0 : TK w w0 (.slice (some ⟨b, off, none⟩) ps.length cap) := by rw [hw0]; exact TK.begin _ _ _ _
    have a0 := T0.c0
    have x0 := T0.x0
    have HT0 := Hid.mk2 T0
    clear hw0 T0
    go_upto_region 6 with (go_at_call 35; refine (HCK.out _ HT0.out.below).mono ?_; rintro e w1 ⟨rfl, hb1⟩; have T1 := HT0.out.step hb1; have a1 := T1.c0; have b1 := T1.c1; have f1 := T1.f1; have x1 := T1.x0; have y1 := T1.x1; have HT1 := Hid.mk2 T1; clear T1 hb1 a0 x0)
    obtain ⟨r0, r1, r2⟩ := HC.out.below HT1.out.below hbl
    have hbl1 : b < w1.heap.size := by omega
    go_upto_region 7 with (fail)
    obtain ⟨w2, hw2⟩ : ∃ w2, w2 = w1.alloc (Obj.cells #[Value.int .i64 p.t, Value.int .i64 p.c, Value.int .u16 (p.u : Int)] 30) := ⟨_, rfl⟩
    rw [← hw2]
    have hb2 : Below w1.heap.size w1 w2 := by rw [hw2]; exact (Below.refl _ _).alloc (Nat.le_refl _) _
    obtain ⟨pb, hpb⟩ : ∃ pb, pb = w1.heap.size := ⟨_, rfl⟩
    have p0 : w2.cell? ⟨pb, 0, none⟩ = some (.int .i64 p.t) := by rw [hw2, hpb]; simp
    have p1 : w2.cell? ⟨pb, 1, none⟩ = some (.int .i64 p.c) := by rw [hw2, hpb]; simp
    have p2 : w2.cell? ⟨pb, 2, none⟩ = some (.int .u16 (p.u : Int)) := by rw [hw2, hpb]; simp
    have pf0 : w2.frozen? ⟨pb, 0, none⟩ = false := by rw [hw2, hpb]; simp
    have pf1 : w2.frozen? ⟨pb, 1, none⟩ = false := by rw [hw2, hpb]; simp
    have pf2 : w2.frozen? ⟨pb, 2, none⟩ = false := by rw [hw2, hpb]; simp
    have ps2 : pb < w2.heap.size := by rw [hw2, hpb]; simp
    have pw : w.heap.size + 1 < pb := by rw [hpb]; exact y1
    rw [← hpb]
    have T2 := HT1.out.step hb2
    have a2 := T2.c0
    have b2 := T2.c1
    have f2 := T2.f1
    have x2 := T2.x0
    have y2 := T2.x1
    have HT2 := Hid.mk2 T2
    clear hw2 hb2 hpb T2 a1 b1 f1 x1 y1 r0 r1 r2 hbl1
    go_wp2_with (first
      | (go_at_call 62; refine (hch _).mono ?_; rintro e w3 ⟨rfl, hwq⟩; obtain rfl : w2 = w3 := hwq.symm)
      | (go_at_call 63; refine (hus _).mono ?_; rintro e w3 ⟨rfl, hb3⟩; have T3 := HT2.out.step hb3; have a3 := T3.c0; have b3 := T3.c1; have f3 := T3.f1; have x3 := T3.x0; have y3 := T3.x1; have HT3 := Hid.mk2 T3; clear T3 hb3 a2 x2 b2 f2 y2))
    have z0 : (w3.setCell ⟨w.heap.size + 1, 0, none⟩ (.slice none 0 0)).cell? ⟨w.heap.size + 1, 0, none⟩ = some (.slice none 0 0) := World.cell?_setCell_same _ _ _ b3
    try simp only [Exit.inBlock, Exit.then]
    exact bodyPost_ret (v := .tuple #[.agg #[.slice none 0 0], .int .i64 6]) (by simp [results, Try.results28, go_sem, z0]) rfl ⟨rfl, HT3.out.below.setCell (by simp) _⟩
end Go.Proofs.Ytkcgleahbhmggaa
