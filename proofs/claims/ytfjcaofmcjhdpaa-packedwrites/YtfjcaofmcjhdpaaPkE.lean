/-
  The reader of package packed: single, truth, all, small, text.
-/
import Derived.Test.YtfjcaofmcjhdpaaPkD
namespace Go.Proofs.Ytfjcaofmcjhdpaa
open Go.Proofs.Ytfjcaofmcjhdpaa.It
open Go.RowKit
set_option linter.unusedSimpArgs false
set_option linter.unusedVariables false
set_option maxRecDepth 100000

/-- a reader at R: what is left, and whether something was wrong; K: blocks of others, none of which it reads -/
structure Rdr (w : World) (R : Nat) (K : Nat → Prop) (s : Ps) (ao : Option Addr) (m cap : Nat) : Prop where
  len : m = s.l.length
  box : GBx w R [.slice ao m cap, .bool s.bad]
  rd : GRd EY w ao s.l cap
  ne : ∀ a, ao = some a → ¬ K a.block
  lt : ∀ a, ao = some a → a.block < w.heap.size
  kR : K R
  kl : ∀ b, K b → b < w.heap.size
  few : s.l.length ≤ 20000
/-- what a reader's call leaves -/
def RdX (w w' : World) (R : Nat) (K : Nat → Prop) (s : Ps) : Prop := (∃ ao m cap, Rdr w' R K s ao m cap) ∧ w.grownBy w' (some R)
theorem Rdr.grown {w w' : World} {R : Nat} {K : Nat → Prop} {s : Ps} {ao : Option Addr} {m cap : Nat} (h : Rdr w R K s ao m cap) {row : Option Nat} (hg : w.grownBy w' row) (h1 : row ≠ some R) (h2 : ∀ b, row = some b → K b ∨ w.heap.size ≤ b) : Rdr w' R K s ao m cap :=
  ⟨h.len, h.box.grown hg h1, grd_grown h.rd hg (fun g off e _ e2 => by
    rcases h2 g e2 with h3 | h3
    · exact h.ne _ e h3
    · have := h.lt _ e; dsimp only at this; omega), h.ne, fun a e => Nat.lt_of_lt_of_le (h.lt a e) hg.size, h.kR, fun b hb => Nat.lt_of_lt_of_le (h.kl b hb) hg.size, h.few⟩
theorem Rdr.below {w w' : World} {R : Nat} {K : Nat → Prop} {s : Ps} {ao : Option Addr} {m cap : Nat} (h : Rdr w R K s ao m cap) (hb : Below w.heap.size w w') : Rdr w' R K s ao m cap :=
  h.grown (g_grown hb none) (by simp) (fun _ e => by cases e)
/-- one block more that it does not read -/
theorem Rdr.more {w w' : World} {R : Nat} {K : Nat → Prop} {s : Ps} {ao : Option Addr} {m cap : Nat} (h : Rdr w R K s ao m cap) (hb : Below w.heap.size w w') (P : Nat) (h1 : w.heap.size ≤ P) (h2 : P < w'.heap.size) : Rdr w' R (fun b => K b ∨ b = P) s ao m cap := by
  have h3 := h.below hb
  refine ⟨h3.len, h3.box, h3.rd, fun a e hk => ?_, h3.lt, .inl h3.kR, fun b hk => ?_, h3.few⟩
  · rcases hk with hk | hk
    · exact h.ne a e hk
    · have := h.lt a e; omega
  · rcases hk with hk | hk
    · exact h3.kl b hk
    · omega
theorem Rdr.less {w : World} {R : Nat} {K K2 : Nat → Prop} {s : Ps} {ao : Option Addr} {m cap : Nat} (h : Rdr w R K s ao m cap) (hs : ∀ b, K2 b → K b) (hR : K2 R) : Rdr w R K2 s ao m cap :=
  ⟨h.len, h.box, h.rd, fun a e hk => h.ne a e (hs _ hk), h.lt, hR, fun b hb => h.kl b (hs b hb), h.few⟩
theorem add_block (a : Addr) (k : Nat) : (a.add k).block = a.block := by
  unfold Addr.add
  split <;> rfl
theorem rest_block {ao : Option Addr} {k cap : Nat} {x : Addr} (h : restA ao k cap = some x) : ∃ a, ao = some a ∧ a.block = x.block := by
  unfold restA at h
  split at h
  · exact ⟨x, h, rfl⟩
  · cases ao with
    | none => cases h
    | some a =>
      simp only [Option.map_some, Option.some.injEq] at h
      exact ⟨a, rfl, by rw [← h, add_block]⟩
theorem gown_rd3 {w : World} {base : Nat} {v : Value} {l : List UInt8} (h : GOwn EY w base v l) : ∃ ao cap, v = .slice ao l.length cap ∧ GRd EY w ao l cap ∧ ∀ a, ao = some a → base ≤ a.block ∧ a.block < w.heap.size := by
  obtain ⟨ao, cap, e, hr⟩ := h.rd okY
  refine ⟨ao, cap, e, hr, fun a ha => ?_⟩
  subst ha
  exact h.lt a.block (by rw [e]; rfl)
/-- the rest is cut: the first cell is stored -/
theorem Rdr.cut {w w2 : World} {R : Nat} {K : Nat → Prop} {s : Ps} {ao : Option Addr} {m cap : Nat} (h : Rdr w R K s ao m cap) (hb : Below w.heap.size w w2) (ao' : Option Addr) (m' cap' : Nat) (l' : List UInt8) (hr : GRd EY w2 ao' l' cap') (hm : m' = l'.length) (hne : ∀ a, ao' = some a → ¬ K a.block) (hlt : ∀ a, ao' = some a → a.block < w2.heap.size) (hf : l'.length ≤ 20000) :
    RdX w (w2.setCell ⟨R, 0, none⟩ (.slice ao' m' cap')) R K ⟨l', s.bad⟩ := by
  have hbx := (h.box.below hb).set 0 (.slice ao' m' cap') (by simp)
  have hg : w2.grownBy (w2.setCell ⟨R, 0, none⟩ (.slice ao' m' cap')) (some R) := g_set w2 ⟨R, 0, none⟩ _
  have h3 := h.below hb
  exact ⟨⟨ao', m', cap', hm, hbx, grd_grown hr hg (fun g off e _ e2 => hne _ e (by rw [← Option.some.inj e2]; exact h.kR)), hne, fun a e => Nat.lt_of_lt_of_le (hlt a e) hg.size, h.kR, fun b hk => Nat.lt_of_lt_of_le (h3.kl b hk) hg.size, hf⟩, (g_grown hb (some R)).trans hg⟩
theorem Rdr.spoil {w w2 : World} {R : Nat} {K : Nat → Prop} {s : Ps} {ao : Option Addr} {m cap : Nat} (h : Rdr w R K s ao m cap) (hb : Below w.heap.size w w2) (v : Bool) : RdX w (w2.setCell ⟨R, 1, none⟩ (.bool v)) R K ⟨s.l, v⟩ := by
  have hbx := (h.box.below hb).set 1 (.bool v) (by simp)
  have hg : w2.grownBy (w2.setCell ⟨R, 1, none⟩ (.bool v)) (some R) := g_set w2 ⟨R, 1, none⟩ _
  have h3 := h.below hb
  exact ⟨⟨ao, m, cap, h.len, hbx, grd_grown h3.rd hg (fun g off e _ e2 => h.ne _ e (by rw [← Option.some.inj e2]; exact h.kR)), h.ne, fun a e => Nat.lt_of_lt_of_le (h3.lt a e) hg.size, h.kR, fun b hk => Nat.lt_of_lt_of_le (h3.kl b hk) hg.size, h.few⟩, (g_grown hb (some R)).trans hg⟩
set_option maxHeartbeats 1000000 in
theorem psingle_any (w : World) (R : Nat) (K : Nat → Prop) (s : Ps) (ao : Option Addr) (m cap : Nat) (h : Rdr w R K s ao m cap) :
    Calls Try.prog 29 #[.pointer (some ⟨R, 0, none⟩)] w fun e w' => e = .returned (.int .u8 ((pSingle s).1.toNat : Int)) ∧ RdX w w' R K (pSingle s).2 := by
  obtain ⟨l, bad⟩ := s
  have H := Hid.mk2 h
  have hx := h.box
  have x0 := hx.c 0 (by simp)
  have f0 := hx.f 0
  have f1 := hx.f 1
  have x1 := hx.c 1 (by simp)
  simp only [List.getElem_cons_zero, List.getElem_cons_succ] at x0 x1
  have hlen := h.len
  dsimp only at hlen x1
  have hrd := h.rd
  dsimp only at hrd
  cases l with
  | nil =>
    have h0 : m = 0 := hlen
    subst h0
    have HS := Hid.mk2 (H.out.spoil (Below.refl _ _) true)
    clear h hx hrd hlen
    go_enter Try.func29, Try.ntmps29
    go_wp2
    go_ret
    exact ⟨rfl, HS.out⟩
  | cons x t =>
    obtain ⟨b, off, rfl, hb, hc⟩ := hrd.lies (by simp)
    have c0 := hc 0 (by simp) 0 (by decide)
    have hcc := hrd.hc
    have hlc := hrd.hl
    have hml : m = t.length + 1 := hlen
    have hfew := h.few
    dsimp only at hfew
    rw [List.length_cons] at hfew hlc
    have hm1 : 1 ≤ m := by omega
    have hmi : ¬ ((m : Int) = 0) := by omega
    have hmb : ((m : Int) == 0) = false := by simpa using hmi
    have hmi2 : (0 : Int) < (m : Int) := by omega
    have e0 : w.cell? ⟨b, off, none⟩ = some (.int .u8 (x.toNat : Int)) := by simpa [EY] using c0
    have HS := Hid.mk2 (H.out.cut (Below.refl _ _) (restA (some ⟨b, off, none⟩) 1 cap) (m - 1) (cap - 1) t (rest_rd h.rd 1 (by simp)) (by omega) (fun x e => by obtain ⟨a3, e3, e4⟩ := rest_block e; rw [← e4]; exact h.ne a3 e3) (fun x e => by obtain ⟨a3, e3, e4⟩ := rest_block e; rw [← e4]; exact h.lt a3 e3) (by omega))
    clear h hx hrd hlen hc c0 hml hcc hfew hlc hb
    go_enter Try.func29, Try.ntmps29
    go_wp2_with (refine wpl_slice_l rfl _ _ rfl (some ⟨b, off, none⟩) 1 m cap rfl rfl hm1 ?_)
    go_ret
    exact ⟨rfl, HS.out⟩
theorem RdX.from {w w1 w' : World} {R : Nat} {K : Nat → Prop} {s : Ps} (hg : w.grownBy w1 (some R)) (h : RdX w1 w' R K s) : RdX w w' R K s := ⟨h.1, hg.trans h.2⟩
set_option maxHeartbeats 1000000 in
theorem ptruth_any (w : World) (R : Nat) (K : Nat → Prop) (s : Ps) (ao : Option Addr) (m cap : Nat) (h : Rdr w R K s ao m cap) :
    Calls Try.prog 31 #[.pointer (some ⟨R, 0, none⟩)] w fun e w' => e = .returned (.bool (pTruth s).1) ∧ RdX w w' R K (pTruth s).2 := by
  have HS := Hid.mk2 (psingle_any w R K s ao m cap h)
  unfold pTruth
  dsimp only
  obtain ⟨⟨x, l2, b2⟩, hx⟩ : ∃ q, q = pSingle s := ⟨_, rfl⟩
  rw [← hx] at HS
  have HS2 : Hid (Calls Try.prog 29 #[.pointer (some ⟨R, 0, none⟩)] w fun e w' => e = .returned (.int .u8 (x.toNat : Int)) ∧ RdX w w' R K ⟨l2, b2⟩) := HS.out
  rw [← hx]
  dsimp only
  clear HS hx h
  have hx1 : (x = 1) ↔ ((x.toNat : Int) = 1) := ⟨fun h => by rw [h]; rfl, fun h => by apply UInt8.toNat_inj.1; show x.toNat = 1; omega⟩
  have hx0 : (x = 0) ↔ ((x.toNat : Int) = 0) := ⟨fun h => by rw [h]; rfl, fun h => by apply UInt8.toNat_inj.1; show x.toNat = 0; omega⟩
  obtain ⟨n, hn⟩ : ∃ n, n = (x.toNat : Int) := ⟨_, rfl⟩
  rw [← hn] at hx1 hx0 HS2
  have HX1 := Hid.mk2 hx1
  have HX0 := Hid.mk2 hx0
  clear hx1 hx0 hn
  by_cases h1 : n = 1
  · have e1 : decide (x = 1) = true := decide_eq_true (HX1.out.2 h1)
    rw [e1]
    subst h1
    clear e1
    cases b2
    · go_enter Try.func31, Try.ntmps31
      go_wp2_with (go_at_call 29; refine HS2.out.mono ?_; rintro e w1 ⟨rfl, ⟨a1, m1, c1, hr1⟩, hg1⟩; have HR1 := Hid.mk2 hr1; have HG1 := Hid.mk2 hg1; have y1 := hr1.box.c 1 (by simp); have g1 := hr1.box.f 1; simp only [List.getElem_cons_zero, List.getElem_cons_succ] at y1; clear hr1 hg1)
      go_ret
      exact ⟨rfl, (HR1.out.spoil (Below.refl _ _) false).from HG1.out⟩
    · go_enter Try.func31, Try.ntmps31
      go_wp2_with (go_at_call 29; refine HS2.out.mono ?_; rintro e w1 ⟨rfl, ⟨a1, m1, c1, hr1⟩, hg1⟩; have HR1 := Hid.mk2 hr1; have HG1 := Hid.mk2 hg1; have y1 := hr1.box.c 1 (by simp); have g1 := hr1.box.f 1; simp only [List.getElem_cons_zero, List.getElem_cons_succ] at y1; clear hr1 hg1)
      go_ret
      exact ⟨rfl, (HR1.out.spoil (Below.refl _ _) true).from HG1.out⟩
  have e1 : decide (x = 1) = false := decide_eq_false (fun h => h1 (HX1.out.1 h))
  rw [e1]
  have h1b : (n == 1) = false := by simpa using h1
  have h1c : (n != 1) = true := by simpa using h1
  by_cases h0 : n = 0
  · have e0 : decide (x = 0) = true := decide_eq_true (HX0.out.2 h0)
    rw [e0]
    subst h0
    clear e0 e1 h1
    cases b2
    · go_enter Try.func31, Try.ntmps31
      go_wp2_with (go_at_call 29; refine HS2.out.mono ?_; rintro e w1 ⟨rfl, ⟨a1, m1, c1, hr1⟩, hg1⟩; have HR1 := Hid.mk2 hr1; have HG1 := Hid.mk2 hg1; have y1 := hr1.box.c 1 (by simp); have g1 := hr1.box.f 1; simp only [List.getElem_cons_zero, List.getElem_cons_succ] at y1; clear hr1 hg1)
      go_ret
      exact ⟨rfl, (HR1.out.spoil (Below.refl _ _) false).from HG1.out⟩
    · go_enter Try.func31, Try.ntmps31
      go_wp2_with (go_at_call 29; refine HS2.out.mono ?_; rintro e w1 ⟨rfl, ⟨a1, m1, c1, hr1⟩, hg1⟩; have HR1 := Hid.mk2 hr1; have HG1 := Hid.mk2 hg1; have y1 := hr1.box.c 1 (by simp); have g1 := hr1.box.f 1; simp only [List.getElem_cons_zero, List.getElem_cons_succ] at y1; clear hr1 hg1)
      go_ret
      exact ⟨rfl, (HR1.out.spoil (Below.refl _ _) true).from HG1.out⟩
  · have e0 : decide (x = 0) = false := decide_eq_false (fun h => h0 (HX0.out.1 h))
    rw [e0]
    have h0b : (n == 0) = false := by simpa using h0
    have h0c : (n != 0) = true := by simpa using h0
    clear e0 e1 h1 h0
    cases b2
    all_goals
      go_enter Try.func31, Try.ntmps31
      go_wp2_with (go_at_call 29; refine HS2.out.mono ?_; rintro e w1 ⟨rfl, ⟨a1, m1, c1, hr1⟩, hg1⟩; have HR1 := Hid.mk2 hr1; have HG1 := Hid.mk2 hg1; have y1 := hr1.box.c 1 (by simp); have g1 := hr1.box.f 1; simp only [List.getElem_cons_zero, List.getElem_cons_succ] at y1; clear hr1 hg1)
      go_ret
      exact ⟨by first | rfl | simp, (HR1.out.spoil (Below.refl _ _) true).from HG1.out⟩
set_option maxHeartbeats 1000000 in
theorem pall_any (w : World) (R : Nat) (K : Nat → Prop) (s : Ps) (ao : Option Addr) (m cap : Nat) (h : Rdr w R K s ao m cap) :
    Calls Try.prog 32 #[.pointer (some ⟨R, 0, none⟩)] w fun e w' => e = .returned (.string (mk1 s.l)) ∧ RdX w w' R K ⟨[], s.bad⟩ := by
  have hx := h.box
  have x0 := hx.c 0 (by simp)
  have f0 := hx.f 0
  simp only [List.getElem_cons_zero, List.getElem_cons_succ] at x0
  have hcv := conv_rd h.rd
  rw [← h.len] at hcv
  have HS := Hid.mk2 (h.cut (Below.refl _ _) none 0 0 [] (GRd.nil _) rfl (fun a e => by cases e) (fun a e => by cases e) (by simp))
  have HM : Hid (mk1 s.l = ⟨s.l.toArray⟩) := rfl
  rw [HM.out]
  clear h hx
  go_enter Try.func32, Try.ntmps32
  go_wp2
  go_ret
  exact ⟨rfl, HS.out⟩
theorem bsat_of {w : World} {ao : Option Addr} {l : List UInt8} {cap : Nat} (h : GRd EY w ao l cap) : BsAt w w.heap.size ao l := by
  rcases h.at_ with e | ⟨b, off, e, hb, hc⟩
  · exact .inl e
  · refine .inr ⟨b, off, e, hb, fun j hj => ?_⟩
    have := hc j hj 0 (by decide)
    simpa [EY, bcell] using this
set_option maxHeartbeats 2000000 in
theorem psmall_any (w : World) (R : Nat) (K : Nat → Prop) (s : Ps) (ao : Option Addr) (m cap : Nat) (h : Rdr w R K s ao m cap) (most : Nat) :
    Calls Try.prog 44 #[.pointer (some ⟨R, 0, none⟩), .int .u64 (most : Int)] w fun e w' => e = .returned (.int .u64 ((pSmall most s).1 : Int)) ∧ RdX w w' R K (pSmall most s).2 := by
  obtain ⟨l, bad⟩ := s
  have hx := h.box
  have x0 := hx.c 0 (by simp)
  have f0 := hx.f 0
  have f1 := hx.f 1
  have x1 := hx.c 1 (by simp)
  simp only [List.getElem_cons_zero, List.getElem_cons_succ] at x0 x1
  have hrd := h.rd
  have hlen := h.len
  dsimp only at hrd hlen x1
  have hfew := h.few
  dsimp only at hfew
  have hR := read_any w w.heap.size ao l cap hrd.hl (Nat.le_trans hfew (by decide)) (bsat_of hrd)
  rw [← hlen] at hR
  have HB := Hid.mk2 (h.spoil (Below.refl _ _) true)
  have HP : Hid (pSmall most ⟨l, bad⟩ = match readL l with | some (n, k) => if n ≤ most then (n, ⟨l.drop k, bad⟩) else (0, ⟨l, true⟩) | none => (0, ⟨l, true⟩)) := rfl
  cases hq : readL l with
  | none =>
    obtain ⟨r1, r2, r3⟩ := read_none hq
    rw [r1, r2, r3] at hR
    have HR := Hid.mk2 hR
    have HE : Hid (pSmall most ⟨l, bad⟩ = (0, ⟨l, true⟩)) := by have := HP.out; rw [hq] at this; exact this
    rw [HE.out]
    clear h hx hrd hlen hR hfew hq
    go_enter Try.func44, Try.ntmps44
    go_wp2_with (go_at_call 56; refine HR.out.mono ?_; rintro e w1 ⟨rfl, rfl⟩)
    go_ret
    exact ⟨rfl, HB.out⟩
  | some p =>
    obtain ⟨n, k⟩ := p
    obtain ⟨r1, r2, r3⟩ := read_some hq
    rw [r1, r2, r3] at hR
    have HR := Hid.mk2 hR
    obtain ⟨q1, q2, q3⟩ := readL_le hq
    by_cases hn : n ≤ most
    · have HE : Hid (pSmall most ⟨l, bad⟩ = (n, ⟨l.drop k, bad⟩)) := by have := HP.out; rw [hq] at this; dsimp only at this; rw [if_pos hn] at this; exact this
      have hkm : k ≤ m := by omega
      have hni : ¬ (most : Int) < (n : Int) := by omega
      have HS := Hid.mk2 (h.cut (Below.refl _ _) (restA ao k cap) (m - k) (cap - k) (l.drop k) (rest_rd hrd k q1) (by rw [List.length_drop]; omega) (fun x e => by obtain ⟨a3, e3, e4⟩ := rest_block e; rw [← e4]; exact h.ne a3 e3) (fun x e => by obtain ⟨a3, e3, e4⟩ := rest_block e; rw [← e4]; exact h.lt a3 e3) (by rw [List.length_drop]; omega))
      rw [HE.out]
      clear h hx hrd hlen hR hfew hq q1 q2 q3 r1 r2 r3
      go_enter Try.func44, Try.ntmps44
      go_wp2_with (first
        | (go_at_call 56; refine HR.out.mono ?_; rintro e w1 ⟨rfl, rfl⟩)
        | (refine wpl_slice_l rfl _ _ rfl ao k m cap rfl rfl hkm ?_))
      go_ret
      exact ⟨rfl, HS.out⟩
    · have HE : Hid (pSmall most ⟨l, bad⟩ = (0, ⟨l, true⟩)) := by have := HP.out; rw [hq] at this; dsimp only at this; rw [if_neg hn] at this; exact this
      have hni : (most : Int) < (n : Int) := by omega
      rw [HE.out]
      clear h hx hrd hlen hR hfew hq q1 q2 q3 r1 r2 r3 hn
      go_enter Try.func44, Try.ntmps44
      go_wp2_with (go_at_call 56; refine HR.out.mono ?_; rintro e w1 ⟨rfl, rfl⟩)
      go_ret
      exact ⟨rfl, HB.out⟩
set_option maxHeartbeats 2000000 in
theorem ptext_any (w : World) (R : Nat) (K : Nat → Prop) (s : Ps) (ao : Option Addr) (m cap : Nat) (h : Rdr w R K s ao m cap) :
    Calls Try.prog 57 #[.pointer (some ⟨R, 0, none⟩)] w fun e w' => e = .returned (.string (mk1 (pText s).1)) ∧ RdX w w' R K (pText s).2 := by
  obtain ⟨l, bad⟩ := s
  have hx := h.box
  have x0 := hx.c 0 (by simp)
  have f0 := hx.f 0
  have f1 := hx.f 1
  have x1 := hx.c 1 (by simp)
  simp only [List.getElem_cons_zero, List.getElem_cons_succ] at x0 x1
  have hrd := h.rd
  have hlen := h.len
  dsimp only at hrd hlen x1
  have hfew := h.few
  dsimp only at hfew
  have hlt := h.box.lt
  have hC := cut_any w w.heap.size ao l cap (bsat_of hrd) hrd.hl (Nat.le_trans hrd.hc (by decide)) hrd.hn (Nat.le_refl _) (by omega)
  rw [← hlen] at hC
  have hcr : (cutR l).length ≤ l.length := by
    unfold cutR
    split
    · simp
    · exact sText_len ⟨l, false⟩
  have H := Hid.mk2 h
  have HC : Hid (Calls Try.prog 61 #[.slice ao m cap] w fun e w' => ∃ o' c', e = .returned (.tuple #[.string (mk1 (cutT l)), .slice o' (cutR l).length c', .int .i64 (cutE l)]) ∧ GRd EY w' o' (cutR l) c' ∧ (∀ a, o' = some a → w.heap.size ≤ a.block ∧ a.block < w'.heap.size) ∧ Below w.heap.size w w') := by
    refine hC.mono ?_
    rintro e w' ⟨v, rfl, ho, hb⟩
    obtain ⟨o', c', rfl, hr, hg⟩ := gown_rd3 (own_ofb ho)
    exact ⟨o', c', rfl, hr, hg, hb⟩
  have HP : Hid (pText ⟨l, bad⟩ = if cutE l = 0 then (cutT l, ⟨cutR l, bad⟩) else ([], ⟨l, true⟩)) := rfl
  obtain ⟨CE, hCE⟩ : ∃ x, x = cutE l := ⟨_, rfl⟩
  rw [← hCE] at HC HP
  clear h hx hrd hlen hC hCE
  by_cases he : CE = 0
  · subst he
    rw [HP.out, if_pos rfl]
    go_enter Try.func57, Try.ntmps57
    go_wp2_with (go_at_call 61; refine HC.out.mono ?_; rintro e w1 ⟨o1, c1, rfl, hr1, hg1, hb1⟩; have HR1 := Hid.mk2 hr1; have HG1 := Hid.mk2 hg1; have HB1 := Hid.mk2 hb1; have z0 := (H.out.box.below hb1).c 0 (by simp); have y0 := (H.out.box.below hb1).f 0; simp only [List.getElem_cons_zero] at z0; clear hr1 hg1 hb1)
    go_ret
    exact ⟨rfl, H.out.cut HB1.out o1 _ c1 (cutR l) HR1.out rfl (fun a e hk => by have := (HG1.out a e).1; have := H.out.kl _ hk; omega) (fun a e => (HG1.out a e).2) (by omega)⟩
  · have heb : (CE != 0) = true := by simpa using he
    rw [HP.out, if_neg he]
    go_enter Try.func57, Try.ntmps57
    go_wp2_with (go_at_call 61; refine HC.out.mono ?_; rintro e w1 ⟨o1, c1, rfl, hr1, hg1, hb1⟩; have HB1 := Hid.mk2 hb1; have z1 := (H.out.box.below hb1).c 1 (by simp); have y1 := (H.out.box.below hb1).f 1; simp only [List.getElem_cons_zero, List.getElem_cons_succ] at z1; clear hr1 hg1 hb1)
    go_ret
    exact ⟨rfl, H.out.spoil HB1.out true⟩
end Go.Proofs.Ytfjcaofmcjhdpaa
