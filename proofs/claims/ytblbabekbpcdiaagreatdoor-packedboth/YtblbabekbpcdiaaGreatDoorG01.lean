/-
  Several texts in one: PkE, WpS, WoL, PkS, PkF.
-/
import Derived.Test.YtblbabekbpcdiaaGreatDoorPkD
import Derived.Test.YtblbabekbpcdiaaGreatDoorWoI
import Derived.BigGuard
import Derived.Test.YtblbabekbpcdiaaGreatDoorWoK
import Derived.Test.YtblbabekbpcdiaaGreatDoorGb
import Derived.Test.YtblbabekbpcdiaaGreatDoorGy
/-
  (shaken)
-/
namespace Go.Proofs.YtblbabekbpcdiaaGreatDoor
open Go.Proofs.YtblbabekbpcdiaaGreatDoor.It
open Go.RowKit
set_option linter.unusedSimpArgs false
set_option linter.unusedVariables false
set_option maxRecDepth 100000

/-- a reader at R: what is left, and whether something was wrong; K: blocks of others, none of which it reads -/
structure Rdr (w : World) (R : Nat) (K : Nat → Prop) (s : Ps) (ao : Option Addr) (m cap : Nat) : Prop where
  len : m = s.l.length
  box : GBx w R [.slice ao m cap, .bool s.bad]
  rd : GRd EY w ao s.l cap
  ne : ∀ a, ao = some a → ¬ K a.block
  lt : ∀ a, ao = some a → a.block < w.heap.size
  kR : K R
  kl : ∀ b, K b → b < w.heap.size
  few : s.l.length ≤ 20000
/-- what a reader's call leaves -/
def RdX (w w' : World) (R : Nat) (K : Nat → Prop) (s : Ps) : Prop := (∃ ao m cap, Rdr w' R K s ao m cap) ∧ w.grownBy w' (some R)
theorem Rdr.grown {w w' : World} {R : Nat} {K : Nat → Prop} {s : Ps} {ao : Option Addr} {m cap : Nat} (h : Rdr w R K s ao m cap) {row : Option Nat} (hg : w.grownBy w' row) (h1 : row ≠ some R) (h2 : ∀ b, row = some b → K b ∨ w.heap.size ≤ b) : Rdr w' R K s ao m cap :=
  ⟨h.len, h.box.grown hg h1, grd_grown h.rd hg (fun g off e _ e2 => by
    rcases h2 g e2 with h3 | h3
    · exact h.ne _ e h3
    · have := h.lt _ e; dsimp only at this; omega), h.ne, fun a e => Nat.lt_of_lt_of_le (h.lt a e) hg.size, h.kR, fun b hb => Nat.lt_of_lt_of_le (h.kl b hb) hg.size, h.few⟩
theorem Rdr.below {w w' : World} {R : Nat} {K : Nat → Prop} {s : Ps} {ao : Option Addr} {m cap : Nat} (h : Rdr w R K s ao m cap) (hb : Below w.heap.size w w') : Rdr w' R K s ao m cap :=
  h.grown (g_grown hb none) (by simp) (fun _ e => by cases e)
/-- one block more that it does not read -/
theorem Rdr.more {w w' : World} {R : Nat} {K : Nat → Prop} {s : Ps} {ao : Option Addr} {m cap : Nat} (h : Rdr w R K s ao m cap) (hb : Below w.heap.size w w') (P : Nat) (h1 : w.heap.size ≤ P) (h2 : P < w'.heap.size) : Rdr w' R (fun b => K b ∨ b = P) s ao m cap := by
  have h3 := h.below hb
  refine ⟨h3.len, h3.box, h3.rd, fun a e hk => ?_, h3.lt, .inl h3.kR, fun b hk => ?_, h3.few⟩
  · rcases hk with hk | hk
    · exact h.ne a e hk
    · have := h.lt a e; omega
  · rcases hk with hk | hk
    · exact h3.kl b hk
    · omega
theorem Rdr.less {w : World} {R : Nat} {K K2 : Nat → Prop} {s : Ps} {ao : Option Addr} {m cap : Nat} (h : Rdr w R K s ao m cap) (hs : ∀ b, K2 b → K b) (hR : K2 R) : Rdr w R K2 s ao m cap :=
  ⟨h.len, h.box, h.rd, fun a e hk => h.ne a e (hs _ hk), h.lt, hR, fun b hb => h.kl b (hs b hb), h.few⟩
theorem add_block (a : Addr) (k : Nat) : (a.add k).block = a.block := by
  unfold Addr.add
  split <;> rfl
theorem rest_block {ao : Option Addr} {k cap : Nat} {x : Addr} (h : restA ao k cap = some x) : ∃ a, ao = some a ∧ a.block = x.block := by
  unfold restA at h
  split at h
  · exact ⟨x, h, rfl⟩
  · cases ao with
    | none => cases h
    | some a =>
      simp only [Option.map_some, Option.some.injEq] at h
      exact ⟨a, rfl, by rw [← h, add_block]⟩
theorem gown_rd3 {w : World} {base : Nat} {v : Value} {l : List UInt8} (h : GOwn EY w base v l) : ∃ ao cap, v = .slice ao l.length cap ∧ GRd EY w ao l cap ∧ ∀ a, ao = some a → base ≤ a.block ∧ a.block < w.heap.size := by
  obtain ⟨ao, cap, e, hr⟩ := h.rd okY
  refine ⟨ao, cap, e, hr, fun a ha => ?_⟩
  subst ha
  exact h.lt a.block (by rw [e]; rfl)
/-- the rest is cut: the first cell is stored -/
theorem Rdr.cut {w w2 : World} {R : Nat} {K : Nat → Prop} {s : Ps} {ao : Option Addr} {m cap : Nat} (h : Rdr w R K s ao m cap) (hb : Below w.heap.size w w2) (ao' : Option Addr) (m' cap' : Nat) (l' : List UInt8) (hr : GRd EY w2 ao' l' cap') (hm : m' = l'.length) (hne : ∀ a, ao' = some a → ¬ K a.block) (hlt : ∀ a, ao' = some a → a.block < w2.heap.size) (hf : l'.length ≤ 20000) :
    RdX w (w2.setCell ⟨R, 0, none⟩ (.slice ao' m' cap')) R K ⟨l', s.bad⟩ := by
  have hbx := (h.box.below hb).set 0 (.slice ao' m' cap') (by simp)
  have hg : w2.grownBy (w2.setCell ⟨R, 0, none⟩ (.slice ao' m' cap')) (some R) := g_set w2 ⟨R, 0, none⟩ _
  have h3 := h.below hb
  exact ⟨⟨ao', m', cap', hm, hbx, grd_grown hr hg (fun g off e _ e2 => hne _ e (by rw [← Option.some.inj e2]; exact h.kR)), hne, fun a e => Nat.lt_of_lt_of_le (hlt a e) hg.size, h.kR, fun b hk => Nat.lt_of_lt_of_le (h3.kl b hk) hg.size, hf⟩, (g_grown hb (some R)).trans hg⟩
theorem Rdr.spoil {w w2 : World} {R : Nat} {K : Nat → Prop} {s : Ps} {ao : Option Addr} {m cap : Nat} (h : Rdr w R K s ao m cap) (hb : Below w.heap.size w w2) (v : Bool) : RdX w (w2.setCell ⟨R, 1, none⟩ (.bool v)) R K ⟨s.l, v⟩ := by
  have hbx := (h.box.below hb).set 1 (.bool v) (by simp)
  have hg : w2.grownBy (w2.setCell ⟨R, 1, none⟩ (.bool v)) (some R) := g_set w2 ⟨R, 1, none⟩ _
  have h3 := h.below hb
  exact ⟨⟨ao, m, cap, h.len, hbx, grd_grown h3.rd hg (fun g off e _ e2 => h.ne _ e (by rw [← Option.some.inj e2]; exact h.kR)), h.ne, fun a e => Nat.lt_of_lt_of_le (h3.lt a e) hg.size, h.kR, fun b hk => Nat.lt_of_lt_of_le (h3.kl b hk) hg.size, h.few⟩, (g_grown hb (some R)).trans hg⟩
set_option maxHeartbeats 1000000 in
theorem psingle_any (w : World) (R : Nat) (K : Nat → Prop) (s : Ps) (ao : Option Addr) (m cap : Nat) (h : Rdr w R K s ao m cap) :
    Calls Tryz.prog 42 #[.pointer (some ⟨R, 0, none⟩)] w fun e w' => e = .returned (.int .u8 ((pSingle s).1.toNat : Int)) ∧ RdX w w' R K (pSingle s).2 := by
  obtain ⟨l, bad⟩ := s
  have H := Hid.mk2 h
  have hx := h.box
  have x0 := hx.c 0 (by simp)
  have f0 := hx.f 0
  have f1 := hx.f 1
  have x1 := hx.c 1 (by simp)
  simp only [List.getElem_cons_zero, List.getElem_cons_succ] at x0 x1
  have hlen := h.len
  dsimp only at hlen x1
  have hrd := h.rd
  dsimp only at hrd
  cases l with
  | nil =>
    have h0 : m = 0 := hlen
    subst h0
    have HS := Hid.mk2 (H.out.spoil (Below.refl _ _) true)
    clear h hx hrd hlen
    go_enter Tryz.func42, Tryz.ntmps42
    go_wp2
    go_ret
    exact ⟨rfl, HS.out⟩
  | cons x t =>
    obtain ⟨b, off, rfl, hb, hc⟩ := hrd.lies (by simp)
    have c0 := hc 0 (by simp) 0 (by decide)
    have hcc := hrd.hc
    have hlc := hrd.hl
    have hml : m = t.length + 1 := hlen
    have hfew := h.few
    dsimp only at hfew
    rw [List.length_cons] at hfew hlc
    have hm1 : 1 ≤ m := by omega
    have hmi : ¬ ((m : Int) = 0) := by omega
    have hmb : ((m : Int) == 0) = false := by simpa using hmi
    have hmi2 : (0 : Int) < (m : Int) := by omega
    have e0 : w.cell? ⟨b, off, none⟩ = some (.int .u8 (x.toNat : Int)) := by simpa [EY] using c0
    have HS := Hid.mk2 (H.out.cut (Below.refl _ _) (restA (some ⟨b, off, none⟩) 1 cap) (m - 1) (cap - 1) t (rest_rd h.rd 1 (by simp)) (by omega) (fun x e => by obtain ⟨a3, e3, e4⟩ := rest_block e; rw [← e4]; exact h.ne a3 e3) (fun x e => by obtain ⟨a3, e3, e4⟩ := rest_block e; rw [← e4]; exact h.lt a3 e3) (by omega))
    clear h hx hrd hlen hc c0 hml hcc hfew hlc hb
    go_enter Tryz.func42, Tryz.ntmps42
    go_wp2_with (refine wpl_slice_l rfl _ _ rfl (some ⟨b, off, none⟩) 1 m cap rfl rfl hm1 ?_)
    go_ret
    exact ⟨rfl, HS.out⟩
theorem RdX.from {w w1 w' : World} {R : Nat} {K : Nat → Prop} {s : Ps} (hg : w.grownBy w1 (some R)) (h : RdX w1 w' R K s) : RdX w w' R K s := ⟨h.1, hg.trans h.2⟩
set_option maxHeartbeats 1000000 in
theorem ptruth_any (w : World) (R : Nat) (K : Nat → Prop) (s : Ps) (ao : Option Addr) (m cap : Nat) (h : Rdr w R K s ao m cap) :
    Calls Tryz.prog 44 #[.pointer (some ⟨R, 0, none⟩)] w fun e w' => e = .returned (.bool (pTruth s).1) ∧ RdX w w' R K (pTruth s).2 := by
  have HS := Hid.mk2 (psingle_any w R K s ao m cap h)
  unfold pTruth
  dsimp only
  obtain ⟨⟨x, l2, b2⟩, hx⟩ : ∃ q, q = pSingle s := ⟨_, rfl⟩
  rw [← hx] at HS
  have HS2 : Hid (Calls Tryz.prog 42 #[.pointer (some ⟨R, 0, none⟩)] w fun e w' => e = .returned (.int .u8 (x.toNat : Int)) ∧ RdX w w' R K ⟨l2, b2⟩) := HS.out
  rw [← hx]
  dsimp only
  clear HS hx h
  have hx1 : (x = 1) ↔ ((x.toNat : Int) = 1) := ⟨fun h => by rw [h]; rfl, fun h => by apply UInt8.toNat_inj.1; show x.toNat = 1; omega⟩
  have hx0 : (x = 0) ↔ ((x.toNat : Int) = 0) := ⟨fun h => by rw [h]; rfl, fun h => by apply UInt8.toNat_inj.1; show x.toNat = 0; omega⟩
  obtain ⟨n, hn⟩ : ∃ n, n = (x.toNat : Int) := ⟨_, rfl⟩
  rw [← hn] at hx1 hx0 HS2
  have HX1 := Hid.mk2 hx1
  have HX0 := Hid.mk2 hx0
  clear hx1 hx0 hn
  by_cases h1 : n = 1
  · have e1 : decide (x = 1) = true := decide_eq_true (HX1.out.2 h1)
    rw [e1]
    subst h1
    clear e1
    cases b2
    · go_enter Tryz.func44, Tryz.ntmps44
      go_wp2_with (go_at_call 42; refine HS2.out.mono ?_; rintro e w1 ⟨rfl, ⟨a1, m1, c1, hr1⟩, hg1⟩; have HR1 := Hid.mk2 hr1; have HG1 := Hid.mk2 hg1; have y1 := hr1.box.c 1 (by simp); have g1 := hr1.box.f 1; simp only [List.getElem_cons_zero, List.getElem_cons_succ] at y1; clear hr1 hg1)
      go_ret
      exact ⟨rfl, (HR1.out.spoil (Below.refl _ _) false).from HG1.out⟩
    · go_enter Tryz.func44, Tryz.ntmps44
      go_wp2_with (go_at_call 42; refine HS2.out.mono ?_; rintro e w1 ⟨rfl, ⟨a1, m1, c1, hr1⟩, hg1⟩; have HR1 := Hid.mk2 hr1; have HG1 := Hid.mk2 hg1; have y1 := hr1.box.c 1 (by simp); have g1 := hr1.box.f 1; simp only [List.getElem_cons_zero, List.getElem_cons_succ] at y1; clear hr1 hg1)
      go_ret
      exact ⟨rfl, (HR1.out.spoil (Below.refl _ _) true).from HG1.out⟩
  have e1 : decide (x = 1) = false := decide_eq_false (fun h => h1 (HX1.out.1 h))
  rw [e1]
  have h1b : (n == 1) = false := by simpa using h1
  have h1c : (n != 1) = true := by simpa using h1
  by_cases h0 : n = 0
  · have e0 : decide (x = 0) = true := decide_eq_true (HX0.out.2 h0)
    rw [e0]
    subst h0
    clear e0 e1 h1
    cases b2
    · go_enter Tryz.func44, Tryz.ntmps44
      go_wp2_with (go_at_call 42; refine HS2.out.mono ?_; rintro e w1 ⟨rfl, ⟨a1, m1, c1, hr1⟩, hg1⟩; have HR1 := Hid.mk2 hr1; have HG1 := Hid.mk2 hg1; have y1 := hr1.box.c 1 (by simp); have g1 := hr1.box.f 1; simp only [List.getElem_cons_zero, List.getElem_cons_succ] at y1; clear hr1 hg1)
      go_ret
      exact ⟨rfl, (HR1.out.spoil (Below.refl _ _) false).from HG1.out⟩
    · go_enter Tryz.func44, Tryz.ntmps44
      go_wp2_with (go_at_call 42; refine HS2.out.mono ?_; rintro e w1 ⟨rfl, ⟨a1, m1, c1, hr1⟩, hg1⟩; have HR1 := Hid.mk2 hr1; have HG1 := Hid.mk2 hg1; have y1 := hr1.box.c 1 (by simp); have g1 := hr1.box.f 1; simp only [List.getElem_cons_zero, List.getElem_cons_succ] at y1; clear hr1 hg1)
      go_ret
      exact ⟨rfl, (HR1.out.spoil (Below.refl _ _) true).from HG1.out⟩
  · have e0 : decide (x = 0) = false := decide_eq_false (fun h => h0 (HX0.out.1 h))
    rw [e0]
    have h0b : (n == 0) = false := by simpa using h0
    have h0c : (n != 0) = true := by simpa using h0
    clear e0 e1 h1 h0
    cases b2
    all_goals
      go_enter Tryz.func44, Tryz.ntmps44
      go_wp2_with (go_at_call 42; refine HS2.out.mono ?_; rintro e w1 ⟨rfl, ⟨a1, m1, c1, hr1⟩, hg1⟩; have HR1 := Hid.mk2 hr1; have HG1 := Hid.mk2 hg1; have y1 := hr1.box.c 1 (by simp); have g1 := hr1.box.f 1; simp only [List.getElem_cons_zero, List.getElem_cons_succ] at y1; clear hr1 hg1)
      go_ret
      exact ⟨by first | rfl | simp, (HR1.out.spoil (Below.refl _ _) true).from HG1.out⟩
set_option maxHeartbeats 1000000 in
theorem pall_any (w : World) (R : Nat) (K : Nat → Prop) (s : Ps) (ao : Option Addr) (m cap : Nat) (h : Rdr w R K s ao m cap) :
    Calls Tryz.prog 45 #[.pointer (some ⟨R, 0, none⟩)] w fun e w' => e = .returned (.string (mk1 s.l)) ∧ RdX w w' R K ⟨[], s.bad⟩ := by
  have hx := h.box
  have x0 := hx.c 0 (by simp)
  have f0 := hx.f 0
  simp only [List.getElem_cons_zero, List.getElem_cons_succ] at x0
  have hcv := conv_rd h.rd
  rw [← h.len] at hcv
  have HS := Hid.mk2 (h.cut (Below.refl _ _) none 0 0 [] (GRd.nil _) rfl (fun a e => by cases e) (fun a e => by cases e) (by simp))
  have HM : Hid (mk1 s.l = ⟨s.l.toArray⟩) := rfl
  rw [HM.out]
  clear h hx
  go_enter Tryz.func45, Tryz.ntmps45
  go_wp2
  go_ret
  exact ⟨rfl, HS.out⟩
theorem bsat_of {w : World} {ao : Option Addr} {l : List UInt8} {cap : Nat} (h : GRd EY w ao l cap) : BsAt w w.heap.size ao l := by
  rcases h.at_ with e | ⟨b, off, e, hb, hc⟩
  · exact .inl e
  · refine .inr ⟨b, off, e, hb, fun j hj => ?_⟩
    have := hc j hj 0 (by decide)
    simpa [EY, bcell] using this
set_option maxHeartbeats 2000000 in
theorem psmall_any (w : World) (R : Nat) (K : Nat → Prop) (s : Ps) (ao : Option Addr) (m cap : Nat) (h : Rdr w R K s ao m cap) (most : Nat) :
    Calls Tryz.prog 66 #[.pointer (some ⟨R, 0, none⟩), .int .u64 (most : Int)] w fun e w' => e = .returned (.int .u64 ((pSmall most s).1 : Int)) ∧ RdX w w' R K (pSmall most s).2 := by
  obtain ⟨l, bad⟩ := s
  have hx := h.box
  have x0 := hx.c 0 (by simp)
  have f0 := hx.f 0
  have f1 := hx.f 1
  have x1 := hx.c 1 (by simp)
  simp only [List.getElem_cons_zero, List.getElem_cons_succ] at x0 x1
  have hrd := h.rd
  have hlen := h.len
  dsimp only at hrd hlen x1
  have hfew := h.few
  dsimp only at hfew
  have hR := read_any w w.heap.size ao l cap hrd.hl (Nat.le_trans hfew (by decide)) (bsat_of hrd)
  rw [← hlen] at hR
  have HB := Hid.mk2 (h.spoil (Below.refl _ _) true)
  have HP : Hid (pSmall most ⟨l, bad⟩ = match readL l with | some (n, k) => if n ≤ most then (n, ⟨l.drop k, bad⟩) else (0, ⟨l, true⟩) | none => (0, ⟨l, true⟩)) := rfl
  cases hq : readL l with
  | none =>
    obtain ⟨r1, r2, r3⟩ := read_none hq
    rw [r1, r2, r3] at hR
    have HR := Hid.mk2 hR
    have HE : Hid (pSmall most ⟨l, bad⟩ = (0, ⟨l, true⟩)) := by have := HP.out; rw [hq] at this; exact this
    rw [HE.out]
    clear h hx hrd hlen hR hfew hq
    go_enter Tryz.func66, Tryz.ntmps66
    go_wp2_with (go_at_call 82; refine HR.out.mono ?_; rintro e w1 ⟨rfl, rfl⟩)
    go_ret
    exact ⟨rfl, HB.out⟩
  | some p =>
    obtain ⟨n, k⟩ := p
    obtain ⟨r1, r2, r3⟩ := read_some hq
    rw [r1, r2, r3] at hR
    have HR := Hid.mk2 hR
    obtain ⟨q1, q2, q3⟩ := readL_le hq
    by_cases hn : n ≤ most
    · have HE : Hid (pSmall most ⟨l, bad⟩ = (n, ⟨l.drop k, bad⟩)) := by have := HP.out; rw [hq] at this; dsimp only at this; rw [if_pos hn] at this; exact this
      have hkm : k ≤ m := by omega
      have hni : ¬ (most : Int) < (n : Int) := by omega
      have HS := Hid.mk2 (h.cut (Below.refl _ _) (restA ao k cap) (m - k) (cap - k) (l.drop k) (rest_rd hrd k q1) (by rw [List.length_drop]; omega) (fun x e => by obtain ⟨a3, e3, e4⟩ := rest_block e; rw [← e4]; exact h.ne a3 e3) (fun x e => by obtain ⟨a3, e3, e4⟩ := rest_block e; rw [← e4]; exact h.lt a3 e3) (by rw [List.length_drop]; omega))
      rw [HE.out]
      clear h hx hrd hlen hR hfew hq q1 q2 q3 r1 r2 r3
      go_enter Tryz.func66, Tryz.ntmps66
      go_wp2_with (first
        | (go_at_call 82; refine HR.out.mono ?_; rintro e w1 ⟨rfl, rfl⟩)
        | (refine wpl_slice_l rfl _ _ rfl ao k m cap rfl rfl hkm ?_))
      go_ret
      exact ⟨rfl, HS.out⟩
    · have HE : Hid (pSmall most ⟨l, bad⟩ = (0, ⟨l, true⟩)) := by have := HP.out; rw [hq] at this; dsimp only at this; rw [if_neg hn] at this; exact this
      have hni : (most : Int) < (n : Int) := by omega
      rw [HE.out]
      clear h hx hrd hlen hR hfew hq q1 q2 q3 r1 r2 r3 hn
      go_enter Tryz.func66, Tryz.ntmps66
      go_wp2_with (go_at_call 82; refine HR.out.mono ?_; rintro e w1 ⟨rfl, rfl⟩)
      go_ret
      exact ⟨rfl, HB.out⟩
set_option maxHeartbeats 2000000 in
theorem ptext_any (w : World) (R : Nat) (K : Nat → Prop) (s : Ps) (ao : Option Addr) (m cap : Nat) (h : Rdr w R K s ao m cap) :
    Calls Tryz.prog 83 #[.pointer (some ⟨R, 0, none⟩)] w fun e w' => e = .returned (.string (mk1 (pText s).1)) ∧ RdX w w' R K (pText s).2 := by
  obtain ⟨l, bad⟩ := s
  have hx := h.box
  have x0 := hx.c 0 (by simp)
  have f0 := hx.f 0
  have f1 := hx.f 1
  have x1 := hx.c 1 (by simp)
  simp only [List.getElem_cons_zero, List.getElem_cons_succ] at x0 x1
  have hrd := h.rd
  have hlen := h.len
  dsimp only at hrd hlen x1
  have hfew := h.few
  dsimp only at hfew
  have hlt := h.box.lt
  have hC := cut_any w w.heap.size ao l cap (bsat_of hrd) hrd.hl (Nat.le_trans hrd.hc (by decide)) hrd.hn (Nat.le_refl _) (by omega)
  rw [← hlen] at hC
  have hcr : (cutR l).length ≤ l.length := by
    unfold cutR
    split
    · simp
    · exact sText_len ⟨l, false⟩
  have H := Hid.mk2 h
  have HC : Hid (Calls Tryz.prog 93 #[.slice ao m cap] w fun e w' => ∃ o' c', e = .returned (.tuple #[.string (mk1 (cutT l)), .slice o' (cutR l).length c', .int .i64 (cutE l)]) ∧ GRd EY w' o' (cutR l) c' ∧ (∀ a, o' = some a → w.heap.size ≤ a.block ∧ a.block < w'.heap.size) ∧ Below w.heap.size w w') := by
    refine hC.mono ?_
    rintro e w' ⟨v, rfl, ho, hb⟩
    obtain ⟨o', c', rfl, hr, hg⟩ := gown_rd3 (own_ofb ho)
    exact ⟨o', c', rfl, hr, hg, hb⟩
  have HP : Hid (pText ⟨l, bad⟩ = if cutE l = 0 then (cutT l, ⟨cutR l, bad⟩) else ([], ⟨l, true⟩)) := rfl
  obtain ⟨CE, hCE⟩ : ∃ x, x = cutE l := ⟨_, rfl⟩
  rw [← hCE] at HC HP
  clear h hx hrd hlen hC hCE
  by_cases he : CE = 0
  · subst he
    rw [HP.out, if_pos rfl]
    go_enter Tryz.func83, Tryz.ntmps83
    go_wp2_with (go_at_call 93; refine HC.out.mono ?_; rintro e w1 ⟨o1, c1, rfl, hr1, hg1, hb1⟩; have HR1 := Hid.mk2 hr1; have HG1 := Hid.mk2 hg1; have HB1 := Hid.mk2 hb1; have z0 := (H.out.box.below hb1).c 0 (by simp); have y0 := (H.out.box.below hb1).f 0; simp only [List.getElem_cons_zero] at z0; clear hr1 hg1 hb1)
    go_ret
    exact ⟨rfl, H.out.cut HB1.out o1 _ c1 (cutR l) HR1.out rfl (fun a e hk => by have := (HG1.out a e).1; have := H.out.kl _ hk; omega) (fun a e => (HG1.out a e).2) (by omega)⟩
  · have heb : (CE != 0) = true := by simpa using he
    rw [HP.out, if_neg he]
    go_enter Tryz.func83, Tryz.ntmps83
    go_wp2_with (go_at_call 93; refine HC.out.mono ?_; rintro e w1 ⟨o1, c1, rfl, hr1, hg1, hb1⟩; have HB1 := Hid.mk2 hb1; have z1 := (H.out.box.below hb1).c 1 (by simp); have y1 := (H.out.box.below hb1).f 1; simp only [List.getElem_cons_zero, List.getElem_cons_succ] at z1; clear hr1 hg1 hb1)
    go_ret
    exact ⟨rfl, H.out.spoil HB1.out true⟩
end Go.Proofs.YtblbabekbpcdiaaGreatDoor
/-
  (shaken)
-/
namespace Go.Proofs.YtblbabekbpcdiaaGreatDoor
open Go.Proofs.YtblbabekbpcdiaaGreatDoor.It
open Go.RowKit
set_option linter.unusedSimpArgs false
set_option linter.unusedVariables false
set_option maxRecDepth 100000

end Go.Proofs.YtblbabekbpcdiaaGreatDoor
/-
  (shaken)
-/
namespace Go.Proofs.YtblbabekbpcdiaaGreatDoor
open Go.Proofs.YtblbabekbpcdiaaGreatDoor.It
open Go.RowKit
set_option linter.unusedSimpArgs false
set_option linter.unusedVariables false
set_option maxRecDepth 100000

theorem res_cell {fn : Func} {s t : Tmp} {ty : TypeId} {tmps : Array Value} {w : World} {b : Nat} {v : Value} (h : fn.results = #[.cell s ty, .tmp t]) (hs : tmps.getD s undef = .pointer (some ⟨b, 0, none⟩)) (hl : (loadVar ty ⟨b, 0, none⟩).run Tryz.prog w = .ok v w) :
    (results fn tmps).run Tryz.prog w = .ok (.tuple #[v, tmps.getD t undef]) w := by
  have hs2 : tmps[s]?.getD undef = .pointer (some ⟨b, 0, none⟩) := by simpa using hs
  simp [results, h, hs2, hl, asAddr]
theorem result_info : (Tryz.prog.info? 25).map (·.size) = some 3 := by kernel_rfl
theorem zset3 {w : World} {b : Nat} {vs : List Value} (h : GBx w b vs) (hl : vs.length = 3) (a0 a1 a2 : Value) : GBx (((w.setCell ⟨b, 0, none⟩ a0).setCell ⟨b, 1, none⟩ a1).setCell ⟨b, 2, none⟩ a2) b [a0, a1, a2] := by
  match vs, hl with
  | [_, _, _], _ => exact ((h.set 0 a0 (by simp)).set 1 a1 (by simp)).set 2 a2 (by simp)
theorem zbelow3 {n b : Nat} {w W : World} (h : Below n w W) (hb : n ≤ b) (a0 a1 a2 : Value) : Below n w (((W.setCell ⟨b, 0, none⟩ a0).setCell ⟨b, 1, none⟩ a1).setCell ⟨b, 2, none⟩ a2) :=
  ((h.setCell (p := ⟨b, 0, none⟩) hb a0).setCell (p := ⟨b, 1, none⟩) hb a1).setCell (p := ⟨b, 2, none⟩) hb a2
theorem wdoneWord_any (k : Int) (w : World) : Calls Tryz.prog 52 #[.int .u8 k] w fun e w' => e = .returned (.string (doneW k)) ∧ w' = w := by
  unfold doneW
  by_cases h2 : k = 2
  · subst h2
    go_enter Tryz.func52, Tryz.ntmps52
    go_wp2
    go_ret
    exact ⟨by first | rfl | simp, rfl⟩
  by_cases h3 : k = 3
  · subst h3
    go_enter Tryz.func52, Tryz.ntmps52
    go_wp2
    go_ret
    exact ⟨by first | rfl | simp, rfl⟩
  by_cases h4 : k = 4
  · subst h4
    go_enter Tryz.func52, Tryz.ntmps52
    go_wp2
    go_ret
    exact ⟨by first | rfl | simp, rfl⟩
  by_cases h5 : k = 5
  · subst h5
    go_enter Tryz.func52, Tryz.ntmps52
    go_wp2
    go_ret
    exact ⟨by first | rfl | simp, rfl⟩
  by_cases h8 : k = 8
  · subst h8
    go_enter Tryz.func52, Tryz.ntmps52
    go_wp2
    go_ret
    exact ⟨by first | rfl | simp, rfl⟩
  by_cases h6 : k = 6
  · subst h6
    go_enter Tryz.func52, Tryz.ntmps52
    go_wp2
    go_ret
    exact ⟨by first | rfl | simp, rfl⟩
  by_cases h7 : k = 7
  · subst h7
    go_enter Tryz.func52, Tryz.ntmps52
    go_wp2
    go_ret
    exact ⟨by first | rfl | simp, rfl⟩
  by_cases h9 : k = 9
  · subst h9
    go_enter Tryz.func52, Tryz.ntmps52
    go_wp2
    go_ret
    exact ⟨by first | rfl | simp, rfl⟩
  by_cases h11 : k = 11
  · subst h11
    go_enter Tryz.func52, Tryz.ntmps52
    go_wp2
    go_ret
    exact ⟨by first | rfl | simp, rfl⟩
  by_cases h10 : k = 10
  · subst h10
    go_enter Tryz.func52, Tryz.ntmps52
    go_wp2
    go_ret
    exact ⟨by first | rfl | simp, rfl⟩
  rw [if_neg (by omega), if_neg (by omega), if_neg (by omega), if_neg (by omega), if_neg (by omega)]
  go_enter Tryz.func52, Tryz.ntmps52
  go_wp2
  go_ret
  exact ⟨rfl, rfl⟩
theorem pre_iff (p l : List UInt8) : p.isPrefixOf l = decide (l.take p.length = p) := by
  induction p generalizing l with
  | nil => simp
  | cons a p ih =>
    cases l with
    | nil => simp
    | cons b l =>
      rw [List.isPrefixOf_cons_cons, ih l]
      by_cases h : a = b
      · subst h; simp
      · have : ¬ b = a := fun e => h e.symm
        simp [h, this]
theorem wcutPre_any (s p : ByteArray) (w : World) : Calls Tryz.prog 61 #[.string s, .string p] w fun e w' => (if (bl s).take (bl p).length = bl p then e = .returned (.tuple #[.string (mkB ((bl s).drop (bl p).length)), .bool true]) else e = .returned (.tuple #[.string s, .bool false])) ∧ w' = w := by
  have c := Any.strings_CutPrefix Tryz.layCutPrefix s p w
  refine c.mono ?_
  rintro e w' ⟨rfl, rfl⟩
  refine ⟨?_, rfl⟩
  have h := pre_iff (bl p) (bl s)
  by_cases hp : (bl s).take (bl p).length = bl p
  · rw [if_pos hp]
    rw [decide_eq_true hp] at h
    have h2 : Lib.hasPrefix s.data.toList p.data.toList = true := h
    have h3 : Lib.trimPrefix s.data.toList p.data.toList = (bl s).drop (bl p).length := by unfold Lib.trimPrefix; rw [h2]; rfl
    rw [h2, h3]
    rfl
  · rw [if_neg hp]
    rw [decide_eq_false hp] at h
    have h2 : Lib.hasPrefix s.data.toList p.data.toList = false := h
    have h3 : Lib.trimPrefix s.data.toList p.data.toList = bl s := by unfold Lib.trimPrefix; rw [h2]; rfl
    rw [h2, h3]
    have : (⟨(bl s).toArray⟩ : ByteArray) = s := mk_bl s
    rw [this]
end Go.Proofs.YtblbabekbpcdiaaGreatDoor
/-
  Structs of several cells that are loaded, stored, answered whole (package packed).
-/
namespace Go.Proofs.YtblbabekbpcdiaaGreatDoor
open Go.Proofs.YtblbabekbpcdiaaGreatDoor.It
open Go.RowKit
set_option linter.unusedSimpArgs false
set_option linter.unusedVariables false
set_option maxRecDepth 100000

def ysets (w : World) (b : Nat) : Nat → List Value → World
  | _, [] => w
  | j, v :: vs => ysets (w.setCell ⟨b, j, none⟩ v) b (j + 1) vs
theorem ysets_eq (b : Nat) : ∀ (vs : List Value) (w : World) (j : Nat), w.setCells b j vs = ysets w b j vs
  | [], _, _ => rfl
  | v :: vs, w, j => ysets_eq b vs _ (j + 1)
theorem ysets_grown (b : Nat) : ∀ (vs : List Value) (w : World) (j : Nat), w.grownBy (ysets w b j vs) (some b)
  | [], w, _ => World.grownBy.refl w _
  | v :: vs, w, j => (g_set w ⟨b, j, none⟩ v).trans (ysets_grown b vs _ (j + 1))
theorem ysets_box (b : Nat) : ∀ (vs us pre : List Value) (w : World), GBx w b (pre ++ us) → us.length = vs.length → GBx (ysets w b pre.length vs) b (pre ++ vs)
  | [], [], pre, w, h, _ => h
  | [], _ :: _, _, _, _, e => by simp at e
  | v :: vs, [], _, _, _, e => by simp at e
  | v :: vs, u :: us, pre, w, h, e => by
    have h1 : GBx (w.setCell ⟨b, pre.length, none⟩ v) b ((pre ++ [v]) ++ us) := by
      have := h.set pre.length v (by simp)
      refine this.ext ?_
      rw [List.set_append_right _ _ (Nat.le_refl _), Nat.sub_self, List.set_cons_zero, List.append_assoc]
      rfl
    have h2 := ysets_box b vs us (pre ++ [v]) _ h1 (by simpa using e)
    rw [List.length_append, List.length_singleton] at h2
    unfold ysets
    rw [List.append_assoc] at h2
    exact h2
theorem ybox {w : World} {b : Nat} {us : List Value} (h : GBx w b us) (vs : List Value) (e : us.length = vs.length) : GBx (ysets w b 0 vs) b vs := ysets_box b vs us [] w h e
theorem ywpl_store {ops : Array Oper} {rest : List Oper} {o : Oper} {a : Act} {w : World} {Q : Exit → Act → World → Prop} (hgd : o.guard = none) (ty : TypeId) (s y : Operand) (ho : o.op = .store ty s y) (b : Nat) (cs us : List Value) (hx : a.eval s = .pointer (some ⟨b, 0, none⟩)) (hy : a.eval y = .agg cs.toArray) (hi : (Tryz.prog.info? ty).map (·.size) = some cs.length)
    (hb : GBx w b us) (hl : us.length = cs.length) (h1 : ∀ v ∈ cs, v.oneCell' = true) (h : wpList Tryz.prog ops Q rest (a.put o.dst undef) (ysets w b 0 cs)) : wpList Tryz.prog ops Q (o :: rest) a w := by
  refine wpList_plain hgd fun K hK => ?_
  have hst := run_storeCells_cells (P := Tryz.prog) b 0 cs 0 w (by intro j hj; rw [Nat.zero_add, hb.c j (by omega)]; rfl) (by intro j hj; rw [Nat.zero_add]; exact hb.f j) h1
  rw [Nat.zero_add, ysets_eq] at hst
  have hsv : (storeVar ty ⟨b, 0, none⟩ (.agg cs.toArray)).run Tryz.prog w = .ok () (ysets w b 0 cs) := by
    cases hq : Tryz.prog.info? ty with
    | none => simp [hq] at hi
    | some i =>
      have hs : cs.length = i.size := by simp [hq] at hi; omega
      simp [storeVar, sizeOf, typeInfo, hq, Value.cells, hs, hst]
  unfold Oper.wp execOp
  simp only [ho, hx, hy, Instr.storeAt, Instr.sureAddr, Sem.run_bind, Sem.run_pure, Result.andThen_ok, hsv]
  exact hK _ _ h
theorem res_cell2 {fn : Func} {s t u : Tmp} {ty : TypeId} {tmps : Array Value} {w : World} {b : Nat} {v : Value} (h : fn.results = #[.cell s ty, .tmp t, .tmp u]) (hs : tmps.getD s undef = .pointer (some ⟨b, 0, none⟩)) (hl : (loadVar ty ⟨b, 0, none⟩).run Tryz.prog w = .ok v w) :
    (results fn tmps).run Tryz.prog w = .ok (.tuple #[v, tmps.getD t undef, tmps.getD u undef]) w := by
  have hs2 : tmps[s]?.getD undef = .pointer (some ⟨b, 0, none⟩) := by simpa using hs
  simp [results, h, hs2, hl, asAddr]
theorem zres_cell1 {fn : Func} {s : Tmp} {ty : TypeId} {tmps : Array Value} {w : World} {b : Nat} {v : Value} (h : fn.results = #[.cell s ty]) (hs : tmps.getD s undef = .pointer (some ⟨b, 0, none⟩)) (hl : (loadVar ty ⟨b, 0, none⟩).run Tryz.prog w = .ok v w) :
    (results fn tmps).run Tryz.prog w = .ok v w := by
  have hs2 : tmps[s]?.getD undef = .pointer (some ⟨b, 0, none⟩) := by simpa using hs
  simp [results, h, hs2, hl, asAddr]
theorem ywpl_load_g {ops : Array Oper} {rest : List Oper} {o : Oper} {a : Act} {w : World} {Q : Exit → Act → World → Prop} (hw : Region.wanted o (yielded ops a.tmps) = true) (ty : TypeId) (s : Operand) (ho : o.op = .load ty s) (b : Nat) (hx : a.eval s = .pointer (some ⟨b, 0, none⟩)) (cs : List Value) (hc : GBx w b cs) (d : TypeDesc)
    (hu : Tryz.prog.underlying ty = some d) (hd : (match d with | .struct _ | .array _ _ => true | _ => false) = true) (hi : (Tryz.prog.info? ty).map (·.size) = some cs.length) (h : wpList Tryz.prog ops Q rest (a.put o.dst (.agg cs.toArray)) w) : wpList Tryz.prog ops Q (o :: rest) a w := by
  refine BigFrame.wpList_want hw fun K hK => ?_
  have hlv := load_var hc ty d hu hd hi
  unfold Oper.wp execOp
  simp only [ho, hx, Instr.loadAt, Instr.sureAddr, Sem.run_bind, Sem.run_pure, Result.andThen_ok, hlv]
  exact hK _ _ h
end Go.Proofs.YtblbabekbpcdiaaGreatDoor
/-
  (shaken)
-/
namespace Go.Proofs.YtblbabekbpcdiaaGreatDoor
open Go.Proofs.YtblbabekbpcdiaaGreatDoor.It
open Go.RowKit
set_option linter.unusedSimpArgs false
set_option linter.unusedVariables false
set_option maxRecDepth 100000

theorem gr_new {w a b : World} {R P : Nat} (h : w.grownBy a (some R)) (h2 : a.grownBy b (some P)) (hP : w.heap.size ≤ P) : w.grownBy b (some R) :=
  ⟨h2.os.trans h.os, h2.tape.trans h.tape, h2.output.trans h.output, Nat.le_trans h.size h2.size, fun i hi hne => (h2.block i (Nat.lt_of_lt_of_le hi h.size) (fun e => by have := Option.some.inj e; omega)).trans (h.block i hi hne)⟩
theorem pSmall_le (most : Nat) (s : Ps) : (pSmall most s).1 ≤ most := by
  unfold pSmall
  split
  · split
    · assumption
    · exact Nat.zero_le _
  · exact Nat.zero_le _
def imzc : List Value := [.string ⟨#[]⟩, .string ⟨#[]⟩, .int .u32 0, .int .i64 0, .int .u64 0]
set_option maxHeartbeats 2000000 in
theorem pitem_any (w : World) (R : Nat) (K : Nat → Prop) (s : Ps) (ao : Option Addr) (m cap : Nat) (h : Rdr w R K s ao m cap) :
    Calls Tryz.prog 67 #[.pointer (some ⟨R, 0, none⟩)] w fun e w' => e = .returned (.agg #[.string (pItem s).1.key, .string (pItem s).1.value, .int .u32 (pItem s).1.flags, .int .i64 (pItem s).1.till, .int .u64 (pItem s).1.unique]) ∧ RdX w w' R K (pItem s).2 := by
  obtain ⟨W, hW⟩ : ∃ W, W = w.alloc (.cells #[.string ⟨#[]⟩, .string ⟨#[]⟩, .int .u32 0, .int .i64 0, .int .u64 0] 40) := ⟨_, rfl⟩
  have hb0 : Below w.heap.size w W := by rw [hW]; exact g_alloc _ _
  have hws : W.heap.size = w.heap.size + 1 := by rw [hW]; simp
  have HX0 : Hid (GBx W w.heap.size imzc) := by rw [hW]; exact GBx.made w imzc _
  have HR0 := Hid.mk2 (h.more hb0 w.heap.size (Nat.le_refl _) (by omega))
  have HRP : Hid (R < w.heap.size ∧ K R) := ⟨h.box.lt, h.kR⟩
  have HG0 := Hid.mk2 (g_grown hb0 (some R))
  obtain ⟨P, hP⟩ : ∃ P, P = w.heap.size := ⟨_, rfl⟩
  have HP := Hid.mk2 hP
  rw [← hP] at HX0 HR0
  obtain ⟨K2, hK2⟩ : ∃ K2, K2 = fun b => K b ∨ b = P := ⟨_, rfl⟩
  rw [← hK2] at HR0
  have HK2 : Hid (K2 P ∧ ∀ b, K b → K2 b) := by rw [hK2]; exact ⟨.inr rfl, fun b hb => .inl hb⟩
  have HC1 := Hid.mk2 (fun w ao m cap (h : Rdr w R K2 s ao m cap) => ptext_any w R K2 s ao m cap h)
  obtain ⟨⟨k1, s1⟩, e1⟩ : ∃ q, q = pText s := ⟨_, rfl⟩
  rw [← e1] at HC1
  have HC2 := Hid.mk2 (fun w ao m cap (h : Rdr w R K2 s1 ao m cap) => ptext_any w R K2 s1 ao m cap h)
  obtain ⟨⟨k2, s2⟩, e2⟩ : ∃ q, q = pText s1 := ⟨_, rfl⟩
  rw [← e2] at HC2
  have HC3 := Hid.mk2 (fun w ao m cap (h : Rdr w R K2 s2 ao m cap) => psmall_any w R K2 s2 ao m cap h 4294967295)
  have b3 := pSmall_le 4294967295 s2
  obtain ⟨⟨n3, s3⟩, e3⟩ : ∃ q, q = pSmall 4294967295 s2 := ⟨_, rfl⟩
  rw [← e3] at HC3 b3
  have HC4 := Hid.mk2 (fun w ao m cap (h : Rdr w R K2 s3 ao m cap) => psmall_any w R K2 s3 ao m cap h 1099511627776)
  have b4 := pSmall_le 1099511627776 s3
  obtain ⟨⟨n4, s4⟩, e4⟩ : ∃ q, q = pSmall 1099511627776 s3 := ⟨_, rfl⟩
  rw [← e4] at HC4 b4
  have HC5 := Hid.mk2 (fun w ao m cap (h : Rdr w R K2 s4 ao m cap) => psmall_any w R K2 s4 ao m cap h 18446744073709551615)
  have b5 := pSmall_le 18446744073709551615 s4
  obtain ⟨⟨n5, s5⟩, e5⟩ : ∃ q, q = pSmall 18446744073709551615 s4 := ⟨_, rfl⟩
  rw [← e5] at HC5 b5
  have HE : pItem s = (⟨mk1 k1, mk1 k2, (n3 : Int), (n4 : Int), (n5 : Int)⟩, s5) := by
    unfold pItem
    rw [← e1]
    dsimp only
    rw [← e2]
    dsimp only
    rw [← e3]
    dsimp only
    rw [← e4]
    dsimp only
    rw [← e5]
  rw [HE]
  dsimp only at b3 b4 b5 ⊢
  have D1 : Hid (∀ w ao m cap, Rdr w R K2 s ao m cap → Calls Tryz.prog 83 #[.pointer (some ⟨R, 0, none⟩)] w fun e w' => e = .returned (.string (mk1 k1)) ∧ RdX w w' R K2 s1) := HC1.out
  have D2 : Hid (∀ w ao m cap, Rdr w R K2 s1 ao m cap → Calls Tryz.prog 83 #[.pointer (some ⟨R, 0, none⟩)] w fun e w' => e = .returned (.string (mk1 k2)) ∧ RdX w w' R K2 s2) := HC2.out
  have D3 : Hid (∀ w ao m cap, Rdr w R K2 s2 ao m cap → Calls Tryz.prog 66 #[.pointer (some ⟨R, 0, none⟩), .int .u64 4294967295] w fun e w' => e = .returned (.int .u64 (n3 : Int)) ∧ RdX w w' R K2 s3) := HC3.out
  have D4 : Hid (∀ w ao m cap, Rdr w R K2 s3 ao m cap → Calls Tryz.prog 66 #[.pointer (some ⟨R, 0, none⟩), .int .u64 1099511627776] w fun e w' => e = .returned (.int .u64 (n4 : Int)) ∧ RdX w w' R K2 s4) := HC4.out
  have D5 : Hid (∀ w ao m cap, Rdr w R K2 s4 ao m cap → Calls Tryz.prog 66 #[.pointer (some ⟨R, 0, none⟩), .int .u64 18446744073709551615] w fun e w' => e = .returned (.int .u64 (n5 : Int)) ∧ RdX w w' R K2 s5) := HC5.out
  have i3 : (n3 : Int) ≤ 4294967295 := by omega
  have i4 : (n4 : Int) ≤ 1099511627776 := by omega
  have hw3 : IntKind.u32.wrap (n3 : Int) = (n3 : Int) := by
    have e : IntKind.u32.wrap (n3 : Int) = (n3 : Int) % 4294967296 := rfl
    rw [e]; omega
  have hw4 : wrap64 (n4 : Int) = (n4 : Int) := IntWalk.wrap64_in _ ⟨by omega, by omega⟩
  have hm3 : (n3 : Int) % 4294967296 = (n3 : Int) := by omega
  obtain ⟨ka, hka⟩ : ∃ q, q = mk1 k1 := ⟨_, rfl⟩
  obtain ⟨kb, hkb⟩ : ∃ q, q = mk1 k2 := ⟨_, rfl⟩
  rw [← hka] at D1 ⊢
  rw [← hkb] at D2 ⊢
  clear HC1 HC2 HC3 HC4 HC5 e1 e2 e3 e4 e5 HE b3 b4 b5 hka hkb h hb0 hws hK2
  go_enter Tryz.func67, Tryz.ntmps67
  go_upto_region 1 with (fail)
  rw [← hW, ← hP]
  clear hW hP
  go_wp2_with (first
    | (have h9 := HR4; go_at_call 66; refine (D5.out _ _ _ _ HR4.out).mono ?_; rintro e w5 ⟨rfl, ⟨a5, m5, c5, hr5⟩, hg5⟩; have HR5 := Hid.mk2 hr5; have HG5 := Hid.mk2 (HG4.out.trans hg5); have HX5 := Hid.mk2 (HX4.out.grown hg5 (by have := HRP.out.1; have := HP.out; intro e; have := Option.some.inj e; omega)); clear hr5 hg5)
    | (have h9 := HR3; go_at_call 66; refine (D4.out _ _ _ _ HR3.out).mono ?_; rintro e w4 ⟨rfl, ⟨a4, m4, c4, hr4⟩, hg4⟩; have HR4 := Hid.mk2 hr4; have HG4 := Hid.mk2 (HG3.out.trans hg4); have HX4 := Hid.mk2 (HX3.out.grown hg4 (by have := HRP.out.1; have := HP.out; intro e; have := Option.some.inj e; omega)); clear hr4 hg4)
    | (have h9 := HR2; go_at_call 66; refine (D3.out _ _ _ _ HR2.out).mono ?_; rintro e w3 ⟨rfl, ⟨a3, m3, c3, hr3⟩, hg3⟩; have HR3 := Hid.mk2 hr3; have HG3 := Hid.mk2 (HG2.out.trans hg3); have HX3 := Hid.mk2 (HX2.out.grown hg3 (by have := HRP.out.1; have := HP.out; intro e; have := Option.some.inj e; omega)); clear hr3 hg3)
    | (have h9 := HR1; go_at_call 83; refine (D2.out _ _ _ _ HR1.out).mono ?_; rintro e w2 ⟨rfl, ⟨a2, m2, c2, hr2⟩, hg2⟩; have HR2 := Hid.mk2 hr2; have HG2 := Hid.mk2 (HG1.out.trans hg2); have HX2 := Hid.mk2 (HX1.out.grown hg2 (by have := HRP.out.1; have := HP.out; intro e; have := Option.some.inj e; omega)); clear hr2 hg2)
    | (go_at_call 83; refine (D1.out _ _ _ _ HR0.out).mono ?_; rintro e w1 ⟨rfl, ⟨a1, m1, c1, hr1⟩, hg1⟩; have HR1 := Hid.mk2 hr1; have HG1 := Hid.mk2 (HG0.out.trans hg1); have HX1 := Hid.mk2 (HX0.out.grown hg1 (by have := HRP.out.1; have := HP.out; intro e; have := Option.some.inj e; omega)); clear hr1 hg1)
    | (refine ywpl_store rfl 40 _ _ rfl P [.string ka, .string kb, .int .u32 (n3 : Int), .int .i64 (n4 : Int), .int .u64 (n5 : Int)] imzc rfl (by first | rfl | simp [hw3]) (by kernel_rfl) HX5.out rfl (by intro v hv; simp at hv; rcases hv with rfl | rfl | rfl | rfl | rfl <;> rfl) ?_))
  refine bodyPost_ret (zres_cell1 rfl rfl (load_var (ybox HX5.out [.string ka, .string kb, .int .u32 (n3 : Int), .int .i64 (n4 : Int), .int .u64 (n5 : Int)] rfl) 40 _ Tryz.underlying40 rfl (by kernel_rfl))) rfl ?_
  have hy := ysets_grown P [.string ka, .string kb, .int .u32 (n3 : Int), .int .i64 (n4 : Int), .int .u64 (n5 : Int)] w5 0
  exact ⟨rfl, ⟨a5, m5, c5, (HR5.out.grown hy (by have := HRP.out.1; have := HP.out; intro e; have := Option.some.inj e; omega) (fun b e => .inl (by cases e; exact HK2.out.1))).less HK2.out.2 HRP.out.2⟩, gr_new HG5.out hy (Nat.le_of_eq HP.out.symm)⟩
end Go.Proofs.YtblbabekbpcdiaaGreatDoor
