/-
  Several texts in one: TyG, TyH, TyI, TyJ, TyK.
-/
import Derived.Test.YtldnkminhppngaaDoorG01
import Derived.MapKept
/-
  Functions that read off a draft: what it is to be one; those that keysUpTo, number, request and command make.
-/
namespace Go.Proofs.YtldnkminhppngaaDoor
open Go.Proofs.YtldnkminhppngaaDoor.It
open Go.RowKit
set_option linter.unusedSimpArgs false
set_option linter.unusedVariables false
set_option maxRecDepth 100000

/-- a function value -/
structure Fv where
  g : Nat
  lb : Array Value
def Fv.val (f : Fv) : Value := .func (.func f.g) #[] f.lb
def EF : GEl Fv := ⟨67, 100, 1, 8, .nilFunc, fun f => [f.val]⟩
theorem okF : GOk EF := ⟨Tryd.underlying100, by kernel_rfl, rfl, by decide, by decide, fun _ => rfl, fun a u h => by simp [EF, Fv.val] at h; subst h; rfl⟩
/-- a function that reads off a draft: in every world in which nothing but the block ro has turned -/
structure FnD (ro : Option Nat) (W : World) (f : Fv) (F : Dr → Option Dr) : Prop where
  en : ∀ args w, (callFunc f.g args).run Tryd.prog w = .ok (.enter f.g args) w
  says : ∀ V, W.grownBy V ro → Gl V → ∀ b d, W.heap.size ≤ b → Dw V b d → Calls Tryd.prog f.g (#[.pointer (some ⟨b, 0, none⟩)] ++ f.lb) V fun e V' => Told V V' b e (F d)
theorem FnD.on {ro : Option Nat} {W W2 : World} {f : Fv} {F : Dr → Option Dr} (h : FnD ro W f F) (hg : W.grownBy W2 ro) : FnD ro W2 f F :=
  ⟨h.en, fun V hV hG b d hb hD => h.says V (hg.trans hV) hG b d (Nat.le_trans hg.size hb) hD⟩
theorem FnD.below {ro : Option Nat} {W W2 : World} {f : Fv} {F : Dr → Option Dr} (h : FnD ro W f F) (hg : Below W.heap.size W W2) : FnD ro W2 f F := h.on (g_grown hg ro)
theorem FnD.ro {W : World} {f : Fv} {F : Dr → Option Dr} (h : FnD none W f F) {W2 : World} (hb : Below W.heap.size W W2) (r : Nat) (hr : W.heap.size ≤ r) : FnD (some r) W2 f F :=
  ⟨h.en, fun V hV hG b d hb2 hD => h.says V (by
    have h1 := hb.size
    exact ⟨hV.os.trans hb.os, hV.tape.trans hb.tape, hV.output.trans hb.output, Nat.le_trans h1 hV.size, fun k hk _ => (hV.block k (by omega) (by intro e; have := Option.some.inj e; omega)).trans (hb.block k hk)⟩) hG b d (Nat.le_trans hb.size hb2) hD⟩
theorem FnD.non {ro : Option Nat} {W : World} {f : Fv} {F : Dr → Option Dr} (h : FnD ro W f F) : FnD none W f F :=
  ⟨h.en, fun V hV hG b d hb hD => h.says V (g_grown (g_grown_below hV) ro) hG b d hb hD⟩
theorem Told.yes {V V' : World} {b : Nat} {e : Ending} {x : Option Dr} {d : Dr} (h : Told V V' b e x) (hx : x = some d) : e = .returned (.bool true) ∧ Dw V' b d ∧ V.grownBy V' (some b) := by
  obtain ⟨⟨d', hd, h1 | h1⟩, hg⟩ := h
  · have := Option.some.inj (hx.symm.trans h1.1)
    subst this
    exact ⟨h1.2, hd, hg⟩
  · rw [hx] at h1; cases h1.1
theorem Told.no {V V' : World} {b : Nat} {e : Ending} {x : Option Dr} (h : Told V V' b e x) (hx : x = none) : e = .returned (.bool false) ∧ (∃ d', Dw V' b d') ∧ V.grownBy V' (some b) := by
  obtain ⟨⟨d', hd, h1 | h1⟩, hg⟩ := h
  · rw [hx] at h1; cases h1.1
  · exact ⟨h1.2, ⟨d', hd⟩, hg⟩
theorem GRd.grownr {α : Type} {E : GEl α} {W V : World} {ro : Option Nat} {ao : Option Addr} {l : List α} {cap : Nat} (h : GRd E W ao l cap) (hg : W.grownBy V ro) (hne : ∀ g o, ao = some ⟨g, o, none⟩ → l ≠ [] → ro ≠ some g) : GRd E V ao l cap := by
  refine ⟨h.hl, h.hc, h.hn, ?_⟩
  rcases h.at_ with e | ⟨g, off, e, hlt, hc⟩
  · exact .inl e
  · by_cases hl : l = []
    · exact .inl hl
    · have hb : V.heap[g]? = W.heap[g]? := hg.block g hlt (fun e2 => hne g off e hl e2.symm)
      exact .inr ⟨g, off, e, Nat.lt_of_lt_of_le hlt hg.size, fun i hi j hj => (World.cell?_of_block (a := ⟨g, off + i * E.sz + j, none⟩) hb).trans (hc i hi j hj)⟩
theorem cell_r {W V : World} {ro : Option Nat} {p : Nat} {u : Value} (hg : W.grownBy V ro) (hne : ro ≠ some p) (h : W.cell? ⟨p, 0, none⟩ = some u) : V.cell? ⟨p, 0, none⟩ = some u := by
  have hlt : p < W.heap.size := Lib.lt_of_cell h
  have hb : V.heap[p]? = W.heap[p]? := hg.block p hlt (fun e => hne e.symm)
  exact (World.cell?_of_block (a := ⟨p, 0, none⟩) hb).trans h

theorem secret_fn (W : World) (ro : Option Nat) : FnD ro W ⟨42, #[]⟩ (Pt.go .secret) :=
  ⟨Go.Proofs.enters_of Tryd.func42 (by kernel_rfl) rfl, fun V _ _ b d _ hD => secret_any V b d hD⟩
theorem onoff_fn (W : World) (ro : Option Nat) : FnD ro W ⟨43, #[]⟩ (Pt.go .onoff) :=
  ⟨Go.Proofs.enters_of Tryd.func43 (by kernel_rfl) rfl, fun V _ _ b d _ hD => onoff_any V b d hD⟩
/-- keysUpTo -/
theorem keysUpTo_any (most : Nat) (hm : most ≤ 8) (W : World) : Calls Tryd.prog 31 #[.int .i64 (most : Nat)] W fun e W' => ∃ f : Fv, e = .returned f.val ∧ FnD none W' f (kgo most) ∧ Below W.heap.size W W' := by
  have HF : Hid (FnD none (W.alloc (.cells #[.int .i64 (most : Nat)] 3)) ⟨55, #[.pointer (some ⟨W.heap.size, 0, none⟩)]⟩ (kgo most)) := by
    refine ⟨Go.Proofs.enters_of Tryd.func55 (by kernel_rfl) rfl, fun V hV hG b d hb hD => ?_⟩
    have hs : (W.alloc (.cells #[.int .i64 (most : Nat)] 3)).heap.size = W.heap.size + 1 := by simp
    exact keys1_any most W.heap.size hm V b d hD (by omega) (cell_r hV (by simp) (by simp))
  clear hm
  go_enter Tryd.func31, Tryd.ntmps31
  go_wp2
  go_ret
  exact ⟨_, rfl, HF.out, g_alloc _ _⟩
theorem number_any (h most : Nat) (hm : most ≤ 18446744073709551615) (put : Dr → Nat → Dr) (hP : PutSays h most put) (W : World) : Calls Tryd.prog 32 #[.int .u64 (most : Nat), .func (.func h) #[] #[]] W fun e W' => ∃ f : Fv, e = .returned f.val ∧ FnD none W' f (ngo most put) ∧ Below W.heap.size W W' := by
  obtain ⟨W2, hW2⟩ : ∃ W2, W2 = (W.alloc (.cells #[.int .u64 (most : Nat)] 24)).alloc (.cells #[.func (.func h) #[] #[]] 76) := ⟨_, rfl⟩
  have HF : Hid (FnD none W2 ⟨59, #[.pointer (some ⟨W.heap.size, 0, none⟩), .pointer (some ⟨W.heap.size + 1, 0, none⟩)]⟩ (ngo most put)) := by
    refine ⟨Go.Proofs.enters_of Tryd.func59 (by kernel_rfl) rfl, fun V hV hG b d hb hD => ?_⟩
    have hs : W2.heap.size = W.heap.size + 2 := by rw [hW2]; simp
    exact number1_any h most hm put hP W.heap.size (W.heap.size + 1) V b d hG hD (by omega) (by omega) (cell_r hV (by simp) (by rw [hW2]; simp)) (cell_r hV (by simp) (by rw [hW2]; simp))
  have HB : Hid (Below W.heap.size W W2) := by
    show Below _ _ _
    rw [hW2]
    exact ((Below.refl _ _).alloc (Nat.le_refl _) _).alloc (by simp) _
  have HW := Hid.mk2 hW2
  clear hm hP hW2
  go_enter Tryd.func32, Tryd.ntmps32
  go_wp2
  go_ret
  rw [← HW.out]
  exact ⟨⟨59, #[.pointer (some ⟨W.heap.size, 0, none⟩), .pointer (some ⟨W.heap.size + 1, 0, none⟩)]⟩, rfl, HF.out, HB.out⟩
end Go.Proofs.YtldnkminhppngaaDoor
/-
  Lines: what request and command make of parts.
-/
namespace Go.Proofs.YtldnkminhppngaaDoor
open Go.Proofs.YtldnkminhppngaaDoor.It
open Go.RowKit
set_option linter.unusedSimpArgs false
set_option linter.unusedVariables false
set_option maxRecDepth 100000

def goF : List (Dr → Option Dr) → Dr → Option Dr
  | [], d => some d
  | p :: ps, d => match p d with | none => none | some d' => goF ps d'
def endF (x : Option Dr) : Option Dr := match x with | none => none | some d => if d.ws.length = 0 then some d else none
def setKind (rk : Int) (d : Dr) : Dr := ⟨{ d.r with kind := rk }, d.ws, d.vl⟩
def setCmd (ck : Int) (d : Dr) : Dr := ⟨{ d.r with cmd := { d.r.cmd with kind := ck } }, d.ws, d.vl⟩
def rqF (rk : Int) (P : List (Dr → Option Dr)) (d : Dr) : Option Dr := endF (goF P (setKind rk d))
/-- what the loop over parts keeps -/
structure Rl (V wr : World) (b : Nat) (P : List (Dr → Option Dr)) (d0 : Dr) (k : Nat) : Prop where
  ex : ∃ d', Dw wr b d' ∧ goF P d0 = goF (P.drop k) d'
  gr : V.grownBy wr (some b)
theorem goF_drop {P : List (Dr → Option Dr)} {k : Nat} (hk : k < P.length) (d : Dr) : goF (P.drop k) d = match P[k] d with | none => none | some d' => goF (P.drop (k + 1)) d' := by
  rw [List.drop_eq_getElem_cons hk]
  rfl

set_option maxHeartbeats 2000000 in
theorem request1_any (rk : Int) (L : List Fv) (P : List (Dr → Option Dr)) (hL : L.length = P.length) (h10 : L.length ≤ 10) (W : World) (ro : Option Nat) (hF : ∀ i (h : i < L.length) (h' : i < P.length), FnD ro W L[i] P[i])
    (ao : Option Addr) (cap p q : Nat) (V : World) (hgr : W.grownBy V ro) (hg : Gl V) (b : Nat) (d : Dr) (hb : W.heap.size ≤ b) (hD : Dw V b d) (np : p ≠ b) (nq : q ≠ b)
    (cp : V.cell? ⟨p, 0, none⟩ = some (.int .u8 rk)) (cq : V.cell? ⟨q, 0, none⟩ = some (.slice ao L.length cap)) (hrd : Rx EF V b ao L cap) :
    Calls Tryd.prog 64 #[.pointer (some ⟨b, 0, none⟩), .pointer (some ⟨p, 0, none⟩), .pointer (some ⟨q, 0, none⟩)] V fun e V' => Told V V' b e (rqF rk P d) := by
  have hng : NG ≤ b := by obtain ⟨_, _, _, _, _, _, h⟩ := hD; exact h.ng
  obtain ⟨u0, r0⟩ := hD.field 0 (by decide)
  have f0 := hD.fro 0
  have HD0 : Hid (Dw (V.setCell ⟨b, 0, none⟩ (.int .u8 rk)) b (setKind rk d)) := hD.set 0 _ _ (by decide) rfl rfl rfl (fun _ _ _ => rfl)
  have HG0 : Hid (V.grownBy (V.setCell ⟨b, 0, none⟩ (.int .u8 rk)) (some b)) := grown_set (World.grownBy.refl V _) _ _
  have HRX := Hid.mk2 hrd
  have HGL := Hid.mk2 (fun V' (h : V.grownBy V' (some b)) => hg.grown h (by intro r e; cases e; exact hng))
  have HGR := Hid.mk2 (fun V' (h : V.grownBy V' (some b)) => grown_on hgr h hb)
  have HF := Hid.mk2 hF
  have HB := Hid.mk2 hb
  have HL := Hid.mk2 hL
  have cq1 := cell_b HG0.out nq cq
  obtain ⟨m, hm⟩ : ∃ m, m = L.length := ⟨_, rfl⟩
  rw [← hm] at cq cq1
  have HM := Hid.mk2 hm
  obtain ⟨d0, hd0⟩ : ∃ d0, d0 = setKind rk d := ⟨_, rfl⟩
  rw [← hd0] at HD0
  have HRQ : Hid (rqF rk P d = endF (goF P d0)) := by show _ = _; rw [hd0]; rfl
  obtain ⟨RR, hRR⟩ : ∃ RR, RR = rqF rk P d := ⟨_, rfl⟩
  rw [← hRR] at HRQ ⊢
  have hm10 : m ≤ 10 := by omega
  clear hD hgr hg hb hF hL hrd np nq hng hd0 hRR hm h10 cq
  go_enter Tryd.func64, Tryd.ntmps64
  go_wp2
  go_loopw [6, 14] (fun _ i wr => ∃ k : Nat, k ≤ m ∧ i = .int .i64 k ∧ Hid (Rl V wr b P d0 k)) (fun _ i _ => m - (intOf i).toNat)
  case atStart => exact ⟨0, Nat.zero_le _, rfl, ⟨d0, HD0.out, rfl⟩, HG0.out⟩
  case round =>
    clear HD0 HG0 cq1
    obtain ⟨k, hk, rfl, HR⟩ := hrel
    obtain ⟨⟨d1, hD1, hgo⟩, hG1⟩ := HR.out
    have HG1 := Hid.mk2 hG1
    by_cases hkm : k < m
    · have hkL : k < L.length := by have := HM.out; omega
      have hkP : k < P.length := by have := HL.out; omega
      have hne : L ≠ [] := by intro e; rw [e] at hkL; simp at hkL
      obtain ⟨rb, off, hao, hrb, hcs⟩ := (HRX.out.grown hG1).rd.lies hne
      subst hao
      have r1 : wr.cell? ⟨rb, off + k, none⟩ = some (L[k]).val := by
        have := hcs k hkL 0 (by decide)
        simpa [EF] using this
      have hFk := HF.out k hkL hkP
      have HC := Hid.mk2 (hFk.says wr (HGR.out wr hG1) (HGL.out wr hG1) b d1 HB.out hD1)
      have eg := hFk.en
      obtain ⟨f, hf⟩ : ∃ f, f = L[k] := ⟨_, rfl⟩
      rw [← hf] at r1 HC eg
      obtain ⟨g, lb⟩ := f
      dsimp only at eg HC
      have r1' : wr.cell? ⟨rb, off + k, none⟩ = some (.func (.func g) #[] lb) := r1
      have hdrop := goF_drop hkP d1
      obtain ⟨Y, hY⟩ : ∃ Y, Y = P[k] d1 := ⟨_, rfl⟩
      rw [← hY] at HC hdrop
      have hki : (k : Int) < (m : Int) := by omega
      cases Y with
      | none =>
        have HNO : Hid (RR = none) := by
          show _ = _
          rw [HRQ.out, hgo, hdrop]
          rfl
        clear hcs hne hf r1 hFk hgo hD1 hG1 HR hdrop hY hkL hkP
        go_wp2_with (go_at_fn g; refine HC.out.mono ?_; intro e w1 hT; obtain ⟨he, ⟨d2, hD2⟩, hG2⟩ := hT.no rfl; subst he; have HD2 := Hid.mk2 hD2; have HG2 := Hid.mk2 hG2; clear hT hD2 hG2)
        go_ret
        exact ⟨⟨d2, HD2.out, .inr ⟨HNO.out, rfl⟩⟩, HG1.out.trans HG2.out⟩
      | some d2 =>
        have HNX : Hid (goF P d0 = goF (P.drop (k + 1)) d2) := by
          show _ = _
          rw [hgo, hdrop]
        clear hcs hne hf r1 hFk hgo hD1 hG1 HR hdrop hY hkL hkP
        go_wp2_with (go_at_fn g; refine HC.out.mono ?_; intro e w1 hT; obtain ⟨he, hD2, hG2⟩ := hT.yes rfl; subst he; have HD2 := Hid.mk2 hD2; have HG2 := Hid.mk2 hG2; clear hT hD2 hG2)
        go_roundw
        case rel => exact ⟨k + 1, by omega, by go_num, ⟨d2, HD2.out, HNX.out⟩, HG1.out.trans HG2.out⟩
        case measure => simp [intOf]; omega
    · have hki : ¬ (k : Int) < (m : Int) := by omega
      have hdone : RR = endF (some d1) := by
        rw [HRQ.out, hgo]
        have : P.drop k = [] := List.drop_eq_nil_of_le (by have := HM.out; have := HL.out; omega)
        rw [this]
        rfl
      obtain ⟨wo, wc, r13, hwl⟩ := hD1.words
      obtain ⟨n, hn⟩ : ∃ n, n = d1.ws.length := ⟨_, rfl⟩
      rw [← hn] at r13 hwl
      have HT : Hid (Told V wr b (.returned (.bool (decide (n = 0)))) RR) := by
        refine ⟨⟨d1, hD1, ?_⟩, hG1⟩
        rw [hdone]
        unfold endF
        dsimp only
        rw [← hn]
        by_cases h0 : n = 0
        · rw [if_pos h0, decide_eq_true h0]; exact .inl ⟨rfl, rfl⟩
        · rw [if_neg h0, decide_eq_false h0]; exact .inr ⟨rfl, rfl⟩
      have HBE : Hid (((n : Int) == 0) = decide (n = 0)) := by
        show _ = _
        by_cases h0 : n = 0
        · subst h0; rfl
        · rw [decide_eq_false h0]; simpa using h0
      obtain ⟨N0, hN0⟩ : ∃ N0, N0 = decide (n = 0) := ⟨_, rfl⟩
      rw [← hN0] at HT HBE
      have hbe := HBE.out
      clear hdone hgo hD1 hG1 HR hn hN0 HBE
      go_wp2
      go_ret
      have e9 := HT.out
      simpa [hbe] using e9
end Go.Proofs.YtldnkminhppngaaDoor
/-
  What request and command make.
-/
namespace Go.Proofs.YtldnkminhppngaaDoor
open Go.Proofs.YtldnkminhppngaaDoor.It
open Go.RowKit
set_option linter.unusedSimpArgs false
set_option linter.unusedVariables false
set_option maxRecDepth 100000

theorem command1_any (ck : Int) (f : Fv) (F : Dr → Option Dr) (W : World) (ro : Option Nat) (hF : FnD ro W f F) (p q : Nat) (V : World) (hgr : W.grownBy V ro) (hg : Gl V) (b : Nat) (d : Dr) (hb : W.heap.size ≤ b) (hD : Dw V b d) (np : p ≠ b) (nq : q ≠ b)
    (cp : V.cell? ⟨p, 0, none⟩ = some (.int .u8 ck)) (cq : V.cell? ⟨q, 0, none⟩ = some f.val) :
    Calls Tryd.prog 63 #[.pointer (some ⟨b, 0, none⟩), .pointer (some ⟨p, 0, none⟩), .pointer (some ⟨q, 0, none⟩)] V fun e V' => Told V V' b e (F (setCmd ck d)) := by
  have hng : NG ≤ b := by obtain ⟨_, _, _, _, _, _, h⟩ := hD; exact h.ng
  obtain ⟨u0, r0⟩ := hD.field 1 (by decide)
  have f0 := hD.fro 1
  have hD1 : Dw (V.setCell ⟨b, 1, none⟩ (.int .u8 ck)) b (setCmd ck d) := hD.set 1 _ _ (by decide) rfl rfl rfl (fun _ _ _ => rfl)
  have hG1 : V.grownBy (V.setCell ⟨b, 1, none⟩ (.int .u8 ck)) (some b) := grown_set (World.grownBy.refl V _) _ _
  have HC := Hid.mk2 (hF.says _ (grown_on hgr hG1 hb) (hg.grown hG1 (by intro r e; cases e; exact hng)) b _ hb hD1)
  have eg := hF.en
  have cq1 := cell_b hG1 nq cq
  obtain ⟨g, lb⟩ := f
  dsimp only at eg HC
  have cq2 : (V.setCell ⟨b, 1, none⟩ (.int .u8 ck)).cell? ⟨q, 0, none⟩ = some (.func (.func g) #[] lb) := cq1
  have HG1 := Hid.mk2 hG1
  obtain ⟨Y, hY⟩ : ∃ Y, Y = F (setCmd ck d) := ⟨_, rfl⟩
  rw [← hY] at HC ⊢
  clear hD hgr hg hb hF np nq hng hD1 hG1 cq cq1 hY
  cases Y with
  | none =>
    go_enter Tryd.func63, Tryd.ntmps63
    go_wp2_with (go_at_fn g; refine HC.out.mono ?_; intro e w1 hT; obtain ⟨he, ⟨d2, hD2⟩, hG2⟩ := hT.no rfl; subst he; have HD2 := Hid.mk2 hD2; have HG2 := Hid.mk2 hG2; clear hT hD2 hG2)
    go_ret
    exact ⟨⟨d2, HD2.out, .inr ⟨rfl, rfl⟩⟩, HG1.out.trans HG2.out⟩
  | some d2 =>
    go_enter Tryd.func63, Tryd.ntmps63
    go_wp2_with (go_at_fn g; refine HC.out.mono ?_; intro e w1 hT; obtain ⟨he, hD2, hG2⟩ := hT.yes rfl; subst he; have HD2 := Hid.mk2 hD2; have HG2 := Hid.mk2 hG2; clear hT hD2 hG2)
    go_ret
    exact ⟨⟨d2, HD2.out, .inl ⟨rfl, rfl⟩⟩, HG1.out.trans HG2.out⟩

/-- parts, as they are handed to request and command -/
structure Prt (ro : Option Nat) (W : World) (ao : Option Addr) (cap : Nat) (L : List Fv) (P : List (Dr → Option Dr)) : Prop where
  len : L.length = P.length
  few : L.length ≤ 10
  fn : ∀ i (h : i < L.length) (h' : i < P.length), FnD ro W L[i] P[i]
  rd : GRd EF W ao L cap
  off : ∀ g o, ao = some ⟨g, o, none⟩ → L ≠ [] → ro ≠ some g
  old : ∀ r, ro = some r → r < W.heap.size
theorem request_any (rk : Int) (L : List Fv) (P : List (Dr → Option Dr)) (ro : Option Nat) (W : World) (ao : Option Addr) (cap : Nat) (h : Prt ro W ao cap L P) :
    Calls Tryd.prog 41 #[.int .u8 rk, .slice ao L.length cap] W fun e W' => ∃ f : Fv, e = .returned f.val ∧ FnD ro W' f (rqF rk P) ∧ Below W.heap.size W W' := by
  obtain ⟨W2, hW2⟩ : ∃ W2, W2 = (W.alloc (.cells #[.int .u8 rk] 5)).alloc (.cells #[.slice ao L.length cap] 100) := ⟨_, rfl⟩
  have hB : Below W.heap.size W W2 := by
    rw [hW2]
    exact ((Below.refl _ _).alloc (Nat.le_refl _) _).alloc (by simp) _
  have hs : W2.heap.size = W.heap.size + 2 := by rw [hW2]; simp
  have n0 : ro ≠ some W.heap.size := by intro e; have := h.old _ e; omega
  have n1 : ro ≠ some (W.heap.size + 1) := by intro e; have := h.old _ e; omega
  have HF : Hid (FnD ro W2 ⟨64, #[.pointer (some ⟨W.heap.size, 0, none⟩), .pointer (some ⟨W.heap.size + 1, 0, none⟩)]⟩ (rqF rk P)) := by
    refine ⟨Go.Proofs.enters_of Tryd.func64 (by kernel_rfl) rfl, fun V hV hG b d hb hD => ?_⟩
    have hV0 : W.grownBy V ro := (g_grown hB ro).trans hV
    refine request1_any rk L P h.len h.few W ro h.fn ao cap W.heap.size (W.heap.size + 1) V hV0 hG b d (by omega) hD (by omega) (by omega) (cell_r hV n0 (by rw [hW2]; simp)) (cell_r hV n1 (by rw [hW2]; simp)) ⟨h.rd.grownr hV0 h.off, fun g o e hne => ?_⟩
    have := rd_lt h.rd g o e hne
    omega
  have HB := Hid.mk2 hB
  have HW := Hid.mk2 hW2
  obtain ⟨m, hm⟩ : ∃ m, m = L.length := ⟨_, rfl⟩
  rw [← hm] at HW ⊢
  clear h hW2 hB hs n0 n1 hm
  go_enter Tryd.func41, Tryd.ntmps41
  go_wp2
  go_ret
  rw [← HW.out]
  exact ⟨⟨64, #[.pointer (some ⟨W.heap.size, 0, none⟩), .pointer (some ⟨W.heap.size + 1, 0, none⟩)]⟩, rfl, HF.out, HB.out⟩
theorem Prt.alloc {ro : Option Nat} {W : World} {ao : Option Addr} {cap : Nat} {L : List Fv} {P : List (Dr → Option Dr)} (h : Prt ro W ao cap L P) (o : Obj) : Prt ro (W.alloc o) ao cap L P :=
  ⟨h.len, h.few, fun i h1 h2 => (h.fn i h1 h2).below (g_alloc W o), h.rd.alloc o, h.off, fun r e => Nat.lt_of_lt_of_le (h.old r e) (g_alloc W o).size⟩
theorem command_any (ck : Int) (L : List Fv) (P : List (Dr → Option Dr)) (ro : Option Nat) (W : World) (ao : Option Addr) (cap : Nat) (h : Prt ro W ao cap L P) :
    Calls Tryd.prog 40 #[.int .u8 ck, .slice ao L.length cap] W fun e W' => ∃ f : Fv, e = .returned f.val ∧ FnD ro W' f (fun d => rqF 1 P (setCmd ck d)) ∧ Below W.heap.size W W' := by
  have HR := Hid.mk2 (request_any 1 L P ro (W.alloc (.cells #[.int .u8 ck] 5)) ao cap (h.alloc _))
  have HO := Hid.mk2 h.old
  obtain ⟨m, hm⟩ : ∃ m, m = L.length := ⟨_, rfl⟩
  rw [← hm] at HR ⊢
  clear h hm
  go_enter Tryd.func40, Tryd.ntmps40
  go_wp2_with (go_at_call 41; refine HR.out.mono ?_; rintro e w1 ⟨⟨g, lb⟩, he, hF, hB⟩; have he2 : e = .returned (.func (.func g) #[] lb) := he; clear he; subst he2; have HF := Hid.mk2 hF; have HB := Hid.mk2 hB; have hst := store_fn (W := w1.alloc (.cells #[.nilFunc] 67)) (b := w1.heap.size) (j := 0) (u := .nilFunc) g #[] lb (by simp) (World.frozen?_alloc_new _ _ _ _); clear hF hB)
  go_ret
  have hB := HB.out
  have hs : (W.alloc (.cells #[.int .u8 ck] 5)).heap.size = W.heap.size + 1 := by simp
  have hs1 := hB.size
  refine ⟨⟨63, #[.pointer (some ⟨W.heap.size, 0, none⟩), .pointer (some ⟨w1.heap.size, 0, none⟩)]⟩, rfl, ?_, g_on (g_behind hB) (g_alloc w1 _)⟩
  refine ⟨Go.Proofs.enters_of Tryd.func63 (by kernel_rfl) rfl, fun V hV hG b d hb hD => ?_⟩
  have hs2 : (w1.alloc (.cells #[.func (.func g) #[] lb] 67)).heap.size = w1.heap.size + 1 := by simp
  have n0 : ro ≠ some W.heap.size := by intro e; have := HO.out _ e; omega
  have n1 : ro ≠ some w1.heap.size := by intro e; have := HO.out _ e; omega
  refine command1_any ck ⟨g, lb⟩ (rqF 1 P) w1 ro HF.out W.heap.size w1.heap.size V ((g_grown (g_alloc w1 _) ro).trans hV) hG b d (by omega) hD (by omega) (by omega) (cell_r hV n0 ?_) (cell_r hV n1 (by simp; rfl))
  have c0 : (W.alloc (.cells #[.int .u8 ck] 5)).cell? ⟨W.heap.size, 0, none⟩ = some (.int .u8 ck) := by simp
  have c1 : w1.cell? ⟨W.heap.size, 0, none⟩ = some (.int .u8 ck) := (hB.cell (p := ⟨W.heap.size, 0, none⟩) (by rw [hs]; exact Nat.lt_succ_self _)).trans c0
  exact ((g_alloc w1 _).cell (p := ⟨W.heap.size, 0, none⟩) (by show W.heap.size < w1.heap.size; omega)).trans c1
end Go.Proofs.YtldnkminhppngaaDoor
/-
  A map of functions, by words: what is inserted, what is looked up.
-/
namespace Go.Proofs.YtldnkminhppngaaDoor
open Go.Proofs.YtldnkminhppngaaDoor.It
open Go.RowKit
set_option linter.unusedSimpArgs false
set_option linter.unusedVariables false
set_option maxRecDepth 100000

/-- the map at r has these words with these functions -/
structure MpF (w : World) (r : Nat) (L : List (ByteArray × Fv)) : Prop where
  ex : ∃ es clock, w.heap[r]? = some (.map es clock) ∧ es.toList.map (fun e => (e.key, e.val)) = L.map (fun x => (Value.string x.1, x.2.val))
def lkF : List (ByteArray × Fv) → ByteArray → Option Fv
  | [], _ => none
  | x :: L, s => if s = x.1 then some x.2 else lkF L s
theorem find_miss (s : ByteArray) : ∀ (es : List MapEntry) (L : List (ByteArray × Fv)) (i : Nat), es.map (fun e => (e.key, e.val)) = L.map (fun x => (Value.string x.1, x.2.val)) → lkF L s = none → Instr.findNow .string (.string s) es i = some none
  | [], _, _, _, _ => rfl
  | e :: es, [], _, h, _ => by simp at h
  | e :: es, x :: L, i, h, hl => by
    rw [List.map_cons, List.map_cons, List.cons.injEq] at h
    have hk : e.key = .string x.1 := congrArg Prod.fst h.1
    unfold lkF at hl
    split at hl
    · cases hl
    · rename_i hne
      unfold Instr.findNow
      rw [hk]
      have : Instr.sameNow .string (.string s) (.string x.1) = some false := by
        simp [Instr.sameNow]
        exact hne
      rw [this]
      exact find_miss s es L (i + 1) h.2 hl
theorem find_hit (s : ByteArray) (f : Fv) : ∀ (es : List MapEntry) (L : List (ByteArray × Fv)) (i : Nat), es.map (fun e => (e.key, e.val)) = L.map (fun x => (Value.string x.1, x.2.val)) → lkF L s = some f → ∃ j, Instr.findNow .string (.string s) es i = some (some (j, f.val))
  | [], [], _, _, hl => by cases hl
  | [], x :: L, _, h, _ => by simp at h
  | e :: es, [], _, h, _ => by simp at h
  | e :: es, x :: L, i, h, hl => by
    rw [List.map_cons, List.map_cons, List.cons.injEq] at h
    have hk : e.key = .string x.1 := congrArg Prod.fst h.1
    have hv : e.val = x.2.val := congrArg Prod.snd h.1
    unfold lkF at hl
    unfold Instr.findNow
    rw [hk]
    by_cases hs : s = x.1
    · rw [if_pos hs] at hl
      have : Instr.sameNow .string (.string s) (.string x.1) = some true := by
        simp [Instr.sameNow, hs]
      rw [this, hv]
      cases hl
      exact ⟨i, rfl⟩
    · rw [if_neg hs] at hl
      have : Instr.sameNow .string (.string s) (.string x.1) = some false := by
        simp [Instr.sameNow]
        exact hs
      rw [this]
      exact find_hit s f es L (i + 1) h.2 hl
theorem ins_run {w : World} {r : Nat} {L : List (ByteArray × Fv)} (h : MpF w r L) (s : ByteArray) (f : Fv) (hs : lkF L s = none) :
    ∃ w', (Instr.mapUpdate 52 (.map (some r)) (.string s) (.func (.func f.g) #[] f.lb)).run Tryd.prog w = .ok () w' ∧ MpF w' r (L ++ [(s, f)]) ∧ w.grownBy w' (some r) := by
  obtain ⟨es, clock, hb, he⟩ := h.ex
  have hf := find_miss s es.toList L 0 he hs
  have hc : (Instr.checkKey false 10000 9 (.string s)).run Tryd.prog w = .ok () w := MapKept.run_checkKey (k := .string s) Tryd.underlying9 (by simp [MapKept.IsKey]) false 9999
  refine ⟨{ w with heap := w.heap.setIfInBounds r (.map (es.push { key := .string s, val := .func (.func f.g) #[] f.lb, born := clock }) (clock + 1)) }, ?_, ?_, ?_⟩
  · simp [Instr.mapUpdate, run_underlying Tryd.underlying52, MapKept.run_getObj_map hb, hc, MapKept.run_findKey Tryd.underlying9 hf, MapKept.run_setObj_map _ hb, Result.andThen]
  · refine ⟨es.push { key := .string s, val := .func (.func f.g) #[] f.lb, born := clock }, clock + 1, (MapKept.heap_set hb).1, ?_⟩
    simp [he]
    rfl
  · exact ⟨rfl, rfl, rfl, by simp, fun k hk hne => (MapKept.heap_set hb).2 k (fun e => hne (by rw [e]))⟩
theorem look_yes {w : World} {r : Nat} {L : List (ByteArray × Fv)} (h : MpF w r L) (s : ByteArray) (f : Fv) (hs : lkF L s = some f) :
    (Instr.lookup 52 (.map (some r)) (.string s) false).run Tryd.prog w = .ok (.func (.func f.g) #[] f.lb) w := by
  obtain ⟨es, clock, hb, he⟩ := h.ex
  obtain ⟨j, hf⟩ := find_hit s f es.toList L 0 he hs
  have hc : (Instr.checkKey es.isEmpty 10000 9 (.string s)).run Tryd.prog w = .ok () w := MapKept.run_checkKey (k := .string s) Tryd.underlying9 (by simp [MapKept.IsKey]) _ 9999
  simp [Instr.lookup, run_underlying Tryd.underlying52, MapKept.run_getObj_map hb, hc, MapKept.run_findKey Tryd.underlying9 hf, Result.andThen]
  rfl
theorem look_no {w : World} {r : Nat} {L : List (ByteArray × Fv)} (h : MpF w r L) (s : ByteArray) (hs : lkF L s = none) :
    (Instr.lookup 52 (.map (some r)) (.string s) false).run Tryd.prog w = .ok .nilFunc w := by
  obtain ⟨es, clock, hb, he⟩ := h.ex
  have hf := find_miss s es.toList L 0 he hs
  have hc : (Instr.checkKey es.isEmpty 10000 9 (.string s)).run Tryd.prog w = .ok () w := MapKept.run_checkKey (k := .string s) Tryd.underlying9 (by simp [MapKept.IsKey]) _ 9999
  have hz : (zeroValue 67).run Tryd.prog w = .ok .nilFunc w := by kernel_rfl
  simp [Instr.lookup, run_underlying Tryd.underlying52, MapKept.run_getObj_map hb, hc, MapKept.run_findKey Tryd.underlying9 hf, Result.andThen, hz]
theorem MpF.below {w w' : World} {r : Nat} {L : List (ByteArray × Fv)} (h : MpF w r L) (hb : Below w.heap.size w w') : MpF w' r L := by
  obtain ⟨es, clock, h1, h2⟩ := h.ex
  exact ⟨es, clock, (hb.block r (Array.getElem?_eq_some_iff.1 h1).1).trans h1, h2⟩
theorem MpF.made (w : World) : MpF (w.alloc (.map #[] 0)) w.heap.size [] := ⟨#[], 0, (MapKept.heap_alloc w _).1, rfl⟩
end Go.Proofs.YtldnkminhppngaaDoor
/-
  lines: the map of all lines, by their first words.
-/
namespace Go.Proofs.YtldnkminhppngaaDoor
open Go.Proofs.YtldnkminhppngaaDoor.It
open Go.RowKit
set_option linter.unusedSimpArgs false
set_option linter.unusedVariables false
set_option maxRecDepth 100000

/-- the parts that lines are made of -/
structure Pts (ro : Option Nat) (W : World) (k ks fl mo va un byf te : Fv) : Prop where
  k : FnD ro W k (Pt.go .key)
  ks : FnD ro W ks (Pt.go .keys)
  fl : FnD ro W fl (Pt.go .flags)
  mo : FnD ro W mo (Pt.go .life)
  va : FnD ro W va (Pt.go .value)
  un : FnD ro W un (Pt.go .unique)
  byf : FnD ro W byf (Pt.go .by_)
  te : FnD ro W te (Pt.go .tenant)
theorem Pts.on {ro : Option Nat} {W W2 : World} {k ks fl mo va un byf te : Fv} (h : Pts ro W k ks fl mo va un byf te) (hg : W.grownBy W2 ro) : Pts ro W2 k ks fl mo va un byf te :=
  ⟨h.k.on hg, h.ks.on hg, h.fl.on hg, h.mo.on hg, h.va.on hg, h.un.on hg, h.byf.on hg, h.te.on hg⟩
abbrev Lne := ByteArray × Fv × (Dr → Option Dr)
/-- how far the map is made -/
structure Ls (W0 W : World) (r : Nat) (k ks fl mo va un byf te : Fv) (K : List ByteArray) (M : List Lne) : Prop where
  b0 : Below W0.heap.size W0 W
  r0 : W0.heap.size ≤ r
  r1 : r < W.heap.size
  pts : Pts (some r) W k ks fl mo va un byf te
  key : M.map (·.1) = K
  mp : MpF W r (M.map fun x => (x.1, x.2.1))
  fn : ∀ x ∈ M, FnD (some r) W x.2.1 x.2.2
theorem lkF_no {s : ByteArray} : ∀ {M : List Lne}, s ∉ M.map (·.1) → lkF (M.map fun x => (x.1, x.2.1)) s = none
  | [], _ => rfl
  | x :: M, h => by
    rw [List.map_cons, List.mem_cons, not_or] at h
    rw [List.map_cons]
    unfold lkF
    rw [if_neg h.1]
    exact lkF_no h.2
section
variable {W0 W : World} {r : Nat} {k ks fl mo va un byf te : Fv} {K : List ByteArray} {M : List Lne}
theorem Ls.alloc (h : Ls W0 W r k ks fl mo va un byf te K M) {W1 : World} (hB : Below W.heap.size W W1) : Ls W0 W1 r k ks fl mo va un byf te K M :=
  ⟨g_on h.b0 hB, h.r0, Nat.lt_of_lt_of_le h.r1 hB.size, h.pts.on (g_grown hB _), h.key, h.mp.below hB, fun x hx => (h.fn x hx).below hB⟩
theorem Ls.step (h : Ls W0 W r k ks fl mo va un byf te K M) {W1 : World} (hB : Below W.heap.size W W1) {f : Fv} {F : Dr → Option Dr} (hF : FnD (some r) W1 f F) (s : ByteArray) (hs : s ∉ K) :
    ∃ w2, (Instr.mapUpdate 52 (.map (some r)) (.string s) (.func (.func f.g) #[] f.lb)).run Tryd.prog W1 = .ok () w2 ∧ Ls W0 w2 r k ks fl mo va un byf te (K ++ [s]) (M ++ [(s, f, F)]) := by
  have h1 := h.alloc hB
  obtain ⟨w2, e, hM, hg⟩ := ins_run h1.mp s f (lkF_no (by rw [h1.key]; exact hs))
  have hb2 : Below W0.heap.size W0 w2 := h1.b0.grown hg (Nat.le_of_lt (Nat.lt_of_le_of_lt h1.r0 h1.r1)) (fun k hk => by cases hk; exact h1.r0)
  refine ⟨w2, e, hb2, h1.r0, Nat.lt_of_lt_of_le h1.r1 hg.size, h1.pts.on hg, by rw [List.map_append, h1.key]; rfl, by rw [List.map_append]; exact hM, fun x hx => ?_⟩
  rcases List.mem_append.1 hx with hx | hx
  · exact (h1.fn x hx).on hg
  · rw [List.mem_singleton] at hx
    subst hx
    exact hF.on hg
theorem lit_rd (W : World) (L : List Fv) (hl : L.length ≤ 10) : GRd EF (W.alloc (.cells (L.map Fv.val).toArray 67)) (some ⟨W.heap.size, 0, none⟩) L L.length := by
  refine ⟨Nat.le_refl _, by omega, (fun e => by cases e), .inr ⟨W.heap.size, 0, rfl, by simp, fun i hi j hj => ?_⟩⟩
  have hj0 : j = 0 := by have : j < 1 := hj; omega
  subst hj0
  have e : 0 + i * EF.sz + 0 = i := by show 0 + i * 1 + 0 = i; omega
  rw [e]
  simp [EF, hi]
theorem Ls.prt (h : Ls W0 W r k ks fl mo va un byf te K M) (L : List Fv) (P : List (Dr → Option Dr)) (hL : L.length = P.length) (hl : L.length ≤ 10) (hF : ∀ i (h : i < L.length) (h' : i < P.length), FnD (some r) W L[i] P[i]) :
    Prt (some r) (W.alloc (.cells (L.map Fv.val).toArray 67)) (some ⟨W.heap.size, 0, none⟩) L.length L P :=
  ⟨hL, hl, fun i h1 h2 => (hF i h1 h2).below (g_alloc W _), lit_rd W L hl, fun g o e _ e2 => by
    have h9 := congrArg Addr.block (Option.some.inj e)
    have h8 := Option.some.inj e2
    have h7 := h.r1
    dsimp only at h9
    omega, fun r' e => by
    have := Option.some.inj e
    have h7 := h.r1
    simp
    omega⟩
theorem Ls.prt0 (h : Ls W0 W r k ks fl mo va un byf te K M) : Prt (some r) W none 0 [] [] :=
  ⟨rfl, by simp, fun i h1 => absurd h1 (by simp), GRd.nil W, fun g o e => by (cases e), fun r' e => by have := Option.some.inj e; have h7 := h.r1; omega⟩
end
def lnF (ck : Int) (P : List (Dr → Option Dr)) : Dr → Option Dr := fun d => rqF 1 P (setCmd ck d)
theorem putF_fn : PutSays 33 4294967295 putF := ⟨Go.Proofs.enters_of Tryd.func33 (by kernel_rfl) rfl, fun V b d n hn h => putF_any V b d n hn h⟩
theorem putL_fn : PutSays 34 1099511627776 putL := ⟨Go.Proofs.enters_of Tryd.func34 (by kernel_rfl) rfl, fun V b d n hn h => putL_any V b d n hn h⟩
theorem putV_fn : PutSays 35 512 putV := ⟨Go.Proofs.enters_of Tryd.func35 (by kernel_rfl) rfl, fun V b d n hn h => putV_any V b d n hn h⟩
theorem putU_fn : PutSays 37 18446744073709551615 putU := ⟨Go.Proofs.enters_of Tryd.func37 (by kernel_rfl) rfl, fun V b d n hn h => putU_any V b d n hn h⟩
theorem putB_fn : PutSays 38 18446744073709551615 putB := ⟨Go.Proofs.enters_of Tryd.func38 (by kernel_rfl) rfl, fun V b d n hn h => putB_any V b d n hn h⟩
theorem putT_fn : PutSays 39 3 putT := ⟨Go.Proofs.enters_of Tryd.func39 (by kernel_rfl) rfl, fun V b d n hn h => putT_any V b d n hn h⟩
/-- what lines answers: the map, its words, its functions -/
structure Lns (W0 W : World) (r : Nat) (M : List Lne) : Prop where
  b0 : Below W0.heap.size W0 W
  r0 : W0.heap.size ≤ r
  mp : MpF W r (M.map fun x => (x.1, x.2.1))
  fn : ∀ x ∈ M, FnD none W x.2.1 x.2.2
def lineL (f0 f1 f2 f3 f4 f5 f6 f7 f8 f9 f10 f11 f12 f13 f14 : Fv) : List Lne := [(⟨#[103, 101, 116]⟩, f0, lnF 1 [Pt.go .keys]),
  (⟨#[100, 101, 108, 101, 116, 101]⟩, f1, lnF 10 [Pt.go .keys]),
  (⟨#[115, 101, 116]⟩, f2, lnF 2 [Pt.go .key, Pt.go .flags, Pt.go .life, Pt.go .value]),
  (⟨#[97, 100, 100]⟩, f3, lnF 3 [Pt.go .key, Pt.go .flags, Pt.go .life, Pt.go .value]),
  (⟨#[114, 101, 112, 108, 97, 99, 101]⟩, f4, lnF 4 [Pt.go .key, Pt.go .flags, Pt.go .life, Pt.go .value]),
  (⟨#[99, 97, 115]⟩, f5, lnF 5 [Pt.go .key, Pt.go .flags, Pt.go .life, Pt.go .value, Pt.go .unique]),
  (⟨#[97, 112, 112, 101, 110, 100]⟩, f6, lnF 8 [Pt.go .key, Pt.go .value]),
  (⟨#[105, 110, 99, 114]⟩, f7, lnF 6 [Pt.go .key, Pt.go .by_]),
  (⟨#[100, 101, 99, 114]⟩, f8, lnF 7 [Pt.go .key, Pt.go .by_]),
  (⟨#[116, 111, 117, 99, 104]⟩, f9, lnF 9 [Pt.go .key, Pt.go .life]),
  (⟨#[102, 108, 117, 115, 104]⟩, f10, lnF 11 []),
  (⟨#[117, 115, 101, 114]⟩, f11, rqF 2 [Pt.go .tenant, Pt.go .secret]),
  (⟨#[116, 114, 97, 99, 107]⟩, f12, rqF 3 [Pt.go .onoff]),
  (⟨#[112, 105, 110, 103]⟩, f13, rqF 4 []),
  (⟨#[113, 117, 105, 116]⟩, f14, rqF 5 [])]

set_option maxHeartbeats 4000000 in
theorem lines_any (W0 : World) : Calls Tryd.prog 18 #[] W0 fun e W => ∃ r f0 f1 f2 f3 f4 f5 f6 f7 f8 f9 f10 f11 f12 f13 f14, e = .returned (.map (some r)) ∧ Lns W0 W r (lineL f0 f1 f2 f3 f4 f5 f6 f7 f8 f9 f10 f11 f12 f13 f14) := by
  have HK1 : Hid (∀ W, Calls Tryd.prog 31 #[.int .i64 1] W fun e W' => ∃ f : Fv, e = .returned f.val ∧ FnD none W' f (Pt.go .key) ∧ Below W.heap.size W W') := fun W => keysUpTo_any 1 (by decide) W
  have HK8 : Hid (∀ W, Calls Tryd.prog 31 #[.int .i64 8] W fun e W' => ∃ f : Fv, e = .returned f.val ∧ FnD none W' f (Pt.go .keys) ∧ Below W.heap.size W W') := fun W => keysUpTo_any 8 (by decide) W
  have HN1 : Hid (∀ W, Calls Tryd.prog 32 #[.int .u64 4294967295, .func (.func 33) #[] #[]] W fun e W' => ∃ f : Fv, e = .returned f.val ∧ FnD none W' f (Pt.go .flags) ∧ Below W.heap.size W W') := fun W => number_any 33 4294967295 (by decide) putF putF_fn W
  have HN2 : Hid (∀ W, Calls Tryd.prog 32 #[.int .u64 1099511627776, .func (.func 34) #[] #[]] W fun e W' => ∃ f : Fv, e = .returned f.val ∧ FnD none W' f (Pt.go .life) ∧ Below W.heap.size W W') := fun W => number_any 34 1099511627776 (by decide) putL putL_fn W
  have HN3 : Hid (∀ W, Calls Tryd.prog 32 #[.int .u64 512, .func (.func 35) #[] #[]] W fun e W' => ∃ f : Fv, e = .returned f.val ∧ FnD none W' f (Pt.go .value) ∧ Below W.heap.size W W') := fun W => number_any 35 512 (by decide) putV putV_fn W
  have HN4 : Hid (∀ W, Calls Tryd.prog 32 #[.int .u64 18446744073709551615, .func (.func 37) #[] #[]] W fun e W' => ∃ f : Fv, e = .returned f.val ∧ FnD none W' f (Pt.go .unique) ∧ Below W.heap.size W W') := fun W => number_any 37 18446744073709551615 (by decide) putU putU_fn W
  have HN5 : Hid (∀ W, Calls Tryd.prog 32 #[.int .u64 18446744073709551615, .func (.func 38) #[] #[]] W fun e W' => ∃ f : Fv, e = .returned f.val ∧ FnD none W' f (Pt.go .by_) ∧ Below W.heap.size W W') := fun W => number_any 38 18446744073709551615 (by decide) putB putB_fn W
  have HN6 : Hid (∀ W, Calls Tryd.prog 32 #[.int .u64 3, .func (.func 39) #[] #[]] W fun e W' => ∃ f : Fv, e = .returned f.val ∧ FnD none W' f (Pt.go .tenant) ∧ Below W.heap.size W W') := fun W => number_any 39 3 (by decide) putT putT_fn W
  go_enter Tryd.func18, Tryd.ntmps18
  go_wp2_with (first | (go_at_call 31; refine Hid.out (?_ : Hid _)) | (go_at_call 32; refine Hid.out (?_ : Hid _)))
  refine Hid.mk2 ?_
  refine (HK1.out _).mono ?_
  rintro e v1 ⟨⟨g1, lb1⟩, he, hF, hB⟩
  have he2 : e = .returned (.func (.func g1) #[] lb1) := he
  clear he
  subst he2
  have HF1 := Hid.mk2 hF
  have HB1 := Hid.mk2 hB
  clear hF hB HK1
  go_wp2_with (first | (go_at_call 31; refine Hid.out (?_ : Hid _)) | (go_at_call 32; refine Hid.out (?_ : Hid _)))
  refine Hid.mk2 ?_
  refine (HK8.out _).mono ?_
  rintro e v2 ⟨⟨g2, lb2⟩, he, hF, hB⟩
  have he2 : e = .returned (.func (.func g2) #[] lb2) := he
  clear he
  subst he2
  have HF2 := Hid.mk2 hF
  have HB2 := Hid.mk2 hB
  clear hF hB HK8
  go_wp2_with (first | (go_at_call 31; refine Hid.out (?_ : Hid _)) | (go_at_call 32; refine Hid.out (?_ : Hid _)))
  refine Hid.mk2 ?_
  refine (HN1.out _).mono ?_
  rintro e v3 ⟨⟨g3, lb3⟩, he, hF, hB⟩
  have he2 : e = .returned (.func (.func g3) #[] lb3) := he
  clear he
  subst he2
  have HF3 := Hid.mk2 hF
  have HB3 := Hid.mk2 hB
  clear hF hB HN1
  go_wp2_with (first | (go_at_call 31; refine Hid.out (?_ : Hid _)) | (go_at_call 32; refine Hid.out (?_ : Hid _)))
  refine Hid.mk2 ?_
  refine (HN2.out _).mono ?_
  rintro e v4 ⟨⟨g4, lb4⟩, he, hF, hB⟩
  have he2 : e = .returned (.func (.func g4) #[] lb4) := he
  clear he
  subst he2
  have HF4 := Hid.mk2 hF
  have HB4 := Hid.mk2 hB
  clear hF hB HN2
  go_wp2_with (first | (go_at_call 31; refine Hid.out (?_ : Hid _)) | (go_at_call 32; refine Hid.out (?_ : Hid _)))
  refine Hid.mk2 ?_
  refine (HN3.out _).mono ?_
  rintro e v5 ⟨⟨g5, lb5⟩, he, hF, hB⟩
  have he2 : e = .returned (.func (.func g5) #[] lb5) := he
  clear he
  subst he2
  have HF5 := Hid.mk2 hF
  have HB5 := Hid.mk2 hB
  clear hF hB HN3
  go_wp2_with (first | (go_at_call 31; refine Hid.out (?_ : Hid _)) | (go_at_call 32; refine Hid.out (?_ : Hid _)))
  refine Hid.mk2 ?_
  refine (HN4.out _).mono ?_
  rintro e v6 ⟨⟨g6, lb6⟩, he, hF, hB⟩
  have he2 : e = .returned (.func (.func g6) #[] lb6) := he
  clear he
  subst he2
  have HF6 := Hid.mk2 hF
  have HB6 := Hid.mk2 hB
  clear hF hB HN4
  go_wp2_with (first | (go_at_call 31; refine Hid.out (?_ : Hid _)) | (go_at_call 32; refine Hid.out (?_ : Hid _)))
  refine Hid.mk2 ?_
  refine (HN5.out _).mono ?_
  rintro e v7 ⟨⟨g7, lb7⟩, he, hF, hB⟩
  have he2 : e = .returned (.func (.func g7) #[] lb7) := he
  clear he
  subst he2
  have HF7 := Hid.mk2 hF
  have HB7 := Hid.mk2 hB
  clear hF hB HN5
  go_wp2_with (first | (go_at_call 31; refine Hid.out (?_ : Hid _)) | (go_at_call 32; refine Hid.out (?_ : Hid _)))
  refine Hid.mk2 ?_
  refine (HN6.out _).mono ?_
  rintro e v8 ⟨⟨g8, lb8⟩, he, hF, hB⟩
  have he2 : e = .returned (.func (.func g8) #[] lb8) := he
  clear he
  subst he2
  have HF8 := Hid.mk2 hF
  have HB8 := Hid.mk2 hB
  clear hF hB HN6
  have HL : Hid (Ls W0 (v8.alloc (.map #[] 0)) v8.heap.size ⟨g1, lb1⟩ ⟨g2, lb2⟩ ⟨g3, lb3⟩ ⟨g4, lb4⟩ ⟨g5, lb5⟩ ⟨g6, lb6⟩ ⟨g7, lb7⟩ ⟨g8, lb8⟩ [] []) := by
    have c7 := HB8.out
    have c6 := g_on HB7.out c7
    have c5 := g_on HB6.out c6
    have c4 := g_on HB5.out c5
    have c3 := g_on HB4.out c4
    have c2 := g_on HB3.out c3
    have c1 := g_on HB2.out c2
    have c0 := g_on HB1.out c1
    have ha := g_alloc v8 (.map #[] 0)
    exact ⟨g_on c0 ha, c0.size, by simp, ⟨HF1.out.ro (g_on c1 ha) _ c1.size, HF2.out.ro (g_on c2 ha) _ c2.size, HF3.out.ro (g_on c3 ha) _ c3.size, HF4.out.ro (g_on c4 ha) _ c4.size, HF5.out.ro (g_on c5 ha) _ c5.size, HF6.out.ro (g_on c6 ha) _ c6.size, HF7.out.ro (g_on c7 ha) _ c7.size, HF8.out.ro ha _ (Nat.le_refl _)⟩, rfl, MpF.made v8, fun x hx => by cases hx⟩
  clear HB1 HB2 HB3 HB4 HB5 HB6 HB7 HB8 HF1 HF2 HF3 HF4 HF5 HF6 HF7 HF8
  obtain ⟨r, hr⟩ : ∃ r, r = v8.heap.size := ⟨_, rfl⟩
  have HRR := Hid.mk2 hr
  rw [← hr] at HL
  clear hr
  have hmk : ∀ w, (Instr.makeMap 52 none).run Tryd.prog w = .ok (.map (some w.heap.size)) (w.alloc (.map #[] 0)) := fun w => by simp [Instr.makeMap]
  obtain ⟨V0, hV0⟩ : ∃ V0, V0 = v8.alloc (.map #[] 0) := ⟨_, rfl⟩
  have hmk2 : (Instr.makeMap 52 none).run Tryd.prog v8 = .ok (.map (some r)) V0 := by rw [HRR.out, hV0]; exact hmk v8
  rw [← hV0] at HL
  clear hmk hV0
  go_wp2_with (first | (go_at_call 40; refine Hid.out (?_ : Hid _)) | (go_at_call 41; refine Hid.out (?_ : Hid _)))
  refine Hid.mk2 ?_
  refine (command_any 1 [⟨g2, lb2⟩] [Pt.go .keys] (some r) _ _ _ (HL.out.prt [⟨g2, lb2⟩] [Pt.go .keys] rfl (by simp) (fun i h h' => by
    match i, h with
    | 0, _ => exact HL.out.pts.ks))).mono ?_
  rintro e w0 ⟨⟨h0, hb0⟩, he, hF, hB⟩
  have he2 : e = .returned (.func (.func h0) #[] hb0) := he
  clear he
  subst he2
  obtain ⟨V1, hins, hL⟩ := HL.out.step (g_behind hB) hF ⟨#[103, 101, 116]⟩ (by decide)
  clear HL
  have HL := Hid.mk2 hL
  clear hL hF hB
  go_wp2_with (first | (go_at_call 40; refine Hid.out (?_ : Hid _)) | (go_at_call 41; refine Hid.out (?_ : Hid _)))
  refine Hid.mk2 ?_
  refine (command_any 10 [⟨g2, lb2⟩] [Pt.go .keys] (some r) _ _ _ (HL.out.prt [⟨g2, lb2⟩] [Pt.go .keys] rfl (by simp) (fun i h h' => by
    match i, h with
    | 0, _ => exact HL.out.pts.ks))).mono ?_
  rintro e w1 ⟨⟨h1, hb1⟩, he, hF, hB⟩
  have he2 : e = .returned (.func (.func h1) #[] hb1) := he
  clear he
  subst he2
  obtain ⟨V2, hins, hL⟩ := HL.out.step (g_behind hB) hF ⟨#[100, 101, 108, 101, 116, 101]⟩ (by decide)
  clear HL
  have HL := Hid.mk2 hL
  clear hL hF hB 
  go_wp2_with (first | (go_at_call 40; refine Hid.out (?_ : Hid _)) | (go_at_call 41; refine Hid.out (?_ : Hid _)))
  refine Hid.mk2 ?_
  refine (command_any 2 [⟨g1, lb1⟩, ⟨g3, lb3⟩, ⟨g4, lb4⟩, ⟨g5, lb5⟩] [Pt.go .key, Pt.go .flags, Pt.go .life, Pt.go .value] (some r) _ _ _ (HL.out.prt [⟨g1, lb1⟩, ⟨g3, lb3⟩, ⟨g4, lb4⟩, ⟨g5, lb5⟩] [Pt.go .key, Pt.go .flags, Pt.go .life, Pt.go .value] rfl (by simp) (fun i h h' => by
    match i, h with
    | 0, _ => exact HL.out.pts.k
    | 1, _ => exact HL.out.pts.fl
    | 2, _ => exact HL.out.pts.mo
    | 3, _ => exact HL.out.pts.va))).mono ?_
  rintro e w2 ⟨⟨h2, hb2⟩, he, hF, hB⟩
  have he2 : e = .returned (.func (.func h2) #[] hb2) := he
  clear he
  subst he2
  obtain ⟨V3, hins, hL⟩ := HL.out.step (g_behind hB) hF ⟨#[115, 101, 116]⟩ (by decide)
  clear HL
  have HL := Hid.mk2 hL
  clear hL hF hB 
  go_wp2_with (first | (go_at_call 40; refine Hid.out (?_ : Hid _)) | (go_at_call 41; refine Hid.out (?_ : Hid _)))
  refine Hid.mk2 ?_
  refine (command_any 3 [⟨g1, lb1⟩, ⟨g3, lb3⟩, ⟨g4, lb4⟩, ⟨g5, lb5⟩] [Pt.go .key, Pt.go .flags, Pt.go .life, Pt.go .value] (some r) _ _ _ (HL.out.prt [⟨g1, lb1⟩, ⟨g3, lb3⟩, ⟨g4, lb4⟩, ⟨g5, lb5⟩] [Pt.go .key, Pt.go .flags, Pt.go .life, Pt.go .value] rfl (by simp) (fun i h h' => by
    match i, h with
    | 0, _ => exact HL.out.pts.k
    | 1, _ => exact HL.out.pts.fl
    | 2, _ => exact HL.out.pts.mo
    | 3, _ => exact HL.out.pts.va))).mono ?_
  rintro e w3 ⟨⟨h3, hb3⟩, he, hF, hB⟩
  have he2 : e = .returned (.func (.func h3) #[] hb3) := he
  clear he
  subst he2
  obtain ⟨V4, hins, hL⟩ := HL.out.step (g_behind hB) hF ⟨#[97, 100, 100]⟩ (by decide)
  clear HL
  have HL := Hid.mk2 hL
  clear hL hF hB 
  go_wp2_with (first | (go_at_call 40; refine Hid.out (?_ : Hid _)) | (go_at_call 41; refine Hid.out (?_ : Hid _)))
  refine Hid.mk2 ?_
  refine (command_any 4 [⟨g1, lb1⟩, ⟨g3, lb3⟩, ⟨g4, lb4⟩, ⟨g5, lb5⟩] [Pt.go .key, Pt.go .flags, Pt.go .life, Pt.go .value] (some r) _ _ _ (HL.out.prt [⟨g1, lb1⟩, ⟨g3, lb3⟩, ⟨g4, lb4⟩, ⟨g5, lb5⟩] [Pt.go .key, Pt.go .flags, Pt.go .life, Pt.go .value] rfl (by simp) (fun i h h' => by
    match i, h with
    | 0, _ => exact HL.out.pts.k
    | 1, _ => exact HL.out.pts.fl
    | 2, _ => exact HL.out.pts.mo
    | 3, _ => exact HL.out.pts.va))).mono ?_
  rintro e w4 ⟨⟨h4, hb4⟩, he, hF, hB⟩
  have he2 : e = .returned (.func (.func h4) #[] hb4) := he
  clear he
  subst he2
  obtain ⟨V5, hins, hL⟩ := HL.out.step (g_behind hB) hF ⟨#[114, 101, 112, 108, 97, 99, 101]⟩ (by decide)
  clear HL
  have HL := Hid.mk2 hL
  clear hL hF hB 
  go_wp2_with (first | (go_at_call 40; refine Hid.out (?_ : Hid _)) | (go_at_call 41; refine Hid.out (?_ : Hid _)))
  refine Hid.mk2 ?_
  refine (command_any 5 [⟨g1, lb1⟩, ⟨g3, lb3⟩, ⟨g4, lb4⟩, ⟨g5, lb5⟩, ⟨g6, lb6⟩] [Pt.go .key, Pt.go .flags, Pt.go .life, Pt.go .value, Pt.go .unique] (some r) _ _ _ (HL.out.prt [⟨g1, lb1⟩, ⟨g3, lb3⟩, ⟨g4, lb4⟩, ⟨g5, lb5⟩, ⟨g6, lb6⟩] [Pt.go .key, Pt.go .flags, Pt.go .life, Pt.go .value, Pt.go .unique] rfl (by simp) (fun i h h' => by
    match i, h with
    | 0, _ => exact HL.out.pts.k
    | 1, _ => exact HL.out.pts.fl
    | 2, _ => exact HL.out.pts.mo
    | 3, _ => exact HL.out.pts.va
    | 4, _ => exact HL.out.pts.un))).mono ?_
  rintro e w5 ⟨⟨h5, hb5⟩, he, hF, hB⟩
  have he2 : e = .returned (.func (.func h5) #[] hb5) := he
  clear he
  subst he2
  obtain ⟨V6, hins, hL⟩ := HL.out.step (g_behind hB) hF ⟨#[99, 97, 115]⟩ (by decide)
  clear HL
  have HL := Hid.mk2 hL
  clear hL hF hB 
  go_wp2_with (first | (go_at_call 40; refine Hid.out (?_ : Hid _)) | (go_at_call 41; refine Hid.out (?_ : Hid _)))
  refine Hid.mk2 ?_
  refine (command_any 8 [⟨g1, lb1⟩, ⟨g5, lb5⟩] [Pt.go .key, Pt.go .value] (some r) _ _ _ (HL.out.prt [⟨g1, lb1⟩, ⟨g5, lb5⟩] [Pt.go .key, Pt.go .value] rfl (by simp) (fun i h h' => by
    match i, h with
    | 0, _ => exact HL.out.pts.k
    | 1, _ => exact HL.out.pts.va))).mono ?_
  rintro e w6 ⟨⟨h6, hb6⟩, he, hF, hB⟩
  have he2 : e = .returned (.func (.func h6) #[] hb6) := he
  clear he
  subst he2
  obtain ⟨V7, hins, hL⟩ := HL.out.step (g_behind hB) hF ⟨#[97, 112, 112, 101, 110, 100]⟩ (by decide)
  clear HL
  have HL := Hid.mk2 hL
  clear hL hF hB 
  go_wp2_with (first | (go_at_call 40; refine Hid.out (?_ : Hid _)) | (go_at_call 41; refine Hid.out (?_ : Hid _)))
  refine Hid.mk2 ?_
  refine (command_any 6 [⟨g1, lb1⟩, ⟨g7, lb7⟩] [Pt.go .key, Pt.go .by_] (some r) _ _ _ (HL.out.prt [⟨g1, lb1⟩, ⟨g7, lb7⟩] [Pt.go .key, Pt.go .by_] rfl (by simp) (fun i h h' => by
    match i, h with
    | 0, _ => exact HL.out.pts.k
    | 1, _ => exact HL.out.pts.byf))).mono ?_
  rintro e w7 ⟨⟨h7, hb7⟩, he, hF, hB⟩
  have he2 : e = .returned (.func (.func h7) #[] hb7) := he
  clear he
  subst he2
  obtain ⟨V8, hins, hL⟩ := HL.out.step (g_behind hB) hF ⟨#[105, 110, 99, 114]⟩ (by decide)
  clear HL
  have HL := Hid.mk2 hL
  clear hL hF hB 
  go_wp2_with (first | (go_at_call 40; refine Hid.out (?_ : Hid _)) | (go_at_call 41; refine Hid.out (?_ : Hid _)))
  refine Hid.mk2 ?_
  refine (command_any 7 [⟨g1, lb1⟩, ⟨g7, lb7⟩] [Pt.go .key, Pt.go .by_] (some r) _ _ _ (HL.out.prt [⟨g1, lb1⟩, ⟨g7, lb7⟩] [Pt.go .key, Pt.go .by_] rfl (by simp) (fun i h h' => by
    match i, h with
    | 0, _ => exact HL.out.pts.k
    | 1, _ => exact HL.out.pts.byf))).mono ?_
  rintro e w8 ⟨⟨h8, hb8⟩, he, hF, hB⟩
  have he2 : e = .returned (.func (.func h8) #[] hb8) := he
  clear he
  subst he2
  obtain ⟨V9, hins, hL⟩ := HL.out.step (g_behind hB) hF ⟨#[100, 101, 99, 114]⟩ (by decide)
  clear HL
  have HL := Hid.mk2 hL
  clear hL hF hB 
  go_wp2_with (first | (go_at_call 40; refine Hid.out (?_ : Hid _)) | (go_at_call 41; refine Hid.out (?_ : Hid _)))
  refine Hid.mk2 ?_
  refine (command_any 9 [⟨g1, lb1⟩, ⟨g4, lb4⟩] [Pt.go .key, Pt.go .life] (some r) _ _ _ (HL.out.prt [⟨g1, lb1⟩, ⟨g4, lb4⟩] [Pt.go .key, Pt.go .life] rfl (by simp) (fun i h h' => by
    match i, h with
    | 0, _ => exact HL.out.pts.k
    | 1, _ => exact HL.out.pts.mo))).mono ?_
  rintro e w9 ⟨⟨h9, hb9⟩, he, hF, hB⟩
  have he2 : e = .returned (.func (.func h9) #[] hb9) := he
  clear he
  subst he2
  obtain ⟨V10, hins, hL⟩ := HL.out.step (g_behind hB) hF ⟨#[116, 111, 117, 99, 104]⟩ (by decide)
  clear HL
  have HL := Hid.mk2 hL
  clear hL hF hB 
  go_wp2_with (first | (go_at_call 40; refine Hid.out (?_ : Hid _)) | (go_at_call 41; refine Hid.out (?_ : Hid _)))
  refine Hid.mk2 ?_
  refine (command_any 11 [] [] (some r) _ _ _ HL.out.prt0).mono ?_
  rintro e w10 ⟨⟨h10, hb10⟩, he, hF, hB⟩
  have he2 : e = .returned (.func (.func h10) #[] hb10) := he
  clear he
  subst he2
  obtain ⟨V11, hins, hL⟩ := HL.out.step hB hF ⟨#[102, 108, 117, 115, 104]⟩ (by decide)
  clear HL
  have HL := Hid.mk2 hL
  clear hL hF hB 
  go_wp2_with (first | (go_at_call 40; refine Hid.out (?_ : Hid _)) | (go_at_call 41; refine Hid.out (?_ : Hid _)))
  refine Hid.mk2 ?_
  refine (request_any 2 [⟨g8, lb8⟩, ⟨42, #[]⟩] [Pt.go .tenant, Pt.go .secret] (some r) _ _ _ (HL.out.prt [⟨g8, lb8⟩, ⟨42, #[]⟩] [Pt.go .tenant, Pt.go .secret] rfl (by simp) (fun i h h' => by
    match i, h with
    | 0, _ => exact HL.out.pts.te
    | 1, _ => exact secret_fn _ _))).mono ?_
  rintro e w11 ⟨⟨h11, hb11⟩, he, hF, hB⟩
  have he2 : e = .returned (.func (.func h11) #[] hb11) := he
  clear he
  subst he2
  obtain ⟨V12, hins, hL⟩ := HL.out.step (g_behind hB) hF ⟨#[117, 115, 101, 114]⟩ (by decide)
  clear HL
  have HL := Hid.mk2 hL
  clear hL hF hB 
  go_wp2_with (first | (go_at_call 40; refine Hid.out (?_ : Hid _)) | (go_at_call 41; refine Hid.out (?_ : Hid _)))
  refine Hid.mk2 ?_
  refine (request_any 3 [⟨43, #[]⟩] [Pt.go .onoff] (some r) _ _ _ (HL.out.prt [⟨43, #[]⟩] [Pt.go .onoff] rfl (by simp) (fun i h h' => by
    match i, h with
    | 0, _ => exact onoff_fn _ _))).mono ?_
  rintro e w12 ⟨⟨h12, hb12⟩, he, hF, hB⟩
  have he2 : e = .returned (.func (.func h12) #[] hb12) := he
  clear he
  subst he2
  obtain ⟨V13, hins, hL⟩ := HL.out.step (g_behind hB) hF ⟨#[116, 114, 97, 99, 107]⟩ (by decide)
  clear HL
  have HL := Hid.mk2 hL
  clear hL hF hB 
  go_wp2_with (first | (go_at_call 40; refine Hid.out (?_ : Hid _)) | (go_at_call 41; refine Hid.out (?_ : Hid _)))
  refine Hid.mk2 ?_
  refine (request_any 4 [] [] (some r) _ _ _ HL.out.prt0).mono ?_
  rintro e w13 ⟨⟨h13, hb13⟩, he, hF, hB⟩
  have he2 : e = .returned (.func (.func h13) #[] hb13) := he
  clear he
  subst he2
  obtain ⟨V14, hins, hL⟩ := HL.out.step hB hF ⟨#[112, 105, 110, 103]⟩ (by decide)
  clear HL
  have HL := Hid.mk2 hL
  clear hL hF hB 
  go_wp2_with (first | (go_at_call 40; refine Hid.out (?_ : Hid _)) | (go_at_call 41; refine Hid.out (?_ : Hid _)))
  refine Hid.mk2 ?_
  refine (request_any 5 [] [] (some r) _ _ _ HL.out.prt0).mono ?_
  rintro e w14 ⟨⟨h14, hb14⟩, he, hF, hB⟩
  have he2 : e = .returned (.func (.func h14) #[] hb14) := he
  clear he
  subst he2
  obtain ⟨V15, hins, hL⟩ := HL.out.step hB hF ⟨#[113, 117, 105, 116]⟩ (by decide)
  clear HL
  have HL := Hid.mk2 hL
  clear hL hF hB 
  go_wp2
  go_ret
  have hfin := HL.out
  simp only [List.nil_append, List.cons_append] at hfin
  exact ⟨r, ⟨h0, hb0⟩, ⟨h1, hb1⟩, ⟨h2, hb2⟩, ⟨h3, hb3⟩, ⟨h4, hb4⟩, ⟨h5, hb5⟩, ⟨h6, hb6⟩, ⟨h7, hb7⟩, ⟨h8, hb8⟩, ⟨h9, hb9⟩, ⟨h10, hb10⟩, ⟨h11, hb11⟩, ⟨h12, hb12⟩, ⟨h13, hb13⟩, ⟨h14, hb14⟩, rfl, hfin.b0, hfin.r0, hfin.mp, fun x hx => (hfin.fn x hx).non⟩
end Go.Proofs.YtldnkminhppngaaDoor
