/-
  Contracts of the document's TwinPuts and Left.
-/
import Derived.Test.YtgfhjkphdmkmoabDkRef2
namespace Go.Proofs.Ytgfhjkphdmkmoab
open Go.RowKit
set_option linter.unusedSimpArgs false
set_option linter.unusedVariables false
set_option maxRecDepth 100000

section
variable {w : World} {ops : Array Oper} {o : Oper} {a : Act} {K : Act → World → Prop} {Q : Exit → Act → World → Prop} {E : Prop}
/-- append(v, src...) at a step of a region that draws its order -/
theorem step_bytes (hgd : o.guard = none) (s x : Operand) (ho : o.op = .call { callee := .builtin .append, args := #[s, x], argTypes := #[23, 23] })
    (base : Nat) (v : Value) (l : List UInt8) (hown : Own w base v l) (hs : a.eval s = v) (ao : Option Addr) (c : Nat) (src : List UInt8) (m : Nat) (hm : m = src.length) (hx : a.eval x = .slice ao m c) (B : Nat) (hnil : ao = none → c = 0) (hsrc : BsAt w B ao src)
    (hlen : l.length + src.length ≤ 140737488355328) (hbase : base ≤ w.heap.size)
    (h : ∀ v' w', Own w' base v' (l ++ src) → Grew w w' v v' → K (a.put o.dst v') w') : if Region.wanted o (yielded ops a.tmps) = true then Oper.wp Try.prog o a w K Q else E := by
  have hw : Region.wanted o (yielded ops a.tmps) = true := by simp [Region.wanted, hgd]
  rw [if_pos hw]
  subst hm
  obtain ⟨v', w', hr, h2, h3⟩ := run_app_bytes w o.type base v l hown ao c src B hnil hsrc hlen hbase
  unfold Oper.wp execOp
  simp only [ho, resolve, invoke, builtin, Sem.run_bind, Sem.run_pure, Result.andThen_ok, List.map_toArray, List.map_cons, List.map_nil, hs, hx, hr]
  exact h v' w' h2 h3
end
theorem OwnPs.nil (w : World) (base : Nat) : OwnPs w base (.slice none 0 0) [] := ⟨[], rfl, World.ownsRow_nil _ _ _ _, fun i hi => by simp at hi⟩

set_option maxHeartbeats 1000000 in
theorem twinPuts_row (w : World) (B : Nat) (hB : B ≤ w.heap.size) (b off : Nat) (ps : List Pt) (pc : Nat) (hbl : b < B) (hps : ∀ i (hi : i < ps.length), PtLies w B b (off + i * 2) ps[i]) (hmany : ps.length ≤ 10000)
    (hroom : ∀ p ∈ ps, p.data.length ≤ 140737488355328) :
    Calls Try.prog 34 #[.slice (some ⟨b, off, none⟩) ps.length pc] w fun e w' => ∃ v', e = .returned v' ∧ OwnPs w' w.heap.size v' ps ∧ Below w.heap.size w w' := by
  have HP : Hid (∀ i (hi : i < ps.length), PtLies w B b (off + i * 2) ps[i]) := hps
  have HR : Hid (∀ p ∈ ps, p.data.length ≤ 140737488355328) := hroom
  clear hps hroom
  go_enter Try.func34, Try.ntmps34
  go_wp2
  go_loopw [3, 4] (fun u i wr => ∃ q : Nat, q ≤ ps.length ∧ i = .int .i64 q ∧ OwnPs wr w.heap.size u (ps.take q) ∧ Below w.heap.size w wr) (fun _ i _ => ps.length - (intOf i).toNat)
  case atStart => exact ⟨0, Nat.zero_le _, rfl, by simpa using OwnPs.nil _ _, Below.refl _ _⟩
  case round =>
    obtain ⟨q, hq, rfl, how, hbr⟩ := hrel
    have hsr := hbr.size
    by_cases hqT : q < ps.length
    · have hqT2 : (q : Int) < (ps.length : Int) := by omega
      obtain ⟨p, hpe⟩ : ∃ p, p = ps[q] := ⟨_, rfl⟩
      have hL := HP.out q hqT
      have hroom := HR.out ps[q] (List.getElem_mem hqT)
      rw [← hpe] at hL hroom
      have HPE : Hid (p = ps[q]) := hpe
      clear hpe
      obtain ⟨q0, v, q1, a1, c1, rfl, hlc1, hcm1, hn1, hbs⟩ := hL
      have hbw : b < w.heap.size := by omega
      have hbq : b < wr.heap.size := by omega
      have r0 : wr.drew.cell? ⟨b, off + q * 2, none⟩ = some (.int .i64 p.n) := (hbr.cell (p := ⟨b, off + q * 2, none⟩) hbw).trans q0
      have r1 : wr.drew.cell? ⟨b, off + q * 2 + 1, none⟩ = some (.slice a1 p.data.length c1) := (hbr.cell (p := ⟨b, off + q * 2 + 1, none⟩) hbw).trans q1
      have hbs4 : BsAt wr.drew B a1 p.data := hbs.below (hbr.drew.mono hB) (Nat.le_refl _)
      have HN1 : Hid (a1 = none → c1 = 0) := hn1
      have hlt : ∀ k, u3.ownBlock = some k → k < wr.heap.size := by obtain ⟨_, _, h2, _⟩ := how; exact fun k hk => (h2.lt k hk).2
      have HLT : Hid (∀ k, u3.ownBlock = some k → k < wr.heap.size) := hlt
      have NX : (some b : Option Nat) ≠ u3.ownBlock := fun e => by
        obtain ⟨_, _, h2, _⟩ := how
        have := (h2.lt _ e.symm).1
        omega
      clear hn1 hlt q0 q1 hbs
      go_wp2
      go_region_held3 (fun W => W.cell? ⟨b, off + q * 2, none⟩ = some (.int .i64 p.n) ∧ W.cell? ⟨b, off + q * 2 + 1, none⟩ = some (.slice a1 p.data.length c1)) (first | exact ⟨r0, r1⟩ | exact ⟨t0, t1⟩ | exact ⟨z0 _, z1 _⟩ | exact ⟨y0, y1⟩)
        (first
          | (refine step_app_put (w0 := w5) (by rfl) (.tmp 11) (.tmp 24) (by rfl) w.heap.size _ _ how5 (by rfl) p _ hfb (by rfl) (by rfl) (by simp; omega) (by omega) ?_; intro v7 w7 ho7 hg7; have t0 := hg7.grown.cell y0 NX; have t1 := hg7.grown.cell y1 NX)
          | (refine step_bytes (by rfl) (.const (.slice none 0 0)) (.tmp 21) (by rfl) wr.heap.size _ [] (Own.nil _ _) (by rfl) a1 c1 p.data _ rfl (by rfl) B HN1.out hbs4 (by simp; omega) (Nat.le_refl _) ?_; intro v5 w5 ho5 hg5; rw [List.nil_append] at ho5; have hb5 : Below wr.heap.size wr w5 := (Below.refl _ _).drew.trans hg5.below_nil; have y0 := (hg5.below_nil.cell (p := ⟨b, off + q * 2, none⟩) hbq).trans r0; have y1 := (hg5.below_nil.cell (p := ⟨b, off + q * 2 + 1, none⟩) hbq).trans r1; have how5 := how.below hb5; have hs5 := hb5.size; have hx5 : b < w5.heap.size := (by omega); have z0 : ∀ o, (w5.alloc o).cell? ⟨b, off + q * 2, none⟩ = some (.int .i64 p.n) := (fun o => (World.cell?_alloc_past o _ _ hx5).trans y0); have z1 : ∀ o, (w5.alloc o).cell? ⟨b, off + q * 2 + 1, none⟩ = some (.slice a1 p.data.length c1) := (fun o => (World.cell?_alloc_past o _ _ hx5).trans y1); have hfb := (ho5.fresh.but (r := u3.ownBlock) (fun k hk => HLT.out k hk)).mono (base' := w.heap.size) hsr; obtain ⟨ao5, cap5, hv5, -⟩ := ho5.fresh.sl; subst hv5))
      have hb7 : Below w.heap.size w w7 := (hbr.trans (hb5.mono hsr)).trans ((Below.refl _ _).grown hg7.grown (by omega) (fun k hk => by obtain ⟨_, _, h2, _⟩ := how5; exact (h2.lt k hk).1))
      have hsn : ps.take q ++ [p] = ps.take (q + 1) := by rw [List.take_succ_eq_append_getElem hqT, HPE.out]
      rw [hsn] at ho7
      clear hsn
      go_wp2
      go_roundw
      case rel => exact ⟨q + 1, by omega, by go_num, ho7, hb7⟩
      case measure => simp [intOf]; omega
    · have hqT2 : decide ((q : Int) < (ps.length : Int)) = false := by simp; omega
      have hqe : ps.take q = ps := List.take_of_length_le (by omega)
      rw [hqe] at how
      clear hqe
      go_wp2
      go_ret
      exact ⟨_, rfl, how, hbr⟩
theorem twinPuts_none (w : World) (ao : Option Addr) (pc : Nat) :
    Calls Try.prog 34 #[.slice ao 0 pc] w fun e w' => ∃ v', e = .returned v' ∧ OwnPs w' w.heap.size v' [] ∧ Below w.heap.size w w' := by
  go_enter Try.func34, Try.ntmps34
  go_wp2
  refine wp_loop_rounds 1 ?_
  rw [rounds_succ]
  go_wp2
  go_ret
  exact ⟨_, rfl, OwnPs.nil _ _, Below.refl _ _⟩
theorem twinPuts_zero (w : World) (ao : Option Addr) (L pc : Nat) (h : L = 0) :
    Calls Try.prog 34 #[.slice ao L pc] w fun e w' => ∃ v', e = .returned v' ∧ OwnPs w' w.heap.size v' [] ∧ Below w.heap.size w w' := by
  subst h
  exact twinPuts_none w ao pc
theorem twinPuts_any (w : World) (po : Option Addr) (ps : List Pt) (pc : Nat) (hp : Pl w po ps pc) (hmany : ps.length ≤ 10000) (hroom : ∀ p ∈ ps, p.data.length ≤ 140737488355328) :
    Calls Try.prog 34 #[.slice po ps.length pc] w fun e w' => ∃ v', e = .returned v' ∧ OwnPs w' w.heap.size v' ps ∧ Below w.heap.size w w' := by
  rcases hp.at_ with rfl | ⟨b, off, rfl, hb, hc⟩
  · exact twinPuts_none w po pc
  · exact twinPuts_row w w.heap.size (Nat.le_refl _) b off ps pc hb hc hmany hroom

theorem PtAt.drop {w : World} {B b off : Nat} {ps : List Pt} (h : ∀ i (hi : i < ps.length), PtLies w B b (off + i * 2) ps[i]) (hb : b < B) (k : Nat) : PtAt w B (some ⟨b, off + k * 2, none⟩) (ps.drop k) := by
  refine .inr ⟨b, off + k * 2, rfl, hb, fun i hi => ?_⟩
  have h1 : k + i < ps.length := by simp at hi; omega
  have := h (k + i) h1
  rw [show off + (k + i) * 2 = off + k * 2 + i * 2 by omega] at this
  simpa using this

theorem rleft_any (w : World) (po : Option Addr) (ps : List Pt) (pc : Nat) (hp : Pl w po ps pc) (hmany : ps.length ≤ 10000) (hroom : ∀ p ∈ ps, p.data.length ≤ 140737488355328) (m : Int) :
    Calls Try.prog 39 #[.slice po ps.length pc, .int .i64 m] w fun e w' => ∃ v', e = .returned (.tuple #[v', .int .i64 (leftE ps m)]) ∧ OwnPs w' w.heap.size v' (leftP ps m) ∧ Below w.heap.size w w' := by
  have hpl := hp.hl
  have hpc := hp.hc
  by_cases c0 : m < 0
  · have hcut2 : cutOk ps.length m = false := by simp [cutOk]; omega
    have hE : leftE ps m = 2 := by simp [leftE, hcut2]
    have hR : leftP ps m = [] := by simp [leftP, hcut2]
    rw [hE, hR]
    clear hcut2 hp hroom
    go_enter Try.func39, Try.ntmps39
    go_wp2
    go_ret2
    exact ⟨_, rfl, OwnPs.nil _ _, Below.refl _ _⟩
  · have c00 : decide (m < 0) = false := by simp; omega
    by_cases c1 : (ps.length : Int) < m
    · have hcut2 : cutOk ps.length m = false := by simp [cutOk]; omega
      have hE : leftE ps m = 2 := by simp [leftE, hcut2]
      have hR : leftP ps m = [] := by simp [leftP, hcut2]
      rw [hE, hR]
      clear hcut2 hp hroom
      go_enter Try.func39, Try.ntmps39
      go_wp2
      go_ret2
      exact ⟨_, rfl, OwnPs.nil _ _, Below.refl _ _⟩
    · have c11 : decide ((ps.length : Int) < m) = false := by simp; omega
      have hcut2 : cutOk ps.length m = true := by simp [cutOk]; omega
      have hE : leftE ps m = 0 := by simp [leftE, hcut2]
      have hR : leftP ps m = ps.drop m.toNat := by simp [leftP, hcut2]
      rw [hE, hR]
      obtain ⟨M, rfl⟩ : ∃ M : Nat, m = (M : Int) := ⟨m.toNat, by omega⟩
      have hM : M ≤ ps.length := by omega
      have e4 : ((M : Int).toNat) = M := by simp
      rw [e4]
      clear hcut2 hE hR e4
      rcases hp.at_ with he | ⟨b, off, rfl, hb, hc⟩
      · subst he
        have hM0 : M = 0 := by simpa using hM
        subst hM0
        have hcall := fun ao c => twinPuts_none w ao c
        clear hp hroom
        go_enter Try.func39, Try.ntmps39
        go_wp2_with (go_at_call 34; refine (hcall _ _).mono ?_; rintro e w1 ⟨v1, rfl, ho1, hb1⟩)
        all_goals
          go_ret2
          exact ⟨_, rfl, ho1, hb1⟩
      · have hdl : (ps.drop M).length = ps.length - M := by simp
        have hpd : PtAt w w.heap.size (some ⟨b, off + M * 2, none⟩) (ps.drop M) := PtAt.drop hc hb M
        by_cases hpM : pc = M
        · have hde : ps.drop M = [] := List.drop_eq_nil_of_le (by omega)
          rw [hde]
          have hz : ps.length - M = 0 := by omega
          have HZ : Hid (ps.length - M = 0) := hz
          clear hz hp hroom hc hpd hdl hde
          go_enter Try.func39, Try.ntmps39
          subst hpM
          go_wp2_with (go_at_call 34; refine (twinPuts_zero w _ _ _ (by first | rfl | exact HZ.out | omega)).mono ?_; rintro e w1 ⟨v1, rfl, ho1, hb1⟩)
          go_ret2
          exact ⟨_, rfl, ho1, hb1⟩
        · have hcall := twinPuts_any w (some ⟨b, off + M * 2, none⟩) (ps.drop M) (pc - M) ⟨by rw [hdl]; omega, by omega, (by intro e; cases e), hpd⟩ (by rw [hdl]; omega) (fun p hp => hroom p (List.mem_of_mem_drop hp))
          rw [hdl] at hcall
          obtain ⟨DP, hDP⟩ : ∃ DP, DP = ps.drop M := ⟨_, rfl⟩
          rw [← hDP] at hcall ⊢
          clear hp hroom hc hpd hdl hDP
          go_enter Try.func39, Try.ntmps39
          go_wp2_with (go_at_call 34; refine hcall.mono ?_; rintro e w1 ⟨v1, rfl, ho1, hb1⟩)
          go_ret2
          exact ⟨_, rfl, ho1, hb1⟩
end Go.Proofs.Ytgfhjkphdmkmoab
