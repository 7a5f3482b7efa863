/-
  The document's commands (cloakroomref10): contracts of Piece and Part.
-/
import Derived.Test.YtpnmokmadbapoaaOrRefU
import Derived.Test.YtpnmokmadbapoaaGb
namespace Go.Proofs.Ytpnmokmadbapoaa
open Go.RowKit Go.Sort Go.Shelf
set_option linter.unusedSimpArgs false
set_option linter.unusedVariables false
set_option maxRecDepth 100000

def Cm.cl (c : Cm) (v : Value) : List Value := [.int .u8 c.kind, .int .i64 c.tenant, v, .string c.value, .int .u32 c.flags, .int .i64 c.life, .int .u64 c.unique, .int .u64 c.by_]
def noC : Cm := ⟨0, 0, [], ⟨#[]⟩, 0, 0, 0, 0⟩

/-- Piece on its way: its argument's box, its answer's, and that of the part, whose keys it made -/
structure Pst (w wr : World) (X Z : List Value) (F : Value → List Value) (v : Value) (ks : List ByteArray) : Prop where
  b0 : GBx wr w.heap.size X
  b1 : GBx wr (w.heap.size + 1) Z
  b2 : GBx wr (w.heap.size + 2) (F v)
  own : GOwn ES wr (w.heap.size + 3) v ks
  bel : RowKit.Below w.heap.size w wr
theorem Pst.below {w wr wr' : World} {X Z : List Value} {F : Value → List Value} {v : Value} {ks : List ByteArray} (h : Pst w wr X Z F v ks) (hb : RowKit.Below wr.heap.size wr wr') : Pst w wr' X Z F v ks :=
  ⟨h.b0.below hb, h.b1.below hb, h.b2.below hb, h.own.below hb, g_on h.bel hb⟩
theorem Pst.size {w wr : World} {X Z : List Value} {F : Value → List Value} {v : Value} {ks : List ByteArray} (h : Pst w wr X Z F v ks) : w.heap.size + 3 ≤ wr.heap.size := h.b2.lt
theorem Pst.ne {w wr : World} {X Z : List Value} {F : Value → List Value} {v : Value} {ks : List ByteArray} (h : Pst w wr X Z F v ks) {b : Nat} (hb : b < w.heap.size + 3) : v.ownBlock ≠ some b := fun e => by
  have := (h.own.lt b e).1
  omega
theorem Pst.app {w wr w7 : World} {X Z : List Value} {F : Value → List Value} {v v7 : Value} {ks ks' : List ByteArray} (h : Pst w wr X Z F v ks) (hg : GGrew wr w7 v v7) (ho : GOwn ES w7 (w.heap.size + 3) v7 ks') (hF : (F v).set 2 v7 = F v7) (hl : 2 < (F v).length) :
    Pst w (w7.setCell ⟨w.heap.size + 2, 2, none⟩ v7) X Z F v7 ks' :=
  ⟨(h.b0.grown hg.grown (h.ne (by omega))).other _ _ (by omega), (h.b1.grown hg.grown (h.ne (by omega))).other _ _ (by omega), ((h.b2.grown hg.grown (h.ne (by omega))).set 2 v7 hl).ext hF, ho.other _ _ _ (by omega),
   (h.bel.trans ((hg.below h.own h.size).mono (by omega))).setCell (by show w.heap.size ≤ w.heap.size + 2; omega) _⟩

set_option maxHeartbeats 4000000 in
theorem rpiece_any (c : Cm) (ko : Option Addr) (kc : Nat) (sh : Int) (n : Nat) (hn0 : 1 ≤ n) (hn1 : n ≤ 4) (ht : tenOk c.tenant = true) (hk : ∀ k ∈ c.keys, keyOk k = true) (h8 : c.keys.length ≤ 8) (w : World) (h : GRd ES w ko c.keys kc) :
    Calls Try.prog 60 #[.agg (c.arr (.slice ko c.keys.length kc)), .int .i64 sh, .int .i64 n] w fun e w' => ∃ v, e = .returned (.agg ((c.piece sh n).arr v)) ∧ GOwn ES w' w.heap.size v (c.piece sh n).keys ∧ RowKit.Below w.heap.size w w' := by
  have mixed : Try.prog.follows .mixedOrders = true := by kernel_rfl
  have HR := Hid.mk2 h
  have hlen := h.len
  have HOF := Hid.mk2 (fun key (hkey : key ∈ c.keys) W => rof_any c (.slice ko c.keys.length kc) key n W ht (hk key hkey) (by omega) (by omega))
  obtain ⟨OF, hOF⟩ : ∃ OF : ByteArray → Int, ∀ k, OF k = c.of n k := ⟨_, fun _ => rfl⟩
  simp only [← hOF] at HOF
  obtain ⟨W, hW⟩ : ∃ W, W = (w.alloc (.cells (c.arr (.slice ko c.keys.length kc)) 27)).alloc (.cells (noC.arr (.slice none 0 0)) 27) := ⟨_, rfl⟩
  have HB : Hid (RowKit.Below w.heap.size w W) := by rw [hW]; exact g_on (g_alloc _ _) (g_alloc _ _)
  have HX0 : Hid (GBx W w.heap.size (c.cl (.slice ko c.keys.length kc))) := by rw [hW]; exact (GBx.made w (c.cl (.slice ko c.keys.length kc)) _).alloc _
  have HX1 : Hid (GBx W (w.heap.size + 1) (noC.cl (.slice none 0 0))) := by
    rw [hW]
    have := GBx.made (w.alloc (.cells (c.arr (.slice ko c.keys.length kc)) 27)) (noC.cl (.slice none 0 0)) 27
    rw [show (w.alloc (.cells (c.arr (.slice ko c.keys.length kc)) 27)).heap.size = w.heap.size + 1 by simp] at this
    exact this
  have hsz : W.heap.size = w.heap.size + 2 := by rw [hW]; simp
  unfold Cm.arr noC at hW
  dsimp only at hW
  obtain ⟨kind, tenant, keys, value, flags, life, unique, by_⟩ := c
  unfold Cm.piece
  unfold Cm.arr Cm.cl noC at *
  dsimp only at *
  have c0 := HX0.out.c 0 (by simp)
  have c1 := HX0.out.c 1 (by simp)
  have c2 := HX0.out.c 2 (by simp)
  have c3 := HX0.out.c 3 (by simp)
  have c4 := HX0.out.c 4 (by simp)
  have c5 := HX0.out.c 5 (by simp)
  have c6 := HX0.out.c 6 (by simp)
  have c7 := HX0.out.c 7 (by simp)
  have hlt := HX0.out.lt
  simp only [List.getElem_cons_zero, List.getElem_cons_succ] at c0 c1 c2 c3 c4 c5 c6 c7
  go_enter Try.func60, Try.ntmps60
  go_upto_region 1 with (fail)
  rw [← hW]
  clear hW
  have HOFe := Hid.mk2 hOF
  have HS0 : Hid (Pst w (W.alloc (.cells #[.int .u8 kind, .int .i64 tenant, .slice none 0 0, .string value, .int .u32 flags, .int .i64 life, .int .u64 unique, .int .u64 by_] 27)) [.int .u8 kind, .int .i64 tenant, .slice ko keys.length kc, .string value, .int .u32 flags, .int .i64 life, .int .u64 unique, .int .u64 by_] [.int .u8 0, .int .i64 0, .slice none 0 0, .string ⟨#[]⟩, .int .u32 0, .int .i64 0, .int .u64 0, .int .u64 0] (fun v => [.int .u8 kind, .int .i64 tenant, v, .string value, .int .u32 flags, .int .i64 life, .int .u64 unique, .int .u64 by_]) (.slice none 0 0) []) := by
    refine ⟨HX0.out.alloc _, HX1.out.alloc _, ?_, GOwn.nil _ _, g_on HB.out (g_alloc _ _)⟩
    have := GBx.made W [.int .u8 kind, .int .i64 tenant, .slice none 0 0, .string value, .int .u32 flags, .int .i64 life, .int .u64 unique, .int .u64 by_] 27
    rw [hsz] at this
    exact this
  obtain ⟨F, hF⟩ : ∃ F : Value → List Value, F = fun v => [.int .u8 kind, .int .i64 tenant, v, .string value, .int .u32 flags, .int .i64 life, .int .u64 unique, .int .u64 by_] := ⟨_, rfl⟩
  rw [← hF] at HS0
  have HFV := Hid.mk2 hF
  go_upto_region 3 with (fail)
  clear hF hOF h ht hk HX0 HX1 hsz c0 c1 c2 c3 c4 c5 c6 c7 hlt HB
  go_wp2
  go_loopw [8] (fun i wr => ∃ (k : Nat) (v : Value), k ≤ keys.length ∧ i = .int .i64 k ∧ Hid (Pst w wr [.int .u8 kind, .int .i64 tenant, .slice ko keys.length kc, .string value, .int .u32 flags, .int .i64 life, .int .u64 unique, .int .u64 by_] [.int .u8 0, .int .i64 0, .slice none 0 0, .string ⟨#[]⟩, .int .u32 0, .int .i64 0, .int .u64 0, .int .u64 0] F v ((keys.take k).filter fun x => OF x == sh))) (fun i _ => keys.length - (RowKit.intOf i).toNat)
  case atStart => exact ⟨0, _, Nat.zero_le _, rfl, by show Pst _ _ _ _ _ _ _; simpa using HS0.out⟩
  case round =>
    obtain ⟨k, v, hkn, rfl, HP⟩ := hrel
    have hlt := HP.out.b0.lt
    have c0 := HP.out.b0.c 0 (by simp)
    have c1 := HP.out.b0.c 1 (by simp)
    have c2 := HP.out.b0.c 2 (by simp)
    have c3 := HP.out.b0.c 3 (by simp)
    have c4 := HP.out.b0.c 4 (by simp)
    have c5 := HP.out.b0.c 5 (by simp)
    have c6 := HP.out.b0.c 6 (by simp)
    have c7 := HP.out.b0.c 7 (by simp)
    simp only [List.getElem_cons_zero, List.getElem_cons_succ] at c0 c1 c2 c3 c4 c5 c6 c7
    by_cases hkl : k < keys.length
    · have hkl2 : (k : Int) < (keys.length : Int) := by omega
      have hne : keys ≠ [] := by intro e; rw [e] at hkl; simp at hkl
      obtain ⟨b, off, rfl, hbl, hcs⟩ := (HR.out.below HP.out.bel).str hne
      have r0 := hcs k hkl
      obtain ⟨p, hpe⟩ : ∃ p, p = keys[k] := ⟨_, rfl⟩
      rw [← hpe] at r0
      have HOQ := Hid.mk2 (HOF.out p (by rw [hpe]; exact List.getElem_mem hkl))
      obtain ⟨X, hX⟩ : ∃ X, X = OF p := ⟨_, rfl⟩
      rw [← hX] at HOQ
      have HST : Hid ((keys.take (k + 1)).filter (fun x => OF x == sh) = (keys.take k).filter (fun x => OF x == sh) ++ (if X == sh then [p] else [])) := by
        show _ = _
        rw [List.take_add_one, List.getElem?_eq_getElem hkl, List.filter_append, ← hpe]
        simp only [Option.toList_some, List.filter_cons, List.filter_nil]
        rw [← hX]
      have d0 : ∀ n os, (grow (wr.drewN n) os).cell? ⟨w.heap.size, 0, none⟩ = _ := cell_grown hlt c0
      have d1 : ∀ n os, (grow (wr.drewN n) os).cell? ⟨w.heap.size, 1, none⟩ = _ := cell_grown hlt c1
      have d2 : ∀ n os, (grow (wr.drewN n) os).cell? ⟨w.heap.size, 2, none⟩ = _ := cell_grown hlt c2
      have d3 : ∀ n os, (grow (wr.drewN n) os).cell? ⟨w.heap.size, 3, none⟩ = _ := cell_grown hlt c3
      have d4 : ∀ n os, (grow (wr.drewN n) os).cell? ⟨w.heap.size, 4, none⟩ = _ := cell_grown hlt c4
      have d5 : ∀ n os, (grow (wr.drewN n) os).cell? ⟨w.heap.size, 5, none⟩ = _ := cell_grown hlt c5
      have d6 : ∀ n os, (grow (wr.drewN n) os).cell? ⟨w.heap.size, 6, none⟩ = _ := cell_grown hlt c6
      have d7 : ∀ n os, (grow (wr.drewN n) os).cell? ⟨w.heap.size, 7, none⟩ = _ := cell_grown hlt c7
      have e0 : ∀ n os, (grow (wr.drewN n) os).cell? ⟨b, off + k, none⟩ = _ := cell_grown hbl r0
      have HLT : Hid (((keys.take k).filter fun x => OF x == sh).length + 1 ≤ 1000000) := by
        have h1 := List.length_filter_le (fun x => OF x == sh) (keys.take k)
        rw [List.length_take] at h1
        show _ ≤ _
        omega
      clear hcs hne hpe hX r0
      obtain ⟨L7, hL7⟩ : ∃ L7, L7 = ((keys.take k).filter fun x => OF x == sh) ++ [p] := ⟨_, rfl⟩
      have HL7 := Hid.mk2 hL7
      clear hL7
      by_cases hY : X = sh
      · have hY' : (X == sh) = true := by simpa using hY
        go_upto_region 6 with (fail)
        clear c0 c1 c2 c3 c4 c5 c6 c7
        go_quiet_grown ((go_at_call 84; exact Calls.grown_of (HOQ.out _)))
        have HP2 := Hid.mk2 (HP.out.below (g_grow wr nq osq))
        have hx2 := d2 nq osq
        have hx3 := e0 nq osq
        have hbl2 : b < (grow (wr.drewN nq) osq).heap.size := Nat.lt_of_lt_of_le hbl (g_grow wr nq osq).size
        generalize grow (wr.drewN nq) osq = wq at HP2 hx2 hx3 hbl2 ⊢
        clear d0 d1 d2 d3 d4 d5 d6 d7 e0
        have hq2 : wq.cell? ⟨w.heap.size + 2, 2, none⟩ = some v := by have := HP2.out.b2.c 2 (by rw [HFV.out]; simp); simpa [HFV.out] using this
        have hl2 := HP2.out.b2.lt
        have hlq := HP2.out.b0.lt
        have HOD := Hid.mk2 (HP2.out.own.below ((RowKit.Below.refl wq.heap.size wq).drew))
        have hsq := HP2.out.size
        clear hY hlt hbl
        go_upto_region 7 with (fail)
        go_region_law (refine g_step_one (w0 := wq.drew) okS (by rfl) (.tmp 29) (.tmp 35) _ (by rfl) (by rfl) (w.heap.size + 3) _ _ HOD.out (by rfl) p (by rfl) _ (by rfl) (by rfl) HLT.out hsq ?_; intro v7 w7 hO7 hG7; rw [← HL7.out] at hO7; have HO7 := Hid.mk2 hO7; have HG7 := Hid.mk2 hG7.drew; obtain ⟨a7, cp7, hv7, -⟩ := hO7.rd okS; subst hv7; have g2 := (HP2.out.b2.grown HG7.out.grown (HP2.out.ne (by omega))).c 2 (by rw [HFV.out]; simp); have f2 := (HP2.out.b2.grown HG7.out.grown (HP2.out.ne (by omega))).f 2; clear hO7 hG7)
        all_goals
          go_wp2
          go_roundw
          case rel =>
            refine ⟨k + 1, .slice a7 L7.length cp7, by omega, by go_num, ?_⟩
            have := HP2.out.app HG7.out HO7.out (by rw [HFV.out]; rfl) (by rw [HFV.out]; simp)
            show Pst _ _ _ _ _ _ _
            rw [HST.out, if_pos hY', ← HL7.out]
            exact this
          case measure => simp [RowKit.intOf]; omega
      · have hY' : (X == sh) = false := by simpa using hY
        go_upto_region 6 with (fail)
        clear c0 c1 c2 c3 c4 c5 c6 c7
        go_quiet_grown ((go_at_call 84; exact Calls.grown_of (HOQ.out _)))
        have HP2 := Hid.mk2 (HP.out.below (g_grow wr nq osq))
        clear hY
        go_wp2
        go_roundw
        case rel =>
          refine ⟨k + 1, v, by omega, by go_num, ?_⟩
          show Pst _ _ _ _ _ _ _
          rw [HST.out, hY']
          simpa using HP2.out
        case measure => simp [RowKit.intOf]; omega
    · have hkl2 : ¬ ((k : Int) < (keys.length : Int)) := by omega
      have ek : keys.take k = keys := List.take_of_length_le (by omega)
      rw [ek] at HP
      clear ek
      obtain ⟨av, cp, hv, -⟩ := HP.out.own.rd okS
      obtain ⟨KS, hKS⟩ : ∃ KS, KS = keys.filter (fun x => OF x == sh) := ⟨_, rfl⟩
      rw [← hKS] at HP hv
      have HKS : Hid (keys.filter (fun k => (Cm.of ⟨kind, tenant, keys, value, flags, life, unique, by_⟩ n k == sh)) = KS) := by
        show _ = _
        rw [hKS]
        simp only [HOFe.out]
      subst hv
      clear hKS
      have HQ1 := Hid.mk2 HP.out.b1
      have HQ2 : Hid (GBx wr (w.heap.size + 2) [.int .u8 kind, .int .i64 tenant, .slice av KS.length cp, .string value, .int .u32 flags, .int .i64 life, .int .u64 unique, .int .u64 by_]) := by
        have := HP.out.b2
        rw [HFV.out] at this
        exact this
      have x0 := HQ2.out.c 0 (by simp)
      have x1 := HQ2.out.c 1 (by simp)
      have x2 := HQ2.out.c 2 (by simp)
      have x3 := HQ2.out.c 3 (by simp)
      have x4 := HQ2.out.c 4 (by simp)
      have x5 := HQ2.out.c 5 (by simp)
      have x6 := HQ2.out.c 6 (by simp)
      have x7 := HQ2.out.c 7 (by simp)
      have y0 := HQ1.out.c 0 (by simp)
      have y1 := HQ1.out.c 1 (by simp)
      have y2 := HQ1.out.c 2 (by simp)
      have y3 := HQ1.out.c 3 (by simp)
      have y4 := HQ1.out.c 4 (by simp)
      have y5 := HQ1.out.c 5 (by simp)
      have y6 := HQ1.out.c 6 (by simp)
      have y7 := HQ1.out.c 7 (by simp)
      have f0 := HQ1.out.f 0
      have f1 := HQ1.out.f 1
      have f2 := HQ1.out.f 2
      have f3 := HQ1.out.f 3
      have f4 := HQ1.out.f 4
      have f5 := HQ1.out.f 5
      have f6 := HQ1.out.f 6
      have f7 := HQ1.out.f 7
      simp only [List.getElem_cons_zero, List.getElem_cons_succ] at x0 x1 x2 x3 x4 x5 x6 x7 y0 y1 y2 y3 y4 y5 y6 y7
      have HZ : Hid (GBx ((((((((wr.setCell ⟨w.heap.size + 1, 0, none⟩ (.int .u8 kind)).setCell ⟨w.heap.size + 1, 1, none⟩ (.int .i64 tenant)).setCell ⟨w.heap.size + 1, 2, none⟩ (.slice av KS.length cp)).setCell ⟨w.heap.size + 1, 3, none⟩ (.string value)).setCell ⟨w.heap.size + 1, 4, none⟩ (.int .u32 flags)).setCell ⟨w.heap.size + 1, 5, none⟩ (.int .i64 life)).setCell ⟨w.heap.size + 1, 6, none⟩ (.int .u64 unique)).setCell ⟨w.heap.size + 1, 7, none⟩ (.int .u64 by_)) (w.heap.size + 1) [.int .u8 kind, .int .i64 tenant, .slice av KS.length cp, .string value, .int .u32 flags, .int .i64 life, .int .u64 unique, .int .u64 by_]) := ((((((((HQ1.out.set 0 (.int .u8 kind) (by simp)).set 1 (.int .i64 tenant) (by simp)).set 2 (.slice av KS.length cp) (by simp)).set 3 (.string value) (by simp)).set 4 (.int .u32 flags) (by simp)).set 5 (.int .i64 life) (by simp)).set 6 (.int .u64 unique) (by simp)).set 7 (.int .u64 by_) (by simp))
      have HOZ := Hid.mk2 ((((((((HP.out.own.other (w.heap.size + 1) 0 (.int .u8 kind) (by omega)).other (w.heap.size + 1) 1 (.int .i64 tenant) (by omega)).other (w.heap.size + 1) 2 (.slice av KS.length cp) (by omega)).other (w.heap.size + 1) 3 (.string value) (by omega)).other (w.heap.size + 1) 4 (.int .u32 flags) (by omega)).other (w.heap.size + 1) 5 (.int .i64 life) (by omega)).other (w.heap.size + 1) 6 (.int .u64 unique) (by omega)).other (w.heap.size + 1) 7 (.int .u64 by_) (by omega))
      have HBZ := Hid.mk2 ((((((((HP.out.bel.setCell (p := ⟨w.heap.size + 1, 0, none⟩) (by show w.heap.size ≤ w.heap.size + 1; omega) (.int .u8 kind)).setCell (p := ⟨w.heap.size + 1, 1, none⟩) (by show w.heap.size ≤ w.heap.size + 1; omega) (.int .i64 tenant)).setCell (p := ⟨w.heap.size + 1, 2, none⟩) (by show w.heap.size ≤ w.heap.size + 1; omega) (.slice av KS.length cp)).setCell (p := ⟨w.heap.size + 1, 3, none⟩) (by show w.heap.size ≤ w.heap.size + 1; omega) (.string value)).setCell (p := ⟨w.heap.size + 1, 4, none⟩) (by show w.heap.size ≤ w.heap.size + 1; omega) (.int .u32 flags)).setCell (p := ⟨w.heap.size + 1, 5, none⟩) (by show w.heap.size ≤ w.heap.size + 1; omega) (.int .i64 life)).setCell (p := ⟨w.heap.size + 1, 6, none⟩) (by show w.heap.size ≤ w.heap.size + 1; omega) (.int .u64 unique)).setCell (p := ⟨w.heap.size + 1, 7, none⟩) (by show w.heap.size ≤ w.heap.size + 1; omega) (.int .u64 by_))
      have z0 := HZ.out.c 0 (by simp)
      have z1 := HZ.out.c 1 (by simp)
      have z2 := HZ.out.c 2 (by simp)
      have z3 := HZ.out.c 3 (by simp)
      have z4 := HZ.out.c 4 (by simp)
      have z5 := HZ.out.c 5 (by simp)
      have z6 := HZ.out.c 6 (by simp)
      have z7 := HZ.out.c 7 (by simp)
      simp only [List.getElem_cons_zero, List.getElem_cons_succ] at z0 z1 z2 z3 z4 z5 z6 z7
      have Z0 := Hid.mk2 z0
      have Z1 := Hid.mk2 z1
      have Z2 := Hid.mk2 z2
      have Z3 := Hid.mk2 z3
      have Z4 := Hid.mk2 z4
      have Z5 := Hid.mk2 z5
      have Z6 := Hid.mk2 z6
      have Z7 := Hid.mk2 z7
      clear z0 z1 z2 z3 z4 z5 z6 z7
      go_wp2
      try simp only [Exit.inBlock, Exit.then]
      refine bodyPost_ret (v := .agg #[.int .u8 kind, .int .i64 tenant, .slice av KS.length cp, .string value, .int .u32 flags, .int .i64 life, .int .u64 unique, .int .u64 by_]) (by simp [results, Try.results60, go_sem, Z0.out, Z1.out, Z2.out, Z3.out, Z4.out, Z5.out, Z6.out, Z7.out]) rfl ⟨.slice av KS.length cp, rfl, ?_, HBZ.out⟩
      rw [HKS.out]
      exact HOZ.out.down (by omega)
end Go.Proofs.Ytpnmokmadbapoaa
