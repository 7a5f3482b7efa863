/-
  The document's commands (cloakroomref10): the contract of Part.
-/
import Derived.Test.YtpnmokmadbapoaaOrRefV
namespace Go.Proofs.Ytpnmokmadbapoaa
open Go.RowKit Go.Sort Go.Shelf
set_option linter.unusedSimpArgs false
set_option linter.unusedVariables false
set_option maxRecDepth 100000

/-- P10.3: which error a part has, and which part -/
def Cm.prE (c : Cm) (sh n : Int) : Int := if c.shE n = 0 then (if sh ∈ c.shL n then 0 else 2) else c.shE n
def Cm.prt (c : Cm) (sh n : Int) : Cm := if c.shE n = 0 ∧ sh ∈ c.shL n then c.piece sh n else noC
theorem Cm.shE_ok {c : Cm} {n : Int} (h : c.shE n = 0) : c.may = true ∧ 1 ≤ n ∧ n ≤ 4 := by
  unfold Cm.shE at h
  split at h
  · split at h
    · rename_i h1 h2; exact ⟨h1, h2⟩
    · exact absurd h (by decide)
  · exact absurd h (by decide)

set_option maxHeartbeats 4000000 in
theorem rpart_any (c : Cm) (ko : Option Addr) (kc : Nat) (sh n : Int) (w : World) (h : GRd ES w ko c.keys kc) :
    Calls Try.prog 20 #[.agg (c.arr (.slice ko c.keys.length kc)), .int .i64 sh, .int .i64 n] w fun e w' => ∃ v, e = .returned (.tuple #[.agg ((c.prt sh n).arr v), .int .i64 (c.prE sh n)]) ∧ GOwn ES w' w.heap.size v (c.prt sh n).keys ∧ RowKit.Below w.heap.size w w' := by
  have HSH := Hid.mk2 (fun W (hW : RowKit.Below w.heap.size w W) => rshards_any c ko kc n W (h.below hW))
  have HPI : Hid (c.shE n = 0 → ∀ W, RowKit.Below w.heap.size w W → Calls Try.prog 60 #[.agg (c.arr (.slice ko c.keys.length kc)), .int .i64 sh, .int .i64 n] W fun e w' => ∃ v, e = .returned (.agg ((c.piece sh n).arr v)) ∧ GOwn ES w' W.heap.size v (c.piece sh n).keys ∧ RowKit.Below W.heap.size W w') := by
    intro he W hW
    obtain ⟨hm, h1, h2⟩ := Cm.shE_ok he
    obtain ⟨m, rfl⟩ : ∃ m : Nat, n = m := ⟨n.toNat, by omega⟩
    exact rpiece_any c ko kc sh m (by omega) (by omega) (Cm.may_parts hm).2.1 (Cm.kOk_keys (Cm.may_parts hm).2.2.1) (Cm.kOk_len (Cm.may_parts hm).2.2.1) W (h.below hW)
  have hE1 : ¬ c.shE n = 0 → c.prE sh n = c.shE n ∧ c.prt sh n = noC := fun e => by unfold Cm.prE Cm.prt; rw [if_neg e, if_neg (fun x => e x.1)]; exact ⟨rfl, rfl⟩
  have hE2 : c.shE n = 0 → ¬ sh ∈ c.shL n → c.prE sh n = 2 ∧ c.prt sh n = noC := fun e e2 => by unfold Cm.prE Cm.prt; rw [if_pos e, if_neg e2, if_neg (fun x => e2 x.2)]; exact ⟨rfl, rfl⟩
  have hE3 : c.shE n = 0 → sh ∈ c.shL n → c.prE sh n = 0 ∧ c.prt sh n = c.piece sh n := fun e e2 => by unfold Cm.prE Cm.prt; rw [if_pos e, if_pos e2, if_pos ⟨e, e2⟩]; exact ⟨rfl, rfl⟩
  obtain ⟨E, hEe⟩ : ∃ E, E = c.shE n := ⟨_, rfl⟩
  obtain ⟨S, hSe⟩ : ∃ S, S = c.shL n := ⟨_, rfl⟩
  obtain ⟨R, hRe⟩ : ∃ R, R = c.prE sh n := ⟨_, rfl⟩
  obtain ⟨P, hPe⟩ : ∃ P, P = c.prt sh n := ⟨_, rfl⟩
  rw [← hEe, ← hSe] at HSH
  rw [← hEe] at HPI
  rw [← hEe, ← hRe, ← hPe] at hE1 hE2 hE3
  rw [← hSe] at hE2 hE3
  rw [← hRe, ← hPe]
  obtain ⟨PK, hPK⟩ : ∃ PK, PK = (c.piece sh n).keys := ⟨_, rfl⟩
  have H1 := Hid.mk2 hE1
  have H2 := Hid.mk2 hE2
  have H3 := Hid.mk2 hE3
  have HS4 : Hid (S.length ≤ 4) := by
    show S.length ≤ 4
    rw [hSe]
    unfold Cm.shL
    split
    · rename_i hx
      rw [← Cm.needsTo_all]
      exact Nat.le_trans (Cm.needsTo_len _ _ _) (by omega)
    · simp
  obtain ⟨W, hW⟩ : ∃ W, W = (w.alloc (.cells (c.arr (.slice ko c.keys.length kc)) 27)).alloc (.cells (noC.arr (.slice none 0 0)) 27) := ⟨_, rfl⟩
  have HB : Hid (RowKit.Below w.heap.size w W) := by rw [hW]; exact g_on (g_alloc _ _) (g_alloc _ _)
  have HX0 : Hid (GBx W w.heap.size (c.cl (.slice ko c.keys.length kc))) := by rw [hW]; exact (GBx.made w (c.cl (.slice ko c.keys.length kc)) _).alloc _
  have HX1 : Hid (GBx W (w.heap.size + 1) (noC.cl (.slice none 0 0))) := by
    rw [hW]
    have := GBx.made (w.alloc (.cells (c.arr (.slice ko c.keys.length kc)) 27)) (noC.cl (.slice none 0 0)) 27
    rw [show (w.alloc (.cells (c.arr (.slice ko c.keys.length kc)) 27)).heap.size = w.heap.size + 1 by simp] at this
    exact this
  have hsz : W.heap.size = w.heap.size + 2 := by rw [hW]; simp
  have hPP : (c.piece sh n).arr = fun v => #[.int .u8 c.kind, .int .i64 c.tenant, v, .string c.value, .int .u32 c.flags, .int .i64 c.life, .int .u64 c.unique, .int .u64 c.by_] := by funext v; rfl
  rw [hPP, ← hPK] at HPI
  have HPQ : Hid ((c.piece sh n).keys = PK) := hPK.symm
  have HPC := Hid.mk2 hPP
  clear hEe hSe hRe hPe hE1 hE2 hE3 h hPK hPP
  unfold Cm.arr noC at hW
  dsimp only at hW
  have HNO : Hid (noC.arr = fun v => #[.int .u8 0, .int .i64 0, v, .string ⟨#[]⟩, .int .u32 0, .int .i64 0, .int .u64 0, .int .u64 0]) := rfl
  obtain ⟨kind, tenant, keys, value, flags, life, unique, by_⟩ := c
  unfold Cm.cl at HX0 HX1
  unfold noC at HX1
  dsimp only at HX0 HX1 HPI HSH HPC
  unfold Cm.arr at HSH HPI ⊢
  dsimp only at HSH HPI
  have c0 := HX0.out.c 0 (by simp)
  have c1 := HX0.out.c 1 (by simp)
  have c2 := HX0.out.c 2 (by simp)
  have c3 := HX0.out.c 3 (by simp)
  have c4 := HX0.out.c 4 (by simp)
  have c5 := HX0.out.c 5 (by simp)
  have c6 := HX0.out.c 6 (by simp)
  have c7 := HX0.out.c 7 (by simp)
  have hlt := HX0.out.lt
  simp only [List.getElem_cons_zero, List.getElem_cons_succ] at c0 c1 c2 c3 c4 c5 c6 c7
  go_enter Try.func20, Try.ntmps20
  go_upto_region 1 with (fail)
  rw [← hW]
  clear hW
  by_cases hE : E = 0
  case neg =>
    obtain ⟨rfl, rfl⟩ := H1.out hE
    have hE' := bne_t hE
    clear H1 H2 H3 HPI hE
    go_upto_region 2 with (go_at_call 18; refine (HSH.out _ HB.out).mono ?_; rintro e w1 ⟨v1, rfl, hO1, hb1⟩)
    have HQ1 := Hid.mk2 (HX1.out.below hb1)
    have HB1 := Hid.mk2 (g_on HB.out hb1)
    clear hO1 hb1 HX0 HX1 HB
    have y0 := HQ1.out.c 0 (by simp)
    have y1 := HQ1.out.c 1 (by simp)
    have y2 := HQ1.out.c 2 (by simp)
    have y3 := HQ1.out.c 3 (by simp)
    have y4 := HQ1.out.c 4 (by simp)
    have y5 := HQ1.out.c 5 (by simp)
    have y6 := HQ1.out.c 6 (by simp)
    have y7 := HQ1.out.c 7 (by simp)
    have f0 := HQ1.out.f 0
    have f1 := HQ1.out.f 1
    have f2 := HQ1.out.f 2
    have f3 := HQ1.out.f 3
    have f4 := HQ1.out.f 4
    have f5 := HQ1.out.f 5
    have f6 := HQ1.out.f 6
    have f7 := HQ1.out.f 7
    simp only [List.getElem_cons_zero, List.getElem_cons_succ] at y0 y1 y2 y3 y4 y5 y6 y7
    have HZ : Hid (GBx ((((((((w1.setCell ⟨w.heap.size + 1, 0, none⟩ (.int .u8 0)).setCell ⟨w.heap.size + 1, 1, none⟩ (.int .i64 0)).setCell ⟨w.heap.size + 1, 2, none⟩ (.slice none 0 0)).setCell ⟨w.heap.size + 1, 3, none⟩ (.string ⟨#[]⟩)).setCell ⟨w.heap.size + 1, 4, none⟩ (.int .u32 0)).setCell ⟨w.heap.size + 1, 5, none⟩ (.int .i64 0)).setCell ⟨w.heap.size + 1, 6, none⟩ (.int .u64 0)).setCell ⟨w.heap.size + 1, 7, none⟩ (.int .u64 0)) (w.heap.size + 1) [.int .u8 0, .int .i64 0, .slice none 0 0, .string ⟨#[]⟩, .int .u32 0, .int .i64 0, .int .u64 0, .int .u64 0]) := ((((((((HQ1.out.set 0 (.int .u8 0) (by simp)).set 1 (.int .i64 0) (by simp)).set 2 (.slice none 0 0) (by simp)).set 3 (.string ⟨#[]⟩) (by simp)).set 4 (.int .u32 0) (by simp)).set 5 (.int .i64 0) (by simp)).set 6 (.int .u64 0) (by simp)).set 7 (.int .u64 0) (by simp))
    have HBZ := Hid.mk2 ((((((((HB1.out.setCell (p := ⟨w.heap.size + 1, 0, none⟩) (by show w.heap.size ≤ w.heap.size + 1; omega) (.int .u8 0)).setCell (p := ⟨w.heap.size + 1, 1, none⟩) (by show w.heap.size ≤ w.heap.size + 1; omega) (.int .i64 0)).setCell (p := ⟨w.heap.size + 1, 2, none⟩) (by show w.heap.size ≤ w.heap.size + 1; omega) (.slice none 0 0)).setCell (p := ⟨w.heap.size + 1, 3, none⟩) (by show w.heap.size ≤ w.heap.size + 1; omega) (.string ⟨#[]⟩)).setCell (p := ⟨w.heap.size + 1, 4, none⟩) (by show w.heap.size ≤ w.heap.size + 1; omega) (.int .u32 0)).setCell (p := ⟨w.heap.size + 1, 5, none⟩) (by show w.heap.size ≤ w.heap.size + 1; omega) (.int .i64 0)).setCell (p := ⟨w.heap.size + 1, 6, none⟩) (by show w.heap.size ≤ w.heap.size + 1; omega) (.int .u64 0)).setCell (p := ⟨w.heap.size + 1, 7, none⟩) (by show w.heap.size ≤ w.heap.size + 1; omega) (.int .u64 0))
    have z0 := HZ.out.c 0 (by simp)
    have z1 := HZ.out.c 1 (by simp)
    have z2 := HZ.out.c 2 (by simp)
    have z3 := HZ.out.c 3 (by simp)
    have z4 := HZ.out.c 4 (by simp)
    have z5 := HZ.out.c 5 (by simp)
    have z6 := HZ.out.c 6 (by simp)
    have z7 := HZ.out.c 7 (by simp)
    simp only [List.getElem_cons_zero, List.getElem_cons_succ] at z0 z1 z2 z3 z4 z5 z6 z7
    have Z0 := Hid.mk2 z0
    have Z1 := Hid.mk2 z1
    have Z2 := Hid.mk2 z2
    have Z3 := Hid.mk2 z3
    have Z4 := Hid.mk2 z4
    have Z5 := Hid.mk2 z5
    have Z6 := Hid.mk2 z6
    have Z7 := Hid.mk2 z7
    clear z0 z1 z2 z3 z4 z5 z6 z7
    go_wp2
    try simp only [Exit.inBlock, Exit.then]
    refine bodyPost_ret (v := .tuple #[.agg #[.int .u8 0, .int .i64 0, .slice none 0 0, .string ⟨#[]⟩, .int .u32 0, .int .i64 0, .int .u64 0, .int .u64 0], .int .i64 R]) (by simp [results, Try.results20, go_sem, Z0.out, Z1.out, Z2.out, Z3.out, Z4.out, Z5.out, Z6.out, Z7.out]) rfl ⟨.slice none 0 0, rfl, GOwn.nil _ _, HBZ.out⟩
  subst hE
  go_upto_region 4 with (go_at_call 18; refine (HSH.out _ HB.out).mono ?_; rintro e w1 ⟨v1, rfl, hO1, hb1⟩)
  obtain ⟨sa, sc, rfl, hS⟩ := hO1.rd okI
  have HSR := Hid.mk2 hS
  have hsl := hS.len
  have HQ0 := Hid.mk2 (HX0.out.below hb1)
  have HQ1 := Hid.mk2 (HX1.out.below hb1)
  have HB1 := Hid.mk2 (g_on HB.out hb1)
  have hs1 : w.heap.size + 2 ≤ w1.heap.size := by have := hb1.size; omega
  clear hO1 hb1 hS HX0 HX1 HB H1 c0 c1 c2 c3 c4 c5 c6 c7 hlt hsz HSH
  go_wp2
  go_loopw [10] (fun i wr => ∃ k : Nat, k ≤ S.length ∧ i = .int .i64 k ∧ wr = w1 ∧ Hid (∀ j (hj : j < S.length), j < k → ¬ S[j] = sh)) (fun i _ => S.length - (RowKit.intOf i).toNat)
  case atStart => exact ⟨0, Nat.zero_le _, rfl, rfl, fun _ _ h => absurd h (by omega)⟩
  case round =>
    obtain ⟨k, hkn, rfl, rfl, HA⟩ := hrel
    by_cases hkl : k < S.length
    · have hkl2 : (k : Int) < (S.length : Int) := by omega
      have hne : S ≠ [] := by intro e; rw [e] at hkl; simp at hkl
      obtain ⟨b, off, rfl, hbl, hcs⟩ := HSR.out.int hne
      have r0 := hcs k hkl
      obtain ⟨p, hpe⟩ : ∃ p, p = S[k] := ⟨_, rfl⟩
      rw [← hpe] at r0
      by_cases hp : p = sh
      · have hmem : sh ∈ S := by rw [← hp, hpe]; exact List.getElem_mem hkl
        obtain ⟨rfl, rfl⟩ := H3.out (by first | rfl | trivial) hmem
        subst hp
        have c0 := HQ0.out.c 0 (by simp)
        have c1 := HQ0.out.c 1 (by simp)
        have c2 := HQ0.out.c 2 (by simp)
        have c3 := HQ0.out.c 3 (by simp)
        have c4 := HQ0.out.c 4 (by simp)
        have c5 := HQ0.out.c 5 (by simp)
        have c6 := HQ0.out.c 6 (by simp)
        have c7 := HQ0.out.c 7 (by simp)
        simp only [List.getElem_cons_zero, List.getElem_cons_succ] at c0 c1 c2 c3 c4 c5 c6 c7
        clear H2 H3 HA hcs hne hpe hmem
        go_wp2_with (go_at_call 60; refine (HPI.out (by first | rfl | trivial) _ HB1.out).mono ?_; rintro e w2 ⟨v2, rfl, hO2, hb2⟩; obtain ⟨av, cp, hv2, -⟩ := hO2.rd okS; subst hv2; have HO2 := Hid.mk2 hO2; have HQ2 := Hid.mk2 (HQ1.out.below hb2); have HB2 := Hid.mk2 (g_on HB1.out hb2); clear hO2 hb2; have y0 := HQ2.out.c 0 (by simp); have y1 := HQ2.out.c 1 (by simp); have y2 := HQ2.out.c 2 (by simp); have y3 := HQ2.out.c 3 (by simp); have y4 := HQ2.out.c 4 (by simp); have y5 := HQ2.out.c 5 (by simp); have y6 := HQ2.out.c 6 (by simp); have y7 := HQ2.out.c 7 (by simp); simp only [List.getElem_cons_zero, List.getElem_cons_succ] at y0 y1 y2 y3 y4 y5 y6 y7; have f0 := HQ2.out.f 0; have f1 := HQ2.out.f 1; have f2 := HQ2.out.f 2; have f3 := HQ2.out.f 3; have f4 := HQ2.out.f 4; have f5 := HQ2.out.f 5; have f6 := HQ2.out.f 6; have f7 := HQ2.out.f 7)
        have HZ : Hid (GBx ((((((((w2.setCell ⟨w.heap.size + 1, 0, none⟩ (.int .u8 kind)).setCell ⟨w.heap.size + 1, 1, none⟩ (.int .i64 tenant)).setCell ⟨w.heap.size + 1, 2, none⟩ (.slice av PK.length cp)).setCell ⟨w.heap.size + 1, 3, none⟩ (.string value)).setCell ⟨w.heap.size + 1, 4, none⟩ (.int .u32 flags)).setCell ⟨w.heap.size + 1, 5, none⟩ (.int .i64 life)).setCell ⟨w.heap.size + 1, 6, none⟩ (.int .u64 unique)).setCell ⟨w.heap.size + 1, 7, none⟩ (.int .u64 by_)) (w.heap.size + 1) [.int .u8 kind, .int .i64 tenant, .slice av PK.length cp, .string value, .int .u32 flags, .int .i64 life, .int .u64 unique, .int .u64 by_]) := ((((((((HQ2.out.set 0 (.int .u8 kind) (by simp)).set 1 (.int .i64 tenant) (by simp)).set 2 (.slice av PK.length cp) (by simp)).set 3 (.string value) (by simp)).set 4 (.int .u32 flags) (by simp)).set 5 (.int .i64 life) (by simp)).set 6 (.int .u64 unique) (by simp)).set 7 (.int .u64 by_) (by simp))
        have HOZ := Hid.mk2 ((((((((HO2.out.other (w.heap.size + 1) 0 (.int .u8 kind) (by omega)).other (w.heap.size + 1) 1 (.int .i64 tenant) (by omega)).other (w.heap.size + 1) 2 (.slice av PK.length cp) (by omega)).other (w.heap.size + 1) 3 (.string value) (by omega)).other (w.heap.size + 1) 4 (.int .u32 flags) (by omega)).other (w.heap.size + 1) 5 (.int .i64 life) (by omega)).other (w.heap.size + 1) 6 (.int .u64 unique) (by omega)).other (w.heap.size + 1) 7 (.int .u64 by_) (by omega))
        have HBZ := Hid.mk2 ((((((((HB2.out.setCell (p := ⟨w.heap.size + 1, 0, none⟩) (by show w.heap.size ≤ w.heap.size + 1; omega) (.int .u8 kind)).setCell (p := ⟨w.heap.size + 1, 1, none⟩) (by show w.heap.size ≤ w.heap.size + 1; omega) (.int .i64 tenant)).setCell (p := ⟨w.heap.size + 1, 2, none⟩) (by show w.heap.size ≤ w.heap.size + 1; omega) (.slice av PK.length cp)).setCell (p := ⟨w.heap.size + 1, 3, none⟩) (by show w.heap.size ≤ w.heap.size + 1; omega) (.string value)).setCell (p := ⟨w.heap.size + 1, 4, none⟩) (by show w.heap.size ≤ w.heap.size + 1; omega) (.int .u32 flags)).setCell (p := ⟨w.heap.size + 1, 5, none⟩) (by show w.heap.size ≤ w.heap.size + 1; omega) (.int .i64 life)).setCell (p := ⟨w.heap.size + 1, 6, none⟩) (by show w.heap.size ≤ w.heap.size + 1; omega) (.int .u64 unique)).setCell (p := ⟨w.heap.size + 1, 7, none⟩) (by show w.heap.size ≤ w.heap.size + 1; omega) (.int .u64 by_))
        have z0 := HZ.out.c 0 (by simp)
        have z1 := HZ.out.c 1 (by simp)
        have z2 := HZ.out.c 2 (by simp)
        have z3 := HZ.out.c 3 (by simp)
        have z4 := HZ.out.c 4 (by simp)
        have z5 := HZ.out.c 5 (by simp)
        have z6 := HZ.out.c 6 (by simp)
        have z7 := HZ.out.c 7 (by simp)
        simp only [List.getElem_cons_zero, List.getElem_cons_succ] at z0 z1 z2 z3 z4 z5 z6 z7
        have Z0 := Hid.mk2 z0
        have Z1 := Hid.mk2 z1
        have Z2 := Hid.mk2 z2
        have Z3 := Hid.mk2 z3
        have Z4 := Hid.mk2 z4
        have Z5 := Hid.mk2 z5
        have Z6 := Hid.mk2 z6
        have Z7 := Hid.mk2 z7
        clear z0 z1 z2 z3 z4 z5 z6 z7
        try simp only [Exit.inBlock, Exit.then]
        refine bodyPost_ret (v := .tuple #[.agg #[.int .u8 kind, .int .i64 tenant, .slice av PK.length cp, .string value, .int .u32 flags, .int .i64 life, .int .u64 unique, .int .u64 by_], .int .i64 0]) (by simp [results, Try.results20, go_sem, Z0.out, Z1.out, Z2.out, Z3.out, Z4.out, Z5.out, Z6.out, Z7.out]) rfl ⟨.slice av PK.length cp, rfl, ?_, HBZ.out⟩
        show GOwn ES _ _ _ _
        rw [HPQ.out]
        exact HOZ.out.down HB1.out.size
      · have hp' := beq_f hp
        have HA2 : Hid (∀ j (hj : j < S.length), j < k + 1 → ¬ S[j] = sh) := by
          intro j hj hjk
          by_cases e : j = k
          · subst e; rw [← hpe]; exact hp
          · exact HA.out j hj (by omega)
        clear HA hcs hne hpe hp
        go_wp2
        go_roundw
        case rel => exact ⟨k + 1, by omega, by go_num, by first | rfl | trivial, HA2⟩
        case measure => simp [RowKit.intOf]; omega
    · have hkl2 : ¬ ((k : Int) < (S.length : Int)) := by omega
      have hmem : ¬ sh ∈ S := by
        intro hm
        obtain ⟨j, hj, e⟩ := List.getElem_of_mem hm
        exact HA.out j hj (by omega) e
      obtain ⟨rfl, rfl⟩ := H2.out (by first | rfl | trivial) hmem
      clear H2 H3 HA hmem
      have y0 := HQ1.out.c 0 (by simp)
      have y1 := HQ1.out.c 1 (by simp)
      have y2 := HQ1.out.c 2 (by simp)
      have y3 := HQ1.out.c 3 (by simp)
      have y4 := HQ1.out.c 4 (by simp)
      have y5 := HQ1.out.c 5 (by simp)
      have y6 := HQ1.out.c 6 (by simp)
      have y7 := HQ1.out.c 7 (by simp)
      have f0 := HQ1.out.f 0
      have f1 := HQ1.out.f 1
      have f2 := HQ1.out.f 2
      have f3 := HQ1.out.f 3
      have f4 := HQ1.out.f 4
      have f5 := HQ1.out.f 5
      have f6 := HQ1.out.f 6
      have f7 := HQ1.out.f 7
      simp only [List.getElem_cons_zero, List.getElem_cons_succ] at y0 y1 y2 y3 y4 y5 y6 y7
      have HZ : Hid (GBx ((((((((wr.setCell ⟨w.heap.size + 1, 0, none⟩ (.int .u8 0)).setCell ⟨w.heap.size + 1, 1, none⟩ (.int .i64 0)).setCell ⟨w.heap.size + 1, 2, none⟩ (.slice none 0 0)).setCell ⟨w.heap.size + 1, 3, none⟩ (.string ⟨#[]⟩)).setCell ⟨w.heap.size + 1, 4, none⟩ (.int .u32 0)).setCell ⟨w.heap.size + 1, 5, none⟩ (.int .i64 0)).setCell ⟨w.heap.size + 1, 6, none⟩ (.int .u64 0)).setCell ⟨w.heap.size + 1, 7, none⟩ (.int .u64 0)) (w.heap.size + 1) [.int .u8 0, .int .i64 0, .slice none 0 0, .string ⟨#[]⟩, .int .u32 0, .int .i64 0, .int .u64 0, .int .u64 0]) := ((((((((HQ1.out.set 0 (.int .u8 0) (by simp)).set 1 (.int .i64 0) (by simp)).set 2 (.slice none 0 0) (by simp)).set 3 (.string ⟨#[]⟩) (by simp)).set 4 (.int .u32 0) (by simp)).set 5 (.int .i64 0) (by simp)).set 6 (.int .u64 0) (by simp)).set 7 (.int .u64 0) (by simp))
      have HBZ := Hid.mk2 ((((((((HB1.out.setCell (p := ⟨w.heap.size + 1, 0, none⟩) (by show w.heap.size ≤ w.heap.size + 1; omega) (.int .u8 0)).setCell (p := ⟨w.heap.size + 1, 1, none⟩) (by show w.heap.size ≤ w.heap.size + 1; omega) (.int .i64 0)).setCell (p := ⟨w.heap.size + 1, 2, none⟩) (by show w.heap.size ≤ w.heap.size + 1; omega) (.slice none 0 0)).setCell (p := ⟨w.heap.size + 1, 3, none⟩) (by show w.heap.size ≤ w.heap.size + 1; omega) (.string ⟨#[]⟩)).setCell (p := ⟨w.heap.size + 1, 4, none⟩) (by show w.heap.size ≤ w.heap.size + 1; omega) (.int .u32 0)).setCell (p := ⟨w.heap.size + 1, 5, none⟩) (by show w.heap.size ≤ w.heap.size + 1; omega) (.int .i64 0)).setCell (p := ⟨w.heap.size + 1, 6, none⟩) (by show w.heap.size ≤ w.heap.size + 1; omega) (.int .u64 0)).setCell (p := ⟨w.heap.size + 1, 7, none⟩) (by show w.heap.size ≤ w.heap.size + 1; omega) (.int .u64 0))
      have z0 := HZ.out.c 0 (by simp)
      have z1 := HZ.out.c 1 (by simp)
      have z2 := HZ.out.c 2 (by simp)
      have z3 := HZ.out.c 3 (by simp)
      have z4 := HZ.out.c 4 (by simp)
      have z5 := HZ.out.c 5 (by simp)
      have z6 := HZ.out.c 6 (by simp)
      have z7 := HZ.out.c 7 (by simp)
      simp only [List.getElem_cons_zero, List.getElem_cons_succ] at z0 z1 z2 z3 z4 z5 z6 z7
      have Z0 := Hid.mk2 z0
      have Z1 := Hid.mk2 z1
      have Z2 := Hid.mk2 z2
      have Z3 := Hid.mk2 z3
      have Z4 := Hid.mk2 z4
      have Z5 := Hid.mk2 z5
      have Z6 := Hid.mk2 z6
      have Z7 := Hid.mk2 z7
      clear z0 z1 z2 z3 z4 z5 z6 z7
      go_wp2
      try simp only [Exit.inBlock, Exit.then]
      refine bodyPost_ret (v := .tuple #[.agg #[.int .u8 0, .int .i64 0, .slice none 0 0, .string ⟨#[]⟩, .int .u32 0, .int .i64 0, .int .u64 0, .int .u64 0], .int .i64 2]) (by simp [results, Try.results20, go_sem, Z0.out, Z1.out, Z2.out, Z3.out, Z4.out, Z5.out, Z6.out, Z7.out]) rfl ⟨.slice none 0 0, rfl, GOwn.nil _ _, HBZ.out⟩
end Go.Proofs.Ytpnmokmadbapoaa
