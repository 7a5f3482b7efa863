/-
  Write of package words, whole.
-/
import Derived.Test.YtfmpbddhejpjaaaDoorWoU
import Derived.Test.YtfmpbddhejpjaaaDoorWoF
namespace Go.Proofs.YtfmpbddhejpjaaaDoor
open Go.Proofs.YtfmpbddhejpjaaaDoor.It
open Go.RowKit
set_option linter.unusedSimpArgs false
set_option linter.unusedVariables false
set_option maxRecDepth 100000

theorem indexM_mem (g : Nat) (p : Im → Bool) (eg : ∀ args w, (callFunc g args).run Tryd.prog w = .ok (.enter g args) w) (l : List Im) (hf : ∀ x ∈ l, ∀ w, Calls Tryd.prog g #[.agg #[.string x.key, .string x.value, .int .u32 x.flags, .int .i64 x.till, .int .u64 x.unique]] w fun e w' => e = .returned (.bool (p x)) ∧ Below w.heap.size w w') (ao : Option Addr) (cap : Nat) (w : World) (h : GRd EM w ao l cap) :
    Calls Tryd.prog 69 #[.slice ao l.length cap, .func (.func g) #[] #[]] w fun e w' => e = .returned (.int .i64 (ixG p l)) ∧ Below w.heap.size w w' := by
  have hlen := h.len
  have HR := Hid.mk2 h
  have HH := Hid.mk2 (fun k hk => @ixG_hit Im p l k hk)
  have HM := Hid.mk2 (@ixG_miss Im p l)
  have HF := Hid.mk2 hf
  obtain ⟨R, hR⟩ : ∃ R, R = ixG p l := ⟨_, rfl⟩
  rw [← hR] at HH HM ⊢
  clear hR h hf
  go_enter Tryd.func69, Tryd.ntmps69
  go_wp2
  go_loopw [5, 8] (fun _ i wr => ∃ k : Nat, k ≤ l.length ∧ i = .int .i64 k ∧ Hid (Below w.heap.size w wr) ∧ Hid (∀ j (hj : j < l.length), j < k → p l[j] = false)) (fun _ i _ => l.length - (intOf i).toNat)
  case atStart => exact ⟨0, Nat.zero_le _, rfl, Below.refl _ _, fun _ _ h => absurd h (by omega)⟩
  case round =>
    obtain ⟨k, hk, rfl, HB, HA⟩ := hrel
    by_cases hkl : k < l.length
    · have hkl2 : (k : Int) < (l.length : Int) := by omega
      have hne : l ≠ [] := by intro e; rw [e] at hkl; simp at hkl
      obtain ⟨b, off, rfl, hbl, hcs⟩ := (HR.out.below HB.out).im hne
      obtain ⟨r0, r1, r2, r3, r4⟩ := hcs k hkl
      obtain ⟨y, hye⟩ : ∃ y, y = l[k] := ⟨_, rfl⟩
      rw [← hye] at r0 r1 r2 r3 r4
      have HC := Hid.mk2 (HF.out y (by rw [hye]; exact List.getElem_mem hkl))
      obtain ⟨Y, hY⟩ : ∃ Y, Y = p y := ⟨_, rfl⟩
      rw [← hY] at HC
      cases Y
      · have HA2 : Hid (∀ j (hj : j < l.length), j < k + 1 → p l[j] = false) := by
          intro j hj hjk
          by_cases e : j = k
          · subst e; rw [← hye, ← hY]
          · exact HA.out j hj (by omega)
        clear HA hcs hne hye hY HF
        obtain ⟨yk, yv, yf, yt, yu⟩ := y
        dsimp only at *
        go_wp2_with (go_at_fn g; refine (HC.out _).mono ?_; rintro e w1 ⟨rfl, hb1⟩)
        go_roundw
        case rel => exact ⟨k + 1, by omega, by go_num, g_on HB.out hb1, HA2⟩
        case measure => simp [intOf]; omega
      · have e := HH.out k hkl (by rw [← hye, ← hY]) HA.out
        subst e
        clear HH HM HA hcs hne hye hY HF
        obtain ⟨yk, yv, yf, yt, yu⟩ := y
        dsimp only at *
        go_wp2_with (go_at_fn g; refine (HC.out _).mono ?_; rintro e w1 ⟨rfl, hb1⟩)
        go_ret
        exact ⟨rfl, g_on HB.out hb1⟩
    · have e := HM.out (fun j hj => HA.out j hj (by omega))
      subst e
      have hkl2 : ¬ (k : Int) < (l.length : Int) := by omega
      clear HH HM HA HF
      go_wp2
      go_ret
      exact ⟨rfl, HB.out⟩
theorem containsM_mem (g : Nat) (p : Im → Bool) (eg : ∀ args w, (callFunc g args).run Tryd.prog w = .ok (.enter g args) w) (l : List Im) (hf : ∀ x ∈ l, ∀ w, Calls Tryd.prog g #[.agg #[.string x.key, .string x.value, .int .u32 x.flags, .int .i64 x.till, .int .u64 x.unique]] w fun e w' => e = .returned (.bool (p x)) ∧ Below w.heap.size w w') (ao : Option Addr) (cap : Nat) (w : World) (h : GRd EM w ao l cap) :
    Calls Tryd.prog 44 #[.slice ao l.length cap, .func (.func g) #[] #[]] w fun e w' => e = .returned (.bool (l.any p)) ∧ Below w.heap.size w w' := by
  have HI := Hid.mk2 (indexM_mem g p eg l hf ao cap w h)
  rw [← ixG_any]
  obtain ⟨R, hR⟩ : ∃ R, R = ixG p l := ⟨_, rfl⟩
  rw [← hR] at HI ⊢
  clear hR h
  go_enter Tryd.func44, Tryd.ntmps44
  go_wp2_with (go_at_call 69; refine HI.out.mono ?_; rintro e w1 ⟨rfl, hb1⟩)
  go_ret
  exact ⟨rfl, hb1⟩



theorem any_seen (L : List Im) : (L.any fun x => !seen x.key) = !(L.all fun x => seen x.key) := by
  induction L with
  | nil => rfl
  | cons a t ih => rw [List.any_cons, List.all_cons, ih]; cases seen a.key <;> simp
set_option maxHeartbeats 2000000 in
theorem whasLines_any (a : An) (io : Option Addr) (ic : Nat) (w : World) (hi : GRd EM w io a.items ic) (hk : a.key.size ≤ maxLen) (hs : ∀ x ∈ a.items, x.key.size ≤ maxLen) : Calls Tryd.prog 23 #[.agg (a.arr (.slice io a.items.length ic))] w fun e w' => e = .returned (.bool a.hasL) ∧ Below w.heap.size w w' := by
  obtain ⟨W, hW⟩ : ∃ W, W = w.alloc (.cells (a.arr (.slice io a.items.length ic)) 27) := ⟨_, rfl⟩
  have HB : Hid (Below w.heap.size w W) := by rw [hW]; exact g_alloc _ _
  have HX : Hid (GBx W w.heap.size (a.cl (.slice io a.items.length ic))) := by rw [hW]; exact GBx.made w (a.cl _) _
  have HS := Hid.mk2 (fun V => wisSeen_any a.key hk V)
  have HC := Hid.mk2 (fun V (hV : Below w.heap.size w V) => containsM_mem 45 (fun x => !seen x.key) wputSeen_en a.items (fun x hx V => whasNoLine_any x (hs x hx) V) io ic V (hi.below hV))
  rw [any_seen] at HC
  unfold An.hasL
  obtain ⟨S, hS⟩ : ∃ S, S = seen a.key := ⟨_, rfl⟩
  obtain ⟨C, hC⟩ : ∃ C, C = a.items.all fun x => seen x.key := ⟨_, rfl⟩
  rw [← hS] at HS ⊢
  rw [← hC] at HC ⊢
  clear hS hC hi hs hk
  obtain ⟨kind, of_, rk, L, num, yes, key⟩ := a
  unfold An.arr at *
  unfold An.cl at HX
  dsimp only at *
  have x2 := HX.out.c 2 (by simp)
  have x3 := HX.out.c 3 (by simp)
  have x6 := HX.out.c 6 (by simp)
  simp only [List.getElem_cons_zero, List.getElem_cons_succ] at x2 x3 x6
  have xlt := HX.out.lt
  obtain ⟨N, hN⟩ : ∃ N, N = L.length := ⟨_, rfl⟩
  rw [← hN] at HC x3 hW ⊢
  clear hN HX
  go_enter Tryd.func23, Tryd.ntmps23
  go_upto_region 1 with (fail)
  rw [← hW]
  clear hW
  cases S <;> cases C
  all_goals
    go_wp2_with (first
      | (go_at_call 43; refine (HS.out _).mono ?_; rintro e w1 ⟨rfl, hb⟩; have HB1 := Hid.mk2 (g_on HB.out hb); have y3 := (hb.cell (p := ⟨w.heap.size, 3, none⟩) xlt).trans x3; clear hb)
      | (go_at_call 44; refine (HC.out _ HB1.out).mono ?_; rintro e w2 ⟨rfl, hb⟩; have HB2 := Hid.mk2 (g_on HB1.out hb); clear hb))
    all_goals go_ret
    all_goals exact ⟨by first | rfl | simp, by first | exact HB2.out | exact HB1.out⟩

/-- what Write answers -/
structure WrR (w w' : World) (a : An) (e : Ending) : Prop where
  ex : ∃ (ao : Option Addr) (cap : Nat), e = .returned (.tuple #[.slice ao a.wr.length cap, .int .i64 a.wrE]) ∧ GRd EY w' ao a.wr cap
  below : Below w.heap.size w w'
theorem WrR.bad {w w' : World} {a : An} (h : a.wrE = 8) (hb : Below w.heap.size w w') : WrR w w' a (.returned (.tuple #[.slice none 0 0, .int .i64 8])) := by
  have h2 : a.wr = [] := by unfold An.wr; rw [if_neg (by omega)]
  exact ⟨⟨none, 0, by rw [h, h2]; rfl, by rw [h2]; exact GRd.nil _⟩, hb⟩
theorem Bu.fresh (w : World) : Bu (w.alloc (.cells #[.pointer none, .slice none 0 0] 58)) w.heap.size w.heap.size [] :=
  .inl ⟨Nat.le_refl _, _, blk_new _ _, World.ownsRowF_nil _ _ _ _, by simp [Value.ownBlock]⟩
theorem GBx.belowB {w w' : World} {b B : Nat} {vs : List Value} (h : GBx w b vs) (hb : Below B w w') (hB : b < B) : GBx w' b vs := by
  have e : w'.heap[b]? = w.heap[b]? := hb.block b hB
  exact ⟨Nat.lt_of_lt_of_le h.lt hb.size, fun j => (World.frozen?_of_block (a := ⟨b, j, none⟩) e).trans (h.f j), fun j hj => (World.cell?_of_block (a := ⟨b, j, none⟩) e).trans (h.c j hj)⟩
theorem LnR.sx {w w' : World} {b : Nat} {ws : List ByteArray} {g : Nat} {cur : Array Value} (hg : w.heap.size ≤ g) (hb : b < w.heap.size) (h : w'.heap[g]? = some (.cells cur 9 (0, 0))) (hc : ∀ i (hi : i < ws.length), cur[i]? = some (.string ws[i])) : Sx w' b (some ⟨g, 0, none⟩) ws :=
  .inr ⟨g, cur, (0, 0), rfl, by omega, h, hc⟩
theorem items_ok {a : An} (hm : a.may = true) (hl : a.hasL = true) (hf : a.Fit) : (∀ x ∈ a.items, x.ok) ∧ a.items.length ≤ 8 ∧ a.lineOk := by
  unfold An.hasL at hl
  simp only [Bool.and_eq_true] at hl
  have hs := List.all_eq_true.1 hl.2
  have hn0 := hf.n0
  have hn1 := hf.n1
  unfold An.may at hm
  by_cases k1 : a.kind = 1
  · rw [if_pos k1] at hm
    simp only [Bool.and_eq_true] at hm
    have hr := hm.1.1
    unfold resOk at hr
    simp only [Bool.and_eq_true, decide_eq_true_eq, Bool.not_eq_true'] at hr
    have hb := List.any_eq_false.1 hr.2
    refine ⟨fun x hx => Im.ok_of (by have := hb x hx; simpa using this) (hs x hx) (hf.it x hx), ?_, ⟨by omega, by omega, fun _ => ⟨by omega, by omega⟩, hn0, hn1⟩⟩
    have h1 := hr.1.1.2
    have h2 : mostI a.of_ ≤ 8 := by unfold mostI; split <;> decide
    split at h1 <;> omega
  · rw [if_neg k1] at hm
    have key : a.items = [] ∧ 1 ≤ a.kind ∧ a.kind ≤ 7 := by
      by_cases k23 : a.kind = 2 ∨ a.kind = 3
      · rw [if_pos k23] at hm
        simp only [Bool.and_eq_true] at hm
        exact ⟨(noRes_parts hm.1).2.2.1, by omega, by omega⟩
      rw [if_neg k23] at hm
      by_cases k7 : a.kind = 7
      · rw [if_pos k7] at hm
        simp only [Bool.and_eq_true] at hm
        exact ⟨(noRes_parts hm.1.2).2.2.1, by omega, by omega⟩
      rw [if_neg k7] at hm
      by_cases k456 : a.kind = 4 ∨ a.kind = 5 ∨ a.kind = 6
      · rw [if_pos k456] at hm
        simp only [Bool.and_eq_true] at hm
        exact ⟨(noRes_parts hm.1.1).2.2.1, by omega, by omega⟩
      rw [if_neg k456] at hm
      cases hm
    refine ⟨fun x hx => (by rw [key.1] at hx; cases hx), (by rw [key.1]; simp), ⟨key.2.1, key.2.2, fun h => absurd h k1, hn0, hn1⟩⟩
theorem lines_len {x : Im} (h : x.ok) : x.lines.length ≤ 1100 := by
  have h1 := h.wl.fine.1
  unfold Im.lines
  simp only [List.length_append, List.length_cons, List.length_nil, bl_len]
  have := h.val
  omega
theorem flat_len : ∀ L : List Im, (∀ x ∈ L, x.ok) → (L.flatMap Im.lines).length ≤ L.length * 1100
  | [], _ => by simp
  | a :: t, h => by
    have h1 := lines_len (h a (by simp))
    have h2 := flat_len t (fun x hx => h x (by simp [hx]))
    rw [List.flatMap_cons, List.length_append, List.length_cons, Nat.add_mul]
    omega

set_option maxHeartbeats 4000000 in
theorem wWrite_any (a : An) (io : Option Addr) (ic : Nat) (w : World) (hi : GRd EM w io a.items ic) (hk : a.key.size ≤ maxLen) (hs : ∀ x ∈ a.items, x.key.size ≤ maxLen) (hf : a.Fit) (ht : Tab w) (hr : Rt w) :
    Calls Tryd.prog 10 #[.agg (a.arr (.slice io a.items.length ic))] w fun e w' => WrR w w' a e := by
  obtain ⟨W, hW⟩ : ∃ W, W = w.alloc (.cells (a.arr (.slice io a.items.length ic)) 27) := ⟨_, rfl⟩
  have HB : Hid (Below w.heap.size w W) := by rw [hW]; exact g_alloc _ _
  have HX : Hid (GBx W w.heap.size (a.cl (.slice io a.items.length ic))) := by rw [hW]; exact GBx.made w (a.cl _) _
  have HC := Hid.mk2 (fun V (hV : Below w.heap.size w V) => wCheck_any a io ic V (hi.below hV) hk)
  have HH := Hid.mk2 (fun V (hV : Below w.heap.size w V) => whasLines_any a io ic V (hi.below hV) hk hs)
  have HI := Hid.mk2 (fun V (hV : Below w.heap.size w V) => hi.below hV)
  have HWE : Hid (a.wrE = if a.may = true ∧ a.hasL = true then 0 else 8) := rfl
  have HGO := Hid.mk2 (fun h1 h2 => items_ok (a := a) h1 h2 hf)
  have HLL := Hid.mk2 (fun V (hV : Below w.heap.size w V) n m (h : a.lineOk) => wlastLine_any a io n m V (ht.below hV) (hr.below hV) h)
  have HT := Hid.mk2 (fun V (hV : Below w.heap.size w V) => ht.below hV)
  have HLO := Hid.mk2 (fun h => last_ok (a := a) h hf)
  have HWR := Hid.mk2 (fun w' (h : a.wrE = 8) hb => WrR.bad (w := w) (w' := w') h hb)
  obtain ⟨MB, hMB⟩ : ∃ M, M = a.may := ⟨_, rfl⟩
  obtain ⟨LB, hLB⟩ : ∃ M, M = a.hasL := ⟨_, rfl⟩
  rw [← hMB] at HC HWE HGO
  rw [← hLB] at HH HWE HGO
  clear hMB hLB hi hk hs hf ht hr
  have hcl : a.cl (.slice io a.items.length ic) = [.int .u8 a.kind, .int .u8 a.of_, .int .u8 a.rk, .slice io a.items.length ic, .int .u64 a.num, .bool a.yes, .string a.key] := rfl
  have har : a.arr (.slice io a.items.length ic) = #[.int .u8 a.kind, .int .u8 a.of_, .int .u8 a.rk, .slice io a.items.length ic, .int .u64 a.num, .bool a.yes, .string a.key] := rfl
  rw [hcl] at HX
  rw [har] at hW HC HH ⊢
  have HLL2 : Hid (∀ V, Below w.heap.size w V → a.lineOk → Calls Tryd.prog 26 #[.agg #[.int .u8 a.kind, .int .u8 a.of_, .int .u8 a.rk, .slice io a.items.length ic, .int .u64 a.num, .bool a.yes, .string a.key]] V fun e w' => LnR V w' a.last e) := fun V hV h => HLL.out V hV _ _ h
  clear HLL hcl har
  obtain ⟨N, hN⟩ : ∃ N, N = a.items.length := ⟨_, rfl⟩
  rw [← hN] at HX hW HC HH HLL2 ⊢
  have HN := Hid.mk2 hN
  obtain ⟨A0, hA0⟩ : ∃ x, x = a.kind := ⟨_, rfl⟩
  obtain ⟨A1, hA1⟩ : ∃ x, x = a.of_ := ⟨_, rfl⟩
  obtain ⟨A2, hA2⟩ : ∃ x, x = a.rk := ⟨_, rfl⟩
  obtain ⟨A4, hA4⟩ : ∃ x, x = a.num := ⟨_, rfl⟩
  obtain ⟨A5, hA5⟩ : ∃ x, x = a.yes := ⟨_, rfl⟩
  obtain ⟨A6, hA6⟩ : ∃ x, x = a.key := ⟨_, rfl⟩
  rw [← hA0, ← hA1, ← hA2, ← hA4, ← hA5, ← hA6] at HX hW HC HH HLL2
  rw [← hA0, ← hA1, ← hA2, ← hA4, ← hA5, ← hA6]
  clear hN hA0 hA1 hA2 hA4 hA5 hA6
  have x0 := HX.out.c 0 (by simp)
  have x1 := HX.out.c 1 (by simp)
  have x2 := HX.out.c 2 (by simp)
  have x3 := HX.out.c 3 (by simp)
  have x4 := HX.out.c 4 (by simp)
  have x5 := HX.out.c 5 (by simp)
  have x6 := HX.out.c 6 (by simp)
  simp only [List.getElem_cons_zero, List.getElem_cons_succ] at x0 x1 x2 x3 x4 x5 x6
  go_enter Tryd.func10, Tryd.ntmps10
  go_upto_region 1 with (fail)
  rw [← hW]
  clear hW
  cases MB with
  | false =>
    have HE : Hid (a.wrE = 8) := HWE.out.trans (if_neg (by simp))
    clear HWE HGO
    go_wp2_with (go_at_call 14; refine (HC.out _ HB.out).mono ?_; rintro e w1 ⟨rfl, hb⟩; have HB1 := Hid.mk2 (g_on HB.out hb); clear hb)
    refine bodyPost_ret (results_tmp2 rfl _ _ _) rfl ?_
    exact HWR.out _ HE.out HB1.out
  | true =>
    cases LB with
    | false =>
      have HE : Hid (a.wrE = 8) := HWE.out.trans (if_neg (by simp))
      clear HWE HGO
      go_wp2_with (first
        | (go_at_call 23; refine (HH.out _ HB1.out).mono ?_; rintro e w2 ⟨rfl, hb⟩; have HB2 := Hid.mk2 (g_on HB1.out hb); clear hb)
        | (go_at_call 14; refine (HC.out _ HB.out).mono ?_; rintro e w1 ⟨rfl, hb⟩; have HB1 := Hid.mk2 (g_on HB.out hb); have HX1 := Hid.mk2 (HX.out.below hb); have y0 := HX1.out.c 0 (by simp); have y1 := HX1.out.c 1 (by simp); have y2 := HX1.out.c 2 (by simp); have y3 := HX1.out.c 3 (by simp); have y4 := HX1.out.c 4 (by simp); have y5 := HX1.out.c 5 (by simp); have y6 := HX1.out.c 6 (by simp); simp only [List.getElem_cons_zero, List.getElem_cons_succ] at y0 y1 y2 y3 y4 y5 y6; clear hb))
      refine bodyPost_ret (results_tmp2 rfl _ _ _) rfl ?_
      exact HWR.out _ HE.out HB2.out
    | true =>
      have HE : Hid (a.wrE = 0) := HWE.out.trans (if_pos ⟨rfl, rfl⟩)
      have HG := Hid.mk2 (HGO.out rfl rfl)
      have hN8 : (N : Int) ≤ 8 := by have := HG.out.2.1; have := HN.out; omega
      clear HWE HGO HWR
      go_upto_region 6 with (first
        | (go_at_call 23; refine (HH.out _ HB1.out).mono ?_; rintro e w2 ⟨rfl, hb⟩; have HB2 := Hid.mk2 (g_on HB1.out hb); have HX2 := Hid.mk2 (HX1.out.below hb); clear hb)
        | (go_at_call 14; refine (HC.out _ HB.out).mono ?_; rintro e w1 ⟨rfl, hb⟩; have HB1 := Hid.mk2 (g_on HB.out hb); have HX1 := Hid.mk2 (HX.out.below hb); have y0 := HX1.out.c 0 (by simp); have y1 := HX1.out.c 1 (by simp); have y2 := HX1.out.c 2 (by simp); have y3 := HX1.out.c 3 (by simp); have y4 := HX1.out.c 4 (by simp); have y5 := HX1.out.c 5 (by simp); have y6 := HX1.out.c 6 (by simp); simp only [List.getElem_cons_zero, List.getElem_cons_succ] at y0 y1 y2 y3 y4 y5 y6; clear hb))
      go_upto_region 7 with (fail)
      obtain ⟨W3, hW3⟩ : ∃ W3, W3 = w2.alloc (.cells #[.pointer none, .slice none 0 0] 58) := ⟨_, rfl⟩
      have HU3 : Hid (Bu W3 w2.heap.size w2.heap.size []) := by rw [hW3]; exact Bu.fresh w2
      have hb3 : Below w2.heap.size w2 W3 := by rw [hW3]; exact g_alloc _ _
      have HB3 := Hid.mk2 (g_on HB2.out hb3)
      have HX3 := Hid.mk2 (HX2.out.below hb3)
      have HBS : Hid (w.heap.size < w2.heap.size ∧ w2.heap.size ≤ W3.heap.size) := ⟨HX2.out.lt, hb3.size⟩
      rw [← hW3]
      obtain ⟨b, hb⟩ : ∃ b, b = w2.heap.size := ⟨_, rfl⟩
      rw [← hb] at HU3 HBS ⊢
      clear hW3 hb3 hb y0 y1 y2 y3 y4 y5 y6 HB2 HX2 HH HC
      have z3 := HX3.out.c 3 (by simp)
      simp only [List.getElem_cons_zero, List.getElem_cons_succ] at z3
      have HPI := Hid.mk2 (fun V l x (hx : x.ok) ht h hb hl => putItem_any V b b l x hx ht h hb hl)
      have HPL := Hid.mk2 (fun V l ws ao cap h hb hx hl m hm hm2 => putLine_any V b b l ws ao cap h hb hx hl m hm hm2)
      go_wp2
      go_loopw [7, 20] (fun _ i wr => ∃ k : Nat, k ≤ N ∧ i = .int .i64 k ∧ Hid (Below b W3 wr) ∧ Hid (Bu wr b b ((a.items.take k).flatMap Im.lines))) (fun _ i _ => N - (intOf i).toNat)
      case atStart => exact ⟨0, Nat.zero_le _, rfl, Below.refl _ _, HU3.out⟩
      case round =>
        obtain ⟨k, hk, rfl, HB4, HU4⟩ := hrel
        have HB5 : Hid (Below w.heap.size w wr) := HB3.out.trans (HB4.out.mono (Nat.le_of_lt HBS.out.1))
        have HSZ : Hid (b ≤ wr.heap.size) := Nat.le_trans HBS.out.2 HB4.out.size
        by_cases hkl : k < N
        · have hkl2 : (k : Int) < (N : Int) := by omega
          have hki : k < a.items.length := by rw [← HN.out]; exact hkl
          have hne : a.items ≠ [] := by intro e; rw [e] at hki; simp at hki
          obtain ⟨g, off, rfl, hbl, hcs⟩ := (HI.out wr HB5.out).im hne
          obtain ⟨r0, r1, r2, r3, r4⟩ := hcs k hki
          have HOK := Hid.mk2 (HG.out.1 a.items[k] (List.getElem_mem hki))
          have HF1 : Hid ((a.items.take (k + 1)).flatMap Im.lines = (a.items.take k).flatMap Im.lines ++ (a.items[k]).lines) := by
            show _ = _
            rw [← List.take_append_getElem hki, List.flatMap_append, List.flatMap_cons, List.flatMap_nil, List.append_nil]
          have HF2 : Hid (((a.items.take k).flatMap Im.lines).length ≤ 8 * 1100) := by
            show _ ≤ _
            have h1 := flat_len (a.items.take k) (fun x hx => HG.out.1 x (List.mem_of_mem_take hx))
            have h2 : (a.items.take k).length ≤ 8 := by rw [List.length_take]; have := HG.out.2.1; omega
            exact Nat.le_trans h1 (Nat.mul_le_mul_right _ h2)
          obtain ⟨y, hye⟩ : ∃ y, y = a.items[k] := ⟨_, rfl⟩
          rw [← hye] at r0 r1 r2 r3 r4 HOK HF1
          have HF3 := Hid.mk2 (lines_len HOK.out)
          clear hye hcs hne hki
          obtain ⟨yk, yv, yf, yt, yu⟩ := y
          dsimp only at r0 r1 r2 r3 r4
          go_upto_region 10 with (fail)
          obtain ⟨W5, hW5⟩ : ∃ W5, W5 = wr.alloc (.cells #[.string yk, .string yv, .int .u32 yf, .int .i64 yt, .int .u64 yu] 53) := ⟨_, rfl⟩
          have hb5 : Below wr.heap.size wr W5 := by rw [hW5]; exact g_alloc _ _
          have HY5 : Hid (GBx W5 wr.heap.size [.string yk, .string yv, .int .u32 yf, .int .i64 yt, .int .u64 yu]) := by rw [hW5]; exact GBx.made wr [.string yk, .string yv, .int .u32 yf, .int .i64 yt, .int .u64 yu] _
          have HU5 := Hid.mk2 (HU4.out.below hb5)
          have HT5 := Hid.mk2 (HT.out W5 (g_on HB5.out hb5))
          have HB6 : Hid (Below b W3 W5) := HB4.out.trans (hb5.mono HSZ.out)
          have HSZ5 : Hid (b ≤ W5.heap.size) := Nat.le_trans HSZ.out hb5.size
          rw [← hW5]
          obtain ⟨Y, hY⟩ : ∃ Y, Y = wr.heap.size := ⟨_, rfl⟩
          rw [← hY] at HY5 ⊢
          clear hW5 hb5 hY r0 r1 r2 r3 r4
          have y0 := HY5.out.c 0 (by simp)
          have y1 := HY5.out.c 1 (by simp)
          have y2 := HY5.out.c 2 (by simp)
          have y3 := HY5.out.c 3 (by simp)
          have y4 := HY5.out.c 4 (by simp)
          simp only [List.getElem_cons_zero, List.getElem_cons_succ] at y0 y1 y2 y3 y4
          go_wp2_with (go_at_call 24; refine (HPI.out W5 _ (Im.mk yk yv yf yt yu) HOK.out HT5.out HU5.out HSZ5.out (by have := HF2.out; have := HF3.out; omega)).mono ?_; rintro e w6 ⟨rfl, hu6, hb6, ho6⟩; have HU6 := Hid.mk2 hu6; have HB7 := Hid.mk2 (HB6.out.trans hb6); clear hu6 hb6 ho6)
          go_roundw
          case rel => exact ⟨k + 1, by omega, by go_num, HB7, by rw [HF1.out]; exact HU6.out⟩
          case measure => simp [intOf]; omega
        · have hkl2 : ¬ (k : Int) < (N : Int) := by omega
          have HF1 : Hid ((a.items.take k).flatMap Im.lines = a.items.flatMap Im.lines) := by
            show _ = _
            rw [List.take_of_length_le (by rw [← HN.out]; omega)]
          have HF2 : Hid ((a.items.flatMap Im.lines).length ≤ 8 * 1100) := Nat.le_trans (flat_len a.items HG.out.1) (Nat.mul_le_mul_right _ HG.out.2.1)
          have HX4 := Hid.mk2 (HX3.out.belowB HB4.out HBS.out.1)
          have HL1 : Hid ((joinW a.last).length ≤ 512 ∧ a.last.length ≤ 13) := ⟨(HLO.out HE.out).wl.fine.1, (HLO.out HE.out).wl.many⟩
          have HWRL : Hid (a.wr = a.items.flatMap Im.lines ++ (joinW a.last ++ [13, 10])) := by
            show _ = _
            unfold An.wr An.lines
            rw [if_pos HE.out]
          have HLN : Hid (a.wr.length ≤ 9400) := by
            show _ ≤ _
            rw [HWRL.out]
            have h1 := HL1.out.1
            have h2 := HF2.out
            simp only [List.length_append, List.length_cons, List.length_nil]
            omega
          have HLK := Hid.mk2 HG.out.2.2
          have HEE := Hid.mk2 HE.out
          have y0 := HX4.out.c 0 (by simp)
          have y1 := HX4.out.c 1 (by simp)
          have y2 := HX4.out.c 2 (by simp)
          have y3 := HX4.out.c 3 (by simp)
          have y4 := HX4.out.c 4 (by simp)
          have y5 := HX4.out.c 5 (by simp)
          have y6 := HX4.out.c 6 (by simp)
          simp only [List.getElem_cons_zero, List.getElem_cons_succ] at y0 y1 y2 y3 y4 y5 y6
          have hsz := HSZ.out
          have hub : b < wr.heap.size := HU4.out.lt.2
          obtain ⟨LS, hLS⟩ : ∃ LS, LS = a.last := ⟨_, rfl⟩
          rw [← hLS] at HLL2 HL1 HWRL
          obtain ⟨LN, hLN⟩ : ∃ n, n = LS.length := ⟨_, rfl⟩
          have HLNE := Hid.mk2 hLN
          have hLN2 : LN ≤ 13 := by rw [hLN]; exact HL1.out.2
          clear hLS hLN
          have HSR := Hid.mk2 (fun V l h hb => bstr_any V b b l h hb)
          have hcv := conv_str (mkB a.wr)
          obtain ⟨SB, hSB⟩ : ∃ SB, SB = mkB a.wr := ⟨_, rfl⟩
          have HSB := Hid.mk2 hSB
          rw [← hSB] at hcv
          clear hSB
          go_upto_region 13 with (first
            | (go_at_call 26; refine (HLL2.out _ HB5.out HLK.out).mono ?_; rintro e w6 ⟨⟨g, cap, cur, rfl, hg, hc1, hc2⟩, hb6⟩; rw [← HLNE.out]; have HS6 := Hid.mk2 (LnR.sx hg hub hc1 hc2); have HB6 := Hid.mk2 (g_on HB5.out hb6); have HU6 := Hid.mk2 (HU4.out.below hb6); have HSZ6 : Hid (b ≤ w6.heap.size) := Nat.le_trans HSZ.out hb6.size; clear hg hc1 hc2 hb6)
            | (go_at_call 25; refine (HPL.out _ _ LS _ _ HU6.out HSZ6.out HS6.out (by have := HL1.out.1; rw [HF1.out]; have := HF2.out; omega) _ HLNE.out (by omega)).mono ?_; rintro e w7 ⟨rfl, hu7, hb7, ho7⟩; rw [HF1.out, ← HWRL.out] at hu7; have HU7 := Hid.mk2 hu7; have HB7 : Hid (Below w.heap.size w w7) := HB6.out.trans (hb7.mono (Nat.le_of_lt HBS.out.1)); have HSZ7 : Hid (b ≤ w7.heap.size) := Nat.le_trans HSZ6.out hb7.size; clear hu7 hb7 ho7))
          go_wp2_with (fail)
          go_at_call 27
          refine (HSR.out _ _ HU7.out HSZ7.out).mono ?_
          rintro e w8 ⟨rfl, hu8, hb8, ho8⟩
          rw [← HSB.out]
          have HB8 : Hid (Below w.heap.size w w8) := HB7.out.trans (hb8.mono (Nat.le_of_lt HBS.out.1))
          clear hu8 hb8 ho8
          go_wp2
          refine bodyPost_ret (results_tmp2 rfl _ _ _) rfl ?_
          have HSZZ : SB.size = a.wr.length := by rw [← bl_len, HSB.out, bl_mkB]
          refine ⟨⟨some ⟨w8.heap.size, 0, none⟩, capS w8 SB, by rw [HEE.out, ← HSZZ]; rfl, ?_⟩, g_on HB8.out (bsW_below _ _)⟩
          have := bsW_rd w8 SB (by rw [HSZZ]; have := HLN.out; have e : maxLen = 9223372036854775807 := rfl; omega)
          rw [HSB.out, bl_mkB, ← HSB.out] at this
          exact this
end Go.Proofs.YtfmpbddhejpjaaaDoor
