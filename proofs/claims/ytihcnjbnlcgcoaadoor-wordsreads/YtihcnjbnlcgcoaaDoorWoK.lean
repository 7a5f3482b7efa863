/-
  cutItem of package words.
-/
import Derived.Test.YtihcnjbnlcgcoaaDoorWoJ
namespace Go.Proofs.YtihcnjbnlcgcoaaDoor
open Go.Proofs.YtihcnjbnlcgcoaaDoor.It
open Go.RowKit
set_option linter.unusedSimpArgs false
set_option linter.unusedVariables false
set_option maxRecDepth 100000

def Im.cl (x : Im) : List Value := [.string x.key, .string x.value, .int .u32 x.flags, .int .i64 x.till, .int .u64 x.unique]
def Im.ar (x : Im) : Array Value := #[.string x.key, .string x.value, .int .u32 x.flags, .int .i64 x.till, .int .u64 x.unique]
theorem itemW_le {ws : List ByteArray} {x : Im} {k : Nat} (h : itemW ws = some (x, k)) : k ≤ 512 ∧ x.value = ⟨#[]⟩ := by
  match ws, h with
  | [a, f, t, u, v], h =>
    have h : (if wordOk a 32 = true ∧ numU 4294967295 f = true ∧ numU 1099511627776 t = true ∧ numU 18446744073709551615 u = true ∧ numU 512 v = true then some ((⟨a, ⟨#[]⟩, (numV (bl f) : Int), (numV (bl t) : Int), (numV (bl u) : Int)⟩ : Im), numV (bl v)) else none) = some (x, k) := h
    by_cases hc : wordOk a 32 = true ∧ numU 4294967295 f = true ∧ numU 1099511627776 t = true ∧ numU 18446744073709551615 u = true ∧ numU 512 v = true
    · rw [if_pos hc] at h
      have h5 := hc.2.2.2.2
      simp only [Option.some.injEq, Prod.mk.injEq] at h
      obtain ⟨rfl, rfl⟩ := h
      unfold numU at h5
      simp at h5
      exact ⟨h5.2, rfl⟩
    · rw [if_neg hc] at h; cases h
theorem mid_rd {V : World} {b off cap : Nat} {L : List UInt8} (h : GRd EY V (some ⟨b, off, none⟩) L cap) (i n : Nat) (hn : i + n ≤ L.length) (c : Nat) (hc : n ≤ c) (hcc : c ≤ 9223372036854775807) : GRd EY V (some ⟨b, off + i, none⟩) ((L.drop i).take n) c := by
  have hl : ((L.drop i).take n).length = n := by rw [List.length_take, List.length_drop]; omega
  refine ⟨by rw [hl]; exact hc, hcc, (fun e => by cases e), ?_⟩
  by_cases hne : (L.drop i).take n = []
  · exact .inl hne
  · have hn0 : 0 < n := by
      rcases Nat.eq_zero_or_pos n with e | e
      · rw [e] at hne; simp at hne
      · exact e
    have hL : L ≠ [] := by intro e; rw [e] at hn; simp at hn; omega
    obtain ⟨b', off', e, hb, hcc2⟩ := h.lies hL
    cases e
    refine .inr ⟨b, off + i, rfl, hb, fun j hj j2 hj2 => ?_⟩
    rw [hl] at hj
    have h2 := hcc2 (i + j) (by omega) j2 hj2
    have e : off + i + j * EY.sz + j2 = off + (i + j) * EY.sz + j2 := by show off + i + j * 1 + j2 = off + (i + j) * 1 + j2; omega
    rw [e, h2, List.getElem_take, List.getElem_drop]

theorem zset {w : World} {b : Nat} {vs : List Value} (h : GBx w b vs) (hl : vs.length = 5) (a0 a1 a2 a3 a4 : Value) : GBx (((((w.setCell ⟨b, 0, none⟩ a0).setCell ⟨b, 1, none⟩ a1).setCell ⟨b, 2, none⟩ a2).setCell ⟨b, 3, none⟩ a3).setCell ⟨b, 4, none⟩ a4) b [a0, a1, a2, a3, a4] := by
  match vs, hl with
  | [_, _, _, _, _], _ => exact ((((h.set 0 a0 (by simp)).set 1 a1 (by simp)).set 2 a2 (by simp)).set 3 a3 (by simp)).set 4 a4 (by simp)
theorem zbelow {n b : Nat} {w W : World} (h : Below n w W) (hb : n ≤ b) (a0 a1 a2 a3 a4 : Value) : Below n w (((((W.setCell ⟨b, 0, none⟩ a0).setCell ⟨b, 1, none⟩ a1).setCell ⟨b, 2, none⟩ a2).setCell ⟨b, 3, none⟩ a3).setCell ⟨b, 4, none⟩ a4) :=
  ((((h.setCell (p := ⟨b, 0, none⟩) hb a0).setCell (p := ⟨b, 1, none⟩) hb a1).setCell (p := ⟨b, 2, none⟩) hb a2).setCell (p := ⟨b, 3, none⟩) hb a3).setCell (p := ⟨b, 4, none⟩) hb a4
/-- what cutItem answers -/
def CutI (w w' : World) (c : Im × Nat × Int) (e : Ending) : Prop := e = .returned (.tuple #[.agg c.1.ar, .int .i64 (c.2.1 : Int), .int .i64 c.2.2]) ∧ Below w.heap.size w w'
theorem tail_rd {V : World} {g : Nat} {L : List ByteArray} (h : GRd ES V (some ⟨g, 0, none⟩) L L.length) (hne : L ≠ []) : GRd ES V (if L.length = 1 then some ⟨g, 0, none⟩ else some ⟨g, 1, none⟩) L.tail (L.length - 1) := by
  have h0 : 0 < L.length := by cases L with | nil => exact absurd rfl hne | cons a t => simp
  refine ⟨by simp, Nat.le_trans (Nat.sub_le _ _) h.hc, (fun e => by split at e <;> cases e), ?_⟩
  by_cases h1 : L.length = 1
  · left
    have : L.tail.length = 0 := by simp; omega
    exact List.eq_nil_of_length_eq_zero this
  · rw [if_neg h1]
    obtain ⟨b', off', e, hb, hc⟩ := h.lies hne
    cases e
    refine .inr ⟨g, 1, rfl, hb, fun i hi j hj => ?_⟩
    have hi2 : i + 1 < L.length := by rw [List.length_tail] at hi; omega
    have h2 := hc (i + 1) hi2 j hj
    have e : 1 + i * ES.sz + j = 0 + (i + 1) * ES.sz + j := by show 1 + i * 1 + j = 0 + (i + 1) * 1 + j; omega
    rw [e, h2, List.getElem_tail]

set_option maxHeartbeats 2000000 in
theorem cutItem_any (s : ByteArray) (hs : s.size ≤ 600) (V : World) (hg : Gw V) (bo : Option Addr) (B : List UInt8) (bcap : Nat) (hr : GRd EY V bo B bcap) (hB : B.length ≤ 20000) (m : Nat) (hm : m = B.length) :
    Calls Tryd.prog 22 #[.string s, .slice bo m bcap] V fun e V' => CutI V V' (cutI (bl s) B) e := by
  obtain ⟨W, hW⟩ : ∃ W, W = V.alloc (.cells #[.string ⟨#[]⟩, .string ⟨#[]⟩, .int .u32 0, .int .i64 0, .int .u64 0] 53) := ⟨_, rfl⟩
  have hB0 : Below V.heap.size V W := by rw [hW]; exact g_alloc _ _
  have HB := Hid.mk2 hB0
  have HX : Hid (GBx W V.heap.size imz.cl) := by rw [hW]; exact GBx.made V imz.cl _
  have HS := Hid.mk2 (wsplit_any s W hs (hg.below hB0))
  have hlen : ∀ x ∈ (lw (bl s)).tail, x.size ≤ maxLen := by
    intro x hx
    have hx2 := List.mem_of_mem_tail hx
    unfold lw at hx2
    obtain ⟨y, hy, rfl⟩ := List.mem_map.1 hx2
    have h1 := wsp_mem_len (bl s) y hy
    rw [bl_len] at h1
    have : (mkB y).size = y.length := by simp [mkB, ByteArray.size]
    have h3 : maxLen = 9223372036854775807 := rfl
    omega
  have hne := lw_ne (bl s)
  have hN1 := wsp_len (bl s)
  have hNl : (lw (bl s)).length ≤ 601 := by unfold lw; rw [List.length_map]; rw [bl_len] at hN1; omega
  have hcut : cutI (bl s) B = match itemW (lw (bl s)).tail with
    | none => (imz, 0, 8)
    | some (x, n) => if B.length < n + 2 then (imz, 0, 0) else if (B.drop n).take 2 = [13, 10] then ({ x with value := mkB (B.take n) }, n + 2, 0) else (imz, 0, 8) := rfl
  obtain ⟨L, hL⟩ : ∃ L, L = lw (bl s) := ⟨_, rfl⟩
  obtain ⟨C, hC⟩ : ∃ C, C = cutI (bl s) B := ⟨_, rfl⟩
  rw [← hL] at HS hlen hne hNl hcut
  rw [← hC] at hcut ⊢
  have HI := Hid.mk2 (fun w ao cap (h : GRd ES w ao L.tail cap) m hm => witemOf_any L.tail ao cap w h hlen m hm)
  have HC := Hid.mk2 hcut
  have HNE := Hid.mk2 hne
  obtain ⟨n, hn⟩ : ∃ n, n = L.length := ⟨_, rfl⟩
  rw [← hn] at HS hNl
  have hn1 : 1 ≤ n := by cases L with | nil => exact absurd rfl hne | cons a t => simp at hn; omega
  have HN := Hid.mk2 hn
  have HR := Hid.mk2 (hr.below hB0)
  have HM := Hid.mk2 hm
  clear hB0 hlen hne hN1 hL hC hn hr hm hcut hg hs
  have x0 := HX.out.c 0 (by simp [Im.cl])
  have xlt := HX.out.lt
  go_enter Tryd.func22, Tryd.ntmps22
  go_upto_region 1 with (fail)
  rw [← hW]
  clear hW
  have HT : Hid (∃ A K, (∀ w1, GRd ES w1 (some ⟨W.heap.size, 0, none⟩) L L.length → GRd ES w1 (some ⟨W.heap.size, A, none⟩) L.tail K) ∧ K = L.tail.length ∧ (n = 1 → A = 0 ∧ K = 0) ∧ (n ≠ 1 → A = 1 ∧ K = n - 1)) := by
    by_cases h1 : n = 1
    · refine ⟨0, 0, fun w1 h => ?_, by rw [List.length_tail, ← HN.out, h1], fun _ => ⟨rfl, rfl⟩, fun h => absurd h1 h⟩
      have := tail_rd h HNE.out
      rw [← HN.out, h1, if_pos rfl] at this
      exact this
    · refine ⟨1, n - 1, fun w1 h => ?_, by rw [List.length_tail, ← HN.out], fun h => absurd h h1, fun _ => ⟨rfl, rfl⟩⟩
      have := tail_rd h HNE.out
      rw [← HN.out, if_neg h1] at this
      exact this
  obtain ⟨A, K, hT, hK, hA1, hA2⟩ := HT.out
  have HTT := Hid.mk2 hT
  have HKK := Hid.mk2 hK
  clear HT hT hK
  go_cut [7, 8, 9] from 11 to 18 (fun s7 s8 s9 wx => ∃ (w2 : World) (x : Im) (nn : Int) (bb : Bool), s7 = .pointer (some ⟨w2.heap.size, 0, none⟩) ∧ s8 = .int .i64 nn ∧ s9 = .bool bb ∧ wx = w2.alloc (.cells x.ar 53) ∧ ((bb = true ∧ ∃ k : Nat, nn = (k : Int) ∧ itemW L.tail = some (x, k)) ∨ (bb = false ∧ itemW L.tail = none)) ∧ Below W.heap.size W w2)
  case first =>
    by_cases h1 : n = 1
    · obtain ⟨rfl, rfl⟩ := hA1 h1
      subst h1
      clear hA2 hA1
      go_wp2_with (first
        | (go_at_call 42; refine HS.out.mono ?_; rintro e w1 ⟨rfl, hr1, hb1⟩; have HR1 := Hid.mk2 (HTT.out w1 (by rw [← HN.out]; exact hr1)); have HB1 := Hid.mk2 hb1; clear hr1 hb1)
        | (go_at_call 41; refine (HI.out w1 _ _ HR1.out _ HKK.out).mono ?_; rintro e w2 ⟨⟨⟨xk, xv, xf, xt, xu⟩, nn, bb, rfl, hb⟩, hb2⟩; have HB2 := Hid.mk2 (g_on HB1.out hb2); have HBB := Hid.mk2 hb; clear hb2 hb))
      go_meet
      case rel => exact ⟨w2, ⟨xk, xv, xf, xt, xu⟩, nn, bb, rfl, rfl, rfl, rfl, HBB.out, HB2.out⟩
    · obtain ⟨rfl, rfl⟩ := hA2 h1
      clear hA1 hA2
      have hni : (1 : Int) ≤ (n : Int) := by omega
      go_wp2_with (first
        | (go_at_call 42; refine HS.out.mono ?_; rintro e w1 ⟨rfl, hr1, hb1⟩; have HR1 := Hid.mk2 (HTT.out w1 (by rw [← HN.out]; exact hr1)); have HB1 := Hid.mk2 hb1; clear hr1 hb1)
        | (go_at_call 41; refine (HI.out w1 _ _ HR1.out _ HKK.out).mono ?_; rintro e w2 ⟨⟨⟨xk, xv, xf, xt, xu⟩, nn, bb, rfl, hb⟩, hb2⟩; have HB2 := Hid.mk2 (g_on HB1.out hb2); have HBB := Hid.mk2 hb; clear hb2 hb))
      go_meet
      case rel => exact ⟨w2, ⟨xk, xv, xf, xt, xu⟩, nn, bb, rfl, rfl, rfl, rfl, HBB.out, HB2.out⟩
  case rest =>
    rename_i hK
    refine hK _ _ ?_
    clear hK hA1 hA2 HI HTT HKK HS x0 xlt
    obtain ⟨w2, x, nn, bb, rfl, rfl, rfl, rfl, hb, hb2⟩ := hcut
    have HX3 : Hid (GBx (w2.alloc (.cells x.ar 53)) V.heap.size imz.cl) := (HX.out.below hb2).alloc _
    have HY3 : Hid (GBx (w2.alloc (.cells x.ar 53)) w2.heap.size x.cl) := GBx.made w2 x.cl _
    have HB3 : Hid (Below V.heap.size V (w2.alloc (.cells x.ar 53))) := g_on HB.out (g_on hb2 (g_alloc _ _))
    have hlt3 : Hid (V.heap.size < w2.heap.size) := Nat.lt_of_lt_of_le HX.out.lt hb2.size
    obtain ⟨W3, hW3⟩ : ∃ W3, W3 = w2.alloc (.cells x.ar 53) := ⟨_, rfl⟩
    rw [← hW3] at HX3 HY3 HB3
    have HR3 := Hid.mk2 (show GRd EY W3 bo B bcap by rw [hW3]; exact (HR.out.below hb2).alloc _)
    rw [← hW3]
    obtain ⟨Y, hY⟩ : ∃ Y, Y = w2.heap.size := ⟨_, rfl⟩
    rw [← hY] at HY3 hlt3 ⊢
    clear hW3 hb2 hY HX HR HB
    have z0 := HX3.out.c 0 (by simp [Im.cl])
    have z1 := HX3.out.c 1 (by simp [Im.cl])
    have z2 := HX3.out.c 2 (by simp [Im.cl])
    have z3 := HX3.out.c 3 (by simp [Im.cl])
    have z4 := HX3.out.c 4 (by simp [Im.cl])
    simp only [Im.cl, imz, List.getElem_cons_zero, List.getElem_cons_succ] at z0 z1 z2 z3 z4
    have zf0 := HX3.out.f 0
    have zf1 := HX3.out.f 1
    have zf2 := HX3.out.f 2
    have zf3 := HX3.out.f 3
    have zf4 := HX3.out.f 4
    have zlt := HX3.out.lt
    rcases hb with ⟨rfl, k, rfl, hit⟩ | ⟨rfl, hit⟩
    case inr =>
      rw [hit] at HC
      clear hit
      go_wp2
      refine bodyPost_ret (res_cell3 rfl rfl (load_var (zset HX3.out rfl _ _ _ _ _) 53 _ Tryd.underlying53 rfl item_info)) rfl ?_
      exact ⟨by rw [HC.out]; rfl, zbelow HB3.out (Nat.le_refl _) _ _ _ _ _⟩
    obtain ⟨hk, hv0⟩ := itemW_le hit
    rw [hit] at HC
    clear hit
    have hki : (k : Int) ≤ 512 := by omega
    have hmi : (m : Int) ≤ 20000 := by have := HM.out; omega
    by_cases h1 : B.length < k + 2
    · have h1i : (m : Int) < (k : Int) + 2 := by have := HM.out; omega
      have HC2 := Hid.mk2 (HC.out.trans (if_pos h1))
      clear h1 HC
      have HC := HC2
      clear HC2
      go_wp2
      refine bodyPost_ret (res_cell3 rfl rfl (load_var (zset HX3.out rfl _ _ _ _ _) 53 _ Tryd.underlying53 rfl item_info)) rfl ?_
      exact ⟨by rw [HC.out]; rfl, zbelow HB3.out (Nat.le_refl _) _ _ _ _ _⟩
    have h1i : ¬ (m : Int) < (k : Int) + 2 := by have := HM.out; omega
    have HC2 := Hid.mk2 (HC.out.trans (if_neg h1))
    clear HC
    have HC := HC2
    clear HC2
    have hBl : k + 2 ≤ B.length := by omega
    obtain ⟨g, off, rfl, hgl, hgc⟩ := HR3.out.uy (by intro e; rw [e] at hBl; simp at hBl)
    have hmb : m ≤ bcap := by rw [HM.out]; exact HR3.out.hl
    have hcap := HR3.out.hc
    have hmk : k + 2 ≤ m := by rw [HM.out]; exact hBl
    have hne1 : ¬ bcap = k := by omega
    have hne0 : ¬ bcap = 0 := by omega
    have i1 : (k : Int) + 2 ≤ (bcap : Int) := by omega
    have i2 : (k : Int) ≤ (k : Int) + 2 := by omega
    have i3 : (k : Int) ≤ (bcap : Int) := by omega
    have HGC := Hid.mk2 hgc
    have hr1 : GRd EY W3 (some ⟨g, off + k, none⟩) ((B.drop k).take 2) (bcap - k) := mid_rd HR3.out k 2 hBl (bcap - k) (by omega) (by omega)
    have hr2 : GRd EY W3 (some ⟨g, off, none⟩) (B.take k) bcap := by
      have := mid_rd HR3.out 0 k (by omega) bcap (by omega) hcap
      simpa using this
    have l1 : ((B.drop k).take 2).length = 2 := by rw [List.length_take, List.length_drop]; omega
    have l2 : (B.take k).length = k := by rw [List.length_take]; omega
    have kc1 := conv_rd hr1
    have kc2 := conv_rd hr2
    rw [l1] at kc1
    rw [l2] at kc2
    obtain ⟨S1, hS1⟩ : ∃ S1 : ByteArray, S1 = ⟨((B.drop k).take 2).toArray⟩ := ⟨_, rfl⟩
    obtain ⟨S2, hS2⟩ : ∃ S2 : ByteArray, S2 = ⟨(B.take k).toArray⟩ := ⟨_, rfl⟩
    rw [← hS1] at kc1
    rw [← hS2] at kc2
    clear hgc hgl hBl h1 hr1 hr2 l1 l2 HGC
    by_cases he : (B.drop k).take 2 = [13, 10]
    · have hS1' : S1 = ⟨#[13, 10]⟩ := by rw [hS1, he]
      subst hS1'
      have HC2 := Hid.mk2 (HC.out.trans (if_pos he))
      have HS2 := Hid.mk2 hS2
      obtain ⟨xk, xv, xf, xt, xu⟩ := x
      have y0 := HY3.out.c 0 (by simp [Im.cl])
      have y1 := HY3.out.c 1 (by simp [Im.cl])
      have y2 := HY3.out.c 2 (by simp [Im.cl])
      have y3 := HY3.out.c 3 (by simp [Im.cl])
      have y4 := HY3.out.c 4 (by simp [Im.cl])
      simp only [Im.cl, List.getElem_cons_zero, List.getElem_cons_succ] at y0 y1 y2 y3 y4
      have yf1 := HY3.out.f 1
      have hnq : ¬ V.heap.size = Y := by have := hlt3.out; omega
      have hnq2 : ¬ Y = V.heap.size := by have := hlt3.out; omega
      have HX4 := Hid.mk2 (HX3.out.other 1 (.string S2) hnq2)
      have HB4 := Hid.mk2 (HB3.out.setCell (p := ⟨Y, 1, none⟩) (Nat.le_of_lt hlt3.out) (.string S2))
      clear HC he hS1 hS2
      go_wp2
      refine bodyPost_ret (res_cell3 rfl rfl (load_var (zset HX4.out rfl _ _ _ _ _) 53 _ Tryd.underlying53 rfl item_info)) rfl ?_
      refine ⟨?_, zbelow HB4.out (Nat.le_refl _) _ _ _ _ _⟩
      rw [HC2.out, HS2.out]
      rfl
    · have hne : ¬ S1 = ⟨#[13, 10]⟩ := by
        intro e
        rw [hS1] at e
        exact he (by have := congrArg bl e; simpa [bl] using this)
      have hnb : (S1.toList == [13, 10]) = false := by
        rw [ByteArray.toList_eq]
        simp only [beq_eq_false_iff_ne, ne_eq]
        intro e
        exact hne (by cases S1; simp at e ⊢; exact Array.toList_inj.1 (by simpa using e))
      have HC2 := Hid.mk2 (HC.out.trans (if_neg he))
      clear HC he hS1 hS2 kc2
      have HC := HC2
      clear HC2
      go_wp2
      refine bodyPost_ret (res_cell3 rfl rfl (load_var (zset HX3.out rfl _ _ _ _ _) 53 _ Tryd.underlying53 rfl item_info)) rfl ?_
      exact ⟨by rw [HC.out]; rfl, zbelow HB3.out (Nat.le_refl _) _ _ _ _ _⟩
end Go.Proofs.YtihcnjbnlcgcoaaDoor
