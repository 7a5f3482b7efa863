/-
  The line that ends an answer: oneOf, resultLine, lastLine of package words.
-/
import Derived.Test.YtfmpbddhejpjaaaDoorWoT
import Derived.Test.YtfmpbddhejpjaaaDoorWoN
namespace Go.Proofs.YtfmpbddhejpjaaaDoor
open Go.Proofs.YtfmpbddhejpjaaaDoor.It
open Go.RowKit
set_option linter.unusedSimpArgs false
set_option linter.unusedVariables false
set_option maxRecDepth 100000

/-- words in a new row -/
structure LnR (w w' : World) (ws : List ByteArray) (e : Ending) : Prop where
  ex : ∃ (g cap : Nat) (cur : Array Value), e = .returned (.slice (some ⟨g, 0, none⟩) ws.length cap) ∧ w.heap.size ≤ g ∧ w'.heap[g]? = some (.cells cur 9 (0, 0)) ∧ ∀ i (hi : i < ws.length), cur[i]? = some (.string ws[i])
  below : Below w.heap.size w w'
theorem LnR.of {w w0 : World} {ws : List ByteArray} (hb : Below w.heap.size w w0) : LnR w (w0.alloc (.cells (ws.map Value.string).toArray 9)) ws (.returned (.slice (some ⟨w0.heap.size, 0, none⟩) ws.length ws.length)) :=
  ⟨⟨_, _, _, rfl, hb.size, blk_new _ _, fun i hi => by simp [hi]⟩, g_on hb (g_alloc _ _)⟩
theorem LnR.on {w w0 w' : World} {ws : List ByteArray} {e : Ending} (hb : Below w.heap.size w w0) (h : LnR w0 w' ws e) : LnR w w' ws e := by
  obtain ⟨⟨g, cap, cur, h1, h2, h3⟩, h4⟩ := h
  exact ⟨⟨g, cap, cur, h1, Nat.le_trans hb.size h2, h3⟩, g_on hb h4⟩

theorem woneOf_any (b : Bool) (s t : ByteArray) (w : World) : Calls Tryd.prog 48 #[.bool b, .string s, .string t] w fun e w' => LnR w w' [if b = true then s else t] e := by
  go_enter Tryd.func48, Tryd.ntmps48
  cases b with
  | true =>
    go_wp2
    go_ret
    exact LnR.of (ws := [s]) (Below.refl _ _)
  | false =>
    go_wp2
    go_ret
    exact LnR.of (ws := [t]) (Below.refl _ _)
/-- the words of a result's line -/
def resLn (of_ rk num : Int) : List ByteArray := if rk = 1 then (if 0 < mostN of_ then [doneW of_, dec num] else [doneW of_]) else [resW rk]

set_option maxHeartbeats 4000000 in
theorem wresultLine_any (of_ rk num : Int) (io : Option Addr) (n ic : Nat) (w : World) (ht : Tab w) (hr : Rt w) (h1 : 1 ≤ rk) (h7 : rk ≤ 7) (hn0 : 0 ≤ num) (hn1 : num < 18446744073709551616) :
    Calls Tryd.prog 49 #[.int .u8 of_, .agg #[.int .u8 rk, .slice io n ic, .int .u64 num]] w fun e w' => LnR w w' (resLn of_ rk num) e := by
  obtain ⟨W, hW⟩ : ∃ W, W = w.alloc (.cells #[.int .u8 rk, .slice io n ic, .int .u64 num] 25) := ⟨_, rfl⟩
  have hB0 : Below w.heap.size w W := by rw [hW]; exact g_alloc _ _
  have HB := Hid.mk2 hB0
  have HX : Hid (GBx W w.heap.size [.int .u8 rk, .slice io n ic, .int .u64 num]) := by rw [hW]; exact GBx.made w [.int .u8 rk, .slice io n ic, .int .u64 num] _
  have x0 := HX.out.c 0 (by simp)
  have x2 := HX.out.c 2 (by simp)
  simp only [List.getElem_cons_zero, List.getElem_cons_succ] at x0 x2
  have HT : Hid (∀ V, Below W.heap.size W V → Calls Tryd.prog 46 #[.int .u64 num] V fun e w' => e = .returned (.string (dec num)) ∧ Below V.heap.size V w') := fun V hV => wtext_any num hn0 hn1 V ((ht.below hB0).below hV)
  have HMN := Hid.mk2 (wmostNumber_any of_ W)
  have HDW : Hid (∀ V, Below W.heap.size W V → Calls Tryd.prog 73 #[.int .u8 of_] V fun e w' => e = .returned (.string (doneW of_)) ∧ w' = V) := fun V _ => wdoneWord_any of_ V
  have hrt := (hr.below hB0).at_
  unfold resLn
  obtain ⟨DW, hDW⟩ : ∃ D, D = doneW of_ := ⟨_, rfl⟩
  obtain ⟨DN, hDN⟩ : ∃ D, D = dec num := ⟨_, rfl⟩
  obtain ⟨MN, hMN⟩ : ∃ D, D = mostN of_ := ⟨_, rfl⟩
  rw [← hDW] at HDW ⊢
  rw [← hDN] at HT ⊢
  rw [← hMN] at HMN ⊢
  have hm0 : 0 ≤ MN := by rw [hMN]; unfold mostN; split <;> (try split) <;> omega
  clear hDW hDN hMN hB0 ht hr
  by_cases hk : rk = 1
  · subst hk
    rw [if_pos rfl]
    clear hrt
    by_cases hM : 0 < MN
    · rw [if_pos hM]
      have HSW : Hid (∀ V, Below W.heap.size W V → V.cell? ⟨w.heap.size, 2, none⟩ = some (.int .u64 num)) := fun V hV => (hV.cell (p := ⟨w.heap.size, 2, none⟩) HX.out.lt).trans x2
      go_enter Tryd.func49, Tryd.ntmps49
      go_upto_region 1 with (fail)
      rw [← hW]
      clear hW
      go_upto_region 4 with (go_at_call 72; refine HMN.out.mono ?_; rintro e w1 ⟨rfl, hw1⟩; rw [hw1]; clear hw1)
      go_region_held3 (fun V => V.cell? ⟨w.heap.size, 2, none⟩ = some (.int .u64 num)) (exact HSW.out _ (by repeat' (first | with_reducible exact HB1.out | with_reducible exact Below.refl _ _ | with_reducible refine Below.drew ?_ | with_reducible refine g_on ?_ (g_alloc _ _))))
        (first
        | (go_at_call 73; refine (HDW.out _ (Below.refl _ _).drew).mono ?_; rintro e w1 ⟨rfl, hw1⟩; rw [hw1]; clear hw1)
        | (go_at_call 46; refine (HT.out _ (Below.refl _ _).drew).mono ?_; rintro e w1 ⟨rfl, hb1⟩; have HB1 : Hid (Below W.heap.size W w1) := g_drew hb1; clear hb1))
      all_goals
        go_wp2
        go_ret
        exact LnR.on (g_on HB.out HB1.out) (LnR.of (ws := [DW, DN]) (Below.refl _ _))
    · rw [if_neg hM]
      have hM0 : MN = 0 := by omega
      subst hM0
      go_enter Tryd.func49, Tryd.ntmps49
      go_upto_region 1 with (fail)
      rw [← hW]
      clear hW
      go_wp2_with (first
        | (go_at_call 72; refine HMN.out.mono ?_; rintro e w1 ⟨rfl, hw1⟩; rw [hw1]; clear hw1)
        | (go_at_call 73; refine (HDW.out _ (Below.refl _ _)).mono ?_; rintro e w1 ⟨rfl, hw1⟩; rw [hw1]; clear hw1))
      go_ret
      exact LnR.on HB.out (LnR.of (ws := [DW]) (Below.refl _ _))
  · rw [if_neg hk]
    have hcases : rk = 2 ∨ rk = 3 ∨ rk = 4 ∨ rk = 5 ∨ rk = 6 ∨ rk = 7 := by omega
    clear h1 h7 hk HT HMN HDW
    rcases hcases with rfl | rfl | rfl | rfl | rfl | rfl
    · have c := hrt 2 (by decide)
      clear hrt
      go_enter Tryd.func49, Tryd.ntmps49
      go_upto_region 1 with (fail)
      rw [← hW]
      clear hW
      go_wp2
      go_ret
      exact LnR.on HB.out (LnR.of (ws := [resW 2]) (Below.refl _ _))
    · have c := hrt 3 (by decide)
      clear hrt
      go_enter Tryd.func49, Tryd.ntmps49
      go_upto_region 1 with (fail)
      rw [← hW]
      clear hW
      go_wp2
      go_ret
      exact LnR.on HB.out (LnR.of (ws := [resW 3]) (Below.refl _ _))
    · have c := hrt 4 (by decide)
      clear hrt
      go_enter Tryd.func49, Tryd.ntmps49
      go_upto_region 1 with (fail)
      rw [← hW]
      clear hW
      go_wp2
      go_ret
      exact LnR.on HB.out (LnR.of (ws := [resW 4]) (Below.refl _ _))
    · have c := hrt 5 (by decide)
      clear hrt
      go_enter Tryd.func49, Tryd.ntmps49
      go_upto_region 1 with (fail)
      rw [← hW]
      clear hW
      go_wp2
      go_ret
      exact LnR.on HB.out (LnR.of (ws := [resW 5]) (Below.refl _ _))
    · have c := hrt 6 (by decide)
      clear hrt
      go_enter Tryd.func49, Tryd.ntmps49
      go_upto_region 1 with (fail)
      rw [← hW]
      clear hW
      go_wp2
      go_ret
      exact LnR.on HB.out (LnR.of (ws := [resW 6]) (Below.refl _ _))
    · have c := hrt 7 (by decide)
      clear hrt
      go_enter Tryd.func49, Tryd.ntmps49
      go_upto_region 1 with (fail)
      rw [← hW]
      clear hW
      go_wp2
      go_ret
      exact LnR.on HB.out (LnR.of (ws := [resW 7]) (Below.refl _ _))

/-- where lastLine comes to a line -/
def An.lineOk (a : An) : Prop := 1 ≤ a.kind ∧ a.kind ≤ 7 ∧ (a.kind = 1 → 1 ≤ a.rk ∧ a.rk ≤ 7) ∧ 0 ≤ a.num ∧ a.num < 18446744073709551616
set_option maxHeartbeats 4000000 in
theorem wlastLine_any (a : An) (io : Option Addr) (n ic : Nat) (w : World) (ht : Tab w) (hr : Rt w) (h : a.lineOk) :
    Calls Tryd.prog 26 #[.agg (a.arr (.slice io n ic))] w fun e w' => LnR w w' a.last e := by
  obtain ⟨ak, ao, ar, ai, an, ay, akey⟩ := a
  obtain ⟨k1, k7, hk, n0, n1⟩ := h
  dsimp only at k1 k7 hk n0 n1
  unfold An.arr An.last
  dsimp only
  obtain ⟨W, hW⟩ : ∃ W, W = w.alloc (.cells #[.int .u8 ak, .int .u8 ao, .int .u8 ar, .slice io n ic, .int .u64 an, .bool ay, .string akey] 27) := ⟨_, rfl⟩
  have hB0 : Below w.heap.size w W := by rw [hW]; exact g_alloc _ _
  have HB := Hid.mk2 hB0
  have HX : Hid (GBx W w.heap.size [.int .u8 ak, .int .u8 ao, .int .u8 ar, .slice io n ic, .int .u64 an, .bool ay, .string akey]) := by rw [hW]; exact GBx.made w [.int .u8 ak, .int .u8 ao, .int .u8 ar, .slice io n ic, .int .u64 an, .bool ay, .string akey] _
  have x0 := HX.out.c 0 (by simp)
  have x1 := HX.out.c 1 (by simp)
  have x2 := HX.out.c 2 (by simp)
  have x3 := HX.out.c 3 (by simp)
  have x4 := HX.out.c 4 (by simp)
  have x5 := HX.out.c 5 (by simp)
  have x6 := HX.out.c 6 (by simp)
  simp only [List.getElem_cons_zero, List.getElem_cons_succ] at x0 x1 x2 x3 x4 x5 x6
  have HO := Hid.mk2 (fun b s t => woneOf_any b s t W)
  have HR : Hid (ak = 1 → Calls Tryd.prog 49 #[.int .u8 ao, .agg #[.int .u8 ar, .slice io n ic, .int .u64 an]] W fun e w' => LnR W w' (resLn ao ar an) e) := fun h => wresultLine_any ao ar an io n ic W (ht.below hB0) (hr.below hB0) (hk h).1 (hk h).2 n0 n1
  clear hB0 ht hr hk HX
  have hcases : ak = 1 ∨ ak = 2 ∨ ak = 3 ∨ ak = 4 ∨ ak = 5 ∨ ak = 6 ∨ ak = 7 := by omega
  clear k1 k7
  rcases hcases with rfl | rfl | rfl | rfl | rfl | rfl | rfl
  · have HR1 := Hid.mk2 (HR.out rfl)
    clear HR HO
    rw [if_neg (by decide), if_neg (by decide), if_neg (by decide), if_neg (by decide), if_neg (by decide), if_neg (by decide)]
    change Calls _ _ _ _ fun e w' => LnR w w' (resLn ao ar an) e
    obtain ⟨LL, hLL⟩ : ∃ L, L = resLn ao ar an := ⟨_, rfl⟩
    rw [← hLL] at HR1 ⊢
    clear hLL
    go_enter Tryd.func26, Tryd.ntmps26
    go_upto_region 1 with (fail)
    rw [← hW]
    clear hW
    go_wp2_with (go_at_call 49; refine HR1.out.mono ?_; rintro e w1 ⟨⟨g, cap, cur, rfl, hg, hc⟩, hb1⟩; have HL1 : Hid (LnR w w1 LL (.returned (.slice (some ⟨g, 0, none⟩) LL.length cap))) := LnR.on HB.out ⟨⟨g, cap, cur, rfl, hg, hc⟩, hb1⟩; clear hg hc hb1)
    go_ret
    exact HL1.out
  · clear HR
    rw [if_pos rfl]
    have HO1 := Hid.mk2 (HO.out ay sWELCOME sUNKNOWN)
    clear HO
    obtain ⟨LL, hLL⟩ : ∃ L, L = [if ay = true then sWELCOME else sUNKNOWN] := ⟨_, rfl⟩
    rw [← hLL] at HO1 ⊢
    clear hLL
    unfold sWELCOME sUNKNOWN at HO1
    go_enter Tryd.func26, Tryd.ntmps26
    go_upto_region 1 with (fail)
    rw [← hW]
    clear hW
    go_wp2_with (go_at_call 48; refine HO1.out.mono ?_; rintro e w1 ⟨⟨g, cap, cur, rfl, hg, hc⟩, hb1⟩; have HL1 : Hid (LnR w w1 LL (.returned (.slice (some ⟨g, 0, none⟩) LL.length cap))) := LnR.on HB.out ⟨⟨g, cap, cur, rfl, hg, hc⟩, hb1⟩; clear hg hc hb1)
    go_ret
    exact HL1.out
  · clear HR
    rw [if_neg (by decide), if_pos rfl]
    have HO1 := Hid.mk2 (HO.out ay sTRACKED sUNTRACKED)
    clear HO
    obtain ⟨LL, hLL⟩ : ∃ L, L = [if ay = true then sTRACKED else sUNTRACKED] := ⟨_, rfl⟩
    rw [← hLL] at HO1 ⊢
    clear hLL
    unfold sTRACKED sUNTRACKED at HO1
    go_enter Tryd.func26, Tryd.ntmps26
    go_upto_region 1 with (fail)
    rw [← hW]
    clear hW
    go_wp2_with (go_at_call 48; refine HO1.out.mono ?_; rintro e w1 ⟨⟨g, cap, cur, rfl, hg, hc⟩, hb1⟩; have HL1 : Hid (LnR w w1 LL (.returned (.slice (some ⟨g, 0, none⟩) LL.length cap))) := LnR.on HB.out ⟨⟨g, cap, cur, rfl, hg, hc⟩, hb1⟩; clear hg hc hb1)
    go_ret
    exact HL1.out
  all_goals clear HR HO
  · rw [if_neg (by decide), if_neg (by decide), if_pos rfl]
    go_enter Tryd.func26, Tryd.ntmps26
    go_upto_region 1 with (fail)
    rw [← hW]
    clear hW
    go_wp2
    go_ret
    exact LnR.on HB.out (LnR.of (ws := [sPONG]) (Below.refl _ _))
  · rw [if_neg (by decide), if_neg (by decide), if_neg (by decide), if_pos rfl]
    go_enter Tryd.func26, Tryd.ntmps26
    go_upto_region 1 with (fail)
    rw [← hW]
    clear hW
    go_wp2
    go_ret
    exact LnR.on HB.out (LnR.of (ws := [sBYE]) (Below.refl _ _))
  · rw [if_neg (by decide), if_neg (by decide), if_neg (by decide), if_neg (by decide), if_pos rfl]
    go_enter Tryd.func26, Tryd.ntmps26
    go_upto_region 1 with (fail)
    rw [← hW]
    clear hW
    go_wp2
    go_ret
    exact LnR.on HB.out (LnR.of (ws := [sERROR]) (Below.refl _ _))
  · rw [if_neg (by decide), if_neg (by decide), if_neg (by decide), if_neg (by decide), if_neg (by decide), if_pos rfl]
    go_enter Tryd.func26, Tryd.ntmps26
    go_upto_region 1 with (fail)
    rw [← hW]
    clear hW
    go_wp2
    go_ret
    exact LnR.on HB.out (LnR.of (ws := [sPUSH, akey]) (Below.refl _ _))
end Go.Proofs.YtfmpbddhejpjaaaDoor
