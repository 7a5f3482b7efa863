/-
  Several texts in one: WpP, WpQ, WpR, WpS, WpC, WpD.
-/
import Derived.Test.YtfmpbddhejpjaaaDoorWpO
import Derived.Test.YtfmpbddhejpjaaaDoorItRefB
import Derived.Test.YtfmpbddhejpjaaaDoorWoI
import Derived.BigGuard
import Derived.Test.YtfmpbddhejpjaaaDoorWoF
import Derived.Test.YtfmpbddhejpjaaaDoorWoV
/-
  The document's Lines of answers: their pure part.
-/
namespace Go.Proofs.YtfmpbddhejpjaaaDoor
open Go.Proofs.YtfmpbddhejpjaaaDoor.It
open Go.RowKit
set_option linter.unusedSimpArgs false
set_option linter.unusedVariables false
set_option maxRecDepth 100000

theorem blapp (a b : ByteArray) : bl (a ++ b) = bl a ++ bl b := by simp [bl, ByteArray.data_append]
theorem szapp (a b : ByteArray) : (a ++ b).size = a.size + b.size := by rw [← bl_len, blapp, List.length_append, bl_len, bl_len]
def cVAL : ByteArray := ⟨#[86, 65, 76, 85, 69, 32]⟩
def cSP : ByteArray := ⟨#[32]⟩
def cNL : ByteArray := ⟨#[13, 10]⟩
/-- a row of an item, as the document joins it -/
theorem ln_bl (x : Im) (S : ByteArray) : bl (S ++ ⟨#[86, 65, 76, 85, 69, 32]⟩ ++ x.key ++ ⟨#[32]⟩ ++ dec x.flags ++ ⟨#[32]⟩ ++ dec x.till ++ ⟨#[32]⟩ ++ dec x.unique ++ ⟨#[32]⟩ ++ dec (x.value.size : Int) ++ ⟨#[13, 10]⟩ ++ x.value ++ ⟨#[13, 10]⟩) = bl S ++ x.lines := by
  simp only [blapp]
  unfold Im.lines Im.words
  rw [joinW_cons]
  simp [bl, sVALUE]
theorem flatM_snoc (l : List Im) (k : Nat) (hk : k < l.length) : (l.take (k + 1)).flatMap Im.lines = (l.take k).flatMap Im.lines ++ l[k].lines := by
  rw [List.take_add_one, List.flatMap_append, List.getElem?_eq_getElem hk]
  simp
theorem dec_len20 (n : Int) (h0 : 0 ≤ n) (h1 : n < 18446744073709551616) : (dec n).size ≤ 20 := by
  rw [← bl_len]
  unfold dec
  rw [bl_mk]
  exact decL_len 19 n.toNat (by omega)
theorem rtextI (n : Int) (h0 : 0 ≤ n) (h1 : n < 18446744073709551616) (w : World) : Calls Tryd.prog 54 #[.int .u64 n] w fun e w' => e = .returned (.string (dec n)) ∧ w' = w := by
  obtain ⟨k, rfl⟩ : ∃ k : Nat, n = (k : Int) := ⟨n.toNat, by omega⟩
  refine (rtext_b k (by omega) w).mono ?_
  rintro e w' ⟨rfl, rfl⟩
  exact ⟨by unfold dec; rw [Int.toNat_natCast], rfl⟩
theorem rtextW (n : Int) (h0 : 0 ≤ n) (h1 : n < 18446744073709551616) (w : World) : Calls Tryd.prog 54 #[.int .u64 (IntKind.u64.wrap n)] w fun e w' => e = .returned (.string (dec n)) ∧ w' = w := by
  have e : IntKind.u64.wrap n = n := by
    have e : IntKind.u64.wrap n = n % 18446744073709551616 := rfl
    rw [e]; omega
  rw [e]
  exact rtextI n h0 h1 w
/-- what Lines answers -/
def LinesR (a : An) (w w' : World) (e : Ending) : Prop := ∃ S : ByteArray, e = .returned (.string S) ∧ bl S ++ [13, 10] = a.lines ∧ S.size ≤ 20000 ∧ Below w.heap.size w w'
structure LinesK (a : An) : Prop where
  kind : 1 ≤ a.kind ∧ a.kind ≤ 7
  one : a.kind = 1 → 1 ≤ a.of_ ∧ a.of_ ≤ 11 ∧ 1 ≤ a.rk ∧ a.rk ≤ 7 ∧ (a.rk ≠ 1 → a.items = [])
  other : a.kind ≠ 1 → a.items = []
  key : a.kind = 7 → a.key.size ≤ 32
theorem lines_k {a : An} (hm : a.may = true) : LinesK a := by
  unfold An.may at hm
  by_cases k1 : a.kind = 1
  · rw [if_pos k1] at hm
    simp only [Bool.and_eq_true] at hm
    have hr := hm.1.1
    unfold resOk isCmd at hr
    simp only [Bool.and_eq_true, decide_eq_true_eq] at hr
    refine ⟨by omega, fun _ => ⟨by omega, by omega, by omega, by omega, fun hk => ?_⟩, fun h => absurd k1 h, fun h => by omega⟩
    have h1 := hr.1.1.2
    rw [if_neg hk] at h1
    exact List.eq_nil_of_length_eq_zero (by omega)
  · rw [if_neg k1] at hm
    by_cases k23 : a.kind = 2 ∨ a.kind = 3
    · rw [if_pos k23] at hm
      simp only [Bool.and_eq_true] at hm
      exact ⟨by omega, fun h => absurd h k1, fun _ => (noRes_parts hm.1).2.2.1, fun h => by omega⟩
    rw [if_neg k23] at hm
    by_cases k7 : a.kind = 7
    · rw [if_pos k7] at hm
      simp only [Bool.and_eq_true, decide_eq_true_eq] at hm
      exact ⟨by omega, fun h => absurd h k1, fun _ => (noRes_parts hm.1.2).2.2.1, fun h => by omega⟩
    rw [if_neg k7] at hm
    by_cases k456 : a.kind = 4 ∨ a.kind = 5 ∨ a.kind = 6
    · rw [if_pos k456] at hm
      simp only [Bool.and_eq_true] at hm
      exact ⟨by omega, fun h => absurd h k1, fun _ => (noRes_parts hm.1.1).2.2.1, fun h => absurd h k7⟩
    rw [if_neg k456] at hm
    cases hm
theorem mcnt_most (o : Int) (h : mcnt o = true) : 0 < mostN o := by
  unfold mcnt at h
  unfold mostN
  simp only [Bool.or_eq_true, decide_eq_true_eq] at h
  split
  · decide
  · rw [if_pos (by omega)]; decide
theorem mcnt_none (o : Int) (h : mcnt o = false) : ¬ 0 < mostN o := by
  unfold mcnt at h
  unfold mostN
  simp only [Bool.or_eq_false_iff, decide_eq_false_iff_not] at h
  rw [if_neg (by omega), if_neg (by omega)]; decide
theorem rowW_ok (o : Int) (h0 : 1 ≤ o) : rowW o = doneW o := by unfold rowW; rw [if_neg (by omega)]
theorem doneW_len (o : Int) : (doneW o).size ≤ 10 := by
  unfold doneW
  repeat' split
  all_goals decide
theorem resW_len (o : Int) : (resW o).size ≤ 10 := by
  unfold resW
  repeat' split
  all_goals decide
theorem flat_lenB (L : List Im) (k : Nat) (hk : k ≤ L.length) (hL : L.length ≤ 8) (h : ∀ x ∈ L, x.ok) (S : ByteArray) (hS : bl S = (L.take k).flatMap Im.lines) : S.size ≤ 8800 := by
  rw [← bl_len, hS]
  have h1 := flat_len (L.take k) (fun x hx => h x (List.mem_of_mem_take hx))
  have h2 : (L.take k).length ≤ 8 := by rw [List.length_take]; omega
  omega
end Go.Proofs.YtfmpbddhejpjaaaDoor
/-
  The document's Lines of answers, walked.
-/
namespace Go.Proofs.YtfmpbddhejpjaaaDoor
open Go.Proofs.YtfmpbddhejpjaaaDoor.It
open Go.RowKit
set_option linter.unusedSimpArgs false
set_option linter.unusedVariables false
set_option maxRecDepth 100000

set_option maxHeartbeats 8000000 in
theorem rlines15_any (a : An) (io : Option Addr) (ic : Nat) (w : World) (hi : GRd EM w io a.items ic) (hm : a.may = true) (hl : a.hasL = true) (hf : a.Fit) :
    Calls Tryd.prog 31 #[.agg (a.arr (.slice io a.items.length ic))] w fun e w' => LinesR a w w' e := by
  obtain ⟨hx, h8, _⟩ := items_ok hm hl hf
  have hk := lines_k hm
  obtain ⟨W, hW⟩ : ∃ W, W = w.alloc (.cells (a.arr (.slice io a.items.length ic)) 27) := ⟨_, rfl⟩
  have HB : Hid (Below w.heap.size w W) := by rw [hW]; exact g_alloc _ _
  have HX : Hid (GBx W w.heap.size (a.cl (.slice io a.items.length ic))) := by rw [hW]; exact GBx.made w (a.cl _) _
  have HI := Hid.mk2 (hi.below HB.out)
  have hn0 := hf.n0
  have hn1 := hf.n1
  obtain ⟨K, O, R, L, N, Y, key⟩ := a
  obtain ⟨hk0, hk1, hk2, hk3⟩ := hk
  have HOK := Hid.mk2 hx
  unfold An.arr at hW ⊢
  unfold An.cl at HX
  dsimp only at *
  have HKO := Hid.mk2 hk1
  have HKI := Hid.mk2 hk2
  have HKK := Hid.mk2 hk3
  have HL8 := Hid.mk2 h8
  clear hx hm hl hf hi hk1 hk2 hk3
  obtain ⟨n, hn⟩ : ∃ n, n = L.length := ⟨_, rfl⟩
  have HN := Hid.mk2 hn
  rw [← hn] at HX hW h8 ⊢
  clear hn
  have x0 := HX.out.c 0 (by simp)
  have x1 := HX.out.c 1 (by simp)
  have x2 := HX.out.c 2 (by simp)
  have x3 := HX.out.c 3 (by simp)
  have x4 := HX.out.c 4 (by simp)
  have x5 := HX.out.c 5 (by simp)
  have x6 := HX.out.c 6 (by simp)
  simp only [List.getElem_cons_zero, List.getElem_cons_succ] at x0 x1 x2 x3 x4 x5 x6
  go_enter Tryd.func31, Tryd.ntmps31
  go_upto_region 1 with (fail)
  rw [← hW]
  clear hW
  have hkc : K = 1 ∨ K = 2 ∨ K = 3 ∨ K = 4 ∨ K = 5 ∨ K = 6 ∨ K = 7 := by omega
  clear hk0
  rcases hkc with rfl | rfl | rfl | rfl | rfl | rfl | rfl
  · obtain ⟨ho0, ho1, hr0, hr1, hri⟩ := HKO.out rfl
    have HRI := Hid.mk2 hri
    have HRW := Hid.mk2 (fun V => rrow15_any O (by omega) (by omega) V)
    have HWD := Hid.mk2 (fun V => rword15_any R (by omega) (by omega) V)
    have HCN := Hid.mk2 (fun V => rcounts15_any O V)
    have HTN := Hid.mk2 (fun V => rtextI N hn0 hn1 V)
    have HDN := Hid.mk2 (dec_len20 N hn0 hn1)
    have HRO := Hid.mk2 (rowW_ok O ho0)
    have HO1 := Hid.mk2 ho0
    clear HKO HKI HKK hn0 hn1 ho0 ho1 hr0 hr1 hri
    by_cases hR : R = 1
    case neg =>
      have e := HRI.out hR
      subst e
      have bR : (R != 1) = true := by simpa using hR
      have HR := Hid.mk2 hR
      have HRL := Hid.mk2 (resW_len R)
      clear hR HOK HI HN
      go_wp2_with (go_at_call 53; refine (HWD.out _).mono ?_; rintro e w3 ⟨rfl, hb3⟩; have HB3 := Hid.mk2 (g_on HB.out hb3); clear hb3)
      go_ret
      exact ⟨_, rfl, by show bl (resW R) ++ _ = _; simp [An.lines, An.last, HR.out, joinW_cons], Nat.le_trans HRL.out (by decide), HB3.out⟩
    subst hR
    clear HWD HRI
    go_upto_region 20 with (fail)
    go_wp2
    go_loopw [3, 4] (fun s i wr => ∃ (k : Nat) (S : ByteArray), k ≤ n ∧ s = .string S ∧ i = .int .i64 k ∧ Hid (Below W.heap.size W wr) ∧ Hid (bl S = (L.take k).flatMap Im.lines)) (fun _ i _ => n - (intOf i).toNat)
    case atStart => exact ⟨0, ⟨#[]⟩, Nat.zero_le _, rfl, rfl, Below.refl _ _, rfl⟩
    case round =>
      obtain ⟨k, S, hk, rfl, rfl, HBR, HS⟩ := hrel
      have hsz : S.size ≤ 8800 := flat_lenB L k (by rw [← HN.out]; exact hk) HL8.out HOK.out S HS.out
      have HXR := Hid.mk2 (HX.out.below HBR.out)
      have z1 := HXR.out.c 1 (by simp)
      have z3 := HXR.out.c 3 (by simp)
      have z4 := HXR.out.c 4 (by simp)
      simp only [List.getElem_cons_zero, List.getElem_cons_succ] at z1 z3 z4
      by_cases hkl : k < n
      · have hkl2 : (k : Int) < (n : Int) := by omega
        have hkL : k < L.length := by rw [← HN.out]; exact hkl
        have hne : L ≠ [] := by intro e; rw [e] at hkL; simp at hkL
        obtain ⟨b, off, rfl, hbl, hcs⟩ := (HI.out.below HBR.out).im hne
        obtain ⟨r0, r1, r2, r3, r4⟩ := hcs k hkL
        have HSN := Hid.mk2 (flatM_snoc L k hkL)
        have hok := HOK.out L[k] (List.getElem_mem hkL)
        obtain ⟨y, hye⟩ : ∃ y, y = L[k] := ⟨_, rfl⟩
        rw [← hye] at r0 r1 r2 r3 r4 HSN hok
        clear hye hcs hne hkL
        have HLB := Hid.mk2 (ln_bl y S)
        obtain ⟨okk, okv, okt, okf, oku⟩ := hok
        have HTF := Hid.mk2 (fun V => rtextW y.flags okf.1 (by omega) V)
        have HTT := Hid.mk2 (fun V => rtextW y.till okt.1 (by omega) V)
        have HTU := Hid.mk2 (fun V => rtextI y.unique oku.1 oku.2 V)
        have HTZ := Hid.mk2 (fun V => rtextW (y.value.size : Int) (by omega) (by omega) V)
        have HTF2 := Hid.mk2 (fun V => rtextI y.flags okf.1 (by omega) V)
        have HTT2 := Hid.mk2 (fun V => rtextI y.till okt.1 (by omega) V)
        have HTZ2 := Hid.mk2 (fun V => rtextI (y.value.size : Int) (by omega) (by omega) V)
        have lF := dec_len20 y.flags okf.1 (by omega)
        have lT := dec_len20 y.till okt.1 (by omega)
        have lU := dec_len20 y.unique oku.1 oku.2
        have lZ := dec_len20 (y.value.size : Int) (by omega) (by omega)
        obtain ⟨F, hF⟩ : ∃ F, F = dec y.flags := ⟨_, rfl⟩
        obtain ⟨T, hT⟩ : ∃ T, T = dec y.till := ⟨_, rfl⟩
        obtain ⟨U, hU⟩ : ∃ U, U = dec y.unique := ⟨_, rfl⟩
        obtain ⟨Z, hZ⟩ : ∃ Z, Z = dec (y.value.size : Int) := ⟨_, rfl⟩
        rw [← hF] at HLB HTF HTF2 lF
        rw [← hT] at HLB HTT HTT2 lT
        rw [← hU] at HLB HTU lU
        rw [← hZ] at HLB HTZ HTZ2 lZ
        have lk : y.key.size ≤ 32 := by
          unfold wordOk at okk
          simp only [Bool.and_eq_true, decide_eq_true_eq] at okk
          exact okk.1.2
        clear okk okt okf oku hF hT hU hZ
        have HLN := Hid.mk2 (HLB.out.trans (by rw [HS.out, ← HSN.out] : bl S ++ y.lines = (L.take (k + 1)).flatMap Im.lines))
        clear HLB HSN HS
        obtain ⟨yk, yv, yf, yt, yu⟩ := y
        dsimp only at r0 r1 r2 r3 r4 HTF HTT HTU HTZ HTF2 HTT2 HTZ2 HLN okv lk
        have g0 : ¬ 9223372036854775807 < (S : ByteArray).size + (⟨#[86, 65, 76, 85, 69, 32]⟩ : ByteArray).size := by
          (try simp only [szapp])
          have e1 : (⟨#[32]⟩ : ByteArray).size = 1 := rfl
          have e2 : (⟨#[13, 10]⟩ : ByteArray).size = 2 := rfl
          have e6 : (⟨#[86, 65, 76, 85, 69, 32]⟩ : ByteArray).size = 6 := rfl
          omega
        have g1 : ¬ 9223372036854775807 < (S ++ ⟨#[86, 65, 76, 85, 69, 32]⟩ : ByteArray).size + (yk : ByteArray).size := by
          (try simp only [szapp])
          have e1 : (⟨#[32]⟩ : ByteArray).size = 1 := rfl
          have e2 : (⟨#[13, 10]⟩ : ByteArray).size = 2 := rfl
          have e6 : (⟨#[86, 65, 76, 85, 69, 32]⟩ : ByteArray).size = 6 := rfl
          omega
        have g2 : ¬ 9223372036854775807 < (S ++ ⟨#[86, 65, 76, 85, 69, 32]⟩ ++ yk : ByteArray).size + (⟨#[32]⟩ : ByteArray).size := by
          (try simp only [szapp])
          have e1 : (⟨#[32]⟩ : ByteArray).size = 1 := rfl
          have e2 : (⟨#[13, 10]⟩ : ByteArray).size = 2 := rfl
          have e6 : (⟨#[86, 65, 76, 85, 69, 32]⟩ : ByteArray).size = 6 := rfl
          omega
        have g3 : ¬ 9223372036854775807 < (S ++ ⟨#[86, 65, 76, 85, 69, 32]⟩ ++ yk ++ ⟨#[32]⟩ : ByteArray).size + (F : ByteArray).size := by
          (try simp only [szapp])
          have e1 : (⟨#[32]⟩ : ByteArray).size = 1 := rfl
          have e2 : (⟨#[13, 10]⟩ : ByteArray).size = 2 := rfl
          have e6 : (⟨#[86, 65, 76, 85, 69, 32]⟩ : ByteArray).size = 6 := rfl
          omega
        have g4 : ¬ 9223372036854775807 < (S ++ ⟨#[86, 65, 76, 85, 69, 32]⟩ ++ yk ++ ⟨#[32]⟩ ++ F : ByteArray).size + (⟨#[32]⟩ : ByteArray).size := by
          (try simp only [szapp])
          have e1 : (⟨#[32]⟩ : ByteArray).size = 1 := rfl
          have e2 : (⟨#[13, 10]⟩ : ByteArray).size = 2 := rfl
          have e6 : (⟨#[86, 65, 76, 85, 69, 32]⟩ : ByteArray).size = 6 := rfl
          omega
        have g5 : ¬ 9223372036854775807 < (S ++ ⟨#[86, 65, 76, 85, 69, 32]⟩ ++ yk ++ ⟨#[32]⟩ ++ F ++ ⟨#[32]⟩ : ByteArray).size + (T : ByteArray).size := by
          (try simp only [szapp])
          have e1 : (⟨#[32]⟩ : ByteArray).size = 1 := rfl
          have e2 : (⟨#[13, 10]⟩ : ByteArray).size = 2 := rfl
          have e6 : (⟨#[86, 65, 76, 85, 69, 32]⟩ : ByteArray).size = 6 := rfl
          omega
        have g6 : ¬ 9223372036854775807 < (S ++ ⟨#[86, 65, 76, 85, 69, 32]⟩ ++ yk ++ ⟨#[32]⟩ ++ F ++ ⟨#[32]⟩ ++ T : ByteArray).size + (⟨#[32]⟩ : ByteArray).size := by
          (try simp only [szapp])
          have e1 : (⟨#[32]⟩ : ByteArray).size = 1 := rfl
          have e2 : (⟨#[13, 10]⟩ : ByteArray).size = 2 := rfl
          have e6 : (⟨#[86, 65, 76, 85, 69, 32]⟩ : ByteArray).size = 6 := rfl
          omega
        have g7 : ¬ 9223372036854775807 < (S ++ ⟨#[86, 65, 76, 85, 69, 32]⟩ ++ yk ++ ⟨#[32]⟩ ++ F ++ ⟨#[32]⟩ ++ T ++ ⟨#[32]⟩ : ByteArray).size + (U : ByteArray).size := by
          (try simp only [szapp])
          have e1 : (⟨#[32]⟩ : ByteArray).size = 1 := rfl
          have e2 : (⟨#[13, 10]⟩ : ByteArray).size = 2 := rfl
          have e6 : (⟨#[86, 65, 76, 85, 69, 32]⟩ : ByteArray).size = 6 := rfl
          omega
        have g8 : ¬ 9223372036854775807 < (S ++ ⟨#[86, 65, 76, 85, 69, 32]⟩ ++ yk ++ ⟨#[32]⟩ ++ F ++ ⟨#[32]⟩ ++ T ++ ⟨#[32]⟩ ++ U : ByteArray).size + (⟨#[32]⟩ : ByteArray).size := by
          (try simp only [szapp])
          have e1 : (⟨#[32]⟩ : ByteArray).size = 1 := rfl
          have e2 : (⟨#[13, 10]⟩ : ByteArray).size = 2 := rfl
          have e6 : (⟨#[86, 65, 76, 85, 69, 32]⟩ : ByteArray).size = 6 := rfl
          omega
        have g9 : ¬ 9223372036854775807 < (S ++ ⟨#[86, 65, 76, 85, 69, 32]⟩ ++ yk ++ ⟨#[32]⟩ ++ F ++ ⟨#[32]⟩ ++ T ++ ⟨#[32]⟩ ++ U ++ ⟨#[32]⟩ : ByteArray).size + (Z : ByteArray).size := by
          (try simp only [szapp])
          have e1 : (⟨#[32]⟩ : ByteArray).size = 1 := rfl
          have e2 : (⟨#[13, 10]⟩ : ByteArray).size = 2 := rfl
          have e6 : (⟨#[86, 65, 76, 85, 69, 32]⟩ : ByteArray).size = 6 := rfl
          omega
        have g10 : ¬ 9223372036854775807 < (S ++ ⟨#[86, 65, 76, 85, 69, 32]⟩ ++ yk ++ ⟨#[32]⟩ ++ F ++ ⟨#[32]⟩ ++ T ++ ⟨#[32]⟩ ++ U ++ ⟨#[32]⟩ ++ Z : ByteArray).size + (⟨#[13, 10]⟩ : ByteArray).size := by
          (try simp only [szapp])
          have e1 : (⟨#[32]⟩ : ByteArray).size = 1 := rfl
          have e2 : (⟨#[13, 10]⟩ : ByteArray).size = 2 := rfl
          have e6 : (⟨#[86, 65, 76, 85, 69, 32]⟩ : ByteArray).size = 6 := rfl
          omega
        have g11 : ¬ 9223372036854775807 < (S ++ ⟨#[86, 65, 76, 85, 69, 32]⟩ ++ yk ++ ⟨#[32]⟩ ++ F ++ ⟨#[32]⟩ ++ T ++ ⟨#[32]⟩ ++ U ++ ⟨#[32]⟩ ++ Z ++ ⟨#[13, 10]⟩ : ByteArray).size + (yv : ByteArray).size := by
          (try simp only [szapp])
          have e1 : (⟨#[32]⟩ : ByteArray).size = 1 := rfl
          have e2 : (⟨#[13, 10]⟩ : ByteArray).size = 2 := rfl
          have e6 : (⟨#[86, 65, 76, 85, 69, 32]⟩ : ByteArray).size = 6 := rfl
          omega
        have g12 : ¬ 9223372036854775807 < (S ++ ⟨#[86, 65, 76, 85, 69, 32]⟩ ++ yk ++ ⟨#[32]⟩ ++ F ++ ⟨#[32]⟩ ++ T ++ ⟨#[32]⟩ ++ U ++ ⟨#[32]⟩ ++ Z ++ ⟨#[13, 10]⟩ ++ yv : ByteArray).size + (⟨#[13, 10]⟩ : ByteArray).size := by
          (try simp only [szapp])
          have e1 : (⟨#[32]⟩ : ByteArray).size = 1 := rfl
          have e2 : (⟨#[13, 10]⟩ : ByteArray).size = 2 := rfl
          have e6 : (⟨#[86, 65, 76, 85, 69, 32]⟩ : ByteArray).size = 6 := rfl
          omega
        go_upto_region 25 with (fail)
        obtain ⟨V, hV⟩ : ∃ V, V = wr.alloc (.cells #[.string yk, .string yv, .int .u32 yf, .int .i64 yt, .int .u64 yu] 53) := ⟨_, rfl⟩
        have hbv : Below wr.heap.size wr V := by rw [hV]; exact g_alloc _ _
        have HBV := Hid.mk2 (g_on HBR.out hbv)
        have HXV : Hid (GBx V wr.heap.size [.string yk, .string yv, .int .u32 yf, .int .i64 yt, .int .u64 yu]) := by rw [hV]; exact GBx.made wr [.string yk, .string yv, .int .u32 yf, .int .i64 yt, .int .u64 yu] _
        rw [← hV]
        clear hV hbv r0 r1 r2 r3 r4
        have v0 := HXV.out.c 0 (by simp)
        have v1 := HXV.out.c 1 (by simp)
        have v2 := HXV.out.c 2 (by simp)
        have v3 := HXV.out.c 3 (by simp)
        have v4 := HXV.out.c 4 (by simp)
        simp only [List.getElem_cons_zero, List.getElem_cons_succ] at v0 v1 v2 v3 v4
        go_quiet ((first | (go_at_call 54; with_reducible exact Calls.quiet_of_same (HTF.out _)) | (go_at_call 54; with_reducible exact Calls.quiet_of_same (HTT.out _)) | (go_at_call 54; with_reducible exact Calls.quiet_of_same (HTU.out _)) | (go_at_call 54; with_reducible exact Calls.quiet_of_same (HTZ.out _)) | (go_at_call 54; with_reducible exact Calls.quiet_of_same (HTF2.out _)) | (go_at_call 54; with_reducible exact Calls.quiet_of_same (HTT2.out _)) | (go_at_call 54; with_reducible exact Calls.quiet_of_same (HTZ2.out _))))
        go_wp2
        go_roundw
        case rel => exact ⟨k + 1, _, by omega, rfl, by go_num, g_quiet_on _ HBV.out, HLN.out⟩
        case measure => simp [intOf]; omega
      · have hkl2 : ¬ (k : Int) < (n : Int) := by omega
        have ek : L.take k = L := List.take_of_length_le (by rw [← HN.out]; omega)
        have HSE : Hid (bl S = L.flatMap Im.lines) := by show _ = _; rw [HS.out, ek]
        have hDW := doneW_len O
        have HDW := HRO.out
        rw [HDW] at HRW
        obtain ⟨D, hD⟩ : ∃ D, D = doneW O := ⟨_, rfl⟩
        rw [← hD] at HRW hDW
        have g1 : ¬ 9223372036854775807 < (S : ByteArray).size + D.size := by omega
        have hSD : (S ++ D).size = S.size + D.size := szapp _ _
        clear HS ek HOK HI HRO HDW
        cases hC : mcnt O with
        | false =>
          rw [hC] at HCN
          have HCC : Hid ((if 0 < mostN O then [doneW O, dec N] else [doneW O]) = [doneW O]) := if_neg (mcnt_none O hC)
          have HD := Hid.mk2 hD
          have HSD := Hid.mk2 hSD
          have HDL := Hid.mk2 hDW
          have HSZ := Hid.mk2 hsz
          clear hC hD hSD
          go_wp2_with (first
            | (go_at_call 55; refine (HRW.out _).mono ?_; rintro e w4 ⟨rfl, hb4⟩; have HB4 := Hid.mk2 (g_on HBR.out hb4); have y1 := (hb4.cell (p := ⟨w.heap.size, 1, none⟩) (World.block_lt_of_cell? _ _ z1)).trans z1; clear hb4)
            | (go_at_call 50; refine (HCN.out _).mono ?_; rintro e w5 ⟨rfl, rfl⟩))
          go_ret
          exact ⟨_, rfl, by show bl (S ++ D) ++ _ = _; rw [blapp, HSE.out, HD.out]; unfold An.lines An.last; dsimp only; rw [if_neg (by decide), if_neg (by decide), if_neg (by decide), if_neg (by decide), if_neg (by decide), if_neg (by decide), if_pos rfl, HCC.out]; simp [joinW_cons], by show (S ++ D).size ≤ _; rw [HSD.out]; have := HDL.out; have := HSZ.out; omega, g_on HB.out HB4.out⟩
        | true =>
          rw [hC] at HCN
          have HCC := Hid.mk2 (mcnt_most O hC)
          have lN := HDN.out
          obtain ⟨F, hF⟩ : ∃ F, F = dec N := ⟨_, rfl⟩
          rw [← hF] at HTN lN
          have hS2 : (S ++ D ++ ⟨#[32]⟩).size = S.size + D.size + 1 := by rw [szapp, szapp]; rfl
          have hS3 : (S ++ D ++ ⟨#[32]⟩ ++ F).size = S.size + D.size + 1 + F.size := by rw [szapp, hS2]
          have g2 : ¬ 9223372036854775807 < (S ++ D).size + (⟨#[32]⟩ : ByteArray).size := by rw [hSD]; show ¬ _ < _ + 1; omega
          have g3 : ¬ 9223372036854775807 < (S ++ D ++ ⟨#[32]⟩).size + F.size := by rw [hS2]; omega
          have HF := Hid.mk2 hF
          have HD := Hid.mk2 hD
          have HS3 := Hid.mk2 hS3
          have HDL := Hid.mk2 hDW
          have HSZ := Hid.mk2 hsz
          have HLN := Hid.mk2 lN
          clear hC hD hSD hF hS2 hS3 HDN
          go_wp2_with (first
            | (go_at_call 55; refine (HRW.out _).mono ?_; rintro e w4 ⟨rfl, hb4⟩; have HB4 := Hid.mk2 (g_on HBR.out hb4); have y1 := (hb4.cell (p := ⟨w.heap.size, 1, none⟩) (World.block_lt_of_cell? _ _ z1)).trans z1; have y4 := (hb4.cell (p := ⟨w.heap.size, 4, none⟩) (World.block_lt_of_cell? _ _ z4)).trans z4; clear hb4)
            | (go_at_call 50; refine (HCN.out _).mono ?_; rintro e w5 ⟨rfl, rfl⟩)
            | (go_at_call 54; refine (HTN.out _).mono ?_; rintro e w6 ⟨rfl, rfl⟩))
          go_ret
          exact ⟨_, rfl, by show bl (S ++ D ++ ⟨#[32]⟩ ++ F) ++ _ = _; rw [blapp, blapp, blapp, HSE.out, HD.out, HF.out]; simp [An.lines, An.last, HCC.out, joinW_cons, bl], by show (S ++ D ++ ⟨#[32]⟩ ++ F).size ≤ _; rw [HS3.out]; have := HDL.out; have := HSZ.out; have := HLN.out; omega, g_on HB.out HB4.out⟩
  · have e := HKI.out (by decide)
    subst e
    clear HOK HKO HKK HI HN
    cases Y
    all_goals
      go_wp2
      go_ret
      exact ⟨_, rfl, by first | rfl | (simp [An.lines, An.last, joinW, Lib.join, sWELCOME, sUNKNOWN, sTRACKED, sUNTRACKED, sPONG, sBYE, sERROR, bl]; done), by decide, HB.out⟩
  · have e := HKI.out (by decide)
    subst e
    clear HOK HKO HKK HI HN
    cases Y
    all_goals
      go_wp2
      go_ret
      exact ⟨_, rfl, by first | rfl | (simp [An.lines, An.last, joinW, Lib.join, sWELCOME, sUNKNOWN, sTRACKED, sUNTRACKED, sPONG, sBYE, sERROR, bl]; done), by decide, HB.out⟩
  · have e := HKI.out (by decide)
    subst e
    clear HOK HKO HKK HI HN
    cases Y
    all_goals
      go_wp2
      go_ret
      exact ⟨_, rfl, by first | rfl | (simp [An.lines, An.last, joinW, Lib.join, sWELCOME, sUNKNOWN, sTRACKED, sUNTRACKED, sPONG, sBYE, sERROR, bl]; done), by decide, HB.out⟩
  · have e := HKI.out (by decide)
    subst e
    clear HOK HKO HKK HI HN
    cases Y
    all_goals
      go_wp2
      go_ret
      exact ⟨_, rfl, by first | rfl | (simp [An.lines, An.last, joinW, Lib.join, sWELCOME, sUNKNOWN, sTRACKED, sUNTRACKED, sPONG, sBYE, sERROR, bl]; done), by decide, HB.out⟩
  · have e := HKI.out (by decide)
    subst e
    clear HOK HKO HKK HI HN
    cases Y
    all_goals
      go_wp2
      go_ret
      exact ⟨_, rfl, by first | rfl | (simp [An.lines, An.last, joinW, Lib.join, sWELCOME, sUNKNOWN, sTRACKED, sUNTRACKED, sPONG, sBYE, sERROR, bl]; done), by decide, HB.out⟩
  · have e := HKI.out (by decide)
    subst e
    have hks := HKK.out rfl
    have HKS := Hid.mk2 hks
    have g1 : ¬ 9223372036854775807 < (⟨#[80, 85, 83, 72, 32]⟩ : ByteArray).size + key.size := by show ¬ _ < 5 + key.size; omega
    have HSP := Hid.mk2 (szapp ⟨#[80, 85, 83, 72, 32]⟩ key)
    clear HOK HKO HKK HI HN hks
    go_wp2
    go_ret
    exact ⟨_, rfl, by show bl (⟨#[80, 85, 83, 72, 32]⟩ ++ key) ++ _ = _; rw [blapp]; simp [An.lines, An.last, joinW_cons, sPUSH, bl], by show (⟨#[80, 85, 83, 72, 32]⟩ ++ key : ByteArray).size ≤ _; rw [HSP.out]; have := HKS.out; show 5 + key.size ≤ _; omega, HB.out⟩
end Go.Proofs.YtfmpbddhejpjaaaDoor
/-
  The document's Write of answers, walked; its Check.
-/
namespace Go.Proofs.YtfmpbddhejpjaaaDoor
open Go.Proofs.YtfmpbddhejpjaaaDoor.It
open Go.RowKit
set_option linter.unusedSimpArgs false
set_option linter.unusedVariables false
set_option maxRecDepth 100000

theorem emp_sz {s : ByteArray} (h : s.toList.isEmpty = true) : s.size = 0 := by
  rw [memp] at h
  simpa using h
theorem may_keys {a : An} (hm : a.may = true) : a.key.size ≤ 2000 ∧ ∀ x ∈ a.items, x.key.size ≤ 2000 := by
  have hk := lines_k hm
  have key : a.key.size ≤ 32 := by
    unfold An.may at hm
    split at hm
    · simp only [Bool.and_eq_true] at hm; have := emp_sz hm.2; omega
    split at hm
    · simp only [Bool.and_eq_true] at hm; have := emp_sz hm.2; omega
    split at hm
    · simp only [Bool.and_eq_true, decide_eq_true_eq] at hm; exact hm.1.1.2
    split at hm
    · simp only [Bool.and_eq_true] at hm; have := emp_sz hm.2; omega
    cases hm
  refine ⟨by omega, fun x hx => ?_⟩
  by_cases k1 : a.kind = 1
  · unfold An.may at hm
    rw [if_pos k1] at hm
    simp only [Bool.and_eq_true] at hm
    have hr := hm.1.1
    unfold resOk at hr
    simp only [Bool.and_eq_true, Bool.not_eq_true'] at hr
    have hb := List.any_eq_false.1 hr.2 x hx
    unfold badI ckE at hb
    have e : x.it.key = x.key ∧ x.it.value = x.value := ⟨rfl, rfl⟩
    rw [e.1, e.2] at hb
    by_cases h : x.key.size < 1 ∨ 32 < x.key.size ∨ 512 < x.value.size
    · rw [if_pos h] at hb; exact absurd rfl hb
    · omega
  · rw [hk.other k1] at hx; cases hx
theorem wrE_of {a : An} (h : ¬ (a.may = true ∧ a.hasL = true)) : a.wrE = 8 := if_neg h
set_option maxHeartbeats 8000000 in
theorem rwrite15_any (a : An) (io : Option Addr) (ic : Nat) (w : World) (hi : GRd EM w io a.items ic) (hk : a.key.size ≤ maxLen) (hf : a.Fit) :
    Calls Tryd.prog 13 #[.agg (a.arr (.slice io a.items.length ic))] w fun e w' => WrR w w' a e := by
  obtain ⟨W, hW⟩ : ∃ W, W = w.alloc (.cells (a.arr (.slice io a.items.length ic)) 27) := ⟨_, rfl⟩
  have HB : Hid (Below w.heap.size w W) := by rw [hW]; exact g_alloc _ _
  have HX : Hid (GBx W w.heap.size (a.cl (.slice io a.items.length ic))) := by rw [hW]; exact GBx.made w (a.cl _) _
  have HMY := Hid.mk2 (fun V (hV : Below w.heap.size w V) => rmay15_any a io ic V (hi.below hV) hk hf.n0 hf.n1)
  have HI := Hid.mk2 (fun V (hV : Below w.heap.size w V) => hi.below hV)
  have HLN := Hid.mk2 (fun V (hV : Below w.heap.size w V) h1 h2 => rlines15_any a io ic V (hi.below hV) h1 h2 hf)
  have HWR := Hid.mk2 (fun w' (h : a.wrE = 8) hb => WrR.bad (w := w) (w' := w') h hb)
  have HKP := Hid.mk2 (fun (h : a.may = true) => may_keys h)
  have HW8 := Hid.mk2 (@wrE_of a)
  have HW0 : Hid (a.may = true → a.hasL = true → a.wrE = 0 ∧ a.wr = a.lines) := fun h1 h2 => by
    have e : a.wrE = 0 := if_pos ⟨h1, h2⟩
    exact ⟨e, by unfold An.wr; rw [if_pos e]⟩
  have HHL : Hid (a.hasL = (seen a.key && a.items.all fun x => seen x.key)) := rfl
  obtain ⟨MB, hMB⟩ : ∃ M, M = a.may := ⟨_, rfl⟩
  rw [← hMB] at HMY HLN HKP HW8 HW0
  have hcl : a.cl (.slice io a.items.length ic) = [.int .u8 a.kind, .int .u8 a.of_, .int .u8 a.rk, .slice io a.items.length ic, .int .u64 a.num, .bool a.yes, .string a.key] := rfl
  have har : a.arr (.slice io a.items.length ic) = #[.int .u8 a.kind, .int .u8 a.of_, .int .u8 a.rk, .slice io a.items.length ic, .int .u64 a.num, .bool a.yes, .string a.key] := rfl
  rw [hcl] at HX
  rw [har] at hW HMY HLN ⊢
  clear hcl har hMB hi hk hf
  obtain ⟨N, hN⟩ : ∃ N, N = a.items.length := ⟨_, rfl⟩
  rw [← hN] at HX hW HMY HLN ⊢
  have HN := Hid.mk2 hN
  have hN8 : (N : Int) ≤ 9223372036854775807 := by have := (HI.out W HB.out).len; omega
  obtain ⟨A0, hA0⟩ : ∃ x, x = a.kind := ⟨_, rfl⟩
  obtain ⟨A1, hA1⟩ : ∃ x, x = a.of_ := ⟨_, rfl⟩
  obtain ⟨A2, hA2⟩ : ∃ x, x = a.rk := ⟨_, rfl⟩
  obtain ⟨A4, hA4⟩ : ∃ x, x = a.num := ⟨_, rfl⟩
  obtain ⟨A5, hA5⟩ : ∃ x, x = a.yes := ⟨_, rfl⟩
  obtain ⟨A6, hA6⟩ : ∃ x, x = a.key := ⟨_, rfl⟩
  rw [← hA0, ← hA1, ← hA2, ← hA4, ← hA5, ← hA6] at HX hW HMY HLN
  rw [← hA0, ← hA1, ← hA2, ← hA4, ← hA5, ← hA6]
  rw [← hA6] at HKP HHL
  clear hN hA0 hA1 hA2 hA4 hA5 hA6
  have x0 := HX.out.c 0 (by simp)
  have x1 := HX.out.c 1 (by simp)
  have x2 := HX.out.c 2 (by simp)
  have x3 := HX.out.c 3 (by simp)
  have x4 := HX.out.c 4 (by simp)
  have x5 := HX.out.c 5 (by simp)
  have x6 := HX.out.c 6 (by simp)
  simp only [List.getElem_cons_zero, List.getElem_cons_succ] at x0 x1 x2 x3 x4 x5 x6
  go_enter Tryd.func13, Tryd.ntmps13
  go_upto_region 1 with (fail)
  rw [← hW]
  clear hW
  cases MB with
  | false =>
    have HE : Hid (a.wrE = 8) := HW8.out (fun h => absurd h.1 (by decide))
    clear HW8 HW0 HKP HHL HLN
    go_wp2_with (go_at_call 29; refine (HMY.out _ HB.out).mono ?_; rintro e w1 ⟨rfl, hb⟩; have HB1 := Hid.mk2 (g_on HB.out hb); clear hb)
    refine bodyPost_ret (results_tmp2 rfl _ _ _) rfl ?_
    exact HWR.out _ HE.out HB1.out
  | true =>
    have HP6 := Hid.mk2 (fun V => rplain15_any A6 (HKP.out rfl).1 V)
    have HPI := Hid.mk2 (fun x hx V => rplain15_any x.key ((HKP.out rfl).2 x hx) V)
    have HL3 := Hid.mk2 (fun V hV h => HLN.out V hV rfl h)
    have HL0 := Hid.mk2 (fun h => HW0.out rfl h)
    obtain ⟨KS, hKS⟩ : ∃ S, S = seen A6 := ⟨_, rfl⟩
    rw [← hKS] at HP6 HHL
    clear hKS HKP HW0 HLN
    cases KS with
    | false =>
      have HE : Hid (a.wrE = 8) := HW8.out (fun h => by have := h.2; rw [HHL.out] at this; cases this)
      clear HW8 HHL HPI HL3 HL0
      go_wp2_with (first
        | (go_at_call 29; refine (HMY.out _ HB.out).mono ?_; rintro e w1 ⟨rfl, hb⟩; have HB1 := Hid.mk2 (g_on HB.out hb); have HX1 := Hid.mk2 (HX.out.below hb); have y6 := HX1.out.c 6 (by simp); simp only [List.getElem_cons_zero, List.getElem_cons_succ] at y6; clear hb)
        | (go_at_call 30; refine (HP6.out _).mono ?_; rintro e w2 ⟨rfl, hw2⟩; replace hw2 := hw2.symm; subst hw2))
      refine bodyPost_ret (results_tmp2 rfl _ _ _) rfl ?_
      exact HWR.out _ HE.out HB1.out
    | true =>
      have HH2 : Hid (a.hasL = a.items.all fun x => seen x.key) := by show _ = _; rw [HHL.out]; rfl
      have HA1 : Hid (∀ k (hk : k < a.items.length), seen a.items[k].key = false → a.wrE = 8) := fun k hk h => HW8.out (fun hh => by
        have h2 := hh.2
        rw [HH2.out] at h2
        have := List.all_eq_true.1 h2 a.items[k] (List.getElem_mem hk)
        rw [h] at this
        cases this)
      have HA2 : Hid ((∀ j (hj : j < a.items.length), seen a.items[j].key = true) → a.hasL = true) := fun h => by
        rw [HH2.out]
        refine List.all_eq_true.2 (fun x hx => ?_)
        obtain ⟨j, hj, e⟩ := List.getElem_of_mem hx
        rw [← e]
        exact h j hj
      clear HW8 HHL HH2
      go_upto_region 3 with (first
        | (go_at_call 29; refine (HMY.out _ HB.out).mono ?_; rintro e w1 ⟨rfl, hb⟩; have HB1 := Hid.mk2 (g_on HB.out hb); have HX1 := Hid.mk2 (HX.out.below hb); have y6 := HX1.out.c 6 (by simp); simp only [List.getElem_cons_zero, List.getElem_cons_succ] at y6; clear hb)
        | (go_at_call 30; refine (HP6.out _).mono ?_; rintro e w2 ⟨rfl, hw2⟩; replace hw2 := hw2.symm; subst hw2))
      clear x0 x1 x2 x3 x4 x5 x6 y6
      have x0 := HX1.out.c 0 (by simp)
      have x1 := HX1.out.c 1 (by simp)
      have x2 := HX1.out.c 2 (by simp)
      have x3 := HX1.out.c 3 (by simp)
      have x4 := HX1.out.c 4 (by simp)
      have x5 := HX1.out.c 5 (by simp)
      have x6 := HX1.out.c 6 (by simp)
      simp only [List.getElem_cons_zero, List.getElem_cons_succ] at x0 x1 x2 x3 x4 x5 x6
      go_wp2
      go_loopw [4] (fun i wr => ∃ k : Nat, k ≤ N ∧ i = .int .i64 k ∧ wr = w1 ∧ Hid (∀ j (hj : j < a.items.length), j < k → seen a.items[j].key = true)) (fun i _ => N - (intOf i).toNat)
      case atStart => exact ⟨0, Nat.zero_le _, rfl, rfl, fun _ _ h => absurd h (by omega)⟩
      case round =>
        obtain ⟨k, hk, rfl, hwr, HA⟩ := hrel
        replace hwr := hwr.symm
        subst hwr
        by_cases hkl : k < N
        · have hkl2 : (k : Int) < (N : Int) := by omega
          have hki : k < a.items.length := by rw [← HN.out]; exact hkl
          have hne : a.items ≠ [] := by intro e; rw [e] at hki; simp at hki
          obtain ⟨g, off, rfl, hbl, hcs⟩ := (HI.out _ HB1.out).im hne
          obtain ⟨r0, r1, r2, r3, r4⟩ := hcs k hki
          have HP := Hid.mk2 (fun V => HPI.out a.items[k] (List.getElem_mem hki) V)
          have HBA := Hid.mk2 (fun h => HA1.out k hki h)
          have HAN : Hid (seen a.items[k].key = true → ∀ j (hj : j < a.items.length), j < k + 1 → seen a.items[j].key = true) := fun h j hj hjk => by
            by_cases e : j = k
            · subst e; exact h
            · exact HA.out j hj (by omega)
          obtain ⟨y, hye⟩ : ∃ y, y = a.items[k].key := ⟨_, rfl⟩
          rw [← hye] at r0 HP HBA HAN
          obtain ⟨SY, hSY⟩ : ∃ S, S = seen y := ⟨_, rfl⟩
          rw [← hSY] at HP HBA HAN
          clear hye hcs hne HA hki hSY r1 r2 r3 r4
          cases SY with
          | true =>
            have HG := Hid.mk2 (HAN.out rfl)
            clear HBA HAN
            go_wp2_with (go_at_call 30; refine (HP.out _).mono ?_; rintro e w2 ⟨rfl, hw2⟩; replace hw2 := hw2.symm; subst hw2)
            exact ⟨⟨k + 1, by omega, by go_num, by first | rfl | trivial, HG.out⟩, by simp [intOf]; omega⟩
          | false =>
            have HE := Hid.mk2 (HBA.out rfl)
            clear HBA HAN
            go_wp2_with (go_at_call 30; refine (HP.out _).mono ?_; rintro e w2 ⟨rfl, hw2⟩; replace hw2 := hw2.symm; subst hw2)
            refine bodyPost_ret (results_tmp2 rfl _ _ _) rfl ?_
            exact HWR.out _ HE.out HB1.out
        · have hkl2 : ¬ (k : Int) < (N : Int) := by omega
          have hL := HA2.out (fun j hj => HA.out j hj (by have := HN.out; omega))
          have HLL := Hid.mk2 (fun V hV => HL3.out V hV hL)
          have HW0 := Hid.mk2 (HL0.out hL)
          clear HA hL
          go_wp2_with (go_at_call 31; refine (HLL.out _ HB1.out).mono ?_; rintro e w3 ⟨S, rfl, hS, hz, hb3⟩; have HB3 := Hid.mk2 (g_on HB1.out hb3); have HS := Hid.mk2 hS; have HZ := Hid.mk2 hz; have g1 : ¬ 9223372036854775807 < S.size + (⟨#[13, 10]⟩ : ByteArray).size := (by show ¬ _ < S.size + 2; omega); have hcv := conv_str (S ++ ⟨#[13, 10]⟩); have HSZ : Hid ((S ++ ⟨#[13, 10]⟩).size = S.size + 2) := (by show _ = _; rw [szapp]; rfl); have HSB : Hid (bl (S ++ ⟨#[13, 10]⟩) = a.wr) := (by show _ = _; rw [blapp, HW0.out.2, ← HS.out]; rfl); clear hS hz hb3)
          refine bodyPost_ret (results_tmp2 rfl _ _ _) rfl ?_
          refine ⟨⟨some ⟨w3.heap.size, 0, none⟩, capS w3 (S ++ ⟨#[13, 10]⟩), by rw [HW0.out.1, ← HSB.out, bl_len, HSZ.out]; rfl, ?_⟩, g_on HB3.out (bsW_below _ _)⟩
          have h := bsW_rd w3 (S ++ ⟨#[13, 10]⟩) (by rw [HSZ.out]; have := HZ.out; have e : maxLen = 9223372036854775807 := rfl; omega)
          rw [HSB.out] at h
          exact h

set_option maxHeartbeats 4000000 in
theorem rcheck15_any (a : An) (io : Option Addr) (ic : Nat) (w : World) (hi : GRd EM w io a.items ic) (hk : a.key.size ≤ maxLen) (hf : a.Fit) :
    Calls Tryd.prog 15 #[.agg (a.arr (.slice io a.items.length ic))] w fun e w' => e = .returned (.int .i64 (if a.may = true then 0 else 8)) ∧ Below w.heap.size w w' := by
  obtain ⟨W, hW⟩ : ∃ W, W = w.alloc (.cells (a.arr (.slice io a.items.length ic)) 27) := ⟨_, rfl⟩
  have HB : Hid (Below w.heap.size w W) := by rw [hW]; exact g_alloc _ _
  have HX : Hid (GBx W w.heap.size (a.cl (.slice io a.items.length ic))) := by rw [hW]; exact GBx.made w (a.cl _) _
  have HMY := Hid.mk2 (rmay15_any a io ic W (hi.below HB.out) hk hf.n0 hf.n1)
  obtain ⟨MB, hMB⟩ : ∃ M, M = a.may := ⟨_, rfl⟩
  rw [← hMB] at HMY ⊢
  obtain ⟨A0, A1, A2, L, A4, A5, A6⟩ := a
  unfold An.arr at hW HMY ⊢
  unfold An.cl at HX
  dsimp only at *
  clear hMB hi hk hf
  have x0 := HX.out.c 0 (by simp)
  have x1 := HX.out.c 1 (by simp)
  have x2 := HX.out.c 2 (by simp)
  have x3 := HX.out.c 3 (by simp)
  have x4 := HX.out.c 4 (by simp)
  have x5 := HX.out.c 5 (by simp)
  have x6 := HX.out.c 6 (by simp)
  simp only [List.getElem_cons_zero, List.getElem_cons_succ] at x0 x1 x2 x3 x4 x5 x6
  go_enter Tryd.func15, Tryd.ntmps15
  go_upto_region 1 with (fail)
  rw [← hW]
  clear hW
  cases MB
  all_goals
    go_wp2_with (go_at_call 29; refine (HMY.out).mono ?_; rintro e w1 ⟨rfl, hb⟩; have HB1 := Hid.mk2 (g_on HB.out hb); clear hb)
    go_ret
    exact ⟨rfl, HB1.out⟩
end Go.Proofs.YtfmpbddhejpjaaaDoor
/-
  Structs of several cells that are loaded and stored whole.
-/
namespace Go.Proofs.YtfmpbddhejpjaaaDoor
open Go.Proofs.YtfmpbddhejpjaaaDoor.It
open Go.RowKit
set_option linter.unusedSimpArgs false
set_option linter.unusedVariables false
set_option maxRecDepth 100000

theorem zres_cell1 {fn : Func} {s : Tmp} {ty : TypeId} {tmps : Array Value} {w : World} {b : Nat} {v : Value} (h : fn.results = #[.cell s ty]) (hs : tmps.getD s undef = .pointer (some ⟨b, 0, none⟩)) (hl : (loadVar ty ⟨b, 0, none⟩).run Tryd.prog w = .ok v w) :
    (results fn tmps).run Tryd.prog w = .ok v w := by
  have hs2 : tmps[s]?.getD undef = .pointer (some ⟨b, 0, none⟩) := by simpa using hs
  simp [results, h, hs2, hl, asAddr]
theorem ywpl_load_g {ops : Array Oper} {rest : List Oper} {o : Oper} {a : Act} {w : World} {Q : Exit → Act → World → Prop} (hw : Region.wanted o (yielded ops a.tmps) = true) (ty : TypeId) (s : Operand) (ho : o.op = .load ty s) (b : Nat) (hx : a.eval s = .pointer (some ⟨b, 0, none⟩)) (cs : List Value) (hc : GBx w b cs) (d : TypeDesc)
    (hu : Tryd.prog.underlying ty = some d) (hd : (match d with | .struct _ | .array _ _ => true | _ => false) = true) (hi : (Tryd.prog.info? ty).map (·.size) = some cs.length) (h : wpList Tryd.prog ops Q rest (a.put o.dst (.agg cs.toArray)) w) : wpList Tryd.prog ops Q (o :: rest) a w := by
  refine BigFrame.wpList_want hw fun K hK => ?_
  have hlv := load_var hc ty d hu hd hi
  unfold Oper.wp execOp
  simp only [ho, hx, Instr.loadAt, Instr.sureAddr, Sem.run_bind, Sem.run_pure, Result.andThen_ok, hlv]
  exact hK _ _ h
end Go.Proofs.YtfmpbddhejpjaaaDoor
/-
  Structs of several cells that are stored whole; how long what is written is.
-/
namespace Go.Proofs.YtfmpbddhejpjaaaDoor
open Go.Proofs.YtfmpbddhejpjaaaDoor.It
open Go.RowKit
set_option linter.unusedSimpArgs false
set_option linter.unusedVariables false
set_option maxRecDepth 100000

theorem lines_len7 {x : Im} (h : x.ok) : x.lines.length ≤ 700 := by
  have h1 : (joinW x.words).length ≤ 170 := by
    have h3 := h.wl.each
    unfold Im.words at h3 ⊢
    rw [joinW_cons, List.length_append, bl_len]
    have h5 := joinW_len 32 [x.key, dec x.flags, dec x.till, dec x.unique, dec (x.value.size : Int)] (fun y hy => (h3 y (List.mem_cons_of_mem _ hy)).1)
    have h4 : sVALUE.size = 5 := rfl
    simp only [List.length_cons, List.length_nil] at h5
    omega
  unfold Im.lines
  simp only [List.length_append, List.length_cons, List.length_nil, bl_len]
  have := h.val
  omega
theorem flat_len7 : ∀ L : List Im, (∀ x ∈ L, x.ok) → (L.flatMap Im.lines).length ≤ L.length * 700
  | [], _ => by simp
  | a :: t, h => by
    have h1 := lines_len7 (h a (by simp))
    have h2 := flat_len7 t (fun x hx => h x (by simp [hx]))
    rw [List.flatMap_cons, List.length_append, List.length_cons, Nat.add_mul]
    omega
theorem wrE_parts {a : An} (hE : a.wrE = 0) : a.may = true ∧ a.hasL = true := by
  unfold An.wrE at hE
  by_cases h : a.may = true ∧ a.hasL = true
  · exact h
  · rw [if_neg h] at hE; cases hE
end Go.Proofs.YtfmpbddhejpjaaaDoor
/-
  How long what is written is.
-/
namespace Go.Proofs.YtfmpbddhejpjaaaDoor
open Go.Proofs.YtfmpbddhejpjaaaDoor.It
open Go.RowKit
set_option linter.unusedSimpArgs false
set_option linter.unusedVariables false
set_option maxRecDepth 100000
theorem wr15_len {a : An} (hE : a.wrE = 0) (hf : a.Fit) : a.wr.length ≤ 6200 := by
  obtain ⟨h1, h2⟩ := wrE_parts hE
  obtain ⟨i1, i2, _⟩ := items_ok h1 h2 hf
  have h3 := (last_ok hE hf).wl.fine.1
  have h4 := Nat.le_trans (flat_len7 a.items i1) (Nat.mul_le_mul_right _ i2)
  unfold An.wr An.lines
  rw [if_pos hE]
  simp only [List.length_append, List.length_cons, List.length_nil]
  omega
theorem wr15_nil {a : An} (hE : ¬ a.wrE = 0) : a.wr = [] := by unfold An.wr; rw [if_neg hE]
end Go.Proofs.YtfmpbddhejpjaaaDoor
