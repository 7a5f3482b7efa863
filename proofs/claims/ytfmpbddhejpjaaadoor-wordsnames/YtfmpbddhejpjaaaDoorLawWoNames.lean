/-
  WordsNames: the answers' numbers, and the chapter's examples. Condition: the listed variables are as their texts lay them (the card ties them).
-/
import Derived.Test.YtfmpbddhejpjaaaDoorWpB
import Derived.Test.YtfmpbddhejpjaaaDoorWpC
import Derived.Test.YtfmpbddhejpjaaaDoorWpE
namespace Go.Proofs.YtfmpbddhejpjaaaDoor
open Go.Proofs.YtfmpbddhejpjaaaDoor.It
open Go.ChangeShapes Go.WideShapes Go.ChangeAt Go.RowKit
open Go.ChangeMaps (open_string shut_string)
set_option linter.unusedSimpArgs false
set_option linter.unusedVariables false
set_option maxRecDepth 100000
theorem wnames_f0 : readW (bl ⟨#[68, 69, 76, 69, 84, 69, 68, 32, 50, 13, 10]⟩) 2 = (az, 0, 8) := by kernel_rfl
theorem wnames_f1 : readW (bl ⟨#[78, 85, 77, 66, 69, 82, 32, 48, 49, 13, 10]⟩) 6 = (az, 0, 8) := by kernel_rfl
theorem wnames_f2 : readW (bl ⟨#[86, 65, 76, 85, 69, 32, 107, 32, 55, 32, 48, 32, 51, 13, 10]⟩) 1 = (az, 0, 8) := by kernel_rfl
theorem wnames_f3 : readW (bl ⟨#[83, 84, 79, 82, 69]⟩) 2 = (az, 0, 0) := by kernel_rfl
theorem wnames_f4 : readW (bl ⟨#[83, 84, 79, 82, 69, 68, 13, 10, 120]⟩) 5 = ((An.mk 1 5 1 [] 0 false ⟨#[]⟩), 8, 0) := by kernel_rfl
theorem wnames_f5 : readW (bl ⟨#[80, 79, 78, 71, 13, 10]⟩) 0 = ((An.mk 4 0 0 [] 0 false ⟨#[]⟩), 6, 0) := by kernel_rfl
theorem wnames_f6 : readW (bl ⟨#[68, 69, 78, 73, 69, 68, 13, 10]⟩) 0 = (az, 0, 8) := by kernel_rfl
theorem wnames_d : readW (bl ⟨#[68, 69, 76, 69, 84, 69, 68, 32, 50, 13, 10]⟩) 10 = (An.mk 1 10 1 [] 2 false ⟨#[]⟩, 11, 0) := by kernel_rfl
theorem wrd_mark (w : World) (l : List UInt8) (cs : List Value) (m : Nat × Nat) (hcs : cs = l.map fun c => .int .u8 (c.toNat : Int)) (hl : l.length ≤ 1000) : GRd EY (w.alloc (.cells cs.toArray 5 m)) (some ⟨w.heap.size, 0, none⟩) l l.length := by
  subst hcs
  refine ⟨Nat.le_refl _, by omega, (fun e => by cases e), .inr ⟨w.heap.size, 0, rfl, by show _ < (w.heap.push _).size; simp, fun i hi j hj => ?_⟩⟩
  have hj0 : j = 0 := by have : j < 1 := hj; omega
  subst hj0
  have h := World.cell?_alloc_mark w (l.map fun c => Value.int .u8 (c.toNat : Int)).toArray 5 m i
  have e : (0 + i * EY.sz + 0) = i := by show 0 + i * 1 + 0 = i; omega
  rw [e, h]
  simp [EY, hi]
theorem gbx_get2 {w : World} {b : Nat} {vs : List Value} (h : GBx w b vs) : ∀ j v, vs[j]? = some v → w.cell? ⟨b, j, none⟩ = some v := by
  intro j v hv
  obtain ⟨hj, e⟩ := List.getElem?_eq_some_iff.1 hv
  rw [h.c j hj, e]
/-- more bytes than there may be -/
theorem wRead_long (V : World) (ao : Option Addr) (m cap : Nat) (of_ : Int) (hm : 16384 < m) (hm2 : m ≤ 9223372036854775807) : Calls Tryd.prog 8 #[.slice ao m cap, .int .u8 of_] V fun e V' => e = .returned (.tuple #[.agg #[.int .u8 0, .int .u8 0, .int .u8 0, .slice none 0 0, .int .u64 0, .bool false, .string ⟨#[]⟩], .int .i64 0, .int .i64 3]) ∧ Below V.heap.size V V' := by
  have hmi : (16384 : Int) < (m : Int) := by omega
  have hm3 : (m : Int) ≤ 9223372036854775807 := by omega
  clear hm hm2
  go_enter Tryd.func8, Tryd.ntmps8
  go_wp2
  first
    | exact bodyPost_ret (res_cell3 rfl rfl (load_var (GBx.made V anz 27) 27 _ Tryd.underlying27 rfl answer_info)) rfl ⟨rfl, g_alloc _ _⟩
    | exact bodyPost_ret (res_cell3 rfl rfl (load_var (zset7 (GBx.made V anz 27) rfl _ _ _ _ _ _ _) 27 _ Tryd.underlying27 rfl answer_info)) rfl ⟨rfl, zbelow7 (g_alloc _ _) (Nat.le_refl _) _ _ _ _ _ _ _⟩
set_option maxHeartbeats 2000000 in
theorem reads_any (s : ByteArray) (of_ : Int) (a : An) (n : Nat) (er : Int) (hf : readW (bl s) of_ = (a, n, er)) (hs : s.size ≤ 16384) (V : World) (hv : Vw V) :
    Calls Tryd.prog 9 #[.string s, .int .u8 of_, .int .u8 a.kind, .int .i64 (n : Int), .int .i64 er] V fun e V' => e = .returned (.bool true) ∧ Below V.heap.size V V' := by
  have hsb : (bl s).length = s.size := bl_len s
  have hB1 := bsW_below V s
  have HN : Hid (Calls Tryd.prog 8 #[.slice (some ⟨V.heap.size, 0, none⟩) s.size (capS V s), .int .u8 of_] (bsW V s) fun e V' => (∃ lo lc, e = .returned (.tuple #[.agg (a.arr (.slice lo a.items.length lc)), .int .i64 (n : Int), .int .i64 er]) ∧ GRd EM V' lo a.items lc) ∧ Below (bsW V s).heap.size (bsW V s) V') := by
    refine (wRead_any (bsW V s) (some ⟨V.heap.size, 0, none⟩) (bl s) (capS V s) (bsW_rd V s (Nat.le_trans hs (by decide))) (by omega) of_ (hv.below hB1).gw (hv.below hB1).rt s.size hsb.symm).mono ?_
    intro e V' q
    have q1 := q.ex
    rw [hf] at q1
    exact ⟨q1, q.below⟩
  have HSB := Hid.mk2 hB1
  have hcv := conv_str s
  have q1 : ((n : Int) == (n : Int)) = true := by simp
  have q2 : (a.kind == a.kind) = true := by simp
  have q3 : (er == er) = true := by simp
  obtain ⟨AK, hAK⟩ : ∃ k, k = a.kind := ⟨_, rfl⟩
  have HAK := Hid.mk2 hAK
  rw [← hAK] at q2 ⊢
  clear hf hs hsb hB1 hv hAK
  go_enter Tryd.func9, Tryd.ntmps9
  go_wp2_with (first
    | (go_at_call 8; refine HN.out.mono ?_; rintro e w5 ⟨⟨k5, c5, rfl, hk5⟩, hb5⟩; have HB5 := Hid.mk2 (g_on HSB.out hb5); obtain ⟨CS, hCS⟩ : ∃ CS, CS = a.cl (.slice k5 a.items.length c5) := ⟨_, rfl⟩; have hAS : a.arr (.slice k5 a.items.length c5) = CS.toArray := (by rw [hCS]; rfl); rw [hAS]; have HCS : Hid (CS.length = 7 ∧ (∀ v ∈ CS, v.oneCell' = true) ∧ CS[0]? = some (.int .u8 AK)) := (by rw [hCS, HAK.out]; exact ⟨rfl, ancl_one _ _ _ _, rfl⟩); clear hk5 hb5 hCS hAS)
    | (refine ywpl_store rfl 27 _ _ rfl w5.heap.size CS (az.cl (.slice none 0 0)) rfl rfl (by rw [HCS.out.1]; kernel_rfl) (GBx.made w5 _ _) (by rw [HCS.out.1]; rfl) HCS.out.2.1 ?_; obtain ⟨w7, hw7⟩ : ∃ w7, w7 = ysets (w5.alloc (.cells (az.cl (.slice none 0 0)).toArray 27)) w5.heap.size 0 CS := ⟨_, rfl⟩; (first | rw [← hw7] | (change wpList _ _ _ _ _ (ysets (w5.alloc (.cells (az.cl (.slice none 0 0)).toArray 27)) w5.heap.size 0 CS); rw [← hw7])); have hb7 : Below w5.heap.size w5 w7 := (by rw [hw7]; exact (g_alloc w5 _).grown (ysets_grown _ _ _ _) (by simp) (fun k hk => by cases hk; exact Nat.le_refl _)); have HB7 := Hid.mk2 (g_on HB5.out hb7); have HD7 : Hid (GBx w7 w5.heap.size CS) := (by rw [hw7]; exact ybox (GBx.made w5 _ _) _ (by rw [HCS.out.1]; rfl)); have d0 := gbx_get2 HD7.out 0 _ HCS.out.2.2; clear hw7 hb7))
  go_ret
  exact ⟨by first | rfl | simp, HB7.out⟩
set_option maxHeartbeats 4000000 in
theorem wordsNames_walk (V : World) (hv : Vw V) : Calls Tryd.prog 3 #[] V fun e w' => e = .returned (.bool true) ∧ Below V.heap.size V w' := by
  have HF0 : Hid (∀ W, Below V.heap.size V W → Calls Tryd.prog 9 #[.string ⟨#[68, 69, 76, 69, 84, 69, 68, 32, 50, 13, 10]⟩, .int .u8 2, .int .u8 0, .int .i64 0, .int .i64 8] W fun e V' => e = .returned (.bool true) ∧ Below W.heap.size W V') := fun W h => reads_any ⟨#[68, 69, 76, 69, 84, 69, 68, 32, 50, 13, 10]⟩ 2 az 0 8 wnames_f0 (by decide) W (hv.below h)
  have HF1 : Hid (∀ W, Below V.heap.size V W → Calls Tryd.prog 9 #[.string ⟨#[78, 85, 77, 66, 69, 82, 32, 48, 49, 13, 10]⟩, .int .u8 6, .int .u8 0, .int .i64 0, .int .i64 8] W fun e V' => e = .returned (.bool true) ∧ Below W.heap.size W V') := fun W h => reads_any ⟨#[78, 85, 77, 66, 69, 82, 32, 48, 49, 13, 10]⟩ 6 az 0 8 wnames_f1 (by decide) W (hv.below h)
  have HF2 : Hid (∀ W, Below V.heap.size V W → Calls Tryd.prog 9 #[.string ⟨#[86, 65, 76, 85, 69, 32, 107, 32, 55, 32, 48, 32, 51, 13, 10]⟩, .int .u8 1, .int .u8 0, .int .i64 0, .int .i64 8] W fun e V' => e = .returned (.bool true) ∧ Below W.heap.size W V') := fun W h => reads_any ⟨#[86, 65, 76, 85, 69, 32, 107, 32, 55, 32, 48, 32, 51, 13, 10]⟩ 1 az 0 8 wnames_f2 (by decide) W (hv.below h)
  have HF3 : Hid (∀ W, Below V.heap.size V W → Calls Tryd.prog 9 #[.string ⟨#[83, 84, 79, 82, 69]⟩, .int .u8 2, .int .u8 0, .int .i64 0, .int .i64 0] W fun e V' => e = .returned (.bool true) ∧ Below W.heap.size W V') := fun W h => reads_any ⟨#[83, 84, 79, 82, 69]⟩ 2 az 0 0 wnames_f3 (by decide) W (hv.below h)
  have HF4 : Hid (∀ W, Below V.heap.size V W → Calls Tryd.prog 9 #[.string ⟨#[83, 84, 79, 82, 69, 68, 13, 10, 120]⟩, .int .u8 5, .int .u8 1, .int .i64 8, .int .i64 0] W fun e V' => e = .returned (.bool true) ∧ Below W.heap.size W V') := fun W h => reads_any ⟨#[83, 84, 79, 82, 69, 68, 13, 10, 120]⟩ 5 (An.mk 1 5 1 [] 0 false ⟨#[]⟩) 8 0 wnames_f4 (by decide) W (hv.below h)
  have HF5 : Hid (∀ W, Below V.heap.size V W → Calls Tryd.prog 9 #[.string ⟨#[80, 79, 78, 71, 13, 10]⟩, .int .u8 0, .int .u8 4, .int .i64 6, .int .i64 0] W fun e V' => e = .returned (.bool true) ∧ Below W.heap.size W V') := fun W h => reads_any ⟨#[80, 79, 78, 71, 13, 10]⟩ 0 (An.mk 4 0 0 [] 0 false ⟨#[]⟩) 6 0 wnames_f5 (by decide) W (hv.below h)
  have HF6 : Hid (∀ W, Below V.heap.size V W → Calls Tryd.prog 9 #[.string ⟨#[68, 69, 78, 73, 69, 68, 13, 10]⟩, .int .u8 0, .int .u8 0, .int .i64 0, .int .i64 8] W fun e V' => e = .returned (.bool true) ∧ Below W.heap.size W V') := fun W h => reads_any ⟨#[68, 69, 78, 73, 69, 68, 13, 10]⟩ 0 az 0 8 wnames_f6 (by decide) W (hv.below h)
  have HA := Hid.mk2 (fun W (h : Below V.heap.size V W) => alive15_any W (hv.below h))
  have HZ : Hid (∀ W, Below V.heap.size V W → Calls Tryd.prog 10 #[.agg #[.int .u8 0, .int .u8 0, .int .u8 0, .slice none 0 0, .int .u64 0, .bool false, .string ⟨#[]⟩]] W fun e w' => (∃ ao cap, e = .returned (.tuple #[.slice ao 0 cap, .int .i64 8])) ∧ Below W.heap.size W w') := by
    intro W hW
    refine (wWrite_any az none 0 W (GRd.nil W) (by decide) (fun x hx => by cases hx) ⟨by decide, by decide, fun x hx => by cases hx⟩ (hv.below hW).tab (hv.below hW).rt).mono ?_
    rintro e w' ⟨⟨ao, cap, h1, h2⟩, h3⟩
    have hE : az.wrE = 8 := rfl
    rw [hE, wr15_nil (by rw [hE]; decide)] at h1
    exact ⟨⟨ao, cap, h1⟩, h3⟩
  obtain ⟨w5, hw5⟩ : ∃ w5, w5 = V.alloc (.cells #[.int .u8 68, .int .u8 69, .int .u8 76, .int .u8 69, .int .u8 84, .int .u8 69, .int .u8 68, .int .u8 32, .int .u8 50, .int .u8 13, .int .u8 10] 5 (11, 12)) := ⟨_, rfl⟩
  have hcc : (convert 31 31 (.slice (some ⟨V.heap.size, 0, none⟩) 11 11)).run Tryd.prog (V.alloc (.cells #[.int .u8 68, .int .u8 69, .int .u8 76, .int .u8 69, .int .u8 84, .int .u8 69, .int .u8 68, .int .u8 32, .int .u8 50, .int .u8 13, .int .u8 10] 5)) = .ok (.slice (some ⟨V.heap.size, 0, none⟩) 11 11) w5 := by
    have h := Lib.run_convert_bytes_const (P := Tryd.prog) V 31 5 #[.int .u8 68, .int .u8 69, .int .u8 76, .int .u8 69, .int .u8 84, .int .u8 69, .int .u8 68, .int .u8 32, .int .u8 50, .int .u8 13, .int .u8 10] 11 11 Tryd.underlying31 Tryd.underlying5
    rw [hw5]
    simpa using h
  have HB5 : Hid (Below V.heap.size V w5) := by rw [hw5]; exact g_alloc _ _
  have HR5 : GRd EY w5 (some ⟨V.heap.size, 0, none⟩) (bl ⟨#[68, 69, 76, 69, 84, 69, 68, 32, 50, 13, 10]⟩) 11 := by rw [hw5]; exact wrd_mark V (bl ⟨#[68, 69, 76, 69, 84, 69, 68, 32, 50, 13, 10]⟩) [.int .u8 68, .int .u8 69, .int .u8 76, .int .u8 69, .int .u8 84, .int .u8 69, .int .u8 68, .int .u8 32, .int .u8 50, .int .u8 13, .int .u8 10] (11, 12) rfl (by decide)
  have HRD : Hid (Calls Tryd.prog 8 #[.slice (some ⟨V.heap.size, 0, none⟩) 11 11, .int .u8 10] w5 fun e V' => (∃ lo lc, e = .returned (.tuple #[.agg ((An.mk 1 10 1 [] 2 false ⟨#[]⟩).arr (.slice lo 0 lc)), .int .i64 11, .int .i64 0])) ∧ Below w5.heap.size w5 V') := by
    refine (wRead_any w5 _ (bl ⟨#[68, 69, 76, 69, 84, 69, 68, 32, 50, 13, 10]⟩) 11 HR5 (by decide) 10 (hv.below HB5.out).gw (hv.below HB5.out).rt 11 rfl).mono ?_
    intro e V' q
    obtain ⟨lo, lc, q1, q2⟩ := q.ex
    rw [wnames_d] at q1
    exact ⟨⟨lo, lc, q1⟩, q.below⟩
  clear hw5 HR5 hv
  go_enter Tryd.func3, Tryd.ntmps3
  go_upto_region 2 with (first
    | (go_at_call 8; refine HRD.out.mono ?_; rintro e w6 ⟨⟨k6, c6, rfl⟩, hb6⟩; have HB6 := Hid.mk2 (g_on HB5.out hb6); obtain ⟨CS, hCS⟩ : ∃ CS, CS = (An.mk 1 10 1 [] 2 false ⟨#[]⟩).cl (.slice k6 0 c6) := ⟨_, rfl⟩; have hAS : (An.mk 1 10 1 [] 2 false ⟨#[]⟩).arr (.slice k6 0 c6) = CS.toArray := (by rw [hCS]; rfl); rw [hAS]; have HCS : Hid (CS.length = 7 ∧ (∀ v ∈ CS, v.oneCell' = true) ∧ CS[1]? = some (.int .u8 10) ∧ CS[2]? = some (.int .u8 1) ∧ CS[4]? = some (.int .u64 2)) := (by rw [hCS]; exact ⟨rfl, ancl_one _ _ _ _, rfl, rfl, rfl⟩); clear hb6 hCS hAS)
    | (refine ywpl_store rfl 27 _ _ rfl w6.heap.size CS (az.cl (.slice none 0 0)) rfl rfl (by rw [HCS.out.1]; kernel_rfl) (GBx.made w6 _ _) (by rw [HCS.out.1]; rfl) HCS.out.2.1 ?_; obtain ⟨w7, hw7⟩ : ∃ w7, w7 = ysets (w6.alloc (.cells (az.cl (.slice none 0 0)).toArray 27)) w6.heap.size 0 CS := ⟨_, rfl⟩; (first | rw [← hw7] | (change wpList _ _ _ _ _ (ysets (w6.alloc (.cells (az.cl (.slice none 0 0)).toArray 27)) w6.heap.size 0 CS); rw [← hw7])); have hb7 : Below w6.heap.size w6 w7 := (by rw [hw7]; exact (g_alloc w6 _).grown (ysets_grown _ _ _ _) (by simp) (fun k hk => by cases hk; exact Nat.le_refl _)); have HB := Hid.mk2 (g_on HB6.out hb7); have HD7 : Hid (GBx w7 w6.heap.size CS) := (by rw [hw7]; exact ybox (GBx.made w6 _ _) _ (by rw [HCS.out.1]; rfl)); have d1 := gbx_get2 HD7.out 1 _ HCS.out.2.2.1; have d2 := gbx_get2 HD7.out 2 _ HCS.out.2.2.2.1; have d4 := gbx_get2 HD7.out 4 _ HCS.out.2.2.2.2; clear hw7 hb7))
  go_upto_region 3 with (fail)
  clear hcc d1 d2 d4 HD7 HCS HRD HB5 HB6
  go_upto_region 4 with (first
    | (go_at_call 9; refine (HF0.out _ HB.out).mono ?_; rintro e w9 ⟨rfl, hb⟩; have HB9 : Hid (Below V.heap.size V w9) := g_on HB.out hb; clear HB hb; have HB := HB9; clear HB9 HF0)
    | (go_at_call 9; refine (HF1.out _ HB.out).mono ?_; rintro e w9 ⟨rfl, hb⟩; have HB9 : Hid (Below V.heap.size V w9) := g_on HB.out hb; clear HB hb; have HB := HB9; clear HB9 HF1)
    | (go_at_call 9; refine (HF2.out _ HB.out).mono ?_; rintro e w9 ⟨rfl, hb⟩; have HB9 : Hid (Below V.heap.size V w9) := g_on HB.out hb; clear HB hb; have HB := HB9; clear HB9 HF2)
    | (go_at_call 9; refine (HF3.out _ HB.out).mono ?_; rintro e w9 ⟨rfl, hb⟩; have HB9 : Hid (Below V.heap.size V w9) := g_on HB.out hb; clear HB hb; have HB := HB9; clear HB9 HF3)
    | (go_at_call 9; refine (HF4.out _ HB.out).mono ?_; rintro e w9 ⟨rfl, hb⟩; have HB9 : Hid (Below V.heap.size V w9) := g_on HB.out hb; clear HB hb; have HB := HB9; clear HB9 HF4)
    | (go_at_call 9; refine (HF5.out _ HB.out).mono ?_; rintro e w9 ⟨rfl, hb⟩; have HB9 : Hid (Below V.heap.size V w9) := g_on HB.out hb; clear HB hb; have HB := HB9; clear HB9 HF5)
    | (go_at_call 9; refine (HF6.out _ HB.out).mono ?_; rintro e w9 ⟨rfl, hb⟩; have HB9 : Hid (Below V.heap.size V w9) := g_on HB.out hb; clear HB hb; have HB := HB9; clear HB9 HF6))
  obtain ⟨i0, hi, hz0, hz1, hz2⟩ := info_parts okY.info
  have hz2' : i0.bytes = 1 := hz2
  go_wp2_with (first
    | (go_at_call 10; refine (HZ.out _ HB.out).mono ?_; rintro e w10 ⟨⟨a10, c10, rfl⟩, hb10⟩; have HB10 := Hid.mk2 (g_on HB.out hb10); clear hb10)
    | (at_make; refine wpList_make_full _ rfl _ _ 31 rfl w10.heap.size 5 i0 _ 1 Tryd.underlying31 hi hz0 hz1 .i64 .i64 _ _ 16385 rfl rfl (by rfl) (by rfl) (by rw [hz2']; decide) (by decide) (Nat.le_refl _) ?_; intro w11 _ hg11; have HB11 := Hid.mk2 (g_on HB10.out (g_grown_below hg11)); clear hg11)
    | (go_at_call 8; refine (wRead_long w11 _ 16385 16385 1 (by decide) (by decide)).mono ?_; rintro e w12 ⟨rfl, hb12⟩; have HB12 := Hid.mk2 (g_on HB11.out hb12); clear hb12)
    | (refine ywpl_store rfl 27 _ _ rfl w12.heap.size (az.cl (.slice none 0 0)) (az.cl (.slice none 0 0)) rfl rfl (by kernel_rfl) (GBx.made w12 _ _) rfl (ancl_one az _ _ _) ?_; obtain ⟨w13, hw7⟩ : ∃ w7, w7 = ysets (w12.alloc (.cells (az.cl (.slice none 0 0)).toArray 27)) w12.heap.size 0 (az.cl (.slice none 0 0)) := ⟨_, rfl⟩; (first | rw [← hw7] | (change wpList _ _ _ _ _ (ysets (w12.alloc (.cells (az.cl (.slice none 0 0)).toArray 27)) w12.heap.size 0 (az.cl (.slice none 0 0))); rw [← hw7])); have hb7 : Below w12.heap.size w12 w13 := (by rw [hw7]; exact (g_alloc w12 _).grown (ysets_grown _ _ _ _) (by simp) (fun k hk => by cases hk; exact Nat.le_refl _)); have HB13 := Hid.mk2 (g_on HB12.out hb7); clear hw7 hb7)
    | (go_at_call 11; refine (HA.out _ HB13.out).mono ?_; rintro e w14 ⟨rfl, hb14⟩; have HB14 := Hid.mk2 (g_on HB13.out hb14); clear hb14))
  go_ret
  exact ⟨by first | rfl | simp, HB14.out⟩

set_option maxRecDepth 100000 in
theorem wordsNames_lifted (os : Os) (started : os.Started) (H : Type) (enc : TypeId × Value → H) :
    ReturnsInHanded {} Tryd.checked os 3 .any (fun w args => (Rows.wordsNamesSpec.pre enc Tryd.prog Tryd.f3 [] false w args ∧ laidMetH Tryd.prog laid6 w) ∧ sizedMet enc Tryd.prog Tryd.f3 (OpenSpec.ofChange Rows.wordsNamesSpec) false w args) (Rows.wordsNamesSpec.post enc Tryd.prog Tryd.f3 false true false false) := by
  refine handed_shaped_and (C := Tryd.checked) (X := fun w _ => laidMetH Tryd.prog laid6 w) (fun _ _ _ hh h => h.of_heap hh) own started (by kernel_rfl) Tryd.func3
    (ChangeSpec.witness_shaped (enc := enc) (C := Tryd.checked) (os := os) (X := fun w _ => laidMetH Tryd.prog laid6 w) false (World.laidAll Tryd.prog os laid6) #[] 8 (World.laidAll_os _ _ _)
      (World.shaped_of_ZipB (by kernel_rfl) (by kernel_rfl)) (by kernel_rfl) (by kernel_rfl) (by kernel_rfl)
      (by rw [MakeChecks.laidMetH_plain _ _ _ (by kernel_rfl)]; exact laidMet_laidAll _ (by kernel_rfl) (by kernel_rfl))) ?_
  intro W base args ds gs before hval0 hW hcnd _ hL hsh
  have hval : ∀ (j : Nat) t v, Tryd.f3.params[j]? = some t → args[j]? = some v → Value.okWide Tryd.prog W .any base t v := hval0
  have hW' := hW
  obtain ⟨p, q, hA0, hV, rfl, hfz, hnd⟩ := hW
  have hA : DataW.TrodAll enc Tryd.prog W 0 (fun _ => true) true Tryd.f3.params.toList args.toList ds p := hA0
  rw [Tryd.params3] at hA hval
  obtain ⟨rfl, rfl, rfl⟩ := trodAll_none hA
  obtain ⟨rfl, rfl⟩ := trodVars_none hV
  clear hA0 hval0
  refine (wordsNames_walk W (vw_of6 hL hsh) ).mono fun e W' ⟨he, bel⟩ => ?_
  subst he
  exact ⟨_, rfl, _, _, _, [], _, [], hW', trodAll_mk1 (shut_bool Tryd.underlying4 _), trodAll_mk0, rfl, bel.frame _, fun h => by cases h⟩

theorem wordsNames_proved : Rows.WordsNamesSaid :=
  OpenClaim.holds_of_wide 3 Tryd.f3 rfl rfl rfl rfl rfl rfl rfl ⟨rfl, rfl, rfl, rfl, rfl⟩ rfl rfl rfl rfl rfl (by kernel_rfl) Tryd.func3 (by kernel_rfl)
    (of_decide_eq_true (by kernel_rfl)) (by unfold Func.isWrapper; first | (rw [if_pos (by decide +kernel)]; kernel_rfl) | (rw [if_neg (by decide +kernel)]; exact ⟨rfl, rfl⟩))
    (fun os started H enc _ => wordsNames_lifted os started H enc)

theorem wordsNames_card : Rows.WordsNamesCardSaid :=
  Claim7.holds_tied_plain_at .later [] [.data, .data, .data, .data, .data, .pinned] true Rows.wordsNamesCard.stood.harness false
    wordsNames_proved (fun _ h => by cases h) (by kernel_rfl) (fun _ h => by cases h) wordsNames_row_tie rfl ⟨rfl, rfl⟩ (by kernel_rfl) rfl
    (fun f fn hf hfn => by
      obtain rfl : f = 3 := Option.some.inj ((show Tryd.prog.funcNamed "cloakroom/cloakroomlaw15.WordsNames" = some 3 by kernel_rfl).symm.trans hf) |>.symm
      obtain rfl : fn = Tryd.f3 := (Option.some.inj (Tryd.func3.symm.trans hfn)).symm
      exact ⟨by kernel_rfl, fun j t ht => by
        rw [Tryd.params3] at ht
        have hm : t ∈ ([] : List TypeId) := by simpa using Array.mem_of_getElem? ht
        have hall : (([] : List TypeId).all fun u => !Tryd.prog.wantsStandIn u) = true := by kernel_rfl
        exact (show Tryd.prog.wantsStandIn t = false by simpa using List.all_eq_true.1 hall t hm)⟩)
    (by kernel_rfl)
#print axioms wordsNames_card
end Go.Proofs.YtfmpbddhejpjaaaDoor
