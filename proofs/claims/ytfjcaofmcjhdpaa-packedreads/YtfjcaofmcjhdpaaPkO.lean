/-
  The document's answer of a packet, walked.
-/
import Derived.Test.YtfjcaofmcjhdpaaPkN
import Derived.Test.YtfjcaofmcjhdpaaWpN
namespace Go.Proofs.Ytfjcaofmcjhdpaa
open Go.Proofs.Ytfjcaofmcjhdpaa.It
open Go.RowKit
set_option linter.unusedSimpArgs false
set_option linter.unusedVariables false
set_option maxRecDepth 100000

/-- what Of answers -/
structure OfQ (w w' : World) (c : UInt8) (b : List UInt8) (e : Ending) : Prop where
  ex : ∃ (a : An) (lo : Option Addr) (lc : Nat) (ok : Bool), e = .returned (.tuple #[.agg (a.arr (.slice lo a.items.length lc)), .bool ok]) ∧ GRd EM w' lo a.items lc ∧ (∀ x, lo = some x → w.heap.size ≤ x.block) ∧ ok = (okP c b && (pAns c b).1.may) ∧ (ok = true → (pAns c b).1 = a)
  below : Below w.heap.size w w'
/-- an answer of a kind that has no body of its own -/
def plainA (K : Int) (y : Bool) (k : ByteArray) : An := ⟨K, 0, 0, [], 0, y, k⟩
theorem pAns_flag {c : UInt8} (h : c = 2 ∨ c = 3) (b : List UInt8) : pAns c b = (plainA (c.toNat : Int) (pTruth ⟨b, false⟩).1 ⟨#[]⟩, (pTruth ⟨b, false⟩).2) := by
  unfold pAns
  rw [if_neg (by rcases h with rfl | rfl <;> decide), if_pos h]
  rfl
theorem pAns_push (b : List UInt8) : pAns 7 b = (plainA 7 false (mk1 b), ⟨[], false⟩) := by
  unfold pAns
  rw [if_neg (by decide), if_neg (by decide), if_pos rfl]
  rfl
theorem pAns_else {c : UInt8} (h1 : c ≠ 1) (h2 : c ≠ 2) (h3 : c ≠ 3) (h7 : c ≠ 7) (b : List UInt8) : pAns c b = (plainA (c.toNat : Int) false ⟨#[]⟩, ⟨b, false⟩) := by
  unfold pAns
  rw [if_neg h1, if_neg (fun q => q.elim h2 h3), if_neg h7]
  rfl
theorem truth_one (z : UInt8) : pTruth ⟨[z], false⟩ = (decide (z = 1), ⟨[], (!decide (z = 1) && !decide (z = 0))⟩) := by
  unfold pTruth pSingle
  simp
theorem okP_flag1 {c z : UInt8} (h : c = 2 ∨ c = 3) : okP c [z] = decide (z.toNat < 2) := by
  unfold okP
  rw [pAns_flag h, truth_one]
  have h1 : (z = 1) ↔ z.toNat = 1 := ⟨fun e => by rw [e]; rfl, fun e => UInt8.toNat.inj (by rw [e]; rfl)⟩
  have h0 : (z = 0) ↔ z.toNat = 0 := ⟨fun e => by rw [e]; rfl, fun e => UInt8.toNat.inj (by rw [e]; rfl)⟩
  simp only [h1, h0]
  rcases (by omega : z.toNat = 0 ∨ z.toNat = 1 ∨ 2 ≤ z.toNat) with q | q | q
  · rw [q]; rfl
  · rw [q]; rfl
  · rw [decide_eq_false (by omega : ¬ z.toNat = 1), decide_eq_false (by omega : ¬ z.toNat = 0), decide_eq_false (by omega : ¬ z.toNat < 2)]; rfl
theorem okP_flagn {c : UInt8} {b : List UInt8} (h : c = 2 ∨ c = 3) (hb : b.length ≠ 1) : okP c b = false := by
  match b, hb with
  | [], _ =>
    refine okP_bad ?_
    rw [pAns_flag h]
    rfl
  | x :: y :: t, _ =>
    unfold okP
    rw [pAns_flag h]
    have e : (pTruth ⟨x :: y :: t, false⟩).2.l = y :: t := rfl
    dsimp only
    rw [e, decide_eq_false (by simp)]
    simp
theorem ofQ_fin {w w' wz : World} {c : UInt8} {b : List UInt8} {a : An} {lo : Option Addr} {lc P : Nat} {ok : Bool} (hL : GRd EM w' lo a.items lc) (hg : ∀ x, lo = some x → w.heap.size + 1 ≤ x.block) (h1 : ok = (okP c b && (pAns c b).1.may)) (h2 : ok = true → (pAns c b).1 = a) (hb : Below w.heap.size w w') (hz : w'.grownBy wz (some P)) (hP : P = w.heap.size) (e : Ending) (he : e = .returned (.tuple #[.agg (a.arr (.slice lo a.items.length lc)), .bool ok])) : OfQ w wz c b e :=
  ⟨⟨a, lo, lc, ok, he, grd_grown hL hz (fun g off q _ q2 => by have h4 : w.heap.size + 1 ≤ g := hg _ q; have h5 : P = g := Option.some.inj q2; omega), (fun x q => by have := hg x q; omega), h1, h2⟩, grown_below hb hz (Nat.le_of_eq hP.symm)⟩
set_option maxHeartbeats 8000000 in
theorem rOf_any (w : World) (c : UInt8) (ao : Option Addr) (b : List UInt8) (cap : Nat) (h : GRd EY w ao b cap) (hb : b.length ≤ 5000) (m : Nat) (hm : m = b.length) :
    Calls Try.prog 24 #[.int .u8 (c.toNat : Int), .slice ao m cap] w fun e w' => OfQ w w' c b e := by
  have mixed : Try.prog.follows .mixedOrders = true := by kernel_rfl
  obtain ⟨W, hW⟩ : ∃ W, W = w.alloc (.cells #[.int .u8 0, .int .u8 0, .int .u8 0, .slice none 0 0, .int .u64 0, .bool false, .string ⟨#[]⟩] 31) := ⟨_, rfl⟩
  have hB0 : Below w.heap.size w W := by rw [hW]; exact g_alloc _ _
  have HB : Hid (Below w.heap.size w W) := hB0
  have HX : Hid (GBx W w.heap.size azc) := by rw [hW]; exact GBx.made w azc _
  obtain ⟨P, hP⟩ : ∃ P, P = w.heap.size := ⟨_, rfl⟩
  have HPE := Hid.mk2 hP
  rw [← hP] at HX
  have hPW : P < W.heap.size := HX.out.lt
  obtain ⟨K, hK⟩ : ∃ K, K = (c.toNat : Int) := ⟨_, rfl⟩
  have HKE := Hid.mk2 hK
  have hKc : ∀ (d : UInt8) (i : Int), (d.toNat : Int) = i → (K = i ↔ c = d) := fun d i hd => ⟨fun e => UInt8.toNat.inj (by omega), fun e => by rw [hK, e]; exact hd⟩
  have HC1 := hKc 1 1 rfl
  have HC2 := hKc 2 2 rfl
  have HC3 := hKc 3 3 rfl
  have HC7 := hKc 7 7 rfl
  have HKC := Hid.mk2 (show (K = 1 ↔ c = 1) ∧ (K = 2 ↔ c = 2) ∧ (K = 3 ↔ c = 3) ∧ (K = 7 ↔ c = 7) from ⟨HC1, HC2, HC3, HC7⟩)
  rw [← hK]
  obtain ⟨W2, hW2⟩ : ∃ W2, W2 = W.alloc (.cells #[.int .u8 K, .int .u8 0, .int .u8 0, .slice none 0 0, .int .u64 0, .bool false, .string ⟨#[]⟩] 31) := ⟨_, rfl⟩
  have hB2 : Below W.heap.size W W2 := by rw [hW2]; exact g_alloc _ _
  have HY2 : Hid (GBx W2 W.heap.size [.int .u8 K, .int .u8 0, .int .u8 0, .slice none 0 0, .int .u64 0, .bool false, .string ⟨#[]⟩]) := by rw [hW2]; exact GBx.made W [.int .u8 K, .int .u8 0, .int .u8 0, .slice none 0 0, .int .u64 0, .bool false, .string ⟨#[]⟩] _
  have HX2 := Hid.mk2 (HX.out.below hB2)
  have HB2 := Hid.mk2 (g_on hB0 hB2)
  have HR2 := Hid.mk2 (h.below (g_on hB0 hB2))
  have HM := Hid.mk2 hm
  have HBL := Hid.mk2 hb
  have HMN := Hid.mk2 (fun V K y k (hk : k.size ≤ maxLen) => rmay15_any (plainA K y k) none 0 V (GRd.nil _) hk (Int.le_refl _) (show (0 : Int) < 18446744073709551616 from by decide))
  have hml : (m : Int) ≤ 5000 := by omega
  clear hB0 hB2 h hm hb hK hKc HC1 HC2 HC3 HC7
  go_enter Try.func24, Try.ntmps24
  go_upto_region 1 with (fail)
  rw [← hW, ← hP]
  clear hW hP
  go_upto_region 2 with (fail)
  rw [← hW2]
  obtain ⟨Y, hY⟩ : ∃ Y, Y = W.heap.size := ⟨_, rfl⟩
  rw [← hY] at HY2 ⊢
  have hPY : P < Y := by rw [hY]; exact hPW
  have HYE := Hid.mk2 hY
  clear hW2 hY
  by_cases k1 : K = 1
  · have hc1 := HKC.out.1.1 k1
    subst hc1
    subst k1
    have HRES := Hid.mk2 (rResult_any W2 ao b cap HR2.out HBL.out m HM.out)
    have y0 := HY2.out.c 0 (by simp); have y1 := HY2.out.c 1 (by simp); have y2 := HY2.out.c 2 (by simp); have y3 := HY2.out.c 3 (by simp); have y4 := HY2.out.c 4 (by simp); have y5 := HY2.out.c 5 (by simp); have y6 := HY2.out.c 6 (by simp); simp only [List.getElem_cons_zero, List.getElem_cons_succ] at y0 y1 y2 y3 y4 y5 y6; have yf0 := HY2.out.f 0; have yf1 := HY2.out.f 1; have yf2 := HY2.out.f 2; have yf3 := HY2.out.f 3; have yf4 := HY2.out.f 4; have yf5 := HY2.out.f 5; have yf6 := HY2.out.f 6
    clear HMN HKC HKE
    go_upto_region 3 with (fail)
    go_upto_region 5 with (go_at_call 38; refine HRES.out.mono ?_; rintro e w3 ⟨⟨⟨ak, ak2, ar, L, an, ay, akey⟩, lo, lc, ok, rfl, hL, hlg, hn, hky, hok, hpa⟩, hb3⟩; have HL3 := Hid.mk2 hL; have HLG := Hid.mk2 hlg; have HNN := Hid.mk2 hn; have HKY := Hid.mk2 hky; have HOK := Hid.mk2 hok; have HPA := Hid.mk2 hpa; have HB3 := Hid.mk2 (g_on HB2.out hb3); have HX3 := Hid.mk2 (HX2.out.below hb3); have HY3 := Hid.mk2 (HY2.out.below hb3); clear y0 y1 y2 y3 y4 y5 y6 yf0 yf1 yf2 yf3 yf4 yf5 yf6; have y0 := HY3.out.c 0 (by simp); have y1 := HY3.out.c 1 (by simp); have y2 := HY3.out.c 2 (by simp); have y3 := HY3.out.c 3 (by simp); have y4 := HY3.out.c 4 (by simp); have y5 := HY3.out.c 5 (by simp); have y6 := HY3.out.c 6 (by simp); simp only [List.getElem_cons_zero, List.getElem_cons_succ] at y0 y1 y2 y3 y4 y5 y6; have yf0 := HY3.out.f 0; have yf1 := HY3.out.f 1; have yf2 := HY3.out.f 2; have yf3 := HY3.out.f 3; have yf4 := HY3.out.f 4; have yf5 := HY3.out.f 5; have yf6 := HY3.out.f 6; simp only [An.arr]; clear hL hlg hn hky hok hpa hb3)
    go_upto_region 11 with (fail)
    obtain ⟨WN, hWN⟩ : ∃ WN, WN = (((((((w3.setCell ⟨Y, 0, none⟩ (.int .u8 ak)).setCell ⟨Y, 1, none⟩ (.int .u8 ak2)).setCell ⟨Y, 2, none⟩ (.int .u8 ar)).setCell ⟨Y, 3, none⟩ (.slice lo L.length lc)).setCell ⟨Y, 4, none⟩ (.int .u64 an)).setCell ⟨Y, 5, none⟩ (.bool ay)).setCell ⟨Y, 6, none⟩ (.string akey)) := ⟨_, rfl⟩
    have HYN : Hid (GBx WN Y [.int .u8 ak, .int .u8 ak2, .int .u8 ar, .slice lo L.length lc, .int .u64 an, .bool ay, .string akey]) := by rw [hWN]; exact pset7 HY3.out rfl _ _ _ _ _ _ _
    have hYW2 : Y < W2.heap.size := HY2.out.lt
    have HGR : Hid (w3.grownBy WN (some Y)) := by rw [hWN]; exact pset7_gr w3 Y _ _ _ _ _ _ _
    have HXN : Hid (GBx WN P azc) := HX3.out.grown HGR.out (by intro q; have h1 : Y = P := Option.some.inj q; omega)
    have HBN : Hid (Below w.heap.size w WN) := grown_below HB3.out HGR.out (by rw [← HPE.out]; omega)
    have HLN : Hid (GRd EM WN lo L lc) := grd_grown HL3.out HGR.out (fun g off q _ q2 => by have h4 : W2.heap.size ≤ g := HLG.out _ q; have h5 : Y = g := Option.some.inj q2; omega)
    have HLF : Hid (∀ x, lo = some x → w.heap.size + 1 ≤ x.block) := fun x q => by have h4 := HLG.out x q; have h5 := HPE.out; omega
    rw [← hWN]
    clear hWN y0 y1 y2 y3 y4 y5 y6 yf0 yf1 yf2 yf3 yf4 yf5 yf6
    obtain ⟨MB, hMB⟩ : ∃ x, x = (An.mk ak ak2 ar L an ay akey).may := ⟨_, rfl⟩
    have HMBE := Hid.mk2 hMB
    have HMY : Hid (∀ V, Below WN.heap.size WN V → Calls Try.prog 20 #[.agg #[.int .u8 ak, .int .u8 ak2, .int .u8 ar, .slice lo L.length lc, .int .u64 an, .bool ay, .string akey]] V fun e w' => e = .returned (.bool MB) ∧ Below V.heap.size V w') := fun V hV => by
      rw [hMB]
      have hk : akey = ⟨#[]⟩ := HKY.out
      exact rmay15_any (An.mk ak ak2 ar L an ay akey) lo lc V (HLN.out.below hV) (show akey.size ≤ maxLen by rw [hk]; decide) HNN.out.1 HNN.out.2
    clear hMB
    cases ok with
    | false =>
      have HA1 : Hid (false = (okP 1 b && (pAns 1 b).1.may)) := by show _ = _; rw [← HOK.out]; rfl
      have HSS : Hid (∀ V, Below WN.heap.size WN V → V.cell? ⟨Y, 0, none⟩ = some (.int .u8 ak) ∧ V.cell? ⟨Y, 1, none⟩ = some (.int .u8 ak2) ∧ V.cell? ⟨Y, 2, none⟩ = some (.int .u8 ar) ∧ V.cell? ⟨Y, 3, none⟩ = some (.slice lo L.length lc) ∧ V.cell? ⟨Y, 4, none⟩ = some (.int .u64 an) ∧ V.cell? ⟨Y, 5, none⟩ = some (.bool ay) ∧ V.cell? ⟨Y, 6, none⟩ = some (.string akey)) := fun V hV => by
        have h := HYN.out.below hV
        exact ⟨h.c 0 (by simp), h.c 1 (by simp), h.c 2 (by simp), h.c 3 (by simp), h.c 4 (by simp), h.c 5 (by simp), h.c 6 (by simp)⟩
      have HS0 := Hid.mk2 (HSS.out WN.drew (Below.refl _ _).drew)
      refine wp_region_noPanic ?_
      refine wp_region_held_drew (S := fun W => W.cell? ⟨Y, 0, none⟩ = some (.int .u8 ak) ∧ W.cell? ⟨Y, 1, none⟩ = some (.int .u8 ak2) ∧ W.cell? ⟨Y, 2, none⟩ = some (.int .u8 ar) ∧ W.cell? ⟨Y, 3, none⟩ = some (.slice lo L.length lc) ∧ W.cell? ⟨Y, 4, none⟩ = some (.int .u64 an) ∧ W.cell? ⟨Y, 5, none⟩ = some (.bool ay) ∧ W.cell? ⟨Y, 6, none⟩ = some (.string akey)) (by kernel_rfl) HS0.out (fun _ => ?_)
      refine wpAnyH_take (i := 0) (v := .agg #[.int .u8 ak, .int .u8 ak2, .int .u8 ar, .slice lo L.length lc, .int .u64 an, .bool ay, .string akey]) rfl (by kernel_rfl) (by kernel_rfl) (by kernel_rfl) (fun _ _ _ h => h) (Or.inl ⟨by kernel_rfl, fun W hW => by obtain ⟨m0, m1, m2, m3, m4, m5, m6⟩ := hW; go_simp⟩) HS0.out ?_
      try simp only [List.getElem_toArray, List.getElem_cons_zero, List.getElem_cons_succ, Act.put, List.setIfInBounds_toArray, List.set_cons_zero, List.set_cons_succ, List.append_eq, List.cons_append, List.nil_append]
      refine wpAnyH_take (i := 1) (v := .bool false) rfl (by kernel_rfl) (by kernel_rfl) (by kernel_rfl) (fun _ _ _ h => h) (Or.inl ⟨by kernel_rfl, fun W hW => by kernel_rfl⟩) HS0.out ?_
      try simp only [List.getElem_toArray, List.getElem_cons_zero, List.getElem_cons_succ, Act.put, List.setIfInBounds_toArray, List.set_cons_zero, List.set_cons_succ, List.append_eq, List.cons_append, List.nil_append]
      refine wpAnyH_take (i := 2) (v := .bool false) rfl (by kernel_rfl) (by kernel_rfl) (by kernel_rfl) (fun _ _ _ h => h) (Or.inl ⟨by kernel_rfl, fun W hW => by kernel_rfl⟩) HS0.out ?_
      try simp only [List.getElem_toArray, List.getElem_cons_zero, List.getElem_cons_succ, Act.put, List.setIfInBounds_toArray, List.set_cons_zero, List.set_cons_succ, List.append_eq, List.cons_append, List.nil_append]
      refine wpAnyH_take (i := 3) (v := undef) rfl (by kernel_rfl) (by kernel_rfl) (by kernel_rfl) (fun _ _ _ h => h) (Or.inr ⟨by kernel_rfl, rfl⟩) HS0.out ?_
      try simp only [List.getElem_toArray, List.getElem_cons_zero, List.getElem_cons_succ, Act.put, List.setIfInBounds_toArray, List.set_cons_zero, List.set_cons_succ, List.append_eq, List.cons_append, List.nil_append]
      refine wpAnyH_take (i := 4) (v := undef) rfl (by kernel_rfl) (by kernel_rfl) (by kernel_rfl) (fun _ _ _ h => h) (Or.inr ⟨by kernel_rfl, rfl⟩) HS0.out ?_
      try simp only [List.getElem_toArray, List.getElem_cons_zero, List.getElem_cons_succ, Act.put, List.setIfInBounds_toArray, List.set_cons_zero, List.set_cons_succ, List.append_eq, List.cons_append, List.nil_append]
      refine wpAnyH_take (i := 5) (v := .bool false) rfl (by kernel_rfl) (by kernel_rfl) (by kernel_rfl) (fun _ _ _ h => h) (Or.inl ⟨by kernel_rfl, fun W hW => by kernel_rfl⟩) HS0.out ?_
      try simp only [List.getElem_toArray, List.getElem_cons_zero, List.getElem_cons_succ, Act.put, List.setIfInBounds_toArray, List.set_cons_zero, List.set_cons_succ, List.append_eq, List.cons_append, List.nil_append]
      obtain ⟨w6, hw6⟩ : ∃ w6, w6 = WN.drew := ⟨_, rfl⟩
      have HT6 : Hid (Below WN.heap.size WN w6) := by show Below _ _ _; rw [hw6]; exact (Below.refl WN.heap.size WN).drew
      rw [← hw6]
      clear hw6
      have HX6 := Hid.mk2 (HXN.out.below HT6.out)
      have HY6 := Hid.mk2 (HYN.out.below HT6.out)
      have HB7 := Hid.mk2 (g_on HBN.out HT6.out)
      have z0 := HX6.out.c 0 (by simp [azc]); have z1 := HX6.out.c 1 (by simp [azc]); have z2 := HX6.out.c 2 (by simp [azc]); have z3 := HX6.out.c 3 (by simp [azc]); have z4 := HX6.out.c 4 (by simp [azc]); have z5 := HX6.out.c 5 (by simp [azc]); have z6 := HX6.out.c 6 (by simp [azc]); simp only [azc, List.getElem_cons_zero, List.getElem_cons_succ] at z0 z1 z2 z3 z4 z5 z6; have zf0 := HX6.out.f 0; have zf1 := HX6.out.f 1; have zf2 := HX6.out.f 2; have zf3 := HX6.out.f 3; have zf4 := HX6.out.f 4; have zf5 := HX6.out.f 5; have zf6 := HX6.out.f 6
      have HY7 : Hid (GBx (((((((w6.setCell ⟨P, 0, none⟩ (.int .u8 ak)).setCell ⟨P, 1, none⟩ (.int .u8 ak2)).setCell ⟨P, 2, none⟩ (.int .u8 ar)).setCell ⟨P, 3, none⟩ (.slice lo L.length lc)).setCell ⟨P, 4, none⟩ (.int .u64 an)).setCell ⟨P, 5, none⟩ (.bool ay)).setCell ⟨P, 6, none⟩ (.string akey)) Y [.int .u8 ak, .int .u8 ak2, .int .u8 ar, .slice lo L.length lc, .int .u64 an, .bool ay, .string akey]) := HY6.out.grown (pset7_gr _ P _ _ _ _ _ _ _) (by intro q; have h1 : P = Y := Option.some.inj q; omega)
      have HS7 := Hid.mk2 (show _ ∧ _ ∧ _ ∧ _ ∧ _ ∧ _ ∧ _ from ⟨HY7.out.c 0 (by simp), HY7.out.c 1 (by simp), HY7.out.c 2 (by simp), HY7.out.c 3 (by simp), HY7.out.c 4 (by simp), HY7.out.c 5 (by simp), HY7.out.c 6 (by simp)⟩)
      refine wpAnyH_ready (rs := [6]) (by kernel_rfl) (by simp) ?_
      refine AllReadyH.cons rfl (fun K hK => ?_) AllReadyH.nil
      simp only [List.getElem_toArray, List.getElem_cons_zero, List.getElem_cons_succ]
      go_simp
      refine hK.out _ _ HS7.out (fun _ => ?_)
      clear hK K
      try simp only [List.getElem_toArray, List.getElem_cons_zero, List.getElem_cons_succ, Act.put, List.setIfInBounds_toArray, List.set_cons_zero, List.set_cons_succ, List.append_eq, List.cons_append, List.nil_append]
      refine wpAnyH_take (i := 7) (v := .bool false) rfl (by kernel_rfl) (by kernel_rfl) (by kernel_rfl) (fun _ _ _ h => h) (Or.inl ⟨by kernel_rfl, fun W hW => by kernel_rfl⟩) HS7.out ?_
      try simp only [List.getElem_toArray, List.getElem_cons_zero, List.getElem_cons_succ, Act.put, List.setIfInBounds_toArray, List.set_cons_zero, List.set_cons_succ, List.append_eq, List.cons_append, List.nil_append]
      refine wpAnyH_done (by kernel_rfl) ?_ _
      refine NoPanic.normal ?_
      go_wp2
      refine bodyPost_ret (res_cell rfl rfl (load_var (pset7 HX6.out rfl _ _ _ _ _ _ _) 31 _ Try.underlying31 rfl (by kernel_rfl))) rfl ?_
      exact ofQ_fin (a := ⟨ak, ak2, ar, L, an, ay, akey⟩) (HLN.out.below HT6.out) HLF.out HA1.out (fun e => by cases e) HB7.out (pset7_gr _ P _ _ _ _ _ _ _) HPE.out _ rfl
    | true =>
      have HA1 : Hid (MB = (okP 1 b && (pAns 1 b).1.may)) := by show _ = _; rw [← HOK.out, HPA.out rfl, HMBE.out]; rfl
      have HSS : Hid (∀ V, Below WN.heap.size WN V → V.cell? ⟨Y, 0, none⟩ = some (.int .u8 ak) ∧ V.cell? ⟨Y, 1, none⟩ = some (.int .u8 ak2) ∧ V.cell? ⟨Y, 2, none⟩ = some (.int .u8 ar) ∧ V.cell? ⟨Y, 3, none⟩ = some (.slice lo L.length lc) ∧ V.cell? ⟨Y, 4, none⟩ = some (.int .u64 an) ∧ V.cell? ⟨Y, 5, none⟩ = some (.bool ay) ∧ V.cell? ⟨Y, 6, none⟩ = some (.string akey)) := fun V hV => by
        have h := HYN.out.below hV
        exact ⟨h.c 0 (by simp), h.c 1 (by simp), h.c 2 (by simp), h.c 3 (by simp), h.c 4 (by simp), h.c 5 (by simp), h.c 6 (by simp)⟩
      have HS0 := Hid.mk2 (HSS.out WN.drew (Below.refl _ _).drew)
      refine wp_region_noPanic ?_
      refine wp_region_held_drew (S := fun W => W.cell? ⟨Y, 0, none⟩ = some (.int .u8 ak) ∧ W.cell? ⟨Y, 1, none⟩ = some (.int .u8 ak2) ∧ W.cell? ⟨Y, 2, none⟩ = some (.int .u8 ar) ∧ W.cell? ⟨Y, 3, none⟩ = some (.slice lo L.length lc) ∧ W.cell? ⟨Y, 4, none⟩ = some (.int .u64 an) ∧ W.cell? ⟨Y, 5, none⟩ = some (.bool ay) ∧ W.cell? ⟨Y, 6, none⟩ = some (.string akey)) (by kernel_rfl) HS0.out (fun _ => ?_)
      refine wpAnyH_take (i := 0) (v := .agg #[.int .u8 ak, .int .u8 ak2, .int .u8 ar, .slice lo L.length lc, .int .u64 an, .bool ay, .string akey]) rfl (by kernel_rfl) (by kernel_rfl) (by kernel_rfl) (fun _ _ _ h => h) (Or.inl ⟨by kernel_rfl, fun W hW => by obtain ⟨m0, m1, m2, m3, m4, m5, m6⟩ := hW; go_simp⟩) HS0.out ?_
      try simp only [List.getElem_toArray, List.getElem_cons_zero, List.getElem_cons_succ, Act.put, List.setIfInBounds_toArray, List.set_cons_zero, List.set_cons_succ, List.append_eq, List.cons_append, List.nil_append]
      refine wpAnyH_take (i := 1) (v := .bool true) rfl (by kernel_rfl) (by kernel_rfl) (by kernel_rfl) (fun _ _ _ h => h) (Or.inl ⟨by kernel_rfl, fun W hW => by kernel_rfl⟩) HS0.out ?_
      try simp only [List.getElem_toArray, List.getElem_cons_zero, List.getElem_cons_succ, Act.put, List.setIfInBounds_toArray, List.set_cons_zero, List.set_cons_succ, List.append_eq, List.cons_append, List.nil_append]
      refine wpAnyH_take (i := 2) (v := .bool true) rfl (by kernel_rfl) (by kernel_rfl) (by kernel_rfl) (fun _ _ _ h => h) (Or.inl ⟨by kernel_rfl, fun W hW => by kernel_rfl⟩) HS0.out ?_
      try simp only [List.getElem_toArray, List.getElem_cons_zero, List.getElem_cons_succ, Act.put, List.setIfInBounds_toArray, List.set_cons_zero, List.set_cons_succ, List.append_eq, List.cons_append, List.nil_append]
      refine wpAnyH_take (i := 3) (v := .agg #[.int .u8 ak, .int .u8 ak2, .int .u8 ar, .slice lo L.length lc, .int .u64 an, .bool ay, .string akey]) rfl (by kernel_rfl) (by kernel_rfl) (by kernel_rfl) (fun _ _ _ h => h) (Or.inl ⟨by kernel_rfl, fun W hW => by obtain ⟨m0, m1, m2, m3, m4, m5, m6⟩ := hW; go_simp⟩) HS0.out ?_
      try simp only [List.getElem_toArray, List.getElem_cons_zero, List.getElem_cons_succ, Act.put, List.setIfInBounds_toArray, List.set_cons_zero, List.set_cons_succ, List.append_eq, List.cons_append, List.nil_append]
      refine wpAnyH_ready (rs := [4]) (by kernel_rfl) (by simp) ?_
      refine AllReadyH.cons rfl (fun K hK => ?_) AllReadyH.nil
      simp only [List.getElem_toArray, List.getElem_cons_zero, List.getElem_cons_succ]
      go_simp
      go_at_call 20
      refine (HMY.out WN.drew (Below.refl _ _).drew).mono ?_
      rintro e w6 ⟨rfl, hb6⟩
      have HB6 := Hid.mk2 (g_on ((Below.refl WN.heap.size WN).drew) hb6)
      have HS6 := Hid.mk2 (HSS.out w6 HB6.out)
      refine hK.out _ _ HS6.out (fun _ => ?_)
      clear hK K hb6
      try simp only [List.getElem_toArray, List.getElem_cons_zero, List.getElem_cons_succ, Act.put, List.setIfInBounds_toArray, List.set_cons_zero, List.set_cons_succ, List.append_eq, List.cons_append, List.nil_append]
      refine wpAnyH_take (i := 5) (v := .bool MB) rfl (by kernel_rfl) (by kernel_rfl) (by kernel_rfl) (fun _ _ _ h => h) (Or.inl ⟨by kernel_rfl, fun W hW => by kernel_rfl⟩) HS6.out ?_
      try simp only [List.getElem_toArray, List.getElem_cons_zero, List.getElem_cons_succ, Act.put, List.setIfInBounds_toArray, List.set_cons_zero, List.set_cons_succ, List.append_eq, List.cons_append, List.nil_append]
      have HX6 := Hid.mk2 (HXN.out.below HB6.out)
      have HY6 := Hid.mk2 (HYN.out.below HB6.out)
      have HB7 := Hid.mk2 (g_on HBN.out HB6.out)
      have HT6 := HB6
      have z0 := HX6.out.c 0 (by simp [azc]); have z1 := HX6.out.c 1 (by simp [azc]); have z2 := HX6.out.c 2 (by simp [azc]); have z3 := HX6.out.c 3 (by simp [azc]); have z4 := HX6.out.c 4 (by simp [azc]); have z5 := HX6.out.c 5 (by simp [azc]); have z6 := HX6.out.c 6 (by simp [azc]); simp only [azc, List.getElem_cons_zero, List.getElem_cons_succ] at z0 z1 z2 z3 z4 z5 z6; have zf0 := HX6.out.f 0; have zf1 := HX6.out.f 1; have zf2 := HX6.out.f 2; have zf3 := HX6.out.f 3; have zf4 := HX6.out.f 4; have zf5 := HX6.out.f 5; have zf6 := HX6.out.f 6
      have HY7 : Hid (GBx (((((((w6.setCell ⟨P, 0, none⟩ (.int .u8 ak)).setCell ⟨P, 1, none⟩ (.int .u8 ak2)).setCell ⟨P, 2, none⟩ (.int .u8 ar)).setCell ⟨P, 3, none⟩ (.slice lo L.length lc)).setCell ⟨P, 4, none⟩ (.int .u64 an)).setCell ⟨P, 5, none⟩ (.bool ay)).setCell ⟨P, 6, none⟩ (.string akey)) Y [.int .u8 ak, .int .u8 ak2, .int .u8 ar, .slice lo L.length lc, .int .u64 an, .bool ay, .string akey]) := HY6.out.grown (pset7_gr _ P _ _ _ _ _ _ _) (by intro q; have h1 : P = Y := Option.some.inj q; omega)
      have HS7 := Hid.mk2 (show _ ∧ _ ∧ _ ∧ _ ∧ _ ∧ _ ∧ _ from ⟨HY7.out.c 0 (by simp), HY7.out.c 1 (by simp), HY7.out.c 2 (by simp), HY7.out.c 3 (by simp), HY7.out.c 4 (by simp), HY7.out.c 5 (by simp), HY7.out.c 6 (by simp)⟩)
      refine wpAnyH_ready (rs := [6]) (by kernel_rfl) (by simp) ?_
      refine AllReadyH.cons rfl (fun K hK => ?_) AllReadyH.nil
      simp only [List.getElem_toArray, List.getElem_cons_zero, List.getElem_cons_succ]
      go_simp
      refine hK.out _ _ HS7.out (fun _ => ?_)
      clear hK K
      try simp only [List.getElem_toArray, List.getElem_cons_zero, List.getElem_cons_succ, Act.put, List.setIfInBounds_toArray, List.set_cons_zero, List.set_cons_succ, List.append_eq, List.cons_append, List.nil_append]
      refine wpAnyH_take (i := 7) (v := .bool MB) rfl (by kernel_rfl) (by kernel_rfl) (by kernel_rfl) (fun _ _ _ h => h) (Or.inl ⟨by kernel_rfl, fun W hW => by kernel_rfl⟩) HS7.out ?_
      try simp only [List.getElem_toArray, List.getElem_cons_zero, List.getElem_cons_succ, Act.put, List.setIfInBounds_toArray, List.set_cons_zero, List.set_cons_succ, List.append_eq, List.cons_append, List.nil_append]
      refine wpAnyH_done (by kernel_rfl) ?_ _
      refine NoPanic.normal ?_
      go_wp2
      refine bodyPost_ret (res_cell rfl rfl (load_var (pset7 HX6.out rfl _ _ _ _ _ _ _) 31 _ Try.underlying31 rfl (by kernel_rfl))) rfl ?_
      exact ofQ_fin (a := ⟨ak, ak2, ar, L, an, ay, akey⟩) (HLN.out.below HT6.out) HLF.out HA1.out (fun _ => HPA.out (by first | rfl | trivial)) HB7.out (pset7_gr _ P _ _ _ _ _ _ _) HPE.out _ rfl
  by_cases k2 : K = 2
  · have hc2 := HKC.out.2.1.1 k2
    have HFL : Hid (c = 2 ∨ c = 3) := .inl hc2
    have HCK : Hid ((c.toNat : Int) = 2) := by show _ = _; rw [hc2]; rfl
    subst k2
    clear HKC HKE k1 hc2
    have y0 := HY2.out.c 0 (by simp); have y1 := HY2.out.c 1 (by simp); have y2 := HY2.out.c 2 (by simp); have y3 := HY2.out.c 3 (by simp); have y4 := HY2.out.c 4 (by simp); have y5 := HY2.out.c 5 (by simp); have y6 := HY2.out.c 6 (by simp); simp only [List.getElem_cons_zero, List.getElem_cons_succ] at y0 y1 y2 y3 y4 y5 y6; have yf0 := HY2.out.f 0; have yf1 := HY2.out.f 1; have yf2 := HY2.out.f 2; have yf3 := HY2.out.f 3; have yf4 := HY2.out.f 4; have yf5 := HY2.out.f 5; have yf6 := HY2.out.f 6
    by_cases h1 : m = 1
    · obtain ⟨z, rfl⟩ : ∃ z, b = [z] := by
        have := HM.out
        match b, this with
        | [z], _ => exact ⟨z, rfl⟩
        | [], h => simp at h; omega
        | _ :: _ :: _, h => simp at h; omega
      subst h1
      obtain ⟨g, off, rfl, hgl, hgc⟩ := HR2.out.uy (by simp)
      have r0 := hgc 0 (by simp)
      simp only [List.getElem_cons_zero] at r0
      rw [Nat.add_zero] at r0
      obtain ⟨q, hq⟩ : ∃ q : Nat, q = z.toNat := ⟨_, rfl⟩
      rw [← hq] at r0
      have HOKF := Hid.mk2 (okP_flag1 (c := c) (z := z) HFL.out)
      rw [← hq] at HOKF
      have HPAF : Hid ((pAns c [z]).1 = plainA 2 (decide (z = 1)) ⟨#[]⟩) := by show _ = _; rw [pAns_flag HFL.out, truth_one, HCK.out]
      have HZ1 : Hid (((q : Int) == 1) = decide (z = 1)) := by
        show _ = _
        by_cases e : z = 1
        · rw [decide_eq_true e, hq, e]; rfl
        · rw [decide_eq_false e]
          exact beq_eq_false_iff_ne.2 (fun q2 => e (UInt8.toNat.inj (by have : q = 1 := by omega
                                                                        rw [← hq, this]; rfl)))
      clear hgc
      by_cases hq2 : q < 2
      · have hq2i : (q : Int) < 2 := by omega
        obtain ⟨YS, hYS⟩ : ∃ x, x = decide (z = 1) := ⟨_, rfl⟩
        rw [← hYS] at HPAF HZ1
        have hzz := HZ1.out
        rw [decide_eq_true hq2] at HOKF
        clear hYS hq2 hq
        go_upto_region 11 with (fail)
        obtain ⟨WN, hWN⟩ : ∃ WN, WN = W2.setCell ⟨Y, 5, none⟩ (.bool YS) := ⟨_, rfl⟩
        have HYN : Hid (GBx WN Y [.int .u8 2, .int .u8 0, .int .u8 0, .slice none 0 0, .int .u64 0, .bool YS, .string ⟨#[]⟩]) := by rw [hWN]; exact HY2.out.set 5 _ (by simp)
        have HXN : Hid (GBx WN P azc) := by rw [hWN]; exact HX2.out.other 5 _ (by omega)
        have HBN : Hid (Below w.heap.size w WN) := by show Below _ _ _; rw [hWN]; exact HB2.out.setCell (p := ⟨Y, 5, none⟩) (by show w.heap.size ≤ Y; rw [← HPE.out]; omega) _
        rw [← hWN]
        clear hWN y0 y1 y2 y3 y4 y5 y6 yf0 yf1 yf2 yf3 yf4 yf5 yf6 hzz
        obtain ⟨MB, hMB⟩ : ∃ x, x = (plainA 2 YS ⟨#[]⟩).may := ⟨_, rfl⟩
        have HMBE := Hid.mk2 hMB
        have HMY : Hid (∀ V, Below WN.heap.size WN V → Calls Try.prog 20 #[.agg #[.int .u8 2, .int .u8 0, .int .u8 0, .slice none 0 0, .int .u64 0, .bool YS, .string ⟨#[]⟩]] V fun e w' => e = .returned (.bool MB) ∧ Below V.heap.size V w') := fun V _ => by rw [hMB]; exact HMN.out V 2 YS ⟨#[]⟩ (by decide)
        clear hMB HMN
        have HA1 : Hid (MB = (okP c [z] && (pAns c [z]).1.may)) := by show _ = _; rw [HOKF.out, HPAF.out, HMBE.out]; rfl
        have HSS : Hid (∀ V, Below WN.heap.size WN V → V.cell? ⟨Y, 0, none⟩ = some (.int .u8 2) ∧ V.cell? ⟨Y, 1, none⟩ = some (.int .u8 0) ∧ V.cell? ⟨Y, 2, none⟩ = some (.int .u8 0) ∧ V.cell? ⟨Y, 3, none⟩ = some (.slice none 0 0) ∧ V.cell? ⟨Y, 4, none⟩ = some (.int .u64 0) ∧ V.cell? ⟨Y, 5, none⟩ = some (.bool YS) ∧ V.cell? ⟨Y, 6, none⟩ = some (.string ⟨#[]⟩)) := fun V hV => by
          have h := HYN.out.below hV
          exact ⟨h.c 0 (by simp), h.c 1 (by simp), h.c 2 (by simp), h.c 3 (by simp), h.c 4 (by simp), h.c 5 (by simp), h.c 6 (by simp)⟩
        have HS0 := Hid.mk2 (HSS.out WN.drew (Below.refl _ _).drew)
        refine wp_region_noPanic ?_
        refine wp_region_held_drew (S := fun W => W.cell? ⟨Y, 0, none⟩ = some (.int .u8 2) ∧ W.cell? ⟨Y, 1, none⟩ = some (.int .u8 0) ∧ W.cell? ⟨Y, 2, none⟩ = some (.int .u8 0) ∧ W.cell? ⟨Y, 3, none⟩ = some (.slice none 0 0) ∧ W.cell? ⟨Y, 4, none⟩ = some (.int .u64 0) ∧ W.cell? ⟨Y, 5, none⟩ = some (.bool YS) ∧ W.cell? ⟨Y, 6, none⟩ = some (.string ⟨#[]⟩)) (by kernel_rfl) HS0.out (fun _ => ?_)
        refine wpAnyH_take (i := 0) (v := .agg #[.int .u8 2, .int .u8 0, .int .u8 0, .slice none 0 0, .int .u64 0, .bool YS, .string ⟨#[]⟩]) rfl (by kernel_rfl) (by kernel_rfl) (by kernel_rfl) (fun _ _ _ h => h) (Or.inl ⟨by kernel_rfl, fun W hW => by obtain ⟨m0, m1, m2, m3, m4, m5, m6⟩ := hW; go_simp⟩) HS0.out ?_
        try simp only [List.getElem_toArray, List.getElem_cons_zero, List.getElem_cons_succ, Act.put, List.setIfInBounds_toArray, List.set_cons_zero, List.set_cons_succ, List.append_eq, List.cons_append, List.nil_append]
        refine wpAnyH_take (i := 1) (v := .bool true) rfl (by kernel_rfl) (by kernel_rfl) (by kernel_rfl) (fun _ _ _ h => h) (Or.inl ⟨by kernel_rfl, fun W hW => by kernel_rfl⟩) HS0.out ?_
        try simp only [List.getElem_toArray, List.getElem_cons_zero, List.getElem_cons_succ, Act.put, List.setIfInBounds_toArray, List.set_cons_zero, List.set_cons_succ, List.append_eq, List.cons_append, List.nil_append]
        refine wpAnyH_take (i := 2) (v := .bool true) rfl (by kernel_rfl) (by kernel_rfl) (by kernel_rfl) (fun _ _ _ h => h) (Or.inl ⟨by kernel_rfl, fun W hW => by kernel_rfl⟩) HS0.out ?_
        try simp only [List.getElem_toArray, List.getElem_cons_zero, List.getElem_cons_succ, Act.put, List.setIfInBounds_toArray, List.set_cons_zero, List.set_cons_succ, List.append_eq, List.cons_append, List.nil_append]
        refine wpAnyH_take (i := 3) (v := .agg #[.int .u8 2, .int .u8 0, .int .u8 0, .slice none 0 0, .int .u64 0, .bool YS, .string ⟨#[]⟩]) rfl (by kernel_rfl) (by kernel_rfl) (by kernel_rfl) (fun _ _ _ h => h) (Or.inl ⟨by kernel_rfl, fun W hW => by obtain ⟨m0, m1, m2, m3, m4, m5, m6⟩ := hW; go_simp⟩) HS0.out ?_
        try simp only [List.getElem_toArray, List.getElem_cons_zero, List.getElem_cons_succ, Act.put, List.setIfInBounds_toArray, List.set_cons_zero, List.set_cons_succ, List.append_eq, List.cons_append, List.nil_append]
        refine wpAnyH_ready (rs := [4]) (by kernel_rfl) (by simp) ?_
        refine AllReadyH.cons rfl (fun K hK => ?_) AllReadyH.nil
        simp only [List.getElem_toArray, List.getElem_cons_zero, List.getElem_cons_succ]
        go_simp
        go_at_call 20
        refine (HMY.out WN.drew (Below.refl _ _).drew).mono ?_
        rintro e w6 ⟨rfl, hb6⟩
        have HB6 := Hid.mk2 (g_on ((Below.refl WN.heap.size WN).drew) hb6)
        have HS6 := Hid.mk2 (HSS.out w6 HB6.out)
        refine hK.out _ _ HS6.out (fun _ => ?_)
        clear hK K hb6
        try simp only [List.getElem_toArray, List.getElem_cons_zero, List.getElem_cons_succ, Act.put, List.setIfInBounds_toArray, List.set_cons_zero, List.set_cons_succ, List.append_eq, List.cons_append, List.nil_append]
        refine wpAnyH_take (i := 5) (v := .bool MB) rfl (by kernel_rfl) (by kernel_rfl) (by kernel_rfl) (fun _ _ _ h => h) (Or.inl ⟨by kernel_rfl, fun W hW => by kernel_rfl⟩) HS6.out ?_
        try simp only [List.getElem_toArray, List.getElem_cons_zero, List.getElem_cons_succ, Act.put, List.setIfInBounds_toArray, List.set_cons_zero, List.set_cons_succ, List.append_eq, List.cons_append, List.nil_append]
        have HX6 := Hid.mk2 (HXN.out.below HB6.out)
        have HY6 := Hid.mk2 (HYN.out.below HB6.out)
        have HB7 := Hid.mk2 (g_on HBN.out HB6.out)
        have HT6 := HB6
        have z0 := HX6.out.c 0 (by simp [azc]); have z1 := HX6.out.c 1 (by simp [azc]); have z2 := HX6.out.c 2 (by simp [azc]); have z3 := HX6.out.c 3 (by simp [azc]); have z4 := HX6.out.c 4 (by simp [azc]); have z5 := HX6.out.c 5 (by simp [azc]); have z6 := HX6.out.c 6 (by simp [azc]); simp only [azc, List.getElem_cons_zero, List.getElem_cons_succ] at z0 z1 z2 z3 z4 z5 z6; have zf0 := HX6.out.f 0; have zf1 := HX6.out.f 1; have zf2 := HX6.out.f 2; have zf3 := HX6.out.f 3; have zf4 := HX6.out.f 4; have zf5 := HX6.out.f 5; have zf6 := HX6.out.f 6
        have HY7 : Hid (GBx (((((((w6.setCell ⟨P, 0, none⟩ (.int .u8 2)).setCell ⟨P, 1, none⟩ (.int .u8 0)).setCell ⟨P, 2, none⟩ (.int .u8 0)).setCell ⟨P, 3, none⟩ (.slice none 0 0)).setCell ⟨P, 4, none⟩ (.int .u64 0)).setCell ⟨P, 5, none⟩ (.bool YS)).setCell ⟨P, 6, none⟩ (.string ⟨#[]⟩)) Y [.int .u8 2, .int .u8 0, .int .u8 0, .slice none 0 0, .int .u64 0, .bool YS, .string ⟨#[]⟩]) := HY6.out.grown (pset7_gr _ P _ _ _ _ _ _ _) (by intro q; have h1 : P = Y := Option.some.inj q; omega)
        have HS7 := Hid.mk2 (show _ ∧ _ ∧ _ ∧ _ ∧ _ ∧ _ ∧ _ from ⟨HY7.out.c 0 (by simp), HY7.out.c 1 (by simp), HY7.out.c 2 (by simp), HY7.out.c 3 (by simp), HY7.out.c 4 (by simp), HY7.out.c 5 (by simp), HY7.out.c 6 (by simp)⟩)
        refine wpAnyH_ready (rs := [6]) (by kernel_rfl) (by simp) ?_
        refine AllReadyH.cons rfl (fun K hK => ?_) AllReadyH.nil
        simp only [List.getElem_toArray, List.getElem_cons_zero, List.getElem_cons_succ]
        go_simp
        refine hK.out _ _ HS7.out (fun _ => ?_)
        clear hK K
        try simp only [List.getElem_toArray, List.getElem_cons_zero, List.getElem_cons_succ, Act.put, List.setIfInBounds_toArray, List.set_cons_zero, List.set_cons_succ, List.append_eq, List.cons_append, List.nil_append]
        refine wpAnyH_take (i := 7) (v := .bool MB) rfl (by kernel_rfl) (by kernel_rfl) (by kernel_rfl) (fun _ _ _ h => h) (Or.inl ⟨by kernel_rfl, fun W hW => by kernel_rfl⟩) HS7.out ?_
        try simp only [List.getElem_toArray, List.getElem_cons_zero, List.getElem_cons_succ, Act.put, List.setIfInBounds_toArray, List.set_cons_zero, List.set_cons_succ, List.append_eq, List.cons_append, List.nil_append]
        refine wpAnyH_done (by kernel_rfl) ?_ _
        refine NoPanic.normal ?_
        go_wp2
        refine bodyPost_ret (res_cell rfl rfl (load_var (pset7 HX6.out rfl _ _ _ _ _ _ _) 31 _ Try.underlying31 rfl (by kernel_rfl))) rfl ?_
        exact ofQ_fin (a := plainA 2 YS ⟨#[]⟩) (GRd.nil _) (fun x q => by cases q) HA1.out (fun _ => HPAF.out) HB7.out (pset7_gr _ P _ _ _ _ _ _ _) HPE.out _ rfl
      · have hq2i : ¬ (q : Int) < 2 := by omega
        rw [decide_eq_false hq2] at HOKF
        clear hq2 hq
        go_upto_region 11 with (fail)
        obtain ⟨WN, hWN⟩ : ∃ WN, WN = W2.setCell ⟨Y, 5, none⟩ (.bool false) := ⟨_, rfl⟩
        have HYN : Hid (GBx WN Y [.int .u8 2, .int .u8 0, .int .u8 0, .slice none 0 0, .int .u64 0, .bool false, .string ⟨#[]⟩]) := by rw [hWN]; exact HY2.out.set 5 _ (by simp)
        have HXN : Hid (GBx WN P azc) := by rw [hWN]; exact HX2.out.other 5 _ (by omega)
        have HBN : Hid (Below w.heap.size w WN) := by show Below _ _ _; rw [hWN]; exact HB2.out.setCell (p := ⟨Y, 5, none⟩) (by show w.heap.size ≤ Y; rw [← HPE.out]; omega) _
        rw [← hWN]
        clear hWN y0 y1 y2 y3 y4 y5 y6 yf0 yf1 yf2 yf3 yf4 yf5 yf6
        have HA1 : Hid (false = (okP c [z] && (pAns c [z]).1.may)) := by show _ = _; rw [HOKF.out]; rfl
        have HSS : Hid (∀ V, Below WN.heap.size WN V → V.cell? ⟨Y, 0, none⟩ = some (.int .u8 2) ∧ V.cell? ⟨Y, 1, none⟩ = some (.int .u8 0) ∧ V.cell? ⟨Y, 2, none⟩ = some (.int .u8 0) ∧ V.cell? ⟨Y, 3, none⟩ = some (.slice none 0 0) ∧ V.cell? ⟨Y, 4, none⟩ = some (.int .u64 0) ∧ V.cell? ⟨Y, 5, none⟩ = some (.bool false) ∧ V.cell? ⟨Y, 6, none⟩ = some (.string ⟨#[]⟩)) := fun V hV => by
          have h := HYN.out.below hV
          exact ⟨h.c 0 (by simp), h.c 1 (by simp), h.c 2 (by simp), h.c 3 (by simp), h.c 4 (by simp), h.c 5 (by simp), h.c 6 (by simp)⟩
        have HS0 := Hid.mk2 (HSS.out WN.drew (Below.refl _ _).drew)
        refine wp_region_noPanic ?_
        refine wp_region_held_drew (S := fun W => W.cell? ⟨Y, 0, none⟩ = some (.int .u8 2) ∧ W.cell? ⟨Y, 1, none⟩ = some (.int .u8 0) ∧ W.cell? ⟨Y, 2, none⟩ = some (.int .u8 0) ∧ W.cell? ⟨Y, 3, none⟩ = some (.slice none 0 0) ∧ W.cell? ⟨Y, 4, none⟩ = some (.int .u64 0) ∧ W.cell? ⟨Y, 5, none⟩ = some (.bool false) ∧ W.cell? ⟨Y, 6, none⟩ = some (.string ⟨#[]⟩)) (by kernel_rfl) HS0.out (fun _ => ?_)
        refine wpAnyH_take (i := 0) (v := .agg #[.int .u8 2, .int .u8 0, .int .u8 0, .slice none 0 0, .int .u64 0, .bool false, .string ⟨#[]⟩]) rfl (by kernel_rfl) (by kernel_rfl) (by kernel_rfl) (fun _ _ _ h => h) (Or.inl ⟨by kernel_rfl, fun W hW => by obtain ⟨m0, m1, m2, m3, m4, m5, m6⟩ := hW; go_simp⟩) HS0.out ?_
        try simp only [List.getElem_toArray, List.getElem_cons_zero, List.getElem_cons_succ, Act.put, List.setIfInBounds_toArray, List.set_cons_zero, List.set_cons_succ, List.append_eq, List.cons_append, List.nil_append]
        refine wpAnyH_take (i := 1) (v := .bool false) rfl (by kernel_rfl) (by kernel_rfl) (by kernel_rfl) (fun _ _ _ h => h) (Or.inl ⟨by kernel_rfl, fun W hW => by kernel_rfl⟩) HS0.out ?_
        try simp only [List.getElem_toArray, List.getElem_cons_zero, List.getElem_cons_succ, Act.put, List.setIfInBounds_toArray, List.set_cons_zero, List.set_cons_succ, List.append_eq, List.cons_append, List.nil_append]
        refine wpAnyH_take (i := 2) (v := .bool false) rfl (by kernel_rfl) (by kernel_rfl) (by kernel_rfl) (fun _ _ _ h => h) (Or.inl ⟨by kernel_rfl, fun W hW => by kernel_rfl⟩) HS0.out ?_
        try simp only [List.getElem_toArray, List.getElem_cons_zero, List.getElem_cons_succ, Act.put, List.setIfInBounds_toArray, List.set_cons_zero, List.set_cons_succ, List.append_eq, List.cons_append, List.nil_append]
        refine wpAnyH_take (i := 3) (v := undef) rfl (by kernel_rfl) (by kernel_rfl) (by kernel_rfl) (fun _ _ _ h => h) (Or.inr ⟨by kernel_rfl, rfl⟩) HS0.out ?_
        try simp only [List.getElem_toArray, List.getElem_cons_zero, List.getElem_cons_succ, Act.put, List.setIfInBounds_toArray, List.set_cons_zero, List.set_cons_succ, List.append_eq, List.cons_append, List.nil_append]
        refine wpAnyH_take (i := 4) (v := undef) rfl (by kernel_rfl) (by kernel_rfl) (by kernel_rfl) (fun _ _ _ h => h) (Or.inr ⟨by kernel_rfl, rfl⟩) HS0.out ?_
        try simp only [List.getElem_toArray, List.getElem_cons_zero, List.getElem_cons_succ, Act.put, List.setIfInBounds_toArray, List.set_cons_zero, List.set_cons_succ, List.append_eq, List.cons_append, List.nil_append]
        refine wpAnyH_take (i := 5) (v := .bool false) rfl (by kernel_rfl) (by kernel_rfl) (by kernel_rfl) (fun _ _ _ h => h) (Or.inl ⟨by kernel_rfl, fun W hW => by kernel_rfl⟩) HS0.out ?_
        try simp only [List.getElem_toArray, List.getElem_cons_zero, List.getElem_cons_succ, Act.put, List.setIfInBounds_toArray, List.set_cons_zero, List.set_cons_succ, List.append_eq, List.cons_append, List.nil_append]
        obtain ⟨w6, hw6⟩ : ∃ w6, w6 = WN.drew := ⟨_, rfl⟩
        have HT6 : Hid (Below WN.heap.size WN w6) := by show Below _ _ _; rw [hw6]; exact (Below.refl WN.heap.size WN).drew
        rw [← hw6]
        clear hw6
        have HX6 := Hid.mk2 (HXN.out.below HT6.out)
        have HY6 := Hid.mk2 (HYN.out.below HT6.out)
        have HB7 := Hid.mk2 (g_on HBN.out HT6.out)
        have z0 := HX6.out.c 0 (by simp [azc]); have z1 := HX6.out.c 1 (by simp [azc]); have z2 := HX6.out.c 2 (by simp [azc]); have z3 := HX6.out.c 3 (by simp [azc]); have z4 := HX6.out.c 4 (by simp [azc]); have z5 := HX6.out.c 5 (by simp [azc]); have z6 := HX6.out.c 6 (by simp [azc]); simp only [azc, List.getElem_cons_zero, List.getElem_cons_succ] at z0 z1 z2 z3 z4 z5 z6; have zf0 := HX6.out.f 0; have zf1 := HX6.out.f 1; have zf2 := HX6.out.f 2; have zf3 := HX6.out.f 3; have zf4 := HX6.out.f 4; have zf5 := HX6.out.f 5; have zf6 := HX6.out.f 6
        have HY7 : Hid (GBx (((((((w6.setCell ⟨P, 0, none⟩ (.int .u8 2)).setCell ⟨P, 1, none⟩ (.int .u8 0)).setCell ⟨P, 2, none⟩ (.int .u8 0)).setCell ⟨P, 3, none⟩ (.slice none 0 0)).setCell ⟨P, 4, none⟩ (.int .u64 0)).setCell ⟨P, 5, none⟩ (.bool false)).setCell ⟨P, 6, none⟩ (.string ⟨#[]⟩)) Y [.int .u8 2, .int .u8 0, .int .u8 0, .slice none 0 0, .int .u64 0, .bool false, .string ⟨#[]⟩]) := HY6.out.grown (pset7_gr _ P _ _ _ _ _ _ _) (by intro q; have h1 : P = Y := Option.some.inj q; omega)
        have HS7 := Hid.mk2 (show _ ∧ _ ∧ _ ∧ _ ∧ _ ∧ _ ∧ _ from ⟨HY7.out.c 0 (by simp), HY7.out.c 1 (by simp), HY7.out.c 2 (by simp), HY7.out.c 3 (by simp), HY7.out.c 4 (by simp), HY7.out.c 5 (by simp), HY7.out.c 6 (by simp)⟩)
        refine wpAnyH_ready (rs := [6]) (by kernel_rfl) (by simp) ?_
        refine AllReadyH.cons rfl (fun K hK => ?_) AllReadyH.nil
        simp only [List.getElem_toArray, List.getElem_cons_zero, List.getElem_cons_succ]
        go_simp
        refine hK.out _ _ HS7.out (fun _ => ?_)
        clear hK K
        try simp only [List.getElem_toArray, List.getElem_cons_zero, List.getElem_cons_succ, Act.put, List.setIfInBounds_toArray, List.set_cons_zero, List.set_cons_succ, List.append_eq, List.cons_append, List.nil_append]
        refine wpAnyH_take (i := 7) (v := .bool false) rfl (by kernel_rfl) (by kernel_rfl) (by kernel_rfl) (fun _ _ _ h => h) (Or.inl ⟨by kernel_rfl, fun W hW => by kernel_rfl⟩) HS7.out ?_
        try simp only [List.getElem_toArray, List.getElem_cons_zero, List.getElem_cons_succ, Act.put, List.setIfInBounds_toArray, List.set_cons_zero, List.set_cons_succ, List.append_eq, List.cons_append, List.nil_append]
        refine wpAnyH_done (by kernel_rfl) ?_ _
        refine NoPanic.normal ?_
        go_wp2
        refine bodyPost_ret (res_cell rfl rfl (load_var (pset7 HX6.out rfl _ _ _ _ _ _ _) 31 _ Try.underlying31 rfl (by kernel_rfl))) rfl ?_
        exact ofQ_fin (a := plainA 2 false ⟨#[]⟩) (GRd.nil _) (fun x q => by cases q) HA1.out (fun e => by cases e) HB7.out (pset7_gr _ P _ _ _ _ _ _ _) HPE.out _ rfl
    · have h1b : ((m : Int) == 1) = false := beq_eq_false_iff_ne.2 (by omega)
      have HOKF := Hid.mk2 (okP_flagn (c := c) (b := b) HFL.out (by rw [← HM.out]; exact h1))
      clear h1
      go_upto_region 11 with (fail)
      obtain ⟨WN, hWN⟩ : ∃ WN, WN = W2.setCell ⟨Y, 5, none⟩ (.bool false) := ⟨_, rfl⟩
      have HYN : Hid (GBx WN Y [.int .u8 2, .int .u8 0, .int .u8 0, .slice none 0 0, .int .u64 0, .bool false, .string ⟨#[]⟩]) := by rw [hWN]; exact HY2.out.set 5 _ (by simp)
      have HXN : Hid (GBx WN P azc) := by rw [hWN]; exact HX2.out.other 5 _ (by omega)
      have HBN : Hid (Below w.heap.size w WN) := by show Below _ _ _; rw [hWN]; exact HB2.out.setCell (p := ⟨Y, 5, none⟩) (by show w.heap.size ≤ Y; rw [← HPE.out]; omega) _
      rw [← hWN]
      clear hWN y0 y1 y2 y3 y4 y5 y6 yf0 yf1 yf2 yf3 yf4 yf5 yf6
      have HA1 : Hid (false = (okP c b && (pAns c b).1.may)) := by show _ = _; rw [HOKF.out]; rfl
      have HSS : Hid (∀ V, Below WN.heap.size WN V → V.cell? ⟨Y, 0, none⟩ = some (.int .u8 2) ∧ V.cell? ⟨Y, 1, none⟩ = some (.int .u8 0) ∧ V.cell? ⟨Y, 2, none⟩ = some (.int .u8 0) ∧ V.cell? ⟨Y, 3, none⟩ = some (.slice none 0 0) ∧ V.cell? ⟨Y, 4, none⟩ = some (.int .u64 0) ∧ V.cell? ⟨Y, 5, none⟩ = some (.bool false) ∧ V.cell? ⟨Y, 6, none⟩ = some (.string ⟨#[]⟩)) := fun V hV => by
        have h := HYN.out.below hV
        exact ⟨h.c 0 (by simp), h.c 1 (by simp), h.c 2 (by simp), h.c 3 (by simp), h.c 4 (by simp), h.c 5 (by simp), h.c 6 (by simp)⟩
      have HS0 := Hid.mk2 (HSS.out WN.drew (Below.refl _ _).drew)
      refine wp_region_noPanic ?_
      refine wp_region_held_drew (S := fun W => W.cell? ⟨Y, 0, none⟩ = some (.int .u8 2) ∧ W.cell? ⟨Y, 1, none⟩ = some (.int .u8 0) ∧ W.cell? ⟨Y, 2, none⟩ = some (.int .u8 0) ∧ W.cell? ⟨Y, 3, none⟩ = some (.slice none 0 0) ∧ W.cell? ⟨Y, 4, none⟩ = some (.int .u64 0) ∧ W.cell? ⟨Y, 5, none⟩ = some (.bool false) ∧ W.cell? ⟨Y, 6, none⟩ = some (.string ⟨#[]⟩)) (by kernel_rfl) HS0.out (fun _ => ?_)
      refine wpAnyH_take (i := 0) (v := .agg #[.int .u8 2, .int .u8 0, .int .u8 0, .slice none 0 0, .int .u64 0, .bool false, .string ⟨#[]⟩]) rfl (by kernel_rfl) (by kernel_rfl) (by kernel_rfl) (fun _ _ _ h => h) (Or.inl ⟨by kernel_rfl, fun W hW => by obtain ⟨m0, m1, m2, m3, m4, m5, m6⟩ := hW; go_simp⟩) HS0.out ?_
      try simp only [List.getElem_toArray, List.getElem_cons_zero, List.getElem_cons_succ, Act.put, List.setIfInBounds_toArray, List.set_cons_zero, List.set_cons_succ, List.append_eq, List.cons_append, List.nil_append]
      refine wpAnyH_take (i := 1) (v := .bool false) rfl (by kernel_rfl) (by kernel_rfl) (by kernel_rfl) (fun _ _ _ h => h) (Or.inl ⟨by kernel_rfl, fun W hW => by kernel_rfl⟩) HS0.out ?_
      try simp only [List.getElem_toArray, List.getElem_cons_zero, List.getElem_cons_succ, Act.put, List.setIfInBounds_toArray, List.set_cons_zero, List.set_cons_succ, List.append_eq, List.cons_append, List.nil_append]
      refine wpAnyH_take (i := 2) (v := .bool false) rfl (by kernel_rfl) (by kernel_rfl) (by kernel_rfl) (fun _ _ _ h => h) (Or.inl ⟨by kernel_rfl, fun W hW => by kernel_rfl⟩) HS0.out ?_
      try simp only [List.getElem_toArray, List.getElem_cons_zero, List.getElem_cons_succ, Act.put, List.setIfInBounds_toArray, List.set_cons_zero, List.set_cons_succ, List.append_eq, List.cons_append, List.nil_append]
      refine wpAnyH_take (i := 3) (v := undef) rfl (by kernel_rfl) (by kernel_rfl) (by kernel_rfl) (fun _ _ _ h => h) (Or.inr ⟨by kernel_rfl, rfl⟩) HS0.out ?_
      try simp only [List.getElem_toArray, List.getElem_cons_zero, List.getElem_cons_succ, Act.put, List.setIfInBounds_toArray, List.set_cons_zero, List.set_cons_succ, List.append_eq, List.cons_append, List.nil_append]
      refine wpAnyH_take (i := 4) (v := undef) rfl (by kernel_rfl) (by kernel_rfl) (by kernel_rfl) (fun _ _ _ h => h) (Or.inr ⟨by kernel_rfl, rfl⟩) HS0.out ?_
      try simp only [List.getElem_toArray, List.getElem_cons_zero, List.getElem_cons_succ, Act.put, List.setIfInBounds_toArray, List.set_cons_zero, List.set_cons_succ, List.append_eq, List.cons_append, List.nil_append]
      refine wpAnyH_take (i := 5) (v := .bool false) rfl (by kernel_rfl) (by kernel_rfl) (by kernel_rfl) (fun _ _ _ h => h) (Or.inl ⟨by kernel_rfl, fun W hW => by kernel_rfl⟩) HS0.out ?_
      try simp only [List.getElem_toArray, List.getElem_cons_zero, List.getElem_cons_succ, Act.put, List.setIfInBounds_toArray, List.set_cons_zero, List.set_cons_succ, List.append_eq, List.cons_append, List.nil_append]
      obtain ⟨w6, hw6⟩ : ∃ w6, w6 = WN.drew := ⟨_, rfl⟩
      have HT6 : Hid (Below WN.heap.size WN w6) := by show Below _ _ _; rw [hw6]; exact (Below.refl WN.heap.size WN).drew
      rw [← hw6]
      clear hw6
      have HX6 := Hid.mk2 (HXN.out.below HT6.out)
      have HY6 := Hid.mk2 (HYN.out.below HT6.out)
      have HB7 := Hid.mk2 (g_on HBN.out HT6.out)
      have z0 := HX6.out.c 0 (by simp [azc]); have z1 := HX6.out.c 1 (by simp [azc]); have z2 := HX6.out.c 2 (by simp [azc]); have z3 := HX6.out.c 3 (by simp [azc]); have z4 := HX6.out.c 4 (by simp [azc]); have z5 := HX6.out.c 5 (by simp [azc]); have z6 := HX6.out.c 6 (by simp [azc]); simp only [azc, List.getElem_cons_zero, List.getElem_cons_succ] at z0 z1 z2 z3 z4 z5 z6; have zf0 := HX6.out.f 0; have zf1 := HX6.out.f 1; have zf2 := HX6.out.f 2; have zf3 := HX6.out.f 3; have zf4 := HX6.out.f 4; have zf5 := HX6.out.f 5; have zf6 := HX6.out.f 6
      have HY7 : Hid (GBx (((((((w6.setCell ⟨P, 0, none⟩ (.int .u8 2)).setCell ⟨P, 1, none⟩ (.int .u8 0)).setCell ⟨P, 2, none⟩ (.int .u8 0)).setCell ⟨P, 3, none⟩ (.slice none 0 0)).setCell ⟨P, 4, none⟩ (.int .u64 0)).setCell ⟨P, 5, none⟩ (.bool false)).setCell ⟨P, 6, none⟩ (.string ⟨#[]⟩)) Y [.int .u8 2, .int .u8 0, .int .u8 0, .slice none 0 0, .int .u64 0, .bool false, .string ⟨#[]⟩]) := HY6.out.grown (pset7_gr _ P _ _ _ _ _ _ _) (by intro q; have h1 : P = Y := Option.some.inj q; omega)
      have HS7 := Hid.mk2 (show _ ∧ _ ∧ _ ∧ _ ∧ _ ∧ _ ∧ _ from ⟨HY7.out.c 0 (by simp), HY7.out.c 1 (by simp), HY7.out.c 2 (by simp), HY7.out.c 3 (by simp), HY7.out.c 4 (by simp), HY7.out.c 5 (by simp), HY7.out.c 6 (by simp)⟩)
      refine wpAnyH_ready (rs := [6]) (by kernel_rfl) (by simp) ?_
      refine AllReadyH.cons rfl (fun K hK => ?_) AllReadyH.nil
      simp only [List.getElem_toArray, List.getElem_cons_zero, List.getElem_cons_succ]
      go_simp
      refine hK.out _ _ HS7.out (fun _ => ?_)
      clear hK K
      try simp only [List.getElem_toArray, List.getElem_cons_zero, List.getElem_cons_succ, Act.put, List.setIfInBounds_toArray, List.set_cons_zero, List.set_cons_succ, List.append_eq, List.cons_append, List.nil_append]
      refine wpAnyH_take (i := 7) (v := .bool false) rfl (by kernel_rfl) (by kernel_rfl) (by kernel_rfl) (fun _ _ _ h => h) (Or.inl ⟨by kernel_rfl, fun W hW => by kernel_rfl⟩) HS7.out ?_
      try simp only [List.getElem_toArray, List.getElem_cons_zero, List.getElem_cons_succ, Act.put, List.setIfInBounds_toArray, List.set_cons_zero, List.set_cons_succ, List.append_eq, List.cons_append, List.nil_append]
      refine wpAnyH_done (by kernel_rfl) ?_ _
      refine NoPanic.normal ?_
      go_wp2
      refine bodyPost_ret (res_cell rfl rfl (load_var (pset7 HX6.out rfl _ _ _ _ _ _ _) 31 _ Try.underlying31 rfl (by kernel_rfl))) rfl ?_
      exact ofQ_fin (a := plainA 2 false ⟨#[]⟩) (GRd.nil _) (fun x q => by cases q) HA1.out (fun e => by cases e) HB7.out (pset7_gr _ P _ _ _ _ _ _ _) HPE.out _ rfl
  by_cases k3 : K = 3
  · have hc3 := HKC.out.2.2.1.1 k3
    have HFL : Hid (c = 2 ∨ c = 3) := .inr hc3
    have HCK : Hid ((c.toNat : Int) = 3) := by show _ = _; rw [hc3]; rfl
    subst k3
    clear HKC HKE k1 k2 hc3
    have y0 := HY2.out.c 0 (by simp); have y1 := HY2.out.c 1 (by simp); have y2 := HY2.out.c 2 (by simp); have y3 := HY2.out.c 3 (by simp); have y4 := HY2.out.c 4 (by simp); have y5 := HY2.out.c 5 (by simp); have y6 := HY2.out.c 6 (by simp); simp only [List.getElem_cons_zero, List.getElem_cons_succ] at y0 y1 y2 y3 y4 y5 y6; have yf0 := HY2.out.f 0; have yf1 := HY2.out.f 1; have yf2 := HY2.out.f 2; have yf3 := HY2.out.f 3; have yf4 := HY2.out.f 4; have yf5 := HY2.out.f 5; have yf6 := HY2.out.f 6
    by_cases h1 : m = 1
    · obtain ⟨z, rfl⟩ : ∃ z, b = [z] := by
        have := HM.out
        match b, this with
        | [z], _ => exact ⟨z, rfl⟩
        | [], h => simp at h; omega
        | _ :: _ :: _, h => simp at h; omega
      subst h1
      obtain ⟨g, off, rfl, hgl, hgc⟩ := HR2.out.uy (by simp)
      have r0 := hgc 0 (by simp)
      simp only [List.getElem_cons_zero] at r0
      rw [Nat.add_zero] at r0
      obtain ⟨q, hq⟩ : ∃ q : Nat, q = z.toNat := ⟨_, rfl⟩
      rw [← hq] at r0
      have HOKF := Hid.mk2 (okP_flag1 (c := c) (z := z) HFL.out)
      rw [← hq] at HOKF
      have HPAF : Hid ((pAns c [z]).1 = plainA 3 (decide (z = 1)) ⟨#[]⟩) := by show _ = _; rw [pAns_flag HFL.out, truth_one, HCK.out]
      have HZ1 : Hid (((q : Int) == 1) = decide (z = 1)) := by
        show _ = _
        by_cases e : z = 1
        · rw [decide_eq_true e, hq, e]; rfl
        · rw [decide_eq_false e]
          exact beq_eq_false_iff_ne.2 (fun q2 => e (UInt8.toNat.inj (by have : q = 1 := by omega
                                                                        rw [← hq, this]; rfl)))
      clear hgc
      by_cases hq2 : q < 2
      · have hq2i : (q : Int) < 2 := by omega
        obtain ⟨YS, hYS⟩ : ∃ x, x = decide (z = 1) := ⟨_, rfl⟩
        rw [← hYS] at HPAF HZ1
        have hzz := HZ1.out
        rw [decide_eq_true hq2] at HOKF
        clear hYS hq2 hq
        go_upto_region 11 with (fail)
        obtain ⟨WN, hWN⟩ : ∃ WN, WN = W2.setCell ⟨Y, 5, none⟩ (.bool YS) := ⟨_, rfl⟩
        have HYN : Hid (GBx WN Y [.int .u8 3, .int .u8 0, .int .u8 0, .slice none 0 0, .int .u64 0, .bool YS, .string ⟨#[]⟩]) := by rw [hWN]; exact HY2.out.set 5 _ (by simp)
        have HXN : Hid (GBx WN P azc) := by rw [hWN]; exact HX2.out.other 5 _ (by omega)
        have HBN : Hid (Below w.heap.size w WN) := by show Below _ _ _; rw [hWN]; exact HB2.out.setCell (p := ⟨Y, 5, none⟩) (by show w.heap.size ≤ Y; rw [← HPE.out]; omega) _
        rw [← hWN]
        clear hWN y0 y1 y2 y3 y4 y5 y6 yf0 yf1 yf2 yf3 yf4 yf5 yf6 hzz
        obtain ⟨MB, hMB⟩ : ∃ x, x = (plainA 3 YS ⟨#[]⟩).may := ⟨_, rfl⟩
        have HMBE := Hid.mk2 hMB
        have HMY : Hid (∀ V, Below WN.heap.size WN V → Calls Try.prog 20 #[.agg #[.int .u8 3, .int .u8 0, .int .u8 0, .slice none 0 0, .int .u64 0, .bool YS, .string ⟨#[]⟩]] V fun e w' => e = .returned (.bool MB) ∧ Below V.heap.size V w') := fun V _ => by rw [hMB]; exact HMN.out V 3 YS ⟨#[]⟩ (by decide)
        clear hMB HMN
        have HA1 : Hid (MB = (okP c [z] && (pAns c [z]).1.may)) := by show _ = _; rw [HOKF.out, HPAF.out, HMBE.out]; rfl
        have HSS : Hid (∀ V, Below WN.heap.size WN V → V.cell? ⟨Y, 0, none⟩ = some (.int .u8 3) ∧ V.cell? ⟨Y, 1, none⟩ = some (.int .u8 0) ∧ V.cell? ⟨Y, 2, none⟩ = some (.int .u8 0) ∧ V.cell? ⟨Y, 3, none⟩ = some (.slice none 0 0) ∧ V.cell? ⟨Y, 4, none⟩ = some (.int .u64 0) ∧ V.cell? ⟨Y, 5, none⟩ = some (.bool YS) ∧ V.cell? ⟨Y, 6, none⟩ = some (.string ⟨#[]⟩)) := fun V hV => by
          have h := HYN.out.below hV
          exact ⟨h.c 0 (by simp), h.c 1 (by simp), h.c 2 (by simp), h.c 3 (by simp), h.c 4 (by simp), h.c 5 (by simp), h.c 6 (by simp)⟩
        have HS0 := Hid.mk2 (HSS.out WN.drew (Below.refl _ _).drew)
        refine wp_region_noPanic ?_
        refine wp_region_held_drew (S := fun W => W.cell? ⟨Y, 0, none⟩ = some (.int .u8 3) ∧ W.cell? ⟨Y, 1, none⟩ = some (.int .u8 0) ∧ W.cell? ⟨Y, 2, none⟩ = some (.int .u8 0) ∧ W.cell? ⟨Y, 3, none⟩ = some (.slice none 0 0) ∧ W.cell? ⟨Y, 4, none⟩ = some (.int .u64 0) ∧ W.cell? ⟨Y, 5, none⟩ = some (.bool YS) ∧ W.cell? ⟨Y, 6, none⟩ = some (.string ⟨#[]⟩)) (by kernel_rfl) HS0.out (fun _ => ?_)
        refine wpAnyH_take (i := 0) (v := .agg #[.int .u8 3, .int .u8 0, .int .u8 0, .slice none 0 0, .int .u64 0, .bool YS, .string ⟨#[]⟩]) rfl (by kernel_rfl) (by kernel_rfl) (by kernel_rfl) (fun _ _ _ h => h) (Or.inl ⟨by kernel_rfl, fun W hW => by obtain ⟨m0, m1, m2, m3, m4, m5, m6⟩ := hW; go_simp⟩) HS0.out ?_
        try simp only [List.getElem_toArray, List.getElem_cons_zero, List.getElem_cons_succ, Act.put, List.setIfInBounds_toArray, List.set_cons_zero, List.set_cons_succ, List.append_eq, List.cons_append, List.nil_append]
        refine wpAnyH_take (i := 1) (v := .bool true) rfl (by kernel_rfl) (by kernel_rfl) (by kernel_rfl) (fun _ _ _ h => h) (Or.inl ⟨by kernel_rfl, fun W hW => by kernel_rfl⟩) HS0.out ?_
        try simp only [List.getElem_toArray, List.getElem_cons_zero, List.getElem_cons_succ, Act.put, List.setIfInBounds_toArray, List.set_cons_zero, List.set_cons_succ, List.append_eq, List.cons_append, List.nil_append]
        refine wpAnyH_take (i := 2) (v := .bool true) rfl (by kernel_rfl) (by kernel_rfl) (by kernel_rfl) (fun _ _ _ h => h) (Or.inl ⟨by kernel_rfl, fun W hW => by kernel_rfl⟩) HS0.out ?_
        try simp only [List.getElem_toArray, List.getElem_cons_zero, List.getElem_cons_succ, Act.put, List.setIfInBounds_toArray, List.set_cons_zero, List.set_cons_succ, List.append_eq, List.cons_append, List.nil_append]
        refine wpAnyH_take (i := 3) (v := .agg #[.int .u8 3, .int .u8 0, .int .u8 0, .slice none 0 0, .int .u64 0, .bool YS, .string ⟨#[]⟩]) rfl (by kernel_rfl) (by kernel_rfl) (by kernel_rfl) (fun _ _ _ h => h) (Or.inl ⟨by kernel_rfl, fun W hW => by obtain ⟨m0, m1, m2, m3, m4, m5, m6⟩ := hW; go_simp⟩) HS0.out ?_
        try simp only [List.getElem_toArray, List.getElem_cons_zero, List.getElem_cons_succ, Act.put, List.setIfInBounds_toArray, List.set_cons_zero, List.set_cons_succ, List.append_eq, List.cons_append, List.nil_append]
        refine wpAnyH_ready (rs := [4]) (by kernel_rfl) (by simp) ?_
        refine AllReadyH.cons rfl (fun K hK => ?_) AllReadyH.nil
        simp only [List.getElem_toArray, List.getElem_cons_zero, List.getElem_cons_succ]
        go_simp
        go_at_call 20
        refine (HMY.out WN.drew (Below.refl _ _).drew).mono ?_
        rintro e w6 ⟨rfl, hb6⟩
        have HB6 := Hid.mk2 (g_on ((Below.refl WN.heap.size WN).drew) hb6)
        have HS6 := Hid.mk2 (HSS.out w6 HB6.out)
        refine hK.out _ _ HS6.out (fun _ => ?_)
        clear hK K hb6
        try simp only [List.getElem_toArray, List.getElem_cons_zero, List.getElem_cons_succ, Act.put, List.setIfInBounds_toArray, List.set_cons_zero, List.set_cons_succ, List.append_eq, List.cons_append, List.nil_append]
        refine wpAnyH_take (i := 5) (v := .bool MB) rfl (by kernel_rfl) (by kernel_rfl) (by kernel_rfl) (fun _ _ _ h => h) (Or.inl ⟨by kernel_rfl, fun W hW => by kernel_rfl⟩) HS6.out ?_
        try simp only [List.getElem_toArray, List.getElem_cons_zero, List.getElem_cons_succ, Act.put, List.setIfInBounds_toArray, List.set_cons_zero, List.set_cons_succ, List.append_eq, List.cons_append, List.nil_append]
        have HX6 := Hid.mk2 (HXN.out.below HB6.out)
        have HY6 := Hid.mk2 (HYN.out.below HB6.out)
        have HB7 := Hid.mk2 (g_on HBN.out HB6.out)
        have HT6 := HB6
        have z0 := HX6.out.c 0 (by simp [azc]); have z1 := HX6.out.c 1 (by simp [azc]); have z2 := HX6.out.c 2 (by simp [azc]); have z3 := HX6.out.c 3 (by simp [azc]); have z4 := HX6.out.c 4 (by simp [azc]); have z5 := HX6.out.c 5 (by simp [azc]); have z6 := HX6.out.c 6 (by simp [azc]); simp only [azc, List.getElem_cons_zero, List.getElem_cons_succ] at z0 z1 z2 z3 z4 z5 z6; have zf0 := HX6.out.f 0; have zf1 := HX6.out.f 1; have zf2 := HX6.out.f 2; have zf3 := HX6.out.f 3; have zf4 := HX6.out.f 4; have zf5 := HX6.out.f 5; have zf6 := HX6.out.f 6
        have HY7 : Hid (GBx (((((((w6.setCell ⟨P, 0, none⟩ (.int .u8 3)).setCell ⟨P, 1, none⟩ (.int .u8 0)).setCell ⟨P, 2, none⟩ (.int .u8 0)).setCell ⟨P, 3, none⟩ (.slice none 0 0)).setCell ⟨P, 4, none⟩ (.int .u64 0)).setCell ⟨P, 5, none⟩ (.bool YS)).setCell ⟨P, 6, none⟩ (.string ⟨#[]⟩)) Y [.int .u8 3, .int .u8 0, .int .u8 0, .slice none 0 0, .int .u64 0, .bool YS, .string ⟨#[]⟩]) := HY6.out.grown (pset7_gr _ P _ _ _ _ _ _ _) (by intro q; have h1 : P = Y := Option.some.inj q; omega)
        have HS7 := Hid.mk2 (show _ ∧ _ ∧ _ ∧ _ ∧ _ ∧ _ ∧ _ from ⟨HY7.out.c 0 (by simp), HY7.out.c 1 (by simp), HY7.out.c 2 (by simp), HY7.out.c 3 (by simp), HY7.out.c 4 (by simp), HY7.out.c 5 (by simp), HY7.out.c 6 (by simp)⟩)
        refine wpAnyH_ready (rs := [6]) (by kernel_rfl) (by simp) ?_
        refine AllReadyH.cons rfl (fun K hK => ?_) AllReadyH.nil
        simp only [List.getElem_toArray, List.getElem_cons_zero, List.getElem_cons_succ]
        go_simp
        refine hK.out _ _ HS7.out (fun _ => ?_)
        clear hK K
        try simp only [List.getElem_toArray, List.getElem_cons_zero, List.getElem_cons_succ, Act.put, List.setIfInBounds_toArray, List.set_cons_zero, List.set_cons_succ, List.append_eq, List.cons_append, List.nil_append]
        refine wpAnyH_take (i := 7) (v := .bool MB) rfl (by kernel_rfl) (by kernel_rfl) (by kernel_rfl) (fun _ _ _ h => h) (Or.inl ⟨by kernel_rfl, fun W hW => by kernel_rfl⟩) HS7.out ?_
        try simp only [List.getElem_toArray, List.getElem_cons_zero, List.getElem_cons_succ, Act.put, List.setIfInBounds_toArray, List.set_cons_zero, List.set_cons_succ, List.append_eq, List.cons_append, List.nil_append]
        refine wpAnyH_done (by kernel_rfl) ?_ _
        refine NoPanic.normal ?_
        go_wp2
        refine bodyPost_ret (res_cell rfl rfl (load_var (pset7 HX6.out rfl _ _ _ _ _ _ _) 31 _ Try.underlying31 rfl (by kernel_rfl))) rfl ?_
        exact ofQ_fin (a := plainA 3 YS ⟨#[]⟩) (GRd.nil _) (fun x q => by cases q) HA1.out (fun _ => HPAF.out) HB7.out (pset7_gr _ P _ _ _ _ _ _ _) HPE.out _ rfl
      · have hq2i : ¬ (q : Int) < 2 := by omega
        rw [decide_eq_false hq2] at HOKF
        clear hq2 hq
        go_upto_region 11 with (fail)
        obtain ⟨WN, hWN⟩ : ∃ WN, WN = W2.setCell ⟨Y, 5, none⟩ (.bool false) := ⟨_, rfl⟩
        have HYN : Hid (GBx WN Y [.int .u8 3, .int .u8 0, .int .u8 0, .slice none 0 0, .int .u64 0, .bool false, .string ⟨#[]⟩]) := by rw [hWN]; exact HY2.out.set 5 _ (by simp)
        have HXN : Hid (GBx WN P azc) := by rw [hWN]; exact HX2.out.other 5 _ (by omega)
        have HBN : Hid (Below w.heap.size w WN) := by show Below _ _ _; rw [hWN]; exact HB2.out.setCell (p := ⟨Y, 5, none⟩) (by show w.heap.size ≤ Y; rw [← HPE.out]; omega) _
        rw [← hWN]
        clear hWN y0 y1 y2 y3 y4 y5 y6 yf0 yf1 yf2 yf3 yf4 yf5 yf6
        have HA1 : Hid (false = (okP c [z] && (pAns c [z]).1.may)) := by show _ = _; rw [HOKF.out]; rfl
        have HSS : Hid (∀ V, Below WN.heap.size WN V → V.cell? ⟨Y, 0, none⟩ = some (.int .u8 3) ∧ V.cell? ⟨Y, 1, none⟩ = some (.int .u8 0) ∧ V.cell? ⟨Y, 2, none⟩ = some (.int .u8 0) ∧ V.cell? ⟨Y, 3, none⟩ = some (.slice none 0 0) ∧ V.cell? ⟨Y, 4, none⟩ = some (.int .u64 0) ∧ V.cell? ⟨Y, 5, none⟩ = some (.bool false) ∧ V.cell? ⟨Y, 6, none⟩ = some (.string ⟨#[]⟩)) := fun V hV => by
          have h := HYN.out.below hV
          exact ⟨h.c 0 (by simp), h.c 1 (by simp), h.c 2 (by simp), h.c 3 (by simp), h.c 4 (by simp), h.c 5 (by simp), h.c 6 (by simp)⟩
        have HS0 := Hid.mk2 (HSS.out WN.drew (Below.refl _ _).drew)
        refine wp_region_noPanic ?_
        refine wp_region_held_drew (S := fun W => W.cell? ⟨Y, 0, none⟩ = some (.int .u8 3) ∧ W.cell? ⟨Y, 1, none⟩ = some (.int .u8 0) ∧ W.cell? ⟨Y, 2, none⟩ = some (.int .u8 0) ∧ W.cell? ⟨Y, 3, none⟩ = some (.slice none 0 0) ∧ W.cell? ⟨Y, 4, none⟩ = some (.int .u64 0) ∧ W.cell? ⟨Y, 5, none⟩ = some (.bool false) ∧ W.cell? ⟨Y, 6, none⟩ = some (.string ⟨#[]⟩)) (by kernel_rfl) HS0.out (fun _ => ?_)
        refine wpAnyH_take (i := 0) (v := .agg #[.int .u8 3, .int .u8 0, .int .u8 0, .slice none 0 0, .int .u64 0, .bool false, .string ⟨#[]⟩]) rfl (by kernel_rfl) (by kernel_rfl) (by kernel_rfl) (fun _ _ _ h => h) (Or.inl ⟨by kernel_rfl, fun W hW => by obtain ⟨m0, m1, m2, m3, m4, m5, m6⟩ := hW; go_simp⟩) HS0.out ?_
        try simp only [List.getElem_toArray, List.getElem_cons_zero, List.getElem_cons_succ, Act.put, List.setIfInBounds_toArray, List.set_cons_zero, List.set_cons_succ, List.append_eq, List.cons_append, List.nil_append]
        refine wpAnyH_take (i := 1) (v := .bool false) rfl (by kernel_rfl) (by kernel_rfl) (by kernel_rfl) (fun _ _ _ h => h) (Or.inl ⟨by kernel_rfl, fun W hW => by kernel_rfl⟩) HS0.out ?_
        try simp only [List.getElem_toArray, List.getElem_cons_zero, List.getElem_cons_succ, Act.put, List.setIfInBounds_toArray, List.set_cons_zero, List.set_cons_succ, List.append_eq, List.cons_append, List.nil_append]
        refine wpAnyH_take (i := 2) (v := .bool false) rfl (by kernel_rfl) (by kernel_rfl) (by kernel_rfl) (fun _ _ _ h => h) (Or.inl ⟨by kernel_rfl, fun W hW => by kernel_rfl⟩) HS0.out ?_
        try simp only [List.getElem_toArray, List.getElem_cons_zero, List.getElem_cons_succ, Act.put, List.setIfInBounds_toArray, List.set_cons_zero, List.set_cons_succ, List.append_eq, List.cons_append, List.nil_append]
        refine wpAnyH_take (i := 3) (v := undef) rfl (by kernel_rfl) (by kernel_rfl) (by kernel_rfl) (fun _ _ _ h => h) (Or.inr ⟨by kernel_rfl, rfl⟩) HS0.out ?_
        try simp only [List.getElem_toArray, List.getElem_cons_zero, List.getElem_cons_succ, Act.put, List.setIfInBounds_toArray, List.set_cons_zero, List.set_cons_succ, List.append_eq, List.cons_append, List.nil_append]
        refine wpAnyH_take (i := 4) (v := undef) rfl (by kernel_rfl) (by kernel_rfl) (by kernel_rfl) (fun _ _ _ h => h) (Or.inr ⟨by kernel_rfl, rfl⟩) HS0.out ?_
        try simp only [List.getElem_toArray, List.getElem_cons_zero, List.getElem_cons_succ, Act.put, List.setIfInBounds_toArray, List.set_cons_zero, List.set_cons_succ, List.append_eq, List.cons_append, List.nil_append]
        refine wpAnyH_take (i := 5) (v := .bool false) rfl (by kernel_rfl) (by kernel_rfl) (by kernel_rfl) (fun _ _ _ h => h) (Or.inl ⟨by kernel_rfl, fun W hW => by kernel_rfl⟩) HS0.out ?_
        try simp only [List.getElem_toArray, List.getElem_cons_zero, List.getElem_cons_succ, Act.put, List.setIfInBounds_toArray, List.set_cons_zero, List.set_cons_succ, List.append_eq, List.cons_append, List.nil_append]
        obtain ⟨w6, hw6⟩ : ∃ w6, w6 = WN.drew := ⟨_, rfl⟩
        have HT6 : Hid (Below WN.heap.size WN w6) := by show Below _ _ _; rw [hw6]; exact (Below.refl WN.heap.size WN).drew
        rw [← hw6]
        clear hw6
        have HX6 := Hid.mk2 (HXN.out.below HT6.out)
        have HY6 := Hid.mk2 (HYN.out.below HT6.out)
        have HB7 := Hid.mk2 (g_on HBN.out HT6.out)
        have z0 := HX6.out.c 0 (by simp [azc]); have z1 := HX6.out.c 1 (by simp [azc]); have z2 := HX6.out.c 2 (by simp [azc]); have z3 := HX6.out.c 3 (by simp [azc]); have z4 := HX6.out.c 4 (by simp [azc]); have z5 := HX6.out.c 5 (by simp [azc]); have z6 := HX6.out.c 6 (by simp [azc]); simp only [azc, List.getElem_cons_zero, List.getElem_cons_succ] at z0 z1 z2 z3 z4 z5 z6; have zf0 := HX6.out.f 0; have zf1 := HX6.out.f 1; have zf2 := HX6.out.f 2; have zf3 := HX6.out.f 3; have zf4 := HX6.out.f 4; have zf5 := HX6.out.f 5; have zf6 := HX6.out.f 6
        have HY7 : Hid (GBx (((((((w6.setCell ⟨P, 0, none⟩ (.int .u8 3)).setCell ⟨P, 1, none⟩ (.int .u8 0)).setCell ⟨P, 2, none⟩ (.int .u8 0)).setCell ⟨P, 3, none⟩ (.slice none 0 0)).setCell ⟨P, 4, none⟩ (.int .u64 0)).setCell ⟨P, 5, none⟩ (.bool false)).setCell ⟨P, 6, none⟩ (.string ⟨#[]⟩)) Y [.int .u8 3, .int .u8 0, .int .u8 0, .slice none 0 0, .int .u64 0, .bool false, .string ⟨#[]⟩]) := HY6.out.grown (pset7_gr _ P _ _ _ _ _ _ _) (by intro q; have h1 : P = Y := Option.some.inj q; omega)
        have HS7 := Hid.mk2 (show _ ∧ _ ∧ _ ∧ _ ∧ _ ∧ _ ∧ _ from ⟨HY7.out.c 0 (by simp), HY7.out.c 1 (by simp), HY7.out.c 2 (by simp), HY7.out.c 3 (by simp), HY7.out.c 4 (by simp), HY7.out.c 5 (by simp), HY7.out.c 6 (by simp)⟩)
        refine wpAnyH_ready (rs := [6]) (by kernel_rfl) (by simp) ?_
        refine AllReadyH.cons rfl (fun K hK => ?_) AllReadyH.nil
        simp only [List.getElem_toArray, List.getElem_cons_zero, List.getElem_cons_succ]
        go_simp
        refine hK.out _ _ HS7.out (fun _ => ?_)
        clear hK K
        try simp only [List.getElem_toArray, List.getElem_cons_zero, List.getElem_cons_succ, Act.put, List.setIfInBounds_toArray, List.set_cons_zero, List.set_cons_succ, List.append_eq, List.cons_append, List.nil_append]
        refine wpAnyH_take (i := 7) (v := .bool false) rfl (by kernel_rfl) (by kernel_rfl) (by kernel_rfl) (fun _ _ _ h => h) (Or.inl ⟨by kernel_rfl, fun W hW => by kernel_rfl⟩) HS7.out ?_
        try simp only [List.getElem_toArray, List.getElem_cons_zero, List.getElem_cons_succ, Act.put, List.setIfInBounds_toArray, List.set_cons_zero, List.set_cons_succ, List.append_eq, List.cons_append, List.nil_append]
        refine wpAnyH_done (by kernel_rfl) ?_ _
        refine NoPanic.normal ?_
        go_wp2
        refine bodyPost_ret (res_cell rfl rfl (load_var (pset7 HX6.out rfl _ _ _ _ _ _ _) 31 _ Try.underlying31 rfl (by kernel_rfl))) rfl ?_
        exact ofQ_fin (a := plainA 3 false ⟨#[]⟩) (GRd.nil _) (fun x q => by cases q) HA1.out (fun e => by cases e) HB7.out (pset7_gr _ P _ _ _ _ _ _ _) HPE.out _ rfl
    · have h1b : ((m : Int) == 1) = false := beq_eq_false_iff_ne.2 (by omega)
      have HOKF := Hid.mk2 (okP_flagn (c := c) (b := b) HFL.out (by rw [← HM.out]; exact h1))
      clear h1
      go_upto_region 11 with (fail)
      obtain ⟨WN, hWN⟩ : ∃ WN, WN = W2.setCell ⟨Y, 5, none⟩ (.bool false) := ⟨_, rfl⟩
      have HYN : Hid (GBx WN Y [.int .u8 3, .int .u8 0, .int .u8 0, .slice none 0 0, .int .u64 0, .bool false, .string ⟨#[]⟩]) := by rw [hWN]; exact HY2.out.set 5 _ (by simp)
      have HXN : Hid (GBx WN P azc) := by rw [hWN]; exact HX2.out.other 5 _ (by omega)
      have HBN : Hid (Below w.heap.size w WN) := by show Below _ _ _; rw [hWN]; exact HB2.out.setCell (p := ⟨Y, 5, none⟩) (by show w.heap.size ≤ Y; rw [← HPE.out]; omega) _
      rw [← hWN]
      clear hWN y0 y1 y2 y3 y4 y5 y6 yf0 yf1 yf2 yf3 yf4 yf5 yf6
      have HA1 : Hid (false = (okP c b && (pAns c b).1.may)) := by show _ = _; rw [HOKF.out]; rfl
      have HSS : Hid (∀ V, Below WN.heap.size WN V → V.cell? ⟨Y, 0, none⟩ = some (.int .u8 3) ∧ V.cell? ⟨Y, 1, none⟩ = some (.int .u8 0) ∧ V.cell? ⟨Y, 2, none⟩ = some (.int .u8 0) ∧ V.cell? ⟨Y, 3, none⟩ = some (.slice none 0 0) ∧ V.cell? ⟨Y, 4, none⟩ = some (.int .u64 0) ∧ V.cell? ⟨Y, 5, none⟩ = some (.bool false) ∧ V.cell? ⟨Y, 6, none⟩ = some (.string ⟨#[]⟩)) := fun V hV => by
        have h := HYN.out.below hV
        exact ⟨h.c 0 (by simp), h.c 1 (by simp), h.c 2 (by simp), h.c 3 (by simp), h.c 4 (by simp), h.c 5 (by simp), h.c 6 (by simp)⟩
      have HS0 := Hid.mk2 (HSS.out WN.drew (Below.refl _ _).drew)
      refine wp_region_noPanic ?_
      refine wp_region_held_drew (S := fun W => W.cell? ⟨Y, 0, none⟩ = some (.int .u8 3) ∧ W.cell? ⟨Y, 1, none⟩ = some (.int .u8 0) ∧ W.cell? ⟨Y, 2, none⟩ = some (.int .u8 0) ∧ W.cell? ⟨Y, 3, none⟩ = some (.slice none 0 0) ∧ W.cell? ⟨Y, 4, none⟩ = some (.int .u64 0) ∧ W.cell? ⟨Y, 5, none⟩ = some (.bool false) ∧ W.cell? ⟨Y, 6, none⟩ = some (.string ⟨#[]⟩)) (by kernel_rfl) HS0.out (fun _ => ?_)
      refine wpAnyH_take (i := 0) (v := .agg #[.int .u8 3, .int .u8 0, .int .u8 0, .slice none 0 0, .int .u64 0, .bool false, .string ⟨#[]⟩]) rfl (by kernel_rfl) (by kernel_rfl) (by kernel_rfl) (fun _ _ _ h => h) (Or.inl ⟨by kernel_rfl, fun W hW => by obtain ⟨m0, m1, m2, m3, m4, m5, m6⟩ := hW; go_simp⟩) HS0.out ?_
      try simp only [List.getElem_toArray, List.getElem_cons_zero, List.getElem_cons_succ, Act.put, List.setIfInBounds_toArray, List.set_cons_zero, List.set_cons_succ, List.append_eq, List.cons_append, List.nil_append]
      refine wpAnyH_take (i := 1) (v := .bool false) rfl (by kernel_rfl) (by kernel_rfl) (by kernel_rfl) (fun _ _ _ h => h) (Or.inl ⟨by kernel_rfl, fun W hW => by kernel_rfl⟩) HS0.out ?_
      try simp only [List.getElem_toArray, List.getElem_cons_zero, List.getElem_cons_succ, Act.put, List.setIfInBounds_toArray, List.set_cons_zero, List.set_cons_succ, List.append_eq, List.cons_append, List.nil_append]
      refine wpAnyH_take (i := 2) (v := .bool false) rfl (by kernel_rfl) (by kernel_rfl) (by kernel_rfl) (fun _ _ _ h => h) (Or.inl ⟨by kernel_rfl, fun W hW => by kernel_rfl⟩) HS0.out ?_
      try simp only [List.getElem_toArray, List.getElem_cons_zero, List.getElem_cons_succ, Act.put, List.setIfInBounds_toArray, List.set_cons_zero, List.set_cons_succ, List.append_eq, List.cons_append, List.nil_append]
      refine wpAnyH_take (i := 3) (v := undef) rfl (by kernel_rfl) (by kernel_rfl) (by kernel_rfl) (fun _ _ _ h => h) (Or.inr ⟨by kernel_rfl, rfl⟩) HS0.out ?_
      try simp only [List.getElem_toArray, List.getElem_cons_zero, List.getElem_cons_succ, Act.put, List.setIfInBounds_toArray, List.set_cons_zero, List.set_cons_succ, List.append_eq, List.cons_append, List.nil_append]
      refine wpAnyH_take (i := 4) (v := undef) rfl (by kernel_rfl) (by kernel_rfl) (by kernel_rfl) (fun _ _ _ h => h) (Or.inr ⟨by kernel_rfl, rfl⟩) HS0.out ?_
      try simp only [List.getElem_toArray, List.getElem_cons_zero, List.getElem_cons_succ, Act.put, List.setIfInBounds_toArray, List.set_cons_zero, List.set_cons_succ, List.append_eq, List.cons_append, List.nil_append]
      refine wpAnyH_take (i := 5) (v := .bool false) rfl (by kernel_rfl) (by kernel_rfl) (by kernel_rfl) (fun _ _ _ h => h) (Or.inl ⟨by kernel_rfl, fun W hW => by kernel_rfl⟩) HS0.out ?_
      try simp only [List.getElem_toArray, List.getElem_cons_zero, List.getElem_cons_succ, Act.put, List.setIfInBounds_toArray, List.set_cons_zero, List.set_cons_succ, List.append_eq, List.cons_append, List.nil_append]
      obtain ⟨w6, hw6⟩ : ∃ w6, w6 = WN.drew := ⟨_, rfl⟩
      have HT6 : Hid (Below WN.heap.size WN w6) := by show Below _ _ _; rw [hw6]; exact (Below.refl WN.heap.size WN).drew
      rw [← hw6]
      clear hw6
      have HX6 := Hid.mk2 (HXN.out.below HT6.out)
      have HY6 := Hid.mk2 (HYN.out.below HT6.out)
      have HB7 := Hid.mk2 (g_on HBN.out HT6.out)
      have z0 := HX6.out.c 0 (by simp [azc]); have z1 := HX6.out.c 1 (by simp [azc]); have z2 := HX6.out.c 2 (by simp [azc]); have z3 := HX6.out.c 3 (by simp [azc]); have z4 := HX6.out.c 4 (by simp [azc]); have z5 := HX6.out.c 5 (by simp [azc]); have z6 := HX6.out.c 6 (by simp [azc]); simp only [azc, List.getElem_cons_zero, List.getElem_cons_succ] at z0 z1 z2 z3 z4 z5 z6; have zf0 := HX6.out.f 0; have zf1 := HX6.out.f 1; have zf2 := HX6.out.f 2; have zf3 := HX6.out.f 3; have zf4 := HX6.out.f 4; have zf5 := HX6.out.f 5; have zf6 := HX6.out.f 6
      have HY7 : Hid (GBx (((((((w6.setCell ⟨P, 0, none⟩ (.int .u8 3)).setCell ⟨P, 1, none⟩ (.int .u8 0)).setCell ⟨P, 2, none⟩ (.int .u8 0)).setCell ⟨P, 3, none⟩ (.slice none 0 0)).setCell ⟨P, 4, none⟩ (.int .u64 0)).setCell ⟨P, 5, none⟩ (.bool false)).setCell ⟨P, 6, none⟩ (.string ⟨#[]⟩)) Y [.int .u8 3, .int .u8 0, .int .u8 0, .slice none 0 0, .int .u64 0, .bool false, .string ⟨#[]⟩]) := HY6.out.grown (pset7_gr _ P _ _ _ _ _ _ _) (by intro q; have h1 : P = Y := Option.some.inj q; omega)
      have HS7 := Hid.mk2 (show _ ∧ _ ∧ _ ∧ _ ∧ _ ∧ _ ∧ _ from ⟨HY7.out.c 0 (by simp), HY7.out.c 1 (by simp), HY7.out.c 2 (by simp), HY7.out.c 3 (by simp), HY7.out.c 4 (by simp), HY7.out.c 5 (by simp), HY7.out.c 6 (by simp)⟩)
      refine wpAnyH_ready (rs := [6]) (by kernel_rfl) (by simp) ?_
      refine AllReadyH.cons rfl (fun K hK => ?_) AllReadyH.nil
      simp only [List.getElem_toArray, List.getElem_cons_zero, List.getElem_cons_succ]
      go_simp
      refine hK.out _ _ HS7.out (fun _ => ?_)
      clear hK K
      try simp only [List.getElem_toArray, List.getElem_cons_zero, List.getElem_cons_succ, Act.put, List.setIfInBounds_toArray, List.set_cons_zero, List.set_cons_succ, List.append_eq, List.cons_append, List.nil_append]
      refine wpAnyH_take (i := 7) (v := .bool false) rfl (by kernel_rfl) (by kernel_rfl) (by kernel_rfl) (fun _ _ _ h => h) (Or.inl ⟨by kernel_rfl, fun W hW => by kernel_rfl⟩) HS7.out ?_
      try simp only [List.getElem_toArray, List.getElem_cons_zero, List.getElem_cons_succ, Act.put, List.setIfInBounds_toArray, List.set_cons_zero, List.set_cons_succ, List.append_eq, List.cons_append, List.nil_append]
      refine wpAnyH_done (by kernel_rfl) ?_ _
      refine NoPanic.normal ?_
      go_wp2
      refine bodyPost_ret (res_cell rfl rfl (load_var (pset7 HX6.out rfl _ _ _ _ _ _ _) 31 _ Try.underlying31 rfl (by kernel_rfl))) rfl ?_
      exact ofQ_fin (a := plainA 3 false ⟨#[]⟩) (GRd.nil _) (fun x q => by cases q) HA1.out (fun e => by cases e) HB7.out (pset7_gr _ P _ _ _ _ _ _ _) HPE.out _ rfl
  by_cases k7 : K = 7
  · have hc7 := HKC.out.2.2.2.1 k7
    subst hc7
    subst k7
    clear HKC HKE k1 k2 k3
    have y0 := HY2.out.c 0 (by simp); have y1 := HY2.out.c 1 (by simp); have y2 := HY2.out.c 2 (by simp); have y3 := HY2.out.c 3 (by simp); have y4 := HY2.out.c 4 (by simp); have y5 := HY2.out.c 5 (by simp); have y6 := HY2.out.c 6 (by simp); simp only [List.getElem_cons_zero, List.getElem_cons_succ] at y0 y1 y2 y3 y4 y5 y6; have yf0 := HY2.out.f 0; have yf1 := HY2.out.f 1; have yf2 := HY2.out.f 2; have yf3 := HY2.out.f 3; have yf4 := HY2.out.f 4; have yf5 := HY2.out.f 5; have yf6 := HY2.out.f 6
    have kc := conv_rd HR2.out
    rw [← HM.out] at kc
    obtain ⟨KY, hKY⟩ : ∃ k, k = mk1 b := ⟨_, rfl⟩
    rw [show (⟨b.toArray⟩ : ByteArray) = KY from hKY.symm] at kc
    have HKS : Hid (KY.size ≤ maxLen) := by
      show _ ≤ _
      have h1 : KY.size = b.length := by rw [hKY]; simp [mk1, ByteArray.size]
      have h2 := HBL.out
      have h3 : maxLen = 9223372036854775807 := rfl
      omega
    have HPA := Hid.mk2 (pAns_push b)
    rw [← hKY] at HPA
    clear hKY
    go_upto_region 11 with (fail)
    obtain ⟨WN, hWN⟩ : ∃ WN, WN = W2.setCell ⟨Y, 6, none⟩ (.string KY) := ⟨_, rfl⟩
    have HYN : Hid (GBx WN Y [.int .u8 7, .int .u8 0, .int .u8 0, .slice none 0 0, .int .u64 0, .bool false, .string KY]) := by rw [hWN]; exact HY2.out.set 6 _ (by simp)
    have HXN : Hid (GBx WN P azc) := by rw [hWN]; exact HX2.out.other 6 _ (by omega)
    have HBN : Hid (Below w.heap.size w WN) := by show Below _ _ _; rw [hWN]; exact HB2.out.setCell (p := ⟨Y, 6, none⟩) (by show w.heap.size ≤ Y; rw [← HPE.out]; omega) _
    rw [← hWN]
    clear hWN y0 y1 y2 y3 y4 y5 y6 yf0 yf1 yf2 yf3 yf4 yf5 yf6 kc
    obtain ⟨MB, hMB⟩ : ∃ x, x = (plainA 7 false KY).may := ⟨_, rfl⟩
    have HMBE := Hid.mk2 hMB
    have HMY : Hid (∀ V, Below WN.heap.size WN V → Calls Try.prog 20 #[.agg #[.int .u8 7, .int .u8 0, .int .u8 0, .slice none 0 0, .int .u64 0, .bool false, .string KY]] V fun e w' => e = .returned (.bool MB) ∧ Below V.heap.size V w') := fun V _ => by rw [hMB]; exact HMN.out V 7 false KY (HKS.out)
    clear hMB HMN
    have HA1 : Hid (MB = (okP 7 b && (pAns 7 b).1.may)) := by show _ = _; unfold okP; rw [HPA.out, HMBE.out]; rfl
    have HSS : Hid (∀ V, Below WN.heap.size WN V → V.cell? ⟨Y, 0, none⟩ = some (.int .u8 7) ∧ V.cell? ⟨Y, 1, none⟩ = some (.int .u8 0) ∧ V.cell? ⟨Y, 2, none⟩ = some (.int .u8 0) ∧ V.cell? ⟨Y, 3, none⟩ = some (.slice none 0 0) ∧ V.cell? ⟨Y, 4, none⟩ = some (.int .u64 0) ∧ V.cell? ⟨Y, 5, none⟩ = some (.bool false) ∧ V.cell? ⟨Y, 6, none⟩ = some (.string KY)) := fun V hV => by
      have h := HYN.out.below hV
      exact ⟨h.c 0 (by simp), h.c 1 (by simp), h.c 2 (by simp), h.c 3 (by simp), h.c 4 (by simp), h.c 5 (by simp), h.c 6 (by simp)⟩
    have HS0 := Hid.mk2 (HSS.out WN.drew (Below.refl _ _).drew)
    refine wp_region_noPanic ?_
    refine wp_region_held_drew (S := fun W => W.cell? ⟨Y, 0, none⟩ = some (.int .u8 7) ∧ W.cell? ⟨Y, 1, none⟩ = some (.int .u8 0) ∧ W.cell? ⟨Y, 2, none⟩ = some (.int .u8 0) ∧ W.cell? ⟨Y, 3, none⟩ = some (.slice none 0 0) ∧ W.cell? ⟨Y, 4, none⟩ = some (.int .u64 0) ∧ W.cell? ⟨Y, 5, none⟩ = some (.bool false) ∧ W.cell? ⟨Y, 6, none⟩ = some (.string KY)) (by kernel_rfl) HS0.out (fun _ => ?_)
    refine wpAnyH_take (i := 0) (v := .agg #[.int .u8 7, .int .u8 0, .int .u8 0, .slice none 0 0, .int .u64 0, .bool false, .string KY]) rfl (by kernel_rfl) (by kernel_rfl) (by kernel_rfl) (fun _ _ _ h => h) (Or.inl ⟨by kernel_rfl, fun W hW => by obtain ⟨m0, m1, m2, m3, m4, m5, m6⟩ := hW; go_simp⟩) HS0.out ?_
    try simp only [List.getElem_toArray, List.getElem_cons_zero, List.getElem_cons_succ, Act.put, List.setIfInBounds_toArray, List.set_cons_zero, List.set_cons_succ, List.append_eq, List.cons_append, List.nil_append]
    refine wpAnyH_take (i := 1) (v := .bool true) rfl (by kernel_rfl) (by kernel_rfl) (by kernel_rfl) (fun _ _ _ h => h) (Or.inl ⟨by kernel_rfl, fun W hW => by kernel_rfl⟩) HS0.out ?_
    try simp only [List.getElem_toArray, List.getElem_cons_zero, List.getElem_cons_succ, Act.put, List.setIfInBounds_toArray, List.set_cons_zero, List.set_cons_succ, List.append_eq, List.cons_append, List.nil_append]
    refine wpAnyH_take (i := 2) (v := .bool true) rfl (by kernel_rfl) (by kernel_rfl) (by kernel_rfl) (fun _ _ _ h => h) (Or.inl ⟨by kernel_rfl, fun W hW => by kernel_rfl⟩) HS0.out ?_
    try simp only [List.getElem_toArray, List.getElem_cons_zero, List.getElem_cons_succ, Act.put, List.setIfInBounds_toArray, List.set_cons_zero, List.set_cons_succ, List.append_eq, List.cons_append, List.nil_append]
    refine wpAnyH_take (i := 3) (v := .agg #[.int .u8 7, .int .u8 0, .int .u8 0, .slice none 0 0, .int .u64 0, .bool false, .string KY]) rfl (by kernel_rfl) (by kernel_rfl) (by kernel_rfl) (fun _ _ _ h => h) (Or.inl ⟨by kernel_rfl, fun W hW => by obtain ⟨m0, m1, m2, m3, m4, m5, m6⟩ := hW; go_simp⟩) HS0.out ?_
    try simp only [List.getElem_toArray, List.getElem_cons_zero, List.getElem_cons_succ, Act.put, List.setIfInBounds_toArray, List.set_cons_zero, List.set_cons_succ, List.append_eq, List.cons_append, List.nil_append]
    refine wpAnyH_ready (rs := [4]) (by kernel_rfl) (by simp) ?_
    refine AllReadyH.cons rfl (fun K hK => ?_) AllReadyH.nil
    simp only [List.getElem_toArray, List.getElem_cons_zero, List.getElem_cons_succ]
    go_simp
    go_at_call 20
    refine (HMY.out WN.drew (Below.refl _ _).drew).mono ?_
    rintro e w6 ⟨rfl, hb6⟩
    have HB6 := Hid.mk2 (g_on ((Below.refl WN.heap.size WN).drew) hb6)
    have HS6 := Hid.mk2 (HSS.out w6 HB6.out)
    refine hK.out _ _ HS6.out (fun _ => ?_)
    clear hK K hb6
    try simp only [List.getElem_toArray, List.getElem_cons_zero, List.getElem_cons_succ, Act.put, List.setIfInBounds_toArray, List.set_cons_zero, List.set_cons_succ, List.append_eq, List.cons_append, List.nil_append]
    refine wpAnyH_take (i := 5) (v := .bool MB) rfl (by kernel_rfl) (by kernel_rfl) (by kernel_rfl) (fun _ _ _ h => h) (Or.inl ⟨by kernel_rfl, fun W hW => by kernel_rfl⟩) HS6.out ?_
    try simp only [List.getElem_toArray, List.getElem_cons_zero, List.getElem_cons_succ, Act.put, List.setIfInBounds_toArray, List.set_cons_zero, List.set_cons_succ, List.append_eq, List.cons_append, List.nil_append]
    have HX6 := Hid.mk2 (HXN.out.below HB6.out)
    have HY6 := Hid.mk2 (HYN.out.below HB6.out)
    have HB7 := Hid.mk2 (g_on HBN.out HB6.out)
    have HT6 := HB6
    have z0 := HX6.out.c 0 (by simp [azc]); have z1 := HX6.out.c 1 (by simp [azc]); have z2 := HX6.out.c 2 (by simp [azc]); have z3 := HX6.out.c 3 (by simp [azc]); have z4 := HX6.out.c 4 (by simp [azc]); have z5 := HX6.out.c 5 (by simp [azc]); have z6 := HX6.out.c 6 (by simp [azc]); simp only [azc, List.getElem_cons_zero, List.getElem_cons_succ] at z0 z1 z2 z3 z4 z5 z6; have zf0 := HX6.out.f 0; have zf1 := HX6.out.f 1; have zf2 := HX6.out.f 2; have zf3 := HX6.out.f 3; have zf4 := HX6.out.f 4; have zf5 := HX6.out.f 5; have zf6 := HX6.out.f 6
    have HY7 : Hid (GBx (((((((w6.setCell ⟨P, 0, none⟩ (.int .u8 7)).setCell ⟨P, 1, none⟩ (.int .u8 0)).setCell ⟨P, 2, none⟩ (.int .u8 0)).setCell ⟨P, 3, none⟩ (.slice none 0 0)).setCell ⟨P, 4, none⟩ (.int .u64 0)).setCell ⟨P, 5, none⟩ (.bool false)).setCell ⟨P, 6, none⟩ (.string KY)) Y [.int .u8 7, .int .u8 0, .int .u8 0, .slice none 0 0, .int .u64 0, .bool false, .string KY]) := HY6.out.grown (pset7_gr _ P _ _ _ _ _ _ _) (by intro q; have h1 : P = Y := Option.some.inj q; omega)
    have HS7 := Hid.mk2 (show _ ∧ _ ∧ _ ∧ _ ∧ _ ∧ _ ∧ _ from ⟨HY7.out.c 0 (by simp), HY7.out.c 1 (by simp), HY7.out.c 2 (by simp), HY7.out.c 3 (by simp), HY7.out.c 4 (by simp), HY7.out.c 5 (by simp), HY7.out.c 6 (by simp)⟩)
    refine wpAnyH_ready (rs := [6]) (by kernel_rfl) (by simp) ?_
    refine AllReadyH.cons rfl (fun K hK => ?_) AllReadyH.nil
    simp only [List.getElem_toArray, List.getElem_cons_zero, List.getElem_cons_succ]
    go_simp
    refine hK.out _ _ HS7.out (fun _ => ?_)
    clear hK K
    try simp only [List.getElem_toArray, List.getElem_cons_zero, List.getElem_cons_succ, Act.put, List.setIfInBounds_toArray, List.set_cons_zero, List.set_cons_succ, List.append_eq, List.cons_append, List.nil_append]
    refine wpAnyH_take (i := 7) (v := .bool MB) rfl (by kernel_rfl) (by kernel_rfl) (by kernel_rfl) (fun _ _ _ h => h) (Or.inl ⟨by kernel_rfl, fun W hW => by kernel_rfl⟩) HS7.out ?_
    try simp only [List.getElem_toArray, List.getElem_cons_zero, List.getElem_cons_succ, Act.put, List.setIfInBounds_toArray, List.set_cons_zero, List.set_cons_succ, List.append_eq, List.cons_append, List.nil_append]
    refine wpAnyH_done (by kernel_rfl) ?_ _
    refine NoPanic.normal ?_
    go_wp2
    refine bodyPost_ret (res_cell rfl rfl (load_var (pset7 HX6.out rfl _ _ _ _ _ _ _) 31 _ Try.underlying31 rfl (by kernel_rfl))) rfl ?_
    exact ofQ_fin (a := plainA 7 false KY) (GRd.nil _) (fun x q => by cases q) HA1.out (fun _ => by rw [HPA.out]) HB7.out (pset7_gr _ P _ _ _ _ _ _ _) HPE.out _ rfl
  have HPA := Hid.mk2 (pAns_else (c := c) (fun q => k1 (HKC.out.1.2 q)) (fun q => k2 (HKC.out.2.1.2 q)) (fun q => k3 (HKC.out.2.2.1.2 q)) (fun q => k7 (HKC.out.2.2.2.2 q)) b)
  rw [← HKE.out] at HPA
  have b1 : (K == 1) = false := by simpa using k1
  have b2 : (K == 2) = false := by simpa using k2
  have b3 : (K == 3) = false := by simpa using k3
  have b7 : (K == 7) = false := by simpa using k7
  have HOKE : Hid (okP c b = decide (m = 0)) := by
    show _ = _
    unfold okP
    rw [HPA.out, HM.out]
    rfl
  clear HKC k1 k2 k3 k7
  by_cases h0 : m = 0
  · have m0 : ((m : Int) == 0) = true := by rw [h0]; rfl
    rw [decide_eq_true h0] at HOKE
    clear h0
    go_upto_region 11 with (fail)
    obtain ⟨MB, hMB⟩ : ∃ x, x = (plainA K false ⟨#[]⟩).may := ⟨_, rfl⟩
    have HMBE := Hid.mk2 hMB
    have HMY : Hid (∀ V, Below W2.heap.size W2 V → Calls Try.prog 20 #[.agg #[.int .u8 K, .int .u8 0, .int .u8 0, .slice none 0 0, .int .u64 0, .bool false, .string ⟨#[]⟩]] V fun e w' => e = .returned (.bool MB) ∧ Below V.heap.size V w') := fun V _ => by rw [hMB]; exact HMN.out V K false ⟨#[]⟩ (by decide)
    clear hMB HMN
    have HA1 : Hid (MB = (okP c b && (pAns c b).1.may)) := by show _ = _; rw [HOKE.out, HPA.out, HMBE.out]; rfl
    have HSS : Hid (∀ V, Below W2.heap.size W2 V → V.cell? ⟨Y, 0, none⟩ = some (.int .u8 K) ∧ V.cell? ⟨Y, 1, none⟩ = some (.int .u8 0) ∧ V.cell? ⟨Y, 2, none⟩ = some (.int .u8 0) ∧ V.cell? ⟨Y, 3, none⟩ = some (.slice none 0 0) ∧ V.cell? ⟨Y, 4, none⟩ = some (.int .u64 0) ∧ V.cell? ⟨Y, 5, none⟩ = some (.bool false) ∧ V.cell? ⟨Y, 6, none⟩ = some (.string ⟨#[]⟩)) := fun V hV => by
      have h := HY2.out.below hV
      exact ⟨h.c 0 (by simp), h.c 1 (by simp), h.c 2 (by simp), h.c 3 (by simp), h.c 4 (by simp), h.c 5 (by simp), h.c 6 (by simp)⟩
    have HS0 := Hid.mk2 (HSS.out W2.drew (Below.refl _ _).drew)
    refine wp_region_noPanic ?_
    refine wp_region_held_drew (S := fun W => W.cell? ⟨Y, 0, none⟩ = some (.int .u8 K) ∧ W.cell? ⟨Y, 1, none⟩ = some (.int .u8 0) ∧ W.cell? ⟨Y, 2, none⟩ = some (.int .u8 0) ∧ W.cell? ⟨Y, 3, none⟩ = some (.slice none 0 0) ∧ W.cell? ⟨Y, 4, none⟩ = some (.int .u64 0) ∧ W.cell? ⟨Y, 5, none⟩ = some (.bool false) ∧ W.cell? ⟨Y, 6, none⟩ = some (.string ⟨#[]⟩)) (by kernel_rfl) HS0.out (fun _ => ?_)
    refine wpAnyH_take (i := 0) (v := .agg #[.int .u8 K, .int .u8 0, .int .u8 0, .slice none 0 0, .int .u64 0, .bool false, .string ⟨#[]⟩]) rfl (by kernel_rfl) (by kernel_rfl) (by kernel_rfl) (fun _ _ _ h => h) (Or.inl ⟨by kernel_rfl, fun W hW => by obtain ⟨m0, m1, m2, m3, m4, m5, m6⟩ := hW; go_simp⟩) HS0.out ?_
    try simp only [List.getElem_toArray, List.getElem_cons_zero, List.getElem_cons_succ, Act.put, List.setIfInBounds_toArray, List.set_cons_zero, List.set_cons_succ, List.append_eq, List.cons_append, List.nil_append]
    refine wpAnyH_take (i := 1) (v := .bool true) rfl (by kernel_rfl) (by kernel_rfl) (by kernel_rfl) (fun _ _ _ h => h) (Or.inl ⟨by kernel_rfl, fun W hW => by kernel_rfl⟩) HS0.out ?_
    try simp only [List.getElem_toArray, List.getElem_cons_zero, List.getElem_cons_succ, Act.put, List.setIfInBounds_toArray, List.set_cons_zero, List.set_cons_succ, List.append_eq, List.cons_append, List.nil_append]
    refine wpAnyH_take (i := 2) (v := .bool true) rfl (by kernel_rfl) (by kernel_rfl) (by kernel_rfl) (fun _ _ _ h => h) (Or.inl ⟨by kernel_rfl, fun W hW => by kernel_rfl⟩) HS0.out ?_
    try simp only [List.getElem_toArray, List.getElem_cons_zero, List.getElem_cons_succ, Act.put, List.setIfInBounds_toArray, List.set_cons_zero, List.set_cons_succ, List.append_eq, List.cons_append, List.nil_append]
    refine wpAnyH_take (i := 3) (v := .agg #[.int .u8 K, .int .u8 0, .int .u8 0, .slice none 0 0, .int .u64 0, .bool false, .string ⟨#[]⟩]) rfl (by kernel_rfl) (by kernel_rfl) (by kernel_rfl) (fun _ _ _ h => h) (Or.inl ⟨by kernel_rfl, fun W hW => by obtain ⟨m0, m1, m2, m3, m4, m5, m6⟩ := hW; go_simp⟩) HS0.out ?_
    try simp only [List.getElem_toArray, List.getElem_cons_zero, List.getElem_cons_succ, Act.put, List.setIfInBounds_toArray, List.set_cons_zero, List.set_cons_succ, List.append_eq, List.cons_append, List.nil_append]
    refine wpAnyH_ready (rs := [4]) (by kernel_rfl) (by simp) ?_
    refine AllReadyH.cons rfl (fun K hK => ?_) AllReadyH.nil
    simp only [List.getElem_toArray, List.getElem_cons_zero, List.getElem_cons_succ]
    go_simp
    go_at_call 20
    refine (HMY.out W2.drew (Below.refl _ _).drew).mono ?_
    rintro e w6 ⟨rfl, hb6⟩
    have HB6 := Hid.mk2 (g_on ((Below.refl W2.heap.size W2).drew) hb6)
    have HS6 := Hid.mk2 (HSS.out w6 HB6.out)
    refine hK.out _ _ HS6.out (fun _ => ?_)
    clear hK K hb6
    try simp only [List.getElem_toArray, List.getElem_cons_zero, List.getElem_cons_succ, Act.put, List.setIfInBounds_toArray, List.set_cons_zero, List.set_cons_succ, List.append_eq, List.cons_append, List.nil_append]
    refine wpAnyH_take (i := 5) (v := .bool MB) rfl (by kernel_rfl) (by kernel_rfl) (by kernel_rfl) (fun _ _ _ h => h) (Or.inl ⟨by kernel_rfl, fun W hW => by kernel_rfl⟩) HS6.out ?_
    try simp only [List.getElem_toArray, List.getElem_cons_zero, List.getElem_cons_succ, Act.put, List.setIfInBounds_toArray, List.set_cons_zero, List.set_cons_succ, List.append_eq, List.cons_append, List.nil_append]
    have HX6 := Hid.mk2 (HX2.out.below HB6.out)
    have HY6 := Hid.mk2 (HY2.out.below HB6.out)
    have HB7 := Hid.mk2 (g_on HB2.out HB6.out)
    have HT6 := HB6
    have z0 := HX6.out.c 0 (by simp [azc]); have z1 := HX6.out.c 1 (by simp [azc]); have z2 := HX6.out.c 2 (by simp [azc]); have z3 := HX6.out.c 3 (by simp [azc]); have z4 := HX6.out.c 4 (by simp [azc]); have z5 := HX6.out.c 5 (by simp [azc]); have z6 := HX6.out.c 6 (by simp [azc]); simp only [azc, List.getElem_cons_zero, List.getElem_cons_succ] at z0 z1 z2 z3 z4 z5 z6; have zf0 := HX6.out.f 0; have zf1 := HX6.out.f 1; have zf2 := HX6.out.f 2; have zf3 := HX6.out.f 3; have zf4 := HX6.out.f 4; have zf5 := HX6.out.f 5; have zf6 := HX6.out.f 6
    have HY7 : Hid (GBx (((((((w6.setCell ⟨P, 0, none⟩ (.int .u8 K)).setCell ⟨P, 1, none⟩ (.int .u8 0)).setCell ⟨P, 2, none⟩ (.int .u8 0)).setCell ⟨P, 3, none⟩ (.slice none 0 0)).setCell ⟨P, 4, none⟩ (.int .u64 0)).setCell ⟨P, 5, none⟩ (.bool false)).setCell ⟨P, 6, none⟩ (.string ⟨#[]⟩)) Y [.int .u8 K, .int .u8 0, .int .u8 0, .slice none 0 0, .int .u64 0, .bool false, .string ⟨#[]⟩]) := HY6.out.grown (pset7_gr _ P _ _ _ _ _ _ _) (by intro q; have h1 : P = Y := Option.some.inj q; omega)
    have HS7 := Hid.mk2 (show _ ∧ _ ∧ _ ∧ _ ∧ _ ∧ _ ∧ _ from ⟨HY7.out.c 0 (by simp), HY7.out.c 1 (by simp), HY7.out.c 2 (by simp), HY7.out.c 3 (by simp), HY7.out.c 4 (by simp), HY7.out.c 5 (by simp), HY7.out.c 6 (by simp)⟩)
    refine wpAnyH_ready (rs := [6]) (by kernel_rfl) (by simp) ?_
    refine AllReadyH.cons rfl (fun K hK => ?_) AllReadyH.nil
    simp only [List.getElem_toArray, List.getElem_cons_zero, List.getElem_cons_succ]
    go_simp
    refine hK.out _ _ HS7.out (fun _ => ?_)
    clear hK K
    try simp only [List.getElem_toArray, List.getElem_cons_zero, List.getElem_cons_succ, Act.put, List.setIfInBounds_toArray, List.set_cons_zero, List.set_cons_succ, List.append_eq, List.cons_append, List.nil_append]
    refine wpAnyH_take (i := 7) (v := .bool MB) rfl (by kernel_rfl) (by kernel_rfl) (by kernel_rfl) (fun _ _ _ h => h) (Or.inl ⟨by kernel_rfl, fun W hW => by kernel_rfl⟩) HS7.out ?_
    try simp only [List.getElem_toArray, List.getElem_cons_zero, List.getElem_cons_succ, Act.put, List.setIfInBounds_toArray, List.set_cons_zero, List.set_cons_succ, List.append_eq, List.cons_append, List.nil_append]
    refine wpAnyH_done (by kernel_rfl) ?_ _
    refine NoPanic.normal ?_
    go_wp2
    refine bodyPost_ret (res_cell rfl rfl (load_var (pset7 HX6.out rfl _ _ _ _ _ _ _) 31 _ Try.underlying31 rfl (by kernel_rfl))) rfl ?_
    exact ofQ_fin (a := plainA K false ⟨#[]⟩) (GRd.nil _) (fun x q => by cases q) HA1.out (fun _ => by rw [HPA.out]) HB7.out (pset7_gr _ P _ _ _ _ _ _ _) HPE.out _ rfl
  · have m0 : ((m : Int) == 0) = false := beq_eq_false_iff_ne.2 (by omega)
    rw [decide_eq_false h0] at HOKE
    clear h0
    go_upto_region 11 with (fail)
    have HA1 : Hid (false = (okP c b && (pAns c b).1.may)) := by show _ = _; rw [HOKE.out]; rfl
    have HSS : Hid (∀ V, Below W2.heap.size W2 V → V.cell? ⟨Y, 0, none⟩ = some (.int .u8 K) ∧ V.cell? ⟨Y, 1, none⟩ = some (.int .u8 0) ∧ V.cell? ⟨Y, 2, none⟩ = some (.int .u8 0) ∧ V.cell? ⟨Y, 3, none⟩ = some (.slice none 0 0) ∧ V.cell? ⟨Y, 4, none⟩ = some (.int .u64 0) ∧ V.cell? ⟨Y, 5, none⟩ = some (.bool false) ∧ V.cell? ⟨Y, 6, none⟩ = some (.string ⟨#[]⟩)) := fun V hV => by
      have h := HY2.out.below hV
      exact ⟨h.c 0 (by simp), h.c 1 (by simp), h.c 2 (by simp), h.c 3 (by simp), h.c 4 (by simp), h.c 5 (by simp), h.c 6 (by simp)⟩
    have HS0 := Hid.mk2 (HSS.out W2.drew (Below.refl _ _).drew)
    refine wp_region_noPanic ?_
    refine wp_region_held_drew (S := fun W => W.cell? ⟨Y, 0, none⟩ = some (.int .u8 K) ∧ W.cell? ⟨Y, 1, none⟩ = some (.int .u8 0) ∧ W.cell? ⟨Y, 2, none⟩ = some (.int .u8 0) ∧ W.cell? ⟨Y, 3, none⟩ = some (.slice none 0 0) ∧ W.cell? ⟨Y, 4, none⟩ = some (.int .u64 0) ∧ W.cell? ⟨Y, 5, none⟩ = some (.bool false) ∧ W.cell? ⟨Y, 6, none⟩ = some (.string ⟨#[]⟩)) (by kernel_rfl) HS0.out (fun _ => ?_)
    refine wpAnyH_take (i := 0) (v := .agg #[.int .u8 K, .int .u8 0, .int .u8 0, .slice none 0 0, .int .u64 0, .bool false, .string ⟨#[]⟩]) rfl (by kernel_rfl) (by kernel_rfl) (by kernel_rfl) (fun _ _ _ h => h) (Or.inl ⟨by kernel_rfl, fun W hW => by obtain ⟨m0, m1, m2, m3, m4, m5, m6⟩ := hW; go_simp⟩) HS0.out ?_
    try simp only [List.getElem_toArray, List.getElem_cons_zero, List.getElem_cons_succ, Act.put, List.setIfInBounds_toArray, List.set_cons_zero, List.set_cons_succ, List.append_eq, List.cons_append, List.nil_append]
    refine wpAnyH_take (i := 1) (v := .bool false) rfl (by kernel_rfl) (by kernel_rfl) (by kernel_rfl) (fun _ _ _ h => h) (Or.inl ⟨by kernel_rfl, fun W hW => by kernel_rfl⟩) HS0.out ?_
    try simp only [List.getElem_toArray, List.getElem_cons_zero, List.getElem_cons_succ, Act.put, List.setIfInBounds_toArray, List.set_cons_zero, List.set_cons_succ, List.append_eq, List.cons_append, List.nil_append]
    refine wpAnyH_take (i := 2) (v := .bool false) rfl (by kernel_rfl) (by kernel_rfl) (by kernel_rfl) (fun _ _ _ h => h) (Or.inl ⟨by kernel_rfl, fun W hW => by kernel_rfl⟩) HS0.out ?_
    try simp only [List.getElem_toArray, List.getElem_cons_zero, List.getElem_cons_succ, Act.put, List.setIfInBounds_toArray, List.set_cons_zero, List.set_cons_succ, List.append_eq, List.cons_append, List.nil_append]
    refine wpAnyH_take (i := 3) (v := undef) rfl (by kernel_rfl) (by kernel_rfl) (by kernel_rfl) (fun _ _ _ h => h) (Or.inr ⟨by kernel_rfl, rfl⟩) HS0.out ?_
    try simp only [List.getElem_toArray, List.getElem_cons_zero, List.getElem_cons_succ, Act.put, List.setIfInBounds_toArray, List.set_cons_zero, List.set_cons_succ, List.append_eq, List.cons_append, List.nil_append]
    refine wpAnyH_take (i := 4) (v := undef) rfl (by kernel_rfl) (by kernel_rfl) (by kernel_rfl) (fun _ _ _ h => h) (Or.inr ⟨by kernel_rfl, rfl⟩) HS0.out ?_
    try simp only [List.getElem_toArray, List.getElem_cons_zero, List.getElem_cons_succ, Act.put, List.setIfInBounds_toArray, List.set_cons_zero, List.set_cons_succ, List.append_eq, List.cons_append, List.nil_append]
    refine wpAnyH_take (i := 5) (v := .bool false) rfl (by kernel_rfl) (by kernel_rfl) (by kernel_rfl) (fun _ _ _ h => h) (Or.inl ⟨by kernel_rfl, fun W hW => by kernel_rfl⟩) HS0.out ?_
    try simp only [List.getElem_toArray, List.getElem_cons_zero, List.getElem_cons_succ, Act.put, List.setIfInBounds_toArray, List.set_cons_zero, List.set_cons_succ, List.append_eq, List.cons_append, List.nil_append]
    obtain ⟨w6, hw6⟩ : ∃ w6, w6 = W2.drew := ⟨_, rfl⟩
    have HT6 : Hid (Below W2.heap.size W2 w6) := by show Below _ _ _; rw [hw6]; exact (Below.refl W2.heap.size W2).drew
    rw [← hw6]
    clear hw6
    have HX6 := Hid.mk2 (HX2.out.below HT6.out)
    have HY6 := Hid.mk2 (HY2.out.below HT6.out)
    have HB7 := Hid.mk2 (g_on HB2.out HT6.out)
    have z0 := HX6.out.c 0 (by simp [azc]); have z1 := HX6.out.c 1 (by simp [azc]); have z2 := HX6.out.c 2 (by simp [azc]); have z3 := HX6.out.c 3 (by simp [azc]); have z4 := HX6.out.c 4 (by simp [azc]); have z5 := HX6.out.c 5 (by simp [azc]); have z6 := HX6.out.c 6 (by simp [azc]); simp only [azc, List.getElem_cons_zero, List.getElem_cons_succ] at z0 z1 z2 z3 z4 z5 z6; have zf0 := HX6.out.f 0; have zf1 := HX6.out.f 1; have zf2 := HX6.out.f 2; have zf3 := HX6.out.f 3; have zf4 := HX6.out.f 4; have zf5 := HX6.out.f 5; have zf6 := HX6.out.f 6
    have HY7 : Hid (GBx (((((((w6.setCell ⟨P, 0, none⟩ (.int .u8 K)).setCell ⟨P, 1, none⟩ (.int .u8 0)).setCell ⟨P, 2, none⟩ (.int .u8 0)).setCell ⟨P, 3, none⟩ (.slice none 0 0)).setCell ⟨P, 4, none⟩ (.int .u64 0)).setCell ⟨P, 5, none⟩ (.bool false)).setCell ⟨P, 6, none⟩ (.string ⟨#[]⟩)) Y [.int .u8 K, .int .u8 0, .int .u8 0, .slice none 0 0, .int .u64 0, .bool false, .string ⟨#[]⟩]) := HY6.out.grown (pset7_gr _ P _ _ _ _ _ _ _) (by intro q; have h1 : P = Y := Option.some.inj q; omega)
    have HS7 := Hid.mk2 (show _ ∧ _ ∧ _ ∧ _ ∧ _ ∧ _ ∧ _ from ⟨HY7.out.c 0 (by simp), HY7.out.c 1 (by simp), HY7.out.c 2 (by simp), HY7.out.c 3 (by simp), HY7.out.c 4 (by simp), HY7.out.c 5 (by simp), HY7.out.c 6 (by simp)⟩)
    refine wpAnyH_ready (rs := [6]) (by kernel_rfl) (by simp) ?_
    refine AllReadyH.cons rfl (fun K hK => ?_) AllReadyH.nil
    simp only [List.getElem_toArray, List.getElem_cons_zero, List.getElem_cons_succ]
    go_simp
    refine hK.out _ _ HS7.out (fun _ => ?_)
    clear hK K
    try simp only [List.getElem_toArray, List.getElem_cons_zero, List.getElem_cons_succ, Act.put, List.setIfInBounds_toArray, List.set_cons_zero, List.set_cons_succ, List.append_eq, List.cons_append, List.nil_append]
    refine wpAnyH_take (i := 7) (v := .bool false) rfl (by kernel_rfl) (by kernel_rfl) (by kernel_rfl) (fun _ _ _ h => h) (Or.inl ⟨by kernel_rfl, fun W hW => by kernel_rfl⟩) HS7.out ?_
    try simp only [List.getElem_toArray, List.getElem_cons_zero, List.getElem_cons_succ, Act.put, List.setIfInBounds_toArray, List.set_cons_zero, List.set_cons_succ, List.append_eq, List.cons_append, List.nil_append]
    refine wpAnyH_done (by kernel_rfl) ?_ _
    refine NoPanic.normal ?_
    go_wp2
    refine bodyPost_ret (res_cell rfl rfl (load_var (pset7 HX6.out rfl _ _ _ _ _ _ _) 31 _ Try.underlying31 rfl (by kernel_rfl))) rfl ?_
    exact ofQ_fin (a := plainA K false ⟨#[]⟩) (GRd.nil _) (fun x q => by cases q) HA1.out (fun e => by cases e) HB7.out (pset7_gr _ P _ _ _ _ _ _ _) HPE.out _ rfl
end Go.Proofs.Ytfjcaofmcjhdpaa
