/-
  TableNames is true; no conditions.
-/
import Derived.Test.YtcmfgofknjlmgabTbNot
import Derived.ChangeSlices
import Derived.Test.YtcmfgofknjlmgabChecked
namespace Go.Proofs.Ytcmfgofknjlmgab
open Go.ChangeShapes Go.WideShapes Go.ChangeAt Go.RowKit
open Go.ChangeMaps (open_string shut_string)
set_option linter.unusedSimpArgs false
set_option linter.unusedVariables false
set_option maxRecDepth 100000

theorem laidOut_all : laidOutB Try.prog = true := by kernel_rfl
/-- a table none of whose blocks is one of K -/
def TBy (w : World) (base p : Nat) (T : List NU) (C : Nat) (K : Nat → Prop) : Prop := ∃ moved F, moved ≤ 4 ∧ TB w base p T moved C F ∧ ∀ k, K k → ¬ F k ∧ k < w.heap.size
theorem TBy.below {w w' : World} {base p : Nat} {T : List NU} {C : Nat} {K : Nat → Prop} (h : TBy w base p T C K) (hb : Below w.heap.size w w') : TBy w' base p T C K := by
  obtain ⟨m, F, hm, h1, h2⟩ := h
  exact ⟨m, F, hm, h1.below hb, fun k hk => ⟨(h2 k hk).1, Nat.lt_of_lt_of_le (h2 k hk).2 hb.size⟩⟩
theorem TBx.toY {w w' : World} {base p : Nat} {T : List NU} {C : Nat} {K : Nat → Prop} (h : TBx w base p T C) (hb : Below w.heap.size w w') (hK : ∀ k, K k → w.heap.size ≤ k ∧ k < w'.heap.size) : TBy w' base p T C K := by
  obtain ⟨m, F, hm, h1⟩ := h
  exact ⟨m, F, hm, h1.below hb, fun k hk => ⟨fun hf => by have := (h1.lt hf).2; have := (hK k hk).1; omega, (hK k hk).2⟩⟩
theorem Same.stepy {w w' : World} {base p : Nat} {T T' : List NU} {moved C : Nat} {F K : Nat → Prop} (h : TB w base p T moved C F) (hs : Same w base p T' C F w') (hB : base ≤ w.heap.size) (hK : ∀ k, K k → ¬ F k ∧ k < w.heap.size) :
    TBy w' base p T' C K ∧ Below base w w' ∧ ∀ k, K k → w'.heap[k]? = w.heap[k]? := by
  obtain ⟨m, F', hm, h1, h2, h3⟩ := hs
  refine ⟨⟨m, F', hm, h1, fun k hk => ⟨fun hf => ?_, Nat.lt_of_lt_of_le (hK k hk).2 h2.size⟩⟩, h2.to_below hB (fun k hk => (h.lt hk).1), fun k hk => h2.block k (hK k hk).2 (hK k hk).1⟩
  rcases h3 k hf with h4 | h4
  · exact (hK k hk).1 h4
  · have := (hK k hk).2
    omega
theorem del_y (w : World) (base p : Nat) (T : List NU) (C : Nat) (K : Nat → Prop) (h : TBy w base p T C K) (hB : base ≤ w.heap.size) (hC : T.length ≤ C) (hC2 : C ≤ 200000) (y : Nm) (hy : y.ok) :
    Calls Try.prog 12 #[.pointer (some ⟨p, 0, none⟩), .agg #[.int .i64 y.tenant, .string y.key]] w fun e w' => e = .returned (.tuple #[.bool (lk T y).isSome, .int .i64 0]) ∧ TBy w' base p (strike y T) C K ∧ Below base w w' ∧ ∀ k, K k → w'.heap[k]? = w.heap[k]? := by
  obtain ⟨m, F, hm, h1, h2⟩ := h
  refine (del_ok w base p T m C F h1 hC hC2 y hy).mono ?_
  rintro e w' ⟨rfl, T', rfl, hs⟩
  exact ⟨rfl, Same.stepy h1 hs hB h2⟩
theorem get_y (w : World) (base p : Nat) (T : List NU) (C : Nat) (K : Nat → Prop) (h : TBy w base p T C K) (hB : base ≤ w.heap.size) (hC : T.length ≤ C) (hC2 : C ≤ 200000) (y : Nm) (hy : y.ok) :
    Calls Try.prog 13 #[.pointer (some ⟨p, 0, none⟩), .agg #[.int .i64 y.tenant, .string y.key]] w fun e w' => e = .returned (.tuple #[.int .i64 ((lk T y).getD 0), .bool (lk T y).isSome, .int .i64 0]) ∧ TBy w' base p T C K ∧ Below base w w' ∧ ∀ k, K k → w'.heap[k]? = w.heap[k]? := by
  obtain ⟨m, F, hm, h1, h2⟩ := h
  refine (get_ok w base p T m C F h1 hC hC2 y hy).mono ?_
  rintro e w' ⟨rfl, hs⟩
  exact ⟨rfl, Same.stepy h1 hs hB h2⟩
theorem putbad_y (w : World) (base p : Nat) (T : List NU) (C : Nat) (K : Nat → Prop) (h : TBy w base p T C K) (y : Nm) (hy : ¬ y.ok) (x : Int) :
    Calls Try.prog 9 #[.pointer (some ⟨p, 0, none⟩), .agg #[.int .i64 y.tenant, .string y.key], .int .i64 x] w fun e w' => e = .returned (.int .i64 8) ∧ Below w.heap.size w w' := by
  obtain ⟨m, F, hm, h1, h2⟩ := h
  exact put_bad w base p T m C F h1 y hy x
/-- the block of an answer -/
def Ko (ao : Option Addr) (k : Nat) : Prop := ao = some ⟨k, 0, none⟩
theorem NsAt.far {w w' : World} {ao : Option Addr} {ns : List Nm} (h : NsAt w ao ns) (e : ∀ k, Ko ao k → w'.heap[k]? = w.heap[k]?) (hs : w.heap.size ≤ w'.heap.size) : NsAt w' ao ns := by
  rcases h with rfl | ⟨b, rfl, hlt, hc⟩
  · exact .inl rfl
  · exact .inr ⟨b, rfl, Nat.lt_of_lt_of_le hlt hs, fun i hi => ⟨(World.cell?_of_block (e b rfl)).trans (hc i hi).1, (World.cell?_of_block (e b rfl)).trans (hc i hi).2⟩⟩
theorem alls_ko {w w' : World} {T : List NU} {ao : Option Addr} {cap : Nat} {S : List Nm} (hA : Alls w w' T ao cap S) (hne : S ≠ []) : ∀ k, Ko ao k → w.heap.size ≤ k ∧ k < w'.heap.size := by
  intro k hk
  refine ⟨hA.new _ hk, ?_⟩
  rcases hA.at_ with h0 | ⟨b, hb, hlt, _⟩
  · exact absurd h0 hne
  · unfold Ko at hk
    rw [hk] at hb
    cases hb
    exact hlt
theorem two_rise {S : List Nm} (hp : S.Perm [bN, aN]) (hr : S.Pairwise nlt) : S = [aN, bN] := by
  have hl := hp.length_eq
  match S, hl with
  | [x, y], _ =>
    have hx : x ∈ [bN, aN] := hp.subset (by simp)
    have hy : y ∈ [bN, aN] := hp.subset (by simp)
    have hn : nlt x y := by simpa using hr
    simp only [List.mem_cons, List.not_mem_nil, or_false] at hx hy
    rcases hx with rfl | rfl <;> rcases hy with rfl | rfl
    · exact absurd hn (by decide)
    · exact absurd hn (by decide)
    · rfl
    · exact absurd hn (by decide)
theorem two_same (w : World) (ao : Option Addr) (cap : Nat) (hac : 2 ≤ cap) (hac2 : cap ≤ maxLen) (h : NsAt w ao [aN, bN]) :
    Calls Try.prog 16 #[.slice ao 2 cap, .slice (some ⟨w.heap.size, 0, none⟩) 2 2] (w.alloc (.cells #[.int .i64 0, .string ⟨#[97]⟩, .int .i64 1, .string ⟨#[97]⟩] 28)) fun e w' => e = .returned (.bool true) ∧ ∃ n, w' = (w.alloc (.cells #[.int .i64 0, .string ⟨#[97]⟩, .int .i64 1, .string ⟨#[97]⟩] 28)).drewN n := by
  refine sameNames_or _ ao _ cap 2 [aN, bN] (h.below ((Below.refl _ _).alloc (Nat.le_refl _) _)) (.inr ⟨w.heap.size, rfl, by simp, fun i hi => ?_⟩) (by simp) (by simpa using hac) (by simp) hac2 (by simp [maxLen])
  have h2 : i = 0 ∨ i = 1 := by simp at hi; omega
  rcases h2 with rfl | rfl
  · exact ⟨by simp [aN], by simp [aN]⟩
  · exact ⟨by simp [bN], by simp [bN]⟩
set_option maxHeartbeats 4000000 in
theorem tableNames_walk (w : World) : Calls Try.prog 3 #[] w fun e w' => e = .returned (.bool true) ∧ Below w.heap.size w w' := by
  have oka : aN.ok := by decide
  have okb : bN.ok := by decide
  have L1 : ((aN, (5 : Int)) :: strike aN []) = [(aN, 5)] := by decide
  have L2 : ((bN, (6 : Int)) :: strike bN [(aN, 5)]) = [(bN, 6), (aN, 5)] := by decide
  have L3 : strike aN [(bN, (6 : Int)), (aN, 5)] = [(bN, 6)] := by decide
  have L4 : strike aN [(bN, (6 : Int))] = [(bN, 6)] := by decide
  have K3 : lk [(bN, (6 : Int)), (aN, 5)] aN = some 5 := by decide
  have K4 : lk [(bN, (6 : Int))] aN = none := by decide
  have HBR : Hid (Below w.heap.size w w) := Below.refl _ _
  have HN := Hid.mk2 (fun W (hb : Below w.heap.size w W) => new_x W 10)
  have HA1 := Hid.mk2 (fun W B p (h : TBx W B p [] 10) hB => put_x W B p [] 10 h hB (by decide) (by decide) aN oka 5)
  have HA2 := Hid.mk2 (fun W B p (h : TBx W B p [(aN, 5)] 10) hB => put_x W B p [(aN, 5)] 10 h hB (by decide) (by decide) bN okb 6)
  have HAL := Hid.mk2 (fun W B p (h : TBx W B p [(bN, 6), (aN, 5)] 10) => all_x W B p [(bN, 6), (aN, 5)] 10 h (by decide) (by decide))
  have HD1 := Hid.mk2 (fun W B p K (h : TBy W B p [(bN, 6), (aN, 5)] 10 K) hB => del_y W B p [(bN, 6), (aN, 5)] 10 K h hB (by decide) (by decide) aN oka)
  have HD2 := Hid.mk2 (fun W B p K (h : TBy W B p [(bN, 6)] 10 K) hB => del_y W B p [(bN, 6)] 10 K h hB (by decide) (by decide) aN oka)
  have HG := Hid.mk2 (fun W B p K (h : TBy W B p [(bN, 6)] 10 K) hB => get_y W B p [(bN, 6)] 10 K h hB (by decide) (by decide) aN oka)
  have HPB := Hid.mk2 (fun W B p K (h : TBy W B p [(bN, 6)] 10 K) => putbad_y W B p [(bN, 6)] 10 K h ⟨4, ⟨#[97]⟩⟩ (by decide) 1)
  have HGN := Hid.mk2 (fun W => get_nil W aN)
  have HPN := Hid.mk2 (fun W => put_nil W aN 1)
  have HSN := Hid.mk2 two_same
  rw [L1] at HA1
  rw [L2] at HA2
  rw [L3, K3] at HD1
  rw [L4, K4] at HD2
  rw [K4] at HG
  have ea : aN.tenant = 0 ∧ aN.key = ⟨#[97]⟩ := ⟨rfl, rfl⟩
  have eb : bN.tenant = 1 ∧ bN.key = ⟨#[97]⟩ := ⟨rfl, rfl⟩
  rw [ea.1, ea.2] at HA1 HD1 HD2 HG HGN HPN
  rw [eb.1, eb.2] at HA2
  clear L1 L2 L3 L4 K3 K4 ea eb oka okb
  go_enter Try.func3, Try.ntmps3
  go_upto_region 3 with (go_at_call 7; refine (alive_any _).mono ?_; rintro e w0 ⟨rfl, hb0⟩; have HB0 := Hid.mk2 hb0; clear hb0)
  go_upto_region 4 with (go_at_call 8; refine (HN.out _ HB0.out).mono ?_; rintro e w1 ⟨p, rfl, hT1, hb1⟩; have HT1 := Hid.mk2 hT1; have HS1 : Hid (w0.heap.size ≤ w1.heap.size) := hb1.size; have HB1 : Hid (Below w.heap.size w w1) := HB0.out.trans (hb1.mono HB0.out.size); clear hT1 hb1)
  go_upto_region 5 with (first
    | (go_at_call 10; refine (name_any _ _ _).mono ?_; rintro e w2 ⟨rfl, hb2⟩; have HT2 := Hid.mk2 (HT1.out.below hb2); have HB2 : Hid (Below w.heap.size w w2) := HB1.out.trans (hb2.mono HB1.out.size); have HS2 : Hid (w0.heap.size ≤ w2.heap.size) := Nat.le_trans HS1.out hb2.size; clear hb2)
    | (go_at_call 9; refine (HA1.out _ _ p HT2.out HS2.out).mono ?_; rintro e w3 ⟨rfl, hT3, hb3⟩; have HT3 := Hid.mk2 hT3; have HS3 : Hid (w0.heap.size ≤ w3.heap.size) := Nat.le_trans HS2.out hb3.size; have HB3 : Hid (Below w.heap.size w w3) := HB2.out.trans (hb3.mono HB0.out.size); clear hT3 hb3))
  go_upto_region 6 with (first
    | (go_at_call 10; refine (name_any _ _ _).mono ?_; rintro e w4 ⟨rfl, hb2⟩; have HT4 := Hid.mk2 (HT3.out.below hb2); have HB4 : Hid (Below w.heap.size w w4) := HB3.out.trans (hb2.mono HB3.out.size); have HS4 : Hid (w0.heap.size ≤ w4.heap.size) := Nat.le_trans HS3.out hb2.size; clear hb2)
    | (go_at_call 9; refine (HA2.out _ _ p HT4.out HS4.out).mono ?_; rintro e w5 ⟨rfl, hT3, hb3⟩; have HT5 := Hid.mk2 hT3; have HS5 : Hid (w0.heap.size ≤ w5.heap.size) := Nat.le_trans HS4.out hb3.size; have HB5 : Hid (Below w.heap.size w w5) := HB4.out.trans (hb3.mono HB0.out.size); clear hT3 hb3))
  go_upto_region 7 with (go_at_call 11; refine (HAL.out _ _ p HT5.out).mono ?_; rintro e w6 ⟨ao, cap, S, rfl, hA⟩; obtain rfl := two_rise (by simpa using hA.perm) hA.rise; have hcap := hA.le; have hcap2 := hA.cap; have HNA6 := Hid.mk2 hA.at_; have hb2 := hA.bel; have HT6 : Hid (TBy w6 w0.heap.size p [(bN, 6), (aN, 5)] 10 (Ko ao)) := HT5.out.toY hb2 (alls_ko hA (by simp)); have HS6 : Hid (w0.heap.size ≤ w6.heap.size) := Nat.le_trans HS5.out hb2.size; have HB6 : Hid (Below w.heap.size w w6) := HB5.out.trans (hb2.mono HB5.out.size); clear hb2 hA)
  simp only [List.length_cons, List.length_nil, Nat.zero_add, Nat.reduceAdd] at hcap
  go_upto_region 8 with (first
    | (go_at_call 10; refine (name_any _ _ _).mono ?_; rintro e w7 ⟨rfl, hb2⟩; have HT7 := Hid.mk2 (HT6.out.below hb2); have HB7 : Hid (Below w.heap.size w w7) := HB6.out.trans (hb2.mono HB6.out.size); have HS7 : Hid (w0.heap.size ≤ w7.heap.size) := Nat.le_trans HS6.out hb2.size; have HNA7 := Hid.mk2 (HNA6.out.below hb2); clear hb2)
    | (go_at_call 12; refine (HD1.out _ _ p (Ko ao) HT7.out HS7.out).mono ?_; rintro e w8 ⟨rfl, hT3, hb3, hk3⟩; have HT8 := Hid.mk2 hT3; have HS8 : Hid (w0.heap.size ≤ w8.heap.size) := Nat.le_trans HS7.out hb3.size; have HB8 : Hid (Below w.heap.size w w8) := HB7.out.trans (hb3.mono HB0.out.size); have HNA8 : Hid (NsAt w8 ao [aN, bN]) := HNA7.out.far hk3 hb3.size; clear hk3; clear hT3 hb3))
  go_upto_region 9 with (first
    | (go_at_call 10; refine (name_any _ _ _).mono ?_; rintro e w9 ⟨rfl, hb2⟩; have HT9 := Hid.mk2 (HT8.out.below hb2); have HB9 : Hid (Below w.heap.size w w9) := HB8.out.trans (hb2.mono HB8.out.size); have HS9 : Hid (w0.heap.size ≤ w9.heap.size) := Nat.le_trans HS8.out hb2.size; have HNA9 := Hid.mk2 (HNA8.out.below hb2); clear hb2)
    | (go_at_call 12; refine (HD2.out _ _ p (Ko ao) HT9.out HS9.out).mono ?_; rintro e w10 ⟨rfl, hT3, hb3, hk3⟩; have HT10 := Hid.mk2 hT3; have HS10 : Hid (w0.heap.size ≤ w10.heap.size) := Nat.le_trans HS9.out hb3.size; have HB10 : Hid (Below w.heap.size w w10) := HB9.out.trans (hb3.mono HB0.out.size); have HNA10 : Hid (NsAt w10 ao [aN, bN]) := HNA9.out.far hk3 hb3.size; clear hk3; clear hT3 hb3))
  go_upto_region 10 with (first
    | (go_at_call 10; refine (name_any _ _ _).mono ?_; rintro e w11 ⟨rfl, hb2⟩; have HT11 := Hid.mk2 (HT10.out.below hb2); have HB11 : Hid (Below w.heap.size w w11) := HB10.out.trans (hb2.mono HB10.out.size); have HS11 : Hid (w0.heap.size ≤ w11.heap.size) := Nat.le_trans HS10.out hb2.size; have HNA11 := Hid.mk2 (HNA10.out.below hb2); clear hb2)
    | (go_at_call 13; refine (HG.out _ _ p (Ko ao) HT11.out HS11.out).mono ?_; rintro e w12 ⟨rfl, hT3, hb3, hk3⟩; have HT12 := Hid.mk2 hT3; have HS12 : Hid (w0.heap.size ≤ w12.heap.size) := Nat.le_trans HS11.out hb3.size; have HB12 : Hid (Below w.heap.size w w12) := HB11.out.trans (hb3.mono HB0.out.size); have HNA12 : Hid (NsAt w12 ao [aN, bN]) := HNA11.out.far hk3 hb3.size; clear hk3; clear hT3 hb3))
  go_upto_region 11 with (first
    | (go_at_call 10; refine (name_any _ _ _).mono ?_; rintro e w13 ⟨rfl, hb2⟩; have HT13 := Hid.mk2 (HT12.out.below hb2); have HB13 : Hid (Below w.heap.size w w13) := HB12.out.trans (hb2.mono HB12.out.size); have HS13 : Hid (w0.heap.size ≤ w13.heap.size) := Nat.le_trans HS12.out hb2.size; have HNA13 := Hid.mk2 (HNA12.out.below hb2); clear hb2)
    | (go_at_call 9; refine (HPB.out _ _ p (Ko ao) HT13.out).mono ?_; rintro e w14 ⟨rfl, hb3⟩; have HB14 : Hid (Below w.heap.size w w14) := HB13.out.trans (hb3.mono HB13.out.size); have HNA14 := Hid.mk2 (HNA13.out.below hb3); clear hb3))
  clear HA1 HA2 HAL HD1 HD2 HG HPB HN HT1 HT2 HT3 HT4 HT5 HT6 HT7 HT8 HT9 HT10 HT11 HT12 HT13
  go_upto_region 13 with (fail)
  obtain ⟨w15, hw15⟩ : ∃ x, x = w14.alloc (Obj.cells #[.pointer none, .slice none 0 0, .slice none 0 0, .int .i64 0, .int .i64 0, .int .i64 0] 39) := ⟨_, rfl⟩
  obtain ⟨P, hP⟩ : ∃ x, x = w14.heap.size := ⟨_, rfl⟩
  rw [← hw15, ← hP]
  have c15 : w15.cell? ⟨P, 0, none⟩ = some (.pointer none) := by rw [hw15, hP]; simp
  have hlt15 : P < w15.heap.size := by rw [hw15, hP]; simp
  have HB15 : Hid (Below w.heap.size w w15) := by rw [hw15]; exact HB14.out.alloc HB14.out.size _
  have HNA15 : Hid (NsAt w15 ao [aN, bN]) := by rw [hw15]; exact HNA14.out.below ((Below.refl _ _).alloc (Nat.le_refl _) _)
  clear hw15 hP
  go_upto_region 14 with (first
    | (go_at_call 10; refine (name_any _ _ _).mono ?_; rintro e w16 ⟨rfl, hb2⟩; have c16 := (bcl hb2 _ 0 hlt15).trans c15; have hlt16 := Nat.lt_of_lt_of_le hlt15 hb2.size; have HB16 : Hid (Below w.heap.size w w16) := HB15.out.trans (hb2.mono HB15.out.size); have HNA16 := Hid.mk2 (HNA15.out.below hb2); clear hb2)
    | (go_at_call 13; refine (HGN.out _).mono ?_; rintro e w17 ⟨rfl, hb2⟩; have c17 := (bcl hb2 _ 0 hlt16).trans c16; have hlt17 := Nat.lt_of_lt_of_le hlt16 hb2.size; have HB17 : Hid (Below w.heap.size w w17) := HB16.out.trans (hb2.mono HB16.out.size); have HNA17 := Hid.mk2 (HNA16.out.below hb2); clear hb2))
  go_upto_region 15 with (go_at_call 14; refine (len_plain _ _ c17).mono ?_; rintro e w18 ⟨rfl, hwq⟩; obtain rfl := hwq.symm)
  go_upto_region 16 with (go_at_call 15; refine (moved_plain _ _ c17).mono ?_; rintro e w18 ⟨rfl, hwq⟩; obtain rfl := hwq.symm)
  clear c15 c16 c17 hlt15 hlt16 hlt17
  go_wp2_with (first
    | (go_at_call 10; refine (name_any 0 _ w17).mono ?_; rintro e w18 ⟨rfl, hb2⟩; have HB18 : Hid (Below w.heap.size w w18) := HB17.out.trans (hb2.mono HB17.out.size); have HNA18 := Hid.mk2 (HNA17.out.below hb2); clear hb2)
    | (go_at_call 10; refine (name_any 1 _ w18).mono ?_; rintro e w19 ⟨rfl, hb2⟩; have HB19 : Hid (Below w.heap.size w w19) := HB18.out.trans (hb2.mono HB18.out.size); have HNA19 := Hid.mk2 (HNA18.out.below hb2); clear hb2)
    | (go_at_call 16; refine (HSN.out w19 ao cap hcap hcap2 HNA19.out).mono ?_; rintro e w20 ⟨rfl, n20, hw20⟩; have HB20 : Hid (Below w.heap.size w w20) := (by rw [hw20]; exact below_drewR (HB19.out.alloc HB19.out.size _) n20); clear hw20)
    | (go_at_call 10; refine (name_any 0 _ w20).mono ?_; rintro e w21 ⟨rfl, hb2⟩; have HB21 : Hid (Below w.heap.size w w21) := HB20.out.trans (hb2.mono HB20.out.size); clear hb2)
    | (go_at_call 9; refine (HPN.out _).mono ?_; rintro e w22 ⟨rfl, hb2⟩; have HB22 : Hid (Below w.heap.size w w22) := HB21.out.trans (hb2.mono HB21.out.size); clear hb2))
  go_ret
  exact ⟨rfl, HB22.out⟩

set_option maxRecDepth 100000 in
theorem tableNames_lifted (os : Os) (started : os.Started) (H : Type) (enc : TypeId × Value → H) :
    ReturnsInHanded {} Try.checked os 3 .any (Rows.tableNamesSpec.pre6 enc Try.prog Try.f3 Rows.tableNamesRow.domain false) (Rows.tableNamesSpec.post enc Try.prog Try.f3 false true false false) := by
  refine returnsInHanded_of_change (C := Try.checked) (by kernel_rfl) started (by kernel_rfl) Try.func3
    (ChangeSpec.witness6 (enc := enc) (C := Try.checked) false ⟨#[], #[], []⟩ 8 (by kernel_rfl) (by kernel_rfl) (by kernel_rfl) (by kernel_rfl)) ?_
  intro W base args ds gs before hval0 hW hcnd _
  have hval : ∀ (j : Nat) t v, Try.f3.params[j]? = some t → args[j]? = some v → Value.okWide Try.prog W .any base t v := hval0
  have hW' := hW
  obtain ⟨p, q, hA0, hV, rfl, hfz, hnd⟩ := hW
  have hA : DataW.TrodAll enc Try.prog W 0 (fun _ => true) true Try.f3.params.toList args.toList ds p := hA0
  rw [Try.params3] at hA hval
  obtain ⟨rfl, rfl, rfl⟩ := trodAll_none hA
  obtain ⟨rfl, rfl⟩ := trodVars_none hV
  clear hA0 hval0
  refine (tableNames_walk W ).mono fun e W' ⟨he, bel⟩ => ?_
  subst he
  exact ⟨_, rfl, _, _, _, [], _, [], hW', trodAll_mk1 (shut_bool Try.underlying4 _), trodAll_mk0, rfl, bel.frame _, fun h => by cases h⟩

theorem tableNames_proved : Rows.TableNamesSaid :=
  OpenClaim.holds_of_wide 3 Try.f3 rfl rfl rfl rfl rfl rfl rfl ⟨rfl, rfl, rfl, rfl, rfl⟩ rfl rfl rfl rfl rfl (by kernel_rfl) Try.func3 (by kernel_rfl)
    (of_decide_eq_true (by kernel_rfl)) (by unfold Func.isWrapper; first | (rw [if_pos (by decide +kernel)]; kernel_rfl) | (rw [if_neg (by decide +kernel)]; exact ⟨rfl, rfl⟩))
    (fun os started H enc _ => tableNames_lifted os started H enc)
#print axioms tableNames_proved
end Go.Proofs.Ytcmfgofknjlmgab
