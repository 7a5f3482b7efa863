/-
  One call of both tables, side by side.
-/
import Derived.Test.YtlomciinkpecpaaTdSort
namespace Go.Proofs.Ytlomciinkpecpaa
open Go.RowKit
set_option linter.unusedSimpArgs false
set_option linter.unusedVariables false
set_option maxRecDepth 100000

/-- both tables: the document's (a rising row) and the program's; K: blocks of the caller's -/
structure Dt (w : World) (b0 p : Nat) (D T : List NU) (ao : Option Addr) (cap : Nat) (K : Nat → Prop) : Prop where
  own : OwnE w b0 (.slice ao D.length cap) D
  tab : TBy w b0 p T 1000 (fun k => (Value.slice ao D.length cap).ownBlock = some k ∨ K k)
  rise : Rise D
  perm : D.Perm T
  base : b0 ≤ w.heap.size
theorem Dt.below {w w' : World} {b0 p : Nat} {D T : List NU} {ao : Option Addr} {cap : Nat} {K : Nat → Prop} (h : Dt w b0 p D T ao cap K) (hb : Below w.heap.size w w') : Dt w' b0 p D T ao cap K :=
  ⟨h.own.below hb, h.tab.below hb, h.rise, h.perm, Nat.le_trans h.base hb.size⟩
theorem gN_perm {D T : List NU} {y : Nm} (h : lk D y = lk T y) : gN D y = gN T y := by unfold gN; rw [h]
theorem gB_perm {D T : List NU} {y : Nm} (h : lk D y = lk T y) : gB D y = gB T y := by unfold gB; rw [h]
theorem afD_rise {D : List NU} (y : Nm) (h : Rise D) : Rise (afD D y) := by
  unfold afD; split
  · exact strike_rise y h
  · exact h
theorem afD_perm {D T : List NU} (y : Nm) (h : D.Perm T) : (afD D y).Perm (afD T y) := by
  unfold afD; split
  · exact h.filter _
  · exact h
theorem afD_len (D : List NU) (y : Nm) : (afD D y).length ≤ D.length + 1 := by
  unfold afD; split
  · exact Nat.le_succ_of_le (List.length_filter_le _ _)
  · exact Nat.le_succ _
theorem dfP_rise {D : List NU} (y : Nm) (x : Int) (h : Rise D) : Rise (dfP D y x) := by
  unfold dfP; split
  · exact dput_rise x h
  · exact h
theorem dfP_perm {D T : List NU} (y : Nm) (x : Int) (hr : Rise D) (h : D.Perm T) : (dfP D y x).Perm (afP T y x) := by
  unfold dfP afP; split
  · exact (dput_perm x hr).trans ((h.filter _).cons _)
  · exact h
theorem dfP_len {D : List NU} (y : Nm) (x : Int) (hr : Rise D) : (dfP D y x).length ≤ D.length + 1 := by
  unfold dfP; split
  · rw [(dput_perm x hr).length_eq]
    have := List.length_filter_le (fun p : NU => decide (p.1 ≠ y)) D
    simp only [List.length_cons]
    unfold strike
    omega
  · exact Nat.le_succ _
/-- the call's own blocks -/
structure Bo (w W : World) (ao : Option Addr) (n cap : Nat) (kd : Nat) (y : Nm) (x : Int) : Prop where
  size : w.heap.size + 1 + 1 < W.heap.size
  facts : W.cell? ⟨w.heap.size, 0, none⟩ = some (.slice ao n cap) ∧ W.cell? ⟨w.heap.size + 1, 0, none⟩ = some (.int .u8 kd) ∧ W.cell? ⟨w.heap.size + 1, 1, none⟩ = some (.int .i64 y.tenant) ∧ W.cell? ⟨w.heap.size + 1, 2, none⟩ = some (.string y.key) ∧ W.cell? ⟨w.heap.size + 1, 3, none⟩ = some (.int .i64 x) ∧ W.cell? ⟨w.heap.size + 1 + 1, 0, none⟩ = some (.slice none 0 0) ∧ W.frozen? ⟨w.heap.size + 1 + 1, 0, none⟩ = false
theorem Bo.begin (w : World) (ao : Option Addr) (n cap : Nat) (kd : Nat) (y : Nm) (x : Int) : Bo w (((w.alloc (Obj.cells #[.slice ao n cap] 46)).alloc (Obj.cells #[.int .u8 kd, .int .i64 y.tenant, .string y.key, .int .i64 x] 48)).alloc (Obj.cells #[.slice none 0 0] 46)) ao n cap kd y x := by
  obtain ⟨w1, hw1⟩ : ∃ w1, w1 = (w.alloc (Obj.cells #[.slice ao n cap] 46)).alloc (Obj.cells #[.int .u8 kd, .int .i64 y.tenant, .string y.key, .int .i64 x] 48) := ⟨_, rfl⟩
  rw [← hw1]
  obtain ⟨w0, hw0⟩ : ∃ w0, w0 = w1.alloc (Obj.cells #[.slice none 0 0] 46) := ⟨_, rfl⟩
  rw [← hw0]
  have hs1 : w1.heap.size = w.heap.size + 1 + 1 := by rw [hw1]; simp
  have hb1 : Below w1.heap.size w1 w0 := by rw [hw0]; exact (Below.refl _ _).alloc (Nat.le_refl _) _
  have x0 : w.heap.size + 1 + 1 < w0.heap.size := by rw [hw0, ← hs1]; simp
  have t0 : w0.cell? ⟨w1.heap.size, 0, none⟩ = some (.slice none 0 0) ∧ w0.frozen? ⟨w1.heap.size, 0, none⟩ = false := by rw [hw0]; simp
  rw [hs1] at t0
  exact ⟨x0, (bcl hb1 _ _ (by omega)).trans (by rw [hw1]; simp), (bcl hb1 _ _ (by omega)).trans (by rw [hw1]; simp), (bcl hb1 _ _ (by omega)).trans (by rw [hw1]; simp), (bcl hb1 _ _ (by omega)).trans (by rw [hw1]; simp), (bcl hb1 _ _ (by omega)).trans (by rw [hw1]; simp), t0.1, t0.2⟩
theorem Bo.same {w W W' : World} {ao : Option Addr} {n cap : Nat} {kd : Nat} {y : Nm} {x : Int} (h : Bo w W ao n cap kd y x) (hs : W.heap.size ≤ W'.heap.size) (e : ∀ k, w.heap.size ≤ k → k ≤ w.heap.size + 1 + 1 → W'.heap[k]? = W.heap[k]?) : Bo w W' ao n cap kd y x := by
  obtain ⟨k0, k1, k2, k3, k4, k5, k6⟩ := h.facts
  have e0 := e w.heap.size (by omega) (by omega)
  have e1 := e (w.heap.size + 1) (by omega) (by omega)
  have e2 := e (w.heap.size + 1 + 1) (by omega) (by omega)
  exact ⟨Nat.lt_of_lt_of_le h.size hs, (World.cell?_of_block e0).trans k0, (World.cell?_of_block e1).trans k1, (World.cell?_of_block e1).trans k2, (World.cell?_of_block e1).trans k3, (World.cell?_of_block e1).trans k4, (World.cell?_of_block e2).trans k5, (World.frozen?_of_block e2).trans k6⟩
theorem Bo.step {w W W' : World} {ao : Option Addr} {n cap : Nat} {kd : Nat} {y : Nm} {x : Int} (h : Bo w W ao n cap kd y x) (hb : Below W.heap.size W W') : Bo w W' ao n cap kd y x :=
  h.same hb.size (fun k _ h2 => hb.block k (by have := h.size; omega))
/-- the blocks that are held while the call runs -/
def Kq (w : World) (v : Value) (K : Nat → Prop) (k : Nat) : Prop := v.ownBlock = some k ∨ K k ∨ (w.heap.size ≤ k ∧ k ≤ w.heap.size + 1 + 1)
/-- the end: the answer is stored -/
theorem one_end {w w0 w1 w2 w3 : World} {b0 p : Nat} {D D' T T' : List NU} {ao ro : Option Addr} {cap rc : Nat} {K : Nat → Prop} {v : Value} (h : Dt w b0 p D T ao cap K) (hb0 : Below w.heap.size w w0) (h0 : w.heap.size + 1 + 1 < w0.heap.size)
    (ht : TBy w1 b0 p T' 1000 (Kq w (.slice ao D.length cap) K)) (hb1 : Below b0 w0 w1) (hk1 : ∀ k, Kq w (.slice ao D.length cap) K k → w1.heap[k]? = w0.heap[k]?)
    (ho : OwnE w2 b0 (.slice ro D'.length rc) D') (hv : ∀ k, (Value.slice ro D'.length rc).ownBlock = some k → (Value.slice ao D.length cap).ownBlock = some k ∨ w1.heap.size ≤ k) (hb2 : Below w1.heap.size w1 w2) (hb3 : Below w2.heap.size w2 w3) (hr : Rise D') (hP : D'.Perm T') :
    Dt (w3.setCell ⟨w.heap.size + 1 + 1, 0, none⟩ v) b0 p D' T' ro rc K ∧ Below b0 w (w3.setCell ⟨w.heap.size + 1 + 1, 0, none⟩ v) ∧ ∀ k, K k → (w3.setCell ⟨w.heap.size + 1 + 1, 0, none⟩ v).heap[k]? = w.heap[k]? := by
  have hb := h.base
  have s0 := hb0.size
  have s1 := hb1.size
  have s2 := hb2.size
  have s3 := hb3.size
  have hb23 : Below w1.heap.size w1 w3 := hb2.trans (hb3.mono hb2.size)
  have hKlt : ∀ k, K k → k < w.heap.size := fun k hk => by
    obtain ⟨m, F, hm, h1, h2⟩ := h.tab
    exact (h2 k (.inr hk)).2
  have hne : ∀ g, (Value.slice ro D'.length rc).ownBlock = some g → g ≠ w.heap.size + 1 + 1 := fun g hg e => by
    rcases hv g hg with h1 | h1
    · have := (h.own.lt g h1).2; omega
    · omega
  have hT : TBy w3 b0 p T' 1000 (fun k => (Value.slice ro D'.length rc).ownBlock = some k ∨ K k ∨ (w.heap.size ≤ k ∧ k ≤ w.heap.size + 1 + 1)) := ht.move hb23 (fun k hk => by
    rcases hk with hk | hk | hk
    · refine ⟨?_, Nat.lt_of_lt_of_le (ho.lt k hk).2 s3⟩
      rcases hv k hk with h1 | h1
      · exact .inl (.inl h1)
      · exact .inr h1
    · exact ⟨.inl (.inr (.inl hk)), by have := hKlt k hk; omega⟩
    · exact ⟨.inl (.inr (.inr hk)), by omega⟩)
  have hT2 := hT.set (X := w.heap.size + 1 + 1) (.inr (.inr ⟨by omega, by omega⟩)) 0 v
  refine ⟨⟨(ho.below hb3).set1 hne, hT2.move (Below.refl _ _) (fun k hk => ⟨.inl (by rcases hk with hk | hk; exact .inl hk; exact .inr (.inl hk)), ?_⟩), hr, hP, by simp; omega⟩, ?_, fun k hk => ?_⟩
  · simp
    rcases hk with hk | hk
    · exact Nat.lt_of_lt_of_le (ho.lt k hk).2 s3
    · have := hKlt k hk; omega
  · exact (((hb0.mono hb).trans hb1).trans (hb23.mono (by omega))).setCell (by show b0 ≤ w.heap.size + 1 + 1; omega) _
  · have hlt := hKlt k hk
    rw [Below.heap_setCell _ ⟨w.heap.size + 1 + 1, 0, none⟩ v k (by show k ≠ w.heap.size + 1 + 1; omega), hb23.block k (by omega), hk1 k (.inr (.inl hk)), hb0.block k hlt]
set_option maxHeartbeats 2000000 in
theorem one_get (w : World) (b0 p : Nat) (D T : List NU) (ao : Option Addr) (cap : Nat) (K : Nat → Prop) (h : Dt w b0 p D T ao cap K) (hl : D.length ≤ 500) (kd : Nat) (hkd : kd < 256) (y : Nm) (x : Int) (hk : kd % 4 = 0) :
    Calls Try.prog 17 #[.pointer (some ⟨p, 0, none⟩), .agg #[.slice ao D.length cap], .agg #[.int .u8 kd, .int .i64 y.tenant, .string y.key, .int .i64 x]] w fun e w' => ∃ ro rc D' T', e = .returned (.tuple #[.agg #[.slice ro D'.length rc], .bool true]) ∧ Dt w' b0 p D' T' ro rc K ∧ D'.length ≤ D.length + 1 ∧ Below b0 w w' ∧ (∀ k, K k → w'.heap[k]? = w.heap[k]?) ∧ ∀ k, (Value.slice ro D'.length rc).ownBlock = some k → (Value.slice ao D.length cap).ownBlock = some k ∨ w.heap.size ≤ k := by
  have g0 : ((kd : Int) % 4 == 0) = true := by simp; omega
  have HD := Hid.mk2 h
  have hTl : T.length ≤ 500 := by rw [← h.perm.length_eq]; exact hl
  obtain ⟨w0, hw0⟩ : ∃ x', x' = ((w.alloc (Obj.cells #[.slice ao D.length cap] 46)).alloc (Obj.cells #[.int .u8 kd, .int .i64 y.tenant, .string y.key, .int .i64 x] 48)).alloc (Obj.cells #[.slice none 0 0] 46) := ⟨_, rfl⟩
  have HB0 : Hid (Below w.heap.size w w0) := by rw [hw0]; exact (((Below.refl _ _).alloc (Nat.le_refl _) _).alloc (by simp) _).alloc (by simp; omega) _
  have HK0 : Hid (Bo w w0 ao D.length cap kd y x) := by rw [hw0]; exact Bo.begin _ _ _ _ _ _ _
  have h0s := HK0.out.size
  have hT0 : TBy w0 b0 p T 1000 (Kq w (.slice ao D.length cap) K) := h.tab.move HB0.out (fun k hk => by
    rcases hk with hk | hk | hk
    · exact ⟨.inl (.inl hk), Nat.lt_of_lt_of_le (h.own.lt k hk).2 HB0.out.size⟩
    · refine ⟨.inl (.inr hk), ?_⟩
      obtain ⟨m, F, hm, h1, h2⟩ := h.tab
      exact Nat.lt_of_lt_of_le (h2 k (.inr hk)).2 HB0.out.size
    · exact ⟨.inr hk.1, by omega⟩)
  have hB0 : b0 ≤ w0.heap.size := Nat.le_trans h.base HB0.out.size
  have hlk := lk_perm (y := y) h.rise h.perm h.tab.apart
  have HTC := Hid.mk2 (get_u w0 b0 p T 1000 _ hT0 hB0 (by omega) (by omega) y)
  rw [← gN_perm hlk, ← gB_perm hlk] at HTC
  have HRC := Hid.mk2 (fun W (hO : OwnE W b0 (.slice ao D.length cap) D) => rget_u W b0 ao D cap hO (by omega) h.rise y)
  obtain ⟨a, ha⟩ : ∃ a, a = gN D y := ⟨_, rfl⟩
  obtain ⟨b, hb⟩ : ∃ b, b = gB D y := ⟨_, rfl⟩
  obtain ⟨er, her⟩ : ∃ a, a = eNm y := ⟨_, rfl⟩
  rw [← ha, ← hb, ← her] at HTC HRC
  clear ha hb her
  clear hk h hT0 hlk
  go_enter Try.func17, Try.ntmps17
  go_upto_region 1 with (fail)
  rw [← hw0]
  clear hw0
  obtain ⟨k0, k1, k2, k3, k4, k5, k6⟩ := HK0.out.facts
  go_upto_region 5 with (first | (go_at_call 13; refine HTC.out.mono ?_; rintro e w1 ⟨rfl, hT1, hb1, hk1⟩; have HT1 := Hid.mk2 hT1; have HB1 := Hid.mk2 hb1; have HE1 := Hid.mk2 hk1; have HK1 := Hid.mk2 (HK0.out.same hb1.size (fun k q1 q2 => hk1 k (.inr (.inr ⟨q1, q2⟩)))); have HO1 : Hid (OwnE w1 b0 (.slice ao D.length cap) D) := (HD.out.own.below HB0.out).same (fun g hg => hk1 g (.inl hg)); have hs1 := hb1.size; clear hT1 hb1 hk1 k0 k1 k2 k3 k4 k5 k6; obtain ⟨k0, k1, k2, k3, k4, k5, k6⟩ := HK1.out.facts) | (go_at_call 30; refine (HRC.out _ HO1.out).mono ?_; rintro e w2 ⟨rfl, hb2⟩; have HB2 := Hid.mk2 hb2; have HK2 := Hid.mk2 (HK1.out.step hb2); clear hb2 k0 k1 k2 k3 k4 k5 k6; obtain ⟨k0, k1, k2, k3, k4, k5, k6⟩ := HK2.out.facts))
  go_wp2
  try simp only [Exit.inBlock, Exit.then]
  have z0 := World.cell?_setCell_same w2 ⟨w.heap.size + 1 + 1, 0, none⟩ (.slice ao D.length cap) k5
  have HE := Hid.mk2 (one_end (v := .slice ao D.length cap) HD.out HB0.out HK0.out.size HT1.out HB1.out HE1.out (HO1.out.below HB2.out) (fun k hk => .inl hk) HB2.out (Below.refl _ _) HD.out.rise HD.out.perm)
  exact bodyPost_ret (v := .tuple #[.agg #[.slice ao D.length cap], .bool true]) (by simp [results, Try.results17, go_sem, z0]) rfl ⟨ao, cap, D, T, rfl, HE.out.1, Nat.le_succ _, HE.out.2.1, HE.out.2.2, fun k hk => .inl hk⟩
set_option maxHeartbeats 2000000 in
theorem one_del (w : World) (b0 p : Nat) (D T : List NU) (ao : Option Addr) (cap : Nat) (K : Nat → Prop) (h : Dt w b0 p D T ao cap K) (hl : D.length ≤ 500) (kd : Nat) (hkd : kd < 256) (y : Nm) (x : Int) (hk : kd % 4 = 3) :
    Calls Try.prog 17 #[.pointer (some ⟨p, 0, none⟩), .agg #[.slice ao D.length cap], .agg #[.int .u8 kd, .int .i64 y.tenant, .string y.key, .int .i64 x]] w fun e w' => ∃ ro rc D' T', e = .returned (.tuple #[.agg #[.slice ro D'.length rc], .bool true]) ∧ Dt w' b0 p D' T' ro rc K ∧ D'.length ≤ D.length + 1 ∧ Below b0 w w' ∧ (∀ k, K k → w'.heap[k]? = w.heap[k]?) ∧ ∀ k, (Value.slice ro D'.length rc).ownBlock = some k → (Value.slice ao D.length cap).ownBlock = some k ∨ w.heap.size ≤ k := by
  have g0 : ((kd : Int) % 4 == 0) = false := by simp; omega
  have g3 : ((kd : Int) % 4 == 3) = true := by simp; omega
  have HD := Hid.mk2 h
  have hTl : T.length ≤ 500 := by rw [← h.perm.length_eq]; exact hl
  obtain ⟨w0, hw0⟩ : ∃ x', x' = ((w.alloc (Obj.cells #[.slice ao D.length cap] 46)).alloc (Obj.cells #[.int .u8 kd, .int .i64 y.tenant, .string y.key, .int .i64 x] 48)).alloc (Obj.cells #[.slice none 0 0] 46) := ⟨_, rfl⟩
  have HB0 : Hid (Below w.heap.size w w0) := by rw [hw0]; exact (((Below.refl _ _).alloc (Nat.le_refl _) _).alloc (by simp) _).alloc (by simp; omega) _
  have HK0 : Hid (Bo w w0 ao D.length cap kd y x) := by rw [hw0]; exact Bo.begin _ _ _ _ _ _ _
  have h0s := HK0.out.size
  have hT0 : TBy w0 b0 p T 1000 (Kq w (.slice ao D.length cap) K) := h.tab.move HB0.out (fun k hk => by
    rcases hk with hk | hk | hk
    · exact ⟨.inl (.inl hk), Nat.lt_of_lt_of_le (h.own.lt k hk).2 HB0.out.size⟩
    · refine ⟨.inl (.inr hk), ?_⟩
      obtain ⟨m, F, hm, h1, h2⟩ := h.tab
      exact Nat.lt_of_lt_of_le (h2 k (.inr hk)).2 HB0.out.size
    · exact ⟨.inr hk.1, by omega⟩)
  have hB0 : b0 ≤ w0.heap.size := Nat.le_trans h.base HB0.out.size
  have hlk := lk_perm (y := y) h.rise h.perm h.tab.apart
  have HTC := Hid.mk2 (del_u w0 b0 p T 1000 _ hT0 hB0 (by omega) (by omega) y)
  rw [← gB_perm hlk] at HTC
  have HRC := Hid.mk2 (fun W (hW : b0 ≤ W.heap.size) (hO : OwnE W b0 (.slice ao D.length cap) D) => rdel_u W b0 hW ao D cap hO (by omega) h.rise y)
  have HR := Hid.mk2 (afD_rise y h.rise)
  have HP := Hid.mk2 (afD_perm y h.perm)
  have HL := Hid.mk2 (afD_len D y)
  obtain ⟨R, hR⟩ : ∃ R, R = afD D y := ⟨_, rfl⟩
  obtain ⟨b, hb⟩ : ∃ b, b = gB D y := ⟨_, rfl⟩
  obtain ⟨er, her⟩ : ∃ a, a = eNm y := ⟨_, rfl⟩
  rw [← hb, ← her] at HTC HRC
  rw [← hR] at HRC HR HP HL
  clear hR hb her
  clear hk h hT0 hlk
  go_enter Try.func17, Try.ntmps17
  go_upto_region 1 with (fail)
  rw [← hw0]
  clear hw0
  obtain ⟨k0, k1, k2, k3, k4, k5, k6⟩ := HK0.out.facts
  go_upto_region 9 with (first | (go_at_call 12; refine HTC.out.mono ?_; rintro e w1 ⟨rfl, hT1, hb1, hk1⟩; have HT1 := Hid.mk2 hT1; have HB1 := Hid.mk2 hb1; have HE1 := Hid.mk2 hk1; have HK1 := Hid.mk2 (HK0.out.same hb1.size (fun k q1 q2 => hk1 k (.inr (.inr ⟨q1, q2⟩)))); have HO1 : Hid (OwnE w1 b0 (.slice ao D.length cap) D) := (HD.out.own.below HB0.out).same (fun g hg => hk1 g (.inl hg)); have hs1 := hb1.size; clear hT1 hb1 hk1 k0 k1 k2 k3 k4 k5 k6; obtain ⟨k0, k1, k2, k3, k4, k5, k6⟩ := HK1.out.facts) | (go_at_call 31; refine (HRC.out _ (by omega) HO1.out).mono ?_; rintro e w2 ⟨ro, rc, rfl, hO2, hv2, hb2⟩; have HB2 := Hid.mk2 hb2; have HO2 := Hid.mk2 hO2; have HV2 := Hid.mk2 hv2; have HK2 := Hid.mk2 (HK1.out.step hb2); clear hb2 hO2 hv2 k0 k1 k2 k3 k4 k5 k6; obtain ⟨k0, k1, k2, k3, k4, k5, k6⟩ := HK2.out.facts))
  obtain ⟨w3, hw3⟩ : ∃ q, q = w2.alloc (Obj.cells #[.slice ro R.length rc] 46) := ⟨_, rfl⟩
  have c3 : w3.cell? ⟨w2.heap.size, 0, none⟩ = some (.slice ro R.length rc) := by rw [hw3]; simp
  have HB3 : Hid (Below w2.heap.size w2 w3) := by rw [hw3]; exact (Below.refl _ _).alloc (Nat.le_refl _) _
  have HK3 := Hid.mk2 (HK2.out.step HB3.out)
  rw [← hw3]
  clear hw3 k0 k1 k2 k3 k4 k5 k6
  obtain ⟨k0, k1, k2, k3, k4, k5, k6⟩ := HK3.out.facts
  go_wp2
  try simp only [Exit.inBlock, Exit.then]
  have z0 := World.cell?_setCell_same w3 ⟨w.heap.size + 1 + 1, 0, none⟩ (.slice ro R.length rc) k5
  have HE := Hid.mk2 (one_end (v := .slice ro R.length rc) HD.out HB0.out HK0.out.size HT1.out HB1.out HE1.out HO2.out HV2.out HB2.out HB3.out HR.out HP.out)
  exact bodyPost_ret (v := .tuple #[.agg #[.slice ro R.length rc], .bool true]) (by simp [results, Try.results17, go_sem, z0]) rfl ⟨ro, rc, R, afD T y, rfl, HE.out.1, HL.out, HE.out.2.1, HE.out.2.2, fun k hk => (HV2.out k hk).imp id (fun q => by have := HB0.out.size; have := HB1.out.size; omega)⟩
set_option maxHeartbeats 2000000 in
theorem one_put (w : World) (b0 p : Nat) (D T : List NU) (ao : Option Addr) (cap : Nat) (K : Nat → Prop) (h : Dt w b0 p D T ao cap K) (hl : D.length ≤ 500) (kd : Nat) (hkd : kd < 256) (y : Nm) (x : Int) (hk : ¬ kd % 4 = 0 ∧ ¬ kd % 4 = 3) :
    Calls Try.prog 17 #[.pointer (some ⟨p, 0, none⟩), .agg #[.slice ao D.length cap], .agg #[.int .u8 kd, .int .i64 y.tenant, .string y.key, .int .i64 x]] w fun e w' => ∃ ro rc D' T', e = .returned (.tuple #[.agg #[.slice ro D'.length rc], .bool true]) ∧ Dt w' b0 p D' T' ro rc K ∧ D'.length ≤ D.length + 1 ∧ Below b0 w w' ∧ (∀ k, K k → w'.heap[k]? = w.heap[k]?) ∧ ∀ k, (Value.slice ro D'.length rc).ownBlock = some k → (Value.slice ao D.length cap).ownBlock = some k ∨ w.heap.size ≤ k := by
  have g0 : ((kd : Int) % 4 == 0) = false := by simp; omega
  have g3 : ((kd : Int) % 4 == 3) = false := by simp; omega
  have HD := Hid.mk2 h
  have hTl : T.length ≤ 500 := by rw [← h.perm.length_eq]; exact hl
  obtain ⟨w0, hw0⟩ : ∃ x', x' = ((w.alloc (Obj.cells #[.slice ao D.length cap] 46)).alloc (Obj.cells #[.int .u8 kd, .int .i64 y.tenant, .string y.key, .int .i64 x] 48)).alloc (Obj.cells #[.slice none 0 0] 46) := ⟨_, rfl⟩
  have HB0 : Hid (Below w.heap.size w w0) := by rw [hw0]; exact (((Below.refl _ _).alloc (Nat.le_refl _) _).alloc (by simp) _).alloc (by simp; omega) _
  have HK0 : Hid (Bo w w0 ao D.length cap kd y x) := by rw [hw0]; exact Bo.begin _ _ _ _ _ _ _
  have h0s := HK0.out.size
  have hT0 : TBy w0 b0 p T 1000 (Kq w (.slice ao D.length cap) K) := h.tab.move HB0.out (fun k hk => by
    rcases hk with hk | hk | hk
    · exact ⟨.inl (.inl hk), Nat.lt_of_lt_of_le (h.own.lt k hk).2 HB0.out.size⟩
    · refine ⟨.inl (.inr hk), ?_⟩
      obtain ⟨m, F, hm, h1, h2⟩ := h.tab
      exact Nat.lt_of_lt_of_le (h2 k (.inr hk)).2 HB0.out.size
    · exact ⟨.inr hk.1, by omega⟩)
  have hB0 : b0 ≤ w0.heap.size := Nat.le_trans h.base HB0.out.size
  have hlk := lk_perm (y := y) h.rise h.perm h.tab.apart
  have HTC := Hid.mk2 (put_u w0 b0 p T 1000 _ hT0 hB0 (by omega) (by omega) y x)
  have HRC := Hid.mk2 (fun W (hW : b0 ≤ W.heap.size) (hO : OwnE W b0 (.slice ao D.length cap) D) => rput_u W b0 hW ao D cap hO (by omega) y x)
  have HR := Hid.mk2 (dfP_rise y x h.rise)
  have HP := Hid.mk2 (dfP_perm y x h.rise h.perm)
  have HL := Hid.mk2 (dfP_len y x h.rise)
  obtain ⟨R, hR⟩ : ∃ R, R = dfP D y x := ⟨_, rfl⟩
  obtain ⟨er, her⟩ : ∃ a, a = eNm y := ⟨_, rfl⟩
  rw [← her] at HTC HRC
  rw [← hR] at HRC HR HP HL
  clear hR her
  clear hk h hT0 hlk
  go_enter Try.func17, Try.ntmps17
  go_upto_region 1 with (fail)
  rw [← hw0]
  clear hw0
  obtain ⟨k0, k1, k2, k3, k4, k5, k6⟩ := HK0.out.facts
  go_upto_region 12 with (first | (go_at_call 9; refine HTC.out.mono ?_; rintro e w1 ⟨rfl, hT1, hb1, hk1⟩; have HT1 := Hid.mk2 hT1; have HB1 := Hid.mk2 hb1; have HE1 := Hid.mk2 hk1; have HK1 := Hid.mk2 (HK0.out.same hb1.size (fun k q1 q2 => hk1 k (.inr (.inr ⟨q1, q2⟩)))); have HO1 : Hid (OwnE w1 b0 (.slice ao D.length cap) D) := (HD.out.own.below HB0.out).same (fun g hg => hk1 g (.inl hg)); have hs1 := hb1.size; clear hT1 hb1 hk1 k0 k1 k2 k3 k4 k5 k6; obtain ⟨k0, k1, k2, k3, k4, k5, k6⟩ := HK1.out.facts) | (go_at_call 32; refine (HRC.out _ (by omega) HO1.out).mono ?_; rintro e w2 ⟨ro, rc, rfl, hO2, hv2, hb2⟩; have HB2 := Hid.mk2 hb2; have HO2 := Hid.mk2 hO2; have HV2 := Hid.mk2 hv2; have HK2 := Hid.mk2 (HK1.out.step hb2); clear hb2 hO2 hv2 k0 k1 k2 k3 k4 k5 k6; obtain ⟨k0, k1, k2, k3, k4, k5, k6⟩ := HK2.out.facts))
  obtain ⟨w3, hw3⟩ : ∃ q, q = w2.alloc (Obj.cells #[.slice ro R.length rc] 46) := ⟨_, rfl⟩
  have c3 : w3.cell? ⟨w2.heap.size, 0, none⟩ = some (.slice ro R.length rc) := by rw [hw3]; simp
  have HB3 : Hid (Below w2.heap.size w2 w3) := by rw [hw3]; exact (Below.refl _ _).alloc (Nat.le_refl _) _
  have HK3 := Hid.mk2 (HK2.out.step HB3.out)
  rw [← hw3]
  clear hw3 k0 k1 k2 k3 k4 k5 k6
  obtain ⟨k0, k1, k2, k3, k4, k5, k6⟩ := HK3.out.facts
  go_wp2
  try simp only [Exit.inBlock, Exit.then]
  have z0 := World.cell?_setCell_same w3 ⟨w.heap.size + 1 + 1, 0, none⟩ (.slice ro R.length rc) k5
  have HE := Hid.mk2 (one_end (v := .slice ro R.length rc) HD.out HB0.out HK0.out.size HT1.out HB1.out HE1.out HO2.out HV2.out HB2.out HB3.out HR.out HP.out)
  exact bodyPost_ret (v := .tuple #[.agg #[.slice ro R.length rc], .bool true]) (by simp [results, Try.results17, go_sem, z0]) rfl ⟨ro, rc, R, afP T y x, rfl, HE.out.1, HL.out, HE.out.2.1, HE.out.2.2, fun k hk => (HV2.out k hk).imp id (fun q => by have := HB0.out.size; have := HB1.out.size; omega)⟩
theorem one_any (w : World) (b0 p : Nat) (D T : List NU) (ao : Option Addr) (cap : Nat) (K : Nat → Prop) (h : Dt w b0 p D T ao cap K) (hl : D.length ≤ 500) (kd : Nat) (hkd : kd < 256) (y : Nm) (x : Int) :
    Calls Try.prog 17 #[.pointer (some ⟨p, 0, none⟩), .agg #[.slice ao D.length cap], .agg #[.int .u8 kd, .int .i64 y.tenant, .string y.key, .int .i64 x]] w fun e w' => ∃ ro rc D' T', e = .returned (.tuple #[.agg #[.slice ro D'.length rc], .bool true]) ∧ Dt w' b0 p D' T' ro rc K ∧ D'.length ≤ D.length + 1 ∧ Below b0 w w' ∧ (∀ k, K k → w'.heap[k]? = w.heap[k]?) ∧ ∀ k, (Value.slice ro D'.length rc).ownBlock = some k → (Value.slice ao D.length cap).ownBlock = some k ∨ w.heap.size ≤ k := by
  by_cases h0 : kd % 4 = 0
  · exact one_get w b0 p D T ao cap K h hl kd hkd y x h0
  · by_cases h3 : kd % 4 = 3
    · exact one_del w b0 p D T ao cap K h hl kd hkd y x h3
    · exact one_put w b0 p D T ao cap K h hl kd hkd y x ⟨h0, h3⟩
end Go.Proofs.Ytlomciinkpecpaa
