/-
  Package lru: the contract of Check.
-/
import Derived.Test.YtmdlampmoeiihaaLrFn
namespace Go.Proofs.Ytmdlampmoeiihaa
open Go.RowKit Go.Shelf Go.Lib Go.Sort
set_option linter.unusedSimpArgs false
set_option linter.unusedVariables false
set_option maxRecDepth 100000

/-- many, half: in whatever world, as a region that draws wants them -/
theorem many_grown (aT aK : Option Addr) (n cT m cK : Nat) (w : World) (hn : n ≤ 1000) (hm : m ≤ 1000) :
    Calls Try.prog 37 #[.agg #[.slice aT n cT, .slice aK m cK]] w fun e w' => e = .returned (.int .i64 ((n : Int) + (m : Int))) ∧ ∃ q os', w' = grow (w.drewN q) os' := by
  refine (many_any aT aK n cT m cK w hn hm).mono ?_
  rintro e w' ⟨rfl, rfl⟩
  exact ⟨rfl, 0, _, alloc_eq_grow w _⟩
theorem half_grown (n m : Nat) (w : World) (hn : n ≤ 1000) (hm : m ≤ 1000) :
    Calls Try.prog 39 #[.int .i64 ((n : Int) + (m : Int))] w fun e w' => e = .returned (.int .i64 (((n + m + 1) / 2 : Nat) : Int)) ∧ ∃ q os', w' = grow (w.drewN q) os' := by
  have e : ((n : Int) + (m : Int)) = ((n + m : Nat) : Int) := by omega
  rw [e]
  refine (half_any (n + m) w (by omega)).mono ?_
  rintro e w' ⟨rfl, rfl⟩
  exact ⟨rfl, 0, #[], (grow_none _).symm⟩
theorem below_grow (w : World) (n : Nat) (os : Array Obj) : Below w.heap.size w (grow (w.drewN n) os) :=
  ⟨rfl, rfl, rfl, by simp [grow, World.drewN], fun k hk => heap_grow_old _ _ hk⟩
theorem below_drewN (w : World) (n : Nat) : Below w.heap.size w (w.drewN n) := ⟨rfl, rfl, rfl, Nat.le_refl _, fun _ _ => rfl⟩

set_option maxHeartbeats 1000000 in
theorem check_many (T K : List ByteArray) (aT aK : Option Addr) (cT cK : Nat) (w : World) (hT : T.length ≤ 300) (hK : K.length ≤ 300) (hbad : 256 < T.length + K.length ∨ (T.length + K.length + 1) / 2 < K.length) :
    Calls Try.prog 18 #[.agg #[.slice aT T.length cT, .slice aK K.length cK]] w fun e w' => e = .returned (.int .i64 8) ∧ Below w.heap.size w w' := by
  have mixed := Try.layInsert.mixed
  have hmany := fun W => many_grown aT aK T.length cT K.length cK W (by omega) (by omega)
  have hhalf := fun W => half_grown T.length K.length W (by omega) (by omega)
  obtain ⟨W, hW⟩ : ∃ W, W = w.alloc (Obj.cells #[.slice aT T.length cT, .slice aK K.length cK] 24) := ⟨_, rfl⟩
  have HB : Hid (Below w.heap.size w W) := by rw [hW]; exact (Below.refl _ _).alloc (Nat.le_refl _) _
  have hs : w.heap.size < W.heap.size := by rw [hW]; simp
  have c0 : W.cell? ⟨w.heap.size, 0, none⟩ = some (.slice aT T.length cT) := by rw [hW]; simp
  have c1 : W.cell? ⟨w.heap.size, 1, none⟩ = some (.slice aK K.length cK) := by rw [hW]; simp
  have d0 : ∀ n os, (grow (W.drewN n) os).cell? ⟨w.heap.size, 0, none⟩ = some (.slice aT T.length cT) := cell_grown hs c0
  have d1 : ∀ n os, (grow (W.drewN n) os).cell? ⟨w.heap.size, 1, none⟩ = some (.slice aK K.length cK) := cell_grown hs c1
  obtain ⟨hf, hhf⟩ : ∃ hf : Nat, hf = (T.length + K.length + 1) / 2 := ⟨_, rfl⟩
  rw [← hhf] at hhalf hbad
  clear hhf
  by_cases h1 : 256 < T.length + K.length
  · have g1 : decide ((256 : Int) < (T.length : Int) + (K.length : Int)) = true := by simp; omega
    clear hbad
    go_enter Try.func18, Try.ntmps18
    go_upto_region 1 with (fail)
    rw [← hW]
    clear hW
    go_quiet_grown (first
      | (go_at_call 37; exact Calls.grown_of (hmany _))
      | (go_at_call 39; exact Calls.grown_of (hhalf _)))
    go_wp2
    go_ret
    exact ⟨rfl, HB.out.trans ((below_grow W nq osq).mono (Nat.le_of_lt hs))⟩
  · have g1 : decide ((256 : Int) < (T.length : Int) + (K.length : Int)) = false := by simp; omega
    have g2 : (hf : Int) < (K.length : Int) := by omega
    clear hbad
    go_enter Try.func18, Try.ntmps18
    go_upto_region 1 with (fail)
    rw [← hW]
    clear hW
    go_quiet_grown (first
      | (go_at_call 37; exact Calls.grown_of (hmany _))
      | (go_at_call 39; exact Calls.grown_of (hhalf _)))
    go_wp2
    go_ret
    exact ⟨rfl, HB.out.trans ((below_grow W nq osq).mono (Nat.le_of_lt hs))⟩
set_option maxHeartbeats 1000000 in
/-- .. else the keys decide -/
theorem check_keys (T K : List ByteArray) (aT aK : Option Addr) (cT cK : Nat) (w : World) (hTl : Tl w aT T cT) (hKl : Tl w aK K cK) (h1 : T.length + K.length ≤ 256) (h2 : K.length ≤ (T.length + K.length + 1) / 2) :
    Calls Try.prog 18 #[.agg #[.slice aT T.length cT, .slice aK K.length cK]] w fun e w' => e = .returned (.int .i64 (if (T ++ K).all kOk = true ∧ (T ++ K).Nodup then 0 else 8)) ∧ Below w.heap.size w w' := by
  have mixed := Try.layInsert.mixed
  have hmany := fun W => many_grown aT aK T.length cT K.length cK W (by omega) (by omega)
  have hhalf := fun W => half_grown T.length K.length W (by omega) (by omega)
  obtain ⟨L, hL⟩ : ∃ L, L = T ++ K := ⟨_, rfl⟩
  have HLL : Hid (L.length = T.length + K.length) := by rw [hL]; exact List.length_append
  rw [← hL]
  obtain ⟨R, hR⟩ : ∃ R : Int, R = (if L.all kOk = true ∧ L.Nodup then 0 else 8) := ⟨_, rfl⟩
  rw [← hR]
  obtain ⟨al, hal⟩ : ∃ al, al = L.all kOk := ⟨_, rfl⟩
  obtain ⟨nd, hnd⟩ : ∃ nd, nd = decide L.Nodup := ⟨_, rfl⟩
  have hR2 : R = if al = true ∧ nd = true then 0 else 8 := by
    rw [hR, hal, hnd]
    congr 1
    simp
  clear hR
  obtain ⟨W, hW⟩ : ∃ W, W = w.alloc (Obj.cells #[.slice aT T.length cT, .slice aK K.length cK] 24) := ⟨_, rfl⟩
  have HB : Hid (Below w.heap.size w W) := by rw [hW]; exact (Below.refl _ _).alloc (Nat.le_refl _) _
  have hs : w.heap.size < W.heap.size := by rw [hW]; simp
  have c0 : W.cell? ⟨w.heap.size, 0, none⟩ = some (.slice aT T.length cT) := by rw [hW]; simp
  have c1 : W.cell? ⟨w.heap.size, 1, none⟩ = some (.slice aK K.length cK) := by rw [hW]; simp
  have d0 : ∀ n os, (grow (W.drewN n) os).cell? ⟨w.heap.size, 0, none⟩ = some (.slice aT T.length cT) := cell_grown hs c0
  have d1 : ∀ n os, (grow (W.drewN n) os).cell? ⟨w.heap.size, 1, none⟩ = some (.slice aK K.length cK) := cell_grown hs c1
  obtain ⟨hf, hhf⟩ : ∃ hf : Nat, hf = (T.length + K.length + 1) / 2 := ⟨_, rfl⟩
  rw [← hhf] at hhalf h2
  clear hhf
  have g1 : decide ((256 : Int) < (T.length : Int) + (K.length : Int)) = false := by simp; omega
  have g2 : ¬ (hf : Int) < (K.length : Int) := by omega
  have HX := Hid.mk2 (hTl.below HB.out)
  have HY := Hid.mk2 (hKl.below HB.out)
  have HL : Hid (T.length + K.length ≤ 1000) := by show _ ≤ _; omega
  have HAL := Hid.mk2 hal
  have HND := Hid.mk2 hnd
  clear hal hnd hTl hKl h1
  go_enter Try.func18, Try.ntmps18
  go_upto_region 1 with (fail)
  rw [← hW]
  clear hW
  go_quiet_grown (first
    | (go_at_call 37; exact Calls.grown_of (hmany _))
    | (go_at_call 39; exact Calls.grown_of (hhalf _)))
  obtain ⟨V, hV⟩ : ∃ V, V = grow (W.drewN nq) osq := ⟨_, rfl⟩
  have hbV : Below W.heap.size W V := by rw [hV]; exact below_grow W nq osq
  have e0 := d0 nq osq
  have e1 := d1 nq osq
  rw [← hV] at e0 e1 ⊢
  have hsV : w.heap.size < V.heap.size := Nat.lt_of_lt_of_le hs hbV.size
  have HBV := Hid.mk2 (HB.out.trans (hbV.mono (Nat.le_of_lt hs)))
  have HXV := Hid.mk2 (HX.out.below hbV)
  have HYV := Hid.mk2 (HY.out.below hbV)
  clear hV d0 d1 c0 c1 HB HX HY hbV hmany hhalf
  obtain ⟨V2, hV2⟩ : ∃ V2, V2 = V.alloc (Obj.cells #[.slice aT T.length cT, .slice aK K.length cK] 22) := ⟨_, rfl⟩
  have HC : Hid (Calls Try.prog 30 #[.slice (some ⟨V.heap.size, 0, none⟩) 2 2] V2 fun e w' => ∃ v', e = .returned v' ∧ OwnTs w' V2.heap.size v' L ∧ Below V2.heap.size V2 w') := by
    rw [hV2, hL]
    exact concat_any _ V.heap.size aT aK T K cT cK (by simp) (by simp) (HXV.out.alloc _) (HYV.out.alloc _) HL.out
  have HB2 : Hid (Below w.heap.size w V2) := by rw [hV2]; exact HBV.out.alloc (Nat.le_of_lt hsV) _
  have hbw2 : Hid (w.heap.size ≤ V2.heap.size) := HB2.out.size
  rw [hV2] at HC
  rw [hV2] at HB2 hbw2
  have HL2 : Hid (L.length ≤ 1000) := by show _ ≤ _; rw [HLL.out]; exact HL.out
  clear hV2 hL HLL
  cases hal : al with
  | false =>
    have hR3 : R = 8 := by rw [hR2, hal]; simp
    clear hR2
    subst hR3
    have hna : L.all kOk = false := by rw [← HAL.out, hal]
    go_wp2_with (first
      | (go_at_call 30; refine HC.out.mono ?_; rintro e w1 ⟨v1, rfl, hO1, hb1⟩; obtain ⟨ao1, cap1, rfl, hT1⟩ := hO1.tl; have HO1 := Hid.mk2 hO1; have HT1 := Hid.mk2 hT1; have HB1 := Hid.mk2 hb1; clear hO1 hT1 hb1)
      | (go_at_call 40; refine (contains_any _ _ _ _ HT1.out).mono ?_; rintro e w2 ⟨rfl, q, rfl⟩; rw [hna]))
    go_ret
    exact ⟨rfl, (HB2.out.trans (HB1.out.mono hbw2.out)).trans ((below_drewN w1 q).mono (Nat.le_trans hbw2.out HB1.out.size))⟩
  | true =>
    have hna : L.all kOk = true := by rw [← HAL.out, hal]
    cases hnd : nd with
    | false =>
      have hR3 : R = 8 := by rw [hR2, hal, hnd]; simp
      clear hR2
      subst hR3
      have hnn : decide L.Nodup = false := by rw [← HND.out, hnd]
      go_wp2_with (first
        | (go_at_call 30; refine HC.out.mono ?_; rintro e w1 ⟨v1, rfl, hO1, hb1⟩; obtain ⟨ao1, cap1, rfl, hT1⟩ := hO1.tl; have HO1 := Hid.mk2 hO1; have HT1 := Hid.mk2 hT1; have HB1 := Hid.mk2 hb1; clear hO1 hT1 hb1)
        | (go_at_call 40; refine (contains_any _ _ _ _ HT1.out).mono ?_; rintro e w2 ⟨rfl, q, rfl⟩; rw [hna])
        | (go_at_call 42; refine (hasTwice_any _ _ _ _ (HO1.out.below (below_drewN _ _)) HL2.out).mono ?_; rintro e w3 ⟨rfl, hg3⟩; rw [hnn]))
      go_ret
      exact ⟨rfl, (((HB2.out.trans (HB1.out.mono hbw2.out)).trans ((below_drewN w1 q).mono (Nat.le_trans hbw2.out HB1.out.size)))).grown hg3 (Nat.le_trans hbw2.out HB1.out.size) (fun k hk => Nat.le_trans hbw2.out (HO1.out.lt k hk).1)⟩
    | true =>
      have hR3 : R = 0 := by rw [hR2, hal, hnd]; simp
      clear hR2
      subst hR3
      have hnn : decide L.Nodup = true := by rw [← HND.out, hnd]
      go_upto_region 4 with (go_at_call 30; refine HC.out.mono ?_; rintro e w1 ⟨v1, rfl, hO1, hb1⟩; obtain ⟨ao1, cap1, rfl, hT1⟩ := hO1.tl; have HO1 := Hid.mk2 hO1; have HT1 := Hid.mk2 hT1; have HB1 := Hid.mk2 hb1; clear hO1 hT1 hb1)
      go_wp2_with (first
        | (go_at_call 40; refine (contains_any _ _ _ _ HT1.out).mono ?_; rintro e w2 ⟨rfl, q, rfl⟩; rw [hna])
        | (go_at_call 42; refine (hasTwice_any _ _ _ _ (HO1.out.below (below_drewN _ _)) HL2.out).mono ?_; rintro e w3 ⟨rfl, hg3⟩; rw [hnn]))
      go_ret
      exact ⟨rfl, (((HB2.out.trans (HB1.out.mono hbw2.out)).trans ((below_drewN w1 q).mono (Nat.le_trans hbw2.out HB1.out.size)))).grown hg3 (Nat.le_trans hbw2.out HB1.out.size) (fun k hk => Nat.le_trans hbw2.out (HO1.out.lt k hk).1)⟩
/-- P7.1 -/
def chk (T K : List ByteArray) : Int := if okO T K = true then 0 else 8
theorem check_any (T K : List ByteArray) (aT aK : Option Addr) (cT cK : Nat) (w : World) (hTl : Tl w aT T cT) (hKl : Tl w aK K cK) (hT : T.length ≤ 300) (hK : K.length ≤ 300) :
    Calls Try.prog 18 #[.agg #[.slice aT T.length cT, .slice aK K.length cK]] w fun e w' => e = .returned (.int .i64 (chk T K)) ∧ Below w.heap.size w w' := by
  unfold chk
  by_cases hb : 256 < T.length + K.length ∨ (T.length + K.length + 1) / 2 < K.length
  · have : okO T K = false := okO_false fun h => by
      have h1 := h.many
      have h2 := h.half
      rw [Nat.add_comm K.length] at h1 h2
      omega
    rw [this]
    exact check_many T K aT aK cT cK w hT hK hb
  · have h1 : T.length + K.length ≤ 256 := by omega
    have h2 : K.length ≤ (T.length + K.length + 1) / 2 := by omega
    have e : (if okO T K = true then (0 : Int) else 8) = (if (T ++ K).all kOk = true ∧ (T ++ K).Nodup then 0 else 8) := by
      have hp : (T ++ K).Perm (K ++ T) := List.perm_append_comm
      have : okO T K = true ↔ ((T ++ K).all kOk = true ∧ (T ++ K).Nodup) := by
        rw [okO_iff]
        constructor
        · intro h
          exact ⟨List.all_eq_true.2 fun x hx => h.keys x (hp.mem_iff.1 hx), hp.nodup_iff.2 h.nodup⟩
        · rintro ⟨a, b⟩
          exact ⟨by omega, by rw [Nat.add_comm K.length]; exact h2, fun x hx => List.all_eq_true.1 a x (hp.mem_iff.2 hx), hp.nodup_iff.1 b⟩
      simp only [this]
    rw [e]
    exact check_keys T K aT aK cT cK w hTl hKl h1 h2
theorem chk_ok {T K : List ByteArray} (h : Ok T K) : chk T K = 0 := by unfold chk; rw [if_pos (okO_iff.2 h)]
theorem chk_bad {T K : List ByteArray} (h : ¬ Ok T K) : chk T K = 8 := by unfold chk; rw [if_neg (fun e => h (okO_iff.1 e))]
end Go.Proofs.Ytmdlampmoeiihaa
