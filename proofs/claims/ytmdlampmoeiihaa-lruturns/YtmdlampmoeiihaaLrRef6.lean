/-
  The document's orders: Victim, All.
-/
import Derived.Test.YtmdlampmoeiihaaLrRef5
namespace Go.Proofs.Ytmdlampmoeiihaa
open Go.RowKit Go.Shelf Go.Lib Go.Sort
set_option linter.unusedSimpArgs false
set_option linter.unusedVariables false
set_option maxRecDepth 100000

set_option maxHeartbeats 1000000 in
theorem rvictim_any (T K : List ByteArray) (aT aK : Option Addr) (cT cK : Nat) (w : World) (hTl : Tl w aT T cT) (hKl : Tl w aK K cK) (hT : T.length ≤ 300) (hK : K.length ≤ 300) :
    Calls Try.prog 24 #[.agg #[.slice aT T.length cT, .slice aK K.length cK]] w fun e w' => e = .returned (.tuple #[.string (if okO T K = true then vic T K else ⟨#[]⟩), .int .i64 (if okO T K = true then (if T.length + K.length = 0 then 6 else 0) else 8)]) ∧ Below w.heap.size w w' := by
  obtain ⟨W, hW⟩ : ∃ W, W = w.alloc (Obj.cells #[.slice aT T.length cT, .slice aK K.length cK] 24) := ⟨_, rfl⟩
  have HB : Hid (Below w.heap.size w W) := by rw [hW]; exact (Below.refl _ _).alloc (Nat.le_refl _) _
  have HOB : Hid (OB W w.heap.size (.slice aT T.length cT) (.slice aK K.length cK)) := by rw [hW]; exact OB.made _ _ _
  have HTW := Hid.mk2 (hTl.below HB.out)
  have HKW := Hid.mk2 (hKl.below HB.out)
  have HC := Hid.mk2 (rcheck_any T K aT aK cT cK W HTW.out HKW.out hT hK)
  have hle : Hid (w.heap.size ≤ W.heap.size) := HB.out.size
  clear hTl hKl
  by_cases h : Ok T K
  · rw [if_pos (okO_iff.2 h), if_pos (okO_iff.2 h)]
    rw [chk_ok h] at HC
    clear h
    by_cases h0 : 0 < T.length
    · obtain ⟨n, hn⟩ : ∃ n, T.length = n + 1 := ⟨T.length - 1, by omega⟩
      have hnT : n < T.length := by omega
      have hnI : (n : Int) < (T.length : Int) := by omega
      have m1 : (T.length : Int) - 1 = (n : Int) := by omega
      have h0I : (0 : Int) < (T.length : Int) := by omega
      rw [if_neg (by omega)]
      obtain ⟨k, hk⟩ : ∃ k, k = vic T K := ⟨_, rfl⟩
      rw [← hk]
      have hk2 : T[n] = k := by rw [hk, vic_try hn]
      obtain ⟨b, off, rfl, hb, hc⟩ := at_of HTW.out hnT
      rw [hk2] at hc
      clear hk2 hn hk
      go_enter Try.func24, Try.ntmps24
      go_upto_region 1 with (fail)
      rw [← hW]
      clear hW
      obtain ⟨c0, c1, f0, f1, l0⟩ := HOB.out
      go_wp2_with (go_at_call 27; refine HC.out.mono ?_; rintro e w1 ⟨rfl, hb1⟩; have HB1 := Hid.mk2 hb1; clear c0 c1 f0 f1 l0; obtain ⟨c0, c1, f0, f1, l0⟩ := HOB.out.below hb1; have hc1 := (below_cells hb1 b (off + n) hb).trans hc; clear hb1)
      go_ret2
      exact ⟨rfl, HB.out.trans (HB1.out.mono hle.out)⟩
    · have hT0 : T = [] := List.eq_nil_of_length_eq_zero (by omega)
      subst hT0
      clear h0
      by_cases h1 : 0 < K.length
      · obtain ⟨n, hn⟩ : ∃ n, K.length = n + 1 := ⟨K.length - 1, by omega⟩
        have hnT : n < K.length := by omega
        have hnI : (n : Int) < (K.length : Int) := by omega
        have m1 : (K.length : Int) - 1 = (n : Int) := by omega
        have h0I : (0 : Int) < (K.length : Int) := by omega
        rw [if_neg (by intro e; simp only [List.length_nil] at e; omega)]
        obtain ⟨k, hk⟩ : ∃ k, k = vic [] K := ⟨_, rfl⟩
        rw [← hk]
        have hk2 : K[n] = k := by rw [hk, vic_keep hn]
        obtain ⟨b, off, rfl, hb, hc⟩ := at_of HKW.out hnT
        rw [hk2] at hc
        clear hk2 hn hk
        simp only [List.length_nil] at *
        go_enter Try.func24, Try.ntmps24
        go_upto_region 1 with (fail)
        rw [← hW]
        clear hW
        obtain ⟨c0, c1, f0, f1, l0⟩ := HOB.out
        go_wp2_with (go_at_call 27; refine HC.out.mono ?_; rintro e w1 ⟨rfl, hb1⟩; have HB1 := Hid.mk2 hb1; clear c0 c1 f0 f1 l0; obtain ⟨c0, c1, f0, f1, l0⟩ := HOB.out.below hb1; have hc1 := (below_cells hb1 b (off + n) hb).trans hc; clear hb1)
        go_ret2
        exact ⟨rfl, HB.out.trans (HB1.out.mono hle.out)⟩
      · have hK0 : K = [] := List.eq_nil_of_length_eq_zero (by omega)
        subst hK0
        clear h1
        simp only [List.length_nil] at *
        rw [if_pos trivial]
        have hv : vic [] [] = ⟨#[]⟩ := rfl
        rw [hv]
        clear hv
        go_enter Try.func24, Try.ntmps24
        go_upto_region 1 with (fail)
        rw [← hW]
        clear hW
        obtain ⟨c0, c1, f0, f1, l0⟩ := HOB.out
        go_wp2_with (go_at_call 27; refine HC.out.mono ?_; rintro e w1 ⟨rfl, hb1⟩; have HB1 := Hid.mk2 hb1; clear c0 c1 f0 f1 l0; obtain ⟨c0, c1, f0, f1, l0⟩ := HOB.out.below hb1; clear hb1)
        go_ret2
        exact ⟨rfl, HB.out.trans (HB1.out.mono hle.out)⟩
  · rw [if_neg (fun e => h (okO_iff.1 e)), if_neg (fun e => h (okO_iff.1 e))]
    rw [chk_bad h] at HC
    clear h
    go_enter Try.func24, Try.ntmps24
    go_upto_region 1 with (fail)
    rw [← hW]
    clear hW
    obtain ⟨c0, c1, f0, f1, l0⟩ := HOB.out
    go_wp2_with (go_at_call 27; refine HC.out.mono ?_; rintro e w1 ⟨rfl, hb1⟩; have HB1 := Hid.mk2 hb1; clear hb1)
    go_ret2
    exact ⟨rfl, HB.out.trans (HB1.out.mono hle.out)⟩
theorem rall_bad (T K : List ByteArray) (aT aK : Option Addr) (cT cK : Nat) (w : World) (hTl : Tl w aT T cT) (hKl : Tl w aK K cK) (hT : T.length ≤ 300) (hK : K.length ≤ 300) (h : ¬ Ok T K) :
    Calls Try.prog 25 #[.agg #[.slice aT T.length cT, .slice aK K.length cK]] w fun e w' => e = .returned (.tuple #[.slice none 0 0, .int .i64 8]) ∧ Below w.heap.size w w' := by
  have HB : Hid (Below w.heap.size w (w.alloc (Obj.cells #[.slice aT T.length cT, .slice aK K.length cK] 24))) := (Below.refl _ _).alloc (Nat.le_refl _) _
  have HC := Hid.mk2 (rcheck_any T K aT aK cT cK _ (hTl.below HB.out) (hKl.below HB.out) hT hK)
  rw [chk_bad h] at HC
  clear hTl hKl h
  go_enter Try.func25, Try.ntmps25
  go_wp2_with (go_at_call 27; refine HC.out.mono ?_; rintro e w1 ⟨rfl, hb1⟩; have HB1 := Hid.mk2 hb1; clear hb1)
  go_ret2
  exact ⟨rfl, below_alloc HB1.out⟩
theorem last_take' {L : List ByteArray} {m : Nat} (hm : m < L.length) : (L.take (m + 1)).getLast?.getD ⟨#[]⟩ = L[m] := by
  rw [List.take_succ_eq_append_getElem hm, List.getLast?_append]
  simp
theorem erase_take' {L : List ByteArray} (hnd : L.Nodup) {m : Nat} (hm : m < L.length) : (L.take (m + 1)).erase L[m] = L.take m := by
  have hno : L[m] ∉ L.take m := fun h => by
    obtain ⟨j, hj, e⟩ := List.getElem_of_mem h
    have hj2 : j < m := by simp at hj; omega
    rw [List.getElem_take] at e
    exact List.pairwise_iff_getElem.1 (List.nodup_iff_pairwise_ne.1 hnd) j m (by omega) hm hj2 e
  rw [List.take_succ_eq_append_getElem hm, List.erase_append_right _ hno]
  simp
/-- what the loop keeps: the order, and the keys that went -/
structure Lb (w wr : World) (L M : List ByteArray) (k : Nat) (v : Value) (aX : Option Addr) (cX : Nat) (aY : Option Addr) (cY : Nat) (X Y : List ByteArray) : Prop where
  ob : OB wr w.heap.size (.slice aX X.length cX) (.slice aY Y.length cY)
  x : Tl wr aX X cX
  y : Tl wr aY Y cY
  own : OwnTs wr (w.heap.size + 1) v (M.take k)
  li : Y ++ X = L.take (L.length - k)
  ok : Ok X Y
  be : Below w.heap.size w wr
  fx : ∀ g off, aX = some ⟨g, off, none⟩ → X ≠ [] → v.ownBlock ≠ some g
  fy : ∀ g off, aY = some ⟨g, off, none⟩ → Y ≠ [] → v.ownBlock ≠ some g
theorem Tl.grown {w w' : World} {ao : Option Addr} {ks : List ByteArray} {cap : Nat} {row : Option Nat} (h : Tl w ao ks cap) (hg : w.grownBy w' row) (hne : ∀ g off, ao = some ⟨g, off, none⟩ → ks ≠ [] → row ≠ some g) : Tl w' ao ks cap := by
  refine ⟨h.hl, h.hc, h.hn, ?_⟩
  rcases h.at_ with rfl | ⟨b, off, rfl, hb, hc⟩
  · exact .inl rfl
  · by_cases hk : ks = []
    · exact .inl hk
    · exact .inr ⟨b, off, rfl, Nat.lt_of_lt_of_le hb hg.size, fun j hj => hg.cell (a := ⟨b, off + j, none⟩) (hc j hj) (fun e => hne b off rfl hk e.symm)⟩
theorem Lb.key {w wr : World} {L M : List ByteArray} {k : Nat} {v : Value} {aX : Option Addr} {cX : Nat} {aY : Option Addr} {cY : Nat} {X Y : List ByteArray} (h : Lb w wr L M k v aX cX aY cY X Y) (hM : M = L.reverse) (hk : k < M.length) :
    vic X Y = M[k] ∧ M[k] ∈ Y ++ X ∧ X.length + Y.length ≠ 0 := by
  have hlM : M.length = L.length := by rw [hM]; simp
  have hi : L.length - (k + 1) < L.length := by omega
  have hMk : M[k] = L[L.length - (k + 1)] := by
    subst hM
    rw [List.getElem_reverse]
    congr 1
    omega
  have e : Y ++ X = L.take (L.length - (k + 1) + 1) := by rw [h.li]; congr 1; omega
  refine ⟨?_, ?_, ?_⟩
  · unfold vic
    rw [e, last_take' hi, hMk]
  · rw [e, hMk, List.take_succ_eq_append_getElem hi]
    exact List.mem_append.2 (.inr (List.mem_singleton.2 rfl))
  · have := congrArg List.length e
    rw [List.length_append, List.length_take] at this
    omega
theorem Lb.next {w wr w6 w7 : World} {L M : List ByteArray} {k : Nat} {v v6 : Value} {aX : Option Addr} {cX : Nat} {aY : Option Addr} {cY : Nat} {X Y : List ByteArray} (h : Lb w wr L M k v aX cX aY cY X Y) (hL : L.Nodup) (hM : M = L.reverse) (hk : k < M.length)
    (hO6 : OwnTs w6 (w.heap.size + 1) v6 (M.take (k + 1))) (hb6 : Below (w.heap.size + 1) wr w6) (hb7 : Below w6.heap.size w6 w7)
    {aP : Option Addr} {cP : Nat} {aQ : Option Addr} {cQ : Nat} (hP : Tl w7 aP (dlT X Y M[k]) cP) (hQ : Tl w7 aQ (dlK X Y M[k]) cQ) (fP : Fr w6.heap.size aP (dlT X Y M[k])) (fQ : Fr w6.heap.size aQ (dlK X Y M[k])) :
    Lb w ((w7.setCell ⟨w.heap.size, 0, none⟩ (.slice aP (dlT X Y M[k]).length cP)).setCell ⟨w.heap.size, 1, none⟩ (.slice aQ (dlK X Y M[k]).length cQ)) L M (k + 1) v6 aP cP aQ cQ (dlT X Y M[k]) (dlK X Y M[k]) := by
  have hs6 := hb6.size
  have hlt := h.ob.lt
  have gP : ∀ g off, aP = some ⟨g, off, none⟩ → dlT X Y M[k] ≠ [] → g ≠ w.heap.size := fun g off e hx => by have := fP g off e hx; omega
  have gQ : ∀ g off, aQ = some ⟨g, off, none⟩ → dlK X Y M[k] ≠ [] → g ≠ w.heap.size := fun g off e hx => by have := fQ g off e hx; omega
  have hlM : M.length = L.length := by rw [hM]; simp
  have hi : L.length - (k + 1) < L.length := by omega
  have hMk : M[k] = L[L.length - (k + 1)] := by
    subst hM
    rw [List.getElem_reverse]
    congr 1
    omega
  have ob6 : OB w6 w.heap.size (.slice aX X.length cX) (.slice aY Y.length cY) := h.ob.same (hb6.block _ (by omega)) hs6
  have hown : OwnTs w7 (w.heap.size + 1) v6 (M.take (k + 1)) := hO6.below hb7
  have far : ∀ g, v6.ownBlock = some g → some w.heap.size ≠ some g := fun g hg e => by have := (hown.lt g hg).1; have := Option.some.inj e; omega
  refine ⟨((ob6.below hb7).set0 _).set1 _, (hP.setc _ _ gP).setc _ _ gP, (hQ.setc _ _ gQ).setc _ _ gQ, ?_, ?_, dl_ok h.ok, ?_, fun g off e hx e2 => by have h1 := fP g off e hx; have h2 := (hO6.lt g e2).2; omega, fun g off e hx e2 => by have h1 := fQ g off e hx; have h2 := (hO6.lt g e2).2; omega⟩
  · exact (hown.grown (grownBy_setCell w7 ⟨w.heap.size, 0, none⟩ _) far).grown (grownBy_setCell _ ⟨w.heap.size, 1, none⟩ _) far
  · rw [dl_line h.ok.nodup, h.li, hMk, show L.length - k = L.length - (k + 1) + 1 by omega]
    exact erase_take' hL hi
  · exact (((h.be.trans (hb6.mono (by omega))).trans (hb7.mono (Nat.le_trans h.be.size hs6))).setCell (Nat.le_refl _) _).setCell (Nat.le_refl _) _
set_option maxHeartbeats 4000000 in
theorem rall_ok (T K : List ByteArray) (aT aK : Option Addr) (cT cK : Nat) (w : World) (hTl : Tl w aT T cT) (hKl : Tl w aK K cK) (hT : T.length ≤ 300) (hK : K.length ≤ 300) (h : Ok T K) :
    Calls Try.prog 25 #[.agg #[.slice aT T.length cT, .slice aK K.length cK]] w fun e w' => ∃ ao cap, e = .returned (.tuple #[.slice ao (K ++ T).reverse.length cap, .int .i64 0]) ∧ Tl w' ao (K ++ T).reverse cap ∧ Below w.heap.size w w' := by
  obtain ⟨W, hW⟩ : ∃ W, W = w.alloc (Obj.cells #[.slice aT T.length cT, .slice aK K.length cK] 24) := ⟨_, rfl⟩
  have HB : Hid (Below w.heap.size w W) := by rw [hW]; exact (Below.refl _ _).alloc (Nat.le_refl _) _
  have HOB : Hid (OB W w.heap.size (.slice aT T.length cT) (.slice aK K.length cK)) := by rw [hW]; exact OB.made _ _ _
  have hsW : Hid (W.heap.size = w.heap.size + 1) := by rw [hW]; show _ = _; simp
  have HC := Hid.mk2 (rcheck_any T K aT aK cT cK W (hTl.below HB.out) (hKl.below HB.out) hT hK)
  rw [chk_ok h] at HC
  obtain ⟨L, hL⟩ : ∃ L, L = K ++ T := ⟨_, rfl⟩
  obtain ⟨M, hM⟩ : ∃ M, M = L.reverse := ⟨_, rfl⟩
  rw [← hL, ← hM]
  have HND : Hid L.Nodup := by rw [hL]; exact h.nodup
  have HMR := Hid.mk2 hM
  have HML : Hid (M.length ≤ 600 ∧ M.length = L.length) := ⟨by rw [hM, hL]; simp; omega, by rw [hM]; simp⟩
  have HTW := Hid.mk2 (hTl.below HB.out)
  have HKW := Hid.mk2 (hKl.below HB.out)
  have HL := Hid.mk2 hL
  have HOK := Hid.mk2 h
  clear hTl hKl hT hK h hL hM
  go_enter Try.func25, Try.ntmps25
  go_upto_region 1 with (fail)
  rw [← hW]
  clear hW
  obtain ⟨c0, c1, f0, f1, l0⟩ := HOB.out
  go_wp2_with (go_at_call 27; refine HC.out.mono ?_; rintro e w1 ⟨rfl, hb1⟩; have HB1 := Hid.mk2 hb1; clear hb1)
  have HA0 : Hid (Lb w w1 L M 0 (.slice none 0 0) aT cT aK cK T K) := ⟨HOB.out.below HB1.out, HTW.out.below HB1.out, HKW.out.below HB1.out, by rw [List.take_zero]; exact OwnTs.nil _ _, by rw [Nat.sub_zero, List.take_length, HL.out], HOK.out, HB.out.trans (HB1.out.mono HB.out.size), (by intro g off _ _ e; cases e), (by intro g off _ _ e; cases e)⟩
  clear c0 c1 f0 f1 l0
  go_loopg [5] (M.length + 1) (fun g s5 wr => ∃ (k : Nat) (v : Value) (aX : Option Addr) (cX : Nat) (aY : Option Addr) (cY : Nat) (X Y : List ByteArray), k + g = M.length + 1 ∧ k ≤ M.length ∧ s5 = v ∧ Hid (Lb w wr L M k v aX cX aY cY X Y))
  case atStart => exact ⟨0, _, aT, cT, aK, cK, T, K, by omega, Nat.zero_le _, rfl, HA0⟩
  case round =>
    obtain ⟨k, v5, aX, cX, aY, cY, X, Y, hkg, hk, rfl, HA⟩ := hrel
    obtain ⟨c0, c1, f0, f1, l0⟩ := HA.out.ob
    have hmX := HA.out.ok.many
    have HVI := Hid.mk2 (rvictim_any X Y aX aY cX cY wr HA.out.x HA.out.y (by omega) (by omega))
    rw [if_pos (okO_iff.2 HA.out.ok), if_pos (okO_iff.2 HA.out.ok)] at HVI
    by_cases hlt : k < M.length
    · obtain ⟨hv, hmem, hne⟩ := HA.out.key HMR.out hlt
      rw [if_neg hne, hv] at HVI
      have hE := htE_in HA.out.ok hmem
      have HDE := Hid.mk2 (fun V (h1 : Tl V aX X cX) (h2 : Tl V aY Y cY) => rdel_ok X Y aX aY cX cY M[k] V h1 h2 (by omega) (by omega) hE)
      have HMK : Hid (M.take (k + 1) = M.take k ++ [M[k]]) := List.take_succ_eq_append_getElem hlt
      have HNX := Hid.mk2 (fun (wx wy : World) (v6 : Value) (h1 : OwnTs wx (w.heap.size + 1) v6 (M.take (k + 1))) (h2 : Below (w.heap.size + 1) wr wx) (h3 : Below wx.heap.size wx wy) aP cP aQ cQ (h4 : Tl wy aP (dlT X Y M[k]) cP) (h5 : Tl wy aQ (dlK X Y M[k]) cQ) (h6 : Fr wx.heap.size aP (dlT X Y M[k])) (h7 : Fr wx.heap.size aQ (dlK X Y M[k])) => HA.out.next HND.out HMR.out hlt h1 h2 h3 h4 h5 h6 h7)
      obtain ⟨s, hs⟩ : ∃ s, s = M[k] := ⟨_, rfl⟩
      rw [← hs] at HVI HDE HNX HMK
      obtain ⟨P, hP⟩ : ∃ P, P = dlT X Y s := ⟨_, rfl⟩
      obtain ⟨Q, hQ⟩ : ∃ Q, Q = dlK X Y s := ⟨_, rfl⟩
      rw [← hP, ← hQ] at HDE HNX
      obtain ⟨F, hF⟩ : ∃ F, F = M.take k := ⟨_, rfl⟩
      have HOW := Hid.mk2 HA.out.own
      rw [← hF] at HOW HMK
      have hFl : F.length ≤ 600 := by rw [hF]; have := HML.out.1; simp; omega
      have hlt0 : w.heap.size < wr.heap.size := l0
      clear hv hmem hne hE hs hP hQ hmX hF
      go_upto_region 9 with (first
        | (at_builtin; refine app_key (w0 := w5) rfl _ _ rfl (w.heap.size + 1) _ F (HOW.out.below HB5.out) rfl s rfl _ rfl rfl (by omega) (Nat.le_trans hlt0 HB5.out.size) ?_; intro v6 w6 hO6 hG6; rw [← HMK.out] at hO6; have HO6 := Hid.mk2 hO6; have HB6 : Hid (Below (w.heap.size + 1) wr w6) := (HB5.out.mono hlt0).grown hG6.grown (Nat.le_trans hlt0 HB5.out.size) (fun g hg => ((HOW.out.below HB5.out).lt g hg).1); have HG6 := Hid.mk2 hG6; clear hO6 hG6)
        | (go_at_call 24; refine HVI.out.mono ?_; rintro e w5 ⟨rfl, hb5⟩; have HB5 := Hid.mk2 hb5; clear hb5))
      have HOB6 : Hid (OB w6 w.heap.size (.slice aX X.length cX) (.slice aY Y.length cY)) := HA.out.ob.same (HB6.out.block _ (by omega)) HB6.out.size
      have HX6 : Hid (Tl w6 aX X cX) := (HA.out.x.below HB5.out).grown HG6.out.grown HA.out.fx
      have HY6 : Hid (Tl w6 aY Y cY) := (HA.out.y.below HB5.out).grown HG6.out.grown HA.out.fy
      clear c0 c1 f0 f1 l0
      obtain ⟨c0, c1, f0, f1, l0⟩ := HOB6.out
      go_wp2_with (go_at_call 23; refine (HDE.out _ HX6.out HY6.out).mono ?_; rintro e w7 ⟨aP, cP, aQ, cQ, rfl, hP7, hQ7, hf7, hg7, hb7⟩; have HP7 := Hid.mk2 hP7; have HQ7 := Hid.mk2 hQ7; have HF7 := Hid.mk2 hf7; have HG7 := Hid.mk2 hg7; have HB7 := Hid.mk2 hb7; clear hP7 hQ7 hf7 hg7 c0 c1 f0 f1 l0; obtain ⟨c0, c1, f0, f1, l0⟩ := HOB6.out.below hb7; clear hb7)
      obtain ⟨g', hg'⟩ : ∃ g', gk = g' + 1 := ⟨gk - 1, by omega⟩
      subst hg'
      go_roundg g'
      case measure => omega
      case rel => exact ⟨k + 1, _, aP, cP, aQ, cQ, P, Q, by omega, by omega, rfl, HNX.out w6 w7 _ HO6.out HB6.out HB7.out aP cP aQ cQ HP7.out HQ7.out HF7.out HG7.out⟩
    · have hz : X.length + Y.length = 0 := by
        have := congrArg List.length HA.out.li
        rw [List.length_append, List.length_take] at this
        have := HML.out.2
        omega
      rw [if_pos hz] at HVI
      obtain ⟨v, hv⟩ : ∃ v, v = vic X Y := ⟨_, rfl⟩
      rw [← hv] at HVI
      have HOW := Hid.mk2 HA.out.own
      rw [List.take_of_length_le (by omega)] at HOW
      clear hv hz hmX
      go_wp2_with (go_at_call 24; refine HVI.out.mono ?_; rintro e w5 ⟨rfl, hb5⟩; have HB5 := Hid.mk2 hb5; clear hb5)
      obtain ⟨ao, cap, hvs, hh⟩ := (HOW.out.below HB5.out).tl
      subst hvs
      go_ret2
      exact ⟨ao, cap, rfl, hh, HA.out.be.trans (HB5.out.mono HA.out.be.size)⟩
end Go.Proofs.Ytmdlampmoeiihaa
