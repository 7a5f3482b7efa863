/-
  Package binary: cut.
-/
import Derived.Test.YtfjcaofmcjhdpaaBnP
import Derived.Test.YtfjcaofmcjhdpaaBnM
namespace Go.Proofs.Ytfjcaofmcjhdpaa
open Go.Proofs.Ytfjcaofmcjhdpaa.It
open Go.RowKit
set_option linter.unusedSimpArgs false
set_option linter.unusedVariables false
set_option maxRecDepth 100000

theorem mid_rd {V : World} {b off cap : Nat} {L : List UInt8} (h : GRd EY V (some ⟨b, off, none⟩) L cap) (i n : Nat) (hn : i + n ≤ L.length) (c : Nat) (hc : n ≤ c) (hcc : c ≤ 9223372036854775807) : GRd EY V (some ⟨b, off + i, none⟩) ((L.drop i).take n) c := by
  have hl : ((L.drop i).take n).length = n := by rw [List.length_take, List.length_drop]; omega
  refine ⟨by rw [hl]; exact hc, hcc, (fun e => by cases e), ?_⟩
  by_cases hne : (L.drop i).take n = []
  · exact .inl hne
  · have hn0 : 0 < n := by
      rcases Nat.eq_zero_or_pos n with e | e
      · rw [e] at hne; simp at hne
      · exact e
    have hL : L ≠ [] := by intro e; rw [e] at hn; simp at hn; omega
    obtain ⟨b', off', e, hb, hcc2⟩ := h.lies hL
    cases e
    refine .inr ⟨b, off + i, rfl, hb, fun j hj j2 hj2 => ?_⟩
    rw [hl] at hj
    have h2 := hcc2 (i + j) (by omega) j2 hj2
    have e : off + i + j * EY.sz + j2 = off + (i + j) * EY.sz + j2 := by show off + i + j * 1 + j2 = off + (i + j) * 1 + j2; omega
    rw [e, h2, List.getElem_take, List.getElem_drop]

theorem results_tmp4 {fn : Func} {t u v x : Tmp} (h : fn.results = #[.tmp t, .tmp u, .tmp v, .tmp x]) (tmps : Array Value) (P : Program) (w : World) :
    (results fn tmps).run P w = .ok (.tuple #[tmps.getD t undef, tmps.getD u undef, tmps.getD v undef, tmps.getD x undef]) w := by
  simp [results, h]
/-- what cut answers: a piece of the bytes where they stand -/
structure CutR (V V' : World) (c : Ct) (e : Ending) : Prop where
  ex : ∃ vo vc, e = .returned (.tuple #[.int .u8 (c.k.toNat : Int), .slice vo c.b.length vc, .int .i64 (c.n : Int), .int .i64 c.e]) ∧ GRd EY V vo c.b vc
  below : Below V.heap.size V V'

set_option maxHeartbeats 1000000 in
theorem bcut_any (f : UInt8) (V : World) (ao : Option Addr) (L : List UInt8) (cap : Nat) (hr : GRd EY V ao L cap) (m : Nat) (hm : m = L.length) (hL : L.length ≤ 20000) :
    Calls Try.prog 28 #[.int .u8 (f.toNat : Int), .slice ao m cap] V fun e V' => CutR V V' (cutP f L) e := by
  have nilR : ∀ (k : Int) (W : World), Below V.heap.size V W → CutR V W ⟨0, [], 0, k⟩ (.returned (.tuple #[.int .u8 0, .slice none 0 0, .int .i64 0, .int .i64 k])) := fun k W h => ⟨⟨none, 0, rfl, GRd.nil V⟩, h⟩
  cases L with
  | nil =>
    have hm0 : m = 0 := by simpa using hm
    subst hm0
    have e : cutP f [] = ⟨0, [], 0, 0⟩ := rfl
    rw [e]
    have H := Hid.mk2 nilR
    clear nilR hr hm e hL
    go_enter Try.func28, Try.ntmps28
    go_wp2
    (try simp only [Exit.inBlock, Exit.then])
    refine bodyPost_ret (results_tmp4 rfl _ _ _) rfl ?_
    exact H.out 0 _ (Below.refl _ _)
  | cons x l =>
    obtain ⟨b, off, rfl, hb, hc⟩ := hr.uy (by simp)
    have hm1 : (m : Int) ≠ 0 := by simp at hm; omega
    have hm2 : 0 < m := by simp at hm; omega
    have hmm : (m : Int) ≤ 20000 := by omega
    have hmc : m ≤ cap := by rw [hm]; exact hr.hl
    have hcp := hr.hc
    have c0 : V.cell? ⟨b, off, none⟩ = some (.int .u8 (x.toNat : Int)) := hc 0 (by simp)
    have HC := Hid.mk2 hc
    have H := Hid.mk2 nilR
    have HR := Hid.mk2 hr
    have hx256 := x.toNat_lt
    have hf256 := f.toNat_lt
    by_cases h0 : x = f
    case neg =>
      have e : cutP f (x :: l) = ⟨0, [], 0, 8⟩ := by unfold cutP; exact if_pos h0
      rw [e]
      have hne : ((x.toNat : Int) == (f.toNat : Int)) = false := by
        simp only [beq_eq_false_iff_ne, ne_eq]
        intro e2; exact h0 (UInt8.toNat_inj.1 (by omega))
      have hne2 : ¬ (x.toNat : Int) = (f.toNat : Int) := by simpa using hne
      clear nilR hr hm e hL hc hb
      go_enter Try.func28, Try.ntmps28
      go_wp2
      (try simp only [Exit.inBlock, Exit.then])
      refine bodyPost_ret (results_tmp4 rfl _ _ _) rfl ?_
      exact H.out 8 _ (Below.refl _ _)
    subst h0
    by_cases h1 : (x :: l).length < 6
    · have e : cutP x (x :: l) = ⟨0, [], 0, 0⟩ := by unfold cutP; dsimp only; rw [if_neg (by simp), if_pos h1]
      rw [e]
      have hm6 : (m : Int) < 6 := by omega
      clear nilR hr hm e hL hc hb h1
      go_enter Try.func28, Try.ntmps28
      go_wp2
      (try simp only [Exit.inBlock, Exit.then])
      refine bodyPost_ret (results_tmp4 rfl _ _ _) rfl ?_
      exact H.out 0 _ (Below.refl _ _)
    obtain ⟨k, a1, a2, a3, a4, l6, rfl⟩ : ∃ k a1 a2 a3 a4 l6, l = k :: a1 :: a2 :: a3 :: a4 :: l6 := by
      match l, h1 with
      | k :: a1 :: a2 :: a3 :: a4 :: l6, _ => exact ⟨k, a1, a2, a3, a4, l6, rfl⟩
      | [], h => simp at h
      | [_], h => simp at h
      | [_, _], h => simp at h
      | [_, _, _], h => simp at h
      | [_, _, _, _], h => simp at h
    have hm6 : ¬ (m : Int) < 6 := by omega
    have c1 : V.cell? ⟨b, off + 1, none⟩ = some (.int .u8 (k.toNat : Int)) := hc 1 (by simp)
    have c2 : V.cell? ⟨b, off + 2, none⟩ = some (.int .u8 (a1.toNat : Int)) := hc 2 (by simp)
    have c3 : V.cell? ⟨b, off + 3, none⟩ = some (.int .u8 (a2.toNat : Int)) := hc 3 (by simp)
    have c4 : V.cell? ⟨b, off + 4, none⟩ = some (.int .u8 (a3.toNat : Int)) := hc 4 (by simp)
    have c5 : V.cell? ⟨b, off + 5, none⟩ = some (.int .u8 (a4.toNat : Int)) := hc 5 (by simp)
    have hN : len4 (x :: k :: a1 :: a2 :: a3 :: a4 :: l6) = a1.toNat * 16777216 + a2.toNat * 65536 + a3.toNat * 256 + a4.toNat := rfl
    have hb4 := or4 a1.toNat a2.toNat a3.toNat a4.toNat a1.toNat_lt a2.toNat_lt a3.toNat_lt a4.toNat_lt
    rw [← hN] at hb4
    have s1 := shl_u32 a1.toNat 24 (by have := a1.toNat_lt; omega)
    have s2 := shl_u32 a2.toNat 16 (by have := a2.toNat_lt; omega)
    have s3 := shl_u32 a3.toNat 8 (by have := a3.toNat_lt; omega)
    have w1 : IntKind.u32.wrap (a1.toNat : Int) = (a1.toNat : Int) := by rw [IntKind.wrap_u32]; have := a1.toNat_lt; omega
    have w2 : IntKind.u32.wrap (a2.toNat : Int) = (a2.toNat : Int) := by rw [IntKind.wrap_u32]; have := a2.toNat_lt; omega
    have w3 : IntKind.u32.wrap (a3.toNat : Int) = (a3.toNat : Int) := by rw [IntKind.wrap_u32]; have := a3.toNat_lt; omega
    have w4 : IntKind.u32.wrap (a4.toNat : Int) = (a4.toNat : Int) := by rw [IntKind.wrap_u32]; have := a4.toNat_lt; omega
    have hNlt := len4_lt (x :: k :: a1 :: a2 :: a3 :: a4 :: l6)
    have hcut : cutP x (x :: k :: a1 :: a2 :: a3 :: a4 :: l6) = if 4096 < len4 (x :: k :: a1 :: a2 :: a3 :: a4 :: l6) then ⟨0, [], 0, 8⟩ else if m < 6 + len4 (x :: k :: a1 :: a2 :: a3 :: a4 :: l6) then ⟨0, [], 0, 0⟩ else ⟨k, ((x :: k :: a1 :: a2 :: a3 :: a4 :: l6).drop 6).take (len4 (x :: k :: a1 :: a2 :: a3 :: a4 :: l6)), 6 + len4 (x :: k :: a1 :: a2 :: a3 :: a4 :: l6), 0⟩ := by
      unfold cutP; dsimp only; rw [if_neg (by simp), if_neg h1, ← hm]; rfl
    rw [hcut]
    obtain ⟨N, hNN⟩ : ∃ N, N = len4 (x :: k :: a1 :: a2 :: a3 :: a4 :: l6) := ⟨_, rfl⟩
    rw [← hNN] at hb4 hNlt ⊢
    have w5 : IntKind.i64.wrap (N : Int) = (N : Int) := by rw [IntKind.wrap_i64]; omega
    have e1 : ((a1.toNat : Int) % 4294967296 * 16777216 % 4294967296) = ((a1.toNat * 16777216 : Nat) : Int) := by have := a1.toNat_lt; omega
    have e2 : ((a2.toNat : Int) % 4294967296 * 65536 % 4294967296) = ((a2.toNat * 65536 : Nat) : Int) := by have := a2.toNat_lt; omega
    have e3 : ((a3.toNat : Int) % 4294967296 * 256 % 4294967296) = ((a3.toNat * 256 : Nat) : Int) := by have := a3.toNat_lt; omega
    have e4 : ((a4.toNat : Int) % 4294967296) = (a4.toNat : Int) := by have := a4.toNat_lt; omega
    have HE : Hid (bits BinOp.or IntKind.u32 (bits BinOp.or IntKind.u32 (bits BinOp.or IntKind.u32 ((a1.toNat : Int) % 4294967296 * 16777216 % 4294967296) ((a2.toNat : Int) % 4294967296 * 65536 % 4294967296)) ((a3.toNat : Int) % 4294967296 * 256 % 4294967296)) ((a4.toNat : Int) % 4294967296) = (N : Int)) := by
      show _ = _
      rw [e1, e2, e3, e4, hb4]
    have HM := Hid.mk2 hm
    have HH1 := Hid.mk2 h1
    clear hcut hN hNN h1 hc nilR hr hm hb4 s1 s2 s3 w1 w2 w3 w4 e1 e2 e3 e4 hL hx256 hf256 hm1
    have hB0 : ∀ n, Below V.heap.size V (V.drewN n) := fun n => ⟨rfl, rfl, rfl, Nat.le_refl _, fun _ _ => rfl⟩
    have HB0 := Hid.mk2 hB0
    clear hB0
    by_cases h2 : 4096 < N
    · rw [if_pos h2]
      have h2i : (4096 : Int) < (N : Int) := by omega
      go_enter Try.func28, Try.ntmps28
      go_wp2
      go_quiet (fail)
      rw [HE.out]
      go_wp2
      (try simp only [Exit.inBlock, Exit.then])
      refine bodyPost_ret (results_tmp4 rfl _ _ _) rfl ?_
      exact H.out 8 _ (HB0.out _)
    rw [if_neg h2]
    have h2i : ¬ (4096 : Int) < (N : Int) := by omega
    have w6 : IntKind.i64.wrap (6 + (N : Int)) = 6 + (N : Int) := by rw [IntKind.wrap_i64]; omega
    by_cases h3 : m < 6 + N
    · rw [if_pos h3]
      have h3i : (m : Int) < 6 + (N : Int) := by omega
      go_enter Try.func28, Try.ntmps28
      go_wp2
      go_quiet (fail)
      rw [HE.out]
      go_wp2
      (try simp only [Exit.inBlock, Exit.then])
      refine bodyPost_ret (results_tmp4 rfl _ _ _) rfl ?_
      exact H.out 0 _ (HB0.out _)
    rw [if_neg h3]
    have h3i : ¬ (m : Int) < 6 + (N : Int) := by omega
    have h4i : 6 + (N : Int) ≤ (cap : Int) := by omega
    have h5i : (6 : Int) ≤ 6 + (N : Int) := by omega
    have hlen : (((x :: k :: a1 :: a2 :: a3 :: a4 :: l6).drop 6).take N).length = N := by
      have h := HM.out
      rw [List.length_take, List.length_drop, ← h]; omega
    have HF : Hid (∀ vo vc, GRd EY V vo (((x :: k :: a1 :: a2 :: a3 :: a4 :: l6).drop 6).take N) vc → ∀ W, Below V.heap.size V W → CutR V W ⟨k, ((x :: k :: a1 :: a2 :: a3 :: a4 :: l6).drop 6).take N, 6 + N, 0⟩ (.returned (.tuple #[.int .u8 (k.toNat : Int), .slice vo (6 + N - 6) vc, .int .i64 (6 + (N : Int)), .int .i64 0]))) := by
      intro vo vc hv W hW
      refine ⟨⟨vo, vc, ?_, hv⟩, hW⟩
      dsimp only
      rw [hlen, show 6 + N - 6 = N by omega]
      rfl
    clear hlen
    by_cases h6 : cap = 6
    · have hN0 : N = 0 := by omega
      have hrd : Hid (GRd EY V (some ⟨b, off, none⟩) (((x :: k :: a1 :: a2 :: a3 :: a4 :: l6).drop 6).take N) 0) := by
        rw [hN0, List.take_zero]
        exact ⟨by simp, by omega, (fun e => by cases e), .inl rfl⟩
      clear hN0
      go_enter Try.func28, Try.ntmps28
      go_wp2
      go_quiet (fail)
      rw [HE.out]
      go_wp2
      go_quiet (fail)
      go_wp2
      (try simp only [Exit.inBlock, Exit.then])
      refine bodyPost_ret (results_tmp4 rfl _ _ _) rfl ?_
      exact HF.out _ _ hrd.out _ ⟨rfl, rfl, rfl, Nat.le_refl _, fun _ _ => rfl⟩
    · have hrd : Hid (GRd EY V (some ⟨b, off + 6, none⟩) (((x :: k :: a1 :: a2 :: a3 :: a4 :: l6).drop 6).take N) (cap - 6)) :=
        mid_rd HR.out 6 N (by rw [← HM.out]; omega) (cap - 6) (by omega) (by omega)
      go_enter Try.func28, Try.ntmps28
      go_wp2
      go_quiet (fail)
      rw [HE.out]
      go_wp2
      go_quiet (fail)
      go_wp2
      (try simp only [Exit.inBlock, Exit.then])
      refine bodyPost_ret (results_tmp4 rfl _ _ _) rfl ?_
      exact HF.out _ _ hrd.out _ ⟨rfl, rfl, rfl, Nat.le_refl _, fun _ _ => rfl⟩
end Go.Proofs.Ytfjcaofmcjhdpaa
