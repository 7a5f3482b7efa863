/-
  Contract of the document's own Step.
-/
import Derived.Test.YtgfhjkphdmkmoacBgStep
import Derived.Test.YtgfhjkphdmkmoacBgRef
namespace Go.Proofs.Ytgfhjkphdmkmoac
open Go.RowKit
set_option linter.unusedSimpArgs false
set_option linter.unusedVariables false
set_option maxRecDepth 100000

/-- what is left, and what came out, behind the first k messages -/
def stL (ls : List (List UInt8)) (K A k : Nat) : List (List UInt8) := if K = 1 ∨ k ≤ A then ls.take k else ls.take A ++ (ls.take k).drop (A + 1)
def stO (ls : List (List UInt8)) (K A k : Nat) : List UInt8 := if K = 2 ∨ k ≤ A then [] else ls.getD A []
theorem stL_next {ls : List (List UInt8)} {K A k : Nat} (hk : k < ls.length) (h : k ≠ A ∨ K = 1) : stL ls K A (k + 1) = stL ls K A k ++ [ls[k]] := by
  unfold stL
  by_cases h1 : K = 1 ∨ k + 1 ≤ A
  · rw [if_pos h1, if_pos (by omega), List.take_succ_eq_append_getElem hk]
  · have h2 : A < k := by omega
    rw [if_neg h1, if_neg (by omega), List.take_succ_eq_append_getElem hk, List.drop_append_of_le_length (by simp; omega), List.append_assoc]
theorem stL_same {ls : List (List UInt8)} {K A : Nat} (hA : A < ls.length) (h : K ≠ 1) : stL ls K A (A + 1) = stL ls K A A := by
  unfold stL
  rw [if_neg (by omega), if_pos (by omega), List.drop_of_length_le (by simp; omega), List.append_nil]
theorem stL_len {ls : List (List UInt8)} {K A k : Nat} : (stL ls K A k).length ≤ k := by
  unfold stL
  split
  · simp; omega
  · simp; omega
theorem stL_all {ls : List (List UInt8)} {K A : Nat} (hA : A < ls.length) : stL ls K A ls.length = if K = 1 then ls else ls.take A ++ ls.drop (A + 1) := by
  unfold stL
  by_cases h : K = 1
  · rw [if_pos (.inl h), if_pos h, List.take_length]
  · rw [if_neg (by omega), if_neg h, List.take_length]
theorem stO_same {ls : List (List UInt8)} {K A k : Nat} (h : k ≠ A ∨ K = 2) : stO ls K A (k + 1) = stO ls K A k := by
  unfold stO
  by_cases h2 : K = 2
  · rw [if_pos (.inl h2), if_pos (.inl h2)]
  · by_cases h3 : k + 1 ≤ A
    · rw [if_pos (.inr h3), if_pos (.inr (by omega))]
    · rw [if_neg (by omega), if_neg (by omega)]
theorem stO_at {ls : List (List UInt8)} {K A : Nat} (hA : A < ls.length) (h : K ≠ 2) : stO ls K A (A + 1) = ls[A] := by
  unfold stO
  rw [if_neg (by omega)]
  simp [hA]
theorem stO_all {ls : List (List UInt8)} {K A : Nat} (hA : A < ls.length) : stO ls K A ls.length = if K = 2 then [] else ls[A] := by
  unfold stO
  by_cases h : K = 2
  · rw [if_pos (.inl h), if_pos h]
  · rw [if_neg (by omega), if_neg h]; simp [hA]
theorem stO_nil {ls : List (List UInt8)} {K A k : Nat} (h : k ≤ A) : stO ls K A k = [] := by
  unfold stO; rw [if_pos (.inr h)]

set_option maxHeartbeats 2000000 in
theorem rstep0 (w : World) (ao : Option Addr) (ls : List (List UInt8)) (cap : Nat) (h : Ll w ao ls cap) (hroom : ∀ p ∈ ls, p.length ≤ 140737488351232) (A : Nat) (hA : A < ls.length) (h1 : ls.length ≤ 64) :
    Calls Try.prog 28 #[.slice ao ls.length cap, .int .u8 0, .int .i64 A] w (StepPost w 0 (stL ls 0 A ls.length) (stO ls 0 A ls.length)) := by
  have g1 : decide ((64 : Int) < (ls.length : Int)) = false := by simp; omega
  have g2 : (A : Int) < (ls.length : Int) := by omega
  have g0 : decide ((A : Int) < 0) = false := by simp
  have g3 : decide (ls.length ≤ A) = false := by simp; omega
  have hll := h.hl
  have hlm := h.hc
  have HR : Hid (∀ p ∈ ls, p.length ≤ 140737488351232) := hroom
  rcases h.at_ with h0 | ⟨bk, off, rfl, hbk, hc⟩
  · rw [h0] at hA; simp at hA
  have HC : Hid (∀ i (hi : i < ls.length), ∃ v, w.cell? ⟨bk, off + i, none⟩ = some v ∧ DtAt w w.heap.size v ls[i]) := hc
  clear h hroom hc
  go_enter Try.func28, Try.ntmps28
  go_wp2
  go_loopw [9, 10, 11] (fun u o i wr => ∃ k : Nat, k ≤ ls.length ∧ i = .int .i64 k ∧ OwnLs wr w.heap.size u (stL ls 0 A k) ∧ FreshBut wr w.heap.size u.ownBlock o (stO ls 0 A k) ∧ Hid (k ≤ A → o = .slice none 0 0) ∧ Below w.heap.size w wr) (fun _ _ i _ => ls.length - (intOf i).toNat)
  case atStart =>
    have e0 : stL ls 0 A 0 = [] := by unfold stL; simp
    have e1 : stO ls 0 A 0 = [] := stO_nil (Nat.zero_le _)
    exact ⟨0, Nat.zero_le _, rfl, by rw [e0]; exact OwnLs.nil _ _, by rw [e1]; exact (Fresh.nil _ _).but (fun k hk => by simp [Value.ownBlock] at hk), fun _ => rfl, Below.refl _ _⟩
  case round =>
    obtain ⟨k, hk, rfl, how, hfo, HO, hbr⟩ := hrel
    have hsr := hbr.size
    by_cases hlt : k < ls.length
    · have hlt3 : (k : Int) < (ls.length : Int) := by omega
      obtain ⟨v1, hv1, hd1⟩ := HC.out k hlt
      have hroom := HR.out ls[k] (List.getElem_mem hlt)
      have hln : (stL ls 0 A k).length + 1 ≤ 1000000 := by have := stL_len (ls := ls) (K := 0) (A := A) (k := k); omega
      have hlo : ∀ j, u9.ownBlock = some j → j < wr.heap.size := fun j hj => (how.lt j hj).2
      have HLO : Hid (∀ j, u9.ownBlock = some j → j < wr.heap.size) := hlo
      by_cases hkA : k = A
      · have HLS : Hid (stL ls 0 A (k + 1) = stL ls 0 A k) := by subst hkA; exact stL_same hlt (by decide)
        have HOS : Hid (stO ls 0 A (k + 1) = ls[k]) := by subst hkA; exact stO_at hlt (by decide)
        have ho0 : u10 = .slice none 0 0 := HO.out (by omega)
        have kA : ((k : Int) == (A : Int)) = true := by simp; omega
        have kA2 : ((k : Int) != (A : Int)) = false := by simp; omega
        have kA3 : (k == A) = true := by simp; omega
        have kA4 : (k != A) = false := by simp; omega
        subst hkA
        obtain ⟨p, hpe⟩ : ∃ p, p = ls[k] := ⟨_, rfl⟩
        rw [← hpe] at hd1 hroom HOS
        have hv2 : wr.cell? ⟨bk, off + k, none⟩ = some v1 := (hbr.cell (p := ⟨bk, off + k, none⟩) hbk).trans hv1
        obtain ⟨a1, c1, rfl, hsl⟩ := (hd1.below hbr (Nat.le_refl _)).sl hsr
        obtain ⟨LL, hLL⟩ : ∃ LL, LL = stL ls 0 k k := ⟨_, rfl⟩
        rw [← hLL] at how hln HLS
        obtain ⟨OO, hOO⟩ : ∃ OO, OO = stO ls 0 k k := ⟨_, rfl⟩
        rw [← hOO] at hfo 
        have HN : Hid (a1 = none → c1 = 0) := hsl.hn
        have HBS : Hid (BsAt wr wr.heap.size a1 p) := hsl.at_
        have HV1 : Hid (w.cell? ⟨bk, off + k, none⟩ = some (.slice a1 p.length c1)) := hv1
        clear hlo hsl hd1 hv1 hLL hOO hpe HC HR
        subst ho0
        go_wp2_with (at_builtin; refine app_bytes rfl (.tmp 53) (.tmp 57) rfl wr.heap.size _ [] (Own.nil _ _) rfl a1 c1 p _ rfl rfl wr.heap.size HN.out HBS.out (by simp; omega) (Nat.le_refl _) ?_; intro v8 w8 ho8 hg8; rw [List.nil_append] at ho8; have hb8 := hg8.below_nil)
        have how8 := how.below hb8
        rw [← HLS.out] at how8
        have hf8 : FreshBut w8 w.heap.size u9.ownBlock v8 p := (ho8.fresh.but HLO.out).mono hsr
        rw [← HOS.out] at hf8
        have hb08 := hbr.trans (hb8.mono hsr)
        go_roundw
        case rel => exact ⟨k + 1, by omega, by go_num, how8, hf8, fun hh => absurd hh (by omega), hb08⟩
        case measure => simp [intOf]; omega
      · have HLS : Hid (stL ls 0 A (k + 1) = stL ls 0 A k ++ [ls[k]]) := stL_next hlt (.inl hkA)
        have HOS : Hid (stO ls 0 A (k + 1) = stO ls 0 A k) := stO_same (.inl hkA)
        have kA : ((k : Int) == (A : Int)) = false := by simp; omega
        have kA2 : ((k : Int) != (A : Int)) = true := by simp; omega
        have kA3 : (k == A) = false := by simp; omega
        have kA4 : (k != A) = true := by simp; omega
        obtain ⟨p, hpe⟩ : ∃ p, p = ls[k] := ⟨_, rfl⟩
        rw [← hpe] at hd1 hroom HLS
        have hv2 : wr.cell? ⟨bk, off + k, none⟩ = some v1 := (hbr.cell (p := ⟨bk, off + k, none⟩) hbk).trans hv1
        obtain ⟨a1, c1, rfl, hsl⟩ := (hd1.below hbr (Nat.le_refl _)).sl hsr
        obtain ⟨LL, hLL⟩ : ∃ LL, LL = stL ls 0 A k := ⟨_, rfl⟩
        rw [← hLL] at how hln HLS
        obtain ⟨OO, hOO⟩ : ∃ OO, OO = stO ls 0 A k := ⟨_, rfl⟩
        rw [← hOO] at hfo HOS
        have HN : Hid (a1 = none → c1 = 0) := hsl.hn
        have HBS : Hid (BsAt wr wr.heap.size a1 p) := hsl.at_
        have HV1 : Hid (w.cell? ⟨bk, off + k, none⟩ = some (.slice a1 p.length c1)) := hv1
        clear hlo hsl hd1 hv1 hLL hOO hpe HC HR
        go_wp2_with (first
          | (at_builtin; refine app_ls (w0 := w5) rfl (.tmp 38) (.tmp 44) rfl w.heap.size _ _ how5 rfl p _ hfb rfl rfl hln (by omega) ?_; intro v7 w7 ho7 hg7; have hb7 : Below w.heap.size w w7 := (hbr.trans (hb5.mono hsr)).trans (hg7.below_ls how5 (by omega)); have x7 := (hb7.cell (p := ⟨bk, off + k, none⟩) hbk).trans HV1.out; have hr7 : v7.ownBlock = u9.ownBlock ∨ ∀ j, v7.ownBlock = some j → w5.heap.size ≤ j := (by
            by_cases hh : v7.ownBlock = u9.ownBlock
            · exact .inl hh
            · right
              intro j hj
              rcases hg7.lies j hj with g | g
              · exact absurd (hj.trans g.symm) hh
              · exact g))
          | (at_builtin; refine app_bytes rfl (.const (.slice none 0 0)) (.tmp 42) rfl wr.heap.size _ [] (Own.nil _ _) rfl a1 c1 p _ rfl rfl wr.heap.size HN.out HBS.out (by simp; omega) (Nat.le_refl _) ?_; intro v5 w5 ho5 hg5; rw [List.nil_append] at ho5; obtain ⟨ao5, c5, hv5⟩ := ho5.fresh.val; subst hv5; have hb5 := hg5.below_nil; have how5 := how.below hb5; have hfb : FreshBut w5 w.heap.size u9.ownBlock _ p := (ho5.fresh.but HLO.out).mono hsr; have hs5 := hb5.size; have hfo5 := hfo.grown (grownBy_below hb5 _) (.inl rfl)))
        have hfo7 := hfo5.grown hg7.grown hr7
        rw [← HLS.out] at ho7
        rw [← HOS.out] at hfo7
        go_roundw
        case rel => exact ⟨k + 1, by omega, by go_num, ho7, hfo7, fun hh => HO.out (by omega), hb7⟩
        case measure => simp [intOf]; omega
    · have hlt3 : decide ((k : Int) < (ls.length : Int)) = false := by simp; omega
      have hke : k = ls.length := by omega
      subst hke
      clear HO
      go_wp2
      go_ret3
      exact ⟨_, _, rfl, how, hfo.fresh, hbr⟩

set_option maxHeartbeats 2000000 in
theorem rstep1 (w : World) (ao : Option Addr) (ls : List (List UInt8)) (cap : Nat) (h : Ll w ao ls cap) (hroom : ∀ p ∈ ls, p.length ≤ 140737488351232) (A : Nat) (hA : A < ls.length) (h1 : ls.length ≤ 64) :
    Calls Try.prog 28 #[.slice ao ls.length cap, .int .u8 1, .int .i64 A] w (StepPost w 0 (stL ls 1 A ls.length) (stO ls 1 A ls.length)) := by
  have g1 : decide ((64 : Int) < (ls.length : Int)) = false := by simp; omega
  have g2 : (A : Int) < (ls.length : Int) := by omega
  have g0 : decide ((A : Int) < 0) = false := by simp
  have g3 : decide (ls.length ≤ A) = false := by simp; omega
  have hll := h.hl
  have hlm := h.hc
  have HR : Hid (∀ p ∈ ls, p.length ≤ 140737488351232) := hroom
  rcases h.at_ with h0 | ⟨bk, off, rfl, hbk, hc⟩
  · rw [h0] at hA; simp at hA
  have HC : Hid (∀ i (hi : i < ls.length), ∃ v, w.cell? ⟨bk, off + i, none⟩ = some v ∧ DtAt w w.heap.size v ls[i]) := hc
  clear h hroom hc
  go_enter Try.func28, Try.ntmps28
  go_wp2
  go_loopw [9, 10, 11] (fun u o i wr => ∃ k : Nat, k ≤ ls.length ∧ i = .int .i64 k ∧ OwnLs wr w.heap.size u (stL ls 1 A k) ∧ FreshBut wr w.heap.size u.ownBlock o (stO ls 1 A k) ∧ Hid (k ≤ A → o = .slice none 0 0) ∧ Below w.heap.size w wr) (fun _ _ i _ => ls.length - (intOf i).toNat)
  case atStart =>
    have e0 : stL ls 1 A 0 = [] := by unfold stL; simp
    have e1 : stO ls 1 A 0 = [] := stO_nil (Nat.zero_le _)
    exact ⟨0, Nat.zero_le _, rfl, by rw [e0]; exact OwnLs.nil _ _, by rw [e1]; exact (Fresh.nil _ _).but (fun k hk => by simp [Value.ownBlock] at hk), fun _ => rfl, Below.refl _ _⟩
  case round =>
    obtain ⟨k, hk, rfl, how, hfo, HO, hbr⟩ := hrel
    have hsr := hbr.size
    by_cases hlt : k < ls.length
    · have hlt3 : (k : Int) < (ls.length : Int) := by omega
      obtain ⟨v1, hv1, hd1⟩ := HC.out k hlt
      have hroom := HR.out ls[k] (List.getElem_mem hlt)
      have hln : (stL ls 1 A k).length + 1 ≤ 1000000 := by have := stL_len (ls := ls) (K := 1) (A := A) (k := k); omega
      have hlo : ∀ j, u9.ownBlock = some j → j < wr.heap.size := fun j hj => (how.lt j hj).2
      have HLO : Hid (∀ j, u9.ownBlock = some j → j < wr.heap.size) := hlo
      by_cases hkA : k = A
      · have HLS : Hid (stL ls 1 A (k + 1) = stL ls 1 A k ++ [ls[k]]) := stL_next hlt (.inr rfl)
        have HOS : Hid (stO ls 1 A (k + 1) = ls[k]) := by subst hkA; exact stO_at hlt (by decide)
        have ho0 : u10 = .slice none 0 0 := HO.out (by omega)
        have kA : ((k : Int) == (A : Int)) = true := by simp; omega
        have kA2 : ((k : Int) != (A : Int)) = false := by simp; omega
        have kA3 : (k == A) = true := by simp; omega
        have kA4 : (k != A) = false := by simp; omega
        subst hkA
        obtain ⟨p, hpe⟩ : ∃ p, p = ls[k] := ⟨_, rfl⟩
        rw [← hpe] at hd1 hroom HLS HOS
        have hv2 : wr.cell? ⟨bk, off + k, none⟩ = some v1 := (hbr.cell (p := ⟨bk, off + k, none⟩) hbk).trans hv1
        obtain ⟨a1, c1, rfl, hsl⟩ := (hd1.below hbr (Nat.le_refl _)).sl hsr
        have HBW : Hid (∀ W, Below w.heap.size w W → BsAt W W.heap.size a1 p) := by
          intro W hW
          obtain ⟨a9, c9, e9, hs9⟩ := (hd1.below hW (Nat.le_refl _)).sl hW.size
          cases e9; exact hs9.at_
        obtain ⟨LL, hLL⟩ : ∃ LL, LL = stL ls 1 k k := ⟨_, rfl⟩
        rw [← hLL] at how hln HLS
        obtain ⟨OO, hOO⟩ : ∃ OO, OO = stO ls 1 k k := ⟨_, rfl⟩
        rw [← hOO] at hfo 
        have HN : Hid (a1 = none → c1 = 0) := hsl.hn
        have HBS : Hid (BsAt wr wr.heap.size a1 p) := hsl.at_
        have HV1 : Hid (w.cell? ⟨bk, off + k, none⟩ = some (.slice a1 p.length c1)) := hv1
        clear hlo hsl hd1 hv1 hLL hOO hpe HC HR
        subst ho0
        go_wp2_with (first
          | (at_builtin; have hq := x7; refine app_bytes rfl (.tmp 53) (.tmp 57) rfl w7.heap.size _ [] (Own.nil _ _) rfl a1 c1 p _ rfl rfl w7.heap.size HN.out HB7.out (by simp; omega) (Nat.le_refl _) ?_; intro v8 w8 ho8 hg8; rw [List.nil_append] at ho8; have hb8 := hg8.below_nil)
          | (at_builtin; refine app_ls (w0 := w5) rfl (.tmp 38) (.tmp 44) rfl w.heap.size _ _ how5 rfl p _ hfb rfl rfl hln (by omega) ?_; intro v7 w7 ho7 hg7; have hb7 : Below w.heap.size w w7 := (hbr.trans (hb5.mono hsr)).trans (hg7.below_ls how5 (by omega)); have x7 := (hb7.cell (p := ⟨bk, off + k, none⟩) hbk).trans HV1.out; have hr7 : v7.ownBlock = u9.ownBlock ∨ ∀ j, v7.ownBlock = some j → w5.heap.size ≤ j := (by
            by_cases hh : v7.ownBlock = u9.ownBlock
            · exact .inl hh
            · right
              intro j hj
              rcases hg7.lies j hj with g | g
              · exact absurd (hj.trans g.symm) hh
              · exact g); have HB7 : Hid (BsAt w7 w7.heap.size a1 p) := HBW.out w7 hb7)
          | (at_builtin; refine app_bytes rfl (.const (.slice none 0 0)) (.tmp 42) rfl wr.heap.size _ [] (Own.nil _ _) rfl a1 c1 p _ rfl rfl wr.heap.size HN.out HBS.out (by simp; omega) (Nat.le_refl _) ?_; intro v5 w5 ho5 hg5; rw [List.nil_append] at ho5; obtain ⟨ao5, c5, hv5⟩ := ho5.fresh.val; subst hv5; have hb5 := hg5.below_nil; have how5 := how.below hb5; have hfb : FreshBut w5 w.heap.size u9.ownBlock _ p := (ho5.fresh.but HLO.out).mono hsr; have hs5 := hb5.size; have hfo5 := hfo.grown (grownBy_below hb5 _) (.inl rfl)))
        have how8 := ho7.below hb8
        rw [← HLS.out] at how8
        have hf8 : FreshBut w8 w.heap.size v7.ownBlock v8 p := (ho8.fresh.but (fun j hj => (ho7.lt j hj).2)).mono hb7.size
        rw [← HOS.out] at hf8
        have hb08 := hb7.trans (hb8.mono hb7.size)
        go_roundw
        case rel => exact ⟨k + 1, by omega, by go_num, how8, hf8, fun hh => absurd hh (by omega), hb08⟩
        case measure => simp [intOf]; omega
      · have HLS : Hid (stL ls 1 A (k + 1) = stL ls 1 A k ++ [ls[k]]) := stL_next hlt (.inl hkA)
        have HOS : Hid (stO ls 1 A (k + 1) = stO ls 1 A k) := stO_same (.inl hkA)
        have kA : ((k : Int) == (A : Int)) = false := by simp; omega
        have kA2 : ((k : Int) != (A : Int)) = true := by simp; omega
        have kA3 : (k == A) = false := by simp; omega
        have kA4 : (k != A) = true := by simp; omega
        obtain ⟨p, hpe⟩ : ∃ p, p = ls[k] := ⟨_, rfl⟩
        rw [← hpe] at hd1 hroom HLS
        have hv2 : wr.cell? ⟨bk, off + k, none⟩ = some v1 := (hbr.cell (p := ⟨bk, off + k, none⟩) hbk).trans hv1
        obtain ⟨a1, c1, rfl, hsl⟩ := (hd1.below hbr (Nat.le_refl _)).sl hsr
        obtain ⟨LL, hLL⟩ : ∃ LL, LL = stL ls 1 A k := ⟨_, rfl⟩
        rw [← hLL] at how hln HLS
        obtain ⟨OO, hOO⟩ : ∃ OO, OO = stO ls 1 A k := ⟨_, rfl⟩
        rw [← hOO] at hfo HOS
        have HN : Hid (a1 = none → c1 = 0) := hsl.hn
        have HBS : Hid (BsAt wr wr.heap.size a1 p) := hsl.at_
        have HV1 : Hid (w.cell? ⟨bk, off + k, none⟩ = some (.slice a1 p.length c1)) := hv1
        clear hlo hsl hd1 hv1 hLL hOO hpe HC HR
        go_wp2_with (first
          | (at_builtin; refine app_ls (w0 := w5) rfl (.tmp 38) (.tmp 44) rfl w.heap.size _ _ how5 rfl p _ hfb rfl rfl hln (by omega) ?_; intro v7 w7 ho7 hg7; have hb7 : Below w.heap.size w w7 := (hbr.trans (hb5.mono hsr)).trans (hg7.below_ls how5 (by omega)); have x7 := (hb7.cell (p := ⟨bk, off + k, none⟩) hbk).trans HV1.out; have hr7 : v7.ownBlock = u9.ownBlock ∨ ∀ j, v7.ownBlock = some j → w5.heap.size ≤ j := (by
            by_cases hh : v7.ownBlock = u9.ownBlock
            · exact .inl hh
            · right
              intro j hj
              rcases hg7.lies j hj with g | g
              · exact absurd (hj.trans g.symm) hh
              · exact g))
          | (at_builtin; refine app_bytes rfl (.const (.slice none 0 0)) (.tmp 42) rfl wr.heap.size _ [] (Own.nil _ _) rfl a1 c1 p _ rfl rfl wr.heap.size HN.out HBS.out (by simp; omega) (Nat.le_refl _) ?_; intro v5 w5 ho5 hg5; rw [List.nil_append] at ho5; obtain ⟨ao5, c5, hv5⟩ := ho5.fresh.val; subst hv5; have hb5 := hg5.below_nil; have how5 := how.below hb5; have hfb : FreshBut w5 w.heap.size u9.ownBlock _ p := (ho5.fresh.but HLO.out).mono hsr; have hs5 := hb5.size; have hfo5 := hfo.grown (grownBy_below hb5 _) (.inl rfl)))
        have hfo7 := hfo5.grown hg7.grown hr7
        rw [← HLS.out] at ho7
        rw [← HOS.out] at hfo7
        go_roundw
        case rel => exact ⟨k + 1, by omega, by go_num, ho7, hfo7, fun hh => HO.out (by omega), hb7⟩
        case measure => simp [intOf]; omega
    · have hlt3 : decide ((k : Int) < (ls.length : Int)) = false := by simp; omega
      have hke : k = ls.length := by omega
      subst hke
      clear HO
      go_wp2
      go_ret3
      exact ⟨_, _, rfl, how, hfo.fresh, hbr⟩

set_option maxHeartbeats 2000000 in
theorem rstep2 (w : World) (ao : Option Addr) (ls : List (List UInt8)) (cap : Nat) (h : Ll w ao ls cap) (hroom : ∀ p ∈ ls, p.length ≤ 140737488351232) (A : Nat) (hA : A < ls.length) (h1 : ls.length ≤ 64) :
    Calls Try.prog 28 #[.slice ao ls.length cap, .int .u8 2, .int .i64 A] w (StepPost w 0 (stL ls 2 A ls.length) (stO ls 2 A ls.length)) := by
  have g1 : decide ((64 : Int) < (ls.length : Int)) = false := by simp; omega
  have g2 : (A : Int) < (ls.length : Int) := by omega
  have g0 : decide ((A : Int) < 0) = false := by simp
  have g3 : decide (ls.length ≤ A) = false := by simp; omega
  have hll := h.hl
  have hlm := h.hc
  have HR : Hid (∀ p ∈ ls, p.length ≤ 140737488351232) := hroom
  rcases h.at_ with h0 | ⟨bk, off, rfl, hbk, hc⟩
  · rw [h0] at hA; simp at hA
  have HC : Hid (∀ i (hi : i < ls.length), ∃ v, w.cell? ⟨bk, off + i, none⟩ = some v ∧ DtAt w w.heap.size v ls[i]) := hc
  clear h hroom hc
  go_enter Try.func28, Try.ntmps28
  go_wp2
  go_loopw [9, 10, 11] (fun u o i wr => ∃ k : Nat, k ≤ ls.length ∧ i = .int .i64 k ∧ OwnLs wr w.heap.size u (stL ls 2 A k) ∧ FreshBut wr w.heap.size u.ownBlock o (stO ls 2 A k) ∧ Hid (k ≤ A → o = .slice none 0 0) ∧ Below w.heap.size w wr) (fun _ _ i _ => ls.length - (intOf i).toNat)
  case atStart =>
    have e0 : stL ls 2 A 0 = [] := by unfold stL; simp
    have e1 : stO ls 2 A 0 = [] := stO_nil (Nat.zero_le _)
    exact ⟨0, Nat.zero_le _, rfl, by rw [e0]; exact OwnLs.nil _ _, by rw [e1]; exact (Fresh.nil _ _).but (fun k hk => by simp [Value.ownBlock] at hk), fun _ => rfl, Below.refl _ _⟩
  case round =>
    obtain ⟨k, hk, rfl, how, hfo, HO, hbr⟩ := hrel
    have hsr := hbr.size
    by_cases hlt : k < ls.length
    · have hlt3 : (k : Int) < (ls.length : Int) := by omega
      obtain ⟨v1, hv1, hd1⟩ := HC.out k hlt
      have hroom := HR.out ls[k] (List.getElem_mem hlt)
      have hln : (stL ls 2 A k).length + 1 ≤ 1000000 := by have := stL_len (ls := ls) (K := 2) (A := A) (k := k); omega
      have hlo : ∀ j, u9.ownBlock = some j → j < wr.heap.size := fun j hj => (how.lt j hj).2
      have HLO : Hid (∀ j, u9.ownBlock = some j → j < wr.heap.size) := hlo
      by_cases hkA : k = A
      · have HLS : Hid (stL ls 2 A (k + 1) = stL ls 2 A k) := by subst hkA; exact stL_same hlt (by decide)
        have HOS : Hid (stO ls 2 A (k + 1) = stO ls 2 A k) := stO_same (.inr rfl)
        have ho0 : u10 = .slice none 0 0 := HO.out (by omega)
        have kA : ((k : Int) == (A : Int)) = true := by simp; omega
        have kA2 : ((k : Int) != (A : Int)) = false := by simp; omega
        have kA3 : (k == A) = true := by simp; omega
        have kA4 : (k != A) = false := by simp; omega
        subst hkA
        rw [← HLS.out] at how
        rw [← HOS.out] at hfo
        clear HLS HOS hv1 hd1
        go_wp2
        go_roundw
        case rel => exact ⟨k + 1, by omega, by go_num, how, hfo, fun hh => absurd hh (by omega), hbr⟩
        case measure => simp [intOf]; omega
      · have HLS : Hid (stL ls 2 A (k + 1) = stL ls 2 A k ++ [ls[k]]) := stL_next hlt (.inl hkA)
        have HOS : Hid (stO ls 2 A (k + 1) = stO ls 2 A k) := stO_same (.inl hkA)
        have kA : ((k : Int) == (A : Int)) = false := by simp; omega
        have kA2 : ((k : Int) != (A : Int)) = true := by simp; omega
        have kA3 : (k == A) = false := by simp; omega
        have kA4 : (k != A) = true := by simp; omega
        obtain ⟨p, hpe⟩ : ∃ p, p = ls[k] := ⟨_, rfl⟩
        rw [← hpe] at hd1 hroom HLS
        have hv2 : wr.cell? ⟨bk, off + k, none⟩ = some v1 := (hbr.cell (p := ⟨bk, off + k, none⟩) hbk).trans hv1
        obtain ⟨a1, c1, rfl, hsl⟩ := (hd1.below hbr (Nat.le_refl _)).sl hsr
        obtain ⟨LL, hLL⟩ : ∃ LL, LL = stL ls 2 A k := ⟨_, rfl⟩
        rw [← hLL] at how hln HLS
        obtain ⟨OO, hOO⟩ : ∃ OO, OO = stO ls 2 A k := ⟨_, rfl⟩
        rw [← hOO] at hfo HOS
        have HN : Hid (a1 = none → c1 = 0) := hsl.hn
        have HBS : Hid (BsAt wr wr.heap.size a1 p) := hsl.at_
        have HV1 : Hid (w.cell? ⟨bk, off + k, none⟩ = some (.slice a1 p.length c1)) := hv1
        clear hlo hsl hd1 hv1 hLL hOO hpe HC HR
        go_wp2_with (first
          | (at_builtin; refine app_ls (w0 := w5) rfl (.tmp 38) (.tmp 44) rfl w.heap.size _ _ how5 rfl p _ hfb rfl rfl hln (by omega) ?_; intro v7 w7 ho7 hg7; have hb7 : Below w.heap.size w w7 := (hbr.trans (hb5.mono hsr)).trans (hg7.below_ls how5 (by omega)); have x7 := (hb7.cell (p := ⟨bk, off + k, none⟩) hbk).trans HV1.out; have hr7 : v7.ownBlock = u9.ownBlock ∨ ∀ j, v7.ownBlock = some j → w5.heap.size ≤ j := (by
            by_cases hh : v7.ownBlock = u9.ownBlock
            · exact .inl hh
            · right
              intro j hj
              rcases hg7.lies j hj with g | g
              · exact absurd (hj.trans g.symm) hh
              · exact g))
          | (at_builtin; refine app_bytes rfl (.const (.slice none 0 0)) (.tmp 42) rfl wr.heap.size _ [] (Own.nil _ _) rfl a1 c1 p _ rfl rfl wr.heap.size HN.out HBS.out (by simp; omega) (Nat.le_refl _) ?_; intro v5 w5 ho5 hg5; rw [List.nil_append] at ho5; obtain ⟨ao5, c5, hv5⟩ := ho5.fresh.val; subst hv5; have hb5 := hg5.below_nil; have how5 := how.below hb5; have hfb : FreshBut w5 w.heap.size u9.ownBlock _ p := (ho5.fresh.but HLO.out).mono hsr; have hs5 := hb5.size; have hfo5 := hfo.grown (grownBy_below hb5 _) (.inl rfl)))
        have hfo7 := hfo5.grown hg7.grown hr7
        rw [← HLS.out] at ho7
        rw [← HOS.out] at hfo7
        go_roundw
        case rel => exact ⟨k + 1, by omega, by go_num, ho7, hfo7, fun hh => HO.out (by omega), hb7⟩
        case measure => simp [intOf]; omega
    · have hlt3 : decide ((k : Int) < (ls.length : Int)) = false := by simp; omega
      have hke : k = ls.length := by omega
      subst hke
      clear HO
      go_wp2
      go_ret3
      exact ⟨_, _, rfl, how, hfo.fresh, hbr⟩

theorem rstep_any (w : World) (ao : Option Addr) (ls : List (List UInt8)) (cap : Nat) (h : Ll w ao ls cap) (hroom : ∀ p ∈ ls, p.length ≤ 140737488351232) (K : Nat) (at_ : Int) :
    Calls Try.prog 28 #[.slice ao ls.length cap, .int .u8 K, .int .i64 at_] w (StepPost w (stepE ls.length K at_) (stepL ls K at_) (stepO ls K at_)) := by
  have hll := h.hl
  have hlm := h.hc
  by_cases h1 : 64 < ls.length
  · have hE : stepE ls.length K at_ = 4 := by unfold stepE; rw [if_pos h1]
    have hR : stepL ls K at_ = [] := by unfold stepL; rw [hE, if_neg (by decide)]
    have hO : stepO ls K at_ = [] := by unfold stepO; rw [hE, if_neg (by decide)]
    rw [hE, hR, hO]
    have g1 : (64 : Int) < (ls.length : Int) := by omega
    clear h hroom
    go_enter Try.func28, Try.ntmps28
    go_wp2
    go_ret3
    exact ⟨_, _, rfl, OwnLs.nil _ _, Fresh.nil _ _, Below.refl _ _⟩
  · have g1 : decide ((64 : Int) < (ls.length : Int)) = false := by simp; omega
    by_cases h2 : 2 < K
    · have hE : stepE ls.length K at_ = 2 := by unfold stepE; rw [if_neg h1, if_pos h2]
      have hR : stepL ls K at_ = [] := by unfold stepL; rw [hE, if_neg (by decide)]
      have hO : stepO ls K at_ = [] := by unfold stepO; rw [hE, if_neg (by decide)]
      rw [hE, hR, hO]
      have g2 : (2 : Int) < (K : Int) := by omega
      clear h hroom
      go_enter Try.func28, Try.ntmps28
      go_wp2
      go_ret3
      exact ⟨_, _, rfl, OwnLs.nil _ _, Fresh.nil _ _, Below.refl _ _⟩
    · have g2 : decide ((2 : Int) < (K : Int)) = false := by simp; omega
      by_cases h3 : inL ls.length at_ = true
      · have hE : stepE ls.length K at_ = 0 := by unfold stepE; rw [if_neg h1, if_neg h2, if_neg (by rw [h3]; decide)]
        have h4 : 0 ≤ at_ ∧ at_ < (ls.length : Int) := by simpa [inL] using h3
        obtain ⟨A, rfl⟩ : ∃ A : Nat, at_ = (A : Int) := ⟨at_.toNat, by omega⟩
        have hA : A < ls.length := by omega
        have hK : K = 0 ∨ K = 1 ∨ K = 2 := by omega
        rcases hK with rfl | rfl | rfl
        · have hx := rstep0 w ao ls cap h hroom A hA (by omega)
          have hR : stepL ls 0 A = stL ls 0 A ls.length := by unfold stepL; rw [if_pos hE, stL_all hA]; simp
          have hO : stepO ls 0 A = stO ls 0 A ls.length := by unfold stepO; rw [if_pos hE, stO_all hA]; simp [hA]
          rw [hE, hR, hO]
          exact hx
        · have hx := rstep1 w ao ls cap h hroom A hA (by omega)
          have hR : stepL ls 1 A = stL ls 1 A ls.length := by unfold stepL; rw [if_pos hE, stL_all hA]; simp
          have hO : stepO ls 1 A = stO ls 1 A ls.length := by unfold stepO; rw [if_pos hE, stO_all hA]; simp [hA]
          rw [hE, hR, hO]
          exact hx
        · have hx := rstep2 w ao ls cap h hroom A hA (by omega)
          have hR : stepL ls 2 A = stL ls 2 A ls.length := by unfold stepL; rw [if_pos hE, stL_all hA]; simp
          have hO : stepO ls 2 A = stO ls 2 A ls.length := by unfold stepO; rw [if_pos hE, stO_all hA]; simp [hA]
          rw [hE, hR, hO]
          exact hx
      · have h3' : inL ls.length at_ = false := by simpa using h3
        have hE : stepE ls.length K at_ = 6 := by unfold stepE; rw [if_neg h1, if_neg h2, if_pos h3']
        have hR : stepL ls K at_ = [] := by unfold stepL; rw [hE, if_neg (by decide)]
        have hO : stepO ls K at_ = [] := by unfold stepO; rw [hE, if_neg (by decide)]
        rw [hE, hR, hO]
        clear h hroom
        by_cases h5 : at_ < 0
        · go_enter Try.func28, Try.ntmps28
          go_wp2
          go_ret3
          exact ⟨_, _, rfl, OwnLs.nil _ _, Fresh.nil _ _, Below.refl _ _⟩
        · have g5 : decide (at_ < 0) = false := by simp; omega
          have g6 : (ls.length : Int) ≤ at_ := by simp [inL] at h3'; omega
          clear h3 h3'
          go_enter Try.func28, Try.ntmps28
          go_wp2
          go_ret3
          exact ⟨_, _, rfl, OwnLs.nil _ _, Fresh.nil _ _, Below.refl _ _⟩
end Go.Proofs.Ytgfhjkphdmkmoac
