/-
  (shaken)
-/
import Derived.Test.YtfjcaofmcjhdpaaRefNum
namespace Go.Proofs.Ytfjcaofmcjhdpaa
open Go.RowKit
set_option linter.unusedSimpArgs false
set_option linter.unusedVariables false
set_option maxRecDepth 100000

theorem refCut_any (w : World) (B : Nat) (ao : Option Addr) (l : List UInt8) (cap : Nat) (hb : BsAt w B ao l) (h1 : l.length ≤ cap) (h2 : cap ≤ maxLen) (h3 : ao = none → cap = 0) (hB : B ≤ w.heap.size) (hl : l.length ≤ 100000000) :
    Calls Try.prog 58 #[.slice ao l.length cap] w fun e w' => ∃ v', e = .returned (.tuple #[.string ⟨(cutT l).toArray⟩, v', .int .i64 (cutE l)]) ∧ Own w' w.heap.size v' (cutR l) ∧ Below w.heap.size w w' := by
  have hrd := refRead_any w B ao l cap (by omega) hb
  rcases hr : readL l with _ | ⟨n, k⟩
  · obtain ⟨e1, e2, e3⟩ := read_none hr
    obtain ⟨c1, c2, c3⟩ := cut_none hr
    rw [e1, e2, e3] at hrd
    rw [c1, c2, c3]
    clear e1 e2 e3 c1 c2 c3 hr
    go_enter Try.func58, Try.ntmps58
    go_wp2_with (go_at_call 47; refine hrd.mono ?_; rintro e w' ⟨rfl, rfl⟩)
    go_ret3
    exact ⟨_, rfl, Own.nil _ _, Below.refl _ _⟩
  · obtain ⟨e1, e2, e3⟩ := read_some hr
    obtain ⟨hkl, hk0, hn⟩ := readL_le hr
    rw [e1, e2, e3] at hrd
    clear e1 e2 e3
    have hni : (n : Int) ≤ 18446744073709551615 := by omega
    by_cases hs : l.length - k < n
    · obtain ⟨c1, c2, c3⟩ := cut_short hr hs
      rw [c1, c2, c3]
      have hs2 : (l.length : Int) - (k : Int) < (n : Int) := by omega
      clear c1 c2 c3 hr hn
      go_enter Try.func58, Try.ntmps58
      go_wp2_with (go_at_call 47; refine hrd.mono ?_; rintro e w' ⟨rfl, rfl⟩)
      go_ret3
      exact ⟨_, rfl, Own.nil _ _, Below.refl _ _⟩
    · obtain ⟨c1, c2, c3⟩ := cut_some hr hs
      rw [c1, c2, c3]
      have hs2 : (n : Int) ≤ (l.length : Int) - (k : Int) := by omega
      have hnl : n ≤ 100000000 := by omega
      have hd : decide ((l.length : Int) - (k : Int) < (n : Int)) = false := by simp; omega
      have HM : Hid (cap ≤ maxLen) := h2
      unfold maxLen at h2
      clear c1 c2 c3 hr hn
      have hrl : ([] : List UInt8).length + (l.drop (k + n)).length ≤ 140737488355328 := by simp; omega
      have HB : Hid (BsAt w w.heap.size ao l) := hb.below (Below.refl _ _) hB
      have H3 : Hid (ao = none → cap = 0) := h3
      clear hb h3
      by_cases hck : cap = k + n
      · by_cases hn0 : n = 0
        · subst hn0
          have hck2 : cap = k := by omega
          subst hck2
          have hlk : l.length = cap := by omega
          have hdk : l.drop cap = [] := by simp; omega
          have hcv := fun (w1 : World) (c : Nat) => conv_bytes w1 w.heap.size ao [] c (.inl rfl)
          simp only [List.length_nil] at hcv
          simp only [Nat.add_zero, List.take_zero, hdk] at hrl ⊢
          have HL : Hid (l.length = cap) := hlk
          clear hlk hdk hck
          go_enter Try.func58, Try.ntmps58
          go_wp2_with (first
            | (go_at_call 47; refine hrd.mono ?_; rintro e w' ⟨rfl, rfl⟩)
            | (at_builtin; refine app_bytes rfl (.tmp 31) (.tmp 34) rfl w.heap.size _ [] (Own.nil _ _) rfl ao _ [] _ (by have := HL.out; first | (simp; done) | (simp; omega)) rfl w.heap.size (by intro _; omega) (.inl rfl) hrl (Nat.le_refl _) ?_; intro v2 w2 ho2 hg2))
          go_ret3
          exact ⟨_, rfl, by simpa using ho2, hg2.below_nil⟩
        · have hck2 : ¬ cap = k := by omega
          have hlk : l.length - (k + n) = (l.drop (k + n)).length := by simp
          have HLK : Hid (l.length - (k + n) = (l.drop (k + n)).length) := hlk
          have hcv := fun (w1 : World) (hb1 : Below w.heap.size w w1) (c : Nat) => conv_bytes w1 w.heap.size (ao.map fun x => x.add k) ((l.drop k).take n) c (((HB.out.below hb1 (Nat.le_refl _)).drop k).take n)
          have hln : ((l.drop k).take n).length = n := by simp; omega
          simp only [hln] at hcv
          have HN : Hid (¬ n = 0) := hn0
          subst hck
          have hnn : ¬ (k + n = k) := hck2
          have hz : k + n - (k + n) = 0 := by omega
          clear hlk hck2 hn0 hln
          go_enter Try.func58, Try.ntmps58
          go_wp2_with (first
            | (go_at_call 47; refine hrd.mono ?_; rintro e w' ⟨rfl, rfl⟩)
            | (at_builtin; refine app_bytes rfl (.tmp 31) (.tmp 34) rfl w.heap.size _ [] (Own.nil _ _) rfl ao _ (l.drop (k + n)) _ HLK.out rfl w.heap.size (by intro _; omega) (BsAt.drop_all (by omega)) hrl (Nat.le_refl _) ?_; intro v2 w2 ho2 hg2; have hcv2 := hcv w2 hg2.below_nil))
          go_ret3
          exact ⟨_, rfl, by simpa using ho2, hg2.below_nil⟩
      · have hck2 : ¬ cap = k := by omega
        have HLK : Hid (l.length - (k + n) = (l.drop (k + n)).length) := by simp [Hid]
        have hcv := fun (w1 : World) (hb1 : Below w.heap.size w w1) (c : Nat) => conv_bytes w1 w.heap.size (ao.map fun x => x.add k) ((l.drop k).take n) c (((HB.out.below hb1 (Nat.le_refl _)).drop k).take n)
        have hln : ((l.drop k).take n).length = n := by simp; omega
        simp only [hln] at hcv
        clear hln
        go_enter Try.func58, Try.ntmps58
        go_wp2_with (first
          | (go_at_call 47; refine hrd.mono ?_; rintro e w' ⟨rfl, rfl⟩)
          | (at_builtin; refine app_bytes rfl (.tmp 31) (.tmp 34) rfl w.heap.size _ [] (Own.nil _ _) rfl (ao.map fun x => x.add (k + n)) _ (l.drop (k + n)) _ HLK.out rfl w.heap.size (by intro h; have := H3.out (by simpa using h); omega) (HB.out.drop (k + n)) hrl (Nat.le_refl _) ?_; intro v2 w2 ho2 hg2; have hcv2 := hcv w2 hg2.below_nil))
        go_ret3
        exact ⟨_, rfl, by simpa using ho2, hg2.below_nil⟩
end Go.Proofs.Ytfjcaofmcjhdpaa
