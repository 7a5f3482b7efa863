/-
  The document's Reader: Text.
-/
import Derived.Test.YtlhlleokehkolaaRCmd3
namespace Go.Proofs.Ytlhlleokehkolaa
open Go.RowKit
set_option linter.unusedSimpArgs false
set_option linter.unusedVariables false
set_option maxRecDepth 100000

theorem refRText_any (w : World) (B rb : Nat) (s : St) (h : Rd w B rb s) :
    Calls Try.prog 56 #[.pointer (some ⟨rb, 0, none⟩)] w fun e w' => e = .returned (.string ⟨(dText s).1.toArray⟩) ∧ Rd w' B rb (dText s).2 ∧ w.grownBy w' (some rb) := by
  have HR : Hid (Rd w B rb s) := h
  obtain ⟨⟨ao, cap, c0, hb, hc1, hc2, hc3⟩, c1, f0, f1, hle, hlt⟩ := h
  have hm : s.l.length ≤ maxLen := by omega
  have HM : Hid (cap ≤ maxLen) := hc2
  have H3 : Hid (ao = none → cap = 0) := hc3
  unfold maxLen at hc2
  clear hc3
  have hrd := refRead_any w B ao s.l cap hm hb
  have HB : Hid (BsAt w B ao s.l) := hb
  clear hm hb
  rcases hr : readL s.l with _ | ⟨n, k⟩
  · have HE := dText_none hr
    obtain ⟨e1, e2, e3⟩ := read_none hr
    rw [e1, e2, e3] at hrd
    rw [HE]
    clear HE e1 e2 e3 hr
    go_enter Try.func56, Try.ntmps56
    go_wp2_with (go_at_call 20; refine hrd.mono ?_; rintro e w' ⟨rfl, rfl⟩)
    go_ret
    exact ⟨rfl, HR.out.mark true, grown_set w rb 1 _⟩
  · obtain ⟨e1, e2, e3⟩ := read_some hr
    obtain ⟨hkl, hk0, hn⟩ := readL_le hr
    rw [e1, e2, e3] at hrd
    clear e1 e2 e3
    have hni : (n : Int) ≤ 18446744073709551615 := by omega
    by_cases hs : s.l.length - k < n
    · have HE := dText_short hr hs
      rw [HE]
      have hs2 : (s.l.length : Int) - (k : Int) < (n : Int) := by omega
      clear HE hr hn
      go_enter Try.func56, Try.ntmps56
      go_wp2_with (go_at_call 20; refine hrd.mono ?_; rintro e w' ⟨rfl, rfl⟩)
      go_ret
      exact ⟨rfl, HR.out.mark true, grown_set w rb 1 _⟩
    · have HE := dText_ok hr hs
      rw [HE]
      have hs2 : (n : Int) ≤ (s.l.length : Int) - (k : Int) := by omega
      have hnl : n ≤ 9223372036854775807 := by omega
      have hd : decide ((s.l.length : Int) - (k : Int) < (n : Int)) = false := by simp; omega
      have hcv := fun (c : Nat) => conv_bytes w B (ao.map fun x => x.add k) ((s.l.drop k).take n) c ((HB.out.drop k).take n)
      have hln : ((s.l.drop k).take n).length = n := by simp; omega
      simp only [hln] at hcv
      clear HE hr hn hln
      by_cases hck : cap = k + n
      · have hlk : Hid (s.l.length = cap) := by show _ = _; omega
        have hdr : s.l.drop (k + n) = [] := by simp; omega
        rw [hdr]
        clear hdr
        by_cases hn0 : n = 0
        · subst hn0
          have hck2 : cap = k := by omega
          subst hck2
          have hcv0 := fun (c : Nat) => conv_bytes w B ao [] c (.inl rfl)
          simp only [List.length_nil] at hcv0
          simp only [Nat.add_zero, List.take_zero] at ⊢
          clear hck hcv
          go_enter Try.func56, Try.ntmps56
          go_wp2_with (go_at_call 20; refine hrd.mono ?_; rintro e w' ⟨rfl, rfl⟩)
          go_ret
          exact ⟨rfl, HR.out.set _ [] _ 0 (by have := hlk.out; first | (simp; done) | (simp; omega)) (.inl rfl) (by simp) (by simp [maxLen]) (fun _ => rfl), grown_set w rb 0 _⟩
        · have hck2 : ¬ cap = k := by omega
          subst hck
          have hz : k + n - (k + n) = 0 := by omega
          have HN : Hid (¬ n = 0) := hn0
          clear hn0
          go_enter Try.func56, Try.ntmps56
          go_wp2_with (go_at_call 20; refine hrd.mono ?_; rintro e w' ⟨rfl, rfl⟩)
          go_ret
          exact ⟨rfl, HR.out.set _ [] _ 0 (by have := hlk.out; first | (simp; done) | (simp; omega)) (.inl rfl) (by simp) (by simp [maxLen]) (fun _ => rfl), grown_set w rb 0 _⟩
      · have hck2 : ¬ cap = k := by omega
        go_enter Try.func56, Try.ntmps56
        go_wp2_with (go_at_call 20; refine hrd.mono ?_; rintro e w' ⟨rfl, rfl⟩)
        go_ret
        exact ⟨rfl, HR.out.set _ (s.l.drop (k + n)) _ (cap - (k + n)) (by simp) (HB.out.drop (k + n)) (by simp; omega) (by have := HM.out; omega) (fun e => by have := H3.out (by simpa using e); omega), grown_set w rb 0 _⟩
end Go.Proofs.Ytlhlleokehkolaa
