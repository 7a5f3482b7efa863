/-
  (shaken)
-/
import Derived.Test.YtfjcaofmcjhdpaaRead
namespace Go.Proofs.Ytfjcaofmcjhdpaa
open Go.RowKit
set_option linter.unusedSimpArgs false
set_option linter.unusedVariables false
set_option maxRecDepth 100000

/-- a reader in block rb: what is left to read, and whether it is bad; the bytes lie below block B -/
structure Rd (w : World) (B rb : Nat) (s : St) : Prop where
  ex : ∃ ao cap, w.cell? ⟨rb, 0, none⟩ = some (.slice ao s.l.length cap) ∧ BsAt w B ao s.l ∧ s.l.length ≤ cap ∧ cap ≤ maxLen ∧ (ao = none → cap = 0)
  flag : w.cell? ⟨rb, 1, none⟩ = some (.bool s.bad)
  fr0 : w.frozen? ⟨rb, 0, none⟩ = false
  fr1 : w.frozen? ⟨rb, 1, none⟩ = false
  le : B ≤ rb
  lt : rb < w.heap.size

theorem Rd.set {w : World} {B rb : Nat} {s : St} (h : Rd w B rb s) (ao : Option Addr) (l : List UInt8) (n cap : Nat) (hn : n = l.length) (hb : BsAt w B ao l) (h1 : l.length ≤ cap) (h2 : cap ≤ maxLen) (h3 : ao = none → cap = 0) :
    Rd (w.setCell ⟨rb, 0, none⟩ (.slice ao n cap)) B rb ⟨l, s.bad⟩ := by
  subst hn
  obtain ⟨ao', cap', c0, _⟩ := h.ex
  refine ⟨⟨ao, cap, World.cell?_setCell_same _ _ _ c0, hb.below ((Below.refl B w).setCell (by exact h.le) _) (Nat.le_refl _), h1, h2, h3⟩, ?_, by simpa using h.fr0, by simpa using h.fr1, h.le, by simpa using h.lt⟩
  rw [World.cell?_setCell_other _ _ _ _ (by simp)]
  exact h.flag
theorem Rd.mark {w : World} {B rb : Nat} {s : St} (h : Rd w B rb s) (b : Bool) : Rd (w.setCell ⟨rb, 1, none⟩ (.bool b)) B rb ⟨s.l, b⟩ := by
  obtain ⟨ao, cap, c0, hb, r⟩ := h.ex
  refine ⟨⟨ao, cap, ?_, hb.below ((Below.refl B w).setCell (by exact h.le) _) (Nat.le_refl _), r⟩, World.cell?_setCell_same _ _ _ h.flag, by simpa using h.fr0, by simpa using h.fr1, h.le, by simpa using h.lt⟩
  rw [World.cell?_setCell_other _ _ _ _ (by simp)]
  exact c0
/-- a reader stays while other blocks, from B on, are written -/
theorem Rd.grown {w w' : World} {B rb : Nat} {s : St} {row : Option Nat} (h : Rd w B rb s) (hg : w.grownBy w' row) (hne : some rb ≠ row) (hr : ∀ k, row = some k → B ≤ k) : Rd w' B rb s := by
  obtain ⟨ao, cap, c0, hb, r⟩ := h.ex
  have hblk := hg.block rb h.lt hne
  have hbe : Below B w w' := (Below.refl B w).grown hg (Nat.le_trans h.le (Nat.le_of_lt h.lt)) hr
  exact ⟨⟨ao, cap, (World.cell?_of_block (a := ⟨rb, 0, none⟩) hblk).trans c0, hb.below hbe (Nat.le_refl _), r⟩, (World.cell?_of_block (a := ⟨rb, 1, none⟩) hblk).trans h.flag, (World.frozen?_of_block (a := ⟨rb, 0, none⟩) hblk).trans h.fr0, (World.frozen?_of_block (a := ⟨rb, 1, none⟩) hblk).trans h.fr1, h.le, Nat.lt_of_lt_of_le h.lt hg.size⟩
theorem fail_any (w : World) (B rb : Nat) (s : St) (h : Rd w B rb s) :
    Calls Try.prog 65 #[.pointer (some ⟨rb, 0, none⟩)] w fun e w' => e = .returned (.tuple #[]) ∧ Rd w' B rb St.fail ∧ w.grownBy w' (some rb) := by
  have HR : Hid (Rd w B rb s) := h
  obtain ⟨⟨ao, cap, c0, _⟩, c1, f0, f1, hle, hlt⟩ := h
  go_enter Try.func65, Try.ntmps65
  go_wp2
  go_end0
  have h1 := HR.out.set none [] 0 0 rfl (.inl rfl) (by simp) (by simp [maxLen]) (fun _ => rfl)
  exact ⟨rfl, h1.mark true, (grown_set w rb 0 _).trans (grown_set _ rb 1 _)⟩

theorem rsmall_any (w : World) (B rb : Nat) (s : St) (most : Nat) (h : Rd w B rb s) :
    Calls Try.prog 64 #[.pointer (some ⟨rb, 0, none⟩), .int .u64 most] w fun e w' => e = .returned (.int .u64 (sSmall most s).1) ∧ Rd w' B rb (sSmall most s).2 ∧ w.grownBy w' (some rb) := by
  have HR : Hid (Rd w B rb s) := h
  obtain ⟨⟨ao, cap, c0, hb, hc1, hc2, hc3⟩, c1, f0, f1, hle, hlt⟩ := h
  have hm : s.l.length ≤ maxLen := by omega
  have HM : Hid (cap ≤ maxLen) := hc2
  have H3 : Hid (ao = none → cap = 0) := hc3
  unfold maxLen at hc2
  clear hc3
  rcases hr : readL s.l with _ | ⟨n, k⟩
  · have HE := sSmall_none (most := most) hr
    obtain ⟨e1, e2, e3⟩ := read_none hr
    have hrd := read_any w B ao s.l cap hc1 hm hb
    rw [e1, e2, e3] at hrd
    rw [HE]
    clear HE e1 e2 e3 hr
    go_enter Try.func64, Try.ntmps64
    go_wp2_with (first
      | (go_at_call 56; refine hrd.mono ?_; rintro e w' ⟨rfl, rfl⟩)
      | (go_at_call 65; refine (fail_any w B rb s HR.out).mono ?_; rintro e w1 ⟨rfl, h1, h2⟩))
    go_ret
    exact ⟨rfl, h1, h2⟩
  · obtain ⟨e1, e2, e3⟩ := read_some hr
    obtain ⟨hkl, hk0, _⟩ := readL_le hr
    have hrd := read_any w B ao s.l cap hc1 hm hb
    rw [e1, e2, e3] at hrd
    by_cases hmo : n ≤ most
    · have HE := sSmall_ok (most := most) hr hmo
      have hmo1 : ¬ (most : Int) < (n : Int) := by omega
      have hd : decide ((most : Int) < (n : Int)) = false := by simpa using hmo1
      rw [HE]
      clear HE e1 e2 e3 hr
      go_enter Try.func64, Try.ntmps64
      go_wp2_with (go_at_call 56; refine hrd.mono ?_; rintro e w' ⟨rfl, rfl⟩)
      · have hck : cap = k := by assumption
        go_ret
        exact ⟨rfl, HR.out.set ao (s.l.drop k) _ 0 (by simp) (BsAt.drop_all (by omega)) (by simp; omega) (by simp [maxLen]) (fun _ => rfl), grown_set w rb 0 _⟩
      · go_ret
        exact ⟨rfl, HR.out.set _ (s.l.drop k) _ (cap - k) (by simp) (hb.drop k) (by simp; omega) (by have := HM.out; omega) (fun e => by have := H3.out (by simpa using e); omega), grown_set w rb 0 _⟩
    · have HE := sSmall_much (most := most) hr hmo
      have hd : (most : Int) < (n : Int) := by omega
      rw [HE]
      clear HE e1 e2 e3 hr
      go_enter Try.func64, Try.ntmps64
      go_wp2_with (first
        | (go_at_call 56; refine hrd.mono ?_; rintro e w' ⟨rfl, rfl⟩)
        | (go_at_call 65; refine (fail_any w B rb s HR.out).mono ?_; rintro e w1 ⟨rfl, h1, h2⟩))
      go_ret
      exact ⟨rfl, h1, h2⟩
theorem rtext_any (w : World) (B rb : Nat) (s : St) (h : Rd w B rb s) :
    Calls Try.prog 63 #[.pointer (some ⟨rb, 0, none⟩)] w fun e w' => e = .returned (.string ⟨(sText s).1.toArray⟩) ∧ Rd w' B rb (sText s).2 ∧ w.grownBy w' (some rb) := by
  have hc := rsmall_any w B rb s 18446744073709551615 h
  unfold sText
  obtain ⟨p, hp⟩ : ∃ p, p = sSmall 18446744073709551615 s := ⟨_, rfl⟩
  rw [← hp] at hc ⊢
  obtain ⟨m, l, bad⟩ := p
  simp only [] at hc ⊢
  clear hp
  by_cases hm : l.length < m
  · have hmi : (l.length : Int) < (m : Int) := by omega
    have hif : (if l.length < m then (([] : List UInt8), St.fail) else (l.take m, ⟨l.drop m, bad⟩)) = ([], St.fail) := if_pos hm
    rw [hif]
    clear hif
    go_enter Try.func63, Try.ntmps63
    go_wp2_with (first
      | (go_at_call 64; refine hc.mono ?_; rintro e w1 ⟨rfl, h1, h2⟩; obtain ⟨ao, cap, c0, hb, hc1, hc2, hc3⟩ := h1.ex; have f0 := h1.fr0; have HC2 : Hid (cap ≤ maxLen) := hc2; unfold maxLen at hc2; clear hc3)
      | (go_at_call 65; refine (fail_any w1 B rb _ h1).mono ?_; rintro e w2 ⟨rfl, h3, h4⟩))
    go_ret
    exact ⟨rfl, h3, h2.trans h4⟩
  · have hmi : (m : Int) ≤ (l.length : Int) := by omega
    have hif : (if l.length < m then (([] : List UInt8), St.fail) else (l.take m, ⟨l.drop m, bad⟩)) = (l.take m, ⟨l.drop m, bad⟩) := if_neg hm
    rw [hif]
    clear hif
    go_enter Try.func63, Try.ntmps63
    go_wp2_with (go_at_call 64; refine hc.mono ?_; rintro e w1 ⟨rfl, h1, h2⟩; obtain ⟨ao, cap, c0, hb, hc1, hc2, hc3⟩ := h1.ex; have f0 := h1.fr0; have HC2 : Hid (cap ≤ maxLen) := hc2; unfold maxLen at hc2; have H3 : Hid (ao = none → cap = 0) := hc3; clear hc3; have hcv := conv_bytes w1 B ao (l.take m) cap (hb.take m); rw [List.length_take, Nat.min_eq_left (by omega)] at hcv; have HT : Hid (BsAt w1 B ao l) := hb; clear hb)
    · have hck : cap = m := by assumption
      go_ret
      exact ⟨rfl, h1.set ao (l.drop m) _ 0 (by simp) (BsAt.drop_all (by omega)) (by simp; omega) (by simp [maxLen]) (fun _ => rfl), h2.trans (grown_set w1 rb 0 _)⟩
    · go_ret
      exact ⟨rfl, h1.set _ (l.drop m) _ (cap - m) (by simp) (HT.out.drop m) (by simp; omega) (by have := HC2.out; omega) (fun e => by have := H3.out (by simpa using e); omega), h2.trans (grown_set w1 rb 0 _)⟩

/-- a reader that was just made -/
theorem Rd.made (w : World) (B : Nat) (ao : Option Addr) (l : List UInt8) (cap : Nat) (hb : BsAt w B ao l) (h1 : l.length ≤ cap) (h2 : cap ≤ maxLen) (h3 : ao = none → cap = 0) (hB : B ≤ w.heap.size) :
    Rd (w.alloc (.cells #[.slice ao l.length cap, .bool false] 98)) B w.heap.size ⟨l, false⟩ := by
  refine ⟨⟨ao, cap, by simp, hb.below ((Below.refl B w).alloc hB _) (Nat.le_refl _), h1, h2, h3⟩, by simp, World.frozen?_alloc_new _ _ _ _, World.frozen?_alloc_new _ _ _ _, hB, by simp⟩

end Go.Proofs.Ytfjcaofmcjhdpaa
