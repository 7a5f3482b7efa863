/-
  LruHits: for every order and two keys (whatever their sizes: those that are great are passed over): of two keys that stand in an order that may be, the one that is hit goes behind the other one.
-/
import Derived.Test.YtmdlampmoeiihaaLrAlive
import Derived.Test.YtmdlampmoeiihaaLrGreat
import Derived.Test.YtmdlampmoeiihaaLrPure2
import Derived.Test.YtmdlampmoeiihaaLrIn
namespace Go.Proofs.Ytmdlampmoeiihaa
open Go.ChangeShapes Go.WideShapes Go.ChangeAt Go.RowKit Go.Shelf Go.Lib Go.Sort
open Go.ChangeMaps (open_string shut_string)
set_option linter.unusedSimpArgs false
set_option linter.unusedVariables false
set_option maxRecDepth 100000

theorem ba_nil : (⟨#[]⟩ : ByteArray).toList = [] := by
  have := ByteArray.toList_mk (l := [])
  exact this
/-- all keys behind a hit, the one that goes first ahead: the one that was hit is the last -/
theorem hits_all {T K : List ByteArray} {one : ByteArray} (h : Ok T K) (hin : one ∈ K ++ T) : (htK T K one ++ htT T K one).reverse = ((K ++ T).erase one).reverse ++ [one] := by
  rw [ht_line h.nodup]
  simp
/-- where one stands, all others stand ahead -/
structure Hts (M : List ByteArray) (one other : ByteArray) : Prop where
  at_ : ∀ i (hi : i < M.length), M[i] = one → ∃ j, ∃ hj : j < M.length, j < i ∧ M[j] = other
  mem : ∃ j, ∃ hj : j < M.length, M[j] = other
theorem hts_rev {L : List ByteArray} {one other : ByteArray} (hnd : L.Nodup) (h2 : other ∈ L) (hne : one ≠ other) : Hts ((L.erase one).reverse ++ [one]) one other := by
  have hm : other ∈ (L.erase one).reverse := by
    rw [List.mem_reverse]
    exact (hnd.mem_erase_iff).2 ⟨fun e => hne e.symm, h2⟩
  obtain ⟨j, hj, e⟩ := List.getElem_of_mem hm
  have hj2 : j < ((L.erase one).reverse ++ [one]).length := by rw [List.length_append]; omega
  have e2 : ((L.erase one).reverse ++ [one])[j] = other := by rw [List.getElem_append_left hj]; exact e
  refine ⟨fun i hi hone => ⟨j, hj2, ?_, e2⟩, j, hj2, e2⟩
  refine Classical.byContradiction fun hc => ?_
  have hi2 : i < (L.erase one).reverse.length := by omega
  rw [List.getElem_append_left hi2] at hone
  have hmm := List.getElem_mem hi2
  rw [hone, List.mem_reverse] at hmm
  exact ((hnd.mem_erase_iff).1 hmm).1 rfl
set_option maxHeartbeats 4000000 in
theorem hits_great (w : World) (aT : Option Addr) (cT : Nat) (aK : Option Addr) (cK : Nat) (T K : List ByteArray) (hTl : Tl w aT T cT) (hKl : Tl w aK K cK) (one : ByteArray) (hone : one.size ≤ maxLen) (other : ByteArray) (hother : other.size ≤ maxLen) (hg : great T K = true) :
    Calls Try.prog 8 #[.agg #[.slice aT T.length cT, .slice aK K.length cK], .string one, .string other] w fun e w' => e = .returned (.bool true) ∧ Below w.heap.size w w' := by
  unfold maxLen at hone hother
  obtain ⟨W, hW⟩ : ∃ W, W = w.alloc (Obj.cells #[.slice aT T.length cT, .slice aK K.length cK] 24) := ⟨_, rfl⟩
  have HBW : Hid (Below w.heap.size w W) := by rw [hW]; exact (Below.refl _ _).alloc (Nat.le_refl _) _
  have HOB : Hid (OB W w.heap.size (.slice aT T.length cT) (.slice aK K.length cK)) := by rw [hW]; exact OB.made _ _ _
  have HT := Hid.mk2 (fun V (hb : Below W.heap.size W V) => (hTl.below HBW.out).below hb)
  have HK := Hid.mk2 (fun V (hb : Below W.heap.size W V) => (hKl.below HBW.out).below hb)
  have HGR := Hid.mk2 (fun V (hb : Below W.heap.size W V) => great_is T K aT aK cT cK V (HT.out V hb) (HK.out V hb))
  rw [hg] at HGR
  clear hTl hKl hg
  go_enter Try.func8, Try.ntmps8
  go_upto_region 1 with (fail)
  rw [← hW]
  clear hW
  obtain ⟨c0, c1, f0, f1, l0⟩ := HOB.out
  go_wp2_with (first
    | (go_at_call 19; refine (HGR.out _ HB1.out).mono ?_; rintro e w2 ⟨rfl, hb2⟩; have HB2 : Hid (Below W.heap.size W w2) := HB1.out.trans (hb2.mono HB1.out.size); clear c0 c1 f0 f1 l0; obtain ⟨c0, c1, f0, f1, l0⟩ := HOB.out.below HB2.out; clear hb2)
    | (go_at_call 15; refine (alive_any _).mono ?_; rintro e w1 ⟨rfl, hb1⟩; have HB1 : Hid (Below W.heap.size W w1) := hb1; clear c0 c1 f0 f1 l0; obtain ⟨c0, c1, f0, f1, l0⟩ := HOB.out.below HB1.out; clear hb1))
  go_ret
  exact ⟨rfl, HBW.out.trans (HB2.out.mono HBW.out.size)⟩
set_option maxHeartbeats 4000000 in
theorem hits_long1 (w : World) (aT : Option Addr) (cT : Nat) (aK : Option Addr) (cK : Nat) (T K : List ByteArray) (hTl : Tl w aT T cT) (hKl : Tl w aK K cK) (one : ByteArray) (hone : one.size ≤ maxLen) (other : ByteArray) (hother : other.size ≤ maxLen) (hg : great T K = false) (h1 : 1000 < one.size) :
    Calls Try.prog 8 #[.agg #[.slice aT T.length cT, .slice aK K.length cK], .string one, .string other] w fun e w' => e = .returned (.bool true) ∧ Below w.heap.size w w' := by
  unfold maxLen at hone hother
  obtain ⟨W, hW⟩ : ∃ W, W = w.alloc (Obj.cells #[.slice aT T.length cT, .slice aK K.length cK] 24) := ⟨_, rfl⟩
  have HBW : Hid (Below w.heap.size w W) := by rw [hW]; exact (Below.refl _ _).alloc (Nat.le_refl _) _
  have HOB : Hid (OB W w.heap.size (.slice aT T.length cT) (.slice aK K.length cK)) := by rw [hW]; exact OB.made _ _ _
  have HT := Hid.mk2 (fun V (hb : Below W.heap.size W V) => (hTl.below HBW.out).below hb)
  have HK := Hid.mk2 (fun V (hb : Below W.heap.size W V) => (hKl.below HBW.out).below hb)
  have HGR := Hid.mk2 (fun V (hb : Below W.heap.size W V) => great_is T K aT aK cT cK V (HT.out V hb) (HK.out V hb))
  obtain ⟨hT3, hK3⟩ := great_len hg
  rw [hg] at HGR
  have g1 : decide ((1000 : Int) < (one.size : Int)) = true := by simp; omega
  clear hTl hKl hg h1
  go_enter Try.func8, Try.ntmps8
  go_upto_region 1 with (fail)
  rw [← hW]
  clear hW
  obtain ⟨c0, c1, f0, f1, l0⟩ := HOB.out
  go_wp2_with (first
    | (go_at_call 19; refine (HGR.out _ HB1.out).mono ?_; rintro e w2 ⟨rfl, hb2⟩; have HB2 : Hid (Below W.heap.size W w2) := HB1.out.trans (hb2.mono HB1.out.size); clear c0 c1 f0 f1 l0; obtain ⟨c0, c1, f0, f1, l0⟩ := HOB.out.below HB2.out; clear hb2)
    | (go_at_call 15; refine (alive_any _).mono ?_; rintro e w1 ⟨rfl, hb1⟩; have HB1 : Hid (Below W.heap.size W w1) := hb1; clear c0 c1 f0 f1 l0; obtain ⟨c0, c1, f0, f1, l0⟩ := HOB.out.below HB1.out; clear hb1))
  go_ret
  exact ⟨rfl, HBW.out.trans (HB2.out.mono HBW.out.size)⟩
set_option maxHeartbeats 4000000 in
theorem hits_long2 (w : World) (aT : Option Addr) (cT : Nat) (aK : Option Addr) (cK : Nat) (T K : List ByteArray) (hTl : Tl w aT T cT) (hKl : Tl w aK K cK) (one : ByteArray) (hone : one.size ≤ maxLen) (other : ByteArray) (hother : other.size ≤ maxLen) (hg : great T K = false) (h1 : one.size ≤ 1000) (h2 : 1000 < other.size) :
    Calls Try.prog 8 #[.agg #[.slice aT T.length cT, .slice aK K.length cK], .string one, .string other] w fun e w' => e = .returned (.bool true) ∧ Below w.heap.size w w' := by
  unfold maxLen at hone hother
  obtain ⟨W, hW⟩ : ∃ W, W = w.alloc (Obj.cells #[.slice aT T.length cT, .slice aK K.length cK] 24) := ⟨_, rfl⟩
  have HBW : Hid (Below w.heap.size w W) := by rw [hW]; exact (Below.refl _ _).alloc (Nat.le_refl _) _
  have HOB : Hid (OB W w.heap.size (.slice aT T.length cT) (.slice aK K.length cK)) := by rw [hW]; exact OB.made _ _ _
  have HT := Hid.mk2 (fun V (hb : Below W.heap.size W V) => (hTl.below HBW.out).below hb)
  have HK := Hid.mk2 (fun V (hb : Below W.heap.size W V) => (hKl.below HBW.out).below hb)
  have HGR := Hid.mk2 (fun V (hb : Below W.heap.size W V) => great_is T K aT aK cT cK V (HT.out V hb) (HK.out V hb))
  obtain ⟨hT3, hK3⟩ := great_len hg
  rw [hg] at HGR
  have g1 : decide ((1000 : Int) < (one.size : Int)) = false := by simp; omega
  have g2 : decide ((1000 : Int) < (other.size : Int)) = true := by simp; omega
  clear hTl hKl hg h1 h2
  go_enter Try.func8, Try.ntmps8
  go_upto_region 1 with (fail)
  rw [← hW]
  clear hW
  obtain ⟨c0, c1, f0, f1, l0⟩ := HOB.out
  go_wp2_with (first
    | (go_at_call 19; refine (HGR.out _ HB1.out).mono ?_; rintro e w2 ⟨rfl, hb2⟩; have HB2 : Hid (Below W.heap.size W w2) := HB1.out.trans (hb2.mono HB1.out.size); clear c0 c1 f0 f1 l0; obtain ⟨c0, c1, f0, f1, l0⟩ := HOB.out.below HB2.out; clear hb2)
    | (go_at_call 15; refine (alive_any _).mono ?_; rintro e w1 ⟨rfl, hb1⟩; have HB1 : Hid (Below W.heap.size W w1) := hb1; clear c0 c1 f0 f1 l0; obtain ⟨c0, c1, f0, f1, l0⟩ := HOB.out.below HB1.out; clear hb1))
  go_ret
  exact ⟨rfl, HBW.out.trans (HB2.out.mono HBW.out.size)⟩
set_option maxHeartbeats 4000000 in
theorem hits_same (w : World) (aT : Option Addr) (cT : Nat) (aK : Option Addr) (cK : Nat) (T K : List ByteArray) (hTl : Tl w aT T cT) (hKl : Tl w aK K cK) (one : ByteArray) (hone : one.size ≤ maxLen) (other : ByteArray) (hother : other.size ≤ maxLen) (hg : great T K = false) (h1 : one.size ≤ 1000) (h2 : other.size ≤ 1000) (he : one = other) :
    Calls Try.prog 8 #[.agg #[.slice aT T.length cT, .slice aK K.length cK], .string one, .string other] w fun e w' => e = .returned (.bool true) ∧ Below w.heap.size w w' := by
  unfold maxLen at hone hother
  obtain ⟨W, hW⟩ : ∃ W, W = w.alloc (Obj.cells #[.slice aT T.length cT, .slice aK K.length cK] 24) := ⟨_, rfl⟩
  have HBW : Hid (Below w.heap.size w W) := by rw [hW]; exact (Below.refl _ _).alloc (Nat.le_refl _) _
  have HOB : Hid (OB W w.heap.size (.slice aT T.length cT) (.slice aK K.length cK)) := by rw [hW]; exact OB.made _ _ _
  have HT := Hid.mk2 (fun V (hb : Below W.heap.size W V) => (hTl.below HBW.out).below hb)
  have HK := Hid.mk2 (fun V (hb : Below W.heap.size W V) => (hKl.below HBW.out).below hb)
  have HGR := Hid.mk2 (fun V (hb : Below W.heap.size W V) => great_is T K aT aK cT cK V (HT.out V hb) (HK.out V hb))
  obtain ⟨hT3, hK3⟩ := great_len hg
  rw [hg] at HGR
  have g1 : decide ((1000 : Int) < (one.size : Int)) = false := by simp; omega
  have g2 : decide ((1000 : Int) < (other.size : Int)) = false := by simp; omega
  have e1 := ba_eq he
  clear hTl hKl hg h1 h2 he
  go_enter Try.func8, Try.ntmps8
  go_upto_region 1 with (fail)
  rw [← hW]
  clear hW
  obtain ⟨c0, c1, f0, f1, l0⟩ := HOB.out
  go_wp2_with (first
    | (go_at_call 19; refine (HGR.out _ HB1.out).mono ?_; rintro e w2 ⟨rfl, hb2⟩; have HB2 : Hid (Below W.heap.size W w2) := HB1.out.trans (hb2.mono HB1.out.size); clear c0 c1 f0 f1 l0; obtain ⟨c0, c1, f0, f1, l0⟩ := HOB.out.below HB2.out; clear hb2)
    | (go_at_call 15; refine (alive_any _).mono ?_; rintro e w1 ⟨rfl, hb1⟩; have HB1 : Hid (Below W.heap.size W w1) := hb1; clear c0 c1 f0 f1 l0; obtain ⟨c0, c1, f0, f1, l0⟩ := HOB.out.below HB1.out; clear hb1))
  go_ret
  exact ⟨rfl, HBW.out.trans (HB2.out.mono HBW.out.size)⟩
set_option maxHeartbeats 4000000 in
theorem hits_no1 (w : World) (aT : Option Addr) (cT : Nat) (aK : Option Addr) (cK : Nat) (T K : List ByteArray) (hTl : Tl w aT T cT) (hKl : Tl w aK K cK) (one : ByteArray) (hone : one.size ≤ maxLen) (other : ByteArray) (hother : other.size ≤ maxLen) (hg : great T K = false) (h1 : one.size ≤ 1000) (h2 : other.size ≤ 1000) (he : one ≠ other) (hc : cnt T K one ≠ 1) :
    Calls Try.prog 8 #[.agg #[.slice aT T.length cT, .slice aK K.length cK], .string one, .string other] w fun e w' => e = .returned (.bool true) ∧ Below w.heap.size w w' := by
  unfold maxLen at hone hother
  obtain ⟨W, hW⟩ : ∃ W, W = w.alloc (Obj.cells #[.slice aT T.length cT, .slice aK K.length cK] 24) := ⟨_, rfl⟩
  have HBW : Hid (Below w.heap.size w W) := by rw [hW]; exact (Below.refl _ _).alloc (Nat.le_refl _) _
  have HOB : Hid (OB W w.heap.size (.slice aT T.length cT) (.slice aK K.length cK)) := by rw [hW]; exact OB.made _ _ _
  have HT := Hid.mk2 (fun V (hb : Below W.heap.size W V) => (hTl.below HBW.out).below hb)
  have HK := Hid.mk2 (fun V (hb : Below W.heap.size W V) => (hKl.below HBW.out).below hb)
  have HGR := Hid.mk2 (fun V (hb : Below W.heap.size W V) => great_is T K aT aK cT cK V (HT.out V hb) (HK.out V hb))
  obtain ⟨hT3, hK3⟩ := great_len hg
  rw [hg] at HGR
  have g1 : decide ((1000 : Int) < (one.size : Int)) = false := by simp; omega
  have g2 : decide ((1000 : Int) < (other.size : Int)) = false := by simp; omega
  have e1 := ba_ne he
  have HH1 := Hid.mk2 (fun V (hb : Below W.heap.size W V) => has_any T K aT aK cT cK one V (HT.out V hb) (HK.out V hb) (by omega) (by omega))
  have HH2 := Hid.mk2 (fun V (hb : Below W.heap.size W V) => has_any T K aT aK cT cK other V (HT.out V hb) (HK.out V hb) (by omega) (by omega))
  obtain ⟨n, hn⟩ : ∃ n : Nat, n = cnt T K one := ⟨_, rfl⟩
  rw [← hn] at HH1 hc
  have n1 : ((n : Int) != 1) = true := by simp; omega
  have n2 : ((n : Int) == 1) = false := by simp; omega
  clear hTl hKl hg h1 h2 he hn hc
  go_enter Try.func8, Try.ntmps8
  go_upto_region 1 with (fail)
  rw [← hW]
  clear hW
  obtain ⟨c0, c1, f0, f1, l0⟩ := HOB.out
  go_wp2_with (first
    | (go_at_call 28; refine (HH1.out _ HB2.out).mono ?_; rintro e w21 ⟨rfl, hw21⟩; have hb21 : Below w2.heap.size w2 w21 := (by rw [hw21]; exact (Below.refl _ _).alloc (Nat.le_refl _) _); clear hw21; have HB21 : Hid (Below W.heap.size W w21) := HB2.out.trans (hb21.mono HB2.out.size); clear c0 c1 f0 f1 l0; obtain ⟨c0, c1, f0, f1, l0⟩ := HOB.out.below HB21.out; clear hb21)
    | (go_at_call 19; refine (HGR.out _ HB1.out).mono ?_; rintro e w2 ⟨rfl, hb2⟩; have HB2 : Hid (Below W.heap.size W w2) := HB1.out.trans (hb2.mono HB1.out.size); clear c0 c1 f0 f1 l0; obtain ⟨c0, c1, f0, f1, l0⟩ := HOB.out.below HB2.out; clear hb2)
    | (go_at_call 15; refine (alive_any _).mono ?_; rintro e w1 ⟨rfl, hb1⟩; have HB1 : Hid (Below W.heap.size W w1) := hb1; clear c0 c1 f0 f1 l0; obtain ⟨c0, c1, f0, f1, l0⟩ := HOB.out.below HB1.out; clear hb1))
  go_ret
  exact ⟨rfl, HBW.out.trans (HB21.out.mono HBW.out.size)⟩
set_option maxHeartbeats 4000000 in
theorem hits_no2 (w : World) (aT : Option Addr) (cT : Nat) (aK : Option Addr) (cK : Nat) (T K : List ByteArray) (hTl : Tl w aT T cT) (hKl : Tl w aK K cK) (one : ByteArray) (hone : one.size ≤ maxLen) (other : ByteArray) (hother : other.size ≤ maxLen) (hg : great T K = false) (h1 : one.size ≤ 1000) (h2 : other.size ≤ 1000) (he : one ≠ other) (hc1 : cnt T K one = 1) (hc : cnt T K other ≠ 1) :
    Calls Try.prog 8 #[.agg #[.slice aT T.length cT, .slice aK K.length cK], .string one, .string other] w fun e w' => e = .returned (.bool true) ∧ Below w.heap.size w w' := by
  unfold maxLen at hone hother
  obtain ⟨W, hW⟩ : ∃ W, W = w.alloc (Obj.cells #[.slice aT T.length cT, .slice aK K.length cK] 24) := ⟨_, rfl⟩
  have HBW : Hid (Below w.heap.size w W) := by rw [hW]; exact (Below.refl _ _).alloc (Nat.le_refl _) _
  have HOB : Hid (OB W w.heap.size (.slice aT T.length cT) (.slice aK K.length cK)) := by rw [hW]; exact OB.made _ _ _
  have HT := Hid.mk2 (fun V (hb : Below W.heap.size W V) => (hTl.below HBW.out).below hb)
  have HK := Hid.mk2 (fun V (hb : Below W.heap.size W V) => (hKl.below HBW.out).below hb)
  have HGR := Hid.mk2 (fun V (hb : Below W.heap.size W V) => great_is T K aT aK cT cK V (HT.out V hb) (HK.out V hb))
  obtain ⟨hT3, hK3⟩ := great_len hg
  rw [hg] at HGR
  have g1 : decide ((1000 : Int) < (one.size : Int)) = false := by simp; omega
  have g2 : decide ((1000 : Int) < (other.size : Int)) = false := by simp; omega
  have e1 := ba_ne he
  have HH1 := Hid.mk2 (fun V (hb : Below W.heap.size W V) => has_any T K aT aK cT cK one V (HT.out V hb) (HK.out V hb) (by omega) (by omega))
  have HH2 := Hid.mk2 (fun V (hb : Below W.heap.size W V) => has_any T K aT aK cT cK other V (HT.out V hb) (HK.out V hb) (by omega) (by omega))
  rw [hc1] at HH1
  obtain ⟨n, hn⟩ : ∃ n : Nat, n = cnt T K other := ⟨_, rfl⟩
  rw [← hn] at HH2 hc
  have n1 : ((n : Int) != 1) = true := by simp; omega
  have n2 : ((n : Int) == 1) = false := by simp; omega
  clear hTl hKl hg h1 h2 he hn hc hc1
  go_enter Try.func8, Try.ntmps8
  go_upto_region 1 with (fail)
  rw [← hW]
  clear hW
  obtain ⟨c0, c1, f0, f1, l0⟩ := HOB.out
  go_wp2_with (first
    | (go_at_call 28; refine (HH2.out _ HB21.out).mono ?_; rintro e w22 ⟨rfl, hw22⟩; have hb22 : Below w21.heap.size w21 w22 := (by rw [hw22]; exact (Below.refl _ _).alloc (Nat.le_refl _) _); clear hw22; have HB22 : Hid (Below W.heap.size W w22) := HB21.out.trans (hb22.mono HB21.out.size); clear c0 c1 f0 f1 l0; obtain ⟨c0, c1, f0, f1, l0⟩ := HOB.out.below HB22.out; clear hb22)
    | (go_at_call 28; refine (HH1.out _ HB2.out).mono ?_; rintro e w21 ⟨rfl, hw21⟩; have hb21 : Below w2.heap.size w2 w21 := (by rw [hw21]; exact (Below.refl _ _).alloc (Nat.le_refl _) _); clear hw21; have HB21 : Hid (Below W.heap.size W w21) := HB2.out.trans (hb21.mono HB2.out.size); clear c0 c1 f0 f1 l0; obtain ⟨c0, c1, f0, f1, l0⟩ := HOB.out.below HB21.out; clear hb21)
    | (go_at_call 19; refine (HGR.out _ HB1.out).mono ?_; rintro e w2 ⟨rfl, hb2⟩; have HB2 : Hid (Below W.heap.size W w2) := HB1.out.trans (hb2.mono HB1.out.size); clear c0 c1 f0 f1 l0; obtain ⟨c0, c1, f0, f1, l0⟩ := HOB.out.below HB2.out; clear hb2)
    | (go_at_call 15; refine (alive_any _).mono ?_; rintro e w1 ⟨rfl, hb1⟩; have HB1 : Hid (Below W.heap.size W w1) := hb1; clear c0 c1 f0 f1 l0; obtain ⟨c0, c1, f0, f1, l0⟩ := HOB.out.below HB1.out; clear hb1))
  go_ret
  exact ⟨rfl, HBW.out.trans (HB22.out.mono HBW.out.size)⟩
set_option maxHeartbeats 4000000 in
theorem hits_bad (w : World) (aT : Option Addr) (cT : Nat) (aK : Option Addr) (cK : Nat) (T K : List ByteArray) (hTl : Tl w aT T cT) (hKl : Tl w aK K cK) (one : ByteArray) (hone : one.size ≤ maxLen) (other : ByteArray) (hother : other.size ≤ maxLen) (hg : great T K = false) (h1 : one.size ≤ 1000) (h2 : other.size ≤ 1000) (he : one ≠ other) (hc1 : cnt T K one = 1) (hc : cnt T K other = 1) (hok : ¬ Ok T K) :
    Calls Try.prog 8 #[.agg #[.slice aT T.length cT, .slice aK K.length cK], .string one, .string other] w fun e w' => e = .returned (.bool true) ∧ Below w.heap.size w w' := by
  unfold maxLen at hone hother
  obtain ⟨W, hW⟩ : ∃ W, W = w.alloc (Obj.cells #[.slice aT T.length cT, .slice aK K.length cK] 24) := ⟨_, rfl⟩
  have HBW : Hid (Below w.heap.size w W) := by rw [hW]; exact (Below.refl _ _).alloc (Nat.le_refl _) _
  have HOB : Hid (OB W w.heap.size (.slice aT T.length cT) (.slice aK K.length cK)) := by rw [hW]; exact OB.made _ _ _
  have HT := Hid.mk2 (fun V (hb : Below W.heap.size W V) => (hTl.below HBW.out).below hb)
  have HK := Hid.mk2 (fun V (hb : Below W.heap.size W V) => (hKl.below HBW.out).below hb)
  have HGR := Hid.mk2 (fun V (hb : Below W.heap.size W V) => great_is T K aT aK cT cK V (HT.out V hb) (HK.out V hb))
  obtain ⟨hT3, hK3⟩ := great_len hg
  rw [hg] at HGR
  have g1 : decide ((1000 : Int) < (one.size : Int)) = false := by simp; omega
  have g2 : decide ((1000 : Int) < (other.size : Int)) = false := by simp; omega
  have e1 := ba_ne he
  have HH1 := Hid.mk2 (fun V (hb : Below W.heap.size W V) => has_any T K aT aK cT cK one V (HT.out V hb) (HK.out V hb) (by omega) (by omega))
  have HH2 := Hid.mk2 (fun V (hb : Below W.heap.size W V) => has_any T K aT aK cT cK other V (HT.out V hb) (HK.out V hb) (by omega) (by omega))
  have HCH := Hid.mk2 (fun V (hb : Below W.heap.size W V) => check_any T K aT aK cT cK V (HT.out V hb) (HK.out V hb) hT3 hK3)
  rw [hc1] at HH1
  rw [hc] at HH2
  rw [chk_bad hok] at HCH
  clear hTl hKl hg h1 h2 he hc hc1 hok
  go_enter Try.func8, Try.ntmps8
  go_upto_region 1 with (fail)
  rw [← hW]
  clear hW
  obtain ⟨c0, c1, f0, f1, l0⟩ := HOB.out
  go_wp2_with (first
    | (go_at_call 18; refine (HCH.out _ HB22.out).mono ?_; rintro e w3 ⟨rfl, hb3⟩; have HB3 : Hid (Below W.heap.size W w3) := HB22.out.trans (hb3.mono HB22.out.size); clear c0 c1 f0 f1 l0; obtain ⟨c0, c1, f0, f1, l0⟩ := HOB.out.below HB3.out; clear hb3)
    | (go_at_call 28; refine (HH2.out _ HB21.out).mono ?_; rintro e w22 ⟨rfl, hw22⟩; have hb22 : Below w21.heap.size w21 w22 := (by rw [hw22]; exact (Below.refl _ _).alloc (Nat.le_refl _) _); clear hw22; have HB22 : Hid (Below W.heap.size W w22) := HB21.out.trans (hb22.mono HB21.out.size); clear c0 c1 f0 f1 l0; obtain ⟨c0, c1, f0, f1, l0⟩ := HOB.out.below HB22.out; clear hb22)
    | (go_at_call 28; refine (HH1.out _ HB2.out).mono ?_; rintro e w21 ⟨rfl, hw21⟩; have hb21 : Below w2.heap.size w2 w21 := (by rw [hw21]; exact (Below.refl _ _).alloc (Nat.le_refl _) _); clear hw21; have HB21 : Hid (Below W.heap.size W w21) := HB2.out.trans (hb21.mono HB2.out.size); clear c0 c1 f0 f1 l0; obtain ⟨c0, c1, f0, f1, l0⟩ := HOB.out.below HB21.out; clear hb21)
    | (go_at_call 19; refine (HGR.out _ HB1.out).mono ?_; rintro e w2 ⟨rfl, hb2⟩; have HB2 : Hid (Below W.heap.size W w2) := HB1.out.trans (hb2.mono HB1.out.size); clear c0 c1 f0 f1 l0; obtain ⟨c0, c1, f0, f1, l0⟩ := HOB.out.below HB2.out; clear hb2)
    | (go_at_call 15; refine (alive_any _).mono ?_; rintro e w1 ⟨rfl, hb1⟩; have HB1 : Hid (Below W.heap.size W w1) := hb1; clear c0 c1 f0 f1 l0; obtain ⟨c0, c1, f0, f1, l0⟩ := HOB.out.below HB1.out; clear hb1))
  go_ret
  exact ⟨rfl, HBW.out.trans (HB3.out.mono HBW.out.size)⟩
set_option maxHeartbeats 4000000 in
theorem hits_ok (w : World) (aT : Option Addr) (cT : Nat) (aK : Option Addr) (cK : Nat) (T K : List ByteArray) (hTl : Tl w aT T cT) (hKl : Tl w aK K cK) (one : ByteArray) (hone : one.size ≤ maxLen) (other : ByteArray) (hother : other.size ≤ maxLen) (hg : great T K = false) (h1 : one.size ≤ 1000) (h2 : other.size ≤ 1000) (he : one ≠ other) (hc1 : cnt T K one = 1) (hc : cnt T K other = 1) (hok : Ok T K) :
    Calls Try.prog 8 #[.agg #[.slice aT T.length cT, .slice aK K.length cK], .string one, .string other] w fun e w' => e = .returned (.bool true) ∧ Below w.heap.size w w' := by
  unfold maxLen at hone hother
  obtain ⟨W, hW⟩ : ∃ W, W = w.alloc (Obj.cells #[.slice aT T.length cT, .slice aK K.length cK] 24) := ⟨_, rfl⟩
  have HBW : Hid (Below w.heap.size w W) := by rw [hW]; exact (Below.refl _ _).alloc (Nat.le_refl _) _
  have HOB : Hid (OB W w.heap.size (.slice aT T.length cT) (.slice aK K.length cK)) := by rw [hW]; exact OB.made _ _ _
  have HT := Hid.mk2 (fun V (hb : Below W.heap.size W V) => (hTl.below HBW.out).below hb)
  have HK := Hid.mk2 (fun V (hb : Below W.heap.size W V) => (hKl.below HBW.out).below hb)
  have HGR := Hid.mk2 (fun V (hb : Below W.heap.size W V) => great_is T K aT aK cT cK V (HT.out V hb) (HK.out V hb))
  obtain ⟨hT3, hK3⟩ := great_len hg
  rw [hg] at HGR
  have g1 : decide ((1000 : Int) < (one.size : Int)) = false := by simp; omega
  have g2 : decide ((1000 : Int) < (other.size : Int)) = false := by simp; omega
  have e1 := ba_ne he
  have HH1 := Hid.mk2 (fun V (hb : Below W.heap.size W V) => has_any T K aT aK cT cK one V (HT.out V hb) (HK.out V hb) (by omega) (by omega))
  have HH2 := Hid.mk2 (fun V (hb : Below W.heap.size W V) => has_any T K aT aK cT cK other V (HT.out V hb) (HK.out V hb) (by omega) (by omega))
  have HCH := Hid.mk2 (fun V (hb : Below W.heap.size W V) => check_any T K aT aK cT cK V (HT.out V hb) (HK.out V hb) hT3 hK3)
  rw [hc1] at HH1
  rw [hc] at HH2
  rw [chk_ok hok] at HCH
  have hin : one ∈ K ++ T := List.count_pos_iff.1 (by unfold cnt at hc1; omega)
  have hin2 : other ∈ K ++ T := List.count_pos_iff.1 (by unfold cnt at hc; omega)
  have hmn := hok.many
  have hE := htE_in hok hin
  have HHI := Hid.mk2 (fun V (hb : Below W.heap.size W V) => hit_ok T K aT aK cT cK one V (HT.out V hb) (HK.out V hb) (by omega) (by omega) hE)
  have hokX := ht_ok hok hin
  have hmX := hokX.many
  have HAL := Hid.mk2 (fun V (a : Option Addr) c (b : Option Addr) d (h1 : Tl V a (htT T K one) c) (h2 : Tl V b (htK T K one) d) => all_ok (htT T K one) (htK T K one) a b c d V h1 h2 (by omega) (by omega) hokX)
  rw [hits_all hok hin] at HAL
  have hts := hts_rev hok.nodup hin2 he
  have hko : kOk other = true := hok.keys other hin2
  have hos : 1 ≤ other.size := by simp [kOk] at hko; omega
  obtain ⟨M, hM⟩ : ∃ M, M = ((K ++ T).erase one).reverse ++ [one] := ⟨_, rfl⟩
  rw [← hM] at HAL hts
  have HTS := Hid.mk2 hts
  have hML : M.length ≤ 300 := by
    rw [hM, List.length_append, List.length_reverse, List.length_erase_of_mem hin, List.length_append]
    simp
    omega
  obtain ⟨X, hX⟩ : ∃ X, X = htT T K one := ⟨_, rfl⟩
  obtain ⟨Y, hY⟩ : ∃ Y, Y = htK T K one := ⟨_, rfl⟩
  rw [← hX, ← hY] at HHI HAL
  have HNE := Hid.mk2 he
  have oe : (other.toList == (⟨#[]⟩ : ByteArray).toList) = false := ba_ne (fun e => by rw [e] at hos; simp [ByteArray.size] at hos)
  have oe2 : (other.toList == []) = false := by
    have := oe
    rwa [show (⟨#[]⟩ : ByteArray).toList = [] from ba_nil] at this
  have oo : (other.toList == other.toList) = true := by simp
  clear hTl hKl hg h1 h2 he hc hc1 hok hin hin2 hmn hE hokX hmX hM hX hY hko hos hts hT3 hK3
  go_enter Try.func8, Try.ntmps8
  go_upto_region 1 with (fail)
  rw [← hW]
  clear hW
  obtain ⟨c0, c1, f0, f1, l0⟩ := HOB.out
  go_wp2_with (first
    | (go_at_call 11; refine (HAL.out _ _ _ _ _ HR5.out.tlT HR5.out.tlK).mono ?_; rintro e w6 ⟨am, cm, rfl, hO6, hb6⟩; have HB6 : Hid (Below W.heap.size W w6) := HB5.out.trans (hb6.mono HB5.out.size); have HM : Hid (Tl w6 am M cm) := (by obtain ⟨ax, cx, e, hh⟩ := hO6.tl; cases e; exact hh); clear hO6 hb6)
    | (go_at_call 12; refine (HHI.out _ HB3.out).mono ?_; rintro e w5 ⟨aX, cX, aY, cY, rfl, hR5, hb5⟩; have HB5 : Hid (Below W.heap.size W (w5.alloc (Obj.cells #[.slice aX X.length cX, .slice aY Y.length cY] 24))) := (HB3.out.trans (hb5.mono HB3.out.size)).alloc (Nat.le_trans HB3.out.size hb5.size) _; clear c0 c1 f0 f1 l0; obtain ⟨c0, c1, f0, f1, l0⟩ := HOB.out.below HB5.out; have HR5 := Hid.mk2 (hR5.below ((Below.refl _ _).alloc (Nat.le_refl _) (Obj.cells #[.slice aX X.length cX, .slice aY Y.length cY] 24))); have HOX := Hid.mk2 (OB.made w5 (.slice aX X.length cX) (.slice aY Y.length cY)); obtain ⟨x0, x1, y0, y1, xl⟩ := HOX.out; clear hb5 hR5)
    | (go_at_call 18; refine (HCH.out _ HB22.out).mono ?_; rintro e w3 ⟨rfl, hb3⟩; have HB3 : Hid (Below W.heap.size W w3) := HB22.out.trans (hb3.mono HB22.out.size); clear c0 c1 f0 f1 l0; obtain ⟨c0, c1, f0, f1, l0⟩ := HOB.out.below HB3.out; clear hb3)
    | (go_at_call 28; refine (HH2.out _ HB21.out).mono ?_; rintro e w22 ⟨rfl, hw22⟩; have hb22 : Below w21.heap.size w21 w22 := (by rw [hw22]; exact (Below.refl _ _).alloc (Nat.le_refl _) _); clear hw22; have HB22 : Hid (Below W.heap.size W w22) := HB21.out.trans (hb22.mono HB21.out.size); clear c0 c1 f0 f1 l0; obtain ⟨c0, c1, f0, f1, l0⟩ := HOB.out.below HB22.out; clear hb22)
    | (go_at_call 28; refine (HH1.out _ HB2.out).mono ?_; rintro e w21 ⟨rfl, hw21⟩; have hb21 : Below w2.heap.size w2 w21 := (by rw [hw21]; exact (Below.refl _ _).alloc (Nat.le_refl _) _); clear hw21; have HB21 : Hid (Below W.heap.size W w21) := HB2.out.trans (hb21.mono HB2.out.size); clear c0 c1 f0 f1 l0; obtain ⟨c0, c1, f0, f1, l0⟩ := HOB.out.below HB21.out; clear hb21)
    | (go_at_call 19; refine (HGR.out _ HB1.out).mono ?_; rintro e w2 ⟨rfl, hb2⟩; have HB2 : Hid (Below W.heap.size W w2) := HB1.out.trans (hb2.mono HB1.out.size); clear c0 c1 f0 f1 l0; obtain ⟨c0, c1, f0, f1, l0⟩ := HOB.out.below HB2.out; clear hb2)
    | (go_at_call 15; refine (alive_any _).mono ?_; rintro e w1 ⟨rfl, hb1⟩; have HB1 : Hid (Below W.heap.size W w1) := hb1; clear c0 c1 f0 f1 l0; obtain ⟨c0, c1, f0, f1, l0⟩ := HOB.out.below HB1.out; clear hb1))
  go_loop [12, 13] (fun s i => ∃ (k : Nat) (f : ByteArray), k ≤ M.length ∧ i = .int .i64 k ∧ s = .string f ∧ ((f = ⟨#[]⟩ ∧ Hid (∀ j (hj : j < M.length), j < k → M[j] ≠ one ∧ M[j] ≠ other)) ∨ f = other)) (fun _ i => M.length - (intOf i).toNat)
  case atStart => exact ⟨0, ⟨#[]⟩, Nat.zero_le _, rfl, rfl, .inl ⟨rfl, fun j hj h => by omega⟩⟩
  case round =>
    obtain ⟨k, f, hk, rfl, rfl, hf⟩ := hrel
    have hkb : (k : Int) ≤ 300 := by omega
    rcases hf with ⟨rfl, HA⟩ | rfl
    · by_cases hlt : k < M.length
      · have hlt2 : (k : Int) < (M.length : Int) := by omega
        have hlt3 : decide ((k : Int) < (M.length : Int)) = true := by simp; omega
        obtain ⟨b, off, rfl, hb, hc⟩ := at_of HM.out hlt
        have hno : M[k] ≠ one := fun e => by
          obtain ⟨j, hj, hjk, ej⟩ := HTS.out.at_ k hlt e
          exact (HA.out j hj hjk).2 ej
        obtain ⟨s, hs⟩ : ∃ s, s = M[k] := ⟨_, rfl⟩
        rw [← hs] at hc hno
        have HS := Hid.mk2 hs
        clear hs
        have s1 := ba_ne hno
        by_cases e : s = other
        · have s2 := ba_eq e
          have HE := Hid.mk2 e
          clear e hno
          go_wp2
          go_round
          case rel => exact ⟨k + 1, s, by omega, by go_num, rfl, .inr HE.out⟩
          case measure => simp [intOf]; omega
        · have s2 := ba_ne e
          have HE := Hid.mk2 e
          have HNO := Hid.mk2 hno
          clear e hno
          go_wp2
          go_round
          case rel => exact ⟨k + 1, ⟨#[]⟩, by omega, by go_num, rfl, .inl ⟨rfl, fun j hj hjk => by
            by_cases ej : j = k
            · subst ej; rw [← HS.out]; exact ⟨HNO.out, HE.out⟩
            · exact HA.out j hj (by omega)⟩⟩
          case measure => simp [intOf]; omega
      · exfalso
        obtain ⟨j, hj, ej⟩ := HTS.out.mem
        exact (HA.out j hj (by omega)).2 ej
    · by_cases hlt : k < M.length
      · have hlt2 : (k : Int) < (M.length : Int) := by omega
        have hlt3 : decide ((k : Int) < (M.length : Int)) = true := by simp; omega
        go_wp2
        go_ret
        exact ⟨rfl, HBW.out.trans (HB6.out.mono HBW.out.size)⟩
      · have hlt2 : ¬ (k : Int) < (M.length : Int) := by omega
        have hlt3 : decide ((k : Int) < (M.length : Int)) = false := by simp; omega
        go_wp2
        go_ret
        exact ⟨rfl, HBW.out.trans (HB6.out.mono HBW.out.size)⟩
theorem lruHits_walk (w : World) (aT : Option Addr) (cT : Nat) (aK : Option Addr) (cK : Nat) (T K : List ByteArray) (hTl : Tl w aT T cT) (hKl : Tl w aK K cK) (one : ByteArray) (hone : one.size ≤ maxLen) (other : ByteArray) (hother : other.size ≤ maxLen) :
    Calls Try.prog 8 #[.agg #[.slice aT T.length cT, .slice aK K.length cK], .string one, .string other] w fun e w' => e = .returned (.bool true) ∧ Below w.heap.size w w' := by
  cases hg : great T K with
  | true => exact hits_great w aT cT aK cK T K hTl hKl one hone other hother hg
  | false =>
    by_cases h1 : 1000 < one.size
    · exact hits_long1 w aT cT aK cK T K hTl hKl one hone other hother hg h1
    by_cases h2 : 1000 < other.size
    · exact hits_long2 w aT cT aK cK T K hTl hKl one hone other hother hg (by omega) h2
    by_cases he : one = other
    · exact hits_same w aT cT aK cK T K hTl hKl one hone other hother hg (by omega) (by omega) he
    by_cases hc1 : cnt T K one = 1
    · by_cases hc : cnt T K other = 1
      · by_cases hok : Ok T K
        · exact hits_ok w aT cT aK cK T K hTl hKl one hone other hother hg (by omega) (by omega) he hc1 hc hok
        · exact hits_bad w aT cT aK cK T K hTl hKl one hone other hother hg (by omega) (by omega) he hc1 hc hok
      · exact hits_no2 w aT cT aK cK T K hTl hKl one hone other hother hg (by omega) (by omega) he hc1 hc
    · exact hits_no1 w aT cT aK cK T K hTl hKl one hone other hother hg (by omega) (by omega) he hc1

set_option maxRecDepth 100000 in
theorem lruHits_lifted (os : Os) (started : os.Started) (H : Type) (enc : TypeId × Value → H) :
    ReturnsInHanded {} Try.checked os 8 .any (Rows.lruHitsSpec.pre6 enc Try.prog Try.f8 Rows.lruHitsRow.domain false) (Rows.lruHitsSpec.post enc Try.prog Try.f8 false true false false) := by
  refine returnsInHanded_of_change (C := Try.checked) (by kernel_rfl) started (by kernel_rfl) Try.func8
    (ChangeSpec.witness6 (enc := enc) (C := Try.checked) false ⟨#[], #[.agg #[.slice none 0 0, .slice none 0 0], .string ByteArray.empty, .string ByteArray.empty], []⟩ 8 (by kernel_rfl) (by kernel_rfl) (by kernel_rfl) (by kernel_rfl)) ?_
  intro W base args ds gs before hval0 hW hcnd _
  have hval : ∀ (j : Nat) t v, Try.f8.params[j]? = some t → args[j]? = some v → Value.okWide Try.prog W .any base t v := hval0
  have hW' := hW
  obtain ⟨p, q, hA0, hV, rfl, hfz, hnd⟩ := hW
  have hA : DataW.TrodAll enc Try.prog W 0 (fun _ => true) true Try.f8.params.toList args.toList ds p := hA0
  rw [Try.params8] at hA hval
  obtain ⟨v0, vs0, d0, ds0, p0, q0, hargs, rfl, rfl, h0, r0⟩ := trodAll_cons hA
  obtain ⟨v1, vs1, d1, ds1, p1, q1, rfl, rfl, rfl, h1, r1⟩ := trodAll_cons r0
  obtain ⟨v2, vs2, d2, ds2, p2, q2, rfl, rfl, rfl, h2, r2⟩ := trodAll_cons r1
  obtain ⟨rfl, rfl, rfl⟩ := trodAll_nil r2
  obtain rfl : args = #[v0, v1, v2] := by cases args; simp_all
  obtain ⟨rfl, rfl⟩ := trodVars_none hV
  have k0 := h0
  have lt0 : ∀ x ∈ p0, x.block < W.heap.size := by obtain ⟨m, hm⟩ := k0; exact DataW.trod_lt m _ _ _ hm
  obtain ⟨aT0, cT0, aK0, cK0, T0, K0, rfl, hT0, hK0⟩ := inOrder_of (fun _ => rfl) (hval 0 24 v0 rfl rfl) h0
  obtain ⟨a1, rfl, rfl, rfl, w1⟩ := open_string Try.underlying9 (hval 1 9 v1 rfl rfl) h1
  obtain ⟨a2, rfl, rfl, rfl, w2⟩ := open_string Try.underlying9 (hval 2 9 v2 rfl rfl) h2
  clear hA0 hval0
  refine (lruHits_walk W aT0 cT0 aK0 cK0 T0 K0 hT0 hK0 a1 w1 a2 w2).mono fun e W' ⟨he, bel⟩ => ?_
  subst he
  exact ⟨_, rfl, _, _, _, [], _, [], hW', trodAll_mk1 (shut_bool Try.underlying4 _), (trodAll_cons_mk (Below.trod laidOut_all (by kernel_rfl) (of_decide_eq_true (by kernel_rfl)) k0 bel lt0) (trodAll_cons_mk (shut_string Try.underlying9 w1) (trodAll_cons_mk (shut_string Try.underlying9 w2) trodAll_mk0))), rfl, bel.frame _, fun h => by cases h⟩

theorem lruHits_proved : Rows.LruHitsSaid :=
  OpenClaim.holds_of_wide 8 Try.f8 rfl rfl rfl rfl rfl rfl rfl ⟨rfl, rfl, rfl, rfl, rfl⟩ rfl rfl rfl rfl rfl (by kernel_rfl) Try.func8 (by kernel_rfl)
    (of_decide_eq_true (by kernel_rfl)) (by unfold Func.isWrapper; first | (rw [if_pos (by decide +kernel)]; kernel_rfl) | (rw [if_neg (by decide +kernel)]; exact ⟨rfl, rfl⟩))
    (fun os started H enc _ => lruHits_lifted os started H enc)
#print axioms lruHits_proved
end Go.Proofs.Ytmdlampmoeiihaa
