/-
  LruKeeps: for every order and key (whatever their sizes: those that are great are passed over): what Add, Hit and Del answer may be, no key is lost but the one that is taken out, a key that was hit is not the victim if there is another one.
-/
import Derived.Test.YtmdlampmoeiihaaLrKept
import Derived.Test.YtmdlampmoeiihaaLrAlive
import Derived.Test.YtmdlampmoeiihaaLrGreat
import Derived.Test.YtmdlampmoeiihaaLrPure2
import Derived.Test.YtmdlampmoeiihaaLrIn
namespace Go.Proofs.Ytmdlampmoeiihaa
open Go.ChangeShapes Go.WideShapes Go.ChangeAt Go.RowKit Go.Shelf Go.Lib Go.Sort
open Go.ChangeMaps (open_string shut_string)
set_option linter.unusedSimpArgs false
set_option linter.unusedVariables false
set_option maxRecDepth 100000

/-- a row's first key -/
structure HdK (Y : List ByteArray) (k : ByteArray) : Prop where
  l : 0 < Y.length
  e : Y[0] = k
set_option maxHeartbeats 4000000 in
theorem keeps_great (w : World) (aT : Option Addr) (cT : Nat) (aK : Option Addr) (cK : Nat) (T K : List ByteArray) (hTl : Tl w aT T cT) (hKl : Tl w aK K cK) (key : ByteArray) (hkey : key.size ≤ maxLen) (hg : great T K = true) :
    Calls Try.prog 5 #[.agg #[.slice aT T.length cT, .slice aK K.length cK], .string key] w fun e w' => e = .returned (.bool true) ∧ Below w.heap.size w w' := by
  unfold maxLen at hkey
  obtain ⟨W, hW⟩ : ∃ W, W = w.alloc (Obj.cells #[.slice aT T.length cT, .slice aK K.length cK] 24) := ⟨_, rfl⟩
  have HBW : Hid (Below w.heap.size w W) := by rw [hW]; exact (Below.refl _ _).alloc (Nat.le_refl _) _
  have HOB : Hid (OB W w.heap.size (.slice aT T.length cT) (.slice aK K.length cK)) := by rw [hW]; exact OB.made _ _ _
  have HT := Hid.mk2 (fun V (hb : Below W.heap.size W V) => (hTl.below HBW.out).below hb)
  have HK := Hid.mk2 (fun V (hb : Below W.heap.size W V) => (hKl.below HBW.out).below hb)
  have HGR := Hid.mk2 (fun V (hb : Below W.heap.size W V) => great_is T K aT aK cT cK V (HT.out V hb) (HK.out V hb))
  rw [hg] at HGR
  clear hTl hKl hg
  go_enter Try.func5, Try.ntmps5
  go_upto_region 1 with (fail)
  rw [← hW]
  clear hW
  obtain ⟨c0, c1, f0, f1, l0⟩ := HOB.out
  go_wp2_with (first
    | (go_at_call 15; refine (alive_any _).mono ?_; rintro e w1 ⟨rfl, hb1⟩; have HB1 : Hid (Below W.heap.size W w1) := hb1; clear c0 c1 f0 f1 l0; obtain ⟨c0, c1, f0, f1, l0⟩ := HOB.out.below HB1.out; clear hb1)
    | (go_at_call 19; refine (HGR.out _ HB1.out).mono ?_; rintro e w2 ⟨rfl, hb2⟩; have HB2 : Hid (Below W.heap.size W w2) := HB1.out.trans (hb2.mono HB1.out.size); clear c0 c1 f0 f1 l0; obtain ⟨c0, c1, f0, f1, l0⟩ := HOB.out.below HB2.out; clear hb2))
  go_ret
  exact ⟨rfl, HBW.out.trans (HB2.out.mono HBW.out.size)⟩
set_option maxHeartbeats 4000000 in
theorem keeps_long (w : World) (aT : Option Addr) (cT : Nat) (aK : Option Addr) (cK : Nat) (T K : List ByteArray) (hTl : Tl w aT T cT) (hKl : Tl w aK K cK) (key : ByteArray) (hkey : key.size ≤ maxLen) (hg : great T K = false) (hl : 10000 < key.size) :
    Calls Try.prog 5 #[.agg #[.slice aT T.length cT, .slice aK K.length cK], .string key] w fun e w' => e = .returned (.bool true) ∧ Below w.heap.size w w' := by
  unfold maxLen at hkey
  obtain ⟨W, hW⟩ : ∃ W, W = w.alloc (Obj.cells #[.slice aT T.length cT, .slice aK K.length cK] 24) := ⟨_, rfl⟩
  have HBW : Hid (Below w.heap.size w W) := by rw [hW]; exact (Below.refl _ _).alloc (Nat.le_refl _) _
  have HOB : Hid (OB W w.heap.size (.slice aT T.length cT) (.slice aK K.length cK)) := by rw [hW]; exact OB.made _ _ _
  have HT := Hid.mk2 (fun V (hb : Below W.heap.size W V) => (hTl.below HBW.out).below hb)
  have HK := Hid.mk2 (fun V (hb : Below W.heap.size W V) => (hKl.below HBW.out).below hb)
  have HGR := Hid.mk2 (fun V (hb : Below W.heap.size W V) => great_is T K aT aK cT cK V (HT.out V hb) (HK.out V hb))
  rw [hg] at HGR
  have hl2 : (10000 : Int) < (key.size : Int) := by omega
  clear hTl hKl hg hl
  go_enter Try.func5, Try.ntmps5
  go_upto_region 1 with (fail)
  rw [← hW]
  clear hW
  obtain ⟨c0, c1, f0, f1, l0⟩ := HOB.out
  go_wp2_with (first
    | (go_at_call 15; refine (alive_any _).mono ?_; rintro e w1 ⟨rfl, hb1⟩; have HB1 : Hid (Below W.heap.size W w1) := hb1; clear c0 c1 f0 f1 l0; obtain ⟨c0, c1, f0, f1, l0⟩ := HOB.out.below HB1.out; clear hb1)
    | (go_at_call 19; refine (HGR.out _ HB1.out).mono ?_; rintro e w2 ⟨rfl, hb2⟩; have HB2 : Hid (Below W.heap.size W w2) := HB1.out.trans (hb2.mono HB1.out.size); clear c0 c1 f0 f1 l0; obtain ⟨c0, c1, f0, f1, l0⟩ := HOB.out.below HB2.out; clear hb2))
  go_ret
  exact ⟨rfl, HBW.out.trans (HB2.out.mono HBW.out.size)⟩
set_option maxHeartbeats 4000000 in
theorem keeps_bad (w : World) (aT : Option Addr) (cT : Nat) (aK : Option Addr) (cK : Nat) (T K : List ByteArray) (hTl : Tl w aT T cT) (hKl : Tl w aK K cK) (key : ByteArray) (hkey : key.size ≤ maxLen) (hg : great T K = false) (hl : key.size ≤ 10000) (hok : ¬ Ok T K) :
    Calls Try.prog 5 #[.agg #[.slice aT T.length cT, .slice aK K.length cK], .string key] w fun e w' => e = .returned (.bool true) ∧ Below w.heap.size w w' := by
  unfold maxLen at hkey
  obtain ⟨W, hW⟩ : ∃ W, W = w.alloc (Obj.cells #[.slice aT T.length cT, .slice aK K.length cK] 24) := ⟨_, rfl⟩
  have HBW : Hid (Below w.heap.size w W) := by rw [hW]; exact (Below.refl _ _).alloc (Nat.le_refl _) _
  have HOB : Hid (OB W w.heap.size (.slice aT T.length cT) (.slice aK K.length cK)) := by rw [hW]; exact OB.made _ _ _
  have HT := Hid.mk2 (fun V (hb : Below W.heap.size W V) => (hTl.below HBW.out).below hb)
  have HK := Hid.mk2 (fun V (hb : Below W.heap.size W V) => (hKl.below HBW.out).below hb)
  have HGR := Hid.mk2 (fun V (hb : Below W.heap.size W V) => great_is T K aT aK cT cK V (HT.out V hb) (HK.out V hb))
  obtain ⟨hT3, hK3⟩ := great_len hg
  have HCH := Hid.mk2 (fun V (hb : Below W.heap.size W V) => check_any T K aT aK cT cK V (HT.out V hb) (HK.out V hb) hT3 hK3)
  rw [hg] at HGR
  have hl2 : ¬ (10000 : Int) < (key.size : Int) := by omega
  rw [chk_bad hok] at HCH
  clear hTl hKl hg hl hok
  go_enter Try.func5, Try.ntmps5
  go_upto_region 1 with (fail)
  rw [← hW]
  clear hW
  obtain ⟨c0, c1, f0, f1, l0⟩ := HOB.out
  go_wp2_with (first
    | (go_at_call 15; refine (alive_any _).mono ?_; rintro e w1 ⟨rfl, hb1⟩; have HB1 : Hid (Below W.heap.size W w1) := hb1; clear c0 c1 f0 f1 l0; obtain ⟨c0, c1, f0, f1, l0⟩ := HOB.out.below HB1.out; clear hb1)
    | (go_at_call 19; refine (HGR.out _ HB1.out).mono ?_; rintro e w2 ⟨rfl, hb2⟩; have HB2 : Hid (Below W.heap.size W w2) := HB1.out.trans (hb2.mono HB1.out.size); clear c0 c1 f0 f1 l0; obtain ⟨c0, c1, f0, f1, l0⟩ := HOB.out.below HB2.out; clear hb2)
    | (go_at_call 18; refine (HCH.out _ HB2.out).mono ?_; rintro e w3 ⟨rfl, hb3⟩; have HB3 : Hid (Below W.heap.size W w3) := HB2.out.trans (hb3.mono HB2.out.size); clear c0 c1 f0 f1 l0; obtain ⟨c0, c1, f0, f1, l0⟩ := HOB.out.below HB3.out; clear hb3))
  go_ret
  exact ⟨rfl, HBW.out.trans (HB3.out.mono HBW.out.size)⟩
set_option maxHeartbeats 4000000 in
theorem keeps_no2 (w : World) (aT : Option Addr) (cT : Nat) (aK : Option Addr) (cK : Nat) (T K : List ByteArray) (hTl : Tl w aT T cT) (hKl : Tl w aK K cK) (key : ByteArray) (hkey : key.size ≤ maxLen) (hg : great T K = false) (hl : key.size ≤ 10000) (hok : Ok T K) (hE : htE T K key ≠ 0) (hA : adE T K key ≠ 0) :
    Calls Try.prog 5 #[.agg #[.slice aT T.length cT, .slice aK K.length cK], .string key] w fun e w' => e = .returned (.bool true) ∧ Below w.heap.size w w' := by
  unfold maxLen at hkey
  obtain ⟨W, hW⟩ : ∃ W, W = w.alloc (Obj.cells #[.slice aT T.length cT, .slice aK K.length cK] 24) := ⟨_, rfl⟩
  have HBW : Hid (Below w.heap.size w W) := by rw [hW]; exact (Below.refl _ _).alloc (Nat.le_refl _) _
  have HOB : Hid (OB W w.heap.size (.slice aT T.length cT) (.slice aK K.length cK)) := by rw [hW]; exact OB.made _ _ _
  have HT := Hid.mk2 (fun V (hb : Below W.heap.size W V) => (hTl.below HBW.out).below hb)
  have HK := Hid.mk2 (fun V (hb : Below W.heap.size W V) => (hKl.below HBW.out).below hb)
  have HGR := Hid.mk2 (fun V (hb : Below W.heap.size W V) => great_is T K aT aK cT cK V (HT.out V hb) (HK.out V hb))
  obtain ⟨hT3, hK3⟩ := great_len hg
  have HCH := Hid.mk2 (fun V (hb : Below W.heap.size W V) => check_any T K aT aK cT cK V (HT.out V hb) (HK.out V hb) hT3 hK3)
  rw [hg] at HGR
  have hl2 : ¬ (10000 : Int) < (key.size : Int) := by omega
  rw [chk_ok hok] at HCH
  have hin : key ∉ K ++ T := fun h => hE (htE_in hok h)
  have HHI := Hid.mk2 (fun V (hb : Below W.heap.size W V) => hit_bad T K aT aK cT cK key V (HT.out V hb) (HK.out V hb) hT3 hK3 hE)
  have HDE := Hid.mk2 (fun V (hb : Below W.heap.size W V) => del_bad T K aT aK cT cK key V (HT.out V hb) (HK.out V hb) hT3 hK3 hE)
  have HHA := Hid.mk2 (fun V (hb : Below W.heap.size W V) => has_any T K aT aK cT cK key V (HT.out V hb) (HK.out V hb) (by omega) (by omega))
  rw [cnt_zero hin] at HHA
  obtain ⟨E, hEE⟩ : ∃ E, E = htE T K key := ⟨_, rfl⟩
  rw [← hEE] at HHI HDE hE
  have hE2 : (E == 0) = false := by simpa using hE
  have hE3 : (E != 0) = true := by simpa using hE
  have HAD := Hid.mk2 (fun V (hb : Below W.heap.size W V) => add_bad T K aT aK cT cK key V (HT.out V hb) (HK.out V hb) hT3 hK3 hA)
  obtain ⟨A, hAA⟩ : ∃ A, A = adE T K key := ⟨_, rfl⟩
  rw [← hAA] at HAD hA
  have hA2 : (A == 0) = false := by simpa using hA
  have hA3 : (A != 0) = true := by simpa using hA
  have hT3I : (T.length : Int) ≤ 300 := by omega
  have hK3I : (K.length : Int) ≤ 300 := by omega
  clear hTl hKl hg hl hok hin hEE hAA hA hE hT3 hK3
  go_enter Try.func5, Try.ntmps5
  go_upto_region 1 with (fail)
  rw [← hW]
  clear hW
  obtain ⟨c0, c1, f0, f1, l0⟩ := HOB.out
  go_wp2_with (first
    | (go_at_call 28; refine (HHA.out _ HB6.out).mono ?_; rintro e w7 ⟨rfl, hw7⟩; have HB7 : Hid (Below W.heap.size W w7) := (by rw [hw7]; exact HB6.out.alloc HB6.out.size _); clear hw7)
    | (go_at_call 13; refine (HDE.out _ HB5.out).mono ?_; rintro e w6 ⟨rfl, hb6⟩; have HB6 : Hid (Below W.heap.size W (w6.alloc (Obj.cells #[.slice none 0 0, .slice none 0 0] 24))) := (HB5.out.trans (hb6.mono HB5.out.size)).alloc (Nat.le_trans HB5.out.size hb6.size) _; clear c0 c1 f0 f1 l0; obtain ⟨c0, c1, f0, f1, l0⟩ := HOB.out.below HB6.out; clear hb6)
    | (go_at_call 12; refine (HHI.out _ HB4.out).mono ?_; rintro e w5 ⟨rfl, hb5⟩; have HB5 : Hid (Below W.heap.size W (w5.alloc (Obj.cells #[.slice none 0 0, .slice none 0 0] 24))) := (HB4.out.trans (hb5.mono HB4.out.size)).alloc (Nat.le_trans HB4.out.size hb5.size) _; clear c0 c1 f0 f1 l0; obtain ⟨c0, c1, f0, f1, l0⟩ := HOB.out.below HB5.out; clear hb5)
    | (go_at_call 14; refine (HAD.out _ HB3.out).mono ?_; rintro e w4 ⟨rfl, hb4⟩; have HB4 : Hid (Below W.heap.size W (w4.alloc (Obj.cells #[.slice none 0 0, .slice none 0 0] 24))) := (HB3.out.trans (hb4.mono HB3.out.size)).alloc (Nat.le_trans HB3.out.size hb4.size) _; clear c0 c1 f0 f1 l0; obtain ⟨c0, c1, f0, f1, l0⟩ := HOB.out.below HB4.out; clear hb4)
    | (go_at_call 18; refine (HCH.out _ HB2.out).mono ?_; rintro e w3 ⟨rfl, hb3⟩; have HB3 : Hid (Below W.heap.size W w3) := HB2.out.trans (hb3.mono HB2.out.size); clear c0 c1 f0 f1 l0; obtain ⟨c0, c1, f0, f1, l0⟩ := HOB.out.below HB3.out; clear hb3)
    | (go_at_call 19; refine (HGR.out _ HB1.out).mono ?_; rintro e w2 ⟨rfl, hb2⟩; have HB2 : Hid (Below W.heap.size W w2) := HB1.out.trans (hb2.mono HB1.out.size); clear c0 c1 f0 f1 l0; obtain ⟨c0, c1, f0, f1, l0⟩ := HOB.out.below HB2.out; clear hb2)
    | (go_at_call 15; refine (alive_any _).mono ?_; rintro e w1 ⟨rfl, hb1⟩; have HB1 : Hid (Below W.heap.size W w1) := hb1; clear c0 c1 f0 f1 l0; obtain ⟨c0, c1, f0, f1, l0⟩ := HOB.out.below HB1.out; clear hb1))
  go_ret
  exact ⟨rfl, HBW.out.trans (HB7.out.mono HBW.out.size)⟩
set_option maxHeartbeats 4000000 in
theorem keeps_no1 (w : World) (aT : Option Addr) (cT : Nat) (aK : Option Addr) (cK : Nat) (T K : List ByteArray) (hTl : Tl w aT T cT) (hKl : Tl w aK K cK) (key : ByteArray) (hkey : key.size ≤ maxLen) (hg : great T K = false) (hl : key.size ≤ 10000) (hok : Ok T K) (hE : htE T K key ≠ 0) (hA : adE T K key = 0) :
    Calls Try.prog 5 #[.agg #[.slice aT T.length cT, .slice aK K.length cK], .string key] w fun e w' => e = .returned (.bool true) ∧ Below w.heap.size w w' := by
  unfold maxLen at hkey
  obtain ⟨W, hW⟩ : ∃ W, W = w.alloc (Obj.cells #[.slice aT T.length cT, .slice aK K.length cK] 24) := ⟨_, rfl⟩
  have HBW : Hid (Below w.heap.size w W) := by rw [hW]; exact (Below.refl _ _).alloc (Nat.le_refl _) _
  have HOB : Hid (OB W w.heap.size (.slice aT T.length cT) (.slice aK K.length cK)) := by rw [hW]; exact OB.made _ _ _
  have HT := Hid.mk2 (fun V (hb : Below W.heap.size W V) => (hTl.below HBW.out).below hb)
  have HK := Hid.mk2 (fun V (hb : Below W.heap.size W V) => (hKl.below HBW.out).below hb)
  have HGR := Hid.mk2 (fun V (hb : Below W.heap.size W V) => great_is T K aT aK cT cK V (HT.out V hb) (HK.out V hb))
  obtain ⟨hT3, hK3⟩ := great_len hg
  have HCH := Hid.mk2 (fun V (hb : Below W.heap.size W V) => check_any T K aT aK cT cK V (HT.out V hb) (HK.out V hb) hT3 hK3)
  rw [hg] at HGR
  have hl2 : ¬ (10000 : Int) < (key.size : Int) := by omega
  rw [chk_ok hok] at HCH
  have hin : key ∉ K ++ T := fun h => hE (htE_in hok h)
  have HHI := Hid.mk2 (fun V (hb : Below W.heap.size W V) => hit_bad T K aT aK cT cK key V (HT.out V hb) (HK.out V hb) hT3 hK3 hE)
  have HDE := Hid.mk2 (fun V (hb : Below W.heap.size W V) => del_bad T K aT aK cT cK key V (HT.out V hb) (HK.out V hb) hT3 hK3 hE)
  have HHA := Hid.mk2 (fun V (hb : Below W.heap.size W V) => has_any T K aT aK cT cK key V (HT.out V hb) (HK.out V hb) (by omega) (by omega))
  rw [cnt_zero hin] at HHA
  obtain ⟨E, hEE⟩ : ∃ E, E = htE T K key := ⟨_, rfl⟩
  rw [← hEE] at HHI HDE hE
  have hE2 : (E == 0) = false := by simpa using hE
  have hE3 : (E != 0) = true := by simpa using hE
  obtain ⟨_, hkk, _, hmn⟩ := adE_zero hA
  have HAD := Hid.mk2 (fun V (hb : Below W.heap.size W V) => add_ok T K aT aK cT cK key V (HT.out V hb) (HK.out V hb) hA)
  have hok1 := ad_ok hok hkk hin hmn
  have HCA := Hid.mk2 (fun V (a : Option Addr) c (b : Option Addr) d (h1 : Tl V a (key :: T) c) (h2 : Tl V b K d) => check_any (key :: T) K a b c d V h1 h2 (by simp; omega) hK3)
  rw [chk_ok hok1] at HCA
  have HHB := Hid.mk2 (fun V (a : Option Addr) c (b : Option Addr) d (h1 : Tl V a (key :: T) c) (h2 : Tl V b K d) => has_any (key :: T) K a b c d key V h1 h2 (by simp; omega) (by omega))
  rw [ad_cnt hok hin (.inl rfl)] at HHB
  have HKE := Hid.mk2 (fun V (a : Option Addr) c (b : Option Addr) d (hb : Below W.heap.size W V) (h1 : Tl V a (key :: T) c) (h2 : Tl V b K d) => keeps_any T K (key :: T) K aT aK a b cT cK c d ⟨#[]⟩ V (HT.out V hb) (HK.out V hb) h1 h2 hT3 hK3 (by simp; omega) (by omega) (fun x hx _ => ad_cnt hok hin (.inr (mem_comm hx))))
  have hlen : ((key :: T).length : Int) + (K.length : Int) = (T.length : Int) + (K.length : Int) + 1 := by simp; omega
  obtain ⟨T1, hT1⟩ : ∃ T1, T1 = key :: T := ⟨_, rfl⟩
  have hT1I : (T1.length : Int) ≤ 301 := by rw [hT1]; simp; omega
  rw [← hT1] at HAD HCA HHB HKE hlen
  have hT3I : (T.length : Int) ≤ 300 := by omega
  have hK3I : (K.length : Int) ≤ 300 := by omega
  clear hTl hKl hg hl hok hin hEE hA hE hT3 hK3 hkk hmn hok1 hT1
  go_enter Try.func5, Try.ntmps5
  go_upto_region 1 with (fail)
  rw [← hW]
  clear hW
  obtain ⟨c0, c1, f0, f1, l0⟩ := HOB.out
  go_wp2_with (first
    | (go_at_call 28; refine (HHA.out _ HB6.out).mono ?_; rintro e w7 ⟨rfl, hw7⟩; have HB7 : Hid (Below W.heap.size W w7) := (by rw [hw7]; exact HB6.out.alloc HB6.out.size _); clear hw7)
    | (go_at_call 13; refine (HDE.out _ HB5.out).mono ?_; rintro e w6 ⟨rfl, hb6⟩; have HB6 : Hid (Below W.heap.size W (w6.alloc (Obj.cells #[.slice none 0 0, .slice none 0 0] 24))) := (HB5.out.trans (hb6.mono HB5.out.size)).alloc (Nat.le_trans HB5.out.size hb6.size) _; clear c0 c1 f0 f1 l0; obtain ⟨c0, c1, f0, f1, l0⟩ := HOB.out.below HB6.out; clear hb6)
    | (go_at_call 12; refine (HHI.out _ HB43.out).mono ?_; rintro e w5 ⟨rfl, hb5⟩; have HB5 : Hid (Below W.heap.size W (w5.alloc (Obj.cells #[.slice none 0 0, .slice none 0 0] 24))) := (HB43.out.trans (hb5.mono HB43.out.size)).alloc (Nat.le_trans HB43.out.size hb5.size) _; clear c0 c1 f0 f1 l0; obtain ⟨c0, c1, f0, f1, l0⟩ := HOB.out.below HB5.out; clear hb5)
    | (go_at_call 29; refine (HKE.out _ _ _ _ _ HB42.out (HR4.out.tlT.below HX2.out) (HR4.out.tlK.below HX2.out)).mono ?_; rintro e w43 ⟨rfl, hb43⟩; have HB43 : Hid (Below W.heap.size W w43) := HB42.out.trans (hb43.mono HB42.out.size); clear hb43 c0 c1 f0 f1 l0 x0 x1 y0 y1 xl; obtain ⟨c0, c1, f0, f1, l0⟩ := HOB.out.below HB43.out)
    | (go_at_call 28; refine (HHB.out _ _ _ _ _ (HR4.out.tlT.below HX1.out) (HR4.out.tlK.below HX1.out)).mono ?_; rintro e w42 ⟨rfl, hw42⟩; have hb42 : Below w41.heap.size w41 w42 := (by rw [hw42]; exact (Below.refl _ _).alloc (Nat.le_refl _) _); have HX2 := Hid.mk2 (HX1.out.trans (hb42.mono HX1.out.size)); have HB42 : Hid (Below W.heap.size W w42) := HB41.out.trans (hb42.mono HB41.out.size); clear hw42 c0 c1 f0 f1 l0 x0 x1 y0 y1 xl; obtain ⟨c0, c1, f0, f1, l0⟩ := HOB.out.below HB42.out; obtain ⟨x0, x1, y0, y1, xl⟩ := HOA.out.below HX2.out; clear hb42)
    | (go_at_call 18; refine (HCA.out _ _ _ _ _ HR4.out.tlT HR4.out.tlK).mono ?_; rintro e w41 ⟨rfl, hb41⟩; have HX1 := Hid.mk2 hb41; have HB41 : Hid (Below W.heap.size W w41) := HB4.out.trans (hb41.mono HB4.out.size); clear c0 c1 f0 f1 l0 x0 x1 y0 y1 xl; obtain ⟨c0, c1, f0, f1, l0⟩ := HOB.out.below HB41.out; obtain ⟨x0, x1, y0, y1, xl⟩ := HOA.out.below hb41; clear hb41)
    | (go_at_call 14; refine (HAD.out _ HB3.out).mono ?_; rintro e w4 ⟨aX, cX, aY, cY, rfl, hR4, hb4⟩; have HB4 : Hid (Below W.heap.size W (w4.alloc (Obj.cells #[.slice aX T1.length cX, .slice aY K.length cY] 24))) := (HB3.out.trans (hb4.mono HB3.out.size)).alloc (Nat.le_trans HB3.out.size hb4.size) _; clear c0 c1 f0 f1 l0; obtain ⟨c0, c1, f0, f1, l0⟩ := HOB.out.below HB4.out; have HR4 := Hid.mk2 (hR4.below ((Below.refl _ _).alloc (Nat.le_refl _) (Obj.cells #[.slice aX T1.length cX, .slice aY K.length cY] 24))); have HOA := Hid.mk2 (OB.made w4 (.slice aX T1.length cX) (.slice aY K.length cY)); obtain ⟨x0, x1, y0, y1, xl⟩ := HOA.out; clear hb4 hR4)
    | (go_at_call 18; refine (HCH.out _ HB2.out).mono ?_; rintro e w3 ⟨rfl, hb3⟩; have HB3 : Hid (Below W.heap.size W w3) := HB2.out.trans (hb3.mono HB2.out.size); clear c0 c1 f0 f1 l0; obtain ⟨c0, c1, f0, f1, l0⟩ := HOB.out.below HB3.out; clear hb3)
    | (go_at_call 19; refine (HGR.out _ HB1.out).mono ?_; rintro e w2 ⟨rfl, hb2⟩; have HB2 : Hid (Below W.heap.size W w2) := HB1.out.trans (hb2.mono HB1.out.size); clear c0 c1 f0 f1 l0; obtain ⟨c0, c1, f0, f1, l0⟩ := HOB.out.below HB2.out; clear hb2)
    | (go_at_call 15; refine (alive_any _).mono ?_; rintro e w1 ⟨rfl, hb1⟩; have HB1 : Hid (Below W.heap.size W w1) := hb1; clear c0 c1 f0 f1 l0; obtain ⟨c0, c1, f0, f1, l0⟩ := HOB.out.below HB1.out; clear hb1))
  go_ret
  exact ⟨rfl, HBW.out.trans (HB7.out.mono HBW.out.size)⟩
set_option maxHeartbeats 4000000 in
theorem keeps_in2 (w : World) (aT : Option Addr) (cT : Nat) (aK : Option Addr) (cK : Nat) (T K : List ByteArray) (hTl : Tl w aT T cT) (hKl : Tl w aK K cK) (key : ByteArray) (hkey : key.size ≤ maxLen) (hg : great T K = false) (hl : key.size ≤ 10000) (hok : Ok T K) (hin : key ∈ K ++ T) (hn : 1 < T.length + K.length) :
    Calls Try.prog 5 #[.agg #[.slice aT T.length cT, .slice aK K.length cK], .string key] w fun e w' => e = .returned (.bool true) ∧ Below w.heap.size w w' := by
  unfold maxLen at hkey
  obtain ⟨W, hW⟩ : ∃ W, W = w.alloc (Obj.cells #[.slice aT T.length cT, .slice aK K.length cK] 24) := ⟨_, rfl⟩
  have HBW : Hid (Below w.heap.size w W) := by rw [hW]; exact (Below.refl _ _).alloc (Nat.le_refl _) _
  have HOB : Hid (OB W w.heap.size (.slice aT T.length cT) (.slice aK K.length cK)) := by rw [hW]; exact OB.made _ _ _
  have HT := Hid.mk2 (fun V (hb : Below W.heap.size W V) => (hTl.below HBW.out).below hb)
  have HK := Hid.mk2 (fun V (hb : Below W.heap.size W V) => (hKl.below HBW.out).below hb)
  have HGR := Hid.mk2 (fun V (hb : Below W.heap.size W V) => great_is T K aT aK cT cK V (HT.out V hb) (HK.out V hb))
  obtain ⟨hT3, hK3⟩ := great_len hg
  have HCH := Hid.mk2 (fun V (hb : Below W.heap.size W V) => check_any T K aT aK cT cK V (HT.out V hb) (HK.out V hb) hT3 hK3)
  rw [hg] at HGR
  have hl2 : ¬ (10000 : Int) < (key.size : Int) := by omega
  rw [chk_ok hok] at HCH
  have hE : htE T K key = 0 := htE_in hok hin
  have hA : adE T K key ≠ 0 := fun h => (adE_zero h).2.2.1 hin
  have hmn := hok.many
  have HAD := Hid.mk2 (fun V (hb : Below W.heap.size W V) => add_bad T K aT aK cT cK key V (HT.out V hb) (HK.out V hb) hT3 hK3 hA)
  obtain ⟨A, hAA⟩ : ∃ A, A = adE T K key := ⟨_, rfl⟩
  rw [← hAA] at HAD hA
  have hA2 : (A == 0) = false := by simpa using hA
  have hA3 : (A != 0) = true := by simpa using hA
  have HHI := Hid.mk2 (fun V (hb : Below W.heap.size W V) => hit_ok T K aT aK cT cK key V (HT.out V hb) (HK.out V hb) (by omega) (by omega) hE)
  have HDE := Hid.mk2 (fun V (hb : Below W.heap.size W V) => del_ok T K aT aK cT cK key V (HT.out V hb) (HK.out V hb) hT3 hK3 hE)
  have HHA := Hid.mk2 (fun V (hb : Below W.heap.size W V) => has_any T K aT aK cT cK key V (HT.out V hb) (HK.out V hb) (by omega) (by omega))
  rw [cnt_one hok.nodup hin] at HHA
  have hokX := ht_ok hok hin
  have hlX := ht_len hok hin
  have hmX := hokX.many
  have HVI := Hid.mk2 (fun V (a : Option Addr) c (b : Option Addr) d (h1 : Tl V a (htT T K key) c) (h2 : Tl V b (htK T K key) d) => victim_any (htT T K key) (htK T K key) a b c d V h1 h2 (by omega) (by omega))
  rw [if_pos (okO_iff.2 hokX), if_pos (okO_iff.2 hokX), if_neg (by rw [hlX]; have := List.length_pos_of_mem hin; rw [List.length_append] at this; omega)] at HVI
  have HCB := Hid.mk2 (fun V (a : Option Addr) c (b : Option Addr) d (h1 : Tl V a (htT T K key) c) (h2 : Tl V b (htK T K key) d) => check_any (htT T K key) (htK T K key) a b c d V h1 h2 (by omega) (by omega))
  rw [chk_ok hokX] at HCB
  have HHB := Hid.mk2 (fun V (a : Option Addr) c (b : Option Addr) d (h1 : Tl V a (htT T K key) c) (h2 : Tl V b (htK T K key) d) => has_any (htT T K key) (htK T K key) a b c d key V h1 h2 (by omega) (by omega))
  rw [ht_cnt hok hin hin] at HHB
  have HKE := Hid.mk2 (fun V (a : Option Addr) c (b : Option Addr) d (hb : Below W.heap.size W V) (h1 : Tl V a (htT T K key) c) (h2 : Tl V b (htK T K key) d) => keeps_any T K (htT T K key) (htK T K key) aT aK a b cT cK c d ⟨#[]⟩ V (HT.out V hb) (HK.out V hb) h1 h2 hT3 hK3 (by omega) (by omega) (fun x hx _ => ht_cnt hok hin (mem_comm hx)))
  have hokP := dl_ok (k := key) hok
  have hlP := dl_len hok hin
  have hmP := hokP.many
  have HCC := Hid.mk2 (fun V (a : Option Addr) c (b : Option Addr) d (h1 : Tl V a (dlT T K key) c) (h2 : Tl V b (dlK T K key) d) => check_any (dlT T K key) (dlK T K key) a b c d V h1 h2 (by omega) (by omega))
  rw [chk_ok hokP] at HCC
  have HHC := Hid.mk2 (fun V (a : Option Addr) c (b : Option Addr) d (h1 : Tl V a (dlT T K key) c) (h2 : Tl V b (dlK T K key) d) => has_any (dlT T K key) (dlK T K key) a b c d key V h1 h2 (by omega) (by omega))
  rw [dl_cnt0 hok] at HHC
  have HKC := Hid.mk2 (fun V (a : Option Addr) c (b : Option Addr) d (hb : Below W.heap.size W V) (h1 : Tl V a (dlT T K key) c) (h2 : Tl V b (dlK T K key) d) => keeps_any T K (dlT T K key) (dlK T K key) aT aK a b cT cK c d key V (HT.out V hb) (HK.out V hb) h1 h2 hT3 hK3 (by omega) (by omega) (fun x hx hne => dl_cnt hok (mem_comm hx) hne))
  have hlenX : ((htT T K key).length : Int) + ((htK T K key).length : Int) = (T.length : Int) + (K.length : Int) := by omega
  have hlenP : ((dlT T K key).length : Int) + ((dlK T K key).length : Int) = (T.length : Int) + (K.length : Int) - 1 := by omega
  have HV1 : Hid (1 < T.length + K.length → vic (htT T K key) (htK T K key) ≠ key) := ht_vic hok hin
  have HV2 : Hid (T.length + K.length ≤ 1 → vic (htT T K key) (htK T K key) = key) := ht_vic1 hok hin
  have hpos : 0 < T.length + K.length := by have := List.length_pos_of_mem hin; rw [List.length_append] at this; omega
  obtain ⟨v, hv⟩ : ∃ v, v = vic (htT T K key) (htK T K key) := ⟨_, rfl⟩
  rw [← hv] at HVI HV1 HV2
  obtain ⟨X, hX⟩ : ∃ X, X = htT T K key := ⟨_, rfl⟩
  obtain ⟨Y, hY⟩ : ∃ Y, Y = htK T K key := ⟨_, rfl⟩
  obtain ⟨P, hP⟩ : ∃ P, P = dlT T K key := ⟨_, rfl⟩
  obtain ⟨Q, hQ⟩ : ∃ Q, Q = dlK T K key := ⟨_, rfl⟩
  have hXI : (X.length : Int) ≤ 300 := by rw [hX]; omega
  have hYI : (Y.length : Int) ≤ 300 := by rw [hY]; omega
  have hPI : (P.length : Int) ≤ 300 := by rw [hP]; omega
  have hQI : (Q.length : Int) ≤ 300 := by rw [hQ]; omega
  rw [← hX, ← hY] at HHI HCB HHB HKE HVI hlenX
  rw [← hP, ← hQ] at HDE HCC HHC HKC hlenP
  have HY0 : Hid (HdK Y key) := by subst hY; obtain ⟨a, b⟩ := ht_head T K key; exact ⟨a, b⟩
  have hY1 : ¬ (Y.length : Int) < 1 := by have := HY0.out.l; omega
  have hY2 : (0 : Int) < (Y.length : Int) := by omega
  have hT3I : (T.length : Int) ≤ 300 := by omega
  have hK3I : (K.length : Int) ≤ 300 := by omega
  have e9 : (key.toList == key.toList) = true := by simp
  clear hTl hKl hg hl hok hin hAA hA hE hT3 hK3 hmn hokX hlX hmX hokP hlP hmP hX hY hP hQ hv
  have e1 := ba_ne (HV1.out hn)
  clear hn HV1 HV2
  go_enter Try.func5, Try.ntmps5
  go_upto_region 1 with (fail)
  rw [← hW]
  clear hW
  obtain ⟨c0, c1, f0, f1, l0⟩ := HOB.out
  go_wp2_with (first
    | (go_at_call 28; refine (HHA.out _ HB63.out).mono ?_; rintro e w7 ⟨rfl, hw7⟩; have HB7 : Hid (Below W.heap.size W w7) := (by rw [hw7]; exact HB63.out.alloc HB63.out.size _); clear hw7)
    | (go_at_call 29; refine (HKC.out _ _ _ _ _ HB62.out (HR6.out.tlT.below HX62.out) (HR6.out.tlK.below HX62.out)).mono ?_; rintro e w63 ⟨rfl, hb63⟩; have HX63 := Hid.mk2 (HX62.out.trans (hb63.mono HX62.out.size)); have HB63 : Hid (Below W.heap.size W w63) := HB62.out.trans (hb63.mono HB62.out.size); clear c0 c1 f0 f1 l0 p0 p1 q0 q1 pl; obtain ⟨c0, c1, f0, f1, l0⟩ := HOB.out.below HB63.out; obtain ⟨p0, p1, q0, q1, pl⟩ := HOP.out.below HX63.out; clear hb63)
    | (go_at_call 28; refine (HHC.out _ _ _ _ _ (HR6.out.tlT.below HX61.out) (HR6.out.tlK.below HX61.out)).mono ?_; rintro e w62 ⟨rfl, hw62⟩; have hb62 : Below w61.heap.size w61 w62 := (by rw [hw62]; exact (Below.refl _ _).alloc (Nat.le_refl _) _); clear hw62; have HX62 := Hid.mk2 (HX61.out.trans (hb62.mono HX61.out.size)); have HB62 : Hid (Below W.heap.size W w62) := HB61.out.trans (hb62.mono HB61.out.size); clear c0 c1 f0 f1 l0 p0 p1 q0 q1 pl; obtain ⟨c0, c1, f0, f1, l0⟩ := HOB.out.below HB62.out; obtain ⟨p0, p1, q0, q1, pl⟩ := HOP.out.below HX62.out; clear hb62)
    | (go_at_call 18; refine (HCC.out _ _ _ _ _ HR6.out.tlT HR6.out.tlK).mono ?_; rintro e w61 ⟨rfl, hb61⟩; have HX61 := Hid.mk2 (HX6.out.trans (hb61.mono HX6.out.size)); have HB61 : Hid (Below W.heap.size W w61) := HB6.out.trans (hb61.mono HB6.out.size); clear c0 c1 f0 f1 l0 p0 p1 q0 q1 pl; obtain ⟨c0, c1, f0, f1, l0⟩ := HOB.out.below HB61.out; obtain ⟨p0, p1, q0, q1, pl⟩ := HOP.out.below HX61.out; clear hb61)
    | (go_at_call 13; refine (HDE.out _ HB54.out).mono ?_; rintro e w6 ⟨aP, cP, aQ, cQ, rfl, hR6, hb6⟩; have HB6 : Hid (Below W.heap.size W (w6.alloc (Obj.cells #[.slice aP P.length cP, .slice aQ Q.length cQ] 24))) := (HB54.out.trans (hb6.mono HB54.out.size)).alloc (Nat.le_trans HB54.out.size hb6.size) _; clear c0 c1 f0 f1 l0; obtain ⟨c0, c1, f0, f1, l0⟩ := HOB.out.below HB6.out; have HR6 := Hid.mk2 (hR6.below ((Below.refl _ _).alloc (Nat.le_refl _) (Obj.cells #[.slice aP P.length cP, .slice aQ Q.length cQ] 24))); have HOP := Hid.mk2 (OB.made w6 (.slice aP P.length cP) (.slice aQ Q.length cQ)); obtain ⟨p0, p1, q0, q1, pl⟩ := HOP.out; have HX6 : Hid (Below (w6.alloc (Obj.cells #[.slice aP P.length cP, .slice aQ Q.length cQ] 24)).heap.size (w6.alloc (Obj.cells #[.slice aP P.length cP, .slice aQ Q.length cQ] 24)) (w6.alloc (Obj.cells #[.slice aP P.length cP, .slice aQ Q.length cQ] 24))) := Below.refl _ _; clear hb6 hR6)
    | (go_at_call 29; refine (HKE.out _ _ _ _ _ HB53.out (HR5.out.tlT.below HX53.out) (HR5.out.tlK.below HX53.out)).mono ?_; rintro e w54 ⟨rfl, hb54⟩; have HX54 := Hid.mk2 (HX53.out.trans (hb54.mono HX53.out.size)); have HB54 : Hid (Below W.heap.size W w54) := HB53.out.trans (hb54.mono HB53.out.size); clear c0 c1 f0 f1 l0 x0 x1 y0 y1 xl; obtain ⟨c0, c1, f0, f1, l0⟩ := HOB.out.below HB54.out; obtain ⟨x0, x1, y0, y1, xl⟩ := HOX.out.below HX54.out; clear hb54; obtain ⟨gy, oy, hgy, hly, hcy⟩ := at_of (HR5.out.tlK.below HX54.out) HY0.out.l; subst hgy; rw [HY0.out.e, Nat.add_zero] at hcy)
    | (go_at_call 28; refine (HHB.out _ _ _ _ _ (HR5.out.tlT.below HX52.out) (HR5.out.tlK.below HX52.out)).mono ?_; rintro e w53 ⟨rfl, hw53⟩; have hb53 : Below w52.heap.size w52 w53 := (by rw [hw53]; exact (Below.refl _ _).alloc (Nat.le_refl _) _); clear hw53; have HX53 := Hid.mk2 (HX52.out.trans (hb53.mono HX52.out.size)); have HB53 : Hid (Below W.heap.size W w53) := HB52.out.trans (hb53.mono HB52.out.size); clear c0 c1 f0 f1 l0 x0 x1 y0 y1 xl; obtain ⟨c0, c1, f0, f1, l0⟩ := HOB.out.below HB53.out; obtain ⟨x0, x1, y0, y1, xl⟩ := HOX.out.below HX53.out; clear hb53)
    | (go_at_call 18; refine (HCB.out _ _ _ _ _ (HR5.out.tlT.below HX51.out) (HR5.out.tlK.below HX51.out)).mono ?_; rintro e w52 ⟨rfl, hb52⟩; have HX52 := Hid.mk2 (HX51.out.trans (hb52.mono HX51.out.size)); have HB52 : Hid (Below W.heap.size W w52) := HB51.out.trans (hb52.mono HB51.out.size); clear c0 c1 f0 f1 l0 x0 x1 y0 y1 xl; obtain ⟨c0, c1, f0, f1, l0⟩ := HOB.out.below HB52.out; obtain ⟨x0, x1, y0, y1, xl⟩ := HOX.out.below HX52.out; clear hb52)
    | (go_at_call 10; refine (HVI.out _ _ _ _ _ HR5.out.tlT HR5.out.tlK).mono ?_; rintro e w51 ⟨rfl, hb51⟩; have HX51 := Hid.mk2 (HX5.out.trans (hb51.mono HX5.out.size)); have HB51 : Hid (Below W.heap.size W w51) := HB5.out.trans (hb51.mono HB5.out.size); clear c0 c1 f0 f1 l0 x0 x1 y0 y1 xl; obtain ⟨c0, c1, f0, f1, l0⟩ := HOB.out.below HB51.out; obtain ⟨x0, x1, y0, y1, xl⟩ := HOX.out.below HX51.out; clear hb51)
    | (go_at_call 12; refine (HHI.out _ HB4.out).mono ?_; rintro e w5 ⟨aX, cX, aY, cY, rfl, hR5, hb5⟩; have HB5 : Hid (Below W.heap.size W (w5.alloc (Obj.cells #[.slice aX X.length cX, .slice aY Y.length cY] 24))) := (HB4.out.trans (hb5.mono HB4.out.size)).alloc (Nat.le_trans HB4.out.size hb5.size) _; clear c0 c1 f0 f1 l0; obtain ⟨c0, c1, f0, f1, l0⟩ := HOB.out.below HB5.out; have HR5 := Hid.mk2 (hR5.below ((Below.refl _ _).alloc (Nat.le_refl _) (Obj.cells #[.slice aX X.length cX, .slice aY Y.length cY] 24))); have HOX := Hid.mk2 (OB.made w5 (.slice aX X.length cX) (.slice aY Y.length cY)); obtain ⟨x0, x1, y0, y1, xl⟩ := HOX.out; have HX5 : Hid (Below (w5.alloc (Obj.cells #[.slice aX X.length cX, .slice aY Y.length cY] 24)).heap.size (w5.alloc (Obj.cells #[.slice aX X.length cX, .slice aY Y.length cY] 24)) (w5.alloc (Obj.cells #[.slice aX X.length cX, .slice aY Y.length cY] 24))) := Below.refl _ _; clear hb5 hR5)
    | (go_at_call 14; refine (HAD.out _ HB3.out).mono ?_; rintro e w4 ⟨rfl, hb4⟩; have HB4 : Hid (Below W.heap.size W (w4.alloc (Obj.cells #[.slice none 0 0, .slice none 0 0] 24))) := (HB3.out.trans (hb4.mono HB3.out.size)).alloc (Nat.le_trans HB3.out.size hb4.size) _; clear c0 c1 f0 f1 l0; obtain ⟨c0, c1, f0, f1, l0⟩ := HOB.out.below HB4.out; clear hb4)
    | (go_at_call 18; refine (HCH.out _ HB2.out).mono ?_; rintro e w3 ⟨rfl, hb3⟩; have HB3 : Hid (Below W.heap.size W w3) := HB2.out.trans (hb3.mono HB2.out.size); clear c0 c1 f0 f1 l0; obtain ⟨c0, c1, f0, f1, l0⟩ := HOB.out.below HB3.out; clear hb3)
    | (go_at_call 19; refine (HGR.out _ HB1.out).mono ?_; rintro e w2 ⟨rfl, hb2⟩; have HB2 : Hid (Below W.heap.size W w2) := HB1.out.trans (hb2.mono HB1.out.size); clear c0 c1 f0 f1 l0; obtain ⟨c0, c1, f0, f1, l0⟩ := HOB.out.below HB2.out; clear hb2)
    | (go_at_call 15; refine (alive_any _).mono ?_; rintro e w1 ⟨rfl, hb1⟩; have HB1 : Hid (Below W.heap.size W w1) := hb1; clear c0 c1 f0 f1 l0; obtain ⟨c0, c1, f0, f1, l0⟩ := HOB.out.below HB1.out; clear hb1))
  go_ret
  exact ⟨rfl, HBW.out.trans (HB7.out.mono HBW.out.size)⟩
set_option maxHeartbeats 4000000 in
theorem keeps_in1 (w : World) (aT : Option Addr) (cT : Nat) (aK : Option Addr) (cK : Nat) (T K : List ByteArray) (hTl : Tl w aT T cT) (hKl : Tl w aK K cK) (key : ByteArray) (hkey : key.size ≤ maxLen) (hg : great T K = false) (hl : key.size ≤ 10000) (hok : Ok T K) (hin : key ∈ K ++ T) (hn : T.length + K.length ≤ 1) :
    Calls Try.prog 5 #[.agg #[.slice aT T.length cT, .slice aK K.length cK], .string key] w fun e w' => e = .returned (.bool true) ∧ Below w.heap.size w w' := by
  unfold maxLen at hkey
  obtain ⟨W, hW⟩ : ∃ W, W = w.alloc (Obj.cells #[.slice aT T.length cT, .slice aK K.length cK] 24) := ⟨_, rfl⟩
  have HBW : Hid (Below w.heap.size w W) := by rw [hW]; exact (Below.refl _ _).alloc (Nat.le_refl _) _
  have HOB : Hid (OB W w.heap.size (.slice aT T.length cT) (.slice aK K.length cK)) := by rw [hW]; exact OB.made _ _ _
  have HT := Hid.mk2 (fun V (hb : Below W.heap.size W V) => (hTl.below HBW.out).below hb)
  have HK := Hid.mk2 (fun V (hb : Below W.heap.size W V) => (hKl.below HBW.out).below hb)
  have HGR := Hid.mk2 (fun V (hb : Below W.heap.size W V) => great_is T K aT aK cT cK V (HT.out V hb) (HK.out V hb))
  obtain ⟨hT3, hK3⟩ := great_len hg
  have HCH := Hid.mk2 (fun V (hb : Below W.heap.size W V) => check_any T K aT aK cT cK V (HT.out V hb) (HK.out V hb) hT3 hK3)
  rw [hg] at HGR
  have hl2 : ¬ (10000 : Int) < (key.size : Int) := by omega
  rw [chk_ok hok] at HCH
  have hE : htE T K key = 0 := htE_in hok hin
  have hA : adE T K key ≠ 0 := fun h => (adE_zero h).2.2.1 hin
  have hmn := hok.many
  have HAD := Hid.mk2 (fun V (hb : Below W.heap.size W V) => add_bad T K aT aK cT cK key V (HT.out V hb) (HK.out V hb) hT3 hK3 hA)
  obtain ⟨A, hAA⟩ : ∃ A, A = adE T K key := ⟨_, rfl⟩
  rw [← hAA] at HAD hA
  have hA2 : (A == 0) = false := by simpa using hA
  have hA3 : (A != 0) = true := by simpa using hA
  have HHI := Hid.mk2 (fun V (hb : Below W.heap.size W V) => hit_ok T K aT aK cT cK key V (HT.out V hb) (HK.out V hb) (by omega) (by omega) hE)
  have HDE := Hid.mk2 (fun V (hb : Below W.heap.size W V) => del_ok T K aT aK cT cK key V (HT.out V hb) (HK.out V hb) hT3 hK3 hE)
  have HHA := Hid.mk2 (fun V (hb : Below W.heap.size W V) => has_any T K aT aK cT cK key V (HT.out V hb) (HK.out V hb) (by omega) (by omega))
  rw [cnt_one hok.nodup hin] at HHA
  have hokX := ht_ok hok hin
  have hlX := ht_len hok hin
  have hmX := hokX.many
  have HVI := Hid.mk2 (fun V (a : Option Addr) c (b : Option Addr) d (h1 : Tl V a (htT T K key) c) (h2 : Tl V b (htK T K key) d) => victim_any (htT T K key) (htK T K key) a b c d V h1 h2 (by omega) (by omega))
  rw [if_pos (okO_iff.2 hokX), if_pos (okO_iff.2 hokX), if_neg (by rw [hlX]; have := List.length_pos_of_mem hin; rw [List.length_append] at this; omega)] at HVI
  have HCB := Hid.mk2 (fun V (a : Option Addr) c (b : Option Addr) d (h1 : Tl V a (htT T K key) c) (h2 : Tl V b (htK T K key) d) => check_any (htT T K key) (htK T K key) a b c d V h1 h2 (by omega) (by omega))
  rw [chk_ok hokX] at HCB
  have HHB := Hid.mk2 (fun V (a : Option Addr) c (b : Option Addr) d (h1 : Tl V a (htT T K key) c) (h2 : Tl V b (htK T K key) d) => has_any (htT T K key) (htK T K key) a b c d key V h1 h2 (by omega) (by omega))
  rw [ht_cnt hok hin hin] at HHB
  have HKE := Hid.mk2 (fun V (a : Option Addr) c (b : Option Addr) d (hb : Below W.heap.size W V) (h1 : Tl V a (htT T K key) c) (h2 : Tl V b (htK T K key) d) => keeps_any T K (htT T K key) (htK T K key) aT aK a b cT cK c d ⟨#[]⟩ V (HT.out V hb) (HK.out V hb) h1 h2 hT3 hK3 (by omega) (by omega) (fun x hx _ => ht_cnt hok hin (mem_comm hx)))
  have hokP := dl_ok (k := key) hok
  have hlP := dl_len hok hin
  have hmP := hokP.many
  have HCC := Hid.mk2 (fun V (a : Option Addr) c (b : Option Addr) d (h1 : Tl V a (dlT T K key) c) (h2 : Tl V b (dlK T K key) d) => check_any (dlT T K key) (dlK T K key) a b c d V h1 h2 (by omega) (by omega))
  rw [chk_ok hokP] at HCC
  have HHC := Hid.mk2 (fun V (a : Option Addr) c (b : Option Addr) d (h1 : Tl V a (dlT T K key) c) (h2 : Tl V b (dlK T K key) d) => has_any (dlT T K key) (dlK T K key) a b c d key V h1 h2 (by omega) (by omega))
  rw [dl_cnt0 hok] at HHC
  have HKC := Hid.mk2 (fun V (a : Option Addr) c (b : Option Addr) d (hb : Below W.heap.size W V) (h1 : Tl V a (dlT T K key) c) (h2 : Tl V b (dlK T K key) d) => keeps_any T K (dlT T K key) (dlK T K key) aT aK a b cT cK c d key V (HT.out V hb) (HK.out V hb) h1 h2 hT3 hK3 (by omega) (by omega) (fun x hx hne => dl_cnt hok (mem_comm hx) hne))
  have hlenX : ((htT T K key).length : Int) + ((htK T K key).length : Int) = (T.length : Int) + (K.length : Int) := by omega
  have hlenP : ((dlT T K key).length : Int) + ((dlK T K key).length : Int) = (T.length : Int) + (K.length : Int) - 1 := by omega
  have HV1 : Hid (1 < T.length + K.length → vic (htT T K key) (htK T K key) ≠ key) := ht_vic hok hin
  have HV2 : Hid (T.length + K.length ≤ 1 → vic (htT T K key) (htK T K key) = key) := ht_vic1 hok hin
  have hpos : 0 < T.length + K.length := by have := List.length_pos_of_mem hin; rw [List.length_append] at this; omega
  obtain ⟨v, hv⟩ : ∃ v, v = vic (htT T K key) (htK T K key) := ⟨_, rfl⟩
  rw [← hv] at HVI HV1 HV2
  obtain ⟨X, hX⟩ : ∃ X, X = htT T K key := ⟨_, rfl⟩
  obtain ⟨Y, hY⟩ : ∃ Y, Y = htK T K key := ⟨_, rfl⟩
  obtain ⟨P, hP⟩ : ∃ P, P = dlT T K key := ⟨_, rfl⟩
  obtain ⟨Q, hQ⟩ : ∃ Q, Q = dlK T K key := ⟨_, rfl⟩
  have hXI : (X.length : Int) ≤ 300 := by rw [hX]; omega
  have hYI : (Y.length : Int) ≤ 300 := by rw [hY]; omega
  have hPI : (P.length : Int) ≤ 300 := by rw [hP]; omega
  have hQI : (Q.length : Int) ≤ 300 := by rw [hQ]; omega
  rw [← hX, ← hY] at HHI HCB HHB HKE HVI hlenX
  rw [← hP, ← hQ] at HDE HCC HHC HKC hlenP
  have HY0 : Hid (HdK Y key) := by subst hY; obtain ⟨a, b⟩ := ht_head T K key; exact ⟨a, b⟩
  have hY1 : ¬ (Y.length : Int) < 1 := by have := HY0.out.l; omega
  have hY2 : (0 : Int) < (Y.length : Int) := by omega
  have hT3I : (T.length : Int) ≤ 300 := by omega
  have hK3I : (K.length : Int) ≤ 300 := by omega
  have e9 : (key.toList == key.toList) = true := by simp
  clear hTl hKl hg hl hok hin hAA hA hE hT3 hK3 hmn hokX hlX hmX hokP hlP hmP hX hY hP hQ hv
  have e1 := ba_eq (HV2.out hn)
  have hn2 : ¬ (1 : Int) < (T.length : Int) + (K.length : Int) := by omega
  clear hn HV1 HV2
  go_enter Try.func5, Try.ntmps5
  go_upto_region 1 with (fail)
  rw [← hW]
  clear hW
  obtain ⟨c0, c1, f0, f1, l0⟩ := HOB.out
  go_wp2_with (first
    | (go_at_call 28; refine (HHA.out _ HB63.out).mono ?_; rintro e w7 ⟨rfl, hw7⟩; have HB7 : Hid (Below W.heap.size W w7) := (by rw [hw7]; exact HB63.out.alloc HB63.out.size _); clear hw7)
    | (go_at_call 29; refine (HKC.out _ _ _ _ _ HB62.out (HR6.out.tlT.below HX62.out) (HR6.out.tlK.below HX62.out)).mono ?_; rintro e w63 ⟨rfl, hb63⟩; have HX63 := Hid.mk2 (HX62.out.trans (hb63.mono HX62.out.size)); have HB63 : Hid (Below W.heap.size W w63) := HB62.out.trans (hb63.mono HB62.out.size); clear c0 c1 f0 f1 l0 p0 p1 q0 q1 pl; obtain ⟨c0, c1, f0, f1, l0⟩ := HOB.out.below HB63.out; obtain ⟨p0, p1, q0, q1, pl⟩ := HOP.out.below HX63.out; clear hb63)
    | (go_at_call 28; refine (HHC.out _ _ _ _ _ (HR6.out.tlT.below HX61.out) (HR6.out.tlK.below HX61.out)).mono ?_; rintro e w62 ⟨rfl, hw62⟩; have hb62 : Below w61.heap.size w61 w62 := (by rw [hw62]; exact (Below.refl _ _).alloc (Nat.le_refl _) _); clear hw62; have HX62 := Hid.mk2 (HX61.out.trans (hb62.mono HX61.out.size)); have HB62 : Hid (Below W.heap.size W w62) := HB61.out.trans (hb62.mono HB61.out.size); clear c0 c1 f0 f1 l0 p0 p1 q0 q1 pl; obtain ⟨c0, c1, f0, f1, l0⟩ := HOB.out.below HB62.out; obtain ⟨p0, p1, q0, q1, pl⟩ := HOP.out.below HX62.out; clear hb62)
    | (go_at_call 18; refine (HCC.out _ _ _ _ _ HR6.out.tlT HR6.out.tlK).mono ?_; rintro e w61 ⟨rfl, hb61⟩; have HX61 := Hid.mk2 (HX6.out.trans (hb61.mono HX6.out.size)); have HB61 : Hid (Below W.heap.size W w61) := HB6.out.trans (hb61.mono HB6.out.size); clear c0 c1 f0 f1 l0 p0 p1 q0 q1 pl; obtain ⟨c0, c1, f0, f1, l0⟩ := HOB.out.below HB61.out; obtain ⟨p0, p1, q0, q1, pl⟩ := HOP.out.below HX61.out; clear hb61)
    | (go_at_call 13; refine (HDE.out _ HB54.out).mono ?_; rintro e w6 ⟨aP, cP, aQ, cQ, rfl, hR6, hb6⟩; have HB6 : Hid (Below W.heap.size W (w6.alloc (Obj.cells #[.slice aP P.length cP, .slice aQ Q.length cQ] 24))) := (HB54.out.trans (hb6.mono HB54.out.size)).alloc (Nat.le_trans HB54.out.size hb6.size) _; clear c0 c1 f0 f1 l0; obtain ⟨c0, c1, f0, f1, l0⟩ := HOB.out.below HB6.out; have HR6 := Hid.mk2 (hR6.below ((Below.refl _ _).alloc (Nat.le_refl _) (Obj.cells #[.slice aP P.length cP, .slice aQ Q.length cQ] 24))); have HOP := Hid.mk2 (OB.made w6 (.slice aP P.length cP) (.slice aQ Q.length cQ)); obtain ⟨p0, p1, q0, q1, pl⟩ := HOP.out; have HX6 : Hid (Below (w6.alloc (Obj.cells #[.slice aP P.length cP, .slice aQ Q.length cQ] 24)).heap.size (w6.alloc (Obj.cells #[.slice aP P.length cP, .slice aQ Q.length cQ] 24)) (w6.alloc (Obj.cells #[.slice aP P.length cP, .slice aQ Q.length cQ] 24))) := Below.refl _ _; clear hb6 hR6)
    | (go_at_call 29; refine (HKE.out _ _ _ _ _ HB53.out (HR5.out.tlT.below HX53.out) (HR5.out.tlK.below HX53.out)).mono ?_; rintro e w54 ⟨rfl, hb54⟩; have HX54 := Hid.mk2 (HX53.out.trans (hb54.mono HX53.out.size)); have HB54 : Hid (Below W.heap.size W w54) := HB53.out.trans (hb54.mono HB53.out.size); clear c0 c1 f0 f1 l0 x0 x1 y0 y1 xl; obtain ⟨c0, c1, f0, f1, l0⟩ := HOB.out.below HB54.out; obtain ⟨x0, x1, y0, y1, xl⟩ := HOX.out.below HX54.out; clear hb54; obtain ⟨gy, oy, hgy, hly, hcy⟩ := at_of (HR5.out.tlK.below HX54.out) HY0.out.l; subst hgy; rw [HY0.out.e, Nat.add_zero] at hcy)
    | (go_at_call 28; refine (HHB.out _ _ _ _ _ (HR5.out.tlT.below HX52.out) (HR5.out.tlK.below HX52.out)).mono ?_; rintro e w53 ⟨rfl, hw53⟩; have hb53 : Below w52.heap.size w52 w53 := (by rw [hw53]; exact (Below.refl _ _).alloc (Nat.le_refl _) _); clear hw53; have HX53 := Hid.mk2 (HX52.out.trans (hb53.mono HX52.out.size)); have HB53 : Hid (Below W.heap.size W w53) := HB52.out.trans (hb53.mono HB52.out.size); clear c0 c1 f0 f1 l0 x0 x1 y0 y1 xl; obtain ⟨c0, c1, f0, f1, l0⟩ := HOB.out.below HB53.out; obtain ⟨x0, x1, y0, y1, xl⟩ := HOX.out.below HX53.out; clear hb53)
    | (go_at_call 18; refine (HCB.out _ _ _ _ _ (HR5.out.tlT.below HX51.out) (HR5.out.tlK.below HX51.out)).mono ?_; rintro e w52 ⟨rfl, hb52⟩; have HX52 := Hid.mk2 (HX51.out.trans (hb52.mono HX51.out.size)); have HB52 : Hid (Below W.heap.size W w52) := HB51.out.trans (hb52.mono HB51.out.size); clear c0 c1 f0 f1 l0 x0 x1 y0 y1 xl; obtain ⟨c0, c1, f0, f1, l0⟩ := HOB.out.below HB52.out; obtain ⟨x0, x1, y0, y1, xl⟩ := HOX.out.below HX52.out; clear hb52)
    | (go_at_call 10; refine (HVI.out _ _ _ _ _ HR5.out.tlT HR5.out.tlK).mono ?_; rintro e w51 ⟨rfl, hb51⟩; have HX51 := Hid.mk2 (HX5.out.trans (hb51.mono HX5.out.size)); have HB51 : Hid (Below W.heap.size W w51) := HB5.out.trans (hb51.mono HB5.out.size); clear c0 c1 f0 f1 l0 x0 x1 y0 y1 xl; obtain ⟨c0, c1, f0, f1, l0⟩ := HOB.out.below HB51.out; obtain ⟨x0, x1, y0, y1, xl⟩ := HOX.out.below HX51.out; clear hb51)
    | (go_at_call 12; refine (HHI.out _ HB4.out).mono ?_; rintro e w5 ⟨aX, cX, aY, cY, rfl, hR5, hb5⟩; have HB5 : Hid (Below W.heap.size W (w5.alloc (Obj.cells #[.slice aX X.length cX, .slice aY Y.length cY] 24))) := (HB4.out.trans (hb5.mono HB4.out.size)).alloc (Nat.le_trans HB4.out.size hb5.size) _; clear c0 c1 f0 f1 l0; obtain ⟨c0, c1, f0, f1, l0⟩ := HOB.out.below HB5.out; have HR5 := Hid.mk2 (hR5.below ((Below.refl _ _).alloc (Nat.le_refl _) (Obj.cells #[.slice aX X.length cX, .slice aY Y.length cY] 24))); have HOX := Hid.mk2 (OB.made w5 (.slice aX X.length cX) (.slice aY Y.length cY)); obtain ⟨x0, x1, y0, y1, xl⟩ := HOX.out; have HX5 : Hid (Below (w5.alloc (Obj.cells #[.slice aX X.length cX, .slice aY Y.length cY] 24)).heap.size (w5.alloc (Obj.cells #[.slice aX X.length cX, .slice aY Y.length cY] 24)) (w5.alloc (Obj.cells #[.slice aX X.length cX, .slice aY Y.length cY] 24))) := Below.refl _ _; clear hb5 hR5)
    | (go_at_call 14; refine (HAD.out _ HB3.out).mono ?_; rintro e w4 ⟨rfl, hb4⟩; have HB4 : Hid (Below W.heap.size W (w4.alloc (Obj.cells #[.slice none 0 0, .slice none 0 0] 24))) := (HB3.out.trans (hb4.mono HB3.out.size)).alloc (Nat.le_trans HB3.out.size hb4.size) _; clear c0 c1 f0 f1 l0; obtain ⟨c0, c1, f0, f1, l0⟩ := HOB.out.below HB4.out; clear hb4)
    | (go_at_call 18; refine (HCH.out _ HB2.out).mono ?_; rintro e w3 ⟨rfl, hb3⟩; have HB3 : Hid (Below W.heap.size W w3) := HB2.out.trans (hb3.mono HB2.out.size); clear c0 c1 f0 f1 l0; obtain ⟨c0, c1, f0, f1, l0⟩ := HOB.out.below HB3.out; clear hb3)
    | (go_at_call 19; refine (HGR.out _ HB1.out).mono ?_; rintro e w2 ⟨rfl, hb2⟩; have HB2 : Hid (Below W.heap.size W w2) := HB1.out.trans (hb2.mono HB1.out.size); clear c0 c1 f0 f1 l0; obtain ⟨c0, c1, f0, f1, l0⟩ := HOB.out.below HB2.out; clear hb2)
    | (go_at_call 15; refine (alive_any _).mono ?_; rintro e w1 ⟨rfl, hb1⟩; have HB1 : Hid (Below W.heap.size W w1) := hb1; clear c0 c1 f0 f1 l0; obtain ⟨c0, c1, f0, f1, l0⟩ := HOB.out.below HB1.out; clear hb1))
  go_ret
  exact ⟨rfl, HBW.out.trans (HB7.out.mono HBW.out.size)⟩
theorem lruKeeps_walk (w : World) (aT : Option Addr) (cT : Nat) (aK : Option Addr) (cK : Nat) (T K : List ByteArray) (hTl : Tl w aT T cT) (hKl : Tl w aK K cK) (key : ByteArray) (hkey : key.size ≤ maxLen) :
    Calls Try.prog 5 #[.agg #[.slice aT T.length cT, .slice aK K.length cK], .string key] w fun e w' => e = .returned (.bool true) ∧ Below w.heap.size w w' := by
  cases hg : great T K with
  | true => exact keeps_great w aT cT aK cK T K hTl hKl key hkey hg
  | false =>
    by_cases hl : 10000 < key.size
    · exact keeps_long w aT cT aK cK T K hTl hKl key hkey hg hl
    · by_cases hok : Ok T K
      · by_cases hin : key ∈ K ++ T
        · by_cases hn : 1 < T.length + K.length
          · exact keeps_in2 w aT cT aK cK T K hTl hKl key hkey hg (by omega) hok hin hn
          · exact keeps_in1 w aT cT aK cK T K hTl hKl key hkey hg (by omega) hok hin (by omega)
        · have hE : htE T K key ≠ 0 := fun h => hin (htE_zero h).2.2.2
          by_cases hA : adE T K key = 0
          · exact keeps_no1 w aT cT aK cK T K hTl hKl key hkey hg (by omega) hok hE hA
          · exact keeps_no2 w aT cT aK cK T K hTl hKl key hkey hg (by omega) hok hE hA
      · exact keeps_bad w aT cT aK cK T K hTl hKl key hkey hg (by omega) hok

set_option maxRecDepth 100000 in
theorem lruKeeps_lifted (os : Os) (started : os.Started) (H : Type) (enc : TypeId × Value → H) :
    ReturnsInHanded {} Try.checked os 5 .any (Rows.lruKeepsSpec.pre6 enc Try.prog Try.f5 Rows.lruKeepsRow.domain false) (Rows.lruKeepsSpec.post enc Try.prog Try.f5 false true false false) := by
  refine returnsInHanded_of_change (C := Try.checked) (by kernel_rfl) started (by kernel_rfl) Try.func5
    (ChangeSpec.witness6 (enc := enc) (C := Try.checked) false ⟨#[], #[.agg #[.slice none 0 0, .slice none 0 0], .string ByteArray.empty], []⟩ 8 (by kernel_rfl) (by kernel_rfl) (by kernel_rfl) (by kernel_rfl)) ?_
  intro W base args ds gs before hval0 hW hcnd _
  have hval : ∀ (j : Nat) t v, Try.f5.params[j]? = some t → args[j]? = some v → Value.okWide Try.prog W .any base t v := hval0
  have hW' := hW
  obtain ⟨p, q, hA0, hV, rfl, hfz, hnd⟩ := hW
  have hA : DataW.TrodAll enc Try.prog W 0 (fun _ => true) true Try.f5.params.toList args.toList ds p := hA0
  rw [Try.params5] at hA hval
  obtain ⟨v0, vs0, d0, ds0, p0, q0, hargs, rfl, rfl, h0, r0⟩ := trodAll_cons hA
  obtain ⟨v1, vs1, d1, ds1, p1, q1, rfl, rfl, rfl, h1, r1⟩ := trodAll_cons r0
  obtain ⟨rfl, rfl, rfl⟩ := trodAll_nil r1
  obtain rfl : args = #[v0, v1] := by cases args; simp_all
  obtain ⟨rfl, rfl⟩ := trodVars_none hV
  have k0 := h0
  have lt0 : ∀ x ∈ p0, x.block < W.heap.size := by obtain ⟨m, hm⟩ := k0; exact DataW.trod_lt m _ _ _ hm
  obtain ⟨aT0, cT0, aK0, cK0, T0, K0, rfl, hT0, hK0⟩ := inOrder_of (fun _ => rfl) (hval 0 24 v0 rfl rfl) h0
  obtain ⟨a1, rfl, rfl, rfl, w1⟩ := open_string Try.underlying9 (hval 1 9 v1 rfl rfl) h1
  clear hA0 hval0
  refine (lruKeeps_walk W aT0 cT0 aK0 cK0 T0 K0 hT0 hK0 a1 w1).mono fun e W' ⟨he, bel⟩ => ?_
  subst he
  exact ⟨_, rfl, _, _, _, [], _, [], hW', trodAll_mk1 (shut_bool Try.underlying4 _), (trodAll_cons_mk (Below.trod laidOut_all (by kernel_rfl) (of_decide_eq_true (by kernel_rfl)) k0 bel lt0) (trodAll_cons_mk (shut_string Try.underlying9 w1) trodAll_mk0)), rfl, bel.frame _, fun h => by cases h⟩

theorem lruKeeps_proved : Rows.LruKeepsSaid :=
  OpenClaim.holds_of_wide 5 Try.f5 rfl rfl rfl rfl rfl rfl rfl ⟨rfl, rfl, rfl, rfl, rfl⟩ rfl rfl rfl rfl rfl (by kernel_rfl) Try.func5 (by kernel_rfl)
    (of_decide_eq_true (by kernel_rfl)) (by unfold Func.isWrapper; first | (rw [if_pos (by decide +kernel)]; kernel_rfl) | (rw [if_neg (by decide +kernel)]; exact ⟨rfl, rfl⟩))
    (fun os started H enc _ => lruKeeps_lifted os started H enc)
#print axioms lruKeeps_proved
end Go.Proofs.Ytmdlampmoeiihaa
