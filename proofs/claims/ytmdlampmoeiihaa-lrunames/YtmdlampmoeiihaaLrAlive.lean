/-
  The statements' helpers over orders, on: rows, alive.
-/
import Derived.Test.YtmdlampmoeiihaaLrOf
namespace Go.Proofs.Ytmdlampmoeiihaa
open Go.RowKit Go.Shelf Go.Lib Go.Sort
set_option linter.unusedSimpArgs false
set_option linter.unusedVariables false
set_option maxRecDepth 100000

/-- all keys, one behind the other -/
def cat (l : List ByteArray) : ByteArray := l.foldl (· ++ ·) ⟨#[]⟩
theorem cat_succ (l : List ByteArray) (k : Nat) (h : k < l.length) : cat (l.take (k + 1)) = cat (l.take k) ++ l[k] := by
  unfold cat
  rw [List.take_succ_eq_append_getElem h, List.foldl_append]
  rfl
theorem cat_size (l : List ByteArray) (hs : ∀ k ∈ l, k.size ≤ 32) (k : Nat) (hk : k ≤ l.length) : (cat (l.take k)).size ≤ 32 * k := by
  induction k with
  | zero => simp [cat, ByteArray.size]
  | succ k ih =>
    rw [cat_succ l k (by omega), ByteArray.size_append]
    have := ih (by omega)
    have := hs l[k] (List.getElem_mem (by omega))
    omega
set_option maxHeartbeats 1000000 in
theorem rows_true (T K : List ByteArray) (aT aK : Option Addr) (cT cK : Nat) (a b : ByteArray) (w : World) (hTl : Tl w aT T cT) (hKl : Tl w aK K cK) (hT : T.length ≤ 300) (hK : K.length ≤ 300) (hs : ∀ k ∈ K ++ T, k.size ≤ 32) (ha : cat T = a) (hb : cat K = b) :
    Calls Try.prog 17 #[.agg #[.slice aT T.length cT, .slice aK K.length cK], .string a, .string b] w fun e w' => e = .returned (.bool true) ∧ Below w.heap.size w w' := by
  obtain ⟨W, hW⟩ : ∃ W, W = w.alloc (Obj.cells #[.slice aT T.length cT, .slice aK K.length cK] 24) := ⟨_, rfl⟩
  have HB : Hid (Below w.heap.size w W) := by rw [hW]; exact (Below.refl _ _).alloc (Nat.le_refl _) _
  have HOB : Hid (OB W w.heap.size (.slice aT T.length cT) (.slice aK K.length cK)) := by rw [hW]; exact OB.made _ _ _
  have HTW := Hid.mk2 (hTl.below HB.out)
  have HKW := Hid.mk2 (hKl.below HB.out)
  have HST := Hid.mk2 (cat_size T (fun k hk => hs k (List.mem_append.2 (.inr hk))))
  have HSK := Hid.mk2 (cat_size K (fun k hk => hs k (List.mem_append.2 (.inl hk))))
  have HS := Hid.mk2 hs
  have HAA := Hid.mk2 ha
  have HBB := Hid.mk2 hb
  clear hTl hKl hs ha hb
  go_enter Try.func17, Try.ntmps17
  go_upto_region 1 with (fail)
  rw [← hW]
  clear hW
  obtain ⟨c0, c1, f0, f1, l0⟩ := HOB.out
  go_wp2
  go_loop [7, 9] (fun s i => ∃ (k : Nat) (x : ByteArray), k ≤ T.length ∧ i = .int .i64 k ∧ s = .string x ∧ Hid (x = cat (T.take k))) (fun _ i => T.length - (intOf i).toNat)
  case atStart => exact ⟨0, ⟨#[]⟩, Nat.zero_le _, rfl, rfl, rfl⟩
  case round =>
    obtain ⟨k, x, hk, rfl, rfl, HX⟩ := hrel
    by_cases hlt : k < T.length
    · have hlt2 : (k : Int) < (T.length : Int) := by omega
      obtain ⟨g, off, rfl, hg, hc⟩ := at_of HTW.out hlt
      have hsx : x.size ≤ 9600 := by have := HST.out k hk; rw [HX.out]; omega
      have hsz := HS.out T[k] (List.mem_append.2 (.inr (List.getElem_mem hlt)))
      have hcs := cat_succ T k hlt
      obtain ⟨s, hs⟩ : ∃ s, s = T[k] := ⟨_, rfl⟩
      rw [← hs, ← HX.out] at hcs
      rw [← hs] at hc hsz
      have HCS := Hid.mk2 hcs
      clear hs hcs
      have hov : ¬ 9223372036854775807 < x.size + s.size := by omega
      go_wp2
      go_round
      case rel => exact ⟨k + 1, x ++ s, by omega, by go_num, rfl, HCS.out.symm⟩
      case measure => simp [intOf]; omega
    · have hlt2 : ¬ (k : Int) < (T.length : Int) := by omega
      have HXA : Hid (x = a) := by show x = a; rw [HX.out, List.take_of_length_le (by omega), HAA.out]
      clear HX
      go_wp2
      go_loop [8, 10] (fun s i => ∃ (k' : Nat) (y : ByteArray), k' ≤ K.length ∧ i = .int .i64 k' ∧ s = .string y ∧ Hid (y = cat (K.take k'))) (fun _ i => K.length - (intOf i).toNat)
      case atStart => exact ⟨0, ⟨#[]⟩, Nat.zero_le _, rfl, rfl, rfl⟩
      case round =>
        obtain ⟨k', y, hk', rfl, rfl, HY⟩ := hrel
        by_cases hlt' : k' < K.length
        · have hlt2' : (k' : Int) < (K.length : Int) := by omega
          obtain ⟨g, off, rfl, hg, hc⟩ := at_of HKW.out hlt'
          have hsx : y.size ≤ 9600 := by have := HSK.out k' hk'; rw [HY.out]; omega
          have hsz := HS.out K[k'] (List.mem_append.2 (.inl (List.getElem_mem hlt')))
          have hcs := cat_succ K k' hlt'
          obtain ⟨s, hs⟩ : ∃ s, s = K[k'] := ⟨_, rfl⟩
          rw [← hs, ← HY.out] at hcs
          rw [← hs] at hc hsz
          have HCS := Hid.mk2 hcs
          clear hs hcs
          have hov : ¬ 9223372036854775807 < y.size + s.size := by omega
          go_wp2
          go_round
          case rel => exact ⟨k' + 1, y ++ s, by omega, by go_num, rfl, HCS.out.symm⟩
          case measure => simp [intOf]; omega
        · have hlt2' : ¬ (k' : Int) < (K.length : Int) := by omega
          have HYB : Hid (y = b) := by show y = b; rw [HY.out, List.take_of_length_le (by omega), HBB.out]
          have e1 := ba_eq HXA.out
          have e2 := ba_eq HYB.out
          clear HY
          go_wp2
          go_ret
          exact ⟨rfl, HB.out⟩
def kA : ByteArray := ⟨#[97]⟩
def kB : ByteArray := ⟨#[98]⟩
def kC : ByteArray := ⟨#[99]⟩
/-- three keys that came lie in a block -/
theorem abc_tl (w : World) : Tl (w.alloc (Obj.cells #[.string kA, .string kB, .string kC] 9)) (some ⟨w.heap.size, 0, none⟩) [kA, kB, kC] 3 := by
  refine ⟨by simp, by omega, (by intro e; cases e), .inr ⟨w.heap.size, 0, rfl, by simp, fun j hj => ?_⟩⟩
  rw [Nat.zero_add, cell_of_heap (alloc_heap w _)]
  have : j < 3 := by simpa using hj
  match j, this with
  | 0, _ => rfl
  | 1, _ => rfl
  | 2, _ => rfl
theorem abc_can : ∀ j (hj : j < [kA, kB, kC].length), adE (cam [kA, kB, kC] j) [] [kA, kB, kC][j] = 0 := by
  intro j hj
  have : j < 3 := by simpa using hj
  match j, this with
  | 0, _ => show adE (cam [kA, kB, kC] 0) [] kA = 0; decide +kernel
  | 1, _ => show adE (cam [kA, kB, kC] 1) [] kB = 0; decide +kernel
  | 2, _ => show adE (cam [kA, kB, kC] 2) [] kC = 0; decide +kernel
theorem hitA : htT [kC, kB, kA] [] kA = [kC, kB] ∧ htK [kC, kB, kA] [] kA = [kA] ∧ htE [kC, kB, kA] [] kA = 0 := by decide +kernel
theorem okA : Ok [kC, kB] [kA] := okO_iff.1 (by decide +kernel)
theorem of_abc (w : World) : Calls Try.prog 9 #[.slice (some ⟨w.heap.size, 0, none⟩) 3 3] (w.alloc (Obj.cells #[.string ⟨#[97]⟩, .string ⟨#[98]⟩, .string ⟨#[99]⟩] 9)) fun e w' => ∃ (aT : Option Addr) (cT : Nat) (aK : Option Addr) (cK : Nat), e = .returned (.tuple #[.agg #[.slice aT 3 cT, .slice aK 0 cK], .bool true]) ∧ Tl w' aT [kC, kB, kA] cT ∧ Tl w' aK [] cK ∧ Below w.heap.size w w' := by
  refine (of_any [kA, kB, kC] _ 3 _ (abc_tl w) (by simp)).mono ?_
  rintro e w' ⟨⟨b, T, aT, cT, aK, cK, rfl, hT, hK, h1, h2⟩, hb⟩
  cases b with
  | false =>
    obtain ⟨j, hj, hne⟩ := h2 rfl
    exact absurd (abc_can j hj) hne
  | true =>
    obtain ⟨rfl, -⟩ := h1 rfl
    exact ⟨aT, cT, aK, cK, rfl, hT, hK, below_alloc hb⟩
set_option maxHeartbeats 1000000 in
theorem alive_any (w : World) : Calls Try.prog 15 #[] w fun e w' => e = .returned (.bool true) ∧ Below w.heap.size w w' := by
  have HOF := Hid.mk2 (of_abc w)
  have HHIT := Hid.mk2 (fun W (aT : Option Addr) cT (aK : Option Addr) cK (hT : Tl W aT [kC, kB, kA] cT) (hK : Tl W aK [] cK) => hit_ok [kC, kB, kA] [] aT aK cT cK kA W hT hK (by simp) (by simp) hitA.2.2)
  rw [hitA.1, hitA.2.1] at HHIT
  have HVIC := Hid.mk2 (fun W (aT : Option Addr) cT (aK : Option Addr) cK (hT : Tl W aT [kC, kB] cT) (hK : Tl W aK [kA] cK) => victim_any [kC, kB] [kA] aT aK cT cK W hT hK (by simp) (by simp))
  rw [if_pos (okO_iff.2 okA), if_pos (okO_iff.2 okA), if_neg (by simp), show vic [kC, kB] [kA] = kB by decide +kernel] at HVIC
  have HROW := Hid.mk2 (fun W (aT : Option Addr) cT (aK : Option Addr) cK (hT : Tl W aT [kC, kB] cT) (hK : Tl W aK [kA] cK) => rows_true [kC, kB] [kA] aT aK cT cK ⟨#[99, 98]⟩ ⟨#[97]⟩ W hT hK (by simp) (by simp) (by decide +kernel) (by decide +kernel) (by decide +kernel))
  simp only [List.length_cons, List.length_nil, Nat.zero_add, Nat.reduceAdd, kA, kB] at HHIT HVIC HROW
  go_enter Try.func15, Try.ntmps15
  go_wp2_with (first
    | (go_at_call 17; refine (HROW.out _ _ _ _ _ (HT2.out.below HB3.out) (HK2.out.below HB3.out)).mono ?_; rintro e w4 ⟨rfl, hb4⟩; have HB4 := Hid.mk2 hb4; clear hb4)
    | (go_at_call 10; refine (HVIC.out _ _ _ _ _ HT2.out HK2.out).mono ?_; rintro e w3 ⟨rfl, hb3⟩; have HB3 := Hid.mk2 hb3; clear p0 p1 pl; obtain ⟨p0, p1, _, _, pl⟩ := HP2.out.below hb3; clear hb3)
    | (go_at_call 12; refine (HHIT.out _ _ _ _ _ HT1.out HK1.out).mono ?_; rintro e w2 ⟨aX, cX, aY, cY, rfl, hR2, hb2⟩; have HT2 := Hid.mk2 (hR2.tlT.alloc (Obj.cells #[.slice aX 2 cX, .slice aY 1 cY] 24)); have HK2 := Hid.mk2 (hR2.tlK.alloc (Obj.cells #[.slice aX 2 cX, .slice aY 1 cY] 24)); have HB2 := Hid.mk2 hb2; have HP2 := Hid.mk2 (OB.made w2 (.slice aX 2 cX) (.slice aY 1 cY)); obtain ⟨p0, p1, _, _, pl⟩ := HP2.out; clear hR2 hb2)
    | (go_at_call 9; refine HOF.out.mono ?_; rintro e w1 ⟨aT, cT, aK, cK, rfl, hT, hK, hb1⟩; have HT1 := Hid.mk2 (hT.alloc (Obj.cells #[.slice aT 3 cT, .slice aK 0 cK] 24)); have HK1 := Hid.mk2 (hK.alloc (Obj.cells #[.slice aT 3 cT, .slice aK 0 cK] 24)); have HB1 := Hid.mk2 hb1; clear hT hK hb1))
  go_ret
  have x1 := HB1.out.alloc HB1.out.size (Obj.cells #[.slice aT 3 cT, .slice aK 0 cK] 24)
  have x2 := x1.trans (HB2.out.mono x1.size)
  have x3 := x2.alloc x2.size (Obj.cells #[.slice aX 2 cX, .slice aY 1 cY] 24)
  have x4 := x3.trans (HB3.out.mono x3.size)
  exact ⟨rfl, x4.trans (HB4.out.mono x4.size)⟩
end Go.Proofs.Ytmdlampmoeiihaa
