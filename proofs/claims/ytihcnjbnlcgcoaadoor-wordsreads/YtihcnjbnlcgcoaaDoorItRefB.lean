/-
  (shaken)
-/
import Derived.Test.YtihcnjbnlcgcoaaDoorItCount
import Derived.Test.YtihcnjbnlcgcoaaDoorItJoin
import Derived.Deep.Cut
namespace Go.Proofs.YtihcnjbnlcgcoaaDoor.It
open Go.RowKit Go.Shelf Go.Lib Go.Sort
set_option linter.unusedSimpArgs false
set_option linter.unusedVariables false
set_option maxRecDepth 100000

theorem Nk.step' {l : List UInt8} {k n : Nat} (h : Nk l k n) (hk : k < l.length) (hh : l.head? ≠ some 48 ∨ l.length ≤ 1) (hb : isD l[k] = true) (hr : 10 * n + dv l[k] < 18446744073709551616) : Nk l (k + 1) (10 * n + dv l[k]) := by
  refine h.step hk hb ?_ hr
  rintro ⟨h0, hn⟩
  rcases hh with hh | hh
  · have hne : l.take k ≠ [] := by
      intro e
      rw [List.take_eq_nil_iff] at e
      rcases e with e | e
      · omega
      · rw [e] at hk; simp at hk
    have hh2 : (l.take k).head? ≠ some 48 := by
      match l, k, h0 with
      | [], _, _ => simp
      | a :: l, k + 1, _ => simpa using hh
    have := valL_pos hne h.dig hh2
    rw [← h.val] at this
    omega
  · omega
theorem idx_of (s : ByteArray) (k : Nat) (h : k < s.size) (h' : k < (bl s).length) (w : World) : (Instr.index 9 (.string s) (.int .i64 (k : Int))).run Tryd.prog w = .ok (.int .u8 ((bl s)[k].toNat : Int)) w := by
  rw [run_index_string w 9 s .i64 (k : Int) Tryd.underlying9, dif_pos ⟨by omega, by omega⟩]
  rfl
theorem not_empty {s : ByteArray} (h : bl s ≠ []) : s.toList.isEmpty = false := by
  rw [ByteArray.toList_eq]
  show (bl s).isEmpty = false
  cases e : bl s with
  | nil => exact absurd e h
  | cons a l => rfl
theorem head_of {s : ByteArray} (h : 0 < (bl s).length) : (bl s).head? = some (bl s)[0] := by
  rw [List.head?_eq_getElem?, List.getElem?_eq_getElem h]

set_option maxHeartbeats 4000000 in
theorem rnumber_no (s : ByteArray) (w : World) (h : bl s = [] ∨ 20 < (bl s).length ∨ ((bl s).head? = some 48 ∧ bl s ≠ [48])) :
    Calls Tryd.prog 77 #[.string s] w fun e w' => e = .returned (.tuple #[.int .u64 0, .bool false]) ∧ w' = w := by
  by_cases h0 : bl s = []
  · have e0 : s = ⟨#[]⟩ := bl_inj (by rw [h0]; rfl)
    subst e0
    clear h h0
    go_enter Tryd.func77, Tryd.ntmps77
    go_wp2
    go_ret2
    exact ⟨rfl, rfl⟩
  have h1 := not_empty h0
  have hl := bl_len s
  by_cases h2 : 20 < (bl s).length
  · have h2' : (20 : Int) < (s.size : Int) := by omega
    clear h h0 h2 hl
    go_enter Tryd.func77, Tryd.ntmps77
    go_wp2
    go_ret2
    exact ⟨rfl, rfl⟩
  have h3 : (bl s).head? = some 48 ∧ bl s ≠ [48] := by
    rcases h with h | h | h
    · exact absurd h h0
    · exact absurd h h2
    · exact h
  have h2' : ¬ ((20 : Int) < (s.size : Int)) := by omega
  have hpos : 0 < (bl s).length := by
    cases e : bl s with
    | nil => exact absurd e h0
    | cons a l => simp
  have hx := idx_of s 0 (by omega) hpos
  have hc : (bl s)[0] = 48 := by
    have := head_of hpos
    rw [h3.1] at this
    exact (Option.some.inj this).symm
  rw [hc] at hx
  have hne : (s.toList == [48]) = false := by
    rw [ByteArray.toList_eq]
    show (bl s == [48]) = false
    simpa using h3.2
  have hx' : ∀ W, (Instr.index 9 (.string s) (.int .i64 0)).run Tryd.prog W = .ok (.int .u8 48) W := hx
  clear h h0 h2 hl h3 hpos hx hc
  go_enter Tryd.func77, Tryd.ntmps77
  go_wp2
  go_ret2
  exact ⟨rfl, rfl⟩

set_option maxHeartbeats 4000000 in
/-- what the tests ahead let by: the digits decide -/
theorem rnumber_loop (s : ByteArray) (w : World) (h0 : bl s ≠ []) (h2 : (bl s).length ≤ 20) (h3 : (bl s).head? ≠ some 48) :
    Calls Tryd.prog 77 #[.string s] w fun e w' => e = .returned (.tuple #[.int .u64 (numV (bl s)), .bool (isNum (bl s))]) ∧ w' = w := by
  obtain ⟨V, hV⟩ : ∃ V, V = numV (bl s) := ⟨_, rfl⟩
  obtain ⟨B, hB⟩ : ∃ B, B = isNum (bl s) := ⟨_, rfl⟩
  rw [← hV, ← hB]
  have HV := Hid.mk2 hV
  have HB := Hid.mk2 hB
  have HNE := Hid.mk2 h0
  have HH : Hid ((bl s).head? ≠ some 48 ∨ (bl s).length ≤ 1) := Or.inl h3
  have h1 := not_empty h0
  have hl := bl_len s
  have HL : Hid (s.size ≤ 20) := show s.size ≤ 20 by omega
  have h2' : ¬ ((20 : Int) < (s.size : Int)) := by omega
  have hpos : 0 < (bl s).length := by
    cases e : bl s with
    | nil => exact absurd e h0
    | cons a l => simp
  have hx := idx_of s 0 (by omega) hpos
  obtain ⟨q, hq⟩ : ∃ q : Nat, q = (bl s)[0].toNat := ⟨_, rfl⟩
  have hq1 : ((q : Int) == 48) = false := by
    have := head_of hpos
    rw [this] at h3
    have h4 : ¬ (bl s)[0].toNat = 48 := fun e => h3 (by rw [show (bl s)[0] = 48 from UInt8.toNat_inj.1 e])
    rw [← hq] at h4
    simp
    omega
  rw [← hq] at hx
  have hx' : ∀ W, (Instr.index 9 (.string s) (.int .i64 0)).run Tryd.prog W = .ok (.int .u8 (q : Int)) W := hx
  clear hV hB h0 h2 h3 hl hpos hx hq
  go_enter Tryd.func77, Tryd.ntmps77
  go_wp2
  go_loopw [4, 5] (fun n i wr => ∃ (k m : Nat), i = .int .i64 k ∧ n = .int .u64 m ∧ wr = w ∧ k ≤ s.size ∧ Hid (Nk (bl s) k m)) (fun _ i _ => s.size - (RowKit.intOf i).toNat)
  case atStart => exact ⟨0, 0, rfl, rfl, rfl, Nat.zero_le _, Nk.start _⟩
  case round =>
    obtain ⟨k, m, rfl, rfl, rfl, hks, HK⟩ := hrel
    have hm : m < 18446744073709551616 := HK.out.lt
    by_cases hp : k < s.size
    · have hp2 : (k : Int) < (s.size : Int) := by omega
      have hp' : k < (bl s).length := by rw [bl_len]; exact hp
      have hxk := idx_of s k hp hp'
      obtain ⟨c, hc⟩ : ∃ c : Nat, c = (bl s)[k].toNat := ⟨_, rfl⟩
      rw [← hc] at hxk
      have hsz : s.size ≤ 20 := HL.out
      cases hd : isD (bl s)[k]
      · have hr : c < 48 ∨ 57 < c := by
          have hb : ¬ (48 ≤ (bl s)[k].toNat ∧ (bl s)[k].toNat ≤ 57) := by simpa [isD] using hd
          rw [← hc] at hb
          omega
        have e1 : isNum (bl s) = false := Nk.not_digit hp' hd
        have e2 : V = 0 := by rw [HV.out]; exact numV_not e1
        have e3 : B = false := by rw [HB.out]; exact e1
        subst e2 e3
        clear e1 hc hd HV HB HK hm HL
        rcases hr with hr | hr
        · have hr1 : (c : Int) < 48 := by omega
          clear hr
          go_wp2
          go_ret2
          exact ⟨rfl, rfl⟩
        · have hr1 : ¬ ((c : Int) < 48) := by omega
          have hr2 : (57 : Int) < (c : Int) := by omega
          clear hr
          go_wp2
          go_ret2
          exact ⟨rfl, rfl⟩
      · have hb : 48 ≤ c ∧ c ≤ 57 := by
          have hb : 48 ≤ (bl s)[k].toNat ∧ (bl s)[k].toNat ≤ 57 := by simpa [isD] using hd
          rw [← hc] at hb
          exact hb
        obtain ⟨d, hdd⟩ : ∃ d, d = dv (bl s)[k] := ⟨_, rfl⟩
        have hdc : c = 48 + d := by rw [hdd]; unfold dv; rw [← hc]; omega
        have hd10 : d < 10 := by omega
        subst hdc
        have hi1 : ((48 + d : Nat) : Int) = 48 + (d : Int) := by omega
        rw [hi1] at hxk
        have HDD := Hid.mk2 hdd
        have HD := Hid.mk2 hd
        clear hc hd hdd hi1 hb
        have hr1 : ¬ (48 + (d : Int) < 48) := by omega
        have hr2 : ¬ ((57 : Int) < 48 + (d : Int)) := by omega
        have hdg : (48 + (d : Int)) - 48 = (d : Int) := by omega
        by_cases hg : 10 * m + d < 18446744073709551616
        · have hs : Nk (bl s) (k + 1) (10 * m + d) := by
            have := HK.out.step' hp' HH.out HD.out (by rw [← HDD.out]; exact hg)
            rw [← HDD.out] at this
            exact this
          have HS := Hid.mk2 hs
          have hg1 : ¬ ((18446744073709551615 - (d : Int)) / 10 < (m : Int)) := by omega
          have hg2 : 10 * (m : Int) + (d : Int) < 18446744073709551616 := by omega
          have hg3 : 10 * (m : Int) < 18446744073709551616 := by omega
          clear hs HK HD HDD HV HB hg HL
          go_wp2
          go_roundw
          case rel => exact ⟨k + 1, 10 * m + d, by go_num, by go_num, by first | rfl | trivial, hp, HS⟩
          case measure => simp [RowKit.intOf]; omega
        · have e1 : isNum (bl s) = false := HK.out.beyond hp' (by rw [← HDD.out]; exact hg)
          have e2 : V = 0 := by rw [HV.out]; exact numV_not e1
          have e3 : B = false := by rw [HB.out]; exact e1
          subst e2 e3
          have hg1 : ((18446744073709551615 - (d : Int)) / 10 < (m : Int)) := by omega
          clear e1 HV HB HK HD HDD hg HL
          go_wp2
          go_ret2
          exact ⟨rfl, rfl⟩
    · have hp2 : ¬ ((k : Int) < (s.size : Int)) := by omega
      have hk : k = (bl s).length := by rw [bl_len]; omega
      rw [hk] at HK
      obtain ⟨e1, e5⟩ := HK.out.fin HNE.out
      have e2 : V = m := by rw [HV.out]; exact e5
      have e3 : B = true := by rw [HB.out]; exact e1
      subst e2 e3
      clear e1 e5 HV HB HK hk hp HL
      go_wp2
      go_ret2
      exact ⟨rfl, rfl⟩

set_option maxHeartbeats 4000000 in
theorem rnumber_nought (w : World) :
    Calls Tryd.prog 77 #[.string ⟨#[48]⟩] w fun e w' => e = .returned (.tuple #[.int .u64 (numV (bl ⟨#[48]⟩)), .bool (isNum (bl ⟨#[48]⟩))]) ∧ w' = w := by
  obtain ⟨s, hs⟩ : ∃ s : ByteArray, s = ⟨#[48]⟩ := ⟨_, rfl⟩
  rw [← hs]
  obtain ⟨V, hV⟩ : ∃ V, V = numV (bl s) := ⟨_, rfl⟩
  obtain ⟨B, hB⟩ : ∃ B, B = isNum (bl s) := ⟨_, rfl⟩
  rw [← hV, ← hB]
  have HV := Hid.mk2 hV
  have HB := Hid.mk2 hB
  have hbl : bl s = [48] := by rw [hs]; rfl
  have HNE : Hid (bl s ≠ []) := show bl s ≠ [] by rw [hbl]; simp
  have HH : Hid ((bl s).head? ≠ some 48 ∨ (bl s).length ≤ 1) := Or.inr (by rw [hbl]; simp)
  have h1 := not_empty HNE.out
  have hl := bl_len s
  have hl1 : (bl s).length = 1 := by rw [hbl]; rfl
  have HL : Hid (s.size ≤ 20) := show s.size ≤ 20 by omega
  have h2' : ¬ ((20 : Int) < (s.size : Int)) := by omega
  have hx := idx_of s 0 (by omega) (by omega)
  have hx' : ∀ W, (Instr.index 9 (.string s) (.int .i64 0)).run Tryd.prog W = .ok (.int .u8 48) W := by
    intro W
    have := hx W
    rw [show (bl s)[0]'(by omega) = 48 by simp [hbl]] at this
    exact this
  have hne : (s.toList == [48]) = true := by
    rw [ByteArray.toList_eq]
    show (bl s == [48]) = true
    rw [hbl]
    rfl
  clear hV hB hs hbl hl hl1 hx
  go_enter Tryd.func77, Tryd.ntmps77
  go_wp2
  go_loopw [4, 5] (fun n i wr => ∃ (k m : Nat), i = .int .i64 k ∧ n = .int .u64 m ∧ wr = w ∧ k ≤ s.size ∧ Hid (Nk (bl s) k m)) (fun _ i _ => s.size - (RowKit.intOf i).toNat)
  case atStart => exact ⟨0, 0, rfl, rfl, rfl, Nat.zero_le _, Nk.start _⟩
  case round =>
    obtain ⟨k, m, rfl, rfl, rfl, hks, HK⟩ := hrel
    have hm : m < 18446744073709551616 := HK.out.lt
    by_cases hp : k < s.size
    · have hp2 : (k : Int) < (s.size : Int) := by omega
      have hp' : k < (bl s).length := by rw [bl_len]; exact hp
      have hxk := idx_of s k hp hp'
      obtain ⟨c, hc⟩ : ∃ c : Nat, c = (bl s)[k].toNat := ⟨_, rfl⟩
      rw [← hc] at hxk
      have hsz : s.size ≤ 20 := HL.out
      cases hd : isD (bl s)[k]
      · have hr : c < 48 ∨ 57 < c := by
          have hb : ¬ (48 ≤ (bl s)[k].toNat ∧ (bl s)[k].toNat ≤ 57) := by simpa [isD] using hd
          rw [← hc] at hb
          omega
        have e1 : isNum (bl s) = false := Nk.not_digit hp' hd
        have e2 : V = 0 := by rw [HV.out]; exact numV_not e1
        have e3 : B = false := by rw [HB.out]; exact e1
        subst e2 e3
        clear e1 hc hd HV HB HK hm HL
        rcases hr with hr | hr
        · have hr1 : (c : Int) < 48 := by omega
          clear hr
          go_wp2
          go_ret2
          exact ⟨rfl, rfl⟩
        · have hr1 : ¬ ((c : Int) < 48) := by omega
          have hr2 : (57 : Int) < (c : Int) := by omega
          clear hr
          go_wp2
          go_ret2
          exact ⟨rfl, rfl⟩
      · have hb : 48 ≤ c ∧ c ≤ 57 := by
          have hb : 48 ≤ (bl s)[k].toNat ∧ (bl s)[k].toNat ≤ 57 := by simpa [isD] using hd
          rw [← hc] at hb
          exact hb
        obtain ⟨d, hdd⟩ : ∃ d, d = dv (bl s)[k] := ⟨_, rfl⟩
        have hdc : c = 48 + d := by rw [hdd]; unfold dv; rw [← hc]; omega
        have hd10 : d < 10 := by omega
        subst hdc
        have hi1 : ((48 + d : Nat) : Int) = 48 + (d : Int) := by omega
        rw [hi1] at hxk
        have HDD := Hid.mk2 hdd
        have HD := Hid.mk2 hd
        clear hc hd hdd hi1 hb
        have hr1 : ¬ (48 + (d : Int) < 48) := by omega
        have hr2 : ¬ ((57 : Int) < 48 + (d : Int)) := by omega
        have hdg : (48 + (d : Int)) - 48 = (d : Int) := by omega
        by_cases hg : 10 * m + d < 18446744073709551616
        · have hs : Nk (bl s) (k + 1) (10 * m + d) := by
            have := HK.out.step' hp' HH.out HD.out (by rw [← HDD.out]; exact hg)
            rw [← HDD.out] at this
            exact this
          have HS := Hid.mk2 hs
          have hg1 : ¬ ((18446744073709551615 - (d : Int)) / 10 < (m : Int)) := by omega
          have hg2 : 10 * (m : Int) + (d : Int) < 18446744073709551616 := by omega
          have hg3 : 10 * (m : Int) < 18446744073709551616 := by omega
          clear hs HK HD HDD HV HB hg HL
          go_wp2
          go_roundw
          case rel => exact ⟨k + 1, 10 * m + d, by go_num, by go_num, by first | rfl | trivial, hp, HS⟩
          case measure => simp [RowKit.intOf]; omega
        · have e1 : isNum (bl s) = false := HK.out.beyond hp' (by rw [← HDD.out]; exact hg)
          have e2 : V = 0 := by rw [HV.out]; exact numV_not e1
          have e3 : B = false := by rw [HB.out]; exact e1
          subst e2 e3
          have hg1 : ((18446744073709551615 - (d : Int)) / 10 < (m : Int)) := by omega
          clear e1 HV HB HK HD HDD hg HL
          go_wp2
          go_ret2
          exact ⟨rfl, rfl⟩
    · have hp2 : ¬ ((k : Int) < (s.size : Int)) := by omega
      have hk : k = (bl s).length := by rw [bl_len]; omega
      rw [hk] at HK
      obtain ⟨e1, e5⟩ := HK.out.fin HNE.out
      have e2 : V = m := by rw [HV.out]; exact e5
      have e3 : B = true := by rw [HB.out]; exact e1
      subst e2 e3
      clear e1 e5 HV HB HK hk hp HL
      go_wp2
      go_ret2
      exact ⟨rfl, rfl⟩

theorem rnumber_any (s : ByteArray) (w : World) :
    Calls Tryd.prog 77 #[.string s] w fun e w' => e = .returned (.tuple #[.int .u64 (numV (bl s)), .bool (isNum (bl s))]) ∧ w' = w := by
  by_cases h : bl s = [] ∨ 20 < (bl s).length ∨ ((bl s).head? = some 48 ∧ bl s ≠ [48])
  · have e1 : isNum (bl s) = false := by
      cases hi : isNum (bl s)
      · rfl
      · obtain ⟨p1, p2, p3, p4, p5⟩ := isNum_parts hi
        rcases h with h | h | ⟨h, h'⟩
        · exact absurd h p1
        · omega
        · rcases p3 with p3 | p3
          · exact absurd h p3
          · exact absurd p3 h'
    rw [numV_not e1, e1]
    exact rnumber_no s w h
  · have h0 : bl s ≠ [] := fun e => h (.inl e)
    have h2 : (bl s).length ≤ 20 := by
      rcases Nat.lt_or_ge 20 (bl s).length with h1 | h1
      · exact absurd (.inr (.inl h1)) h
      · exact h1
    by_cases h3 : (bl s).head? = some 48
    · have h4 : bl s = [48] := by
        by_cases h5 : bl s = [48]
        · exact h5
        · exact absurd (.inr (.inr ⟨h3, h5⟩)) h
      have h6 : s = ⟨#[48]⟩ := bl_inj (by rw [h4]; rfl)
      subst h6
      exact rnumber_nought w
    · exact rnumber_loop s w h0 h2 h3

theorem slice_dig (n : Nat) (h : n < 10) (w : World) : (Instr.slice 9 (.string ⟨#[48, 49, 50, 51, 52, 53, 54, 55, 56, 57]⟩) (some (.int .u64 (n : Int))) (some (.int .u64 ((n : Int) + 1))) none).run Tryd.prog w = .ok (.string ⟨(decL n).toArray⟩) w := by
  rw [run_slice_string w 9 _ .u64 .u64 _ _ Tryd.underlying9 (by omega) (by omega) (by show (n : Int) + 1 ≤ 10; omega), show ((n : Int)).toNat = n by omega, show ((n : Int) + 1).toNat = n + 1 by omega, decL_small h]
  congr 2
  match n, h with
  | 0, _ => rfl
  | 1, _ => rfl
  | 2, _ => rfl
  | 3, _ => rfl
  | 4, _ => rfl
  | 5, _ => rfl
  | 6, _ => rfl
  | 7, _ => rfl
  | 8, _ => rfl
  | 9, _ => rfl
theorem str_app (l m : List UInt8) : (⟨l.toArray⟩ : ByteArray) ++ ⟨m.toArray⟩ = ⟨(l ++ m).toArray⟩ := by
  apply bl_inj
  simp [bl, ByteArray.data_append]
theorem rtext_any : ∀ (f n : Nat), n < f → n < 18446744073709551616 → ∀ w : World,
    Calls Tryd.prog 54 #[.int .u64 n] w fun e w' => e = .returned (.string ⟨(decL n).toArray⟩) ∧ w' = w
  | 0, n, h, _, _ => absurd h (by omega)
  | f + 1, n, h, hn, w => by
    by_cases h10 : n < 10
    · have hs := slice_dig n h10
      obtain ⟨X, hX⟩ : ∃ X : ByteArray, X = ⟨(decL n).toArray⟩ := ⟨_, rfl⟩
      rw [← hX] at hs ⊢
      have h10' : (n : Int) < 10 := by omega
      clear hX
      go_enter Tryd.func54, Tryd.ntmps54
      go_wp2
      go_ret
      exact ⟨rfl, rfl⟩
    · have HR := Hid.mk2 (fun m hm hm2 W => rtext_any f m hm hm2 W)
      obtain ⟨q, hq⟩ : ∃ q, q = n / 10 := ⟨_, rfl⟩
      obtain ⟨r, hr⟩ : ∃ r, r = n % 10 := ⟨_, rfl⟩
      obtain ⟨X, hX⟩ : ∃ X : ByteArray, X = ⟨(decL q).toArray⟩ := ⟨_, rfl⟩
      obtain ⟨Y, hY⟩ : ∃ Y : ByteArray, Y = ⟨(decL r).toArray⟩ := ⟨_, rfl⟩
      have hZ : (⟨(decL n).toArray⟩ : ByteArray) = X ++ Y := by
        rw [hX, hY, str_app, decL_great h10, hq, hr, decL_small (n := n % 10) (Nat.mod_lt _ (by decide))]
      rw [hZ]
      have h10' : ¬ ((n : Int) < 10) := by omega
      have hq' : (n : Int) / 10 = (q : Int) := by omega
      have hr' : (n : Int) % 10 = (r : Int) := by omega
      have hqf : q < f := by omega
      have hrf : r < f := by omega
      have hqb : q < 18446744073709551616 := by omega
      have hrb : r < 18446744073709551616 := by omega
      have hsz : ¬ 9223372036854775807 < X.size + Y.size := by
        have e1 := bl_len X
        have e2 := bl_len Y
        rw [hX, bl_mk] at e1
        rw [hY, bl_mk] at e2
        rw [← hX] at e1
        rw [← hY] at e2
        have e3 := decL_len 19 q (Nat.lt_of_lt_of_le hqb (by decide))
        have e4 := decL_len 19 r (Nat.lt_of_lt_of_le hrb (by decide))
        omega
      have HX := Hid.mk2 hX
      have HY := Hid.mk2 hY
      clear hX hY hZ hq hr
      go_enter Tryd.func54, Tryd.ntmps54
      go_wp2_with (go_at_call 54; refine (HR.out _ (by first | exact hqf | exact hrf) (by first | exact hqb | exact hrb) _).mono ?_; rintro e w1 ⟨rfl, rfl⟩; (first | rw [← HX.out] | rw [← HY.out]))
      go_ret
      exact ⟨rfl, rfl⟩

theorem rtext_b (n : Nat) (h : n < 18446744073709551616) (w : World) :
    Calls Tryd.prog 54 #[.int .u64 n] w fun e w' => e = .returned (.string ⟨(decL n).toArray⟩) ∧ w' = w := rtext_any (n + 1) n (by omega) h w

end Go.Proofs.YtihcnjbnlcgcoaaDoor.It
