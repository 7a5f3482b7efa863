/-
  (shaken)
-/
import Derived.Test.YtihcnjbnlcgcoaaDoorItPure
import Derived.Test.YtihcnjbnlcgcoaaDoorItFn
import Derived.Laws.RangeAny
import Derived.LoopTactic
namespace Go.Proofs.YtihcnjbnlcgcoaaDoor.It
open Go.RowKit
set_option linter.unusedSimpArgs false
set_option linter.unusedVariables false
set_option maxRecDepth 100000

/-- a string's bytes -/
def bl (s : ByteArray) : List UInt8 := s.data.toList
theorem bl_mk (l : List UInt8) : bl ⟨l.toArray⟩ = l := by simp [bl]
theorem bl_len (s : ByteArray) : (bl s).length = s.size := Array.length_toList
theorem bl_get (s : ByteArray) (k : Nat) (h : k < s.size) (h' : k < (bl s).length) : s[k]'h = (bl s)[k] := by simp [bl]; rfl
theorem bl_inj {s t : ByteArray} (h : bl s = bl t) : s = t := by
  cases s; cases t
  simp [bl] at h
  rw [h]
theorem mk_bl (s : ByteArray) : (⟨(bl s).toArray⟩ : ByteArray) = s := by cases s; simp [bl]

/-- what the loop knows behind k bytes -/
structure Nk (l : List UInt8) (k : Nat) (n : Nat) : Prop where
  le : k ≤ l.length
  dig : (l.take k).all isD = true
  val : n = valL (l.take k)
  lt : n < 18446744073709551616
  head : k ≤ 1 ∨ l.head? ≠ some 48
theorem Nk.start (l : List UInt8) : Nk l 0 0 := ⟨Nat.zero_le _, by simp, by simp [valL], by decide, .inl (by decide)⟩
theorem all_take {l : List UInt8} {k : Nat} (h : k < l.length) (hd : (l.take k).all isD = true) (hb : isD l[k] = true) : (l.take (k + 1)).all isD = true := by
  rw [List.take_add_one, List.getElem?_eq_getElem h, List.all_append, hd]
  simp [hb]
theorem Nk.step {l : List UInt8} {k n : Nat} (h : Nk l k n) (hk : k < l.length) (hb : isD l[k] = true) (h0 : ¬ (0 < k ∧ n = 0)) (hr : 10 * n + dv l[k] < 18446744073709551616) : Nk l (k + 1) (10 * n + dv l[k]) where
  le := hk
  dig := all_take hk h.dig hb
  val := by rw [valL_take hk, ← h.val]
  lt := hr
  head := by
    by_cases hk0 : k = 0
    · left; omega
    · right
      intro he
      apply h0
      refine ⟨by omega, ?_⟩
      rcases h.head with h1 | h1
      · have hk1 : k = 1 := by omega
        subst hk1
        rw [h.val]
        match l, he, hk with
        | a :: l, he, hk =>
          simp at he
          subst he
          simp [valL, dv]
      · exact absurd he h1
/-- a byte that is no digit -/
theorem Nk.not_digit {l : List UInt8} {k : Nat} (hk : k < l.length) (hb : isD l[k] = false) : isNum l = false := by
  cases h : isNum l
  · rfl
  · have := (isNum_parts h).2.2.2.1
    rw [List.all_eq_true] at this
    rw [this _ (List.getElem_mem hk)] at hb
    cases hb
/-- a nought ahead -/
theorem Nk.nought {l : List UInt8} {k : Nat} {n : Nat} (h : Nk l k n) (hk : k < l.length) (h0 : 0 < k) (hn : n = 0) : isNum l = false := by
  cases hi : isNum l
  · rfl
  · obtain ⟨p1, p2, p3, p4, p5⟩ := isNum_parts hi
    rcases p3 with p3 | p3
    · have hne : l.take k ≠ [] := by
        intro e
        rw [List.take_eq_nil_iff] at e
        rcases e with e | e
        · omega
        · exact p1 e
      have hh : (l.take k).head? ≠ some 48 := by
        match l, k, h0 with
        | [], _, _ => simp
        | a :: l, k + 1, _ => simpa using p3
      have := valL_pos hne h.dig hh
      rw [← h.val] at this
      omega
    · rw [p3] at hk
      simp at hk
      omega
/-- beyond the greatest -/
theorem Nk.beyond {l : List UInt8} {k n : Nat} (h : Nk l k n) (hk : k < l.length) (hr : ¬ 10 * n + dv l[k] < 18446744073709551616) : isNum l = false := by
  cases hi : isNum l
  · rfl
  · obtain ⟨p1, p2, p3, p4, p5⟩ := isNum_parts hi
    have h1 := valL_take hk
    rw [← h.val] at h1
    have h2 := valL_take_le l (k + 1)
    omega
theorem Nk.fin {l : List UInt8} {n : Nat} (h : Nk l l.length n) (hne : l ≠ []) : isNum l = true ∧ numV l = n := by
  have hd := h.dig
  have hv := h.val
  rw [List.take_length] at hd hv
  have hl : l.length ≤ 20 := by
    rcases h.head with h1 | h1
    · omega
    · match l, hne, hd, hv, h1 with
      | a :: l, _, hd, hv, h1 =>
        have ha : isD a = true := by simp at hd; exact hd.1
        have hp : 1 ≤ dv a := by
          have h2 : 48 ≤ a.toNat ∧ a.toNat ≤ 57 := by simpa [isD] using ha
          unfold dv
          have : a.toNat ≠ 48 := by
            intro e
            apply h1
            have : a = 48 := UInt8.toNat_inj.1 e
            rw [this]
            rfl
          omega
        have h3 := valL_cons_le a l (dv a)
        have h4 : valL (a :: l) = l.foldl (fun n b => 10 * n + dv b) (dv a) := by simp [valL]
        rw [← h4, ← hv] at h3
        have hlt := h.lt
        rcases Nat.lt_or_ge l.length 20 with h5 | h5
        · simp; omega
        · have h6 : 10 ^ 20 ≤ 10 ^ l.length := Nat.pow_le_pow_right (by decide) h5
          have h7 : 10 ^ l.length ≤ dv a * 10 ^ l.length := Nat.le_mul_of_pos_left _ hp
          have h8 : (10 : Nat) ^ 20 = 100000000000000000000 := by decide
          omega
  have hi : isNum l = true := by
    unfold isNum
    have hlt := h.lt
    rw [hv] at hlt
    have hh : l.head? ≠ some 48 ∨ l = [48] := by
      rcases h.head with h1 | h1
      · match l, hne, h1 with
        | [a], _, _ =>
          by_cases ha : a = 48
          · right; rw [ha]
          · left; simpa using ha
      · exact .inl h1
    simp only [Bool.and_eq_true, Bool.or_eq_true, decide_eq_true_eq]
    exact ⟨⟨⟨⟨hne, hl⟩, hh⟩, hd⟩, hlt⟩
  exact ⟨hi, by unfold numV; rw [if_pos hi, hv]⟩
theorem numV_not {l : List UInt8} (h : isNum l = false) : numV l = 0 := by unfold numV; rw [h]; rfl

/-- what the range gives at a byte -/
theorem rune_digit (s : ByteArray) (k : Nat) (h : k < s.size) (h' : k < (bl s).length) (hd : isD (bl s)[k] = true) : (Utf8.decode s k).1 = 48 + dv (bl s)[k] ∧ (Utf8.decode s k).2 = 1 := by
  have hb : 48 ≤ (bl s)[k].toNat ∧ (bl s)[k].toNat ≤ 57 := by simpa [isD] using hd
  rw [← bl_get s k h h'] at hb
  rw [decode_ascii s k h (by omega), ← bl_get s k h h']
  refine ⟨?_, rfl⟩
  unfold dv
  show (s[k]).toNat = _
  omega
theorem rune_not (s : ByteArray) (k : Nat) (h : k < s.size) (h' : k < (bl s).length) (hd : isD (bl s)[k] = false) : (Utf8.decode s k).1 < 48 ∨ 57 < (Utf8.decode s k).1 := by
  have hb : ¬ (48 ≤ (bl s)[k].toNat ∧ (bl s)[k].toNat ≤ 57) := by simpa [isD] using hd
  rw [← bl_get s k h h'] at hb
  by_cases ha : (s[k]'h).toNat < 128
  · rw [decode_ascii s k h ha]
    show (s[k]).toNat < 48 ∨ 57 < (s[k]).toNat
    omega
  · right
    have := (decode_high s k h (by omega)).1
    omega

set_option maxHeartbeats 4000000 in
theorem number_any (s : ByteArray) (w : World) :
    Calls Tryd.prog 82 #[.string s] w fun e w' => e = .returned (.tuple #[.int .u64 (numV (bl s)), .bool (isNum (bl s))]) ∧ ∃ pos, w' = w.iter s pos := by
  obtain ⟨V, hV⟩ : ∃ V, V = numV (bl s) := ⟨_, rfl⟩
  obtain ⟨B, hB⟩ : ∃ B, B = isNum (bl s) := ⟨_, rfl⟩
  rw [← hV, ← hB]
  have HV := Hid.mk2 hV
  have HB := Hid.mk2 hB
  clear hV hB
  go_enter Tryd.func82, Tryd.ntmps82
  go_wp2
  go_loopw [4] (fun n wr => ∃ (k m : Nat), wr = w.iter s k ∧ n = .int .u64 m ∧ Hid (Nk (bl s) k m)) (fun _ wr => s.size - wr.iterPos w.heap.size)
  case atStart => exact ⟨0, 0, rfl, rfl, Nk.start _⟩
  case round =>
    obtain ⟨k, m, rfl, rfl, HK⟩ := hrel
    have hm : m < 18446744073709551616 := HK.out.lt
    by_cases hp : k < s.size
    · have hp' : k < (bl s).length := by rw [bl_len]; exact hp
      have hnx : ∀ ty, (Instr.next (.pointer (some ⟨w.heap.size, 0, none⟩)) true ty).run Tryd.prog (w.iter s k) = _ := fun ty => run_next_any w s k ty hp
      obtain ⟨R, hR⟩ : ∃ R : Nat, R = (Utf8.decode s k).1 := ⟨_, rfl⟩
      obtain ⟨D, hD⟩ : ∃ D : Nat, D = (Utf8.decode s k).2 := ⟨_, rfl⟩
      rw [← hR, ← hD] at hnx
      cases hd : isD (bl s)[k]
      · have hr := rune_not s k hp hp' hd
        rw [← hR] at hr
        have e1 : isNum (bl s) = false := Nk.not_digit hp' hd
        have e2 : V = 0 := by rw [HV.out]; exact numV_not e1
        have e3 : B = false := by rw [HB.out]; exact e1
        subst e2 e3
        clear e1 hR hD hd HV HB HK hm
        rcases hr with hr | hr
        · have hr1 : decide ((R : Int) < 48) = true := by simp; omega
          clear hr
          go_wp2
          go_ret2
          exact ⟨rfl, _, rfl⟩
        · have hr1 : decide ((R : Int) < 48) = false := by simp; omega
          have hr2 : decide ((57 : Int) < (R : Int)) = true := by simp; omega
          clear hr
          go_wp2
          go_ret2
          exact ⟨rfl, _, rfl⟩
      · obtain ⟨hr1, hr2⟩ := rune_digit s k hp hp' hd
        rw [← hR] at hr1
        rw [← hD] at hr2
        subst hr2
        obtain ⟨d, hdd⟩ : ∃ d, d = dv (bl s)[k] := ⟨_, rfl⟩
        have hd10 : d < 10 := by rw [hdd]; exact dv_lt hd
        rw [← hdd] at hr1
        subst hr1
        have HDD := Hid.mk2 hdd
        have HD := Hid.mk2 hd
        clear hR hD hd hdd
        have hi1 : ((48 + d : Nat) : Int) = 48 + (d : Int) := by omega
        rw [hi1] at hnx
        clear hi1
        have hr1 : decide (48 + (d : Int) < 48) = false := by simp; omega
        have hr2 : decide ((57 : Int) < 48 + (d : Int)) = false := by simp; omega
        have hdg : (48 + (d : Int)) - 48 = (d : Int) := by omega
        by_cases h0 : 0 < k ∧ m = 0
        · have e1 : isNum (bl s) = false := HK.out.nought hp' h0.1 h0.2
          have e2 : V = 0 := by rw [HV.out]; exact numV_not e1
          have e3 : B = false := by rw [HB.out]; exact e1
          subst e2 e3
          obtain ⟨h01, rfl⟩ := h0
          have h02 : decide ((0 : Int) < (k : Int)) = true := by simp; omega
          clear e1 HV HB HK
          go_wp2
          go_ret2
          exact ⟨rfl, _, rfl⟩
        by_cases hg : 10 * m + d < 18446744073709551616
        · have hs : Nk (bl s) (k + 1) (10 * m + d) := by
            have := HK.out.step hp' HD.out h0 (by rw [← HDD.out]; exact hg)
            rw [← HDD.out] at this
            exact this
          have HS := Hid.mk2 hs
          have hg1 : ¬ ((18446744073709551615 - (d : Int)) / 10 < (m : Int)) := by omega
          have hg2 : 10 * (m : Int) + (d : Int) < 18446744073709551616 := by omega
          have hg3 : 10 * (m : Int) < 18446744073709551616 := by omega
          clear hs HK HD HDD HV HB hg
          by_cases hk : 0 < k
          · have hm0 : ((m : Int) == 0) = false := by
              have : ¬ m = 0 := fun e => h0 ⟨hk, e⟩
              simp; omega
            clear h0
            go_wp2
            go_roundw
            case rel => exact ⟨k + 1, 10 * m + d, rfl, by go_num, HS⟩
            case measure => simp; omega
          · clear h0
            go_wp2
            go_roundw
            case rel => exact ⟨k + 1, 10 * m + d, rfl, by go_num, HS⟩
            case measure => simp; omega
        · have e1 : isNum (bl s) = false := HK.out.beyond hp' (by rw [← HDD.out]; exact hg)
          have e2 : V = 0 := by rw [HV.out]; exact numV_not e1
          have e3 : B = false := by rw [HB.out]; exact e1
          subst e2 e3
          have hg1 : ((18446744073709551615 - (d : Int)) / 10 < (m : Int)) := by omega
          clear e1 HV HB HK HD HDD hg
          by_cases hk : 0 < k
          · have hm0 : ¬ m = 0 := fun e => h0 ⟨hk, e⟩
            clear h0
            go_wp2
            go_ret2
            exact ⟨rfl, _, rfl⟩
          · clear h0
            go_wp2
            go_ret2
            exact ⟨rfl, _, rfl⟩
    · have hnx : ∀ ty, (Instr.next (.pointer (some ⟨w.heap.size, 0, none⟩)) true ty).run Tryd.prog (w.iter s k) = _ := fun ty => run_next_end w s k ty hp
      have hk : k = (bl s).length := by rw [bl_len]; have := HK.out.le; rw [bl_len] at this; omega
      by_cases hs : s = ⟨#[]⟩
      · subst hs
        have e1 : isNum (bl ⟨#[]⟩) = false := by decide
        have e2 : V = 0 := by rw [HV.out]; exact numV_not e1
        have e3 : B = false := by rw [HB.out]; exact e1
        have e4 : m = 0 := by
          have := HK.out.val
          rw [this]
          simp [bl, valL]
        subst e2 e3 e4
        clear e1 HV HB HK hk hp
        go_wp2
        go_ret2
        exact ⟨rfl, _, rfl⟩
      · have hne : bl s ≠ [] := fun e => hs (bl_inj (by rw [e]; rfl))
        rw [hk] at HK
        obtain ⟨e1, e5⟩ := HK.out.fin hne
        have e2 : V = m := by rw [HV.out]; exact e5
        have e3 : B = true := by rw [HB.out]; exact e1
        subst e2 e3
        have hs1 : s.toList.isEmpty = false := by
          rw [ByteArray.toList_eq]
          show (bl s).isEmpty = false
          cases h : bl s with
          | nil => exact absurd h hne
          | cons a l => rfl
        have HS1 := Hid.mk2 hs1
        clear hs1
        clear e1 e5 HV HB HK hk hp hne
        go_wp2
        go_ret2
        refine ⟨?_, _, rfl⟩
        show Ending.returned (.tuple #[.int .u64 (V : Int), .bool (!s.toList.isEmpty)]) = _
        rw [HS1.out]
        rfl
end Go.Proofs.YtihcnjbnlcgcoaaDoor.It
