/-
  The document's reading of answers: its numbers and its lines' ends.
-/
import Derived.Test.YtihcnjbnlcgcoaaDoorWoP
import Derived.Test.YtihcnjbnlcgcoaaDoorItRefB
namespace Go.Proofs.YtihcnjbnlcgcoaaDoor
open Go.Proofs.YtihcnjbnlcgcoaaDoor.It
open Go.RowKit
set_option linter.unusedSimpArgs false
set_option linter.unusedVariables false
set_option maxRecDepth 100000

theorem eol_hit : ∀ (l : List UInt8) (k : Nat), l[k]? = some 13 → l[k + 1]? = some 10 → (∀ j : Nat, j < k → ¬ (l[j]? = some 13 ∧ l[j + 1]? = some 10)) → eol l = some k
  | [], k, h, _, _ => by simp at h
  | [a], k, h, h2, _ => by simp at h2
  | a :: b :: l, 0, h, h2, _ => by
    simp at h h2
    unfold eol
    rw [if_pos ⟨h, h2⟩]
  | a :: b :: l, k + 1, h, h2, hn => by
    have h0 := hn 0 (by omega)
    unfold eol
    rw [if_neg (fun e => h0 (by simp [e.1, e.2]))]
    rw [eol_hit (b :: l) k (by simpa using h) (by simpa using h2) (fun j hj e => hn (j + 1) (by omega) (by simpa using e))]
    rfl
theorem eol_miss : ∀ (l : List UInt8), (∀ j : Nat, ¬ (l[j]? = some 13 ∧ l[j + 1]? = some 10)) → eol l = none
  | [], _ => rfl
  | [a], _ => rfl
  | a :: b :: l, hn => by
    have h0 := hn 0
    unfold eol
    rw [if_neg (fun e => h0 (by simp [e.1, e.2])), eol_miss (b :: l) (fun j e => hn (j + 1) (by simpa using e))]
    rfl
/-- where the document's first line ends -/
def lEnd (L : List UInt8) : Int := match eol (L.take 514) with | some e => (e : Int) | none => -1
theorem take_get (L : List UInt8) (n j : Nat) : (L.take n)[j]? = if j < n then L[j]? else none := by
  rw [List.getElem?_take]
theorem lEnd_hit {L : List UInt8} {k : Nat} (h5 : k ≤ 512) (h : L[k]? = some 13) (h2 : L[k + 1]? = some 10) (hn : ∀ j : Nat, j < k → ¬ (L[j]? = some 13 ∧ L[j + 1]? = some 10)) : lEnd L = (k : Int) := by
  unfold lEnd
  rw [eol_hit (L.take 514) k (by rw [take_get, if_pos (by omega)]; exact h) (by rw [take_get, if_pos (by omega)]; exact h2) (fun j hj e => by
    rw [take_get, take_get, if_pos (by omega), if_pos (by omega)] at e
    exact hn j hj e)]
theorem lEnd_miss {L : List UInt8} {k : Nat} (hk : L.length ≤ k + 1 ∨ 512 < k) (hn : ∀ j : Nat, j < k → ¬ (L[j]? = some 13 ∧ L[j + 1]? = some 10)) : lEnd L = -1 := by
  unfold lEnd
  rw [eol_miss (L.take 514) (fun j e => by
    rw [take_get, take_get] at e
    by_cases hj : j < k
    · refine hn j hj ?_
      obtain ⟨e1, e2⟩ := e
      split at e1
      · split at e2
        · exact ⟨e1, e2⟩
        · cases e2
      · cases e1
    · obtain ⟨e1, e2⟩ := e
      split at e2
      · rename_i h1
        have hlt : j + 1 < L.length := by
          rcases Nat.lt_or_ge (j + 1) L.length with h | h
          · exact h
          · rw [List.getElem?_eq_none h] at e2; cases e2
        omega
      · cases e2)]

set_option maxHeartbeats 2000000 in
theorem rnum15_any (s : ByteArray) (m : Int) (w : World) : Calls Tryd.prog 58 #[.string s, .int .u64 m] w fun e w' => e = .returned (.tuple #[.int .u64 (numV (bl s)), .bool (isNum (bl s) && decide ((numV (bl s) : Int) ≤ m))]) ∧ w' = w := by
  have HN := Hid.mk2 (fun V => rnumber_any s V)
  obtain ⟨n, hn⟩ : ∃ n, n = numV (bl s) := ⟨_, rfl⟩
  obtain ⟨b, hb⟩ : ∃ b, b = isNum (bl s) := ⟨_, rfl⟩
  rw [← hn, ← hb] at HN
  rw [← hn, ← hb]
  clear hn hb
  go_enter Tryd.func58, Tryd.ntmps58
  cases b with
  | false =>
    go_wp2_with (go_at_call 77; refine (HN.out _).mono ?_; rintro e w1 ⟨rfl, hw1⟩; replace hw1 := hw1.symm; subst hw1)
    go_ret2
    exact ⟨rfl, rfl⟩
  | true =>
    by_cases h : (n : Int) ≤ m
    · have hd : decide ((n : Int) ≤ m) = true := by simpa using h
      go_wp2_with (go_at_call 77; refine (HN.out _).mono ?_; rintro e w1 ⟨rfl, hw1⟩; replace hw1 := hw1.symm; subst hw1)
      go_ret2
      exact ⟨by rw [hd]; rfl, rfl⟩
    · have hd : decide ((n : Int) ≤ m) = false := by simpa using h
      go_wp2_with (go_at_call 77; refine (HN.out _).mono ?_; rintro e w1 ⟨rfl, hw1⟩; replace hw1 := hw1.symm; subst hw1)
      go_ret2
      exact ⟨by rw [hd]; rfl, rfl⟩

set_option maxHeartbeats 4000000 in
theorem rlineEnd_any (w : World) (bo : Option Addr) (L : List UInt8) (bc : Nat) (hl : GRd EY w bo L bc) (N : Nat) (hN : N = L.length) (h17 : N ≤ 17000) :
    Calls Tryd.prog 33 #[.slice bo N bc] w fun e w' => e = .returned (.int .i64 (lEnd L)) ∧ w' = w := by
  have HH := Hid.mk2 (fun k => @lEnd_hit L k)
  have HM := Hid.mk2 (fun k => @lEnd_miss L k)
  have HL := Hid.mk2 hl
  have HN := Hid.mk2 hN
  obtain ⟨R, hR⟩ : ∃ R, R = lEnd L := ⟨_, rfl⟩
  rw [← hR] at HH HM ⊢
  clear hR hl hN
  go_enter Tryd.func33, Tryd.ntmps33
  go_wp2
  go_loopw [3] (fun i wr => ∃ k : Nat, k ≤ 513 ∧ i = .int .i64 k ∧ wr = w ∧ Hid (∀ j : Nat, j < k → ¬ (L[j]? = some 13 ∧ L[j + 1]? = some 10))) (fun i _ => 600 - (intOf i).toNat)
  case atStart => exact ⟨0, by omega, rfl, rfl, fun _ h => absurd h (by omega)⟩
  case round =>
    obtain ⟨k, hk, rfl, hwr, HA⟩ := hrel
    replace hwr := hwr.symm
    subst hwr
    by_cases h1 : k + 1 < N
    · have h1i : (k : Int) + 1 < (N : Int) := by omega
      by_cases h2 : k ≤ 512
      · have h2i : (k : Int) ≤ 512 := by omega
        have hkL : k < L.length := by rw [← HN.out]; omega
        have hkL1 : k + 1 < L.length := by rw [← HN.out]; omega
        have hne : L ≠ [] := by intro e; rw [e] at hkL; simp at hkL
        obtain ⟨b, off, rfl, hbl, hcs⟩ := HL.out.uy hne
        have r0 := hcs k hkL
        have r1 := hcs (k + 1) hkL1
        have g0 : L[k]? = some L[k] := List.getElem?_eq_getElem hkL
        have g1 : L[k + 1]? = some L[k + 1] := List.getElem?_eq_getElem hkL1
        have HHK := Hid.mk2 (fun h h' => HH.out k h2 h h' HA.out)
        have HAN : Hid (¬ (L[k]? = some 13 ∧ L[k + 1]? = some 10) → ∀ j : Nat, j < k + 1 → ¬ (L[j]? = some 13 ∧ L[j + 1]? = some 10)) := fun h j hj => by
          by_cases e : j = k
          · subst e; exact h
          · exact HA.out j (by omega)
        obtain ⟨c, hc⟩ : ∃ c, c = L[k] := ⟨_, rfl⟩
        obtain ⟨d, hd⟩ : ∃ d, d = L[k + 1] := ⟨_, rfl⟩
        rw [← hc] at r0 g0
        rw [← hd] at r1 g1
        rw [g0, g1] at HHK HAN
        have e1 : ((((⟨b, off, none⟩ : Addr)).off : Int) + ((k : Int) + 1)).toNat = off + (k + 1) := by simp; omega
        obtain ⟨q, hq⟩ : ∃ q : Nat, q = c.toNat := ⟨_, rfl⟩
        obtain ⟨p, hp⟩ : ∃ p : Nat, p = d.toNat := ⟨_, rfl⟩
        rw [← hq] at r0
        rw [← hp] at r1
        have HC : Hid (q = 13 ↔ c = 13) := by
          constructor
          · intro h; exact UInt8.toNat.inj (by rw [← hq, h]; rfl)
          · intro h; rw [hq, h]; rfl
        have HD : Hid (p = 10 ↔ d = 10) := by
          constructor
          · intro h; exact UInt8.toNat.inj (by rw [← hp, h]; rfl)
          · intro h; rw [hp, h]; rfl
        clear hc hd hq hp hcs hne hkL hkL1 g0 g1 HH HM HA
        by_cases hq13 : q = 13
        · have q13 : ((q : Int) == 13) = true := by rw [hq13]; rfl
          have hc13 := HC.out.1 hq13
          by_cases hp10 : p = 10
          · have p10 : ((p : Int) == 10) = true := by rw [hp10]; rfl
            have e := HHK.out (by rw [hc13]) (by rw [HD.out.1 hp10])
            have HE := Hid.mk2 e
            clear e hq13 hp10 hc13 HAN HHK
            go_wp2
            go_ret
            exact ⟨by rw [HE.out]; rfl, rfl⟩
          · have p10 : ((p : Int) == 10) = false := beq_eq_false_iff_ne.2 (show (p : Int) ≠ 10 by omega)
            have HG := Hid.mk2 (HAN.out (fun h => hp10 (HD.out.2 (Option.some.inj h.2))))
            clear hq13 hp10 hc13 HAN HHK
            go_wp2
            exact ⟨⟨k + 1, by omega, by go_num, by first | rfl | trivial, HG.out⟩, by simp [intOf]; omega⟩
        · have q13 : ((q : Int) == 13) = false := beq_eq_false_iff_ne.2 (show (q : Int) ≠ 13 by omega)
          have HG := Hid.mk2 (HAN.out (fun h => hq13 (HC.out.2 (Option.some.inj h.1))))
          clear hq13 HAN HHK
          go_wp2
          exact ⟨⟨k + 1, by omega, by go_num, by first | rfl | trivial, HG.out⟩, by simp [intOf]; omega⟩
      · have h2i : ¬ (k : Int) ≤ 512 := by omega
        have e := HM.out k (.inr (by omega)) HA.out
        have HE := Hid.mk2 e
        clear e HH HM HA
        go_wp2
        go_ret
        exact ⟨by rw [HE.out]; rfl, rfl⟩
    · have h1i : ¬ (k : Int) + 1 < (N : Int) := by omega
      have e := HM.out k (.inl (by rw [← HN.out]; omega)) HA.out
      have HE := Hid.mk2 e
      clear e HH HM HA
      go_wp2
      go_ret
      exact ⟨by rw [HE.out]; rfl, rfl⟩
end Go.Proofs.YtihcnjbnlcgcoaaDoor
