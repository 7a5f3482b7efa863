/-
  The library's DeleteFunc over a row of texts that the call made; the function that it asks may lay blocks of its own.
-/
import Derived.Test.YtiefdflkbihmkaaOrLc
import Derived.Laws.Rows
namespace Go.Proofs.Ytiefdflkbihmkaa
open Go.RowKit
set_option linter.unusedSimpArgs false
set_option linter.unusedVariables false
set_option maxRecDepth 100000

/-- the block g holds these texts, and maybe more behind; it may be written to -/
structure TRow (w : World) (g cap : Nat) (D : List ByteArray) : Prop where
  le : D.length ≤ cap
  ex : ∃ cur, w.heap[g]? = some (.cells cur 9 (0, 0)) ∧ cur.size = cap ∧ ∀ j (hj : j < D.length), cur[j]? = some (.string D[j])
theorem TRow.cell {w : World} {g cap : Nat} {D : List ByteArray} (h : TRow w g cap D) (j : Nat) (hj : j < D.length) : w.cell? ⟨g, j, none⟩ = some (.string D[j]) := by
  obtain ⟨cur, h1, h2, h3⟩ := h.ex
  rw [g_cell h1, h3 j hj]
theorem TRow.some {w : World} {g cap : Nat} {D : List ByteArray} (h : TRow w g cap D) (j : Nat) (hj : j < cap) : (w.cell? ⟨g, j, none⟩).isSome = true := by
  obtain ⟨cur, h1, h2, h3⟩ := h.ex
  rw [g_cell h1]
  simp [h2, hj]
theorem TRow.frozen {w : World} {g cap : Nat} {D : List ByteArray} (h : TRow w g cap D) (j : Nat) : w.frozen? ⟨g, j, none⟩ = false := by
  obtain ⟨cur, h1, h2, h3⟩ := h.ex
  exact g_frozen h1 j
theorem TRow.lt {w : World} {g cap : Nat} {D : List ByteArray} (h : TRow w g cap D) : g < w.heap.size := by
  obtain ⟨cur, h1, h2, h3⟩ := h.ex
  exact (Array.getElem?_eq_some_iff.1 h1).1
theorem TRow.below {w w' : World} {g cap : Nat} {D : List ByteArray} (h : TRow w g cap D) (hb : Below w.heap.size w w') : TRow w' g cap D := by
  obtain ⟨cur, h1, h2, h3⟩ := h.ex
  exact ⟨h.le, cur, (hb.block g h.lt).trans h1, h2, h3⟩
theorem TRow.set {w : World} {g cap : Nat} {D : List ByteArray} (h : TRow w g cap D) (i : Nat) (x : ByteArray) : TRow (w.setCell ⟨g, i, none⟩ (.string x)) g cap (D.set i x) := by
  obtain ⟨cur, h1, h2, h3⟩ := h.ex
  refine ⟨by simpa using h.le, cur.setIfInBounds i (.string x), heap_setCell_same w g i cur _ _ h1, by simpa using h2, fun j hj => ?_⟩
  have hj' : j < D.length := by simpa using hj
  have hjc : j < cur.size := by have := h.le; omega
  by_cases e : i = j
  · subst e
    simp [hjc]
  · rw [Array.getElem?_setIfInBounds_ne e, h3 j hj', List.getElem_set_ne e]
theorem TRow.take {w : World} {g cap : Nat} {D : List ByteArray} (h : TRow w g cap D) (i : Nat) : TRow w g cap (D.take i) := by
  obtain ⟨cur, h1, h2, h3⟩ := h.ex
  refine ⟨by have := h.le; simp; omega, cur, h1, h2, fun j hj => ?_⟩
  have hj' : j < D.length := by simp at hj; omega
  rw [h3 j hj', List.getElem_take]
/-- what is written behind the first i counts for nothing -/
theorem TRow.wipe (g : Nat) : ∀ (vs : List Value) (w : World) (cap i : Nat) (D : List ByteArray), D.length ≤ i → TRow w g cap D → TRow (w.setCells g i vs) g cap D
  | [], _, _, _, _, _, h => h
  | v :: vs, w, cap, i, D, hi, h => by
    refine TRow.wipe g vs _ cap (i + 1) D (by omega) ?_
    obtain ⟨cur, h1, h2, h3⟩ := h.ex
    refine ⟨h.le, cur.setIfInBounds i v, heap_setCell_same w g i cur _ _ h1, by simpa using h2, fun j hj => ?_⟩
    rw [Array.getElem?_setIfInBounds_ne (by omega), h3 j hj]
theorem wipe_grown (g : Nat) : ∀ (vs : List Value) (w : World) (i : Nat), w.grownBy (w.setCells g i vs) (.some g)
  | [], w, _ => World.grownBy.refl w _
  | v :: vs, w, i => (g_set w ⟨g, i, none⟩ v).trans (wipe_grown g vs _ (i + 1))
theorem TRow.of {w : World} {base g n cap : Nat} {D : List ByteArray} (h : GOwn ES w base (.slice (.some ⟨g, 0, none⟩) n cap) D) : TRow w g cap D ∧ n = D.length ∧ base ≤ g ∧ cap ≤ 9223372036854775807 := by
  rcases h.parts okS with ⟨e, _⟩ | ⟨g', cap', cur, e, hb, hg, hs, hn, hm, hc⟩
  · cases e
  · injection e with e1 e2 e3
    injection e1 with e4
    injection e4 with e5
    subst e5 e3
    refine ⟨⟨hn, cur, hg, by simpa [ES] using hs, fun j hj => ?_⟩, e2, hb, hm⟩
    have := hc j hj 0 (by decide)
    rw [g_cell hg] at this
    simpa [ES] using this
theorem es_flat : ∀ D : List ByteArray, D.flatMap ES.cells = D.map Value.string
  | [] => rfl
  | a :: D => by rw [List.flatMap_cons, es_flat D]; rfl
theorem TRow.own {w : World} {base g cap : Nat} {D : List ByteArray} (h : TRow w g cap D) (hb : base ≤ g) (hm : cap ≤ 9223372036854775807) : GOwn ES w base (.slice (.some ⟨g, 0, none⟩) D.length cap) D := by
  obtain ⟨cur, h1, h2, h3⟩ := h.ex
  refine ⟨okS.flat_len D, .inr ⟨g, cap, cur, rfl, hb, h1, h.le, hm, by simp [ES, h2], ?_⟩⟩
  have hle := h.le
  apply List.ext_getElem?
  intro j
  have hf : (D.flatMap ES.cells)[j]? = D[j]?.map Value.string := by
    rw [es_flat, List.getElem?_map]
  rw [hf]
  by_cases hj : j < D.length
  · have := h3 j hj
    rw [List.getElem?_take, if_pos (by simpa [ES] using hj), List.getElem?_eq_getElem hj]
    simpa using this
  · rw [List.getElem?_take, if_neg (by simpa [ES] using hj), List.getElem?_eq_none (by omega)]
    rfl

/-- what stands in the row while it is gone through: of the first j those that stay, in front; the rest as it was -/
structure DelI (p : ByteArray → Bool) (L D : List ByteArray) (i j : Nat) : Prop where
  len : D.length = L.length
  ij : i < j
  jl : j ≤ L.length
  front : D.take i = (L.take j).filter fun x => !p x
  rest : D.drop j = L.drop j
theorem DelI.start {p : ByteArray → Bool} {L : List ByteArray} {k : Nat} (hk : k < L.length) (h : p L[k] = true) (ha : ∀ j (hj : j < L.length), j < k → p L[j] = false) : DelI p L L k (k + 1) := by
  refine ⟨rfl, by omega, by omega, ?_, rfl⟩
  rw [List.take_add_one, List.getElem?_eq_getElem hk, List.filter_append]
  have h1 : (L.take k).filter (fun x => !p x) = L.take k := by
    rw [List.filter_eq_self]
    intro x hx
    rw [List.mem_take_iff_getElem] at hx
    obtain ⟨j, hj, rfl⟩ := hx
    simp [ha j (by omega) (by omega)]
  rw [h1]
  simp [h]
theorem DelI.get {p : ByteArray → Bool} {L D : List ByteArray} {i j : Nat} (h : DelI p L D i j) (hj : j < L.length) (hj' : j < D.length) : D[j] = L[j] := by
  have h1 : (D.drop j)[0]? = (L.drop j)[0]? := by rw [h.rest]
  rw [List.getElem?_drop, List.getElem?_drop, Nat.add_zero, List.getElem?_eq_getElem hj, List.getElem?_eq_getElem hj'] at h1
  exact Option.some.inj h1
theorem DelI.skip {p : ByteArray → Bool} {L D : List ByteArray} {i j : Nat} (h : DelI p L D i j) (hj : j < L.length) (hp : p L[j] = true) : DelI p L D i (j + 1) := by
  refine ⟨h.len, by have := h.ij; omega, by omega, ?_, ?_⟩
  · rw [h.front, List.take_add_one, List.getElem?_eq_getElem hj, List.filter_append]
    simp [hp]
  · rw [← List.drop_drop, ← List.drop_drop, h.rest]
theorem DelI.keep {p : ByteArray → Bool} {L D : List ByteArray} {i j : Nat} (h : DelI p L D i j) (hj : j < L.length) (hp : p L[j] = false) : DelI p L (D.set i L[j]) (i + 1) (j + 1) := by
  have hij := h.ij
  have hl := h.len
  refine ⟨by simpa using hl, by omega, by omega, ?_, ?_⟩
  · rw [List.take_add_one, List.take_set, List.getElem?_set_self (by omega), List.take_add_one (i := j), List.getElem?_eq_getElem hj, List.filter_append, ← h.front]
    rw [List.set_eq_of_length_le (by simp; omega)]
    simp [hp]
  · rw [List.drop_set_of_lt (by omega), ← List.drop_drop, ← List.drop_drop, h.rest]

set_option maxHeartbeats 2000000 in
theorem deleteF_any (g : Nat) (lb : Array Value) (p : ByteArray → Bool) (L : List ByteArray) (base : Nat) (v : Value) (w : World) (eg : ∀ args w, (callFunc g args).run Try.prog w = .ok (.enter g args) w) (h : GOwn ES w base v L) (hf : FnSays w v.ownBlock g lb p L) :
    Calls Try.prog 33 #[v, .func (.func g) #[] lb] w fun e w' => ∃ v', e = .returned v' ∧ GOwn ES w' base v' (L.filter fun x => !p x) ∧ w.grownBy w' v.ownBlock := by
  obtain ⟨ao, cap, hv, hr⟩ := h.rd okS
  have HI := Hid.mk2 (indexF_any g lb p L ao cap w v.ownBlock eg hr hf)
  have hlen := hr.len
  by_cases hany : L.any p = true
  case neg =>
    have hall : ∀ j (hj : j < L.length), p L[j] = false := by
      intro j hj
      cases e : p L[j]
      · rfl
      · exact absurd (List.any_eq_true.2 ⟨L[j], List.getElem_mem hj, e⟩) hany
    have e1 : (L.filter fun x => !p x) = L := by
      rw [List.filter_eq_self]
      intro x hx
      obtain ⟨j, hj, rfl⟩ := List.getElem_of_mem hx
      simp [hall j hj]
    rw [e1]
    rw [ixF_miss hall] at HI
    have HO := Hid.mk2 h
    clear hany hall e1 h hf hr
    subst hv
    go_enter Try.func33, Try.ntmps33
    go_wp2_with (go_at_call 48; refine HI.out.mono ?_; rintro e w1 ⟨rfl, hb1⟩)
    go_ret
    exact ⟨_, rfl, HO.out.below hb1, g_grown hb1 _⟩
  case pos =>
    obtain ⟨x, hx, hpx⟩ := List.any_eq_true.1 hany
    have hk : L.findIdx p < L.length := List.findIdx_lt_length_of_exists ⟨x, hx, hpx⟩
    obtain ⟨k0, hk0⟩ : ∃ k0, k0 = L.findIdx p := ⟨_, rfl⟩
    rw [← hk0] at hk
    have hp0 : p L[k0] = true := by subst hk0; exact List.findIdx_getElem
    have ha0 : ∀ j (hj : j < L.length), j < k0 → p L[j] = false := by
      intro j hj hjk
      subst hk0
      have := List.not_of_lt_findIdx hjk
      simpa using this
    rw [ixF_hit hk hp0 ha0] at HI
    have HD0 := Hid.mk2 (DelI.start hk hp0 ha0)
    have HF := Hid.mk2 hf
    rcases h.parts okS with ⟨e, rfl⟩ | ⟨gb, cap', cur, e, hb, hg, hs, hn, hm, hc⟩
    · simp at hk
    rw [hv] at e
    injection e with e1 e2 e3
    subst e1 e3
    subst hv
    obtain ⟨hT, _, _, _⟩ := TRow.of h
    have HT := Hid.mk2 hT
    have HBS := Hid.mk2 hb
    have hkle : (k0 : Int) + 1 ≤ 9223372036854775807 := by omega
    have hne1 : ((k0 : Int) == -1) = false := beq_eq_false_iff_ne.2 (by omega)
    clear hany hx hpx hk0 hp0 ha0 hf hr h hb hg hs hc hT
    have hz : ∀ w, (zeroValue 9).run Try.prog w = .ok (Value.string ⟨#[]⟩) w := fun w => by kernel_rfl
    go_enter Try.func33, Try.ntmps33
    go_wp2_with (go_at_call 48; refine HI.out.mono ?_; rintro e w1 ⟨rfl, hb1⟩; have HB1 := Hid.mk2 hb1; clear hb1)
    go_loopw [5, 6, 7] (fun s5 s6 _ wr => ∃ (i j : Nat) (D : List ByteArray), j ≤ L.length ∧ i < j ∧ s5 = .int .i64 i ∧ s6 = .int .i64 j ∧ Hid (w.grownBy wr (.some gb)) ∧ Hid (TRow wr gb cap D) ∧ Hid (DelI p L D i j)) (fun _ s6 _ _ => L.length - (intOf s6).toNat)
    case atStart => exact ⟨k0, k0 + 1, L, by omega, by omega, rfl, by go_num, g_grown HB1.out _, HT.out.below HB1.out, HD0.out⟩
    case round =>
      obtain ⟨i, j, D, hjl, hij, rfl, rfl, HG, HT2, HD⟩ := hrel
      by_cases hjn : j < L.length
      · have hjn2 : (j : Int) < (L.length : Int) := by omega
        have hDl : D.length = L.length := HD.out.len
        have r0 := HT2.out.cell j (by omega)
        obtain ⟨y, hye⟩ : ∃ y, y = L[j] := ⟨_, rfl⟩
        rw [HD.out.get hjn (by omega), ← hye] at r0
        have HC := Hid.mk2 (HF.out wr HG.out y (by rw [hye]; exact List.getElem_mem hjn))
        obtain ⟨Y, hY⟩ : ∃ Y, Y = p y := ⟨_, rfl⟩
        rw [← hY] at HC
        cases Y
        · have HD2 := Hid.mk2 (HD.out.keep hjn (by rw [← hye, ← hY]))
          rw [← hye] at HD2
          have hil : i < L.length := by omega
          have hil2 : (i : Int) < (L.length : Int) := by omega
          obtain ⟨o, HQ⟩ : ∃ o, Hid (∀ w1, Below wr.heap.size wr w1 → w1.cell? ⟨gb, i, none⟩ = some (.string o) ∧ w1.frozen? ⟨gb, i, none⟩ = false) := ⟨D[i]'(by omega), fun w1 hb => ⟨(HT2.out.below hb).cell i (by omega), (HT2.out.below hb).frozen i⟩⟩
          clear hye hY HF hDl
          go_wp2_with (go_at_fn g; refine HC.out.mono ?_; rintro e w5 ⟨rfl, hb5⟩; obtain ⟨q1, q2⟩ := HQ.out _ hb5; have HB5 := Hid.mk2 hb5; clear hb5)
          go_roundw
          case rel => exact ⟨i + 1, j + 1, D.set i y, by omega, by omega, by go_num, by go_num, (HG.out.trans (g_grown HB5.out _)).trans (g_set _ ⟨gb, i, none⟩ _), (HT2.out.below HB5.out).set i y, HD2⟩
          case measure => simp [intOf]; omega
        · have HD2 := Hid.mk2 (HD.out.skip hjn (by rw [← hye, ← hY]))
          clear hye hY HF hDl
          go_wp2_with (go_at_fn g; refine HC.out.mono ?_; rintro e w5 ⟨rfl, hb5⟩; have HB5 := Hid.mk2 hb5; clear hb5)
          go_roundw
          case rel => exact ⟨i, j + 1, D, by omega, by omega, rfl, by go_num, HG.out.trans (g_grown HB5.out _), HT2.out.below HB5.out, HD2⟩
          case measure => simp [intOf]; omega
      · have hjn2 : ¬ (j : Int) < (L.length : Int) := by omega
        have hDl : D.length = L.length := HD.out.len
        have hfr := HD.out.front
        rw [List.take_of_length_le (by omega : L.length ≤ j)] at hfr
        have HFR := Hid.mk2 hfr
        have hil : i ≤ L.length := by omega
        have hil3 : i < L.length := by omega
        have hic : i ≤ cap := by omega
        have hic2 : i < cap := by omega
        have hne : ¬ cap = i := by omega
        have hlc : L.length ≤ cap := by omega
        have hcl : ∀ ty, (Builtin.clear_ #[23] ty #[.slice (.some ⟨gb, i, none⟩) (L.length - i) (cap - i)]).run Try.prog wr = .ok (.tuple #[]) (wr.setCells gb i (List.replicate (L.length - i) (.string ⟨#[]⟩))) :=
          fun ty => Lib.run_clear_slice wr _ _ ty _ Try.underlying23 hz rfl rfl gb i _ _ (by omega) (fun t ht => HT2.out.some _ (by omega)) (fun t ht => HT2.out.frozen _)
        clear hfr
        go_wp2
        go_ret
        have hTk := TRow.wipe gb (List.replicate (L.length - i) (.string ⟨#[]⟩)) wr cap i (D.take i) (by simp; omega) (HT2.out.take i)
        have hO := hTk.own (base := base) HBS.out hm
        refine ⟨_, rfl, ?_, HG.out.trans (wipe_grown gb _ wr i)⟩
        rw [← HFR.out]
        have e : (D.take i).length = i := by simp; omega
        rw [e] at hO
        exact hO
end Go.Proofs.Ytiefdflkbihmkaa
