/-
  Package ticket: contracts of boxMayBe, leastAt, holdersAt.
-/
import Derived.Test.YtpnmokmadbapoaaTkF
namespace Go.Proofs.Ytpnmokmadbapoaa
open Go.RowKit
set_option linter.unusedSimpArgs false
set_option linter.unusedVariables false
set_option maxRecDepth 100000

theorem GRd.tks {w : World} {ao : Option Addr} {l : List Td} {cap : Nat} (h : GRd ET w ao l cap) (hne : l ≠ []) : ∃ b off, ao = some ⟨b, off, none⟩ ∧ b < w.heap.size ∧ ∀ i (hi : i < l.length), w.cell? ⟨b, off + i * 12, none⟩ = some (.int .i64 l[i].t.num) ∧ w.cell? ⟨b, off + i * 12 + 1, none⟩ = some (.int .u8 l[i].t.kind) ∧ w.cell? ⟨b, off + i * 12 + 2, none⟩ = some (.int .u8 l[i].t.c.kind) ∧ w.cell? ⟨b, off + i * 12 + 3, none⟩ = some (.int .i64 l[i].t.c.tenant) ∧ w.cell? ⟨b, off + i * 12 + 4, none⟩ = some (.slice l[i].so l[i].t.c.keys.length l[i].sc) ∧ w.cell? ⟨b, off + i * 12 + 5, none⟩ = some (.string l[i].t.c.value) ∧ w.cell? ⟨b, off + i * 12 + 6, none⟩ = some (.int .u32 l[i].t.c.flags) ∧ w.cell? ⟨b, off + i * 12 + 7, none⟩ = some (.int .i64 l[i].t.c.life) ∧ w.cell? ⟨b, off + i * 12 + 8, none⟩ = some (.int .u64 l[i].t.c.unique) ∧ w.cell? ⟨b, off + i * 12 + 9, none⟩ = some (.int .u64 l[i].t.c.by_) ∧ w.cell? ⟨b, off + i * 12 + 10, none⟩ = some (.int .i64 l[i].t.ten) ∧ w.cell? ⟨b, off + i * 12 + 11, none⟩ = some (.int .i64 l[i].t.dest) := by
  obtain ⟨b, off, e, hb, hc⟩ := h.tk hne
  refine ⟨b, off, e, hb, fun i hi => ?_⟩
  have h0 := hc i hi 0 (by simp [Td.cl, Tk.cl])
  have h1 := hc i hi 1 (by simp [Td.cl, Tk.cl])
  have h2 := hc i hi 2 (by simp [Td.cl, Tk.cl])
  have h3 := hc i hi 3 (by simp [Td.cl, Tk.cl])
  have h4 := hc i hi 4 (by simp [Td.cl, Tk.cl])
  have h5 := hc i hi 5 (by simp [Td.cl, Tk.cl])
  have h6 := hc i hi 6 (by simp [Td.cl, Tk.cl])
  have h7 := hc i hi 7 (by simp [Td.cl, Tk.cl])
  have h8 := hc i hi 8 (by simp [Td.cl, Tk.cl])
  have h9 := hc i hi 9 (by simp [Td.cl, Tk.cl])
  have h10 := hc i hi 10 (by simp [Td.cl, Tk.cl])
  have h11 := hc i hi 11 (by simp [Td.cl, Tk.cl])
  exact ⟨by simpa [Td.cl, Tk.cl, Td.v] using h0, by simpa [Td.cl, Tk.cl, Td.v] using h1, by simpa [Td.cl, Tk.cl, Td.v] using h2, by simpa [Td.cl, Tk.cl, Td.v] using h3, by simpa [Td.cl, Tk.cl, Td.v] using h4, by simpa [Td.cl, Tk.cl, Td.v] using h5, by simpa [Td.cl, Tk.cl, Td.v] using h6, by simpa [Td.cl, Tk.cl, Td.v] using h7, by simpa [Td.cl, Tk.cl, Td.v] using h8, by simpa [Td.cl, Tk.cl, Td.v] using h9, by simpa [Td.cl, Tk.cl, Td.v] using h10, by simpa [Td.cl, Tk.cl, Td.v] using h11⟩

/-- does it hold -/
noncomputable def tf (p : Prop) : Bool := @decide p (Classical.propDecidable p)
theorem tf_true {p : Prop} (h : p) : tf p = true := by unfold tf; exact @decide_eq_true p (Classical.propDecidable p) h
theorem tf_false {p : Prop} (h : ¬ p) : tf p = false := by unfold tf; exact @decide_eq_false p (Classical.propDecidable p) h
theorem tf_iff {p : Prop} : tf p = true ↔ p := ⟨fun h => Classical.byContradiction fun g => absurd ((tf_false g).symm.trans h) (by decide), tf_true⟩
/-- one box, up to a place -/
structure BI (next : Int) (l : List Tk) (last : Int) : Prop where
  may : ∀ t ∈ l, t.may = true
  lo : ∀ t ∈ l, 0 ≤ t.num
  hi : ∀ t ∈ l, t.num < next
  le : ∀ t ∈ l, t.num ≤ last
  rise : Tk.Rise Tk.num l
  low : -1 ≤ last
  at_ : last = -1 ∨ ∃ t ∈ l, t.num = last
theorem BI.nil (next : Int) : BI next [] (-1) := ⟨by simp, by simp, by simp, by simp, List.Pairwise.nil, by omega, .inl rfl⟩
theorem BI.more {next last : Int} {l : List Tk} {t : Tk} (h : BI next l last) (h1 : t.may = true) (h2 : last < t.num) (h3 : t.num < next) : BI next (l ++ [t]) t.num := by
  have hl := h.low
  refine ⟨?_, ?_, ?_, ?_, ?_, by omega, .inr ⟨t, by simp, rfl⟩⟩
  · intro u hu
    rcases List.mem_append.1 hu with g | g
    · exact h.may u g
    · rw [List.mem_singleton.1 g]; exact h1
  · intro u hu
    rcases List.mem_append.1 hu with g | g
    · exact h.lo u g
    · rw [List.mem_singleton.1 g]; omega
  · intro u hu
    rcases List.mem_append.1 hu with g | g
    · exact h.hi u g
    · rw [List.mem_singleton.1 g]; exact h3
  · intro u hu
    rcases List.mem_append.1 hu with g | g
    · have := h.le u g; omega
    · rw [List.mem_singleton.1 g]; omega
  · refine List.pairwise_append.2 ⟨h.rise, List.pairwise_singleton _ _, fun a ha b hb => ?_⟩
    rw [List.mem_singleton.1 hb]
    have := h.le a ha
    show a.num < t.num
    omega
theorem BI.ok {next last : Int} {l : List Tk} (h : BI next l last) (hl : l.length ≤ 256) : BxOk next l := ⟨hl, h.may, h.lo, h.hi, h.rise⟩
theorem BI.no {next last : Int} {l m : List Tk} {t : Tk} (h : BI next l last) (h1 : t.may = false ∨ t.num ≤ last ∨ next ≤ t.num) : ¬ BxOk next (l ++ t :: m) := by
  intro o
  have ht : t ∈ l ++ t :: m := by simp
  rcases h1 with g | g | g
  · have := o.may t ht; rw [g] at this; cases this
  · rcases h.at_ with e | ⟨u, hu, e⟩
    · have := o.lo t ht; omega
    · have := (List.pairwise_append.1 o.rise).2.2 u hu t (by simp)
      omega
  · have := o.hi t ht; omega
theorem take_step {α : Type} (L : List α) (k : Nat) (hk : k < L.length) : L.take (k + 1) = L.take k ++ [L[k]] := by rw [List.take_add_one, List.getElem?_eq_getElem hk]; rfl
theorem take_drop_step {α : Type} (L : List α) (k : Nat) (hk : k < L.length) : L = L.take k ++ L[k] :: L.drop (k + 1) := by
  have h1 := List.take_append_drop k L
  rw [List.drop_eq_getElem_cons hk] at h1
  exact h1.symm

set_option maxHeartbeats 2000000 in
theorem boxMayBe_any (l : List Td) (ao : Option Addr) (cap m : Nat) (hm : m = l.length) (next : Int) (w : World) (h : GRd ET w ao l cap) (hk : ∀ d ∈ l, GRd ES w d.so d.t.c.keys d.sc) :
    Calls Try.prog 76 #[.slice ao m cap, .int .i64 next] w fun e w' => e = .returned (.bool (tf (BxOk next (l.map Td.t)))) ∧ Below w.heap.size w w' := by
  subst hm
  have hlen := h.len
  have HR := Hid.mk2 h
  have HKS := Hid.mk2 hk
  obtain ⟨L, hL⟩ : ∃ L, L = l.map Td.t := ⟨_, rfl⟩
  have HLL : Hid (L.length = l.length) := by show _ = _; rw [hL]; simp
  have HLT : Hid (∀ k (hk : k < l.length) (hk' : k < L.length), L[k] = l[k].t) := by intro k hk hk'; subst hL; simp
  rw [← hL]
  have HT := Hid.mk2 (@tf_true (BxOk next L))
  have HF := Hid.mk2 (@tf_false (BxOk next L))
  obtain ⟨R, hR⟩ : ∃ R, R = tf (BxOk next L) := ⟨_, rfl⟩
  rw [← hR] at HT HF ⊢
  clear h hk hL hR
  by_cases h1 : 256 < l.length
  · have h1' : (256 : Int) < (l.length : Int) := by omega
    have eR := HF.out (fun o => absurd o.len (by rw [HLL.out]; omega))
    subst eR
    clear HT HF
    go_enter Try.func76, Try.ntmps76
    go_wp2
    go_ret
    exact ⟨rfl, Below.refl _ _⟩
  have h1' : ¬ ((256 : Int) < (l.length : Int)) := by omega
  have HL6 : Hid (L.length ≤ 256) := by show _ ≤ _; rw [HLL.out]; omega
  clear h1
  go_enter Try.func76, Try.ntmps76
  go_wp2
  go_loopw [5, 6, 12] (fun a _ i wr => ∃ (k : Nat) (last : Int), k ≤ l.length ∧ i = .int .i64 k ∧ a = .int .i64 last ∧ Hid (Below w.heap.size w wr) ∧ Hid (BI next (L.take k) last)) (fun _ _ i _ => l.length - (intOf i).toNat)
  case atStart => exact ⟨0, -1, Nat.zero_le _, rfl, rfl, Below.refl _ _, by show BI _ _ _; rw [List.take_zero]; exact BI.nil _⟩
  case round =>
    obtain ⟨k, last, hkn, rfl, rfl, HBW, HI⟩ := hrel
    by_cases hkl : k < l.length
    · have hkl2 : (k : Int) < (l.length : Int) := by omega
      have hne : l ≠ [] := by intro e; rw [e] at hkl; simp at hkl
      have hkL : k < L.length := by rw [HLL.out]; exact hkl
      obtain ⟨b, off, rfl, hbl, hcs⟩ := (HR.out.below HBW.out).tks hne
      obtain ⟨r0, r1, r2, r3, r4, r5, r6, r7, r8, r9, r10, r11⟩ := hcs k hkl
      have HM := Hid.mk2 (mayBe_any l[k].t l[k].so l[k].sc _ rfl wr ((HKS.out l[k] (List.getElem_mem hkl)).below HBW.out))
      have HNO : Hid (l[k].t.may = false ∨ l[k].t.num ≤ last ∨ next ≤ l[k].t.num → ¬ BxOk next L) := by
        intro g
        have := HI.out.no (m := L.drop (k + 1)) (t := L[k]) (by rw [HLT.out k hkl hkL]; exact g)
        rw [← take_drop_step L k hkL] at this
        exact this
      have HGO : Hid (l[k].t.may = true → last < l[k].t.num → l[k].t.num < next → BI next (L.take (k + 1)) l[k].t.num) := by
        intro g1 g2 g3
        have := HI.out.more g1 g2 g3
        rw [take_step L k hkL, HLT.out k hkl hkL]
        exact this
      obtain ⟨p, hpe⟩ : ∃ p, p = l[k] := ⟨_, rfl⟩
      rw [← hpe] at r0 r1 r2 r3 r4 r5 r6 r7 r8 r9 r10 r11 HM HNO HGO
      obtain ⟨⟨num, kind, ⟨ckind, tenant, keys, value, flags, life, unique, by_⟩, ten, dest⟩, so, sc⟩ := p
      unfold Tk.arr at HM
      dsimp only at *
      obtain ⟨Y, hY⟩ : ∃ Y, Y = Tk.may ⟨num, kind, ⟨ckind, tenant, keys, value, flags, life, unique, by_⟩, ten, dest⟩ := ⟨_, rfl⟩
      rw [← hY] at HM HNO HGO
      clear hcs hne hpe hkL hY HI
      cases Y
      · have eR := HF.out (HNO.out (.inl rfl))
        subst eR
        clear HNO HGO HT HF
        go_wp2_with (go_at_call 65; refine HM.out.mono ?_; rintro e w4 ⟨rfl, hb4⟩; have HB4 := Hid.mk2 hb4; clear hb4)
        go_ret
        exact ⟨rfl, g_on HBW.out HB4.out⟩
      by_cases g2 : num ≤ last
      · have eR := HF.out (HNO.out (.inr (.inl g2)))
        subst eR
        clear HNO HGO HT HF
        go_wp2_with (go_at_call 65; refine HM.out.mono ?_; rintro e w4 ⟨rfl, hb4⟩; have HB4 := Hid.mk2 hb4; have r0' := (hb4.cell (p := ⟨b, off + k * 12, none⟩) hbl).trans r0; clear hb4)
        go_ret
        exact ⟨rfl, g_on HBW.out HB4.out⟩
      by_cases g3 : next ≤ num
      · have eR := HF.out (HNO.out (.inr (.inr g3)))
        subst eR
        clear HNO HGO HT HF
        go_wp2_with (go_at_call 65; refine HM.out.mono ?_; rintro e w4 ⟨rfl, hb4⟩; have HB4 := Hid.mk2 hb4; have r0' := (hb4.cell (p := ⟨b, off + k * 12, none⟩) hbl).trans r0; clear hb4)
        go_ret
        exact ⟨rfl, g_on HBW.out HB4.out⟩
      have HI2 := Hid.mk2 (HGO.out rfl (by omega) (by omega))
      clear HNO HGO
      go_wp2_with (go_at_call 65; refine HM.out.mono ?_; rintro e w4 ⟨rfl, hb4⟩; have HB4 := Hid.mk2 hb4; have r0' := (hb4.cell (p := ⟨b, off + k * 12, none⟩) hbl).trans r0; clear hb4)
      go_roundw
      case rel => exact ⟨k + 1, num, by omega, by go_num, rfl, g_on HBW.out HB4.out, HI2⟩
      case measure => simp [intOf]; omega
    · have hkl2 : ¬ ((k : Int) < (l.length : Int)) := by omega
      have HO : Hid (BxOk next L) := by
        have h9 := HI.out
        rw [List.take_of_length_le (by rw [HLL.out]; omega)] at h9
        exact h9.ok HL6.out
      have eR := HT.out HO.out
      subst eR
      clear HI HT HF HO
      go_wp2
      go_ret
      exact ⟨rfl, HBW.out⟩

theorem bxs_dat {B : List Bx} {k : Nat} (hk : k < B.length) : bxs (dat B) k = B[k].l.map Td.t := by
  unfold bxs dat
  simp [List.getD_eq_getElem?_getD, List.getElem?_map, List.getElem?_eq_getElem hk]
theorem lft_dat_nil {B : List Bx} {P : Nat → Nat} {k : Nat} (hk : k < B.length) (h : B[k].l.length ≤ P k) : lft (dat B) P k = [] := by
  unfold lft
  rw [bxs_dat hk, List.drop_eq_nil_iff]
  simpa using h
theorem lft_dat_cons {B : List Bx} {P : Nat → Nat} {k : Nat} (hk : k < B.length) (h : P k < B[k].l.length) : lft (dat B) P k = B[k].l[P k].t :: (B[k].l.map Td.t).drop (P k + 1) := by
  unfold lft
  rw [bxs_dat hk, List.drop_eq_getElem_cons (by simpa using h)]
  simp
theorem holds_dat_no {B : List Bx} {P : Nat → Nat} {k : Nat} {t : Tk} (hk : k < B.length) (h : B[k].l.length ≤ P k) : holds (dat B) P t k = false := by
  cases e : holds (dat B) P t k with
  | false => rfl
  | true =>
    obtain ⟨l', h'⟩ := holds_iff.1 e
    rw [lft_dat_nil hk h] at h'
    cases h'
theorem holds_dat {B : List Bx} {P : Nat → Nat} {k : Nat} {t : Tk} (hk : k < B.length) (h : P k < B[k].l.length) : holds (dat B) P t k = decide (B[k].l[P k].t = t) := by
  rw [Bool.eq_iff_iff, holds_iff, lft_dat_cons hk h, decide_eq_true_iff]
  constructor
  · rintro ⟨l', e⟩; exact (List.cons.inj e).1
  · intro e; exact ⟨_, by rw [e]⟩
theorem Least.skip {q : List (List Tk)} {P : Nat → Nat} {k : Nat} {r : Int} (h : Least q P k r) (e : lft q P k = []) : Least q P (k + 1) r := by
  rcases h with ⟨h1, h2⟩ | ⟨s, t, l, h1, h2, h3, h4⟩
  · refine .inl ⟨h1, fun i hi => ?_⟩
    by_cases ei : i = k
    · rw [ei]; exact e
    · exact h2 i (by omega)
  · refine .inr ⟨s, t, l, h1, by omega, h3, fun i hi t' l' e' => ?_⟩
    by_cases ei : i = k
    · rw [ei, e] at e'; cases e'
    · exact h4 i (by omega) t' l' e'
theorem Least.first {q : List (List Tk)} {P : Nat → Nat} {k : Nat} {t : Tk} {l : List Tk} (h : ∀ i, i < k → lft q P i = []) (e : lft q P k = t :: l) : Least q P (k + 1) (k : Int) := by
  refine .inr ⟨k, t, l, rfl, by omega, e, fun i hi t' l' e' => ?_⟩
  by_cases ei : i = k
  · rw [ei, e] at e'; rw [(List.cons.inj e').1]; exact Int.le_refl _
  · rw [h i (by omega)] at e'; cases e'
theorem Least.less {q : List (List Tk)} {P : Nat → Nat} {k : Nat} {t t1 : Tk} {l : List Tk} (h : ∀ i, i < k → ∀ t' l', lft q P i = t' :: l' → t1.num ≤ t'.num) (e : lft q P k = t :: l) (hlt : t.num < t1.num) : Least q P (k + 1) (k : Int) := by
  refine .inr ⟨k, t, l, rfl, by omega, e, fun i hi t' l' e' => ?_⟩
  by_cases ei : i = k
  · rw [ei, e] at e'; rw [(List.cons.inj e').1]; exact Int.le_refl _
  · have := h i (by omega) t' l' e'; omega
theorem Least.stay {q : List (List Tk)} {P : Nat → Nat} {k s : Nat} {t t1 : Tk} {l l1 : List Tk} (hs : s < k) (e1 : lft q P s = t1 :: l1) (h : ∀ i, i < k → ∀ t' l', lft q P i = t' :: l' → t1.num ≤ t'.num) (e : lft q P k = t :: l) (hlt : ¬ t.num < t1.num) : Least q P (k + 1) (s : Int) := by
  refine .inr ⟨s, t1, l1, rfl, by omega, e1, fun i hi t' l' e' => ?_⟩
  by_cases ei : i = k
  · rw [ei, e] at e'; rw [← (List.cons.inj e').1]; omega
  · exact h i (by omega) t' l' e'
/-- places in their box -/
def plc (P : Nat → Nat) : List Value := [.int .i64 (P 0), .int .i64 (P 1), .int .i64 (P 2), .int .i64 (P 3)]
theorem plc_at {w : World} {b : Nat} {P : Nat → Nat} (h : GBx w b (plc P)) (k : Nat) (hk : k < 4) : w.cell? ⟨b, k, none⟩ = some (.int .i64 (P k)) := by
  have h9 := h.c k (by simpa [plc] using hk)
  rw [h9]
  have : k = 0 ∨ k = 1 ∨ k = 2 ∨ k = 3 := by omega
  rcases this with rfl | rfl | rfl | rfl <;> rfl
end Go.Proofs.Ytpnmokmadbapoaa
