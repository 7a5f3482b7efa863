/-
  Package lru: the contracts of Add, Hit, Del.
-/
import Derived.Test.YtmdlampmoeiihaaLrOut
namespace Go.Proofs.Ytmdlampmoeiihaa
open Go.RowKit Go.Shelf Go.Lib Go.Sort
set_option linter.unusedSimpArgs false
set_option linter.unusedVariables false
set_option maxRecDepth 100000

theorem ckw_ok {T K : List ByteArray} {key : ByteArray} (h : Ok T K) (hk : kOk key = true) : ckw T K key = 0 := by unfold ckw; rw [if_pos (okO_iff.2 h), if_pos hk]
theorem ckw_zero {T K : List ByteArray} {key : ByteArray} (h : ckw T K key = 0) : Ok T K ∧ kOk key = true := by
  unfold ckw at h
  by_cases h1 : okO T K = true
  · rw [if_pos h1] at h
    by_cases h2 : kOk key = true
    · exact ⟨okO_iff.1 h1, h2⟩
    · rw [if_neg h2] at h; simp at h
  · rw [if_neg h1] at h; simp at h
/-- P7.2: Add's errors -/
def adE (T K : List ByteArray) (key : ByteArray) : Int := if ckw T K key ≠ 0 then ckw T K key else if key ∈ K ++ T then 2 else if K.length + T.length = 256 then 9 else 0
/-- P7.2: those of Hit and Del -/
def htE (T K : List ByteArray) (key : ByteArray) : Int := if ckw T K key ≠ 0 then ckw T K key else if key ∈ K ++ T then 0 else 6
theorem adE_zero {T K : List ByteArray} {key : ByteArray} (h : adE T K key = 0) : Ok T K ∧ kOk key = true ∧ key ∉ K ++ T ∧ K.length + T.length < 256 := by
  unfold adE at h
  by_cases h1 : ckw T K key = 0
  · obtain ⟨a, b⟩ := ckw_zero h1
    rw [if_neg (by simpa using h1)] at h
    by_cases h2 : key ∈ K ++ T
    · rw [if_pos h2] at h; simp at h
    · rw [if_neg h2] at h
      by_cases h3 : K.length + T.length = 256
      · rw [if_pos h3] at h; simp at h
      · exact ⟨a, b, h2, by have := a.many; omega⟩
  · rw [if_pos h1] at h
    exact absurd h h1
theorem htE_zero {T K : List ByteArray} {key : ByteArray} (h : htE T K key = 0) : ckw T K key = 0 ∧ Ok T K ∧ kOk key = true ∧ key ∈ K ++ T := by
  unfold htE at h
  by_cases h1 : ckw T K key = 0
  · obtain ⟨a, b⟩ := ckw_zero h1
    rw [if_neg (by simpa using h1)] at h
    by_cases h2 : key ∈ K ++ T
    · exact ⟨h1, a, b, h2⟩
    · rw [if_neg h2] at h; simp at h
  · rw [if_pos h1] at h
    exact absurd h h1
theorem htE_in {T K : List ByteArray} {key : ByteArray} (h : Ok T K) (hk : key ∈ K ++ T) : htE T K key = 0 := by
  unfold htE
  rw [if_neg (by simp [ckw_ok h (h.keys key hk)]), if_pos hk]
theorem without_err (T K : List ByteArray) (aT aK : Option Addr) (cT cK : Nat) (key : ByteArray) (w : World) (hTl : Tl w aT T cT) (hKl : Tl w aK K cK) (hT : T.length ≤ 300) (hK : K.length ≤ 300) (hE : htE T K key ≠ 0) :
    Calls Try.prog 32 #[.agg #[.slice aT T.length cT, .slice aK K.length cK], .string key] w fun e w' => e = .returned (.tuple #[.agg #[.slice none 0 0, .slice none 0 0], .int .i64 (htE T K key)]) ∧ Below w.heap.size w w' := by
  unfold htE at hE ⊢
  by_cases h1 : ckw T K key = 0
  · rw [if_neg (by simpa using h1)] at hE ⊢
    by_cases h2 : key ∈ K ++ T
    · rw [if_pos h2] at hE
      exact absurd rfl hE
    · rw [if_neg h2]
      exact without_none T K aT aK cT cK key w hTl hKl hT hK h1 h2
  · rw [if_pos h1]
    exact without_bad T K aT aK cT cK key w hTl hKl hT hK h1
theorem hit_bad (T K : List ByteArray) (aT aK : Option Addr) (cT cK : Nat) (key : ByteArray) (w : World) (hTl : Tl w aT T cT) (hKl : Tl w aK K cK) (hT : T.length ≤ 300) (hK : K.length ≤ 300) (hE : htE T K key ≠ 0) :
    Calls Try.prog 12 #[.agg #[.slice aT T.length cT, .slice aK K.length cK], .string key] w fun e w' => e = .returned (.tuple #[.agg #[.slice none 0 0, .slice none 0 0], .int .i64 (htE T K key)]) ∧ Below w.heap.size w w' := by
  obtain ⟨w2, hw2, hb2, hA, hR, hs2⟩ := begin2 w (.slice aT T.length cT) (.slice aK K.length cK)
  have HC := Hid.mk2 (without_err T K aT aK cT cK key w2 (hTl.below hb2) (hKl.below hb2) hT hK hE)
  obtain ⟨E, hEE⟩ : ∃ E, E = htE T K key := ⟨_, rfl⟩
  rw [← hEE] at HC hE ⊢
  have hE2 : (E != 0) = true := by simpa using hE
  have hE3 : (E == 0) = false := by simpa using hE
  have HB2 := Hid.mk2 hb2
  have HR := Hid.mk2 hR
  have HA := Hid.mk2 hA
  clear hTl hKl hT hK hb2 hEE hA hR
  go_enter Try.func12, Try.ntmps12
  go_upto_region 1 with (fail)
  rw [← hw2]
  clear hw2
  obtain ⟨c0, c1, f0, f1, l0⟩ := HA.out
  obtain ⟨r0, r1, s0, s1, l1⟩ := HR.out
  go_wp2_with (go_at_call 32; refine HC.out.mono ?_; rintro e w3 ⟨rfl, hb3⟩; have HB3 := Hid.mk2 hb3; clear r0 r1 s0 s1 l1; obtain ⟨r0, r1, s0, s1, l1⟩ := HR.out.below hb3; have HR3 := Hid.mk2 (HR.out.below hb3); clear hb3)
  obtain ⟨q0, q1, _, _, _⟩ := ((HR3.out.alloc (Obj.cells #[.slice none 0 0, .slice none 0 0] 24)).set0 (.slice none 0 0)).set1 (.slice none 0 0)
  obtain ⟨p0, p1, _, _, _⟩ := (((HR3.out).set0 (.slice none 0 0)).set1 (.slice none 0 0)).alloc (Obj.cells #[.slice none 0 0, .slice none 0 0] 24)
  try simp only [Exit.inBlock, Exit.then]
  refine bodyPost_ret (v := .tuple #[.agg #[.slice none 0 0, .slice none 0 0], .int .i64 E]) (by simp [results, Try.results12, go_sem, q0, q1, p0, p1]) rfl ⟨rfl, ?_⟩
  have hb := HB2.out.trans (HB3.out.mono HB2.out.size)
  first
    | exact ((hb.alloc hb.size _).setCell (by simp) _).setCell (by simp) _
    | exact ((hb.setCell (by simp) _).setCell (by simp) _).alloc (by simpa using hb.size) _
theorem del_bad (T K : List ByteArray) (aT aK : Option Addr) (cT cK : Nat) (key : ByteArray) (w : World) (hTl : Tl w aT T cT) (hKl : Tl w aK K cK) (hT : T.length ≤ 300) (hK : K.length ≤ 300) (hE : htE T K key ≠ 0) :
    Calls Try.prog 13 #[.agg #[.slice aT T.length cT, .slice aK K.length cK], .string key] w fun e w' => e = .returned (.tuple #[.agg #[.slice none 0 0, .slice none 0 0], .int .i64 (htE T K key)]) ∧ Below w.heap.size w w' := by
  obtain ⟨w2, hw2, hb2, hA, hR, hs2⟩ := begin2 w (.slice aT T.length cT) (.slice aK K.length cK)
  have HC := Hid.mk2 (without_err T K aT aK cT cK key w2 (hTl.below hb2) (hKl.below hb2) hT hK hE)
  obtain ⟨E, hEE⟩ : ∃ E, E = htE T K key := ⟨_, rfl⟩
  rw [← hEE] at HC hE ⊢
  have hE2 : (E != 0) = true := by simpa using hE
  have hE3 : (E == 0) = false := by simpa using hE
  have HB2 := Hid.mk2 hb2
  have HR := Hid.mk2 hR
  have HA := Hid.mk2 hA
  clear hTl hKl hT hK hb2 hEE hA hR
  go_enter Try.func13, Try.ntmps13
  go_upto_region 1 with (fail)
  rw [← hw2]
  clear hw2
  obtain ⟨c0, c1, f0, f1, l0⟩ := HA.out
  obtain ⟨r0, r1, s0, s1, l1⟩ := HR.out
  go_wp2_with (go_at_call 32; refine HC.out.mono ?_; rintro e w3 ⟨rfl, hb3⟩; have HB3 := Hid.mk2 hb3; clear r0 r1 s0 s1 l1; obtain ⟨r0, r1, s0, s1, l1⟩ := HR.out.below hb3; have HR3 := Hid.mk2 (HR.out.below hb3); clear hb3)
  obtain ⟨q0, q1, _, _, _⟩ := ((HR3.out.alloc (Obj.cells #[.slice none 0 0, .slice none 0 0] 24)).set0 (.slice none 0 0)).set1 (.slice none 0 0)
  obtain ⟨p0, p1, _, _, _⟩ := (((HR3.out).set0 (.slice none 0 0)).set1 (.slice none 0 0)).alloc (Obj.cells #[.slice none 0 0, .slice none 0 0] 24)
  try simp only [Exit.inBlock, Exit.then]
  refine bodyPost_ret (v := .tuple #[.agg #[.slice none 0 0, .slice none 0 0], .int .i64 E]) (by simp [results, Try.results13, go_sem, q0, q1, p0, p1]) rfl ⟨rfl, ?_⟩
  have hb := HB2.out.trans (HB3.out.mono HB2.out.size)
  first
    | exact ((hb.alloc hb.size _).setCell (by simp) _).setCell (by simp) _
    | exact ((hb.setCell (by simp) _).setCell (by simp) _).alloc (by simpa using hb.size) _
/-- what is answered, laid into the answer's cells -/
theorem rw_answer {w2 w : World} {base R B : Nat} {aT : Option Addr} {cT : Nat} {aK : Option Addr} {cK : Nat} {T K : List ByteArray} (hR : OB w R (.slice none 0 0) (.slice none 0 0)) (h : Rw w base aT cT aK cK T K) (hr : R < base) (hb : Below B w2 w) (hB : B ≤ R) :
    Rw ((w.setCell ⟨R, 0, none⟩ (.slice aT T.length cT)).setCell ⟨R, 1, none⟩ (.slice aK K.length cK)) base aT cT aK cK T K ∧ Below B w2 ((w.setCell ⟨R, 0, none⟩ (.slice aT T.length cT)).setCell ⟨R, 1, none⟩ (.slice aK K.length cK)) ∧ OB ((w.setCell ⟨R, 0, none⟩ (.slice aT T.length cT)).setCell ⟨R, 1, none⟩ (.slice aK K.length cK)) R (.slice aT T.length cT) (.slice aK K.length cK) := by
  have far : ∀ g, (Value.slice aT T.length cT).ownBlock = some g ∨ (Value.slice aK K.length cK).ownBlock = some g → g ≠ R := fun g hg => by
    rcases hg with hg | hg
    · have := (h.t.lt g hg).1
      omega
    · have := (h.k.lt g hg).1
      omega
  exact ⟨(h.set ⟨R, 0, none⟩ _ far).set ⟨R, 1, none⟩ _ far, (hb.setCell hB _).setCell hB _, (hR.set0 _).set1 _⟩
set_option maxHeartbeats 1000000 in
theorem del_ok (T K : List ByteArray) (aT aK : Option Addr) (cT cK : Nat) (key : ByteArray) (w : World) (hTl : Tl w aT T cT) (hKl : Tl w aK K cK) (hT : T.length ≤ 300) (hK : K.length ≤ 300) (hE : htE T K key = 0) :
    Calls Try.prog 13 #[.agg #[.slice aT T.length cT, .slice aK K.length cK], .string key] w fun e w' => ∃ aT' cT' aK' cK', e = .returned (.tuple #[.agg #[.slice aT' (dlT T K key).length cT', .slice aK' (dlK T K key).length cK'], .int .i64 0]) ∧ Rw w' w.heap.size aT' cT' aK' cK' (dlT T K key) (dlK T K key) ∧ Below w.heap.size w w' := by
  obtain ⟨h0, hok, hk, hin⟩ := htE_zero hE
  obtain ⟨w2, hw2, hb2, hA, hR, hs2⟩ := begin2 w (.slice aT T.length cT) (.slice aK K.length cK)
  have HC := Hid.mk2 (without_ok T K aT aK cT cK key w2 (hTl.below hb2) (hKl.below hb2) hT hK h0 hok.nodup hin)
  have l1 : (T.erase key).length ≤ 300 := Nat.le_trans List.length_erase_le hT
  have l2 : (K.erase key).length ≤ 300 := Nat.le_trans List.length_erase_le hK
  unfold dlT dlK
  obtain ⟨T', hT'⟩ : ∃ T', T' = T.erase key := ⟨_, rfl⟩
  obtain ⟨K', hK'⟩ : ∃ K', K' = K.erase key := ⟨_, rfl⟩
  rw [← hT', ← hK'] at HC ⊢
  rw [← hT'] at l1
  rw [← hK'] at l2
  obtain ⟨T2, hT2⟩ : ∃ T2, T2 = lvT T' K' := ⟨_, rfl⟩
  obtain ⟨K2, hK2⟩ : ∃ K2, K2 = lvK T' K' := ⟨_, rfl⟩
  have HLV := Hid.mk2 (fun W base a c a' c' (h : Rw W base a c a' c' T' K') (hb : base ≤ W.heap.size) => levelled_any T' K' a a' c c' base W h hb l1 l2)
  rw [← hT2, ← hK2] at HLV ⊢
  have HB2 := Hid.mk2 hb2
  have HR := Hid.mk2 hR
  have HA := Hid.mk2 hA
  have HS2 := Hid.mk2 hs2
  clear hTl hKl hT hK hb2 hA hR h0 hs2 hok hin hT' hK' hT2 hK2 l1 l2 hE hk
  go_enter Try.func13, Try.ntmps13
  go_upto_region 1 with (fail)
  rw [← hw2]
  clear hw2
  obtain ⟨c0, c1, f0, f1, l0⟩ := HA.out
  go_upto_region 4 with (go_at_call 32; refine HC.out.mono ?_; rintro e w3 ⟨aX, cX, aY, cY, rfl, hRw, hb3⟩; have HRw := Hid.mk2 hRw; have HB3 := Hid.mk2 hb3; clear hRw hb3)
  have HL : Hid (Lf w2 (w3.alloc (Obj.cells #[.slice aX T'.length cX, .slice aY K'.length cY] 24)) w2.heap.size w3.heap.size (w.heap.size + 1) aX cX aY cY T' K') :=
    Lf.begin (w2 := w2) (b2 := 0) (b3 := 0) HB3.out HR.out HB3.out (Nat.le_refl _) HRw.out
  obtain ⟨W5, hW5⟩ : ∃ W5, W5 = w3.alloc (Obj.cells #[.slice aX T'.length cX, .slice aY K'.length cY] 24) := ⟨_, rfl⟩
  obtain ⟨C, hC⟩ : ∃ C, C = w3.heap.size := ⟨_, rfl⟩
  rw [← hW5, ← hC] at HL
  rw [← hW5, ← hC]
  clear hW5 hC c0 c1 f0 f1 l0 HB3 HRw HC
  obtain ⟨c0, c1, f0, f1, l0⟩ := HL.out.ob
  have hbs : w2.heap.size ≤ W5.heap.size := HL.out.be.size
  have HLV2 := Hid.mk2 (HLV.out W5 w2.heap.size aX cX aY cY HL.out.rw_ hbs)
  go_wp2_with (go_at_call 34; refine HLV2.out.mono ?_; rintro e w8 ⟨a8, c8, b8, d8, rfl, hRw8, hb8⟩; have HRw8 := Hid.mk2 hRw8; have HB8 := Hid.mk2 hb8; have HR8 : Hid (OB w8 (w.heap.size + 1) (.slice none 0 0) (.slice none 0 0)) := HL.out.rs.same (hb8.block _ (by rw [HS2.out]; omega)) hb8.size; clear hRw8 hb8; obtain ⟨r0, r1, s0, s1, l1⟩ := HR8.out)
  obtain ⟨hRA, hBA, q0, q1, _, _, _⟩ := rw_answer (B := w.heap.size) (w2 := w) HR8.out HRw8.out (by rw [HS2.out]; omega) ((HB2.out.trans (HL.out.be.mono (by rw [HS2.out]; omega))).trans (HB8.out.mono (by rw [HS2.out]; omega))) (by omega)
  try simp only [Exit.inBlock, Exit.then]
  exact bodyPost_ret (v := .tuple #[.agg #[.slice a8 T2.length c8, .slice b8 K2.length d8], .int .i64 0]) (by simp [results, Try.results13, go_sem, q0, q1]) rfl ⟨a8, c8, b8, d8, rfl, hRA.base (by rw [HS2.out]; omega), hBA⟩
set_option maxHeartbeats 1000000 in
theorem hit_ok (T K : List ByteArray) (aT aK : Option Addr) (cT cK : Nat) (key : ByteArray) (w : World) (hTl : Tl w aT T cT) (hKl : Tl w aK K cK) (hT : T.length ≤ 299) (hK : K.length ≤ 299) (hE : htE T K key = 0) :
    Calls Try.prog 12 #[.agg #[.slice aT T.length cT, .slice aK K.length cK], .string key] w fun e w' => ∃ aT' cT' aK' cK', e = .returned (.tuple #[.agg #[.slice aT' (htT T K key).length cT', .slice aK' (htK T K key).length cK'], .int .i64 0]) ∧ Rw w' w.heap.size aT' cT' aK' cK' (htT T K key) (htK T K key) ∧ Below w.heap.size w w' := by
  obtain ⟨h0, hok, hk, hin⟩ := htE_zero hE
  obtain ⟨w2, hw2, hb2, hA, hR, hs2⟩ := begin2 w (.slice aT T.length cT) (.slice aK K.length cK)
  have HC := Hid.mk2 (without_ok T K aT aK cT cK key w2 (hTl.below hb2) (hKl.below hb2) (by omega) (by omega) h0 hok.nodup hin)
  have l1 : (T.erase key).length ≤ 300 := Nat.le_trans List.length_erase_le (by omega)
  have l2 : (K.erase key).length ≤ 299 := Nat.le_trans List.length_erase_le hK
  unfold htT htK
  obtain ⟨T', hT'⟩ : ∃ T', T' = T.erase key := ⟨_, rfl⟩
  obtain ⟨K', hK'⟩ : ∃ K', K' = K.erase key := ⟨_, rfl⟩
  rw [← hT', ← hK'] at HC ⊢
  rw [← hT'] at l1
  rw [← hK'] at l2
  obtain ⟨K3, hK3⟩ : ∃ K3, K3 = key :: K' := ⟨_, rfl⟩
  have l3 : K3.length ≤ 300 := by rw [hK3]; simp; omega
  rw [← hK3]
  obtain ⟨T2, hT2⟩ : ∃ T2, T2 = lvT T' K3 := ⟨_, rfl⟩
  obtain ⟨K2, hK2⟩ : ∃ K2, K2 = lvK T' K3 := ⟨_, rfl⟩
  have HLV := Hid.mk2 (fun W base a c a' c' (h : Rw W base a c a' c' T' K3) (hb : base ≤ W.heap.size) => levelled_any T' K3 a a' c c' base W h hb l1 l3)
  rw [← hT2, ← hK2] at HLV ⊢
  have HB2 := Hid.mk2 hb2
  have HR := Hid.mk2 hR
  have HA := Hid.mk2 hA
  have HS2 := Hid.mk2 hs2
  have HK3 := Hid.mk2 hK3
  have HL2 : Hid (K'.length ≤ 1000) := by show _ ≤ _; omega
  clear hTl hKl hT hK hb2 hA hR h0 hs2 hok hin hT' hK' hT2 hK2 l1 l2 l3 hE hk hK3
  go_enter Try.func12, Try.ntmps12
  go_upto_region 1 with (fail)
  rw [← hw2]
  clear hw2
  obtain ⟨c0, c1, f0, f1, l0⟩ := HA.out
  go_upto_region 4 with (go_at_call 32; refine HC.out.mono ?_; rintro e w3 ⟨aX, cX, aY, cY, rfl, hRw, hb3⟩; have HRw := Hid.mk2 hRw; have HB3 := Hid.mk2 hb3; clear hRw hb3)
  have HL : Hid (Lf w2 (w3.alloc (Obj.cells #[.slice aX T'.length cX, .slice aY K'.length cY] 24)) w2.heap.size w3.heap.size (w.heap.size + 1) aX cX aY cY T' K') :=
    Lf.begin (w2 := w2) (b2 := 0) (b3 := 0) HB3.out HR.out HB3.out (Nat.le_refl _) HRw.out
  obtain ⟨W5, hW5⟩ : ∃ W5, W5 = w3.alloc (Obj.cells #[.slice aX T'.length cX, .slice aY K'.length cY] 24) := ⟨_, rfl⟩
  obtain ⟨C, hC⟩ : ∃ C, C = w3.heap.size := ⟨_, rfl⟩
  rw [← hW5, ← hC] at HL
  rw [← hW5, ← hC]
  clear hW5 hC c0 c1 f0 f1 l0 HB3 HRw HC
  obtain ⟨c0, c1, f0, f1, l0⟩ := HL.out.ob
  have hbs : w2.heap.size ≤ W5.heap.size := HL.out.be.size
  have HIN := Hid.mk2 (insert_any (W5.alloc (Obj.cells #[.string key] 9)) w2.heap.size _ K' (HL.out.rw_.k.alloc _) key W5.heap.size (alloc_heap _ _) (fun e => by have := (HL.out.rw_.k.lt _ e).2; omega) (by simp; omega) HL2.out)
  rw [← HK3.out] at HIN
  go_upto_region 5 with (go_at_call 33; refine HIN.out.mono ?_; rintro e w7 ⟨v7, rfl, hO7, hG7⟩; have HO7 := Hid.mk2 hO7; obtain ⟨a7, c7, rfl, hT7⟩ := hO7.tl; have HG7 := Hid.mk2 hG7.alloc; clear hO7 hT7 hG7 c0 c1 f0 f1 l0; have HL7 := Hid.mk2 (HL.out.chK HO7.out HG7.out); obtain ⟨c0, c1, f0, f1, l0⟩ := HL.out.ob.grown HG7.out.grown (fun e => (HL.out.fk _ e).1 rfl))
  obtain ⟨W7, hW7⟩ : ∃ W7, W7 = w7.setCell ⟨C, 1, none⟩ (.slice a7 K3.length c7) := ⟨_, rfl⟩
  rw [← hW7] at HL7
  rw [← hW7]
  clear hW7 c0 c1 f0 f1 l0 HG7 HO7 HIN
  obtain ⟨c0, c1, f0, f1, l0⟩ := HL7.out.ob
  have hbs7 : w2.heap.size ≤ W7.heap.size := HL7.out.be.size
  have HLV2 := Hid.mk2 (HLV.out W7 w2.heap.size aX cX a7 c7 HL7.out.rw_ hbs7)
  go_wp2_with (go_at_call 34; refine HLV2.out.mono ?_; rintro e w8 ⟨a8, c8, b8, d8, rfl, hRw8, hb8⟩; have HRw8 := Hid.mk2 hRw8; have HB8 := Hid.mk2 hb8; have HR8 : Hid (OB w8 (w.heap.size + 1) (.slice none 0 0) (.slice none 0 0)) := HL7.out.rs.same (hb8.block _ (by rw [HS2.out]; omega)) hb8.size; clear hRw8 hb8; obtain ⟨r0, r1, s0, s1, l1⟩ := HR8.out)
  obtain ⟨hRA, hBA, q0, q1, _, _, _⟩ := rw_answer (B := w.heap.size) (w2 := w) HR8.out HRw8.out (by rw [HS2.out]; omega) ((HB2.out.trans (HL7.out.be.mono (by rw [HS2.out]; omega))).trans (HB8.out.mono (by rw [HS2.out]; omega))) (by omega)
  try simp only [Exit.inBlock, Exit.then]
  exact bodyPost_ret (v := .tuple #[.agg #[.slice a8 T2.length c8, .slice b8 K2.length d8], .int .i64 0]) (by simp [results, Try.results12, go_sem, q0, q1]) rfl ⟨a8, c8, b8, d8, rfl, hRA.base (by rw [HS2.out]; omega), hBA⟩
end Go.Proofs.Ytmdlampmoeiihaa
