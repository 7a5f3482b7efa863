/-
  (shaken)
-/
import Derived.Test.YtjmcgpdimhgegaaRCmd
import Derived.Test.YtjmcgpdimhgegaaCmd5
namespace Go.Proofs.Ytjmcgpdimhgegaa
open Go.RowKit
set_option linter.unusedSimpArgs false
set_option linter.unusedVariables false
set_option maxRecDepth 100000

theorem ints_lit (W : World) (ns : List Nat) (l : List Value) (hl : l = ns.map fun n => .int .i64 (n : Int)) : ∀ j (hj : j < ns.length), (W.alloc (.cells l.toArray 3)).cell? ⟨W.heap.size, j, none⟩ = some (.int .i64 (ns[j] : Int)) := by
  subst hl
  intro j hj
  rw [World.cell?_alloc_at _ _ _ _ rfl]
  simp [hj]
theorem alb (W : World) (o : Obj) : Below W.heap.size W (W.alloc o) := (Below.refl _ _).alloc (Nat.le_refl _) o
/-- one number's small bytes, of a literal -/
theorem refSmall1 (W : World) (n : Nat) (h : n ≤ 9223372036854775807) :
    Calls Try.prog 27 #[.slice (some ⟨W.heap.size, 0, none⟩) 1 1] (W.alloc (.cells #[.int .i64 n] 3)) fun e w' => ∃ v', e = .returned v' ∧ Own w' W.heap.size v' (small n) ∧ Below W.heap.size W w' := by
  have hx := refSmalls_any (W.alloc (.cells #[.int .i64 n] 3)) W.heap.size [n] 1 1 rfl (by simp) (ints_lit W [n] _ rfl) (by simpa using h) (by simp)
  refine hx.mono ?_
  rintro e w' ⟨v', rfl, ho, hb⟩
  exact ⟨v', rfl, by simpa [smalls] using Own.mono ho (by simp), below_alloc hb⟩
theorem refSmall2 (W : World) (n m : Nat) (h : n ≤ 9223372036854775807) (h2 : m ≤ 9223372036854775807) :
    Calls Try.prog 27 #[.slice (some ⟨W.heap.size, 0, none⟩) 2 2] (W.alloc (.cells #[.int .i64 n, .int .i64 m] 3)) fun e w' => ∃ v', e = .returned v' ∧ Own w' W.heap.size v' (small n ++ small m) ∧ Below W.heap.size W w' := by
  have hx := refSmalls_any (W.alloc (.cells #[.int .i64 n, .int .i64 m] 3)) W.heap.size [n, m] 2 2 rfl (by simp) (ints_lit W [n, m] _ rfl) (by simp; omega) (by simp)
  refine hx.mono ?_
  rintro e w' ⟨v', rfl, ho, hb⟩
  exact ⟨v', rfl, by simpa [smalls] using Own.mono ho (by simp), below_alloc hb⟩

set_option maxHeartbeats 1000000 in
theorem refCommand_bad (c : Cmd) (w : World) (ko : Option Addr) (kc : Nat) (hk : Tl w ko c.keys kc) (hok : cmdOk c = false) :
    Calls Try.prog 16 #[.agg (c.cells (.slice ko c.keys.length kc)).toArray] w fun e w' => e = .returned (.tuple #[.slice none 0 0, .int .i64 8]) ∧ Below w.heap.size w w' := by
  have hsh := fun W (h : Below w.heap.size w W) => refShaped_any c W ko kc (hk.below h)
  rw [hok] at hsh
  obtain ⟨kind, tenant, keys, value, flags, dur, unique, by_⟩ := c
  unfold Cmd.cells bcell at hsh ⊢
  simp only [] at hk hsh ⊢
  have HSH : Hid (∀ W, Below w.heap.size w W → Calls Try.prog 26 #[.agg #[.int .u8 (kind.toNat : Int), .int .i64 tenant, .slice ko keys.length kc, .string value, .int .u32 flags, .int .i64 dur, .int .u64 unique, .int .u64 by_]] W fun e w' => e = .returned (.bool false) ∧ Below W.heap.size W w') := hsh
  clear hk hsh hok
  go_enter Try.func16, Try.ntmps16
  go_wp2_with (go_at_call 26; refine (HSH.out _ ((Below.refl _ _).alloc (Nat.le_refl _) _)).mono ?_; rintro e w1 ⟨rfl, hb1⟩)
  go_ret2
  exact ⟨rfl, below_alloc hb1⟩

set_option maxHeartbeats 2000000 in
theorem refCommand_good (c : Cmd) (w : World) (ko : Option Addr) (kc : Nat) (hk : Tl w ko c.keys kc) (hok : cmdOk c = true) (hg : c.Good) :
    Calls Try.prog 16 #[.agg (c.cells (.slice ko c.keys.length kc)).toArray] w fun e w' => ∃ v', e = .returned (.tuple #[v', .int .i64 0]) ∧ Own w' w.heap.size v' (cmdB c) ∧ Below w.heap.size w w' := by
  have hsh := fun W (h : Below w.heap.size w W) => refShaped_any c W ko kc (hk.below h)
  rw [hok] at hsh
  have hft := cmdOk_fit hok
  obtain ⟨kind, tenant, keys, value, flags, dur, unique, by_⟩ := c
  unfold Cmd.cells bcell at hsh ⊢
  obtain ⟨k1, k2, t0, t1, many, hkeys, hvalue, d0, d1⟩ := hft
  obtain ⟨gf, gu, gb⟩ := hg
  simp only [] at hk hsh k1 k2 t0 t1 many hkeys hvalue d0 d1 gf gu gb ⊢
  obtain ⟨t, rfl⟩ : ∃ t : Nat, tenant = (t : Int) := ⟨tenant.toNat, by omega⟩
  obtain ⟨u, rfl⟩ : ∃ u : Nat, dur = (u : Int) := ⟨dur.toNat, by omega⟩
  have ff : Fits flags := by unfold Fits; omega
  have hkl := hk.hl
  have hkm := hk.hc
  have HT : Hid (TsAt w w.heap.size ko keys) := hk.at_
  have HKS : Hid (∀ k ∈ keys, keyOk k = true) := hkeys
  have HSH : Hid (∀ W, Below w.heap.size w W → Calls Try.prog 26 #[.agg #[.int .u8 (kind.toNat : Int), .int .i64 t, .slice ko keys.length kc, .string value, .int .u32 flags, .int .i64 u, .int .u64 unique, .int .u64 by_]] W fun e w' => e = .returned (.bool true) ∧ Below W.heap.size W w') := hsh
  clear hk hsh hkeys hok
  have ww4 : IntKind.u64.wrap (flags : Int) = (flags : Int) := by rw [u64_wrap_eq]; omega
  go_enter Try.func16, Try.ntmps16
  go_upto_region 3 with (go_at_call 26; refine (HSH.out _ ((Below.refl _ _).alloc (Nat.le_refl _) _)).mono ?_; rintro e w1 ⟨rfl, hb1⟩)
  have hs1 := hb1.size
  simp at hs1
  have hb01 : Below w.heap.size w w1 := below_alloc hb1
  obtain ⟨X, hX⟩ : ∃ X, X = w.heap.size := ⟨_, rfl⟩
  have HBX : Hid (∀ W, Below w1.heap.size w1 W → W.cell? ⟨X, 0, none⟩ = some (.int .u8 (kind.toNat : Int)) ∧ W.cell? ⟨X, 1, none⟩ = some (.int .i64 t) ∧ W.cell? ⟨X, 2, none⟩ = some (.slice ko keys.length kc) ∧ W.cell? ⟨X, 3, none⟩ = some (.string value) ∧ W.cell? ⟨X, 4, none⟩ = some (.int .u32 flags) ∧ W.cell? ⟨X, 5, none⟩ = some (.int .i64 u) ∧ W.cell? ⟨X, 6, none⟩ = some (.int .u64 unique) ∧ W.cell? ⟨X, 7, none⟩ = some (.int .u64 by_)) := by
    intro W hW
    have hc : ∀ j v, (#[Value.int IntKind.u8 ↑kind.toNat, Value.int IntKind.i64 ↑t, Value.slice ko keys.length kc, Value.string value, Value.int IntKind.u32 ↑flags, Value.int IntKind.i64 ↑u, Value.int IntKind.u64 ↑unique, Value.int IntKind.u64 ↑by_] : Array Value)[j]? = some v → W.cell? ⟨X, j, none⟩ = some v := by
      intro j v hv
      rw [hX]
      refine (hW.cell (p := ⟨w.heap.size, j, none⟩) (by show w.heap.size < _; omega)).trans ((hb1.cell (p := ⟨w.heap.size, j, none⟩) (by simp)).trans ?_)
      rw [World.cell?_alloc_at _ _ _ _ rfl]
      exact hv
    exact ⟨hc 0 _ rfl, hc 1 _ rfl, hc 2 _ rfl, hc 3 _ rfl, hc 4 _ rfl, hc 5 _ rfl, hc 6 _ rfl, hc 7 _ rfl⟩
  rw [← hX]
  have hXlt : X < w1.heap.size := by omega
  clear hb1 hX hs1 HSH
  obtain ⟨a0, -⟩ := HBX.out w1 (Below.refl _ _)
  have HL1 := small_len t
  have HL2 := small_len keys.length
  have HL3 := keysB_len keys HKS.out
  have HL4 := small_len value.size
  have HL5 := small_len flags
  have HL6 := small_len u
  have HL7 := small_len unique
  have HL8 := small_len by_
  go_upto_region 4 with fail
  have hO1 : Own (w1.alloc (Obj.cells #[Value.int IntKind.u8 ↑kind.toNat] 5)) w1.heap.size (.slice (some ⟨w1.heap.size, 0, none⟩) 1 1) [kind] := World.ownsRow_lit w1 _ 1 (by omega) (by unfold maxLen; omega) rfl
  have hbA : Below w1.heap.size w1 (w1.alloc (Obj.cells #[Value.int IntKind.u8 ↑kind.toNat] 5)) := (Below.refl _ _).alloc (Nat.le_refl _) _
  obtain ⟨va, hva⟩ : ∃ va, va = Value.slice (some ⟨w1.heap.size, 0, none⟩) 1 1 := ⟨_, rfl⟩
  obtain ⟨wa, hwa⟩ : ∃ wa, wa = w1.alloc (Obj.cells #[Value.int IntKind.u8 ↑kind.toNat] 5) := ⟨_, rfl⟩
  rw [← hva, ← hwa] at hO1
  rw [← hwa] at hbA
  rw [← hva, ← hwa]
  clear hva hwa a0
  obtain ⟨-, b1, b2, -⟩ := HBX.out wa hbA
  have hka : keys.length ≤ 9223372036854775807 := by omega
  have hta : t ≤ 9223372036854775807 := by omega
  have hua : u ≤ 9223372036854775807 := by omega
  go_upto_region 5 with (first
    | (go_at_call 27; refine (refSmall2 wa t keys.length hta hka).mono ?_; rintro e w3 ⟨v3, rfl, ho3, hb3⟩; have hO3 := hO1.kept hb3; have hz3 : w1.heap.size ≤ w3.heap.size := Nat.le_trans hbA.size hb3.size)
    | (at_builtin; refine app_own rfl (.tmp 12) (.tmp 19) rfl w1.heap.size _ _ hO3 rfl _ _ _ ho3 rfl (by simp; omega) hz3 ?_; intro v4 w4 ho4 hg4))
  have hb14 : Below w1.heap.size w1 w4 := (hbA.trans (hb3.mono hbA.size)).trans (hg4.below hO3 hz3)
  obtain ⟨P4, hP4⟩ : ∃ P4, P4 = [kind] ++ (small t ++ small keys.length) := ⟨_, rfl⟩
  have hlP4 : P4.length ≤ 21 := by rw [hP4]; simp; omega
  rw [← hP4] at ho4
  go_wp2
  go_loopw [4, 5] (fun v i wr => ∃ k : Nat, k ≤ keys.length ∧ i = .int .i64 k ∧ Own wr w1.heap.size v (P4 ++ keysB (keys.take k)) ∧ Below w1.heap.size w1 wr) (fun _ i _ => keys.length - (intOf i).toNat)
  case atStart => exact ⟨0, Nat.zero_le _, rfl, by simpa [keysB] using ho4, hb14⟩
  case round =>
    obtain ⟨k, hk, rfl, how, hbr⟩ := hrel
    clear ho4 hb14 hg4 ho3 hO3 hz3 hb3 b1 b2 hO1 hbA
    have hsr := hbr.size
    have hlk : (keysB (keys.take k)).length ≤ 400 := by
      have h1 := keysB_len (keys.take k) (fun x hx => HKS.out x (List.mem_of_mem_take hx))
      have h2 : (keys.take k).length ≤ 8 := by simp; omega
      omega
    obtain ⟨-, -, r2, r3, -⟩ := HBX.out wr hbr
    by_cases hlt : k < keys.length
    · have hlt2 : (k : Int) < (keys.length : Int) := by omega
      rcases HT.out with h | ⟨b, off, rfl, hb, hc⟩
      · rw [h] at hlt; simp at hlt
      have hb0r := hb01.trans (hbr.mono hb01.size)
      have hx := (hb0r.cell (p := ⟨b, off + k, none⟩) hb).trans (hc k hlt)
      have hsz : keys[k].size ≤ 32 := by have := HKS.out _ (List.getElem_mem hlt); simp [keyOk] at this; exact this.2
      have hsn := keysB_take hlt
      obtain ⟨s, hs⟩ : ∃ s, s = keys[k] := ⟨_, rfl⟩
      rw [← hs] at hx hsz hsn
      obtain ⟨Q, hQ⟩ : ∃ Q, Q = P4 ++ keysB (keys.take k) := ⟨_, rfl⟩
      have HQ : Hid (Q ++ text s.data.toList = P4 ++ keysB (keys.take (k + 1))) := by rw [hsn, hQ, List.append_assoc]; exact rfl
      have hlQ : Q.length ≤ 500 := by rw [hQ]; simp; omega
      have hss := small_len s.size
      have hlt6 : (text s.data.toList).length ≤ 100 := by simp [text]; omega
      obtain ⟨T, hT⟩ : ∃ T, T = text s.data.toList := ⟨_, rfl⟩
      have hcl := fun W => refText_any s W (by omega)
      rw [← hT] at hlt6 HQ
      have HCL : Hid (∀ W : World, Calls Try.prog 28 #[.string s] W fun e w' => ∃ v', e = .returned v' ∧ Own w' W.heap.size v' T ∧ Below W.heap.size W w') := by rw [hT]; exact hcl
      rw [← hQ] at how
      clear hs hc hsn hQ hlk hT hcl
      go_wp2_with (first
        | (go_at_call 28; refine (HCL.out wr).mono ?_; rintro e w5 ⟨v5, rfl, ho5, hb5⟩; have hO5 := how.kept hb5; have hz5 : w1.heap.size ≤ w5.heap.size := Nat.le_trans hsr hb5.size)
        | (at_builtin; refine app_own rfl (.tmp 28) (.tmp 34) rfl w1.heap.size _ _ hO5 rfl _ _ _ ho5 rfl (by omega) hz5 ?_; intro v6 w6 ho6 hg6))
      have hb15 := (hbr.trans (hb5.mono hsr)).trans (hg6.below hO5 hz5)
      rw [HQ.out] at ho6
      go_roundw
      case rel => exact ⟨k + 1, by omega, by go_num, ho6, hb15⟩
      case measure => simp [intOf]; omega
    · have hlt2 : decide ((k : Int) < (keys.length : Int)) = false := by simp; omega
      have e0 : keys.take k = keys := List.take_of_length_le (by omega)
      rw [e0] at how
      obtain ⟨Q, hQ⟩ : ∃ Q, Q = P4 ++ keysB keys := ⟨_, rfl⟩
      have HQ : Hid (Q = [kind] ++ small t ++ small keys.length ++ keysB keys) := by rw [hQ, hP4]; simp [Hid]
      have hlQ : Q.length ≤ 500 := by rw [e0] at hlk; rw [hQ]; simp; omega
      rw [← hQ] at how
      clear e0 hQ hlk hP4
      obtain ⟨T, hT⟩ : ∃ T, T = text value.data.toList := ⟨_, rfl⟩
      have hcl := fun W => refText_any value W (by omega)
      have hlT : T.length ≤ 522 := by rw [hT]; simp [text]; omega
      have HCL : Hid (∀ W : World, Calls Try.prog 28 #[.string value] W fun e w' => ∃ v', e = .returned v' ∧ Own w' W.heap.size v' T ∧ Below W.heap.size W w') := by rw [hT]; exact hcl
      have HTT : Hid (T = text value.data.toList) := hT
      clear hcl hT
      go_wp2_with (first
        | (go_at_call 29; refine (refSmall_any by_ wh gb).mono ?_; rintro e wi ⟨vi, rfl, hoi, hbi⟩; have hOi := hoh.kept hbi; have hzi : w1.heap.size ≤ wi.heap.size := Nat.le_trans hzh hbi.size)
        | (go_at_call 29; refine (refSmall_any unique wf gu).mono ?_; rintro e wg ⟨vg, rfl, hog, hbg⟩; have hOg := hof.kept hbg; have hzg : w1.heap.size ≤ wg.heap.size := Nat.le_trans hzf hbg.size)
        | (go_at_call 27; refine (refSmall1 wd u hua).mono ?_; rintro e we ⟨ve, rfl, hoe, hbe⟩; have hOe := hod.kept hbe; have hze : w1.heap.size ≤ we.heap.size := Nat.le_trans hzd hbe.size)
        | (go_at_call 29; refine (refSmall_any flags wb ff).mono ?_; rintro e wc ⟨vc, rfl, hoc, hbc⟩; have hOc := hob.kept hbc; have hzc : w1.heap.size ≤ wc.heap.size := Nat.le_trans hzb hbc.size)
        | (go_at_call 28; refine (HCL.out wr).mono ?_; rintro e wq ⟨vq, rfl, hoq, hbq⟩; have hOq := how.kept hbq; have hzq : w1.heap.size ≤ wq.heap.size := Nat.le_trans hsr hbq.size)
        | (at_builtin; refine app_own rfl (.tmp 58) (.tmp 61) rfl w1.heap.size _ _ hOi rfl _ _ _ hoi rfl (by simp; omega) hzi ?_; intro vj wj hoj hgj; have hb1j := (hb1h.trans (hbi.mono hzh)).trans (hgj.below hOi hzi))
        | (at_builtin; refine app_own rfl (.tmp 53) (.tmp 56) rfl w1.heap.size _ _ hOg rfl _ _ _ hog rfl (by simp; omega) hzg ?_; intro vh wh hoh hgh; have hb1h := (hb1f.trans (hbg.mono hzf)).trans (hgh.below hOg hzg); have hzh := hb1h.size; obtain ⟨-, -, -, -, -, -, -, q7⟩ := HBX.out wh hb1h)
        | (at_builtin; refine app_own rfl (.tmp 47) (.tmp 51) rfl w1.heap.size _ _ hOe rfl _ _ _ hoe rfl (by simp; omega) hze ?_; intro vf wf hof hgf; have hb1f := (hb1d.trans (hbe.mono hzd)).trans (hgf.below hOe hze); have hzf := hb1f.size; obtain ⟨-, -, -, -, -, -, p6, -⟩ := HBX.out wf hb1f)
        | (at_builtin; refine app_own rfl (.tmp 41) (.tmp 45) rfl w1.heap.size _ _ hOc rfl _ _ _ hoc rfl (by simp; omega) hzc ?_; intro vd wd hod hgd; have hb1d := (hb1b.trans (hbc.mono hzb)).trans (hgd.below hOc hzc); have hzd := hb1d.size; obtain ⟨-, -, -, -, -, o5, -⟩ := HBX.out wd hb1d)
        | (at_builtin; refine app_own rfl (.tmp 36) (.tmp 39) rfl w1.heap.size _ _ hOq rfl _ _ _ hoq rfl (by omega) hzq ?_; intro vb wb hob hgb; have hb1b := (hbr.trans (hbq.mono hsr)).trans (hgb.below hOq hzq); have hzb := hb1b.size; obtain ⟨-, -, -, -, n4, -⟩ := HBX.out wb hb1b))
      go_ret2
      refine ⟨_, rfl, ?_, hb01.trans (hb1j.mono hb01.size)⟩
      rw [HQ.out, HTT.out] at hoj
      have hm := hoj.mono hb01.size
      unfold cmdB
      simpa using hm
end Go.Proofs.Ytjmcgpdimhgegaa
