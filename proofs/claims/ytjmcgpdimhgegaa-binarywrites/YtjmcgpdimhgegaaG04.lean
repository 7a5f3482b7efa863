/-
  Several texts in one: RCmd2, BnV, BnF, BnG, BnH.
-/
import Derived.Test.YtjmcgpdimhgegaaG03
import Derived.Test.YtjmcgpdimhgegaaCmd5
import Derived.Test.YtjmcgpdimhgegaaG01
/-
  (shaken)
-/
namespace Go.Proofs.Ytjmcgpdimhgegaa
open Go.RowKit
set_option linter.unusedSimpArgs false
set_option linter.unusedVariables false
set_option maxRecDepth 100000

theorem ints_lit (W : World) (ns : List Nat) (l : List Value) (hl : l = ns.map fun n => .int .i64 (n : Int)) : ∀ j (hj : j < ns.length), (W.alloc (.cells l.toArray 3)).cell? ⟨W.heap.size, j, none⟩ = some (.int .i64 (ns[j] : Int)) := by
  subst hl
  intro j hj
  rw [World.cell?_alloc_at _ _ _ _ rfl]
  simp [hj]
theorem alb (W : World) (o : Obj) : Below W.heap.size W (W.alloc o) := (Below.refl _ _).alloc (Nat.le_refl _) o
/-- one number's small bytes, of a literal -/
theorem refSmall1 (W : World) (n : Nat) (h : n ≤ 9223372036854775807) :
    Calls Try.prog 27 #[.slice (some ⟨W.heap.size, 0, none⟩) 1 1] (W.alloc (.cells #[.int .i64 n] 3)) fun e w' => ∃ v', e = .returned v' ∧ Own w' W.heap.size v' (small n) ∧ Below W.heap.size W w' := by
  have hx := refSmalls_any (W.alloc (.cells #[.int .i64 n] 3)) W.heap.size [n] 1 1 rfl (by simp) (ints_lit W [n] _ rfl) (by simpa using h) (by simp)
  refine hx.mono ?_
  rintro e w' ⟨v', rfl, ho, hb⟩
  exact ⟨v', rfl, by simpa [smalls] using Own.mono ho (by simp), below_alloc hb⟩
theorem refSmall2 (W : World) (n m : Nat) (h : n ≤ 9223372036854775807) (h2 : m ≤ 9223372036854775807) :
    Calls Try.prog 27 #[.slice (some ⟨W.heap.size, 0, none⟩) 2 2] (W.alloc (.cells #[.int .i64 n, .int .i64 m] 3)) fun e w' => ∃ v', e = .returned v' ∧ Own w' W.heap.size v' (small n ++ small m) ∧ Below W.heap.size W w' := by
  have hx := refSmalls_any (W.alloc (.cells #[.int .i64 n, .int .i64 m] 3)) W.heap.size [n, m] 2 2 rfl (by simp) (ints_lit W [n, m] _ rfl) (by simp; omega) (by simp)
  refine hx.mono ?_
  rintro e w' ⟨v', rfl, ho, hb⟩
  exact ⟨v', rfl, by simpa [smalls] using Own.mono ho (by simp), below_alloc hb⟩

set_option maxHeartbeats 1000000 in
theorem refCommand_bad (c : Cmd) (w : World) (ko : Option Addr) (kc : Nat) (hk : Tl w ko c.keys kc) (hok : cmdOk c = false) :
    Calls Try.prog 16 #[.agg (c.cells (.slice ko c.keys.length kc)).toArray] w fun e w' => e = .returned (.tuple #[.slice none 0 0, .int .i64 8]) ∧ Below w.heap.size w w' := by
  have hsh := fun W (h : Below w.heap.size w W) => refShaped_any c W ko kc (hk.below h)
  rw [hok] at hsh
  obtain ⟨kind, tenant, keys, value, flags, dur, unique, by_⟩ := c
  unfold Cmd.cells bcell at hsh ⊢
  simp only [] at hk hsh ⊢
  have HSH : Hid (∀ W, Below w.heap.size w W → Calls Try.prog 26 #[.agg #[.int .u8 (kind.toNat : Int), .int .i64 tenant, .slice ko keys.length kc, .string value, .int .u32 flags, .int .i64 dur, .int .u64 unique, .int .u64 by_]] W fun e w' => e = .returned (.bool false) ∧ Below W.heap.size W w') := hsh
  clear hk hsh hok
  go_enter Try.func16, Try.ntmps16
  go_wp2_with (go_at_call 26; refine (HSH.out _ ((Below.refl _ _).alloc (Nat.le_refl _) _)).mono ?_; rintro e w1 ⟨rfl, hb1⟩)
  go_ret2
  exact ⟨rfl, below_alloc hb1⟩

set_option maxHeartbeats 2000000 in
theorem refCommand_good (c : Cmd) (w : World) (ko : Option Addr) (kc : Nat) (hk : Tl w ko c.keys kc) (hok : cmdOk c = true) (hg : c.Good) :
    Calls Try.prog 16 #[.agg (c.cells (.slice ko c.keys.length kc)).toArray] w fun e w' => ∃ v', e = .returned (.tuple #[v', .int .i64 0]) ∧ Own w' w.heap.size v' (cmdB c) ∧ Below w.heap.size w w' := by
  have hsh := fun W (h : Below w.heap.size w W) => refShaped_any c W ko kc (hk.below h)
  rw [hok] at hsh
  have hft := cmdOk_fit hok
  obtain ⟨kind, tenant, keys, value, flags, dur, unique, by_⟩ := c
  unfold Cmd.cells bcell at hsh ⊢
  obtain ⟨k1, k2, t0, t1, many, hkeys, hvalue, d0, d1⟩ := hft
  obtain ⟨gf, gu, gb⟩ := hg
  simp only [] at hk hsh k1 k2 t0 t1 many hkeys hvalue d0 d1 gf gu gb ⊢
  obtain ⟨t, rfl⟩ : ∃ t : Nat, tenant = (t : Int) := ⟨tenant.toNat, by omega⟩
  obtain ⟨u, rfl⟩ : ∃ u : Nat, dur = (u : Int) := ⟨dur.toNat, by omega⟩
  have ff : Fits flags := by unfold Fits; omega
  have hkl := hk.hl
  have hkm := hk.hc
  have HT : Hid (TsAt w w.heap.size ko keys) := hk.at_
  have HKS : Hid (∀ k ∈ keys, keyOk k = true) := hkeys
  have HSH : Hid (∀ W, Below w.heap.size w W → Calls Try.prog 26 #[.agg #[.int .u8 (kind.toNat : Int), .int .i64 t, .slice ko keys.length kc, .string value, .int .u32 flags, .int .i64 u, .int .u64 unique, .int .u64 by_]] W fun e w' => e = .returned (.bool true) ∧ Below W.heap.size W w') := hsh
  clear hk hsh hkeys hok
  have ww4 : IntKind.u64.wrap (flags : Int) = (flags : Int) := by rw [u64_wrap_eq]; omega
  go_enter Try.func16, Try.ntmps16
  go_upto_region 3 with (go_at_call 26; refine (HSH.out _ ((Below.refl _ _).alloc (Nat.le_refl _) _)).mono ?_; rintro e w1 ⟨rfl, hb1⟩)
  have hs1 := hb1.size
  simp at hs1
  have hb01 : Below w.heap.size w w1 := below_alloc hb1
  obtain ⟨X, hX⟩ : ∃ X, X = w.heap.size := ⟨_, rfl⟩
  have HBX : Hid (∀ W, Below w1.heap.size w1 W → W.cell? ⟨X, 0, none⟩ = some (.int .u8 (kind.toNat : Int)) ∧ W.cell? ⟨X, 1, none⟩ = some (.int .i64 t) ∧ W.cell? ⟨X, 2, none⟩ = some (.slice ko keys.length kc) ∧ W.cell? ⟨X, 3, none⟩ = some (.string value) ∧ W.cell? ⟨X, 4, none⟩ = some (.int .u32 flags) ∧ W.cell? ⟨X, 5, none⟩ = some (.int .i64 u) ∧ W.cell? ⟨X, 6, none⟩ = some (.int .u64 unique) ∧ W.cell? ⟨X, 7, none⟩ = some (.int .u64 by_)) := by
    intro W hW
    have hc : ∀ j v, (#[Value.int IntKind.u8 ↑kind.toNat, Value.int IntKind.i64 ↑t, Value.slice ko keys.length kc, Value.string value, Value.int IntKind.u32 ↑flags, Value.int IntKind.i64 ↑u, Value.int IntKind.u64 ↑unique, Value.int IntKind.u64 ↑by_] : Array Value)[j]? = some v → W.cell? ⟨X, j, none⟩ = some v := by
      intro j v hv
      rw [hX]
      refine (hW.cell (p := ⟨w.heap.size, j, none⟩) (by show w.heap.size < _; omega)).trans ((hb1.cell (p := ⟨w.heap.size, j, none⟩) (by simp)).trans ?_)
      rw [World.cell?_alloc_at _ _ _ _ rfl]
      exact hv
    exact ⟨hc 0 _ rfl, hc 1 _ rfl, hc 2 _ rfl, hc 3 _ rfl, hc 4 _ rfl, hc 5 _ rfl, hc 6 _ rfl, hc 7 _ rfl⟩
  rw [← hX]
  have hXlt : X < w1.heap.size := by omega
  clear hb1 hX hs1 HSH
  obtain ⟨a0, -⟩ := HBX.out w1 (Below.refl _ _)
  have HL1 := small_len t
  have HL2 := small_len keys.length
  have HL3 := keysB_len keys HKS.out
  have HL4 := small_len value.size
  have HL5 := small_len flags
  have HL6 := small_len u
  have HL7 := small_len unique
  have HL8 := small_len by_
  go_upto_region 4 with fail
  have hO1 : Own (w1.alloc (Obj.cells #[Value.int IntKind.u8 ↑kind.toNat] 5)) w1.heap.size (.slice (some ⟨w1.heap.size, 0, none⟩) 1 1) [kind] := World.ownsRow_lit w1 _ 1 (by omega) (by unfold maxLen; omega) rfl
  have hbA : Below w1.heap.size w1 (w1.alloc (Obj.cells #[Value.int IntKind.u8 ↑kind.toNat] 5)) := (Below.refl _ _).alloc (Nat.le_refl _) _
  obtain ⟨va, hva⟩ : ∃ va, va = Value.slice (some ⟨w1.heap.size, 0, none⟩) 1 1 := ⟨_, rfl⟩
  obtain ⟨wa, hwa⟩ : ∃ wa, wa = w1.alloc (Obj.cells #[Value.int IntKind.u8 ↑kind.toNat] 5) := ⟨_, rfl⟩
  rw [← hva, ← hwa] at hO1
  rw [← hwa] at hbA
  rw [← hva, ← hwa]
  clear hva hwa a0
  obtain ⟨-, b1, b2, -⟩ := HBX.out wa hbA
  have hka : keys.length ≤ 9223372036854775807 := by omega
  have hta : t ≤ 9223372036854775807 := by omega
  have hua : u ≤ 9223372036854775807 := by omega
  go_upto_region 5 with (first
    | (go_at_call 27; refine (refSmall2 wa t keys.length hta hka).mono ?_; rintro e w3 ⟨v3, rfl, ho3, hb3⟩; have hO3 := hO1.kept hb3; have hz3 : w1.heap.size ≤ w3.heap.size := Nat.le_trans hbA.size hb3.size)
    | (at_builtin; refine app_own rfl (.tmp 12) (.tmp 19) rfl w1.heap.size _ _ hO3 rfl _ _ _ ho3 rfl (by simp; omega) hz3 ?_; intro v4 w4 ho4 hg4))
  have hb14 : Below w1.heap.size w1 w4 := (hbA.trans (hb3.mono hbA.size)).trans (hg4.below hO3 hz3)
  obtain ⟨P4, hP4⟩ : ∃ P4, P4 = [kind] ++ (small t ++ small keys.length) := ⟨_, rfl⟩
  have hlP4 : P4.length ≤ 21 := by rw [hP4]; simp; omega
  rw [← hP4] at ho4
  go_wp2
  go_loopw [4, 5] (fun v i wr => ∃ k : Nat, k ≤ keys.length ∧ i = .int .i64 k ∧ Own wr w1.heap.size v (P4 ++ keysB (keys.take k)) ∧ Below w1.heap.size w1 wr) (fun _ i _ => keys.length - (intOf i).toNat)
  case atStart => exact ⟨0, Nat.zero_le _, rfl, by simpa [keysB] using ho4, hb14⟩
  case round =>
    obtain ⟨k, hk, rfl, how, hbr⟩ := hrel
    clear ho4 hb14 hg4 ho3 hO3 hz3 hb3 b1 b2 hO1 hbA
    have hsr := hbr.size
    have hlk : (keysB (keys.take k)).length ≤ 400 := by
      have h1 := keysB_len (keys.take k) (fun x hx => HKS.out x (List.mem_of_mem_take hx))
      have h2 : (keys.take k).length ≤ 8 := by simp; omega
      omega
    obtain ⟨-, -, r2, r3, -⟩ := HBX.out wr hbr
    by_cases hlt : k < keys.length
    · have hlt2 : (k : Int) < (keys.length : Int) := by omega
      rcases HT.out with h | ⟨b, off, rfl, hb, hc⟩
      · rw [h] at hlt; simp at hlt
      have hb0r := hb01.trans (hbr.mono hb01.size)
      have hx := (hb0r.cell (p := ⟨b, off + k, none⟩) hb).trans (hc k hlt)
      have hsz : keys[k].size ≤ 32 := by have := HKS.out _ (List.getElem_mem hlt); simp [keyOk] at this; exact this.2
      have hsn := keysB_take hlt
      obtain ⟨s, hs⟩ : ∃ s, s = keys[k] := ⟨_, rfl⟩
      rw [← hs] at hx hsz hsn
      obtain ⟨Q, hQ⟩ : ∃ Q, Q = P4 ++ keysB (keys.take k) := ⟨_, rfl⟩
      have HQ : Hid (Q ++ text s.data.toList = P4 ++ keysB (keys.take (k + 1))) := by rw [hsn, hQ, List.append_assoc]; exact rfl
      have hlQ : Q.length ≤ 500 := by rw [hQ]; simp; omega
      have hss := small_len s.size
      have hlt6 : (text s.data.toList).length ≤ 100 := by simp [text]; omega
      obtain ⟨T, hT⟩ : ∃ T, T = text s.data.toList := ⟨_, rfl⟩
      have hcl := fun W => refText_any s W (by omega)
      rw [← hT] at hlt6 HQ
      have HCL : Hid (∀ W : World, Calls Try.prog 28 #[.string s] W fun e w' => ∃ v', e = .returned v' ∧ Own w' W.heap.size v' T ∧ Below W.heap.size W w') := by rw [hT]; exact hcl
      rw [← hQ] at how
      clear hs hc hsn hQ hlk hT hcl
      go_wp2_with (first
        | (go_at_call 28; refine (HCL.out wr).mono ?_; rintro e w5 ⟨v5, rfl, ho5, hb5⟩; have hO5 := how.kept hb5; have hz5 : w1.heap.size ≤ w5.heap.size := Nat.le_trans hsr hb5.size)
        | (at_builtin; refine app_own rfl (.tmp 28) (.tmp 34) rfl w1.heap.size _ _ hO5 rfl _ _ _ ho5 rfl (by omega) hz5 ?_; intro v6 w6 ho6 hg6))
      have hb15 := (hbr.trans (hb5.mono hsr)).trans (hg6.below hO5 hz5)
      rw [HQ.out] at ho6
      go_roundw
      case rel => exact ⟨k + 1, by omega, by go_num, ho6, hb15⟩
      case measure => simp [intOf]; omega
    · have hlt2 : decide ((k : Int) < (keys.length : Int)) = false := by simp; omega
      have e0 : keys.take k = keys := List.take_of_length_le (by omega)
      rw [e0] at how
      obtain ⟨Q, hQ⟩ : ∃ Q, Q = P4 ++ keysB keys := ⟨_, rfl⟩
      have HQ : Hid (Q = [kind] ++ small t ++ small keys.length ++ keysB keys) := by rw [hQ, hP4]; simp [Hid]
      have hlQ : Q.length ≤ 500 := by rw [e0] at hlk; rw [hQ]; simp; omega
      rw [← hQ] at how
      clear e0 hQ hlk hP4
      obtain ⟨T, hT⟩ : ∃ T, T = text value.data.toList := ⟨_, rfl⟩
      have hcl := fun W => refText_any value W (by omega)
      have hlT : T.length ≤ 522 := by rw [hT]; simp [text]; omega
      have HCL : Hid (∀ W : World, Calls Try.prog 28 #[.string value] W fun e w' => ∃ v', e = .returned v' ∧ Own w' W.heap.size v' T ∧ Below W.heap.size W w') := by rw [hT]; exact hcl
      have HTT : Hid (T = text value.data.toList) := hT
      clear hcl hT
      go_wp2_with (first
        | (go_at_call 29; refine (refSmall_any by_ wh gb).mono ?_; rintro e wi ⟨vi, rfl, hoi, hbi⟩; have hOi := hoh.kept hbi; have hzi : w1.heap.size ≤ wi.heap.size := Nat.le_trans hzh hbi.size)
        | (go_at_call 29; refine (refSmall_any unique wf gu).mono ?_; rintro e wg ⟨vg, rfl, hog, hbg⟩; have hOg := hof.kept hbg; have hzg : w1.heap.size ≤ wg.heap.size := Nat.le_trans hzf hbg.size)
        | (go_at_call 27; refine (refSmall1 wd u hua).mono ?_; rintro e we ⟨ve, rfl, hoe, hbe⟩; have hOe := hod.kept hbe; have hze : w1.heap.size ≤ we.heap.size := Nat.le_trans hzd hbe.size)
        | (go_at_call 29; refine (refSmall_any flags wb ff).mono ?_; rintro e wc ⟨vc, rfl, hoc, hbc⟩; have hOc := hob.kept hbc; have hzc : w1.heap.size ≤ wc.heap.size := Nat.le_trans hzb hbc.size)
        | (go_at_call 28; refine (HCL.out wr).mono ?_; rintro e wq ⟨vq, rfl, hoq, hbq⟩; have hOq := how.kept hbq; have hzq : w1.heap.size ≤ wq.heap.size := Nat.le_trans hsr hbq.size)
        | (at_builtin; refine app_own rfl (.tmp 58) (.tmp 61) rfl w1.heap.size _ _ hOi rfl _ _ _ hoi rfl (by simp; omega) hzi ?_; intro vj wj hoj hgj; have hb1j := (hb1h.trans (hbi.mono hzh)).trans (hgj.below hOi hzi))
        | (at_builtin; refine app_own rfl (.tmp 53) (.tmp 56) rfl w1.heap.size _ _ hOg rfl _ _ _ hog rfl (by simp; omega) hzg ?_; intro vh wh hoh hgh; have hb1h := (hb1f.trans (hbg.mono hzf)).trans (hgh.below hOg hzg); have hzh := hb1h.size; obtain ⟨-, -, -, -, -, -, -, q7⟩ := HBX.out wh hb1h)
        | (at_builtin; refine app_own rfl (.tmp 47) (.tmp 51) rfl w1.heap.size _ _ hOe rfl _ _ _ hoe rfl (by simp; omega) hze ?_; intro vf wf hof hgf; have hb1f := (hb1d.trans (hbe.mono hzd)).trans (hgf.below hOe hze); have hzf := hb1f.size; obtain ⟨-, -, -, -, -, -, p6, -⟩ := HBX.out wf hb1f)
        | (at_builtin; refine app_own rfl (.tmp 41) (.tmp 45) rfl w1.heap.size _ _ hOc rfl _ _ _ hoc rfl (by simp; omega) hzc ?_; intro vd wd hod hgd; have hb1d := (hb1b.trans (hbc.mono hzb)).trans (hgd.below hOc hzc); have hzd := hb1d.size; obtain ⟨-, -, -, -, -, o5, -⟩ := HBX.out wd hb1d)
        | (at_builtin; refine app_own rfl (.tmp 36) (.tmp 39) rfl w1.heap.size _ _ hOq rfl _ _ _ hoq rfl (by omega) hzq ?_; intro vb wb hob hgb; have hb1b := (hbr.trans (hbq.mono hsr)).trans (hgb.below hOq hzq); have hzb := hb1b.size; obtain ⟨-, -, -, -, n4, -⟩ := HBX.out wb hb1b))
      go_ret2
      refine ⟨_, rfl, ?_, hb01.trans (hb1j.mono hb01.size)⟩
      rw [HQ.out, HTT.out] at hoj
      have hm := hoj.mono hb01.size
      unfold cmdB
      simpa using hm
end Go.Proofs.Ytjmcgpdimhgegaa
/-
  The document's Write of requests as packets.
-/
namespace Go.Proofs.Ytjmcgpdimhgegaa
open Go.Proofs.Ytjmcgpdimhgegaa.It
open Go.RowKit
set_option linter.unusedSimpArgs false
set_option linter.unusedVariables false
set_option maxRecDepth 100000

set_option maxHeartbeats 4000000 in
theorem rwriteBad_any (r : Rq) (ko : Option Addr) (kc : Nat) (w : World) (h : GRd ES w ko r.cmd.keys kc) (hrow : r.hasRow = false) :
    Calls Try.prog 7 #[.agg (r.arr (.slice ko r.cmd.keys.length kc))] w fun e w' => ∃ v, e = .returned (.tuple #[v, .int .i64 8]) ∧ GOwn EY w' w.heap.size v [] ∧ Below w.heap.size w w' := by
  obtain ⟨W, hW⟩ : ∃ W, W = w.alloc (.cells (r.arr (.slice ko r.cmd.keys.length kc)) 28) := ⟨_, rfl⟩
  have hB0 : Below w.heap.size w W := by rw [hW]; exact g_alloc _ _
  have HB : Hid (Below w.heap.size w W) := hB0
  have HX : Hid (GBx W w.heap.size (r.cl (.slice ko r.cmd.keys.length kc))) := by rw [hW]; exact GBx.made w (r.cl _) _
  have HK := Hid.mk2 (h.below hB0)
  have HN := Hid.mk2 (fun W => samez_any r.cmd ko kc W h.len)
  have hcases : ¬ (1 ≤ r.kind ∧ r.kind ≤ 5) ∨ ((1 ≤ r.kind ∧ r.kind ≤ 5) ∧ (r.close = true ∨ (r.close = false ∧ ((r.on = true ∧ r.kind ≠ 3) ∨ ((r.on = false ∨ r.kind = 3) ∧ ((r.kind ≠ 1 ∧ r.cmd.isNone = false) ∨ ((r.kind = 1 ∨ r.cmd.isNone = true) ∧ ((r.kind ≠ 2 ∧ (r.tenant ≠ 0 ∨ (r.tenant = 0 ∧ r.secret.toList.isEmpty = false))) ∨ (r.kind = 2 ∧ logOk r.tenant r.secret.size = false))))))))) := by
    unfold Rq.hasRow at hrow
    by_cases a1 : 1 ≤ r.kind ∧ r.kind ≤ 5
    case neg => exact .inl a1
    refine .inr ⟨a1, ?_⟩
    rw [decide_eq_true a1] at hrow
    cases hcl : r.close with
    | true => exact .inl rfl
    | false =>
      refine .inr ⟨rfl, ?_⟩
      rw [hcl] at hrow
      by_cases a3 : r.kind = 3
      · rw [a3] at hrow ⊢
        refine .inr ⟨.inr rfl, ?_⟩
        cases hn : r.cmd.isNone with
        | false => exact .inl ⟨by decide, rfl⟩
        | true =>
          refine .inr ⟨.inr rfl, .inl ⟨by decide, ?_⟩⟩
          rw [hn] at hrow
          by_cases ht : r.tenant = 0
          · exact .inr ⟨ht, by simpa [ht] using hrow⟩
          · exact .inl ht
      · cases hon : r.on with
        | true => exact .inl ⟨rfl, a3⟩
        | false =>
          refine .inr ⟨.inl rfl, ?_⟩
          rw [hon] at hrow
          by_cases a1' : r.kind = 1
          · rw [a1'] at hrow ⊢
            refine .inr ⟨.inl rfl, .inl ⟨by decide, ?_⟩⟩
            by_cases ht : r.tenant = 0
            · exact .inr ⟨ht, by simpa [ht] using hrow⟩
            · exact .inl ht
          · cases hn : r.cmd.isNone with
            | false => exact .inl ⟨a1', rfl⟩
            | true =>
              refine .inr ⟨.inr rfl, ?_⟩
              rw [hn] at hrow
              by_cases a2 : r.kind = 2
              · rw [a2] at hrow
                exact .inr ⟨a2, by simpa using hrow⟩
              · refine .inl ⟨a2, ?_⟩
                by_cases ht : r.tenant = 0
                · exact .inr ⟨ht, by simpa [ht, a2] using hrow⟩
                · exact .inl ht
  obtain ⟨NN, hNN⟩ : ∃ NN, NN = r.cmd.isNone := ⟨_, rfl⟩
  rw [← hNN] at HN hcases
  have hlog : logOk r.tenant r.secret.size = false → r.tenant < 0 ∨ (0 ≤ r.tenant ∧ 4 ≤ r.tenant) ∨ ((0 ≤ r.tenant ∧ r.tenant < 4) ∧ (r.secret.size : Int) < 1) ∨ ((0 ≤ r.tenant ∧ r.tenant < 4) ∧ 1 ≤ (r.secret.size : Int) ∧ 16 < (r.secret.size : Int)) := by
    intro e
    have h2 : ¬ (0 ≤ r.tenant ∧ r.tenant < 4 ∧ 1 ≤ r.secret.size ∧ r.secret.size ≤ 16) := by rw [← logOk_iff, e]; decide
    omega
  clear h hB0 hrow hNN
  obtain ⟨rk, ⟨kind, tenant, keys, value, flags, life, unique, by_⟩, rt, secret, on, close⟩ := r
  unfold Rq.arr at *
  unfold Rq.cl at HX
  unfold Cm.arr at HN
  unfold cz at HN
  dsimp only at *
  have c0 := HX.out.c 0 (by simp)
  have c1 := HX.out.c 1 (by simp)
  have c2 := HX.out.c 2 (by simp)
  have c3 := HX.out.c 3 (by simp)
  have c4 := HX.out.c 4 (by simp)
  have c5 := HX.out.c 5 (by simp)
  have c6 := HX.out.c 6 (by simp)
  have c7 := HX.out.c 7 (by simp)
  have c8 := HX.out.c 8 (by simp)
  have c9 := HX.out.c 9 (by simp)
  have c10 := HX.out.c 10 (by simp)
  have c11 := HX.out.c 11 (by simp)
  have c12 := HX.out.c 12 (by simp)
  have hlt := HX.out.lt
  simp only [List.getElem_cons_zero, List.getElem_cons_succ] at c0 c1 c2 c3 c4 c5 c6 c7 c8 c9 c10 c11 c12
  rcases hcases with hk | ⟨⟨k1, k2⟩, hcases⟩
  · have hk2 : rk < 1 ∨ (¬ rk < 1 ∧ 5 < rk) := by omega
    clear hk hlog
    rcases hk2 with hk2 | ⟨hk2, hk3⟩
    · go_enter Try.func7, Try.ntmps7
      go_upto_region 1 with (fail)
      rw [← hW]
      clear hW
      go_wp2
      all_goals (go_ret2; exact ⟨_, rfl, GOwn.nil _ _, HB.out⟩)
    · go_enter Try.func7, Try.ntmps7
      go_upto_region 1 with (fail)
      rw [← hW]
      clear hW
      go_wp2
      all_goals (go_ret2; exact ⟨_, rfl, GOwn.nil _ _, HB.out⟩)
  have k1n : ¬ rk < 1 := by omega
  have k2n : ¬ 5 < rk := by omega
  rcases hcases with rfl | ⟨rfl, hcases⟩
  · clear hlog k1 k2
    go_enter Try.func7, Try.ntmps7
    go_upto_region 1 with (fail)
    rw [← hW]
    clear hW
    go_wp2
    all_goals (go_ret2; exact ⟨_, rfl, GOwn.nil _ _, HB.out⟩)
  rcases hcases with ⟨rfl, hk3⟩ | ⟨hon, hcases⟩
  · have k3b : (rk == 3) = false := by simpa using hk3
    clear hlog k1 k2
    go_enter Try.func7, Try.ntmps7
    go_upto_region 1 with (fail)
    rw [← hW]
    clear hW
    go_wp2
    all_goals (go_ret2; exact ⟨_, rfl, GOwn.nil _ _, HB.out⟩)
  rcases hcases with ⟨hk1, rfl⟩ | ⟨hn, hcases⟩
  · have k1b : (rk == 1) = false := by simpa using hk1
    clear hlog k1 k2
    rcases hon with rfl | rfl
    · go_enter Try.func7, Try.ntmps7
      go_upto_region 1 with (fail)
      rw [← hW]
      clear hW
      go_wp2_with ((go_at_call 14; refine (HN.out _).mono ?_; rintro e w2 ⟨rfl, hb2⟩; have HX2 := Hid.mk2 (HX.out.below hb2); have HK2 := Hid.mk2 (HK.out.below hb2); have HB2 := Hid.mk2 (g_on HB.out hb2); have d0 := HX2.out.c 0 (by simp); have d1 := HX2.out.c 1 (by simp); have d2 := HX2.out.c 2 (by simp); have d3 := HX2.out.c 3 (by simp); have d4 := HX2.out.c 4 (by simp); have d5 := HX2.out.c 5 (by simp); have d6 := HX2.out.c 6 (by simp); have d7 := HX2.out.c 7 (by simp); have d8 := HX2.out.c 8 (by simp); have d9 := HX2.out.c 9 (by simp); have d10 := HX2.out.c 10 (by simp); have d11 := HX2.out.c 11 (by simp); have d12 := HX2.out.c 12 (by simp); simp only [List.getElem_cons_zero, List.getElem_cons_succ] at d0 d1 d2 d3 d4 d5 d6 d7 d8 d9 d10 d11 d12; have hltd := HX2.out.lt; clear hb2))
      all_goals (go_ret2; exact ⟨_, rfl, GOwn.nil _ _, HB2.out⟩)
    · cases on
      · go_enter Try.func7, Try.ntmps7
        go_upto_region 1 with (fail)
        rw [← hW]
        clear hW
        go_wp2_with ((go_at_call 14; refine (HN.out _).mono ?_; rintro e w2 ⟨rfl, hb2⟩; have HX2 := Hid.mk2 (HX.out.below hb2); have HK2 := Hid.mk2 (HK.out.below hb2); have HB2 := Hid.mk2 (g_on HB.out hb2); have d0 := HX2.out.c 0 (by simp); have d1 := HX2.out.c 1 (by simp); have d2 := HX2.out.c 2 (by simp); have d3 := HX2.out.c 3 (by simp); have d4 := HX2.out.c 4 (by simp); have d5 := HX2.out.c 5 (by simp); have d6 := HX2.out.c 6 (by simp); have d7 := HX2.out.c 7 (by simp); have d8 := HX2.out.c 8 (by simp); have d9 := HX2.out.c 9 (by simp); have d10 := HX2.out.c 10 (by simp); have d11 := HX2.out.c 11 (by simp); have d12 := HX2.out.c 12 (by simp); simp only [List.getElem_cons_zero, List.getElem_cons_succ] at d0 d1 d2 d3 d4 d5 d6 d7 d8 d9 d10 d11 d12; have hltd := HX2.out.lt; clear hb2))
        all_goals (go_ret2; exact ⟨_, rfl, GOwn.nil _ _, HB2.out⟩)
      · go_enter Try.func7, Try.ntmps7
        go_upto_region 1 with (fail)
        rw [← hW]
        clear hW
        go_wp2_with ((go_at_call 14; refine (HN.out _).mono ?_; rintro e w2 ⟨rfl, hb2⟩; have HX2 := Hid.mk2 (HX.out.below hb2); have HK2 := Hid.mk2 (HK.out.below hb2); have HB2 := Hid.mk2 (g_on HB.out hb2); have d0 := HX2.out.c 0 (by simp); have d1 := HX2.out.c 1 (by simp); have d2 := HX2.out.c 2 (by simp); have d3 := HX2.out.c 3 (by simp); have d4 := HX2.out.c 4 (by simp); have d5 := HX2.out.c 5 (by simp); have d6 := HX2.out.c 6 (by simp); have d7 := HX2.out.c 7 (by simp); have d8 := HX2.out.c 8 (by simp); have d9 := HX2.out.c 9 (by simp); have d10 := HX2.out.c 10 (by simp); have d11 := HX2.out.c 11 (by simp); have d12 := HX2.out.c 12 (by simp); simp only [List.getElem_cons_zero, List.getElem_cons_succ] at d0 d1 d2 d3 d4 d5 d6 d7 d8 d9 d10 d11 d12; have hltd := HX2.out.lt; clear hb2))
        all_goals (go_ret2; exact ⟨_, rfl, GOwn.nil _ _, HB2.out⟩)
  rcases hcases with ⟨hk2, hts⟩ | ⟨rfl, hlo⟩
  · clear hlog
    have hk4 : rk = 1 ∨ rk = 3 ∨ rk = 4 ∨ rk = 5 := by omega
    clear k1 k2 k1n k2n hk2
    rcases hk4 with rfl | rfl | rfl | rfl
    · have hon2 : on = false := by rcases hon with h | h; exact h; cases h
      subst hon2
      clear hon hn
      rcases hts with ht | ⟨rfl, hse⟩
      · have htb : (rt == 0) = false := by simpa using ht
        go_enter Try.func7, Try.ntmps7
        go_upto_region 1 with (fail)
        rw [← hW]
        clear hW
        go_wp2
        all_goals (go_ret2; exact ⟨_, rfl, GOwn.nil _ _, HB.out⟩)
      · go_enter Try.func7, Try.ntmps7
        go_upto_region 1 with (fail)
        rw [← hW]
        clear hW
        go_wp2
        all_goals (go_ret2; exact ⟨_, rfl, GOwn.nil _ _, HB.out⟩)
    · have hn2 : NN = true := by rcases hn with h | h; cases h; exact h
      subst hn2
      clear hon hn
      cases on
      · rcases hts with ht | ⟨rfl, hse⟩
        · have htb : (rt == 0) = false := by simpa using ht
          go_enter Try.func7, Try.ntmps7
          go_upto_region 1 with (fail)
          rw [← hW]
          clear hW
          go_wp2_with ((go_at_call 14; refine (HN.out _).mono ?_; rintro e w2 ⟨rfl, hb2⟩; have HX2 := Hid.mk2 (HX.out.below hb2); have HK2 := Hid.mk2 (HK.out.below hb2); have HB2 := Hid.mk2 (g_on HB.out hb2); have d0 := HX2.out.c 0 (by simp); have d1 := HX2.out.c 1 (by simp); have d2 := HX2.out.c 2 (by simp); have d3 := HX2.out.c 3 (by simp); have d4 := HX2.out.c 4 (by simp); have d5 := HX2.out.c 5 (by simp); have d6 := HX2.out.c 6 (by simp); have d7 := HX2.out.c 7 (by simp); have d8 := HX2.out.c 8 (by simp); have d9 := HX2.out.c 9 (by simp); have d10 := HX2.out.c 10 (by simp); have d11 := HX2.out.c 11 (by simp); have d12 := HX2.out.c 12 (by simp); simp only [List.getElem_cons_zero, List.getElem_cons_succ] at d0 d1 d2 d3 d4 d5 d6 d7 d8 d9 d10 d11 d12; have hltd := HX2.out.lt; clear hb2))
          all_goals (go_ret2; exact ⟨_, rfl, GOwn.nil _ _, HB2.out⟩)
        · go_enter Try.func7, Try.ntmps7
          go_upto_region 1 with (fail)
          rw [← hW]
          clear hW
          go_wp2_with ((go_at_call 14; refine (HN.out _).mono ?_; rintro e w2 ⟨rfl, hb2⟩; have HX2 := Hid.mk2 (HX.out.below hb2); have HK2 := Hid.mk2 (HK.out.below hb2); have HB2 := Hid.mk2 (g_on HB.out hb2); have d0 := HX2.out.c 0 (by simp); have d1 := HX2.out.c 1 (by simp); have d2 := HX2.out.c 2 (by simp); have d3 := HX2.out.c 3 (by simp); have d4 := HX2.out.c 4 (by simp); have d5 := HX2.out.c 5 (by simp); have d6 := HX2.out.c 6 (by simp); have d7 := HX2.out.c 7 (by simp); have d8 := HX2.out.c 8 (by simp); have d9 := HX2.out.c 9 (by simp); have d10 := HX2.out.c 10 (by simp); have d11 := HX2.out.c 11 (by simp); have d12 := HX2.out.c 12 (by simp); simp only [List.getElem_cons_zero, List.getElem_cons_succ] at d0 d1 d2 d3 d4 d5 d6 d7 d8 d9 d10 d11 d12; have hltd := HX2.out.lt; clear hb2))
          all_goals (go_ret2; exact ⟨_, rfl, GOwn.nil _ _, HB2.out⟩)
      · rcases hts with ht | ⟨rfl, hse⟩
        · have htb : (rt == 0) = false := by simpa using ht
          go_enter Try.func7, Try.ntmps7
          go_upto_region 1 with (fail)
          rw [← hW]
          clear hW
          go_wp2_with ((go_at_call 14; refine (HN.out _).mono ?_; rintro e w2 ⟨rfl, hb2⟩; have HX2 := Hid.mk2 (HX.out.below hb2); have HK2 := Hid.mk2 (HK.out.below hb2); have HB2 := Hid.mk2 (g_on HB.out hb2); have d0 := HX2.out.c 0 (by simp); have d1 := HX2.out.c 1 (by simp); have d2 := HX2.out.c 2 (by simp); have d3 := HX2.out.c 3 (by simp); have d4 := HX2.out.c 4 (by simp); have d5 := HX2.out.c 5 (by simp); have d6 := HX2.out.c 6 (by simp); have d7 := HX2.out.c 7 (by simp); have d8 := HX2.out.c 8 (by simp); have d9 := HX2.out.c 9 (by simp); have d10 := HX2.out.c 10 (by simp); have d11 := HX2.out.c 11 (by simp); have d12 := HX2.out.c 12 (by simp); simp only [List.getElem_cons_zero, List.getElem_cons_succ] at d0 d1 d2 d3 d4 d5 d6 d7 d8 d9 d10 d11 d12; have hltd := HX2.out.lt; clear hb2))
          all_goals (go_ret2; exact ⟨_, rfl, GOwn.nil _ _, HB2.out⟩)
        · go_enter Try.func7, Try.ntmps7
          go_upto_region 1 with (fail)
          rw [← hW]
          clear hW
          go_wp2_with ((go_at_call 14; refine (HN.out _).mono ?_; rintro e w2 ⟨rfl, hb2⟩; have HX2 := Hid.mk2 (HX.out.below hb2); have HK2 := Hid.mk2 (HK.out.below hb2); have HB2 := Hid.mk2 (g_on HB.out hb2); have d0 := HX2.out.c 0 (by simp); have d1 := HX2.out.c 1 (by simp); have d2 := HX2.out.c 2 (by simp); have d3 := HX2.out.c 3 (by simp); have d4 := HX2.out.c 4 (by simp); have d5 := HX2.out.c 5 (by simp); have d6 := HX2.out.c 6 (by simp); have d7 := HX2.out.c 7 (by simp); have d8 := HX2.out.c 8 (by simp); have d9 := HX2.out.c 9 (by simp); have d10 := HX2.out.c 10 (by simp); have d11 := HX2.out.c 11 (by simp); have d12 := HX2.out.c 12 (by simp); simp only [List.getElem_cons_zero, List.getElem_cons_succ] at d0 d1 d2 d3 d4 d5 d6 d7 d8 d9 d10 d11 d12; have hltd := HX2.out.lt; clear hb2))
          all_goals (go_ret2; exact ⟨_, rfl, GOwn.nil _ _, HB2.out⟩)
    · have hn2 : NN = true := by rcases hn with h | h; cases h; exact h
      subst hn2
      have hon2 : on = false := by rcases hon with h | h; exact h; cases h
      subst hon2
      clear hon hn
      rcases hts with ht | ⟨rfl, hse⟩
      · have htb : (rt == 0) = false := by simpa using ht
        go_enter Try.func7, Try.ntmps7
        go_upto_region 1 with (fail)
        rw [← hW]
        clear hW
        go_wp2_with ((go_at_call 14; refine (HN.out _).mono ?_; rintro e w2 ⟨rfl, hb2⟩; have HX2 := Hid.mk2 (HX.out.below hb2); have HK2 := Hid.mk2 (HK.out.below hb2); have HB2 := Hid.mk2 (g_on HB.out hb2); have d0 := HX2.out.c 0 (by simp); have d1 := HX2.out.c 1 (by simp); have d2 := HX2.out.c 2 (by simp); have d3 := HX2.out.c 3 (by simp); have d4 := HX2.out.c 4 (by simp); have d5 := HX2.out.c 5 (by simp); have d6 := HX2.out.c 6 (by simp); have d7 := HX2.out.c 7 (by simp); have d8 := HX2.out.c 8 (by simp); have d9 := HX2.out.c 9 (by simp); have d10 := HX2.out.c 10 (by simp); have d11 := HX2.out.c 11 (by simp); have d12 := HX2.out.c 12 (by simp); simp only [List.getElem_cons_zero, List.getElem_cons_succ] at d0 d1 d2 d3 d4 d5 d6 d7 d8 d9 d10 d11 d12; have hltd := HX2.out.lt; clear hb2))
        all_goals (go_ret2; exact ⟨_, rfl, GOwn.nil _ _, HB2.out⟩)
      · go_enter Try.func7, Try.ntmps7
        go_upto_region 1 with (fail)
        rw [← hW]
        clear hW
        go_wp2_with ((go_at_call 14; refine (HN.out _).mono ?_; rintro e w2 ⟨rfl, hb2⟩; have HX2 := Hid.mk2 (HX.out.below hb2); have HK2 := Hid.mk2 (HK.out.below hb2); have HB2 := Hid.mk2 (g_on HB.out hb2); have d0 := HX2.out.c 0 (by simp); have d1 := HX2.out.c 1 (by simp); have d2 := HX2.out.c 2 (by simp); have d3 := HX2.out.c 3 (by simp); have d4 := HX2.out.c 4 (by simp); have d5 := HX2.out.c 5 (by simp); have d6 := HX2.out.c 6 (by simp); have d7 := HX2.out.c 7 (by simp); have d8 := HX2.out.c 8 (by simp); have d9 := HX2.out.c 9 (by simp); have d10 := HX2.out.c 10 (by simp); have d11 := HX2.out.c 11 (by simp); have d12 := HX2.out.c 12 (by simp); simp only [List.getElem_cons_zero, List.getElem_cons_succ] at d0 d1 d2 d3 d4 d5 d6 d7 d8 d9 d10 d11 d12; have hltd := HX2.out.lt; clear hb2))
        all_goals (go_ret2; exact ⟨_, rfl, GOwn.nil _ _, HB2.out⟩)
    · have hn2 : NN = true := by rcases hn with h | h; cases h; exact h
      subst hn2
      have hon2 : on = false := by rcases hon with h | h; exact h; cases h
      subst hon2
      clear hon hn
      rcases hts with ht | ⟨rfl, hse⟩
      · have htb : (rt == 0) = false := by simpa using ht
        go_enter Try.func7, Try.ntmps7
        go_upto_region 1 with (fail)
        rw [← hW]
        clear hW
        go_wp2_with ((go_at_call 14; refine (HN.out _).mono ?_; rintro e w2 ⟨rfl, hb2⟩; have HX2 := Hid.mk2 (HX.out.below hb2); have HK2 := Hid.mk2 (HK.out.below hb2); have HB2 := Hid.mk2 (g_on HB.out hb2); have d0 := HX2.out.c 0 (by simp); have d1 := HX2.out.c 1 (by simp); have d2 := HX2.out.c 2 (by simp); have d3 := HX2.out.c 3 (by simp); have d4 := HX2.out.c 4 (by simp); have d5 := HX2.out.c 5 (by simp); have d6 := HX2.out.c 6 (by simp); have d7 := HX2.out.c 7 (by simp); have d8 := HX2.out.c 8 (by simp); have d9 := HX2.out.c 9 (by simp); have d10 := HX2.out.c 10 (by simp); have d11 := HX2.out.c 11 (by simp); have d12 := HX2.out.c 12 (by simp); simp only [List.getElem_cons_zero, List.getElem_cons_succ] at d0 d1 d2 d3 d4 d5 d6 d7 d8 d9 d10 d11 d12; have hltd := HX2.out.lt; clear hb2))
        all_goals (go_ret2; exact ⟨_, rfl, GOwn.nil _ _, HB2.out⟩)
      · go_enter Try.func7, Try.ntmps7
        go_upto_region 1 with (fail)
        rw [← hW]
        clear hW
        go_wp2_with ((go_at_call 14; refine (HN.out _).mono ?_; rintro e w2 ⟨rfl, hb2⟩; have HX2 := Hid.mk2 (HX.out.below hb2); have HK2 := Hid.mk2 (HK.out.below hb2); have HB2 := Hid.mk2 (g_on HB.out hb2); have d0 := HX2.out.c 0 (by simp); have d1 := HX2.out.c 1 (by simp); have d2 := HX2.out.c 2 (by simp); have d3 := HX2.out.c 3 (by simp); have d4 := HX2.out.c 4 (by simp); have d5 := HX2.out.c 5 (by simp); have d6 := HX2.out.c 6 (by simp); have d7 := HX2.out.c 7 (by simp); have d8 := HX2.out.c 8 (by simp); have d9 := HX2.out.c 9 (by simp); have d10 := HX2.out.c 10 (by simp); have d11 := HX2.out.c 11 (by simp); have d12 := HX2.out.c 12 (by simp); simp only [List.getElem_cons_zero, List.getElem_cons_succ] at d0 d1 d2 d3 d4 d5 d6 d7 d8 d9 d10 d11 d12; have hltd := HX2.out.lt; clear hb2))
        all_goals (go_ret2; exact ⟨_, rfl, GOwn.nil _ _, HB2.out⟩)
  have hn2 : NN = true := by rcases hn with h | h; cases h; exact h
  subst hn2
  have hon2 : on = false := by rcases hon with h | h; exact h; cases h
  subst hon2
  clear hon hn k1 k2 k1n k2n
  rcases hlog hlo with g | ⟨g1, g2⟩ | ⟨⟨g1, g2⟩, g3⟩ | ⟨⟨g1, g2⟩, g3, g4⟩
  · clear hlog hlo
    go_enter Try.func7, Try.ntmps7
    go_upto_region 1 with (fail)
    rw [← hW]
    clear hW
    go_wp2_with ((go_at_call 14; refine (HN.out _).mono ?_; rintro e w2 ⟨rfl, hb2⟩; have HX2 := Hid.mk2 (HX.out.below hb2); have HK2 := Hid.mk2 (HK.out.below hb2); have HB2 := Hid.mk2 (g_on HB.out hb2); have d0 := HX2.out.c 0 (by simp); have d1 := HX2.out.c 1 (by simp); have d2 := HX2.out.c 2 (by simp); have d3 := HX2.out.c 3 (by simp); have d4 := HX2.out.c 4 (by simp); have d5 := HX2.out.c 5 (by simp); have d6 := HX2.out.c 6 (by simp); have d7 := HX2.out.c 7 (by simp); have d8 := HX2.out.c 8 (by simp); have d9 := HX2.out.c 9 (by simp); have d10 := HX2.out.c 10 (by simp); have d11 := HX2.out.c 11 (by simp); have d12 := HX2.out.c 12 (by simp); simp only [List.getElem_cons_zero, List.getElem_cons_succ] at d0 d1 d2 d3 d4 d5 d6 d7 d8 d9 d10 d11 d12; have hltd := HX2.out.lt; clear hb2))
    all_goals (go_ret2; exact ⟨_, rfl, GOwn.nil _ _, HB2.out⟩)
  · have gn : ¬ rt < 0 := by omega
    clear hlog hlo
    go_enter Try.func7, Try.ntmps7
    go_upto_region 1 with (fail)
    rw [← hW]
    clear hW
    go_wp2_with ((go_at_call 14; refine (HN.out _).mono ?_; rintro e w2 ⟨rfl, hb2⟩; have HX2 := Hid.mk2 (HX.out.below hb2); have HK2 := Hid.mk2 (HK.out.below hb2); have HB2 := Hid.mk2 (g_on HB.out hb2); have d0 := HX2.out.c 0 (by simp); have d1 := HX2.out.c 1 (by simp); have d2 := HX2.out.c 2 (by simp); have d3 := HX2.out.c 3 (by simp); have d4 := HX2.out.c 4 (by simp); have d5 := HX2.out.c 5 (by simp); have d6 := HX2.out.c 6 (by simp); have d7 := HX2.out.c 7 (by simp); have d8 := HX2.out.c 8 (by simp); have d9 := HX2.out.c 9 (by simp); have d10 := HX2.out.c 10 (by simp); have d11 := HX2.out.c 11 (by simp); have d12 := HX2.out.c 12 (by simp); simp only [List.getElem_cons_zero, List.getElem_cons_succ] at d0 d1 d2 d3 d4 d5 d6 d7 d8 d9 d10 d11 d12; have hltd := HX2.out.lt; clear hb2))
    all_goals (go_ret2; exact ⟨_, rfl, GOwn.nil _ _, HB2.out⟩)
  · have gn : ¬ rt < 0 := by omega
    have gm : ¬ 4 ≤ rt := by omega
    clear hlog hlo
    go_enter Try.func7, Try.ntmps7
    go_upto_region 1 with (fail)
    rw [← hW]
    clear hW
    go_wp2_with ((go_at_call 14; refine (HN.out _).mono ?_; rintro e w2 ⟨rfl, hb2⟩; have HX2 := Hid.mk2 (HX.out.below hb2); have HK2 := Hid.mk2 (HK.out.below hb2); have HB2 := Hid.mk2 (g_on HB.out hb2); have d0 := HX2.out.c 0 (by simp); have d1 := HX2.out.c 1 (by simp); have d2 := HX2.out.c 2 (by simp); have d3 := HX2.out.c 3 (by simp); have d4 := HX2.out.c 4 (by simp); have d5 := HX2.out.c 5 (by simp); have d6 := HX2.out.c 6 (by simp); have d7 := HX2.out.c 7 (by simp); have d8 := HX2.out.c 8 (by simp); have d9 := HX2.out.c 9 (by simp); have d10 := HX2.out.c 10 (by simp); have d11 := HX2.out.c 11 (by simp); have d12 := HX2.out.c 12 (by simp); simp only [List.getElem_cons_zero, List.getElem_cons_succ] at d0 d1 d2 d3 d4 d5 d6 d7 d8 d9 d10 d11 d12; have hltd := HX2.out.lt; clear hb2))
    all_goals (go_ret2; exact ⟨_, rfl, GOwn.nil _ _, HB2.out⟩)
  · have gn : ¬ rt < 0 := by omega
    have gm : ¬ 4 ≤ rt := by omega
    have gk : ¬ (secret.size : Int) < 1 := by omega
    clear hlog hlo
    go_enter Try.func7, Try.ntmps7
    go_upto_region 1 with (fail)
    rw [← hW]
    clear hW
    go_wp2_with ((go_at_call 14; refine (HN.out _).mono ?_; rintro e w2 ⟨rfl, hb2⟩; have HX2 := Hid.mk2 (HX.out.below hb2); have HK2 := Hid.mk2 (HK.out.below hb2); have HB2 := Hid.mk2 (g_on HB.out hb2); have d0 := HX2.out.c 0 (by simp); have d1 := HX2.out.c 1 (by simp); have d2 := HX2.out.c 2 (by simp); have d3 := HX2.out.c 3 (by simp); have d4 := HX2.out.c 4 (by simp); have d5 := HX2.out.c 5 (by simp); have d6 := HX2.out.c 6 (by simp); have d7 := HX2.out.c 7 (by simp); have d8 := HX2.out.c 8 (by simp); have d9 := HX2.out.c 9 (by simp); have d10 := HX2.out.c 10 (by simp); have d11 := HX2.out.c 11 (by simp); have d12 := HX2.out.c 12 (by simp); simp only [List.getElem_cons_zero, List.getElem_cons_succ] at d0 d1 d2 d3 d4 d5 d6 d7 d8 d9 d10 d11 d12; have hltd := HX2.out.lt; clear hb2))
    all_goals (go_ret2; exact ⟨_, rfl, GOwn.nil _ _, HB2.out⟩)
end Go.Proofs.Ytjmcgpdimhgegaa
/-
  The document's Write of requests as packets, where a request has a row: what its walks share.
-/
namespace Go.Proofs.Ytjmcgpdimhgegaa
open Go.Proofs.Ytjmcgpdimhgegaa.It
open Go.RowKit
set_option linter.unusedSimpArgs false
set_option linter.unusedVariables false
set_option maxRecDepth 100000

theorem GOwn.rdOf1 {w : World} {base g : Nat} {l : List UInt8} {n cap : Nat} (h : GOwn EY w base (.slice (some ⟨g, 0, none⟩) n cap) l) : GRd EY w (some ⟨g, 0, none⟩) l cap := by
  obtain ⟨ao, c, e, hr⟩ := h.rd okY
  cases e
  exact hr
theorem rmadeI_any (k : Int) (hk : 0 ≤ k ∧ k ≤ 255) (V : World) (ao : Option Addr) (L : List UInt8) (cap : Nat) (hr : GRd EY V ao L cap) (m : Nat) (hm : m = L.length) (hL : L.length ≤ 4096) :
    Calls Try.prog 17 #[.int .u8 177, .int .u8 k, .slice ao m cap] V fun e V' => ∃ v, e = .returned v ∧ GOwn EY V' V.heap.size v (pkt 177 (UInt8.ofNat k.toNat) L) ∧ Below V.heap.size V V' := by
  have h := rmade_any 177 (UInt8.ofNat k.toNat) V ao L cap hr m hm hL
  have e : ((UInt8.ofNat k.toNat).toNat : Int) = k := by rw [UInt8.toNat_ofNat']; omega
  rw [e] at h
  exact h
theorem cz_isNone : cz.isNone = true := by
  unfold Cm.isNone cz
  rw [em0]
  rfl
/-- a walk's beginning: the request in its box -/
structure Wb (r : Rq) (ko : Option Addr) (kc : Nat) (w W : World) : Prop where
  B : Below w.heap.size w W
  X : GBx W w.heap.size (r.cl (.slice ko r.cmd.keys.length kc))
  K : GRd ES W ko r.cmd.keys kc
theorem Wb.made (r : Rq) (ko : Option Addr) (kc : Nat) (w : World) (h : GRd ES w ko r.cmd.keys kc) : Wb r ko kc w (w.alloc (.cells (r.arr (.slice ko r.cmd.keys.length kc)) 28)) :=
  ⟨g_alloc _ _, GBx.made w (r.cl _) _, h.alloc _⟩
end Go.Proofs.Ytjmcgpdimhgegaa
/-
  The document's Write of requests as packets, where it has a row: a command.
-/
namespace Go.Proofs.Ytjmcgpdimhgegaa
open Go.Proofs.Ytjmcgpdimhgegaa.It
open Go.RowKit
set_option linter.unusedSimpArgs false
set_option linter.unusedVariables false
set_option maxRecDepth 100000

set_option maxHeartbeats 2000000 in
theorem rwriteG1_any (r : Rq) (ko : Option Addr) (kc : Nat) (w : World) (h : GRd ES w ko r.cmd.keys kc) (hf : CmFit r.cmd) (hrow : r.hasRow = true) (hkind : r.kind = 1) :
    Calls Try.prog 7 #[.agg (r.arr (.slice ko r.cmd.keys.length kc))] w fun e w' => ∃ v, e = .returned (.tuple #[v, .int .i64 r.bE]) ∧ GOwn EY w' w.heap.size v (if r.bE = 0 then pkt 177 (UInt8.ofNat r.kind.toNat) r.body else []) ∧ Below w.heap.size w w' := by
  obtain ⟨⟨k1, k2⟩, hc, hn, hon, ht, hl⟩ := row_parts hrow
  obtain ⟨W, hW⟩ : ∃ W, W = w.alloc (.cells (r.arr (.slice ko r.cmd.keys.length kc)) 28) := ⟨_, rfl⟩
  have hwb := Wb.made r ko kc w h
  rw [← hW] at hwb
  have HB := Hid.mk2 hwb.B
  have HX := Hid.mk2 hwb.X
  have HK := Hid.mk2 hwb.K
  have HC := Hid.mk2 (fun W (h : GRd ES W ko r.cmd.keys kc) => rcheck10_any r.cmd ko kc W h)
  have HM : Hid (r.cmd.may = true → ∀ W, GRd ES W ko r.cmd.keys kc → Calls Try.prog 16 #[.agg (r.cmd.arr (.slice ko r.cmd.keys.length kc))] W fun e w' => ∃ v', e = .returned (.tuple #[v', .int .i64 0]) ∧ GOwn EY w' W.heap.size v' (cmdB r.cmd.cmd) ∧ Below W.heap.size W w') := by
    intro hm W hr
    have hok := may_ok hm hf
    have h1 := refCommand_good r.cmd.cmd W ko kc (tl_of_rd hr) hok hf.good
    rw [arr_cells, Cm.cmd_cm hf] at h1
    exact h1.mono (by rintro e w' ⟨v', a, b, c⟩; exact ⟨v', a, own_of b, c⟩)
  have hbl : r.bE = 0 → r.body.length ≤ 1000 := fun e => body_len (by rw [wbE_row hrow]; exact e) hf
  unfold Rq.bE Rq.body at hbl
  rw [if_pos hkind, if_pos hkind] at hbl
  clear h hrow hf k1 k2 hwb
  obtain ⟨rk, ⟨kind, tenant, keys, value, flags, life, unique, by_⟩, rt, secret, on, close⟩ := r
  unfold Rq.bE Rq.body
  unfold Rq.arr at hW ⊢
  unfold Rq.cl at HX
  unfold Cm.arr at HC HM
  dsimp only at *
  subst hc hkind
  have c0 := HX.out.c 0 (by simp)
  have c1 := HX.out.c 1 (by simp)
  have c2 := HX.out.c 2 (by simp)
  have c3 := HX.out.c 3 (by simp)
  have c4 := HX.out.c 4 (by simp)
  have c5 := HX.out.c 5 (by simp)
  have c6 := HX.out.c 6 (by simp)
  have c7 := HX.out.c 7 (by simp)
  have c8 := HX.out.c 8 (by simp)
  have c9 := HX.out.c 9 (by simp)
  have c10 := HX.out.c 10 (by simp)
  have c11 := HX.out.c 11 (by simp)
  have c12 := HX.out.c 12 (by simp)
  have hlt := HX.out.lt
  simp only [List.getElem_cons_zero, List.getElem_cons_succ] at c0 c1 c2 c3 c4 c5 c6 c7 c8 c9 c10 c11 c12
  rw [if_pos rfl, if_pos rfl]
  have hon2 := hon (by decide)
  subst hon2
  obtain ⟨rfl, rfl⟩ := ht (by decide)
  obtain ⟨CC, hCC⟩ : ∃ CC, CC = Cm.mk kind tenant keys value flags life unique by_ := ⟨_, rfl⟩
  rw [← hCC] at HC HM hbl ⊢
  have htn : CC.tenant = tenant := by rw [hCC]
  have hE : CC.ckE = if CC.may = true then (if tenant = 0 then 0 else 8) else 100 := by unfold Cm.ckE; rw [htn]
  have hF : CC.chkE = if CC.may = true then 0 else 100 := rfl
  obtain ⟨E, hEE⟩ : ∃ E, E = CC.ckE := ⟨_, rfl⟩
  obtain ⟨F, hFF⟩ : ∃ F, F = CC.chkE := ⟨_, rfl⟩
  obtain ⟨BB, hBB⟩ : ∃ BB, BB = cmdB CC.cmd := ⟨_, rfl⟩
  rw [← hEE] at hE hbl ⊢
  rw [← hFF] at hF HC
  rw [← hBB] at HM hbl ⊢
  obtain ⟨M, hM⟩ : ∃ M, M = CC.may := ⟨_, rfl⟩
  rw [← hM] at hE hF HM
  clear hCC htn hEE hFF hBB hM hon ht hl hn
  cases M with
  | false =>
    rw [if_neg (by decide)] at hE hF
    subst hE hF
    rw [if_neg (by decide)]
    clear hbl HM
    go_enter Try.func7, Try.ntmps7
    go_upto_region 1 with (fail)
    rw [← hW]
    clear hW
    go_wp2_with (go_at_call 15; refine (HC.out W HK.out).mono ?_; rintro e w1 ⟨rfl, hb1⟩; have HX1 := Hid.mk2 (HX.out.below hb1); have HK1 := Hid.mk2 (HK.out.below hb1); have HB1 := Hid.mk2 (g_on HB.out hb1); have d0 := HX1.out.c 0 (by simp); have d1 := HX1.out.c 1 (by simp); have d2 := HX1.out.c 2 (by simp); have d3 := HX1.out.c 3 (by simp); have d4 := HX1.out.c 4 (by simp); have d5 := HX1.out.c 5 (by simp); have d6 := HX1.out.c 6 (by simp); have d7 := HX1.out.c 7 (by simp); have d8 := HX1.out.c 8 (by simp); have d9 := HX1.out.c 9 (by simp); have d10 := HX1.out.c 10 (by simp); have d11 := HX1.out.c 11 (by simp); have d12 := HX1.out.c 12 (by simp); simp only [List.getElem_cons_zero, List.getElem_cons_succ] at d0 d1 d2 d3 d4 d5 d6 d7 d8 d9 d10 d11 d12; have hltd := HX1.out.lt; clear hb1)
    go_ret2
    exact ⟨_, rfl, GOwn.nil _ _, HB1.out⟩
  | true =>
    rw [if_pos rfl] at hE hF
    subst hF
    by_cases ht0 : tenant = 0
    case neg =>
      rw [if_neg ht0] at hE
      subst hE
      rw [if_neg (by decide)]
      have htb : (tenant == 0) = false := by simpa using ht0
      clear hbl HM
      go_enter Try.func7, Try.ntmps7
      go_upto_region 1 with (fail)
      rw [← hW]
      clear hW
      go_wp2_with (go_at_call 15; refine (HC.out W HK.out).mono ?_; rintro e w1 ⟨rfl, hb1⟩; have HX1 := Hid.mk2 (HX.out.below hb1); have HK1 := Hid.mk2 (HK.out.below hb1); have HB1 := Hid.mk2 (g_on HB.out hb1); have d0 := HX1.out.c 0 (by simp); have d1 := HX1.out.c 1 (by simp); have d2 := HX1.out.c 2 (by simp); have d3 := HX1.out.c 3 (by simp); have d4 := HX1.out.c 4 (by simp); have d5 := HX1.out.c 5 (by simp); have d6 := HX1.out.c 6 (by simp); have d7 := HX1.out.c 7 (by simp); have d8 := HX1.out.c 8 (by simp); have d9 := HX1.out.c 9 (by simp); have d10 := HX1.out.c 10 (by simp); have d11 := HX1.out.c 11 (by simp); have d12 := HX1.out.c 12 (by simp); simp only [List.getElem_cons_zero, List.getElem_cons_succ] at d0 d1 d2 d3 d4 d5 d6 d7 d8 d9 d10 d11 d12; have hltd := HX1.out.lt; clear hb1)
      go_ret2
      exact ⟨_, rfl, GOwn.nil _ _, HB1.out⟩
    rw [if_pos ht0] at hE
    subst hE ht0
    rw [if_pos rfl]
    have HMM := Hid.mk2 (HM.out rfl)
    have HBL := Hid.mk2 (hbl rfl)
    clear HM hbl
    go_enter Try.func7, Try.ntmps7
    go_upto_region 1 with (fail)
    rw [← hW]
    clear hW
    go_wp2_with (first
      | (go_at_call 15; refine (HC.out W HK.out).mono ?_; rintro e w1 ⟨rfl, hb1⟩; have HX1 := Hid.mk2 (HX.out.below hb1); have HK1 := Hid.mk2 (HK.out.below hb1); have HB1 := Hid.mk2 (g_on HB.out hb1); have d0 := HX1.out.c 0 (by simp); have d1 := HX1.out.c 1 (by simp); have d2 := HX1.out.c 2 (by simp); have d3 := HX1.out.c 3 (by simp); have d4 := HX1.out.c 4 (by simp); have d5 := HX1.out.c 5 (by simp); have d6 := HX1.out.c 6 (by simp); have d7 := HX1.out.c 7 (by simp); have d8 := HX1.out.c 8 (by simp); have d9 := HX1.out.c 9 (by simp); have d10 := HX1.out.c 10 (by simp); have d11 := HX1.out.c 11 (by simp); have d12 := HX1.out.c 12 (by simp); simp only [List.getElem_cons_zero, List.getElem_cons_succ] at d0 d1 d2 d3 d4 d5 d6 d7 d8 d9 d10 d11 d12; have hltd := HX1.out.lt; clear hb1)
      | (go_at_call 16; refine (HMM.out w1 HK1.out).mono ?_; rintro e w3 ⟨v3, rfl, ho3, hb3⟩; obtain ⟨a3, p3, hv3, hr3⟩ := ho3.rd okY; obtain ⟨n3, hn3⟩ : ∃ n3, n3 = BB.length := ⟨_, rfl⟩; rw [← hn3] at hv3; subst hv3; have HR3 := Hid.mk2 hr3; have HN3 := Hid.mk2 hn3; have HX3 := Hid.mk2 (HX1.out.below hb3); have HB3 := Hid.mk2 (g_on HB1.out hb3); have g0 := HX3.out.c 0 (by simp); simp only [List.getElem_cons_zero] at g0; have hlt3 := HX3.out.lt; clear ho3 hb3 hr3 hn3)
      | (go_at_call 17; refine (rmadeI_any 1 (by decide) w3 a3 BB p3 HR3.out n3 HN3.out (by have := HBL.out; omega)).mono ?_; rintro e w9 ⟨v9, rfl, ho9, hb9⟩; have HO9 := Hid.mk2 (ho9.down HB3.out.size); have HB9 := Hid.mk2 (g_on HB3.out hb9); clear ho9 hb9))
    go_ret2
    exact ⟨_, rfl, HO9.out, HB9.out⟩
end Go.Proofs.Ytjmcgpdimhgegaa
/-
  The document's Write of requests as packets, where it has a row: a login.
-/
namespace Go.Proofs.Ytjmcgpdimhgegaa
open Go.Proofs.Ytjmcgpdimhgegaa.It
open Go.RowKit
set_option linter.unusedSimpArgs false
set_option linter.unusedVariables false
set_option maxRecDepth 100000

set_option maxHeartbeats 2000000 in
theorem rwriteG2_any (r : Rq) (ko : Option Addr) (kc : Nat) (w : World) (h : GRd ES w ko r.cmd.keys kc) (hf : CmFit r.cmd) (hrow : r.hasRow = true) (hkind : r.kind = 2) :
    Calls Try.prog 7 #[.agg (r.arr (.slice ko r.cmd.keys.length kc))] w fun e w' => ∃ v, e = .returned (.tuple #[v, .int .i64 r.bE]) ∧ GOwn EY w' w.heap.size v (if r.bE = 0 then pkt 177 (UInt8.ofNat r.kind.toNat) r.body else []) ∧ Below w.heap.size w w' := by
  obtain ⟨⟨k1, k2⟩, hc, hn, hon, ht, hl⟩ := row_parts hrow
  obtain ⟨W, hW⟩ : ∃ W, W = w.alloc (.cells (r.arr (.slice ko r.cmd.keys.length kc)) 28) := ⟨_, rfl⟩
  have hwb := Wb.made r ko kc w h
  rw [← hW] at hwb
  have HB := Hid.mk2 hwb.B
  have HX := Hid.mk2 hwb.X
  have HK := Hid.mk2 hwb.K
  have HN : Hid (∀ W, Calls Try.prog 14 #[.agg (r.cmd.arr (.slice ko r.cmd.keys.length kc)), .agg (cz.arr (.slice none 0 0))] W fun e w' => e = .returned (.bool true) ∧ Below W.heap.size W w') := by
    intro W
    have h1 := samez_any r.cmd ko kc W h.len
    have h2 : r.cmd.isNone = true := by rw [hn (by rw [hkind]; decide)]; exact cz_isNone
    rw [h2] at h1
    exact h1
  have hrt : ((UInt8.ofNat r.tenant.toNat).toNat : Int) = r.tenant := by have := hl hkind; rw [UInt8.toNat_ofNat']; omega
  clear h hrow hf k1 k2 hwb
  obtain ⟨rk, ⟨kind, tenant, keys, value, flags, life, unique, by_⟩, rt, secret, on, close⟩ := r
  unfold Rq.bE Rq.body
  unfold Rq.arr at hW ⊢
  unfold Rq.cl at HX
  unfold Cm.arr at HN
  unfold cz at HN
  dsimp only at *
  subst hc hkind
  have c0 := HX.out.c 0 (by simp)
  have c1 := HX.out.c 1 (by simp)
  have c2 := HX.out.c 2 (by simp)
  have c3 := HX.out.c 3 (by simp)
  have c4 := HX.out.c 4 (by simp)
  have c5 := HX.out.c 5 (by simp)
  have c6 := HX.out.c 6 (by simp)
  have c7 := HX.out.c 7 (by simp)
  have c8 := HX.out.c 8 (by simp)
  have c9 := HX.out.c 9 (by simp)
  have c10 := HX.out.c 10 (by simp)
  have c11 := HX.out.c 11 (by simp)
  have c12 := HX.out.c 12 (by simp)
  have hlt := HX.out.lt
  simp only [List.getElem_cons_zero, List.getElem_cons_succ] at c0 c1 c2 c3 c4 c5 c6 c7 c8 c9 c10 c11 c12
  rw [if_neg (by decide), if_pos rfl, if_neg (by decide), if_pos rfl]
  have hon2 := hon (by decide)
  subst hon2
  obtain ⟨t0, t1, s0, s1⟩ := hl rfl
  have HO1 := Hid.mk2 (fun V => one_own V (UInt8.ofNat rt.toNat))
  rw [hrt] at HO1
  have HS := Hid.mk2 (show secret.size ≤ 16 from s1)
  have t0n : ¬ rt < 0 := by omega
  have t1n : ¬ 4 ≤ rt := by omega
  have t3 : rt ≤ 3 := by omega
  have s0n : ¬ (secret.size : Int) < 1 := by omega
  have s1n : ¬ 16 < (secret.size : Int) := by omega
  obtain ⟨tb, htb⟩ : ∃ tb, tb = UInt8.ofNat rt.toNat := ⟨_, rfl⟩
  rw [← htb] at HO1 ⊢
  clear hon ht hl hrt s0 s1 htb hn
  go_enter Try.func7, Try.ntmps7
  go_upto_region 1 with (fail)
  rw [← hW]
  clear hW
  go_wp2_with (first
    | (go_at_call 14; refine (HN.out _).mono ?_; rintro e w2 ⟨rfl, hb2⟩; have HX2 := Hid.mk2 (HX.out.below hb2); have HK2 := Hid.mk2 (HK.out.below hb2); have HB2 := Hid.mk2 (g_on HB.out hb2); have d0 := HX2.out.c 0 (by simp); have d1 := HX2.out.c 1 (by simp); have d2 := HX2.out.c 2 (by simp); have d3 := HX2.out.c 3 (by simp); have d4 := HX2.out.c 4 (by simp); have d5 := HX2.out.c 5 (by simp); have d6 := HX2.out.c 6 (by simp); have d7 := HX2.out.c 7 (by simp); have d8 := HX2.out.c 8 (by simp); have d9 := HX2.out.c 9 (by simp); have d10 := HX2.out.c 10 (by simp); have d11 := HX2.out.c 11 (by simp); have d12 := HX2.out.c 12 (by simp); simp only [List.getElem_cons_zero, List.getElem_cons_succ] at d0 d1 d2 d3 d4 d5 d6 d7 d8 d9 d10 d11 d12; have hltd := HX2.out.lt; clear hb2)
    | (at_builtin; refine app_text rfl _ _ rfl w2.heap.size _ _ (of_own (HO1.out w2)) rfl secret rfl (by have := HS.out; simp; omega) (by simp) ?_; intro v4 w4 ho4 hg4; have ho4 : Own w4 w2.heap.size v4 (tb :: bl secret) := ho4; have hb4 := (g_alloc w2 _).trans ((Below.refl _ _).grown hg4.grown (by simp) (fun k hk => ((HO1.out w2).lt k hk).1)); obtain ⟨a4, p4, hv4, hr4⟩ := (own_of ho4).rd okY; obtain ⟨n4, hn4⟩ : ∃ n4, n4 = (tb :: bl secret).length := ⟨_, rfl⟩; rw [← hn4] at hv4; subst hv4; have HR4 := Hid.mk2 hr4; have HN4 := Hid.mk2 hn4; have HX4 := Hid.mk2 (HX2.out.below hb4); have HB4 := Hid.mk2 (g_on HB2.out hb4); have g0 := HX4.out.c 0 (by simp); simp only [List.getElem_cons_zero] at g0; have hlt4 := HX4.out.lt; clear ho4 hb4 hr4 hn4 hg4)
    | (go_at_call 17; refine (rmadeI_any 2 (by decide) w4 a4 (tb :: bl secret) p4 HR4.out n4 HN4.out (by have := HS.out; rw [List.length_cons, bl_len]; omega)).mono ?_; rintro e w9 ⟨v9, rfl, ho9, hb9⟩; have HO9 := Hid.mk2 (ho9.down HB4.out.size); have HB9 := Hid.mk2 (g_on HB4.out hb9); clear ho9 hb9))
  go_ret2
  exact ⟨_, rfl, HO9.out, HB9.out⟩
end Go.Proofs.Ytjmcgpdimhgegaa
