/-
  CodePlace is true for every tenant, key, number, text and byte: a tenant's key has one shard, below how many there are; with one shard all are in it; a hash goes on byte by byte; no condition.
-/
import Derived.Test.YthdfomcikdjkpabAlive
import Derived.Test.YthdfomcikdjkpabRows2
namespace Go.Proofs.Ythdfomcikdjkpab
open Go.ChangeShapes Go.WideShapes Go.ChangeAt Go.RowKit
open Go.ChangeMaps (open_string shut_string)
set_option linter.unusedSimpArgs false
set_option linter.unusedVariables false
set_option maxRecDepth 100000

theorem u8_bounds {n : Int} (h : (Lit.int .u8 n).wf = true) : 0 ≤ n ∧ n < 256 := by have := bounds_u8 h; omega
theorem shard_cases (t : Int) (s : ByteArray) (n : Int) : ((shardOf t s n).1 = 0 ∧ (shardOf t s n).2 ≠ 0) ∨ ((shardOf t s n).2 = 0 ∧ 0 ≤ (shardOf t s n).1 ∧ (shardOf t s n).1 < n ∧ shardOf t s 1 = (0, 0)) := by
  unfold shardOf
  by_cases h1 : tenOk t = false
  · rw [if_pos h1]; exact .inl ⟨rfl, by decide⟩
  · rw [if_neg h1]
    by_cases h2 : keyOk s = false
    · rw [if_pos h2]; exact .inl ⟨rfl, by decide⟩
    · rw [if_neg h2]
      by_cases h3 : n < 1 ∨ 4 < n
      · rw [if_pos h3]; exact .inl ⟨rfl, by decide⟩
      · rw [if_neg h3, if_neg h1, if_neg h2, if_neg (by omega)]
        refine .inr ⟨rfl, Int.emod_nonneg _ (by omega), Int.emod_lt_of_pos _ (by omega), ?_⟩
        rw [Int.emod_one]
theorem codePlace_walk (w : World) (t : Int) (wt : (Lit.int .i64 t).wf = true) (key : ByteArray) (wk : key.size ≤ maxLen) (n : Int) (wn : (Lit.int .i64 n).wf = true) (s : ByteArray) (ws : s.size ≤ maxLen) (x : Int) (wx : (Lit.int .u8 x).wf = true) :
    Calls Try.prog 5 #[.int .i64 t, .string key, .int .i64 n, .string s, .int .u8 x] w fun e w' => e = .returned (.bool true) ∧ Below w.heap.size w w' := by
  have hal := alive_any w
  by_cases g0 : 10000 < s.size
  · have e0 : decide ((10000 : Int) < (s.size : Int)) = true := by simp; omega
    go_enter Try.func5, Try.ntmps5
    go_wp2_with (go_at_call 9; refine hal.mono ?_; rintro e w1 ⟨rfl, hb1⟩)
    go_ret
    exact ⟨rfl, hb1⟩
  · have e0 : decide ((10000 : Int) < (s.size : Int)) = false := by simp; omega
    by_cases g1 : 10000 < key.size
    · have e1 : decide ((10000 : Int) < (key.size : Int)) = true := by simp; omega
      go_enter Try.func5, Try.ntmps5
      go_wp2_with (go_at_call 9; refine hal.mono ?_; rintro e w1 ⟨rfl, hb1⟩)
      go_ret
      exact ⟨rfl, hb1⟩
    · have e1 : decide ((10000 : Int) < (key.size : Int)) = false := by simp; omega
      obtain ⟨hx0, hx1⟩ := u8_bounds wx
      obtain ⟨c, hc⟩ : ∃ c : UInt8, x = (c.toNat : Int) := ⟨UInt8.ofNat x.toNat, by simp; omega⟩
      subst hc
      have hcv := fun W => conv_one (c.toNat : Int) W
      have hsz : (s ++ tenantText (c.toNat : Int)).size ≤ maxLen := by rw [ByteArray.size_append, tenantText_size]; unfold maxLen; omega
      have hsum : ¬ 9223372036854775807 < s.size + (tenantText (c.toNat : Int)).size := by rw [tenantText_size]; omega
      have htt : (tenantText (c.toNat : Int)).data.toList = [c] := by simp [tenantText, strOfNums_data]
      have hhash : hash0 (s ++ tenantText (c.toNat : Int)).data.toList = hstep (hash0 s.data.toList) c := by
        have e : (s ++ tenantText (c.toNat : Int)).data.toList = s.data.toList ++ [c] := by rw [← htt]; simp
        rw [e]; exact hashL_snoc _ _ _
      have hch := fun W => hash_any (s ++ tenantText (c.toNat : Int)) W hsz
      rw [hhash] at hch
      unfold hstep at hch
      clear hhash htt hsz hx0 hx1 wx wt wn
      have c1 := fun W => shard_any t key n W wk
      have c3 := fun W => shard_any t key 1 W wk
      rcases shard_cases t key n with ⟨h1, h2⟩ | ⟨h1, h2, h3, h4⟩
      · obtain ⟨⟨a, er⟩, hp⟩ : ∃ p, p = shardOf t key n := ⟨_, rfl⟩
        rw [← hp] at c1 h1 h2
        simp only [] at c1 h1 h2
        subst h1
        have h2' : (er != 0) = true := by simpa using h2
        clear hp c3
        go_enter Try.func5, Try.ntmps5
        go_wp2_with (first
          | (go_at_call 9; refine hal.mono ?_; rintro e w1 ⟨rfl, hb1⟩)
          | (go_at_call 17; have hh := hm1; refine (hash_any s _ ws).mono ?_; rintro e w' ⟨rfl, rfl⟩)
          | (go_at_call 17; refine (hch _).mono ?_; rintro e w' ⟨rfl, rfl⟩; have hm1 := True.intro)
          | (go_at_call 18; have hh := hm2; refine (c1 _).mono ?_; rintro e w3 ⟨rfl, hb3⟩)
          | (go_at_call 18; refine (c1 _).mono ?_; rintro e w2 ⟨rfl, hb2⟩; have hm2 := True.intro))
        go_ret
        have hb02 := hb1.trans ((below_alloc hb2).mono hb1.size)
        exact ⟨rfl, hb02.trans (hb3.mono hb02.size)⟩
      · obtain ⟨⟨a, er⟩, hp⟩ : ∃ p, p = shardOf t key n := ⟨_, rfl⟩
        rw [← hp] at c1 h1 h2 h3
        rw [h4] at c3
        simp only [] at c1 h1 h2 h3 c3
        subst h1
        clear hp h4
        go_enter Try.func5, Try.ntmps5
        go_wp2_with (first
          | (go_at_call 9; refine hal.mono ?_; rintro e w1 ⟨rfl, hb1⟩)
          | (go_at_call 17; have hh := hm1; refine (hash_any s _ ws).mono ?_; rintro e w' ⟨rfl, rfl⟩)
          | (go_at_call 17; refine (hch _).mono ?_; rintro e w' ⟨rfl, rfl⟩; have hm1 := True.intro)
          | (go_at_call 18; have hh := hm3; refine (c3 _).mono ?_; rintro e w4 ⟨rfl, hb4⟩)
          | (go_at_call 18; have hh := hm2; refine (c1 _).mono ?_; rintro e w3 ⟨rfl, hb3⟩; have hm3 := True.intro)
          | (go_at_call 18; refine (c1 _).mono ?_; rintro e w2 ⟨rfl, hb2⟩; have hm2 := True.intro))
        go_ret
        have hb02 := hb1.trans ((below_alloc hb2).mono hb1.size)
        have hb03 := hb02.trans (hb3.mono hb02.size)
        exact ⟨rfl, hb03.trans (hb4.mono hb03.size)⟩

set_option maxRecDepth 100000 in
theorem codePlace_lifted (os : Os) (started : os.Started) (H : Type) (enc : TypeId × Value → H) :
    ReturnsInHanded {} Try.checked os 5 .any (Rows.codePlaceSpec.pre6 enc Try.prog Try.f5 Rows.codePlaceRow.domain false) (Rows.codePlaceSpec.post enc Try.prog Try.f5 false true false false) := by
  refine returnsInHanded_of_change (C := Try.checked) (by kernel_rfl) started (by kernel_rfl) Try.func5
    (ChangeSpec.witness6 (enc := enc) (C := Try.checked) false ⟨#[], #[.int .i64 0, .string ByteArray.empty, .int .i64 0, .string ByteArray.empty, .int .u8 0], []⟩ 8 (by kernel_rfl) (by kernel_rfl) (by kernel_rfl) (by kernel_rfl)) ?_
  intro W base args ds gs before hval0 hW hcnd _
  have hval : ∀ (j : Nat) t v, Try.f5.params[j]? = some t → args[j]? = some v → Value.okWide Try.prog W .any base t v := hval0
  have hW' := hW
  obtain ⟨p, q, hA0, hV, rfl, hfz, hnd⟩ := hW
  have hA : DataW.TrodAll enc Try.prog W 0 (fun _ => true) true Try.f5.params.toList args.toList ds p := hA0
  rw [Try.params5] at hA hval
  obtain ⟨v0, vs0, d0, ds0, p0, q0, hargs, rfl, rfl, h0, r0⟩ := trodAll_cons hA
  obtain ⟨v1, vs1, d1, ds1, p1, q1, rfl, rfl, rfl, h1, r1⟩ := trodAll_cons r0
  obtain ⟨v2, vs2, d2, ds2, p2, q2, rfl, rfl, rfl, h2, r2⟩ := trodAll_cons r1
  obtain ⟨v3, vs3, d3, ds3, p3, q3, rfl, rfl, rfl, h3, r3⟩ := trodAll_cons r2
  obtain ⟨v4, vs4, d4, ds4, p4, q4, rfl, rfl, rfl, h4, r4⟩ := trodAll_cons r3
  obtain ⟨rfl, rfl, rfl⟩ := trodAll_nil r4
  obtain rfl : args = #[v0, v1, v2, v3, v4] := by cases args; simp_all
  obtain ⟨rfl, rfl⟩ := trodVars_none hV
  obtain ⟨a0, rfl, rfl, rfl, w0⟩ := open_int Try.underlying3 (hval 0 3 v0 rfl rfl) h0
  obtain ⟨a1, rfl, rfl, rfl, w1⟩ := open_string Try.underlying9 (hval 1 9 v1 rfl rfl) h1
  obtain ⟨a2, rfl, rfl, rfl, w2⟩ := open_int Try.underlying3 (hval 2 3 v2 rfl rfl) h2
  obtain ⟨a3, rfl, rfl, rfl, w3⟩ := open_string Try.underlying9 (hval 3 9 v3 rfl rfl) h3
  obtain ⟨a4, rfl, rfl, rfl, w4⟩ := open_int Try.underlying5 (hval 4 5 v4 rfl rfl) h4
  clear hA0 hval0
  refine (codePlace_walk W a0 w0 a1 w1 a2 w2 a3 w3 a4 w4).mono fun e W' ⟨he, bel⟩ => ?_
  subst he
  exact ⟨_, rfl, _, _, _, [], _, [], hW', trodAll_mk1 (shut_bool Try.underlying4 _), (trodAll_cons_mk (shut_int Try.underlying3 w0) (trodAll_cons_mk (shut_string Try.underlying9 w1) (trodAll_cons_mk (shut_int Try.underlying3 w2) (trodAll_cons_mk (shut_string Try.underlying9 w3) (trodAll_cons_mk (shut_int Try.underlying5 w4) trodAll_mk0))))), rfl, bel.frame _, fun h => by cases h⟩

theorem codePlace_proved : Rows.CodePlaceSaid :=
  OpenClaim.holds_of_wide 5 Try.f5 rfl rfl rfl rfl rfl rfl rfl ⟨rfl, rfl, rfl, rfl, rfl⟩ rfl rfl rfl rfl rfl (by kernel_rfl) Try.func5 (by kernel_rfl)
    (of_decide_eq_true (by kernel_rfl)) (by unfold Func.isWrapper; first | (rw [if_pos (by decide +kernel)]; kernel_rfl) | (rw [if_neg (by decide +kernel)]; exact ⟨rfl, rfl⟩))
    (fun os started H enc _ => codePlace_lifted os started H enc)
#print axioms codePlace_proved
end Go.Proofs.Ythdfomcikdjkpab

