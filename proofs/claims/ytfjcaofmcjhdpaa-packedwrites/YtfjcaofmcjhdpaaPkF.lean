/-
  The reader of package packed: item.
-/
import Derived.Test.YtfjcaofmcjhdpaaPkE
import Derived.Test.YtfjcaofmcjhdpaaPkS
namespace Go.Proofs.Ytfjcaofmcjhdpaa
open Go.Proofs.Ytfjcaofmcjhdpaa.It
open Go.RowKit
set_option linter.unusedSimpArgs false
set_option linter.unusedVariables false
set_option maxRecDepth 100000

theorem gr_new {w a b : World} {R P : Nat} (h : w.grownBy a (some R)) (h2 : a.grownBy b (some P)) (hP : w.heap.size ≤ P) : w.grownBy b (some R) :=
  ⟨h2.os.trans h.os, h2.tape.trans h.tape, h2.output.trans h.output, Nat.le_trans h.size h2.size, fun i hi hne => (h2.block i (Nat.lt_of_lt_of_le hi h.size) (fun e => by have := Option.some.inj e; omega)).trans (h.block i hi hne)⟩
theorem pSmall_le (most : Nat) (s : Ps) : (pSmall most s).1 ≤ most := by
  unfold pSmall
  split
  · split
    · assumption
    · exact Nat.zero_le _
  · exact Nat.zero_le _
def imzc : List Value := [.string ⟨#[]⟩, .string ⟨#[]⟩, .int .u32 0, .int .i64 0, .int .u64 0]
set_option maxHeartbeats 2000000 in
theorem pitem_any (w : World) (R : Nat) (K : Nat → Prop) (s : Ps) (ao : Option Addr) (m cap : Nat) (h : Rdr w R K s ao m cap) :
    Calls Try.prog 45 #[.pointer (some ⟨R, 0, none⟩)] w fun e w' => e = .returned (.agg #[.string (pItem s).1.key, .string (pItem s).1.value, .int .u32 (pItem s).1.flags, .int .i64 (pItem s).1.till, .int .u64 (pItem s).1.unique]) ∧ RdX w w' R K (pItem s).2 := by
  obtain ⟨W, hW⟩ : ∃ W, W = w.alloc (.cells #[.string ⟨#[]⟩, .string ⟨#[]⟩, .int .u32 0, .int .i64 0, .int .u64 0] 34) := ⟨_, rfl⟩
  have hb0 : Below w.heap.size w W := by rw [hW]; exact g_alloc _ _
  have hws : W.heap.size = w.heap.size + 1 := by rw [hW]; simp
  have HX0 : Hid (GBx W w.heap.size imzc) := by rw [hW]; exact GBx.made w imzc _
  have HR0 := Hid.mk2 (h.more hb0 w.heap.size (Nat.le_refl _) (by omega))
  have HRP : Hid (R < w.heap.size ∧ K R) := ⟨h.box.lt, h.kR⟩
  have HG0 := Hid.mk2 (g_grown hb0 (some R))
  obtain ⟨P, hP⟩ : ∃ P, P = w.heap.size := ⟨_, rfl⟩
  have HP := Hid.mk2 hP
  rw [← hP] at HX0 HR0
  obtain ⟨K2, hK2⟩ : ∃ K2, K2 = fun b => K b ∨ b = P := ⟨_, rfl⟩
  rw [← hK2] at HR0
  have HK2 : Hid (K2 P ∧ ∀ b, K b → K2 b) := by rw [hK2]; exact ⟨.inr rfl, fun b hb => .inl hb⟩
  have HC1 := Hid.mk2 (fun w ao m cap (h : Rdr w R K2 s ao m cap) => ptext_any w R K2 s ao m cap h)
  obtain ⟨⟨k1, s1⟩, e1⟩ : ∃ q, q = pText s := ⟨_, rfl⟩
  rw [← e1] at HC1
  have HC2 := Hid.mk2 (fun w ao m cap (h : Rdr w R K2 s1 ao m cap) => ptext_any w R K2 s1 ao m cap h)
  obtain ⟨⟨k2, s2⟩, e2⟩ : ∃ q, q = pText s1 := ⟨_, rfl⟩
  rw [← e2] at HC2
  have HC3 := Hid.mk2 (fun w ao m cap (h : Rdr w R K2 s2 ao m cap) => psmall_any w R K2 s2 ao m cap h 4294967295)
  have b3 := pSmall_le 4294967295 s2
  obtain ⟨⟨n3, s3⟩, e3⟩ : ∃ q, q = pSmall 4294967295 s2 := ⟨_, rfl⟩
  rw [← e3] at HC3 b3
  have HC4 := Hid.mk2 (fun w ao m cap (h : Rdr w R K2 s3 ao m cap) => psmall_any w R K2 s3 ao m cap h 1099511627776)
  have b4 := pSmall_le 1099511627776 s3
  obtain ⟨⟨n4, s4⟩, e4⟩ : ∃ q, q = pSmall 1099511627776 s3 := ⟨_, rfl⟩
  rw [← e4] at HC4 b4
  have HC5 := Hid.mk2 (fun w ao m cap (h : Rdr w R K2 s4 ao m cap) => psmall_any w R K2 s4 ao m cap h 18446744073709551615)
  have b5 := pSmall_le 18446744073709551615 s4
  obtain ⟨⟨n5, s5⟩, e5⟩ : ∃ q, q = pSmall 18446744073709551615 s4 := ⟨_, rfl⟩
  rw [← e5] at HC5 b5
  have HE : pItem s = (⟨mk1 k1, mk1 k2, (n3 : Int), (n4 : Int), (n5 : Int)⟩, s5) := by
    unfold pItem
    rw [← e1]
    dsimp only
    rw [← e2]
    dsimp only
    rw [← e3]
    dsimp only
    rw [← e4]
    dsimp only
    rw [← e5]
  rw [HE]
  dsimp only at b3 b4 b5 ⊢
  have D1 : Hid (∀ w ao m cap, Rdr w R K2 s ao m cap → Calls Try.prog 57 #[.pointer (some ⟨R, 0, none⟩)] w fun e w' => e = .returned (.string (mk1 k1)) ∧ RdX w w' R K2 s1) := HC1.out
  have D2 : Hid (∀ w ao m cap, Rdr w R K2 s1 ao m cap → Calls Try.prog 57 #[.pointer (some ⟨R, 0, none⟩)] w fun e w' => e = .returned (.string (mk1 k2)) ∧ RdX w w' R K2 s2) := HC2.out
  have D3 : Hid (∀ w ao m cap, Rdr w R K2 s2 ao m cap → Calls Try.prog 44 #[.pointer (some ⟨R, 0, none⟩), .int .u64 4294967295] w fun e w' => e = .returned (.int .u64 (n3 : Int)) ∧ RdX w w' R K2 s3) := HC3.out
  have D4 : Hid (∀ w ao m cap, Rdr w R K2 s3 ao m cap → Calls Try.prog 44 #[.pointer (some ⟨R, 0, none⟩), .int .u64 1099511627776] w fun e w' => e = .returned (.int .u64 (n4 : Int)) ∧ RdX w w' R K2 s4) := HC4.out
  have D5 : Hid (∀ w ao m cap, Rdr w R K2 s4 ao m cap → Calls Try.prog 44 #[.pointer (some ⟨R, 0, none⟩), .int .u64 18446744073709551615] w fun e w' => e = .returned (.int .u64 (n5 : Int)) ∧ RdX w w' R K2 s5) := HC5.out
  have i3 : (n3 : Int) ≤ 4294967295 := by omega
  have i4 : (n4 : Int) ≤ 1099511627776 := by omega
  have hw3 : IntKind.u32.wrap (n3 : Int) = (n3 : Int) := by
    have e : IntKind.u32.wrap (n3 : Int) = (n3 : Int) % 4294967296 := rfl
    rw [e]; omega
  have hw4 : wrap64 (n4 : Int) = (n4 : Int) := IntWalk.wrap64_in _ ⟨by omega, by omega⟩
  have hm3 : (n3 : Int) % 4294967296 = (n3 : Int) := by omega
  obtain ⟨ka, hka⟩ : ∃ q, q = mk1 k1 := ⟨_, rfl⟩
  obtain ⟨kb, hkb⟩ : ∃ q, q = mk1 k2 := ⟨_, rfl⟩
  rw [← hka] at D1 ⊢
  rw [← hkb] at D2 ⊢
  clear HC1 HC2 HC3 HC4 HC5 e1 e2 e3 e4 e5 HE b3 b4 b5 hka hkb h hb0 hws hK2
  go_enter Try.func45, Try.ntmps45
  go_upto_region 1 with (fail)
  rw [← hW, ← hP]
  clear hW hP
  go_wp2_with (first
    | (have h9 := HR4; go_at_call 44; refine (D5.out _ _ _ _ HR4.out).mono ?_; rintro e w5 ⟨rfl, ⟨a5, m5, c5, hr5⟩, hg5⟩; have HR5 := Hid.mk2 hr5; have HG5 := Hid.mk2 (HG4.out.trans hg5); have HX5 := Hid.mk2 (HX4.out.grown hg5 (by have := HRP.out.1; have := HP.out; intro e; have := Option.some.inj e; omega)); clear hr5 hg5)
    | (have h9 := HR3; go_at_call 44; refine (D4.out _ _ _ _ HR3.out).mono ?_; rintro e w4 ⟨rfl, ⟨a4, m4, c4, hr4⟩, hg4⟩; have HR4 := Hid.mk2 hr4; have HG4 := Hid.mk2 (HG3.out.trans hg4); have HX4 := Hid.mk2 (HX3.out.grown hg4 (by have := HRP.out.1; have := HP.out; intro e; have := Option.some.inj e; omega)); clear hr4 hg4)
    | (have h9 := HR2; go_at_call 44; refine (D3.out _ _ _ _ HR2.out).mono ?_; rintro e w3 ⟨rfl, ⟨a3, m3, c3, hr3⟩, hg3⟩; have HR3 := Hid.mk2 hr3; have HG3 := Hid.mk2 (HG2.out.trans hg3); have HX3 := Hid.mk2 (HX2.out.grown hg3 (by have := HRP.out.1; have := HP.out; intro e; have := Option.some.inj e; omega)); clear hr3 hg3)
    | (have h9 := HR1; go_at_call 57; refine (D2.out _ _ _ _ HR1.out).mono ?_; rintro e w2 ⟨rfl, ⟨a2, m2, c2, hr2⟩, hg2⟩; have HR2 := Hid.mk2 hr2; have HG2 := Hid.mk2 (HG1.out.trans hg2); have HX2 := Hid.mk2 (HX1.out.grown hg2 (by have := HRP.out.1; have := HP.out; intro e; have := Option.some.inj e; omega)); clear hr2 hg2)
    | (go_at_call 57; refine (D1.out _ _ _ _ HR0.out).mono ?_; rintro e w1 ⟨rfl, ⟨a1, m1, c1, hr1⟩, hg1⟩; have HR1 := Hid.mk2 hr1; have HG1 := Hid.mk2 (HG0.out.trans hg1); have HX1 := Hid.mk2 (HX0.out.grown hg1 (by have := HRP.out.1; have := HP.out; intro e; have := Option.some.inj e; omega)); clear hr1 hg1)
    | (refine ywpl_store rfl 34 _ _ rfl P [.string ka, .string kb, .int .u32 (n3 : Int), .int .i64 (n4 : Int), .int .u64 (n5 : Int)] imzc rfl (by first | rfl | simp [hw3]) (by kernel_rfl) HX5.out rfl (by intro v hv; simp at hv; rcases hv with rfl | rfl | rfl | rfl | rfl <;> rfl) ?_))
  refine bodyPost_ret (zres_cell1 rfl rfl (load_var (ybox HX5.out [.string ka, .string kb, .int .u32 (n3 : Int), .int .i64 (n4 : Int), .int .u64 (n5 : Int)] rfl) 34 _ Try.underlying34 rfl (by kernel_rfl))) rfl ?_
  have hy := ysets_grown P [.string ka, .string kb, .int .u32 (n3 : Int), .int .i64 (n4 : Int), .int .u64 (n5 : Int)] w5 0
  exact ⟨rfl, ⟨a5, m5, c5, (HR5.out.grown hy (by have := HRP.out.1; have := HP.out; intro e; have := Option.some.inj e; omega) (fun b e => .inl (by cases e; exact HK2.out.1))).less HK2.out.2 HRP.out.2⟩, gr_new HG5.out hy (Nat.le_of_eq HP.out.symm)⟩
end Go.Proofs.Ytfjcaofmcjhdpaa
