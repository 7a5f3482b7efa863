/-
  One call of both wheels: add, delete, until.
-/
import Derived.Test.YthcekkahkioibadWdK
namespace Go.Proofs.Ythcekkahkioibad
open Go.RowKit
set_option linter.unusedSimpArgs false
set_option linter.unusedVariables false
set_option maxRecDepth 100000

theorem one_add (w : World) (p base now : Nat) (L : List NU) (b0 : Nat) (mb : Nat → Option Nat) (N : Nat) (ao : Option Addr) (D : List NU) (cap : Nat) (h : Sd w p base now L b0 mb N ao D cap) (hN : N ≤ 1000000) (hl : L.length ≤ 100000) (K : Nat) (hk : ¬ K % 5 = 2 ∧ ¬ K % 5 = 3 ∧ ¬ K % 5 = 4) (y : Nm) (u : Int) :
    Calls Try.prog 18 #[.pointer (some ⟨p, 0, none⟩), wv now ao D.length cap, .agg #[.int .u8 (K : Int), .int .i64 y.tenant, .string y.key, .int .i64 u]] w (OneP w p base L b0 mb N) := by
  have g2 : ((K : Int) % 5 == 2) = false := by simp; omega
  have g3 : ((K : Int) % 5 == 3) = false := by simp; omega
  have g4 : ((K : Int) % 5 == 4) = false := by simp; omega
  clear hk
  have hDl : D.length ≤ 100000 := by rw [h.perm.length_eq]; exact hl
  have HH := Hid.mk2 h
  clear h
  go_enter Try.func18, Try.ntmps18
  go_upto_region 2 with (fail)
  obtain ⟨w0, hw0⟩ : ∃ w0, w0 = ((w.alloc (Obj.cells #[.int .i64 now, .slice ao D.length cap] 45)).alloc (Obj.cells #[.int .u8 (K : Int), .int .i64 y.tenant, .string y.key, .int .i64 u] 49)).alloc (Obj.cells #[.int .i64 0, .slice none 0 0] 45) := ⟨_, rfl⟩
  rw [← hw0]
  have HX0 : Hid (Ox w w0 now ao D.length cap K y u) := by rw [hw0]; exact Ox.begin _ _ _ _ _ _ _ _
  have HB0 : Hid (Below w.heap.size w w0) := by rw [hw0]; exact (((Below.refl _ _).alloc (Nat.le_refl _) _).alloc (by simp) _).alloc (by simp; omega) _
  clear hw0
  have HS0 := Hid.mk2 (HH.out.below HB0.out)
  have hx0 : w.heap.size + 1 + 1 < w0.heap.size := HX0.out.facts.2.2.2.2.2.2.2.2.2.2
  obtain ⟨k0, k1, k2, k3, k4, k5, k6, k7, k8, k9, kA⟩ := HX0.out.facts
  obtain ⟨E, hE⟩ : ∃ E, E = addE now y u := ⟨_, rfl⟩
  have HC1 := Hid.mk2 (add_any w0 p now L b0 mb N HS0.out.wh (by omega) y u)
  rw [← hE] at HC1
  go_upto_region 20 with (go_at_call 11; refine HC1.out.mono ?_; rintro e w1 ⟨rfl, mb1, hW1, hK1, hF1⟩; have HX1 : Hid (Ox w w1 now ao D.length cap K y u) := HX0.out.step hK1 (fun j hj => .inl (HH.out.wh.lt hj)); clear k0 k1 k2 k3 k4 k5 k6 k7 k8 k9 kA; obtain ⟨k0, k1, k2, k3, k4, k5, k6, k7, k8, k9, kA⟩ := HX1.out.facts; have HW1 := Hid.mk2 hW1; have HK1 := Hid.mk2 hK1; have HF1 := Hid.mk2 hF1; clear hW1 hK1 hF1)
  have HO1 : Hid (OwnE w1 base (.slice ao D.length cap) D) := HS0.out.own.kept HK1.out (fun g hg => HS0.out.own.away HS0.out.wh HS0.out.pb g hg)
  have HC2 := Hid.mk2 (wadd_all w1 now base ao D cap HO1.out (Nat.le_trans HS0.out.bs HK1.out.size) hDl HH.out.apart y u)
  rw [← hE] at HC2
  go_upto_region 21 with (go_at_call 45; refine HC2.out.mono ?_; rintro e w2 ⟨ro, rc, rfl, hO2, hb2⟩; have HB2 := Hid.mk2 hb2; have HO2 := Hid.mk2 hO2; clear hb2 hO2)
  obtain ⟨D2, hD2⟩ : ∃ D2, D2 = addD D now y u := ⟨_, rfl⟩
  rw [← hD2] at HO2 ⊢
  obtain ⟨w3, hw3⟩ : ∃ x, x = w2.alloc (Obj.cells #[.int .i64 now, .slice ro D2.length rc] 45) := ⟨_, rfl⟩
  rw [← hw3]
  have c0 : w3.cell? ⟨w2.heap.size, 0, none⟩ = some (.int .i64 now) := by rw [hw3]; simp
  have c1 : w3.cell? ⟨w2.heap.size, 1, none⟩ = some (.slice ro D2.length rc) := by rw [hw3]; simp
  have HB3 : Hid (Below w1.heap.size w1 w3) := by rw [hw3]; exact HB2.out.alloc HB2.out.size _
  have HB23 : Hid (Below w2.heap.size w2 w3) := by rw [hw3]; exact (Below.refl _ _).alloc (Nat.le_refl _) _
  clear hw3
  have HX3 := Hid.mk2 (HX1.out.below HB3.out)
  clear k0 k1 k2 k3 k4 k5 k6 k7 k8 k9 kA; obtain ⟨k0, k1, k2, k3, k4, k5, k6, k7, k8, k9, kA⟩ := HX3.out.facts
  have HS3 : Hid (Sd w3 p base now (addL L now y u) b0 mb1 (N + 2) ro D2 rc) := ⟨HW1.out.below HB3.out, HH.out.pb, Nat.le_trans HS0.out.bs (Nat.le_trans HK1.out.size HB3.out.size), HO2.out.below HB23.out, by rw [hD2]; exact addD_perm HH.out.perm _ _ _, by rw [hD2]; exact addD_rise HH.out.rise _ _ _⟩
  have z0 := set2_0 (a := .int .i64 now) (b := .slice ro D2.length rc) k6
  have z1 := set2_1 (a := .int .i64 now) (b := .slice ro D2.length rc) k7
  clear HC1 HC2 hE hD2
  go_wp2
  try simp only [Exit.inBlock, Exit.then]
  refine bodyPost_ret (v := .tuple #[wv now ro D2.length rc, .bool true]) (by simp [results, Try.results18, go_sem, z0, z1]) rfl ?_
  exact one_fin HH.out now _ mb1 ro D2 rc (HS3.out.mono (by omega)) HX3.out (addL_len _ _ _ _) (((Kept.below HB0.out).trans HK1.out (fun k hk => .inl hk)).trans (Kept.below (F := Foot p b0 mb) HB3.out) (fun k hk => .inl hk)) (fun k hk => (HF1.out k hk).imp id (fun g => by omega)) _ _
theorem one_del (w : World) (p base now : Nat) (L : List NU) (b0 : Nat) (mb : Nat → Option Nat) (N : Nat) (ao : Option Addr) (D : List NU) (cap : Nat) (h : Sd w p base now L b0 mb N ao D cap) (hN : N ≤ 1000000) (hl : L.length ≤ 100000) (K : Nat) (hk : K % 5 = 2) (y : Nm) (u : Int) :
    Calls Try.prog 18 #[.pointer (some ⟨p, 0, none⟩), wv now ao D.length cap, .agg #[.int .u8 (K : Int), .int .i64 y.tenant, .string y.key, .int .i64 u]] w (OneP w p base L b0 mb N) := by
  have g2 : ((K : Int) % 5 == 2) = true := by simp; omega
  clear hk
  have hDl : D.length ≤ 100000 := by rw [h.perm.length_eq]; exact hl
  have HH := Hid.mk2 h
  clear h
  go_enter Try.func18, Try.ntmps18
  go_upto_region 2 with (fail)
  obtain ⟨w0, hw0⟩ : ∃ w0, w0 = ((w.alloc (Obj.cells #[.int .i64 now, .slice ao D.length cap] 45)).alloc (Obj.cells #[.int .u8 (K : Int), .int .i64 y.tenant, .string y.key, .int .i64 u] 49)).alloc (Obj.cells #[.int .i64 0, .slice none 0 0] 45) := ⟨_, rfl⟩
  rw [← hw0]
  have HX0 : Hid (Ox w w0 now ao D.length cap K y u) := by rw [hw0]; exact Ox.begin _ _ _ _ _ _ _ _
  have HB0 : Hid (Below w.heap.size w w0) := by rw [hw0]; exact (((Below.refl _ _).alloc (Nat.le_refl _) _).alloc (by simp) _).alloc (by simp; omega) _
  clear hw0
  have HS0 := Hid.mk2 (HH.out.below HB0.out)
  have hx0 : w.heap.size + 1 + 1 < w0.heap.size := HX0.out.facts.2.2.2.2.2.2.2.2.2.2
  obtain ⟨k0, k1, k2, k3, k4, k5, k6, k7, k8, k9, kA⟩ := HX0.out.facts
  obtain ⟨E, hE⟩ : ∃ E, E = delE L y := ⟨_, rfl⟩
  have HC1 := Hid.mk2 (del_any w0 p now L b0 mb N HS0.out.wh y)
  rw [← hE] at HC1
  go_upto_region 4 with (go_at_call 14; refine HC1.out.mono ?_; rintro e w1 ⟨rfl, mb1, hW1, hK1, hF1⟩; have HX1 : Hid (Ox w w1 now ao D.length cap K y u) := HX0.out.step hK1 (fun j hj => .inl (HH.out.wh.lt hj)); clear k0 k1 k2 k3 k4 k5 k6 k7 k8 k9 kA; obtain ⟨k0, k1, k2, k3, k4, k5, k6, k7, k8, k9, kA⟩ := HX1.out.facts; have HW1 := Hid.mk2 hW1; have HK1 := Hid.mk2 hK1; have HF1 := Hid.mk2 hF1; clear hW1 hK1 hF1)
  have HO1 : Hid (OwnE w1 base (.slice ao D.length cap) D) := HS0.out.own.kept HK1.out (fun g hg => HS0.out.own.away HS0.out.wh HS0.out.pb g hg)
  have HC2 := Hid.mk2 (wdel_all w1 now base ao D cap HO1.out (Nat.le_trans HS0.out.bs HK1.out.size) hDl HH.out.apart y)
  rw [(un_perm HH.out.perm HH.out.wh.apart HH.out.apart y).2, ← hE] at HC2
  go_upto_region 5 with (go_at_call 42; refine HC2.out.mono ?_; rintro e w2 ⟨ro, rc, rfl, hO2, hb2⟩; have HB2 := Hid.mk2 hb2; have HO2 := Hid.mk2 hO2; clear hb2 hO2)
  obtain ⟨D2, hD2⟩ : ∃ D2, D2 = delD D y := ⟨_, rfl⟩
  rw [← hD2] at HO2 ⊢
  obtain ⟨w3, hw3⟩ : ∃ x, x = w2.alloc (Obj.cells #[.int .i64 now, .slice ro D2.length rc] 45) := ⟨_, rfl⟩
  rw [← hw3]
  have c0 : w3.cell? ⟨w2.heap.size, 0, none⟩ = some (.int .i64 now) := by rw [hw3]; simp
  have c1 : w3.cell? ⟨w2.heap.size, 1, none⟩ = some (.slice ro D2.length rc) := by rw [hw3]; simp
  have HB3 : Hid (Below w1.heap.size w1 w3) := by rw [hw3]; exact HB2.out.alloc HB2.out.size _
  have HB23 : Hid (Below w2.heap.size w2 w3) := by rw [hw3]; exact (Below.refl _ _).alloc (Nat.le_refl _) _
  clear hw3
  have HX3 := Hid.mk2 (HX1.out.below HB3.out)
  clear k0 k1 k2 k3 k4 k5 k6 k7 k8 k9 kA; obtain ⟨k0, k1, k2, k3, k4, k5, k6, k7, k8, k9, kA⟩ := HX3.out.facts
  have HS3 : Hid (Sd w3 p base now (if y.ok then strike y L else L) b0 mb1 (N) ro D2 rc) := ⟨HW1.out.below HB3.out, HH.out.pb, Nat.le_trans HS0.out.bs (Nat.le_trans HK1.out.size HB3.out.size), HO2.out.below HB23.out, by rw [hD2]; exact delD_perm HH.out.perm _, by rw [hD2]; exact delD_rise HH.out.rise _⟩
  have z0 := set2_0 (a := .int .i64 now) (b := .slice ro D2.length rc) k6
  have z1 := set2_1 (a := .int .i64 now) (b := .slice ro D2.length rc) k7
  clear HC1 HC2 hE hD2
  go_wp2
  try simp only [Exit.inBlock, Exit.then]
  refine bodyPost_ret (v := .tuple #[wv now ro D2.length rc, .bool true]) (by simp [results, Try.results18, go_sem, z0, z1]) rfl ?_
  exact one_fin HH.out now _ mb1 ro D2 rc (HS3.out.mono (by omega)) HX3.out (delL_len _ _) (((Kept.below HB0.out).trans HK1.out (fun k hk => .inl hk)).trans (Kept.below (F := Foot p b0 mb) HB3.out) (fun k hk => .inl hk)) (fun k hk => (HF1.out k hk).imp id (fun g => by omega)) _ _
theorem one_until (w : World) (p base now : Nat) (L : List NU) (b0 : Nat) (mb : Nat → Option Nat) (N : Nat) (ao : Option Addr) (D : List NU) (cap : Nat) (h : Sd w p base now L b0 mb N ao D cap) (hN : N ≤ 1000000) (hl : L.length ≤ 100000) (K : Nat) (hk : K % 5 = 3) (y : Nm) (u : Int) :
    Calls Try.prog 18 #[.pointer (some ⟨p, 0, none⟩), wv now ao D.length cap, .agg #[.int .u8 (K : Int), .int .i64 y.tenant, .string y.key, .int .i64 u]] w (OneP w p base L b0 mb N) := by
  have g2 : ((K : Int) % 5 == 2) = false := by simp; omega
  have g3 : ((K : Int) % 5 == 3) = true := by simp; omega
  clear hk
  have hDl : D.length ≤ 100000 := by rw [h.perm.length_eq]; exact hl
  have HH := Hid.mk2 h
  clear h
  go_enter Try.func18, Try.ntmps18
  go_upto_region 2 with (fail)
  obtain ⟨w0, hw0⟩ : ∃ w0, w0 = ((w.alloc (Obj.cells #[.int .i64 now, .slice ao D.length cap] 45)).alloc (Obj.cells #[.int .u8 (K : Int), .int .i64 y.tenant, .string y.key, .int .i64 u] 49)).alloc (Obj.cells #[.int .i64 0, .slice none 0 0] 45) := ⟨_, rfl⟩
  rw [← hw0]
  have HX0 : Hid (Ox w w0 now ao D.length cap K y u) := by rw [hw0]; exact Ox.begin _ _ _ _ _ _ _ _
  have HB0 : Hid (Below w.heap.size w w0) := by rw [hw0]; exact (((Below.refl _ _).alloc (Nat.le_refl _) _).alloc (by simp) _).alloc (by simp; omega) _
  clear hw0
  have HS0 := Hid.mk2 (HH.out.below HB0.out)
  have hx0 : w.heap.size + 1 + 1 < w0.heap.size := HX0.out.facts.2.2.2.2.2.2.2.2.2.2
  obtain ⟨k0, k1, k2, k3, k4, k5, k6, k7, k8, k9, kA⟩ := HX0.out.facts
  have HC1 := Hid.mk2 (until_u w0 p now L b0 mb N HS0.out.wh y)
  have HC2 := Hid.mk2 (fun W (hb : Below w0.heap.size w0 W) => wuntil_u W now ao D cap (HS0.out.own.below hb).de' hDl HH.out.apart y)
  rw [(un_perm HH.out.perm HH.out.wh.apart HH.out.apart y).1, (un_perm HH.out.perm HH.out.wh.apart HH.out.apart y).2] at HC2
  obtain ⟨E, hE⟩ : ∃ E, E = delE L y := ⟨_, rfl⟩
  obtain ⟨V, hV⟩ : ∃ V, V = unV L y := ⟨_, rfl⟩
  rw [← hE, ← hV] at HC1 HC2
  clear hE hV
  go_upto_region 8 with (go_at_call 13; refine HC1.out.mono ?_; rintro e w1 ⟨rfl, hb1⟩; have HX1 : Hid (Ox w w1 now ao D.length cap K y u) := HX0.out.below hb1; clear k0 k1 k2 k3 k4 k5 k6 k7 k8 k9 kA; obtain ⟨k0, k1, k2, k3, k4, k5, k6, k7, k8, k9, kA⟩ := HX1.out.facts; have HB1 := Hid.mk2 hb1; clear hb1)
  go_upto_region 9 with (go_at_call 43; refine (HC2.out _ HB1.out).mono ?_; rintro e w2 ⟨rfl, hb2⟩; have HX2 : Hid (Ox w w2 now ao D.length cap K y u) := HX1.out.below hb2; clear k0 k1 k2 k3 k4 k5 k6 k7 k8 k9 kA; obtain ⟨k0, k1, k2, k3, k4, k5, k6, k7, k8, k9, kA⟩ := HX2.out.facts; have HB2 : Hid (Below w0.heap.size w0 w2) := HB1.out.trans (hb2.mono HB1.out.size); clear hb2)
  have z0 := set2_0 (a := .int .i64 now) (b := .slice ao D.length cap) k6
  have z1 := set2_1 (a := .int .i64 now) (b := .slice ao D.length cap) k7
  go_wp2
  try simp only [Exit.inBlock, Exit.then]
  refine bodyPost_ret (v := .tuple #[wv now ao D.length cap, .bool true]) (by simp [results, Try.results18, go_sem, z0, z1]) rfl ?_
  exact one_fin HH.out now _ mb ao D cap ((HS0.out.below HB2.out).mono (by omega)) HX2.out (by omega) ((Kept.below HB0.out).trans (Kept.below (F := Foot p b0 mb) HB2.out) (fun k hk => .inl hk)) (fun k hk => .inl hk) _ _
end Go.Proofs.Ythcekkahkioibad
