/-
  OrderParts: each key of a command is in the part of just one of its shards, in its order; each part may be, and has just that shard, but of flush; with one shard the part is the command. No conditions.
-/
import Derived.Test.YtiefdflkbihmkaaLawOPa
import Derived.Shelf.SlSortCmp.QuietGrown
namespace Go.Proofs.Ytiefdflkbihmkaa
open Go.RowKit
set_option linter.unusedSimpArgs false
set_option linter.unusedVariables false
set_option maxRecDepth 100000

set_option maxHeartbeats 2500000 in
theorem parts_main (c : Cm) (ko : Option Addr) (kc : Nat) (n : Nat) (w : World) (h : GRd ES w ko c.keys kc) (hlg : c.lg = false) (hmay : c.may = true) (hn0 : 1 ≤ n) (hn1 : n ≤ 4) :
    Calls Try.prog 6 #[.agg (c.arr (.slice ko c.keys.length kc)), .int .i64 n] w fun e w' => e = .returned (.bool true) ∧ Below w.heap.size w w' := by
  have hE0 : c.shE n = 0 := by unfold Cm.shE; rw [if_pos hmay, if_pos (by omega)]
  have hL0 : c.shL n = c.needs n := by unfold Cm.shL; rw [if_pos ⟨hmay, by omega, by omega⟩]; rfl
  have HR := Hid.mk2 h
  have hlen := h.len
  have HSH := Hid.mk2 (fun W (hW : Below w.heap.size w W) => pshards_any c ko kc (n : Int) W (h.below hW))
  have HLG := Hid.mk2 (fun W (hW : Below w.heap.size w W) => rlong_any c ko kc W (h.below hW))
  rw [hE0, hL0] at HSH
  rw [hlg] at HLG
  have HPT : Hid (∀ s ∈ c.needs n, ∀ W, Below w.heap.size w W → Calls Try.prog 16 #[.agg (c.arr (.slice ko c.keys.length kc)), .int .i64 s, .int .i64 n] W fun e w' => ∃ v, e = .returned (.tuple #[.agg ((c.piece s n).arr v), .int .i64 0]) ∧ GOwn ES w' W.heap.size v (c.piece s n).keys ∧ Below W.heap.size W w') := by
    intro s hs W hW
    have := ppart_any c ko kc s n W (h.below hW)
    have e1 : c.prE s n = 0 := by unfold Cm.prE; rw [if_pos hE0, hL0, if_pos hs]
    have e2 : c.prt s n = c.piece s n := by unfold Cm.prt; rw [hL0, if_pos ⟨hE0, hs⟩]
    rw [e1, e2] at this
    exact this
  have HCK : Hid (∀ s ∈ c.needs n, ∀ W a cp, GRd ES W a (c.piece s n).keys cp → Calls Try.prog 18 #[.agg ((c.piece s n).arr (.slice a (c.piece s n).keys.length cp))] W fun e w' => e = .returned (.int .i64 0) ∧ Below W.heap.size W w') := by
    intro s hs W a cp hg
    have := pcheck_any (c.piece s n) a cp W hg
    have e1 : (c.piece s n).chkE = 0 := by unfold Cm.chkE; rw [if_pos (piece_may hmay hs)]
    rw [e1] at this
    exact this
  have HSP : Hid (∀ s ∈ c.needs n, ∀ W a cp, GRd ES W a (c.piece s n).keys cp → Calls Try.prog 8 #[.agg ((c.piece s n).arr (.slice a (c.piece s n).keys.length cp)), .int .i64 n] W fun e w' => ∃ v, e = .returned (.tuple #[v, .int .i64 0]) ∧ GOwn EI w' W.heap.size v ((c.piece s n).needs n) ∧ Below W.heap.size W w') := by
    intro s hs W a cp hg
    have := pshards_any (c.piece s n) a cp n W hg
    have hm := piece_may hmay hs
    have e1 : (c.piece s n).shE n = 0 := by unfold Cm.shE; rw [if_pos hm, if_pos (by omega)]
    have e2 : (c.piece s n).shL n = (c.piece s n).needs n := by unfold Cm.shL; rw [if_pos ⟨hm, by omega, by omega⟩]; rfl
    rw [e1, e2] at this
    exact this
  have HNE : Hid (¬ c.kind = 11 → ∀ s ∈ c.needs n, (c.piece s n).needs n = [s]) := fun hk s hs => piece_needs hk hs
  have HON : Hid ((c.needs n).length = 1 → ∀ s ∈ c.needs n, (c.piece s n).keys = c.keys) := fun h1 s hs => by rw [piece_one hmay hn0 hn1 h1 hs]
  have HSU : Hid (∀ s, (c.piece s n).keys.Sublist c.keys) := fun s => List.filter_sublist
  have HPL : Hid (∀ s, (c.piece s n).keys.length ≤ 8) := fun s => Nat.le_trans (List.length_filter_le _ _) (Cm.kOk_len (Cm.may_parts hmay).2.2.1)
  have HK8 : Hid (c.keys.length ≤ 8) := Cm.kOk_len (Cm.may_parts hmay).2.2.1
  have HS4 : Hid ((c.needs n).length ≤ 4) := by show _ ≤ _; rw [← Cm.needsTo_all]; exact Nat.le_trans (Cm.needsTo_len _ _ _) hn1
  have HLE : Hid (lastOf (c.needs n) (c.needs n).length < n ∧ 0 < (c.needs n).length) := ⟨lastOf_end (needs_pos hmay hn0 hn1), List.length_pos_iff.2 (needs_pos hmay hn0 hn1)⟩
  have HMB : Hid (∀ k, k ≤ (c.needs n).length → manyOf c n k ≤ 8 * k) := manyOf_le hmay hn0 hn1
  have HMA : Hid (manyOf c n (c.needs n).length = c.keys.length) := manyOf_all hmay hn0 hn1
  have HM0 : Hid (manyOf c n 0 = 0) := by show _ = _; simp [manyOf]
  obtain ⟨S, hS⟩ : ∃ S, S = c.needs n := ⟨_, rfl⟩
  obtain ⟨LA, hLA⟩ : ∃ LA : Nat → Int, ∀ k, LA k = lastOf S k := ⟨_, fun _ => rfl⟩
  obtain ⟨MS, hMS⟩ : ∃ MS : Nat → Nat, ∀ k, MS k = manyOf c n k := ⟨_, fun _ => rfl⟩
  have HL0 : Hid (LA 0 = -1) := by show _ = _; rw [hLA]; rfl
  obtain ⟨PKs, hPK⟩ : ∃ PKs : Int → List ByteArray, ∀ s, (c.piece s n).keys = PKs s := ⟨_, fun _ => rfl⟩
  have HLL : Hid (∀ k (hk : k < S.length), LA k < S[k] ∧ LA (k + 1) = S[k]) := by
    intro k hk
    rw [hLA, hLA]
    subst hS
    exact ⟨lastOf_lt hk, lastOf_succ hk⟩
  have HMM : Hid (∀ k (hk : k < S.length), MS (k + 1) = MS k + (PKs S[k]).length) := by
    intro k hk
    rw [hMS, hMS, ← hPK]
    subst hS
    exact manyOf_succ hk
  simp only [← hS] at HSH HPT HCK HSP HNE HON HS4 HLE HMB HMA
  simp only [← hLA] at HLE
  simp only [← hMS] at HMB HMA HM0
  obtain ⟨NDs, hND⟩ : ∃ NDs : Int → List Int, ∀ s, (c.piece s n).needs n = NDs s := ⟨_, fun _ => rfl⟩
  have hPA : ∀ s v, (c.piece s n).arr v = #[.int .u8 c.kind, .int .i64 c.tenant, v, .string c.value, .int .u32 c.flags, .int .i64 c.life, .int .u64 c.unique, .int .u64 c.by_] := fun _ _ => rfl
  simp only [hPK, hND, hPA] at HPT HCK HSP HNE HON HSU HPL
  have mixed : Try.prog.follows .mixedOrders = true := by kernel_rfl
  have HSC : Hid (∀ W a cp, GRd ES W a c.keys cp → GRd ES W ko c.keys kc → Calls Try.prog 20 #[.agg (c.arr (.slice a c.keys.length cp)), .agg (c.arr (.slice ko c.keys.length kc))] W fun e w' => e = .returned (.bool true) ∧ ∃ q os', w' = Sort.grow (W.drewN q) os') := fun W a cp h1 h2 => samec_g c a ko cp kc W h1 h2
  clear hS hLA hMS hPK hND hPA hE0 hL0 hlg h hmay
  obtain ⟨W, hW⟩ : ∃ W, W = w.alloc (.cells (c.arr (.slice ko c.keys.length kc)) 27) := ⟨_, rfl⟩
  have HB : Hid (Below w.heap.size w W) := by rw [hW]; exact g_alloc _ _
  have HX : Hid (GBx W w.heap.size (c.cl (.slice ko c.keys.length kc))) := by rw [hW]; exact GBx.made w (c.cl (.slice ko c.keys.length kc)) _
  obtain ⟨kind, tenant, keys, value, flags, life, unique, by_⟩ := c
  unfold Cm.arr at *
  unfold Cm.cl at HX
  dsimp only at *
  have c0 := HX.out.c 0 (by simp)
  have c1 := HX.out.c 1 (by simp)
  have c2 := HX.out.c 2 (by simp)
  have c3 := HX.out.c 3 (by simp)
  have c4 := HX.out.c 4 (by simp)
  have c5 := HX.out.c 5 (by simp)
  have c6 := HX.out.c 6 (by simp)
  have c7 := HX.out.c 7 (by simp)
  simp only [List.getElem_cons_zero, List.getElem_cons_succ] at c0 c1 c2 c3 c4 c5 c6 c7
  have hlt := HX.out.lt
  go_enter Try.func6, Try.ntmps6
  go_upto_region 1 with (fail)
  rw [← hW]
  clear hW
  go_wp2_with (first
    | (go_at_call 11; refine (alive10_any _).mono ?_; rintro e w9 ⟨rfl, hb9⟩; have HB9 := Hid.mk2 (g_on HB.out hb9); have HX9 := Hid.mk2 (HX.out.below hb9); clear hb9 HB HX; have HB := HB9; clear HB9; clear c0 c1 c2 c3 c4 c5 c6 c7 hlt; have hlt := HX9.out.lt; have c0 := HX9.out.c 0 (by simp); have c1 := HX9.out.c 1 (by simp); have c2 := HX9.out.c 2 (by simp); have c3 := HX9.out.c 3 (by simp); have c4 := HX9.out.c 4 (by simp); have c5 := HX9.out.c 5 (by simp); have c6 := HX9.out.c 6 (by simp); have c7 := HX9.out.c 7 (by simp); simp only [List.getElem_cons_zero, List.getElem_cons_succ] at c0 c1 c2 c3 c4 c5 c6 c7; have HX := HX9; clear HX9)
    | (go_at_call 8; refine (HSH.out _ HB.out).mono ?_; rintro e w9 ⟨v9, rfl, hO9, hb9⟩; obtain ⟨sa, sc, hv9, hS9⟩ := hO9.rd okI; subst hv9; have HSR := Hid.mk2 hS9; clear hO9 hS9; have HB9 := Hid.mk2 (g_on HB.out hb9); have HX9 := Hid.mk2 (HX.out.below hb9); clear hb9 HB HX; have HB := HB9; clear HB9; clear c0 c1 c2 c3 c4 c5 c6 c7 hlt; have hlt := HX9.out.lt; have c0 := HX9.out.c 0 (by simp); have c1 := HX9.out.c 1 (by simp); have c2 := HX9.out.c 2 (by simp); have c3 := HX9.out.c 3 (by simp); have c4 := HX9.out.c 4 (by simp); have c5 := HX9.out.c 5 (by simp); have c6 := HX9.out.c 6 (by simp); have c7 := HX9.out.c 7 (by simp); simp only [List.getElem_cons_zero, List.getElem_cons_succ] at c0 c1 c2 c3 c4 c5 c6 c7; have HX := HX9; clear HX9)
    | (go_at_call 12; refine (HLG.out _ HB.out).mono ?_; rintro e w9 ⟨rfl, hb9⟩; have HSR2 := Hid.mk2 (HSR.out.below hb9); have HB9 := Hid.mk2 (g_on HB.out hb9); have HX9 := Hid.mk2 (HX.out.below hb9); clear hb9 HB HX; have HB := HB9; clear HB9; clear c0 c1 c2 c3 c4 c5 c6 c7 hlt; have hlt := HX9.out.lt; have c0 := HX9.out.c 0 (by simp); have c1 := HX9.out.c 1 (by simp); have c2 := HX9.out.c 2 (by simp); have c3 := HX9.out.c 3 (by simp); have c4 := HX9.out.c 4 (by simp); have c5 := HX9.out.c 5 (by simp); have c6 := HX9.out.c 6 (by simp); have c7 := HX9.out.c 7 (by simp); simp only [List.getElem_cons_zero, List.getElem_cons_succ] at c0 c1 c2 c3 c4 c5 c6 c7; have HX := HX9; clear HX9))
  have HXL := HX
  have HBL := HB
  have hS4 := HS4.out
  clear c0 c1 c2 c3 c4 c5 c6 c7 hlt HX HB HSR HLG HSH
  go_loopw [8, 9, 10] (fun mny lst i wr => ∃ k : Nat, k ≤ S.length ∧ i = .int .i64 k ∧ mny = .int .i64 (MS k : Nat) ∧ lst = .int .i64 (LA k) ∧ Hid (Below w.heap.size w wr) ∧ Hid (GBx wr w.heap.size [.int .u8 kind, .int .i64 tenant, .slice ko keys.length kc, .string value, .int .u32 flags, .int .i64 life, .int .u64 unique, .int .u64 by_]) ∧ Hid (GRd EI wr sa S sc)) (fun _ _ i _ => S.length - (intOf i).toNat)
  case atStart => exact ⟨0, Nat.zero_le _, rfl, by rw [HM0.out]; rfl, by rw [HL0.out], HBL, HXL, HSR2⟩
  case round =>
    obtain ⟨k, hk, rfl, rfl, rfl, HB, HX, HSR⟩ := hrel
    clear HXL HBL HSR2
    have c0 := HX.out.c 0 (by simp)
    have c1 := HX.out.c 1 (by simp)
    have c2 := HX.out.c 2 (by simp)
    have c3 := HX.out.c 3 (by simp)
    have c4 := HX.out.c 4 (by simp)
    have c5 := HX.out.c 5 (by simp)
    have c6 := HX.out.c 6 (by simp)
    have c7 := HX.out.c 7 (by simp)
    simp only [List.getElem_cons_zero, List.getElem_cons_succ] at c0 c1 c2 c3 c4 c5 c6 c7
    have hlt := HX.out.lt
    by_cases hkl : k < S.length
    case neg =>
      have hkl2 : ¬ ((k : Int) < (S.length : Int)) := by omega
      have ek : k = S.length := by omega
      have e1 := HMA.out
      rw [← ek] at e1
      have e2 := HLE.out.1
      rw [← ek] at e2
      have HE1 := Hid.mk2 e1
      have e3 : (((MS k : Nat) : Int) == (keys.length : Int)) = true := by rw [e1]; simp
      have e4 : (0 : Int) < (S.length : Int) := by have := HLE.out.2; omega
      clear e1 ek
      go_wp2
      go_ret
      exact ⟨by simp [HE1.out], HB.out⟩
    have hkl2 : (k : Int) < (S.length : Int) := by omega
    obtain ⟨s, hse⟩ : ∃ s, s = S[k] := ⟨_, rfl⟩
    have hmem : s ∈ S := by rw [hse]; exact List.getElem_mem hkl
    have hneS : S ≠ [] := by intro e; rw [e] at hkl; simp at hkl
    obtain ⟨b, off, rfl, hbl, hcs⟩ := HSR.out.int hneS
    have r0 := hcs k hkl
    have hLL := HLL.out k hkl
    have HMK := Hid.mk2 (HMM.out k hkl)
    rw [← hse] at r0 hLL HMK
    have hla := hLL.1
    have HLA1 := Hid.mk2 hLL.2
    obtain ⟨PK, hPK⟩ : ∃ PK, PK = PKs s := ⟨_, rfl⟩
    obtain ⟨ND, hND⟩ : ∃ ND, ND = NDs s := ⟨_, rfl⟩
    have HPS := Hid.mk2 (HPT.out s hmem)
    have HCS := Hid.mk2 (HCK.out s hmem)
    have HHS := Hid.mk2 (HSP.out s hmem)
    have HN1 : Hid (¬ kind = 11 → ND = [s]) := fun hk => by rw [hND]; exact HNE.out hk s hmem
    have HO1 : Hid (S.length = 1 → PK = keys) := fun hk => by rw [hPK]; exact HON.out hk s hmem
    have HS1 : Hid (PK.Sublist keys) := by rw [hPK]; exact HSU.out s
    have hP8 : PK.length ≤ 8 := by rw [hPK]; exact HPL.out s
    rw [← hPK] at HPS HCS HHS HMK
    rw [← hND] at HHS
    have HSE := Hid.mk2 hse
    clear hse hmem hneS hcs hLL hPK hND
    go_upto_region 10 with (fail)
    go_cut [11, 12] from 35 to 166 (fun s11 s12 wx => ∃ (pb : Nat) (a5 : Option Addr) (c5 : Nat), s11 = .pointer (some ⟨pb, 0, none⟩) ∧ s12 = .int .i64 0 ∧ Hid (Below wr.heap.size wr wx) ∧ Hid (GBx wx pb [.int .u8 kind, .int .i64 tenant, .slice a5 PK.length c5, .string value, .int .u32 flags, .int .i64 life, .int .u64 unique, .int .u64 by_]) ∧ Hid (GRd ES wx a5 PK c5))
    case first =>
      go_region_with (go_at_call 16; refine (HPS.out _ (by first | exact g_on HB.out (by first | exact Below.refl _ _ | exact (Below.refl _ _).drew | exact (Below.refl _ _).drew.alloc (Nat.le_refl _) _ | exact ((Below.refl _ _).alloc (Nat.le_refl _) _).drew | exact (Below.refl _ _).alloc (Nat.le_refl _) _))).mono ?_; rintro e w5 ⟨v5, rfl, hO5, hb5⟩; obtain ⟨a5, c5, hv5, hg5⟩ := hO5.rd okS; subst hv5; have HG5 := Hid.mk2 hg5; have HO5 := Hid.mk2 hO5; have HB5 : Hid (Below wr.heap.size wr w5) := (by first | exact hb5 | exact g_drew hb5 | exact g_behind (g_drew hb5) | exact g_behind hb5 | exact g_drew (g_behind hb5)); (try (have HN5 : Hid (GBx w5 wr.heap.size [.int .u8 0, .int .i64 0, .slice none 0 0, .string ⟨#[]⟩, .int .u32 0, .int .i64 0, .int .u64 0, .int .u64 0]) := (by first | exact (GBx.made wr.drew [.int .u8 0, .int .i64 0, .slice none 0 0, .string ⟨#[]⟩, .int .u32 0, .int .i64 0, .int .u64 0, .int .u64 0] 27).below hb5 | exact (GBx.made wr [.int .u8 0, .int .i64 0, .slice none 0 0, .string ⟨#[]⟩, .int .u32 0, .int .i64 0, .int .u64 0, .int .u64 0] 27).below hb5 | exact (GBx.made wr [.int .u8 0, .int .i64 0, .slice none 0 0, .string ⟨#[]⟩, .int .u32 0, .int .i64 0, .int .u64 0, .int .u64 0] 27).below (g_drew hb5)); have m0 := HN5.out.c 0 (by simp); have m1 := HN5.out.c 1 (by simp); have m2 := HN5.out.c 2 (by simp); have m3 := HN5.out.c 3 (by simp); have m4 := HN5.out.c 4 (by simp); have m5 := HN5.out.c 5 (by simp); have m6 := HN5.out.c 6 (by simp); have m7 := HN5.out.c 7 (by simp); simp only [List.getElem_cons_zero, List.getElem_cons_succ] at m0 m1 m2 m3 m4 m5 m6 m7; have g0 := HN5.out.f 0; have g1 := HN5.out.f 1; have g2 := HN5.out.f 2; have g3 := HN5.out.f 3; have g4 := HN5.out.f 4; have g5 := HN5.out.f 5; have g6 := HN5.out.f 6; have g7 := HN5.out.f 7; have HBO : Hid (GOwn ES w5 (wr.heap.size + 1) (.slice a5 PK.length c5) PK) := (by first | exact hO5.down (by simp) | (have := hO5; simpa using this)))); clear hg5 hO5 hb5)
      all_goals
        go_wp2
        go_meet
        case rel => first
          | (have hmark := HN5.out
             have HFAR : ∀ g off, a5 = some ⟨g, off, none⟩ → PK ≠ [] → g ≠ wr.heap.size := fun g off e _ => (by have := (HBO.out.lt g (by rw [e]; rfl)).1; omega)
             exact ⟨wr.heap.size, a5, c5, rfl, rfl, ((((((((HB5.out.setCell (p := ⟨wr.heap.size, 0, none⟩) (Nat.le_refl _) (.int .u8 kind)).setCell (p := ⟨wr.heap.size, 1, none⟩) (Nat.le_refl _) (.int .i64 tenant)).setCell (p := ⟨wr.heap.size, 2, none⟩) (Nat.le_refl _) (.slice a5 PK.length c5)).setCell (p := ⟨wr.heap.size, 3, none⟩) (Nat.le_refl _) (.string value)).setCell (p := ⟨wr.heap.size, 4, none⟩) (Nat.le_refl _) (.int .u32 flags)).setCell (p := ⟨wr.heap.size, 5, none⟩) (Nat.le_refl _) (.int .i64 life)).setCell (p := ⟨wr.heap.size, 6, none⟩) (Nat.le_refl _) (.int .u64 unique)).setCell (p := ⟨wr.heap.size, 7, none⟩) (Nat.le_refl _) (.int .u64 by_)), ((((((((HN5.out.set 0 (.int .u8 kind) (by simp)).set 1 (.int .i64 tenant) (by simp)).set 2 (.slice a5 PK.length c5) (by simp)).set 3 (.string value) (by simp)).set 4 (.int .u32 flags) (by simp)).set 5 (.int .i64 life) (by simp)).set 6 (.int .u64 unique) (by simp)).set 7 (.int .u64 by_) (by simp)), ((((((((HG5.out.other wr.heap.size 0 (.int .u8 kind) HFAR).other wr.heap.size 1 (.int .i64 tenant) HFAR).other wr.heap.size 2 (.slice a5 PK.length c5) HFAR).other wr.heap.size 3 (.string value) HFAR).other wr.heap.size 4 (.int .u32 flags) HFAR).other wr.heap.size 5 (.int .i64 life) HFAR).other wr.heap.size 6 (.int .u64 unique) HFAR).other wr.heap.size 7 (.int .u64 by_) HFAR)⟩)
          | exact ⟨w5.heap.size, a5, c5, rfl, rfl, g_on HB5.out (g_alloc _ _), GBx.made w5 [.int .u8 kind, .int .i64 tenant, .slice a5 PK.length c5, .string value, .int .u32 flags, .int .i64 life, .int .u64 unique, .int .u64 by_] 27, HG5.out.alloc _⟩
    case rest =>
    obtain ⟨pb, a5, cp5, rfl, rfl, HBC, HPB, HPR⟩ := hcut
    obtain ⟨wa, hwa⟩ : ∃ wa, wa = wc := ⟨_, rfl⟩
    rw [← hwa] at HBC HPB HPR ⊢
    clear hwa
    have HBW := Hid.mk2 (g_on HB.out HBC.out)
    have HXA := Hid.mk2 (HX.out.below HBC.out)
    have HSA := Hid.mk2 (HSR.out.below HBC.out)
    have HSV : Hid (∀ W', GRd EI W' (some ⟨b, off, none⟩) S sc → W'.cell? ⟨b, off + k, none⟩ = some (.int .i64 s)) := by
      intro W' hW'
      have hneS : S ≠ [] := by intro e; rw [e] at hkl; simp at hkl
      obtain ⟨b', off', e, hb', hc'⟩ := hW'.int hneS
      cases e
      rw [HSE.out]
      exact hc' k hkl
    clear c0 c1 c2 c3 c4 c5 c6 c7 r0 hlt hbl HB HX HSR HBC
    have hlt := HXA.out.lt
    have hltp := HPB.out.lt
    have c0 := HXA.out.c 0 (by simp)
    have c1 := HXA.out.c 1 (by simp)
    have c2 := HXA.out.c 2 (by simp)
    have c3 := HXA.out.c 3 (by simp)
    have c4 := HXA.out.c 4 (by simp)
    have c5 := HXA.out.c 5 (by simp)
    have c6 := HXA.out.c 6 (by simp)
    have c7 := HXA.out.c 7 (by simp)
    simp only [List.getElem_cons_zero, List.getElem_cons_succ] at c0 c1 c2 c3 c4 c5 c6 c7
    have p0 := HPB.out.c 0 (by simp)
    have p1 := HPB.out.c 1 (by simp)
    have p2 := HPB.out.c 2 (by simp)
    have p3 := HPB.out.c 3 (by simp)
    have p4 := HPB.out.c 4 (by simp)
    have p5 := HPB.out.c 5 (by simp)
    have p6 := HPB.out.c 6 (by simp)
    have p7 := HPB.out.c 7 (by simp)
    simp only [List.getElem_cons_zero, List.getElem_cons_succ] at p0 p1 p2 p3 p4 p5 p6 p7
    have r0 := HSV.out _ HSA.out
    have hla2 : ¬ s ≤ LA k := by omega
    go_upto_region 14 with (go_at_call 18; refine (HCS.out _ a5 cp5 HPR.out).mono ?_; rintro e w9 ⟨rfl, hb9⟩; have HB9 := Hid.mk2 (g_on HBW.out hb9); have HX9 := Hid.mk2 (HXA.out.below hb9); have HP9 := Hid.mk2 (HPB.out.below hb9); have HR9 := Hid.mk2 (HPR.out.below hb9); have HS9 := Hid.mk2 (HSA.out.below hb9); clear HBW HXA HPB HPR HSA hlt hltp c0 c1 c2 c3 c4 c5 c6 c7 p0 p1 p2 p3 p4 p5 p6 p7 r0; have HBW := HB9; have HXA := HX9; have HPB := HP9; have HPR := HR9; have HSA := HS9; clear HB9 HX9 HP9 HR9 HS9; have hlt := HXA.out.lt; have hltp := HPB.out.lt; have c0 := HXA.out.c 0 (by simp); have c1 := HXA.out.c 1 (by simp); have c2 := HXA.out.c 2 (by simp); have c3 := HXA.out.c 3 (by simp); have c4 := HXA.out.c 4 (by simp); have c5 := HXA.out.c 5 (by simp); have c6 := HXA.out.c 6 (by simp); have c7 := HXA.out.c 7 (by simp); have p0 := HPB.out.c 0 (by simp); have p1 := HPB.out.c 1 (by simp); have p2 := HPB.out.c 2 (by simp); have p3 := HPB.out.c 3 (by simp); have p4 := HPB.out.c 4 (by simp); have p5 := HPB.out.c 5 (by simp); have p6 := HPB.out.c 6 (by simp); have p7 := HPB.out.c 7 (by simp); simp only [List.getElem_cons_zero, List.getElem_cons_succ] at c0 c1 c2 c3 c4 c5 c6 c7 p0 p1 p2 p3 p4 p5 p6 p7; have r0 := HSV.out _ HSA.out)
    obtain ⟨wo, hwo⟩ : ∃ wo, wo = w9 := ⟨_, rfl⟩
    rw [← hwo] at HBW HXA HPB HPR HSA hlt hltp c0 c1 c2 c3 c4 c5 c6 c7 p0 p1 p2 p3 p4 p5 p6 p7 r0 ⊢
    clear hwo
    go_cut [13, 14] from 35 to 166 (fun s13 s14 wx => ∃ (na : Option Addr) (nc : Nat), s13 = .slice na ND.length nc ∧ s14 = .int .i64 0 ∧ Hid (Below wo.heap.size wo wx) ∧ Hid (GRd EI wx na ND nc))
    case first =>
      go_wp2_with (go_at_call 8; refine (HHS.out _ a5 cp5 HPR.out).mono ?_; rintro e w9 ⟨v9, rfl, hO9, hb9⟩; obtain ⟨na, nc, hv9, hN9⟩ := hO9.rd okI; subst hv9)
      go_meet
      case rel => exact ⟨na, nc, rfl, rfl, hb9, hN9⟩
    case rest =>
    obtain ⟨na, nc, rfl, rfl, HBO, HNR⟩ := hcut
    obtain ⟨wq, hwq⟩ : ∃ wq, wq = wc := ⟨_, rfl⟩
    rw [← hwq] at HBO HNR ⊢
    clear hwq
    have HB9 := Hid.mk2 (g_on HBW.out HBO.out)
    have HX9 := Hid.mk2 (HXA.out.below HBO.out)
    have HP9 := Hid.mk2 (HPB.out.below HBO.out)
    have HR9 := Hid.mk2 (HPR.out.below HBO.out)
    have HS9 := Hid.mk2 (HSA.out.below HBO.out)
    clear HBW HXA HPB HPR HSA hlt hltp c0 c1 c2 c3 c4 c5 c6 c7 p0 p1 p2 p3 p4 p5 p6 p7 r0 HBO
    have HBW := HB9
    have HXA := HX9
    have HPB := HP9
    have HPR := HR9
    have HSA := HS9
    clear HB9 HX9 HP9 HR9 HS9
    have hlt := HXA.out.lt
    have hltp := HPB.out.lt
    have c0 := HXA.out.c 0 (by simp)
    have c1 := HXA.out.c 1 (by simp)
    have c2 := HXA.out.c 2 (by simp)
    have c3 := HXA.out.c 3 (by simp)
    have c4 := HXA.out.c 4 (by simp)
    have c5 := HXA.out.c 5 (by simp)
    have c6 := HXA.out.c 6 (by simp)
    have c7 := HXA.out.c 7 (by simp)
    simp only [List.getElem_cons_zero, List.getElem_cons_succ] at c0 c1 c2 c3 c4 c5 c6 c7
    have p0 := HPB.out.c 0 (by simp)
    have p1 := HPB.out.c 1 (by simp)
    have p2 := HPB.out.c 2 (by simp)
    have p3 := HPB.out.c 3 (by simp)
    have p4 := HPB.out.c 4 (by simp)
    have p5 := HPB.out.c 5 (by simp)
    have p6 := HPB.out.c 6 (by simp)
    have p7 := HPB.out.c 7 (by simp)
    simp only [List.getElem_cons_zero, List.getElem_cons_succ] at p0 p1 p2 p3 p4 p5 p6 p7
    have r0 := HSV.out _ HSA.out
    have hbS := HSA.out.int (by intro e; rw [e] at hkl; simp at hkl)
    have hbl : b < wq.heap.size := by obtain ⟨b', off', e, hb', _⟩ := hbS; cases e; exact hb'
    clear hbS
    go_upto_region 15 with (fail)
    go_cut [129] from 35 to 166 (fun s129 wx => s129 = .bool false ∧ Hid (Below wq.heap.size wq wx))
    case first =>
      by_cases hk11 : kind = 11
      · have hk' : (kind != 11) = false := bne_f hk11
        clear hk11
        by_cases hS1 : S.length = 1
        · have hPK := HO1.out hS1
          subst hPK
          have hS1' : ((S.length : Int) == 1) = true := by rw [hS1]; rfl
          have HSQ : Hid (∀ n os, Calls Try.prog 20 #[.agg #[.int .u8 kind, .int .i64 tenant, .slice a5 PK.length cp5, .string value, .int .u32 flags, .int .i64 life, .int .u64 unique, .int .u64 by_], .agg #[.int .u8 kind, .int .i64 tenant, .slice ko PK.length kc, .string value, .int .u32 flags, .int .i64 life, .int .u64 unique, .int .u64 by_]] (Sort.grow (wq.drewN n) os) fun e w' => e = .returned (.bool true) ∧ ∃ q os', w' = Sort.grow ((Sort.grow (wq.drewN n) os).drewN q) os') := fun n os => HSC.out _ a5 cp5 (HPR.out.below (g_growB wq n os)) ((HR.out.below HBW.out).below (g_growB wq n os))
          have d0 : ∀ n os, (Sort.grow (wq.drewN n) os).cell? ⟨w.heap.size, 0, none⟩ = _ := cell_grown hlt c0
          have e0 : ∀ n os, (Sort.grow (wq.drewN n) os).cell? ⟨pb, 0, none⟩ = _ := cell_grown hltp p0
          have d1 : ∀ n os, (Sort.grow (wq.drewN n) os).cell? ⟨w.heap.size, 1, none⟩ = _ := cell_grown hlt c1
          have e1 : ∀ n os, (Sort.grow (wq.drewN n) os).cell? ⟨pb, 1, none⟩ = _ := cell_grown hltp p1
          have d2 : ∀ n os, (Sort.grow (wq.drewN n) os).cell? ⟨w.heap.size, 2, none⟩ = _ := cell_grown hlt c2
          have e2 : ∀ n os, (Sort.grow (wq.drewN n) os).cell? ⟨pb, 2, none⟩ = _ := cell_grown hltp p2
          have d3 : ∀ n os, (Sort.grow (wq.drewN n) os).cell? ⟨w.heap.size, 3, none⟩ = _ := cell_grown hlt c3
          have e3 : ∀ n os, (Sort.grow (wq.drewN n) os).cell? ⟨pb, 3, none⟩ = _ := cell_grown hltp p3
          have d4 : ∀ n os, (Sort.grow (wq.drewN n) os).cell? ⟨w.heap.size, 4, none⟩ = _ := cell_grown hlt c4
          have e4 : ∀ n os, (Sort.grow (wq.drewN n) os).cell? ⟨pb, 4, none⟩ = _ := cell_grown hltp p4
          have d5 : ∀ n os, (Sort.grow (wq.drewN n) os).cell? ⟨w.heap.size, 5, none⟩ = _ := cell_grown hlt c5
          have e5 : ∀ n os, (Sort.grow (wq.drewN n) os).cell? ⟨pb, 5, none⟩ = _ := cell_grown hltp p5
          have d6 : ∀ n os, (Sort.grow (wq.drewN n) os).cell? ⟨w.heap.size, 6, none⟩ = _ := cell_grown hlt c6
          have e6 : ∀ n os, (Sort.grow (wq.drewN n) os).cell? ⟨pb, 6, none⟩ = _ := cell_grown hltp p6
          have d7 : ∀ n os, (Sort.grow (wq.drewN n) os).cell? ⟨w.heap.size, 7, none⟩ = _ := cell_grown hlt c7
          have e7 : ∀ n os, (Sort.grow (wq.drewN n) os).cell? ⟨pb, 7, none⟩ = _ := cell_grown hltp p7
          clear c0 c1 c2 c3 c4 c5 c6 c7 p0 p1 p2 p3 p4 p5 p6 p7 r0 hS1
          refine wp_region_quiet_grown (by assumption) (by kernel_rfl) ?_
          repeat (first | go_big_quiet_skip | (quiet_step ((go_at_call 20; exact Calls.grown_of (HSQ.out _ _)))))
          refine wpQuiet_nil ?_
          intro _ hw'
          obtain ⟨⟨nq, osq⟩, hw''⟩ := hw'
          subst hw''
          go_wp2
          go_meet
          case rel => exact ⟨by simp, g_growB _ _ _⟩
        · have hS1' : ((S.length : Int) == 1) = false := by simp; omega
          go_quiet (fail)
          go_wp2
          go_meet
          case rel => exact ⟨by simp, g_drewN _⟩
      · have hk' : (kind != 11) = true := bne_t hk11
        obtain ⟨nb, noff, hna, hnl, hnc⟩ := HNR.out.int (by rw [HN1.out hk11]; simp)
        subst hna
        have n0 : wq.cell? ⟨nb, noff, none⟩ = some (.int .i64 s) := by
          have h1 := hnc 0 (by rw [HN1.out hk11]; simp)
          rw [Nat.add_zero] at h1
          rw [h1]
          congr 2
          simp [HN1.out hk11]
        have hND1 : ((ND.length : Int) != 1) = false := by rw [HN1.out hk11]; rfl
        have hND2 : (0 : Int) < (ND.length : Int) := by rw [HN1.out hk11]; simp
        have hND3 : 0 < ND.length := by rw [HN1.out hk11]; simp
        have hss : (s != s) = false := bne_f rfl
        clear hk11 hnc
        by_cases hS1 : S.length = 1
        · have hPK := HO1.out hS1
          subst hPK
          have hS1' : ((S.length : Int) == 1) = true := by rw [hS1]; rfl
          have HSQ : Hid (∀ n os, Calls Try.prog 20 #[.agg #[.int .u8 kind, .int .i64 tenant, .slice a5 PK.length cp5, .string value, .int .u32 flags, .int .i64 life, .int .u64 unique, .int .u64 by_], .agg #[.int .u8 kind, .int .i64 tenant, .slice ko PK.length kc, .string value, .int .u32 flags, .int .i64 life, .int .u64 unique, .int .u64 by_]] (Sort.grow (wq.drewN n) os) fun e w' => e = .returned (.bool true) ∧ ∃ q os', w' = Sort.grow ((Sort.grow (wq.drewN n) os).drewN q) os') := fun n os => HSC.out _ a5 cp5 (HPR.out.below (g_growB wq n os)) ((HR.out.below HBW.out).below (g_growB wq n os))
          have d0 : ∀ n os, (Sort.grow (wq.drewN n) os).cell? ⟨w.heap.size, 0, none⟩ = _ := cell_grown hlt c0
          have e0 : ∀ n os, (Sort.grow (wq.drewN n) os).cell? ⟨pb, 0, none⟩ = _ := cell_grown hltp p0
          have d1 : ∀ n os, (Sort.grow (wq.drewN n) os).cell? ⟨w.heap.size, 1, none⟩ = _ := cell_grown hlt c1
          have e1 : ∀ n os, (Sort.grow (wq.drewN n) os).cell? ⟨pb, 1, none⟩ = _ := cell_grown hltp p1
          have d2 : ∀ n os, (Sort.grow (wq.drewN n) os).cell? ⟨w.heap.size, 2, none⟩ = _ := cell_grown hlt c2
          have e2 : ∀ n os, (Sort.grow (wq.drewN n) os).cell? ⟨pb, 2, none⟩ = _ := cell_grown hltp p2
          have d3 : ∀ n os, (Sort.grow (wq.drewN n) os).cell? ⟨w.heap.size, 3, none⟩ = _ := cell_grown hlt c3
          have e3 : ∀ n os, (Sort.grow (wq.drewN n) os).cell? ⟨pb, 3, none⟩ = _ := cell_grown hltp p3
          have d4 : ∀ n os, (Sort.grow (wq.drewN n) os).cell? ⟨w.heap.size, 4, none⟩ = _ := cell_grown hlt c4
          have e4 : ∀ n os, (Sort.grow (wq.drewN n) os).cell? ⟨pb, 4, none⟩ = _ := cell_grown hltp p4
          have d5 : ∀ n os, (Sort.grow (wq.drewN n) os).cell? ⟨w.heap.size, 5, none⟩ = _ := cell_grown hlt c5
          have e5 : ∀ n os, (Sort.grow (wq.drewN n) os).cell? ⟨pb, 5, none⟩ = _ := cell_grown hltp p5
          have d6 : ∀ n os, (Sort.grow (wq.drewN n) os).cell? ⟨w.heap.size, 6, none⟩ = _ := cell_grown hlt c6
          have e6 : ∀ n os, (Sort.grow (wq.drewN n) os).cell? ⟨pb, 6, none⟩ = _ := cell_grown hltp p6
          have d7 : ∀ n os, (Sort.grow (wq.drewN n) os).cell? ⟨w.heap.size, 7, none⟩ = _ := cell_grown hlt c7
          have e7 : ∀ n os, (Sort.grow (wq.drewN n) os).cell? ⟨pb, 7, none⟩ = _ := cell_grown hltp p7
          have e8 : ∀ n os, (Sort.grow (wq.drewN n) os).cell? ⟨nb, noff, none⟩ = _ := cell_grown hnl n0
          have e9 : ∀ n os, (Sort.grow (wq.drewN n) os).cell? ⟨b, off + k, none⟩ = _ := cell_grown hbl r0
          clear c0 c1 c2 c3 c4 c5 c6 c7 p0 p1 p2 p3 p4 p5 p6 p7 r0 n0 hS1
          refine wp_region_quiet_grown (by assumption) (by kernel_rfl) ?_
          repeat (first | go_big_quiet_skip | (quiet_step ((go_at_call 20; exact Calls.grown_of (HSQ.out _ _)))))
          refine wpQuiet_nil ?_
          intro _ hw'
          obtain ⟨⟨nq, osq⟩, hw''⟩ := hw'
          subst hw''
          go_wp2
          go_meet
          case rel => exact ⟨by simp, g_growB _ _ _⟩
        · have hS1' : ((S.length : Int) == 1) = false := by simp; omega
          go_quiet (fail)
          go_wp2
          go_meet
          case rel => exact ⟨by simp, g_drewN _⟩
    case rest =>
    obtain ⟨rfl, HBO⟩ := hcut
    obtain ⟨wv, hwv⟩ : ∃ wv, wv = wc := ⟨_, rfl⟩
    rw [← hwv] at HBO ⊢
    clear hwv
    have HB9 := Hid.mk2 (g_on HBW.out HBO.out)
    have HX9 := Hid.mk2 (HXA.out.below HBO.out)
    have HP9 := Hid.mk2 (HPB.out.below HBO.out)
    have HR9 := Hid.mk2 (HPR.out.below HBO.out)
    have HS9 := Hid.mk2 (HSA.out.below HBO.out)
    have HK9 := Hid.mk2 (HR.out.below HB9.out)
    have hk8 := HK8.out
    clear HBW HXA HPB HPR HSA hlt hltp c0 c1 c2 c3 c4 c5 c6 c7 p0 p1 p2 p3 p4 p5 p6 p7 r0 HBO HNR hbl HPS HCS HHS HN1 HO1
    go_wp2
    go_loopw [15, 16] (fun s15 s16 wx => ∃ (t q : Nat), q ≤ PK.length ∧ t ≤ keys.length ∧ s15 = .int .i64 t ∧ s16 = .int .i64 q ∧ Hid (Below wv.heap.size wv wx) ∧ Hid ((PK.drop q).Sublist (keys.drop t))) (fun _ s16 _ => PK.length - (intOf s16).toNat)
    case atStart => exact ⟨0, 0, Nat.zero_le _, Nat.zero_le _, rfl, rfl, Below.refl _ _, HS1.out⟩
    case round =>
      obtain ⟨t, q, hq, ht, rfl, rfl, HBX, HSB⟩ := hrel
      obtain ⟨wy, hwy⟩ : ∃ wy, wy = wr := ⟨_, rfl⟩
      rw [← hwy] at HBX ⊢
      clear hwy
      have HXY := Hid.mk2 (HX9.out.below HBX.out)
      have HPY := Hid.mk2 (HP9.out.below HBX.out)
      have HRY := Hid.mk2 (HR9.out.below HBX.out)
      have HKY := Hid.mk2 (HK9.out.below HBX.out)
      have c2 := HXY.out.c 2 (by simp)
      have p2 := HPY.out.c 2 (by simp)
      have hlt := HXY.out.lt
      have hltp := HPY.out.lt
      simp only [List.getElem_cons_zero, List.getElem_cons_succ] at c2 p2
      by_cases hql : q < PK.length
      · have hql2 : (q : Int) < (PK.length : Int) := by omega
        obtain ⟨y, hye⟩ : ∃ y, y = PK[q] := ⟨_, rfl⟩
        have hdq : PK.drop q = y :: PK.drop (q + 1) := by rw [hye]; exact List.drop_eq_getElem_cons hql
        have HSB2 : Hid ((y :: PK.drop (q + 1)).Sublist (keys.drop t)) := by show List.Sublist _ _; rw [← hdq]; exact HSB.out
        obtain ⟨yb, yoff, hya, hyl, hyc⟩ := HRY.out.str (by intro e; rw [e] at hql; simp at hql)
        subst hya
        have y0 := hyc q hql
        rw [← hye] at y0
        have hkn : keys ≠ [] := by intro e; have := HSB2.out; rw [e] at this; simp at this
        obtain ⟨kb, koff, hka, hkl', hkc⟩ := HKY.out.str hkn
        subst hka
        have HKC := Hid.mk2 hkc
        clear hdq hyc hkc hkn HSB hye
        go_wp2
        go_loopw [15] (fun s15 wx => ∃ (t : Nat), t ≤ keys.length ∧ s15 = .int .i64 t ∧ Hid (Below wy.heap.size wy wx) ∧ Hid ((y :: PK.drop (q + 1)).Sublist (keys.drop t))) (fun s15 _ => keys.length - (intOf s15).toNat)
        case atStart => exact ⟨t, ht, rfl, Below.refl _ _, HSB2⟩
        case round =>
          obtain ⟨u, hu, rfl, HBU, HSU2⟩ := hrel
          have hul : u < keys.length := by
            have h1 := HSU2.out.length_le
            simp at h1
            omega
          have hul2 : (u : Int) < (keys.length : Int) := by omega
          obtain ⟨z, hze⟩ : ∃ z, z = keys[u] := ⟨_, rfl⟩
          have z0 : wr.cell? ⟨kb, koff + u, none⟩ = some (.string z) := by rw [hze]; exact (HBU.out.cell (p := ⟨kb, koff + u, none⟩) hkl').trans (HKC.out u hul)
          have y1 : wr.cell? ⟨yb, yoff + q, none⟩ = some (.string y) := (HBU.out.cell (p := ⟨yb, yoff + q, none⟩) hyl).trans y0
          have c2' : wr.cell? ⟨w.heap.size, 2, none⟩ = _ := (HBU.out.cell (p := ⟨w.heap.size, 2, none⟩) hlt).trans c2
          have p2' : wr.cell? ⟨pb, 2, none⟩ = _ := (HBU.out.cell (p := ⟨pb, 2, none⟩) hltp).trans p2
          have hdu : keys.drop u = z :: keys.drop (u + 1) := by rw [hze]; exact List.drop_eq_getElem_cons hul
          have hS2 := HSU2.out
          rw [hdu] at hS2
          by_cases hzy : z = y
          · have hz' := ba_eq hzy
            have HTA : Hid ((PK.drop (q + 1)).Sublist (keys.drop u)) := by show List.Sublist _ _; exact (List.sublist_cons_self _ _).trans HSU2.out
            clear hze hdu hS2 c2 p2 y0
            go_upto_region 21 with (fail)
            go_quiet (fail)
            have hul3 : ¬ ((u : Int) == (keys.length : Int)) = true := by simp; omega
            have hul4 : ((u : Int) == (keys.length : Int)) = false := by simp; omega
            have HBN := Hid.mk2 (g_on HBX.out (g_on HBU.out (g_drewN nq)))
            go_wp2
            go_roundw
            case rel => exact ⟨u, q + 1, by omega, by omega, rfl, by go_num, HBN, HTA⟩
            case measure => simp [intOf]; omega
          · have hz' := ba_ne hzy
            have HTA : Hid ((y :: PK.drop (q + 1)).Sublist (keys.drop (u + 1))) := by
              show List.Sublist _ _
              exact sub_skip hzy hS2
            clear hze hdu hS2 c2 p2 y0
            go_upto_region 21 with (fail)
            go_quiet (fail)
            go_wp2
            go_roundw
            case rel => exact ⟨u + 1, by omega, by go_num, g_on HBU.out (g_drewN nq), HTA⟩
            case measure => simp [intOf]; omega
      · have hql2 : ¬ ((q : Int) < (PK.length : Int)) := by omega
        have hms := HMB.out k (by omega)
        have HBN := Hid.mk2 (g_on HB9.out HBX.out)
        go_wp2
        go_roundw
        case rel => exact ⟨k + 1, by omega, by go_num, by rw [HMK.out]; go_num, by rw [HLA1.out], HBN, HXY, HS9.out.below HBX.out⟩
        case measure => simp [intOf]; omega
end Go.Proofs.Ytiefdflkbihmkaa
