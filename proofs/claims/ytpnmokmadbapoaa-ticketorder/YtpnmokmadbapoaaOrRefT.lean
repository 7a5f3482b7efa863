/-
  The document's commands (cloakroomref10): contracts of Needs and Shards.
-/
import Derived.Test.YtpnmokmadbapoaaOrRefS
namespace Go.Proofs.Ytpnmokmadbapoaa
open Go.RowKit Go.Sort Go.Shelf
set_option linter.unusedSimpArgs false
set_option linter.unusedVariables false
set_option maxRecDepth 100000

/-- its shards among the first i -/
def Cm.isIn (c : Cm) (n i : Nat) : Bool := decide (c.kind = 11) || c.keys.any fun k => c.of n k == (i : Int)
def Cm.needsTo (c : Cm) (n i : Nat) : List Int := ((List.range i).filter fun (j : Nat) => c.isIn n j).map fun (j : Nat) => (j : Int)
theorem Cm.needsTo_all (c : Cm) (n : Nat) : c.needsTo n n = c.needs n := rfl
theorem Cm.needsTo_in {c : Cm} {n i : Nat} (h : c.isIn n i = true) : c.needsTo n (i + 1) = c.needsTo n i ++ [(i : Int)] := by
  unfold Cm.needsTo
  rw [List.range_succ, List.filter_append, List.map_append]
  simp [h]
theorem Cm.needsTo_out {c : Cm} {n i : Nat} (h : c.isIn n i = false) : c.needsTo n (i + 1) = c.needsTo n i := by
  unfold Cm.needsTo
  rw [List.range_succ, List.filter_append, List.map_append]
  simp [h]
theorem Cm.needsTo_len (c : Cm) (n i : Nat) : (c.needsTo n i).length ≤ i := by
  unfold Cm.needsTo
  rw [List.length_map]
  exact Nat.le_trans (List.length_filter_le _ _) (by simp)
theorem any_step {l : List ByteArray} {p : ByteArray → Bool} {k : Nat} (h : k < l.length) : (l.take (k + 1)).any p = ((l.take k).any p || p l[k]) := by
  rw [List.take_add_one, List.getElem?_eq_getElem h, List.any_append]
  simp
theorem g_grow (w : World) (n : Nat) (os : Array Obj) : RowKit.Below w.heap.size w (grow (w.drewN n) os) :=
  ⟨rfl, rfl, rfl, by simp [grow, World.drewN], fun k hk => heap_grow_old _ _ hk⟩

set_option maxHeartbeats 4000000 in
theorem rneeds_any (c : Cm) (ko : Option Addr) (kc : Nat) (n : Nat) (hn0 : 1 ≤ n) (hn1 : n ≤ 4) (ht : tenOk c.tenant = true) (hk : ∀ k ∈ c.keys, keyOk k = true) (w : World) (h : GRd ES w ko c.keys kc) :
    Calls Try.prog 54 #[.agg (c.arr (.slice ko c.keys.length kc)), .int .i64 n] w fun e w' => ∃ v, e = .returned v ∧ GOwn EI w' w.heap.size v (c.needs n) ∧ RowKit.Below w.heap.size w w' := by
  have mixed : Try.prog.follows .mixedOrders = true := by kernel_rfl
  have HM := Hid.mk2 (Cm.At.made c (.slice ko c.keys.length kc) w)
  have HR := Hid.mk2 h
  have hlen := h.len
  have HOF := Hid.mk2 (fun key (hkey : key ∈ c.keys) W => rof_any c (.slice ko c.keys.length kc) key n W ht (hk key hkey) (by omega) (by omega))
  have HN := Hid.mk2 (fun i => @Cm.needsTo_in c n i)
  have HO := Hid.mk2 (fun i => @Cm.needsTo_out c n i)
  have HLE := Hid.mk2 (fun i => c.needsTo_len n i)
  rw [← Cm.needsTo_all]
  obtain ⟨NT, hNT⟩ : ∃ NT : Nat → List Int, ∀ i, NT i = c.needsTo n i := ⟨_, fun _ => rfl⟩
  have hNT0 : NT 0 = [] := by rw [hNT]; rfl
  simp only [← hNT] at HN HO HLE
  rw [← hNT]
  obtain ⟨II, hII⟩ : ∃ II : Nat → Bool, ∀ i, II i = c.isIn n i := ⟨_, fun _ => rfl⟩
  simp only [← hII] at HN HO
  obtain ⟨OF, hOF⟩ : ∃ OF : ByteArray → Int, ∀ k, OF k = c.of n k := ⟨_, fun _ => rfl⟩
  simp only [← hOF] at HOF
  have HII : Hid (∀ i, II i = (decide (c.kind = 11) || c.keys.any fun k => OF k == (i : Int))) := by
    intro i
    rw [hII]
    unfold Cm.isIn
    simp only [hOF]
  have HNT0 := Hid.mk2 hNT0
  clear hNT hNT0 hII hOF h ht hk
  obtain ⟨kind, tenant, keys, value, flags, life, unique, by_⟩ := c
  unfold Cm.arr at *
  dsimp only at *
  obtain ⟨W, hW⟩ : ∃ W, W = w.alloc (.cells #[.int .u8 kind, .int .i64 tenant, .slice ko keys.length kc, .string value, .int .u32 flags, .int .i64 life, .int .u64 unique, .int .u64 by_] 27) := ⟨_, rfl⟩
  have HB : Hid (RowKit.Below w.heap.size w W) := by rw [hW]; exact g_alloc _ _
  rw [← hW] at HM
  obtain ⟨hlt, c0, c1, c2, c3, c4, c5, c6, c7⟩ := HM.out
  dsimp only at c0 c1 c2 c3 c4 c5 c6 c7
  go_enter Try.func54, Try.ntmps54
  go_upto_region 1 with (fail)
  rw [← hW]
  clear hW
  have hn1' : (n : Int) ≤ 4 := by omega
  go_wp2
  go_loopw [5, 6] (fun v i wr => ∃ (k : Nat) (v5 : Value), k ≤ n ∧ i = .int .i64 k ∧ v = v5 ∧ RowKit.Below W.heap.size W wr ∧ GOwn EI wr W.heap.size v5 (NT k)) (fun _ i _ => n - (RowKit.intOf i).toNat)
  case atStart => exact ⟨0, _, Nat.zero_le _, rfl, rfl, RowKit.Below.refl _ _, by rw [HNT0.out]; exact GOwn.nil _ _⟩
  case round =>
    obtain ⟨k, v5, hkn, rfl, rfl, hbw, how⟩ := hrel
    have HBW := Hid.mk2 hbw
    have HOW := Hid.mk2 how
    obtain ⟨wo, hwo⟩ : ∃ wo, wo = wr := ⟨_, rfl⟩
    rw [← hwo] at HBW HOW ⊢
    clear hwo
    clear hbw how c0 c1 c2 c3 c4 c5 c6 c7 hlt
    by_cases hkl : k < n
    · have hkl2 : (k : Int) < (n : Int) := by omega
      obtain ⟨hlt, c0, c1, c2, c3, c4, c5, c6, c7⟩ := HM.out.below HBW.out
      dsimp only at c0 c1 c2 c3 c4 c5 c6 c7
      obtain ⟨Z, hZ⟩ : ∃ Z : Bool, Z = (kind == 11) := ⟨_, rfl⟩
      have hZ' := hZ.symm
      have HZ := Hid.mk2 hZ
      clear hZ
      go_wp2
      go_loopw [7, 8] (fun b j wx => ∃ (q : Nat) (S : Bool), q ≤ keys.length ∧ j = .int .i64 q ∧ b = .bool S ∧ RowKit.Below wo.heap.size wo wx ∧ Hid (S = (Z || (keys.take q).any fun x => OF x == (k : Int)))) (fun _ j _ => keys.length - (RowKit.intOf j).toNat)
      case atStart => exact ⟨0, Z, Nat.zero_le _, rfl, by first | rfl | (rw [hZ']; done) | simp [hZ'], RowKit.Below.refl _ _, by show Z = _; simp⟩
      case round =>
        obtain ⟨q, S, hq, rfl, rfl, hbx, HS⟩ := hrel
        have HBX := Hid.mk2 hbx
        clear hbx c0 c1 c2 c3 c4 c5 c6 c7 hlt
        obtain ⟨hlt, c0, c1, c2, c3, c4, c5, c6, c7⟩ := (HM.out.below HBW.out).below HBX.out
        dsimp only at c0 c1 c2 c3 c4 c5 c6 c7
        by_cases hql : q < keys.length
        · have hql2 : (q : Int) < (keys.length : Int) := by omega
          have hne : keys ≠ [] := by intro e; rw [e] at hql; simp at hql
          obtain ⟨b, off, rfl, hbl, hcs⟩ := (((HR.out.below HB.out).below HBW.out).below HBX.out).str hne
          have r0 := hcs q hql
          obtain ⟨p, hpe⟩ : ∃ p, p = keys[q] := ⟨_, rfl⟩
          rw [← hpe] at r0
          have HOQ := Hid.mk2 (HOF.out p (by rw [hpe]; exact List.getElem_mem hql))
          obtain ⟨X, hX⟩ : ∃ X, X = OF p := ⟨_, rfl⟩
          rw [← hX] at HOQ
          obtain ⟨Y, hY⟩ : ∃ Y : Bool, Y = (X == (k : Int)) := ⟨_, rfl⟩
          have hY' := hY.symm
          have HS2 : Hid ((S || Y) = (Z || (keys.take (q + 1)).any fun x => OF x == (k : Int))) := by
            show _ = _
            rw [any_step hql, ← hpe, ← hX, ← hY, HS.out, Bool.or_assoc]
          have d0 : ∀ n os, (grow (wr.drewN n) os).cell? ⟨w.heap.size, 0, none⟩ = _ := cell_grown hlt c0
          have d1 : ∀ n os, (grow (wr.drewN n) os).cell? ⟨w.heap.size, 1, none⟩ = _ := cell_grown hlt c1
          have d2 : ∀ n os, (grow (wr.drewN n) os).cell? ⟨w.heap.size, 2, none⟩ = _ := cell_grown hlt c2
          have d3 : ∀ n os, (grow (wr.drewN n) os).cell? ⟨w.heap.size, 3, none⟩ = _ := cell_grown hlt c3
          have d4 : ∀ n os, (grow (wr.drewN n) os).cell? ⟨w.heap.size, 4, none⟩ = _ := cell_grown hlt c4
          have d5 : ∀ n os, (grow (wr.drewN n) os).cell? ⟨w.heap.size, 5, none⟩ = _ := cell_grown hlt c5
          have d6 : ∀ n os, (grow (wr.drewN n) os).cell? ⟨w.heap.size, 6, none⟩ = _ := cell_grown hlt c6
          have d7 : ∀ n os, (grow (wr.drewN n) os).cell? ⟨w.heap.size, 7, none⟩ = _ := cell_grown hlt c7
          have e0 : ∀ n os, (grow (wr.drewN n) os).cell? ⟨b, off + q, none⟩ = _ := cell_grown hbl r0
          clear hcs hne hpe hX hY HS r0
          cases S
          · go_upto_region 9 with (fail)
            clear c0 c1 c2 c3 c4 c5 c6 c7
            go_quiet_grown ((go_at_call 84; exact Calls.grown_of (HOQ.out _)))
            go_wp2
            go_roundw
            case rel => exact ⟨q + 1, Y, by omega, by go_num, rfl, g_on HBX.out (g_grow _ _ _), by simpa using HS2⟩
            case measure => simp [RowKit.intOf]; omega
          · clear d0 d1 d2 d3 d4 d5 d6 d7 e0
            go_upto_region 9 with (fail)
            go_quiet (fail)
            go_wp2
            go_roundw
            case rel => exact ⟨q + 1, true, by omega, by go_num, rfl, g_on HBX.out (g_drewN _), by simpa using HS2⟩
            case measure => simp [RowKit.intOf]; omega
        · have hql2 : ¬ ((q : Int) < (keys.length : Int)) := by omega
          have hSe : S = II k := by
            rw [HS.out, HII.out, HZ.out, List.take_of_length_le (by omega)]
            congr 1
          have HOX := Hid.mk2 (HOW.out.below HBX.out)
          have hbz := Nat.le_trans HBW.out.size HBX.out.size
          cases S
          · have e := HO.out k hSe.symm
            have HE := Hid.mk2 e
            clear e hSe HS
            go_wp2
            go_roundw
            case rel => exact ⟨k + 1, _, by omega, by go_num, rfl, g_on HBW.out HBX.out, by rw [HE.out]; exact HOX.out⟩
            case measure => simp [RowKit.intOf]; omega
          · have e := HN.out k hSe.symm
            have HE := Hid.mk2 e
            have hll := HLE.out k
            clear e hSe HS
            go_wp2_with (at_builtin; refine g_one (w0 := wr) okI rfl _ _ _ rfl rfl W.heap.size _ (NT k) HOX.out rfl (k : Int) rfl _ rfl rfl (by omega) hbz ?_; intro v7 w7 hO7 hG7; have HO7 := Hid.mk2 hO7; have HG7 := Hid.mk2 hG7; clear hO7 hG7)
            go_roundw
            case rel => exact ⟨k + 1, v7, by omega, by go_num, rfl, (g_on HBW.out HBX.out).trans (HG7.out.below HOX.out hbz), by rw [HE.out]; exact HO7.out⟩
            case measure => simp [RowKit.intOf]; omega
    · have ek : k = n := by omega
      have hkl2 : ¬ ((k : Int) < (n : Int)) := by omega
      subst ek
      go_wp2
      go_ret
      exact ⟨_, rfl, HOW.out.down HB.out.size, g_on HB.out HBW.out⟩
end Go.Proofs.Ytpnmokmadbapoaa
