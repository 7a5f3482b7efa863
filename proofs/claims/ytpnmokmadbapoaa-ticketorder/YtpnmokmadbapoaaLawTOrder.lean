/-
  TicketOrder, walked.
-/
import Derived.Test.YtpnmokmadbapoaaToC
import Derived.Test.YtpnmokmadbapoaaToIn
namespace Go.Proofs.Ytpnmokmadbapoaa
open Go.RowKit
set_option linter.unusedSimpArgs false
set_option linter.unusedVariables false
set_option maxRecDepth 100000

set_option maxHeartbeats 16000000 in
theorem ticketOrder_any (n0 : Int) (l : List Td) (lo : Option Addr) (lc : Nat) (sl : List Int) (so : Option Addr) (sc : Nat) (hs : ∀ x ∈ sl, 0 ≤ x ∧ x ≤ 255) (w : World) (hl : GRd ET w lo l lc) (hk : ∀ d ∈ l, GRd ES w d.so d.t.c.keys d.sc) (hsl : GRd EU w so sl sc) :
    Calls Try.prog 9 #[.int .i64 n0, .slice lo l.length lc, .slice so sl.length sc] w fun e w' => e = .returned (.bool true) ∧ Below w.heap.size w w' := by
  have hll := hl.len
  have hsll := hsl.len
  have HL := Hid.mk2 hl
  have HK := Hid.mk2 hk
  have HS := Hid.mk2 hsl
  have HSB := Hid.mk2 hs
  have HAL := Hid.mk2 (alive12_any w)
  clear hl hk hsl hs
  by_cases hn : 1 ≤ n0 ∧ n0 ≤ 4
  case neg =>
    have HN := Hid.mk2 (fun V => tnew_bad n0 hn V)
    go_enter Try.func9, Try.ntmps9
    go_wp2_with (first
      | (go_at_call 31; refine HAL.out.mono ?_; rintro e w1 ⟨rfl, hb1⟩; have HB1 := Hid.mk2 hb1; clear hb1)
      | (go_at_call 25; refine (HN.out _).mono ?_; rintro e w2 ⟨rfl, hb2⟩; have HB2 := Hid.mk2 hb2; clear hb2))
    go_ret
    exact ⟨rfl, g_on HB1.out (g_on HB2.out (g_alloc _ _))⟩
  obtain ⟨n, rfl⟩ : ∃ n : Nat, n0 = n := ⟨n0.toNat, by omega⟩
  have hn0 : 1 ≤ n := by omega
  have hn1 : n ≤ 4 := by omega
  have HN := Hid.mk2 (fun V => tnew_good n hn0 hn1 V)
  clear hn
  by_cases h60 : 60 < l.length
  · have h60' : (60 : Int) < (l.length : Int) := by omega
    go_enter Try.func9, Try.ntmps9
    go_wp2_with (first
      | (go_at_call 31; refine HAL.out.mono ?_; rintro e w1 ⟨rfl, hb1⟩; have HB1 := Hid.mk2 hb1; clear hb1)
      | (go_at_call 25; refine (HN.out _).mono ?_; rintro e w2 ⟨g2, rfl, hg2, hq2, hb2⟩; have HB2 := Hid.mk2 hb2; clear hb2 hg2 hq2))
    go_ret
    exact ⟨rfl, g_on HB1.out (g_on HB2.out (g_alloc _ _))⟩
  have h60' : ¬ ((60 : Int) < (l.length : Int)) := by omega
  by_cases h1k : 1000 < sl.length
  · have h1k' : (1000 : Int) < (sl.length : Int) := by omega
    go_enter Try.func9, Try.ntmps9
    go_wp2_with (first
      | (go_at_call 31; refine HAL.out.mono ?_; rintro e w1 ⟨rfl, hb1⟩; have HB1 := Hid.mk2 hb1; clear hb1)
      | (go_at_call 25; refine (HN.out _).mono ?_; rintro e w2 ⟨g2, rfl, hg2, hq2, hb2⟩; have HB2 := Hid.mk2 hb2; clear hb2 hg2 hq2))
    go_ret
    exact ⟨rfl, g_on HB1.out (g_on HB2.out (g_alloc _ _))⟩
  have h1k' : ¬ ((1000 : Int) < (sl.length : Int)) := by omega
  go_enter Try.func9, Try.ntmps9
  go_upto_region 3 with (first
    | (go_at_call 31; refine HAL.out.mono ?_; rintro e w1 ⟨rfl, hb1⟩; have HB1 := Hid.mk2 hb1; clear hb1)
    | (go_at_call 25; refine (HN.out _).mono ?_; rintro e w2 ⟨g2, rfl, hg2, hq2, hb2⟩; have HG2 := Hid.mk2 hg2; have HQ2 := Hid.mk2 hq2; have HB2 := Hid.mk2 hb2; clear hg2 hq2 hb2))
  obtain ⟨V, hV⟩ : ∃ V, V = w2.alloc (.cells #[.int .i64 0, .slice (some ⟨g2, 0, none⟩) n n] 62) := ⟨_, rfl⟩
  obtain ⟨Qb, hQb⟩ : ∃ Qb, Qb = w2.heap.size := ⟨_, rfl⟩
  have HI0 : Hid (L1 w V n Qb g2 (List.replicate n nobox) (.slice none 0 0) []) := by
    have hal := g_alloc w2 (.cells #[.int .i64 0, .slice (some ⟨g2, 0, none⟩) n n] 62)
    have hd : dat (List.replicate n nobox) = List.replicate n [] := by simp [dat, nobox]
    have hrd := HQ2.out.rd (by simpa using hn1)
    rw [List.length_replicate] at hrd
    refine ⟨⟨by rw [hV]; exact g_on HB1.out (g_on HB2.out hal), by rw [hV, hQb]; exact GBx.made w2 [.int .i64 0, .slice (some ⟨g2, 0, none⟩) n n] _, by rw [hV]; exact hrd.below hal, by simp, by rw [hd]; exact (lineQ_nil n).symm, by rw [hd]; exact QOk.new hn0 hn1, by rw [hQb]; have := HB1.out.size; have := HB2.out.size; omega⟩, Vr.nil _ _ _, fun d hd' => (by cases hd'), fun d hd' => (by cases hd'), List.Pairwise.nil, fun d hd' => (by cases hd')⟩
  rw [← hV, ← hQb]
  clear hV hQb HN HAL HG2 HQ2 HB1 HB2
  have HLNG := Hid.mk2 (fun (d : Td) (hd : d ∈ l) X (hX : Below w.heap.size w X) => rlong_any d.t.c d.so d.sc X ((HK.out d hd).below hX))
  go_wp2
  go_loopw [10, 12] (fun a i wr => ∃ (k : Nat) (pv : Value) (P : List Td) (g : Nat) (B : List Bx), k ≤ l.length ∧ P.length ≤ k ∧ i = .int .i64 k ∧ a = pv ∧ Hid (L1 w wr n Qb g B pv P)) (fun _ i _ => l.length - (intOf i).toNat)
  case atStart => exact ⟨0, _, _, _, _, Nat.zero_le _, by simp, rfl, rfl, HI0⟩
  case round =>
    clear HI0
    obtain ⟨k, pv, P, g, B, hkn, hPk, rfl, rfl, HI⟩ := hrel
    by_cases hkl : k < l.length
    · have hkl2 : (k : Int) < (l.length : Int) := by omega
      have hne : l ≠ [] := by intro e; rw [e] at hkl; simp at hkl
      have HLK := Hid.mk2 (HLNG.out l[k] (List.getElem_mem hkl) wr HI.out.vq.bel)
      have HKD := Hid.mk2 (HK.out l[k] (List.getElem_mem hkl))
      obtain ⟨b, off, elo, hbl, hcs⟩ := HL.out.tks hne
      obtain ⟨r0, r1, r2, r3, r4, r5, r6, r7, r8, r9, r10, r11⟩ := hcs k hkl
      obtain ⟨d, hd⟩ : ∃ d, d = l[k] := ⟨_, rfl⟩
      rw [← hd] at r0 r1 r2 r3 r4 r5 r6 r7 r8 r9 r10 r11 HLK HKD
      obtain ⟨t, ko, kc⟩ := d
      obtain ⟨num, kind, ⟨ckind, tenant, keys, value, flags, life, unique, by_⟩, ten, dest⟩ := t
      dsimp only at r0 r1 r2 r3 r4 r5 r6 r7 r8 r9 r10 r11 HLK HKD
      obtain ⟨G, hG⟩ : ∃ G, G = Cm.lg ⟨ckind, tenant, keys, value, flags, life, unique, by_⟩ := ⟨_, rfl⟩
      rw [← hG] at HLK
      unfold Cm.arr at HLK
      dsimp only at HLK
      subst elo
      have s0 := (HI.out.vq.bel.cell (p := ⟨b, off + k * 12, none⟩) hbl).trans r0
      have s1 := (HI.out.vq.bel.cell (p := ⟨b, off + k * 12 + 1, none⟩) hbl).trans r1
      have s2 := (HI.out.vq.bel.cell (p := ⟨b, off + k * 12 + 2, none⟩) hbl).trans r2
      have s3 := (HI.out.vq.bel.cell (p := ⟨b, off + k * 12 + 3, none⟩) hbl).trans r3
      have s4 := (HI.out.vq.bel.cell (p := ⟨b, off + k * 12 + 4, none⟩) hbl).trans r4
      have s5 := (HI.out.vq.bel.cell (p := ⟨b, off + k * 12 + 5, none⟩) hbl).trans r5
      have s6 := (HI.out.vq.bel.cell (p := ⟨b, off + k * 12 + 6, none⟩) hbl).trans r6
      have s7 := (HI.out.vq.bel.cell (p := ⟨b, off + k * 12 + 7, none⟩) hbl).trans r7
      have s8 := (HI.out.vq.bel.cell (p := ⟨b, off + k * 12 + 8, none⟩) hbl).trans r8
      have s9 := (HI.out.vq.bel.cell (p := ⟨b, off + k * 12 + 9, none⟩) hbl).trans r9
      have s10 := (HI.out.vq.bel.cell (p := ⟨b, off + k * 12 + 10, none⟩) hbl).trans r10
      have s11 := (HI.out.vq.bel.cell (p := ⟨b, off + k * 12 + 11, none⟩) hbl).trans r11
      have slt := Nat.lt_of_lt_of_le hbl HI.out.vq.bel.size
      clear hd hcs hne hG
      cases G
      case true =>
        go_wp2_with (go_at_call 15; refine HLK.out.mono ?_; rintro e w4 ⟨rfl, hb4⟩; have HB4 := Hid.mk2 hb4; clear hb4)
        go_ret
        exact ⟨rfl, g_on HI.out.vq.bel HB4.out⟩
      go_upto_region 11 with (go_at_call 15; refine HLK.out.mono ?_; rintro e w4 ⟨rfl, hb4⟩; have HB4 := Hid.mk2 hb4; clear hb4)
      have HI4 := Hid.mk2 (HI.out.on HB4.out)
      have x0 := HI4.out.vq.qb.c 0 (by simp)
      have x1 := HI4.out.vq.qb.c 1 (by simp)
      have xlt := HI4.out.vq.qb.lt
      simp only [List.getElem_cons_zero, List.getElem_cons_succ] at x0 x1
      have v0 := (HB4.out.cell (p := ⟨b, off + k * 12, none⟩) slt).trans s0
      have v1 := (HB4.out.cell (p := ⟨b, off + k * 12 + 1, none⟩) slt).trans s1
      have v2 := (HB4.out.cell (p := ⟨b, off + k * 12 + 2, none⟩) slt).trans s2
      have v3 := (HB4.out.cell (p := ⟨b, off + k * 12 + 3, none⟩) slt).trans s3
      have v4 := (HB4.out.cell (p := ⟨b, off + k * 12 + 4, none⟩) slt).trans s4
      have v5 := (HB4.out.cell (p := ⟨b, off + k * 12 + 5, none⟩) slt).trans s5
      have v6 := (HB4.out.cell (p := ⟨b, off + k * 12 + 6, none⟩) slt).trans s6
      have v7 := (HB4.out.cell (p := ⟨b, off + k * 12 + 7, none⟩) slt).trans s7
      have v8 := (HB4.out.cell (p := ⟨b, off + k * 12 + 8, none⟩) slt).trans s8
      have v9 := (HB4.out.cell (p := ⟨b, off + k * 12 + 9, none⟩) slt).trans s9
      have v10 := (HB4.out.cell (p := ⟨b, off + k * 12 + 10, none⟩) slt).trans s10
      have v11 := (HB4.out.cell (p := ⟨b, off + k * 12 + 11, none⟩) slt).trans s11
      have vlt := Nat.lt_of_lt_of_le slt HB4.out.size
      clear s0 s1 s2 s3 s4 s5 s6 s7 s8 s9 s10 s11 slt HLK
      cases hm : Tk.may ⟨num, kind, ⟨ckind, tenant, keys, value, flags, life, unique, by_⟩, ten, dest⟩
      case false =>
        have HPT : Hid (∀ X, Below w4.heap.size w4 X → _) := fun X (hX : Below w4.heap.size w4 X) => put_no B (some ⟨g, 0, none⟩) n n HI4.out.vq.len.symm (P.length : Int) HI4.out.vq.ok ⟨num, kind, ⟨ckind, tenant, keys, value, flags, life, unique, by_⟩, ten, dest⟩ hm ko kc keys.length rfl X (HI4.out.vq.rd.below hX) ((HKD.out.below HI4.out.vq.bel).below hX)
        unfold Tk.arr at HPT
        dsimp only at HPT
        clear hm
        go_cut [13, 14, 15] from 49 to 83 (fun s13 s14 s15 wx => s15 = .int .i64 8 ∧ Hid (Below w4.heap.size w4 wx))
        case first =>
          go_region_with (go_at_call 26; refine (HPT.out _ (by first | exact (Below.refl _ _).drew | exact (g_alloc _ _).drew | exact g_on (Below.refl _ _).drew (g_alloc _ _) | exact Below.refl _ _)).mono ?_; rintro e w6 ⟨rfl, hb6⟩; have HB6 : Hid (Below w4.heap.size w4 w6) := (by first | exact g_drew hb6 | exact g_behind (g_drew hb6) | exact g_drew (g_behind hb6) | exact hb6); (try (have HPB : Hid (GBx w6 w4.heap.size [.int .i64 0, .slice none 0 0]) := (by first | exact ((GBx.made w4 [.int .i64 0, .slice none 0 0] _).below (Below.refl _ _).drew).below hb6 | exact (GBx.made w4.drew [.int .i64 0, .slice none 0 0] _).below hb6 | exact (GBx.made w4 [.int .i64 0, .slice none 0 0] _).below hb6); have p0 := HPB.out.c 0 (by simp); have p1 := HPB.out.c 1 (by simp); have pf0 := HPB.out.f 0; have pf1 := HPB.out.f 1; have plt := HPB.out.lt; simp only [List.getElem_cons_zero, List.getElem_cons_succ] at p0 p1)); clear hb6)
          all_goals
            go_wp2_with fail
            go_meet
            case rel => first
              | exact ⟨rfl, g_on HB6.out (g_alloc _ _)⟩
              | exact ⟨rfl, (HB6.out.setCell (Nat.le_refl _) _).setCell (Nat.le_refl _) _⟩
        case rest =>
        obtain ⟨rfl, HB5⟩ := hcut
        clear x0 x1 xlt v0 v1 v2 v3 v4 v5 v6 v7 v8 v9 v10 v11 vlt HPT
        go_wp2
        go_roundw
        case rel => exact ⟨k + 1, _, P, g, B, by omega, by omega, by go_num, rfl, HI4.out.on HB5.out⟩
        case measure => simp [intOf]; omega
      have HPT : Hid (∀ X, Below w4.heap.size w4 X → Calls Try.prog 26 #[.agg #[.int .i64 (P.length : Int), .slice (some ⟨g, 0, none⟩) n n], .agg (Tk.arr ⟨num, kind, ⟨ckind, tenant, keys, value, flags, life, unique, by_⟩, ten, dest⟩ (.slice ko keys.length kc))] X fun e w' => ∃ g6 B6, e = .returned (.tuple #[.agg #[.int .i64 ((P.length : Int) + 1), .slice (some ⟨g6, 0, none⟩) n n], .int .i64 (P.length : Int), .int .i64 0]) ∧ X.heap.size ≤ g6 ∧ Qo w' X.heap.size g6 B6 ∧ dat B6 = putQ (dat B) ⟨(P.length : Int), kind, ⟨ckind, tenant, keys, value, flags, life, unique, by_⟩, ten, dest⟩ ∧ Below X.heap.size X w') := by
        intro X hX
        have h9 := put_ok B (some ⟨g, 0, none⟩) n n HI4.out.vq.len.symm (P.length : Int) HI4.out.vq.ok ⟨num, kind, ⟨ckind, tenant, keys, value, flags, life, unique, by_⟩, ten, dest⟩ hm (by omega) (fullIn_few (m := P.length) (by rw [HI4.out.vq.dt]; intro i; have := lineQ_few (n := n) (L := P.map Td.t) i; simpa using this) (by omega) _) ko kc keys.length rfl X (HI4.out.vq.rd.below hX) ((HKD.out.below HI4.out.vq.bel).below hX)
        rw [HI4.out.vq.len] at h9
        exact h9
      unfold Tk.arr at HPT
      dsimp only at HPT
      have HMY := Hid.mk2 hm
      clear hm
      go_cut [13, 14, 15] from 49 to 83 (fun s13 s14 s15 wx => ∃ Pb g6 B6, s13 = .pointer (some ⟨Pb, 0, none⟩) ∧ s14 = .int .i64 (P.length : Int) ∧ s15 = .int .i64 0 ∧ Hid (Below w4.heap.size w4 wx ∧ Qo wx w4.heap.size g6 B6 ∧ w4.heap.size ≤ g6 ∧ dat B6 = putQ (dat B) ⟨(P.length : Int), kind, ⟨ckind, tenant, keys, value, flags, life, unique, by_⟩, ten, dest⟩ ∧ GBx wx Pb [.int .i64 ((P.length : Int) + 1), .slice (some ⟨g6, 0, none⟩) n n] ∧ w4.heap.size ≤ Pb))
      case first =>
        go_region_with (go_at_call 26; refine (HPT.out _ (by first | exact (Below.refl _ _).drew | exact (g_alloc _ _).drew | exact g_on (Below.refl _ _).drew (g_alloc _ _) | exact Below.refl _ _)).mono ?_; rintro e w6 ⟨g6, B6, rfl, hg6, hq6, hd6, hb6⟩; have HB6 : Hid (Below w4.heap.size w4 w6) := (by first | exact g_drew hb6 | exact g_behind (g_drew hb6) | exact g_drew (g_behind hb6) | exact hb6); (try (have HPB : Hid (GBx w6 w4.heap.size [.int .i64 0, .slice none 0 0]) := (by first | exact ((GBx.made w4 [.int .i64 0, .slice none 0 0] _).below (Below.refl _ _).drew).below hb6 | exact (GBx.made w4.drew [.int .i64 0, .slice none 0 0] _).below hb6 | exact (GBx.made w4 [.int .i64 0, .slice none 0 0] _).below hb6); have p0 := HPB.out.c 0 (by simp); have p1 := HPB.out.c 1 (by simp); have pf0 := HPB.out.f 0; have pf1 := HPB.out.f 1; have plt := HPB.out.lt; simp only [List.getElem_cons_zero, List.getElem_cons_succ] at p0 p1)); have HG6 := Hid.mk2 hg6; have HQ6 := Hid.mk2 hq6; have HD6 := Hid.mk2 hd6; clear hb6 hg6 hq6 hd6)
        all_goals
          go_wp2_with fail
          go_meet
          case rel => first
            | exact ⟨w6.heap.size, g6, B6, rfl, rfl, rfl, g_on HB6.out (g_alloc _ _), HQ6.out.below (g_alloc _ _), HG6.out, HD6.out, GBx.made w6 [.int .i64 ((P.length : Int) + 1), .slice (some ⟨g6, 0, none⟩) n n] _, HB6.out.size⟩
            | exact ⟨w4.heap.size, g6, B6, rfl, rfl, rfl, (HB6.out.setCell (Nat.le_refl _) _).setCell (Nat.le_refl _) _, ((HQ6.out.other w4.heap.size 0 _ (by simp) (by have h9 := HG6.out; simp at h9; omega)).other w4.heap.size 1 _ (by simp) (by have h9 := HG6.out; simp at h9; omega)).down (by simp), by have h9 := HG6.out; simp at h9; omega, HD6.out, GBx.sets [.int .i64 ((P.length : Int) + 1), .slice (some ⟨g6, 0, none⟩) n n] HPB.out rfl, Nat.le_refl _⟩
      case rest =>
      obtain ⟨Pb, g6, B6, rfl, rfl, rfl, HC⟩ := hcut
      obtain ⟨w5, hw5⟩ : ∃ w5, w5 = wc := ⟨_, rfl⟩
      rw [← hw5] at HC ⊢
      have y0 := (HC.out.1.cell (p := ⟨b, off + k * 12, none⟩) vlt).trans v0
      have y1 := (HC.out.1.cell (p := ⟨b, off + k * 12 + 1, none⟩) vlt).trans v1
      have y2 := (HC.out.1.cell (p := ⟨b, off + k * 12 + 2, none⟩) vlt).trans v2
      have y3 := (HC.out.1.cell (p := ⟨b, off + k * 12 + 3, none⟩) vlt).trans v3
      have y4 := (HC.out.1.cell (p := ⟨b, off + k * 12 + 4, none⟩) vlt).trans v4
      have y5 := (HC.out.1.cell (p := ⟨b, off + k * 12 + 5, none⟩) vlt).trans v5
      have y6 := (HC.out.1.cell (p := ⟨b, off + k * 12 + 6, none⟩) vlt).trans v6
      have y7 := (HC.out.1.cell (p := ⟨b, off + k * 12 + 7, none⟩) vlt).trans v7
      have y8 := (HC.out.1.cell (p := ⟨b, off + k * 12 + 8, none⟩) vlt).trans v8
      have y9 := (HC.out.1.cell (p := ⟨b, off + k * 12 + 9, none⟩) vlt).trans v9
      have y10 := (HC.out.1.cell (p := ⟨b, off + k * 12 + 10, none⟩) vlt).trans v10
      have y11 := (HC.out.1.cell (p := ⟨b, off + k * 12 + 11, none⟩) vlt).trans v11
      have ylt := Nat.lt_of_lt_of_le vlt HC.out.1.size
      clear hw5 x0 x1 xlt v0 v1 v2 v3 v4 v5 v6 v7 v8 v9 v10 v11 vlt HPT
      go_upto_region 15 with (fail)
      obtain ⟨w6, hw6⟩ : ∃ w6, w6 = w5.alloc (.cells #[.int .i64 (P.length : Int), .int .u8 kind, .int .u8 ckind, .int .i64 tenant, .slice ko keys.length kc, .string value, .int .u32 flags, .int .i64 life, .int .u64 unique, .int .u64 by_, .int .i64 ten, .int .i64 dest] 68) := ⟨_, rfl⟩
      have HB6 : Hid (Below w5.heap.size w5 w6) := by rw [hw6]; exact g_alloc _ _
      have HT6 : Hid (GBx w6 w5.heap.size [.int .i64 (P.length : Int), .int .u8 kind, .int .u8 ckind, .int .i64 tenant, .slice ko keys.length kc, .string value, .int .u32 flags, .int .i64 life, .int .u64 unique, .int .u64 by_, .int .i64 ten, .int .i64 dest]) := by rw [hw6]; exact GBx.made w5 [.int .i64 (P.length : Int), .int .u8 kind, .int .u8 ckind, .int .i64 tenant, .slice ko keys.length kc, .string value, .int .u32 flags, .int .i64 life, .int .u64 unique, .int .u64 by_, .int .i64 ten, .int .i64 dest] _
      rw [← hw6]
      clear hw6 y0 y1 y2 y3 y4 y5 y6 y7 y8 y9 y10 y11 ylt
      have t0 := HT6.out.c 0 (by simp)
      have t1 := HT6.out.c 1 (by simp)
      have t2 := HT6.out.c 2 (by simp)
      have t3 := HT6.out.c 3 (by simp)
      have t4 := HT6.out.c 4 (by simp)
      have t5 := HT6.out.c 5 (by simp)
      have t6 := HT6.out.c 6 (by simp)
      have t7 := HT6.out.c 7 (by simp)
      have t8 := HT6.out.c 8 (by simp)
      have t9 := HT6.out.c 9 (by simp)
      have t10 := HT6.out.c 10 (by simp)
      have t11 := HT6.out.c 11 (by simp)
      simp only [List.getElem_cons_zero, List.getElem_cons_succ] at t0 t1 t2 t3 t4 t5 t6 t7 t8 t9 t10 t11
      have tlt := HT6.out.lt
      have HPR := Hid.mk2 ((HI4.out.vr.on HC.out.1).on HB6.out)
      have hws := HI4.out.vq.bel.size
      have hz6 : w.heap.size ≤ w6.heap.size := by have := HC.out.1.size; have := HB6.out.size; omega
      go_upto_region 16 with (at_builtin; refine g_one (w0 := w6) okT rfl _ _ _ rfl rfl w.heap.size _ P HPR.out.own rfl ⟨⟨(P.length : Int), kind, ⟨ckind, tenant, keys, value, flags, life, unique, by_⟩, ten, dest⟩, ko, kc⟩ rfl _ rfl rfl (by omega) hz6 ?_; intro v7 w7 hO7 hG7; have HO7 := Hid.mk2 hO7; have HG7 := Hid.mk2 hG7; clear hO7 hG7)
      have HIP := Hid.mk2 (HI4.out.put hn1 ⟨⟨(P.length : Int), kind, ⟨ckind, tenant, keys, value, flags, life, unique, by_⟩, ten, dest⟩, ko, kc⟩ HKD.out (by have h9 := HMY.out; exact h9) rfl (by omega) (Below.refl _ _) (g_on HC.out.1 HB6.out) (HC.out.2.1.below HB6.out) HC.out.2.2.1 HC.out.2.2.2.1 HO7.out HG7.out)
      have HPB7 : Hid (GBx w7 Pb [.int .i64 ((P.length : Int) + 1), .slice (some ⟨g6, 0, none⟩) n n]) := (HC.out.2.2.2.2.1.below HB6.out).grown HG7.out.grown (fun e => by have h9 := (HI4.out.vr.own.lt _ e).2; have h10 := HC.out.2.2.2.2.2; omega)
      have HQB7 : Hid (GBx w7 Qb [.int .i64 (P.length : Int), .slice (some ⟨g, 0, none⟩) n n]) := ((HI4.out.vq.qb.below HC.out.1).below HB6.out).grown HG7.out.grown HI4.out.vr.off
      have b0 := HPB7.out.c 0 (by simp)
      have b1 := HPB7.out.c 1 (by simp)
      have blt := HPB7.out.lt
      have q0 := HQB7.out.c 0 (by simp)
      have q1 := HQB7.out.c 1 (by simp)
      have qf0 := HQB7.out.f 0
      have qf1 := HQB7.out.f 1
      have qlt := HQB7.out.lt
      simp only [List.getElem_cons_zero, List.getElem_cons_succ] at b0 b1 q0 q1
      clear t0 t1 t2 t3 t4 t5 t6 t7 t8 t9 t10 t11 tlt
      go_wp2
      go_roundw
      case rel => exact ⟨k + 1, v7, _, g6, B6, by omega, by simp; omega, by go_num, rfl, HIP⟩
      case measure => simp [intOf]; omega
    · have hkl2 : ¬ ((k : Int) < (l.length : Int)) := by omega
      have HI2 := Hid.mk2 HI.out.start
      have HKP := Hid.mk2 HI.out.keys
      have HMP := Hid.mk2 HI.out.may
      have hP60 : P.length ≤ 60 := by omega
      obtain ⟨po, pc, hpv, -⟩ := HI.out.vr.own.rd okT
      subst hpv
      clear HI HLNG HL HK
      go_wp2
      go_loopw [11, 17] (fun tv i wr2 => ∃ (k : Nat) (T : List Td) (g : Nat) (B : List Bx) (U : List Tk) (uo : Option Addr) (uc : Nat), T.length = k ∧ i = .int .i64 k ∧ tv = .slice uo T.length uc ∧ Hid (L2 w wr2 n Qb g B (.slice po P.length pc) P (.slice uo T.length uc) T U)) (fun _ i _ => P.length - (intOf i).toNat)
      case atStart => exact ⟨0, [], _, _, _, none, 0, rfl, rfl, rfl, HI2⟩
      case round =>
        clear HI2
        obtain ⟨k2, T, g2, B2, U, uo, uc, hTk, rfl, rfl, HJ⟩ := hrel
        subst hTk
        by_cases hkl3 : (T.length : Int) < (P.length : Int)
        · have hU : U ≠ [] := by
            intro e
            have h9 := HJ.out.go.len
            rw [e] at h9
            simp at h9
            omega
          have HRD := Hid.mk2 (ready_any B2 (some ⟨g2, 0, none⟩) n n HJ.out.vq.len.symm (P.length : Int) wr HJ.out.vq.rd)
          rw [ckQ_ok HJ.out.vq.ok, if_pos rfl] at HRD
          have HMU : Hid (∀ u ∈ U, u.may = true) := fun u hu => by
            obtain ⟨d, hd, rfl⟩ := List.mem_map.1 (HJ.out.go.uP u hu)
            exact HMP.out d hd
          have hRne : rdyL (dat B2) ≠ [] := by rw [HJ.out.vq.dt]; exact Going.calm HJ.out.go.up HMU.out hn0 hn1 hU
          have HRA := Hid.mk2 (fun a (ha : a < (rdyL (dat B2)).length) => rdyL_at (n := n) (by rw [dat_len]; exact HJ.out.vq.len) ha)
          have hRl : (rdyL (dat B2)).length ≤ 4 := by have := rdyL_len (dat B2); rw [dat_len, HJ.out.vq.len] at this; omega
          obtain ⟨R, hR⟩ : ∃ R, R = rdyL (dat B2) := ⟨_, rfl⟩
          have HRR : Hid (R = rdyL (dat B2)) := hR
          rw [← hR] at HRD hRne HRA hRl
          have hR1 : 0 < R.length := List.length_pos_iff.2 hRne
          have hR2 : ¬ ((R.length : Int) = 0) := by omega
          have hR3 : ((R.length : Int) == 0) = false := by simpa using hRne
          clear hR hU hRne
          have x0 := HJ.out.vq.qb.c 0 (by simp)
          have x1 := HJ.out.vq.qb.c 1 (by simp)
          have xlt := HJ.out.vq.qb.lt
          simp only [List.getElem_cons_zero, List.getElem_cons_succ] at x0 x1
          go_upto_if 105 with (go_at_call 30; refine HRD.out.mono ?_; rintro e w4 ⟨v4, rfl, hO4, hb4⟩; obtain ⟨ro, rc, hv4, hr4⟩ := hO4.rd okI; subst hv4; have HB4 := Hid.mk2 hb4; have HR4 := Hid.mk2 hr4; clear hO4 hb4 hr4)
          clear x0 x1 xlt HRD
          go_cut [20] from 84 to 133 (fun s20 wx => ∃ a : Nat, s20 = .int .i64 a ∧ a < R.length ∧ wx = w4)
          case first =>
            by_cases hs0 : sl = []
            · subst hs0
              go_wp2
              go_meet
              case rel => exact ⟨0, rfl, hR1, rfl⟩
            have hs2 : 0 < sl.length := List.length_pos_iff.2 hs0
            have hs1 : (0 : Int) < (sl.length : Int) := by omega
            have hs3 : ¬ ((sl.length : Int) = 0) := by omega
            obtain ⟨sb, sof, rfl, hsb, hsc⟩ := HS.out.byte hs0
            have hm : Int.tmod (T.length : Int) (sl.length : Int) = ((T.length % sl.length : Nat) : Int) := (Int.ofNat_tmod T.length sl.length).symm
            have hml : T.length % sl.length < sl.length := Nat.mod_lt _ hs2
            have HBW : Hid (Below w.heap.size w w4) := g_on HJ.out.vq.bel HB4.out
            have c0 := (HBW.out.cell (p := ⟨sb, sof + T.length % sl.length, none⟩) hsb).trans (hsc _ hml)
            have clt := Nat.lt_of_lt_of_le hsb HBW.out.size
            obtain ⟨x, hx, hx2⟩ : ∃ x : Nat, sl[T.length % sl.length] = (x : Int) ∧ x ≤ 255 := by
              have h9 := HSB.out _ (List.getElem_mem hml)
              exact ⟨(sl[T.length % sl.length]).toNat, by omega, by omega⟩
            rw [hx] at c0
            have hx3 : (x : Int) ≤ 255 := by omega
            have hm2 : Int.tmod (x : Int) (R.length : Int) = ((x % R.length : Nat) : Int) := (Int.ofNat_tmod x R.length).symm
            have hml2 : x % R.length < R.length := Nat.mod_lt _ hR1
            clear hx hsc
            go_wp2
            go_meet
            case rel => exact ⟨x % R.length, rfl, hml2, rfl⟩
          case rest =>
          obtain ⟨a, rfl, haR, hwc⟩ := hcut
          subst wc
          clear hR1 hR2 hR3
          obtain ⟨i, hiR, hin, hri⟩ := HRA.out a haR
          obtain ⟨rb, rof, rfl, hrb, hrc⟩ := HR4.out.int (by intro e; rw [e] at haR; simp at haR)
          have c0 := hrc a haR
          rw [hiR] at c0
          obtain ⟨t, tl, hbx⟩ := rdy_cons hri
          have HBX := Hid.mk2 hbx
          have HRI := Hid.mk2 hri
          have HTK : Hid (∀ X, Below w4.heap.size w4 X → Calls Try.prog 29 #[.agg #[.int .i64 (P.length : Int), .slice (some ⟨g2, 0, none⟩) n n], .int .i64 i] X fun e w' => ∃ g6 B6 ko kc, e = .returned (.tuple #[.agg #[.int .i64 (P.length : Int), .slice (some ⟨g6, 0, none⟩) n n], .agg (t.arr (.slice ko t.c.keys.length kc)), .int .i64 0]) ∧ X.heap.size ≤ g6 ∧ Qo w' X.heap.size g6 B6 ∧ GOwn ES w' X.heap.size (.slice ko t.c.keys.length kc) t.c.keys ∧ dat B6 = takeQ (dat B2) t ∧ Below X.heap.size X w') := by
            intro X hX
            have h9 := take_ok B2 (some ⟨g2, 0, none⟩) n n HJ.out.vq.len.symm (P.length : Int) HJ.out.vq.ok i (by rw [HJ.out.vq.len]; exact hin) hri X ((HJ.out.vq.rd.below HB4.out).below hX)
            rw [HJ.out.vq.len] at h9
            refine h9.mono ?_
            rintro e w' ⟨g6, B6, t', l', ko, kc, rfl, hg, hqo, hk, he, hd, hb⟩
            rw [HBX.out] at he
            obtain ⟨rfl, rfl⟩ := List.cons.inj he
            exact ⟨g6, B6, ko, kc, rfl, hg, hqo, hk, hd, hb⟩
          clear hrc hbx hri HRA HR4
          have HJ4 := Hid.mk2 (HJ.out.on HB4.out)
          obtain ⟨tt, htt⟩ : ∃ tt, tt = t := ⟨_, rfl⟩
          have HTT := Hid.mk2 htt
          rw [← htt] at HBX
          clear htt
          obtain ⟨num, kind, ⟨ckind, tenant, keys, value, flags, life, unique, by_⟩, ten, dest⟩ := t
          unfold Tk.arr at HTK
          dsimp only at HTK
          have x0 := HJ4.out.vq.qb.c 0 (by simp)
          have x1 := HJ4.out.vq.qb.c 1 (by simp)
          have xlt := HJ4.out.vq.qb.lt
          simp only [List.getElem_cons_zero, List.getElem_cons_succ] at x0 x1
          go_upto_region 26 with fail
          have HSW : Hid (∀ W, Below w4.heap.size w4 W → W.cell? ⟨Qb, 0, none⟩ = some (.int .i64 (P.length : Int)) ∧ W.cell? ⟨Qb, 1, none⟩ = some (.slice (some ⟨g2, 0, none⟩) n n) ∧ W.cell? ⟨rb, rof + a, none⟩ = some (.int .i64 (i : Int))) := fun W hW => ⟨(hW.cell (p := ⟨Qb, 0, none⟩) xlt).trans x0, (hW.cell (p := ⟨Qb, 1, none⟩) xlt).trans x1, (hW.cell (p := ⟨rb, rof + a, none⟩) hrb).trans c0⟩
          go_cut [21, 22, 23] from 84 to 133 (fun s21 s22 s23 wx => ∃ Pb Ub g6 B6 ko kc, s21 = .pointer (some ⟨Pb, 0, none⟩) ∧ s22 = .pointer (some ⟨Ub, 0, none⟩) ∧ s23 = .int .i64 0 ∧ Hid (Tkn w4 wx Pb Ub g6 B6 [.int .i64 (P.length : Int), .slice (some ⟨g6, 0, none⟩) n n] [.int .i64 num, .int .u8 kind, .int .u8 ckind, .int .i64 tenant, .slice ko keys.length kc, .string value, .int .u32 flags, .int .i64 life, .int .u64 unique, .int .u64 by_, .int .i64 ten, .int .i64 dest] (.slice ko keys.length kc) keys ∧ dat B6 = takeQ (dat B2) ⟨num, kind, ⟨ckind, tenant, keys, value, flags, life, unique, by_⟩, ten, dest⟩))
          case first =>
            go_region_held3 (fun W => W.cell? ⟨Qb, 0, none⟩ = some (.int .i64 (P.length : Int)) ∧ W.cell? ⟨Qb, 1, none⟩ = some (.slice (some ⟨g2, 0, none⟩) n n) ∧ W.cell? ⟨rb, rof + a, none⟩ = some (.int .i64 (i : Int))) (exact HSW.out _ (by repeat' (first | with_reducible exact HB6.out | with_reducible exact Below.refl _ _ | with_reducible refine Below.drew ?_ | with_reducible refine Below.setCell ?_ ?_ _ | with_reducible refine g_on ?_ (g_alloc _ _) | exact Nat.le_refl _ | exact Nat.le_succ _ | (have h9 := HB6.out.size; omega))))
              (first
              | (go_at_call 29; refine (HTK.out _ (by first | exact (Below.refl _ _).drew | exact (g_alloc _ _).drew | exact (g_on (g_alloc _ _) (g_alloc _ _)).drew)).mono ?_; rintro e w6 ⟨g6, B6, ko, kc, rfl, hg6, hq6, hk6, hd6, hb6⟩; have HB6 : Hid (Below w4.heap.size w4 w6) := (by first | exact g_drew hb6 | exact g_behind (g_drew hb6) | exact g_behind (g_behind (g_drew hb6))); (try (have HPB : Hid (GBx w6 w4.heap.size [.int .i64 0, .slice none 0 0]) := (by first | exact ((GBx.made w4 [.int .i64 0, .slice none 0 0] _).below (Below.refl _ _).drew).below hb6 | exact (((GBx.made w4 [.int .i64 0, .slice none 0 0] _).alloc _).below (Below.refl _ _).drew).below hb6); have p0 := HPB.out.c 0 (by simp); have pf0 := HPB.out.f 0; have p1 := HPB.out.c 1 (by simp); have pf1 := HPB.out.f 1; have plt := HPB.out.lt; simp only [List.getElem_cons_zero, List.getElem_cons_succ] at p0 p1)); (try (have HTB : Hid (GBx w6 (w4.heap.size + 1) [.int .i64 0, .int .u8 0, .int .u8 0, .int .i64 0, .slice none 0 0, .string ⟨#[]⟩, .int .u32 0, .int .i64 0, .int .u64 0, .int .u64 0, .int .i64 0, .int .i64 0]) := (by have h9 := GBx.made (w4.alloc (.cells #[.int .i64 0, .slice none 0 0] 62)) [.int .i64 0, .int .u8 0, .int .u8 0, .int .i64 0, .slice none 0 0, .string ⟨#[]⟩, .int .u32 0, .int .i64 0, .int .u64 0, .int .u64 0, .int .i64 0, .int .i64 0] 68; rw [show (w4.alloc (.cells #[.int .i64 0, .slice none 0 0] 62)).heap.size = w4.heap.size + 1 by simp] at h9; exact (h9.below (Below.refl _ _).drew).below hb6); have z0 := HTB.out.c 0 (by simp); have zf0 := HTB.out.f 0; have z1 := HTB.out.c 1 (by simp); have zf1 := HTB.out.f 1; have z2 := HTB.out.c 2 (by simp); have zf2 := HTB.out.f 2; have z3 := HTB.out.c 3 (by simp); have zf3 := HTB.out.f 3; have z4 := HTB.out.c 4 (by simp); have zf4 := HTB.out.f 4; have z5 := HTB.out.c 5 (by simp); have zf5 := HTB.out.f 5; have z6 := HTB.out.c 6 (by simp); have zf6 := HTB.out.f 6; have z7 := HTB.out.c 7 (by simp); have zf7 := HTB.out.f 7; have z8 := HTB.out.c 8 (by simp); have zf8 := HTB.out.f 8; have z9 := HTB.out.c 9 (by simp); have zf9 := HTB.out.f 9; have z10 := HTB.out.c 10 (by simp); have zf10 := HTB.out.f 10; have z11 := HTB.out.c 11 (by simp); have zf11 := HTB.out.f 11; have zlt := HTB.out.lt; simp only [List.getElem_cons_zero, List.getElem_cons_succ] at z0 z1 z2 z3 z4 z5 z6 z7 z8 z9 z10 z11)); (try (have HTB : Hid (GBx w6 w4.heap.size [.int .i64 0, .int .u8 0, .int .u8 0, .int .i64 0, .slice none 0 0, .string ⟨#[]⟩, .int .u32 0, .int .i64 0, .int .u64 0, .int .u64 0, .int .i64 0, .int .i64 0]) := (by first | exact ((GBx.made w4 [.int .i64 0, .int .u8 0, .int .u8 0, .int .i64 0, .slice none 0 0, .string ⟨#[]⟩, .int .u32 0, .int .i64 0, .int .u64 0, .int .u64 0, .int .i64 0, .int .i64 0] _).below (Below.refl _ _).drew).below hb6 | exact (((GBx.made w4 [.int .i64 0, .int .u8 0, .int .u8 0, .int .i64 0, .slice none 0 0, .string ⟨#[]⟩, .int .u32 0, .int .i64 0, .int .u64 0, .int .u64 0, .int .i64 0, .int .i64 0] _).alloc _).below (Below.refl _ _).drew).below hb6); have z0 := HTB.out.c 0 (by simp); have zf0 := HTB.out.f 0; have z1 := HTB.out.c 1 (by simp); have zf1 := HTB.out.f 1; have z2 := HTB.out.c 2 (by simp); have zf2 := HTB.out.f 2; have z3 := HTB.out.c 3 (by simp); have zf3 := HTB.out.f 3; have z4 := HTB.out.c 4 (by simp); have zf4 := HTB.out.f 4; have z5 := HTB.out.c 5 (by simp); have zf5 := HTB.out.f 5; have z6 := HTB.out.c 6 (by simp); have zf6 := HTB.out.f 6; have z7 := HTB.out.c 7 (by simp); have zf7 := HTB.out.f 7; have z8 := HTB.out.c 8 (by simp); have zf8 := HTB.out.f 8; have z9 := HTB.out.c 9 (by simp); have zf9 := HTB.out.f 9; have z10 := HTB.out.c 10 (by simp); have zf10 := HTB.out.f 10; have z11 := HTB.out.c 11 (by simp); have zf11 := HTB.out.f 11; have zlt := HTB.out.lt; simp only [List.getElem_cons_zero, List.getElem_cons_succ] at z0 z1 z2 z3 z4 z5 z6 z7 z8 z9 z10 z11)); (try (have HPB : Hid (GBx w6 (w4.heap.size + 1) [.int .i64 0, .slice none 0 0]) := (by have h9 := GBx.made (w4.alloc (.cells #[.int .i64 0, .int .u8 0, .int .u8 0, .int .i64 0, .slice none 0 0, .string ⟨#[]⟩, .int .u32 0, .int .i64 0, .int .u64 0, .int .u64 0, .int .i64 0, .int .i64 0] 68)) [.int .i64 0, .slice none 0 0] 62; rw [show (w4.alloc (.cells #[.int .i64 0, .int .u8 0, .int .u8 0, .int .i64 0, .slice none 0 0, .string ⟨#[]⟩, .int .u32 0, .int .i64 0, .int .u64 0, .int .u64 0, .int .i64 0, .int .i64 0] 68)).heap.size = w4.heap.size + 1 by simp] at h9; exact (h9.below (Below.refl _ _).drew).below hb6); have p0 := HPB.out.c 0 (by simp); have pf0 := HPB.out.f 0; have p1 := HPB.out.c 1 (by simp); have pf1 := HPB.out.f 1; have plt := HPB.out.lt; simp only [List.getElem_cons_zero, List.getElem_cons_succ] at p0 p1)); have HG6 := Hid.mk2 hg6; have HQ6 := Hid.mk2 hq6; have HK6 := Hid.mk2 hk6; have HD6 := Hid.mk2 hd6; clear hb6 hg6 hq6 hk6 hd6))
            all_goals
              go_wp2_with fail
              go_meet
              case rel => first
                | (have hA := HPB; have hB := HTB; have h9 := Tkn.early HB6.out (by simp; try omega) HQ6.out HG6.out HK6.out HPB.out HTB.out (by omega) (by omega) (by omega) (by simp; try omega) (by simp; try omega) [.int .i64 (P.length : Int), .slice (some ⟨g6, 0, none⟩) n n] [.int .i64 num, .int .u8 kind, .int .u8 ckind, .int .i64 tenant, .slice ko keys.length kc, .string value, .int .u32 flags, .int .i64 life, .int .u64 unique, .int .u64 by_, .int .i64 ten, .int .i64 dest] rfl rfl; exact ⟨_, _, g6, B6, ko, kc, rfl, rfl, rfl, h9, HD6.out⟩)
                | (have hA := HPB; have h9 := Tkn.mid HB6.out (by simp) HQ6.out HG6.out HK6.out HPB.out (Nat.le_refl _) (by simp) [.int .i64 (P.length : Int), .slice (some ⟨g6, 0, none⟩) n n] [.int .i64 num, .int .u8 kind, .int .u8 ckind, .int .i64 tenant, .slice ko keys.length kc, .string value, .int .u32 flags, .int .i64 life, .int .u64 unique, .int .u64 by_, .int .i64 ten, .int .i64 dest] rfl 68; exact ⟨_, _, g6, B6, ko, kc, rfl, rfl, rfl, h9, HD6.out⟩)
                | (have hB := HTB; have h9 := Tkn.mid2 HB6.out (by simp) HQ6.out HG6.out HK6.out HTB.out (Nat.le_refl _) (by simp) [.int .i64 (P.length : Int), .slice (some ⟨g6, 0, none⟩) n n] [.int .i64 num, .int .u8 kind, .int .u8 ckind, .int .i64 tenant, .slice ko keys.length kc, .string value, .int .u32 flags, .int .i64 life, .int .u64 unique, .int .u64 by_, .int .i64 ten, .int .i64 dest] rfl 62; exact ⟨_, _, g6, B6, ko, kc, rfl, rfl, rfl, h9, HD6.out⟩)
                | (have h9 := Tkn.late HB6.out (by simp) HQ6.out HG6.out HK6.out [.int .i64 (P.length : Int), .slice (some ⟨g6, 0, none⟩) n n] [.int .i64 num, .int .u8 kind, .int .u8 ckind, .int .i64 tenant, .slice ko keys.length kc, .string value, .int .u32 flags, .int .i64 life, .int .u64 unique, .int .u64 by_, .int .i64 ten, .int .i64 dest] 62 68; exact ⟨_, _, g6, B6, ko, kc, rfl, rfl, rfl, h9, HD6.out⟩)
                | (have h9 := Tkn.late2 HB6.out (by simp) HQ6.out HG6.out HK6.out [.int .i64 (P.length : Int), .slice (some ⟨g6, 0, none⟩) n n] [.int .i64 num, .int .u8 kind, .int .u8 ckind, .int .i64 tenant, .slice ko keys.length kc, .string value, .int .u32 flags, .int .i64 life, .int .u64 unique, .int .u64 by_, .int .i64 ten, .int .i64 dest] 62 68; exact ⟨_, _, g6, B6, ko, kc, rfl, rfl, rfl, h9, HD6.out⟩)
          case rest =>
          obtain ⟨Pb, Ub, g6, B6, ko, kc, rfl, rfl, rfl, HC⟩ := hcut
          clear x0 x1 xlt c0 HTK HSW hrb
          have t0 := HC.out.1.ub.c 0 (by simp)
          have t1 := HC.out.1.ub.c 1 (by simp)
          have t2 := HC.out.1.ub.c 2 (by simp)
          have t3 := HC.out.1.ub.c 3 (by simp)
          have t4 := HC.out.1.ub.c 4 (by simp)
          have t5 := HC.out.1.ub.c 5 (by simp)
          have t6 := HC.out.1.ub.c 6 (by simp)
          have t7 := HC.out.1.ub.c 7 (by simp)
          have t8 := HC.out.1.ub.c 8 (by simp)
          have t9 := HC.out.1.ub.c 9 (by simp)
          have t10 := HC.out.1.ub.c 10 (by simp)
          have t11 := HC.out.1.ub.c 11 (by simp)
          have tlt := HC.out.1.ub.lt
          simp only [List.getElem_cons_zero, List.getElem_cons_succ] at t0 t1 t2 t3 t4 t5 t6 t7 t8 t9 t10 t11
          have HTR := Hid.mk2 (HJ4.out.vt.on HC.out.1.bel)
          have hws := HJ4.out.vq.bel.size
          have hz6 : w.heap.size ≤ wc.heap.size := by have := HC.out.1.bel.size; omega
          have hT60 : T.length ≤ 60 := by omega
          go_upto_region 30 with (at_builtin; refine g_one (w0 := wc) okT rfl _ _ _ rfl rfl w.heap.size _ T HTR.out.own rfl ⟨⟨num, kind, ⟨ckind, tenant, keys, value, flags, life, unique, by_⟩, ten, dest⟩, ko, kc⟩ rfl _ rfl rfl (by omega) hz6 ?_; intro v7 w7 hO7 hG7; obtain ⟨uo7, uc7, hv7, -⟩ := hO7.rd okT; subst hv7; have HO7 := Hid.mk2 hO7; have HG7 := Hid.mk2 hG7; clear hO7 hG7)
          have HIP := Hid.mk2 (HJ4.out.step hn1 ⟨⟨num, kind, ⟨ckind, tenant, keys, value, flags, life, unique, by_⟩, ten, dest⟩, ko, kc⟩ hin (by have h9 := HBX.out; rw [HTT.out] at h9; exact h9) HRI.out (Below.refl _ _) HC.out.1.bel HC.out.1.q HC.out.1.g0 HC.out.2 HC.out.1.keys HO7.out HG7.out)
          have HPB7 : Hid (GBx w7 Pb [.int .i64 (P.length : Int), .slice (some ⟨g6, 0, none⟩) n n]) := HC.out.1.pb.grown HG7.out.grown (fun e => by have h9 := (HJ4.out.vt.own.lt _ e).2; have h10 := HC.out.1.p0; omega)
          have HQB7 : Hid (GBx w7 Qb [.int .i64 (P.length : Int), .slice (some ⟨g2, 0, none⟩) n n]) := (HJ4.out.vq.qb.below HC.out.1.bel).grown HG7.out.grown HJ4.out.vt.off
          have b0 := HPB7.out.c 0 (by simp)
          have b1 := HPB7.out.c 1 (by simp)
          have blt := HPB7.out.lt
          have q0 := HQB7.out.c 0 (by simp)
          have q1 := HQB7.out.c 1 (by simp)
          have qf0 := HQB7.out.f 0
          have qf1 := HQB7.out.f 1
          have qlt := HQB7.out.lt
          simp only [List.getElem_cons_zero, List.getElem_cons_succ] at b0 b1 q0 q1
          clear t0 t1 t2 t3 t4 t5 t6 t7 t8 t9 t10 t11 tlt
          go_wp2
          go_roundw
          case rel => exact ⟨T.length + 1, T ++ [⟨⟨num, kind, ⟨ckind, tenant, keys, value, flags, life, unique, by_⟩, ten, dest⟩, ko, kc⟩], g6, B6, rest U _, uo7, uc7, by simp, by go_num, by first | rfl | simp, HIP⟩
          case measure => simp [intOf]; omega
        · have hU : U = [] := by
            have h9 := HJ.out.go.len
            simp at h9
            exact List.length_eq_zero_iff.1 (by omega)
          subst hU
          have HRD := Hid.mk2 (ready_any B2 (some ⟨g2, 0, none⟩) n n HJ.out.vq.len.symm (P.length : Int) wr HJ.out.vq.rd)
          rw [ckQ_ok HJ.out.vq.ok, if_pos rfl, HJ.out.vq.dt, rdyL_nil] at HRD
          have HOR : Hid (∀ X, Below wr.heap.size wr X → Calls Try.prog 46 #[.slice po P.length pc, .slice uo T.length uc, .int .i64 n] X fun e w' => e = .returned (.bool true) ∧ Below X.heap.size X w') := fun X hX =>
            orderly_ok n hn0 hn1 P T (HJ.out.go.inOrder HMP.out) po uo pc uc (by have h9 := HJ.out.go.len; simp at h9; omega) X ((HJ.out.vp.own.rdOf okT).below hX) ((HJ.out.vt.own.rdOf okT).below hX) (fun d hd => ((HKP.out d hd).below HJ.out.vq.bel).below hX) (fun d hd => ((HJ.out.vk.own d hd).rdOf okS).below hX)
          have x0 := HJ.out.vq.qb.c 0 (by simp)
          have x1 := HJ.out.vq.qb.c 1 (by simp)
          have xlt := HJ.out.vq.qb.lt
          simp only [List.getElem_cons_zero, List.getElem_cons_succ] at x0 x1
          go_wp2_with (first
            | (go_at_call 30; refine HRD.out.mono ?_; rintro e w4 ⟨v4, rfl, hO4, hb4⟩; obtain ⟨ro, rc, hv4, -⟩ := hO4.rd okI; subst hv4; have HB4 := Hid.mk2 hb4; clear hO4 hb4)
            | (go_at_call 46; refine (HOR.out w4 HB4.out).mono ?_; rintro e w5 ⟨rfl, hb5⟩; have HB5 := Hid.mk2 hb5; clear hb5))
          go_ret
          exact ⟨rfl, g_on HJ.out.vq.bel (g_on HB4.out HB5.out)⟩
end Go.Proofs.Ytpnmokmadbapoaa
