/-
  resultBody of package packed.
-/
import Derived.Test.YtfjcaofmcjhdpaaPkB
import Derived.Test.YtfjcaofmcjhdpaaWoC
namespace Go.Proofs.Ytfjcaofmcjhdpaa
open Go.Proofs.Ytfjcaofmcjhdpaa.It
open Go.RowKit
set_option linter.unusedSimpArgs false
set_option linter.unusedVariables false
set_option maxRecDepth 100000

theorem pu64w {x : Int} (h0 : 0 ≤ x) (h1 : x < 18446744073709551616) : IntKind.u64.wrap x = x := by
  have e : IntKind.u64.wrap x = x % 18446744073709551616 := rfl
  rw [e]; omega
theorem below_le {w v : World} (h : Below w.heap.size w v) : w.heap.size ≤ v.heap.size := h.size
/-- an item that may be -/
structure Im.good (x : Im) : Prop where
  key : x.key.size ≤ 32
  val : x.value.size ≤ 512
  till : 0 ≤ x.till ∧ x.till ≤ 1099511627776
  flags : 0 ≤ x.flags ∧ x.flags < 4294967296
  uniq : 0 ≤ x.unique ∧ x.unique < 18446744073709551616
theorem text_len' (l : List UInt8) : (text l).length ≤ 10 + l.length := by
  unfold text
  rw [List.length_append]
  have := small_len l.length
  omega
theorem pb_len {x : Im} (h : x.good) : x.pb.length ≤ 600 := by
  unfold Im.pb
  simp only [List.length_append]
  have h1 := text_len' (bl1 x.key)
  have h2 := text_len' (bl1 x.value)
  have h3 : (bl1 x.key).length = x.key.size := by unfold bl1; exact Array.length_toList
  have h4 : (bl1 x.value).length = x.value.size := by unfold bl1; exact Array.length_toList
  have h5 := small_len x.flags.toNat
  have h6 := small_len x.till.toNat
  have h7 := small_len x.unique.toNat
  have := h.key
  have := h.val
  omega
theorem pbs_len : ∀ L : List Im, (∀ x ∈ L, x.good) → (L.flatMap Im.pb).length ≤ L.length * 600
  | [], _ => by simp
  | a :: t, h => by
    have h1 := pb_len (h a (by simp))
    have h2 := pbs_len t (fun x hx => h x (by simp [hx]))
    rw [List.flatMap_cons, List.length_append, List.length_cons, Nat.add_mul]
    omega
/-- what resultBody makes -/
def resB (c d : UInt8) (num : Int) (L : List Im) : List UInt8 := c :: d :: (small num.toNat ++ (small L.length ++ L.flatMap Im.pb))
set_option maxHeartbeats 4000000 in
theorem resultBody_any (c d : UInt8) (io : Option Addr) (L : List Im) (ic : Nat) (num : Int) (w : World) (hi : GRd EM w io L ic) (hn0 : 0 ≤ num) (hn1 : num < 18446744073709551616) (hL : L.length ≤ 8) (hg : ∀ x ∈ L, x.good) :
    Calls Try.prog 27 #[.int .u8 (c.toNat : Int), .agg #[.int .u8 (d.toNat : Int), .slice io L.length ic, .int .u64 num]] w fun e w' => ∃ p : Pt, e = .returned p.v ∧ p.l = resB c d num L ∧ GRd EY w' p.o p.l p.c ∧ Below w.heap.size w w' := by
  obtain ⟨N, hN⟩ : ∃ N, N = L.length := ⟨_, rfl⟩
  rw [← hN] at hL ⊢
  have HN := Hid.mk2 hN
  obtain ⟨W, hW⟩ : ∃ W, W = w.alloc (.cells #[.int .u8 (d.toNat : Int), .slice io N ic, .int .u64 num] 29) := ⟨_, rfl⟩
  have HB : Hid (Below w.heap.size w W) := by rw [hW]; exact g_alloc _ _
  have HX : Hid (GBx W w.heap.size [.int .u8 (d.toNat : Int), .slice io N ic, .int .u64 num]) := by rw [hW]; exact GBx.made w [.int .u8 (d.toNat : Int), .slice io N ic, .int .u64 num] _
  have HI := Hid.mk2 (fun V (hV : Below w.heap.size w V) => hi.below hV)
  have HG := Hid.mk2 hg
  have hNi : (N : Int) ≤ 8 := by omega
  have hwn : IntKind.u64.wrap (N : Int) = (N : Int) := pu64w (by omega) (by omega)
  have HS1 := Hid.mk2 (fun V => pk_small num.toNat V (show num.toNat < 18446744073709551616 by omega))
  rw [Int.toNat_of_nonneg hn0] at HS1
  have HS2 := Hid.mk2 (fun V => pk_small N V (show N < 18446744073709551616 by omega))
  have HSW : Hid (∀ V, Below W.heap.size W V → V.cell? ⟨w.heap.size, 0, none⟩ = some (.int .u8 (d.toNat : Int)) ∧ V.cell? ⟨w.heap.size, 1, none⟩ = some (.slice io N ic) ∧ V.cell? ⟨w.heap.size, 2, none⟩ = some (.int .u64 num)) := by
    intro V hV
    have h := HX.out.below hV
    exact ⟨h.c 0 (by simp), h.c 1 (by simp), h.c 2 (by simp)⟩
  have HNW : Hid (w.heap.size < W.heap.size) := HX.out.lt
  have HND : Hid (∀ V : World, GRd EY (V.alloc (.cells #[.int .u8 (c.toNat : Int), .int .u8 (d.toNat : Int)] 5)) (some ⟨V.heap.size, 0, none⟩) [c, d] 2) := fun V => g_news okY V [c, d] [.int .u8 (c.toNat : Int), .int .u8 (d.toNat : Int)] rfl (by simp)
  obtain ⟨sn, hsn⟩ : ∃ sn, sn = small num.toNat := ⟨_, rfl⟩
  obtain ⟨sl, hsl⟩ : ∃ sl, sl = small N := ⟨_, rfl⟩
  have HLN : Hid (sn.length ≤ 10 ∧ sl.length ≤ 10) := by rw [hsn, hsl]; exact ⟨small_len _, small_len _⟩
  have HRB : Hid (resB c d num L = (c :: d :: (sn ++ sl)) ++ L.flatMap Im.pb) := by
    show _ = _
    unfold resB
    rw [hsn, hsl, hN]
    simp
  rw [← hsn] at HS1
  rw [← hsl] at HS2
  obtain ⟨RB, hRB⟩ : ∃ RB, RB = resB c d num L := ⟨_, rfl⟩
  rw [← hRB] at HRB ⊢
  clear hi hg hn0 hn1 hN hRB hsn hsl
  go_enter Try.func27, Try.ntmps27
  go_upto_region 1 with (fail)
  rw [← hW]
  clear hW
  go_cut [5] from 6 (fun s5 wx => Hid (GOwn EY wx W.heap.size s5 (c :: d :: (sn ++ sl)) ∧ Below W.heap.size W wx))
  case first =>
    go_region_held3 (fun V => V.cell? ⟨w.heap.size, 0, none⟩ = some (.int .u8 (d.toNat : Int)) ∧ V.cell? ⟨w.heap.size, 1, none⟩ = some (.slice io N ic) ∧ V.cell? ⟨w.heap.size, 2, none⟩ = some (.int .u64 num)) (exact HSW.out _ (by repeat' (first | with_reducible exact HB3.out | with_reducible exact HB2.out | with_reducible exact HB1.out | with_reducible exact Below.refl _ _ | with_reducible refine Below.drew ?_ | with_reducible refine g_on ?_ (g_alloc _ _))))
      (first
      | (have h9 := HB1; go_at_call 42; (try rw [hwn]); refine (HS2.out _).mono ?_; rintro e w2 ⟨o2, l2, c2, rfl, hl2, hr2, hx2, hb2⟩; have HB2 : Hid (Below W.heap.size W w2) := g_on (by repeat' (first | with_reducible exact HB1.out | with_reducible exact Below.refl _ _ | with_reducible refine Below.drew ?_ | with_reducible refine g_on ?_ (g_alloc _ _))) hb2; have HA2 := Hid.mk2 hb2; have HR2 := Hid.mk2 hr2; have HL2 := Hid.mk2 hl2; clear hb2 hr2 hx2 hl2)
      | (go_at_call 42; refine (HS1.out _).mono ?_; rintro e w1 ⟨o1, l1, c1, rfl, hl1, hr1, hx1, hb1⟩; have HB1 : Hid (Below W.heap.size W w1) := g_on (by repeat' (first | with_reducible exact Below.refl _ _ | with_reducible refine Below.drew ?_ | with_reducible refine g_on ?_ (g_alloc _ _))) hb1; have HA1 := Hid.mk2 hb1; have HR1 := Hid.mk2 hr1; have HL1 := Hid.mk2 hl1; clear hb1 hr1 hx1 hl1)
      | (have h9 := HB2; go_at_call 41; refine (put_new3 _ _ _ [c, d] 2 o1 l1 c1 o2 l2 c2 2 _ _ rfl rfl rfl (by first | exact HND.out _ | exact (HND.out _).below HA2.out | exact (HND.out _).below (g_drew HA2.out) | exact (HND.out _).below (g_on HA1.out HA2.out) | exact (HND.out _).below (g_on (g_drew HA1.out) HA2.out)) (by first | exact HR1.out.below HA2.out | exact (HR1.out.below HA2.out).alloc _ | exact (HR1.out.alloc _).below HA2.out) (by first | exact HR2.out | exact HR2.out.alloc _) (by have := HLN.out; rw [HL1.out, HL2.out]; show 2 + _ + _ ≤ _; omega) _ _ rfl (by first | rfl | simp)).mono ?_; rintro e w3 ⟨v3, rfl, hO3, hb3⟩; have HO3 : Hid (GOwn EY w3 W.heap.size v3 (c :: d :: (sn ++ sl))) := (by have h := hO3; rw [HL1.out, HL2.out] at h; exact h.down (Below.size (by repeat' (first | with_reducible exact HB2.out | with_reducible exact HB1.out | with_reducible exact Below.refl _ _ | with_reducible refine Below.drew ?_ | with_reducible refine g_on ?_ (g_alloc _ _))))); have HB3 : Hid (Below W.heap.size W w3) := g_on (by repeat' (first | with_reducible exact HB2.out | with_reducible exact HB1.out | with_reducible exact Below.refl _ _ | with_reducible refine Below.drew ?_ | with_reducible refine g_on ?_ (g_alloc _ _))) hb3; clear hO3 hb3))
    all_goals
      go_wp2_with fail
      go_meet
      case rel => exact ⟨HO3.out, HB3.out⟩
  case rest =>
    rename_i hK
    refine hK _ _ ?_
    clear hK
    obtain ⟨w0, hw0⟩ : ∃ w0, w0 = wc := ⟨_, rfl⟩
    rw [← hw0] at hcut ⊢
    clear hw0
    have HC := hcut
    have z1 := (HSW.out _ HC.out.2).2.1
    have HHL : Hid ((c :: d :: (sn ++ sl)).length ≤ 22) := by
      show _ ≤ _
      have := HLN.out
      simp
      omega
    obtain ⟨hd, hhd⟩ : ∃ hd, hd = c :: d :: (sn ++ sl) := ⟨_, rfl⟩
    rw [← hhd] at HRB HHL HC
    clear hhd HS1 HS2 HND HLN hcut
    go_wp2
    go_loopw [5, 25] (fun s5 i wr => ∃ (k : Nat) (u : Value), u = s5 ∧ k ≤ N ∧ i = .int .i64 k ∧ Hid (GOwn EY wr W.heap.size u (hd ++ (L.take k).flatMap Im.pb)) ∧ Hid (Below W.heap.size W wr)) (fun _ i _ => N - (intOf i).toNat)
    case atStart => exact ⟨0, _, rfl, Nat.zero_le _, rfl, (by show GOwn _ _ _ _ _; simpa using HC.out.1), HC.out.2⟩
    case round =>
      obtain ⟨k, u, rfl, hk, rfl, HO1, HBW⟩ := hrel
      by_cases hkn : k < N
      · have hkl : k < L.length := by rw [← HN.out]; exact hkn
        have hki : (k : Int) < (N : Int) := by omega
        have hne : L ≠ [] := by intro e; rw [e] at hkl; simp at hkl
        obtain ⟨b, off, rfl, hbl, hcs⟩ := (HI.out wr (g_on HB.out HBW.out)).im hne
        obtain ⟨r0, r1, r2, r3, r4⟩ := hcs k hkl
        have HGD := Hid.mk2 (HG.out L[k] (List.getElem_mem hkl))
        have HF1 : Hid ((L.take (k + 1)).flatMap Im.pb = (L.take k).flatMap Im.pb ++ (L[k]).pb) := by
          show _ = _
          rw [← List.take_append_getElem hkl, List.flatMap_append, List.flatMap_cons, List.flatMap_nil, List.append_nil]
        have HF2 : Hid (((L.take k).flatMap Im.pb).length ≤ 4800) := by
          show _ ≤ _
          have h1 := pbs_len (L.take k) (fun x hx => HG.out x (List.mem_of_mem_take hx))
          have h2 : (L.take k).length ≤ 8 := by rw [List.length_take]; have := HN.out; omega
          exact Nat.le_trans h1 (Nat.mul_le_mul_right _ h2)
        have HF3 := Hid.mk2 (pb_len HGD.out)
        obtain ⟨y, hye⟩ : ∃ y, y = L[k] := ⟨_, rfl⟩
        rw [← hye] at r0 r1 r2 r3 r4 HGD HF1 HF3
        clear hye hcs hne
        obtain ⟨yk, yv, yf, yt, yu⟩ := y
        obtain ⟨gk, gv, ⟨gt0, gt1⟩, ⟨gf0, gf1⟩, ⟨gu0, gu1⟩⟩ := HGD.out
        dsimp only at r0 r1 r2 r3 r4 gk gv gt0 gt1 gf0 gf1 gu0 gu1
        have HPB : Hid ((Im.mk yk yv yf yt yu).pb = text (bl1 yk) ++ (text (bl1 yv) ++ (small yf.toNat ++ (small yt.toNat ++ small yu.toNat)))) := rfl
        have HT1 := Hid.mk2 (fun V => pk_text yk V (by omega))
        have HT2 := Hid.mk2 (fun V => pk_text yv V (by omega))
        have HT3 := Hid.mk2 (fun V => pk_small yf.toNat V (show yf.toNat < 18446744073709551616 by omega))
        have HT4 := Hid.mk2 (fun V => pk_small yt.toNat V (show yt.toNat < 18446744073709551616 by omega))
        have HT5 := Hid.mk2 (fun V => pk_small yu.toNat V (show yu.toNat < 18446744073709551616 by omega))
        rw [Int.toNat_of_nonneg gf0] at HT3
        rw [Int.toNat_of_nonneg gt0] at HT4
        rw [Int.toNat_of_nonneg gu0] at HT5
        have hw1 : IntKind.u64.wrap yf = yf := pu64w gf0 (by omega)
        have hw2 : IntKind.u64.wrap yt = yt := pu64w gt0 (by omega)
        obtain ⟨t1, ht1⟩ : ∃ t, t = text (bl1 yk) := ⟨_, rfl⟩
        obtain ⟨t2, ht2⟩ : ∃ t, t = text (bl1 yv) := ⟨_, rfl⟩
        obtain ⟨t3, ht3⟩ : ∃ t, t = small yf.toNat := ⟨_, rfl⟩
        obtain ⟨t4, ht4⟩ : ∃ t, t = small yt.toNat := ⟨_, rfl⟩
        obtain ⟨t5, ht5⟩ : ∃ t, t = small yu.toNat := ⟨_, rfl⟩
        rw [← ht1, ← ht2, ← ht3, ← ht4, ← ht5] at HPB
        rw [← ht1] at HT1
        rw [← ht2] at HT2
        rw [← ht3] at HT3
        rw [← ht4] at HT4
        rw [← ht5] at HT5
        obtain ⟨PB, hPB⟩ : ∃ PB, PB = (Im.mk yk yv yf yt yu).pb := ⟨_, rfl⟩
        rw [← hPB] at HPB HF1 HF3
        have HLE : Hid ((hd ++ (L.take k).flatMap Im.pb).length + (t1.length + t2.length + t3.length + t4.length + t5.length) ≤ 500000) := by
          show _ ≤ _
          have h1 := HF3.out
          rw [HPB.out] at h1
          simp only [List.length_append] at h1 ⊢
          have := HF2.out
          have := HHL.out
          omega
        clear ht1 ht2 ht3 ht4 ht5 hPB HGD gk gv gt0 gt1 gf0 gf1 gu0 gu1
        go_upto_region 5 with (fail)
        obtain ⟨W5, hW5⟩ : ∃ W5, W5 = wr.alloc (.cells #[.string yk, .string yv, .int .u32 yf, .int .i64 yt, .int .u64 yu] 34) := ⟨_, rfl⟩
        have HW5 : Hid (Below wr.heap.size wr W5) := by rw [hW5]; exact g_alloc _ _
        have HX5 : Hid (GBx W5 wr.heap.size [.string yk, .string yv, .int .u32 yf, .int .i64 yt, .int .u64 yu]) := by rw [hW5]; exact GBx.made wr [.string yk, .string yv, .int .u32 yf, .int .i64 yt, .int .u64 yu] _
        have HSZ : Hid (W.heap.size ≤ W5.heap.size) := Nat.le_trans HBW.out.size HW5.out.size
        have HBW5 : Hid (Below W.heap.size W W5) := HBW.out.trans (HW5.out.mono HBW.out.size)
        rw [← hW5]
        obtain ⟨X5, hX5⟩ : ∃ X5, X5 = wr.heap.size := ⟨_, rfl⟩
        have HUL : Hid (∀ q, u.ownBlock = some q → q < X5) := fun q hq => by rw [hX5]; exact (HO1.out.lt q hq).2
        have HXW : Hid (X5 ≤ W5.heap.size) := by rw [hX5]; exact HW5.out.size
        rw [← hX5] at HX5 ⊢
        clear hW5 hX5 r0 r1 r2 r3 r4
        have HSW5 : Hid (∀ V, Below W5.heap.size W5 V → V.cell? ⟨X5, 0, none⟩ = some (.string yk) ∧ V.cell? ⟨X5, 1, none⟩ = some (.string yv) ∧ V.cell? ⟨X5, 2, none⟩ = some (.int .u32 yf) ∧ V.cell? ⟨X5, 3, none⟩ = some (.int .i64 yt) ∧ V.cell? ⟨X5, 4, none⟩ = some (.int .u64 yu)) := fun V hV => ⟨(HX5.out.below hV).c 0 (by simp), (HX5.out.below hV).c 1 (by simp), (HX5.out.below hV).c 2 (by simp), (HX5.out.below hV).c 3 (by simp), (HX5.out.below hV).c 4 (by simp)⟩
        go_region_held3 (fun V => V.cell? ⟨X5, 0, none⟩ = some (.string yk) ∧ V.cell? ⟨X5, 1, none⟩ = some (.string yv) ∧ V.cell? ⟨X5, 2, none⟩ = some (.int .u32 yf) ∧ V.cell? ⟨X5, 3, none⟩ = some (.int .i64 yt) ∧ V.cell? ⟨X5, 4, none⟩ = some (.int .u64 yu)) (first | exact HSP.out | exact HSW5.out _ (by repeat' (first | with_reducible exact HB8.out | with_reducible exact HB7.out | with_reducible exact HB6.out | with_reducible exact HB5.out | with_reducible exact HB4.out | with_reducible exact Below.refl _ _ | with_reducible refine Below.drew ?_ | with_reducible refine g_on ?_ (g_alloc _ _))))
          (first
      | (have h9 := HB7; go_at_call 42; refine (HT5.out _).mono ?_; rintro e w8 ⟨o8, l8, c8, rfl, hl8, hr8, hx8, hb8⟩; have HB8 : Hid (Below W5.heap.size W5 w8) := g_on (by repeat' (first | with_reducible exact HB7.out | with_reducible exact HB6.out | with_reducible exact HB5.out | with_reducible exact HB4.out | with_reducible exact Below.refl _ _ | with_reducible refine Below.drew ?_ | with_reducible refine g_on ?_ (g_alloc _ _))) hb8; have HA8 := Hid.mk2 hb8; have HR8 := Hid.mk2 hr8; have HL8 := Hid.mk2 hl8; have HXX8 : Hid (∀ g off, o8 = some ⟨g, off, none⟩ → X5 ≤ g) := (fun g off e => Nat.le_trans (Nat.le_trans HXW.out (below_le (w := W5) (by repeat' (first | with_reducible exact HB7.out | with_reducible exact HB6.out | with_reducible exact HB5.out | with_reducible exact HB4.out | with_reducible exact Below.refl _ _ | with_reducible refine Below.drew ?_ | with_reducible refine g_on ?_ (g_alloc _ _))))) (hx8 g off e)); clear hb8 hr8 hx8 hl8)
      | (have h9 := HB6; go_at_call 42; (try rw [hw2]); refine (HT4.out _).mono ?_; rintro e w7 ⟨o7, l7, c7, rfl, hl7, hr7, hx7, hb7⟩; have HB7 : Hid (Below W5.heap.size W5 w7) := g_on (by repeat' (first | with_reducible exact HB6.out | with_reducible exact HB5.out | with_reducible exact HB4.out | with_reducible exact Below.refl _ _ | with_reducible refine Below.drew ?_ | with_reducible refine g_on ?_ (g_alloc _ _))) hb7; have HA7 := Hid.mk2 hb7; have HR7 := Hid.mk2 hr7; have HL7 := Hid.mk2 hl7; have HXX7 : Hid (∀ g off, o7 = some ⟨g, off, none⟩ → X5 ≤ g) := (fun g off e => Nat.le_trans (Nat.le_trans HXW.out (below_le (w := W5) (by repeat' (first | with_reducible exact HB6.out | with_reducible exact HB5.out | with_reducible exact HB4.out | with_reducible exact Below.refl _ _ | with_reducible refine Below.drew ?_ | with_reducible refine g_on ?_ (g_alloc _ _))))) (hx7 g off e)); clear hb7 hr7 hx7 hl7)
      | (have h9 := HB5; go_at_call 42; (try rw [hw1]); refine (HT3.out _).mono ?_; rintro e w6 ⟨o6, l6, c6, rfl, hl6, hr6, hx6, hb6⟩; have HB6 : Hid (Below W5.heap.size W5 w6) := g_on (by repeat' (first | with_reducible exact HB5.out | with_reducible exact HB4.out | with_reducible exact Below.refl _ _ | with_reducible refine Below.drew ?_ | with_reducible refine g_on ?_ (g_alloc _ _))) hb6; have HA6 := Hid.mk2 hb6; have HR6 := Hid.mk2 hr6; have HL6 := Hid.mk2 hl6; have HXX6 : Hid (∀ g off, o6 = some ⟨g, off, none⟩ → X5 ≤ g) := (fun g off e => Nat.le_trans (Nat.le_trans HXW.out (below_le (w := W5) (by repeat' (first | with_reducible exact HB5.out | with_reducible exact HB4.out | with_reducible exact Below.refl _ _ | with_reducible refine Below.drew ?_ | with_reducible refine g_on ?_ (g_alloc _ _))))) (hx6 g off e)); clear hb6 hr6 hx6 hl6)
      | (have h9 := HB4; go_at_call 43; refine (HT2.out _).mono ?_; rintro e w5 ⟨o5, l5, c5, rfl, hl5, hr5, hx5, hb5⟩; have HB5 : Hid (Below W5.heap.size W5 w5) := g_on (by repeat' (first | with_reducible exact HB4.out | with_reducible exact Below.refl _ _ | with_reducible refine Below.drew ?_ | with_reducible refine g_on ?_ (g_alloc _ _))) hb5; have HA5 := Hid.mk2 hb5; have HR5 := Hid.mk2 hr5; have HL5 := Hid.mk2 hl5; have HXX5 : Hid (∀ g off, o5 = some ⟨g, off, none⟩ → X5 ≤ g) := (fun g off e => Nat.le_trans (Nat.le_trans HXW.out (below_le (w := W5) (by repeat' (first | with_reducible exact HB4.out | with_reducible exact Below.refl _ _ | with_reducible refine Below.drew ?_ | with_reducible refine g_on ?_ (g_alloc _ _))))) (hx5 g off e)); clear hb5 hr5 hx5 hl5)
      | (go_at_call 43; refine (HT1.out _).mono ?_; rintro e w4 ⟨o4, l4, c4, rfl, hl4, hr4, hx4, hb4⟩; have HB4 : Hid (Below W5.heap.size W5 w4) := g_on (by repeat' (first | with_reducible exact Below.refl _ _ | with_reducible refine Below.drew ?_ | with_reducible refine g_on ?_ (g_alloc _ _))) hb4; have HA4 := Hid.mk2 hb4; have HR4 := Hid.mk2 hr4; have HL4 := Hid.mk2 hl4; have HXX4 : Hid (∀ g off, o4 = some ⟨g, off, none⟩ → X5 ≤ g) := (fun g off e => Nat.le_trans (Nat.le_trans HXW.out (below_le (w := W5) (by repeat' (first | with_reducible exact Below.refl _ _ | with_reducible refine Below.drew ?_ | with_reducible refine g_on ?_ (g_alloc _ _))))) (hx4 g off e)); clear hb4 hr4 hx4 hl4)
      | (have h9 := HB8; go_at_call 41; refine (put_new5 w8 _ W.heap.size u (hd ++ (L.take k).flatMap Im.pb) (HO1.out.below (g_on HW5.out HB8.out)) (Nat.le_trans HSZ.out HB8.out.size) X5 HUL.out (Nat.le_trans HXW.out HB8.out.size) o4 l4 c4 o5 l5 c5 o6 l6 c6 o7 l7 c7 o8 l8 c8 _ _ _ _ _ rfl rfl rfl rfl rfl (HR4.out.below (g_on HA5.out (g_on HA6.out (g_on HA7.out HA8.out)))) (HR5.out.below (g_on HA6.out (g_on HA7.out HA8.out))) (HR6.out.below (g_on HA7.out HA8.out)) (HR7.out.below HA8.out) HR8.out HXX4.out HXX5.out HXX6.out HXX7.out HXX8.out (by rw [HL4.out, HL5.out, HL6.out, HL7.out, HL8.out]; exact HLE.out) _ _ rfl (by first | rfl | simp)).mono ?_; rintro e w9 ⟨v9, rfl, hO9, hb9, hz9⟩; rw [HL4.out, HL5.out, HL6.out, HL7.out, HL8.out] at hO9; have HO9 := Hid.mk2 hO9; have HB9 : Hid (Below W.heap.size W5 w9) := (HB8.out.mono HSZ.out).trans hb9; have HSP : Hid (w9.cell? ⟨X5, 0, none⟩ = some (.string yk) ∧ w9.cell? ⟨X5, 1, none⟩ = some (.string yv) ∧ w9.cell? ⟨X5, 2, none⟩ = some (.int .u32 yf) ∧ w9.cell? ⟨X5, 3, none⟩ = some (.int .i64 yt) ∧ w9.cell? ⟨X5, 4, none⟩ = some (.int .u64 yu)) := (by have hq := HSW5.out w8 HB8.out; have hk9 : w9.heap[X5]? = w8.heap[X5]? := hz9 X5 (Nat.le_refl _) (Nat.lt_of_lt_of_le HX5.out.lt HB8.out.size); exact ⟨(World.cell?_of_block (a := ⟨X5, 0, none⟩) hk9).trans hq.1, (World.cell?_of_block (a := ⟨X5, 1, none⟩) hk9).trans hq.2.1, (World.cell?_of_block (a := ⟨X5, 2, none⟩) hk9).trans hq.2.2.1, (World.cell?_of_block (a := ⟨X5, 3, none⟩) hk9).trans hq.2.2.2.1, (World.cell?_of_block (a := ⟨X5, 4, none⟩) hk9).trans hq.2.2.2.2⟩); clear hO9 hb9 hz9))
        all_goals
          go_wp2_with fail
          exact ⟨⟨k + 1, _, rfl, by omega, by go_num, (by show GOwn _ _ _ _ _; rw [HF1.out, HPB.out, ← List.append_assoc]; exact HO9.out), HBW5.out.trans HB9.out⟩, by simp [intOf]; omega⟩
      · have hki : ¬ (k : Int) < (N : Int) := by omega
        have HE : Hid ((L.take k).flatMap Im.pb = L.flatMap Im.pb) := by
          show _ = _
          rw [List.take_of_length_le (by rw [← HN.out]; omega)]
        have HO2 : Hid (GOwn EY wr W.heap.size u RB) := by
          show GOwn _ _ _ _ _
          rw [HRB.out, ← HE.out]
          exact HO1.out
        clear HO1
        go_wp2
        go_ret
        obtain ⟨ao, cap, rfl, hr, _⟩ := gown_rd2 HO2.out
        exact ⟨⟨ao, RB, cap⟩, rfl, rfl, hr, g_on HB.out HBW.out⟩
end Go.Proofs.Ytfjcaofmcjhdpaa
