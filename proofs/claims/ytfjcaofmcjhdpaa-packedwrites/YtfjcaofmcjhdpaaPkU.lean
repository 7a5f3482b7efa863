/-
  The document's body of an answer, walked.
-/
import Derived.Test.YtfjcaofmcjhdpaaPkD
import Derived.Test.YtfjcaofmcjhdpaaPkE
import Derived.Test.YtfjcaofmcjhdpaaRefNum
namespace Go.Proofs.Ytfjcaofmcjhdpaa
open Go.Proofs.Ytfjcaofmcjhdpaa.It
open Go.RowKit
set_option linter.unusedSimpArgs false
set_option linter.unusedVariables false
set_option maxRecDepth 100000

theorem rsmall1_any (n : Nat) (w : World) (hn : Fits n) : Calls Try.prog 35 #[.int .u64 n] w fun e w' => (∃ o c, e = .returned (.slice o (small n).length c) ∧ GRd EY w' o (small n) c) ∧ Below w.heap.size w w' := by
  refine (refSmall_any n w hn).mono ?_
  rintro e w' ⟨v, rfl, ho, hb⟩
  obtain ⟨ao, cap, rfl, hr, hl⟩ := gown_rd2 (own_ofb ho)
  exact ⟨⟨ao, cap, rfl, hr⟩, hb⟩
theorem rtext1_any (s : ByteArray) (w : World) (hs : s.size ≤ 100000000) : Calls Try.prog 36 #[.string s] w fun e w' => (∃ o c, e = .returned (.slice o (text (bl1 s)).length c) ∧ GRd EY w' o (text (bl1 s)) c) ∧ Below w.heap.size w w' := by
  refine (refText_any s w hs).mono ?_
  rintro e w' ⟨v, rfl, ho, hb⟩
  obtain ⟨ao, cap, rfl, hr, hl⟩ := gown_rd2 (own_ofb ho)
  exact ⟨⟨ao, cap, rfl, hr⟩, hb⟩
theorem n8_back (c : UInt8) : n8 (c.toNat : Int) = c := by
  unfold n8
  exact UInt8.toNat.inj (by rw [Int.toNat_natCast, UInt8.toNat_ofNat_of_lt' (UInt8.toNat_lt c)])
/-- a row of bytes on the way, beside a box -/
structure Bq (W wr : World) (X : Nat) (cs : List Value) (v : Value) (l : List UInt8) : Prop where
  own : GOwn EY wr W.heap.size v l
  below : Below W.heap.size W wr
  box : GBx wr X cs
  ne : ∀ k, v.ownBlock = some k → k ≠ X
theorem Bq.on {W wr w2 : World} {X : Nat} {cs : List Value} {v : Value} {l : List UInt8} (h : Bq W wr X cs v l) (hb : Below wr.heap.size wr w2) : Bq W w2 X cs v l :=
  ⟨h.own.below hb, g_on h.below hb, h.box.below hb, h.ne⟩
theorem Bq.grew {W wr w2 : World} {X : Nat} {cs : List Value} {v v' : Value} {l l' : List UInt8} (h : Bq W wr X cs v l) (hg : GGrew wr w2 v v') (ho : GOwn EY w2 W.heap.size v' l') : Bq W w2 X cs v' l' :=
  ⟨ho, h.below.trans (hg.below h.own h.below.size), h.box.grown hg.grown (fun e => h.ne X e rfl), fun k hk e => by
    subst e
    rcases hg.lies k hk with q | q
    · exact h.ne _ q rfl
    · have := h.box.lt; omega⟩
structure BodR (w w' : World) (l : List UInt8) (e : Ending) : Prop where
  ex : ∃ v, e = .returned v ∧ GOwn EY w' w.heap.size v l
  below : Below w.heap.size w w'
set_option maxHeartbeats 8000000 in
theorem rBody_any (a : An) (io : Option Addr) (ic : Nat) (w : World) (hi : GRd EM w io a.items ic) (hm : a.may = true) (hf : a.Pf) :
    Calls Try.prog 21 #[.agg (a.arr (.slice io a.items.length ic))] w fun e w' => BodR w w' a.body e := by
  obtain ⟨hkd, hl8, hgd, hky⟩ := may_parts hm hf
  obtain ⟨ak, ao, ar, L, an, ay, akey⟩ := a
  obtain ⟨⟨k0, k1⟩, ⟨o0, o1⟩, ⟨r0, r1⟩, ⟨n0, n1⟩, hit⟩ := hf
  dsimp only at hi hkd hl8 hgd hky k0 k1 o0 o1 r0 r1 n0 n1 hit
  obtain ⟨c, rfl⟩ : ∃ c : UInt8, ao = (c.toNat : Int) := ⟨n8 ao, (n8_of o0 o1).symm⟩
  obtain ⟨d, rfl⟩ : ∃ d : UInt8, ar = (d.toNat : Int) := ⟨n8 ar, (n8_of r0 r1).symm⟩
  obtain ⟨nn, rfl⟩ : ∃ nn : Nat, an = (nn : Int) := ⟨an.toNat, (Int.toNat_of_nonneg n0).symm⟩
  have HBO : Hid ((An.mk ak (c.toNat : Int) (d.toNat : Int) L (nn : Int) ay akey).body = if ak = 1 then c :: d :: (small nn ++ (small L.length ++ L.flatMap Im.pb)) else if ak = 2 ∨ ak = 3 then [if ay = true then 1 else 0] else if ak = 7 then bl1 akey else []) := by
    show _ = _
    unfold An.body
    dsimp only
    rw [n8_back, n8_back, Int.toNat_natCast]
  obtain ⟨N, hN⟩ : ∃ N, N = L.length := ⟨_, rfl⟩
  obtain ⟨W, hW⟩ : ∃ W, W = w.alloc (.cells #[.int .u8 ak, .int .u8 (c.toNat : Int), .int .u8 (d.toNat : Int), .slice io N ic, .int .u64 (nn : Int), .bool ay, .string akey] 31) := ⟨_, rfl⟩
  have HB : Hid (Below w.heap.size w W) := by rw [hW]; exact g_alloc _ _
  have HX : Hid (GBx W w.heap.size [.int .u8 ak, .int .u8 (c.toNat : Int), .int .u8 (d.toNat : Int), .slice io N ic, .int .u64 (nn : Int), .bool ay, .string akey]) := by rw [hW]; exact GBx.made w [.int .u8 ak, .int .u8 (c.toNat : Int), .int .u8 (d.toNat : Int), .slice io N ic, .int .u64 (nn : Int), .bool ay, .string akey] _
  obtain ⟨BD, hBD⟩ : ∃ BD, BD = (An.mk ak (c.toNat : Int) (d.toNat : Int) L (nn : Int) ay akey).body := ⟨_, rfl⟩
  rw [← hBD] at HBO ⊢
  have HI := Hid.mk2 (fun V (hV : Below W.heap.size W V) => hi.below (g_on HB.out hV))
  have HGD := Hid.mk2 hgd
  have HN := Hid.mk2 hN
  unfold An.arr
  dsimp only
  rw [← hN]
  obtain ⟨P, hP⟩ : ∃ P, P = w.heap.size := ⟨_, rfl⟩
  have HPE := Hid.mk2 hP
  rw [← hP] at HX
  have hPW : P < W.heap.size := HX.out.lt
  have HXV := Hid.mk2 (fun V (hV : Below W.heap.size W V) => HX.out.below hV)
  have hN8 : N ≤ 8 := by rw [hN]; exact hl8
  have HKY := Hid.mk2 hky
  have HFIN : Hid (∀ wz v l, GOwn EY wz W.heap.size v l → BD = l → Below W.heap.size W wz → BodR w wz BD (.returned v)) := fun wz v l h1 h2 h3 => by
    rw [h2]
    exact ⟨⟨v, rfl, h1.down HB.out.size⟩, g_on HB.out h3⟩
  have x0 := HX.out.c 0 (by simp); have x1 := HX.out.c 1 (by simp); have x2 := HX.out.c 2 (by simp); have x3 := HX.out.c 3 (by simp); have x4 := HX.out.c 4 (by simp); have x5 := HX.out.c 5 (by simp); have x6 := HX.out.c 6 (by simp); simp only [List.getElem_cons_zero, List.getElem_cons_succ] at x0 x1 x2 x3 x4 x5 x6
  clear hi hm hBD hgd hl8 k0 k1 o0 o1 r0 r1 n0 hit hN hky
  go_enter Try.func21, Try.ntmps21
  by_cases c1 : ak = 1
  · subst c1
    have HE := Hid.mk2 (HBO.out.trans (if_pos rfl))
    have HS1 := Hid.mk2 (fun V => rsmall1_any nn V (show nn < 18446744073709551616 by omega))
    have HS2 := Hid.mk2 (fun V => rsmall1_any N V (show N < 18446744073709551616 by omega))
    rw [← HN.out] at HE
    obtain ⟨sn, hsn⟩ : ∃ q, q = small nn := ⟨_, rfl⟩
    obtain ⟨sl, hsl⟩ : ∃ q, q = small N := ⟨_, rfl⟩
    have HLN : Hid (sn.length ≤ 10 ∧ sl.length ≤ 10) := by rw [hsn, hsl]; exact ⟨small_len _, small_len _⟩
    rw [← hsn, ← hsl] at HE
    rw [← hsn] at HS1
    rw [← hsl] at HS2
    obtain ⟨m1, hm1⟩ : ∃ q, q = sn.length := ⟨_, rfl⟩
    obtain ⟨m2, hm2⟩ : ∃ q, q = sl.length := ⟨_, rfl⟩
    rw [← hm1] at HS1
    rw [← hm2] at HS2
    have HM1 := Hid.mk2 hm1
    have HM2 := Hid.mk2 hm2
    have HND : Hid (GRd EY (W.alloc (.cells #[.int .u8 (c.toNat : Int), .int .u8 (d.toNat : Int)] 5)) (some ⟨W.heap.size, 0, none⟩) [c, d] 2) := g_news okY W [c, d] [.int .u8 (c.toNat : Int), .int .u8 (d.toNat : Int)] rfl (by simp)
    have HB0 : Hid (Bq W W P [.int .u8 1, .int .u8 (c.toNat : Int), .int .u8 (d.toNat : Int), .slice io N ic, .int .u64 (nn : Int), .bool ay, .string akey] (.slice none 0 0) []) := ⟨GOwn.nil _ _, Below.refl _ _, HX.out, fun k hk => by cases hk⟩
    have HB00 : Hid (Bq W (W.alloc (.cells #[.int .u8 (c.toNat : Int), .int .u8 (d.toNat : Int)] 5)) P [.int .u8 1, .int .u8 (c.toNat : Int), .int .u8 (d.toNat : Int), .slice io N ic, .int .u64 (nn : Int), .bool ay, .string akey] (.slice none 0 0) []) := HB0.out.on (g_alloc _ _)
    have hNi : (N : Int) ≤ 8 := by omega
    have hwn : IntKind.u64.wrap (N : Int) = (N : Int) := pu64w (by omega) (by omega)
    clear hsn hsl hm1 hm2 HBO
    go_upto_region 1 with (fail)
    rw [← hW, ← hP]
    clear hW hP
    go_upto_region 5 with (at_builtin; refine g_app okY rfl _ _ _ rfl rfl W.heap.size (.slice none 0 0) [] HB00.out.own rfl (some ⟨W.heap.size, 0, none⟩) 2 [c, d] 2 rfl rfl HND.out (by simp) HB00.out.below.size ?_; intro v1 w1 hO1 hG1; have HQ1 := Hid.mk2 (HB00.out.grew hG1 hO1); clear hO1 hG1)
    clear x0 x1 x2 x3 x4 x5 x6
    have HXa := Hid.mk2 HQ1.out.box
    have x0 := HXa.out.c 0 (by simp); have x1 := HXa.out.c 1 (by simp); have x2 := HXa.out.c 2 (by simp); have x3 := HXa.out.c 3 (by simp); have x4 := HXa.out.c 4 (by simp); have x5 := HXa.out.c 5 (by simp); have x6 := HXa.out.c 6 (by simp); simp only [List.getElem_cons_zero, List.getElem_cons_succ] at x0 x1 x2 x3 x4 x5 x6
    have HLX := HLN
    go_upto_region 6 with (first
      | (go_at_call 35; refine (HS1.out _).mono ?_; rintro e wc2 ⟨⟨p2, q2, rfl, hr2⟩, hb2⟩; have HR2 := Hid.mk2 hr2; have HQc2 := Hid.mk2 (HQ1.out.on hb2); clear hr2 hb2)
      | (at_builtin; refine g_app okY rfl _ _ _ rfl rfl W.heap.size _ _ HQc2.out.own rfl p2 q2 sn m1 HM1.out rfl HR2.out (by have q := HLX.out; simp only [List.length_append, List.length_cons, List.length_nil]; omega) HQc2.out.below.size ?_; intro v2 w2 hO2 hG2; have HQ2 := Hid.mk2 (HQc2.out.grew hG2 hO2); clear hO2 hG2))
    clear x0 x1 x2 x3 x4 x5 x6
    have HXb := Hid.mk2 HQ2.out.box
    have x0 := HXb.out.c 0 (by simp); have x1 := HXb.out.c 1 (by simp); have x2 := HXb.out.c 2 (by simp); have x3 := HXb.out.c 3 (by simp); have x4 := HXb.out.c 4 (by simp); have x5 := HXb.out.c 5 (by simp); have x6 := HXb.out.c 6 (by simp); simp only [List.getElem_cons_zero, List.getElem_cons_succ] at x0 x1 x2 x3 x4 x5 x6
    go_upto_region 7 with (first
      | (go_at_call 35; refine (HS2.out _).mono ?_; rintro e wc3 ⟨⟨p3, q3, rfl, hr3⟩, hb3⟩; have HR3 := Hid.mk2 hr3; have HQc3 := Hid.mk2 (HQ2.out.on hb3); clear hr3 hb3)
      | (at_builtin; refine g_app okY rfl _ _ _ rfl rfl W.heap.size _ _ HQc3.out.own rfl p3 q3 sl m2 HM2.out rfl HR3.out (by have q := HLX.out; simp only [List.length_append, List.length_cons, List.length_nil]; omega) HQc3.out.below.size ?_; intro v3 w3 hO3 hG3; have HQ3 := Hid.mk2 (HQc3.out.grew hG3 hO3); clear hO3 hG3))
    obtain ⟨hd, hhd⟩ : ∃ hd, hd = [] ++ [c, d] ++ sn ++ sl := ⟨_, rfl⟩
    have HHD : Hid (hd.length ≤ 22) := by show _ ≤ _; have := HLN.out; rw [hhd]; simp; omega
    have HEH : Hid (BD = hd ++ L.flatMap Im.pb) := by show _ = _; rw [HE.out, hhd]; simp
    have HQ4 := HQ3
    rw [← hhd] at HQ4
    clear x0 x1 x2 x3 x4 x5 x6 hhd HE HLX HQ3
    go_wp2
    go_loopw [3, 4, 5] (fun s3 i _ wr => ∃ (k : Nat) (u : Value), u = s3 ∧ k ≤ N ∧ i = .int .i64 (k : Int) ∧ Hid (GOwn EY wr W.heap.size u (hd ++ (L.take k).flatMap Im.pb)) ∧ Hid (Below W.heap.size W wr)) (fun _ i _ _ => N - (intOf i).toNat)
    case atStart => exact ⟨0, _, rfl, Nat.zero_le _, rfl, by show GOwn _ _ _ _ _; have := HQ4.out.own; simpa using this, HQ4.out.below⟩
    case round =>
      obtain ⟨k, u, rfl, hk, rfl, HO, HBr⟩ := hrel
      have HXr := Hid.mk2 (HXV.out wr HBr.out)
      have x0 := HXr.out.c 0 (by simp); have x1 := HXr.out.c 1 (by simp); have x2 := HXr.out.c 2 (by simp); have x3 := HXr.out.c 3 (by simp); have x4 := HXr.out.c 4 (by simp); have x5 := HXr.out.c 5 (by simp); have x6 := HXr.out.c 6 (by simp); simp only [List.getElem_cons_zero, List.getElem_cons_succ] at x0 x1 x2 x3 x4 x5 x6
      by_cases hkN : k < N
      · have hkNi : (k : Int) < (N : Int) := by omega
        have hkl : k < L.length := by rw [← HN.out]; exact hkN
        have hne : L ≠ [] := by intro e; rw [e] at hkl; simp at hkl
        obtain ⟨g, off, rfl, hbl, hcs⟩ := (HI.out wr HBr.out).im hne
        obtain ⟨r0, r1, r2, r3, r4⟩ := hcs k hkl
        have HF : Hid ((L.take (k + 1)).flatMap Im.pb = (L.take k).flatMap Im.pb ++ (L[k]).pb) := by
          show _ = _
          rw [← List.take_append_getElem hkl, List.flatMap_append, List.flatMap_cons, List.flatMap_nil, List.append_nil]
        have HTK : Hid (((L.take k).flatMap Im.pb).length ≤ 4800) := by
          show _ ≤ _
          have h1 := pbs_len (L.take k) (fun y hy => HGD.out y (List.mem_of_mem_take hy))
          have h2 : (L.take k).length ≤ 8 := by rw [List.length_take]; omega
          have h3 := Nat.mul_le_mul_right 600 h2
          omega
        have hgx := HGD.out L[k] (List.getElem_mem hkl)
        obtain ⟨x, hxe⟩ : ∃ x, x = L[k] := ⟨_, rfl⟩
        rw [← hxe] at r0 r1 r2 r3 r4 HF hgx
        obtain ⟨xk, xv, xf, xt, xu⟩ := x
        obtain ⟨g1, g2, ⟨t0, t1⟩, ⟨f0, f1⟩, ⟨u0, u1⟩⟩ := hgx
        dsimp only at r0 r1 r2 r3 r4 g1 g2 t0 t1 f0 f1 u0 u1
        obtain ⟨nf, rfl⟩ : ∃ n : Nat, xf = (n : Int) := ⟨xf.toNat, (Int.toNat_of_nonneg f0).symm⟩
        obtain ⟨nt, rfl⟩ : ∃ n : Nat, xt = (n : Int) := ⟨xt.toNat, (Int.toNat_of_nonneg t0).symm⟩
        obtain ⟨nu, rfl⟩ : ∃ n : Nat, xu = (n : Int) := ⟨xu.toNat, (Int.toNat_of_nonneg u0).symm⟩
        have HPB : Hid ((Im.mk xk xv (nf : Int) (nt : Int) (nu : Int)).pb = text (bl1 xk) ++ (text (bl1 xv) ++ (small nf ++ (small nt ++ small nu)))) := by
          show _ = _
          unfold Im.pb
          simp only [Int.toNat_natCast]
        have HT1 := Hid.mk2 (fun V => rtext1_any xk V (by omega))
        have HT2 := Hid.mk2 (fun V => rtext1_any xv V (by omega))
        have HS3 := Hid.mk2 (fun V => rsmall1_any nf V (show nf < 18446744073709551616 by omega))
        have HS4 := Hid.mk2 (fun V => rsmall1_any nt V (show nt < 18446744073709551616 by omega))
        have HS5 := Hid.mk2 (fun V => rsmall1_any nu V (show nu < 18446744073709551616 by omega))
        have hl1 := text_len' (bl1 xk)
        have hl2 := text_len' (bl1 xv)
        rw [bl1_len] at hl1 hl2
        have hl3 := small_len nf
        have hl4 := small_len nt
        have hl5 := small_len nu
        obtain ⟨T1, hT1⟩ : ∃ q, q = text (bl1 xk) := ⟨_, rfl⟩
        obtain ⟨T2, hT2⟩ : ∃ q, q = text (bl1 xv) := ⟨_, rfl⟩
        obtain ⟨T3, hT3⟩ : ∃ q, q = small nf := ⟨_, rfl⟩
        obtain ⟨T4, hT4⟩ : ∃ q, q = small nt := ⟨_, rfl⟩
        obtain ⟨T5, hT5⟩ : ∃ q, q = small nu := ⟨_, rfl⟩
        rw [← hT1, ← hT2, ← hT3, ← hT4, ← hT5] at HPB
        rw [← hT1] at HT1 hl1
        rw [← hT2] at HT2 hl2
        rw [← hT3] at HS3 hl3
        rw [← hT4] at HS4 hl4
        rw [← hT5] at HS5 hl5
        obtain ⟨n1', e1⟩ : ∃ q, q = T1.length := ⟨_, rfl⟩
        obtain ⟨n2', e2⟩ : ∃ q, q = T2.length := ⟨_, rfl⟩
        obtain ⟨n3', e3⟩ : ∃ q, q = T3.length := ⟨_, rfl⟩
        obtain ⟨n4', e4⟩ : ∃ q, q = T4.length := ⟨_, rfl⟩
        obtain ⟨n5', e5⟩ : ∃ q, q = T5.length := ⟨_, rfl⟩
        rw [← e1] at HT1
        rw [← e2] at HT2
        rw [← e3] at HS3
        rw [← e4] at HS4
        rw [← e5] at HS5
        have HM11 := Hid.mk2 e1
        have HM12 := Hid.mk2 e2
        have HM13 := Hid.mk2 e3
        have HM14 := Hid.mk2 e4
        have HM15 := Hid.mk2 e5
        obtain ⟨tk, htk⟩ : ∃ q, q = (L.take k).flatMap Im.pb := ⟨_, rfl⟩
        rw [← htk] at HTK HF HO
        have HLX : Hid (hd.length ≤ 22 ∧ tk.length ≤ 4800 ∧ T1.length ≤ 600 ∧ T2.length ≤ 600 ∧ T3.length ≤ 600 ∧ T4.length ≤ 600 ∧ T5.length ≤ 600) := ⟨HHD.out, HTK.out, by omega, by omega, by omega, by omega, by omega⟩
        have hwf : IntKind.u64.wrap (nf : Int) = (nf : Int) := pu64w (by omega) (by omega)
        have hwt : IntKind.u64.wrap (nt : Int) = (nt : Int) := pu64w (by omega) (by omega)
        have HOk : Hid (∀ q, Value.ownBlock q = Value.ownBlock q) := fun _ => rfl
        clear hxe hcs hne hkl hT1 hT2 hT3 hT4 hT5 e1 e2 e3 e4 e5 hl1 hl2 hl3 hl4 hl5 htk g1 g2 HOk
        go_upto_region 11 with (fail)
        obtain ⟨W6, hW6⟩ : ∃ W6, W6 = wr.alloc (.cells #[.string xk, .string xv, .int .u32 (nf : Int), .int .i64 (nt : Int), .int .u64 (nu : Int)] 34) := ⟨_, rfl⟩
        have HQ10 : Hid (Bq W W6 wr.heap.size [.string xk, .string xv, .int .u32 (nf : Int), .int .i64 (nt : Int), .int .u64 (nu : Int)] u (hd ++ tk)) := by
          show Bq _ _ _ _ _ _
          rw [hW6]
          exact ⟨HO.out.alloc _, g_on HBr.out (g_alloc _ _), GBx.made wr [.string xk, .string xv, .int .u32 (nf : Int), .int .i64 (nt : Int), .int .u64 (nu : Int)] _, fun k hk e => by have := (HO.out.lt k hk).2; omega⟩
        rw [← hW6]
        clear hW6 x0 x1 x2 x3 x4 x5 x6 r0 r1 r2 r3 r4
        obtain ⟨X, hX⟩ : ∃ X, X = wr.heap.size := ⟨_, rfl⟩
        rw [← hX] at HQ10 ⊢
        clear hX
        have HXs11 := Hid.mk2 HQ10.out.box
        have x0 := HXs11.out.c 0 (by simp); have x1 := HXs11.out.c 1 (by simp); have x2 := HXs11.out.c 2 (by simp); have x3 := HXs11.out.c 3 (by simp); have x4 := HXs11.out.c 4 (by simp); simp only [List.getElem_cons_zero, List.getElem_cons_succ] at x0 x1 x2 x3 x4
        go_upto_region 12 with (first
          | (go_at_call 36; refine (HT1.out _).mono ?_; rintro e wc11 ⟨⟨p11, q11, rfl, hr11⟩, hb11⟩; have HR11 := Hid.mk2 hr11; have HQc11 := Hid.mk2 (HQ10.out.on hb11); clear hr11 hb11)
          | (at_builtin; refine g_app okY rfl _ _ _ rfl rfl W.heap.size _ _ HQc11.out.own rfl p11 q11 T1 n1' HM11.out rfl HR11.out (by have q := HLX.out; simp only [List.length_append, List.length_cons, List.length_nil]; omega) HQc11.out.below.size ?_; intro v11 w11 hO11 hG11; have HQ11 := Hid.mk2 (HQc11.out.grew hG11 hO11); clear hO11 hG11))
        clear x0 x1 x2 x3 x4
        have HXs12 := Hid.mk2 HQ11.out.box
        have x0 := HXs12.out.c 0 (by simp); have x1 := HXs12.out.c 1 (by simp); have x2 := HXs12.out.c 2 (by simp); have x3 := HXs12.out.c 3 (by simp); have x4 := HXs12.out.c 4 (by simp); simp only [List.getElem_cons_zero, List.getElem_cons_succ] at x0 x1 x2 x3 x4
        go_upto_region 13 with (first
          | (go_at_call 36; refine (HT2.out _).mono ?_; rintro e wc12 ⟨⟨p12, q12, rfl, hr12⟩, hb12⟩; have HR12 := Hid.mk2 hr12; have HQc12 := Hid.mk2 (HQ11.out.on hb12); clear hr12 hb12)
          | (at_builtin; refine g_app okY rfl _ _ _ rfl rfl W.heap.size _ _ HQc12.out.own rfl p12 q12 T2 n2' HM12.out rfl HR12.out (by have q := HLX.out; simp only [List.length_append, List.length_cons, List.length_nil]; omega) HQc12.out.below.size ?_; intro v12 w12 hO12 hG12; have HQ12 := Hid.mk2 (HQc12.out.grew hG12 hO12); clear hO12 hG12))
        clear x0 x1 x2 x3 x4
        have HXs13 := Hid.mk2 HQ12.out.box
        have x0 := HXs13.out.c 0 (by simp); have x1 := HXs13.out.c 1 (by simp); have x2 := HXs13.out.c 2 (by simp); have x3 := HXs13.out.c 3 (by simp); have x4 := HXs13.out.c 4 (by simp); simp only [List.getElem_cons_zero, List.getElem_cons_succ] at x0 x1 x2 x3 x4
        go_upto_region 14 with (first
          | (go_at_call 35; refine (HS3.out _).mono ?_; rintro e wc13 ⟨⟨p13, q13, rfl, hr13⟩, hb13⟩; have HR13 := Hid.mk2 hr13; have HQc13 := Hid.mk2 (HQ12.out.on hb13); clear hr13 hb13)
          | (at_builtin; refine g_app okY rfl _ _ _ rfl rfl W.heap.size _ _ HQc13.out.own rfl p13 q13 T3 n3' HM13.out rfl HR13.out (by have q := HLX.out; simp only [List.length_append, List.length_cons, List.length_nil]; omega) HQc13.out.below.size ?_; intro v13 w13 hO13 hG13; have HQ13 := Hid.mk2 (HQc13.out.grew hG13 hO13); clear hO13 hG13))
        clear x0 x1 x2 x3 x4
        have HXs14 := Hid.mk2 HQ13.out.box
        have x0 := HXs14.out.c 0 (by simp); have x1 := HXs14.out.c 1 (by simp); have x2 := HXs14.out.c 2 (by simp); have x3 := HXs14.out.c 3 (by simp); have x4 := HXs14.out.c 4 (by simp); simp only [List.getElem_cons_zero, List.getElem_cons_succ] at x0 x1 x2 x3 x4
        go_upto_region 15 with (first
          | (go_at_call 35; refine (HS4.out _).mono ?_; rintro e wc14 ⟨⟨p14, q14, rfl, hr14⟩, hb14⟩; have HR14 := Hid.mk2 hr14; have HQc14 := Hid.mk2 (HQ13.out.on hb14); clear hr14 hb14)
          | (at_builtin; refine g_app okY rfl _ _ _ rfl rfl W.heap.size _ _ HQc14.out.own rfl p14 q14 T4 n4' HM14.out rfl HR14.out (by have q := HLX.out; simp only [List.length_append, List.length_cons, List.length_nil]; omega) HQc14.out.below.size ?_; intro v14 w14 hO14 hG14; have HQ14 := Hid.mk2 (HQc14.out.grew hG14 hO14); clear hO14 hG14))
        clear x0 x1 x2 x3 x4
        have HXs15 := Hid.mk2 HQ14.out.box
        have x0 := HXs15.out.c 0 (by simp); have x1 := HXs15.out.c 1 (by simp); have x2 := HXs15.out.c 2 (by simp); have x3 := HXs15.out.c 3 (by simp); have x4 := HXs15.out.c 4 (by simp); simp only [List.getElem_cons_zero, List.getElem_cons_succ] at x0 x1 x2 x3 x4
        go_wp2_with (first
          | (go_at_call 35; refine (HS5.out _).mono ?_; rintro e wc15 ⟨⟨p15, q15, rfl, hr15⟩, hb15⟩; have HR15 := Hid.mk2 hr15; have HQc15 := Hid.mk2 (HQ14.out.on hb15); clear hr15 hb15)
          | (at_builtin; refine g_app okY rfl _ _ _ rfl rfl W.heap.size _ _ HQc15.out.own rfl p15 q15 T5 n5' HM15.out rfl HR15.out (by have q := HLX.out; simp only [List.length_append, List.length_cons, List.length_nil]; omega) HQc15.out.below.size ?_; intro v15 w15 hO15 hG15; have HQ15 := Hid.mk2 (HQc15.out.grew hG15 hO15); clear hO15 hG15))
        have hO := HQ15.out.own
        have hEQ : (((((hd ++ tk) ++ T1) ++ T2) ++ T3) ++ T4) ++ T5 = hd ++ (L.take (k + 1)).flatMap Im.pb := by rw [HF.out, HPB.out]; simp
        rw [hEQ] at hO
        exact ⟨⟨k + 1, _, rfl, by omega, by go_num, hO, HQ15.out.below⟩, by simp [intOf]; omega⟩
      · have hkNi : ¬ (k : Int) < (N : Int) := by omega
        have HEQ : Hid (BD = hd ++ (L.take k).flatMap Im.pb) := by show _ = _; rw [HEH.out, List.take_of_length_le (by rw [← HN.out]; omega)]
        clear HEH
        go_wp2
        go_ret
        exact HFIN.out _ _ _ HO.out HEQ.out HBr.out
  have b1 : (ak == 1) = false := by simpa using c1
  have HO1 := Hid.mk2 (HBO.out.trans (if_neg c1))
  clear HBO
  by_cases c2 : ak = 2
  · subst c2
    have HE := Hid.mk2 (HO1.out.trans (if_pos (by decide)))
    clear HO1 b1 c1
    cases ay with
    | true =>
      go_upto_region 1 with (fail)
      rw [← hW, ← hP]
      clear hW hP
      go_wp2_with (at_builtin; refine g_one (w0 := W) okY rfl _ _ _ rfl rfl W.heap.size (.slice none 0 0) [] (GOwn.nil _ _) rfl (1 : UInt8) rfl _ rfl rfl (by simp) (Nat.le_refl _) ?_; intro v1 w1 hO1 hG1; have HOw := Hid.mk2 hO1; have HBw := Hid.mk2 (hG1.below (GOwn.nil (E := EY) W W.heap.size) (Nat.le_refl _)); clear hO1 hG1)
      go_ret
      exact HFIN.out _ _ _ HOw.out HE.out HBw.out
    | false =>
      go_upto_region 1 with (fail)
      rw [← hW, ← hP]
      clear hW hP
      go_wp2_with (at_builtin; refine g_one (w0 := W) okY rfl _ _ _ rfl rfl W.heap.size (.slice none 0 0) [] (GOwn.nil _ _) rfl (0 : UInt8) rfl _ rfl rfl (by simp) (Nat.le_refl _) ?_; intro v1 w1 hO1 hG1; have HOw := Hid.mk2 hO1; have HBw := Hid.mk2 (hG1.below (GOwn.nil (E := EY) W W.heap.size) (Nat.le_refl _)); clear hO1 hG1)
      go_ret
      exact HFIN.out _ _ _ HOw.out HE.out HBw.out
  have b2 : (ak == 2) = false := by simpa using c2
  by_cases c3 : ak = 3
  · subst c3
    have HE := Hid.mk2 (HO1.out.trans (if_pos (by decide)))
    clear HO1 b1 c1 c2 b2
    cases ay with
    | true =>
      go_upto_region 1 with (fail)
      rw [← hW, ← hP]
      clear hW hP
      go_wp2_with (at_builtin; refine g_one (w0 := W) okY rfl _ _ _ rfl rfl W.heap.size (.slice none 0 0) [] (GOwn.nil _ _) rfl (1 : UInt8) rfl _ rfl rfl (by simp) (Nat.le_refl _) ?_; intro v1 w1 hO1 hG1; have HOw := Hid.mk2 hO1; have HBw := Hid.mk2 (hG1.below (GOwn.nil (E := EY) W W.heap.size) (Nat.le_refl _)); clear hO1 hG1)
      go_ret
      exact HFIN.out _ _ _ HOw.out HE.out HBw.out
    | false =>
      go_upto_region 1 with (fail)
      rw [← hW, ← hP]
      clear hW hP
      go_wp2_with (at_builtin; refine g_one (w0 := W) okY rfl _ _ _ rfl rfl W.heap.size (.slice none 0 0) [] (GOwn.nil _ _) rfl (0 : UInt8) rfl _ rfl rfl (by simp) (Nat.le_refl _) ?_; intro v1 w1 hO1 hG1; have HOw := Hid.mk2 hO1; have HBw := Hid.mk2 (hG1.below (GOwn.nil (E := EY) W W.heap.size) (Nat.le_refl _)); clear hO1 hG1)
      go_ret
      exact HFIN.out _ _ _ HOw.out HE.out HBw.out
  have b3 : (ak == 3) = false := by simpa using c3
  have HO2 := Hid.mk2 (HO1.out.trans (if_neg (fun q => q.elim c2 c3)))
  clear HO1
  by_cases c7 : ak = 7
  · subst c7
    have HE := Hid.mk2 (HO2.out.trans (if_pos rfl))
    have HKS : Hid (([] : List UInt8).length + akey.size ≤ 140737488355328) := by show _ ≤ _; have := HKY.out; simp; omega
    clear HO2 c1 c2 c3 b1 b2 b3
    go_upto_region 1 with (fail)
    rw [← hW, ← hP]
    clear hW hP
    go_wp2_with (at_builtin; refine app_text rfl (.tmp 86) (.tmp 88) rfl W.heap.size (.slice none 0 0) [] (Own.nil _ _) rfl akey rfl HKS.out (Nat.le_refl _) ?_; intro v1 w1 hO1 hG1; have HOw := Hid.mk2 (own_ofb hO1); have HBw := Hid.mk2 (hG1.below (Own.nil W W.heap.size) (Nat.le_refl _)); clear hO1 hG1)
    go_ret
    exact HFIN.out _ _ _ HOw.out HE.out HBw.out
  · have b7 : (ak == 7) = false := by simpa using c7
    have HE := Hid.mk2 (HO2.out.trans (if_neg c7))
    clear HO2 c1 c2 c3 c7
    go_upto_region 1 with (fail)
    rw [← hW, ← hP]
    clear hW hP
    go_wp2
    go_ret
    exact HFIN.out _ _ _ (GOwn.nil _ _) HE.out (Below.refl _ _)
end Go.Proofs.Ytfjcaofmcjhdpaa
