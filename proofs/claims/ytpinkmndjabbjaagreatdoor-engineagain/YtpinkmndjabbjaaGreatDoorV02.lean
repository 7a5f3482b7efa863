/-
  Package engine and what stands upon it, part V02: contracts of functions, and what they rest on.
-/
import Derived.Test.YtpinkmndjabbjaaGreatDoorU04
import Derived.Test.YtpinkmndjabbjaaGreatDoorU43
import Derived.Test.YtpinkmndjabbjaaGreatDoorU11
import Derived.Test.YtpinkmndjabbjaaGreatDoorV00
import Derived.Test.YtpinkmndjabbjaaGreatDoorU44
set_option linter.unusedSimpArgs false
set_option linter.unusedVariables false
set_option maxRecDepth 100000
namespace Go.Proofs.YtpinkmndjabbjaaGreatDoor.En
open Go.Proofs.YtpinkmndjabbjaaGreatDoor.Lr
open Go.Proofs.YtpinkmndjabbjaaGreatDoor.Qt
open Go.Proofs.YtpinkmndjabbjaaGreatDoor.Sb
open Go.RowKit Go.Proofs.YtpinkmndjabbjaaGreatDoor
set_option maxHeartbeats 8000000 in
theorem sameImage_any (clock epoch number:Int)(prim:Bool)(Q:List Int)(L:List (Int × Im))(qa qb ka kb:Option Addr)(da db ca cb:Nat)(w:World)(hqa:GRd EI w qa Q da)(hqb:GRd EI w qb Q db)(ha:GRd EK w ka L ca)(hb:GRd EK w kb L cb):
  Calls Tryz.prog 24 #[.agg (imB clock (.slice qa Q.length da) (.slice ka L.length ca) epoch number prim).toArray,.agg (imB clock (.slice qb Q.length db) (.slice kb L.length cb) epoch number prim).toArray] w fun e w'=>e=.returned (.bool true)∧Below w.heap.size w w':=by
 unfold imB
 obtain ⟨W,hW⟩:∃ W,W=(w.alloc (.cells #[.int .i64 clock,.slice qa Q.length da,.slice ka L.length ca,.int .i64 epoch,.int .i64 number,.bool prim] 41)).alloc (.cells #[.int .i64 clock,.slice qb Q.length db,.slice kb L.length cb,.int .i64 epoch,.int .i64 number,.bool prim] 41):=⟨_,rfl⟩
 have HB:Hid (Below w.heap.size w W):=by rw [hW];exact g_on (g_alloc _ _) (g_alloc _ _)
 have HX:Hid (GBx W w.heap.size [.int .i64 clock,.slice qa Q.length da,.slice ka L.length ca,.int .i64 epoch,.int .i64 number,.bool prim]):=by rw [hW];exact (GBx.made w [.int .i64 clock,.slice qa Q.length da,.slice ka L.length ca,.int .i64 epoch,.int .i64 number,.bool prim] _).alloc _
 have HY:Hid (GBx W (w.heap.size+1) [.int .i64 clock,.slice qb Q.length db,.slice kb L.length cb,.int .i64 epoch,.int .i64 number,.bool prim]):=by
  rw [hW]
  have:=GBx.made (w.alloc (.cells #[.int .i64 clock,.slice qa Q.length da,.slice ka L.length ca,.int .i64 epoch,.int .i64 number,.bool prim] 41)) [.int .i64 clock,.slice qb Q.length db,.slice kb L.length cb,.int .i64 epoch,.int .i64 number,.bool prim] 41
  rw [show (w.alloc (.cells #[.int .i64 clock,.slice qa Q.length da,.slice ka L.length ca,.int .i64 epoch,.int .i64 number,.bool prim] 41)).heap.size=w.heap.size+1 by simp] at this
  exact this
 have HQA:=Hid.m (hqa.below HB.out)
 have HQB:=Hid.m (hqb.below HB.out)
 have HA:=Hid.m (ha.below HB.out)
 have HC:=Hid.m (hb.below HB.out)
 have hlen:=ha.len
 have hlenq:=hqa.len
 clear ha hb hqa hqb
 have x0:=HX.out.c 0 (by simp)
 have x1:=HX.out.c 1 (by simp)
 have x2:=HX.out.c 2 (by simp)
 have x3:=HX.out.c 3 (by simp)
 have x4:=HX.out.c 4 (by simp)
 have x5:=HX.out.c 5 (by simp)
 have y0:=HY.out.c 0 (by simp)
 have y1:=HY.out.c 1 (by simp)
 have y2:=HY.out.c 2 (by simp)
 have y3:=HY.out.c 3 (by simp)
 have y4:=HY.out.c 4 (by simp)
 have y5:=HY.out.c 5 (by simp)
 simp only [List.getElem_cons_zero,List.getElem_cons_succ] at x0 x1 x2 x3 x4 x5 y0 y1 y2 y3 y4 y5
 have hlt:=HX.out.lt
 have hlt1:=HY.out.lt
 clear HX HY
 go_enter Tryz.func24,Tryz.ntmps24
 go_upto_region 1 with (fail)
 rw [← hW]
 clear hW
 go_wp2
 go_loopw [5] (fun i wr=>∃ k n:Nat,k≤Q.length∧i=.int .i64 k∧wr=W.drewN n) (fun i _=>Q.length - (intOf i).toNat)
 case atStart=>exact ⟨0,0,Nat.zero_le _,rfl,rfl⟩
 case round=>
  obtain ⟨k,n,hk,rfl,rfl⟩:=hrel
  by_cases hkl:k<Q.length
  ·have hkl2:(k:Int)<(Q.length:Int):=by omega
   have hne:Q≠[]:=by intro e;rw [e] at hkl;simp at hkl
   obtain ⟨b,off,rfl,hbl,hcs⟩:=HQA.out.int hne
   obtain ⟨b',off',rfl,hbl',hcs'⟩:=HQB.out.int hne
   have r0:=hcs k hkl
   have s0:=hcs' k hkl
   obtain ⟨p,hpe⟩:∃ p,p=Q[k]:=⟨_,rfl⟩
   rw [← hpe] at r0 s0
   clear hcs hcs' hne hpe
   go_wp2
   go_quiet (fail)
   go_wp2
   go_roundw
   case rel=>exact ⟨k+1,_,by omega,by go_num,by first | rfl | exact World.drewN_drewN _ _ _⟩
   case measure=>simp [intOf];omega
  ·have hkl2:¬ ((k:Int)<(Q.length:Int)):=by omega
   go_wp2
   go_loopw [6] (fun i wr=>∃ k n:Nat,k≤L.length∧i=.int .i64 k∧wr=W.drewN n) (fun i _=>L.length - (intOf i).toNat)
   case atStart=>exact ⟨0,n,Nat.zero_le _,rfl,rfl⟩
   case round=>
    obtain ⟨k2,n2,hk2,rfl,rfl⟩:=hrel
    by_cases hkm:k2<L.length
    ·have hkm2:(k2:Int)<(L.length:Int):=by omega
     have hne:L≠[]:=by intro e;rw [e] at hkm;simp at hkm
     obtain ⟨b,off,rfl,hbl,hcs⟩:=HA.out.kp hne
     obtain ⟨b',off',rfl,hbl',hcs'⟩:=HC.out.kp hne
     obtain ⟨r0,r1,r2,r3,r4,r5⟩:=hcs k2 hkm
     obtain ⟨s0,s1,s2,s3,s4,s5⟩:=hcs' k2 hkm
     obtain ⟨p,hpe⟩:∃ p,p=L[k2]:=⟨_,rfl⟩
     rw [← hpe] at r0 r1 r2 r3 r4 r5 s0 s1 s2 s3 s4 s5
     clear hcs hcs' hne hpe
     go_wp2
     go_quiet (fail)
     go_wp2
     go_roundw
     case rel=>exact ⟨k2+1,_,by omega,by go_num,by first | rfl | exact World.drewN_drewN _ _ _⟩
     case measure=>simp [intOf];omega
    ·have hkm2:¬ ((k2:Int)<(L.length:Int)):=by omega
     go_wp2
     go_ret
     exact ⟨rfl,g_quiet_on n2 HB.out⟩
end Go.Proofs.YtpinkmndjabbjaaGreatDoor.En
namespace Go.Proofs.YtpinkmndjabbjaaGreatDoor.En
open Go.Proofs.YtpinkmndjabbjaaGreatDoor.It
open Go.Proofs.YtpinkmndjabbjaaGreatDoor.Lr
open Go.Proofs.YtpinkmndjabbjaaGreatDoor.Qt
open Go.Proofs.YtpinkmndjabbjaaGreatDoor.Sb
open Go.RowKit Go.Proofs.YtpinkmndjabbjaaGreatDoor
theorem loads_at:∀ {l:List (Int × Im)} {s:Sh},(s.loads l).2=0→∀ j (hj:j<l.length),∃ z:Nat × Nat,(s.loads (l.take j)).1.mayL l[j].1 l[j].2=true∧(s.loads (l.take j)).1.spot l[j].1 l[j].2=some z∧(s.loads (l.take (j+1))).1=(s.loads (l.take j)).1.putAt l[j].1 l[j].2 z.1 z.2 (max (s.loads (l.take j)).1.last l[j].2.unique)
 | [],s,h,j,hj=>by simp at hj
 | (t,x)::l,s,h,j,hj=>by
  rw [Sh.loads] at h
  by_cases hm:s.mayL t x=true
  ·rw [if_pos hm] at h
   cases e:s.spot t x with
   | none=>rw [e] at h;exact absurd h (by simp)
   | some z=>
    rw [e] at h
    simp only at h
    cases j with
    | zero=>
     refine ⟨z,?_,?_,?_⟩
     ·simpa [Sh.loads] using hm
     ·simpa [Sh.loads] using e
     ·simp [Sh.loads,hm,e]
    | succ j=>
     have hj2:j<l.length:=by simpa using hj
     obtain ⟨y,h1,h2,h3⟩:=loads_at h j hj2
     have e2:∀ m,s.loads (((t,x)::l).take (m+1))=(s.putAt t x z.1 z.2 (max s.last x.unique)).loads (l.take m):=by
      intro m
      rw [List.take_succ_cons,Sh.loads,if_pos hm,e]
     refine ⟨y,?_,?_,?_⟩
     ·rw [e2];simpa using h1
     ·rw [e2];simpa using h2
     ·rw [e2,e2];simpa using h3
  ·rw [if_neg hm] at h
   exact absurd h (by simp)
theorem putAt_last (s:Sh)(t:Int)(X:Im)(i k:Nat)(l l':Int):s.putAt t X i k l'={ s.putAt t X i k l with last:=l' }:=rfl
theorem RepA.setLast {x:Ra}{s:Sh}(h:RepA x s)(l:Int):RepA { x with last:=l } { s with last:=l }:=⟨h.quo,h.now,h.pages,h.ord,rfl⟩
theorem RepB.setLast {x:Ra}{s:Sh}(h:RepB x s)(l:Int):RepB { x with last:=l } { s with last:=l }:=⟨h.T,h.L,h.kl,h.kept,h.row⟩
theorem max_b (a b:Int):(if a<b then b else a)=max a b:=by split <;> omega
set_option maxHeartbeats 4000000 in
theorem load_m {N:Nat}{A:Ad}{s:Sh}{x:Ra}{F:Cp→Nat→Prop}{w:World}(I:Inv s)(hE:Eg N w A x F)(RA:RepA x s)(RB:RepB x s){t:Nat}{X:Im}(hmay:s.mayL (t:Int) X=true){i k:Nat}(hs:s.spot (t:Int) X=some (i,k))(hN:N<100000000):
  Calls Tryz.prog 64 #[ptr A.b,.agg (EK.cells ((t:Int),X)).toArray] w fun e w'=>e=.returned (.int .i64 0)∧∃ F',Mv (N+2) A (s.putAt t X i k (max s.last X.unique)) F w w' F':=by
 have mixed:Tryz.prog.follows .mixedOrders=true:=by kernel_rfl
 obtain ⟨ht,hX,hd,hn⟩:=mayL_parts hmay
 have hat:s.at (t:Int) X.key=none:=by
  unfold Sh.mayL at hmay
  simp only [Bool.and_eq_true,Option.isNone_iff_eq_none] at hmay
  exact hmay.2
 have htl:t<s.quotas.length:=by omega
 obtain ⟨h1,h2,h3,h4⟩:=spot_ok I htl hs
 have hXk:1≤X.key.size∧X.key.size≤32∧X.value.size≤512:=by
  have:=hX.1
  unfold okI at this
  simp only [Bool.and_eq_true,decide_eq_true_eq] at this
  exact this.1
 have hok:okN ((t:Int),X.key):=⟨by show (0:Int)≤(t:Int);omega,by show (t:Int)<4;omega,hXk.1,hXk.2.1⟩
 have hc:=cls_lt X
 have hcE:(((cls X).toNat:Nat):Int)=cls X:=Int.toNat_of_nonneg hc.1
 obtain ⟨W,hW⟩:∃ W,W=w.alloc (.cells #[.int .i64 (t:Int),.string X.key,.string X.value,.int .u32 X.flags,.int .i64 X.till,.int .u64 X.unique] 141):=⟨_,rfl⟩
 have hBW:Below w.heap.size w W:=by rw [hW];exact g_alloc _ _
 have hBX:GBx W w.heap.size [.int .i64 (t:Int),.string X.key,.string X.value,.int .u32 X.flags,.int .i64 X.till,.int .u64 X.unique]:=by rw [hW];exact GBx.made w _ _
 have HNU:Hid (¬ Un F w.heap.size):=fun hu=>by have:=hE.un _ hu;omega
 have HCO:=Hid.m (fun W0=>classOf_good X hX W0)
 have HHQ:Hid (∀ W0,Below w.heap.size w W0→Calls Tryz.prog 45 #[ptr A.b,.int .i64 (t:Int)] W0 fun e w'=>e=.returned (.bool true)∧w'=W0):=fun W0 hb=>by
  have:=ehasQ_any (hE.below hb) (t:Int)
  rw [RA.quo,show decide (0≤(t:Int)∧(t:Int)<(s.quotas.length:Int))=true by simp;omega] at this
  exact this
 have HNW:Hid (∀ W0,Below w.heap.size w W0→Calls Tryz.prog 47 #[ptr A.b] W0 fun e w'=>e=.returned (.int .i64 s.now)∧w'=W0):=fun W0 hb=>by
  have:=enow_any (hE.below hb)
  rw [RA.now] at this
  exact this
 have HDU:=Hid.m (fun W0=>due_any X s.now W0)
 rw [hd] at HDU
 have HNM:=Hid.m (fun W0=>enameOf_any ((t:Int),X) W0)
 have HFD:Hid (∀ W0,Below w.heap.size w W0→_):=fun W0 hb=>find_none I (hE.below hb) RA RB hok hat
 have HTK:Hid (∀ (w7:World) (F7:Cp→Nat→Prop) (x7:Ra),Eg N w7 A x7 F7→RepA x7 s→Calls Tryz.prog 113 #[ptr A.b,.int .i64 (t:Int),.int .i64 (cls X)] w7 fun e w'=>e=.returned (.tuple #[.int .i64 (i * 16+k:Nat),.bool true])∧∃ F',Lv N A { x7.taken t (cls X) i k with last:=x7.last } F7 w7 w' F'):=fun w7 F7 x7 h7 r7=>by
  have:=take_l h7 (tks_of I r7 htl X) (i:=i) (k:=k) (by rw [hcE,r7.pages];exact hs) (by rw [r7.pages];exact h1) h2
  rw [hcE] at this
  exact this
 have HSD:Hid (∀ (w8:World) (F8:Cp→Nat→Prop) (x7:Ra),RepA x7 s→RepB x7 s→Eg N w8 A { x7.taken t (cls X) i k with last:=x7.last } F8→Calls Tryz.prog 114 #[ptr A.b,.int .i64 (i * 16+k:Nat),.agg (EK.cells ((t:Int),X)).toArray] w8 fun e w'=>e=.returned (.tuple #[])∧∃ F' x9,Lv (N+2) A x9 F8 w8 w' F'∧RepA x9 (s.putAt t X i k s.last)∧RepB x9 (s.putAt t X i k s.last)):=fun w8 F8 x7 rA rB h8=>by
  refine (stand_m I rA rB htl hX hd hn hs hN x7.last h8).mono ?_
  rintro e w' ⟨rfl,F',hL⟩
  obtain ⟨q1,q2⟩:=rep_stand I rA rB htl hX hn hs x7.last
  rw [rA.last] at q1 q2 hL
  exact ⟨rfl,F',_,hL,q1,q2⟩
 obtain ⟨pl,hpl⟩:∃ pl,pl=i * 16+k:=⟨_,rfl⟩
 rw [← hpl] at HTK HSD
 obtain ⟨B,hB⟩:∃ B,B=w.heap.size:=⟨_,rfl⟩
 have HBB:=Hid.m hB
 rw [← hB] at hBX HNU
 have HBX:=Hid.m hBX
 have HBW:=Hid.m hBW
 obtain ⟨cX,hcX⟩:∃ cX,cX=cls X:=⟨_,rfl⟩
 rw [← hcX] at HCO HTK HSD
 have HCX:=Hid.m hcX
 have HUQ:Hid (s.putAt t X i k (max s.last X.unique)={ s.putAt t X i k s.last with last:=max s.last X.unique }):=putAt_last s t X i k s.last _
 obtain ⟨now,hnow⟩:∃ now,now=s.now:=⟨_,rfl⟩
 rw [← hnow] at HNW HDU
 have o0:=hBX.c 0 (by simp)
 have o1:=hBX.c 1 (by simp)
 have o2:=hBX.c 2 (by simp)
 have o3:=hBX.c 3 (by simp)
 have o4:=hBX.c 4 (by simp)
 have o5:=hBX.c 5 (by simp)
 have ol:=hBX.lt
 simp only [List.getElem_cons_zero,List.getElem_cons_succ] at o0 o1 o2 o3 o4 o5
 have HE:=Hid.m hE
 clear hE RA RB hmay ht hX hd hn hat h1 h2 h3 h4 hXk hok hc hcE hBX hBW hpl hnow hs hcX htl
 simp only [EK] at HNM HSD ⊢
 unfold ptr at HHQ HNW HFD HTK HSD ⊢
 unfold Im.v at HCO HDU
 go_enter Tryz.func64,Tryz.ntmps64
 go_upto_region 1 with (fail)
 rw [← hW,← hB]
 clear hW hB
 go_upto_region 2 with (go_at_call 111;refine (HCO.out W).mono ?_;rintro e w1 ⟨rfl,hb1⟩;have HB1:=Hid.m hb1;clear hb1)
 have HX1:=Hid.m (HBX.out.below HB1.out)
 have HBw1:=Hid.m (g_on HBW.out HB1.out)
 clear o0 o1 o2 o3 o4 o5 ol
 have o0:=HX1.out.c 0 (by simp)
 have o1:=HX1.out.c 1 (by simp)
 have o2:=HX1.out.c 2 (by simp)
 have o3:=HX1.out.c 3 (by simp)
 have o4:=HX1.out.c 4 (by simp)
 have o5:=HX1.out.c 5 (by simp)
 simp only [List.getElem_cons_zero,List.getElem_cons_succ] at o0 o1 o2 o3 o4 o5
 have d0:∀ p:Beh w1,_:=cell_beh (a:=⟨B,0,none⟩) HX1.out.lt o0
 have d1:∀ p:Beh w1,_:=cell_beh (a:=⟨B,1,none⟩) HX1.out.lt o1
 have d2:∀ p:Beh w1,_:=cell_beh (a:=⟨B,2,none⟩) HX1.out.lt o2
 have d3:∀ p:Beh w1,_:=cell_beh (a:=⟨B,3,none⟩) HX1.out.lt o3
 have d4:∀ p:Beh w1,_:=cell_beh (a:=⟨B,4,none⟩) HX1.out.lt o4
 have d5:∀ p:Beh w1,_:=cell_beh (a:=⟨B,5,none⟩) HX1.out.lt o5
 clear o0 o1 o2 o3 o4 o5
 refine wp_region_quiet_beh (by assumption) (by kernel_rfl) ?_
 repeat (first | go_big_quiet_skip | (quiet_step (first | (go_at_call 45;exact Calls.beh_same (HHQ.out _ (g_on HBw1.out (Beh.ok _)))) | (go_at_call 47;exact Calls.beh_same (HNW.out _ (g_on HBw1.out (Beh.ok _)))) | (go_at_call 72;exact Calls.beh_of (HDU.out _)))))
 refine wpQuiet_nil ?_
 intro w5 hw'
 obtain ⟨⟨wq,hq5⟩,hw''⟩:=hw'
 subst hw''
 have HX5:=Hid.m (HX1.out.below hq5)
 have HBw5:=Hid.m (g_on HBw1.out hq5)
 clear d0 d1 d2 d3 d4 d5 hq5
 have o0:=HX5.out.c 0 (by simp)
 have o1:=HX5.out.c 1 (by simp)
 have o2:=HX5.out.c 2 (by simp)
 have o3:=HX5.out.c 3 (by simp)
 have o4:=HX5.out.c 4 (by simp)
 have o5:=HX5.out.c 5 (by simp)
 have ol:=HX5.out.lt
 simp only [List.getElem_cons_zero,List.getElem_cons_succ] at o0 o1 o2 o3 o4 o5
 go_upto_region 7 with (first
  | (go_at_call 112;go_must (refine (HNM.out _).mono ?_);rintro e w6 ⟨rfl,hb6⟩;have HX6:=Hid.m (HX5.out.below hb6);have HBw6:=Hid.m (g_on HBw5.out hb6);clear hb6)
  | (go_at_call 50;refine (HFD.out w6 HBw6.out).mono ?_;rintro e w7 ⟨rfl,F7,hm7⟩;have HM7:=Hid.m (hm7.from HBw6.out);have hbx:=hm7.box HX6.out HNU.out;have HX7:=Hid.m hbx.1;have HNU7:=Hid.m hbx.2;clear hm7 hbx))
 clear o0 o1 o2 o3 o4 o5 ol
 obtain ⟨x7,hL7,rA7,rB7⟩:=HM7.out
 have HTK7:=Hid.m (HTK.out w7 F7 x7 hL7.eg rA7)
 have HSD7:=Hid.m (fun (w8:World) (F8:Cp→Nat→Prop)=>HSD.out w8 F8 x7 rA7 rB7)
 have HL7:=Hid.m hL7
 clear hL7 rA7 rB7 HTK HSD
 have o0:=HX7.out.c 0 (by simp)
 have ol:=HX7.out.lt
 simp only [List.getElem_cons_zero,List.getElem_cons_succ] at o0
 go_upto_region 10 with (go_at_call 113;refine HTK7.out.mono ?_;rintro e w8 ⟨rfl,F8,hL8⟩;have hbx:=hL8.box HX7.out HNU7.out;have HX8:=Hid.m hbx.1;have HNU8:=Hid.m hbx.2;have HL8:=Hid.m (HL7.out.trans hL8);clear hL8 hbx)
 clear o0 ol
 have o0:=HX8.out.c 0 (by simp)
 have o1:=HX8.out.c 1 (by simp)
 have o2:=HX8.out.c 2 (by simp)
 have o3:=HX8.out.c 3 (by simp)
 have o4:=HX8.out.c 4 (by simp)
 have o5:=HX8.out.c 5 (by simp)
 have ol:=HX8.out.lt
 simp only [List.getElem_cons_zero,List.getElem_cons_succ] at o0 o1 o2 o3 o4 o5
 go_upto_region 11 with (go_at_call 114;refine (HSD7.out w8 F8 HL8.out.eg).mono ?_;rintro e w9 ⟨rfl,F9,x9,hL9,rA9,rB9⟩;have hbx:=hL9.box HX8.out HNU8.out;have HX9:=Hid.m hbx.1;have HL9:=Hid.m (HL8.out.trans hL9);have HR9:Hid (RepA x9 (s.putAt t X i k s.last)∧RepB x9 (s.putAt t X i k s.last)):=⟨rA9,rB9⟩;clear hL9 hbx rA9 rB9)
 clear o0 o1 o2 o3 o4 o5 ol
 obtain ⟨V9,hV9⟩:=HL9.out.eg
 have hl9:x9.last=s.last:=HR9.out.1.last
 have y26:=hV9.c26
 rw [hl9] at y26
 have yf:=hV9.f 26
 have yl:=hV9.lt
 have u5:=HX9.out.c 5 (by simp)
 have ul:=HX9.out.lt
 simp only [List.getElem_cons_zero,List.getElem_cons_succ] at u5
 obtain ⟨F10,hL10⟩:=hV9.last (w1:=w9) (Below.refl _ _) (max s.last X.unique)
 have HL10:=Hid.m ((HL9.out.trans hL10).below (Below.refl _ _).drew)
 have HR10:Hid (RepA { x9 with last:=max s.last X.unique } (s.putAt t X i k (max s.last X.unique))∧RepB { x9 with last:=max s.last X.unique } (s.putAt t X i k (max s.last X.unique))):=by
  rw [HUQ.out]
  exact ⟨HR9.out.1.setLast _,HR9.out.2.setLast _⟩
 have HFIN:Hid (∃ F',Mv (N+2) A (s.putAt t X i k (max s.last X.unique)) F w (w9.setCell ⟨A.b,26,none⟩ (.int .u64 (max s.last X.unique))).drew F'):=⟨F10,_,HL10.out,HR10.out.1,HR10.out.2⟩
 clear hV9 hl9 hL10 HL10 HR10 HUQ
 go_region
 all_goals (go_wp2;go_ret;exact ⟨rfl,HFIN.out⟩)
end Go.Proofs.YtpinkmndjabbjaaGreatDoor.En
namespace Go.Proofs.YtpinkmndjabbjaaGreatDoor.En
open Go.Proofs.YtpinkmndjabbjaaGreatDoor.It
open Go.Proofs.YtpinkmndjabbjaaGreatDoor.Lr
open Go.Proofs.YtpinkmndjabbjaaGreatDoor.Qt
open Go.Proofs.YtpinkmndjabbjaaGreatDoor.Sb
open Go.RowKit Go.Proofs.YtpinkmndjabbjaaGreatDoor
def LoadS (s0:Sh)(w w':World)(A:Ad):Prop:=∃ F x s',Eg 600 w' A x F∧RepA x s'∧RepB x s'∧Inv s'∧s'.img=s0.img∧s'.quotas=s0.quotas∧(∀ k,Un F k→w.heap.size≤k)∧Below w.heap.size w w'
theorem Mv.mono {N N':Nat}{A:Ad}{s1:Sh}{F F1:Cp→Nat→Prop}{w w1:World}(h:Mv N A s1 F w w1 F1)(hN:N≤N'):Mv N' A s1 F w w1 F1:=by
 obtain ⟨x1,h1,a,b⟩:=h
 exact ⟨x1,h1.mono hN,a,b⟩
theorem load_q {N:Nat}{A:Ad}{s:Sh}{F F1:Cp→Nat→Prop}{w w1:World}(I:Inv s)(h:Mv N A s F w w1 F1){z:Int × Im}(hmay:s.mayL z.1 z.2=true){y:Nat × Nat}(hs:s.spot z.1 z.2=some y)(hN:N<100000000):
  Calls Tryz.prog 64 #[ptr A.b,.agg (EK.cells z).toArray] w1 fun e w'=>e=.returned (.int .i64 0)∧∃ F',Mv (N+2) A (s.putAt z.1 z.2 y.1 y.2 (max s.last z.2.unique)) F1 w1 w' F':=by
 obtain ⟨x,hL,RA,RB⟩:=h
 obtain ⟨t,X⟩:=z
 have ht:=(mayL_parts hmay).1
 obtain ⟨n,rfl⟩:∃ n:Nat,t=(n:Int):=⟨t.toNat,by dsimp only at ht;omega⟩
 exact load_m I hL.eg RA RB hmay (i:=y.1) (k:=y.2) hs hN
set_option maxHeartbeats 8000000 in
theorem loads_m {s0:Sh}(I0:Inv s0)(qo:Option Addr)(qc:Nat)(ko:Option Addr)(kc:Nat)(w:World)(hQ:GRd EI w qo s0.quotas qc)(hK:GRd EK w ko s0.kept kc):
  Calls Tryz.prog 22 #[.int .i64 (s0.pages.length:Nat),.agg (imB s0.now (.slice qo s0.quotas.length qc) (.slice ko s0.kept.length kc) 0 0 false).toArray] w fun e w'=>∃ A,e=.returned (.tuple #[ptr A.b,.int .i64 0])∧LoadS s0 w w' A:=by
 obtain ⟨hag1,hag2,hag3⟩:=again I0
 have hN0:=new_inv I0.quo I0.mom
 obtain ⟨W,hW⟩:∃ W,W=w.alloc (.cells #[.int .i64 s0.now,.slice qo s0.quotas.length qc,.slice ko s0.kept.length kc,.int .i64 0,.int .i64 0,.bool false] 41):=⟨_,rfl⟩
 have hBW:Below w.heap.size w W:=by rw [hW];exact g_alloc _ _
 have hBX:GBx W w.heap.size [.int .i64 s0.now,.slice qo s0.quotas.length qc,.slice ko s0.kept.length kc,.int .i64 0,.int .i64 0,.bool false]:=by rw [hW];exact GBx.made w _ _
 have HNW:=Hid.m (new_m s0.pages.length s0.quotas s0.now qo qc W I0.quo I0.mom (hQ.below hBW))
 obtain ⟨l,hl⟩:∃ l,l=s0.kept:=⟨_,rfl⟩
 obtain ⟨st,hst⟩:∃ st:Nat→Sh,st=fun j=>((Sh.new s0.pages.length s0.quotas s0.now).loads (l.take j)).1:=⟨_,rfl⟩
 have hlen:l.length≤256:=by
  rw [hl]
  have:=I0.many
  show (s0.held.map _).length≤_
  rw [List.length_map]
  exact this
 have HIJ:Hid (∀ j,Inv (st j)):=fun j=>by rw [hst];exact (loads_inv (l.take j) hN0).1.inv
 have HZ:Hid (st 0=Sh.new s0.pages.length s0.quotas s0.now):=by rw [hst];rfl
 have HAT:Hid (∀ j (hj:j<l.length),∃ z:Nat × Nat,(st j).mayL l[j].1 l[j].2=true∧(st j).spot l[j].1 l[j].2=some z∧st (j+1)=(st j).putAt l[j].1 l[j].2 z.1 z.2 (max (st j).last l[j].2.unique)):=fun j hj=>by
  rw [hst]
  exact loads_at (by rw [hl];exact hag1) j hj
 have HEN:Hid ((st l.length).img=s0.img∧(st l.length).quotas=s0.quotas):=by
  rw [hst]
  simp only [List.take_length]
  rw [hl]
  exact ⟨hag2,hag3⟩
 have HKR:=Hid.m hK
 rw [← hl] at HKR
 have hkl:∀ a,ko=some a→l≠[]→a.block<w.heap.size:=by
  intro a ha hne
  obtain ⟨b2,f2,e2,hb2,_⟩:=HKR.out.lies hne
  rw [ha] at e2
  rw [Option.some.inj e2]
  exact hb2
 have HKL:=Hid.m hkl
 rw [← hl] at hBX hW
 unfold imB
 rw [← hl]
 obtain ⟨B,hB⟩:∃ B,B=w.heap.size:=⟨_,rfl⟩
 have HBB:=Hid.m hB
 rw [← hB] at hBX
 have HBX:=Hid.m hBX
 have HBW:=Hid.m hBW
 obtain ⟨Q,hQe⟩:∃ Q,Q=s0.quotas.length:=⟨_,rfl⟩
 have o0:=hBX.c 0 (by simp)
 have o1:=hBX.c 1 (by simp)
 have o2:=hBX.c 2 (by simp)
 have ol:=hBX.lt
 simp only [List.getElem_cons_zero,List.getElem_cons_succ] at o0 o1 o2
 clear hag1 hag2 hag3 hN0 hBX hBW hQ hK hst hl hkl I0 hQe
 unfold ptr at HNW ⊢
 go_enter Tryz.func22,Tryz.ntmps22
 go_upto_region 1 with (fail)
 rw [← hW,← hB]
 clear hW hB
 go_upto_region 4 with (go_at_call 11;refine HNW.out.mono ?_;rintro e w1 ⟨A,rfl,hS⟩;have HS:=Hid.m hS;clear hS)
 obtain ⟨F,x,hE1,rA1,rB1,hF1,hb1⟩:=HS.out
 have HX1:=Hid.m (HBX.out.below hb1)
 have HB1:=Hid.m (g_on HBW.out hb1)
 have HF1:Hid (∀ k,Un F k→w.heap.size≤k):=fun k hk=>Nat.le_trans HBW.out.size (hF1 k hk)
 have HM0:Hid (Mv (2 * 0) A (st 0) F w1 w1 F):=by
  rw [HZ.out]
  exact ⟨x,Lv.refl hE1,rA1,rB1⟩
 clear o0 o1 o2 ol hE1 rA1 rB1 hF1 hb1 HS
 have o2:=HX1.out.c 2 (by simp)
 have ol:=HX1.out.lt
 simp only [List.getElem_cons_zero,List.getElem_cons_succ] at o2
 go_wp2
 clear o2 ol
 obtain ⟨n,hn⟩:∃ n,n=l.length:=⟨_,rfl⟩
 have HN:=Hid.m hn
 rw [← hn] at hlen HEN ⊢
 clear hn
 go_loopw [9,10,26] (fun _ _ i wr=>∃ (j:Nat) (Fj:Cp→Nat→Prop),j≤n∧i=.int .i64 j∧Hid (Mv (2 * j) A (st j) F w1 wr Fj)∧Hid (Below w.heap.size w wr)∧Hid (∀ k,Un Fj k→w.heap.size≤k)) (fun _ _ i _=>n - (intOf i).toNat)
 case atStart=>exact ⟨0,F,Nat.zero_le _,rfl,HM0,HB1,HF1⟩
 case round=>
  clear HM0
  obtain ⟨j,Fj,hj,rfl,HM,HBj,HFj⟩:=hrel
  by_cases hjn:j<n
  ·have hjn2:(j:Int)<(n:Int):=by omega
   have hjl:j<l.length:=by have:=HN.out;omega
   obtain ⟨b,off,hko,hbl,hcs⟩:=(HKR.out.below HBj.out).kp (by intro e;rw [e] at hjl;simp at hjl)
   obtain ⟨r0,r1,r2,r3,r4,r5⟩:=hcs j hjl
   obtain ⟨y,m1,m2,m3⟩:=HAT.out j hjl
   have HLD:=Hid.m (fun (w2:World) (F2:Cp→Nat→Prop) (hm:Mv (2 * j) A (st j) F w1 w2 F2)=>load_q (HIJ.out j) hm m1 m2 (by omega))
   rw [← m3] at HLD
   obtain ⟨z,hz⟩:∃ z,z=l[j]:=⟨_,rfl⟩
   rw [← hz] at r0 r1 r2 r3 r4 r5 HLD
   clear hcs m1 m2 m3 hz
   subst hko
   simp only [EK] at HLD
   unfold ptr at HLD
   obtain ⟨w2,hw2⟩:∃ w2,w2=wr.alloc (.cells #[.int .i64 z.1,.string z.2.key,.string z.2.value,.int .u32 z.2.flags,.int .i64 z.2.till,.int .u64 z.2.unique] 141):=⟨_,rfl⟩
   have HM2:Hid (Mv (2 * j) A (st j) F w1 w2 Fj):=by rw [hw2];exact HM.out.below (g_alloc _ _)
   have HB2:Hid (Below w.heap.size w w2):=by rw [hw2];exact g_on HBj.out (g_alloc _ _)
   have hX2:GBx w2 wr.heap.size [.int .i64 z.1,.string z.2.key,.string z.2.value,.int .u32 z.2.flags,.int .i64 z.2.till,.int .u64 z.2.unique]:=by rw [hw2];exact GBx.made wr _ _
   go_upto_region 7 with (fail)
   rw [← hw2]
   clear hw2 r0 r1 r2 r3 r4 r5 hbl
   have o0:=hX2.c 0 (by simp)
   have o1:=hX2.c 1 (by simp)
   have o2:=hX2.c 2 (by simp)
   have o3:=hX2.c 3 (by simp)
   have o4:=hX2.c 4 (by simp)
   have o5:=hX2.c 5 (by simp)
   have ol:=hX2.lt
   simp only [List.getElem_cons_zero,List.getElem_cons_succ] at o0 o1 o2 o3 o4 o5
   clear hX2
   go_wp2_with (go_at_call 64;refine (HLD.out w2 Fj HM2.out).mono ?_;rintro e w3 ⟨rfl,F3,hm3⟩;have HM3:=Hid.m (HM2.out.trans' hm3);obtain ⟨x3,hL3,-,-⟩:=hm3;have HK3:=Hid.m hL3.un;have HS3:=Hid.m hL3.subU;clear hL3)
   clear o0 o1 o2 o3 o4 o5 ol
   have HB3:Hid (Below w.heap.size w w3):=HB2.out.trans (HK3.out.below HFj.out HB2.out.size)
   have HF3:Hid (∀ k,Un F3 k→w.heap.size≤k):=fun k hk=>by
    rcases HS3.out k hk with h9 | h9
    ·exact HFj.out k h9
    ·exact Nat.le_trans HB2.out.size h9
   go_roundw
   case rel=>exact ⟨j+1,F3,by omega,by go_num,by show Mv _ _ _ _ _ _ _;exact HM3.out,HB3,HF3⟩
   case measure=>simp [intOf];omega
  ·have hjn3:¬ ((j:Int)<(n:Int)):=by omega
   have hje:j=n:=by omega
   have HFI:Hid (LoadS s0 w wr A):=by
    have hm:=HM.out
    rw [hje] at hm
    obtain ⟨xn,hLn,rAn,rBn⟩:=hm
    exact ⟨Fj,xn,st n,hLn.eg.mono (by omega),rAn,rBn,HIJ.out n,HEN.out.1,HEN.out.2,HFj.out,HBj.out⟩
   clear hje HM
   go_wp2
   try simp only [Exit.inBlock,Exit.then]
   go_ret2
   exact ⟨A,rfl,HFI.out⟩
def Lds (R:Nat→World→Value→Sh→(Nat→Prop)→Prop):Prop:=∀ {s0:Sh} (I0:Inv s0) (qo:Option Addr) (qc:Nat) (ko:Option Addr) (kc:Nat) (w:World) (hQ:GRd EI w qo s0.quotas qc) (hK:GRd EK w ko s0.kept kc),
  Calls Tryz.prog 22 #[.int .i64 (s0.pages.length:Nat),.agg (imB s0.now (.slice qo s0.quotas.length qc) (.slice ko s0.kept.length kc) 0 0 false).toArray] w fun x w'=>∃ e F' s',x=.returned (.tuple #[e,.int .i64 0])∧R 0 w' e s' F'∧s'.img=s0.img∧s'.quotas=s0.quotas∧(∀ k,F' k→w.heap.size≤k)∧Below w.heap.size w w'
theorem lds_is:Lds Rr:=by
 intro s0 I0 qo qc ko kc w hQ hK
 refine (loads_m I0 qo qc ko kc w hQ hK).mono ?_
 rintro x w' ⟨A,rfl,F,x,s',hE,rA,rB,I,h1,h2,hF,hb⟩
 exact ⟨_,Un F,s',rfl,⟨A,x,F,rfl,hE.mono (by omega),rA,rB,I,rfl⟩,h1,h2,hF,hb⟩
end Go.Proofs.YtpinkmndjabbjaaGreatDoor.En
