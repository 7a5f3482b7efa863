/-
  Package engine and what stands beneath it, part 50: contracts of functions, and what they rest on.
-/
import Derived.Test.YtpinkmndjabbjaaGreatDoorU49
set_option linter.unusedSimpArgs false
set_option linter.unusedVariables false
set_option maxRecDepth 100000
namespace Go.Proofs.YtpinkmndjabbjaaGreatDoor.En
open Go.Proofs.YtpinkmndjabbjaaGreatDoor.It
open Go.Proofs.YtpinkmndjabbjaaGreatDoor.Lr
open Go.Proofs.YtpinkmndjabbjaaGreatDoor.Qt
open Go.Proofs.YtpinkmndjabbjaaGreatDoor.Sb
open Go.RowKit Go.Proofs.YtpinkmndjabbjaaGreatDoor
section
variable {Tb:World→Prop} {R:Nat→World→Value→Sh→(Nat→Prop)→Prop}
set_option maxHeartbeats 8000000 in
theorem tells_go (E:Eng Tb R)(W:World)(hT:∀ w',Below W.heap.size W w'→Tb w')(pages now:Int)(Q:List Int)(qo:Option Addr)(qc:Nat)(hq:GRd EI W qo Q qc)(l:List Opr)(lo:Option Addr)(lc:Nat)(h:Ops W lo l lc):
  Calls Tryz.prog 6 #[.int .i64 pages,.slice qo Q.length qc,.int .i64 now,.slice lo l.length lc] W fun x w'=>x=.returned (.bool true)∧Below W.heap.size W w':=by
 have mixed:Tryz.prog.follows .mixedOrders=true:=by kernel_rfl
 have HTB:=Hid.m hT
 clear hT
 have HQ:=Hid.m hq
 have HO:=Hid.m h
 have hql:=hq.len
 have hll:=h.row.len
 clear hq h
 cases hg:grt l Q.length
 case true=>
  go_enter Tryz.func6,Tryz.ntmps6
  go_wp2_with (first
   | (go_at_call 16;refine (alive_any E W HTB.out).mono ?_;rintro x w1 ⟨rfl,hb1⟩;have HB1:=Hid.m hb1;clear hb1)
   | (go_at_call 17;refine (great_any l lo qo lc Q.length qc w1 (HO.out.below HB1.out) hql).mono ?_;rintro x w2 ⟨rfl,hb2⟩;rw [hg];have HB2:=Hid.m (g_on HB1.out hb2);clear hb2))
  go_ret
  exact ⟨rfl,HB2.out⟩
 case false=>
 have HG:Hid (l.length≤120∧∀ o∈l,o.d.c.keys.length≤40):=by
  unfold grt at hg
  simp only [Bool.or_eq_false_iff,decide_eq_false_iff_not] at hg
  refine ⟨by omega,fun o ho=>?_⟩
  have h1:=List.any_eq_false.1 hg.2 o ho
  unfold lgC at h1
  simp only [Bool.or_eq_true,decide_eq_true_eq,not_or] at h1
  omega
 by_cases hN:0≤pages∧chkE pages.toNat Q=0∧momI now=true
 case neg=>
  go_enter Tryz.func6,Tryz.ntmps6
  go_wp2_with (first
   | (go_at_call 16;refine (alive_any E W HTB.out).mono ?_;rintro x w1 ⟨rfl,hb1⟩;have HB1:=Hid.m hb1;clear hb1)
   | (go_at_call 17;refine (great_any l lo qo lc Q.length qc w1 (HO.out.below HB1.out) hql).mono ?_;rintro x w2 ⟨rfl,hb2⟩;rw [hg];have HB2:=Hid.m (g_on HB1.out hb2);clear hb2)
   | (go_at_call 11;refine (E.makes pages Q now qo qc w2 hN (HQ.out.below HB2.out)).mono ?_;rintro x w3 ⟨f,rfl,hf,hb3⟩;have HB3:=Hid.m (g_on HB2.out hb3);have hf2:(f != 0)=true:=(by simpa using hf);have hf3:(f==0)=false:=(by simpa using hf);clear hb3 hf))
  go_ret
  exact ⟨rfl,HB3.out⟩
 case pos=>
 obtain ⟨n,rfl⟩:∃ n:Nat,pages=n:=⟨pages.toNat,by omega⟩
 have hN1:chkE n Q=0:=by simpa using hN.2.1
 have hN2:=hN.2.2
 clear hN
 go_enter Tryz.func6,Tryz.ntmps6
 go_upto_region 8 with (first
  | (go_at_call 16;refine (alive_any E W HTB.out).mono ?_;rintro x w1 ⟨rfl,hb1⟩;have HB1:=Hid.m hb1;clear hb1)
  | (go_at_call 17;refine (great_any l lo qo lc Q.length qc w1 (HO.out.below HB1.out) hql).mono ?_;rintro x w2 ⟨rfl,hb2⟩;rw [hg];have HB2:=Hid.m (g_on HB1.out hb2);clear hb2)
  | (go_at_call 11;refine (E.make n Q now qo qc w2 hN1 hN2 (HQ.out.below HB2.out)).mono ?_;rintro x w3 ⟨e,F,rfl,hR,hF,hb3⟩;have HR:=Hid.m hR;have HF:=Hid.m hF;have HB3:=Hid.m (g_on HB2.out hb3);clear hR hF hb3))
 have HT:Hid (Tel R 0 W (w3.alloc (.cells #[.int .i64 now,.slice none 0 0] 70)) e (Sh.new n Q now) F w3.heap.size (Sh.new n Q now).img none 0):=by
  have hr:=HR.out
  refine ⟨E.on hr (g_alloc _ _),g_on HB3.out (g_alloc _ _),fun k hk=>Nat.le_trans HB2.out.size (HF.out k hk),?_,fun hf=>?_,HB3.out.size,GRd.nil _,fun a ha=>by cases ha⟩
  ·exact GBx.made w3 [.int .i64 now,.slice none 0 0] _
  ·have:=E.lt hr _ hf
   omega
 generalize w3.alloc (.cells #[.int .i64 now,.slice none 0 0] 70)=V at HT ⊢
 generalize w3.heap.size=B at HT ⊢
 obtain ⟨a,rfl⟩:=E.ptr HR.out
 have HK0:Hid ((Sh.new n Q now).kept.length≤300 * 0):=by show _≤_;simp [Sh.kept,Sh.new]
 clear HR HF HB1 HB2 HB3
 go_wp2
 go_loopw [13,14,15,16,17,18,19] (fun i _ _ _ _ _ _ wr=>∃ (k:Nat) (s:Sh) (F:Nat→Prop) (ko:Option Addr) (kc:Nat),k≤l.length∧i=.int .i64 k∧Hid (Tel R k W wr (.pointer (some a)) s F B s.img ko kc)∧Hid (s.kept.length≤300 * k)) (fun i _ _ _ _ _ _ _=>l.length - (intOf i).toNat)
 case atStart=>exact ⟨0,_,_,_,_,Nat.zero_le _,rfl,HT,HK0⟩
 case round=>
  clear HT HK0
  obtain ⟨k,s,F,ko,kc,hk,rfl,HT,HKL⟩:=hrel
  by_cases hkl:k<l.length
  ·have hkl2:(k:Int)<(l.length:Int):=by omega
   have hne:l≠[]:=by intro e;rw [e] at hkl;simp at hkl
   have HI:=Hid.m (E.inv HT.out.rep)
   have HOP:=Hid.m (HO.out.below HT.out.bel)
   obtain ⟨bo,oo,rfl,hbo,hcs⟩:=HOP.out.row.op hne
   have HOM:Hid (l[k]∈l):=List.getElem_mem hkl
   have c0:=hcs k hkl 0 (by simp [Opr.cl])
   have c1:=hcs k hkl 1 (by simp [Opr.cl])
   have c2:=hcs k hkl 2 (by simp [Opr.cl])
   have c3:=hcs k hkl 3 (by simp [Opr.cl])
   have c4:=hcs k hkl 4 (by simp [Opr.cl])
   have c5:=hcs k hkl 5 (by simp [Opr.cl])
   have c6:=hcs k hkl 6 (by simp [Opr.cl])
   have c7:=hcs k hkl 7 (by simp [Opr.cl])
   have c8:=hcs k hkl 8 (by simp [Opr.cl])
   have c9:=hcs k hkl 9 (by simp [Opr.cl])
   have c10:=hcs k hkl 10 (by simp [Opr.cl])
   simp only [Opr.cl,List.getElem_cons_zero,List.getElem_cons_succ,Nat.add_zero] at c0 c1 c2 c3 c4 c5 c6 c7 c8 c9 c10
   obtain ⟨o,ho⟩:∃ o,o=l[k]:=⟨_,rfl⟩
   rw [← ho] at c0 c1 c2 c3 c4 c5 c6 c7 c8 c9 c10 HOM
   clear hcs hne ho
   have HKS:=Hid.m (HOP.out.keys o HOM.out)
   have HOF:Hid (o.d.c.keys≠[]→Off F o.d.so):=by
    intro hne a2 ha hf
    obtain ⟨b2,off2,e2,hb2,_⟩:=(HO.out.keys o HOM.out).lies hne
    rw [ha] at e2
    have e3:a2=⟨b2,off2,none⟩:=Option.some.inj e2
    have:=HT.out.new _ hf
    rw [e3] at this
    simp at this
    omega
   have HDO:=Hid.m (do_any E o (show k<1000 by have:=HG.out.1;omega) ⟨W.heap.size,HT.out.bel.size,HT.out.new,fun w' hb=>HTB.out w' (HT.out.bel.trans hb)⟩ HT.out.rep HKS.out HOF.out (HO.out.by_ o HOM.out))
   have HOPN:=Hid.m (HI.out.op o.opn)
   have HLEN:=Hid.m (op_len s o.opn (fun c hc=>by rw [opn_cmd hc];exact HG.out.2 o HOM.out))
   obtain ⟨t,ht⟩:∃ t,t=s.op o.opn:=⟨_,rfl⟩
   have HTT:=Hid.m ht
   rw [← ht] at HDO HOPN HLEN
   clear ht
   obtain ⟨s1,⟨rk,rI,rn⟩,C,ok⟩:=t
   dsimp only at HDO HOPN HLEN
   unfold Opr.cl at HDO
   go_upto_region 12 with (go_at_call 25;refine HDO.out.mono ?_;rintro x w4 ⟨io,ic,lo4,lc4,F4,rfl,hI4,hoI,hnI,hL⟩;have HL:=Hid.m hL;have HJ:=Hid.m hI4;clear hI4 hoI hnI hL)
   have HT1:=Hid.m ((HT.out.left HL.out.rep HL.out.kpt HL.out.sub).below E (g_alloc w4 (.cells #[.int .u8 rk,.slice io rI.length ic,.int .u64 rn] 30)))
   have HCH:=Hid.m (HL.out.chs.alloc (.cells #[.int .u8 rk,.slice io rI.length ic,.int .u64 rn] 30))
   have HJ1:=Hid.m (HJ.out.alloc (.cells #[.int .u8 rk,.slice io rI.length ic,.int .u64 rn] 30))
   have HBR:Hid (GBx (w4.alloc (.cells #[.int .u8 rk,.slice io rI.length ic,.int .u64 rn] 30)) w4.heap.size [.int .u8 rk,.slice io rI.length ic,.int .u64 rn]):=GBx.made w4 [.int .u8 rk,.slice io rI.length ic,.int .u64 rn] _
   generalize w4.alloc (.cells #[.int .u8 rk,.slice io rI.length ic,.int .u64 rn] 30)=V4 at HT1 HCH HJ1 HBR ⊢
   have hboW:bo<W.heap.size:=by
    obtain ⟨b2,off2,e2,hb2,_⟩:=HO.out.row.lies (by intro e;rw [e] at hkl;simp at hkl)
    have e3:=Option.some.inj e2
    have e4:bo=b2:=congrArg Addr.block e3
    omega
   have hboV:bo<V4.heap.size:=Nat.lt_of_lt_of_le hboW HT1.out.bel.size
   have HTR:Hid (∀ j v,wr.cell? ⟨bo,j,none⟩=some v→V4.cell? ⟨bo,j,none⟩=some v):=fun j v hv=>(HT1.out.bel.cell (p:=⟨bo,j,none⟩) hboW).trans ((HT.out.bel.cell (p:=⟨bo,j,none⟩) hboW).symm.trans hv)
   have d0:∀ p:Beh V4,_:=cell_beh (a:=⟨bo,_,none⟩) hboV (HTR.out _ _ c0)
   have d1:∀ p:Beh V4,_:=cell_beh (a:=⟨bo,_,none⟩) hboV (HTR.out _ _ c1)
   have d2:∀ p:Beh V4,_:=cell_beh (a:=⟨bo,_,none⟩) hboV (HTR.out _ _ c2)
   have d3:∀ p:Beh V4,_:=cell_beh (a:=⟨bo,_,none⟩) hboV (HTR.out _ _ c3)
   have d4:∀ p:Beh V4,_:=cell_beh (a:=⟨bo,_,none⟩) hboV (HTR.out _ _ c4)
   have d5:∀ p:Beh V4,_:=cell_beh (a:=⟨bo,_,none⟩) hboV (HTR.out _ _ c5)
   have d6:∀ p:Beh V4,_:=cell_beh (a:=⟨bo,_,none⟩) hboV (HTR.out _ _ c6)
   have d7:∀ p:Beh V4,_:=cell_beh (a:=⟨bo,_,none⟩) hboV (HTR.out _ _ c7)
   have d8:∀ p:Beh V4,_:=cell_beh (a:=⟨bo,_,none⟩) hboV (HTR.out _ _ c8)
   have x0:=HT1.out.box.c 0 (by simp)
   have x1:=HT1.out.box.c 1 (by simp)
   have y0:=HBR.out.c 0 (by simp)
   have y1:=HBR.out.c 1 (by simp)
   have y2:=HBR.out.c 2 (by simp)
   simp only [List.getElem_cons_zero,List.getElem_cons_succ] at x0 x1 y0 y1 y2
   have g0:∀ p:Beh V4,_:=cell_beh (a:=⟨B,0,none⟩) HT1.out.box.lt x0
   have g1:∀ p:Beh V4,_:=cell_beh (a:=⟨B,1,none⟩) HT1.out.box.lt x1
   have h0:∀ p:Beh V4,_:=cell_beh (a:=⟨w4.heap.size,0,none⟩) HBR.out.lt y0
   have h1:∀ p:Beh V4,_:=cell_beh (a:=⟨w4.heap.size,1,none⟩) HBR.out.lt y1
   have h2:∀ p:Beh V4,_:=cell_beh (a:=⟨w4.heap.size,2,none⟩) HBR.out.lt y2
   clear c0 c1 c2 c3 c4 c5 c6 c7 c8 c9 c10 x0 x1 y0 y1 y2
   have HKV:=Hid.m ((HO.out.below HT1.out.bel).keys o HOM.out)
   by_cases k0:o.kind=0
   all_goals first
    | (have e0:(o.kind==0)=false:=(by simpa using k0);clear k0;refine wp_region_quiet_beh (by assumption) (by kernel_rfl) ?_;repeat (first | go_big_quiet_skip | (quiet_step (first | fail))))
    | (have e0:(o.kind==0)=true:=(by rw [k0];rfl);by_cases k1:o.d.c.kind=1)
   all_goals first
    | (refine wpQuiet_nil ?_)
    | (have e1:(o.d.c.kind==1)=false:=(by simpa using k1);clear k0 k1;refine wp_region_quiet_beh (by assumption) (by kernel_rfl) ?_;(repeat (first | go_big_quiet_skip | (quiet_step (first | fail))));refine wpQuiet_nil ?_)
    | (have e1:(o.d.c.kind==1)=true:=(by rw [k1];rfl);have hop:o.opn=.cmd o.d.c:=(by unfold Opr.opn;rw [if_pos k0]);have htt:=HTT.out;rw [hop] at htt;have HGT:Hid (∀ p:Beh V4,_):=(fun p=>gets_op (w:=p.v) HI.out k1 htt ko o.d.so io kc o.d.sc ic (HT1.out.row.below p.ok) (HKV.out.below p.ok) (HJ1.out.below p.ok));unfold Cm.arr at HGT;clear k0 k1 hop htt;refine wp_region_quiet_beh (by assumption) (by kernel_rfl) ?_;(repeat (first | go_big_quiet_skip | (quiet_step (first | (go_at_call 26;exact Calls.beh_of (HGT.out _))))));clear HGT;refine wpQuiet_nil ?_)
   all_goals
    intro w5 hw'
    obtain ⟨⟨wq,hq⟩,hw''⟩:=hw'
    subst hw''
    have HT2:=Hid.m (HT1.out.below E hq)
    have HC2:=Hid.m (HCH.out.below hq)
    have HNW:Hid (∀ a2,lo4=some a2→¬ a2.block=B):=fun a2 ha e2=>by have h7:=HL.out.nw a2 ha;have h8:=HT.out.box.lt;omega
    have hcl:=HC2.out.len
    have HC300:=HLEN
    clear d0 d1 d2 d3 d4 d5 d6 d7 d8 g0 g1 h0 h1 h2 HDO hq HT1 HCH HJ1 HBR HJ HKV HTR hboV hboW HKS HOF HT
    go_upto_region 14 with (fail)
    go_wp2
    go_loopw [17] (fun j wx=>∃ (q:Nat) (k1:Option Addr) (c1:Nat),q≤C.length∧j=.int .i64 q∧Hid (Tel R (k+1) W wx (.pointer (some a)) s1 F4 B ((C.take q).foldl after s.img) k1 c1)∧Hid (GRd EC wx lo4 C lc4)) (fun j _=>C.length - (intOf j).toNat)
    case atStart=>exact ⟨0,ko,kc,Nat.zero_le _,rfl,by show Tel _ _ _ _ _ _ _ _ _ _ _;simpa using HT2.out,HC2⟩
    case round=>
     obtain ⟨q,k1,c1,hq,rfl,HT3,HC3⟩:=hrel
     by_cases hql:q<C.length
     ·have hql2:(q:Int)<(C.length:Int):=by omega
      obtain ⟨bc,oc,rfl,hbc,hcc⟩:=HC3.out.lies (by intro e;rw [e] at hql;simp at hql)
      have v0:=hcc q hql 0 (by decide)
      have v1:=hcc q hql 1 (by decide)
      have v2:=hcc q hql 2 (by decide)
      have v3:=hcc q hql 3 (by decide)
      have v4:=hcc q hql 4 (by decide)
      have v5:=hcc q hql 5 (by decide)
      have v6:=hcc q hql 6 (by decide)
      have v7:=hcc q hql 7 (by decide)
      have v8:=hcc q hql 8 (by decide)
      have v9:=hcc q hql 9 (by decide)
      have v10:=hcc q hql 10 (by decide)
      have HTK:Hid ((C.take (q+1)).foldl after s.img=after ((C.take q).foldl after s.img) C[q]):=by
       show _=_
       rw [List.take_add_one,List.getElem?_eq_getElem hql,List.foldl_append]
       rfl
      obtain ⟨cq,hcq⟩:∃ cq,cq=C[q]:=⟨_,rfl⟩
      rw [← hcq] at v0 v1 v2 v3 v4 v5 v6 v7 v8 v9 v10 HTK
      simp only [EC,Ch.cl,List.getElem?_cons_zero,List.getElem?_cons_succ,Nat.add_zero] at v0 v1 v2 v3 v4 v5 v6 v7 v8 v9 v10
      obtain ⟨P,hP⟩:∃ P,P=(C.take q).foldl after s.img:=⟨_,rfl⟩
      have HPL:Hid (P.kept.length+1≤1000000):=by
       have h7:=afters_len (C.take q) s.img
       rw [← hP,List.length_take] at h7
       have h8:s.img.kept.length≤300 * k:=HKL.out
       have h9:=HLEN.out
       have h10:=HG.out.1
       show _≤_
       omega
      rw [← hP] at HT3 HTK
      clear hcc hcq hP
      obtain ⟨pn,pk⟩:=P
      have x0:=HT3.out.box.c 0 (by simp)
      have x1:=HT3.out.box.c 1 (by simp)
      have f0:=HT3.out.box.f 0
      have f1:=HT3.out.box.f 1
      have ltB:=HT3.out.box.lt
      simp only [List.getElem_cons_zero,List.getElem_cons_succ] at x0 x1
      have HAF:Hid (∀ wz,Below wr.heap.size wr wz→_):=fun wz (hz:Below wr.heap.size wr wz)=>after_any pn cq pk k1 c1 wz (HT3.out.row.below hz) HPL.out
      unfold Ch.v at HAF
      go_upto_region 17 with (fail)
      go_region_with (go_at_call 27;refine (HAF.out _ (by first | exact Below.refl _ _ | exact (Below.refl _ _).drew)).mono ?_;rintro x w9 ⟨v9x,rfl,hO9,hb9⟩;obtain ⟨k9,c9,hv9,-⟩:=hO9.rd okK;subst hv9;have HO9:=Hid.m hO9;have HB9:Hid (Below wr.heap.size wr w9):=(by first | exact g_drew hb9 | exact hb9);have y0:=(HT3.out.box.below HB9.out).c 0 (by simp);have y1:=(HT3.out.box.below HB9.out).c 1 (by simp);have e0:=(HT3.out.box.below HB9.out).f 0;have e1:=(HT3.out.box.below HB9.out).f 1;have lt9:=(HT3.out.box.below HB9.out).lt;simp only [List.getElem_cons_zero,List.getElem_cons_succ] at y0 y1;clear hO9 hb9)
      all_goals
       go_wp2
       go_roundw
       case rel=>
        refine ⟨q+1,k9,c9,by omega,by go_num,?_,?_⟩
        ·show Tel _ _ _ _ _ _ _ _ _ _ _
         rw [HTK.out]
         exact Tel.store E (p1:=after ⟨pn,pk⟩ cq) HT3.out HB9.out HO9.out
        ·have h7:=HC3.out.below HB9.out
         exact (h7.other B 0 _ (fun g off hg _=>HNW.out _ hg)).other B 1 _ (fun g off hg _=>HNW.out _ hg)
       case measure=>simp [intOf];omega
     ·have hql2:¬ ((q:Int)<(C.length:Int)):=by omega
      have eT:C.take q=C:=List.take_of_length_le (by omega)
      rw [eT,HOPN.out.2.1] at HT3
      have HIM:=Hid.m (E.image HT3.out.rep)
      unfold imB at HIM
      have HKN:Hid (s1.kept.length≤300 * (k+1)):=by
       have h7:=afters_len C s.img
       rw [HOPN.out.2.1] at h7
       have h8:s1.kept.length≤s.kept.length+C.length:=h7
       have h9:=HKL.out
       have h10:=HLEN.out
       show _≤_
       omega
      go_upto_region 19 with (go_at_call 14;refine HIM.out.mono ?_;rintro x w6 ⟨qo6,qc6,ko6,kc6,F6,rfl,hq6,_,_,hk6,_,_,hr6,hkp6,hs6⟩;have HK6:=Hid.m hk6;have HT6:=Hid.m (HT3.out.left hr6 hkp6 hs6);clear hq6 hk6 hr6 hkp6 hs6)
      have HT7:=Hid.m (HT6.out.below E (g_alloc w6 (.cells #[.int .i64 s1.now,.slice qo6 s1.quotas.length qc6,.slice ko6 s1.kept.length kc6,.int .i64 0,.int .i64 0,.bool false] 41)))
      have HK7:=Hid.m (HK6.out.alloc (.cells #[.int .i64 s1.now,.slice qo6 s1.quotas.length qc6,.slice ko6 s1.kept.length kc6,.int .i64 0,.int .i64 0,.bool false] 41))
      have HB7:Hid (GBx (w6.alloc (.cells #[.int .i64 s1.now,.slice qo6 s1.quotas.length qc6,.slice ko6 s1.kept.length kc6,.int .i64 0,.int .i64 0,.bool false] 41)) w6.heap.size [.int .i64 s1.now,.slice qo6 s1.quotas.length qc6,.slice ko6 s1.kept.length kc6,.int .i64 0,.int .i64 0,.bool false]):=GBx.made w6 _ _
      generalize w6.alloc (.cells #[.int .i64 s1.now,.slice qo6 s1.quotas.length qc6,.slice ko6 s1.kept.length kc6,.int .i64 0,.int .i64 0,.bool false] 41)=V7 at HT7 HK7 HB7 ⊢
      have x0:=HT7.out.box.c 0 (by simp)
      have x1:=HT7.out.box.c 1 (by simp)
      have m0:=HB7.out.c 0 (by simp)
      have m1:=HB7.out.c 1 (by simp)
      have m2:=HB7.out.c 2 (by simp)
      have m3:=HB7.out.c 3 (by simp)
      have m4:=HB7.out.c 4 (by simp)
      have m5:=HB7.out.c 5 (by simp)
      simp only [List.getElem_cons_zero,List.getElem_cons_succ,Sh.img] at x0 x1 m0 m1 m2 m3 m4 m5
      have ltB:=HT7.out.box.lt
      have ltM:=HB7.out.lt
      have HH:=Hid.m (has_any s1.now 0 0 false (.slice qo6 s1.quotas.length qc6) s1.kept k1 ko6 c1 kc6 V7 HT7.out.row HK7.out)
      go_wp2_with (go_at_call 28;refine HH.out.mono ?_;rintro x w8 ⟨rfl,hb8⟩;have HB8:=Hid.m hb8;clear hb8)
      go_roundw
      case rel=>exact ⟨k+1,s1,_,_,_,by omega,by go_num,HT7.out.below E HB8.out,HKN⟩
      case measure=>simp [intOf];omega
  ·have hkl2:¬ ((k:Int)<(l.length:Int)):=by omega
   go_wp2
   go_ret
   exact ⟨rfl,HT.out.bel⟩
end
end Go.Proofs.YtpinkmndjabbjaaGreatDoor.En
