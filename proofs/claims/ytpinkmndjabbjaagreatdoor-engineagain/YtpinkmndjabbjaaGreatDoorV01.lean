/-
  Package engine and what stands upon it, part V01: contracts of functions, and what they rest on.
-/
import Derived.Test.YtpinkmndjabbjaaGreatDoorU09
import Derived.Test.YtpinkmndjabbjaaGreatDoorU11
import Derived.Test.YtpinkmndjabbjaaGreatDoorV02
set_option linter.unusedSimpArgs false
set_option linter.unusedVariables false
set_option maxRecDepth 100000
namespace Go.Proofs.YtpinkmndjabbjaaGreatDoor.En
open Go.Proofs.YtpinkmndjabbjaaGreatDoor.It
open Go.Proofs.YtpinkmndjabbjaaGreatDoor.Lr
open Go.Proofs.YtpinkmndjabbjaaGreatDoor.Qt
open Go.Proofs.YtpinkmndjabbjaaGreatDoor.Sb
open Go.RowKit Go.Proofs.YtpinkmndjabbjaaGreatDoor
structure Ap (R:Nat→World→Value→Sh→(Nat→Prop)→Prop)(n:Nat)(W wr:World)(e:Value)(s:Sh)(F:Nat→Prop):Prop where
 rep:R n wr e s F
 bel:Below W.heap.size W wr
 new:∀ k,F k→W.heap.size≤k
section
variable {Tb:World→Prop} {R:Nat→World→Value→Sh→(Nat→Prop)→Prop}
theorem Ap.left {n n1:Nat}{W wr w1:World}{e:Value}{s s1:Sh}{F F1:Nat→Prop}(h:Ap R n W wr e s F)(hr:R n1 w1 e s1 F1)(hk:Kpt F wr w1)(hs:∀ k,F1 k→F k∨wr.heap.size≤k):Ap R n1 W w1 e s1 F1:=by
 refine ⟨hr,h.bel.trans (hk.below h.new h.bel.size),?_⟩
 intro k hk1
 rcases hs k hk1 with h1 | h1
 ·exact h.new k h1
 ·exact Nat.le_trans h.bel.size h1
theorem Ap.below (E:Eng Tb R){n:Nat}{W wr w1:World}{e:Value}{s:Sh}{F:Nat→Prop}(h:Ap R n W wr e s F)(hb:Below wr.heap.size wr w1):Ap R n W w1 e s F:=
 h.left (E.on h.rep hb) (Kpt.of hb) (fun _ hk=>.inl hk)
theorem Ap.calm {n:Nat}{W wr:World}{e:Value}{s:Sh}{F:Nat→Prop}(h:Ap R n W wr e s F)(hT:∀ w',Below W.heap.size W w'→Tb w'):Calm Tb wr F:=⟨W.heap.size,h.bel.size,h.new,fun w' hb=>hT w' (h.bel.trans hb)⟩
theorem Ap.offs {n:Nat}{W wr:World}{e:Value}{s:Sh}{F:Nat→Prop}(h:Ap R n W wr e s F){lo:Option Addr}{l:List Opr}{lc:Nat}(hO:Ops W lo l lc){o:Opr}(ho:o∈l):o.d.c.keys≠[]→Off F o.d.so:=by
 intro hne a2 ha hf
 obtain ⟨b2,off2,e2,hb2,_⟩:=(hO.keys o ho).lies hne
 rw [ha] at e2
 have e3:a2=⟨b2,off2,none⟩:=Option.some.inj e2
 have:=h.new _ hf
 rw [e3] at this
 simp at this
 omega
structure Grt (l:List Opr):Prop where
 len:l.length≤120
 keys:∀ o∈l,o.d.c.keys.length≤40
theorem grt_not {l:List Opr}{n:Nat}(hg:grt l n=false):Grt l:=by
 unfold grt at hg
 simp only [Bool.or_eq_false_iff,decide_eq_false_iff_not] at hg
 refine ⟨by omega,fun o ho=>?_⟩
 have h1:=List.any_eq_false.1 hg.2 o ho
 unfold lgC at h1
 simp only [Bool.or_eq_true,decide_eq_true_eq,not_or] at h1
 omega
end
end Go.Proofs.YtpinkmndjabbjaaGreatDoor.En
namespace Go.Proofs.YtpinkmndjabbjaaGreatDoor.En
open Go.Proofs.YtpinkmndjabbjaaGreatDoor.It
open Go.Proofs.YtpinkmndjabbjaaGreatDoor.Lr
open Go.Proofs.YtpinkmndjabbjaaGreatDoor.Qt
open Go.Proofs.YtpinkmndjabbjaaGreatDoor.Sb
open Go.RowKit Go.Proofs.YtpinkmndjabbjaaGreatDoor
theorem _root_.Go.Proofs.YtpinkmndjabbjaaGreatDoor.GRd.kpt' {α:Type}{E:GEl α}{F:Nat→Prop}{w w':World}{ao:Option Addr}{l:List α}{cap:Nat}(h:GRd E w ao l cap)(hk:Kpt F w w'){n:Nat}(hF:∀ k,F k→n≤k){v:World}(hv:GRd E v ao l cap)(hn:v.heap.size=n):GRd E w' ao l cap:=by
 by_cases hne:l=[]
 ·exact ⟨h.hl,h.hc,h.hn,.inl hne⟩
 ·refine h.kpt hk fun a ha hf=>?_
  obtain ⟨b2,f2,e2,hb2,_⟩:=hv.lies hne
  rw [ha] at e2
  have e3:=Option.some.inj e2
  have:=hF _ hf
  rw [e3] at this
  simp at this
  omega
section
variable {Tb:World→Prop} {R:Nat→World→Value→Sh→(Nat→Prop)→Prop}
set_option maxHeartbeats 8000000 in
theorem again_go (LD:Lds R)(E:Eng Tb R)(W:World)(hT:∀ w',Below W.heap.size W w'→Tb w')(pages now:Int)(Q:List Int)(qo:Option Addr)(qc:Nat)(hq:GRd EI W qo Q qc)(l:List Opr)(lo:Option Addr)(lc:Nat)(h:Ops W lo l lc):
  Calls Tryz.prog 10 #[.int .i64 pages,.slice qo Q.length qc,.int .i64 now,.slice lo l.length lc] W fun x w'=>x=.returned (.bool true)∧Below W.heap.size W w':=by
 have mixed:Tryz.prog.follows .mixedOrders=true:=by kernel_rfl
 have HTB:=Hid.m hT
 clear hT
 have HQ:=Hid.m hq
 have HO:=Hid.m h
 have hql:=hq.len
 have hll:=h.row.len
 clear hq h
 cases hg:grt l Q.length
 case true=>
  go_enter Tryz.func10,Tryz.ntmps10
  go_wp2_with (first
   | (go_at_call 16;refine (alive_any E W HTB.out).mono ?_;rintro x w1 ⟨rfl,hb1⟩;have HB1:=Hid.m hb1;clear hb1)
   | (go_at_call 17;refine (great_any l lo qo lc Q.length qc w1 (HO.out.below HB1.out) hql).mono ?_;rintro x w2 ⟨rfl,hb2⟩;rw [hg];have HB2:=Hid.m (g_on HB1.out hb2);clear hb2))
  go_ret
  exact ⟨rfl,HB2.out⟩
 case false=>
 have HG:=Hid.m (grt_not hg)
 by_cases hN:0≤pages∧chkE pages.toNat Q=0∧momI now=true
 case neg=>
  go_enter Tryz.func10,Tryz.ntmps10
  go_wp2_with (first
   | (go_at_call 16;refine (alive_any E W HTB.out).mono ?_;rintro x w1 ⟨rfl,hb1⟩;have HB1:=Hid.m hb1;clear hb1)
   | (go_at_call 17;refine (great_any l lo qo lc Q.length qc w1 (HO.out.below HB1.out) hql).mono ?_;rintro x w2 ⟨rfl,hb2⟩;rw [hg];have HB2:=Hid.m (g_on HB1.out hb2);clear hb2)
   | (go_at_call 11;refine (E.makes pages Q now qo qc w2 hN (HQ.out.below HB2.out)).mono ?_;rintro x w3 ⟨f,rfl,hf,hb3⟩;have HB3:=Hid.m (g_on HB2.out hb3);have hf2:(f != 0)=true:=(by simpa using hf);have hf3:(f==0)=false:=(by simpa using hf);clear hb3 hf))
  go_ret
  exact ⟨rfl,HB3.out⟩
 case pos=>
 obtain ⟨n,rfl⟩:∃ n:Nat,pages=n:=⟨pages.toNat,by omega⟩
 have hN1:chkE n Q=0:=by simpa using hN.2.1
 have hN2:=hN.2.2
 clear hN
 go_enter Tryz.func10,Tryz.ntmps10
 go_upto_region 7 with (first
  | (go_at_call 16;refine (alive_any E W HTB.out).mono ?_;rintro x w1 ⟨rfl,hb1⟩;have HB1:=Hid.m hb1;clear hb1)
  | (go_at_call 17;refine (great_any l lo qo lc Q.length qc w1 (HO.out.below HB1.out) hql).mono ?_;rintro x w2 ⟨rfl,hb2⟩;rw [hg];have HB2:=Hid.m (g_on HB1.out hb2);clear hb2)
  | (go_at_call 11;refine (E.make n Q now qo qc w2 hN1 hN2 (HQ.out.below HB2.out)).mono ?_;rintro x w3 ⟨e,F,rfl,hR,hF,hb3⟩;have HR:=Hid.m hR;have HF:=Hid.m hF;have HB3:=Hid.m (g_on HB2.out hb3);clear hR hF hb3))
 have HT:Hid (Ap R 0 W w3 e (Sh.new n Q now) F):=⟨HR.out,HB3.out,fun k hk=>Nat.le_trans HB2.out.size (HF.out k hk)⟩
 obtain ⟨a,rfl⟩:=E.ptr HR.out
 clear HR HF HB1 HB2 HB3
 go_wp2
 go_loopw [12] (fun i wr=>∃ (k:Nat) (s:Sh) (F:Nat→Prop),k≤l.length∧i=.int .i64 k∧Hid (Ap R k W wr (.pointer (some a)) s F)∧Hid (s.pages.length=n)) (fun i _=>l.length - (intOf i).toNat)
 case atStart=>exact ⟨0,_,_,Nat.zero_le _,rfl,HT,by show _=_;simp [Sh.new]⟩
 case round=>
  clear HT
  obtain ⟨k,s,F,hk,rfl,HT,HPN⟩:=hrel
  by_cases hkl:k<l.length
  ·have hkl2:(k:Int)<(l.length:Int):=by omega
   have hne:l≠[]:=by intro e;rw [e] at hkl;simp at hkl
   have HI:=Hid.m (E.inv HT.out.rep)
   obtain ⟨bo,oo,hlo,hbo,hcs⟩:=HO.out.row.op hne
   have HOM:Hid (l[k]∈l):=List.getElem_mem hkl
   have c0:=hcs k hkl 0 (by simp [Opr.cl])
   have c1:=hcs k hkl 1 (by simp [Opr.cl])
   have c2:=hcs k hkl 2 (by simp [Opr.cl])
   have c3:=hcs k hkl 3 (by simp [Opr.cl])
   have c4:=hcs k hkl 4 (by simp [Opr.cl])
   have c5:=hcs k hkl 5 (by simp [Opr.cl])
   have c6:=hcs k hkl 6 (by simp [Opr.cl])
   have c7:=hcs k hkl 7 (by simp [Opr.cl])
   have c8:=hcs k hkl 8 (by simp [Opr.cl])
   have c9:=hcs k hkl 9 (by simp [Opr.cl])
   have c10:=hcs k hkl 10 (by simp [Opr.cl])
   simp only [Opr.cl,List.getElem_cons_zero,List.getElem_cons_succ,Nat.add_zero] at c0 c1 c2 c3 c4 c5 c6 c7 c8 c9 c10
   obtain ⟨o,ho⟩:∃ o,o=l[k]:=⟨_,rfl⟩
   rw [← ho] at c0 c1 c2 c3 c4 c5 c6 c7 c8 c9 c10 HOM
   have HCS:Hid (∀ wx,Below W.heap.size W wx→bo<wx.heap.size∧wx.cell? ⟨bo,oo+k * 11,none⟩=some (.int .u8 o.kind)∧wx.cell? ⟨bo,oo+k * 11+1,none⟩=some (.int .u8 o.d.c.kind)∧wx.cell? ⟨bo,oo+k * 11+2,none⟩=some (.int .i64 o.d.c.tenant)∧wx.cell? ⟨bo,oo+k * 11+3,none⟩=some (.slice o.d.so o.d.c.keys.length o.d.sc)∧wx.cell? ⟨bo,oo+k * 11+4,none⟩=some (.string o.d.c.value)∧wx.cell? ⟨bo,oo+k * 11+5,none⟩=some (.int .u32 o.d.c.flags)∧wx.cell? ⟨bo,oo+k * 11+6,none⟩=some (.int .i64 o.d.c.life)∧wx.cell? ⟨bo,oo+k * 11+7,none⟩=some (.int .u64 o.d.c.unique)∧wx.cell? ⟨bo,oo+k * 11+8,none⟩=some (.int .u64 o.d.c.by_)∧wx.cell? ⟨bo,oo+k * 11+9,none⟩=some (.int .i64 o.tenant)∧wx.cell? ⟨bo,oo+k * 11+10,none⟩=some (.int .i64 o.dest)):=fun wx hb=>⟨Nat.lt_of_lt_of_le hbo hb.size,(hb.cell (p:=⟨bo,_,none⟩) hbo).trans c0,(hb.cell (p:=⟨bo,_,none⟩) hbo).trans c1,(hb.cell (p:=⟨bo,_,none⟩) hbo).trans c2,(hb.cell (p:=⟨bo,_,none⟩) hbo).trans c3,(hb.cell (p:=⟨bo,_,none⟩) hbo).trans c4,(hb.cell (p:=⟨bo,_,none⟩) hbo).trans c5,(hb.cell (p:=⟨bo,_,none⟩) hbo).trans c6,(hb.cell (p:=⟨bo,_,none⟩) hbo).trans c7,(hb.cell (p:=⟨bo,_,none⟩) hbo).trans c8,(hb.cell (p:=⟨bo,_,none⟩) hbo).trans c9,(hb.cell (p:=⟨bo,_,none⟩) hbo).trans c10⟩
   clear hcs hne ho c0 c1 c2 c3 c4 c5 c6 c7 c8 c9 c10 hbo
   subst hlo
   have HDO:=Hid.m (do_any E o (show k<1000 by have:=HG.out.len;omega) (HT.out.calm HTB.out) HT.out.rep ((HO.out.below HT.out.bel).keys o HOM.out) (HT.out.offs HO.out HOM.out) (HO.out.by_ o HOM.out))
   have HPL:Hid ((s.op o.opn).1.pages.length=n):=by show _=_;rw [(HI.out.op o.opn).2.2.1];exact HPN.out
   obtain ⟨t,ht⟩:∃ t,t=s.op o.opn:=⟨_,rfl⟩
   rw [← ht] at HDO HPL
   clear ht
   obtain ⟨s1,⟨rk,rI,rn⟩,C,ok⟩:=t
   dsimp only at HDO HPL
   unfold Opr.cl at HDO
   obtain ⟨cb,c0,c1,c2,c3,c4,c5,c6,c7,c8,c9,c10⟩:=HCS.out wr HT.out.bel
   go_wp2_with (go_at_call 25;refine HDO.out.mono ?_;rintro x w4 ⟨io,ic,lo4,lc4,F4,rfl,hI4,hoI,hnI,hL⟩;have HT4:=Hid.m (HT.out.left hL.rep hL.kpt hL.sub);clear hI4 hoI hnI hL)
   clear cb c0 c1 c2 c3 c4 c5 c6 c7 c8 c9 c10
   go_roundw
   case rel=>exact ⟨k+1,s1,F4,by omega,by go_num,HT4,HPL⟩
   case measure=>simp [intOf];omega
  ·have hkl3:¬ ((k:Int)<(l.length:Int)):=by omega
   have HI:=Hid.m (E.inv HT.out.rep)
   have HIM1:=Hid.m (E.image HT.out.rep)
   unfold imB at HIM1
   go_upto_region 12 with (go_at_call 14;refine HIM1.out.mono ?_;rintro x w1 ⟨q1,d1,k1,e1,F1,rfl,hq1,ho1,hn1,hk1,hp1,hr1,hR1,hK1,hs1⟩;have HT1:=Hid.m (HT.out.left hR1 hK1 hs1);have HQ1:=Hid.m hq1;have HK1:=Hid.m hk1;clear hq1 ho1 hn1 hk1 hp1 hr1 hR1 hK1 hs1)
   have HBX1:Hid (GBx (w1.alloc (.cells #[.int .i64 s.now,.slice q1 s.quotas.length d1,.slice k1 s.kept.length e1,.int .i64 0,.int .i64 0,.bool false] 41)) w1.heap.size [.int .i64 s.now,.slice q1 s.quotas.length d1,.slice k1 s.kept.length e1,.int .i64 0,.int .i64 0,.bool false]):=GBx.made w1 [.int .i64 s.now,.slice q1 s.quotas.length d1,.slice k1 s.kept.length e1,.int .i64 0,.int .i64 0,.bool false] _
   have HB1:Hid (Below W.heap.size W (w1.alloc (.cells #[.int .i64 s.now,.slice q1 s.quotas.length d1,.slice k1 s.kept.length e1,.int .i64 0,.int .i64 0,.bool false] 41))):=g_on HT1.out.bel (g_alloc _ _)
   have HQ2:=Hid.m (HQ1.out.alloc (.cells #[.int .i64 s.now,.slice q1 s.quotas.length d1,.slice k1 s.kept.length e1,.int .i64 0,.int .i64 0,.bool false] 41))
   have HK2:=Hid.m (HK1.out.alloc (.cells #[.int .i64 s.now,.slice q1 s.quotas.length d1,.slice k1 s.kept.length e1,.int .i64 0,.int .i64 0,.bool false] 41))
   generalize w1.alloc (.cells #[.int .i64 s.now,.slice q1 s.quotas.length d1,.slice k1 s.kept.length e1,.int .i64 0,.int .i64 0,.bool false] 41)=V1 at HBX1 HB1 HQ2 HK2 ⊢
   generalize w1.heap.size=B1 at HBX1 ⊢
   clear HT1 HQ1 HK1 HIM1 HT
   have HLD:=Hid.m (LD HI.out q1 d1 k1 e1 V1 HQ2.out HK2.out)
   rw [HPN.out] at HLD
   unfold imB at HLD
   have x0:=HBX1.out.c 0 (by simp)
   have x1:=HBX1.out.c 1 (by simp)
   have x2:=HBX1.out.c 2 (by simp)
   have x3:=HBX1.out.c 3 (by simp)
   have x4:=HBX1.out.c 4 (by simp)
   have x5:=HBX1.out.c 5 (by simp)
   have xl:=HBX1.out.lt
   simp only [List.getElem_cons_zero,List.getElem_cons_succ] at x0 x1 x2 x3 x4 x5
   go_upto_region 15 with (go_at_call 22;refine HLD.out.mono ?_;rintro x w2 ⟨e2,F2,s2,rfl,hR2,hi2,hq2,hf2,hb2⟩;have HF2:=Hid.m hf2;have HR2:=Hid.m hR2;have HI2:=Hid.m hi2;have HQQ:=Hid.m hq2;have HBX2:=Hid.m (HBX1.out.below hb2);have HB2:=Hid.m (g_on HB1.out hb2);have HQ3:=Hid.m (HQ2.out.below hb2);have HK3:=Hid.m (HK2.out.below hb2);clear hR2 hi2 hq2 hf2 hb2)
   clear x0 x1 x2 x3 x4 x5 xl
   obtain ⟨a2,rfl⟩:=E.ptr HR2.out
   have HIM2:=Hid.m (E.image HR2.out)
   have hnow:s2.now=s.now:=congrArg Pl.now HI2.out
   have hkep:s2.kept=s.kept:=congrArg Pl.kept HI2.out
   rw [hnow,hkep,HQQ.out] at HIM2
   unfold imB at HIM2
   have HOF:Hid (∀ k,F2 k→k<w2.heap.size):=E.lt HR2.out
   clear hnow hkep
   go_upto_region 16 with (go_at_call 14;refine HIM2.out.mono ?_;rintro x w3 ⟨q3,d3,k3,e3,F3,rfl,hq3,ho3,hn3,hk3,hp3,hr3,hR3,hK3,hs3⟩;have HQ5:=Hid.m hq3;have HK5:=Hid.m hk3;have HKP:=Hid.m hK3;clear hq3 ho3 hn3 hk3 hp3 hr3 hR3 hK3 hs3)
   have HB3:Hid (Below W.heap.size W w3):=HB2.out.trans (HKP.out.below (fun k hk=>Nat.le_trans HB1.out.size (HF2.out k hk)) HB2.out.size)
   have HSI:=Hid.m (sameImage_any s.now 0 0 false s.quotas s.kept q1 q3 k1 k3 d1 d3 e1 e3 (w3.alloc (.cells #[.int .i64 s.now,.slice q3 s.quotas.length d3,.slice k3 s.kept.length e3,.int .i64 0,.int .i64 0,.bool false] 41)) ((HQ3.out.kpt' HKP.out HF2.out HQ2.out rfl).alloc _) (HQ5.out.alloc _) ((HK3.out.kpt' HKP.out HF2.out HK2.out rfl).alloc _) (HK5.out.alloc _))
   unfold imB at HSI
   have HB4:Hid (Below W.heap.size W (w3.alloc (.cells #[.int .i64 s.now,.slice q3 s.quotas.length d3,.slice k3 s.kept.length e3,.int .i64 0,.int .i64 0,.bool false] 41))):=g_on HB3.out (g_alloc _ _)
   have HX4:Hid (GBx (w3.alloc (.cells #[.int .i64 s.now,.slice q3 s.quotas.length d3,.slice k3 s.kept.length e3,.int .i64 0,.int .i64 0,.bool false] 41)) B1 [.int .i64 s.now,.slice q1 s.quotas.length d1,.slice k1 s.kept.length e1,.int .i64 0,.int .i64 0,.bool false]):=(HBX2.out.kpt HKP.out (fun hf=>by have:=HF2.out _ hf;have:=HBX1.out.lt;omega)).alloc _
   have HY4:Hid (GBx (w3.alloc (.cells #[.int .i64 s.now,.slice q3 s.quotas.length d3,.slice k3 s.kept.length e3,.int .i64 0,.int .i64 0,.bool false] 41)) w3.heap.size [.int .i64 s.now,.slice q3 s.quotas.length d3,.slice k3 s.kept.length e3,.int .i64 0,.int .i64 0,.bool false]):=GBx.made w3 [.int .i64 s.now,.slice q3 s.quotas.length d3,.slice k3 s.kept.length e3,.int .i64 0,.int .i64 0,.bool false] _
   generalize w3.alloc (.cells #[.int .i64 s.now,.slice q3 s.quotas.length d3,.slice k3 s.kept.length e3,.int .i64 0,.int .i64 0,.bool false] 41)=V4 at HSI HB4 HX4 HY4 ⊢
   generalize w3.heap.size=B3 at HY4 ⊢
   clear HIM2 HKP HQ5 HK5 HB3 HQ3 HK3 HBX2 HBX1 HQ2 HK2 HLD
   have x0:=HX4.out.c 0 (by simp)
   have x1:=HX4.out.c 1 (by simp)
   have x2:=HX4.out.c 2 (by simp)
   have x3:=HX4.out.c 3 (by simp)
   have x4:=HX4.out.c 4 (by simp)
   have x5:=HX4.out.c 5 (by simp)
   have xl:=HX4.out.lt
   have y0:=HY4.out.c 0 (by simp)
   have y1:=HY4.out.c 1 (by simp)
   have y2:=HY4.out.c 2 (by simp)
   have y3:=HY4.out.c 3 (by simp)
   have y4:=HY4.out.c 4 (by simp)
   have y5:=HY4.out.c 5 (by simp)
   have yl:=HY4.out.lt
   simp only [List.getElem_cons_zero,List.getElem_cons_succ] at x0 x1 x2 x3 x4 x5 y0 y1 y2 y3 y4 y5
   go_wp2_with (go_at_call 24;refine HSI.out.mono ?_;rintro x w9 ⟨rfl,hb9⟩;have HB9:=Hid.m (g_on HB4.out hb9);clear hb9)
   go_ret
   exact ⟨rfl,HB9.out⟩
end
end Go.Proofs.YtpinkmndjabbjaaGreatDoor.En
