/-
  Package engine and what stands beneath it, part 12: contracts of functions, and what they rest on.
-/
import Derived.Test.YtpinkmndjabbjaaGreatDoorU09
import Derived.Test.YtpinkmndjabbjaaGreatDoorU10
import Derived.Test.YtpinkmndjabbjaaGreatDoorU11
set_option linter.unusedSimpArgs false
set_option linter.unusedVariables false
set_option maxRecDepth 100000
namespace Go.Proofs.YtpinkmndjabbjaaGreatDoor.En
open Go.Proofs.YtpinkmndjabbjaaGreatDoor.It
open Go.Proofs.YtpinkmndjabbjaaGreatDoor.Lr
open Go.Proofs.YtpinkmndjabbjaaGreatDoor.Qt
open Go.Proofs.YtpinkmndjabbjaaGreatDoor.Sb
open Go.RowKit Go.Proofs.YtpinkmndjabbjaaGreatDoor
structure Ap (R:Nat→World→Value→Sh→(Nat→Prop)→Prop)(n:Nat)(W wr:World)(e:Value)(s:Sh)(F:Nat→Prop):Prop where
 rep:R n wr e s F
 bel:Below W.heap.size W wr
 new:∀ k,F k→W.heap.size≤k
section
variable {Tb:World→Prop} {R:Nat→World→Value→Sh→(Nat→Prop)→Prop}
theorem Ap.left {n n1:Nat}{W wr w1:World}{e:Value}{s s1:Sh}{F F1:Nat→Prop}(h:Ap R n W wr e s F)(hr:R n1 w1 e s1 F1)(hk:Kpt F wr w1)(hs:∀ k,F1 k→F k∨wr.heap.size≤k):Ap R n1 W w1 e s1 F1:=by
 refine ⟨hr,h.bel.trans (hk.below h.new h.bel.size),?_⟩
 intro k hk1
 rcases hs k hk1 with h1 | h1
 ·exact h.new k h1
 ·exact Nat.le_trans h.bel.size h1
theorem Ap.below (E:Eng Tb R){n:Nat}{W wr w1:World}{e:Value}{s:Sh}{F:Nat→Prop}(h:Ap R n W wr e s F)(hb:Below wr.heap.size wr w1):Ap R n W w1 e s F:=
 h.left (E.on h.rep hb) (Kpt.of hb) (fun _ hk=>.inl hk)
theorem Ap.calm {n:Nat}{W wr:World}{e:Value}{s:Sh}{F:Nat→Prop}(h:Ap R n W wr e s F)(hT:∀ w',Below W.heap.size W w'→Tb w'):Calm Tb wr F:=⟨W.heap.size,h.bel.size,h.new,fun w' hb=>hT w' (h.bel.trans hb)⟩
theorem Ap.offs {n:Nat}{W wr:World}{e:Value}{s:Sh}{F:Nat→Prop}(h:Ap R n W wr e s F){lo:Option Addr}{l:List Opr}{lc:Nat}(hO:Ops W lo l lc){o:Opr}(ho:o∈l):o.d.c.keys≠[]→Off F o.d.so:=by
 intro hne a2 ha hf
 obtain ⟨b2,off2,e2,hb2,_⟩:=(hO.keys o ho).lies hne
 rw [ha] at e2
 have e3:a2=⟨b2,off2,none⟩:=Option.some.inj e2
 have:=h.new _ hf
 rw [e3] at this
 simp at this
 omega
theorem op_apart {s:Sh}(I:Inv s){o:Opr}(hk:o.kind=0):oth o.d.c.tenant s.kept=oth o.d.c.tenant (s.op o.opn).1.kept∧s.now=(s.op o.opn).1.now∧∀ ch∈(s.op o.opn).2.2.1,ch.tn=o.d.c.tenant:=by
 have e:o.opn=.cmd o.d.c:=by unfold Opr.opn;rw [if_pos hk]
 rw [e]
 unfold Sh.op
 simp only
 split
 ·rename_i hm
  obtain ⟨h1,h2,h3⟩:=may_life hm
  have D:=done_doS I h1 h3
  refine ⟨?_,D.kin.now.symm,fun ch hch=>?_⟩
  ·have:=done_apart I h1 h3
   exact this.symm
  ·have h9:=D.ten ch hch
   cases ch <;> simp [Ch.ten] at h9 <;> first | exact h9 | (simp [Ch.tn];exact h9)
 ·exact ⟨rfl,rfl,fun ch hch=>by cases hch⟩
structure Grt (l:List Opr):Prop where
 len:l.length≤120
 keys:∀ o∈l,o.d.c.keys.length≤40
theorem grt_not {l:List Opr}{n:Nat}(hg:grt l n=false):Grt l:=by
 unfold grt at hg
 simp only [Bool.or_eq_false_iff,decide_eq_false_iff_not] at hg
 refine ⟨by omega,fun o ho=>?_⟩
 have h1:=List.any_eq_false.1 hg.2 o ho
 unfold lgC at h1
 simp only [Bool.or_eq_true,decide_eq_true_eq,not_or] at h1
 omega
set_option maxHeartbeats 8000000 in
theorem apart_go (E:Eng Tb R)(W:World)(hT:∀ w',Below W.heap.size W w'→Tb w')(pages now:Int)(Q:List Int)(qo:Option Addr)(qc:Nat)(hq:GRd EI W qo Q qc)(l:List Opr)(lo:Option Addr)(lc:Nat)(h:Ops W lo l lc):
  Calls Tryz.prog 8 #[.int .i64 pages,.slice qo Q.length qc,.int .i64 now,.slice lo l.length lc] W fun x w'=>x=.returned (.bool true)∧Below W.heap.size W w':=by
 have mixed:Tryz.prog.follows .mixedOrders=true:=by kernel_rfl
 have HTB:=Hid.m hT
 clear hT
 have HQ:=Hid.m hq
 have HO:=Hid.m h
 have hql:=hq.len
 have hll:=h.row.len
 clear hq h
 cases hg:grt l Q.length
 case true=>
  go_enter Tryz.func8,Tryz.ntmps8
  go_wp2_with (first
   | (go_at_call 16;refine (alive_any E W HTB.out).mono ?_;rintro x w1 ⟨rfl,hb1⟩;have HB1:=Hid.m hb1;clear hb1)
   | (go_at_call 17;refine (great_any l lo qo lc Q.length qc w1 (HO.out.below HB1.out) hql).mono ?_;rintro x w2 ⟨rfl,hb2⟩;rw [hg];have HB2:=Hid.m (g_on HB1.out hb2);clear hb2))
  go_ret
  exact ⟨rfl,HB2.out⟩
 case false=>
 have HG:=Hid.m (grt_not hg)
 by_cases hN:0≤pages∧chkE pages.toNat Q=0∧momI now=true
 case neg=>
  go_enter Tryz.func8,Tryz.ntmps8
  go_wp2_with (first
   | (go_at_call 16;refine (alive_any E W HTB.out).mono ?_;rintro x w1 ⟨rfl,hb1⟩;have HB1:=Hid.m hb1;clear hb1)
   | (go_at_call 17;refine (great_any l lo qo lc Q.length qc w1 (HO.out.below HB1.out) hql).mono ?_;rintro x w2 ⟨rfl,hb2⟩;rw [hg];have HB2:=Hid.m (g_on HB1.out hb2);clear hb2)
   | (go_at_call 11;refine (E.makes pages Q now qo qc w2 hN (HQ.out.below HB2.out)).mono ?_;rintro x w3 ⟨f,rfl,hf,hb3⟩;have HB3:=Hid.m (g_on HB2.out hb3);have hf2:(f != 0)=true:=(by simpa using hf);have hf3:(f==0)=false:=(by simpa using hf);clear hb3 hf))
  go_ret
  exact ⟨rfl,HB3.out⟩
 case pos=>
 obtain ⟨n,rfl⟩:∃ n:Nat,pages=n:=⟨pages.toNat,by omega⟩
 have hN1:chkE n Q=0:=by simpa using hN.2.1
 have hN2:=hN.2.2
 clear hN
 go_enter Tryz.func8,Tryz.ntmps8
 go_upto_region 7 with (first
  | (go_at_call 16;refine (alive_any E W HTB.out).mono ?_;rintro x w1 ⟨rfl,hb1⟩;have HB1:=Hid.m hb1;clear hb1)
  | (go_at_call 17;refine (great_any l lo qo lc Q.length qc w1 (HO.out.below HB1.out) hql).mono ?_;rintro x w2 ⟨rfl,hb2⟩;rw [hg];have HB2:=Hid.m (g_on HB1.out hb2);clear hb2)
  | (go_at_call 11;refine (E.make n Q now qo qc w2 hN1 hN2 (HQ.out.below HB2.out)).mono ?_;rintro x w3 ⟨e,F,rfl,hR,hF,hb3⟩;have HR:=Hid.m hR;have HF:=Hid.m hF;have HB3:=Hid.m (g_on HB2.out hb3);clear hR hF hb3))
 have HT:Hid (Ap R 0 W w3 e (Sh.new n Q now) F):=⟨HR.out,HB3.out,fun k hk=>Nat.le_trans HB2.out.size (HF.out k hk)⟩
 obtain ⟨a,rfl⟩:=E.ptr HR.out
 clear HR HF HB1 HB2 HB3
 go_wp2
 go_loopw [12,13,14,15,16,17,18,19,20] (fun i _ _ _ _ _ _ _ _ wr=>∃ (k:Nat) (s:Sh) (F:Nat→Prop),k≤l.length∧i=.int .i64 k∧Hid (Ap R k W wr (.pointer (some a)) s F)) (fun i _ _ _ _ _ _ _ _ _=>l.length - (intOf i).toNat)
 case atStart=>exact ⟨0,_,_,Nat.zero_le _,rfl,HT⟩
 case round=>
  clear HT
  obtain ⟨k,s,F,hk,rfl,HT⟩:=hrel
  by_cases hkl:k<l.length
  ·have hkl2:(k:Int)<(l.length:Int):=by omega
   have hne:l≠[]:=by intro e;rw [e] at hkl;simp at hkl
   have HI:=Hid.m (E.inv HT.out.rep)
   obtain ⟨bo,oo,hlo,hbo,hcs⟩:=HO.out.row.op hne
   have HOM:Hid (l[k]∈l):=List.getElem_mem hkl
   have c0:=hcs k hkl 0 (by simp [Opr.cl])
   have c1:=hcs k hkl 1 (by simp [Opr.cl])
   have c2:=hcs k hkl 2 (by simp [Opr.cl])
   have c3:=hcs k hkl 3 (by simp [Opr.cl])
   have c4:=hcs k hkl 4 (by simp [Opr.cl])
   have c5:=hcs k hkl 5 (by simp [Opr.cl])
   have c6:=hcs k hkl 6 (by simp [Opr.cl])
   have c7:=hcs k hkl 7 (by simp [Opr.cl])
   have c8:=hcs k hkl 8 (by simp [Opr.cl])
   have c9:=hcs k hkl 9 (by simp [Opr.cl])
   have c10:=hcs k hkl 10 (by simp [Opr.cl])
   simp only [Opr.cl,List.getElem_cons_zero,List.getElem_cons_succ,Nat.add_zero] at c0 c1 c2 c3 c4 c5 c6 c7 c8 c9 c10
   obtain ⟨o,ho⟩:∃ o,o=l[k]:=⟨_,rfl⟩
   rw [← ho] at c0 c1 c2 c3 c4 c5 c6 c7 c8 c9 c10 HOM
   have HCS:Hid (∀ wx,Below W.heap.size W wx→bo<wx.heap.size∧wx.cell? ⟨bo,oo+k * 11,none⟩=some (.int .u8 o.kind)∧wx.cell? ⟨bo,oo+k * 11+1,none⟩=some (.int .u8 o.d.c.kind)∧wx.cell? ⟨bo,oo+k * 11+2,none⟩=some (.int .i64 o.d.c.tenant)∧wx.cell? ⟨bo,oo+k * 11+3,none⟩=some (.slice o.d.so o.d.c.keys.length o.d.sc)∧wx.cell? ⟨bo,oo+k * 11+4,none⟩=some (.string o.d.c.value)∧wx.cell? ⟨bo,oo+k * 11+5,none⟩=some (.int .u32 o.d.c.flags)∧wx.cell? ⟨bo,oo+k * 11+6,none⟩=some (.int .i64 o.d.c.life)∧wx.cell? ⟨bo,oo+k * 11+7,none⟩=some (.int .u64 o.d.c.unique)∧wx.cell? ⟨bo,oo+k * 11+8,none⟩=some (.int .u64 o.d.c.by_)∧wx.cell? ⟨bo,oo+k * 11+9,none⟩=some (.int .i64 o.tenant)∧wx.cell? ⟨bo,oo+k * 11+10,none⟩=some (.int .i64 o.dest)):=fun wx hb=>⟨Nat.lt_of_lt_of_le hbo hb.size,(hb.cell (p:=⟨bo,_,none⟩) hbo).trans c0,(hb.cell (p:=⟨bo,_,none⟩) hbo).trans c1,(hb.cell (p:=⟨bo,_,none⟩) hbo).trans c2,(hb.cell (p:=⟨bo,_,none⟩) hbo).trans c3,(hb.cell (p:=⟨bo,_,none⟩) hbo).trans c4,(hb.cell (p:=⟨bo,_,none⟩) hbo).trans c5,(hb.cell (p:=⟨bo,_,none⟩) hbo).trans c6,(hb.cell (p:=⟨bo,_,none⟩) hbo).trans c7,(hb.cell (p:=⟨bo,_,none⟩) hbo).trans c8,(hb.cell (p:=⟨bo,_,none⟩) hbo).trans c9,(hb.cell (p:=⟨bo,_,none⟩) hbo).trans c10⟩
   clear hcs hne ho c0 c1 c2 c3 c4 c5 c6 c7 c8 c9 c10 hbo
   subst hlo
   have HIM1:=Hid.m (E.image HT.out.rep)
   unfold imB at HIM1
   go_upto_region 11 with (go_at_call 14;refine HIM1.out.mono ?_;rintro x w1 ⟨q1,d1,k1,e1,F1,rfl,hq1,ho1,hn1,hk1,hp1,hr1,hR1,hK1,hs1⟩;have HT1:=Hid.m (HT.out.left hR1 hK1 hs1);have HW1:Hid (GRd EK w1 k1 s.kept e1∧Off F1 k1):=⟨hk1,hp1⟩;clear hq1 ho1 hn1 hk1 hp1 hr1 hR1 hK1 hs1)
   have HBX1:Hid (GBx (w1.alloc (.cells #[.int .i64 s.now,.slice q1 s.quotas.length d1,.slice k1 s.kept.length e1,.int .i64 0,.int .i64 0,.bool false] 41)) w1.heap.size [.int .i64 s.now,.slice q1 s.quotas.length d1,.slice k1 s.kept.length e1,.int .i64 0,.int .i64 0,.bool false]):=GBx.made w1 [.int .i64 s.now,.slice q1 s.quotas.length d1,.slice k1 s.kept.length e1,.int .i64 0,.int .i64 0,.bool false] _
   have HT2:=Hid.m (HT1.out.below E (g_alloc w1 (.cells #[.int .i64 s.now,.slice q1 s.quotas.length d1,.slice k1 s.kept.length e1,.int .i64 0,.int .i64 0,.bool false] 41)))
   have HW2:=Hid.m (HW1.out.1.alloc (.cells #[.int .i64 s.now,.slice q1 s.quotas.length d1,.slice k1 s.kept.length e1,.int .i64 0,.int .i64 0,.bool false] 41))
   have HOF1:Hid (Off F1 k1):=HW1.out.2
   have HNB1:Hid (¬ F1 w1.heap.size):=fun hf=>by have:=E.lt HT1.out.rep _ hf;omega
   generalize w1.alloc (.cells #[.int .i64 s.now,.slice q1 s.quotas.length d1,.slice k1 s.kept.length e1,.int .i64 0,.int .i64 0,.bool false] 41)=V1 at HBX1 HT2 HW2 ⊢
   generalize w1.heap.size=B1 at HBX1 HNB1 ⊢
   clear HT1 HW1 HT HIM1
   have HDO:=Hid.m (do_any E o (show k<1000 by have:=HG.out.len;omega) (HT2.out.calm HTB.out) HT2.out.rep ((HO.out.below HT2.out.bel).keys o HOM.out) (HT2.out.offs HO.out HOM.out) (HO.out.by_ o HOM.out))
   have HAP:Hid (o.kind=0→_):=fun h=>op_apart HI.out h
   obtain ⟨t,ht⟩:∃ t,t=s.op o.opn:=⟨_,rfl⟩
   rw [← ht] at HDO HAP
   clear ht
   obtain ⟨s1,⟨rk,rI,rn⟩,C,ok⟩:=t
   dsimp only at HDO HAP
   unfold Opr.cl at HDO
   obtain ⟨cb,c0,c1,c2,c3,c4,c5,c6,c7,c8,c9,c10⟩:=HCS.out V1 HT2.out.bel
   go_upto_region 12 with (go_at_call 25;refine HDO.out.mono ?_;rintro x w4 ⟨io,ic,lo4,lc4,F4,rfl,hI4,hoI,hnI,hL⟩;have HL:=Hid.m hL;clear hI4 hoI hnI hL)
   clear cb c0 c1 c2 c3 c4 c5 c6 c7 c8 c9 c10
   have HT4:=Hid.m ((HT2.out.left HL.out.rep HL.out.kpt HL.out.sub).below E (g_alloc w4 (.cells #[.int .u8 rk,.slice io rI.length ic,.int .u64 rn] 30)))
   have HC4:=Hid.m (HL.out.chs.alloc (.cells #[.int .u8 rk,.slice io rI.length ic,.int .u64 rn] 30))
   have HCO:Hid (Off F4 lo4):=HL.out.off
   have HBX4:=Hid.m ((HBX1.out.kpt HL.out.kpt HNB1.out).alloc (.cells #[.int .u8 rk,.slice io rI.length ic,.int .u64 rn] 30))
   have HW4:=Hid.m ((HW2.out.kpt HL.out.kpt HOF1.out).alloc (.cells #[.int .u8 rk,.slice io rI.length ic,.int .u64 rn] 30))
   have HNB4:Hid (¬ F4 B1∧(s.kept≠[]→Off F4 k1)):=by
    refine ⟨fun hf=>?_,fun hne a2 ha hf=>?_⟩
    ·rcases HL.out.sub _ hf with h1 | h1
     ·exact HNB1.out h1
     ·have:=HBX1.out.lt;omega
    ·rcases HL.out.sub _ hf with h1 | h1
     ·exact HOF1.out a2 ha h1
     ·obtain ⟨b2,f2,e2,hb2,_⟩:=HW2.out.lies hne
      rw [ha] at e2
      have e3:a2=⟨b2,f2,none⟩:=Option.some.inj e2
      rw [e3] at h1
      simp at h1
      omega
   generalize w4.alloc (.cells #[.int .u8 rk,.slice io rI.length ic,.int .u64 rn] 30)=V4 at HT4 HC4 HBX4 HW4 ⊢
   clear HL HDO HT2 HW2 HOF1 HNB1 HBX1
   have HIM5:=Hid.m (E.image HT4.out.rep)
   unfold imB at HIM5
   go_upto_region 13 with (go_at_call 14;refine HIM5.out.mono ?_;rintro x w5 ⟨q5,d5,k5,e5,F5,rfl,hq5,ho5,hn5,hk5,hp5,hr5,hR5,hK5,hs5⟩;have HT5:=Hid.m (HT4.out.left hR5 hK5 hs5);have HW5:=Hid.m hk5;have HK5:=Hid.m hK5;clear hq5 ho5 hn5 hk5 hp5 hr5 hR5 hK5 hs5)
   have HBY:Hid (GBx (w5.alloc (.cells #[.int .i64 s1.now,.slice q5 s1.quotas.length d5,.slice k5 s1.kept.length e5,.int .i64 0,.int .i64 0,.bool false] 41)) w5.heap.size [.int .i64 s1.now,.slice q5 s1.quotas.length d5,.slice k5 s1.kept.length e5,.int .i64 0,.int .i64 0,.bool false]):=GBx.made w5 [.int .i64 s1.now,.slice q5 s1.quotas.length d5,.slice k5 s1.kept.length e5,.int .i64 0,.int .i64 0,.bool false] _
   have HT6:=Hid.m (HT5.out.below E (g_alloc w5 (.cells #[.int .i64 s1.now,.slice q5 s1.quotas.length d5,.slice k5 s1.kept.length e5,.int .i64 0,.int .i64 0,.bool false] 41)))
   have HW6:=Hid.m (HW5.out.alloc (.cells #[.int .i64 s1.now,.slice q5 s1.quotas.length d5,.slice k5 s1.kept.length e5,.int .i64 0,.int .i64 0,.bool false] 41))
   have HC6:Hid (GRd EC (w5.alloc (.cells #[.int .i64 s1.now,.slice q5 s1.quotas.length d5,.slice k5 s1.kept.length e5,.int .i64 0,.int .i64 0,.bool false] 41)) lo4 C lc4):=(HC4.out.kpt HK5.out HCO.out).alloc _
   have HBX6:Hid (GBx (w5.alloc (.cells #[.int .i64 s1.now,.slice q5 s1.quotas.length d5,.slice k5 s1.kept.length e5,.int .i64 0,.int .i64 0,.bool false] 41)) B1 [.int .i64 s.now,.slice q1 s.quotas.length d1,.slice k1 s.kept.length e1,.int .i64 0,.int .i64 0,.bool false]):=(HBX4.out.kpt HK5.out HNB4.out.1).alloc _
   have HWA6:Hid (GRd EK (w5.alloc (.cells #[.int .i64 s1.now,.slice q5 s1.quotas.length d5,.slice k5 s1.kept.length e5,.int .i64 0,.int .i64 0,.bool false] 41)) k1 s.kept e1):=by
    by_cases hne:s.kept=[]
    ·have h9:=HW4.out
     rw [hne] at h9 ⊢
     exact ⟨h9.hl,h9.hc,h9.hn,.inl rfl⟩
    ·exact (HW4.out.kpt HK5.out (HNB4.out.2 hne)).alloc _
   generalize w5.alloc (.cells #[.int .i64 s1.now,.slice q5 s1.quotas.length d5,.slice k5 s1.kept.length e5,.int .i64 0,.int .i64 0,.bool false] 41)=V6 at HBY HT6 HW6 HC6 HBX6 HWA6 ⊢
   generalize w5.heap.size=B5 at HBY ⊢
   clear HIM5 HT4 HC4 HBX4 HW4 HNB4 HCO HT5 HW5 HK5
   obtain ⟨cb,c0,c1,c2,c3,c4,c5,c6,c7,c8,c9,c10⟩:=HCS.out V6 HT6.out.bel
   clear c1 c3 c4 c5 c6 c7 c8 c9 c10
   by_cases k0:o.kind=0
   ·have e0:(o.kind != 0)=false:=by rw [k0];rfl
    obtain ⟨hoth,hnow,hten⟩:=HAP.out k0
    have HTN:=Hid.m hten
    have HOT:Hid (∀ wx,Below V6.heap.size V6 wx→_):=fun wx hb=>others_any s.now o.d.c.tenant 0 0 0 0 false false (.slice q1 s.quotas.length d1) (.slice q5 s1.quotas.length d5) s.kept s1.kept hoth k1 k5 e1 e5 wx (HWA6.out.below hb) (HW6.out.below hb)
    rw [← hnow] at HBY
    unfold imB at HOT
    have hcl:=HC6.out.len
    clear k0 hoth hnow hten HAP c2
    go_upto_region 16 with (fail)
    go_wp2
    clear c0 cb
    go_loopw [20] (fun j wx=>∃ (q:Nat),q≤C.length∧j=.int .i64 q∧Hid (Below V6.heap.size V6 wx)) (fun j _=>C.length - (intOf j).toNat)
    case atStart=>exact ⟨0,Nat.zero_le _,rfl,Below.refl _ _⟩
    case round=>
     obtain ⟨q,hq,rfl,HBQ⟩:=hrel
     by_cases hql:q<C.length
     ·have hql2:(q:Int)<(C.length:Int):=by omega
      obtain ⟨bc,oc,hlo4,hbc,hcc⟩:=(HC6.out.below HBQ.out).lies (by intro e;rw [e] at hql;simp at hql)
      have v1:=hcc q hql 1 (by decide)
      obtain ⟨cb,c0,c1,c2,c3,c4,c5,c6,c7,c8,c9,c10⟩:=HCS.out wr (HT6.out.bel.trans (HBQ.out.mono HT6.out.bel.size))
      clear c0 c1 c3 c4 c5 c6 c7 c8 c9 c10
      simp only [EC,Ch.cl,List.getElem_cons_zero,List.getElem_cons_succ] at v1
      rw [HTN.out _ (List.getElem_mem hql)] at v1
      have d1:∀ p:Beh wr,_:=cell_beh (a:=⟨bc,_,none⟩) hbc v1
      have d2:∀ p:Beh wr,_:=cell_beh (a:=⟨bo,_,none⟩) cb c2
      clear v1 c2 hcc
      subst hlo4
      go_upto_region 19 with (fail)
      refine wp_region_quiet_beh (by assumption) (by kernel_rfl) ?_
      repeat (first | go_big_quiet_skip | (quiet_step (first | fail)))
      refine wpQuiet_nil ?_
      intro w7 hw'
      obtain ⟨⟨wq,hq7⟩,hw''⟩:=hw'
      subst hw''
      have HB7:=Hid.m (g_on HBQ.out hq7)
      clear d1 d2 hq7
      go_wp2
      go_roundw
      case rel=>exact ⟨q+1,by omega,by go_num,HB7⟩
      case measure=>simp [intOf];omega
     ·have hql3:¬ ((q:Int)<(C.length:Int)):=by omega
      obtain ⟨cb,c0,c1,c2,c3,c4,c5,c6,c7,c8,c9,c10⟩:=HCS.out wr (HT6.out.bel.trans (HBQ.out.mono HT6.out.bel.size))
      clear c0 c1 c3 c4 c5 c6 c7 c8 c9 c10
      have hX:=HBX6.out.below HBQ.out
      have hY:=HBY.out.below HBQ.out
      have x0:=hX.c 0 (by simp)
      have x1:=hX.c 1 (by simp)
      have x2:=hX.c 2 (by simp)
      have x3:=hX.c 3 (by simp)
      have x4:=hX.c 4 (by simp)
      have x5:=hX.c 5 (by simp)
      have y0:=hY.c 0 (by simp)
      have y1:=hY.c 1 (by simp)
      have y2:=hY.c 2 (by simp)
      have y3:=hY.c 3 (by simp)
      have y4:=hY.c 4 (by simp)
      have y5:=hY.c 5 (by simp)
      simp only [List.getElem_cons_zero,List.getElem_cons_succ] at x0 x1 x2 x3 x4 x5 y0 y1 y2 y3 y4 y5
      have d2:∀ p:Beh wr,_:=cell_beh (a:=⟨bo,_,none⟩) cb c2
      have a0:∀ p:Beh wr,_:=cell_beh (a:=⟨B1,0,none⟩) hX.lt x0
      have a1:∀ p:Beh wr,_:=cell_beh (a:=⟨B1,1,none⟩) hX.lt x1
      have a2:∀ p:Beh wr,_:=cell_beh (a:=⟨B1,2,none⟩) hX.lt x2
      have a3:∀ p:Beh wr,_:=cell_beh (a:=⟨B1,3,none⟩) hX.lt x3
      have a4:∀ p:Beh wr,_:=cell_beh (a:=⟨B1,4,none⟩) hX.lt x4
      have a5:∀ p:Beh wr,_:=cell_beh (a:=⟨B1,5,none⟩) hX.lt x5
      have b0:∀ p:Beh wr,_:=cell_beh (a:=⟨B5,0,none⟩) hY.lt y0
      have b1:∀ p:Beh wr,_:=cell_beh (a:=⟨B5,1,none⟩) hY.lt y1
      have b2:∀ p:Beh wr,_:=cell_beh (a:=⟨B5,2,none⟩) hY.lt y2
      have b3:∀ p:Beh wr,_:=cell_beh (a:=⟨B5,3,none⟩) hY.lt y3
      have b4:∀ p:Beh wr,_:=cell_beh (a:=⟨B5,4,none⟩) hY.lt y4
      have b5:∀ p:Beh wr,_:=cell_beh (a:=⟨B5,5,none⟩) hY.lt y5
      have HOP:Hid (∀ p:Beh wr,_):=fun p=>HOT.out p.v (g_on HBQ.out p.ok)
      clear x0 x1 x2 x3 x4 x5 y0 y1 y2 y3 y4 y5 hX hY c2 cb
      go_upto_region 21 with (fail)
      refine wp_region_quiet_beh (by assumption) (by kernel_rfl) ?_
      repeat (first | go_big_quiet_skip | (quiet_step (first | (go_at_call 34;exact Calls.beh_of (HOP.out _)))))
      refine wpQuiet_nil ?_
      intro w7 hw'
      obtain ⟨⟨wq,hq7⟩,hw''⟩:=hw'
      subst hw''
      have HT7:=Hid.m (HT6.out.below E (g_on HBQ.out hq7))
      clear d2 a0 a1 a2 a3 a4 a5 b0 b1 b2 b3 b4 b5 hq7 HOP
      go_wp2
      go_roundw
      case rel=>exact ⟨k+1,s1,F5,by omega,by go_num,HT7⟩
      case measure=>simp [intOf];omega
   ·have e0:(o.kind != 0)=true:=by simpa using k0
    have e00:(o.kind==0)=false:=by simpa using k0
    clear HAP k0 c2
    go_wp2
    go_roundw
    case rel=>exact ⟨k+1,s1,F5,by omega,by go_num,HT6⟩
    case measure=>simp [intOf];omega
  ·have hkl3:¬ ((k:Int)<(l.length:Int)):=by omega
   go_wp2
   go_ret
   exact ⟨rfl,HT.out.bel⟩
end
end Go.Proofs.YtpinkmndjabbjaaGreatDoor.En
