/-
  Package engine and what stands beneath it, part 43: contracts of functions, and what they rest on.
-/
import Derived.Test.YtcdpiefflnaghaaGreatDoorU42
import Derived.Test.YtcdpiefflnaghaaGreatDoorU32
import Derived.Test.YtcdpiefflnaghaaGreatDoorU20
set_option linter.unusedSimpArgs false
set_option linter.unusedVariables false
set_option maxRecDepth 100000
namespace Go.Proofs.YtcdpiefflnaghaaGreatDoor.En
open Go.Proofs.YtcdpiefflnaghaaGreatDoor.It
open Go.Proofs.YtcdpiefflnaghaaGreatDoor.Lr
open Go.Proofs.YtcdpiefflnaghaaGreatDoor.Qt
open Go.Proofs.YtcdpiefflnaghaaGreatDoor.Sb
open Go.RowKit Go.Proofs.YtcdpiefflnaghaaGreatDoor
theorem rd_il {w:World}{ao:Option Addr}{l:List Int}{cap:Nat}(h:Qt.Il w ao l cap):GRd EI w ao l cap:=by
 refine ⟨h.hl,h.hc,h.hn,?_⟩
 rcases h.at_ with e | ⟨b,off,e,hb,hc⟩
 ·exact .inl e
 ·refine .inr ⟨b,off,e,hb,fun i hi j hj=>?_⟩
  have hj1:j<1:=hj
  obtain rfl:j=0:=by omega
  simp [EI,hc i hi]
theorem qset {w:World}{pool:Int}{ao:Option Addr}{l:List Int}{cap:Nat}(h:GRd EI w ao l cap){t p E:Int}{R:List Int}(hE:setE pool l t p=E)(hR:setR pool l t p=R)(hne:R≠[]∨E≠0):
  Calls Tryz.prog 102 #[.int .i64 pool,.slice ao l.length cap,.int .i64 t,.int .i64 p] w fun e w'=>∃ ro rc,e=.returned (.tuple #[.slice ro R.length rc,.int .i64 E])∧GRd EI w' ro R rc∧(E=0→∀ a,ro=some a→w.heap.size≤a.block∧a.block<w'.heap.size)∧Below w.heap.size w w':=by
 refine (Qt.set_any pool w ao l cap (il_of h) t p E R hE hR).mono ?_
 rintro e w' ⟨ro,rc,rfl,hF,hb⟩
 refine ⟨ro,rc,rfl,rd_il hF.il.2,?_,hb⟩
 intro h0
 obtain ⟨a2,c2,e,_,_,_,h4⟩:=hF
 injection e with e1 e2 e3
 subst e1
 rcases h4 with h5 | ⟨g,rfl,h6,h7,_⟩
 ·rcases hne with h8 | h8
  ·exact absurd h5 h8
  ·exact absurd h0 h8
 ·intro a ha
  cases ha
  exact ⟨h6,h7⟩
theorem isOver_q {N:Nat}{A:Ad}{s:Sh}{q:List Int}{F F1:Cp→Nat→Prop}{w w1:World}(I:Inv s)(hM:Mv N A (s.wq q) F w w1 F1)(hq:chkE s.pages.length q=0){t:Int}(ht:hasQ q t=true){b:Bool}(hb:b=decide (qAt q t<(owned s.pages t:Int))):
  Calls Tryz.prog 103 #[ptr A.b,.int .i64 t] w1 fun e w'=>e=.returned (.bool b)∧Below w1.heap.size w1 w':=by
 obtain ⟨x,hL,RA,RB⟩:=hM
 have e1:x.pages=s.pages:=RA.pages
 have e2:x.quotas=q:=RA.quo
 exact isOver_m hL.eg (by rw [e1];exact I.slab) (by rw [e1,e2];exact hq) (by rw [e2];exact ht) (by rw [e1,e2];exact hb)
theorem evict_on {s:Sh}{t p:Int}{g:Nat}(h:¬ (owned s.pages t:Int)≤p):s.evict t p (g+1)=(((s.evs t (lastI s.pages t).toNat (List.range 16)).1.evict t p g).1,(s.evs t (lastI s.pages t).toNat (List.range 16)).2++((s.evs t (lastI s.pages t).toNat (List.range 16)).1.evict t p g).2):=by
 rw [Sh.evict,if_neg h]
theorem evict_off {s:Sh}{t p:Int}(h:(owned s.pages t:Int)≤p):∀ g,s.evict t p g=(s,[])
 | 0=>rfl
 | g+1=>by rw [Sh.evict,if_pos h]
structure Evk (s:Sh)(t p:Int)(sj:Sh)(C:List Ch)(g:Nat):Prop where
 inv:Inv sj
 len:sj.pages.length=s.pages.length
 few:owned sj.pages t≤g
 ev:s.evict t p 16=((sj.evict t p g).1,C++(sj.evict t p g).2)
 cl:C.length≤16 * (16 - g)∧g≤16
theorem evk_start {s:Sh}(I:Inv s)(t p:Int):Evk s t p s [] 16:=by
 refine ⟨I,rfl,?_,by simp,by simp,by omega⟩
 have h5:=List.countP_le_length (p:=isOf t) (l:=s.pages)
 have h6:=sOk_len I.slab
 unfold owned
 omega
theorem evk_on {s sj:Sh}{t p:Int}{C:List Ch}{g:Nat}(h:Evk s t p sj C (g+1))(hp:0≤p)(hov:¬ (owned sj.pages t:Int)≤p):∃ P:Nat,lastI sj.pages t=(P:Int)∧∃ hP:P<sj.pages.length,isOf t sj.pages[P]=true∧Evk s t p (sj.evs t P (List.range 16)).1 (C++(sj.evs t P (List.range 16)).2) g∧(sj.evs t P (List.range 16)).2.length≤16:=by
 have I:=h.inv
 obtain ⟨P,hPe,hP,ho⟩:=last_some (ps:=sj.pages) (t:=t) (by omega)
 have hto:(lastI sj.pages t).toNat=P:=by rw [hPe];simp
 have hten:∀ h∈sj.held,h.page=P→h.tenant=t:=by
  intro x hx e
  obtain ⟨_,q1,_,_⟩:=I.page x hx
  subst e
  rw [← q1]
  unfold isOf at ho
  simp at ho
  exact ho.2
 obtain ⟨K,h2,h3,h4,h5⟩:=evs_spec t P (List.range 16) I hten
 have hsub:∀ x∈(sj.evs t P (List.range 16)).1.held,x∈sj.held:=fun x hx=>((h5 x).1 hx).1
 have hno:∀ x∈(sj.evs t P (List.range 16)).1.held,x.page≠P:=by
  intro x hx e
  refine ((h5 x).1 hx).2 ⟨e,?_⟩
  rw [List.mem_range]
  exact (I.spot_lt (hsub x hx)).2
 have hlt:=owned_less I K hP ho hsub hno
 have hlen:=(evs_st I hP ho).len 16
 refine ⟨P,hPe,hP,ho,⟨K.inv,K.len.trans h.len,by have:=h.few;omega,?_,?_,by have:=h.cl.2;omega⟩,hlen⟩
 ·rw [h.ev,evict_on hov,hto]
  simp
 ·rw [List.length_append]
  have:=h.cl
  have h9:16 * (16 - g)=16 * (16 - (g+1))+16:=by omega
  omega
set_option maxHeartbeats 8000000 in
theorem quota_m {N:Nat}{A:Ad}{s:Sh}{x:Ra}{F:Cp→Nat→Prop}{w:World}(I:Inv s)(hE:Eg N w A x F)(RA:RepA x s)(RB:RepB x s){t p:Int}(h:setE s.pages.length s.quotas t p=0):
  Calls Tryz.prog 60 #[ptr A.b,.int .i64 t,.int .i64 p] w fun e w'=>∃ lo lc,e=.returned (.tuple #[.slice lo (s.setQ t p).2.length lc,.int .i64 0])∧Cgs N A (s.setQ t p).1 F w w' lo (s.setQ t p).2 lc:=by
 have hE3:hasQ s.quotas t=true∧inQ p=true∧mayQ s.pages.length (s.quotas.set t.toNat p)=true:=by
  have h0:=h
  unfold setE at h0
  rw [if_neg (by rw [I.quo];simp)] at h0
  split at h0
  ·exact absurd h0 (by decide)
  split at h0
  ·exact absurd h0 (by decide)
  split at h0
  ·rename_i a b c
   exact ⟨by simpa using a,by simpa using b,c⟩
  ·exact absurd h0 (by decide)
 obtain ⟨q,hq⟩:∃ q,q=s.quotas.set t.toNat p:=⟨_,rfl⟩
 have htq:0≤t∧t<s.quotas.length:=by simpa [hasQ] using hE3.1
 have hqA:qAt q t=p:=by rw [hq];unfold qAt;rw [List.getElem?_set_self (by omega)];rfl
 have hpp:0≤p∧p≤16:=by simpa [inQ] using hE3.2.1
 have hckq:chkE s.pages.length q=0:=by
  unfold chkE
  have h7:=chkE_may I.quo
  rw [if_neg (by omega),hq,if_pos hE3.2.2]
 have hlq:q.length=s.quotas.length:=by rw [hq,List.length_set]
 have hhq:hasQ q t=true:=by unfold hasQ;rw [hlq];exact hE3.1
 have hT:isT t=true:=I.tOk htq
 have hR:setR s.pages.length s.quotas t p=q:=by unfold setR;rw [if_pos h,hq]
 have hqne:q≠[]:=by intro e;rw [e] at hlq;simp at hlq;omega
 have HIM:=Hid.m (eisMade_any hE)
 obtain ⟨V,hEv⟩:=hE
 have HE:=Hid.m hEv
 obtain ⟨ao,cap,hG⟩:=hEv.imm.pg
 have hp0:=hG.box.c 0 (by simp)
 have hpl:=hG.box.lt
 simp only [List.getElem_cons_zero] at hp0
 have hqu:=hEv.imm.qu
 have c3:=hEv.c3
 have c24:=hEv.c24
 have bl:=hEv.lt
 rw [RA.quo] at hqu c24
 rw [RA.pages] at hp0
 have hnl:=(sOk_len I.slab).2
 have HS:Hid (∀ W0,Below w.heap.size w W0→W0.cell? ⟨A.b,3,none⟩=some (ptr V.pp)∧W0.cell? ⟨V.pp,0,none⟩=some (.slice ao s.pages.length cap)∧W0.cell? ⟨A.b,24,none⟩=some (.slice V.qo s.quotas.length V.qc)):=fun W0 hb=>⟨(hb.cell (p:=⟨A.b,3,none⟩) bl).trans c3,(hb.cell (p:=⟨V.pp,0,none⟩) hpl).trans hp0,(hb.cell (p:=⟨A.b,24,none⟩) bl).trans c24⟩
 have HST:Hid (∀ W0,Below w.heap.size w W0→Calls Tryz.prog 102 #[.int .i64 (s.pages.length:Nat),.slice V.qo s.quotas.length V.qc,.int .i64 t,.int .i64 p] W0 fun e w'=>∃ ro rc,e=.returned (.tuple #[.slice ro q.length rc,.int .i64 0])∧GRd EI w' ro q rc∧(∀ a,ro=some a→w.heap.size≤a.block∧a.block<w'.heap.size)∧Below w.heap.size w w'):=fun W0 hb=>by
  refine (qset (hqu.below hb) h hR (.inl hqne)).mono ?_
  rintro e w' ⟨ro,rc,rfl,h1,h2,h3⟩
  exact ⟨ro,rc,rfl,h1,fun a ha=>⟨Nat.le_trans hb.size (h2 rfl a ha).1,(h2 rfl a ha).2⟩,g_on hb h3⟩
 have HK0:=Hid.m (evk_start I t p)
 have HRP:Hid (RepA { x with quotas:=q } (s.wq q)∧RepB { x with quotas:=q } (s.wq q)):=⟨⟨rfl,RA.now,RA.pages,RA.ord,RA.last⟩,⟨RB.T,RB.L,RB.kl,RB.kept,RB.row⟩⟩
 have HQ:Hid (chkE s.pages.length q=0∧hasQ q t=true∧qAt q t=p∧0≤p∧isT t=true):=⟨hckq,hhq,hqA,hpp.1,hT⟩
 have eS:(s.setQ t p).1=((s.evict t p 16).1).wq q:=by unfold Sh.setQ Sh.wq;rw [hq]
 have eC:(s.setQ t p).2=(s.evict t p 16).2++[.quota t p]:=rfl
 obtain ⟨sE,hsE⟩:∃ sE,sE=(s.evict t p 16).1:=⟨_,rfl⟩
 obtain ⟨CE,hCE⟩:∃ CE,CE=(s.evict t p 16).2:=⟨_,rfl⟩
 rw [eS,eC,← hsE,← hCE]
 have HEE:Hid (s.evict t p 16=(sE,CE)):=by rw [hsE,hCE];exact rfl
 obtain ⟨n,hn⟩:∃ n,n=s.pages.length:=⟨_,rfl⟩
 rw [← hn] at HS HST hnl
 clear hE3 hq htq hqA hpp hckq hlq hhq hT hR hqne hEv hG hp0 hpl hqu c3 c24 bl RA RB h eS eC hsE hCE I hn
 unfold ptr at HIM HS ⊢
 go_enter Tryz.func60,Tryz.ntmps60
 go_upto_region 3 with (go_at_call 43;refine HIM.out.mono ?_;rintro e w0 ⟨rfl,h0⟩;replace h0:=h0.symm;subst h0)
 go_cut [8,9] from 13 (fun s8 s9 wx=>∃ ro rc,s8=.slice ro q.length rc∧s9=.int .i64 0∧Hid (GRd EI wx ro q rc∧(∀ a,ro=some a→w.heap.size≤a.block∧a.block<wx.heap.size)∧Below w.heap.size w wx))
 case first=>
  go_region_held3 (fun W0=>W0.cell? ⟨A.b,3,none⟩=some (.pointer (some ⟨V.pp,0,none⟩))∧W0.cell? ⟨V.pp,0,none⟩=some (.slice ao n cap)∧W0.cell? ⟨A.b,24,none⟩=some (.slice V.qo s.quotas.length V.qc))
   (first | with_reducible exact HS.out _ HB1.out | with_reducible exact HS.out _ (Below.refl _ _) | with_reducible exact HS.out _ (Below.refl _ _).drew)
   (first
   | (go_at_call 102;refine (HST.out w.drew (Below.refl _ _).drew).mono ?_;rintro e w1 ⟨ro,rc,rfl,hG⟩;have HG:=Hid.m hG;have HB1:=Hid.m hG.2.2;clear hG))
  all_goals (go_wp2;go_meet)
  all_goals (case rel=>exact ⟨ro,rc,rfl,rfl,HG.out⟩)
 case rest=>
 obtain ⟨ro,rc,rfl,rfl,HG⟩:=hcut
 obtain ⟨w1,hw1⟩:∃ w1,w1=wc:=⟨_,rfl⟩
 rw [← hw1] at HG ⊢
 clear hw1
 obtain ⟨F2,hL2⟩:=HE.out.quotas HG.out.2.2 HG.out.1 HG.out.2.1
 have y24:=(HE.out.below HG.out.2.2).c24
 have yf:=(HE.out.below HG.out.2.2).f 24
 have ylt:=(HE.out.below HG.out.2.2).lt
 obtain ⟨w2,hw2⟩:∃ w2,w2=w1.setCell ⟨A.b,24,none⟩ (.slice ro q.length rc):=⟨_,rfl⟩
 rw [← hw2] at hL2
 have HL0:Hid (Lq N A (s.wq q) F w w.heap.size w2 (.slice none 0 0) [] F2):=⟨⟨_,hL2,HRP.out.1,HRP.out.2⟩,hL2.kpt.size,GOwn.nil _ _,by intro k hk;cases hk⟩
 clear hL2
 go_upto_region 7 with (fail)
 rw [← hw2]
 clear hw2 y24 yf ylt
 go_wp2
 go_loopg [10,11,12] 16 (fun g s10 _ _ wr=>∃ (sj:Sh) (lo:Option Addr) (lm lc:Nat) (Fj:Cp→Nat→Prop) (C:List Ch),s10=.slice lo lm lc∧Hid (Lq N A (sj.wq q) F w w.heap.size wr (.slice lo lm lc) C Fj)∧Hid (Evk s t p sj C g))
 case atStart=>exact ⟨s,none,0,0,F2,[],rfl,HL0,HK0⟩
 case round=>
  clear HL0 HK0
  obtain ⟨sj,lo,lm,lc,Fj,C,rfl,HP,HK⟩:=hrel
  by_cases hov:(owned sj.pages t:Int)≤p
  ·have HOV:=Hid.m (isOver_q (b:=false) HK.out.inv HP.out.mv (by rw [HK.out.len];exact HQ.out.1) HQ.out.2.1 (by rw [HQ.out.2.2.1];simp;omega))
   have HFE:Hid (sj=sE∧C=CE):=by
    have h1:=HK.out.ev
    rw [HEE.out,evict_off hov,List.append_nil] at h1
    exact ⟨(congrArg Prod.fst h1).symm,(congrArg Prod.snd h1).symm⟩
   have HLL:Hid (C.length+1≤1000000):=by show _≤_;have:=HK.out.cl;omega
   clear hov
   unfold ptr at HOV
   go_wp2_with (first
    | (go_at_call 103;refine HOV.out.mono ?_;rintro e w3 ⟨rfl,hb3⟩;have HP3:=Hid.m (HP.out.below hb3);clear hb3)
    | (at_builtin;refine g_one (w0:=w3) okC rfl _ _ _ rfl rfl w.heap.size _ _ HP3.out.own rfl (Ch.quota t p) rfl _ rfl rfl HLL.out HP3.out.hz ?_;intro v5 w5 hO5 hG5;have HP5:=Hid.m (HP3.out.grew (Nat.le_refl _) hG5 hO5);obtain ⟨a5,c5,hv5,-⟩:=hO5.rd okC;rw [List.length_append] at hv5;subst hv5;clear hO5 hG5))
   try simp only [Exit.inBlock,Exit.then]
   go_ret2
   obtain ⟨hlm,hrd,hadr⟩:=HP5.out.rows
   obtain ⟨x5,hL5,rA5,rB5⟩:=HP5.out.mv
   obtain ⟨e1,e2⟩:=HFE.out
   subst e1 e2
   exact ⟨a5,c5,by simp,hrd,Fj,x5,hL5,rA5,rB5,hadr⟩
  ·have HOV:=Hid.m (isOver_q (b:=true) HK.out.inv HP.out.mv (by rw [HK.out.len];exact HQ.out.1) HQ.out.2.1 (by rw [HQ.out.2.2.1];simp;omega))
   obtain ⟨g,rfl⟩:∃ g,gk=g+1:=⟨gk - 1,by have:=HK.out.few;have:=HQ.out.2.2.2.1;omega⟩
   obtain ⟨P,hPe,hP,ho,hK2,hl16⟩:=evk_on HK.out HQ.out.2.2.2.1 hov
   have HK2:=Hid.m hK2
   have HEM:=Hid.m (fun (w4:World) (F4:Cp→Nat→Prop) (hm:Mv N A (sj.wq q) F w w4 F4)=>emptyPage_m HK.out.inv hm hP ho)
   have HLL:Hid (C.length+(sj.evs t P (List.range 16)).2.length≤1000000):=by show _≤_;have:=HK.out.cl;omega
   obtain ⟨s5,hs5⟩:∃ s5,s5=(sj.evs t P (List.range 16)).1:=⟨_,rfl⟩
   obtain ⟨C5,hC5⟩:∃ C5,C5=(sj.evs t P (List.range 16)).2:=⟨_,rfl⟩
   rw [← hs5,← hC5] at HEM HK2
   rw [← hC5] at HLL
   clear hov hK2 hl16 hs5 hC5
   unfold ptr at HOV
   go_upto_region 9 with (go_at_call 103;refine HOV.out.mono ?_;rintro e w3 ⟨rfl,hb3⟩;have HP3:=Hid.m (HP.out.below hb3);clear hb3)
   obtain ⟨x3,hL3,rA3,rB3⟩:=HP3.out.mv
   obtain ⟨V3,hV3⟩:=hL3.eg
   obtain ⟨ao3,cap3,hG3⟩:=hV3.imm.pg
   have k3:=hV3.c3
   have kl:=hV3.lt
   have kp:=hG3.box.c 0 (by simp)
   have kpl:=hG3.box.lt
   simp only [List.getElem_cons_zero] at kp
   have hpg3:x3.pages=sj.pages:=rA3.pages
   have HLA:=Hid.m (Sb.Last_any w3 ao3 x3.pages cap3 (sb_of hG3.rd) (by rw [hpg3];exact HK.out.inv.slab) t HQ.out.2.2.2.2)
   rw [hpg3,hPe] at HLA
   rw [hpg3] at kp
   obtain ⟨m,hm⟩:∃ m,m=sj.pages.length:=⟨_,rfl⟩
   rw [← hm] at HLA kp
   clear hL3 rA3 rB3 hV3 hG3 hpg3 hPe hm hP ho
   unfold ptr at k3 HEM
   go_upto_region 10 with (go_at_call 104;refine HLA.out.mono ?_;rintro e w4 ⟨rfl,hb4⟩;have HP4:=Hid.m (HP3.out.below hb4);clear hb4)
   clear k3 kl kp kpl
   go_wp2_with (first
    | (go_at_call 105;refine (HEM.out w4 Fj HP4.out.mv).mono ?_;rintro e w5 ⟨lo5,lc5,rfl,hQ5⟩;have HR5:=Hid.m hQ5.rd;obtain ⟨F5,hm5,-⟩:=hQ5.mv;have HP5:=Hid.m (HP4.out.on hm5);clear hQ5 hm5)
    | (at_builtin;refine g_app okC rfl _ _ _ rfl rfl w.heap.size _ _ HP5.out.own rfl lo5 lc5 C5 _ rfl rfl HR5.out HLL.out HP5.out.hz ?_;intro v6 w6 hO6 hG6;have HP6:=Hid.m (HP5.out.grew (Nat.le_refl _) hG6 hO6);obtain ⟨a6,c6,hv6,-⟩:=hO6.rd okC;rw [List.length_append] at hv6;subst hv6;clear hO6 hG6))
   go_roundg g
   case measure=>omega
   case rel=>exact ⟨s5,a6,_,c6,F5,_,rfl,HP6,HK2⟩
theorem quota_no {N:Nat}{A:Ad}{s:Sh}{x:Ra}{F:Cp→Nat→Prop}{w:World}(I:Inv s)(hE:Eg N w A x F)(RA:RepA x s){t p:Int}(h:¬ setE s.pages.length s.quotas t p=0):
  Calls Tryz.prog 60 #[ptr A.b,.int .i64 t,.int .i64 p] w fun e w'=>∃ f:Int,e=.returned (.tuple #[.slice none 0 0,.int .i64 f])∧¬ f=0∧Below w.heap.size w w':=by
 have hR:setR s.pages.length s.quotas t p=[]:=by unfold setR;rw [if_neg h]
 obtain ⟨f,hf⟩:∃ f,f=setE s.pages.length s.quotas t p:=⟨_,rfl⟩
 have HIM:=Hid.m (eisMade_any hE)
 obtain ⟨V,hEv⟩:=hE
 obtain ⟨ao,cap,hG⟩:=hEv.imm.pg
 have hp0:=hG.box.c 0 (by simp)
 have hpl:=hG.box.lt
 simp only [List.getElem_cons_zero] at hp0
 have hqu:=hEv.imm.qu
 have c3:=hEv.c3
 have c24:=hEv.c24
 have bl:=hEv.lt
 rw [RA.quo] at hqu c24
 rw [RA.pages] at hp0
 have hnl:=(sOk_len I.slab).2
 have HS:Hid (∀ W0,Below w.heap.size w W0→W0.cell? ⟨A.b,3,none⟩=some (ptr V.pp)∧W0.cell? ⟨V.pp,0,none⟩=some (.slice ao s.pages.length cap)∧W0.cell? ⟨A.b,24,none⟩=some (.slice V.qo s.quotas.length V.qc)):=fun W0 hb=>⟨(hb.cell (p:=⟨A.b,3,none⟩) bl).trans c3,(hb.cell (p:=⟨V.pp,0,none⟩) hpl).trans hp0,(hb.cell (p:=⟨A.b,24,none⟩) bl).trans c24⟩
 have HST:Hid (∀ W0,Below w.heap.size w W0→Calls Tryz.prog 102 #[.int .i64 (s.pages.length:Nat),.slice V.qo s.quotas.length V.qc,.int .i64 t,.int .i64 p] W0 fun e w'=>∃ ro rc,e=.returned (.tuple #[.slice ro 0 rc,.int .i64 f])∧Below w.heap.size w w'):=fun W0 hb=>by
  refine (qset (hqu.below hb) hf.symm hR (.inr (by rw [hf];exact h))).mono ?_
  rintro e w' ⟨ro,rc,rfl,h1,h2,h3⟩
  exact ⟨ro,rc,rfl,g_on hb h3⟩
 have hf0:¬ f=0:=by rw [hf];exact h
 have HF0:=Hid.m hf0
 have hf1:(f != 0)=true:=by simpa using hf0
 have hf2:(f==0)=false:=by simpa using hf0
 obtain ⟨n,hn⟩:∃ n,n=s.pages.length:=⟨_,rfl⟩
 rw [← hn] at HS HST hnl
 clear hEv hG hp0 hpl hqu c3 c24 bl RA h I hn hR hf hf0
 unfold ptr at HIM HS ⊢
 go_enter Tryz.func60,Tryz.ntmps60
 go_upto_region 3 with (go_at_call 43;refine HIM.out.mono ?_;rintro e w0 ⟨rfl,h0⟩;replace h0:=h0.symm;subst h0)
 go_cut [8,9] from 13 (fun s8 s9 wx=>s9=.int .i64 f∧Hid (Below w.heap.size w wx))
 case first=>
  go_region_held3 (fun W0=>W0.cell? ⟨A.b,3,none⟩=some (.pointer (some ⟨V.pp,0,none⟩))∧W0.cell? ⟨V.pp,0,none⟩=some (.slice ao n cap)∧W0.cell? ⟨A.b,24,none⟩=some (.slice V.qo s.quotas.length V.qc))
   (first | with_reducible exact HS.out _ HB1.out | with_reducible exact HS.out _ (Below.refl _ _) | with_reducible exact HS.out _ (Below.refl _ _).drew)
   (first
   | (go_at_call 102;refine (HST.out w.drew (Below.refl _ _).drew).mono ?_;rintro e w1 ⟨ro,rc,rfl,hG⟩;have HB1:=Hid.m hG;clear hG))
  all_goals (go_wp2;go_meet)
  all_goals (case rel=>exact ⟨rfl,HB1.out⟩)
 case rest=>
 obtain ⟨rfl,HG⟩:=hcut
 go_wp2
 try simp only [Exit.inBlock,Exit.then]
 go_ret2
 exact ⟨f,rfl,HF0.out,HG.out⟩
end Go.Proofs.YtcdpiefflnaghaaGreatDoor.En
namespace Go.Proofs.YtcdpiefflnaghaaGreatDoor.En
open Go.Proofs.YtcdpiefflnaghaaGreatDoor.It
open Go.Proofs.YtcdpiefflnaghaaGreatDoor.Lr
open Go.Proofs.YtcdpiefflnaghaaGreatDoor.Qt
open Go.Proofs.YtcdpiefflnaghaaGreatDoor.Sb
open Go.RowKit Go.Proofs.YtcdpiefflnaghaaGreatDoor
theorem made_list (c:Array Value)(m:Nat)(hm:c.size=m):∀ n,(madeCells c (n * m)).toList=(List.replicate n c.toList).flatten
 | 0=>by simp [madeCells]
 | n+1=>by
  have ih:=made_list c m hm n
  rw [List.replicate_succ,List.flatten_cons,← ih]
  unfold madeCells
  rw [Nat.add_mul,Nat.one_mul,Nat.add_comm]
  simp only [Array.toList_map,Array.toList_range,List.range_add,List.map_append]
  congr 1
  ·apply List.ext_getElem
   ·simp [hm]
   ·intro j h1 h2
    have hj:j<m:=by simpa using h1
    have hj2:j<c.size:=by omega
    simp [hm,Nat.mod_eq_of_lt hj,hj2]
    exact getElem!_pos c j hj2
  ·rw [List.map_map]
   apply List.map_congr_left
   intro j _
   simp [hm]
theorem made_kept {w1:World}{B g n:Nat}{z:Value}(hz:z.cells.toList=EK.cells zK)(ho:w1.ownsRow B 141 6 (.slice (some ⟨g,0,none⟩) n n) n (madeCells z.cells (n * 6)).toList):GBx w1 g ((List.replicate n zK).flatMap EK.cells):=by
 have hs:z.cells.size=6:=by rw [← Array.length_toList,hz];rfl
 rw [made_list z.cells 6 hs n,hz] at ho
 have hf:(List.replicate n zK).flatMap EK.cells=(List.replicate n (EK.cells zK)).flatten:=by rw [List.flatMap_def,List.map_replicate]
 rw [hf]
 rcases ho.2 with ⟨h,_⟩ | ⟨g',cap,cur,h,hb,hg,hnc,hcm,hcs,htake⟩
 ·cases h
 ·cases h
  have e:cur.toList=(List.replicate n (EK.cells zK)).flatten:=by
   rw [← htake,List.take_of_length_le]
   simp [hcs]
  refine ⟨(Array.getElem?_eq_some_iff.1 hg).1,fun j=>by simp [World.frozen?,hg],fun j hj=>?_⟩
  have hj2:cur[j]? = some ((List.replicate n (EK.cells zK)).flatten[j]):=by
   rw [← Array.getElem?_toList,e,List.getElem?_eq_getElem hj]
  simp [World.cell?,hg,hj2]
set_option maxHeartbeats 1000000 in
theorem newItems_any (n:Nat)(hn:1≤n∧n≤16)(w:World):Calls Tryz.prog 42 #[.int .i64 n] w fun e w'=>∃ pi pk,e=.returned (ptr pi)∧w.heap.size≤pi∧w.heap.size≤pk∧pi≠pk∧GBx w' pi [.slice (some ⟨pk,0,none⟩) (n * 16) (n * 16),.slice none 0 0]∧GBx w' pk ((List.replicate (n * 16) zK).flatMap EK.cells)∧Below w.heap.size w w':=by
 obtain ⟨i0,hi,hz0,hz1,hz2⟩:=info_parts okK.info
 have hmul:IntKind.i64.wrap ((n:Int) * 16)=((n * 16:Nat):Int):=by rw [IntKind.wrap_i64];omega
 obtain ⟨m,hm⟩:∃ m,m=n * 16:=⟨_,rfl⟩
 rw [← hm] at hmul ⊢
 have hm2:m≤256:=by omega
 have hb56:i0.bytes * m≤281474976710656:=by
  rw [hz2]
  have h1:=okK.small
  have h2:EK.bytes * m≤1000 * 1000:=Nat.mul_le_mul h1 (by omega)
  omega
 clear hm
 unfold ptr
 go_enter Tryz.func42,Tryz.ntmps42
 go_wp2_with (at_make;refine wpList_make_full _ rfl (.tmp 4) (.tmp 4) 39 rfl w.heap.size 141 i0 _ 6 Tryz.underlying39 hi hz0 hz1 .i64 .i64 _ _ m rfl rfl (by first | exact hmul | rfl | go_num) (by first | exact hmul | rfl | go_num) hb56 (by unfold maxLen;omega) (Nat.le_refl _) ?_;intro w1 ho1 hg1;have HB1:Hid (Below w.heap.size w w1):=g_grown_below hg1;have HK1:=Hid.m (made_kept (by rfl) ho1);clear ho1 hg1)
 go_ret
 exact ⟨w1.heap.size,w.heap.size,rfl,HB1.out.size,Nat.le_refl _,by have:=HK1.out.lt;omega,GBx.made w1 _ _,HK1.out.alloc _,g_on HB1.out (g_alloc _ _)⟩
def cellsJ (b pw pt pp:Nat)(po:Nat→Nat)(j:Nat)(qo:Option Addr)(q qc pi:Nat):List Value:=[ptr b,ptr pw,ptr pt,ptr pp]++((List.range 20).map fun i=>if i<j then ptr (po i) else .pointer none)++[.slice qo q qc,ptr pi,.int .u64 0]
theorem cellsJ_len (b pw pt pp:Nat)(po:Nat→Nat)(j:Nat)(qo:Option Addr)(q qc pi:Nat):(cellsJ b pw pt pp po j qo q qc pi).length=27:=by simp [cellsJ]
theorem cellsJ_at (b pw pt pp:Nat)(po:Nat→Nat)(j:Nat)(qo:Option Addr)(q qc pi:Nat)(hj:j<20):(cellsJ b pw pt pp po j qo q qc pi)[4+j]? = some (.pointer none):=by
 unfold cellsJ
 rw [List.append_assoc,List.getElem?_append_right (by simp),List.getElem?_append_left (by simp;omega)]
 simp [hj]
theorem cellsJ_set (b pw pt pp:Nat)(po:Nat→Nat)(j:Nat)(qo:Option Addr)(q qc pi p:Nat)(hj:j<20):(cellsJ b pw pt pp po j qo q qc pi).set (4+j) (ptr p)=cellsJ b pw pt pp (upn po j p) (j+1) qo q qc pi:=by
 unfold cellsJ
 rw [List.append_assoc,List.append_assoc,List.set_append_right _ _ (by simp)]
 rw [show 4+j - [ptr b,ptr pw,ptr pt,ptr pp].length=j by simp,List.set_append_left _ _ (by simpa using hj)]
 congr 2
 apply List.ext_getElem?
 intro i
 by_cases hi:i<20
 ·by_cases e:j=i
  ·subst e
   rw [List.getElem?_set_self (by simpa using hi)]
   simp [hi,upn]
  ·rw [List.getElem?_set_ne e]
   have e3:(i<j+1)=(i<j):=by apply propext;omega
   simp [hi,upn,Ne.symm e,e3]
 ·rw [List.getElem?_eq_none (by simp;omega),List.getElem?_eq_none (by simp;omega)]
theorem cellsJ_all (A:Ad)(V:Va)(q:Nat):cellsJ A.b A.pw A.pt V.pp V.po 20 V.qo q V.qc A.pi=cellsE A V q 0:=by
 unfold cellsJ cellsE
 rfl
structure Mk (b pw pt pp:Nat)(qo:Option Addr)(q qc pi:Nat)(w7 wr:World)(j:Nat)(po:Nat→Nat):Prop where
 box:GBx wr b (cellsJ b pw pt pp po j qo q qc pi)
 kpt:Kpt (fun k=>k=b) w7 wr
 ord:∀ i,i<j→GBx wr (po i) [.slice none 0 0,.slice none 0 0]∧w7.heap.size≤po i
theorem Mk.on {b pw pt pp:Nat}{qo:Option Addr}{q qc pi:Nat}{w7 wr:World}{j:Nat}{po:Nat→Nat}(h:Mk b pw pt pp qo q qc pi w7 wr j po)(hj:j<20)(hb:b<w7.heap.size)(T:TypeId):
  Mk b pw pt pp qo q qc pi w7 ((wr.setCell ⟨b,4+j,none⟩ (ptr wr.heap.size)).alloc (.cells #[.slice none 0 0,.slice none 0 0] T)) (j+1) (upn po j wr.heap.size):=by
 obtain ⟨w1,hw1⟩:∃ w1,w1=wr.setCell ⟨b,4+j,none⟩ (ptr wr.heap.size):=⟨_,rfl⟩
 have hs1:w1.heap.size=wr.heap.size:=by rw [hw1];simp
 have hbx:GBx w1 b (cellsJ b pw pt pp (upn po j wr.heap.size) (j+1) qo q qc pi):=by
  rw [hw1]
  exact (h.box.set (4+j) _ (by rw [cellsJ_len];omega)).ext (cellsJ_set b pw pt pp po j qo q qc pi _ hj)
 have hk1:Kpt (fun k=>k=b) wr w1:=by rw [hw1];exact Kpt.grown (g_set wr ⟨b,4+j,none⟩ _)
 rw [← hw1]
 have hsz:=h.kpt.size
 refine ⟨hbx.alloc _,?_,?_⟩
 ·exact (h.kpt.trans hk1 fun k hk=>.inl hk).trans (Kpt.of (g_alloc _ _)) fun k hk=>.inl hk
 ·intro i hi
  by_cases e:i=j
  ·subst e
   rw [upn_same]
   refine ⟨?_,hsz⟩
   rw [← hs1]
   exact GBx.made w1 [.slice none 0 0,.slice none 0 0] T
  ·rw [upn_other e]
   obtain ⟨h1,h2⟩:=h.ord i (by omega)
   exact ⟨(h1.kpt hk1 (by omega)).alloc _,h2⟩
def Ra.new (n:Nat)(q:List Int)(now:Nat):Ra:=⟨q,now,List.replicate n pz,fun _=>⟨[],[]⟩,[],[],List.replicate (n * 16) zK,[],0⟩
theorem rep_new (n:Nat)(q:List Int){now:Int}{m:Nat}(hm:(m:Int)=now):RepA (Ra.new n q m) (Sh.new n q now)∧RepB (Ra.new n q m) (Sh.new n q now):=by
 refine ⟨⟨rfl,hm,rfl,fun _ _ _ _=>rfl,rfl⟩,⟨List.Perm.refl _,List.Perm.refl _,?_,?_,rfl⟩⟩
 ·show (List.replicate (n * 16) zK).length=(List.replicate n pz).length * 16
  rw [List.length_replicate,List.length_replicate]
 ·intro h hh
  cases hh
theorem eg_new {w7 wr:World}{A:Ad}{V:Va}{n now:Nat}{q:List Int}{z0 z1 z2 z3 z4 z5 z6:Nat}{b0 base:Nat}{ao:Option Addr}{cap:Nat}{F0:Nat→Prop}
  (hW:Wh.Wh w7 A.pw now [] [] b0 (fun _=>none) 0) (hW1:z0≤A.pw∧A.pw<z1) (hW2:z0≤b0∧b0<z1)
  (hP:GRd EP w7 ao (List.replicate n pz) cap) (hP1:∀ a,ao=some a→z1≤a.block∧a.block<z2)
  (hB:GBx w7 V.pp [.slice ao n cap]) (hB1:z2≤V.pp∧V.pp<z3)
  (hT:Tb.TB w7 base A.pt [] 0 0 F0) (hT1:∀ k,F0 k→z3≤k∧k<z4) (hT2:base≤w7.heap.size)
  (hQ:GRd EI w7 V.qo q V.qc) (hQ1:∀ a,V.qo=some a→z4≤a.block∧a.block<z5)
  (hI:GBx w7 A.pi [.slice (some ⟨A.pk,0,none⟩) (n * 16) (n * 16),.slice none 0 0]) (hK:GBx w7 A.pk ((List.replicate (n * 16) zK).flatMap EK.cells)) (hI1:z5≤A.pi∧A.pi<z6) (hK1:z5≤A.pk∧A.pk<z6) (hne:A.pi≠A.pk)
  (hA:A.b=z6) (hz:z0≤z1∧z1≤z2∧z2≤z3∧z3≤z4∧z4≤z5∧z5≤z6∧z6<w7.heap.size) (M:Mk A.b A.pw A.pt V.pp V.qo q.length V.qc A.pi w7 wr 20 V.po):
  ∃ F,Eg 0 wr A (Ra.new n q now) F∧∀ k,Un F k→z0≤k:=by
 obtain ⟨g1,g2,g3,g4,g5,g6,g7⟩:=hz
 have hk:=M.kpt
 have hsz:=hk.size
 have hne6:∀ k,k<z6→k≠A.b:=fun k hk' e=>by omega
 obtain ⟨F,hF⟩:∃ F:Cp→Nat→Prop,F=fun c k=>match c with
  | .eng=>k=A.b
  | .whl=>z0≤k∧k<z1
  | .tab=>z3≤k∧k<z4
  | .itm=>z5≤k∧k<z6
  | .imm=>(z1≤k∧k<z3)∨(z4≤k∧k<z5)∨(w7.heap.size≤k∧k<wr.heap.size):=⟨_,rfl⟩
 have f1:∀ k,F .eng k↔k=A.b:=fun k=>by rw [hF]
 have f2:∀ k,F .whl k↔(z0≤k∧k<z1):=fun k=>by rw [hF]
 have f3:∀ k,F .tab k↔(z3≤k∧k<z4):=fun k=>by rw [hF]
 have f4:∀ k,F .itm k↔(z5≤k∧k<z6):=fun k=>by rw [hF]
 have f5:∀ k,F .imm k↔((z1≤k∧k<z3)∨(z4≤k∧k<z5)∨(w7.heap.size≤k∧k<wr.heap.size)):=fun k=>by rw [hF]
 clear hF
 refine ⟨F,⟨V,fun c=>?_,fun c d k hc hd=>?_⟩,?_⟩
 ·cases c
  ·refine EngP.part (q:=q.length) (last:=0) ⟨?_,(f1 _).2 rfl⟩ fun k hk'=>?_
   ·rw [← cellsJ_all];exact M.box
   ·rw [f1] at hk';omega
  ·refine WhlP.part ⟨b0,fun _=>none,?_,fun k hk'=>?_⟩ fun k hk'=>?_
   ·refine Wh.Wh.same hW fun k hk'=>hk.block k (hW.lt hk') ?_
    rcases hk' with rfl | rfl | ⟨i,_,e⟩
    ·exact hne6 _ (by omega)
    ·exact hne6 _ (by omega)
    ·cases e
   ·rw [f2]
    rcases hk' with rfl | rfl | ⟨i,_,e⟩
    ·exact hW1
    ·exact hW2
    ·cases e
   ·rw [f2] at hk';omega
  ·refine TabP.part (T:=[]) ?_ fun k hk'=>?_
   ·have hp:=TabP.part (A:=A) (T:=[]) (F:=F0) ⟨base,0,F0,hT.mono (Nat.zero_le _),hT2,fun k hk'=>hk'⟩ fun k hk'=>(hT.lt hk').2
    obtain ⟨ba,mv,F1,q1,q2,q3⟩:=hp.stab wr hsz fun k hk'=>hk.block k (hT.lt hk').2 (hne6 _ (by have:=hT1 k hk';omega))
    exact ⟨ba,mv,F1,q1,q2,fun k hk'=>by rw [f3];exact hT1 k (q3 k hk')⟩
   ·rw [f3] at hk';omega
  ·refine ItmP.part (kept:=List.replicate (n * 16) zK) (row:=[]) (ro:=none) (rc:=0) ⟨?_,hK.kpt hk (hne6 _ hK1.2),GOwn.nil _ _,(f4 _).2 hI1,(f4 _).2 hK1,(fun a ha=>by cases ha),hne⟩ fun k hk'=>?_
   ·rw [List.length_replicate]
    exact hI.kpt hk (hne6 _ hI1.2)
   ·rw [f4] at hk';omega
  ·refine ImmP.part ⟨⟨ao,cap,(hB.ext (by rw [show (Ra.new n q now).pages=List.replicate n pz from rfl,List.length_replicate])).kpt hk (hne6 _ (by omega)),hP.kpt hk (fun a ha=>hne6 _ (by have:=hP1 a ha;omega)),(f5 _).2 (by omega),fun k ⟨a,ha,e⟩=>(f5 _).2 (by have:=hP1 a ha;omega)⟩,fun i hi=>?_,hQ.kpt hk (fun a ha=>hne6 _ (by have:=hQ1 a ha;omega)),fun k ⟨a,ha,e⟩=>(f5 _).2 (by have:=hQ1 a ha;omega)⟩ fun k hk'=>?_
   ·obtain ⟨h1,h2⟩:=M.ord i hi
    have:=h1.lt
    exact ⟨none,0,none,0,h1,GRd.nil _,GRd.nil _,(f5 _).2 (by omega),(fun k ⟨a,ha,_⟩=>by cases ha),fun k ⟨a,ha,_⟩=>by cases ha⟩
   ·rw [f5] at hk';omega
 ·cases c <;> cases d <;> first | rfl | (exfalso;simp only [f1,f2,f3,f4,f5] at hc hd;omega)
 ·rintro k ⟨c,hc⟩
  cases c <;> simp only [f1,f2,f3,f4,f5] at hc <;> omega
def NewS (n:Nat)(q:List Int)(now:Int)(w w':World)(A:Ad):Prop:=∃ F x,Eg 0 w' A x F∧RepA x (Sh.new n q now)∧RepB x (Sh.new n q now)∧(∀ k,Un F k→w.heap.size≤k)∧Below w.heap.size w w'
set_option maxHeartbeats 8000000 in
theorem new_m (n:Nat)(q:List Int)(now:Int)(qo:Option Addr)(qc:Nat)(w:World)(hc:chkE n q=0)(hm:momI now=true)(hR:GRd EI w qo q qc):
  Calls Tryz.prog 11 #[.int .i64 n,.slice qo q.length qc,.int .i64 now] w fun e w'=>∃ A,e=.returned (.tuple #[ptr A.b,.int .i64 0])∧NewS n q now w w' A:=by
 have h16:=chkE_may hc
 have hn16:1≤n∧n≤16:=by omega
 have hql:q.length≤4:=by have:=mayQ_len h16.2.2;omega
 have hmom:0≤now∧now≤1099511627776:=by simpa [momI] using hm
 obtain ⟨m,rfl⟩:∃ m:Nat,now=(m:Int):=⟨now.toNat,by omega⟩
 have HRP:=Hid.m (rep_new n q (now:=(m:Int)) rfl)
 have HCK:=Hid.m (Qt.qcheck_any n w qo q qc (il_of hR))
 rw [hc] at HCK
 have HWN:=Hid.m (Wh.new_any w m (by omega))
 have HSN:=Hid.m (fun W0=>Sb.new_sb n W0 hn16)
 have HTN:=Hid.m (fun W0=>Tb.new_any W0)
 have HCN:Hid (∀ W0,Below w.heap.size w W0→Calls Tryz.prog 41 #[.slice qo q.length qc] W0 fun e w'=>∃ ro rc,e=.returned (.slice ro q.length rc)∧GRd EI w' ro q rc∧(∀ a,ro=some a→W0.heap.size≤a.block∧a.block<w'.heap.size)∧Below W0.heap.size W0 w'):=fun W0 hb0=>by
  refine (cloneI (hR.below hb0) (by omega)).mono ?_
  rintro e w' ⟨v,rfl,h1,h2⟩
  obtain ⟨ro,rc,hv,hr2⟩:=h1.rd Go.Proofs.YtcdpiefflnaghaaGreatDoor.okI
  subst hv
  exact ⟨ro,rc,rfl,hr2,fun a ha=>by subst ha;exact h1.lt _ rfl,h2⟩
 have HIN:=Hid.m (fun W0=>newItems_any n hn16 W0)
 have HN16:=Hid.m hn16
 clear hc hm hR h16 hmom hql hn16
 obtain ⟨ql,hql⟩:∃ ql,ql=q.length:=⟨_,rfl⟩
 have HQL:=Hid.m hql
 rw [← hql] at HCK HCN ⊢
 clear hql
 unfold ptr at HIN ⊢
 go_enter Tryz.func11,Tryz.ntmps11
 go_upto_region 7 with (first
  | (go_at_call 37;refine HCK.out.mono ?_;rintro e w0 ⟨rfl,h0⟩;replace h0:=h0.symm;subst h0)
  | (go_at_call 38;refine HWN.out.mono ?_;rintro e w1 ⟨pw,rfl,hp1,hb1,b0,hw1,hb01⟩;have HW1:=Hid.m hw1;have HB1:=Hid.m hb1;have HP1:=Hid.m hp1;have HB01:=Hid.m hb01;clear hp1 hb1 hw1 hb01))
 go_upto_region 8 with (go_at_call 39;refine (HSN.out w1).mono ?_;rintro e w2 ⟨ao,cap,rfl,hs2,hf2,hb2⟩;have HS2:=Hid.m (newPg_of (by intro e;have h9:=congrArg List.length e;rw [List.length_replicate] at h9;have:=HN16.out;simp at h9;omega) hs2 hf2);have HB2:=Hid.m hb2;clear hs2 hf2 hb2)
 have hBX:GBx (w2.alloc (.cells #[.slice ao n cap] 51)) w2.heap.size [.slice ao n cap]:=GBx.made w2 _ _
 obtain ⟨w3,hw3⟩:∃ w3,w3=w2.alloc (.cells #[.slice ao n cap] 51):=⟨_,rfl⟩
 obtain ⟨pp,hpp⟩:∃ pp,pp=w2.heap.size:=⟨_,rfl⟩
 have HB3:Hid (Below w2.heap.size w2 w3):=by rw [hw3];exact g_alloc _ _
 have HZ3:Hid (pp=w2.heap.size∧w3.heap.size=w2.heap.size+1):=⟨hpp,by rw [hw3];simp⟩
 rw [← hw3,← hpp] at hBX
 have HBX:=Hid.m hBX
 rw [← hw3,← hpp]
 clear hw3 hpp hBX
 go_upto_region 11 with (first
  | (go_at_call 40;refine (HTN.out w3).mono ?_;rintro e w4 ⟨pt,rfl,⟨F0,ht4⟩,hb4⟩;have HT4:=Hid.m ht4;have HB4:=Hid.m hb4;clear ht4 hb4)
  | (go_at_call 41;refine (HCN.out w4 (g_on (g_on (g_on HB1.out HB2.out) HB3.out) HB4.out)).mono ?_;rintro e w5 ⟨ro,rc,rfl,hr5,ha5,hb5⟩;have HR5:=Hid.m hr5;have HA5:=Hid.m ha5;have HB5:=Hid.m hb5;clear hr5 ha5 hb5)
  | (go_at_call 42;refine (HIN.out w5).mono ?_;rintro e w6 ⟨pi,pk,rfl,hi1,hi2,hi3,hi4,hi5,hb6⟩;have HI6:Hid (w5.heap.size≤pi∧w5.heap.size≤pk∧pi≠pk):=⟨hi1,hi2,hi3⟩;have HX6:=Hid.m hi4;have HK6:=Hid.m hi5;have HB6:=Hid.m hb6;clear hi1 hi2 hi3 hi4 hi5 hb6))
 have hEX:GBx (w6.alloc (.cells #[.pointer none,.pointer (some ⟨pw,0,none⟩),.pointer (some ⟨pt,0,none⟩),.pointer (some ⟨pp,0,none⟩),.pointer none,.pointer none,.pointer none,.pointer none,.pointer none,.pointer none,.pointer none,.pointer none,.pointer none,.pointer none,.pointer none,.pointer none,.pointer none,.pointer none,.pointer none,.pointer none,.pointer none,.pointer none,.pointer none,.pointer none,.slice ro ql rc,.pointer (some ⟨pi,0,none⟩),.int .u64 0] 106)) w6.heap.size [.pointer none,.pointer (some ⟨pw,0,none⟩),.pointer (some ⟨pt,0,none⟩),.pointer (some ⟨pp,0,none⟩),.pointer none,.pointer none,.pointer none,.pointer none,.pointer none,.pointer none,.pointer none,.pointer none,.pointer none,.pointer none,.pointer none,.pointer none,.pointer none,.pointer none,.pointer none,.pointer none,.pointer none,.pointer none,.pointer none,.pointer none,.slice ro ql rc,.pointer (some ⟨pi,0,none⟩),.int .u64 0]:=GBx.made w6 _ _
 obtain ⟨w7,hw7⟩:∃ w7,w7=w6.alloc (.cells #[.pointer none,.pointer (some ⟨pw,0,none⟩),.pointer (some ⟨pt,0,none⟩),.pointer (some ⟨pp,0,none⟩),.pointer none,.pointer none,.pointer none,.pointer none,.pointer none,.pointer none,.pointer none,.pointer none,.pointer none,.pointer none,.pointer none,.pointer none,.pointer none,.pointer none,.pointer none,.pointer none,.pointer none,.pointer none,.pointer none,.pointer none,.slice ro ql rc,.pointer (some ⟨pi,0,none⟩),.int .u64 0] 106):=⟨_,rfl⟩
 obtain ⟨b,hb⟩:∃ b,b=w6.heap.size:=⟨_,rfl⟩
 have HB7:Hid (Below w6.heap.size w6 w7):=by rw [hw7];exact g_alloc _ _
 have HZ7:Hid (b=w6.heap.size∧w7.heap.size=w6.heap.size+1):=⟨hb,by rw [hw7];simp⟩
 rw [← hw7,← hb] at hEX
 rw [← hw7,← hb]
 clear hw7 hb
 have y0:=hEX.c 0 (by simp)
 have yf:=hEX.f 0
 have yl:=hEX.lt
 simp only [List.getElem_cons_zero] at y0
 have HM0:Hid (Mk b pw pt pp ro ql rc pi w7 (w7.setCell ⟨b,0,none⟩ (.pointer (some ⟨b,0,none⟩))) 0 (fun _=>0)):=by
  refine ⟨?_,Kpt.grown (g_set w7 ⟨b,0,none⟩ _),fun i hi=>by omega⟩
  exact (hEX.set 0 _ (by simp)).ext (by rfl)
 obtain ⟨w8,hw8⟩:∃ w8,w8=w7.setCell ⟨b,0,none⟩ (.pointer (some ⟨b,0,none⟩)):=⟨_,rfl⟩
 rw [← hw8] at HM0
 clear hEX
 go_upto_region 12 with (fail)
 rw [← hw8]
 clear hw8 y0 yf yl
 have HBL:Hid (b<w7.heap.size):=by show _<_;have:=HZ7.out;omega
 go_wp2
 go_loopw [13,14,49,52] (fun _ _ i _ wr=>∃ (t:Nat) (po:Nat→Nat),t≤4∧i=.int .i64 t∧Hid (Mk b pw pt pp ro ql rc pi w7 wr (t * 5) po)) (fun _ _ i _ _=>4 - (intOf i).toNat)
 case atStart=>exact ⟨0,_,Nat.zero_le _,rfl,HM0⟩
 case round=>
  clear HM0
  obtain ⟨t,po,ht,rfl,HM⟩:=hrel
  by_cases ht4:t<4
  ·have ht42:(t:Int)<4:=by omega
   go_wp2
   go_loopw [14,52] (fun _ i wr=>∃ (c:Nat) (po:Nat→Nat),c≤5∧i=.int .i64 c∧Hid (Mk b pw pt pp ro ql rc pi w7 wr (t * 5+c) po)) (fun _ i _=>5 - (intOf i).toNat)
   case atStart=>exact ⟨0,po,Nat.zero_le _,rfl,HM⟩
   case round=>
    clear HM
    obtain ⟨c,po,hc,rfl,HM⟩:=hrel
    by_cases hc5:c<5
    ·have hc52:(c:Int)<5:=by omega
     have hj:t * 5+c<20:=by omega
     have hbx:=HM.out.box
     have y0:=hbx.c (4+(t * 5+c)) (by rw [cellsJ_len];omega)
     have e0:(cellsJ b pw pt pp po (t * 5+c) ro ql rc pi)[4+(t * 5+c)]'(by rw [cellsJ_len];omega)=.pointer none:=(List.getElem?_eq_some_iff.1 (cellsJ_at b pw pt pp po (t * 5+c) ro ql rc pi hj)).2
     rw [e0,← Nat.add_assoc] at y0
     have yf:=hbx.f (4+t * 5+c)
     have yl:=hbx.lt
     have HM2:=Hid.m (HM.out.on hj HBL.out 108)
     rw [← Nat.add_assoc] at HM2
     unfold ptr at HM2
     clear hbx e0 HM
     go_wp2
     go_roundw
     case rel=>exact ⟨c+1,_,by omega,by go_num,HM2⟩
     case measure=>simp [intOf];omega
    ·have hc53:¬ ((c:Int)<5):=by omega
     have hce:c=5:=by omega
     have HM2:Hid (Mk b pw pt pp ro ql rc pi w7 wr ((t+1) * 5) po):=by
      have h9:=HM.out
      rw [hce,show t * 5+5=(t+1) * 5 by omega] at h9
      exact h9
     clear HM hce
     go_wp2
     go_roundw
     case rel=>exact ⟨t+1,po,by omega,by go_num,HM2⟩
     case measure=>simp [intOf];omega
  ·have ht43:¬ ((t:Int)<4):=by omega
   have hte:t=4:=by omega
   have HM2:Hid (Mk b pw pt pp ro ql rc pi w7 wr 20 po):=by
    have h9:=HM.out
    rw [hte] at h9
    exact h9
   clear HM hte
   go_wp2
   try simp only [Exit.inBlock,Exit.then]
   go_ret2
   have hB37:=g_on (g_on (g_on HB4.out HB5.out) HB6.out) HB7.out
   have hB27:=g_on HB3.out hB37
   have hB17:=g_on HB2.out hB27
   have hB67:=HB7.out
   have hB57:=g_on HB6.out HB7.out
   have hB47:=g_on HB5.out hB57
   have q1:=HB1.out.size
   have q2:=HB2.out.size
   have q3:=HZ3.out
   have q4:=HB4.out.size
   have q5:=HB5.out.size
   have q6:=HB6.out.size
   have q7:=HZ7.out
   obtain ⟨F,hE,hF⟩:=eg_new (A:=⟨b,pw,pt,pi,pk⟩) (V:=⟨pp,po,ro,rc⟩) (n:=n) (now:=m) (q:=q) (z0:=w.heap.size) (z1:=w1.heap.size) (z2:=w2.heap.size) (z3:=w3.heap.size) (z4:=w4.heap.size) (z5:=w5.heap.size) (z6:=w6.heap.size) (HW1.out.below hB17) ⟨HP1.out,World.block_lt_of_cell? w1 _ HW1.out.self⟩ ⟨HB01.out,HW1.out.um.lt⟩
    (HS2.out.rd.below hB27) HS2.out.nw (HBX.out.below hB37) ⟨by show w2.heap.size≤pp;omega,by show pp<w3.heap.size;omega⟩ (HT4.out.below hB47) (fun k hk=>HT4.out.lt hk) (by omega) (HR5.out.below hB57) HA5.out (HX6.out.below hB67) (HK6.out.below hB67) ⟨HI6.out.1,HX6.out.lt⟩ ⟨HI6.out.2.1,HK6.out.lt⟩ HI6.out.2.2 q7.1 ⟨q1,q2,by omega,q4,q5,q6,by omega⟩ (by have h9:=HM2.out;rw [HQL.out] at h9;exact h9)
   have hB07:Below w.heap.size w w7:=g_on HB1.out hB17
   exact ⟨⟨b,pw,pt,pi,pk⟩,rfl,F,Ra.new n q m,hE,HRP.out.1,HRP.out.2,hF,hB07.trans (HM2.out.kpt.below (fun k e=>by omega) hB07.size)⟩
end Go.Proofs.YtcdpiefflnaghaaGreatDoor.En
namespace Go.Proofs.YtcdpiefflnaghaaGreatDoor.En
open Go.Proofs.YtcdpiefflnaghaaGreatDoor.It
open Go.Proofs.YtcdpiefflnaghaaGreatDoor.Lr
open Go.Proofs.YtcdpiefflnaghaaGreatDoor.Qt
open Go.Proofs.YtcdpiefflnaghaaGreatDoor.Sb
open Go.RowKit Go.Proofs.YtcdpiefflnaghaaGreatDoor
set_option maxHeartbeats 20000000 in
theorem image_m {N:Nat}{A:Ad}{s:Sh}{x:Ra}{F:Cp→Nat→Prop}{w:World}(I:Inv s)(hE:Eg N w A x F)(RA:RepA x s)(RB:RepB x s):
  Calls Tryz.prog 14 #[ptr A.b] w fun e w'=>∃ qo qc ko kc,e=.returned (.tuple #[.agg (imB s.now (.slice qo s.quotas.length qc) (.slice ko s.kept.length kc) 0 0 false).toArray,.int .i64 0])∧GRd EI w' qo s.quotas qc∧(∀ a,qo=some a→w.heap.size≤a.block∧a.block<w'.heap.size)∧GRd EK w' ko s.kept kc∧(∀ a,ko=some a→w.heap.size≤a.block∧a.block<w'.heap.size)∧Below w.heap.size w w':=by
 obtain ⟨W,hW⟩:∃ W,W=w.alloc (.cells #[.int .i64 0,.slice none 0 0,.slice none 0 0,.int .i64 0,.int .i64 0,.bool false] 41):=⟨_,rfl⟩
 have hBW:Below w.heap.size w W:=by rw [hW];exact g_alloc _ _
 have hWs:W.heap.size=w.heap.size+1:=by rw [hW];simp
 have hBX:GBx W w.heap.size [.int .i64 0,.slice none 0 0,.slice none 0 0,.int .i64 0,.int .i64 0,.bool false]:=by rw [hW];exact GBx.made w _ _
 have hlen:=RB.lens I
 obtain ⟨hk1,hk2⟩:=kept_at RB
 have hq:=chkE_may I.quo
 have hql:s.quotas.length≤4:=by have:=mayQ_len hq.2.2;omega
 have HIM:=Hid.m (eisMade_any (hE.below hBW))
 have HNW:=Hid.m (fun W0 (hb:Below W.heap.size W W0)=>enow_any ((hE.below hBW).below hb))
 rw [RA.now] at HNW
 obtain ⟨V,hEw⟩:=hE
 have hEv:=hEw.below hBW
 have HCN:Hid (∀ W0,Below W.heap.size W W0→Calls Tryz.prog 41 #[.slice V.qo s.quotas.length V.qc] W0 fun e w'=>∃ qo qc,e=.returned (.slice qo s.quotas.length qc)∧GRd EI w' qo s.quotas qc∧(∀ a,qo=some a→W.heap.size≤a.block∧a.block<w'.heap.size)∧Below W.heap.size W w'):=fun W0 hb0=>by
  have hr:=(hEv.below hb0).imm.qu
  rw [RA.quo] at hr
  refine (cloneI hr (by omega)).mono ?_
  rintro e w' ⟨v,rfl,h1,h2⟩
  obtain ⟨qo,qc,hv,hr2⟩:=h1.rd Go.Proofs.YtcdpiefflnaghaaGreatDoor.okI
  subst hv
  exact ⟨qo,qc,rfl,hr2,fun a ha=>by subst ha;exact ⟨Nat.le_trans hb0.size (h1.lt _ rfl).1,(h1.lt _ rfl).2⟩,g_on hb0 h2⟩
 have HAL:Hid (∀ W0,Below W.heap.size W W0→Calls Tryz.prog 48 #[ptr A.pi] W0 fun e w'=>∃ ko kc,e=.returned (.slice ko s.kept.length kc)∧GRd EK w' ko s.kept kc∧(∀ a,ko=some a→W0.heap.size≤a.block∧a.block<w'.heap.size)∧Below W0.heap.size W0 w'):=fun W0 hb=>by
  refine (all_any (hEv.below hb) (by omega) hk1 hk2).mono ?_
  rintro e w' ⟨v,rfl,h1,h2⟩
  obtain ⟨ko,kc,hv,hr2⟩:=h1.rd okK
  subst hv
  exact ⟨ko,kc,rfl,hr2,fun a ha=>by subst ha;exact h1.lt _ rfl,h2⟩
 have HC25:Hid (∀ W0,Below w.heap.size w W0→W0.cell? ⟨A.b,24,none⟩=some (.slice V.qo s.quotas.length V.qc)∧W0.cell? ⟨A.b,25,none⟩=some (ptr A.pi)):=fun W0 hb=>⟨by have:=(hEw.below hb).c24;rw [RA.quo] at this;exact this,(hEw.below hb).c25⟩
 have HBX:=Hid.m hBX
 have HBW:=Hid.m hBW
 have HWS:Hid (w.heap.size<W.heap.size):=by show _<_;omega
 obtain ⟨B,hB⟩:∃ B,B=w.heap.size:=⟨_,rfl⟩
 have HBB:=Hid.m hB
 unfold imB
 obtain ⟨Q,hQ⟩:∃ Q,Q=s.quotas:=⟨_,rfl⟩
 obtain ⟨L,hL⟩:∃ L,L=s.kept:=⟨_,rfl⟩
 obtain ⟨now,hnow⟩:∃ now,now=s.now:=⟨_,rfl⟩
 rw [← hQ] at HCN HC25 ⊢
 rw [← hL] at HAL ⊢
 rw [← hnow] at HNW ⊢
 rw [← hB] at HBX HWS
 clear hEw hEv RA RB hBX hBW hWs hlen hk1 hk2 hq hql I hQ hL hnow
 unfold ptr at HIM HNW HAL HC25 ⊢
 go_enter Tryz.func14,Tryz.ntmps14
 go_upto_region 1 with (fail)
 rw [← hW,← hB]
 clear hW hB
 go_upto_region 3 with (go_at_call 43;refine HIM.out.mono ?_;rintro e w0 ⟨rfl,h0⟩;replace h0:=h0.symm;subst h0)
 go_cut [3] from 4 (fun s3 wx=>∃ qo qc ko kc w2,s3=.int .i64 0∧Hid (wx=sets w2 B 0 [.int .i64 now,.slice qo Q.length qc,.slice ko L.length kc,.int .i64 0,.int .i64 0,.bool false])∧Hid (Below W.heap.size W w2∧GRd EI w2 qo Q qc∧(∀ a,qo=some a→W.heap.size≤a.block∧a.block<w2.heap.size)∧GRd EK w2 ko L kc∧∀ a,ko=some a→W.heap.size≤a.block∧a.block<w2.heap.size))
 case first=>
  go_region_held3 (fun W0=>W0.cell? ⟨A.b,24,none⟩=some (.slice V.qo Q.length V.qc)∧W0.cell? ⟨A.b,25,none⟩=some (.pointer (some ⟨A.pi,0,none⟩)))
   (first | with_reducible exact HC25.out _ HBw2.out | with_reducible exact HC25.out _ HBw1.out | with_reducible exact HC25.out _ HBW.out | with_reducible exact HC25.out _ HBW.out.drew | exact HC25.out _ (below_sets B [_,_,_,_,_,_] 0 HBw2.out (Nat.le_of_eq HBB.out.symm)))
   (first
   | (go_at_call 47;refine (HNW.out _ (by first | exact (Below.refl _ _).drew | exact Below.refl _ _)).mono ?_;rintro e w0 ⟨rfl,h0⟩;replace h0:=h0.symm;subst h0)
   | (go_at_call 41;refine (HCN.out _ (by first | exact (Below.refl _ _).drew | exact Below.refl _ _)).mono ?_;rintro e w1 ⟨qo,qc,rfl,hr1,ha1,hb1⟩;have HR1:=Hid.m hr1;have HA1:=Hid.m ha1;have HB1:=Hid.m hb1;have HBw1:=Hid.m (g_on HBW.out hb1);clear hr1 ha1 hb1)
   | (go_at_call 48;refine (HAL.out w1 HB1.out).mono ?_;rintro e w2 ⟨ko,kc,rfl,hr2,ha2,hb2⟩;have HR2:=Hid.m hr2;have HA2:=Hid.m ha2;have HB2:=Hid.m (g_on HB1.out hb2);have HBw2:=Hid.m (g_on HBW.out HB2.out);have hX:=HBX.out.below HB2.out;have y0:=hX.c 0 (by simp);have y1:=hX.c 1 (by simp);have y2:=hX.c 2 (by simp);have y3:=hX.c 3 (by simp);have y4:=hX.c 4 (by simp);have y5:=hX.c 5 (by simp);have f0:=hX.f 0;have f1:=hX.f 1;have f2:=hX.f 2;have f3:=hX.f 3;have f4:=hX.f 4;have f5:=hX.f 5;have yl:=hX.lt;simp only [List.getElem_cons_zero,List.getElem_cons_succ] at y0 y1 y2 y3 y4 y5;have HB3:=Hid.m hb2;clear hr2 ha2 hb2 hX))
  all_goals (go_wp2;go_meet)
  all_goals (case rel=>exact ⟨qo,qc,ko,kc,w2,rfl,rfl,HB2.out,HR1.out.below HB3.out,fun a ha=>⟨(HA1.out a ha).1,Nat.lt_of_lt_of_le (HA1.out a ha).2 HB3.out.size⟩,HR2.out,fun a ha=>⟨Nat.le_trans HB1.out.size (HA2.out a ha).1,(HA2.out a ha).2⟩⟩)
 case rest=>
 obtain ⟨qo,qc,ko,kc,w2,rfl,HWX,HP⟩:=hcut
 obtain ⟨hb2,hr1,ha1,hr2,ha2⟩:=HP.out
 have hX:GBx (sets w2 B 0 [.int .i64 now,.slice qo Q.length qc,.slice ko L.length kc,.int .i64 0,.int .i64 0,.bool false]) B [.int .i64 now,.slice qo Q.length qc,.slice ko L.length kc,.int .i64 0,.int .i64 0,.bool false]:=
  sets_box B _ _ [] w2 (HBX.out.below hb2) rfl
 have hk:=Kpt.grown (sets_grown B [.int .i64 now,.slice qo Q.length qc,.slice ko L.length kc,.int .i64 0,.int .i64 0,.bool false] w2 0)
 have hsz:=sets_size B [.int .i64 now,.slice qo Q.length qc,.slice ko L.length kc,.int .i64 0,.int .i64 0,.bool false] w2 0
 have hbs:Below w.heap.size w (sets w2 B 0 [.int .i64 now,.slice qo Q.length qc,.slice ko L.length kc,.int .i64 0,.int .i64 0,.bool false]):=below_sets B _ 0 (g_on HBW.out hb2) (Nat.le_of_eq HBB.out.symm)
 rw [← HWX.out] at hX hk hsz hbs
 have hws:=HWS.out
 have hbb:=HBB.out
 have HFIN:Hid (GRd EI wc qo Q qc∧(∀ a,qo=some a→w.heap.size≤a.block∧a.block<wc.heap.size)∧GRd EK wc ko L kc∧(∀ a,ko=some a→w.heap.size≤a.block∧a.block<wc.heap.size)∧Below w.heap.size w wc):=by
  refine ⟨hr1.kpt hk ?_,?_,hr2.kpt hk ?_,?_,hbs⟩
  ·intro a ha e;have:=(ha1 a ha).1;omega
  ·intro a ha;have:=ha1 a ha;omega
  ·intro a ha e;have:=(ha2 a ha).1;omega
  ·intro a ha;have:=ha2 a ha;omega
 have Z0:=Hid.m (hX.c 0 (by simp))
 have Z1:=Hid.m (hX.c 1 (by simp))
 have Z2:=Hid.m (hX.c 2 (by simp))
 have Z3:=Hid.m (hX.c 3 (by simp))
 have Z4:=Hid.m (hX.c 4 (by simp))
 have Z5:=Hid.m (hX.c 5 (by simp))
 simp only [List.getElem_cons_zero,List.getElem_cons_succ] at Z0 Z1 Z2 Z3 Z4 Z5
 clear hb2 hr1 ha1 hr2 ha2 hX hk hsz hbs hws hbb HWX HP
 go_wp2
 try simp only [Exit.inBlock,Exit.then]
 refine bodyPost_ret (v:=.tuple #[.agg #[.int .i64 now,.slice qo Q.length qc,.slice ko L.length kc,.int .i64 0,.int .i64 0,.bool false],.int .i64 0]) (by simp [results,Tryz.results14,go_sem,Z0.out,Z1.out,Z2.out,Z3.out,Z4.out,Z5.out]) rfl ⟨qo,qc,ko,kc,rfl,HFIN.out⟩
end Go.Proofs.YtcdpiefflnaghaaGreatDoor.En
