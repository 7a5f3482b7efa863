/-
  Package engine and what stands beneath it, part 47: contracts of functions, and what they rest on.
-/
import Derived.Test.YtpinkmndjabbjaaGreatDoorU04
set_option linter.unusedSimpArgs false
set_option linter.unusedVariables false
set_option maxRecDepth 100000
namespace Go.Proofs.YtpinkmndjabbjaaGreatDoor.En
open Go.Proofs.YtpinkmndjabbjaaGreatDoor.Lr
open Go.Proofs.YtpinkmndjabbjaaGreatDoor.Qt
open Go.Proofs.YtpinkmndjabbjaaGreatDoor.Sb
open Go.RowKit Go.Proofs.YtpinkmndjabbjaaGreatDoor
theorem Ch.hits_eq (c:Ch)(z:Int × Im):c.hits z=(decide (c.kd=2∧z.1=c.tn∧z.2.key=c.key) || decide (c.kd=1∧z.1=c.tn∧z.2.key=c.im.key) || decide (c.kd=3∧z.1=c.tn)):=by
 cases c <;> simp [Ch.hits,Ch.kd,Ch.tn,Ch.im,Ch.key]
theorem Ch.now_eq (c:Ch)(n:Int):c.now n=if c.kd=4 then c.to else n:=by cases c <;> simp [Ch.now,Ch.kd,Ch.to]
theorem Ch.news_eq (c:Ch):c.news=if c.kd=1 then [(c.tn,c.im)] else []:=by cases c <;> simp [Ch.news,Ch.kd,Ch.tn,Ch.im]
theorem i_t {a b:Int}(h:a=b):(a==b)=true:=by simp [h]
theorem i_f {a b:Int}(h:¬ a=b):(a==b)=false:=by simpa using h
structure Aft (w wr:World)(A B:List Value)(now:Int)(v:Value)(l:List (Int × Im)):Prop where
 bel:Below w.heap.size w wr
 b0:GBx wr w.heap.size A
 b1:GBx wr (w.heap.size+1) B
 b2:GBx wr (w.heap.size+2) [.int .i64 0,.slice none 0 0]
 b3:GBx wr (w.heap.size+3) [.int .i64 now,v]
 own:GOwn EK wr (w.heap.size+4) v l
theorem Aft.below {w wr wx:World}{A B:List Value}{now:Int}{v:Value}{l:List (Int × Im)}(h:Aft w wr A B now v l)(hb:Below wr.heap.size wr wx):Aft w wx A B now v l:=
 ⟨g_on h.bel hb,h.b0.below hb,h.b1.below hb,h.b2.below hb,h.b3.below hb,h.own.below hb⟩
theorem Aft.size {w wr:World}{A B:List Value}{now:Int}{v:Value}{l:List (Int × Im)}(h:Aft w wr A B now v l):w.heap.size+4≤wr.heap.size:=h.b3.lt
theorem Aft.ne {w wr:World}{A B:List Value}{now:Int}{v:Value}{l:List (Int × Im)}(h:Aft w wr A B now v l){j:Nat}(hj:j<w.heap.size+4):v.ownBlock≠some j:=by
 intro e
 have:=(h.own.lt j e).1
 omega
theorem Aft.app {w wr w7:World}{A B:List Value}{now:Int}{v v7:Value}{l l7:List (Int × Im)}(h:Aft w wr A B now v l)(hg:GGrew wr w7 v v7)(ho:GOwn EK w7 (w.heap.size+4) v7 l7):Aft w (w7.setCell ⟨w.heap.size+3,1,none⟩ v7) A B now v7 l7:=by
 have hb7:Below (w.heap.size+4) wr w7:=hg.below h.own h.size
 refine ⟨(h.bel.trans (hb7.mono (by omega))).setCell (p:=⟨w.heap.size+3,1,none⟩) (by show w.heap.size≤w.heap.size+3;omega) _,?_,?_,?_,?_,?_⟩
 ·exact (h.b0.grown hg.grown (h.ne (by omega))).other _ _ (by omega)
 ·exact (h.b1.grown hg.grown (h.ne (by omega))).other _ _ (by omega)
 ·exact (h.b2.grown hg.grown (h.ne (by omega))).other _ _ (by omega)
 ·exact ((h.b3.grown hg.grown (h.ne (by omega))).set 1 v7 (by simp)).ext (by simp)
 ·exact ho.other _ _ _ (by omega)
set_option maxHeartbeats 16000000 in
theorem after_any (now:Int)(c:Ch)(L:List (Int × Im))(ko:Option Addr)(kc:Nat)(w:World)(h:GRd EK w ko L kc)(hL:L.length+1≤1000000):
  Calls Tryz.prog 27 #[.agg #[.int .i64 now,.slice ko L.length kc],c.v] w fun e w'=>∃ v,e=.returned (.agg #[.int .i64 (c.now now),v])∧GOwn EK w' w.heap.size v (after ⟨now,L⟩ c).kept∧Below w.heap.size w w':=by
 have HR:=Hid.m h
 have hlen:=h.len
 clear h
 obtain ⟨A,hA⟩:∃ A:List Value,A=[.int .i64 now,.slice ko L.length kc]:=⟨_,rfl⟩
 obtain ⟨W,hW⟩:∃ W,W=((w.alloc (.cells #[.int .i64 now,.slice ko L.length kc] 70)).alloc (.cells c.cl.toArray 78)).alloc (.cells #[.int .i64 0,.slice none 0 0] 70):=⟨_,rfl⟩
 have hsz:W.heap.size=w.heap.size+3:=by rw [hW];simp
 have HB:Hid (Below w.heap.size w W):=by rw [hW];exact g_on (g_on (g_alloc _ _) (g_alloc _ _)) (g_alloc _ _)
 have HX0:Hid (GBx W w.heap.size A):=by rw [hW,hA];exact ((GBx.made w [.int .i64 now,.slice ko L.length kc] _).alloc _).alloc _
 have HX1:Hid (GBx W (w.heap.size+1) c.cl):=by
  rw [hW]
  have:=(GBx.made (w.alloc (.cells #[.int .i64 now,.slice ko L.length kc] 70)) c.cl 78).alloc (.cells #[.int .i64 0,.slice none 0 0] 70)
  rw [show (w.alloc (.cells #[.int .i64 now,.slice ko L.length kc] 70)).heap.size=w.heap.size+1 by simp] at this
  exact this
 have HX2:Hid (GBx W (w.heap.size+2) [.int .i64 0,.slice none 0 0]):=by
  rw [hW]
  have:=GBx.made ((w.alloc (.cells #[.int .i64 now,.slice ko L.length kc] 70)).alloc (.cells c.cl.toArray 78)) [.int .i64 0,.slice none 0 0] 70
  rw [show ((w.alloc (.cells #[.int .i64 now,.slice ko L.length kc] 70)).alloc (.cells c.cl.toArray 78)).heap.size=w.heap.size+2 by simp] at this
  exact this
 obtain ⟨V,hV⟩:∃ V,V=W.alloc (.cells #[.int .i64 now,.slice none 0 0] 70):=⟨_,rfl⟩
 have HS:Hid (Aft w V A c.cl now (.slice none 0 0) []):=by
  rw [hV]
  refine ⟨g_on HB.out (g_alloc _ _),HX0.out.alloc _,HX1.out.alloc _,HX2.out.alloc _,?_,GOwn.nil _ _⟩
  have:=GBx.made W [.int .i64 now,.slice none 0 0] 70
  rw [hsz] at this
  exact this
 obtain ⟨N,hN⟩:∃ N,N=c.now now:=⟨_,rfl⟩
 obtain ⟨K,hK⟩:∃ K:Int × Im→Bool,K=fun z=>!(c.hits z || dueI z.2 N):=⟨_,rfl⟩
 have HF:Hid (∀ l,(after ⟨now,L⟩ c).kept=l↔L.filter K++c.news=l):=by
  intro l
  unfold after
  rw [← hN,hK]
 have HK:=Hid.m hK
 have HST:Hid (∀ k (hk:k<L.length),(L.take (k+1)).filter K=(L.take k).filter K++(if K L[k] then [L[k]] else [])):=by
  intro k hk
  rw [List.take_add_one,List.getElem?_eq_getElem hk,List.filter_append]
  simp only [Option.toList_some,List.filter_cons,List.filter_nil]
 have HFL:Hid (∀ k,((L.take k).filter K).length+1≤1000000):=by
  intro k
  have h1:=List.length_filter_le K (L.take k)
  rw [List.length_take] at h1
  omega
 have x0:=HX0.out.c 0 (by rw [hA];simp)
 have hlt:=HX0.out.lt
 have y0:=HS.out.b1.c 0 (by simp [Ch.cl])
 have y9:=HS.out.b1.c 9 (by simp [Ch.cl])
 have lt1:=HS.out.b1.lt
 have lt3:=HS.out.b3.lt
 have z0:=HS.out.b3.c 0 (by simp)
 have f0:=HS.out.b3.f 0
 have hA0:A[0]'(by rw [hA];simp)=.int .i64 now:=by simp [hA]
 rw [hA0] at x0
 simp only [Ch.cl,List.getElem_cons_zero,List.getElem_cons_succ] at y0 y9 z0
 have HHA:=Hid.m hA
 rw [← hN]
 clear hK hL HB HX0 HX1 HX2 hA0 hA
 unfold Ch.v
 unfold Ch.cl at hW
 have HN:=Hid.m hN
 by_cases h4:c.kd=4
 all_goals first
  | (have h4':=i_t h4;have HN4:Hid (c.to=N):=(by show _=_;rw [hN,Ch.now_eq,if_pos h4]);clear h4;have HS2:Hid (Aft w (V.setCell ⟨w.heap.size+3,0,none⟩ (.int .i64 c.to)) A c.cl N (.slice none 0 0) []):=(by rw [HN4.out];have hs:=HS.out;exact ⟨hs.bel.setCell (p:=⟨w.heap.size+3,0,none⟩) (by show w.heap.size≤w.heap.size+3;omega) _,hs.b0.other _ _ (by omega),hs.b1.other _ _ (by omega),hs.b2.other _ _ (by omega),(hs.b3.set 0 (.int .i64 N) (by simp)).ext (by simp),hs.own.other _ _ _ (by omega)⟩);go_enter Tryz.func27,Tryz.ntmps27;go_upto_region 1 with (fail);rw [← hW];clear hW;go_upto_region 2 with (fail);rw [← hV];clear hV hsz;go_upto_region 4 with (fail);generalize V.setCell ⟨w.heap.size+3,0,none⟩ (.int .i64 c.to)=V2 at HS2 ⊢;clear HS x0 hlt y0 y9 lt1 lt3 z0 f0 h4' HN4 hN)
  | (have h4':=i_f h4;have HN4:Hid (now=N):=(by show _=_;rw [hN,Ch.now_eq,if_neg h4]);clear h4;have HS2:Hid (Aft w V A c.cl N (.slice none 0 0) []):=(by rw [← HN4.out];exact HS);go_enter Tryz.func27,Tryz.ntmps27;go_upto_region 1 with (fail);rw [← hW];clear hW;go_upto_region 2 with (fail);rw [← hV];clear hV hsz;go_upto_region 4 with (fail);clear HS x0 hlt y0 y9 lt1 lt3 z0 f0 h4' HN4 hN)
 all_goals
  go_wp2
  go_loopw [6,7,8] (fun i _ _ wr=>∃ (k:Nat) (v:Value),k≤L.length∧i=.int .i64 k∧Hid (Aft w wr A c.cl N v ((L.take k).filter K))) (fun i _ _ _=>L.length - (intOf i).toNat)
  case atStart=>exact ⟨0,_,Nat.zero_le _,rfl,by show Aft _ _ _ _ _ _ _;simpa using HS2.out⟩
  case round=>
   obtain ⟨k,v,hkn,rfl,HP⟩:=hrel
   have x1:wr.cell? ⟨w.heap.size,1,none⟩=some (.slice ko L.length kc):=by
    have:=HP.out.b0.c 1 (by rw [HHA.out];simp)
    simpa [HHA.out] using this
   have hlt:=HP.out.b0.lt
   by_cases hkl:k<L.length
   ·have hkl2:(k:Int)<(L.length:Int):=by omega
    have hne:L≠[]:=by intro e;rw [e] at hkl;simp at hkl
    obtain ⟨b,off,rfl,hbl,hcs⟩:=(HR.out.below HP.out.bel).kp hne
    obtain ⟨r0,r1,r2,r3,r4,r5⟩:=hcs k hkl
    have HE:=Hid.m (HST.out k hkl)
    obtain ⟨p,hpe⟩:∃ p,p=L[k]:=⟨_,rfl⟩
    rw [← hpe] at r0 r1 r2 r3 r4 r5 HE
    have HLT:=Hid.m (HFL.out k)
    clear hcs hne hpe
    obtain ⟨U,hU⟩:∃ U,U=wr.alloc (.cells #[.int .i64 p.1,.string p.2.key,.string p.2.value,.int .u32 p.2.flags,.int .i64 p.2.till,.int .u64 p.2.unique] 141):=⟨_,rfl⟩
    have HPU:Hid (Aft w U A c.cl N v ((L.take k).filter K)):=by rw [hU];exact HP.out.below (g_alloc _ _)
    have HKU:Hid (GBx U wr.heap.size [.int .i64 p.1,.string p.2.key,.string p.2.value,.int .u32 p.2.flags,.int .i64 p.2.till,.int .u64 p.2.unique]):=by rw [hU];exact GBx.made wr _ _
    go_upto_region 8 with (fail)
    rw [← hU]
    clear hU r0 r1 r2 r3 r4 r5 x1 hlt hbl HP
    have y0:=HPU.out.b1.c 0 (by simp [Ch.cl])
    have y1:=HPU.out.b1.c 1 (by simp [Ch.cl])
    have y2:=HPU.out.b1.c 2 (by simp [Ch.cl])
    have y7:=HPU.out.b1.c 7 (by simp [Ch.cl])
    have z0:=HPU.out.b3.c 0 (by simp)
    have z1:=HPU.out.b3.c 1 (by simp)
    have q0:=HKU.out.c 0 (by simp)
    have q1:=HKU.out.c 1 (by simp)
    have q2:=HKU.out.c 2 (by simp)
    have q3:=HKU.out.c 3 (by simp)
    have q4:=HKU.out.c 4 (by simp)
    have q5:=HKU.out.c 5 (by simp)
    simp only [Ch.cl,List.getElem_cons_zero,List.getElem_cons_succ] at y0 y1 y2 y7 z0 z1 q0 q1 q2 q3 q4 q5
    have lt1:=HPU.out.b1.lt
    have lt3:=HPU.out.b3.lt
    have ltq:=HKU.out.lt
    have HD:=Hid.m (fun W'=>due_any p.2 N W')
    unfold Im.v at HD
    go_cut [8] from 30 to 95 (fun s8 wx=>∃ b,s8=.bool b∧Hid (b=!K p)∧Hid (Below U.heap.size U wx))
    case first=>
     cases hh:c.hits p
     case true=>
      have HB:Hid (true=!K p):=by show _=_;rw [HK.out];simp [hh]
      rw [Ch.hits_eq] at hh
      by_cases k2:c.kd=2
      ·have g2:=i_t k2
       have:p.1=c.tn∧p.2.key=c.key:=by simpa [k2] using hh
       have gt:=i_t this.1
       have gk:=ba_eq this.2
       clear this hh k2
       go_wp2
       go_meet
       case rel=>exact ⟨true,rfl,HB,Below.refl _ _⟩
      by_cases k1:c.kd=1
      ·have g1:=i_t k1
       have g2:=i_f k2
       have:p.1=c.tn∧p.2.key=c.im.key:=by simpa [k1] using hh
       have gt:=i_t this.1
       have gk:=ba_eq this.2
       clear this hh k1 k2
       go_wp2
       go_meet
       case rel=>exact ⟨true,rfl,HB,Below.refl _ _⟩
      ·have g1:=i_f k1
       have g2:=i_f k2
       have:c.kd=3∧p.1=c.tn:=by simpa [k1,k2] using hh
       have g3:=i_t this.1
       have gt:=i_t this.2
       clear this hh k1 k2
       go_wp2
       go_meet
       case rel=>exact ⟨true,rfl,HB,Below.refl _ _⟩
     case false=>
      have HB:Hid (dueI p.2 N=!K p):=by show _=_;rw [HK.out];simp [hh]
      generalize dueI p.2 N=D at HB HD
      rw [Ch.hits_eq] at hh
      have HC:Hid (((c.kd==2)=true∧(c.kd==1)=false∧(c.kd==3)=false∧((p.1==c.tn)=false∨((p.1==c.tn)=true∧(p.2.key.toList==c.key.toList)=false)))∨((c.kd==2)=false∧(c.kd==1)=true∧(c.kd==3)=false∧((p.1==c.tn)=false∨((p.1==c.tn)=true∧(p.2.key.toList==c.im.key.toList)=false)))∨((c.kd==2)=false∧(c.kd==1)=false∧((c.kd==3)=false∨((c.kd==3)=true∧(p.1==c.tn)=false)))):=by
       by_cases k2:c.kd=2
       ·refine .inl ⟨i_t k2,by rw [k2];rfl,by rw [k2];rfl,?_⟩
        by_cases kt:p.1=c.tn
        ·exact .inr ⟨i_t kt,ba_ne (by intro e;simp [k2,kt,e] at hh)⟩
        ·exact .inl (i_f kt)
       by_cases k1:c.kd=1
       ·refine .inr (.inl ⟨i_f k2,i_t k1,by rw [k1];rfl,?_⟩)
        by_cases kt:p.1=c.tn
        ·exact .inr ⟨i_t kt,ba_ne (by intro e;simp [k1,kt,e] at hh)⟩
        ·exact .inl (i_f kt)
       refine .inr (.inr ⟨i_f k2,i_f k1,?_⟩)
       by_cases k3:c.kd=3
       ·exact .inr ⟨i_t k3,i_f (by intro e;simp [k3,e] at hh)⟩
       ·exact .inl (i_f k3)
      clear hh
      rcases HC.out with ⟨g2,g1,g3,gt | ⟨gt,gk⟩⟩ | ⟨g2,g1,g3,gt | ⟨gt,gk⟩⟩ | ⟨g2,g1,g3 | ⟨g3,gt⟩⟩
      all_goals clear HC
      all_goals go_wp2_with (go_at_call 72;refine (HD.out _).mono ?_;rintro e w4 ⟨rfl,hb4⟩;have HB4:=Hid.m hb4;clear hb4)
      all_goals go_meet
      all_goals (case rel=>exact ⟨D,rfl,HB,HB4⟩)
    case rest=>
    obtain ⟨b8,rfl,HB,HB4⟩:=hcut
    obtain ⟨w4,hw4⟩:∃ w4,w4=wc:=⟨_,rfl⟩
    rw [← hw4] at HB4 ⊢
    clear hw4
    cases b8
    case true=>
     have HE2:Hid ((L.take (k+1)).filter K=(L.take k).filter K):=by
      show _=_
      rw [HE.out,if_neg (by have h9:=HB.out;simp at h9;simp [h9]),List.append_nil]
     clear y0 y1 y2 y7 z0 z1 q0 q1 q2 q3 q4 q5 lt1 lt3 ltq HD
     go_wp2
     go_roundw
     case rel=>exact ⟨k+1,v,by omega,by go_num,by rw [HE2.out];exact HPU.out.below HB4.out⟩
     case measure=>simp [intOf];omega
    case false=>
     obtain ⟨L7,hL7⟩:∃ L7,L7=(L.take k).filter K++[p]:=⟨_,rfl⟩
     have HL7:=Hid.m hL7
     have HE2:Hid ((L.take (k+1)).filter K=L7):=by
      show _=_
      rw [HE.out,hL7,if_pos (by have h9:=HB.out;simp at h9;exact h9)]
     clear hL7
     have HP4:=Hid.m (HPU.out.below HB4.out)
     have HK4:=Hid.m (HKU.out.below HB4.out)
     clear y0 y1 y2 y7 z0 z1 q0 q1 q2 q3 q4 q5 lt1 lt3 ltq HD HB4 HPU HKU
     have z1:=HP4.out.b3.c 1 (by simp)
     have q0:=HK4.out.c 0 (by simp)
     have q1:=HK4.out.c 1 (by simp)
     have q2:=HK4.out.c 2 (by simp)
     have q3:=HK4.out.c 3 (by simp)
     have q4:=HK4.out.c 4 (by simp)
     have q5:=HK4.out.c 5 (by simp)
     simp only [List.getElem_cons_zero,List.getElem_cons_succ] at z1 q0 q1 q2 q3 q4 q5
     have lt3:=HP4.out.b3.lt
     have ltq:=HK4.out.lt
     have hbz:=HP4.out.size
     have HOD:=Hid.m HP4.out.own
     go_wp2_with (at_builtin;refine g_one (w0:=w4) okK rfl _ _ _ rfl rfl (w.heap.size+4) _ _ HOD.out rfl p rfl _ rfl rfl HLT.out hbz ?_;intro v7 w7 hO7 hG7;rw [← HL7.out] at hO7;have HO7:=Hid.m hO7;have HG7:=Hid.m hG7;obtain ⟨a7,cp7,hv7,-⟩:=hO7.rd okK;subst hv7;have g2:=(HP4.out.b3.grown HG7.out.grown (HP4.out.ne (by omega))).c 1 (by simp);have f2:=(HP4.out.b3.grown HG7.out.grown (HP4.out.ne (by omega))).f 1;simp only [List.getElem_cons_zero,List.getElem_cons_succ] at g2;clear hO7 hG7 q0 q1 q2 q3 q4 q5)
     go_roundw
     case rel=>exact ⟨k+1,_,by omega,by go_num,by rw [HE2.out];exact HP4.out.app HG7.out HO7.out⟩
     case measure=>simp [intOf];omega
   ·have hkl2:¬ ((k:Int)<(L.length:Int)):=by omega
    have ek:L.take k=L:=List.take_of_length_le (by omega)
    have HLT:=Hid.m (HFL.out k)
    rw [ek] at HP HLT
    have HKE:=Hid.m ((HF.out _).2 rfl)
    clear ek
    have u0:=HP.out.b1.c 0 (by simp [Ch.cl])
    have u1:=HP.out.b1.c 1 (by simp [Ch.cl])
    have u2:=HP.out.b1.c 2 (by simp [Ch.cl])
    have u3:=HP.out.b1.c 3 (by simp [Ch.cl])
    have u4:=HP.out.b1.c 4 (by simp [Ch.cl])
    have u5:=HP.out.b1.c 5 (by simp [Ch.cl])
    have u6:=HP.out.b1.c 6 (by simp [Ch.cl])
    have z1:=HP.out.b3.c 1 (by simp)
    simp only [Ch.cl,List.getElem_cons_zero,List.getElem_cons_succ] at u0 u1 u2 u3 u4 u5 u6 z1
    have lt1:=HP.out.b1.lt
    have lt3:=HP.out.b3.lt
    have hbz:=HP.out.size
    by_cases k1:c.kd=1
    ·have g1:=i_t k1
     have HK2:Hid ((after ⟨now,L⟩ c).kept=L.filter K++[(c.tn,c.im)]):=by show _=_;rw [HKE.out,Ch.news_eq,if_pos k1]
     obtain ⟨L7,hL7⟩:∃ L7,L7=L.filter K++[(c.tn,c.im)]:=⟨_,rfl⟩
     have HL7:=Hid.m hL7
     rw [← hL7] at HK2
     clear hL7
     have HOD:=Hid.m HP.out.own
     clear k1
     go_upto_region 13 with (at_builtin;refine g_one (w0:=wr) okK rfl _ _ _ rfl rfl (w.heap.size+4) _ _ HOD.out rfl (c.tn,c.im) rfl _ rfl rfl HLT.out hbz ?_;intro v7 w7 hO7 hG7;rw [← HL7.out] at hO7;have HO7:=Hid.m hO7;have HG7:=Hid.m hG7;obtain ⟨a7,cp7,hv7,-⟩:=hO7.rd okK;subst hv7;have g2:=(HP.out.b3.grown HG7.out.grown (HP.out.ne (by omega))).c 1 (by simp);have f2:=(HP.out.b3.grown HG7.out.grown (HP.out.ne (by omega))).f 1;have lt4:=(HP.out.b3.grown HG7.out.grown (HP.out.ne (by omega))).lt;simp only [List.getElem_cons_zero,List.getElem_cons_succ] at g2;clear hO7 hG7 u0 u1 u2 u3 u4 u5 u6)
     have HPF:=Hid.m (HP.out.app HG7.out HO7.out)
     clear g2 f2 lt4 z1 lt1 lt3 hlt x1
     generalize w7.setCell ⟨w.heap.size+3,1,none⟩ _=wf at HPF ⊢
     have HQ1:=Hid.m HPF.out.b2
     have z0:=HPF.out.b3.c 0 (by simp)
     have z1:=HPF.out.b3.c 1 (by simp)
     have y0:=HQ1.out.c 0 (by simp)
     have y1:=HQ1.out.c 1 (by simp)
     have f0:=HQ1.out.f 0
     have f1:=HQ1.out.f 1
     have lt2:=HQ1.out.lt
     have lt3:=HPF.out.b3.lt
     simp only [List.getElem_cons_zero,List.getElem_cons_succ] at z0 z1 y0 y1
     have HZ:Hid (GBx ((wf.setCell ⟨w.heap.size+2,0,none⟩ (.int .i64 N)).setCell ⟨w.heap.size+2,1,none⟩ (.slice a7 L7.length cp7)) (w.heap.size+2) [.int .i64 N,.slice a7 L7.length cp7]):=(((HQ1.out.set 0 (.int .i64 N) (by simp)).set 1 (.slice a7 L7.length cp7) (by simp)).ext (by simp))
     have HBZ:=Hid.m ((HPF.out.bel.setCell (p:=⟨w.heap.size+2,0,none⟩) (by show w.heap.size≤w.heap.size+2;omega) (.int .i64 N)).setCell (p:=⟨w.heap.size+2,1,none⟩) (by show w.heap.size≤w.heap.size+2;omega) (.slice a7 L7.length cp7))
     have HOZ:=Hid.m (((HPF.out.own.other (w.heap.size+2) 0 (.int .i64 N) (by omega)).other (w.heap.size+2) 1 (.slice a7 L7.length cp7) (by omega)).down (base':=w.heap.size) (by omega))
     have c0:=HZ.out.c 0 (by simp)
     have c1:=HZ.out.c 1 (by simp)
     simp only [List.getElem_cons_zero,List.getElem_cons_succ] at c0 c1
     have ZZ0:=Hid.m c0
     have ZZ1:=Hid.m c1
     clear c0 c1
     go_wp2
     try simp only [Exit.inBlock,Exit.then]
     refine bodyPost_ret (v:=.agg #[.int .i64 N,.slice a7 L7.length cp7]) (by simp [results,Tryz.results27,go_sem,ZZ0.out,ZZ1.out]) rfl ⟨_,rfl,by rw [HK2.out];exact HOZ.out,HBZ.out⟩
    ·have g1:=i_f k1
     have HK2:Hid ((after ⟨now,L⟩ c).kept=L.filter K):=by show _=_;rw [HKE.out,Ch.news_eq,if_neg k1,List.append_nil]
     clear k1
     go_upto_region 13 with (fail)
     have HPF:=HP
     clear z1 lt1 lt3 hlt x1 u0 u1 u2 u3 u4 u5 u6
     have HQ1:=Hid.m HPF.out.b2
     obtain ⟨a9,cp9,hv9,-⟩:=HPF.out.own.rd okK
     subst hv9
     have z0:=HPF.out.b3.c 0 (by simp)
     have z1:=HPF.out.b3.c 1 (by simp)
     have y0:=HQ1.out.c 0 (by simp)
     have y1:=HQ1.out.c 1 (by simp)
     have f0:=HQ1.out.f 0
     have f1:=HQ1.out.f 1
     have lt2:=HQ1.out.lt
     have lt3:=HPF.out.b3.lt
     simp only [List.getElem_cons_zero,List.getElem_cons_succ] at z0 z1 y0 y1
     have HZ:Hid (GBx ((wr.setCell ⟨w.heap.size+2,0,none⟩ (.int .i64 N)).setCell ⟨w.heap.size+2,1,none⟩ (.slice a9 (L.filter K).length cp9)) (w.heap.size+2) [.int .i64 N,.slice a9 (L.filter K).length cp9]):=(((HQ1.out.set 0 (.int .i64 N) (by simp)).set 1 (.slice a9 (L.filter K).length cp9) (by simp)).ext (by simp))
     have HBZ:=Hid.m ((HPF.out.bel.setCell (p:=⟨w.heap.size+2,0,none⟩) (by show w.heap.size≤w.heap.size+2;omega) (.int .i64 N)).setCell (p:=⟨w.heap.size+2,1,none⟩) (by show w.heap.size≤w.heap.size+2;omega) (.slice a9 (L.filter K).length cp9))
     have HOZ:=Hid.m (((HPF.out.own.other (w.heap.size+2) 0 (.int .i64 N) (by omega)).other (w.heap.size+2) 1 (.slice a9 (L.filter K).length cp9) (by omega)).down (base':=w.heap.size) (by omega))
     have c0:=HZ.out.c 0 (by simp)
     have c1:=HZ.out.c 1 (by simp)
     simp only [List.getElem_cons_zero,List.getElem_cons_succ] at c0 c1
     have ZZ0:=Hid.m c0
     have ZZ1:=Hid.m c1
     clear c0 c1
     go_wp2
     try simp only [Exit.inBlock,Exit.then]
     refine bodyPost_ret (v:=.agg #[.int .i64 N,.slice a9 (L.filter K).length cp9]) (by simp [results,Tryz.results27,go_sem,ZZ0.out,ZZ1.out]) rfl ⟨_,rfl,by rw [HK2.out];exact HOZ.out,HBZ.out⟩
end Go.Proofs.YtpinkmndjabbjaaGreatDoor.En
