/-
  Package engine and what stands beneath it, part 39: contracts of functions, and what they rest on.
-/
import Derived.Laws.Rows
import Derived.Shelf.Abstract
import Derived.Lib.SliceRun
import Derived.Test.YtcdpiefflnaghaaGreatDoorU38
set_option linter.unusedSimpArgs false
set_option linter.unusedVariables false
set_option maxRecDepth 100000
namespace Go.Proofs.YtcdpiefflnaghaaGreatDoor.En
open Go.Proofs.YtcdpiefflnaghaaGreatDoor.It
open Go.Proofs.YtcdpiefflnaghaaGreatDoor.Lr
open Go.Proofs.YtcdpiefflnaghaaGreatDoor.Qt
open Go.Proofs.YtcdpiefflnaghaaGreatDoor.Sb
open Go.RowKit Go.Proofs.YtcdpiefflnaghaaGreatDoor
def dkd (n:Nat):Int:=if n=0 then 2 else 1
set_option maxHeartbeats 4000000 in
theorem drop_m {N:Nat}{A:Ad}{s:Sh}{x:Ra}{F:Cp→Nat→Prop}{w:World}(I:Inv s)(hE:Eg N w A x F)(RA:RepA x s)(RB:RepB x s){t:Int}{ks:List ByteArray}{no:Option Addr}{nc:Nat}(hR:GRd EN w no (ks.map fun k=>(t,k)) nc)(hA:∀ a,no=some a→¬ Un F a.block∧a.block<w.heap.size)(hok:∀ k∈ks,okN (t,k))(hl:ks.length≤1000):
  Calls Tryz.prog 85 #[ptr A.b,.slice no ks.length nc] w fun e w'=>∃ lo lc,e=.returned (.tuple #[.agg #[.int .u8 (dkd (s.dels t ks).2.length),.slice none 0 0,.int .u64 (s.dels t ks).2.length],.slice lo (s.dels t ks).2.length lc])∧Cgs N A (s.dels t ks).1 F w w' lo (s.dels t ks).2 lc:=by
 obtain ⟨W,hW⟩:∃ W,W=w.alloc (.cells #[.int .u8 0,.slice none 0 0,.int .u64 0] 30):=⟨_,rfl⟩
 have hBW:Below w.heap.size w W:=by rw [hW];exact g_alloc _ _
 have hWs:W.heap.size=w.heap.size+1:=by rw [hW];simp
 have hBR:GBx W w.heap.size [.int .u8 0,.slice none 0 0,.int .u64 0]:=by rw [hW];exact GBx.made w _ _
 obtain ⟨R,hRe⟩:∃ R,R=w.heap.size:=⟨_,rfl⟩
 obtain ⟨BL,hBL⟩:∃ BL,BL=W.heap.size:=⟨_,rfl⟩
 obtain ⟨st,hst⟩:∃ st:Nat→Sh,st=fun j=>(s.dels t (ks.take j)).1:=⟨_,rfl⟩
 obtain ⟨CH,hCH⟩:∃ CH:Nat→List Ch,CH=fun j=>(s.dels t (ks.take j)).2:=⟨_,rfl⟩
 have HI:Hid (∀ j,Inv (st j)):=fun j=>by rw [hst];exact (Inv.dels t (ks.take j) I).1.inv
 have HSN:Hid (∀ j (hj:j<ks.length),(∀ i,(st j).at t ks[j]=some i→st (j+1)=(st j).leave i∧CH (j+1)=CH j++[.drop t ks[j] 1])∧((st j).at t ks[j]=none→st (j+1)=st j∧CH (j+1)=CH j)):=fun j hj=>by
  have e1:ks.take (j+1)=ks.take j++[ks[j]]:=by rw [List.take_add_one,List.getElem?_eq_getElem hj];rfl
  rw [hst,hCH]
  simp only [e1,dels_snoc]
  refine ⟨fun i hi=>?_,fun hi=>?_⟩
  ·rw [hi];exact ⟨rfl,rfl⟩
  ·rw [hi];exact ⟨rfl,rfl⟩
 have HCL:Hid (∀ j,(CH j).length≤j):=fun j=>by
  induction j with
  | zero=>rw [hCH];simp [Sh.dels]
  | succ j ih=>
   by_cases hj:j<ks.length
   ·cases e:(st j).at t ks[j] with
    | none=>rw [((HSN.out j hj).2 e).2];omega
    | some i=>rw [((HSN.out j hj).1 i e).2];simp;omega
   ·have:CH (j+1)=CH j:=by rw [hCH];simp only;rw [List.take_of_length_le (by omega),List.take_of_length_le (by omega)]
    rw [this];omega
 have hL0:Lp EC N A (st 0) F w BL no (ks.map fun k=>(t,k)) nc R W (.slice none 0 0) (CH 0) F:=by
  rw [hst,hCH,hBL]
  refine ⟨⟨x,hE.lv hBW,RA,RB⟩,Nat.le_refl _,GOwn.nil _ _,(by intro k hk;cases hk),hR.below hBW,fun a ha=>⟨(hA a ha).1,by have:=(hA a ha).2;omega⟩,?_,?_⟩
  ·rw [hRe];exact hBR
  ·rw [hRe];exact fun hu=>by have:=hE.un _ hu;omega
 have HL0:=Hid.m hL0
 have H1:Hid (w.heap.size≤BL∧R<BL∧∀ a,no=some a→a.block<BL):=⟨by omega,by omega,fun a ha=>by have:=(hA a ha).2;omega⟩
 have HR2:Hid (w.heap.size≤R):=Nat.le_of_eq hRe.symm
 have hst':(s.dels t ks).1=st ks.length:=by rw [hst];simp
 have hCH':(s.dels t ks).2=CH ks.length:=by rw [hCH];simp
 have hc0:CH 0=[]:=by rw [hCH];simp [Sh.dels]
 rw [hst',hCH']
 have HOK:=Hid.m hok
 have HTN:Hid (∀ j i (hj:j<ks.length) (hi:i<(st j).held.length),(st j).at t ks[j]=some i→(st j).held[i].tenant=t∧(st j).held[i].item.key=ks[j]):=fun j i hj hi e=>by
  obtain ⟨h1,h2⟩:=at_some e
  exact ⟨congrArg Prod.fst h2,congrArg Prod.snd h2⟩
 have HC0:=Hid.m hc0
 clear hE RA RB hR hA hok hst hCH hst' hCH' hL0 hBR hBW hWs hBL I hc0
 obtain ⟨n,hn⟩:∃ n,n=ks.length:=⟨_,rfl⟩
 have HN:=Hid.m hn
 rw [← hn] at hl ⊢
 clear hn
 unfold ptr
 go_enter Tryz.func85,Tryz.ntmps85
 go_upto_region 1 with (fail)
 rw [← hW,← hRe]
 clear hW hRe
 go_wp2
 go_loopw [6,13] (fun s6 i wr=>∃ (j:Nat) (lo:Option Addr) (lm lc:Nat) (Fj:Cp→Nat→Prop),j≤n∧i=.int .i64 j∧s6=.slice lo lm lc∧Hid (Lp EC N A (st j) F w BL no (ks.map fun k=>(t,k)) nc R wr (.slice lo lm lc) (CH j) Fj)) (fun _ i _=>n - (intOf i).toNat)
 case atStart=>exact ⟨0,none,0,0,F,Nat.zero_le _,rfl,rfl,HL0⟩
 case round=>
  clear HL0
  obtain ⟨j,lo,lm,lc,Fj,hj,rfl,rfl,HP⟩:=hrel
  by_cases hjn:j<n
  ·have hjn2:(j:Int)<(n:Int):=by omega
   have hjv:j<ks.length:=by have:=HN.out;omega
   obtain ⟨vb,vf,hvo,hvb,v0,v1⟩:=HP.out.rd.nam (i:=j) (by simpa using hjv)
   simp only [List.getElem_map] at v0 v1
   have HS:=Hid.m (HSN.out j hjv)
   have HT:=Hid.m (fun i hi e=>HTN.out j i hjv hi e)
   have HKO:Hid (okN (t,ks[j])):=HOK.out _ (List.getElem_mem hjv)
   obtain ⟨key,hkey⟩:∃ key,key=ks[j]:=⟨_,rfl⟩
   rw [← hkey] at v1 HS HT HKO
   clear hkey
   obtain ⟨w1,hw1⟩:∃ w1,w1=wr.alloc (.cells #[.int .i64 t,.string key] 119):=⟨_,rfl⟩
   have HP1:Hid (Lp EC N A (st j) F w BL no (ks.map fun k=>(t,k)) nc R w1 (.slice lo lm lc) (CH j) Fj):=by rw [hw1];exact HP.out.below (g_alloc _ _)
   have hB1:GBx w1 wr.heap.size [.int .i64 t,.string key]:=by rw [hw1];exact GBx.made wr _ _
   subst hvo
   go_upto_region 5 with (fail)
   rw [← hw1]
   clear hw1 v0 v1 hvb
   have b0:=hB1.c 0 (by simp)
   have b1:=hB1.c 1 (by simp)
   have bl:=hB1.lt
   simp only [List.getElem_cons_zero,List.getElem_cons_succ] at b0 b1
   clear hB1
   cases hat:(st j).at t key with
   | none=>
    have HFD:=Hid.m (find_nm (HI.out j) HP1.out.mv HKO.out hat)
    have HS2:=Hid.m (HS.out.2 hat)
    clear hat
    unfold ptr at HFD
    go_wp2_with (go_at_call 50;refine HFD.out.mono ?_;rintro e w2 ⟨rfl,F2,hm2⟩;have HP2:=Hid.m (HP1.out.on hm2);clear hm2)
    go_roundw
    case rel=>exact ⟨j+1,lo,lm,lc,F2,by omega,by go_num,rfl,by rw [HS2.out.1,HS2.out.2];exact HP2⟩
    case measure=>simp [intOf];omega
   | some i=>
    obtain ⟨hi,-⟩:=at_some hat
    have HFD:=Hid.m (find_sm (HI.out j) HP1.out.mv HKO.out hat hi)
    have HLV:=Hid.m (fun (w2:World) (F2:Cp→Nat→Prop) (h:Mv N A (st j) F w w2 F2)=>leave_mm (HI.out j) h hi)
    rw [(HT.out i hi hat).1,(HT.out i hi hat).2] at HLV
    have HS2:=Hid.m (HS.out.1 i hat)
    have HDR:=Hid.m (fun W0=>edropped_any t key 1 W0)
    have HLL:Hid ((CH j).length+1≤1000000):=by show _≤_;have:=HCL.out j;omega
    obtain ⟨pl,hpl⟩:∃ pl,pl=(st j).held[i].pl:=⟨_,rfl⟩
    rw [← hpl] at HFD HLV
    clear hat hi hpl
    unfold ptr at HFD HLV
    unfold Ch.v at HDR
    simp only [Ch.kd,Ch.tn,Ch.im,Ch.key,Ch.why,Ch.to,Im.none] at HDR
    go_upto_region 6 with (go_at_call 50;refine HFD.out.mono ?_;rintro e w2 ⟨rfl,F2,hm2⟩;have HP2:=Hid.m (HP1.out.on hm2);clear hm2)
    clear b0 b1 bl
    go_wp2_with (first
     | (go_at_call 51;refine (HLV.out w2 F2 HP2.out.mv).mono ?_;rintro e w3 ⟨rfl,F3,hm3⟩;have HP3:=Hid.m (HP2.out.on hm3);clear hm3)
     | (go_at_call 138;refine (HDR.out w3).mono ?_;rintro e w4 ⟨rfl,hb4⟩;have HP4:=Hid.m (HP3.out.below hb4);clear hb4)
     | (at_builtin;refine g_one (w0:=w4) okC rfl _ _ _ rfl rfl BL _ _ HP4.out.own rfl (Ch.drop t key 1) rfl _ rfl rfl HLL.out HP4.out.hz ?_;intro v5 w5 hO5 hG5;have HP5:=Hid.m (HP4.out.grew H1.out.1 H1.out.2.1 H1.out.2.2 hG5 hO5);obtain ⟨a5,c5,hv5,-⟩:=hO5.rd okC;rw [List.length_append] at hv5;subst hv5;clear hO5 hG5))
    go_roundw
    case rel=>exact ⟨j+1,a5,_,c5,F3,by omega,by go_num,rfl,by rw [HS2.out.1,HS2.out.2];exact HP5⟩
    case measure=>simp [intOf];omega
  ·have hjn3:¬ ((j:Int)<(n:Int)):=by omega
   have hjE:j=n:=by omega
   subst hjE
   obtain ⟨hlm,hrd,hadr⟩:=HP.out.rows okC
   obtain ⟨xj,hLj,rAj,rBj⟩:=HP.out.mv
   have hbR:=HP.out.box.1
   have y0:=hbR.c 0 (by simp)
   have y1:=hbR.c 1 (by simp)
   have y2:=hbR.c 2 (by simp)
   have f0:=hbR.f 0
   have f1:=hbR.f 1
   have f2:=hbR.f 2
   have yl:=hbR.lt
   simp only [List.getElem_cons_zero,List.getElem_cons_succ] at y0 y1 y2
   have HLM:=Hid.m hlm
   by_cases h0:lm=0
   ·have hX:=(((hbR.set 0 (.int .u8 2) (by simp)).set 1 (.slice none 0 0) (by simp)).set 2 (.int .u64 0) (by simp))
    have ZZ0:=Hid.m (hX.c 0 (by simp))
    have ZZ1:=Hid.m (hX.c 1 (by simp))
    have ZZ2:=Hid.m (hX.c 2 (by simp))
    have hc0:CH j=[]:=List.eq_nil_of_length_eq_zero (by omega)
    have hcg:=cgs_write (n:=BL) hLj rAj rBj (GRd.nil wr) (fun a ha=>by cases ha) HP.out.box.2 HR2.out H1.out.2.1 0 [.int .u8 2,.slice none 0 0,.int .u64 0]
    unfold sets sets sets sets at hcg
    have HCG:=Hid.m hcg
    simp only [List.getElem_cons_zero,List.getElem_cons_succ,List.set_cons_zero,List.set_cons_succ] at ZZ0 ZZ1 ZZ2
    have HC00:=Hid.m hc0
    subst h0
    clear hX hcg hlm hrd hadr hLj rAj rBj hbR HP hc0
    go_wp2
    try simp only [Exit.inBlock,Exit.then]
    refine bodyPost_ret (v:=.tuple #[.agg #[.int .u8 2,.slice none 0 0,.int .u64 0],.slice none 0 0]) (by simp [results,Tryz.results85,go_sem,ZZ0.out,ZZ1.out,ZZ2.out]) rfl ⟨none,0,by first | rfl | (rw [HC00.out];rfl),by first | exact HCG.out | (rw [HC00.out];exact HCG.out)⟩
   ·have hX:=(((hbR.set 0 (.int .u8 1) (by simp)).set 1 (.slice none 0 0) (by simp)).set 2 (.int .u64 lm) (by simp))
    have ZZ0:=Hid.m (hX.c 0 (by simp))
    have ZZ1:=Hid.m (hX.c 1 (by simp))
    have ZZ2:=Hid.m (hX.c 2 (by simp))
    have hcg:=cgs_write (n:=BL) hLj rAj rBj hrd hadr HP.out.box.2 HR2.out H1.out.2.1 0 [.int .u8 1,.slice none 0 0,.int .u64 lm]
    unfold sets sets sets sets at hcg
    have HCG:=Hid.m hcg
    simp only [List.getElem_cons_zero,List.getElem_cons_succ,List.set_cons_zero,List.set_cons_succ] at ZZ0 ZZ1 ZZ2
    have hlm2:lm≤1000:=by have:=HCL.out j;omega
    have h02:¬ ((lm:Int)=0):=by omega
    have hcv:IntKind.u64.wrap (lm:Int)=(lm:Int):=by rw [IntKind.wrap_u64];omega
    clear hX hcg hlm hrd hadr hLj rAj rBj hbR HP
    go_wp2
    try simp only [Exit.inBlock,Exit.then]
    refine bodyPost_ret (v:=.tuple #[.agg #[.int .u8 1,.slice none 0 0,.int .u64 lm],.slice lo lm lc]) (by simp [results,Tryz.results85,go_sem,ZZ0.out,ZZ1.out,ZZ2.out]) rfl ⟨lo,lc,by first | rfl | (rw [← HLM.out];unfold dkd;rw [if_neg h0]),HCG.out⟩
end Go.Proofs.YtcdpiefflnaghaaGreatDoor.En
namespace Go.Proofs.YtcdpiefflnaghaaGreatDoor.En
open Go.Proofs.YtcdpiefflnaghaaGreatDoor.It
open Go.Proofs.YtcdpiefflnaghaaGreatDoor.Lr
open Go.Proofs.YtcdpiefflnaghaaGreatDoor.Qt
open Go.Proofs.YtcdpiefflnaghaaGreatDoor.Sb
open Go.RowKit Go.Proofs.YtcdpiefflnaghaaGreatDoor
structure Rws {α:Type}(E:GEl α)(N:Nat)(A:Ad)(s':Sh)(F:Cp→Nat→Prop)(w w':World)(lo:Option Addr)(l:List α)(lc:Nat):Prop where
 rd:GRd E w' lo l lc
 lv:∃ F',Mv N A s' F w w' F'∧∀ a,lo=some a→¬ Un F' a.block∧w.heap.size≤a.block∧a.block<w'.heap.size
theorem lp_write {α:Type}{E:GEl α}{N:Nat}{A:Ad}{s':Sh}{F:Cp→Nat→Prop}{w:World}{BL:Nat}{no:Option Addr}{names:List (Int × ByteArray)}{nc R:Nat}{wr:World}{l:List α}{Fj:Cp→Nat→Prop}(K:GOk E){lo:Option Addr}{n lc:Nat}(h:Lp E N A s' F w BL no names nc R wr (.slice lo n lc) l Fj)(hw:w.heap.size≤R)(hR:R<BL)(j:Nat)(vs:List Value):Rws E N A s' F w (sets wr R j vs) lo l lc:=by
 obtain ⟨hn,hr,ha⟩:=h.rows K
 obtain ⟨x',hL,a,b⟩:=h.mv
 have hk:=Kpt.grown (sets_grown R vs wr j)
 have hs:=sets_size R vs wr j
 exact ⟨hr.kpt hk fun a h1 e=>by have:=(ha a h1).2.1;omega,Fj,⟨x',hL.write h.box.2 hw j,a,b⟩,fun a h1=>⟨(ha a h1).1,by have:=(ha a h1).2.1;omega,by have:=(ha a h1).2.2;omega⟩⟩
set_option maxHeartbeats 4000000 in
theorem get_m {N:Nat}{A:Ad}{s:Sh}{x:Ra}{F:Cp→Nat→Prop}{w:World}(I:Inv s)(hE:Eg N w A x F)(RA:RepA x s)(RB:RepB x s){t:Int}{ks:List ByteArray}{no:Option Addr}{nc:Nat}(hR:GRd EN w no (ks.map fun k=>(t,k)) nc)(hA:∀ a,no=some a→¬ Un F a.block∧a.block<w.heap.size)(hok:∀ k∈ks,okN (t,k))(hl:ks.length≤1000):
  Calls Tryz.prog 84 #[ptr A.b,.slice no ks.length nc] w fun e w'=>∃ lo lc,e=.returned (.agg #[.int .u8 1,.slice lo (s.gets t ks).2.length lc,.int .u64 0])∧Rws EJ N A (s.gets t ks).1 F w w' lo (s.gets t ks).2 lc:=by
 obtain ⟨W,hW⟩:∃ W,W=w.alloc (.cells #[.int .u8 0,.slice none 0 0,.int .u64 0] 30):=⟨_,rfl⟩
 have hBW:Below w.heap.size w W:=by rw [hW];exact g_alloc _ _
 have hWs:W.heap.size=w.heap.size+1:=by rw [hW];simp
 have hBR:GBx W w.heap.size [.int .u8 0,.slice none 0 0,.int .u64 0]:=by rw [hW];exact GBx.made w _ _
 obtain ⟨R,hRe⟩:∃ R,R=w.heap.size:=⟨_,rfl⟩
 obtain ⟨BL,hBL⟩:∃ BL,BL=W.heap.size:=⟨_,rfl⟩
 obtain ⟨st,hst⟩:∃ st:Nat→Sh,st=fun j=>(s.gets t (ks.take j)).1:=⟨_,rfl⟩
 obtain ⟨CH,hCH⟩:∃ CH:Nat→List Im,CH=fun j=>(s.gets t (ks.take j)).2:=⟨_,rfl⟩
 have HI:Hid (∀ j,Inv (st j)):=fun j=>by rw [hst];exact (Inv.gets t (ks.take j) I).1.inv
 have HSN:Hid (∀ j (hj:j<ks.length),(∀ i (hi:i<(st j).held.length),(st j).at t ks[j]=some i→st (j+1)=(st j).hit i∧CH (j+1)=CH j++[(st j).held[i].item])∧((st j).at t ks[j]=none→st (j+1)=st j∧CH (j+1)=CH j)):=fun j hj=>by
  have e1:ks.take (j+1)=ks.take j++[ks[j]]:=by rw [List.take_add_one,List.getElem?_eq_getElem hj];rfl
  rw [hst,hCH]
  simp only [e1,gets_snoc]
  refine ⟨fun i hi hat=>?_,fun hat=>?_⟩
  ·rw [hat]
   simp only [List.getElem?_eq_getElem hi]
   exact ⟨trivial,trivial⟩
  ·rw [hat];exact ⟨rfl,rfl⟩
 have HCL:Hid (∀ j,(CH j).length≤j):=fun j=>by
  induction j with
  | zero=>rw [hCH];simp [Sh.gets]
  | succ j ih=>
   by_cases hj:j<ks.length
   ·cases e:(st j).at t ks[j] with
    | none=>rw [((HSN.out j hj).2 e).2];omega
    | some i=>obtain ⟨hi,-⟩:=at_some e;rw [((HSN.out j hj).1 i hi e).2];simp;omega
   ·have:CH (j+1)=CH j:=by rw [hCH];simp only;rw [List.take_of_length_le (by omega),List.take_of_length_le (by omega)]
    rw [this];omega
 have hL0:Lp EJ N A (st 0) F w BL no (ks.map fun k=>(t,k)) nc R W (.slice none 0 0) (CH 0) F:=by
  rw [hst,hCH,hBL]
  refine ⟨⟨x,hE.lv hBW,RA,RB⟩,Nat.le_refl _,GOwn.nil _ _,(by intro k hk;cases hk),hR.below hBW,fun a ha=>⟨(hA a ha).1,by have:=(hA a ha).2;omega⟩,?_,?_⟩
  ·rw [hRe];exact hBR
  ·rw [hRe];exact fun hu=>by have:=hE.un _ hu;omega
 have HL0:=Hid.m hL0
 have H1:Hid (w.heap.size≤BL∧R<BL∧∀ a,no=some a→a.block<BL):=⟨by omega,by omega,fun a ha=>by have:=(hA a ha).2;omega⟩
 have HR2:Hid (w.heap.size≤R):=Nat.le_of_eq hRe.symm
 have hst':(s.gets t ks).1=st ks.length:=by rw [hst];simp
 have hCH':(s.gets t ks).2=CH ks.length:=by rw [hCH];simp
 have hc0:CH 0=[]:=by rw [hCH];simp [Sh.gets]
 rw [hst',hCH']
 have HOK:=Hid.m hok
 have HC0:=Hid.m hc0
 clear hE RA RB hR hA hok hst hCH hst' hCH' hL0 hBR hBW hWs hBL I hc0
 obtain ⟨n,hn⟩:∃ n,n=ks.length:=⟨_,rfl⟩
 have HN:=Hid.m hn
 rw [← hn] at hl ⊢
 clear hn
 unfold ptr
 go_enter Tryz.func84,Tryz.ntmps84
 go_upto_region 1 with (fail)
 rw [← hW,← hRe]
 clear hW hRe
 go_wp2
 go_loopw [5,12] (fun s6 i wr=>∃ (j:Nat) (lo:Option Addr) (lm lc:Nat) (Fj:Cp→Nat→Prop),j≤n∧i=.int .i64 j∧s6=.slice lo lm lc∧Hid (Lp EJ N A (st j) F w BL no (ks.map fun k=>(t,k)) nc R wr (.slice lo lm lc) (CH j) Fj)) (fun _ i _=>n - (intOf i).toNat)
 case atStart=>exact ⟨0,none,0,0,F,Nat.zero_le _,rfl,rfl,HL0⟩
 case round=>
  clear HL0
  obtain ⟨j,lo,lm,lc,Fj,hj,rfl,rfl,HP⟩:=hrel
  by_cases hjn:j<n
  ·have hjn2:(j:Int)<(n:Int):=by omega
   have hjv:j<ks.length:=by have:=HN.out;omega
   obtain ⟨vb,vf,hvo,hvb,v0,v1⟩:=HP.out.rd.nam (i:=j) (by simpa using hjv)
   simp only [List.getElem_map] at v0 v1
   have HS:=Hid.m (HSN.out j hjv)
   have HKO:Hid (okN (t,ks[j])):=HOK.out _ (List.getElem_mem hjv)
   obtain ⟨key,hkey⟩:∃ key,key=ks[j]:=⟨_,rfl⟩
   rw [← hkey] at v1 HS HKO
   clear hkey
   obtain ⟨w1,hw1⟩:∃ w1,w1=wr.alloc (.cells #[.int .i64 t,.string key] 119):=⟨_,rfl⟩
   have HP1:Hid (Lp EJ N A (st j) F w BL no (ks.map fun k=>(t,k)) nc R w1 (.slice lo lm lc) (CH j) Fj):=by rw [hw1];exact HP.out.below (g_alloc _ _)
   have hB1:GBx w1 wr.heap.size [.int .i64 t,.string key]:=by rw [hw1];exact GBx.made wr _ _
   subst hvo
   go_upto_region 5 with (fail)
   rw [← hw1]
   clear hw1 v0 v1 hvb
   have b0:=hB1.c 0 (by simp)
   have b1:=hB1.c 1 (by simp)
   have bl:=hB1.lt
   simp only [List.getElem_cons_zero,List.getElem_cons_succ] at b0 b1
   clear hB1
   cases hat:(st j).at t key with
   | none=>
    have HFD:=Hid.m (find_nm (HI.out j) HP1.out.mv HKO.out hat)
    have HS2:=Hid.m (HS.out.2 hat)
    clear hat
    unfold ptr at HFD
    go_wp2_with (go_at_call 50;refine HFD.out.mono ?_;rintro e w2 ⟨rfl,F2,hm2⟩;have HP2:=Hid.m (HP1.out.on hm2);clear hm2)
    go_roundw
    case rel=>exact ⟨j+1,lo,lm,lc,F2,by omega,by go_num,rfl,by rw [HS2.out.1,HS2.out.2];exact HP2⟩
    case measure=>simp [intOf];omega
   | some i=>
    obtain ⟨hi,-⟩:=at_some hat
    have HFD:=Hid.m (find_sm (HI.out j) HP1.out.mv HKO.out hat hi)
    have HLV:=Hid.m (fun (w2:World) (F2:Cp→Nat→Prop) (h:Mv N A (st j) F w w2 F2)=>hit_mm (HI.out j) h hi)
    have HS2:=Hid.m (HS.out.1 i hi hat)
    have HLL:Hid ((CH j).length+1≤1000000):=by show _≤_;have:=HCL.out j;omega
    have HMM:Hid ((st j).held[i]∈((st j).hit i).held):=by
     have e1:((st j).hit i).held=(st j).held:=(Kin.hit (HI.out j) i).2.1
     show _∈_
     rw [e1]
     exact List.getElem_mem hi
    obtain ⟨h,hh⟩:∃ h,h=(st j).held[i]:=⟨_,rfl⟩
    rw [← hh] at HFD HLV HMM HS2
    clear hat hi hh
    unfold ptr at HFD HLV
    go_upto_region 6 with (go_at_call 50;refine HFD.out.mono ?_;rintro e w2 ⟨rfl,F2,hm2⟩;have HP2:=Hid.m (HP1.out.on hm2);clear hm2)
    clear b0 b1 bl
    go_upto_region 8 with (go_at_call 137;refine (HLV.out w2 F2 HP2.out.mv).mono ?_;rintro e w3 ⟨rfl,F3,hm3⟩;have HP3:=Hid.m (HP2.out.on hm3);clear hm3)
    obtain ⟨x3,hL3,rA3,rB3⟩:=HP3.out.mv
    obtain ⟨hpk,hpz⟩:=List.getElem?_eq_some_iff.1 (rB3.kept h HMM.out)
    obtain ⟨V,hEv⟩:=hL3.eg
    obtain ⟨ro,rc,hI⟩:=hEv.itm
    have c25:=hEv.c25
    have i0:=hI.h0
    obtain ⟨k0,k1,k2,k3,k4,k5⟩:=hI.at_ hpk
    rw [hpz] at k0 k1 k2 k3 k4 k5
    have bl:=hEv.lt
    have il:=hI.head.lt
    have kl:=hI.body.lt
    obtain ⟨K,hK⟩:∃ K,K=x3.kept.length:=⟨_,rfl⟩
    rw [← hK] at i0
    obtain ⟨p,hp⟩:∃ p,p=h.pl:=⟨_,rfl⟩
    have hp2:(p:Int)<(K:Int):=by omega
    rw [← hp] at k0 k1 k2 k3 k4 k5 ⊢
    try simp only [EK] at k0 k1 k2 k3 k4 k5
    unfold ptr at c25
    clear hEv hI hL3 rA3 rB3 hpk hpz hK hp
    go_wp2_with (at_builtin;refine g_one (w0:=w3) okJ rfl _ _ _ rfl rfl BL _ _ HP3.out.own rfl h.item rfl _ rfl rfl HLL.out HP3.out.hz ?_;intro v5 w5 hO5 hG5;have HP5:=Hid.m (HP3.out.grew H1.out.1 H1.out.2.1 H1.out.2.2 hG5 hO5);obtain ⟨a5,c5,hv5,-⟩:=hO5.rd okJ;rw [List.length_append] at hv5;subst hv5;clear hO5 hG5)
    go_roundw
    case rel=>exact ⟨j+1,a5,_,c5,F3,by omega,by go_num,rfl,by rw [HS2.out.1,HS2.out.2];exact HP5⟩
    case measure=>simp [intOf];omega
  ·have hjn3:¬ ((j:Int)<(n:Int)):=by omega
   have hjE:j=n:=by omega
   subst hjE
   have hrw:=lp_write okJ HP.out HR2.out H1.out.2.1 0 [.int .u8 1,.slice lo lm lc,.int .u64 0]
   unfold sets sets sets sets at hrw
   have HRW:=Hid.m hrw
   obtain ⟨hlm,-,-⟩:=HP.out.rows okJ
   have HLM:=Hid.m hlm
   have hbR:=HP.out.box.1
   have y0:=hbR.c 0 (by simp)
   have y1:=hbR.c 1 (by simp)
   have y2:=hbR.c 2 (by simp)
   have f0:=hbR.f 0
   have f1:=hbR.f 1
   have f2:=hbR.f 2
   have yl:=hbR.lt
   simp only [List.getElem_cons_zero,List.getElem_cons_succ] at y0 y1 y2
   have hX:=(((hbR.set 0 (.int .u8 1) (by simp)).set 1 (.slice lo lm lc) (by simp)).set 2 (.int .u64 0) (by simp))
   have ZZ0:=Hid.m (hX.c 0 (by simp))
   have ZZ1:=Hid.m (hX.c 1 (by simp))
   have ZZ2:=Hid.m (hX.c 2 (by simp))
   simp only [List.getElem_cons_zero,List.getElem_cons_succ,List.set_cons_zero,List.set_cons_succ] at ZZ0 ZZ1 ZZ2
   clear hX hrw hlm hbR HP
   go_wp2
   try simp only [Exit.inBlock,Exit.then]
   refine bodyPost_ret (v:=.agg #[.int .u8 1,.slice lo lm lc,.int .u64 0]) (by simp [results,Tryz.results84,go_sem,ZZ0.out,ZZ1.out,ZZ2.out]) rfl ⟨lo,lc,by rw [← HLM.out],HRW.out⟩
end Go.Proofs.YtcdpiefflnaghaaGreatDoor.En
namespace Go.Proofs.YtcdpiefflnaghaaGreatDoor.En.Di
open Go.RowKit Go.Proofs.YtcdpiefflnaghaaGreatDoor Go.Proofs.YtcdpiefflnaghaaGreatDoor.En
def ixF (p:Int→Bool)(L:List Int):Int:=if L.any p=true then (L.findIdx p:Nat) else -1
theorem ixF_hit {p:Int→Bool}{L:List Int}{k:Nat}(hk:k<L.length)(h:p L[k]=true)(ha:∀ j (hj:j<L.length),j<k→p L[j]=false):ixF p L=(k:Int):=by
 have hm:L.any p=true:=List.any_eq_true.2 ⟨L[k],List.getElem_mem hk,h⟩
 unfold ixF
 rw [if_pos hm]
 congr 1
 rw [List.findIdx_eq hk]
 exact ⟨h,fun j hj=>ha j (by omega) hj⟩
theorem ixF_miss {p:Int→Bool}{L:List Int}(ha:∀ j (hj:j<L.length),p L[j]=false):ixF p L=-1:=by
 unfold ixF
 rw [if_neg]
 intro hm
 obtain ⟨x,hx,e⟩:=List.any_eq_true.1 hm
 obtain ⟨j,hj,rfl⟩:=List.getElem_of_mem hx
 rw [ha j hj] at e
 cases e
def FnSays (w:World)(row:Option Nat)(g:Nat)(lb:Array Value)(p:Int→Bool)(L:List Int):Prop:=
 ∀ W,w.grownBy W row→∀ x∈L,Calls Tryz.prog g (#[.int .i64 x]++lb) W fun e w'=>e=.returned (.bool (p x))∧Below W.heap.size W w'
theorem indexF_any (g:Nat)(lb:Array Value)(p:Int→Bool)(L:List Int)(ao:Option Addr)(cap:Nat)(w:World)(row:Option Nat)(eg:∀ args w,(callFunc g args).run Tryz.prog w=.ok (.enter g args) w)(h:GRd EI w ao L cap)(hf:FnSays w row g lb p L):
  Calls Tryz.prog 246 #[.slice ao L.length cap,.func (.func g) #[] lb] w fun e w'=>e=.returned (.int .i64 (ixF p L))∧Below w.heap.size w w':=by
 have hlen:=h.len
 have HR:=Hid.m h
 have HF:=Hid.m hf
 have HH:=Hid.m (fun k hk=>@ixF_hit p L k hk)
 have HM:=Hid.m (@ixF_miss p L)
 obtain ⟨R,hR⟩:∃ R,R=ixF p L:=⟨_,rfl⟩
 rw [← hR] at HH HM ⊢
 clear hR h hf
 go_enter Tryz.func246,Tryz.ntmps246
 go_wp2
 go_loopw [5,8] (fun _ i wr=>∃ k:Nat,k≤L.length∧i=.int .i64 k∧Hid (Below w.heap.size w wr)∧Hid (∀ j (hj:j<L.length),j<k→p L[j]=false)) (fun _ i _=>L.length - (intOf i).toNat)
 case atStart=>exact ⟨0,Nat.zero_le _,rfl,Below.refl _ _,fun _ _ h=>absurd h (by omega)⟩
 case round=>
  obtain ⟨k,hk,rfl,HB,HA⟩:=hrel
  by_cases hkl:k<L.length
  ·have hkl2:(k:Int)<(L.length:Int):=by omega
   have hne:L≠[]:=by intro e;rw [e] at hkl;simp at hkl
   obtain ⟨b,off,rfl,hbl,r0⟩:=(HR.out.below HB.out).nt hkl
   obtain ⟨y,hye⟩:∃ y,y=L[k]:=⟨_,rfl⟩
   rw [← hye] at r0
   have HC:=Hid.m (HF.out wr (g_grown HB.out row) y (by rw [hye];exact List.getElem_mem hkl))
   obtain ⟨Y,hY⟩:∃ Y,Y=p y:=⟨_,rfl⟩
   rw [← hY] at HC
   cases Y
   ·have HA2:Hid (∀ j (hj:j<L.length),j<k+1→p L[j]=false):=by
     intro j hj hjk
     by_cases e:j=k
     ·subst e;rw [← hye,← hY]
     ·exact HA.out j hj (by omega)
    clear HA hne hye hY HF
    go_wp2_with (go_at_fn g;refine HC.out.mono ?_;rintro e w1 ⟨rfl,hb1⟩)
    go_roundw
    case rel=>exact ⟨k+1,by omega,by go_num,g_on HB.out hb1,HA2⟩
    case measure=>simp [intOf];omega
   ·have e:=HH.out k hkl (by rw [← hye,← hY]) HA.out
    subst e
    clear HH HM HA hne hye hY HF
    go_wp2_with (go_at_fn g;refine HC.out.mono ?_;rintro e w1 ⟨rfl,hb1⟩)
    go_ret
    exact ⟨rfl,g_on HB.out hb1⟩
  ·have e:=HM.out (fun j hj=>HA.out j hj (by omega))
   subst e
   have hkl2:¬ (k:Int)<(L.length:Int):=by omega
   clear HH HM HA HF
   go_wp2
   go_ret
   exact ⟨rfl,HB.out⟩
structure TRow (w:World)(g cap:Nat)(D:List Int):Prop where
 le:D.length≤cap
 ex:∃ cur,w.heap[g]? = some (.cells cur 3 (0,0))∧cur.size=cap∧∀ j (hj:j<D.length),cur[j]? = some (.int .i64 D[j])
theorem TRow.cell {w:World}{g cap:Nat}{D:List Int}(h:TRow w g cap D)(j:Nat)(hj:j<D.length):w.cell? ⟨g,j,none⟩=some (.int .i64 D[j]):=by
 obtain ⟨cur,h1,h2,h3⟩:=h.ex
 rw [g_cell h1,h3 j hj]
theorem TRow.some {w:World}{g cap:Nat}{D:List Int}(h:TRow w g cap D)(j:Nat)(hj:j<cap):(w.cell? ⟨g,j,none⟩).isSome=true:=by
 obtain ⟨cur,h1,h2,h3⟩:=h.ex
 rw [g_cell h1]
 simp [h2,hj]
theorem TRow.frozen {w:World}{g cap:Nat}{D:List Int}(h:TRow w g cap D)(j:Nat):w.frozen? ⟨g,j,none⟩=false:=by
 obtain ⟨cur,h1,h2,h3⟩:=h.ex
 exact g_frozen h1 j
theorem TRow.lt {w:World}{g cap:Nat}{D:List Int}(h:TRow w g cap D):g<w.heap.size:=by
 obtain ⟨cur,h1,h2,h3⟩:=h.ex
 exact (Array.getElem?_eq_some_iff.1 h1).1
theorem TRow.below {w w':World}{g cap:Nat}{D:List Int}(h:TRow w g cap D)(hb:Below w.heap.size w w'):TRow w' g cap D:=by
 obtain ⟨cur,h1,h2,h3⟩:=h.ex
 exact ⟨h.le,cur,(hb.block g h.lt).trans h1,h2,h3⟩
theorem TRow.set {w:World}{g cap:Nat}{D:List Int}(h:TRow w g cap D)(i:Nat)(x:Int):TRow (w.setCell ⟨g,i,none⟩ (.int .i64 x)) g cap (D.set i x):=by
 obtain ⟨cur,h1,h2,h3⟩:=h.ex
 refine ⟨by simpa using h.le,cur.setIfInBounds i (.int .i64 x),heap_setCell_same w g i cur _ _ h1,by simpa using h2,fun j hj=>?_⟩
 have hj':j<D.length:=by simpa using hj
 have hjc:j<cur.size:=by have:=h.le;omega
 by_cases e:i=j
 ·subst e
  simp [hjc]
 ·rw [Array.getElem?_setIfInBounds_ne e,h3 j hj',List.getElem_set_ne e]
theorem TRow.take {w:World}{g cap:Nat}{D:List Int}(h:TRow w g cap D)(i:Nat):TRow w g cap (D.take i):=by
 obtain ⟨cur,h1,h2,h3⟩:=h.ex
 refine ⟨by have:=h.le;simp;omega,cur,h1,h2,fun j hj=>?_⟩
 have hj':j<D.length:=by simp at hj;omega
 rw [h3 j hj',List.getElem_take]
theorem TRow.wipe (g:Nat):∀ (vs:List Value) (w:World) (cap i:Nat) (D:List Int),D.length≤i→TRow w g cap D→TRow (w.setCells g i vs) g cap D
 | [],_,_,_,_,_,h=>h
 | v::vs,w,cap,i,D,hi,h=>by
  refine TRow.wipe g vs _ cap (i+1) D (by omega) ?_
  obtain ⟨cur,h1,h2,h3⟩:=h.ex
  refine ⟨h.le,cur.setIfInBounds i v,heap_setCell_same w g i cur _ _ h1,by simpa using h2,fun j hj=>?_⟩
  rw [Array.getElem?_setIfInBounds_ne (by omega),h3 j hj]
theorem wipe_grown (g:Nat):∀ (vs:List Value) (w:World) (i:Nat),w.grownBy (w.setCells g i vs) (.some g)
 | [],w,_=>World.grownBy.refl w _
 | v::vs,w,i=>(g_set w ⟨g,i,none⟩ v).trans (wipe_grown g vs _ (i+1))
theorem TRow.of {w:World}{base g n cap:Nat}{D:List Int}(h:GOwn EI w base (.slice (.some ⟨g,0,none⟩) n cap) D):TRow w g cap D∧n=D.length∧base≤g∧cap≤9223372036854775807:=by
 rcases h.parts Go.Proofs.YtcdpiefflnaghaaGreatDoor.okI with ⟨e,_⟩ | ⟨g',cap',cur,e,hb,hg,hs,hn,hm,hc⟩
 ·cases e
 ·injection e with e1 e2 e3
  injection e1 with e4
  injection e4 with e5
  subst e5 e3
  refine ⟨⟨hn,cur,hg,by simpa [EI] using hs,fun j hj=>?_⟩,e2,hb,hm⟩
  have:=hc j hj 0 (by decide)
  rw [g_cell hg] at this
  simpa [EI] using this
theorem ei_flat:∀ D:List Int,D.flatMap EI.cells=D.map (Value.int .i64)
 | []=>rfl
 | a::D=>by rw [List.flatMap_cons,ei_flat D];rfl
theorem TRow.own {w:World}{base g cap:Nat}{D:List Int}(h:TRow w g cap D)(hb:base≤g)(hm:cap≤9223372036854775807):GOwn EI w base (.slice (.some ⟨g,0,none⟩) D.length cap) D:=by
 obtain ⟨cur,h1,h2,h3⟩:=h.ex
 refine ⟨Go.Proofs.YtcdpiefflnaghaaGreatDoor.okI.flat_len D,.inr ⟨g,cap,cur,rfl,hb,h1,h.le,hm,by simp [EI,h2],?_⟩⟩
 have hle:=h.le
 apply List.ext_getElem?
 intro j
 have hf:(D.flatMap EI.cells)[j]? = D[j]?.map (Value.int .i64):=by
  rw [ei_flat,List.getElem?_map]
 rw [hf]
 by_cases hj:j<D.length
 ·have:=h3 j hj
  rw [List.getElem?_take,if_pos (by simpa [EI] using hj),List.getElem?_eq_getElem hj]
  simpa using this
 ·rw [List.getElem?_take,if_neg (by simpa [EI] using hj),List.getElem?_eq_none (by omega)]
  rfl
structure DelI (p:Int→Bool)(L D:List Int)(i j:Nat):Prop where
 len:D.length=L.length
 ij:i<j
 jl:j≤L.length
 front:D.take i=(L.take j).filter fun x=>!p x
 rest:D.drop j=L.drop j
theorem DelI.start {p:Int→Bool}{L:List Int}{k:Nat}(hk:k<L.length)(h:p L[k]=true)(ha:∀ j (hj:j<L.length),j<k→p L[j]=false):DelI p L L k (k+1):=by
 refine ⟨rfl,by omega,by omega,?_,rfl⟩
 rw [List.take_add_one,List.getElem?_eq_getElem hk,List.filter_append]
 have h1:(L.take k).filter (fun x=>!p x)=L.take k:=by
  rw [List.filter_eq_self]
  intro x hx
  rw [List.mem_take_iff_getElem] at hx
  obtain ⟨j,hj,rfl⟩:=hx
  simp [ha j (by omega) (by omega)]
 rw [h1]
 simp [h]
theorem DelI.get {p:Int→Bool}{L D:List Int}{i j:Nat}(h:DelI p L D i j)(hj:j<L.length)(hj':j<D.length):D[j]=L[j]:=by
 have h1:(D.drop j)[0]? = (L.drop j)[0]?:=by rw [h.rest]
 rw [List.getElem?_drop,List.getElem?_drop,Nat.add_zero,List.getElem?_eq_getElem hj,List.getElem?_eq_getElem hj'] at h1
 exact Option.some.inj h1
theorem DelI.skip {p:Int→Bool}{L D:List Int}{i j:Nat}(h:DelI p L D i j)(hj:j<L.length)(hp:p L[j]=true):DelI p L D i (j+1):=by
 refine ⟨h.len,by have:=h.ij;omega,by omega,?_,?_⟩
 ·rw [h.front,List.take_add_one,List.getElem?_eq_getElem hj,List.filter_append]
  simp [hp]
 ·rw [← List.drop_drop,← List.drop_drop,h.rest]
theorem DelI.keep {p:Int→Bool}{L D:List Int}{i j:Nat}(h:DelI p L D i j)(hj:j<L.length)(hp:p L[j]=false):DelI p L (D.set i L[j]) (i+1) (j+1):=by
 have hij:=h.ij
 have hl:=h.len
 refine ⟨by simpa using hl,by omega,by omega,?_,?_⟩
 ·rw [List.take_add_one,List.take_set,List.getElem?_set_self (by omega),List.take_add_one (i:=j),List.getElem?_eq_getElem hj,List.filter_append,← h.front]
  rw [List.set_eq_of_length_le (by simp;omega)]
  simp [hp]
 ·rw [List.drop_set_of_lt (by omega),← List.drop_drop,← List.drop_drop,h.rest]
set_option maxHeartbeats 2000000 in
theorem deleteF_any (g:Nat)(lb:Array Value)(p:Int→Bool)(L:List Int)(base:Nat)(v:Value)(w:World)(eg:∀ args w,(callFunc g args).run Tryz.prog w=.ok (.enter g args) w)(h:GOwn EI w base v L)(hf:FnSays w v.ownBlock g lb p L):
  Calls Tryz.prog 188 #[v,.func (.func g) #[] lb] w fun e w'=>∃ v',e=.returned v'∧GOwn EI w' base v' (L.filter fun x=>!p x)∧w.grownBy w' v.ownBlock:=by
 obtain ⟨ao,cap,hv,hr⟩:=h.rd Go.Proofs.YtcdpiefflnaghaaGreatDoor.okI
 have HI:=Hid.m (indexF_any g lb p L ao cap w v.ownBlock eg hr hf)
 have hlen:=hr.len
 by_cases hany:L.any p=true
 case neg=>
  have hall:∀ j (hj:j<L.length),p L[j]=false:=by
   intro j hj
   cases e:p L[j]
   ·rfl
   ·exact absurd (List.any_eq_true.2 ⟨L[j],List.getElem_mem hj,e⟩) hany
  have e1:(L.filter fun x=>!p x)=L:=by
   rw [List.filter_eq_self]
   intro x hx
   obtain ⟨j,hj,rfl⟩:=List.getElem_of_mem hx
   simp [hall j hj]
  rw [e1]
  rw [ixF_miss hall] at HI
  have HO:=Hid.m h
  clear hany hall e1 h hf hr
  subst hv
  go_enter Tryz.func188,Tryz.ntmps188
  go_wp2_with (go_at_call 246;refine HI.out.mono ?_;rintro e w1 ⟨rfl,hb1⟩)
  go_ret
  exact ⟨_,rfl,HO.out.below hb1,g_grown hb1 _⟩
 case pos=>
  obtain ⟨x,hx,hpx⟩:=List.any_eq_true.1 hany
  have hk:L.findIdx p<L.length:=List.findIdx_lt_length_of_exists ⟨x,hx,hpx⟩
  obtain ⟨k0,hk0⟩:∃ k0,k0=L.findIdx p:=⟨_,rfl⟩
  rw [← hk0] at hk
  have hp0:p L[k0]=true:=by subst hk0;exact List.findIdx_getElem
  have ha0:∀ j (hj:j<L.length),j<k0→p L[j]=false:=by
   intro j hj hjk
   subst hk0
   have:=List.not_of_lt_findIdx hjk
   simpa using this
  rw [ixF_hit hk hp0 ha0] at HI
  have HD0:=Hid.m (DelI.start hk hp0 ha0)
  have HF:=Hid.m hf
  rcases h.parts Go.Proofs.YtcdpiefflnaghaaGreatDoor.okI with ⟨e,rfl⟩ | ⟨gb,cap',cur,e,hb,hg,hs,hn,hm,hc⟩
  ·simp at hk
  rw [hv] at e
  injection e with e1 e2 e3
  subst e1 e3
  subst hv
  obtain ⟨hT,_,_,_⟩:=TRow.of h
  have HT:=Hid.m hT
  have HBS:=Hid.m hb
  have hkle:(k0:Int)+1≤9223372036854775807:=by omega
  have hne1:((k0:Int)==-1)=false:=beq_eq_false_iff_ne.2 (by omega)
  clear hany hx hpx hk0 hp0 ha0 hf hr h hb hg hs hc hT
  have hz:∀ w,(zeroValue 3).run Tryz.prog w=.ok (Value.int .i64 0) w:=fun w=>by kernel_rfl
  go_enter Tryz.func188,Tryz.ntmps188
  go_wp2_with (go_at_call 246;refine HI.out.mono ?_;rintro e w1 ⟨rfl,hb1⟩;have HB1:=Hid.m hb1;clear hb1)
  go_loopw [5,6,7] (fun s5 s6 _ wr=>∃ (i j:Nat) (D:List Int),j≤L.length∧i<j∧s5=.int .i64 i∧s6=.int .i64 j∧Hid (w.grownBy wr (.some gb))∧Hid (TRow wr gb cap D)∧Hid (DelI p L D i j)) (fun _ s6 _ _=>L.length - (intOf s6).toNat)
  case atStart=>exact ⟨k0,k0+1,L,by omega,by omega,rfl,by go_num,g_grown HB1.out _,HT.out.below HB1.out,HD0.out⟩
  case round=>
   obtain ⟨i,j,D,hjl,hij,rfl,rfl,HG,HT2,HD⟩:=hrel
   by_cases hjn:j<L.length
   ·have hjn2:(j:Int)<(L.length:Int):=by omega
    have hDl:D.length=L.length:=HD.out.len
    have r0:=HT2.out.cell j (by omega)
    obtain ⟨y,hye⟩:∃ y,y=L[j]:=⟨_,rfl⟩
    rw [HD.out.get hjn (by omega),← hye] at r0
    have HC:=Hid.m (HF.out wr HG.out y (by rw [hye];exact List.getElem_mem hjn))
    obtain ⟨Y,hY⟩:∃ Y,Y=p y:=⟨_,rfl⟩
    rw [← hY] at HC
    cases Y
    ·have HD2:=Hid.m (HD.out.keep hjn (by rw [← hye,← hY]))
     rw [← hye] at HD2
     have hil:i<L.length:=by omega
     have hil2:(i:Int)<(L.length:Int):=by omega
     obtain ⟨o,HQ⟩:∃ o,Hid (∀ w1,Below wr.heap.size wr w1→w1.cell? ⟨gb,i,none⟩=some (.int .i64 o)∧w1.frozen? ⟨gb,i,none⟩=false):=⟨D[i]'(by omega),fun w1 hb=>⟨(HT2.out.below hb).cell i (by omega),(HT2.out.below hb).frozen i⟩⟩
     clear hye hY HF hDl
     go_wp2_with (go_at_fn g;refine HC.out.mono ?_;rintro e w5 ⟨rfl,hb5⟩;obtain ⟨q1,q2⟩:=HQ.out _ hb5;have HB5:=Hid.m hb5;clear hb5)
     go_roundw
     case rel=>exact ⟨i+1,j+1,D.set i y,by omega,by omega,by go_num,by go_num,(HG.out.trans (g_grown HB5.out _)).trans (g_set _ ⟨gb,i,none⟩ _),(HT2.out.below HB5.out).set i y,HD2⟩
     case measure=>simp [intOf];omega
    ·have HD2:=Hid.m (HD.out.skip hjn (by rw [← hye,← hY]))
     clear hye hY HF hDl
     go_wp2_with (go_at_fn g;refine HC.out.mono ?_;rintro e w5 ⟨rfl,hb5⟩;have HB5:=Hid.m hb5;clear hb5)
     go_roundw
     case rel=>exact ⟨i,j+1,D,by omega,by omega,rfl,by go_num,HG.out.trans (g_grown HB5.out _),HT2.out.below HB5.out,HD2⟩
     case measure=>simp [intOf];omega
   ·have hjn2:¬ (j:Int)<(L.length:Int):=by omega
    have hDl:D.length=L.length:=HD.out.len
    have hfr:=HD.out.front
    rw [List.take_of_length_le (by omega:L.length≤j)] at hfr
    have HFR:=Hid.m hfr
    have hil:i≤L.length:=by omega
    have hil3:i<L.length:=by omega
    have hic:i≤cap:=by omega
    have hic2:i<cap:=by omega
    have hne:¬ cap=i:=by omega
    have hlc:L.length≤cap:=by omega
    have hcl:∀ ty,(Builtin.clear_ #[26] ty #[.slice (.some ⟨gb,i,none⟩) (L.length - i) (cap - i)]).run Tryz.prog wr=.ok (.tuple #[]) (wr.setCells gb i (List.replicate (L.length - i) (.int .i64 0))):=
     fun ty=>Lib.run_clear_slice wr _ _ ty _ Tryz.underlying26 hz rfl rfl gb i _ _ (by omega) (fun t ht=>HT2.out.some _ (by omega)) (fun t ht=>HT2.out.frozen _)
    clear hfr
    go_wp2
    go_ret
    have hTk:=TRow.wipe gb (List.replicate (L.length - i) (.int .i64 0)) wr cap i (D.take i) (by simp;omega) (HT2.out.take i)
    have hO:=hTk.own (base:=base) HBS.out hm
    refine ⟨_,rfl,?_,HG.out.trans (wipe_grown gb _ wr i)⟩
    rw [← HFR.out]
    have e:(D.take i).length=i:=by simp;omega
    rw [e] at hO
    exact hO
end Go.Proofs.YtcdpiefflnaghaaGreatDoor.En.Di
namespace Go.Proofs.YtcdpiefflnaghaaGreatDoor.En
open Go.Proofs.YtcdpiefflnaghaaGreatDoor.It
open Go.Proofs.YtcdpiefflnaghaaGreatDoor.Lr
open Go.Proofs.YtcdpiefflnaghaaGreatDoor.Qt
open Go.Proofs.YtcdpiefflnaghaaGreatDoor.Sb
open Go.RowKit Go.Proofs.YtcdpiefflnaghaaGreatDoor
def pT (kept:List (Int × Im))(t:Int)(q:Int):Bool:=match kept[q.toNat]? with
 | some z=>!decide (z.1=t)
 | none=>false
theorem bne_dec (u t:Int):(!u==t)=!decide (u=t):=by
 by_cases h:u=t <;> simp [h]
theorem tenant_fn {A:Ad}{kept:List (Int × Im)}{row:List Int}{G:Nat→Prop}{w:World}{ro:Option Addr}{rc:Nat}(hI:ItmP A kept row G w ro rc){p:Nat}(hp:p<kept.length){t:Int}{b c:Nat}(hb:GBx w b [ptr A.pi])(hc:GBx w c [.int .i64 t]):
  Calls Tryz.prog 189 #[.int .i64 p,ptr b,ptr c] w fun e w'=>e=.returned (.bool (pT kept t p))∧Below w.heap.size w w':=by
 have i0:=hI.h0
 obtain ⟨k0,-⟩:=hI.at_ hp
 have il:=hI.head.lt
 have kl:=hI.body.lt
 have b0:=hb.c 0 (by simp)
 have c0:=hc.c 0 (by simp)
 have bl:=hb.lt
 have cl:=hc.lt
 simp only [List.getElem_cons_zero] at b0 c0
 have hv:pT kept t p=!decide (kept[p].1=t):=by
  unfold pT
  simp only [Int.toNat_natCast,List.getElem?_eq_getElem hp]
 rw [hv]
 obtain ⟨u,hu⟩:∃ u,u=kept[p].1:=⟨_,rfl⟩
 rw [← hu] at k0 ⊢
 obtain ⟨K,hK⟩:∃ K,K=kept.length:=⟨_,rfl⟩
 rw [← hK] at i0
 have hp2:(p:Int)<(K:Int):=by omega
 clear hI hb hc hv hu hK hp
 unfold ptr at b0 ⊢
 go_enter Tryz.func189,Tryz.ntmps189
 go_wp2
 go_quiet (fail)
 go_wp2
 go_ret
 refine ⟨?_,?_⟩
 ·first
   | rfl
   | (rw [← bne_dec])
   | simp [bne_dec]
 ·exact g_drewN (Below.refl _ _) _
set_option maxHeartbeats 4000000 in
theorem ofTenant_any {N:Nat}{A:Ad}{V:Va}{x:Ra}{F:Cp→Nat→Prop}{w:World}(h:Egv N w A V x F)(hrow:∀ q∈x.row,0≤q∧q<x.kept.length)(hl:x.row.length≤1000)(t:Int):
  Calls Tryz.prog 139 #[ptr A.pi,.int .i64 t] w fun e w'=>∃ v,e=.returned v∧GOwn EI w' w.heap.size v (x.row.filter fun q=>!pT x.kept t q)∧Below w.heap.size w w':=by
 obtain ⟨W,hW⟩:∃ W,W=(w.alloc (.cells #[ptr A.pi] 100)).alloc (.cells #[.int .i64 t] 3):=⟨_,rfl⟩
 have hBW:Below w.heap.size w W:=by rw [hW];exact g_on (g_alloc _ _) (g_alloc _ _)
 have hWs:W.heap.size=w.heap.size+2:=by rw [hW];simp
 have hB0:GBx W w.heap.size [ptr A.pi]:=by rw [hW];exact (GBx.made w _ _).alloc _
 have hB1:GBx W (w.heap.size+1) [.int .i64 t]:=by
  rw [hW]
  have:=GBx.made (w.alloc (.cells #[ptr A.pi] 100)) [.int .i64 t] 3
  rw [show (w.alloc (.cells #[ptr A.pi] 100)).heap.size=w.heap.size+1 by simp] at this
  exact this
 have hEW:=h.below hBW
 obtain ⟨ro,rc,hI⟩:=hEW.itm
 have i1:=hI.h1
 have il:=hI.head.lt
 have HCN:Hid (Calls Tryz.prog 41 #[.slice ro x.row.length rc] W fun e w'=>∃ v',e=.returned v'∧GOwn EI w' W.heap.size v' x.row∧Below W.heap.size W w'):=by
  obtain ⟨ao,cap,hv,hr⟩:=hI.own.rd Go.Proofs.YtcdpiefflnaghaaGreatDoor.okI
  cases hv
  exact cloneI hr hl
 have eg:∀ args w,(callFunc 189 args).run Tryz.prog w=.ok (.enter 189 args) w:=enters_of Tryz.func189 (by kernel_rfl) rfl
 have HDE:Hid (∀ (w1:World) (v:Value),GOwn EI w1 W.heap.size v x.row→Below W.heap.size W w1→Calls Tryz.prog 188 #[v,.func (.func 189) #[] #[ptr w.heap.size,ptr (w.heap.size+1)]] w1 fun e w'=>∃ v',e=.returned v'∧GOwn EI w' w.heap.size v' (x.row.filter fun q=>!pT x.kept t q)∧Below w.heap.size w w'):=by
  intro w1 v hO hb1
  have hO2:GOwn EI w1 w.heap.size v x.row:=hO.down (by omega)
  refine (Di.deleteF_any 189 #[ptr w.heap.size,ptr (w.heap.size+1)] (pT x.kept t) x.row w.heap.size v w1 eg hO2 ?_).mono ?_
  ·intro W' hW' q hq
   obtain ⟨h0,h1⟩:=hrow q hq
   have hne:∀ k,k<W.heap.size→v.ownBlock≠some k:=fun k hk e=>by have:=(hO.lt k e).1;omega
   have hkp:∀ k,k<W.heap.size→W'.heap[k]? = W.heap[k]?:=fun k hk=>(hW'.block k (Nat.lt_of_lt_of_le hk hb1.size) (fun e=>hne k hk e.symm)).trans (hb1.block k hk)
   have hsz:W.heap.size≤W'.heap.size:=Nat.le_trans hb1.size hW'.size
   have hI':=hI.same hsz fun k hk=>hkp k (Parts.lt hEW k ⟨.itm,hk⟩)
   have hB0':GBx W' w.heap.size [ptr A.pi]:=hB0.same hsz (hkp _ (by omega))
   have hB1':GBx W' (w.heap.size+1) [.int .i64 t]:=hB1.same hsz (hkp _ (by omega))
   obtain ⟨p,rfl⟩:∃ p:Nat,q=(p:Int):=⟨q.toNat,by omega⟩
   exact tenant_fn hI' (by omega) hB0' hB1'
  ·rintro e w' ⟨v',rfl,h1,h2⟩
   refine ⟨v',rfl,h1,?_⟩
   have hb2:Below w.heap.size w1 w':=⟨h2.os,h2.tape,h2.output,h2.size,fun k hk=>h2.block k (by have:=hb1.size;omega) fun e=>by have:=(hO.lt k e.symm).1;omega⟩
   exact (g_on hBW hb1).trans hb2
 clear h hEW hI hBW hB1 eg hrow hl hWs
 have b0:=hB0.c 0 (by simp)
 have bl:=hB0.lt
 simp only [List.getElem_cons_zero] at b0
 obtain ⟨RW,hRW⟩:∃ RW,RW=x.row.filter fun q=>!pT x.kept t q:=⟨_,rfl⟩
 rw [← hRW] at HDE ⊢
 obtain ⟨n,hn⟩:∃ n,n=x.row.length:=⟨_,rfl⟩
 rw [← hn] at i1 HCN
 clear hB0 hRW hn
 unfold ptr at b0 HDE hW ⊢
 go_enter Tryz.func139,Tryz.ntmps139
 go_upto_region 1 with (fail)
 rw [← hW]
 clear hW
 go_wp2_with (first
  | (go_at_call 41;refine HCN.out.mono ?_;rintro e w1 ⟨v1,rfl,hO1,hb1⟩;have HO1:=Hid.m hO1;have HB1:=Hid.m hb1;clear hO1 hb1)
  | (go_at_call 188;refine (HDE.out w1 v1 HO1.out HB1.out).mono ?_;rintro e w2 ⟨v2,rfl,hO2,hb2⟩;have HO2:=Hid.m hO2;have HB2:=Hid.m hb2;clear hO2 hb2))
 go_ret
 exact ⟨v2,rfl,HO2.out,HB2.out⟩
end Go.Proofs.YtcdpiefflnaghaaGreatDoor.En
namespace Go.Proofs.YtcdpiefflnaghaaGreatDoor.En
open Go.Proofs.YtcdpiefflnaghaaGreatDoor.It
open Go.Proofs.YtcdpiefflnaghaaGreatDoor.Lr
open Go.Proofs.YtcdpiefflnaghaaGreatDoor.Qt
open Go.Proofs.YtcdpiefflnaghaaGreatDoor.Sb
open Go.RowKit Go.Proofs.YtcdpiefflnaghaaGreatDoor
theorem leaves_snoc (n:Int × ByteArray):∀ (l:List (Int × ByteArray)) (s:Sh),s.leaves (l++[n])=(s.leaves l).elder n.1 n.2
 | [],s=>rfl
 | a::l,s=>leaves_snoc n l (s.elder a.1 a.2)
theorem leaves_at {s:Sh}(I:Inv s){H:List Hd}(hs:∀ h∈H,h∈s.held)(hd:(H.map Hd.name).Nodup){j:Nat}(hj:j<H.length):∃ i,∃ hi:i<(s.leaves ((H.take j).map Hd.name)).held.length,(s.leaves ((H.take j).map Hd.name)).held[i]=H[j]∧(s.leaves ((H.take j).map Hd.name)).at H[j].tenant H[j].item.key=some i∧s.leaves ((H.take (j+1)).map Hd.name)=(s.leaves ((H.take j).map Hd.name)).leave i:=by
 obtain ⟨K,hh,_⟩:=leaves_spec ((H.take j).map Hd.name) I
 have hnot:H[j].name∉(H.take j).map Hd.name:=by
  intro hm
  obtain ⟨h',hm',e⟩:=List.mem_map.1 hm
  rw [List.mem_take_iff_getElem] at hm'
  obtain ⟨k,hk,rfl⟩:=hm'
  have hkl:k<H.length:=by omega
  have e2:(H.map Hd.name)[k]'(by simpa using hkl)=(H.map Hd.name)[j]'(by simpa using hj):=by simpa using e
  have:=(List.getElem_inj hd).1 e2
  omega
 have hmem:H[j]∈(s.leaves ((H.take j).map Hd.name)).held:=by
  rw [hh]
  exact List.mem_filter.2 ⟨hs _ (List.getElem_mem hj),by simpa using hnot⟩
 obtain ⟨i,hat⟩:=at_mem (s:=s.leaves ((H.take j).map Hd.name)) (t:=H[j].tenant) (k:=H[j].item.key) (List.mem_map.2 ⟨_,hmem,rfl⟩)
 obtain ⟨hi,hnm⟩:=at_some hat
 refine ⟨i,hi,K.inv.one (List.getElem_mem hi) hmem hnm,hat,?_⟩
 rw [List.take_add_one,List.getElem?_eq_getElem hj,List.map_append]
 show s.leaves ((H.take j).map Hd.name++[H[j].name])=_
 rw [leaves_snoc]
 show Sh.elder _ H[j].tenant H[j].item.key=_
 unfold Sh.elder
 rw [hat]
theorem places_of {s:Sh}{x:Ra}(RB:RepB x s)(t:Int):(x.row.filter fun q=>!pT x.kept t q)=(s.held.filter fun h=>decide (h.tenant=t)).map fun h=>(h.pl:Int):=by
 rw [RB.row,List.filter_map]
 congr 1
 apply List.filter_congr
 intro h hm
 show (!pT x.kept t (h.pl:Int))=_
 unfold pT
 rw [Int.toNat_natCast,RB.kept h hm]
 simp
theorem rows_in {s:Sh}{x:Ra}(I:Inv s)(RB:RepB x s):∀ q∈x.row,0≤q∧q<x.kept.length:=by
 intro q hq
 rw [RB.row] at hq
 obtain ⟨h,hm,rfl⟩:=List.mem_map.1 hq
 have:=I.pl_lt hm
 have:=RB.kl
 omega
set_option maxHeartbeats 4000000 in
theorem flush_m {N:Nat}{A:Ad}{s:Sh}{x:Ra}{F:Cp→Nat→Prop}{w:World}(I:Inv s)(hE:Eg N w A x F)(RA:RepA x s)(RB:RepB x s)(t:Int):
  Calls Tryz.prog 86 #[ptr A.b,.int .i64 t] w fun e w'=>∃ lo lc,e=.returned (.tuple #[.agg #[.int .u8 1,.slice none 0 0,.int .u64 0],.slice lo 1 lc])∧Cgs N A (s.flushed t) F w w' lo [.clear t] lc:=by
 obtain ⟨W,hW⟩:∃ W,W=w.alloc (.cells #[.int .u8 0,.slice none 0 0,.int .u64 0] 30):=⟨_,rfl⟩
 have hBW:Below w.heap.size w W:=by rw [hW];exact g_alloc _ _
 have hWs:W.heap.size=w.heap.size+1:=by rw [hW];simp
 have hBR:GBx W w.heap.size [.int .u8 0,.slice none 0 0,.int .u64 0]:=by rw [hW];exact GBx.made w _ _
 obtain ⟨R,hRe⟩:∃ R,R=w.heap.size:=⟨_,rfl⟩
 have HBR:Hid (GBx W R [.int .u8 0,.slice none 0 0,.int .u64 0]∧¬ Un F R):=⟨by rw [hRe];exact hBR,by rw [hRe];exact fun hu=>by have:=hE.un _ hu;omega⟩
 obtain ⟨H,hH⟩:∃ H,H=s.held.filter fun h=>decide (h.tenant=t):=⟨_,rfl⟩
 have hlen:=RB.lens I
 have hHl:H.length≤256:=by
  rw [hH]
  have h1:=List.length_filter_le (fun h:Hd=>decide (h.tenant=t)) s.held
  have h2:x.row.length=s.held.length:=by rw [RB.row,List.length_map]
  omega
 have hHs:∀ h∈H,h∈s.held:=fun h hm=>by rw [hH] at hm;exact (List.mem_filter.1 hm).1
 have hHd:(H.map Hd.name).Nodup:=by rw [hH];exact List.Nodup.sublist (List.Sublist.map _ List.filter_sublist) I.names
 obtain ⟨st,hst⟩:∃ st:Nat→Sh,st=fun j=>s.leaves ((H.take j).map Hd.name):=⟨_,rfl⟩
 have HI:Hid (∀ j,Inv (st j)):=fun j=>by rw [hst];exact (leaves_spec _ I).1.inv
 have HST:Hid (∀ j (hj:j<H.length),∃ i,∃ hi:i<(st j).held.length,(st j).held[i]=H[j]∧st (j+1)=(st j).leave i):=fun j hj=>by
  obtain ⟨i,hi,h1,_,h2⟩:=leaves_at I hHs hHd hj
  rw [hst]
  exact ⟨i,hi,h1,h2⟩
 have hfl:s.flushed t=st H.length:=by rw [hst,hH];unfold Sh.flushed;simp
 rw [hfl]
 have HM0:Hid (Mv N A (st 0) F w W F):=by rw [hst];exact ⟨x,hE.lv hBW,RA,RB⟩
 obtain ⟨V,hEv⟩:=hE.below hBW
 have c25:=hEv.c25
 have bl:=hEv.lt
 have HOT:Hid (Calls Tryz.prog 139 #[ptr A.pi,.int .i64 t] W fun e w'=>∃ po pc,e=.returned (.slice po H.length pc)∧GRd EI w' po (H.map fun h=>(h.pl:Int)) pc∧(∀ a,po=some a→¬ Un F a.block∧a.block<w'.heap.size)∧Below W.heap.size W w'):=by
  refine (ofTenant_any hEv (rows_in I RB) (by omega) t).mono ?_
  rintro e w' ⟨v,rfl,hO,hb⟩
  rw [places_of RB t,← hH] at hO
  obtain ⟨po,pc,hv,hr⟩:=hO.rd Go.Proofs.YtcdpiefflnaghaaGreatDoor.okI
  rw [List.length_map] at hv
  subst hv
  refine ⟨po,pc,rfl,hr,fun a ha=>?_,hb⟩
  subst ha
  have h1:=hO.lt a.block rfl
  exact ⟨fun hu=>by have:=hE.un _ hu;omega,h1.2⟩
 have HRW:Hid (w.heap.size≤R∧R<W.heap.size):=⟨Nat.le_of_eq hRe.symm,by omega⟩
 clear hE hEv RA RB hBR hBW hWs hH hHs hHd hst hfl I hlen
 obtain ⟨n,hn⟩:∃ n,n=H.length:=⟨_,rfl⟩
 have HN:=Hid.m hn
 rw [← hn] at HOT hHl ⊢
 clear hn
 unfold ptr at c25 HOT ⊢
 go_enter Tryz.func86,Tryz.ntmps86
 go_upto_region 1 with (fail)
 rw [← hW,← hRe]
 clear hW hRe
 go_wp2_with (go_at_call 139;refine HOT.out.mono ?_;rintro e w1 ⟨po,pc,rfl,hr1,ha1,hb1⟩;have HR1:=Hid.m hr1;have HA1:=Hid.m ha1;have HM1:=Hid.m (HM0.out.below hb1);have HX1:=Hid.m ((⟨HBR.out.1.below hb1,HBR.out.2⟩:GBx w1 R [.int .u8 0,.slice none 0 0,.int .u64 0]∧¬ Un F R));have HZ1:=Hid.m (Nat.lt_of_lt_of_le HRW.out.2 hb1.size);clear hr1 ha1 hb1)
 clear c25 bl
 go_loopw [15] (fun i wr=>∃ (j:Nat) (Fj:Cp→Nat→Prop),j≤n∧i=.int .i64 j∧Hid (Mv N A (st j) F w wr Fj)∧Hid (GRd EI wr po (H.map fun h=>(h.pl:Int)) pc)∧Hid (∀ a,po=some a→¬ Un Fj a.block∧a.block<wr.heap.size)∧Hid (GBx wr R [.int .u8 0,.slice none 0 0,.int .u64 0]∧¬ Un Fj R)) (fun i _=>n - (intOf i).toNat)
 case atStart=>exact ⟨0,F,Nat.zero_le _,rfl,HM1,HR1,HA1,HX1⟩
 case round=>
  obtain ⟨j,Fj,hj,rfl,HMj,HRj,HAj,HXj⟩:=hrel
  by_cases hjn:j<n
  ·have hjn2:(j:Int)<(n:Int):=by omega
   have hjv:j<H.length:=by have:=HN.out;omega
   obtain ⟨vb,vf,hvo,hvb,v0⟩:=HRj.out.nt (i:=j) (by simpa using hjv)
   simp only [List.getElem_map] at v0
   obtain ⟨i,hi,h1,h2⟩:=HST.out j hjv
   have HLV:=Hid.m (leave_mm (HI.out j) HMj.out hi)
   rw [h1] at HLV
   rw [← h2] at HLV
   obtain ⟨h,hh⟩:∃ h,h=H[j]:=⟨_,rfl⟩
   rw [← hh] at v0 HLV
   subst hvo
   clear h1 h2 hh hi
   unfold ptr at HLV
   go_wp2_with (go_at_call 51;refine HLV.out.mono ?_;rintro e w2 ⟨rfl,F2,hm2⟩;have HM2:=Hid.m (HMj.out.trans hm2);have HR2:=Hid.m (hm2.rd HRj.out HAj.out);have HX2:=Hid.m (hm2.box HXj.out.1 HXj.out.2);clear hm2)
   go_roundw
   case rel=>exact ⟨j+1,F2,by omega,by go_num,HM2,HR2.out.1,HR2.out.2,HX2⟩
   case measure=>simp [intOf];omega
  ·have hjn3:¬ ((j:Int)<(n:Int)):=by omega
   have hjE:j=n:=by omega
   subst hjE
   obtain ⟨xj,hLj,rAj,rBj⟩:=HMj.out
   have hRl:R<wr.heap.size:=HXj.out.1.lt
   have hN6:GRd EC (wr.alloc (.cells (EC.cells (.clear t)).toArray EC.e)) (some ⟨wr.heap.size,0,none⟩) [.clear t] 1:=g_new okC wr (.clear t)
   obtain ⟨w4,hw4⟩:∃ w4,w4=wr.alloc (.cells (EC.cells (.clear t)).toArray EC.e):=⟨_,rfl⟩
   rw [← hw4] at hN6
   have hb4:Below wr.heap.size wr w4:=by rw [hw4];exact g_alloc _ _
   have hs4:w4.heap.size=wr.heap.size+1:=by rw [hw4];simp
   have hcg:=cgs_write (n:=wr.heap.size) (hLj.below hb4) rAj rBj hN6 (fun a ha=>by cases ha;exact ⟨fun hu=>by have:=hLj.eg.un _ hu;have h9:wr.heap.size<wr.heap.size:=this;omega,Nat.le_refl _,by show wr.heap.size<_;omega⟩) HXj.out.2 HRW.out.1 hRl 0 [.int .u8 1,.slice none 0 0,.int .u64 0]
   unfold sets sets sets sets at hcg
   have HCG:=Hid.m hcg
   have hbR:=HXj.out.1.below hb4
   have y0:=hbR.c 0 (by simp)
   have y1:=hbR.c 1 (by simp)
   have y2:=hbR.c 2 (by simp)
   have f0:=hbR.f 0
   have f1:=hbR.f 1
   have f2:=hbR.f 2
   have yl:=hbR.lt
   simp only [List.getElem_cons_zero,List.getElem_cons_succ] at y0 y1 y2
   have hX:=(((hbR.set 0 (.int .u8 1) (by simp)).set 1 (.slice none 0 0) (by simp)).set 2 (.int .u64 0) (by simp))
   have ZZ0:=Hid.m (hX.c 0 (by simp))
   have ZZ1:=Hid.m (hX.c 1 (by simp))
   have ZZ2:=Hid.m (hX.c 2 (by simp))
   simp only [List.getElem_cons_zero,List.getElem_cons_succ,List.set_cons_zero,List.set_cons_succ] at ZZ0 ZZ1 ZZ2
   rw [hw4] at y0 y1 y2 f0 f1 f2 yl
   simp only [EC,Ch.cl,Ch.kd,Ch.tn,Ch.im,Ch.key,Ch.why,Ch.to,Im.none] at y0 y1 y2 f0 f1 f2 yl hw4
   clear hX hcg hbR hb4 hs4 hN6 hLj rAj rBj hRl
   go_wp2
   try simp only [Exit.inBlock,Exit.then]
   rw [hw4] at ZZ0 ZZ1 ZZ2 HCG
   refine bodyPost_ret (v:=.tuple #[.agg #[.int .u8 1,.slice none 0 0,.int .u64 0],.slice (some ⟨wr.heap.size,0,none⟩) 1 1]) (by simp [results,Tryz.results86,go_sem,ZZ0.out,ZZ1.out,ZZ2.out]) rfl ⟨some ⟨wr.heap.size,0,none⟩,1,rfl,HCG.out⟩
end Go.Proofs.YtcdpiefflnaghaaGreatDoor.En
