/-
  Package engine and what stands beneath it, part 05: contracts of functions, and what they rest on.
-/
import Derived.Lib.Bytealg
import Derived.Test.YtcdpiefflnaghaaGreatDoorU00
set_option linter.unusedSimpArgs false
set_option linter.unusedVariables false
set_option maxRecDepth 100000
namespace Go.Proofs.YtcdpiefflnaghaaGreatDoor.En
open Go.Proofs.YtcdpiefflnaghaaGreatDoor.Lr
open Go.Proofs.YtcdpiefflnaghaaGreatDoor.Qt
open Go.Proofs.YtcdpiefflnaghaaGreatDoor.Sb
open Go.Proofs.YtcdpiefflnaghaaGreatDoor
def Im.num (x:Im)(u:Int):Im:={ x with unique:=u }
def nx (l:Int):Int:=(l+1) % 18446744073709551616
def Sh.elder (s:Sh)(t:Int)(k:ByteArray):Sh:=match s.at t k with
 | some i=>s.leave i
 | none=>s
def Sh.putN (s:Sh)(t:Int)(x:Im)(z:Nat × Nat):Sh:=s.putAt t (x.num (nx s.last)) z.1 z.2 (nx s.last)
def Sh.spot (s:Sh)(t:Int)(x:Im):Option (Nat × Nat):=place s.pages t (cls x) (qAt s.quotas t)
def Sh.put (s:Sh)(t:Int)(x:Im):Sh × Int × List Ch:=
 if okI x=true∧szI x≤256 then
  match (s.elder t x.key).spot t x with
  | some z=>((s.elder t x.key).putN t x z,1,[.put t (x.num (nx s.last))])
  | none=>match ((s.elder t x.key).ord t (cls x)).line.getLast? with
   | none=>(s,5,[])
   | some v=>match (s.elder t x.key).at t v with
    | none=>(s,5,[])
    | some j=>match ((s.elder t x.key).leave j).spot t x with
     | none=>(s,5,[])
     | some z=>(((s.elder t x.key).leave j).putN t x z,1,[.drop t v 2,.put t (x.num (nx s.last))])
 else (s,4,[])
def Ch.ten (c:Ch):Option Int:=match c with
 | .put t _=>some t
 | .drop t _ _=>some t
 | .clear t=>some t
 | .quota t _=>some t
 | .clock _=>none
def Ch.evicts (c:Ch):Bool:=match c with
 | .drop _ _ w=>decide (w=2)
 | _=>false
structure Kin (s s':Sh):Prop where
 inv:Inv s'
 quo:s'.quotas=s.quotas
 now:s'.now=s.now
 len:s'.pages.length=s.pages.length
theorem Kin.refl {s:Sh}(I:Inv s):Kin s s:=⟨I,rfl,rfl,rfl⟩
theorem Kin.trans {a b c:Sh}(h:Kin a b)(g:Kin b c):Kin a c:=⟨g.inv,g.quo.trans h.quo,g.now.trans h.now,g.len.trans h.len⟩
theorem Kin.leave {s:Sh}(I:Inv s){i:Nat}(hi:i<s.held.length):Kin s (s.leave i):=by
 rw [leave_eq hi]
 refine ⟨I.leave hi,rfl,rfl,?_⟩
 obtain ⟨hp,_,_,hb⟩:=I.page _ (List.getElem_mem hi)
 show (freeR s.pages _ _).length=_
 rw [(free_eq I.slab hp hb).2]
 simp
theorem elder_spec {s:Sh}(I:Inv s)(t:Int)(k:ByteArray):Kin s (s.elder t k)∧(s.elder t k).kept=(s.kept.filter fun z=>decide (nm z≠(t,k)))∧(s.elder t k).last=s.last∧(t,k)∉(s.elder t k).held.map Hd.name
  ∧ (∀ h∈(s.elder t k).held,h∈s.held)∧(∀ h∈s.held,h∉(s.elder t k).held→h.name=(t,k)∧∃ z,place (s.elder t k).pages t (cls h.item) (qAt s.quotas t)=some z):=by
 unfold Sh.elder
 cases e:s.at t k with
 | none=>
  have hn:=at_none e
  refine ⟨Kin.refl I,?_,rfl,hn,fun h hh=>hh,fun h hh hn=>absurd hh hn⟩
  symm
  rw [List.filter_eq_self]
  intro z hz
  simp
  intro e2
  rw [← kept_names] at hn
  exact hn (by rw [← e2];exact List.mem_map.2 ⟨z,hz,rfl⟩)
 | some i=>
  obtain ⟨hi,hnm⟩:=at_some e
  have hk:=I.kept_leave hi
  rw [hnm] at hk
  simp only
  have hme:∀ {x:Hd},x∈(s.leave i).held↔x∈s.held∧x≠s.held[i]:=by
   intro x
   rw [leave_eq hi]
   exact mem_eraseIdx_iff (held_nodup I.names) hi
  refine ⟨Kin.leave I hi,by rw [leave_eq hi];exact hk,by rw [leave_eq hi];rfl,?_,fun h hh=>(hme.1 hh).1,?_⟩
  ·rw [← kept_names,leave_eq hi,hk]
   intro hm
   obtain ⟨z,hz,e2⟩:=List.mem_map.1 hm
   have:=(List.mem_filter.1 hz).2
   simp [e2] at this
  ·intro h hh hn
   have:h=s.held[i]:=by
    refine Classical.byContradiction fun hne=>hn (hme.2 ⟨hh,hne⟩)
   subst this
   have h1:=I.place_behind hi
   have ht:s.held[i].tenant=t:=congrArg Prod.fst hnm
   rw [ht] at h1
   refine ⟨hnm,?_⟩
   rw [leave_eq hi]
   exact h1
theorem nm_dec (t:Int)(k:ByteArray)(z:Int × Im):decide (nm z≠(t,k))=!decide (z.1=t∧z.2.key=k):=by
 unfold nm
 rw [Bool.eq_iff_iff]
 simp [Prod.ext_iff]
theorem after_put {p:Pl}(hd:∀ z∈p.kept,dueI z.2 p.now=false)(t:Int)(x:Im):after p (.put t x)=⟨p.now,(p.kept.filter fun z=>decide (nm z≠(t,x.key)))++[(t,x)]⟩:=by
 obtain ⟨h1,h2⟩:=after_plain (c:=.put t x) hd rfl
 have h3:(after p (.put t x))=⟨(after p (.put t x)).now,(after p (.put t x)).kept⟩:=rfl
 rw [h3,h1,h2]
 congr 1
 congr 1
 apply List.filter_congr
 intro z _
 rw [nm_dec]
 rfl
theorem after_drop {p:Pl}(hd:∀ z∈p.kept,dueI z.2 p.now=false)(t:Int)(k:ByteArray)(w:Int):after p (.drop t k w)=⟨p.now,p.kept.filter fun z=>decide (nm z≠(t,k))⟩:=by
 obtain ⟨h1,h2⟩:=after_plain (c:=.drop t k w) hd rfl
 have h3:(after p (.drop t k w))=⟨(after p (.drop t k w)).now,(after p (.drop t k w)).kept⟩:=rfl
 rw [h3,h1,h2]
 congr 1
 rw [show Ch.news (.drop t k w)=[] from rfl,List.append_nil]
 apply List.filter_congr
 intro z _
 rw [nm_dec]
 rfl
structure PutS (s:Sh)(t:Int)(x:Im)(r:Sh × Int × List Ch):Prop where
 kin:Kin s r.1
 tells:r.2.2.foldl after s.img=r.1.img
 ten:∀ c∈r.2.2,c.ten=some t
 apart:(r.1.kept.filter fun z=>decide (z.1≠t))=s.kept.filter fun z=>decide (z.1≠t)
 kind:r.2.1=1∨r.2.1=4∨r.2.1=5
 last:r.1.last=if r.2.1=1 then nx s.last else s.last
 large:r.2.1=4↔¬ (okI x=true∧szI x≤256)
 none_:r.2.1≠1→r.1=s∧r.2.2=[]
 memory:r.2.1=5→(owned s.pages t:Int)=qAt s.quotas t∧∀ h∈s.held,¬ (h.tenant=t∧cls h.item=cls x)
 plain:r.2.1=1→(∀ c∈r.2.2,c.evicts=false)→r.1.kept=(s.kept.filter fun z=>decide (nm z≠(t,x.key)))++[(t,x.num (nx s.last))]
theorem putN_kin {s:Sh}(I:Inv s){t:Int}{x:Im}{z:Nat × Nat}(ht:0≤t∧t<s.quotas.length)(hx:okI x=true∧szI x≤256)(hd:dueI x s.now=false)(hn:(t,x.key)∉s.held.map Hd.name)(hp:s.spot t x=some z):
  Kin s (s.putN t x z)∧(s.putN t x z).kept=s.kept++[(t,x.num (nx s.last))]∧(s.putN t x z).last=nx s.last:=by
 refine ⟨⟨I.put (nx s.last) ht hx hd hn hp,rfl,rfl,?_⟩,?_,rfl⟩
 ·show (s.pages.set _ _).length=_
  simp
 ·show (s.held++[_]).map _=_
  rw [List.map_append]
  rfl
theorem filter_ten_ne {l:List (Int × Im)}{t:Int}{k:ByteArray}:((l.filter fun z=>decide (nm z≠(t,k))).filter fun z=>decide (z.1≠t))=l.filter fun z=>decide (z.1≠t):=by
 rw [List.filter_filter]
 apply List.filter_congr
 intro z _
 by_cases e:z.1=t
 ·simp [e]
 ·simp [e,nm,Prod.ext_iff]
theorem Inv.putS {s:Sh}(I:Inv s){t:Int}{x:Im}(ht:0≤t∧t<s.quotas.length)(hd:dueI x s.now=false):PutS s t x (s.put t x):=by
 unfold Sh.put
 by_cases hx:okI x=true∧szI x≤256
 case neg=>
  rw [if_neg hx]
  exact ⟨Kin.refl I,rfl,by simp,rfl,.inr (.inl rfl),rfl,by simp [hx],fun _=>⟨rfl,rfl⟩,fun e=>absurd e (by simp),fun e=>absurd e (by simp)⟩
 rw [if_pos hx]
 obtain ⟨K1,hk1,hl1,hn1,hin1,hout1⟩:=elder_spec I t x.key
 obtain ⟨s1,hs1⟩:∃ s1,s1=s.elder t x.key:=⟨_,rfl⟩
 rw [← hs1] at K1 hk1 hl1 hn1 hin1 hout1 ⊢
 have I1:=K1.inv
 have ht1:0≤t∧t<s1.quotas.length:=by rw [K1.quo];exact ht
 have hd1:dueI x s1.now=false:=by rw [K1.now];exact hd
 have hdk:=I.kept_due
 cases e1:s1.spot t x with
 | some z=>
  simp only
  obtain ⟨K2,hk2,hl2⟩:=putN_kin I1 ht1 hx hd1 hn1 e1
  refine ⟨K1.trans K2,?_,?_,?_,.inl rfl,?_,by simp [hx],fun e=>absurd rfl e,fun e=>absurd e (by simp),?_⟩
  ·show after s.img _=_
   rw [after_put hdk]
   show Pl.mk s.now _=Pl.mk _ _
   rw [(K1.trans K2).now,hk2,hk1,hl1]
   rfl
  ·intro c hc
   simp at hc
   subst hc
   rfl
  ·rw [hk2,hk1,List.filter_append,filter_ten_ne]
   simp
  ·show (s1.putN t x z).last=_
   rw [hl2,hl1,if_pos rfl]
  ·intro _ _
   rw [hk2,hk1,hl1]
 | none=>
  simp only
  cases e2:(s1.ord t (cls x)).line.getLast? with
  | none=>
   simp only
   have hlem:(s1.ord t (cls x)).line=[]:=by simpa using e2
   have hno:∀ h∈s.held,¬ (h.tenant=t∧cls h.item=cls x):=by
    rintro h hh ⟨h1,h2⟩
    by_cases hm:h∈s1.held
    ·have:h.item.key∈(s1.ord t (cls x)).line:=(I1.keys _ _ _).2 ⟨h,hm,h1,h2,rfl⟩
     rw [hlem] at this
     simp at this
    ·obtain ⟨_,z,hz⟩:=hout1 h hh hm
     unfold Sh.spot at e1
     rw [K1.quo,← h2,hz] at e1
     cases e1
   have hfull:=I1.full ht1 e1
   refine ⟨Kin.refl I,rfl,by simp,rfl,.inr (.inr rfl),rfl,by simp [hx],fun _=>⟨rfl,rfl⟩,fun _=>⟨?_,hno⟩,fun e=>absurd e (by simp)⟩
   have h1:=I.own t
   have h2:=hfull.1
   rw [K1.quo] at h2
   have h3:owned s1.pages t≤owned s.pages t:=by
    rw [hs1]
    unfold Sh.elder
    cases e:s.at t x.key with
    | none=>exact Nat.le_refl _
    | some i=>
     obtain ⟨hi,_⟩:=at_some e
     simp only
     rw [leave_eq hi]
     obtain ⟨hp,_,_,hb⟩:=I.page _ (List.getElem_mem hi)
     show owned (freeR s.pages _ _) t≤_
     rw [(free_eq I.slab hp hb).2]
     exact owned_given hp t
   omega
  | some v=>
   have hv:v∈(s1.ord t (cls x)).line:=List.mem_of_getLast? e2
   obtain ⟨h,hh,q1,q2,q3⟩:=(I1.keys _ _ _).1 hv
   have hnm:(t,v)∈s1.held.map Hd.name:=List.mem_map.2 ⟨h,hh,by unfold Hd.name;rw [q1,q3]⟩
   obtain ⟨j,hj⟩:=at_mem hnm
   simp only [hj]
   obtain ⟨hjl,hjn⟩:=at_some hj
   have hjh:s1.held[j]=h:=I1.one (List.getElem_mem hjl) hh (by rw [hjn];unfold Hd.name;rw [q1,q3])
   have K2:=Kin.leave I1 hjl
   obtain ⟨z,hz⟩:=I1.place_behind hjl
   rw [hjh,q1,q2,← hjh,← leave_eq hjl] at hz
   have hsp:(s1.leave j).spot t x=some z:=by unfold Sh.spot;rw [K2.quo];exact hz
   simp only [hsp]
   have hk2:(s1.leave j).kept=s1.kept.filter fun z=>decide (nm z≠(t,v)):=by
    rw [leave_eq hjl,I1.kept_leave hjl,hjn]
   have hn2:(t,x.key)∉(s1.leave j).held.map Hd.name:=by
    rw [← kept_names,hk2]
    intro hm
    obtain ⟨y,hy,e⟩:=List.mem_map.1 hm
    rw [← kept_names] at hn1
    exact hn1 (List.mem_map.2 ⟨y,(List.mem_filter.1 hy).1,e⟩)
   have ht2:0≤t∧t<(s1.leave j).quotas.length:=by rw [K2.quo];exact ht1
   have hd2:dueI x (s1.leave j).now=false:=by rw [K2.now];exact hd1
   obtain ⟨K3,hk3,hl3⟩:=putN_kin K2.inv ht2 hx hd2 hn2 hsp
   have hl2:(s1.leave j).last=s.last:=by rw [leave_eq hjl];exact hl1
   refine ⟨(K1.trans K2).trans K3,?_,?_,?_,.inl rfl,?_,by simp [hx],fun e=>absurd rfl e,fun e=>absurd e (by simp),?_⟩
   ·show after (after s.img _) _=_
    rw [after_drop hdk,after_put (fun y hy=>hdk y (List.mem_filter.1 hy).1)]
    show Pl.mk s.now _=Pl.mk _ _
    rw [((K1.trans K2).trans K3).now,hk3,hk2,hk1,hl2]
    congr 2
    show (s.kept.filter _).filter _=(s.kept.filter _).filter _
    rw [List.filter_filter,List.filter_filter]
    apply List.filter_congr
    intro y _
    exact Bool.and_comm _ _
   ·intro c hc
    simp at hc
    rcases hc with rfl | rfl <;> rfl
   ·rw [hk3,hk2,hk1,List.filter_append,filter_ten_ne,filter_ten_ne]
    simp
   ·show Sh.last _=_
    rw [hl3,hl2,if_pos rfl]
   ·intro _ hev
    have:=hev (.drop t v 2) (by simp)
    simp [Ch.evicts] at this
end Go.Proofs.YtcdpiefflnaghaaGreatDoor.En
namespace Go.Proofs.YtcdpiefflnaghaaGreatDoor.En
open Go.Proofs.YtcdpiefflnaghaaGreatDoor.Lr
open Go.Proofs.YtcdpiefflnaghaaGreatDoor.Qt
open Go.Proofs.YtcdpiefflnaghaaGreatDoor.Sb
open Go.Proofs.YtcdpiefflnaghaaGreatDoor
theorem elder_held {s:Sh}(I:Inv s)(t:Int)(k:ByteArray):(s.elder t k).held=s.held.filter fun h=>decide (h.name≠(t,k)):=by
 unfold Sh.elder
 cases e:s.at t k with
 | none=>
  have hn:=at_none e
  symm
  show s.held.filter _=s.held
  rw [List.filter_eq_self]
  intro h hh
  simp
  intro e2
  exact hn (List.mem_map.2 ⟨h,hh,e2⟩)
 | some i=>
  obtain ⟨hi,hnm⟩:=at_some e
  simp only
  rw [leave_eq hi]
  show s.held.eraseIdx i=_
  rw [erase_filter Hd.name s.held i hi I.names,hnm]
def Sh.leaves (s:Sh):List (Int × ByteArray)→Sh
 | []=>s
 | n::l=>(s.elder n.1 n.2).leaves l
theorem leaves_spec:∀ (l:List (Int × ByteArray)) {s:Sh},Inv s→Kin s (s.leaves l)∧(s.leaves l).held=s.held.filter (fun h=>decide (h.name∉l))∧(s.leaves l).last=s.last
 | [],s,I=>⟨Kin.refl I,by simp only [Sh.leaves];symm;rw [List.filter_eq_self];intro h _;simp,rfl⟩
 | n::l,s,I=>by
  obtain ⟨K1,_,h3,_⟩:=elder_spec I n.1 n.2
  have h2:=elder_held I n.1 n.2
  obtain ⟨K2,g2,g3⟩:=leaves_spec l K1.inv
  refine ⟨K1.trans K2,?_,g3.trans h3⟩
  show ((s.elder n.1 n.2).leaves l).held=_
  rw [g2,h2,List.filter_filter]
  apply List.filter_congr
  intro h _
  rw [Bool.eq_iff_iff]
  simp only [Bool.and_eq_true,decide_eq_true_eq,List.mem_cons,not_or]
  exact ⟨fun ⟨a,b⟩=>⟨b,a⟩,fun ⟨a,b⟩=>⟨b,a⟩⟩
theorem leaves_filter {s:Sh}(I:Inv s)(p:Hd→Bool){l:List (Int × ByteArray)}(hl:l.Perm ((s.held.filter p).map Hd.name)):(s.leaves l).held=s.held.filter fun h=>!p h:=by
 rw [(leaves_spec l I).2.1]
 apply List.filter_congr
 intro h hh
 rw [Bool.eq_iff_iff]
 simp only [decide_eq_true_eq,Bool.not_eq_true']
 rw [hl.mem_iff]
 constructor
 ·intro hn
  cases e:p h
  ·rfl
  ·exact absurd (List.mem_map.2 ⟨h,List.mem_filter.2 ⟨hh,e⟩,rfl⟩) hn
 ·intro e hm
  obtain ⟨x,hx,e2⟩:=List.mem_map.1 hm
  obtain ⟨h1,h2⟩:=List.mem_filter.1 hx
  rw [I.one h1 hh e2] at h2
  rw [h2] at e
  cases e
def tlt (a b:(Int × ByteArray) × Int):Prop:=a.2<b.2∨(a.2=b.2∧(a.1.1<b.1.1∨(a.1.1=b.1.1∧Go.Lib.compareBytes a.1.2.data.toList b.1.2.data.toList<0)))
def Hd.due (h:Hd):(Int × ByteArray) × Int:=(h.name,h.item.till)
open Classical in
noncomputable def inOrder (D:List ((Int × ByteArray) × Int)):List ((Int × ByteArray) × Int):=if h:∃ S:List ((Int × ByteArray) × Int),S.Perm D∧S.Pairwise tlt then Classical.choose h else D
theorem inOrder_perm (D:List ((Int × ByteArray) × Int)):(inOrder D).Perm D:=by
 unfold inOrder
 split
 ·rename_i h
  exact (Classical.choose_spec h).1
 ·exact List.Perm.refl _
theorem inOrder_rise {D S:List ((Int × ByteArray) × Int)}(h:S.Perm D)(hp:S.Pairwise tlt):(inOrder D).Pairwise tlt:=by
 unfold inOrder
 have hx:∃ S:List ((Int × ByteArray) × Int),S.Perm D∧S.Pairwise tlt:=⟨S,h,hp⟩
 rw [dif_pos hx]
 exact (Classical.choose_spec hx).2
noncomputable def Sh.dues (s:Sh)(m:Int):List (Int × ByteArray):=(inOrder ((s.held.filter fun h=>dueI h.item m).map Hd.due)).map Prod.fst
theorem dues_perm (s:Sh)(m:Int):(s.dues m).Perm ((s.held.filter fun h=>dueI h.item m).map Hd.name):=by
 unfold Sh.dues
 have h:=(inOrder_perm ((s.held.filter fun h=>dueI h.item m).map Hd.due)).map Prod.fst
 rw [List.map_map] at h
 exact h
def Sh.flushed (s:Sh)(t:Int):Sh:=s.leaves ((s.held.filter fun h=>decide (h.tenant=t)).map Hd.name)
theorem kept_filter {s s':Sh}(f:Int × Im→Bool)(h:s'.held=s.held.filter fun h=>f (h.tenant,h.item)):s'.kept=s.kept.filter f:=by
 unfold Sh.kept
 rw [h,List.filter_map]
 rfl
noncomputable def Sh.tick (s:Sh)(til:Int):Sh:={ s.leaves (s.dues til) with now:=til }
theorem Inv.tick {s:Sh}(I:Inv s){til:Int}(h:momI til=true):Inv (s.tick til)∧(s.tick til).quotas=s.quotas∧(s.tick til).now=til∧(s.tick til).pages.length=s.pages.length∧(s.tick til).last=s.last∧(s.tick til).img=after s.img (.clock til):=by
 obtain ⟨K,_,hl⟩:=leaves_spec (s.dues til) I
 have hh:=leaves_filter I (fun h=>dueI h.item til) (dues_perm s til)
 have J:=K.inv
 refine ⟨⟨J.quo,J.slab,h,J.names,J.ten,J.item,?_,J.oks,J.keys,J.spot,J.page,J.bits,J.own⟩,K.quo,rfl,K.len,hl,?_⟩
 ·intro x hx
  have hx':x∈(s.leaves (s.dues til)).held:=hx
  rw [hh] at hx'
  have:=(List.mem_filter.1 hx').2
  show dueI x.item til=false
  simpa using this
 ·show Pl.mk til (s.leaves (s.dues til)).kept=Pl.mk til (_++[])
  rw [List.append_nil]
  congr 1
  exact kept_filter _ hh
theorem Inv.flush {s:Sh}(I:Inv s)(t:Int):Kin s (s.flushed t)∧(s.flushed t).last=s.last∧(s.flushed t).img=after s.img (.clear t):=by
 obtain ⟨K,_,hl⟩:=leaves_spec ((s.held.filter fun h=>decide (h.tenant=t)).map Hd.name) I
 have hh:=leaves_filter I (fun h=>decide (h.tenant=t)) (List.Perm.refl _)
 refine ⟨K,hl,?_⟩
 obtain ⟨h1,h2⟩:=after_plain (p:=s.img) (c:=.clear t) I.kept_due rfl
 have h3:after s.img (.clear t)=⟨(after s.img (.clear t)).now,(after s.img (.clear t)).kept⟩:=rfl
 rw [h3,h1,h2]
 show Pl.mk (s.leaves ((s.held.filter fun h=>decide (h.tenant=t)).map Hd.name)).now (s.flushed t).kept=Pl.mk s.now _
 rw [K.now]
 congr 1
 rw [show Ch.news (.clear t)=[] from rfl,List.append_nil]
 exact kept_filter (fun z=>!Ch.hits (.clear t) z) hh
theorem Inv.dropAt {s:Sh}(I:Inv s){t:Int}{k:ByteArray}{i:Nat}(h:s.at t k=some i)(w:Int):Kin s (s.leave i)∧(s.leave i).last=s.last∧(s.leave i).img=after s.img (.drop t k w):=by
 obtain ⟨hi,hn⟩:=at_some h
 refine ⟨Kin.leave I hi,by rw [leave_eq hi];rfl,?_⟩
 rw [after_drop I.kept_due]
 show Pl.mk (s.leave i).now (s.leave i).kept=Pl.mk s.now _
 rw [(Kin.leave I hi).now,leave_eq hi,I.kept_leave hi,hn]
 rfl
theorem Kin.hit {s:Sh}(I:Inv s)(i:Nat):Kin s (s.hit i)∧(s.hit i).held=s.held∧(s.hit i).last=s.last:=by
 unfold Sh.hit
 cases e:s.held[i]? with
 | none=>exact ⟨Kin.refl I,rfl,rfl⟩
 | some h=>
  obtain ⟨hi,rfl⟩:=List.getElem?_eq_some_iff.1 e
  exact ⟨⟨I.hit (List.getElem_mem hi),rfl,rfl,rfl⟩,rfl,rfl⟩
def Sh.gets (s:Sh)(t:Int):List ByteArray→Sh × List Im
 | []=>(s,[])
 | k::ks=>match s.at t k with
  | some i=>match s.held[i]? with
   | some h=>(((s.hit i).gets t ks).1,h.item::((s.hit i).gets t ks).2)
   | none=>s.gets t ks
  | none=>s.gets t ks
def getsOf (l:List (Int × Im))(t:Int)(ks:List ByteArray):List Im:=ks.flatMap fun k=>(l.filter fun z=>decide (nm z=(t,k))).map Prod.snd
theorem filter_name_one {s:Sh}(I:Inv s){t:Int}{k:ByteArray}{i:Nat}(h:s.at t k=some i):∃ hi:i<s.held.length,(s.kept.filter fun z=>decide (nm z=(t,k)))=[(s.held[i].tenant,s.held[i].item)]:=by
 obtain ⟨hi,hn⟩:=at_some h
 refine ⟨hi,?_⟩
 have hnd:=I.names
 have key:∀ (l:List Hd) (i:Nat) (hi:i<l.length),(l.map Hd.name).Nodup→l[i].name=(t,k)→((l.map fun h=>(h.tenant,h.item)).filter fun z=>decide (nm z=(t,k)))=[(l[i].tenant,l[i].item)]:=by
  intro l
  induction l with
  | nil=>intro i hi;simp at hi
  | cons a l ih=>
   intro i hi hnd hn
   rw [List.map_cons,List.nodup_cons] at hnd
   cases i with
   | zero=>
    have ha:a.name=(t,k):=hn
    rw [List.map_cons,List.filter_cons,if_pos (by simpa [nm,Hd.name] using ha)]
    simp only [List.getElem_cons_zero]
    congr 1
    rw [List.filter_eq_nil_iff]
    intro z hz e
    obtain ⟨y,hy,rfl⟩:=List.mem_map.1 hz
    have:y.name=(t,k):=by simpa [nm,Hd.name] using e
    exact hnd.1 (by rw [ha,← this];exact List.mem_map.2 ⟨y,hy,rfl⟩)
   | succ j=>
    have hj:j<l.length:=by simpa using hi
    have hn':l[j].name=(t,k):=hn
    rw [List.map_cons,List.filter_cons,if_neg]
    ·exact ih j hj hnd.2 hn'
    ·intro e
     have:a.name=(t,k):=by simpa [nm,Hd.name] using e
     exact hnd.1 (by rw [this,← hn'];exact List.mem_map.2 ⟨l[j],List.getElem_mem hj,rfl⟩)
 exact key s.held i hi hnd hn
theorem filter_name_none {s:Sh}{t:Int}{k:ByteArray}(h:s.at t k=none):(s.kept.filter fun z=>decide (nm z=(t,k)))=[]:=by
 have hn:=at_none h
 rw [← kept_names] at hn
 rw [List.filter_eq_nil_iff]
 intro z hz e
 simp at e
 exact hn (by rw [← e];exact List.mem_map.2 ⟨z,hz,rfl⟩)
theorem Inv.gets (t:Int):∀ (ks:List ByteArray) {s:Sh},Inv s→Kin s (s.gets t ks).1∧(s.gets t ks).1.held=s.held∧(s.gets t ks).1.last=s.last∧(s.gets t ks).2=getsOf s.kept t ks
 | [],s,I=>⟨Kin.refl I,rfl,rfl,rfl⟩
 | k::ks,s,I=>by
  unfold Sh.gets
  cases e:s.at t k with
  | none=>
   simp only
   obtain ⟨h1,h2,h3,h4⟩:=Inv.gets t ks I
   refine ⟨h1,h2,h3,?_⟩
   rw [h4]
   unfold getsOf
   rw [List.flatMap_cons,filter_name_none e]
   rfl
  | some i=>
   obtain ⟨hi,hf⟩:=filter_name_one I e
   simp only [List.getElem?_eq_getElem hi]
   obtain ⟨K,hh,hl⟩:=Kin.hit I i
   obtain ⟨h1,h2,h3,h4⟩:=Inv.gets t ks K.inv
   refine ⟨K.trans h1,h2.trans hh,h3.trans hl,?_⟩
   rw [h4]
   have hk:(s.hit i).kept=s.kept:=by unfold Sh.kept;rw [hh]
   rw [hk]
   unfold getsOf
   rw [List.flatMap_cons,hf]
   rfl
def Sh.dels (s:Sh)(t:Int):List ByteArray→Sh × List Ch
 | []=>(s,[])
 | k::ks=>match s.at t k with
  | some i=>(((s.leave i).dels t ks).1,.drop t k 1::((s.leave i).dels t ks).2)
  | none=>s.dels t ks
theorem Inv.dels (t:Int):∀ (ks:List ByteArray) {s:Sh},Inv s→Kin s (s.dels t ks).1∧(s.dels t ks).1.last=s.last∧(s.dels t ks).2.foldl after s.img=(s.dels t ks).1.img∧∀ c∈(s.dels t ks).2,c.ten=some t∧c.evicts=false
 | [],s,I=>⟨Kin.refl I,rfl,rfl,fun _ h=>by simp [Sh.dels] at h⟩
 | k::ks,s,I=>by
  unfold Sh.dels
  cases e:s.at t k with
  | none=>exact Inv.dels t ks I
  | some i=>
   simp only
   obtain ⟨K,hl,hi⟩:=I.dropAt e 1
   obtain ⟨h1,h2,h3,h4⟩:=Inv.dels t ks K.inv
   refine ⟨K.trans h1,h2.trans hl,?_,?_⟩
   ·rw [List.foldl_cons,← hi]
    exact h3
   ·intro c hc
    rcases List.mem_cons.1 hc with rfl | hc
    ·exact ⟨rfl,rfl⟩
    ·exact h4 c hc
end Go.Proofs.YtcdpiefflnaghaaGreatDoor.En
namespace Go.Proofs.YtcdpiefflnaghaaGreatDoor.En
open Go.Proofs.YtcdpiefflnaghaaGreatDoor.Lr
open Go.Proofs.YtcdpiefflnaghaaGreatDoor.Qt
open Go.Proofs.YtcdpiefflnaghaaGreatDoor.Sb
open Go.Proofs.YtcdpiefflnaghaaGreatDoor
def Sh.evs (s:Sh)(t:Int)(P:Nat):List Nat→Sh × List Ch
 | []=>(s,[])
 | k::ks=>match s.held.findIdx? fun h=>decide (h.page=P∧h.chunk=k) with
  | some i=>match s.held[i]? with
   | some h=>(((s.leave i).evs t P ks).1,.drop t h.item.key 2::((s.leave i).evs t P ks).2)
   | none=>s.evs t P ks
  | none=>s.evs t P ks
theorem leave_mem {s:Sh}(I:Inv s){i:Nat}(hi:i<s.held.length){x:Hd}:x∈(s.leave i).held↔x∈s.held∧x≠s.held[i]:=by
 rw [leave_eq hi]
 exact mem_eraseIdx_iff (held_nodup I.names) hi
theorem evs_spec (t:Int)(P:Nat):∀ (ks:List Nat) {s:Sh},Inv s→(∀ h∈s.held,h.page=P→h.tenant=t)→
  Kin s (s.evs t P ks).1∧(s.evs t P ks).1.last=s.last∧(s.evs t P ks).2.foldl after s.img=(s.evs t P ks).1.img∧(∀ c∈(s.evs t P ks).2,c.ten=some t)∧∀ x,x∈(s.evs t P ks).1.held↔x∈s.held∧¬ (x.page=P∧x.chunk∈ks)
 | [],s,I,_=>⟨Kin.refl I,rfl,rfl,by simp [Sh.evs],by simp [Sh.evs]⟩
 | k::ks,s,I,hp=>by
  unfold Sh.evs
  cases e:s.held.findIdx? fun h=>decide (h.page=P∧h.chunk=k) with
  | none=>
   simp only
   obtain ⟨h1,h2,h3,h4,h5⟩:=evs_spec t P ks I hp
   refine ⟨h1,h2,h3,h4,fun x=>?_⟩
   rw [h5]
   rw [List.findIdx?_eq_none_iff] at e
   constructor
   ·rintro ⟨hx,hn⟩
    refine ⟨hx,fun ⟨e1,e2⟩=>?_⟩
    rcases List.mem_cons.1 e2 with e3 | e3
    ·have:=e x hx
     simp [e1,e3] at this
    ·exact hn ⟨e1,e3⟩
   ·rintro ⟨hx,hn⟩
    exact ⟨hx,fun ⟨e1,e2⟩=>hn ⟨e1,List.mem_cons_of_mem _ e2⟩⟩
  | some i=>
   rw [List.findIdx?_eq_some_iff_getElem] at e
   obtain ⟨hi,e1,_⟩:=e
   have e1':s.held[i].page=P∧s.held[i].chunk=k:=by simpa using e1
   simp only [List.getElem?_eq_getElem hi]
   have hm:=List.getElem_mem hi
   have hten:=hp _ hm e1'.1
   have K:=Kin.leave I hi
   have hmem:=fun x=>leave_mem I hi (x:=x)
   obtain ⟨h1,h2,h3,h4,h5⟩:=evs_spec t P ks K.inv (fun h hh e=>hp h ((hmem h).1 hh).1 e)
   have himg:(s.leave i).img=after s.img (.drop t s.held[i].item.key 2):=by
    rw [after_drop I.kept_due]
    show Pl.mk (s.leave i).now (s.leave i).kept=Pl.mk s.now _
    rw [K.now,leave_eq hi,I.kept_leave hi]
    have:s.held[i].name=(t,s.held[i].item.key):=by unfold Hd.name;rw [hten]
    rw [this]
    rfl
   refine ⟨K.trans h1,by rw [h2,leave_eq hi];rfl,?_,?_,fun x=>?_⟩
   ·rw [List.foldl_cons,← himg]
    exact h3
   ·intro c hc
    rcases List.mem_cons.1 hc with rfl | hc
    ·rfl
    ·exact h4 c hc
   ·rw [h5,hmem]
    constructor
    ·rintro ⟨⟨hx,hne⟩,hn⟩
     refine ⟨hx,fun ⟨q1,q2⟩=>?_⟩
     rcases List.mem_cons.1 q2 with q3 | q3
     ·refine hne ?_
      obtain ⟨a,ha,rfl⟩:=List.getElem_of_mem hx
      have hsp:=I.spot
      have e2:(s.held.map fun h=>(h.page,h.chunk))[a]'(by simpa using ha)=(s.held.map fun h=>(h.page,h.chunk))[i]'(by simpa using hi):=by simp [q1,q3,e1'.1,e1'.2]
      have:=(List.getElem_inj hsp).1 e2
      subst this
      rfl
     ·exact hn ⟨q1,q3⟩
    ·rintro ⟨hx,hn⟩
     refine ⟨⟨hx,fun e2=>hn ?_⟩,fun ⟨q1,q2⟩=>hn ⟨q1,List.mem_cons_of_mem _ q2⟩⟩
     rw [e2]
     exact ⟨e1'.1,by rw [e1'.2];simp⟩
theorem owned_take (t:Int){ps:List Pg}{k:Nat}(h:k<ps.length):owned (ps.take (k+1)) t=owned (ps.take k) t+(if isOf t ps[k]=true then 1 else 0):=by
 unfold owned
 rw [List.take_add_one,List.getElem?_eq_getElem h,List.countP_append]
 simp [List.countP_cons]
theorem fold_snd (t:Int):∀ (l:List Pg) (z:Int × Int),(l.foldl (fun (x:Int × Int) p=>(if isOf t p then x.2 else x.1,x.2+1)) z).2=z.2+l.length
 | [],z=>by simp
 | p::l,z=>by rw [List.foldl_cons,fold_snd t l];simp;omega
theorem lastI_take (t:Int){ps:List Pg}{k:Nat}(h:k<ps.length):lastI (ps.take (k+1)) t=if isOf t ps[k]=true then (k:Int) else lastI (ps.take k) t:=by
 unfold lastI
 rw [List.take_add_one,List.getElem?_eq_getElem h,List.foldl_append]
 simp only [Option.toList_some,List.foldl_cons,List.foldl_nil]
 rw [fold_snd]
 split
 ·simp;omega
 ·rfl
theorem last_some {ps:List Pg}{t:Int}(h:0<owned ps t):∃ P:Nat,lastI ps t=(P:Int)∧∃ hP:P<ps.length,isOf t ps[P]=true:=by
 have key:∀ k,k≤ps.length→(owned (ps.take k) t=0)∨∃ P:Nat,lastI (ps.take k) t=(P:Int)∧P<k∧∃ hP:P<ps.length,isOf t ps[P]=true:=by
  intro k
  induction k with
  | zero=>intro _;exact .inl (by simp [owned])
  | succ k ih=>
   intro hk
   have hlt:k<ps.length:=by omega
   rw [owned_take t hlt,lastI_take t hlt]
   cases e:isOf t ps[k]
   ·rcases ih (by omega) with h1 | ⟨P,h1,h2,h3,h4⟩
    ·exact .inl (by simp [h1])
    ·exact .inr ⟨P,by simp [h1],by omega,h3,h4⟩
   ·exact .inr ⟨k,by simp,by omega,hlt,e⟩
 rcases key ps.length (Nat.le_refl _) with h1 | ⟨P,h1,h2,h3,h4⟩
 ·rw [List.take_length] at h1;omega
 ·rw [List.take_length] at h1;exact ⟨P,h1,h3,h4⟩
theorem bit_of {u:Nat}(h:u≠0):∃ k,u.testBit k=true:=by
 refine Classical.byContradiction fun hn=>h ?_
 apply Nat.eq_of_testBit_eq
 intro i
 rw [Nat.zero_testBit]
 cases e:u.testBit i
 ·rfl
 ·exact absurd ⟨i,e⟩ hn
theorem own_sub {s s':Sh}(I:Inv s)(K:Kin s s')(hsub:∀ x∈s'.held,x∈s.held){t:Int}{j:Nat}(hj:j<s.pages.length)(hj':j<s'.pages.length)(h:isOf t s'.pages[j]=true):isOf t s.pages[j]=true:=by
 unfold isOf at h
 simp at h
 obtain ⟨k,hk⟩:=bit_of h.1
 obtain ⟨x,hx,h1,h2⟩:=K.inv.bits j hj' k hk
 obtain ⟨_,q1,_,_⟩:=K.inv.page x hx
 obtain ⟨_,r1,_,r3⟩:=I.page x (hsub x hx)
 subst h1
 unfold isOf
 have hu:s.pages[x.page].u≠0:=by intro e;rw [e] at r3;simp at r3
 simp [hu]
 rw [r1,← q1]
 exact h.2
theorem owned_less {s s':Sh}(I:Inv s)(K:Kin s s'){t:Int}{P:Nat}(hP:P<s.pages.length)(ho:isOf t s.pages[P]=true)(hsub:∀ x∈s'.held,x∈s.held)(hno:∀ x∈s'.held,x.page≠P):owned s'.pages t<owned s.pages t:=by
 have hle:∀ j (hj:j<s.pages.length) (hj':j<s'.pages.length),isOf t s'.pages[j]=true→isOf t s.pages[j]=true:=fun j hj hj' h=>own_sub I K hsub hj hj' h
 have hP':P<s'.pages.length:=by rw [K.len];exact hP
 have hz:s'.pages[P].u=0:=by
  refine Classical.byContradiction fun hne=>?_
  obtain ⟨k,hk⟩:∃ k,s'.pages[P].u.testBit k=true:=by
   refine Classical.byContradiction fun hn=>hne ?_
   apply Nat.eq_of_testBit_eq
   intro i
   rw [Nat.zero_testBit]
   cases e:s'.pages[P].u.testBit i
   ·rfl
   ·exact absurd ⟨i,e⟩ hn
  obtain ⟨x,hx,h1,_⟩:=K.inv.bits P hP' k hk
  exact hno x hx h1
 have key:∀ n,n≤s.pages.length→owned (s'.pages.take n) t+(if P<n then 1 else 0)≤owned (s.pages.take n) t:=by
  intro n
  induction n with
  | zero=>intro _;simp
  | succ n ih=>
   intro hn
   have hn1:n<s.pages.length:=by omega
   have hn2:n<s'.pages.length:=by rw [K.len];omega
   rw [owned_take t hn1,owned_take t hn2]
   have ih':=ih (by omega)
   by_cases e:n=P
   ·subst e
    have h1:isOf t s'.pages[n]=false:=by simp [isOf,hz]
    rw [h1,ho]
    simp at ih' ⊢
    exact ih'
   ·have h2:=hle n hn1 hn2
    have h3:(P<n+1)↔(P<n):=by omega
    simp only [h3]
    cases e1:isOf t s'.pages[n]
    ·simp
     omega
    ·rw [h2 e1]
     simp
     omega
 have:=key s.pages.length (Nat.le_refl _)
 rw [if_pos hP] at this
 rw [List.take_of_length_le (by rw [K.len];exact Nat.le_refl _),List.take_of_length_le (Nat.le_refl _)] at this
 omega
def Sh.evict (s:Sh)(t:Int)(p:Int):Nat→Sh × List Ch
 | 0=>(s,[])
 | n+1=>if (owned s.pages t:Int)≤p then (s,[]) else
  (((s.evs t (lastI s.pages t).toNat (List.range 16)).1.evict t p n).1,(s.evs t (lastI s.pages t).toNat (List.range 16)).2++((s.evs t (lastI s.pages t).toNat (List.range 16)).1.evict t p n).2)
theorem evict_spec (t:Int)(p:Int)(hp:0≤p):∀ (n:Nat) {s:Sh},Inv s→owned s.pages t≤n→
  Kin s (s.evict t p n).1∧(s.evict t p n).1.last=s.last∧(s.evict t p n).2.foldl after s.img=(s.evict t p n).1.img∧(∀ c∈(s.evict t p n).2,c.ten=some t)∧(owned (s.evict t p n).1.pages t:Int)≤p∧(∀ x∈(s.evict t p n).1.held,x∈s.held)
 | 0,s,I,hn=>⟨Kin.refl I,rfl,rfl,by simp [Sh.evict],by simp only [Sh.evict];omega,fun x hx=>hx⟩
 | n+1,s,I,hn=>by
  unfold Sh.evict
  by_cases h:(owned s.pages t:Int)≤p
  ·rw [if_pos h]
   exact ⟨Kin.refl I,rfl,rfl,by simp,h,fun x hx=>hx⟩
  ·rw [if_neg h]
   obtain ⟨P,hPe,hP,ho⟩:=last_some (ps:=s.pages) (t:=t) (by omega)
   have hto:(lastI s.pages t).toNat=P:=by rw [hPe];simp
   rw [hto]
   have hten:∀ h∈s.held,h.page=P→h.tenant=t:=by
    intro x hx e
    obtain ⟨_,q1,_,_⟩:=I.page x hx
    subst e
    rw [← q1]
    unfold isOf at ho
    simp at ho
    exact ho.2
   obtain ⟨K,h2,h3,h4,h5⟩:=evs_spec t P (List.range 16) I hten
   have hsub:∀ x∈(s.evs t P (List.range 16)).1.held,x∈s.held:=fun x hx=>((h5 x).1 hx).1
   have hno:∀ x∈(s.evs t P (List.range 16)).1.held,x.page≠P:=by
    intro x hx e
    refine ((h5 x).1 hx).2 ⟨e,?_⟩
    rw [List.mem_range]
    exact (I.spot_lt (hsub x hx)).2
   have hlt:=owned_less I K hP ho hsub hno
   obtain ⟨K2,g2,g3,g4,g5,g6⟩:=evict_spec t p hp n K.inv (by omega)
   refine ⟨K.trans K2,g2.trans h2,?_,?_,g5,fun x hx=>hsub x (g6 x hx)⟩
   ·rw [List.foldl_append,h3]
    exact g3
   ·intro c hc
    rcases List.mem_append.1 hc with hc | hc
    ·exact h4 c hc
    ·exact g4 c hc
theorem owned_no {ps:List Pg}(h:sOk ps=true){t:Int}(ht:isT t=false):owned ps t=0:=by
 unfold owned
 rw [List.countP_eq_zero]
 intro p hp
 obtain ⟨i,hi,rfl⟩:=List.mem_iff_getElem.1 hp
 have h1:=pOk_t (sOk_at h hi)
 simp [isOf]
 intro _ e
 rw [e,ht] at h1
 cases h1
def Sh.setQ (s:Sh)(t p:Int):Sh × List Ch:=({ (s.evict t p 16).1 with quotas:=s.quotas.set t.toNat p },(s.evict t p 16).2++[.quota t p])
theorem Inv.setQ {s:Sh}(I:Inv s){t p:Int}(h:setE s.pages.length s.quotas t p=0):
  Inv (s.setQ t p).1∧(s.setQ t p).1.quotas=s.quotas.set t.toNat p∧(s.setQ t p).1.now=s.now∧(s.setQ t p).1.pages.length=s.pages.length∧(s.setQ t p).1.last=s.last∧(s.setQ t p).2.foldl after s.img=(s.setQ t p).1.img:=by
 have hE:hasQ s.quotas t=true∧inQ p=true∧mayQ s.pages.length (s.quotas.set t.toNat p)=true:=by
  unfold setE at h
  rw [if_neg (by rw [I.quo];simp)] at h
  split at h
  ·exact absurd h (by decide)
  split at h
  ·exact absurd h (by decide)
  split at h
  ·rename_i a b c
   exact ⟨by simpa using a,by simpa using b,c⟩
  ·exact absurd h (by decide)
 obtain ⟨h1,h2,h3⟩:=hE
 have hp:0≤p∧p≤16:=by simpa [inQ] using h2
 have ht:0≤t∧t<s.quotas.length:=by simpa [hasQ] using h1
 have hle:owned s.pages t≤16:=by
  have h5:=List.countP_le_length (p:=isOf t) (l:=s.pages)
  have h6:=sOk_len I.slab
  unfold owned
  omega
 obtain ⟨K,g2,g3,g4,g5,g6⟩:=evict_spec t p hp.1 16 I hle
 have J:=K.inv
 have hlen:(s.setQ t p).1.pages.length=s.pages.length:=K.len
 refine ⟨⟨?_,J.slab,J.mom,J.names,?_,J.item,J.due,J.oks,J.keys,J.spot,J.page,J.bits,?_⟩,rfl,K.now,hlen,g2,?_⟩
 ·rw [hlen]
  show chkE s.pages.length (s.quotas.set t.toNat p)=0
  unfold chkE
  have h7:=chkE_may I.quo
  rw [if_neg (by omega),if_pos h3]
 ·intro x hx
  have:=J.ten x hx
  rw [K.quo] at this
  show 0≤x.tenant∧x.tenant<((s.quotas.set t.toNat p).length:Nat)
  rw [List.length_set]
  exact this
 ·intro t'
  show (owned (s.evict t p 16).1.pages t':Int)≤qAt (s.quotas.set t.toNat p) t'
  unfold qAt
  by_cases e:t'=t
  ·subst e
   rw [List.getElem?_set_self (by omega)]
   exact g5
  ·by_cases e2:t.toNat=t'.toNat
   ·have hT:isT t'=false:=by simp [isT];omega
    rw [owned_no J.slab hT,← e2,List.getElem?_set_self (by omega)]
    exact hp.1
   ·rw [List.getElem?_set_ne e2]
    have:=J.own t'
    rw [K.quo] at this
    exact this
 ·show ((s.evict t p 16).2++[Ch.quota t p]).foldl after s.img=_
  rw [List.foldl_append,g3,List.foldl_cons,List.foldl_nil]
  obtain ⟨q1,q2⟩:=after_plain (p:=(s.evict t p 16).1.img) (c:=.quota t p) J.kept_due rfl
  have q3:after (s.evict t p 16).1.img (.quota t p)=⟨(after (s.evict t p 16).1.img (.quota t p)).now,(after (s.evict t p 16).1.img (.quota t p)).kept⟩:=rfl
  rw [q3,q1,q2]
  show Pl.mk _ _=Pl.mk _ _
  congr 1
  rw [show Ch.news (.quota t p)=[] from rfl,List.append_nil,List.filter_eq_self.2]
  ·rfl
  ·intro z _
   rfl
end Go.Proofs.YtcdpiefflnaghaaGreatDoor.En
namespace Go.Proofs.YtcdpiefflnaghaaGreatDoor.En
open Go.Proofs.YtcdpiefflnaghaaGreatDoor.Lr
open Go.Proofs.YtcdpiefflnaghaaGreatDoor.Qt
open Go.Proofs.YtcdpiefflnaghaaGreatDoor.Sb
open Go.Proofs.YtcdpiefflnaghaaGreatDoor
def its (l:List (Int × Im))(t c:Int):Nat:=(l.filter fun z=>decide (z.1=t∧cls z.2=c)).length
end Go.Proofs.YtcdpiefflnaghaaGreatDoor.En
namespace Go.Proofs.YtcdpiefflnaghaaGreatDoor.En
open Go.Proofs.YtcdpiefflnaghaaGreatDoor.Lr
open Go.Proofs.YtcdpiefflnaghaaGreatDoor.Qt
open Go.Proofs.YtcdpiefflnaghaaGreatDoor.Sb
open Go.Proofs.YtcdpiefflnaghaaGreatDoor
def Sh.new (n:Nat)(q:List Int)(now:Int):Sh:=⟨q,now,List.replicate n pz,[],fun _ _=>⟨[],[]⟩,0⟩
theorem mayQ_qAt {pool:Int}{q:List Int}(h:mayQ pool q=true)(t:Int):0≤qAt q t:=by
 unfold qAt
 cases e:q[t.toNat]? with
 | none=>exact Int.le_refl _
 | some x=>exact (mayQ_in h x (List.mem_of_getElem? e)).1
theorem new_inv {n:Nat}{q:List Int}{now:Int}(h:chkE n q=0)(hm:momI now=true):Inv (Sh.new n q now):=by
 have h1:=chkE_may h
 have hs:sOk (List.replicate n pz)=true:=by
  unfold sOk
  simp only [List.length_replicate,Bool.and_eq_true,decide_eq_true_eq]
  refine ⟨by omega,List.all_eq_true.2 fun p hp=>?_⟩
  rw [List.eq_of_mem_replicate hp]
  rfl
 refine ⟨?_,hs,hm,?_,?_,?_,?_,?_,?_,?_,?_,?_,?_⟩
 ·show chkE (List.replicate n pz).length q=0
  simpa using h
 ·exact List.nodup_nil
 ·intro h hh;simp [Sh.new] at hh
 ·intro h hh;simp [Sh.new] at hh
 ·intro h hh;simp [Sh.new] at hh
 ·intro t c
  exact ⟨by simp [Sh.new],by simp [Sh.new],by simp [Sh.new],by simp [Sh.new]⟩
 ·intro t c k
  simp [Sh.new,Od.line]
 ·exact List.nodup_nil
 ·intro h hh;simp [Sh.new] at hh
 ·intro i hi k hk
  simp [Sh.new,pz] at hk
 ·intro t
  have:owned (List.replicate n pz) t=0:=by
   unfold owned
   rw [List.countP_eq_zero]
   intro p hp
   rw [List.eq_of_mem_replicate hp]
   simp [isOf,pz]
  show (owned (List.replicate n pz) t:Int)≤qAt q t
  rw [this]
  exact mayQ_qAt h1.2.2 t
end Go.Proofs.YtcdpiefflnaghaaGreatDoor.En
