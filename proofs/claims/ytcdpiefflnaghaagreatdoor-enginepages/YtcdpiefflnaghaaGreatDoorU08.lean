/-
  Package engine and what stands beneath it, part 08: contracts of functions, and what they rest on.
-/
import Derived.Test.YtcdpiefflnaghaaGreatDoorU05
import Derived.Test.YtcdpiefflnaghaaGreatDoorU02
import Derived.Test.YtcdpiefflnaghaaGreatDoorU07
set_option linter.unusedSimpArgs false
set_option linter.unusedVariables false
set_option maxRecDepth 100000
namespace Go.Proofs.YtcdpiefflnaghaaGreatDoor.En
open Go.Proofs.YtcdpiefflnaghaaGreatDoor.It
open Go.Proofs.YtcdpiefflnaghaaGreatDoor.Lr
open Go.Proofs.YtcdpiefflnaghaaGreatDoor.Qt
open Go.Proofs.YtcdpiefflnaghaaGreatDoor.Sb
open Go.Proofs.YtcdpiefflnaghaaGreatDoor
def Im.at_ (x:Im)(till:Int):Im:={ x with till:=till }
def Hd.at_ (h:Hd)(till:Int):Hd:={ h with item:=h.item.at_ till }
theorem cons_erase_perm {α:Type}:∀ {l:List α} {i:Nat} (hi:i<l.length),(l[i]::l.eraseIdx i).Perm l
 | a::l,0,_=>List.Perm.refl _
 | a::l,i+1,hi=>by
  have ih:=cons_erase_perm (l:=l) (i:=i) (by simpa using hi)
  simp only [List.getElem_cons_succ,List.eraseIdx_cons_succ]
  exact (List.Perm.swap a _ _).trans (ih.cons a)
def Sh.retimeH (s:Sh)(i:Nat)(h:Hd)(till:Int):Sh:={ s.hitH h with held:=s.held.eraseIdx i++[h.at_ till] }
theorem Inv.retime {s:Sh}(I:Inv s){i:Nat}(hi:i<s.held.length){till:Int}(hm:momI till=true)(hd:till=0∨s.now<till):
  Kin s (s.retimeH i s.held[i] till)∧(s.retimeH i s.held[i] till).last=s.last∧(s.retimeH i s.held[i] till).img=after s.img (.put s.held[i].tenant (s.held[i].item.at_ till)):=by
 obtain ⟨h,hh⟩:∃ h,h=s.held[i]:=⟨_,rfl⟩
 rw [← hh]
 have hmem:h∈s.held:=by rw [hh];exact List.getElem_mem hi
 have J:=I.hit hmem
 have hnd:=held_nodup I.names
 have hme:∀ {x:Hd},x∈s.held.eraseIdx i↔x∈s.held∧x≠h:=by
  intro x
  rw [mem_eraseIdx_iff hnd hi,← hh]
 have hcl:cls (h.at_ till).item=cls h.item:=rfl
 have hperm:(s.held.eraseIdx i++[h]).Perm s.held:=by
  have h1:(s.held.eraseIdx i++[h]).Perm (h::s.held.eraseIdx i):=List.perm_append_comm
  refine h1.trans ?_
  rw [hh]
  exact cons_erase_perm hi
 refine ⟨⟨⟨J.quo,J.slab,J.mom,?_,?_,?_,?_,J.oks,?_,?_,?_,?_,J.own⟩,rfl,rfl,rfl⟩,rfl,?_⟩
 ·show ((s.held.eraseIdx i++[h.at_ till]).map Hd.name).Nodup
  have e:(s.held.eraseIdx i++[h.at_ till]).map Hd.name=(s.held.eraseIdx i++[h]).map Hd.name:=by simp [Hd.name,Hd.at_,Im.at_]
  rw [e]
  exact (hperm.map Hd.name).nodup_iff.2 I.names
 ·intro x hx
  rcases List.mem_append.1 hx with h1 | h1
  ·exact I.ten x (hme.1 h1).1
  ·simp at h1;subst h1;exact I.ten h hmem
 ·intro x hx
  rcases List.mem_append.1 hx with h1 | h1
  ·exact I.item x (hme.1 h1).1
  ·simp at h1
   subst h1
   have h2:=I.item h hmem
   refine ⟨?_,h2.2⟩
   have h3:=h2.1
   unfold okI at h3 ⊢
   simp only [Bool.and_eq_true] at h3 ⊢
   exact ⟨h3.1,hm⟩
 ·intro x hx
  rcases List.mem_append.1 hx with h1 | h1
  ·exact I.due x (hme.1 h1).1
  ·simp at h1
   subst h1
   show dueI (h.item.at_ till) s.now=false
   unfold dueI
   show (decide (till≠0) && decide (till≤s.now))=false
   rcases hd with rfl | hd
   ·rfl
   ·have:¬ till≤s.now:=by omega
    simp [this]
 ·intro t c k
  rw [show (s.retimeH i h till).ord=(s.hitH h).ord from rfl,J.keys]
  show (∃ x∈s.held,_)↔∃ x∈s.held.eraseIdx i++[h.at_ till],_
  constructor
  ·rintro ⟨x,hx,h1,h2,h3⟩
   by_cases e:x=h
   ·subst e
    exact ⟨_,List.mem_append_right _ (List.mem_singleton.2 rfl),h1,h2,h3⟩
   ·exact ⟨x,List.mem_append_left _ (hme.2 ⟨hx,e⟩),h1,h2,h3⟩
  ·rintro ⟨x,hx,h1,h2,h3⟩
   rcases List.mem_append.1 hx with h4 | h4
   ·exact ⟨x,(hme.1 h4).1,h1,h2,h3⟩
   ·simp at h4
    subst h4
    exact ⟨h,hmem,h1,h2,h3⟩
 ·show ((s.held.eraseIdx i++[h.at_ till]).map _).Nodup
  have e:((s.held.eraseIdx i++[h.at_ till]).map fun h=>(h.page,h.chunk))=(s.held.eraseIdx i++[h]).map fun h=>(h.page,h.chunk):=by simp [Hd.at_]
  rw [e]
  exact (hperm.map _).nodup_iff.2 I.spot
 ·intro x hx
  rcases List.mem_append.1 hx with h1 | h1
  ·exact I.page x (hme.1 h1).1
  ·simp at h1;subst h1;exact I.page h hmem
 ·intro j hj b hb
  obtain ⟨x,hx,h1,h2⟩:=I.bits j hj b hb
  by_cases e:x=h
  ·subst e
   exact ⟨_,List.mem_append_right _ (List.mem_singleton.2 rfl),h1,h2⟩
  ·exact ⟨x,List.mem_append_left _ (hme.2 ⟨hx,e⟩),h1,h2⟩
 ·rw [after_put I.kept_due]
  show Pl.mk s.now ((s.held.eraseIdx i++[h.at_ till]).map _)=Pl.mk s.now _
  congr 1
  rw [List.map_append]
  have h1:=I.kept_leave hi
  rw [← hh] at h1
  have h2:(s.leaveH i h).kept=(s.held.eraseIdx i).map fun h=>(h.tenant,h.item):=rfl
  rw [h2] at h1
  rw [h1]
  rfl
structure Rs where
 kind:Int
 items:List Im
 number:Int
def cntO (s:ByteArray)(b:Int)(down:Bool):Option (ByteArray × Int):=
 if isNum s.data.toList=true then
  some (⟨(decL (if down=true then numV s.data.toList - b.toNat else (numV s.data.toList+b.toNat) % 18446744073709551616)).toArray⟩,((if down=true then numV s.data.toList - b.toNat else (numV s.data.toList+b.toNat) % 18446744073709551616:Nat):Int))
 else none
def jnO (s t:ByteArray):Option ByteArray:=if s.size+t.size≤512 then some (s++t) else none
def Sh.putR (s:Sh)(t:Int)(x:Im)(n:Int):Sh × Rs × List Ch:=((s.put t x).1,⟨(s.put t x).2.1,[],if (s.put t x).2.1=1 then n else 0⟩,(s.put t x).2.2)
def Sh.one (s:Sh)(c:Cm):Sh × Rs × List Ch:=
 match (s.at c.tenant (c.keys.headD ⟨#[]⟩)).bind fun i=>(s.held[i]?).map fun h=>(i,h) with
 | none=>if 4≤c.kind then (s,⟨2,[],0⟩,[]) else s.putR c.tenant ⟨c.keys.headD ⟨#[]⟩,c.value,c.flags,aftI s.now c.life,0⟩ 0
 | some (i,h)=>
  if c.kind=3 then (s,⟨3,[],0⟩,[])
  else if c.kind=5∧h.item.unique≠c.unique then (s,⟨3,[],0⟩,[])
  else if c.kind=9 then (s.retimeH i h (aftI s.now c.life),⟨1,[],0⟩,[.put h.tenant (h.item.at_ (aftI s.now c.life))])
  else if c.kind=6∨c.kind=7 then
   match cntO h.item.value c.by_ (decide (c.kind=7)) with
   | none=>(s,⟨6,[],0⟩,[])
   | some (text,n)=>s.putR c.tenant ⟨h.item.key,text,h.item.flags,h.item.till,0⟩ n
  else if c.kind=8 then
   match jnO h.item.value c.value with
   | none=>(s,⟨4,[],0⟩,[])
   | some text=>s.putR c.tenant ⟨h.item.key,text,h.item.flags,h.item.till,0⟩ 0
  else s.putR c.tenant ⟨c.keys.headD ⟨#[]⟩,c.value,c.flags,aftI s.now c.life,0⟩ 0
def Sh.done (s:Sh)(c:Cm):Sh × Rs × List Ch:=
 if (s.quotas.length:Int)≤c.tenant then (s,⟨7,[],0⟩,[])
 else if c.kind=1 then ((s.gets c.tenant c.keys).1,⟨1,(s.gets c.tenant c.keys).2,0⟩,[])
 else if c.kind=10 then ((s.dels c.tenant c.keys).1,⟨if (s.dels c.tenant c.keys).2.length=0 then 2 else 1,[],(s.dels c.tenant c.keys).2.length⟩,(s.dels c.tenant c.keys).2)
 else if c.kind=11 then (s.flushed c.tenant,⟨1,[],0⟩,[.clear c.tenant])
 else s.one c
structure DoS (s:Sh)(t:Int)(r:Sh × Rs × List Ch):Prop where
 kin:Kin s r.1
 tells:r.2.2.foldl after s.img=r.1.img
 ten:∀ c∈r.2.2,c.ten=some t
 memory:r.2.1.kind=5→r.1=s∧r.2.2=[]
end Go.Proofs.YtcdpiefflnaghaaGreatDoor.En
namespace Go.Proofs.YtcdpiefflnaghaaGreatDoor.En
open Go.Proofs.YtcdpiefflnaghaaGreatDoor.It
open Go.Proofs.YtcdpiefflnaghaaGreatDoor.Lr
open Go.Proofs.YtcdpiefflnaghaaGreatDoor.Qt
open Go.Proofs.YtcdpiefflnaghaaGreatDoor.Sb
open Go.Proofs.YtcdpiefflnaghaaGreatDoor
theorem aft_ok {now life:Int}(hn:momI now=true)(hl:0≤life∧life≤1099511627776):momI (aftI now life)=true∧(aftI now life=0∨now<aftI now life):=by
 unfold momI at hn ⊢
 simp at hn
 unfold aftI
 split
 ·simp;omega
 ·simp
theorem due_of {x:Im}{now:Int}(h:x.till=0∨now<x.till):dueI x now=false:=by
 unfold dueI
 rcases h with h | h
 ·simp [h]
 ·have:¬ x.till≤now:=by omega
  simp [this]
theorem putR_doS {s:Sh}(I:Inv s){t:Int}{x:Im}(n:Int)(ht:0≤t∧t<s.quotas.length)(hd:dueI x s.now=false):DoS s t (s.putR t x n):=by
 have P:=I.putS ht hd
 exact ⟨P.kin,P.tells,P.ten,fun e=>P.none_ (by have e':(s.put t x).2.1=5:=e;rw [e'];decide)⟩
theorem still {s:Sh}(I:Inv s)(t:Int)(r:Rs):DoS s t (s,r,[]):=⟨Kin.refl I,rfl,by simp,fun _=>⟨rfl,rfl⟩⟩
theorem bind_some {s:Sh}{t:Int}{k:ByteArray}{i:Nat}{h:Hd}(e:((s.at t k).bind fun i=>(s.held[i]?).map fun h=>(i,h))=some (i,h)):s.at t k=some i∧∃ hi:i<s.held.length,h=s.held[i]:=by
 cases e1:s.at t k with
 | none=>rw [e1] at e;cases e
 | some j=>
  rw [e1] at e
  obtain ⟨hj,_⟩:=at_some e1
  simp only [Option.bind_some,List.getElem?_eq_getElem hj,Option.map_some,Option.some.injEq,Prod.mk.injEq] at e
  obtain ⟨rfl,rfl⟩:=e
  exact ⟨rfl,hj,rfl⟩
theorem one_doS {s:Sh}(I:Inv s){c:Cm}(ht:0≤c.tenant∧c.tenant<s.quotas.length)(hl:0≤c.life∧c.life≤1099511627776):DoS s c.tenant (s.one c):=by
 obtain ⟨ha,hb⟩:=aft_ok I.mom hl
 unfold Sh.one
 cases e:((s.at c.tenant (c.keys.headD ⟨#[]⟩)).bind fun i=>(s.held[i]?).map fun h=>(i,h)) with
 | none=>
  simp only
  split
  ·exact still I _ _
  ·exact putR_doS I 0 ht (due_of hb)
 | some z=>
  obtain ⟨i,h⟩:=z
  obtain ⟨hat,hi,rfl⟩:=bind_some e
  have hm:=List.getElem_mem hi
  have hten:s.held[i].tenant=c.tenant:=by
   obtain ⟨hi',hn⟩:=at_some hat
   exact congrArg Prod.fst hn
  have hdue:∀ v,dueI ⟨s.held[i].item.key,v,s.held[i].item.flags,s.held[i].item.till,0⟩ s.now=false:=fun v=>I.due _ hm
  simp only
  split
  ·exact still I _ _
  split
  ·exact still I _ _
  split
  ·obtain ⟨K,_,h2⟩:=I.retime hi ha hb
   refine ⟨K,?_,?_,fun e=>absurd e (by simp)⟩
   ·rw [List.foldl_cons,List.foldl_nil]
    exact h2.symm
   ·intro ch hch
    simp at hch
    subst hch
    show some s.held[i].tenant=_
    rw [hten]
  split
  ·split
   ·exact still I _ _
   ·exact putR_doS I _ ht (hdue _)
  split
  ·split
   ·exact still I _ _
   ·exact putR_doS I _ ht (hdue _)
  ·exact putR_doS I 0 ht (due_of hb)
theorem done_doS {s:Sh}(I:Inv s){c:Cm}(ht:0≤c.tenant)(hl:0≤c.life∧c.life≤1099511627776):DoS s c.tenant (s.done c):=by
 unfold Sh.done
 split
 ·exact still I _ _
 rename_i hq
 have ht2:0≤c.tenant∧c.tenant<s.quotas.length:=⟨ht,by omega⟩
 split
 ·obtain ⟨K,hh,_,_⟩:=Inv.gets c.tenant c.keys I
  refine ⟨K,?_,by simp,fun e=>absurd e (by simp)⟩
  show s.img=Pl.mk (s.gets c.tenant c.keys).1.now (s.gets c.tenant c.keys).1.kept
  rw [K.now]
  unfold Sh.img Sh.kept
  rw [hh]
 split
 ·obtain ⟨K,_,h1,h2⟩:=Inv.dels c.tenant c.keys I
  refine ⟨K,h1,fun ch hch=>(h2 ch hch).1,fun e=>?_⟩
  have e':(if (s.dels c.tenant c.keys).2.length=0 then (2:Int) else 1)=5:=e
  split at e' <;> cases e'
 split
 ·obtain ⟨K,_,h1⟩:=I.flush c.tenant
  refine ⟨K,?_,?_,fun e=>absurd e (by simp)⟩
  ·rw [List.foldl_cons,List.foldl_nil]
   exact h1.symm
  ·intro ch hch
   simp at hch
   subst hch
   rfl
 ·exact one_doS I ht2 hl
theorem done_apart {s:Sh}(I:Inv s){c:Cm}(ht:0≤c.tenant)(hl:0≤c.life∧c.life≤1099511627776):((s.done c).1.kept.filter fun z=>decide (z.1≠c.tenant))=s.kept.filter fun z=>decide (z.1≠c.tenant):=by
 have D:=done_doS I ht hl
 have h1:(s.done c).1.kept=((s.done c).2.2.foldl after s.img).kept:=by rw [D.tells];rfl
 rw [h1]
 have key:∀ (cs:List Ch) (p:Pl),(∀ ch∈cs,ch.ten=some c.tenant)→((∀ z∈p.kept,z.1≠c.tenant→dueI z.2 p.now=false))→(((cs.foldl after p).kept.filter fun z=>decide (z.1≠c.tenant))=p.kept.filter fun z=>decide (z.1≠c.tenant)):=by
  intro cs
  induction cs with
  | nil=>intro p _ _;rfl
  | cons ch cs ih=>
   intro p hc hd
   have hct:=hc ch (by simp)
   have hn:ch.now p.now=p.now:=by cases ch <;> first | rfl | cases hct
   have hstep:((after p ch).kept.filter fun z=>decide (z.1≠c.tenant))=p.kept.filter fun z=>decide (z.1≠c.tenant):=by
    unfold after
    simp only [hn]
    rw [List.filter_append,List.filter_filter]
    have h3:(ch.news.filter fun z=>decide (z.1≠c.tenant))=[]:=by
     cases ch <;> simp [Ch.news]
     cases hct
     rfl
    rw [h3,List.append_nil]
    apply List.filter_congr
    intro z hz
    by_cases e:z.1=c.tenant
    ·simp [e]
    ·have h4:ch.hits z=false:=by
      cases ch <;> simp [Ch.hits]
      all_goals (cases hct;first | (intro e2;exact absurd e2 e) | exact e)
     simp [e,h4,hd z hz e]
   rw [List.foldl_cons,ih (after p ch) (fun c' hc'=>hc c' (by simp [hc'])) ?_,hstep]
   intro z hz hne
   have hz2:z∈(after p ch).kept.filter fun z=>decide (z.1≠c.tenant):=List.mem_filter.2 ⟨hz,by simpa using hne⟩
   rw [hstep] at hz2
   show dueI z.2 (ch.now p.now)=false
   rw [hn]
   exact hd z (List.mem_filter.1 hz2).1 hne
 exact key _ _ D.ten (fun z hz _=>I.kept_due z hz)
end Go.Proofs.YtcdpiefflnaghaaGreatDoor.En
namespace Go.Proofs.YtcdpiefflnaghaaGreatDoor.En
open Go.Proofs.YtcdpiefflnaghaaGreatDoor.It
open Go.Proofs.YtcdpiefflnaghaaGreatDoor.Lr
open Go.Proofs.YtcdpiefflnaghaaGreatDoor.Qt
open Go.Proofs.YtcdpiefflnaghaaGreatDoor.Sb
open Go.Proofs.YtcdpiefflnaghaaGreatDoor
inductive Opn where
 | cmd (c:Cm)
 | clock (m:Int)
 | quota (t p:Int)
noncomputable def Sh.op (s:Sh):Opn→Sh × Rs × List Ch × Bool
 | .cmd c=>if c.may=true then ((s.done c).1,(s.done c).2.1,(s.done c).2.2,true) else (s,⟨0,[],0⟩,[],false)
 | .clock m=>if s.now≤m∧momI m=true then (s.tick m,⟨0,[],0⟩,[.clock m],true) else (s,⟨0,[],0⟩,[],false)
 | .quota t p=>if setE s.pages.length s.quotas t p=0 then ((s.setQ t p).1,⟨0,[],0⟩,(s.setQ t p).2,true) else (s,⟨0,[],0⟩,[],false)
theorem may_life {c:Cm}(h:c.may=true):0≤c.tenant∧c.tenant<4∧(0≤c.life∧c.life≤1099511627776):=by
 unfold Cm.may at h
 simp only [Bool.and_eq_true,decide_eq_true_eq] at h
 obtain ⟨⟨⟨⟨⟨⟨h1,h2⟩,h3⟩,h4⟩,h5⟩,h6⟩,h7⟩:=h
 have h8:0≤c.tenant∧c.tenant<4:=by simpa [tenOk] using h2
 unfold Cm.lOk at h5
 simp only [Bool.and_eq_true,decide_eq_true_eq] at h5
 exact ⟨h8.1,h8.2,h5.1⟩
theorem Inv.op {s:Sh}(I:Inv s)(o:Opn):Inv (s.op o).1∧(s.op o).2.2.1.foldl after s.img=(s.op o).1.img∧(s.op o).1.pages.length=s.pages.length∧(s.op o).1.quotas.length=s.quotas.length:=by
 cases o with
 | cmd c=>
  unfold Sh.op
  simp only
  split
  ·rename_i h
   obtain ⟨h1,h2,h3⟩:=may_life h
   have D:=done_doS I h1 h3
   exact ⟨D.kin.inv,D.tells,D.kin.len,by rw [D.kin.quo]⟩
  ·exact ⟨I,rfl,rfl,rfl⟩
 | clock m=>
  unfold Sh.op
  simp only
  split
  ·rename_i h
   obtain ⟨J,h1,h2,h3,h4,h5⟩:=I.tick h.2
   exact ⟨J,by rw [List.foldl_cons,List.foldl_nil];exact h5.symm,h3,by rw [h1]⟩
  ·exact ⟨I,rfl,rfl,rfl⟩
 | quota t p=>
  unfold Sh.op
  simp only
  split
  ·rename_i h
   obtain ⟨J,h1,h2,h3,h4,h5⟩:=I.setQ h
   exact ⟨J,h5,h3,by rw [h1];simp⟩
  ·exact ⟨I,rfl,rfl,rfl⟩
theorem op_gets {s:Sh}(I:Inv s){c:Cm}(h:c.may=true)(hk:c.kind=1):(s.op (.cmd c)).2.1=if c.tenant<(s.quotas.length:Int) then ⟨1,getsOf s.kept c.tenant c.keys,0⟩ else ⟨7,[],0⟩:=by
 unfold Sh.op
 simp only
 rw [if_pos h]
 unfold Sh.done
 by_cases e:c.tenant<(s.quotas.length:Int)
 ·rw [if_pos e,if_neg (by omega),if_pos hk]
  simp only
  rw [(Inv.gets c.tenant c.keys I).2.2.2]
 ·rw [if_neg e,if_pos (by omega)]
end Go.Proofs.YtcdpiefflnaghaaGreatDoor.En
