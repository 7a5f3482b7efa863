/-
  Package engine and what stands upon it, part V00: contracts of functions, and what they rest on.
-/
import Derived.Test.YtpinkmndjabbjaaGreatDoorU05
set_option linter.unusedSimpArgs false
set_option linter.unusedVariables false
set_option maxRecDepth 100000
namespace Go.Proofs.YtpinkmndjabbjaaGreatDoor.En
open Go.Proofs.YtpinkmndjabbjaaGreatDoor.Lr
open Go.Proofs.YtpinkmndjabbjaaGreatDoor.Qt
open Go.Proofs.YtpinkmndjabbjaaGreatDoor.Sb
open Go.Proofs.YtpinkmndjabbjaaGreatDoor
theorem sub_len2 {α:Type}[DecidableEq α]:∀ {l m:List α},l.Nodup→(∀ k∈l,k∈m)→l.length≤m.length
 | [],_,_,_=>by simp
 | a::l,m,hn,h=>by
  rw [List.nodup_cons] at hn
  have h1:=sub_len2 (l:=l) (m:=m.erase a) hn.2 (fun k hk=>by
   have h2:k≠a:=fun e=>hn.1 (by rw [← e];exact hk)
   exact (List.mem_erase_of_ne h2).2 (h k (by simp [hk])))
  have h3:a∈m:=h a (by simp)
  have:=List.length_erase_of_mem h3
  have:=List.length_pos_of_mem h3
  simp
  omega
def pop (u:Nat):Nat:=((List.range 16).filter fun k=>u.testBit k).length
theorem pop_le {p:Pg}(h:pOk p=true):pop p.u≤chunks p.c:=by
 unfold pop
 have h1:((List.range 16).filter fun k=>p.u.testBit k).length≤(List.range (chunks p.c)).length:=by
  refine sub_len2 (List.nodup_range.filter _) (fun k hk=>?_)
  rw [List.mem_range]
  exact (bit_lt h (List.mem_filter.1 hk).2).1
 simpa using h1
theorem pop_full {u n:Nat}(hn:n≤16)(h:∀ k,k<n→u.testBit k=true):n≤pop u:=by
 unfold pop
 have h1:(List.range n).length≤((List.range 16).filter fun k=>u.testBit k).length:=by
  refine sub_len2 List.nodup_range (fun k hk=>?_)
  rw [List.mem_range] at hk
  exact List.mem_filter.2 ⟨List.mem_range.2 (by omega),h k hk⟩
 simpa using h1
theorem Inv.on_page {s:Sh}(I:Inv s){i:Nat}(hi:i<s.pages.length):(s.held.filter fun h=>decide (h.page=i)).length=pop s.pages[i].u:=by
 have hnd:((s.held.filter fun h=>decide (h.page=i)).map Hd.chunk).Nodup:=by
  have h1:=I.spot
  rw [List.nodup_iff_pairwise_ne,List.pairwise_map] at h1 ⊢
  refine List.Pairwise.imp_of_mem ?_ (List.Pairwise.filter _ h1)
  intro a b ha hb hne e
  have h2:=(List.mem_filter.1 ha).2
  have h3:=(List.mem_filter.1 hb).2
  simp at h2 h3
  exact hne (by rw [h2,h3,e])
 have hle:((s.held.filter fun h=>decide (h.page=i)).map Hd.chunk).length≤((List.range 16).filter fun k=>s.pages[i].u.testBit k).length:=by
  refine sub_len2 hnd (fun k hk=>?_)
  obtain ⟨h,hh,rfl⟩:=List.mem_map.1 hk
  obtain ⟨h1,h2⟩:=List.mem_filter.1 hh
  have h3:h.page=i:=by simpa using h2
  subst h3
  obtain ⟨_,_,_,q⟩:=I.page h h1
  exact List.mem_filter.2 ⟨List.mem_range.2 (I.spot_lt h1).2,q⟩
 have hge:((List.range 16).filter fun k=>s.pages[i].u.testBit k).length≤((s.held.filter fun h=>decide (h.page=i)).map Hd.chunk).length:=by
  refine sub_len2 (List.nodup_range.filter _) (fun k hk=>?_)
  obtain ⟨h,hh,h1,h2⟩:=I.bits i hi k (List.mem_filter.1 hk).2
  exact List.mem_map.2 ⟨h,List.mem_filter.2 ⟨hh,by simpa using h1⟩,h2⟩
 unfold pop
 rw [List.length_map] at hle hge
 omega
def sumTo (f:Nat→Nat):Nat→Nat
 | 0=>0
 | n+1=>sumTo f n+f n
theorem sumTo_le {f g:Nat→Nat}:∀ {n:Nat},(∀ i,i<n→f i≤g i)→sumTo f n≤sumTo g n
 | 0,_=>Nat.le_refl _
 | n+1,h=>Nat.add_le_add (sumTo_le fun i hi=>h i (by omega)) (h n (by omega))
theorem sumTo_eq {f g:Nat→Nat}{n:Nat}(h:∀ i,i<n→f i=g i):sumTo f n=sumTo g n:=
 Nat.le_antisymm (sumTo_le fun i hi=>Nat.le_of_eq (h i hi)) (sumTo_le fun i hi=>Nat.le_of_eq (h i hi).symm)
theorem sumTo_add (f g:Nat→Nat):∀ n,sumTo (fun i=>f i+g i) n=sumTo f n+sumTo g n
 | 0=>rfl
 | n+1=>by simp only [sumTo];rw [sumTo_add f g n];omega
theorem sumTo_mul (f:Nat→Nat)(m:Nat):∀ n,sumTo (fun i=>f i * m) n=sumTo f n * m
 | 0=>by simp [sumTo]
 | n+1=>by simp only [sumTo];rw [sumTo_mul f m n,Nat.add_mul]
theorem sumTo_one {i n:Nat}(h:i<n):sumTo (fun j=>if i=j then 1 else 0) n=1:=by
 induction n with
 | zero=>omega
 | succ n ih=>
  simp only [sumTo]
  by_cases e:i=n
  ·subst e
   have:sumTo (fun j=>if i=j then 1 else 0) i=sumTo (fun _=>0) i:=sumTo_eq (fun j hj=>by rw [if_neg (by omega)])
   rw [this,if_pos rfl]
   have hz:∀ m,sumTo (fun _=>0) m=0:=by
    intro m
    induction m with
    | zero=>rfl
    | succ m ihm=>simp [sumTo,ihm]
   rw [hz]
  ·rw [ih (by omega),if_neg e]
theorem part_len {α:Type}(f:α→Nat)(n:Nat):∀ (l:List α),(∀ x∈l,f x<n)→l.length=sumTo (fun i=>(l.filter fun x=>decide (f x=i)).length) n
 | [],_=>by
  have hz:∀ m,sumTo (fun _=>0) m=0:=by
   intro m
   induction m with
   | zero=>rfl
   | succ m ihm=>simp [sumTo,ihm]
  simpa using (hz n).symm
 | a::l,h=>by
  have ih:=part_len f n l (fun x hx=>h x (by simp [hx]))
  have e:sumTo (fun i=>((a::l).filter fun x=>decide (f x=i)).length) n=sumTo (fun i=>(if f a=i then 1 else 0)+(l.filter fun x=>decide (f x=i)).length) n:=by
   apply sumTo_eq
   intro i _
   rw [List.filter_cons]
   by_cases e:f a=i
   ·simp [e];omega
   ·simp [e]
  rw [e,sumTo_add,sumTo_one (h a (by simp)),← ih,List.length_cons]
  omega
def isTC (t c:Int)(p:Pg):Bool:=isOf t p && decide (p.c=c)
def pgs (ps:List Pg)(t c:Int):Nat:=ps.countP (isTC t c)
theorem its_held (s:Sh)(t c:Int):its s.kept t c=(s.held.filter fun h=>decide (h.tenant=t∧cls h.item=c)).length:=by
 unfold its Sh.kept
 rw [List.filter_map,List.length_map]
 rfl
theorem pgs_sum (ps:List Pg)(t c:Int):∀ n,n≤ps.length→sumTo (fun i=>match ps[i]? with
  | some p=>if isTC t c p=true then 1 else 0
  | none=>0) n=(ps.take n).countP (isTC t c)
 | 0,_=>by simp [sumTo]
 | n+1,h=>by
  have hn:n<ps.length:=by omega
  simp only [sumTo]
  rw [pgs_sum ps t c n (by omega),List.take_add_one,List.getElem?_eq_getElem hn,List.countP_append]
  simp [List.countP_cons]
theorem Inv.its_sum {s:Sh}(I:Inv s)(t c:Int):its s.kept t c=sumTo (fun i=>match s.pages[i]? with
  | some p=>if isTC t c p=true then pop p.u else 0
  | none=>0) s.pages.length:=by
 rw [its_held,part_len Hd.page s.pages.length _ (fun x hx=>by
  obtain ⟨q,_⟩:=I.page x (List.mem_filter.1 hx).1
  exact q)]
 apply sumTo_eq
 intro i hi
 rw [List.getElem?_eq_getElem hi]
 simp only
 rw [List.filter_filter]
 by_cases h:isTC t c s.pages[i]=true
 ·rw [if_pos h,← I.on_page hi]
  congr 1
  apply List.filter_congr
  intro x hx
  by_cases e:x.page=i
  ·subst e
   obtain ⟨_,q1,q2,_⟩:=I.page x hx
   unfold isTC isOf at h
   simp at h
   have h1:x.tenant=t:=by rw [← q1];exact h.1.2
   have h2:cls x.item=c:=by rw [← q2];exact h.2
   simp [h1,h2]
  ·simp [e]
 ·rw [if_neg h]
  rw [List.length_eq_zero_iff,List.filter_eq_nil_iff]
  intro x hx e
  simp at e
  obtain ⟨e1,e2,e3⟩:=e
  subst e1
  obtain ⟨_,q1,q2,q3⟩:=I.page x hx
  refine h ?_
  unfold isTC isOf
  have hu:s.pages[x.page].u≠0:=by intro e;rw [e] at q3;simp at q3
  simp [hu,q1,q2,e2,e3]
theorem Inv.its_le {s:Sh}(I:Inv s)(t c:Int):its s.kept t c≤pgs s.pages t c * chunks c:=by
 rw [I.its_sum]
 have h:=pgs_sum s.pages t c s.pages.length (Nat.le_refl _)
 rw [List.take_length] at h
 unfold pgs
 rw [← h,← sumTo_mul]
 apply sumTo_le
 intro i hi
 rw [List.getElem?_eq_getElem hi]
 simp only
 by_cases e:isTC t c s.pages[i]=true
 ·rw [if_pos e,if_pos e]
  have h1:=pop_le (sOk_at I.slab hi)
  have h2:s.pages[i].c=c:=by unfold isTC at e;simp at e;exact e.2
  rw [h2] at h1
  omega
 ·rw [if_neg e,if_neg e]
  omega
theorem Inv.its_full {s:Sh}(I:Inv s){t c:Int}(hc:isC c=true)(h:room s.pages t c=none):pgs s.pages t c * chunks c≤its s.kept t c:=by
 rw [I.its_sum]
 have h0:=pgs_sum s.pages t c s.pages.length (Nat.le_refl _)
 rw [List.take_length] at h0
 unfold pgs
 rw [← h0,← sumTo_mul]
 apply sumTo_le
 intro i hi
 rw [List.getElem?_eq_getElem hi]
 simp only
 by_cases e:isTC t c s.pages[i]=true
 ·rw [if_pos e,if_pos e,Nat.one_mul]
  unfold isTC isOf at e
  simp at e
  exact pop_full (chunks_le hc).2 (lowFree_none (room_none h i hi e.1.1 e.1.2 e.2))
 ·rw [if_neg e,if_neg e]
  omega
theorem owned_cls:∀ (ps:List Pg),ps.all pOk=true→∀ t,owned ps t=pgs ps t 0+pgs ps t 1+pgs ps t 2+pgs ps t 3+pgs ps t 4
 | [],_,_=>rfl
 | p::ps,h,t=>by
  rw [List.all_cons,Bool.and_eq_true] at h
  have ih:=owned_cls ps h.2 t
  have hc:=isC_cases (pOk_c h.1)
  unfold owned pgs at ih ⊢
  simp only [List.countP_cons]
  by_cases e:isOf t p=true
  ·rcases hc with e2 | e2 | e2 | e2 | e2 <;> simp [isTC,e,e2] <;> omega
  ·simp [isTC,e]
   omega
def Sh.mayL (s:Sh)(t:Int)(x:Im):Bool:=decide (0≤t∧t<(s.quotas.length:Int)) && okI x && decide (szI x≤256) && !dueI x s.now && (s.at t x.key).isNone
def Sh.loads (s:Sh):List (Int × Im)→Sh × Int
 | []=>(s,0)
 | (t,x)::l=>if s.mayL t x=true then
   match s.spot t x with
   | some z=>(s.putAt t x z.1 z.2 (max s.last x.unique)).loads l
   | none=>(s,9)
  else (s,8)
theorem mayL_parts {s:Sh}{t:Int}{x:Im}(h:s.mayL t x=true):(0≤t∧t<s.quotas.length)∧(okI x=true∧szI x≤256)∧dueI x s.now=false∧(t,x.key)∉s.held.map Hd.name:=by
 unfold Sh.mayL at h
 simp only [Bool.and_eq_true,decide_eq_true_eq,Bool.not_eq_true',Option.isNone_iff_eq_none] at h
 obtain ⟨⟨⟨⟨h1,h2⟩,h3⟩,h4⟩,h5⟩:=h
 exact ⟨h1,⟨h2,h3⟩,h4,at_none h5⟩
theorem load_step {s:Sh}(I:Inv s){t:Int}{x:Im}(h:s.mayL t x=true){z:Nat × Nat}(hz:s.spot t x=some z)(l:Int):Kin s (s.putAt t x z.1 z.2 l)∧(s.putAt t x z.1 z.2 l).kept=s.kept++[(t,x)]:=by
 obtain ⟨h1,h2,h3,h4⟩:=mayL_parts h
 refine ⟨⟨I.put l h1 h2 h3 h4 hz,rfl,rfl,?_⟩,?_⟩
 ·show (s.pages.set _ _).length=_
  simp
 ·show (s.held++[_]).map _=_
  rw [List.map_append]
  rfl
theorem loads_inv:∀ (l:List (Int × Im)) {s:Sh},Inv s→Kin s (s.loads l).1∧((s.loads l).2=0→(s.loads l).1.kept=s.kept++l)
 | [],s,I=>⟨Kin.refl I,fun _=>by simp [Sh.loads]⟩
 | (t,x)::l,s,I=>by
  unfold Sh.loads
  split
  ·rename_i h
   cases e:s.spot t x with
   | none=>exact ⟨Kin.refl I,fun e=>absurd e (by simp)⟩
   | some z=>
    simp only
    obtain ⟨K,hk⟩:=load_step I h e (max s.last x.unique)
    obtain ⟨K2,h2⟩:=loads_inv l K.inv
    refine ⟨K.trans K2,fun e=>?_⟩
    rw [h2 e,hk,List.append_assoc]
    rfl
  ·exact ⟨Kin.refl I,fun e=>absurd e (by simp)⟩
theorem pgs_set {ps:List Pg}{t c q t' c':Int}{i k:Nat}(hc:isC c=true)(P:Plc ps t c q i k):pgs (ps.set i (taken ps t c i k)) t' c'=pgs ps t' c'+(if (t'=t∧c'=c)∧(ps[i]'P.lt).u=0 then 1 else 0):=by
 have hi:=P.lt
 have hcl:=chunks_le hc
 have hk:=P.ch
 have hu:=taken_u (t:=t) (c:=c) hi (show k<16 by omega)
 have hne:(taken ps t c i k).u≠0:=by rw [hu];exact or_ne
 have e1:isTC t' c' (taken ps t c i k)=decide (t'=t∧c'=c):=by
  unfold isTC isOf
  have h1:(taken ps t c i k).t=t:=rfl
  have h2:(taken ps t c i k).c=c:=rfl
  rw [h1,h2,Bool.eq_iff_iff]
  simp [hne]
  constructor
  ·rintro ⟨a,b⟩;exact ⟨a.symm,b.symm⟩
  ·rintro ⟨a,b⟩;exact ⟨a.symm,b.symm⟩
 have e2:isTC t' c' ps[i]=(decide (t'=t∧c'=c) && decide (ps[i].u≠0)):=by
  unfold isTC isOf
  rw [Bool.eq_iff_iff]
  simp
  constructor
  ·rintro ⟨⟨a,b⟩,d⟩
   rcases P.of with h | h
   ·exact absurd h a
   ·exact ⟨⟨by rw [← b,h.1],by rw [← d,h.2]⟩,a⟩
  ·rintro ⟨⟨a,b⟩,d⟩
   rcases P.of with h | h
   ·exact absurd h d
   ·exact ⟨⟨d,by rw [h.1,a]⟩,by rw [h.2,b]⟩
 unfold pgs
 rw [List.countP_set hi,e1,e2]
 by_cases h:t'=t∧c'=c
 ·by_cases hz:ps[i].u=0
  ·simp [h,hz]
  ·have h4:0<ps.countP (isTC t' c'):=List.countP_pos_iff.2 ⟨ps[i],List.getElem_mem hi,by rw [e2];simp [h,hz]⟩
   obtain ⟨rfl,rfl⟩:=h
   simp [hz]
   omega
 ·simp [h]
theorem its_app (l m:List (Int × Im))(t c:Int):its (l++m) t c=its l t c+its m t c:=by unfold its;rw [List.filter_append,List.length_append]
theorem loads_fit {s0:Sh}(I0:Inv s0):∀ (l done:List (Int × Im)) {s:Sh},Inv s→s.quotas=s0.quotas→s.now=s0.now→s.pages.length=s0.pages.length→s.kept=done→s0.kept=done++l→(∀ t c,pgs s.pages t c≤pgs s0.pages t c)→(s.loads l).2=0
 | [],done,s,_,_,_,_,_,_,_=>rfl
 | (t,x)::l,done,s,I,hq,hn,hp,hk,hk0,hpg=>by
  have hmem:(t,x)∈s0.kept:=by rw [hk0];simp
  obtain ⟨h,hh,hhe⟩:=List.mem_map.1 hmem
  injection hhe with e1 e2
  have hmay:s.mayL t x=true:=by
   unfold Sh.mayL
   have h1:=I0.ten h hh
   have h2:=I0.item h hh
   have h3:=I0.due h hh
   rw [e1] at h1
   rw [e2] at h2 h3
   have h4:s.at t x.key=none:=by
    cases e:s.at t x.key with
    | none=>rfl
    | some i=>
     obtain ⟨hi,hnm⟩:=at_some e
     have hx:(t,x.key)∈s.kept.map nm:=by rw [kept_names];exact List.mem_map.2 ⟨_,List.getElem_mem hi,hnm⟩
     have hnd:=I0.kept_nd
     rw [hk0,List.map_append,List.nodup_append] at hnd
     rw [hk] at hx
     exact absurd rfl (hnd.2.2 _ hx (nm (t,x)) (by simp))
   rw [hn,hq,h2.1,h3,h4]
   simp [h1,h2.2]
  obtain ⟨ht,hx,hd,hno⟩:=mayL_parts hmay
  have hc:=cls_isC x
  have hit:its done t (cls x)+1≤its s0.kept t (cls x):=by
   rw [hk0,its_app]
   have:its ((t,x)::l) t (cls x)=its l t (cls x)+1:=by unfold its;rw [List.filter_cons,if_pos (by simp)];simp
   omega
  have hle0:=I0.its_le t (cls x)
  cases e:s.spot t x with
  | none=>
   exfalso
   obtain ⟨hf,hr⟩:=I.full ht e
   have h1:=I.its_full hc hr
   rw [hk] at h1
   have h2:pgs s.pages t (cls x)<pgs s0.pages t (cls x):=by
    refine Classical.byContradiction fun hn=>?_
    have h3:pgs s0.pages t (cls x) * chunks (cls x)≤pgs s.pages t (cls x) * chunks (cls x):=Nat.mul_le_mul_right _ (by omega)
    omega
   have h5:=owned_cls s.pages (by have:=I.slab;unfold sOk at this;rw [Bool.and_eq_true] at this;exact this.2) t
   have h6:=owned_cls s0.pages (by have:=I0.slab;unfold sOk at this;rw [Bool.and_eq_true] at this;exact this.2) t
   have h7:=I0.own t
   rw [hq] at hf
   have q0:=hpg t 0
   have q1:=hpg t 1
   have q2:=hpg t 2
   have q3:=hpg t 3
   have q4:=hpg t 4
   rcases isC_cases hc with e2 | e2 | e2 | e2 | e2 <;> rw [e2] at h2 <;> omega
  | some z=>
   unfold Sh.loads
   rw [if_pos hmay,e]
   simp only
   obtain ⟨K,hk2⟩:=load_step I hmay e (max s.last x.unique)
   refine loads_fit I0 l (done++[(t,x)]) K.inv (K.quo.trans hq) (K.now.trans hn) (K.len.trans hp) (by rw [hk2,hk]) (by rw [hk0];simp) ?_
   intro t' c'
   have P:=plc_of hc (show place s.pages t (cls x) (qAt s.quotas t)=some (z.1,z.2) from e)
   show pgs (s.pages.set z.1 (taken s.pages t (cls x) z.1 z.2)) t' c'≤_
   rw [pgs_set hc P]
   by_cases h:(t'=t∧c'=cls x)∧(s.pages[z.1]'P.lt).u=0
   ·rw [if_pos h]
    obtain ⟨⟨rfl,rfl⟩,hz⟩:=h
    have hr:room s.pages t' (cls x)=none:=by
     cases e3:room s.pages t' (cls x) with
     | none=>rfl
     | some y=>
      obtain ⟨y1,y2⟩:=y
      have e4:s.spot t' x=some (y1,y2):=by unfold Sh.spot place;rw [e3]
      rw [e] at e4
      cases e4
      obtain ⟨hi,hu,_⟩:=room_some e3
      exact absurd hz hu
    have h1:=I.its_full hc hr
    rw [hk] at h1
    refine Classical.byContradiction fun hn=>?_
    have h3:pgs s0.pages t' (cls x) * chunks (cls x)≤pgs s.pages t' (cls x) * chunks (cls x):=Nat.mul_le_mul_right _ (by omega)
    omega
   ·rw [if_neg h]
    exact hpg t' c'
theorem again {s0:Sh}(I0:Inv s0):((Sh.new s0.pages.length s0.quotas s0.now).loads s0.kept).2=0∧((Sh.new s0.pages.length s0.quotas s0.now).loads s0.kept).1.img=s0.img∧((Sh.new s0.pages.length s0.quotas s0.now).loads s0.kept).1.quotas=s0.quotas:=by
 have N:=new_inv I0.quo I0.mom
 have h1:=loads_fit I0 s0.kept [] N rfl rfl (by simp [Sh.new]) rfl rfl (fun t c=>by
  have:pgs (List.replicate s0.pages.length pz) t c=0:=by
   unfold pgs
   rw [List.countP_eq_zero]
   intro p hp
   rw [List.eq_of_mem_replicate hp]
   simp [isTC,isOf,pz]
  show pgs (List.replicate s0.pages.length pz) t c≤_
  omega)
 obtain ⟨K,h2⟩:=loads_inv s0.kept N
 refine ⟨h1,?_,K.quo⟩
 unfold Sh.img
 rw [h2 h1,K.now]
 rfl
end Go.Proofs.YtpinkmndjabbjaaGreatDoor.En
