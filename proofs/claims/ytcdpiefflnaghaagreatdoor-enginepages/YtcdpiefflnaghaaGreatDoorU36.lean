/-
  Package engine and what stands beneath it, part 36: contracts of functions, and what they rest on.
-/
import Derived.Test.YtcdpiefflnaghaaGreatDoorU35
set_option linter.unusedSimpArgs false
set_option linter.unusedVariables false
set_option maxRecDepth 100000
namespace Go.Proofs.YtcdpiefflnaghaaGreatDoor.En
open Go.Proofs.YtcdpiefflnaghaaGreatDoor.It
open Go.Proofs.YtcdpiefflnaghaaGreatDoor.Lr
open Go.Proofs.YtcdpiefflnaghaaGreatDoor.Qt
open Go.Proofs.YtcdpiefflnaghaaGreatDoor.Sb
open Go.RowKit Go.Proofs.YtcdpiefflnaghaaGreatDoor
def Ra.stand (x:Ra)(p t c:Nat)(z:Int × Im):Ra:={ x with ord:=upn x.ord (t * 5+c) ((x.ord (t * 5+c)).add z.2.key),T:=((z.1,z.2.key),(p:Int))::strikeN (z.1,z.2.key) x.T,L:=dueL x.L z,kept:=x.kept.set p z,row:=x.row.erase (p:Int)++[(p:Int)] }
def Ra.taken (x:Ra)(t c:Int)(i k:Nat):Ra:={ x with pages:=x.pages.set i (Sb.taken x.pages t c i k) }
theorem strike_not {n:Na}{T:List (Na × Int)}(h:∀ p∈T,p.1≠n):strikeN n T=T:=List.filter_eq_self.2 fun p hp=>by simpa using h p hp
theorem due_not {x:Im}{now:Int}(hd:dueI x now=false)(ho:okI x=true)(hn:momI now=true):x.till=0∨(now<x.till∧x.till≤1099511627776):=by
 unfold dueI at hd
 unfold okI momI at ho
 simp only [Bool.and_eq_false_iff,decide_eq_false_iff_not,Bool.and_eq_true,decide_eq_true_eq] at hd ho
 by_cases e:x.till=0
 ·exact .inl e
 ·rcases hd with h | h
  ·exact absurd e h
  ·exact .inr ⟨by omega,ho.2.2⟩
section
variable {x:Ra} {s:Sh} {t:Nat} {X:Im} {i k:Nat} (I:Inv s) (ht:t<s.quotas.length) (hX:okI X=true∧szI X≤256) (hd:dueI X s.now=false) (hn:((t:Int),X.key)∉s.held.map Hd.name) (hs:s.spot t X=some (i,k)) (u:Int)
include I ht hs
theorem spot_ok:i<s.pages.length∧k<16∧(i,k)∉s.held.map (fun h=>(h.page,h.chunk))∧t<4:=by
 have P:=plc_of (cls_isC X) (hs:place s.pages t (cls X) (qAt s.quotas t)=some (i,k))
 have hT:=I.tOk (t:=(t:Int)) ⟨by omega,by omega⟩
 have hk:=P.ch
 have hc:=(chunks_le (cls_isC X)).2
 refine ⟨P.lt,by omega,?_,by simp [isT] at hT;omega⟩
 intro hm
 obtain ⟨h,hh,e⟩:=List.mem_map.1 hm
 have e1:h.page=i:=congrArg Prod.fst e
 have e2:h.chunk=k:=congrArg Prod.snd e
 obtain ⟨hp,_,_,hb⟩:=I.page h hh
 subst e1 e2
 have:=P.free
 rw [hb] at this
 cases this
theorem pl_new (hh:Hd)(hm:hh∈s.held):hh.pl≠i * 16+k:=by
 obtain ⟨h1,h2,h3,h4⟩:=spot_ok I ht hs
 intro e
 have h5:=(I.spot_lt hm).2
 refine h3 (List.mem_map.2 ⟨hh,hm,?_⟩)
 unfold Hd.pl at e
 show (hh.page,hh.chunk)=(i,k)
 rw [Prod.mk.injEq]
 omega
end
section
variable {x:Ra} {s:Sh} {t:Nat} {X:Im} {i k:Nat}
theorem rep_stand (I:Inv s)(RA:RepA x s)(RB:RepB x s)(ht:t<s.quotas.length)(hX:okI X=true∧szI X≤256)(hn:((t:Int),X.key)∉s.held.map Hd.name)(hs:s.spot t X=some (i,k))(l:Int):
  RepA (({ x.taken t (cls X) i k with last:=l }:Ra).stand (i * 16+k) t (cls X).toNat ((t:Int),X)) (s.putAt t X i k l)∧RepB (({ x.taken t (cls X) i k with last:=l }:Ra).stand (i * 16+k) t (cls X).toNat ((t:Int),X)) (s.putAt t X i k l):=by
 obtain ⟨h1,h2,h3,h4⟩:=spot_ok I ht hs
 have hc:=cls_lt X
 have hpl:=pl_new I ht hs
 have hTn:∀ p∈x.T,p.1≠((t:Int),X.key):=by
  intro p hp e
  have:=RB.T.mem_iff.1 hp
  obtain ⟨h,hh,rfl⟩:=List.mem_map.1 this
  exact hn (List.mem_map.2 ⟨h,hh,e⟩)
 have hLn:∀ p∈x.L,p.1≠((t:Int),X.key):=by
  intro p hp e
  have:=RB.L.mem_iff.1 hp
  obtain ⟨h,hh,rfl⟩:=List.mem_map.1 this
  exact hn (List.mem_map.2 ⟨h,(List.mem_filter.1 hh).1,e⟩)
 have hrow:((i * 16+k:Nat):Int)∉x.row:=by
  rw [RB.row]
  intro hm
  obtain ⟨h,hh,e⟩:=List.mem_map.1 hm
  exact hpl h hh (by omega)
 refine ⟨⟨RA.quo,RA.now,?_,?_,rfl⟩,⟨?_,?_,?_,?_,?_⟩⟩
 ·show x.pages.set i (Sb.taken x.pages t (cls X) i k)=s.pages.set i (taken s.pages t (cls X) i k)
  rw [RA.pages]
 ·intro t' c' h5 h6
  show upn x.ord _ _ (t' * 5+c')=upd s.ord t (cls X) _ t' c'
  have ho:=RA.at_ (t:=(t:Int)) (c:=cls X) ⟨by omega,by omega⟩ hc
  rw [Int.toNat_natCast] at ho
  by_cases e:(t':Int)=t∧(c':Int)=cls X
  ·obtain ⟨e1,e2⟩:=e
   have e3:t'=t:=by omega
   subst e3
   have e4:(cls X).toNat=c':=by omega
   rw [e4] at ho
   show upn x.ord (t' * 5+(cls X).toNat) ((x.ord (t' * 5+(cls X).toNat)).add X.key) (t' * 5+c')=_
   rw [e4,upn_same,e2,upd_same,ho]
  ·rw [upd_other e,upn_other,RA.ord t' c' h5 h6]
   intro e2
   exact e ⟨by omega,by omega⟩
 ·show List.Perm ((((t:Int),X.key),((i * 16+k:Nat):Int))::strikeN ((t:Int),X.key) x.T) ((s.held++[(⟨t,X,i,k⟩:Hd)]).map _)
  rw [strike_not hTn,List.map_append]
  refine ((RB.T.cons _).trans ?_)
  exact (List.perm_append_singleton _ _).symm
 ·show (dueL x.L ((t:Int),X)).Perm (((s.held++[(⟨t,X,i,k⟩:Hd)]).filter _).map _)
  rw [List.filter_append,List.map_append]
  unfold dueL
  rw [strike_not hLn]
  by_cases e:X.till=0
  ·rw [if_pos e]
   simpa [e] using RB.L
  ·rw [if_neg e]
   have:([(⟨t,X,i,k⟩:Hd)].filter fun h=>decide (h.item.till≠0))=[⟨t,X,i,k⟩]:=by simp [e]
   rw [this]
   refine ((RB.L.cons _).trans ?_)
   exact (List.perm_append_singleton _ _).symm
 ·show (x.kept.set _ _).length=(s.pages.set _ _).length * 16
  rw [List.length_set,List.length_set,RB.kl]
 ·intro h hh
  have hh':h∈s.held++[⟨t,X,i,k⟩]:=hh
  show (x.kept.set (i * 16+k) ((t:Int),X))[h.pl]? = _
  rcases List.mem_append.1 hh' with h5 | h5
  ·rw [List.getElem?_set_ne fun e=>hpl h h5 e.symm]
   exact RB.kept h h5
  ·simp only [List.mem_singleton] at h5
   subst h5
   show (x.kept.set (i * 16+k) ((t:Int),X))[i * 16+k]? = _
   rw [List.getElem?_set_self (by rw [RB.kl];omega)]
 ·show x.row.erase _++[_]=(s.held++[_]).map _
  rw [List.erase_of_not_mem hrow,List.map_append,RB.row]
  rfl
theorem stand_m {N:Nat}{A:Ad}(I:Inv s)(RA:RepA x s)(RB:RepB x s)(ht:t<s.quotas.length)(hX:okI X=true∧szI X≤256)(hd:dueI X s.now=false)(hn:((t:Int),X.key)∉s.held.map Hd.name)(hs:s.spot t X=some (i,k))(hN:N<100000000)(l:Int){W:World}{F0:Cp→Nat→Prop}(hE:Eg N W A { x.taken t (cls X) i k with last:=l } F0):
  Calls Tryz.prog 114 #[ptr A.b,.int .i64 (i * 16+k:Nat),.agg (EK.cells ((t:Int),X)).toArray] W fun e w'=>e=.returned (.tuple #[])∧∃ F',Lv (N+2) A (({ x.taken t (cls X) i k with last:=l }:Ra).stand (i * 16+k) t (cls X).toNat ((t:Int),X)) F0 W w' F':=by
 obtain ⟨h1,h2,h3,h4⟩:=spot_ok I ht hs
 have hc:=cls_lt X
 have hl:=RB.lens I
 have hk:=I.many
 have ho:=RA.at_ (t:=(t:Int)) (c:=cls X) ⟨by omega,by omega⟩ hc
 rw [Int.toNat_natCast] at ho
 have hXk:1≤X.key.size∧X.key.size≤32∧X.value.size≤512:=by
  have:=hX.1
  unfold okI at this
  simp only [Bool.and_eq_true,decide_eq_true_eq] at this
  exact this.1
 have hlen:i<(x.pages.set i (Sb.taken x.pages t (cls X) i k)).length:=by rw [List.length_set,RA.pages];exact h1
 have hdiv:(i * 16+k) / 16=i:=by omega
 have hnl:X.key∉(x.ord (t * 5+(cls X).toNat)).line:=by
  rw [ho]
  intro hm
  obtain ⟨h,hh,q1,_,q3⟩:=(I.keys _ _ _).1 hm
  exact hn (List.mem_map.2 ⟨h,hh,by unfold Hd.name;rw [q1,q3]⟩)
 have hll:(x.ord (t * 5+(cls X).toNat)).line.length<256:=by
  rw [ho]
  have q1:=I.line_len t (cls X)
  have q2:=List.length_filter_le (fun h=>decide (h.tenant=(t:Int)∧cls h.item=cls X)) s.held
  have P:=plc_of (cls_isC X) (hs:place s.pages t (cls X) (qAt s.quotas t)=some (i,k))
  have q3:=(I.put 0 (t:=(t:Int)) ⟨by omega,by omega⟩ hX hd hn hs).many
  have q4:(s.putAt t X i k 0).held.length=s.held.length+1:=by show (s.held++[_]).length=_;simp
  omega
 exact stand_any hE (p:=i * 16+k) (i:=i) (t:=t) (c:=(cls X).toNat) (z:=((t:Int),X)) (by show _<x.kept.length;rw [RB.kl];omega) (by show x.kept.length≤_;omega) (by show x.row.length≤_;omega) (by show x.T.length<_;omega) hdiv hlen
  (by show (x.pages.set i (Sb.taken x.pages t (cls X) i k))[i].t=_;rw [List.getElem_set_self];rfl) (by show (x.pages.set i (Sb.taken x.pages t (cls X) i k))[i].c=_;rw [List.getElem_set_self,Int.toNat_of_nonneg hc.1];rfl) h4 (by omega)
  (by show (x.ord _).ok;rw [ho];exact I.oks _ _) hnl hll ⟨by show (0:Int)≤(t:Int);omega,by show (t:Int)<4;omega,hXk.1,hXk.2.1⟩ (by show X.value.size≤_;omega) hN (by show X.till=0∨((x.now:Int)<X.till∧_);rw [RA.now];exact due_not hd hX.1 I.mom)
end
end Go.Proofs.YtcdpiefflnaghaaGreatDoor.En
namespace Go.Proofs.YtcdpiefflnaghaaGreatDoor.En
open Go.Proofs.YtcdpiefflnaghaaGreatDoor.It
open Go.Proofs.YtcdpiefflnaghaaGreatDoor.Lr
open Go.Proofs.YtcdpiefflnaghaaGreatDoor.Qt
open Go.Proofs.YtcdpiefflnaghaaGreatDoor.Sb
open Go.RowKit Go.Proofs.YtcdpiefflnaghaaGreatDoor
structure Cgs (N:Nat)(A:Ad)(s':Sh)(F:Cp→Nat→Prop)(w w':World)(lo:Option Addr)(C:List Ch)(lc:Nat):Prop where
 rd:GRd EC w' lo C lc
 lv:∃ F' x',Lv N A x' F w w' F'∧RepA x' s'∧RepB x' s'∧∀ a,lo=some a→¬ Un F' a.block∧w.heap.size≤a.block∧a.block<w'.heap.size
theorem Cgs.none {N:Nat}{A:Ad}{s:Sh}{x:Ra}{F F':Cp→Nat→Prop}{w w':World}(h:Lv N A x F w w' F')(RA:RepA x s)(RB:RepB x s):Cgs N A s F w w' none [] 0:=⟨GRd.nil _,F',x,h,RA,RB,fun a ha=>by cases ha⟩
theorem tks_of {x:Ra}{s:Sh}(I:Inv s)(RA:RepA x s){t:Nat}(ht:t<s.quotas.length)(X:Im):Tks x t (cls X).toNat (qAt s.quotas t):=by
 have h1:=chkE_may I.quo
 have hT:=I.tOk (t:=(t:Int)) ⟨by omega,by omega⟩
 have hc:=cls_lt X
 have hq:s.quotas[t]? = some s.quotas[t]:=List.getElem?_eq_getElem ht
 have hqa:qAt s.quotas t=s.quotas[t]:=by unfold qAt;rw [Int.toNat_natCast,hq];rfl
 have hin:=mayQ_in h1.2.2 s.quotas[t] (List.getElem_mem ht)
 refine ⟨by rw [RA.pages];exact I.slab,by simp [isT] at hT;omega,by omega,by rw [RA.quo,hqa];exact hq,?_⟩
 rw [hqa]
 exact hin
section
variable {N:Nat} {A:Ad} {s s1:Sh} {x xa:Ra} {t:Nat} {X:Im} (I:Inv s) (I1:Inv s1) (hq:s1.quotas=s.quotas) (RA:RepA xa s1) (RB:RepB xa s) (hsub:∀ h∈s1.held,h∈s.held) (ht:t<s.quotas.length)
include I1 hq RA ht
theorem room1 {i k:Nat}(hs:s1.spot t X=some (i,k)){W:World}{F0:Cp→Nat→Prop}(hE:Eg N W A xa F0):
  Calls Tryz.prog 247 #[ptr A.b,.int .i64 t,.int .i64 ((cls X).toNat:Nat)] W fun e w'=>∃ vo vc,e=.returned (.tuple #[.int .i64 (i * 16+k:Nat),.slice vo ([]:List (Nat × (Int × Im))).length vc,.bool true])∧GRd EI w' vo (([]:List (Nat × (Int × Im))).map fun y=>(y.1:Int)) vc∧∃ F',Lv N A (xa.taken t (cls X) i k) F0 W w' F'∧∀ a,vo=some a→¬ Un F' a.block∧a.block<w'.heap.size:=by
 have ht1:t<s1.quotas.length:=by rw [hq];exact ht
 obtain ⟨h1,h2,h3,h4⟩:=spot_ok I1 ht1 hs
 have hc:=cls_lt X
 have hcE:(((cls X).toNat:Nat):Int)=cls X:=Int.toNat_of_nonneg hc.1
 have hp:place xa.pages t ((cls X).toNat:Nat) (qAt s1.quotas t)=some (i,k):=by rw [hcE,RA.pages];exact hs
 refine (room_now hE (tks_of I1 RA ht1 X) hp (by rw [RA.pages];exact h1) h2).mono ?_
 rintro e w' ⟨rfl,F',hL⟩
 refine ⟨none,0,rfl,GRd.nil _,F',?_,fun a ha=>by cases ha⟩
 rw [hcE] at hL
 exact hL
theorem room0 (hs:s1.spot t X=none)(hl:(s1.ord t (cls X)).line=[]){W:World}{F0:Cp→Nat→Prop}(hE:Eg N W A xa F0):
  Calls Tryz.prog 247 #[ptr A.b,.int .i64 t,.int .i64 ((cls X).toNat:Nat)] W fun e w'=>e=.returned (.tuple #[.int .i64 0,.slice none 0 0,.bool false])∧Below W.heap.size W w':=by
 have ht1:t<s1.quotas.length:=by rw [hq];exact ht
 have hT:=(tks_of I1 RA ht1 X).ht4
 have hc:=cls_lt X
 have hcE:(((cls X).toNat:Nat):Int)=cls X:=Int.toNat_of_nonneg hc.1
 have ho:=RA.at_ (t:=(t:Int)) (c:=cls X) ⟨by omega,by omega⟩ hc
 rw [Int.toNat_natCast] at ho
 exact room_none hE (tks_of I1 RA ht1 X) (by rw [hcE,RA.pages];exact hs) (by rw [ho];exact I1.oks _ _) (by rw [ho];exact hl)
include I RB hsub
theorem room2 {v:ByteArray}(hs:s1.spot t X=none)(hl:(s1.ord t (cls X)).line.getLast? = some v){j:Nat}(hj:j<s1.held.length)(hjt:s1.held[j].tenant=(t:Int))(hjc:cls s1.held[j].item=cls X)(hjk:s1.held[j].item.key=v){i k:Nat}(hs2:(s1.leave j).spot t X=some (i,k)){W:World}{F0:Cp→Nat→Prop}(hE:Eg N W A xa F0):
  Calls Tryz.prog 247 #[ptr A.b,.int .i64 t,.int .i64 ((cls X).toNat:Nat)] W fun e w'=>∃ vo vc,e=.returned (.tuple #[.int .i64 (i * 16+k:Nat),.slice vo [(s1.held[j].pl,((t:Int),s1.held[j].item))].length vc,.bool true])∧GRd EI w' vo ([(s1.held[j].pl,((t:Int),s1.held[j].item))].map fun y=>(y.1:Int)) vc∧∃ F',Lv N A ((xa.release s1.held[j].pl (t * 5+(cls X).toNat) v).taken t (cls X) i k) F0 W w' F'∧∀ a,vo=some a→¬ Un F' a.block∧a.block<w'.heap.size:=by
 have ht1:t<s1.quotas.length:=by rw [hq];exact ht
 have hT:=(tks_of I1 RA ht1 X).ht4
 have hc:=cls_lt X
 have hcE:(((cls X).toNat:Nat):Int)=cls X:=Int.toNat_of_nonneg hc.1
 have ho:=RA.at_ (t:=(t:Int)) (c:=cls X) ⟨by omega,by omega⟩ hc
 rw [Int.toNat_natCast] at ho
 have hm1:=List.getElem_mem hj
 have hm:=hsub _ hm1
 have hnm:s1.held[j].name=((t:Int),v):=by unfold Hd.name;rw [hjt,hjk]
 obtain ⟨j2,hj2⟩:=at_mem (s:=s) (List.mem_map.2 ⟨_,hm,hnm⟩)
 obtain ⟨hj2l,hlk⟩:=lk_some I RB hj2
 have hsame:s.held[j2]=s1.held[j]:=I.one (List.getElem_mem hj2l) hm (by rw [(at_some hj2).2,hnm])
 rw [hsame] at hlk
 have hL:=lvs_of I I1 RA RB hm hm1
 rw [hjt,hjc,Int.toNat_natCast] at hL
 have I2:=I1.leave hj
 have RA2:=RA.release I1 hj
 rw [hjt,hjc,hjk,Int.toNat_natCast] at RA2
 rw [leave_eq hj] at hs2
 have ht2:t<(s1.leaveH j s1.held[j]).quotas.length:=ht1
 obtain ⟨h1,h2,h3,h4⟩:=spot_ok I2 ht2 hs2
 have hp2:place (xa.release s1.held[j].pl (t * 5+(cls X).toNat) v).pages t ((cls X).toNat:Nat) (qAt s1.quotas t)=some (i,k):=by rw [hcE,RA2.pages];exact hs2
 refine (room_evict hE (tks_of I1 RA ht1 X) (by rw [hcE,RA.pages];exact hs) (by rw [ho];exact I1.oks _ _) (by rw [ho];exact hl) hlk hL hjk rfl hp2 (by rw [RA2.pages];exact h1) h2 (by rw [RA2.pages];exact I2.slab)).mono ?_
 rintro e w' ⟨vo,vc,rfl,hR,F',hLv,hA⟩
 refine ⟨vo,vc,rfl,hR,F',?_,fun a ha=>⟨(hA a ha).1,(hA a ha).2.2⟩⟩
 rw [hcE] at hLv
 exact hLv
end
end Go.Proofs.YtcdpiefflnaghaaGreatDoor.En
namespace Go.Proofs.YtcdpiefflnaghaaGreatDoor.En
open Go.Proofs.YtcdpiefflnaghaaGreatDoor.It
open Go.Proofs.YtcdpiefflnaghaaGreatDoor.Lr
open Go.Proofs.YtcdpiefflnaghaaGreatDoor.Qt
open Go.Proofs.YtcdpiefflnaghaaGreatDoor.Sb
open Go.RowKit Go.Proofs.YtcdpiefflnaghaaGreatDoor
theorem okN_of {t:Nat}{X:Im}(ht:t<4)(hX:okI X=true):okN ((t:Int),X.key):=by
 unfold okI at hX
 simp only [Bool.and_eq_true,decide_eq_true_eq] at hX
 exact ⟨by show (0:Int)≤(t:Int);omega,by show (t:Int)<4;omega,hX.1.1,hX.1.2.1⟩
theorem victim_of {s:Sh}(I:Inv s){t:Nat}{X:Im}{v:ByteArray}(hl:(s.ord t (cls X)).line.getLast? = some v):∃ j,s.at t v=some j∧∃ hj:j<s.held.length,s.held[j].tenant=(t:Int)∧cls s.held[j].item=cls X∧s.held[j].item.key=v∧∃ z,(s.leave j).spot t X=some z:=by
 have hv:v∈(s.ord t (cls X)).line:=List.mem_of_getLast? hl
 obtain ⟨h,hh,q1,q2,q3⟩:=(I.keys _ _ _).1 hv
 have hnm:((t:Int),v)∈s.held.map Hd.name:=List.mem_map.2 ⟨h,hh,by unfold Hd.name;rw [q1,q3]⟩
 obtain ⟨j,hj⟩:=at_mem hnm
 obtain ⟨hjl,hjn⟩:=at_some hj
 have hjh:s.held[j]=h:=I.one (List.getElem_mem hjl) hh (by rw [hjn];unfold Hd.name;rw [q1,q3])
 obtain ⟨z,hz⟩:=I.place_behind hjl
 rw [hjh,q1,q2,← hjh,← leave_eq hjl] at hz
 refine ⟨j,hj,hjl,by rw [hjh];exact q1,by rw [hjh];exact q2,by rw [hjh];exact q3,z,?_⟩
 unfold Sh.spot
 rw [(Kin.leave I hjl).quo]
 exact hz
theorem forget_m {N:Nat}{A:Ad}{s:Sh}{x:Ra}(I:Inv s)(hk:x.kept.length≤256∧x.row.length≤256∧x.T.length≤256){h:Hd}(hm:h∈s.held)(hkp:x.kept[h.pl]? = some (h.tenant,h.item)){W:World}{F0:Cp→Nat→Prop}(hE:Eg N W A x F0):
  Calls Tryz.prog 96 #[ptr A.b,.int .i64 h.pl] W fun e w'=>e=.returned (.agg #[.int .i64 h.tenant,.string h.item.key])∧∃ F',Lv N A (x.forget h.pl h.name) F0 W w' F':=
 forget_z hE hkp (by omega) (by omega) (I.okN hm) (by omega)
theorem put_m {N:Nat}{A:Ad}{s:Sh}{x:Ra}{F:Cp→Nat→Prop}{w:World}(I:Inv s)(hE:Eg N w A x F)(RA:RepA x s)(RB:RepB x s){t:Nat}(ht:t<s.quotas.length){X:Im}(hd:dueI X s.now=false)(hN:N<100000000):
  Calls Tryz.prog 190 #[ptr A.b,.int .i64 t,X.v] w fun e w'=>∃ lo lc,e=.returned (.tuple #[.int .u8 (s.put t X).2.1,.slice lo (s.put t X).2.2.length lc])∧Cgs (N+2) A (s.put t X).1 F w w' lo (s.put t X).2.2 lc:=by
 by_cases hX:okI X=true∧szI X≤256
 case neg=>
  have e:s.put t X=(s,4,[]):=by unfold Sh.put;rw [if_neg hX]
  rw [e]
  refine (put_large hE hX).mono ?_
  rintro e w' ⟨rfl,hb⟩
  exact ⟨none,0,rfl,Cgs.none ((hE.lv hb).mono (by omega)) RA RB⟩
 have hT4:=(tks_of I RA ht X).ht4
 have hcE:cls X=(((cls X).toNat:Nat):Int):=(Int.toNat_of_nonneg (cls_lt X).1).symm
 have hnN:=okN_of hT4 hX.1
 have hlens:=RB.lens I
 have hTl:x.T.length≤1000:=by omega
 have hP:s.put t X=match (s.elder t X.key).spot t X with
   | some z=>((s.elder t X.key).putN t X z,1,[.put t (X.num (nx s.last))])
   | none=>match ((s.elder t X.key).ord t (cls X)).line.getLast? with
    | none=>(s,5,[])
    | some v=>match (s.elder t X.key).at t v with
     | none=>(s,5,[])
     | some j=>match ((s.elder t X.key).leave j).spot t X with
      | none=>(s,5,[])
      | some z=>(((s.elder t X.key).leave j).putN t X z,1,[.drop t v 2,.put t (X.num (nx s.last))]):=by
  unfold Sh.put
  rw [if_pos hX]
  rfl
 obtain ⟨K1,hk1,hl1,hn1,hin1,_⟩:=elder_spec I t X.key
 cases hat:s.at t X.key with
 | none=>
  have hel:s.elder t X.key=s:=by unfold Sh.elder;rw [hat]
  rw [hel] at hP hn1
  have hlk:=lk_none I RB hat
  cases hsp:s.spot t X with
  | some z=>
   obtain ⟨i,k⟩:=z
   rw [hsp] at hP
   dsimp only at hP
   rw [hP]
   have hst:=rep_stand (X:=X.num (nx s.last)) I RA RB ht hX hn1 hsp (nx s.last)
   refine (put_done_new (xa:=x) (xb:=x.taken t (cls X) i k) (xc:=x.taken t (cls X) i k) (xs:=fun _=>x.taken t (cls X) i k) (vs:=[]) (pl:=i * 16+k) hE hX hcE hnN hTl hlk rfl (by simp) (fun W F0 h=>room1 I rfl RA ht hsp h) rfl rfl (fun j hj=>by simp at hj) rfl rfl
    (fun W F0 h=>by rw [RA.last] at h ⊢;exact stand_m I RA RB ht (X:=X.num (nx s.last)) hX hd hn1 hsp hN (nx s.last) h)).mono ?_
   rintro e w' ⟨lo,lc,rfl,hR,F',hL,hA⟩
   rw [RA.last] at hR
   exact ⟨lo,lc,rfl,hR,F',_,hL,hst.1,hst.2,hA⟩
  | none=>
   rw [hsp] at hP
   dsimp only at hP
   cases hlast:(s.ord t (cls X)).line.getLast? with
   | none=>
    rw [hlast] at hP
    dsimp only at hP
    rw [hP]
    have hnil:(s.ord t (cls X)).line=[]:=by simpa using hlast
    refine (put_mem_new (xa:=x) (pg:=x.pages) (od:=x.ord) hE hX hcE hnN hTl hlk rfl rfl (fun W F0 h=>room0 I rfl RA ht hsp hnil h)).mono ?_
    rintro e w' ⟨rfl,F',hL⟩
    exact ⟨none,0,rfl,Cgs.none (hL.mono (by omega)) RA RB⟩
   | some v=>
    obtain ⟨j,hj,hjl,hjt,hjc,hjk,⟨i,k⟩,hs2⟩:=victim_of I hlast
    rw [hlast] at hP
    dsimp only at hP
    rw [hj] at hP
    dsimp only at hP
    rw [hs2] at hP
    dsimp only at hP
    rw [hP]
    have hm:=List.getElem_mem hjl
    have I2:=I.leave hjl
    have RA2:=RA.release I hjl
    rw [hjt,hjc,hjk,Int.toNat_natCast] at RA2
    have RB2:=RB.forget I hjl
    rw [leave_eq hjl] at hs2 ⊢
    obtain ⟨xq,hxq⟩:∃ xq,xq=(x.release s.held[j].pl (t * 5+(cls X).toNat) v).forget s.held[j].pl s.held[j].name:=⟨_,rfl⟩
    have RAq:RepA xq (s.leaveH j s.held[j]):=by rw [hxq];exact RA2.forget _ _
    have RBq:RepB xq (s.leaveH j s.held[j]):=by rw [hxq];exact ⟨RB2.T,RB2.L,RB2.kl,RB2.kept,RB2.row⟩
    have hn2:((t:Int),X.key)∉(s.leaveH j s.held[j]).held.map Hd.name:=fun hm=>by
     obtain ⟨y,hy,e⟩:=List.mem_map.1 hm
     exact hn1 (List.mem_map.2 ⟨y,mem_of_eraseIdx hy,e⟩)
    have hst:=rep_stand (X:=X.num (nx s.last)) I2 RAq RBq ht hX hn2 hs2 (nx s.last)
    have hxsd:({ xq.taken t (cls X) i k with last:=nx s.last }:Ra)={ (((x.release s.held[j].pl (t * 5+(cls X).toNat) v).taken t (cls X) i k).forget s.held[j].pl s.held[j].name) with last:=nx s.last }:=by rw [hxq];rfl
    refine (put_done_new (xa:=x) (xb:=(x.release s.held[j].pl (t * 5+(cls X).toNat) v).taken t (cls X) i k) (xc:=(x.release s.held[j].pl (t * 5+(cls X).toNat) v).taken t (cls X) i k)
     (xs:=fun n=>if n=0 then (x.release s.held[j].pl (t * 5+(cls X).toNat) v).taken t (cls X) i k else ((x.release s.held[j].pl (t * 5+(cls X).toNat) v).taken t (cls X) i k).forget s.held[j].pl s.held[j].name) (vs:=[(s.held[j].pl,((t:Int),s.held[j].item))]) (pl:=i * 16+k) (xd:={ xq.taken t (cls X) i k with last:=nx s.last })
     hE hX hcE hnN hTl hlk rfl (by simp) (fun W F0 h=>room2 I I rfl RA RB (fun h hh=>hh) ht hsp hlast hjl hjt hjc hjk (by rw [leave_eq hjl];exact hs2) h) rfl rfl ?_ (by rfl) (by rw [hxsd,RA.last];rfl)
     (fun W F0 h=>by rw [RA.last];exact stand_m I2 RAq RBq ht (X:=X.num (nx s.last)) hX hd hn2 hs2 hN (nx s.last) h)).mono ?_
    ·intro n hn W F0 h
     have hn0:n=0:=by simp at hn;omega
     subst hn0
     have hf:=forget_m I (x:=(x.release s.held[j].pl (t * 5+(cls X).toNat) v).taken t (cls X) i k) hlens hm (RB.kept _ hm) h
     rw [hjt] at hf
     exact hf
    ·rintro e w' ⟨lo,lc,rfl,hR,F',hL,hA⟩
     rw [RA.last] at hR
     simp only [List.map_cons,List.map_nil,List.cons_append,List.nil_append,hjk] at hR
     exact ⟨lo,lc,rfl,hR,F',_,hL,hst.1,hst.2,hA⟩
 | some i0=>
  obtain ⟨hi0,hnm0⟩:=at_some hat
  have hel:s.elder t X.key=s.leaveH i0 s.held[i0]:=by unfold Sh.elder;rw [hat];exact leave_eq hi0
  rw [hel] at hP hn1 hin1 hl1
  obtain ⟨_,hlk⟩:=lk_some I RB hat
  have hm0:=List.getElem_mem hi0
  have hL0:=lvs_of I I RA RB hm0 hm0
  have I1:=I.leave hi0
  obtain ⟨xa,hxa⟩:∃ xa,xa=x.release s.held[i0].pl (s.held[i0].tenant.toNat * 5+(cls s.held[i0].item).toNat) s.held[i0].item.key:=⟨_,rfl⟩
  have RAa:RepA xa (s.leaveH i0 s.held[i0]):=by rw [hxa];exact RA.release I hi0
  have RBa:RepB xa s:=by rw [hxa];exact RB.release _ _ _
  have RB1:=RB.forget I hi0
  have hrel:∀ W F0,Eg N W A x F0→Calls Tryz.prog 95 #[ptr A.b,.int .i64 s.held[i0].pl] W fun e w'=>e=.returned (.tuple #[])∧∃ F',Lv N A xa F0 W w' F':=fun W F0 h=>by rw [hxa];exact release_l h hL0
  have hxr:xa={ x with pages:=xa.pages,ord:=xa.ord }:=by rw [hxa];rfl
  have hsub:∀ h∈(s.leaveH i0 s.held[i0]).held,h∈s.held:=fun h hh=>mem_of_eraseIdx hh
  have hlast1:(s.leaveH i0 s.held[i0]).last=s.last:=rfl
  have hka:∀ q:List Pg,(({ xa with pages:=q }:Ra)).kept[s.held[i0].pl]? = some (s.held[i0].tenant,s.held[i0].item):=fun q=>RBa.kept _ hm0
  have hlensa:=RBa.lens I
  obtain ⟨s1,hs1⟩:∃ s1,s1=s.leaveH i0 s.held[i0]:=⟨_,rfl⟩
  have hq1:s1.quotas=s.quotas:=by rw [hs1];rfl
  have hd1:dueI X s1.now=false:=by rw [hs1];exact hd
  rw [← hs1] at hP hn1 I1 RAa RB1 hlast1
  have hsub1:∀ h∈s1.held,h∈s.held:=by rw [hs1];exact hsub
  have ht1:t<s1.quotas.length:=by rw [hq1];exact ht
  clear hsub
  cases hsp:s1.spot t X with
  | some z=>
   obtain ⟨i,k⟩:=z
   rw [hsp] at hP
   dsimp only at hP
   have hnxt:s1.putN t X (i,k)=s1.putAt t (X.num (nx s.last)) i k (nx s.last):=by
    show s1.putAt t (X.num (nx s1.last)) i k (nx s1.last)=_
    rw [hlast1]
   rw [hP,hnxt]
   obtain ⟨xq,hxq⟩:∃ xq,xq=xa.forget s.held[i0].pl s.held[i0].name:=⟨_,rfl⟩
   have RAq:RepA xq s1:=by rw [hxq];exact RAa.forget _ _
   have RBq:RepB xq s1:=by rw [hxq,hxa];exact ⟨RB1.T,RB1.L,RB1.kl,RB1.kept,RB1.row⟩
   have hst:=rep_stand (X:=X.num (nx s.last)) I1 RAq RBq ht1 hX hn1 hsp (nx s.last)
   have hxsd:({ xq.taken t (cls X) i k with last:=nx s.last }:Ra)={ ((xa.taken t (cls X) i k).forget s.held[i0].pl s.held[i0].name) with last:=nx s.last }:=by rw [hxq];rfl
   refine (put_done_over (xa:=xa) (xb:=xa.taken t (cls X) i k) (xc:=(xa.taken t (cls X) i k).forget s.held[i0].pl s.held[i0].name) (n0:=s.held[i0].name) (xs:=fun _=>(xa.taken t (cls X) i k).forget s.held[i0].pl s.held[i0].name) (vs:=[]) (pl:=i * 16+k) (xd:={ xq.taken t (cls X) i k with last:=nx s.last }) hE hX hcE hnN hTl hlk hrel (by simp) (fun W F0 h=>room1 I1 hq1 RAa ht hsp h)
    (fun W F0 h=>forget_m (x:=xa.taken t (cls X) i k) I hlensa hm0 (RBa.kept _ hm0) h) rfl (fun j hj=>by simp at hj) (by rw [hxa];rfl) (by rw [hxsd,RA.last])
    (fun W F0 h=>by rw [RA.last];exact stand_m I1 RAq RBq ht1 (X:=X.num (nx s.last)) hX hd1 hn1 hsp hN (nx s.last) h)).mono ?_
   rintro e w' ⟨lo,lc,rfl,hR,F',hL,hA⟩
   rw [RA.last] at hR
   exact ⟨lo,lc,rfl,hR,F',_,hL,hst.1,hst.2,hA⟩
  | none=>
   rw [hsp] at hP
   dsimp only at hP
   cases hlast:(s1.ord t (cls X)).line.getLast? with
   | none=>
    rw [hlast] at hP
    dsimp only at hP
    rw [hP]
    have hnil:(s1.ord t (cls X)).line=[]:=by simpa using hlast
    refine (put_mem_over (xa:=xa) hE hX hcE hnN hTl hlk hrel hxr (fun W F0 h=>room0 I1 hq1 RAa ht hsp hnil h)).mono ?_
    rintro e w' ⟨rfl,F',hL⟩
    exact ⟨none,0,rfl,Cgs.none (hL.mono (by omega)) RA RB⟩
   | some v=>
    obtain ⟨j,hj,hjl,hjt,hjc,hjk,⟨i,k⟩,hs2⟩:=victim_of I1 hlast
    rw [hlast] at hP
    dsimp only at hP
    rw [hj] at hP
    dsimp only at hP
    rw [hs2] at hP
    dsimp only at hP
    rw [hP]
    have hm:=List.getElem_mem hjl
    have I2:=I1.leave hjl
    have RA2:=RAa.release I1 hjl
    rw [hjt,hjc,hjk,Int.toNat_natCast] at RA2
    have RB2:=RB1.forget I1 hjl
    rw [leave_eq hjl] at hs2 ⊢
    obtain ⟨pv,hpv⟩:∃ pv,pv=s1.held[j].pl:=⟨_,rfl⟩
    obtain ⟨xr,hxr2⟩:∃ xr,xr=xa.release pv (t * 5+(cls X).toNat) v:=⟨_,rfl⟩
    rw [← hpv,← hxr2] at RA2
    obtain ⟨xq,hxq⟩:∃ xq,xq=(xr.forget s.held[i0].pl s.held[i0].name).forget pv s1.held[j].name:=⟨_,rfl⟩
    have RAq:RepA xq (s1.leaveH j s1.held[j]):=by rw [hxq];exact (RA2.forget _ _).forget _ _
    have RBq:RepB xq (s1.leaveH j s1.held[j]):=by rw [hxq,hxr2,hxa,hpv];exact ⟨RB2.T,RB2.L,RB2.kl,RB2.kept,RB2.row⟩
    have hn2:((t:Int),X.key)∉(s1.leaveH j s1.held[j]).held.map Hd.name:=fun hm=>by
     obtain ⟨y,hy,e⟩:=List.mem_map.1 hm
     exact hn1 (List.mem_map.2 ⟨y,mem_of_eraseIdx hy,e⟩)
    have hls:(s1.leaveH j s1.held[j]).last=s.last:=hlast1
    have hnxt:(s1.leave j).putN t X (i,k)=(s1.leaveH j s1.held[j]).putAt t (X.num (nx s.last)) i k (nx s.last):=by
     rw [leave_eq hjl]
     show (s1.leaveH j s1.held[j]).putAt t (X.num (nx (s1.leaveH j s1.held[j]).last)) i k (nx (s1.leaveH j s1.held[j]).last)=_
     rw [hls]
    rw [leave_eq hjl] at hnxt
    rw [hnxt]
    have ht2:t<(s1.leaveH j s1.held[j]).quotas.length:=by show t<s1.quotas.length;rw [hq1];exact ht
    have hst:=rep_stand (X:=X.num (nx s.last)) I2 RAq RBq ht2 hX hn2 hs2 (nx s.last)
    have hlensr:((xr.taken t (cls X) i k).forget s.held[i0].pl s.held[i0].name).kept.length≤256∧((xr.taken t (cls X) i k).forget s.held[i0].pl s.held[i0].name).row.length≤256∧((xr.taken t (cls X) i k).forget s.held[i0].pl s.held[i0].name).T.length≤256:=by
     have h9:=RB1.lens I1
     rw [hxr2,hxa]
     exact h9
    have hxsd:({ xq.taken t (cls X) i k with last:=nx s.last }:Ra)={ (((xr.taken t (cls X) i k).forget s.held[i0].pl s.held[i0].name).forget pv s1.held[j].name) with last:=nx s.last }:=by rw [hxq];rfl
    refine (put_done_over (xa:=xa) (xb:=xr.taken t (cls X) i k) (xc:=(xr.taken t (cls X) i k).forget s.held[i0].pl s.held[i0].name) (n0:=s.held[i0].name)
     (xs:=fun n=>if n=0 then (xr.taken t (cls X) i k).forget s.held[i0].pl s.held[i0].name else ((xr.taken t (cls X) i k).forget s.held[i0].pl s.held[i0].name).forget pv s1.held[j].name) (vs:=[(pv,((t:Int),s1.held[j].item))]) (pl:=i * 16+k) (xd:={ xq.taken t (cls X) i k with last:=nx s.last })
     hE hX hcE hnN hTl hlk hrel (by simp) (fun W F0 h=>by rw [hxr2,hpv];exact room2 I I1 hq1 RAa RBa hsub1 ht hsp hlast hjl hjt hjc hjk (by rw [leave_eq hjl];exact hs2) h)
     (fun W F0 h=>forget_m (x:=xr.taken t (cls X) i k) I (by rw [hxr2];exact hlensa) hm0 (by rw [hxr2];exact RBa.kept _ hm0) h) rfl ?_ (by rw [hxr2,hxa];rfl) (by rw [hxsd,RA.last];rfl)
     (fun W F0 h=>by rw [RA.last];exact stand_m I2 RAq RBq ht2 (X:=X.num (nx s.last)) hX hd1 hn2 hs2 hN (nx s.last) h)).mono ?_
    ·intro n hn W F0 h
     have hn0:n=0:=by simp at hn;omega
     subst hn0
     have hf:=forget_m I1 (x:=(xr.taken t (cls X) i k).forget s.held[i0].pl s.held[i0].name) hlensr hm (by rw [hxr2,hxa];exact RB1.kept _ hm) h
     rw [hjt,← hpv] at hf
     exact hf
    ·rintro e w' ⟨lo,lc,rfl,hR,F',hL,hA⟩
     rw [RA.last] at hR
     simp only [List.map_cons,List.map_nil,List.cons_append,List.nil_append,hjk] at hR
     exact ⟨lo,lc,rfl,hR,F',_,hL,hst.1,hst.2,hA⟩
end Go.Proofs.YtcdpiefflnaghaaGreatDoor.En
namespace Go.Proofs.YtcdpiefflnaghaaGreatDoor.En
open Go.Proofs.YtcdpiefflnaghaaGreatDoor.It
open Go.Proofs.YtcdpiefflnaghaaGreatDoor.Lr
open Go.Proofs.YtcdpiefflnaghaaGreatDoor.Qt
open Go.Proofs.YtcdpiefflnaghaaGreatDoor.Sb
open Go.RowKit Go.Proofs.YtcdpiefflnaghaaGreatDoor
theorem un_aft {now life:Int}(hn:momI now=true)(hl:0≤life∧life≤1099511627776):It.unV now life=aftI now life:=by
 have h1:It.mom now=true:=by unfold momI at hn;unfold It.mom;simpa using hn
 have h2:It.mom life=true:=by unfold It.mom;simp;omega
 unfold It.unV aftI
 simp [h1,h2]
set_option maxHeartbeats 1000000 in
theorem until_any {N:Nat}{A:Ad}{x:Ra}{F:Cp→Nat→Prop}{w:World}(h:Eg N w A x F)(d:Cd)(hn:momI x.now=true)(hl:0≤d.c.life∧d.c.life≤1099511627776):
  Calls Tryz.prog 191 #[ptr A.b,.agg d.cl.toArray] w fun e w'=>e=.returned (.int .i64 (aftI x.now d.c.life))∧Below w.heap.size w w':=by
 have mixed:Tryz.prog.follows .mixedOrders=true:=by kernel_rfl
 unfold Cd.cl
 obtain ⟨W,hW⟩:∃ W,W=w.alloc (.cells #[.int .u8 d.c.kind,.int .i64 d.c.tenant,.slice d.so d.c.keys.length d.sc,.string d.c.value,.int .u32 d.c.flags,.int .i64 d.c.life,.int .u64 d.c.unique,.int .u64 d.c.by_] 37):=⟨_,rfl⟩
 have HBW:Hid (Below w.heap.size w W):=by rw [hW];exact g_alloc _ _
 have c5:W.cell? ⟨w.heap.size,5,none⟩=some (.int .i64 d.c.life):=by rw [hW];simp
 have cl:w.heap.size<W.heap.size:=by rw [hW];simp
 have HNW:=Hid.m (fun W0 (hb:Below W.heap.size W W0)=>enow_any ((h.below HBW.out).below hb))
 have HUN:=Hid.m (fun W0=>It.iuntil_any x.now d.c.life W0)
 rw [un_aft hn hl] at HUN
 have HCL:Hid (∀ p:Beh W,p.v.cell? ⟨w.heap.size,5,none⟩=some (.int .i64 d.c.life)):=fun p=>cell_beh cl c5 p
 have HLT:Hid (∀ p:Beh W,w.heap.size<p.v.heap.size):=fun p=>Nat.lt_of_lt_of_le cl p.ok.size
 obtain ⟨M,hM⟩:∃ M,M=aftI x.now d.c.life:=⟨_,rfl⟩
 rw [← hM] at HUN ⊢
 clear h hn hl hM c5 cl
 unfold ptr at HNW ⊢
 go_enter Tryz.func191,Tryz.ntmps191
 go_upto_region 1 with (fail)
 rw [← hW]
 clear hW
 have q5:=HCL.out
 have ql:=HLT.out
 refine wp_region_quiet_beh (by assumption) (by kernel_rfl) ?_
 repeat (first | go_big_quiet_skip | (quiet_step (first
  | (go_at_call 47;exact Calls.beh_same (HNW.out _ (by first | exact (Beh.ok _))))
  | (go_at_call 131;exact Calls.beh_same (HUN.out _)))))
 refine wpQuiet_nil ?_
 intro w5 hw'
 obtain ⟨p5,rfl⟩:=hw'
 have HB5:=Hid.m (g_on HBW.out p5.ok)
 go_wp2
 go_ret
 exact ⟨rfl,HB5.out⟩
end Go.Proofs.YtcdpiefflnaghaaGreatDoor.En
namespace Go.Proofs.YtcdpiefflnaghaaGreatDoor.En
open Go.Proofs.YtcdpiefflnaghaaGreatDoor.It
open Go.Proofs.YtcdpiefflnaghaaGreatDoor.Lr
open Go.Proofs.YtcdpiefflnaghaaGreatDoor.Qt
open Go.Proofs.YtcdpiefflnaghaaGreatDoor.Sb
open Go.RowKit Go.Proofs.YtcdpiefflnaghaaGreatDoor
theorem cgs_write {N:Nat}{A:Ad}{s':Sh}{x':Ra}{F F':Cp→Nat→Prop}{w w':World}{lo:Option Addr}{C:List Ch}{lc R n:Nat}(hL:Lv N A x' F w w' F')(RA:RepA x' s')(RB:RepB x' s')(hR:GRd EC w' lo C lc)(hA:∀ a,lo=some a→¬ Un F' a.block∧n≤a.block∧a.block<w'.heap.size)(hu:¬ Un F' R)(hb:w.heap.size≤R)(hn:R<n)(j:Nat)(vs:List Value):
  Cgs N A s' F w (sets w' R j vs) lo C lc:=by
 have hk:=Kpt.grown (sets_grown R vs w' j)
 have hs:=sets_size R vs w' j
 exact ⟨hR.kpt hk fun a ha e=>by have:=(hA a ha).2.1;omega,F',x',hL.write hu hb j,RA,RB,fun a ha=>⟨(hA a ha).1,by have:=(hA a ha).2.1;omega,by have:=(hA a ha).2.2;omega⟩⟩
theorem GRd_str0 {w:World}{ao:Option Addr}{k0:ByteArray}{ks:List ByteArray}{cap:Nat}(h:GRd ES w ao (k0::ks) cap):∃ b off,ao=some ⟨b,off,none⟩∧b<w.heap.size∧w.cell? ⟨b,off,none⟩=some (.string k0):=by
 obtain ⟨b,off,e,hb,hc⟩:=h.lies (by simp)
 have h0:=hc 0 (by simp) 0 (by decide)
 exact ⟨b,off,e,hb,by simpa [ES] using h0⟩
set_option maxHeartbeats 4000000 in
theorem set_m {N:Nat}{A:Ad}{s:Sh}{x:Ra}{F:Cp→Nat→Prop}{w:World}(I:Inv s)(hE:Eg N w A x F)(RA:RepA x s)(RB:RepB x s)(d:Cd){t:Nat}(htn:d.c.tenant=(t:Int))(ht:t<s.quotas.length){k0:ByteArray}{ks:List ByteArray}(hk:d.c.keys=k0::ks)(hK:GRd ES w d.so d.c.keys d.sc)(hO:Off (Un F) d.so)(hl:0≤d.c.life∧d.c.life≤1099511627776)(hN:N<100000000):
  Calls Tryz.prog 140 #[ptr A.b,.agg d.cl.toArray] w fun e w'=>∃ lo lc,e=.returned (.tuple #[.agg #[.int .u8 (s.put t ⟨k0,d.c.value,d.c.flags,aftI s.now d.c.life,0⟩).2.1,.slice none 0 0,.int .u64 0],.slice lo (s.put t ⟨k0,d.c.value,d.c.flags,aftI s.now d.c.life,0⟩).2.2.length lc])∧Cgs (N+2) A (s.put t ⟨k0,d.c.value,d.c.flags,aftI s.now d.c.life,0⟩).1 F w w' lo (s.put t ⟨k0,d.c.value,d.c.flags,aftI s.now d.c.life,0⟩).2.2 lc:=by
 have hda:dueI ⟨k0,d.c.value,d.c.flags,aftI s.now d.c.life,0⟩ s.now=false:=due_of (aft_ok I.mom hl).2
 obtain ⟨W,hW⟩:∃ W,W=(w.alloc (.cells #[.int .u8 d.c.kind,.int .i64 t,.slice d.so d.c.keys.length d.sc,.string d.c.value,.int .u32 d.c.flags,.int .i64 d.c.life,.int .u64 d.c.unique,.int .u64 d.c.by_] 37)).alloc (.cells #[.int .u8 0,.slice none 0 0,.int .u64 0] 30):=⟨_,rfl⟩
 have hBW:Below w.heap.size w W:=by rw [hW];exact g_on (g_alloc _ _) (g_alloc _ _)
 have hWs:W.heap.size=w.heap.size+2:=by rw [hW];simp
 have hBX:GBx W w.heap.size [.int .u8 d.c.kind,.int .i64 t,.slice d.so d.c.keys.length d.sc,.string d.c.value,.int .u32 d.c.flags,.int .i64 d.c.life,.int .u64 d.c.unique,.int .u64 d.c.by_]:=by rw [hW];exact (GBx.made w _ _).alloc _
 have hBR:GBx W (w.heap.size+1) [.int .u8 0,.slice none 0 0,.int .u64 0]:=by
  rw [hW]
  have:=GBx.made (w.alloc (.cells #[.int .u8 d.c.kind,.int .i64 t,.slice d.so d.c.keys.length d.sc,.string d.c.value,.int .u32 d.c.flags,.int .i64 d.c.life,.int .u64 d.c.unique,.int .u64 d.c.by_] 37)) [.int .u8 0,.slice none 0 0,.int .u64 0] 30
  rw [show (w.alloc (.cells #[.int .u8 d.c.kind,.int .i64 t,.slice d.so d.c.keys.length d.sc,.string d.c.value,.int .u32 d.c.flags,.int .i64 d.c.life,.int .u64 d.c.unique,.int .u64 d.c.by_] 37)).heap.size=w.heap.size+1 by simp] at this
  exact this
 have hEW:=hE.below hBW
 have HUR:Hid (¬ Un F (w.heap.size+1)):=fun hu=>by have:=hE.un _ hu;omega
 have HUC:Hid (¬ Un F w.heap.size):=fun hu=>by have:=hE.un _ hu;omega
 have HUT:=Hid.m (fun W0 (hb:Below W.heap.size W W0)=>until_any (hEW.below hb) d (by rw [RA.now];exact I.mom) hl)
 have HPT:=Hid.m (fun W0 (hb:Below W.heap.size W W0)=>put_m I (hEW.below hb) RA RB ht hda hN)
 rw [RA.now] at HUT
 have hK2:=hK
 rw [hk] at hK2
 obtain ⟨kb,kf,hso,hkb,hkc⟩:=GRd_str0 hK2
 have hkn:¬ Un F kb:=hO _ hso
 have HS:Hid (∀ W0,Below W.heap.size W W0→W0.cell? ⟨w.heap.size,0,none⟩=some (.int .u8 d.c.kind)∧W0.cell? ⟨w.heap.size,1,none⟩=some (.int .i64 t)∧W0.cell? ⟨w.heap.size,2,none⟩=some (.slice d.so d.c.keys.length d.sc)∧W0.cell? ⟨w.heap.size,3,none⟩=some (.string d.c.value)∧W0.cell? ⟨w.heap.size,4,none⟩=some (.int .u32 d.c.flags)∧W0.cell? ⟨w.heap.size,5,none⟩=some (.int .i64 d.c.life)∧W0.cell? ⟨w.heap.size,6,none⟩=some (.int .u64 d.c.unique)∧W0.cell? ⟨w.heap.size,7,none⟩=some (.int .u64 d.c.by_)∧W0.cell? ⟨kb,kf,none⟩=some (.string k0)):=fun W0 hb=>by
  have hx:=hBX.below hb
  refine ⟨hx.c 0 (by simp),hx.c 1 (by simp),hx.c 2 (by simp),hx.c 3 (by simp),hx.c 4 (by simp),hx.c 5 (by simp),hx.c 6 (by simp),hx.c 7 (by simp),?_⟩
  exact (((g_on hBW hb).cell (p:=⟨kb,kf,none⟩) hkb).trans hkc)
 have hkl:1≤d.c.keys.length:=by rw [hk];simp
 have hkl2:(0:Int)<(d.c.keys.length:Int):=by omega
 obtain ⟨M,hM⟩:∃ M,M=aftI s.now d.c.life:=⟨_,rfl⟩
 rw [← hM] at HUT HPT ⊢
 obtain ⟨X,hX⟩:∃ X:Im,X=⟨k0,d.c.value,d.c.flags,M,0⟩:=⟨_,rfl⟩
 rw [← hX] at HPT ⊢
 have hXv:X.v=.agg #[.string k0,.string d.c.value,.int .u32 d.c.flags,.int .i64 M,.int .u64 0]:=by rw [hX];rfl
 rw [hXv] at HPT
 obtain ⟨kd,hkd⟩:∃ kd,kd=(s.put t X).2.1:=⟨_,rfl⟩
 obtain ⟨CH,hCH⟩:∃ CH,CH=(s.put t X).2.2:=⟨_,rfl⟩
 obtain ⟨s',hs'⟩:∃ s',s'=(s.put t X).1:=⟨_,rfl⟩
 rw [← hkd,← hCH,← hs'] at HPT ⊢
 obtain ⟨nk,hnk⟩:∃ nk,nk=d.c.keys.length:=⟨_,rfl⟩
 have hnk':=hnk.symm
 unfold Cd.cl at HUT ⊢
 rw [← hnk,htn] at HUT
 rw [← hnk] at HS hW hkl2 ⊢
 rw [htn]
 rw [hso] at HS HUT hW ⊢
 have hkl3:0<nk:=by omega
 have hkl4:(0:Int)≤(nk:Int):=by omega
 obtain ⟨C,hC⟩:∃ C,C=w.heap.size:=⟨_,rfl⟩
 obtain ⟨Rb,hRb⟩:∃ Rb,Rb=w.heap.size+1:=⟨_,rfl⟩
 have HBR:=Hid.m hBR
 have HBW:=Hid.m hBW
 have HBC:=Hid.m hBX
 rw [← hRb] at HBR HUR
 rw [← hC] at HS HBC HUC
 rw [hso,hnk'] at HBC
 have HKN:=Hid.m hkn
 have HKB:Hid (kb<W.heap.size):=by show _<_;omega
 have HRW:Hid (w.heap.size≤Rb∧Rb<W.heap.size):=⟨by omega,by omega⟩
 clear hE hEW RA RB hk hK hK2 hO hda hM hX hXv hkd hCH hs' hnk hnk' hkl hBX hBR hBW hl I htn ht hso hkc hkb hkn hN hWs
 unfold ptr at HUT HPT ⊢
 go_enter Tryz.func140,Tryz.ntmps140
 go_upto_region 1 with (fail)
 rw [← hW,← hRb,← hC]
 clear hW hC hRb
 go_cut [6,7] from 8 (fun s6 s7 wx=>∃ lo lc F' x',s6=.int .u8 kd∧s7=.slice lo CH.length lc∧Hid (Lv (N+2) A x' F W wx F'∧RepA x' s'∧RepB x' s')∧Hid (GRd EC wx lo CH lc∧∀ a,lo=some a→¬ Un F' a.block∧W.heap.size≤a.block∧a.block<wx.heap.size)∧Hid (GBx wx Rb [.int .u8 0,.slice none 0 0,.int .u64 0]∧¬ Un F' Rb))
 case first=>
  go_region_held3 (fun W0=>W0.cell? ⟨C,0,none⟩=some (.int .u8 d.c.kind)∧W0.cell? ⟨C,1,none⟩=some (.int .i64 t)∧W0.cell? ⟨C,2,none⟩=some (.slice (some ⟨kb,kf,none⟩) nk d.sc)∧W0.cell? ⟨C,3,none⟩=some (.string d.c.value)∧W0.cell? ⟨C,4,none⟩=some (.int .u32 d.c.flags)∧W0.cell? ⟨C,5,none⟩=some (.int .i64 d.c.life)∧W0.cell? ⟨C,6,none⟩=some (.int .u64 d.c.unique)∧W0.cell? ⟨C,7,none⟩=some (.int .u64 d.c.by_)∧W0.cell? ⟨kb,kf,none⟩=some (.string k0))
   (first | exact HS.out _ HB1.out | exact HS.out _ (Below.refl _ _) | exact HS.out _ (Below.refl _ _).drew | exact HSP.out)
   (first
   | (go_at_call 190;refine (HPT.out _ HB1.out).mono ?_;rintro e w2 ⟨lo,lc,rfl,hG⟩;obtain ⟨hR2,F2,x2,hL2,rA2,rB2,hA2⟩:=hG;have hbC:=hL2.box (HBC.out.below HB1.out) HUC.out;have HSP:Hid (w2.cell? ⟨C,0,none⟩=some (.int .u8 d.c.kind)∧w2.cell? ⟨C,1,none⟩=some (.int .i64 t)∧w2.cell? ⟨C,2,none⟩=some (.slice (some ⟨kb,kf,none⟩) nk d.sc)∧w2.cell? ⟨C,3,none⟩=some (.string d.c.value)∧w2.cell? ⟨C,4,none⟩=some (.int .u32 d.c.flags)∧w2.cell? ⟨C,5,none⟩=some (.int .i64 d.c.life)∧w2.cell? ⟨C,6,none⟩=some (.int .u64 d.c.unique)∧w2.cell? ⟨C,7,none⟩=some (.int .u64 d.c.by_)∧w2.cell? ⟨kb,kf,none⟩=some (.string k0)):=⟨hbC.1.c 0 (by simp),hbC.1.c 1 (by simp),hbC.1.c 2 (by simp),hbC.1.c 3 (by simp),hbC.1.c 4 (by simp),hbC.1.c 5 (by simp),hbC.1.c 6 (by simp),hbC.1.c 7 (by simp),(World.cell?_of_block (a:=⟨kb,kf,none⟩) (hL2.un.block kb (Nat.lt_of_lt_of_le HKB.out HB1.out.size) HKN.out)).trans (HS.out _ HB1.out).2.2.2.2.2.2.2.2⟩;have HL2:=Hid.m (⟨hL2.from HB1.out,rA2,rB2⟩:Lv (N+2) A x2 F W w2 F2∧RepA x2 s'∧RepB x2 s');have HR2:Hid (GRd EC w2 lo CH lc∧∀ a,lo=some a→¬ Un F2 a.block∧W.heap.size≤a.block∧a.block<w2.heap.size):=⟨hR2,fun a ha=>⟨(hA2 a ha).1,Nat.le_trans HB1.out.size (hA2 a ha).2.1,(hA2 a ha).2.2⟩⟩;have HBR2:=Hid.m (hL2.box (HBR.out.below HB1.out) HUR.out);clear hR2 hL2 rA2 rB2 hA2 hbC)
   | (go_at_call 191;refine (HUT.out _ (by first | exact (Below.refl _ _).drew | exact Below.refl _ _)).mono ?_;rintro e w1 ⟨rfl,hb1⟩;have HB1:Hid (Below W.heap.size W w1):=(by first | exact g_drew hb1 | exact hb1);clear hb1))
  all_goals (go_wp2;go_meet)
  all_goals (case rel=>exact ⟨lo,lc,F2,x2,rfl,rfl,HL2,HR2,HBR2⟩)
 case rest=>
 obtain ⟨lo,lc,F2,x2,rfl,rfl,HL2,HR2,HBR2⟩:=hcut
 obtain ⟨w2,hw2⟩:∃ w2,w2=wc:=⟨_,rfl⟩
 rw [← hw2] at HL2 HR2 HBR2 ⊢
 clear hw2
 have y0:=HBR2.out.1.c 0 (by simp)
 have y1:=HBR2.out.1.c 1 (by simp)
 have y2:=HBR2.out.1.c 2 (by simp)
 have f0:=HBR2.out.1.f 0
 have f1:=HBR2.out.1.f 1
 have f2:=HBR2.out.1.f 2
 have yl:=HBR2.out.1.lt
 simp only [List.getElem_cons_zero,List.getElem_cons_succ] at y0 y1 y2
 have hX:=(((HBR2.out.1.set 0 (.int .u8 kd) (by simp)).set 1 (.slice none 0 0) (by simp)).set 2 (.int .u64 0) (by simp))
 have ZZ0:=Hid.m (hX.c 0 (by simp))
 have ZZ1:=Hid.m (hX.c 1 (by simp))
 have ZZ2:=Hid.m (hX.c 2 (by simp))
 have HCG:=Hid.m (cgs_write (HL2.out.1.from HBW.out) HL2.out.2.1 HL2.out.2.2 HR2.out.1 HR2.out.2 HBR2.out.2 HRW.out.1 HRW.out.2 0 [.int .u8 kd,.slice none 0 0,.int .u64 0])
 unfold sets sets sets sets at HCG
 simp only [List.getElem_cons_zero,List.getElem_cons_succ,List.set_cons_zero,List.set_cons_succ] at ZZ0 ZZ1 ZZ2
 clear hX
 go_wp2
 try simp only [Exit.inBlock,Exit.then]
 refine bodyPost_ret (v:=.tuple #[.agg #[.int .u8 kd,.slice none 0 0,.int .u64 0],.slice lo CH.length lc]) (by simp [results,Tryz.results140,go_sem,ZZ0.out,ZZ1.out,ZZ2.out]) rfl ⟨lo,lc,rfl,HCG.out⟩
end Go.Proofs.YtcdpiefflnaghaaGreatDoor.En
