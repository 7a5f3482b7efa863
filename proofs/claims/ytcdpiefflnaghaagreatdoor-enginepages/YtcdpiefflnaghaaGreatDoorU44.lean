/-
  Package engine and what stands beneath it, part 44: contracts of functions, and what they rest on.
-/
import Derived.Test.YtcdpiefflnaghaaGreatDoorU43
set_option linter.unusedSimpArgs false
set_option linter.unusedVariables false
set_option maxRecDepth 100000
namespace Go.Proofs.YtcdpiefflnaghaaGreatDoor.En
open Go.Proofs.YtcdpiefflnaghaaGreatDoor.It
open Go.Proofs.YtcdpiefflnaghaaGreatDoor.Lr
open Go.Proofs.YtcdpiefflnaghaaGreatDoor.Qt
open Go.Proofs.YtcdpiefflnaghaaGreatDoor.Sb
open Go.RowKit Go.Proofs.YtcdpiefflnaghaaGreatDoor
def Rr (n:Nat)(w:World)(e:Value)(s:Sh)(F:Nat→Prop):Prop:=∃ A x Fc,e=ptr A.b∧Eg (1000 * (n+1)) w A x Fc∧RepA x s∧RepB x s∧Inv s∧F=Un Fc
theorem Cgs.leaves {N n:Nat}{A:Ad}{s':Sh}{F:Cp→Nat→Prop}{w w':World}{lo:Option Addr}{C:List Ch}{lc:Nat}(h:Cgs N A s' F w w' lo C lc)(hN:N≤1000 * (n+1))(I:Inv s'):∃ F',Leaves Rr n (ptr A.b) s' (Un F) w w' lo C lc F':=by
 obtain ⟨hrd,F',x',hL,RA,RB,ha⟩:=h
 exact ⟨Un F',⟨A,x',F',rfl,hL.eg.mono hN,RA,RB,I,rfl⟩,hL.un,hL.subU,hrd,fun a h1 hu=>(ha a h1).1 hu,fun a h1=>(ha a h1).2.1⟩
theorem new_no (n:Int)(q:List Int)(now:Int)(qo:Option Addr)(qc:Nat)(w:World)(h:¬ (0≤n∧chkE n.toNat q=0∧momI now=true))(hR:GRd EI w qo q qc):
  Calls Tryz.prog 11 #[.int .i64 n,.slice qo q.length qc,.int .i64 now] w fun e w'=>∃ f:Int,e=.returned (.tuple #[.pointer none,.int .i64 f])∧¬ f=0∧Below w.heap.size w w':=by
 have HCK:=Hid.m (Qt.qcheck_any n w qo q qc (il_of hR))
 obtain ⟨ql,hql⟩:∃ ql,ql=q.length:=⟨_,rfl⟩
 by_cases hc:chkE n q=0
 ·have hn:0≤n:=by
   have:=chkE_may hc
   omega
  have hm:now<0∨1099511627776<now:=by
   have h1:¬ momI now=true:=fun h2=>h ⟨hn,by rw [Int.toNat_of_nonneg hn];exact hc,h2⟩
   simp only [momI,decide_eq_true_eq] at h1
   omega
  have HWN:=Hid.m (Wh.new_bad w now hm)
  rw [hc] at HCK
  rw [← hql] at HCK ⊢
  clear hc hn hm h hR hql
  go_enter Tryz.func11,Tryz.ntmps11
  go_wp2_with (first
   | (go_at_call 37;refine HCK.out.mono ?_;rintro e w0 ⟨rfl,h0⟩;replace h0:=h0.symm;subst h0)
   | (go_at_call 38;refine HWN.out.mono ?_;rintro e w0 ⟨rfl,h0⟩;replace h0:=h0.symm;subst h0))
  try simp only [Exit.inBlock,Exit.then]
  go_ret2
  exact ⟨2,rfl,by decide,Below.refl _ _⟩
 ·have HF0:=Hid.m hc
  have hf1:(chkE n q != 0)=true:=by simpa using hc
  have hf2:(chkE n q==0)=false:=by simpa using hc
  obtain ⟨f,hf⟩:∃ f,f=chkE n q:=⟨_,rfl⟩
  rw [← hf] at HCK HF0 hf1 hf2
  rw [← hql] at HCK ⊢
  clear hc h hR hql hf
  go_enter Tryz.func11,Tryz.ntmps11
  go_wp2_with (go_at_call 37;refine HCK.out.mono ?_;rintro e w0 ⟨rfl,h0⟩;replace h0:=h0.symm;subst h0)
  try simp only [Exit.inBlock,Exit.then]
  go_ret2
  exact ⟨f,rfl,HF0.out,Below.refl _ _⟩
theorem eng_is:Eng It.Tab Rr where
 lt:=by
  rintro n w e s F ⟨A,x,Fc,rfl,hE,_,_,_,rfl⟩ k hk
  exact hE.un k hk
 stab:=by
  rintro n w w' e s F ⟨A,x,Fc,rfl,⟨V,hE⟩,RA,RB,I,rfl⟩ hs he
  exact ⟨A,x,Fc,rfl,⟨V,Parts.same hE hs he⟩,RA,RB,I,rfl⟩
 inv:=by
  rintro n w e s F ⟨A,x,Fc,rfl,hE,RA,RB,I,rfl⟩
  exact I
 ptr:=by
  rintro n w e s F ⟨A,x,Fc,rfl,hE,RA,RB,I,rfl⟩
  exact ⟨_,rfl⟩
 make:=by
  intro n q now qo qc w hc hm hR
  refine (new_m n q now qo qc w hc hm hR).mono ?_
  rintro e w' ⟨A,rfl,F,x,hE,RA,RB,hk,hb⟩
  exact ⟨_,Un F,rfl,⟨A,x,F,rfl,hE.mono (by omega),RA,RB,new_inv hc hm,rfl⟩,hk,hb⟩
 makes:=by
  intro n q now qo qc w h hR
  exact new_no n q now qo qc w h hR
 cmd:=by
  rintro n w e s F d hn hc ⟨A,x,Fc,rfl,hE,RA,RB,I,rfl⟩ hK hO hby
  refine (do_m I hE RA RB d hK hO hby hc (by omega) (r:=s.op (.cmd d.c)) rfl).mono ?_
  rintro e w' ⟨io,ic,lo,lc,f,rfl,hf,hD⟩
  obtain ⟨F',⟨x',hL,RA',RB'⟩,hi,hl⟩:=hD.lv
  exact ⟨io,ic,lo,lc,f,Un F',rfl,hf,hD.it,fun a ha hu=>(hi a ha).1 hu,fun a ha=>(hi a ha).2.1,⟨⟨A,x',F',rfl,hL.eg.mono (by omega),RA',RB',(I.op _).1,rfl⟩,hL.un,hL.subU,hD.ch,fun a ha hu=>(hl a ha).1 hu,fun a ha=>(hl a ha).2.1⟩⟩
 clock:=by
  rintro n w e s F m hn ⟨A,x,Fc,rfl,hE,RA,RB,I,rfl⟩
  have J:=(I.op (.clock m)).1
  by_cases h:s.now≤m∧momI m=true
  ·have e:s.op (.clock m)=(s.tick m,⟨0,[],0⟩,[.clock m],true):=by unfold Sh.op;simp only;rw [if_pos h]
   rw [e] at J ⊢
   have h2:0≤m∧m≤1099511627776:=by simpa [momI] using h.2
   obtain ⟨k,rfl⟩:∃ k:Nat,m=(k:Int):=⟨m.toNat,by omega⟩
   refine (tick_m I hE RA RB (by omega) h.1 (by omega)).mono ?_
   rintro e w' ⟨lo,lc,rfl,hG⟩
   obtain ⟨F',hL⟩:=hG.leaves (n:=n+1) (by omega) J
   exact ⟨lo,lc,0,F',rfl,rfl,hL⟩
  ·have e:s.op (.clock m)=(s,⟨0,[],0⟩,[],false):=by unfold Sh.op;simp only;rw [if_neg h]
   rw [e]
   refine (tick_no hE RA h).mono ?_
   rintro e w' ⟨rfl,rfl⟩
   obtain ⟨F',hL⟩:=(Cgs.none (Lv.refl hE) RA RB).leaves (n:=n+1) (by omega) I
   exact ⟨none,0,2,F',rfl,rfl,hL⟩
 quota:=by
  rintro n w e s F t p hn ⟨A,x,Fc,rfl,hE,RA,RB,I,rfl⟩
  have J:=(I.op (.quota t p)).1
  by_cases h:setE s.pages.length s.quotas t p=0
  ·have e:s.op (.quota t p)=((s.setQ t p).1,⟨0,[],0⟩,(s.setQ t p).2,true):=by unfold Sh.op;simp only;rw [if_pos h]
   rw [e] at J ⊢
   refine (quota_m I hE RA RB h).mono ?_
   rintro e w' ⟨lo,lc,rfl,hG⟩
   obtain ⟨F',hL⟩:=hG.leaves (n:=n+1) (by omega) J
   exact ⟨lo,lc,0,F',rfl,rfl,hL⟩
  ·have e:s.op (.quota t p)=(s,⟨0,[],0⟩,[],false):=by unfold Sh.op;simp only;rw [if_neg h]
   rw [e]
   refine (quota_no I hE RA h).mono ?_
   rintro e w' ⟨f,rfl,hf,hb⟩
   obtain ⟨F',hL⟩:=(Cgs.none (hE.lv hb) RA RB).leaves (n:=n+1) (by omega) I
   exact ⟨none,0,f,F',rfl,zero_f hf,hL⟩
 image:=by
  rintro n w e s F ⟨A,x,Fc,rfl,hE,RA,RB,I,rfl⟩
  refine (image_m I hE RA RB).mono ?_
  rintro e w' ⟨qo,qc,ko,kc,rfl,h1,h2,h3,h4,hb⟩
  refine ⟨qo,qc,ko,kc,Un Fc,rfl,h1,fun a ha hu=>?_,fun a ha=>(h2 a ha).1,h3,fun a ha hu=>?_,fun a ha=>(h4 a ha).1,⟨A,x,Fc,rfl,hE.below hb,RA,RB,I,rfl⟩,Kpt.of hb,fun k hk=>.inl hk⟩
  ·have:=hE.un _ hu;have:=(h2 a ha).1;omega
  ·have:=hE.un _ hu;have:=(h4 a ha).1;omega
end Go.Proofs.YtcdpiefflnaghaaGreatDoor.En
