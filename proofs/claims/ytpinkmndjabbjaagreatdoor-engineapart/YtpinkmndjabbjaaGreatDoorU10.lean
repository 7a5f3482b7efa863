/-
  Package engine and what stands beneath it, part 10: contracts of functions, and what they rest on.
-/
import Derived.Test.YtpinkmndjabbjaaGreatDoorU04
set_option linter.unusedSimpArgs false
set_option linter.unusedVariables false
set_option maxRecDepth 100000
namespace Go.Proofs.YtpinkmndjabbjaaGreatDoor.En
open Go.Proofs.YtpinkmndjabbjaaGreatDoor.Lr
open Go.Proofs.YtpinkmndjabbjaaGreatDoor.Qt
open Go.Proofs.YtpinkmndjabbjaaGreatDoor.Sb
open Go.RowKit Go.Proofs.YtpinkmndjabbjaaGreatDoor
def oth (t:Int)(l:List (Int × Im)):List (Int × Im):=l.filter fun z=>decide (¬ z.1=t)
theorem oth_own {t:Int}{l:List (Int × Im)}{k:Nat}(hk:k<l.length)(h:l[k].1=t):oth t (l.drop k)=oth t (l.drop (k+1)):=by
 unfold oth
 rw [List.drop_eq_getElem_cons hk,List.filter_cons]
 simp [h]
theorem oth_else {t:Int}{l:List (Int × Im)}{k:Nat}(hk:k<l.length)(h:¬ l[k].1=t):oth t (l.drop k)=l[k]::oth t (l.drop (k+1)):=by
 unfold oth
 rw [List.drop_eq_getElem_cons hk,List.filter_cons]
 simp [h]
theorem o_t {a b:Int}(h:a=b):(a==b)=true:=by simp [h]
theorem o_f {a b:Int}(h:¬ a=b):(a==b)=false:=by simpa using h
set_option maxHeartbeats 16000000 in
theorem others_any (clock t e1 n1 e2 n2:Int)(p1 p2:Bool)(q1 q2:Value)(A B:List (Int × Im))(hAB:oth t A=oth t B)(ka kb:Option Addr)(ca cb:Nat)(w:World)(ha:GRd EK w ka A ca)(hb:GRd EK w kb B cb):
  Calls Tryz.prog 34 #[.agg (imB clock q1 (.slice ka A.length ca) e1 n1 p1).toArray,.agg (imB clock q2 (.slice kb B.length cb) e2 n2 p2).toArray,.int .i64 t] w fun e w'=>e=.returned (.bool true)∧Below w.heap.size w w':=by
 unfold imB
 obtain ⟨W,hW⟩:∃ W,W=(w.alloc (.cells #[.int .i64 clock,q1,.slice ka A.length ca,.int .i64 e1,.int .i64 n1,.bool p1] 41)).alloc (.cells #[.int .i64 clock,q2,.slice kb B.length cb,.int .i64 e2,.int .i64 n2,.bool p2] 41):=⟨_,rfl⟩
 have HBW:Hid (Below w.heap.size w W):=by rw [hW];exact g_on (g_alloc _ _) (g_alloc _ _)
 have HX:Hid (GBx W w.heap.size [.int .i64 clock,q1,.slice ka A.length ca,.int .i64 e1,.int .i64 n1,.bool p1]):=by rw [hW];exact (GBx.made w [.int .i64 clock,q1,.slice ka A.length ca,.int .i64 e1,.int .i64 n1,.bool p1] _).alloc _
 have HY:Hid (GBx W (w.heap.size+1) [.int .i64 clock,q2,.slice kb B.length cb,.int .i64 e2,.int .i64 n2,.bool p2]):=by
  rw [hW]
  have:=GBx.made (w.alloc (.cells #[.int .i64 clock,q1,.slice ka A.length ca,.int .i64 e1,.int .i64 n1,.bool p1] 41)) [.int .i64 clock,q2,.slice kb B.length cb,.int .i64 e2,.int .i64 n2,.bool p2] 41
  rw [show (w.alloc (.cells #[.int .i64 clock,q1,.slice ka A.length ca,.int .i64 e1,.int .i64 n1,.bool p1] 41)).heap.size=w.heap.size+1 by simp] at this
  exact this
 have HA:=Hid.m (ha.below HBW.out)
 have HC:=Hid.m (hb.below HBW.out)
 have hlen:=ha.len
 have hlenb:=hb.len
 have HAB:=Hid.m hAB
 clear ha hb hAB
 have x0:=HX.out.c 0 (by simp)
 have x2:=HX.out.c 2 (by simp)
 have y0:=HY.out.c 0 (by simp)
 have y2:=HY.out.c 2 (by simp)
 simp only [List.getElem_cons_zero,List.getElem_cons_succ] at x0 x2 y0 y2
 have hlt:=HX.out.lt
 have hlt1:=HY.out.lt
 clear HX HY
 go_enter Tryz.func34,Tryz.ntmps34
 go_upto_region 1 with (fail)
 rw [← hW]
 clear hW
 go_wp2
 go_loopw [7,8] (fun a i wr=>∃ k m n:Nat,k≤A.length∧m≤B.length∧i=.int .i64 k∧a=.int .i64 m∧wr=W.drewN n∧Hid (oth t (A.drop k)=oth t (B.drop m))) (fun _ i _=>A.length - (intOf i).toNat)
 case atStart=>exact ⟨0,0,0,Nat.zero_le _,Nat.zero_le _,rfl,rfl,rfl,by show _=_;simpa using HAB.out⟩
 case round=>
  obtain ⟨k,m,n,hk,hm,rfl,rfl,rfl,HM⟩:=hrel
  by_cases hkl:k<A.length
  ·have hkl2:(k:Int)<(A.length:Int):=by omega
   have hne:A≠[]:=by intro e;rw [e] at hkl;simp at hkl
   obtain ⟨b,off,rfl,hbl,hcs⟩:=HA.out.kp hne
   obtain ⟨r0,r1,r2,r3,r4,r5⟩:=hcs k hkl
   have HO1:=Hid.m (oth_own (t:=t) hkl)
   have HO2:=Hid.m (oth_else (t:=t) hkl)
   obtain ⟨p,hpe⟩:∃ p,p=A[k]:=⟨_,rfl⟩
   rw [← hpe] at r0 r1 r2 r3 r4 r5 HO1 HO2
   clear hcs hne hpe
   by_cases ht:p.1=t
   ·have gt:=o_t ht
    have HM2:Hid (oth t (A.drop (k+1))=oth t (B.drop m)):=by show _=_;rw [← HO1.out ht];exact HM.out
    clear ht HO1 HO2
    go_wp2
    go_roundw
    case rel=>exact ⟨k+1,m,n,by omega,hm,by go_num,rfl,rfl,HM2⟩
    case measure=>simp [intOf];omega
   ·have gt:=o_f ht
    have HM2:Hid (p::oth t (A.drop (k+1))=oth t (B.drop m)):=by show _=_;rw [← HO2.out ht];exact HM.out
    clear ht HO1 HO2 HM
    go_wp2
    go_loopw [7] (fun a wr=>∃ m n:Nat,m≤B.length∧a=.int .i64 m∧wr=W.drewN n∧Hid (p::oth t (A.drop (k+1))=oth t (B.drop m))) (fun a _=>B.length - (intOf a).toNat)
    case atStart=>exact ⟨m,n,hm,rfl,rfl,HM2⟩
    case round=>
     obtain ⟨q,n2,hq,rfl,rfl,HQ⟩:=hrel
     have hql:q<B.length:=by
      by_cases h:q<B.length
      ·exact h
      ·exfalso
       have:=HQ.out
       have hd:B.drop q=[]:=List.drop_eq_nil_of_le (by omega)
       rw [hd] at this
       exact List.cons_ne_nil _ _ this
     have hql2:(q:Int)<(B.length:Int):=by omega
     have hql3:((q:Int)==(B.length:Int))=false:=by simp;omega
     have hne:B≠[]:=by intro e;rw [e] at hql;simp at hql
     obtain ⟨b',off',rfl,hbl',hcs⟩:=HC.out.kp hne
     obtain ⟨s0,s1,s2,s3,s4,s5⟩:=hcs q hql
     have HO1:=Hid.m (oth_own (t:=t) hql)
     have HO2:=Hid.m (oth_else (t:=t) hql)
     obtain ⟨z,hz⟩:∃ z,z=B[q]:=⟨_,rfl⟩
     rw [← hz] at s0 s1 s2 s3 s4 s5 HO1 HO2
     clear hcs hne hz
     by_cases ht:z.1=t
     ·have gz:=o_t ht
      have HM3:Hid (p::oth t (A.drop (k+1))=oth t (B.drop (q+1))):=by show _=_;rw [← HO1.out ht];exact HQ.out
      clear ht HO1 HO2
      go_wp2
      go_roundw
      case rel=>exact ⟨q+1,n2,by omega,by go_num,rfl,HM3⟩
      case measure=>simp [intOf];omega
     ·have gz:=o_f ht
      have hEQ:=HQ.out
      rw [HO2.out ht] at hEQ
      obtain ⟨ez,eR⟩:=List.cons.inj hEQ
      have HM3:Hid (oth t (A.drop (k+1))=oth t (B.drop (q+1))):=eR
      subst ez
      clear ht HO1 HO2 hEQ eR
      go_wp2
      go_quiet (fail)
      go_wp2
      go_roundw
      case rel=>exact ⟨k+1,q+1,_,by omega,by omega,by go_num,by go_num,by first | rfl | exact World.drewN_drewN _ _ _,HM3⟩
      case measure=>simp [intOf];omega
  ·have hkl2:¬ ((k:Int)<(A.length:Int)):=by omega
   have HM2:Hid (oth t (B.drop m)=[]):=by show _=_;rw [← HM.out,List.drop_eq_nil_of_le (by omega)];rfl
   go_wp2
   go_loopw [7] (fun a wr=>∃ m n:Nat,m≤B.length∧a=.int .i64 m∧wr=W.drewN n∧Hid (oth t (B.drop m)=[])) (fun a _=>B.length - (intOf a).toNat)
   case atStart=>exact ⟨m,n,hm,rfl,rfl,HM2⟩
   case round=>
    obtain ⟨q,n2,hq,rfl,rfl,HQ⟩:=hrel
    by_cases hql:q<B.length
    ·have hql2:(q:Int)<(B.length:Int):=by omega
     have hne:B≠[]:=by intro e;rw [e] at hql;simp at hql
     obtain ⟨b',off',rfl,hbl',hcs⟩:=HC.out.kp hne
     obtain ⟨s0,s1,s2,s3,s4,s5⟩:=hcs q hql
     have HO1:=Hid.m (oth_own (t:=t) hql)
     have HO2:=Hid.m (oth_else (t:=t) hql)
     obtain ⟨z,hz⟩:∃ z,z=B[q]:=⟨_,rfl⟩
     rw [← hz] at s0 s1 s2 s3 s4 s5 HO1 HO2
     clear hcs hne hz
     have ht:z.1=t:=by
      by_cases h:z.1=t
      ·exact h
      ·have:=HQ.out
       rw [HO2.out h] at this
       exact absurd this (List.cons_ne_nil _ _)
     have gz:=o_t ht
     have HM3:Hid (oth t (B.drop (q+1))=[]):=by show _=_;rw [← HO1.out ht];exact HQ.out
     clear ht HO1 HO2
     go_wp2
     go_roundw
     case rel=>exact ⟨q+1,n2,by omega,by go_num,rfl,HM3⟩
     case measure=>simp [intOf];omega
    ·have hql2:¬ ((q:Int)<(B.length:Int)):=by omega
     go_wp2
     go_ret
     exact ⟨rfl,g_quiet_on n2 HBW.out⟩
end Go.Proofs.YtpinkmndjabbjaaGreatDoor.En
