/-
  Package engine and what stands upon it, part V04: contracts of functions, and what they rest on.
-/
import Derived.Test.YtcdpiefflnaghaaGreatDoorU09
import Derived.Test.YtcdpiefflnaghaaGreatDoorU44
import Derived.Test.YtcdpiefflnaghaaGreatDoorU04
import Derived.Test.YtcdpiefflnaghaaGreatDoorU11
set_option linter.unusedSimpArgs false
set_option linter.unusedVariables false
set_option maxRecDepth 100000
namespace Go.Proofs.YtcdpiefflnaghaaGreatDoor.En
open Go.Proofs.YtcdpiefflnaghaaGreatDoor.It
open Go.Proofs.YtcdpiefflnaghaaGreatDoor.Lr
open Go.Proofs.YtcdpiefflnaghaaGreatDoor.Qt
open Go.Proofs.YtcdpiefflnaghaaGreatDoor.Sb
open Go.RowKit Go.Proofs.YtcdpiefflnaghaaGreatDoor
structure Ap (R:Nat→World→Value→Sh→(Nat→Prop)→Prop)(n:Nat)(W wr:World)(e:Value)(s:Sh)(F:Nat→Prop):Prop where
 rep:R n wr e s F
 bel:Below W.heap.size W wr
 new:∀ k,F k→W.heap.size≤k
section
variable {Tb:World→Prop} {R:Nat→World→Value→Sh→(Nat→Prop)→Prop}
theorem Ap.left {n n1:Nat}{W wr w1:World}{e:Value}{s s1:Sh}{F F1:Nat→Prop}(h:Ap R n W wr e s F)(hr:R n1 w1 e s1 F1)(hk:Kpt F wr w1)(hs:∀ k,F1 k→F k∨wr.heap.size≤k):Ap R n1 W w1 e s1 F1:=by
 refine ⟨hr,h.bel.trans (hk.below h.new h.bel.size),?_⟩
 intro k hk1
 rcases hs k hk1 with h1 | h1
 ·exact h.new k h1
 ·exact Nat.le_trans h.bel.size h1
theorem Ap.below (E:Eng Tb R){n:Nat}{W wr w1:World}{e:Value}{s:Sh}{F:Nat→Prop}(h:Ap R n W wr e s F)(hb:Below wr.heap.size wr w1):Ap R n W w1 e s F:=
 h.left (E.on h.rep hb) (Kpt.of hb) (fun _ hk=>.inl hk)
theorem Ap.calm {n:Nat}{W wr:World}{e:Value}{s:Sh}{F:Nat→Prop}(h:Ap R n W wr e s F)(hT:∀ w',Below W.heap.size W w'→Tb w'):Calm Tb wr F:=⟨W.heap.size,h.bel.size,h.new,fun w' hb=>hT w' (h.bel.trans hb)⟩
theorem Ap.offs {n:Nat}{W wr:World}{e:Value}{s:Sh}{F:Nat→Prop}(h:Ap R n W wr e s F){lo:Option Addr}{l:List Opr}{lc:Nat}(hO:Ops W lo l lc){o:Opr}(ho:o∈l):o.d.c.keys≠[]→Off F o.d.so:=by
 intro hne a2 ha hf
 obtain ⟨b2,off2,e2,hb2,_⟩:=(hO.keys o ho).lies hne
 rw [ha] at e2
 have e3:a2=⟨b2,off2,none⟩:=Option.some.inj e2
 have:=h.new _ hf
 rw [e3] at this
 simp at this
 omega
structure Grt (l:List Opr):Prop where
 len:l.length≤120
 keys:∀ o∈l,o.d.c.keys.length≤40
theorem grt_not {l:List Opr}{n:Nat}(hg:grt l n=false):Grt l:=by
 unfold grt at hg
 simp only [Bool.or_eq_false_iff,decide_eq_false_iff_not] at hg
 refine ⟨by omega,fun o ho=>?_⟩
 have h1:=List.any_eq_false.1 hg.2 o ho
 unfold lgC at h1
 simp only [Bool.or_eq_true,decide_eq_true_eq,not_or] at h1
 omega
end
end Go.Proofs.YtcdpiefflnaghaaGreatDoor.En
namespace Go.Proofs.YtcdpiefflnaghaaGreatDoor.En
open Go.Proofs.YtcdpiefflnaghaaGreatDoor.It
open Go.Proofs.YtcdpiefflnaghaaGreatDoor.Lr
open Go.Proofs.YtcdpiefflnaghaaGreatDoor.Qt
open Go.Proofs.YtcdpiefflnaghaaGreatDoor.Sb
open Go.RowKit Go.Proofs.YtcdpiefflnaghaaGreatDoor
theorem okPg:GOk EP:=⟨Tryz.underlying49,by kernel_rfl,rfl,by decide,by decide,fun _=>rfl,fun a u h=>by simp [EP] at h;rcases h with rfl | rfl | rfl <;> rfl⟩
theorem cloneP {w:World}{ao:Option Addr}{l:List Pg}{cap:Nat}(h:GRd EP w ao l cap)(hl:l.length≤1000):
  Calls Tryz.prog 73 #[.slice ao l.length cap] w fun e w'=>∃ v',e=.returned v'∧GOwn EP w' w.heap.size v' l∧Below w.heap.size w w':=by
 cases ao with
 | none=>
  have hc:=h.hn rfl
  have h2:=h.hl
  have:l=[]:=List.eq_nil_of_length_eq_zero (by omega)
  subst this
  subst hc
  have hq:∀ (w:World),(binOp .eql 49 (.slice none 0 0) (.slice none 0 0)).run Tryz.prog w=.ok (.bool true) w:=fun w=>Lib.run_eql_slice_nil w _ _ none _ _ 0 0 Tryz.underlying49
  clear h
  go_enter Tryz.func73,Tryz.ntmps73
  go_wp2
  go_ret
  exact ⟨_,rfl,GOwn.nil _ _,Below.refl _ _⟩
 | some a=>
  have hq:∀ (w:World),(binOp .eql 49 (.slice (some a) l.length cap) (.slice none 0 0)).run Tryz.prog w=.ok (.bool false) w:=fun w=>Lib.run_eql_slice_nil w _ _ (some a) _ _ 0 0 Tryz.underlying49
  have HO:Hid (GOwn EP (w.alloc (.cells #[] 139)) w.heap.size (.slice (some ⟨w.heap.size,0,none⟩) 0 0) []):=World.ownsRow_made w #[] 0 (Nat.le_refl _) (Nat.zero_le _) (by simp)
  have HR:=Hid.m (h.below (g_alloc w (.cells #[] 139)))
  have hlen:=h.len
  clear h
  go_enter Tryz.func73,Tryz.ntmps73
  go_wp2_with (at_builtin;refine g_app okPg rfl _ _ _ rfl rfl w.heap.size _ [] HO.out rfl (some a) cap l l.length rfl rfl HR.out (by simp;omega) (by simp) ?_;intro v' w1 hO hG)
  go_ret
  exact ⟨v',rfl,hO,(g_alloc w _).trans (hG.below HO.out (by simp))⟩
set_option maxHeartbeats 2000000 in
theorem slab_m {N:Nat}{A:Ad}{s:Sh}{x:Ra}{F:Cp→Nat→Prop}{w:World}(hE:Eg N w A x F)(RA:RepA x s)(hl:s.pages.length≤1000):
  Calls Tryz.prog 29 #[ptr A.b] w fun e w'=>∃ po pc,e=.returned (.tuple #[.agg #[.slice po s.pages.length pc],.int .i64 0])∧GRd EP w' po s.pages pc∧(∀ a,po=some a→w.heap.size≤a.block∧a.block<w'.heap.size)∧Below w.heap.size w w':=by
 obtain ⟨W,hW⟩:∃ W,W=w.alloc (.cells #[.slice none 0 0] 51):=⟨_,rfl⟩
 have hBW:Below w.heap.size w W:=by rw [hW];exact g_alloc _ _
 have HBW:=Hid.m hBW
 have HBX:Hid (GBx W w.heap.size [.slice none 0 0]):=by rw [hW];exact GBx.made w _ _
 have HWS:Hid (w.heap.size<W.heap.size):=HBX.out.lt
 have HIM:=Hid.m (eisMade_any (hE.below hBW))
 obtain ⟨V,hEw⟩:=hE
 have hEv:=hEw.below hBW
 have c3:=hEv.c3
 have bl:=hEv.lt
 obtain ⟨ao,cap,hP⟩:=hEv.imm.pg
 rw [RA.pages] at hP
 have p0:=hP.box.c 0 (by simp)
 have pl:=hP.box.lt
 simp only [List.getElem_cons_zero] at p0
 have HC:=Hid.m (cloneP hP.rd hl)
 generalize s.pages=ps at *
 obtain ⟨B,hB⟩:∃ B,B=w.heap.size:=⟨_,rfl⟩
 have HBB:=Hid.m hB
 rw [← hB] at HBX HWS
 clear hP hEv hEw hl RA hBW
 unfold ptr at HIM c3 ⊢
 go_enter Tryz.func29,Tryz.ntmps29
 go_upto_region 1 with (fail)
 rw [← hW,← hB]
 clear hW hB
 go_wp2_with (first
  | (go_at_call 43;refine HIM.out.mono ?_;rintro e w0 ⟨rfl,h0⟩;replace h0:=h0.symm;subst h0)
  | (go_at_call 73;refine HC.out.mono ?_;rintro e w1 ⟨v,rfl,h1,hb1⟩;obtain ⟨po,pc,hv,hr⟩:=h1.rd okPg;subst hv;have HO:=Hid.m h1;have HR:=Hid.m hr;have HB:=Hid.m hb1;have hX:=HBX.out.below hb1;have y0:=hX.c 0 (by simp);have f0:=hX.f 0;have yl:=hX.lt;simp only [List.getElem_cons_zero] at y0;clear hX h1 hr hb1))
 try simp only [Exit.inBlock,Exit.then]
 have Z0:=((HBX.out.below HB.out).set 0 (.slice po ps.length pc) (by simp)).c 0 (by simp)
 simp only [List.set_cons_zero,List.getElem_cons_zero] at Z0
 have hne:∀ a,po=some a→W.heap.size≤a.block∧a.block<w1.heap.size:=fun a ha=>by subst ha;exact HO.out.lt _ rfl
 have hws:=HWS.out
 have hb:=HBB.out
 refine bodyPost_ret (v:=.tuple #[.agg #[.slice po ps.length pc],.int .i64 0]) (by simp [results,Tryz.results29,go_sem,Z0]) rfl ⟨po,pc,rfl,?_,?_,?_⟩
 ·exact HR.out.other _ _ _ fun g off ha _=>by have:=(hne _ ha).1;simp at this;omega
 ·intro a ha
  have h1:=hne a ha
  have h2:=HBW.out.size
  simp
  omega
 ·exact (g_on HBW.out HB.out).setCell (p:=⟨B,0,none⟩) (by show _≤B;omega) _
theorem slab_r {n:Nat}{w:World}{e:Value}{s:Sh}{F:Nat→Prop}(h:Rr n w e s F)(hl:s.pages.length≤1000):
  Calls Tryz.prog 29 #[e] w fun x w'=>∃ po pc,x=.returned (.tuple #[.agg #[.slice po s.pages.length pc],.int .i64 0])∧GRd EP w' po s.pages pc∧(∀ a,po=some a→w.heap.size≤a.block∧a.block<w'.heap.size)∧Below w.heap.size w w':=by
 obtain ⟨A,x,Fc,rfl,hE,RA,_⟩:=h
 exact slab_m hE RA hl
end Go.Proofs.YtcdpiefflnaghaaGreatDoor.En
namespace Go.Proofs.YtcdpiefflnaghaaGreatDoor.En
open Go.Proofs.YtcdpiefflnaghaaGreatDoor.Lr
open Go.Proofs.YtcdpiefflnaghaaGreatDoor.Qt
open Go.Proofs.YtcdpiefflnaghaaGreatDoor.Sb
open Go.RowKit Go.Proofs.YtcdpiefflnaghaaGreatDoor
set_option maxHeartbeats 8000000 in
theorem sameImage_any (clock epoch number:Int)(prim:Bool)(Q:List Int)(L:List (Int × Im))(qa qb ka kb:Option Addr)(da db ca cb:Nat)(w:World)(hqa:GRd EI w qa Q da)(hqb:GRd EI w qb Q db)(ha:GRd EK w ka L ca)(hb:GRd EK w kb L cb):
  Calls Tryz.prog 24 #[.agg (imB clock (.slice qa Q.length da) (.slice ka L.length ca) epoch number prim).toArray,.agg (imB clock (.slice qb Q.length db) (.slice kb L.length cb) epoch number prim).toArray] w fun e w'=>e=.returned (.bool true)∧Below w.heap.size w w':=by
 unfold imB
 obtain ⟨W,hW⟩:∃ W,W=(w.alloc (.cells #[.int .i64 clock,.slice qa Q.length da,.slice ka L.length ca,.int .i64 epoch,.int .i64 number,.bool prim] 41)).alloc (.cells #[.int .i64 clock,.slice qb Q.length db,.slice kb L.length cb,.int .i64 epoch,.int .i64 number,.bool prim] 41):=⟨_,rfl⟩
 have HB:Hid (Below w.heap.size w W):=by rw [hW];exact g_on (g_alloc _ _) (g_alloc _ _)
 have HX:Hid (GBx W w.heap.size [.int .i64 clock,.slice qa Q.length da,.slice ka L.length ca,.int .i64 epoch,.int .i64 number,.bool prim]):=by rw [hW];exact (GBx.made w [.int .i64 clock,.slice qa Q.length da,.slice ka L.length ca,.int .i64 epoch,.int .i64 number,.bool prim] _).alloc _
 have HY:Hid (GBx W (w.heap.size+1) [.int .i64 clock,.slice qb Q.length db,.slice kb L.length cb,.int .i64 epoch,.int .i64 number,.bool prim]):=by
  rw [hW]
  have:=GBx.made (w.alloc (.cells #[.int .i64 clock,.slice qa Q.length da,.slice ka L.length ca,.int .i64 epoch,.int .i64 number,.bool prim] 41)) [.int .i64 clock,.slice qb Q.length db,.slice kb L.length cb,.int .i64 epoch,.int .i64 number,.bool prim] 41
  rw [show (w.alloc (.cells #[.int .i64 clock,.slice qa Q.length da,.slice ka L.length ca,.int .i64 epoch,.int .i64 number,.bool prim] 41)).heap.size=w.heap.size+1 by simp] at this
  exact this
 have HQA:=Hid.m (hqa.below HB.out)
 have HQB:=Hid.m (hqb.below HB.out)
 have HA:=Hid.m (ha.below HB.out)
 have HC:=Hid.m (hb.below HB.out)
 have hlen:=ha.len
 have hlenq:=hqa.len
 clear ha hb hqa hqb
 have x0:=HX.out.c 0 (by simp)
 have x1:=HX.out.c 1 (by simp)
 have x2:=HX.out.c 2 (by simp)
 have x3:=HX.out.c 3 (by simp)
 have x4:=HX.out.c 4 (by simp)
 have x5:=HX.out.c 5 (by simp)
 have y0:=HY.out.c 0 (by simp)
 have y1:=HY.out.c 1 (by simp)
 have y2:=HY.out.c 2 (by simp)
 have y3:=HY.out.c 3 (by simp)
 have y4:=HY.out.c 4 (by simp)
 have y5:=HY.out.c 5 (by simp)
 simp only [List.getElem_cons_zero,List.getElem_cons_succ] at x0 x1 x2 x3 x4 x5 y0 y1 y2 y3 y4 y5
 have hlt:=HX.out.lt
 have hlt1:=HY.out.lt
 clear HX HY
 go_enter Tryz.func24,Tryz.ntmps24
 go_upto_region 1 with (fail)
 rw [← hW]
 clear hW
 go_wp2
 go_loopw [5] (fun i wr=>∃ k n:Nat,k≤Q.length∧i=.int .i64 k∧wr=W.drewN n) (fun i _=>Q.length - (intOf i).toNat)
 case atStart=>exact ⟨0,0,Nat.zero_le _,rfl,rfl⟩
 case round=>
  obtain ⟨k,n,hk,rfl,rfl⟩:=hrel
  by_cases hkl:k<Q.length
  ·have hkl2:(k:Int)<(Q.length:Int):=by omega
   have hne:Q≠[]:=by intro e;rw [e] at hkl;simp at hkl
   obtain ⟨b,off,rfl,hbl,hcs⟩:=HQA.out.int hne
   obtain ⟨b',off',rfl,hbl',hcs'⟩:=HQB.out.int hne
   have r0:=hcs k hkl
   have s0:=hcs' k hkl
   obtain ⟨p,hpe⟩:∃ p,p=Q[k]:=⟨_,rfl⟩
   rw [← hpe] at r0 s0
   clear hcs hcs' hne hpe
   go_wp2
   go_quiet (fail)
   go_wp2
   go_roundw
   case rel=>exact ⟨k+1,_,by omega,by go_num,by first | rfl | exact World.drewN_drewN _ _ _⟩
   case measure=>simp [intOf];omega
  ·have hkl2:¬ ((k:Int)<(Q.length:Int)):=by omega
   go_wp2
   go_loopw [6] (fun i wr=>∃ k n:Nat,k≤L.length∧i=.int .i64 k∧wr=W.drewN n) (fun i _=>L.length - (intOf i).toNat)
   case atStart=>exact ⟨0,n,Nat.zero_le _,rfl,rfl⟩
   case round=>
    obtain ⟨k2,n2,hk2,rfl,rfl⟩:=hrel
    by_cases hkm:k2<L.length
    ·have hkm2:(k2:Int)<(L.length:Int):=by omega
     have hne:L≠[]:=by intro e;rw [e] at hkm;simp at hkm
     obtain ⟨b,off,rfl,hbl,hcs⟩:=HA.out.kp hne
     obtain ⟨b',off',rfl,hbl',hcs'⟩:=HC.out.kp hne
     obtain ⟨r0,r1,r2,r3,r4,r5⟩:=hcs k2 hkm
     obtain ⟨s0,s1,s2,s3,s4,s5⟩:=hcs' k2 hkm
     obtain ⟨p,hpe⟩:∃ p,p=L[k2]:=⟨_,rfl⟩
     rw [← hpe] at r0 r1 r2 r3 r4 r5 s0 s1 s2 s3 s4 s5
     clear hcs hcs' hne hpe
     go_wp2
     go_quiet (fail)
     go_wp2
     go_roundw
     case rel=>exact ⟨k2+1,_,by omega,by go_num,by first | rfl | exact World.drewN_drewN _ _ _⟩
     case measure=>simp [intOf];omega
    ·have hkm2:¬ ((k2:Int)<(L.length:Int)):=by omega
     go_wp2
     go_ret
     exact ⟨rfl,g_quiet_on n2 HB.out⟩
end Go.Proofs.YtcdpiefflnaghaaGreatDoor.En
namespace Go.Proofs.YtcdpiefflnaghaaGreatDoor.En
open Go.Proofs.YtcdpiefflnaghaaGreatDoor.It
open Go.Proofs.YtcdpiefflnaghaaGreatDoor.Lr
open Go.Proofs.YtcdpiefflnaghaaGreatDoor.Qt
open Go.Proofs.YtcdpiefflnaghaaGreatDoor.Sb
open Go.RowKit Go.Proofs.YtcdpiefflnaghaaGreatDoor
theorem size_good (x:Im)(h:okI x=true∧szI x≤256)(w:World):Calls Tryz.prog 78 #[.agg #[.string x.key,.string x.value,.int .u32 x.flags,.int .i64 x.till,.int .u64 x.unique]] w fun e w'=>e=.returned (.tuple #[.int .i64 (szI x:Int),.int .i64 0])∧Below w.heap.size w w':=by
 have hc:It.ckE (iI x)=0:=(ck_ok x).2 h.1
 have hsz:It.szV (iI x)=(szI x:Int):=by unfold It.szV;rw [if_pos hc];unfold szI iI;first | (simp;done) | (simp;omega)
 have HS:=It.isize_any (iI x) w
 rw [hc,hsz] at HS
 refine HS.mono ?_
 rintro e w1 ⟨rfl,hw1⟩
 exact ⟨rfl,by rw [hw1];exact g_on (g_alloc _ _) (g_alloc _ _)⟩
theorem class_good (x:Im)(h:okI x=true∧szI x≤256)(w:World):Calls Tryz.prog 79 #[.int .i64 (szI x:Int)] w fun e w'=>e=.returned (.tuple #[.int .i64 (cls x),.int .i64 0])∧w'=w:=by
 have hs1:1≤(szI x:Int)∧(szI x:Int)≤256:=by have:=h.2;unfold szI at *;omega
 have HC:=Sb.scls_good (szI x:Int) w hs1
 rw [show ((Sb.clsN (szI x:Int):Nat):Int)=cls x from cls_s x] at HC
 exact HC
structure Rm (W w1:World)(B:Nat)(so qo ko yo:Option Addr)(pn sc qn qc kn kc yn yc:Nat)(now kind tenant flags life unique by_:Int)(value:ByteArray):Prop where
 x:GBx w1 B [.slice so pn sc]
 y:GBx w1 (B+1) [.int .i64 now,.slice qo qn qc,.slice ko kn kc,.int .i64 0,.int .i64 0,.bool false]
 z:GBx w1 (B+1+1) [.int .u8 kind,.int .i64 tenant,.slice yo yn yc,.string value,.int .u32 flags,.int .i64 life,.int .u64 unique,.int .u64 by_]
 bel:Below W.heap.size W w1
theorem Rm.on {W w1 w2:World}{B:Nat}{so qo ko yo:Option Addr}{pn sc qn qc kn kc yn yc:Nat}{now kind tenant flags life unique by_:Int}{value:ByteArray}(h:Rm W w1 B so qo ko yo pn sc qn qc kn kc yn yc now kind tenant flags life unique by_ value)(hb:Below w1.heap.size w1 w2):Rm W w2 B so qo ko yo pn sc qn qc kn kc yn yc now kind tenant flags life unique by_ value:=
 ⟨h.x.below hb,h.y.below hb,h.z.below hb,g_on h.bel hb⟩
theorem Rm.made (w:World)(so qo ko yo:Option Addr)(pn sc qn qc kn kc yn yc:Nat)(now kind tenant flags life unique by_:Int)(value:ByteArray):Rm w (((w.alloc (.cells #[.slice so pn sc] 51)).alloc (.cells #[.int .i64 now,.slice qo qn qc,.slice ko kn kc,.int .i64 0,.int .i64 0,.bool false] 41)).alloc (.cells #[.int .u8 kind,.int .i64 tenant,.slice yo yn yc,.string value,.int .u32 flags,.int .i64 life,.int .u64 unique,.int .u64 by_] 37)) w.heap.size so qo ko yo pn sc qn qc kn kc yn yc now kind tenant flags life unique by_ value:=by
 refine ⟨((GBx.made w [.slice so pn sc] _).alloc _).alloc _,?_,?_,g_on (g_on (g_alloc _ _) (g_alloc _ _)) (g_alloc _ _)⟩
 ·have:=(GBx.made (w.alloc (.cells #[.slice so pn sc] 51)) [.int .i64 now,.slice qo qn qc,.slice ko kn kc,.int .i64 0,.int .i64 0,.bool false] 41).alloc (.cells #[.int .u8 kind,.int .i64 tenant,.slice yo yn yc,.string value,.int .u32 flags,.int .i64 life,.int .u64 unique,.int .u64 by_] 37)
  rw [show (w.alloc (.cells #[.slice so pn sc] 51)).heap.size=w.heap.size+1 by simp] at this
  exact this
 ·have:=GBx.made ((w.alloc (.cells #[.slice so pn sc] 51)).alloc (.cells #[.int .i64 now,.slice qo qn qc,.slice ko kn kc,.int .i64 0,.int .i64 0,.bool false] 41)) [.int .u8 kind,.int .i64 tenant,.slice yo yn yc,.string value,.int .u32 flags,.int .i64 life,.int .u64 unique,.int .u64 by_] 37
  rw [show ((w.alloc (.cells #[.slice so pn sc] 51)).alloc (.cells #[.int .i64 now,.slice qo qn qc,.slice ko kn kc,.int .i64 0,.int .i64 0,.bool false] 41)).heap.size=w.heap.size+1+1 by simp] at this
  exact this
set_option maxHeartbeats 4000000 in
theorem room_no (w:World)(ps:List Pg)(so:Option Addr)(sc:Nat)(hS:GRd EP w so ps sc)(hs:sOk ps=true)(Q:List Int)(qo:Option Addr)(qc:Nat)(hQ:GRd EI w qo Q qc)(hQ4:Q.length≤4)(L:List (Int × Im))(ko:Option Addr)(kc:Nat)(hL:GRd EK w ko L kc)(now kind:Int)(t:Nat)(ht:t<Q.length)(hO:(owned ps t:Int)=qAt Q t)(keys:List ByteArray)(yo:Option Addr)(yc:Nat)(hD:GRd ES w yo keys yc)(value:ByteArray)(flags life unique by_:Int)
  (hk:kind≤5→∃ (hne:0<keys.length),(okI ⟨keys[0],value,0,0,0⟩=true∧szI ⟨keys[0],value,0,0,0⟩≤256)∧∀ z∈L,(okI z.2=true∧szI z.2≤256)∧¬ (z.1=(t:Int)∧cls z.2=cls ⟨keys[0],value,0,0,0⟩)):
  Calls Tryz.prog 33 #[.agg #[.slice so ps.length sc],.agg #[.int .i64 now,.slice qo Q.length qc,.slice ko L.length kc,.int .i64 0,.int .i64 0,.bool false],.agg #[.int .u8 kind,.int .i64 t,.slice yo keys.length yc,.string value,.int .u32 flags,.int .i64 life,.int .u64 unique,.int .u64 by_]] w fun x w'=>x=.returned (.bool false)∧Below w.heap.size w w':=by
 have mixed:Tryz.prog.follows .mixedOrders=true:=by kernel_rfl
 have HM:=Hid.m (Rm.made w so qo ko yo ps.length sc Q.length qc L.length kc keys.length yc now kind t flags life unique by_ value)
 obtain ⟨W,hW⟩:∃ W,W=(((w.alloc (.cells #[.slice so ps.length sc] 51)).alloc (.cells #[.int .i64 now,.slice qo Q.length qc,.slice ko L.length kc,.int .i64 0,.int .i64 0,.bool false] 41)).alloc (.cells #[.int .u8 kind,.int .i64 t,.slice yo keys.length yc,.string value,.int .u32 flags,.int .i64 life,.int .u64 unique,.int .u64 by_] 37)):=⟨_,rfl⟩
 rw [← hW] at HM
 have hB2:(w.alloc (.cells #[.slice so ps.length sc] 51)).heap.size=w.heap.size+1:=by simp
 have HOW:=Hid.m (Sb.Owned_any W so ps sc (sb_of (hS.below HM.out.bel)) hs t (by unfold isT;simp;omega))
 rw [show Sb.owned ps t=owned ps t from rfl,hO] at HOW
 have hqv:qAt Q t=Q[t]:=by unfold qAt;simp [ht]
 rw [hqv] at HOW
 obtain ⟨qb,qof,rfl,hqb,hqc⟩:=hQ.lies (by intro e;rw [e] at ht;simp at ht)
 have q0:=hqc t ht 0 (by decide)
 have HQ0:Hid (∀ W0,Below w.heap.size w W0→W0.cell? ⟨qb,qof+t,none⟩=some (.int .i64 Q[t])):=fun W0 hb=>by
  have:=(hb.cell (p:=⟨qb,qof+t,none⟩) hqb)
  rw [this]
  simpa [EI] using q0
 clear hqc q0 hQ
 have HL:=Hid.m hL
 have HD:=Hid.m hD
 have hln:=hL.len
 clear hL hD hS
 obtain ⟨B,hB⟩:∃ B,B=w.heap.size:=⟨_,rfl⟩
 have HBB:=Hid.m hB
 rw [← hB] at HM
 generalize hqe:Q[t]=qv at *
 have htl:(t:Int)<(Q.length:Int):=by omega
 go_enter Tryz.func33,Tryz.ntmps33
 go_upto_region 1 with (fail)
 rw [← hW,← hB]
 clear hW hB2 hB
 have x0:=HM.out.x.c 0 (by simp);have y1:=HM.out.y.c 1 (by simp);have y2:=HM.out.y.c 2 (by simp);have z0:=HM.out.z.c 0 (by simp);have z1:=HM.out.z.c 1 (by simp);have z2:=HM.out.z.c 2 (by simp);have z3:=HM.out.z.c 3 (by simp);have xl:=HM.out.x.lt;have yl:=HM.out.y.lt;have zl:=HM.out.z.lt;simp only [List.getElem_cons_zero,List.getElem_cons_succ] at x0 y1 y2 z0 z1 z2 z3
 go_upto_region 2 with (go_at_call 31;refine HOW.out.mono ?_;rintro e w1 ⟨rfl,hb1⟩;have HM1:=Hid.m (HM.out.on hb1);clear hb1)
 clear x0 y1 y2 z0 z1 z2 z3 xl yl zl HOW
 have x0:=HM1.out.x.c 0 (by simp);have y1:=HM1.out.y.c 1 (by simp);have y2:=HM1.out.y.c 2 (by simp);have z0:=HM1.out.z.c 0 (by simp);have z1:=HM1.out.z.c 1 (by simp);have z2:=HM1.out.z.c 2 (by simp);have z3:=HM1.out.z.c 3 (by simp);have xl:=HM1.out.x.lt;have yl:=HM1.out.y.lt;have zl:=HM1.out.z.lt;simp only [List.getElem_cons_zero,List.getElem_cons_succ] at x0 y1 y2 z0 z1 z2 z3
 have q1:=HQ0.out _ (HM1.out.bel)
 have ql:qb<w1.heap.size:=Nat.lt_of_lt_of_le hqb HM1.out.bel.size
 go_upto_region 4 with (fail)
 clear q1 ql x0 y1 y2 xl yl
 by_cases hk5:kind≤5
 case neg=>
  have hk6:(5:Int)<kind:=by omega
  go_wp2
  go_ret
  exact ⟨rfl,HM1.out.bel⟩
 obtain ⟨hne,hx,hLn⟩:=hk hk5
 have hk6:¬ (5:Int)<kind:=by omega
 have hk7:decide ((5:Int)<kind)=false:=by simp;omega
 obtain ⟨kb,kof,rfl,hkb,hkc⟩:=HD.out.lies (by intro e;rw [e] at hne;simp at hne)
 have k0:w1.cell? ⟨kb,kof,none⟩=some (.string keys[0]):=by
  rw [HM1.out.bel.cell (p:=⟨kb,kof,none⟩) hkb]
  simpa [ES] using hkc 0 hne 0 (by decide)
 have kl:kb<w1.heap.size:=Nat.lt_of_lt_of_le hkb HM1.out.bel.size
 have hne2:(0:Int)<(keys.length:Int):=by omega
 have HSZ:=Hid.m (fun W0=>size_good ⟨keys[0],value,0,0,0⟩ hx W0)
 have HCL:=Hid.m (fun W0=>class_good ⟨keys[0],value,0,0,0⟩ hx W0)
 have HLN:=Hid.m hLn
 clear hLn hk hkc
 dsimp only at HSZ
 generalize (⟨keys[0],value,0,0,0⟩:Im)=xx at *
 have HHC:Hid (∀ W0,Below w1.heap.size w1 W0→W0.cell? ⟨B+1+1,2,none⟩=some (.slice (some ⟨kb,kof,none⟩) keys.length yc)∧W0.cell? ⟨B+1+1,3,none⟩=some (.string value)∧W0.cell? ⟨kb,kof,none⟩=some (.string keys[0])):=fun W0 hb=>⟨(hb.cell (p:=⟨B+1+1,2,none⟩) zl).trans z2,(hb.cell (p:=⟨B+1+1,3,none⟩) zl).trans z3,(hb.cell (p:=⟨kb,kof,none⟩) kl).trans k0⟩
 go_upto_region 6 with (fail)
 clear z0 z1 z2 z3 k0
 go_cut [9,10] from 7 (fun s9 s10 wx=>s9=.int .i64 (szI xx:Int)∧s10=.int .i64 0∧Hid (Rm w wx B so (some ⟨qb,qof,none⟩) ko (some ⟨kb,kof,none⟩) ps.length sc Q.length qc L.length kc keys.length yc now kind t flags life unique by_ value))
 case first=>
  go_region_held3 (fun W0=>W0.cell? ⟨B+1+1,2,none⟩=some (.slice (some ⟨kb,kof,none⟩) keys.length yc)∧W0.cell? ⟨B+1+1,3,none⟩=some (.string value)∧W0.cell? ⟨kb,kof,none⟩=some (.string keys[0]))
   (first | with_reducible exact HHC.out _ HB2.out | with_reducible exact HHC.out _ (Below.refl _ _) | with_reducible exact HHC.out _ (Below.refl _ _).drew)
   (first | (go_at_call 78;refine (HSZ.out _).mono ?_;rintro e w2 ⟨rfl,hb2⟩;have HB2:Hid (Below w1.heap.size w1 w2):=(by first | exact hb2 | exact g_drew hb2);clear hb2))
  all_goals (go_wp2;go_meet)
  all_goals (case rel=>exact ⟨rfl,rfl,HM1.out.on HB2.out⟩)
 case rest=>
 obtain ⟨rfl,rfl,HM2⟩:=hcut
 clear HM HM1 HHC HSZ zl kl
 go_upto_region 8 with (go_at_call 79;refine (HCL.out _).mono ?_;rintro e w3 ⟨rfl,h0⟩;replace h0:=h0.symm;subst h0)
 clear HCL
 go_wp2
 go_loopw [13,14,15,16,17,18] (fun i _ _ _ _ _ wr=>∃ k:Nat,k≤L.length∧i=.int .i64 k∧Hid (Rm w wr B so (some ⟨qb,qof,none⟩) ko (some ⟨kb,kof,none⟩) ps.length sc Q.length qc L.length kc keys.length yc now kind t flags life unique by_ value)) (fun i _ _ _ _ _ _=>L.length - (intOf i).toNat)
 case atStart=>exact ⟨0,by omega,rfl,HM2⟩
 case round=>
  clear HM2
  obtain ⟨k,hkk,rfl,HN⟩:=hrel
  have y2:=HN.out.y.c 2 (by simp)
  have yl:=HN.out.y.lt
  simp only [List.getElem_cons_zero,List.getElem_cons_succ] at y2
  by_cases hkl:k<L.length
  ·have hkl2:(k:Int)<(L.length:Int):=by omega
   have hLne:L≠[]:=by intro e;rw [e] at hkl;simp at hkl
   obtain ⟨lb,lof,hlo,hlb,hlc⟩:=HL.out.kp hLne
   obtain ⟨a0,a1,a2,a3,a4,a5⟩:=hlc k hkl
   have hbl:=HN.out.bel
   have hll:lb<wr.heap.size:=Nat.lt_of_lt_of_le hlb hbl.size
   have hz:=HLN.out L[k] (List.getElem_mem hkl)
   obtain ⟨z,hze⟩:∃ z,z=L[k]:=⟨_,rfl⟩
   rw [← hze] at a0 a1 a2 a3 a4 a5 hz
   replace a0:=(hbl.cell (p:=⟨lb,lof+k * 6,none⟩) hlb).trans a0
   replace a1:=(hbl.cell (p:=⟨lb,lof+k * 6+1,none⟩) hlb).trans a1
   replace a2:=(hbl.cell (p:=⟨lb,lof+k * 6+2,none⟩) hlb).trans a2
   replace a3:=(hbl.cell (p:=⟨lb,lof+k * 6+3,none⟩) hlb).trans a3
   replace a4:=(hbl.cell (p:=⟨lb,lof+k * 6+4,none⟩) hlb).trans a4
   replace a5:=(hbl.cell (p:=⟨lb,lof+k * 6+5,none⟩) hlb).trans a5
   have HSZ:=Hid.m (fun W0=>size_good z.2 hz.1 W0)
   have HCL:=Hid.m (fun W0=>class_good z.2 hz.1 W0)
   have HZN:=Hid.m hz.2
   clear hz hlc hbl hze hLne
   subst hlo
   go_upto_region 12 with (fail)
   have HC:=Hid.m (GBx.made wr [.int .i64 z.1,.string z.2.key,.string z.2.value,.int .u32 z.2.flags,.int .i64 z.2.till,.int .u64 z.2.unique] 141)
   have HN2:=Hid.m (HN.out.on (g_alloc wr (.cells #[.int .i64 z.1,.string z.2.key,.string z.2.value,.int .u32 z.2.flags,.int .i64 z.2.till,.int .u64 z.2.unique] 141)))
   clear a0 a1 a2 a3 a4 a5 y2 yl hll HN
   generalize wr.alloc (.cells (List.toArray [.int .i64 z.1,.string z.2.key,.string z.2.value,.int .u32 z.2.flags,.int .i64 z.2.till,.int .u64 z.2.unique]) 141)=V at HC HN2 ⊢
   generalize wr.heap.size=C at HC ⊢
   have c1:=HC.out.c 1 (by simp)
   have c2:=HC.out.c 2 (by simp)
   have c3:=HC.out.c 3 (by simp)
   have c4:=HC.out.c 4 (by simp)
   have c5:=HC.out.c 5 (by simp)
   have cl:=HC.out.lt
   simp only [List.getElem_cons_zero,List.getElem_cons_succ] at c1 c2 c3 c4 c5
   go_upto_region 14 with (first
    | (go_at_call 78;refine (HSZ.out _).mono ?_;rintro e w4 ⟨rfl,hb4⟩;have HN4:=Hid.m (HN2.out.on hb4);have HC4:=Hid.m (HC.out.below hb4);clear hb4)
    | (go_at_call 79;refine (HCL.out _).mono ?_;rintro e w5 ⟨rfl,h0⟩;replace h0:=h0.symm;subst h0))
   clear c1 c2 c3 c4 c5 cl HSZ HCL HN2 HC
   have c0:=HC4.out.c 0 (by simp)
   have cl:=HC4.out.lt
   have z1:=HN4.out.z.c 1 (by simp)
   have zl:=HN4.out.z.lt
   simp only [List.getElem_cons_zero,List.getElem_cons_succ] at c0 z1
   by_cases h1:z.1=(t:Int)
   ·have h2:¬ cls z.2=cls xx:=fun e=>HZN.out ⟨h1,e⟩
    have h3:(cls z.2==cls xx)=false:=by simpa using h2
    have h4:(z.1==(t:Int))=true:=by simpa using h1
    go_wp2
    go_roundw
    case rel=>exact ⟨k+1,by omega,by go_num,HN4⟩
    case measure=>simp [intOf];omega
   ·have h4:(z.1==(t:Int))=false:=by simpa using h1
    go_wp2
    go_roundw
    case rel=>exact ⟨k+1,by omega,by go_num,HN4⟩
    case measure=>simp [intOf];omega
  ·have hkl2:¬ (k:Int)<(L.length:Int):=by omega
   have hkl3:decide ((k:Int)<(L.length:Int))=false:=by simp;omega
   go_wp2
   go_ret
   exact ⟨rfl,HN.out.bel⟩
end Go.Proofs.YtcdpiefflnaghaaGreatDoor.En
namespace Go.Proofs.YtcdpiefflnaghaaGreatDoor.En
open Go.Proofs.YtcdpiefflnaghaaGreatDoor.It
open Go.Proofs.YtcdpiefflnaghaaGreatDoor.Lr
open Go.Proofs.YtcdpiefflnaghaaGreatDoor.Qt
open Go.Proofs.YtcdpiefflnaghaaGreatDoor.Sb
open Go.RowKit Go.Proofs.YtcdpiefflnaghaaGreatDoor
theorem putR_memory {s:Sh}(I:Inv s){t:Int}{x:Im}{n:Int}(ht:0≤t∧t<s.quotas.length)(hd:dueI x s.now=false)(h:(s.putR t x n).2.1.kind=5):(owned s.pages t:Int)=qAt s.quotas t∧∀ y∈s.held,¬ (y.tenant=t∧cls y.item=cls x):=
 (I.putS ht hd).memory h
theorem done_memory {s:Sh}(I:Inv s){c:Cm}(ht:0≤c.tenant)(hl:0≤c.life∧c.life≤1099511627776)(h:(s.done c).2.1.kind=5):
  c.tenant<s.quotas.length∧(owned s.pages c.tenant:Int)=qAt s.quotas c.tenant∧(c.kind≤5→∀ y∈s.held,¬ (y.tenant=c.tenant∧cls y.item=clsN (8+(c.keys.headD ⟨#[]⟩).size+c.value.size))):=by
 unfold Sh.done at h
 split at h
 ·exact absurd h (by simp)
 rename_i hq
 have ht2:0≤c.tenant∧c.tenant<s.quotas.length:=⟨ht,by omega⟩
 refine ⟨ht2.2,?_⟩
 split at h
 ·exact absurd h (by simp)
 split at h
 ·have e':(if (s.dels c.tenant c.keys).2.length=0 then (2:Int) else 1)=5:=h
  split at e' <;> cases e'
 split at h
 ·exact absurd h (by simp)
 obtain ⟨ha,hb⟩:=aft_ok I.mom hl
 have hset:∀ {n:Int},(s.putR c.tenant ⟨c.keys.headD ⟨#[]⟩,c.value,c.flags,aftI s.now c.life,0⟩ n).2.1.kind=5→(owned s.pages c.tenant:Int)=qAt s.quotas c.tenant∧(c.kind≤5→∀ y∈s.held,¬ (y.tenant=c.tenant∧cls y.item=clsN (8+(c.keys.headD ⟨#[]⟩).size+c.value.size))):=by
  intro n hn
  obtain ⟨h1,h2⟩:=putR_memory I ht2 (due_of hb) hn
  exact ⟨h1,fun _=>h2⟩
 unfold Sh.one at h
 cases e:((s.at c.tenant (c.keys.headD ⟨#[]⟩)).bind fun i=>(s.held[i]?).map fun h=>(i,h)) with
 | none=>
  rw [e] at h
  simp only at h
  split at h
  ·exact absurd h (by simp)
  ·exact hset h
 | some z=>
  obtain ⟨i,y⟩:=z
  obtain ⟨hat,hi,rfl⟩:=bind_some e
  have hm:=List.getElem_mem hi
  rw [e] at h
  simp only at h
  split at h
  ·exact absurd h (by simp)
  split at h
  ·exact absurd h (by simp)
  split at h
  ·exact absurd h (by simp)
  split at h
  ·rename_i e67
   split at h
   ·exact absurd h (by simp)
   ·obtain ⟨h1,h2⟩:=putR_memory (x:=⟨s.held[i].item.key,_,s.held[i].item.flags,s.held[i].item.till,0⟩) I ht2 (I.due _ hm) h
    exact ⟨h1,fun hk=>by omega⟩
  split at h
  ·rename_i e8
   split at h
   ·exact absurd h (by simp)
   ·obtain ⟨h1,h2⟩:=putR_memory (x:=⟨s.held[i].item.key,_,s.held[i].item.flags,s.held[i].item.till,0⟩) I ht2 (I.due _ hm) h
    exact ⟨h1,fun hk=>by omega⟩
  ·exact hset h
theorem putR_size {s:Sh}{t:Int}{x:Im}{n:Int}(h:(s.putR t x n).2.1.kind=5):okI x=true∧szI x≤256:=by
 by_cases hc:okI x=true∧szI x≤256
 ·exact hc
 ·unfold Sh.putR Sh.put at h
  rw [if_neg hc] at h
  exact absurd h (by simp)
theorem done_size {s:Sh}{c:Cm}(hk:c.kind≤5)(h:(s.done c).2.1.kind=5):okI ⟨c.keys.headD ⟨#[]⟩,c.value,c.flags,aftI s.now c.life,0⟩=true∧szI ⟨c.keys.headD ⟨#[]⟩,c.value,c.flags,aftI s.now c.life,0⟩≤256:=by
 unfold Sh.done at h
 split at h
 ·exact absurd h (by simp)
 split at h
 ·exact absurd h (by simp)
 split at h
 ·have e':(if (s.dels c.tenant c.keys).2.length=0 then (2:Int) else 1)=5:=h
  split at e' <;> cases e'
 split at h
 ·exact absurd h (by simp)
 unfold Sh.one at h
 cases e:((s.at c.tenant (c.keys.headD ⟨#[]⟩)).bind fun i=>(s.held[i]?).map fun h=>(i,h)) with
 | none=>
  rw [e] at h
  simp only at h
  split at h
  ·exact absurd h (by simp)
  ·exact putR_size h
 | some z=>
  obtain ⟨i,y⟩:=z
  rw [e] at h
  simp only at h
  split at h
  ·exact absurd h (by simp)
  split at h
  ·exact absurd h (by simp)
  split at h
  ·exact absurd h (by simp)
  split at h
  ·exfalso;omega
  split at h
  ·exfalso;omega
  ·exact putR_size h
theorem headD_zero {l:List ByteArray}{d:ByteArray}(h:0<l.length):l.headD d=l[0]:=by
 cases l with
 | nil=>exact absurd h (by simp)
 | cons a l=>rfl
theorem op_memory {s:Sh}(I:Inv s){o:Opr}(h:(s.op o.opn).2.1.kind=5):
  o.kind=0∧(s.op o.opn).1=s∧(s.op o.opn).2.2.1=[]∧∃ t:Nat,o.d.c.tenant=t∧t<s.quotas.length∧(owned s.pages t:Int)=qAt s.quotas t∧
   (o.d.c.kind≤5→∃ (hne:0<o.d.c.keys.length),(okI ⟨o.d.c.keys[0],o.d.c.value,0,0,0⟩=true∧szI ⟨o.d.c.keys[0],o.d.c.value,0,0,0⟩≤256)∧∀ z∈s.kept,(okI z.2=true∧szI z.2≤256)∧¬ (z.1=(t:Int)∧cls z.2=cls ⟨o.d.c.keys[0],o.d.c.value,0,0,0⟩)):=by
 by_cases hk0:o.kind=0
 case neg=>
  exfalso
  revert h
  unfold Opr.opn
  rw [if_neg hk0]
  split <;> (unfold Sh.op;simp only;split <;> simp)
 have e:o.opn=.cmd o.d.c:=by unfold Opr.opn;rw [if_pos hk0]
 refine ⟨hk0,?_⟩
 rw [e] at h ⊢
 generalize o.d.c=c at *
 unfold Sh.op at h ⊢
 simp only at h ⊢
 split at h
 case isFalse=>exact absurd h (by simp)
 rename_i hm
 rw [if_pos hm]
 obtain ⟨h1,h2,h3⟩:=may_life hm
 obtain ⟨m1,m2⟩:=(done_doS I h1 h3).memory h
 obtain ⟨d1,d2,d3⟩:=done_memory I h1 h3 h
 refine ⟨m1,m2,c.tenant.toNat,by omega,by omega,?_,fun hk=>?_⟩
 ·rw [show ((c.tenant.toNat:Nat):Int)=c.tenant by omega];exact d2
 obtain ⟨s1,s2⟩:=done_size hk h
 have hk1:1≤(c.keys.headD ⟨#[]⟩).size:=by unfold okI at s1;simp only [Bool.and_eq_true,decide_eq_true_eq] at s1;exact s1.1.1
 have hne:0<c.keys.length:=by
  rcases hc:c.keys with _ | ⟨a,l⟩
  ·rw [hc] at hk1;exact absurd hk1 (by decide)
  ·simp
 have hh:c.keys.headD ⟨#[]⟩=c.keys[0]:=by
  exact headD_zero hne
 rw [hh] at s1 s2
 refine ⟨hne,⟨?_,s2⟩,fun z hz=>?_⟩
 ·unfold okI at s1 ⊢
  simp only [Bool.and_eq_true,decide_eq_true_eq] at s1 ⊢
  exact ⟨s1.1,by decide⟩
 ·unfold Sh.kept at hz
  obtain ⟨y,hy,rfl⟩:=List.mem_map.1 hz
  refine ⟨I.item y hy,fun hcl=>d3 hk y hy ⟨by have:=hcl.1;simp only at this;omega,?_⟩⟩
  rw [hh]
  exact hcl.2
end Go.Proofs.YtcdpiefflnaghaaGreatDoor.En
namespace Go.Proofs.YtcdpiefflnaghaaGreatDoor.En
open Go.Proofs.YtcdpiefflnaghaaGreatDoor.It
open Go.Proofs.YtcdpiefflnaghaaGreatDoor.Lr
open Go.Proofs.YtcdpiefflnaghaaGreatDoor.Qt
open Go.Proofs.YtcdpiefflnaghaaGreatDoor.Sb
open Go.RowKit Go.Proofs.YtcdpiefflnaghaaGreatDoor
theorem _root_.Go.Proofs.YtcdpiefflnaghaaGreatDoor.GRd.kptN {α:Type}{El:GEl α}{F:Nat→Prop}{w w':World}{ao:Option Addr}{l:List α}{c:Nat}(h:GRd El w ao l c)(hk:Kpt F w w')(hF:l≠[]→Off F ao):GRd El w' ao l c:=by
 by_cases hne:l=[]
 ·subst hne;exact ⟨h.hl,h.hc,h.hn,.inl rfl⟩
 ·exact h.kpt hk (hF hne)
structure Img (w:World)(F:Nat→Prop)(B:Nat)(s:Sh)(q k:Option Addr)(d e:Nat):Prop where
 box:GBx w B [.int .i64 s.now,.slice q s.quotas.length d,.slice k s.kept.length e,.int .i64 0,.int .i64 0,.bool false]
 qr:GRd EI w q s.quotas d
 kr:GRd EK w k s.kept e
 nb:¬ F B
 oq:s.quotas≠[]→Off F q
 ok:s.kept≠[]→Off F k
theorem off_left {α:Type}{El:GEl α}{w:World}{ao:Option Addr}{l:List α}{c:Nat}{F F1:Nat→Prop}(h:GRd El w ao l c)(ho:l≠[]→Off F ao)(hs:∀ k,F1 k→F k∨w.heap.size≤k):l≠[]→Off F1 ao:=by
 intro hne a ha hf
 rcases hs _ hf with h1 | h1
 ·exact ho hne a ha h1
 ·obtain ⟨b2,f2,e2,hb2,_⟩:=h.lies hne
  rw [ha] at e2
  have e3:a=⟨b2,f2,none⟩:=Option.some.inj e2
  rw [e3] at h1
  simp at h1
  omega
theorem Img.left {w w1:World}{F F1:Nat→Prop}{B:Nat}{s:Sh}{q k:Option Addr}{d e:Nat}(h:Img w F B s q k d e)(hk:Kpt F w w1)(hs:∀ k,F1 k→F k∨w.heap.size≤k):Img w1 F1 B s q k d e:=
 ⟨h.box.kpt hk h.nb,h.qr.kptN hk h.oq,h.kr.kptN hk h.ok,fun hf=>by
  rcases hs _ hf with h1 | h1
  ·exact h.nb h1
  ·have:=h.box.lt;omega,off_left h.qr h.oq hs,off_left h.kr h.ok hs⟩
theorem Img.below {w w1:World}{F:Nat→Prop}{B:Nat}{s:Sh}{q k:Option Addr}{d e:Nat}(h:Img w F B s q k d e)(hb:Below w.heap.size w w1):Img w1 F B s q k d e:=h.left (Kpt.of hb) (fun _ hk=>.inl hk)
theorem Img.made {w:World}{F:Nat→Prop}{s:Sh}{q k:Option Addr}{d e:Nat}(hq:GRd EI w q s.quotas d)(oq:Off F q)(hk:GRd EK w k s.kept e)(ok:Off F k)(hF:∀ j,F j→j<w.heap.size):Img (w.alloc (.cells #[.int .i64 s.now,.slice q s.quotas.length d,.slice k s.kept.length e,.int .i64 0,.int .i64 0,.bool false] 41)) F w.heap.size s q k d e:=
 ⟨GBx.made w [.int .i64 s.now,.slice q s.quotas.length d,.slice k s.kept.length e,.int .i64 0,.int .i64 0,.bool false] _,hq.alloc _,hk.alloc _,fun hf=>by have:=hF _ hf;omega,fun _=>oq,fun _=>ok⟩
structure Pgs (W wx:World)(n:Nat)(a:Addr)(F:Nat→Prop)(s s1:Sh)(B1 B4 B5 B7:Nat)(q1 k1 q5 k5 po io:Option Addr)(d1 e1 d5 e5 pc rI ic:Nat)(rk rn:Int):Prop where
 ap:Ap Rr n W wx (.pointer (some a)) s1 F
 was:Img wx F B1 s q1 k1 d1 e1
 im:Img wx F B5 s1 q5 k5 d5 e5
 r:GBx wx B4 [.int .u8 rk,.slice io rI ic,.int .u64 rn]
 sb:GBx wx B7 [.slice po s1.pages.length pc]
 pg:GRd EP wx po s1.pages pc
theorem Pgs.on (E:Eng It.Tab Rr){W wx w2:World}{n:Nat}{a:Addr}{F:Nat→Prop}{s s1:Sh}{B1 B4 B5 B7:Nat}{q1 k1 q5 k5 po io:Option Addr}{d1 e1 d5 e5 pc rI ic:Nat}{rk rn:Int}(h:Pgs W wx n a F s s1 B1 B4 B5 B7 q1 k1 q5 k5 po io d1 e1 d5 e5 pc rI ic rk rn)(hb:Below wx.heap.size wx w2):Pgs W w2 n a F s s1 B1 B4 B5 B7 q1 k1 q5 k5 po io d1 e1 d5 e5 pc rI ic rk rn:=
 ⟨h.ap.below E hb,h.was.below hb,h.im.below hb,h.r.below hb,h.sb.below hb,h.pg.below hb⟩
set_option maxHeartbeats 4000000 in
theorem pages_go (E:Eng It.Tab Rr)(W:World)(hT:∀ w',Below W.heap.size W w'→It.Tab w')(pages now:Int)(Q:List Int)(qo:Option Addr)(qc:Nat)(hq:GRd EI W qo Q qc)(l:List Opr)(lo:Option Addr)(lc:Nat)(h:Ops W lo l lc):
  Calls Tryz.prog 7 #[.int .i64 pages,.slice qo Q.length qc,.int .i64 now,.slice lo l.length lc] W fun x w'=>x=.returned (.bool true)∧Below W.heap.size W w':=by
 have mixed:Tryz.prog.follows .mixedOrders=true:=by kernel_rfl
 have HTB:=Hid.m hT
 clear hT
 have HQ:=Hid.m hq
 have HO:=Hid.m h
 have hql:=hq.len
 have hll:=h.row.len
 clear hq h
 cases hg:grt l Q.length
 case true=>
  go_enter Tryz.func7,Tryz.ntmps7
  go_wp2_with (first
   | (go_at_call 16;refine (alive_any E W HTB.out).mono ?_;rintro x w1 ⟨rfl,hb1⟩;have HB1:=Hid.m hb1;clear hb1)
   | (go_at_call 17;refine (great_any l lo qo lc Q.length qc w1 (HO.out.below HB1.out) hql).mono ?_;rintro x w2 ⟨rfl,hb2⟩;rw [hg];have HB2:=Hid.m (g_on HB1.out hb2);clear hb2))
  go_ret
  exact ⟨rfl,HB2.out⟩
 case false=>
 have HG:=Hid.m (grt_not hg)
 by_cases hN:0≤pages∧chkE pages.toNat Q=0∧momI now=true
 case neg=>
  go_enter Tryz.func7,Tryz.ntmps7
  go_wp2_with (first
   | (go_at_call 16;refine (alive_any E W HTB.out).mono ?_;rintro x w1 ⟨rfl,hb1⟩;have HB1:=Hid.m hb1;clear hb1)
   | (go_at_call 17;refine (great_any l lo qo lc Q.length qc w1 (HO.out.below HB1.out) hql).mono ?_;rintro x w2 ⟨rfl,hb2⟩;rw [hg];have HB2:=Hid.m (g_on HB1.out hb2);clear hb2)
   | (go_at_call 11;refine (E.makes pages Q now qo qc w2 hN (HQ.out.below HB2.out)).mono ?_;rintro x w3 ⟨f,rfl,hf,hb3⟩;have HB3:=Hid.m (g_on HB2.out hb3);have hf2:(f != 0)=true:=(by simpa using hf);have hf3:(f==0)=false:=(by simpa using hf);clear hb3 hf))
  go_ret
  exact ⟨rfl,HB3.out⟩
 case pos=>
 obtain ⟨n,rfl⟩:∃ n:Nat,pages=n:=⟨pages.toNat,by omega⟩
 have hN1:chkE n Q=0:=by simpa using hN.2.1
 have hN2:=hN.2.2
 clear hN
 go_enter Tryz.func7,Tryz.ntmps7
 go_upto_region 7 with (first
  | (go_at_call 16;refine (alive_any E W HTB.out).mono ?_;rintro x w1 ⟨rfl,hb1⟩;have HB1:=Hid.m hb1;clear hb1)
  | (go_at_call 17;refine (great_any l lo qo lc Q.length qc w1 (HO.out.below HB1.out) hql).mono ?_;rintro x w2 ⟨rfl,hb2⟩;rw [hg];have HB2:=Hid.m (g_on HB1.out hb2);clear hb2)
  | (go_at_call 11;refine (E.make n Q now qo qc w2 hN1 hN2 (HQ.out.below HB2.out)).mono ?_;rintro x w3 ⟨e,F,rfl,hR,hF,hb3⟩;have HR:=Hid.m hR;have HF:=Hid.m hF;have HB3:=Hid.m (g_on HB2.out hb3);clear hR hF hb3))
 have HT:Hid (Ap Rr 0 W w3 e (Sh.new n Q now) F):=⟨HR.out,HB3.out,fun k hk=>Nat.le_trans HB2.out.size (HF.out k hk)⟩
 obtain ⟨a,rfl⟩:=E.ptr HR.out
 clear HR HF HB1 HB2 HB3
 go_wp2
 go_loopw [12] (fun i wr=>∃ (k:Nat) (s:Sh) (F:Nat→Prop),k≤l.length∧i=.int .i64 k∧Hid (s.pages.length=n)∧Hid (Ap Rr k W wr (.pointer (some a)) s F)) (fun i _=>l.length - (intOf i).toNat)
 case atStart=>exact ⟨0,_,_,Nat.zero_le _,rfl,(by show _=_;simp [Sh.new]),HT⟩
 case round=>
  clear HT
  obtain ⟨k,s,F,hk,rfl,HPN,HT⟩:=hrel
  by_cases hkl:k<l.length
  ·have hkl2:(k:Int)<(l.length:Int):=by omega
   have hne:l≠[]:=by intro e;rw [e] at hkl;simp at hkl
   have HI:=Hid.m (E.inv HT.out.rep)
   obtain ⟨bo,oo,hlo,hbo,hcs⟩:=HO.out.row.op hne
   have HOM:Hid (l[k]∈l):=List.getElem_mem hkl
   have c0:=hcs k hkl 0 (by simp [Opr.cl])
   have c1:=hcs k hkl 1 (by simp [Opr.cl])
   have c2:=hcs k hkl 2 (by simp [Opr.cl])
   have c3:=hcs k hkl 3 (by simp [Opr.cl])
   have c4:=hcs k hkl 4 (by simp [Opr.cl])
   have c5:=hcs k hkl 5 (by simp [Opr.cl])
   have c6:=hcs k hkl 6 (by simp [Opr.cl])
   have c7:=hcs k hkl 7 (by simp [Opr.cl])
   have c8:=hcs k hkl 8 (by simp [Opr.cl])
   have c9:=hcs k hkl 9 (by simp [Opr.cl])
   have c10:=hcs k hkl 10 (by simp [Opr.cl])
   simp only [Opr.cl,List.getElem_cons_zero,List.getElem_cons_succ,Nat.add_zero] at c0 c1 c2 c3 c4 c5 c6 c7 c8 c9 c10
   obtain ⟨o,ho⟩:∃ o,o=l[k]:=⟨_,rfl⟩
   rw [← ho] at c0 c1 c2 c3 c4 c5 c6 c7 c8 c9 c10 HOM
   have HCS:Hid (∀ wx,Below W.heap.size W wx→bo<wx.heap.size∧wx.cell? ⟨bo,oo+k * 11,none⟩=some (.int .u8 o.kind)∧wx.cell? ⟨bo,oo+k * 11+1,none⟩=some (.int .u8 o.d.c.kind)∧wx.cell? ⟨bo,oo+k * 11+2,none⟩=some (.int .i64 o.d.c.tenant)∧wx.cell? ⟨bo,oo+k * 11+3,none⟩=some (.slice o.d.so o.d.c.keys.length o.d.sc)∧wx.cell? ⟨bo,oo+k * 11+4,none⟩=some (.string o.d.c.value)∧wx.cell? ⟨bo,oo+k * 11+5,none⟩=some (.int .u32 o.d.c.flags)∧wx.cell? ⟨bo,oo+k * 11+6,none⟩=some (.int .i64 o.d.c.life)∧wx.cell? ⟨bo,oo+k * 11+7,none⟩=some (.int .u64 o.d.c.unique)∧wx.cell? ⟨bo,oo+k * 11+8,none⟩=some (.int .u64 o.d.c.by_)∧wx.cell? ⟨bo,oo+k * 11+9,none⟩=some (.int .i64 o.tenant)∧wx.cell? ⟨bo,oo+k * 11+10,none⟩=some (.int .i64 o.dest)):=fun wx hb=>⟨Nat.lt_of_lt_of_le hbo hb.size,(hb.cell (p:=⟨bo,_,none⟩) hbo).trans c0,(hb.cell (p:=⟨bo,_,none⟩) hbo).trans c1,(hb.cell (p:=⟨bo,_,none⟩) hbo).trans c2,(hb.cell (p:=⟨bo,_,none⟩) hbo).trans c3,(hb.cell (p:=⟨bo,_,none⟩) hbo).trans c4,(hb.cell (p:=⟨bo,_,none⟩) hbo).trans c5,(hb.cell (p:=⟨bo,_,none⟩) hbo).trans c6,(hb.cell (p:=⟨bo,_,none⟩) hbo).trans c7,(hb.cell (p:=⟨bo,_,none⟩) hbo).trans c8,(hb.cell (p:=⟨bo,_,none⟩) hbo).trans c9,(hb.cell (p:=⟨bo,_,none⟩) hbo).trans c10⟩
   clear hcs hne ho c0 c1 c2 c3 c4 c5 c6 c7 c8 c9 c10 hbo
   subst hlo
   have HIM1:=Hid.m (E.image HT.out.rep)
   unfold imB at HIM1
   go_upto_region 11 with (go_at_call 14;refine HIM1.out.mono ?_;rintro x w1 ⟨q1,d1,k1,e1,F1,rfl,hq1,ho1,hn1,hk1,hp1,hr1,hR1,hK1,hs1⟩;have HT1:=Hid.m (HT.out.left hR1 hK1 hs1);have HMI:=Hid.m (Img.made hq1 ho1 hk1 hp1 (fun j hj=>E.lt hR1 j hj));clear hq1 ho1 hn1 hk1 hp1 hr1 hR1 hK1 hs1)
   have HT2:=Hid.m (HT1.out.below E (g_alloc w1 (.cells #[.int .i64 s.now,.slice q1 s.quotas.length d1,.slice k1 s.kept.length e1,.int .i64 0,.int .i64 0,.bool false] 41)))
   generalize w1.alloc (.cells #[.int .i64 s.now,.slice q1 s.quotas.length d1,.slice k1 s.kept.length e1,.int .i64 0,.int .i64 0,.bool false] 41)=V1 at HMI HT2 ⊢
   generalize w1.heap.size=B1 at HMI ⊢
   clear HT1 HT HIM1
   have HDO:=Hid.m (do_any E o (show k<1000 by have:=HG.out.len;omega) (HT2.out.calm HTB.out) HT2.out.rep ((HO.out.below HT2.out.bel).keys o HOM.out) (HT2.out.offs HO.out HOM.out) (HO.out.by_ o HOM.out))
   have HMM:Hid ((s.op o.opn).2.1.kind=5→_):=fun h=>op_memory HI.out h
   have HPL:Hid ((s.op o.opn).1.pages.length=n):=((HI.out.op o.opn).2.2.1).trans HPN.out
   obtain ⟨t,ht⟩:∃ t,t=s.op o.opn:=⟨_,rfl⟩
   rw [← ht] at HDO HMM HPL
   clear ht
   obtain ⟨s1,⟨rk,rI,rn⟩,C,ok⟩:=t
   dsimp only at HDO HMM HPL
   unfold Opr.cl at HDO
   obtain ⟨cb,c0,c1,c2,c3,c4,c5,c6,c7,c8,c9,c10⟩:=HCS.out V1 HT2.out.bel
   go_upto_region 12 with (go_at_call 25;refine HDO.out.mono ?_;rintro x w4 ⟨io,ic,lo4,lc4,F4,rfl,hI4,hoI,hnI,hL⟩;have HL:=Hid.m hL;clear hI4 hoI hnI hL)
   clear cb c0 c1 c2 c3 c4 c5 c6 c7 c8 c9 c10
   have HT4:=Hid.m ((HT2.out.left HL.out.rep HL.out.kpt HL.out.sub).below E (g_alloc w4 (.cells #[.int .u8 rk,.slice io rI.length ic,.int .u64 rn] 30)))
   have HMI4:=Hid.m ((HMI.out.left HL.out.kpt HL.out.sub).below (g_alloc w4 (.cells #[.int .u8 rk,.slice io rI.length ic,.int .u64 rn] 30)))
   have HRB:Hid (GBx (w4.alloc (.cells #[.int .u8 rk,.slice io rI.length ic,.int .u64 rn] 30)) w4.heap.size [.int .u8 rk,.slice io rI.length ic,.int .u64 rn]∧¬ F4 w4.heap.size):=⟨GBx.made w4 [.int .u8 rk,.slice io rI.length ic,.int .u64 rn] _,fun hf=>by have:=E.lt HL.out.rep _ hf;omega⟩
   generalize w4.alloc (.cells #[.int .u8 rk,.slice io rI.length ic,.int .u64 rn] 30)=V4 at HT4 HMI4 HRB ⊢
   generalize w4.heap.size=B4 at HRB ⊢
   clear HL HDO HT2 HMI
   have HIM5:=Hid.m (E.image HT4.out.rep)
   unfold imB at HIM5
   go_upto_region 13 with (go_at_call 14;refine HIM5.out.mono ?_;rintro x w5 ⟨q5,d5,k5,e5,F5,rfl,hq5,ho5,hn5,hk5,hp5,hr5,hR5,hK5,hs5⟩;have HT5:=Hid.m (HT4.out.left hR5 hK5 hs5);have HM5:=Hid.m (Img.made hq5 ho5 hk5 hp5 (fun j hj=>E.lt hR5 j hj));have HMI5:=Hid.m (HMI4.out.left hK5 hs5);have HRB5:=Hid.m (HRB.out.1.kpt hK5 HRB.out.2);clear hq5 ho5 hn5 hk5 hp5 hr5 hR5 hK5 hs5)
   have HT6:=Hid.m (HT5.out.below E (g_alloc w5 (.cells #[.int .i64 s1.now,.slice q5 s1.quotas.length d5,.slice k5 s1.kept.length e5,.int .i64 0,.int .i64 0,.bool false] 41)))
   have HMI6:=Hid.m (HMI5.out.below (g_alloc w5 (.cells #[.int .i64 s1.now,.slice q5 s1.quotas.length d5,.slice k5 s1.kept.length e5,.int .i64 0,.int .i64 0,.bool false] 41)))
   have HRB6:=Hid.m (HRB5.out.below (g_alloc w5 (.cells #[.int .i64 s1.now,.slice q5 s1.quotas.length d5,.slice k5 s1.kept.length e5,.int .i64 0,.int .i64 0,.bool false] 41)))
   generalize w5.alloc (.cells #[.int .i64 s1.now,.slice q5 s1.quotas.length d5,.slice k5 s1.kept.length e5,.int .i64 0,.int .i64 0,.bool false] 41)=V6 at HM5 HT6 HMI6 HRB6 ⊢
   generalize w5.heap.size=B5 at HM5 ⊢
   clear HIM5 HT4 HMI4 HRB HT5 HMI5 HRB5
   have HI1:=Hid.m (E.inv HT6.out.rep)
   have h16:s1.pages.length≤16:=by have:=HI1.out.slab;unfold sOk at this;simp at this;omega
   go_upto_region 14 with (go_at_call 29;refine (slab_r HT6.out.rep (by omega)).mono ?_;rintro x w7 ⟨po,pc,rfl,hp7,ha7,hb7⟩;have HP7:=Hid.m hp7;have HB7:=Hid.m hb7;clear hp7 ha7 hb7)
   have HPG:Hid (Pgs W (w7.alloc (.cells #[.slice po s1.pages.length pc] 51)) (k+1) a F5 s s1 B1 B4 B5 w7.heap.size q1 k1 q5 k5 po io d1 e1 d5 e5 pc rI.length ic rk rn):=by
    have hb:=g_on HB7.out (g_alloc w7 (.cells #[.slice po s1.pages.length pc] 51))
    exact ⟨HT6.out.below E hb,HMI6.out.below hb,HM5.out.below hb,HRB6.out.below hb,GBx.made w7 [.slice po s1.pages.length pc] _,HP7.out.alloc _⟩
   generalize w7.alloc (.cells #[.slice po s1.pages.length pc] 51)=V8 at HPG ⊢
   generalize w7.heap.size=B7 at HPG ⊢
   clear HT6 HMI6 HM5 HRB6 HP7 HB7
   have HCK:=Hid.m (Sb.scheck_any V8 po s1.pages pc (sb_of HPG.out.pg))
   rw [show sE s1.pages=0 by unfold sE;rw [if_pos HI1.out.slab]] at HCK
   have x0:=HPG.out.sb.c 0 (by simp)
   have xl:=HPG.out.sb.lt
   simp only [List.getElem_cons_zero] at x0
   have hpl:=HPL.out
   rw [hpl] at HCK x0
   go_upto_region 16 with (go_at_call 30;refine HCK.out.mono ?_;rintro x w8 ⟨rfl,hb8⟩;have HPG8:=Hid.m (HPG.out.on E hb8);have x1:=HPG8.out.sb.c 0 (by simp);have xl1:=HPG8.out.sb.lt;simp only [List.getElem_cons_zero] at x1;rw [hpl] at x1;clear hb8)
   clear x0 xl x1 xl1 HPG HCK
   have hq:=chkE_may HI1.out.quo
   have hq4:s1.quotas.length≤4:=by have:=mayQ_len hq.2.2;omega
   clear hq
   clear hpl
   go_wp2
   go_loopw [22] (fun tt wx=>∃ j:Nat,j≤4∧tt=.int .i64 j∧Hid (Pgs W wx (k+1) a F5 s s1 B1 B4 B5 B7 q1 k1 q5 k5 po io d1 e1 d5 e5 pc rI.length ic rk rn)) (fun tt _=>4 - (intOf tt).toNat)
   case atStart=>exact ⟨0,by omega,rfl,HPG8⟩
   case round=>
    clear HPG8
    obtain ⟨j,hj,rfl,HP⟩:=hrel
    by_cases hj4:j<4
    ·have hj2:(j:Int)<4:=by omega
     have hown:=HI1.out.own j
     have x0:=HP.out.sb.c 0 (by simp)
     have xl:=HP.out.sb.lt
     simp only [List.getElem_cons_zero] at x0
     have HOW:=Hid.m (Sb.Owned_any wr po s1.pages pc (sb_of HP.out.pg) HI1.out.slab j (by unfold isT;simp;omega))
     have HOV:=Hid.m (fun wy (hb:Below wr.heap.size wr wy)=>Qt.qover_any wy po s1.pages pc (sb_of (HP.out.on E hb).pg) q5 s1.quotas d5 (il_of (HP.out.on E hb).im.qr) j)
     by_cases hjq:j<s1.quotas.length
     ·have hask:askE s1.pages s1.quotas j=0:=by
       unfold askE
       rw [if_neg (by rw [HI1.out.slab];decide),if_neg (by rw [HI1.out.quo];decide),if_neg (by unfold hasQ;simp;omega)]
      have hov:overV s1.pages s1.quotas j=0:=by unfold overV;rw [if_pos hask];omega
      rw [hask,hov] at HOV
      have hjq2:(j:Int)<(s1.quotas.length:Int):=by omega
      have hjq3:¬ (s1.quotas.length:Int)≤(j:Int):=by omega
      go_upto_region 20 with (go_at_call 31;refine HOW.out.mono ?_;rintro x w9 ⟨rfl,hb9⟩;have HP9:=Hid.m (HP.out.on E hb9);have HB9:=Hid.m hb9;clear hb9)
      clear x0 xl
      have x0:=HP9.out.sb.c 0 (by simp)
      have xl:=HP9.out.sb.lt
      have y1:=HP9.out.im.box.c 1 (by simp)
      have yl:=HP9.out.im.box.lt
      simp only [List.getElem_cons_zero,List.getElem_cons_succ] at x0 y1
      go_wp2_with (go_at_call 32;refine (HOV.out w9 HB9.out).mono ?_;rintro x w10 ⟨rfl,hb10⟩;have HP10:=Hid.m (HP9.out.on E hb10);clear hb10)
      go_roundw
      case rel=>exact ⟨j+1,by omega,by go_num,HP10⟩
      case measure=>simp [intOf];omega
     ·have hz:qAt s1.quotas j=0:=by unfold qAt;simp [List.getElem?_eq_none (show s1.quotas.length≤j by omega)]
      have ho0:owned s1.pages j=0:=by omega
      rw [show Sb.owned s1.pages j=owned s1.pages j from rfl,ho0] at HOW
      have hjq2:¬ (j:Int)<(s1.quotas.length:Int):=by omega
      have hjq3:(s1.quotas.length:Int)≤(j:Int):=by omega
      go_upto_region 20 with (go_at_call 31;refine HOW.out.mono ?_;rintro x w9 ⟨rfl,hb9⟩;have HP9:=Hid.m (HP.out.on E hb9);clear hb9)
      clear x0 xl
      have y1:=HP9.out.im.box.c 1 (by simp)
      have yl:=HP9.out.im.box.lt
      simp only [List.getElem_cons_zero,List.getElem_cons_succ] at y1
      go_wp2
      go_roundw
      case rel=>exact ⟨j+1,by omega,by go_num,HP9⟩
      case measure=>simp [intOf];omega
    ·have hj2:¬ (j:Int)<4:=by omega
     have hj3:decide ((j:Int)<4)=false:=by simp;omega
     have r0:=HP.out.r.c 0 (by simp)
     have rl:=HP.out.r.lt
     simp only [List.getElem_cons_zero] at r0
     have d0:∀ p:Beh wr,_:=cell_beh (a:=⟨B4,0,none⟩) rl r0
     by_cases hr5:rk=5
     ·obtain ⟨hk0,hs1,hC,t,ht,htq,hOW,hRM⟩:=HMM.out hr5
      subst hr5 hC
      have HP2:Hid (Pgs W wr (k+1) a F5 s s B1 B4 B5 B7 q1 k1 q5 k5 po io d1 e1 d5 e5 pc rI.length ic 5 rn):=by have h9:=HP.out;rw [hs1] at h9;exact h9
      have HSI:=Hid.m (fun p:Beh wr=>sameImage_any s.now 0 0 false s.quotas s.kept q1 q5 k1 k5 d1 d5 e1 e5 p.v (HP2.out.was.qr.below p.ok) (HP2.out.im.qr.below p.ok) (HP2.out.was.kr.below p.ok) (HP2.out.im.kr.below p.ok))
      unfold imB at HSI
      have HRM:=Hid.m (fun p:Beh wr=>room_no p.v s.pages po pc (HP2.out.pg.below p.ok) HI.out.slab s.quotas q5 d5 (HP2.out.im.qr.below p.ok) (by rw [← hs1];exact hq4) s.kept k5 e5 (HP2.out.im.kr.below p.ok) s.now o.d.c.kind t htq hOW o.d.c.keys o.d.so o.d.sc (((HO.out.below HP2.out.ap.bel).keys o HOM.out).below p.ok) o.d.c.value o.d.c.flags o.d.c.life o.d.c.unique o.d.c.by_ hRM)
      obtain ⟨cb,c0,c1,c2,c3,c4,c5,c6,c7,c8,c9,c10⟩:=HCS.out wr HP2.out.ap.bel
      rw [ht] at c2
      clear hs1 ht
      have v0:=HP2.out.was.box.c 0 (by simp)
      have v1:=HP2.out.was.box.c 1 (by simp)
      have v2:=HP2.out.was.box.c 2 (by simp)
      have v3:=HP2.out.was.box.c 3 (by simp)
      have v4:=HP2.out.was.box.c 4 (by simp)
      have v5:=HP2.out.was.box.c 5 (by simp)
      have u0:=HP2.out.im.box.c 0 (by simp)
      have u1:=HP2.out.im.box.c 1 (by simp)
      have u2:=HP2.out.im.box.c 2 (by simp)
      have u3:=HP2.out.im.box.c 3 (by simp)
      have u4:=HP2.out.im.box.c 4 (by simp)
      have u5:=HP2.out.im.box.c 5 (by simp)
      have sb0:=HP2.out.sb.c 0 (by simp)
      simp only [List.getElem_cons_zero,List.getElem_cons_succ] at v0 v1 v2 v3 v4 v5 u0 u1 u2 u3 u4 u5 sb0
      have v0':∀ p:Beh wr,_:=cell_beh (a:=⟨B1,0,none⟩) HP2.out.was.box.lt v0
      have v1':∀ p:Beh wr,_:=cell_beh (a:=⟨B1,1,none⟩) HP2.out.was.box.lt v1
      have v2':∀ p:Beh wr,_:=cell_beh (a:=⟨B1,2,none⟩) HP2.out.was.box.lt v2
      have v3':∀ p:Beh wr,_:=cell_beh (a:=⟨B1,3,none⟩) HP2.out.was.box.lt v3
      have v4':∀ p:Beh wr,_:=cell_beh (a:=⟨B1,4,none⟩) HP2.out.was.box.lt v4
      have v5':∀ p:Beh wr,_:=cell_beh (a:=⟨B1,5,none⟩) HP2.out.was.box.lt v5
      have u0':∀ p:Beh wr,_:=cell_beh (a:=⟨B5,0,none⟩) HP2.out.im.box.lt u0
      have u1':∀ p:Beh wr,_:=cell_beh (a:=⟨B5,1,none⟩) HP2.out.im.box.lt u1
      have u2':∀ p:Beh wr,_:=cell_beh (a:=⟨B5,2,none⟩) HP2.out.im.box.lt u2
      have u3':∀ p:Beh wr,_:=cell_beh (a:=⟨B5,3,none⟩) HP2.out.im.box.lt u3
      have u4':∀ p:Beh wr,_:=cell_beh (a:=⟨B5,4,none⟩) HP2.out.im.box.lt u4
      have u5':∀ p:Beh wr,_:=cell_beh (a:=⟨B5,5,none⟩) HP2.out.im.box.lt u5
      have sb':∀ p:Beh wr,_:=cell_beh (a:=⟨B7,0,none⟩) HP2.out.sb.lt sb0
      have k1':∀ p:Beh wr,_:=cell_beh (a:=⟨bo,oo+k * 11+1,none⟩) cb c1
      have k2':∀ p:Beh wr,_:=cell_beh (a:=⟨bo,oo+k * 11+2,none⟩) cb c2
      have k3':∀ p:Beh wr,_:=cell_beh (a:=⟨bo,oo+k * 11+3,none⟩) cb c3
      have k4':∀ p:Beh wr,_:=cell_beh (a:=⟨bo,oo+k * 11+4,none⟩) cb c4
      have k5':∀ p:Beh wr,_:=cell_beh (a:=⟨bo,oo+k * 11+5,none⟩) cb c5
      have k6':∀ p:Beh wr,_:=cell_beh (a:=⟨bo,oo+k * 11+6,none⟩) cb c6
      have k7':∀ p:Beh wr,_:=cell_beh (a:=⟨bo,oo+k * 11+7,none⟩) cb c7
      have k8':∀ p:Beh wr,_:=cell_beh (a:=⟨bo,oo+k * 11+8,none⟩) cb c8
      clear v0 v1 v2 v3 v4 v5 u0 u1 u2 u3 u4 u5 sb0 c0 c1 c2 c3 c4 c5 c6 c7 c8 c9 c10 r0 hRM hOW
      go_upto_region 26 with (fail)
      refine wp_region_quiet_beh (by assumption) (by kernel_rfl) ?_
      repeat (first | go_big_quiet_skip | (quiet_step (first | (go_at_call 24;exact Calls.beh_of (HSI.out _)) | (go_at_call 33;exact Calls.beh_of (HRM.out _)))))
      refine wpQuiet_nil ?_
      intro w5 hw'
      obtain ⟨⟨wq,hqq⟩,hw''⟩:=hw'
      subst hw''
      clear d0 HSI HRM v0' v1' v2' v3' v4' v5' u0' u1' u2' u3' u4' u5' sb' k1' k2' k3' k4' k5' k6' k7' k8'
      go_wp2
      go_roundw
      case rel=>exact ⟨k+1,s1,F5,by omega,by go_num,HPL,(HP.out.on E hqq).ap⟩
      case measure=>simp [intOf];omega
     ·have hr6:(rk==5)=false:=by simpa using hr5
      clear r0
      go_upto_region 26 with (fail)
      refine wp_region_quiet_beh (by assumption) (by kernel_rfl) ?_
      repeat (first | go_big_quiet_skip | (quiet_step (fail)))
      refine wpQuiet_nil ?_
      intro w5 hw'
      obtain ⟨⟨wq,hqq⟩,hw''⟩:=hw'
      subst hw''
      clear d0
      go_wp2
      go_roundw
      case rel=>exact ⟨k+1,s1,F5,by omega,by go_num,HPL,(HP.out.on E hqq).ap⟩
      case measure=>simp [intOf];omega
  ·have hkl2:¬ (k:Int)<(l.length:Int):=by omega
   have hkl3:decide ((k:Int)<(l.length:Int))=false:=by simp;omega
   go_wp2
   go_ret
   exact ⟨rfl,HT.out.bel⟩
end Go.Proofs.YtcdpiefflnaghaaGreatDoor.En
