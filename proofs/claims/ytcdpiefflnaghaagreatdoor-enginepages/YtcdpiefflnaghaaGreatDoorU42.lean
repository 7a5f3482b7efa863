/-
  Package engine and what stands beneath it, part 42: contracts of functions, and what they rest on.
-/
import Derived.Test.YtcdpiefflnaghaaGreatDoorU40
import Derived.Test.YtcdpiefflnaghaaGreatDoorU41
import Derived.Test.YtcdpiefflnaghaaGreatDoorU20
import Derived.Test.YtcdpiefflnaghaaGreatDoorU32
import Derived.Test.YtcdpiefflnaghaaGreatDoorU11
set_option linter.unusedSimpArgs false
set_option linter.unusedVariables false
set_option maxRecDepth 100000
namespace Go.Proofs.YtcdpiefflnaghaaGreatDoor.En
open Go.Proofs.YtcdpiefflnaghaaGreatDoor.It
open Go.Proofs.YtcdpiefflnaghaaGreatDoor.Lr
open Go.Proofs.YtcdpiefflnaghaaGreatDoor.Qt
open Go.Proofs.YtcdpiefflnaghaaGreatDoor.Sb
open Go.RowKit Go.Proofs.YtcdpiefflnaghaaGreatDoor
set_option maxHeartbeats 4000000 in
theorem do_bad {N M:Nat}{A:Ad}{s:Sh}{x:Ra}{F:Cp→Nat→Prop}{w:World}(hE:Eg N w A x F)(RA:RepA x s)(RB:RepB x s)(d:Cd)(hK:GRd ES w d.so d.c.keys d.sc)(hm:¬ d.c.may=true):
  Calls Tryz.prog 12 #[ptr A.b,.agg d.cl.toArray] w fun e w'=>∃ io ic lo lc,e=.returned (.tuple #[.agg #[.int .u8 0,.slice io 0 ic,.int .u64 0],.slice lo 0 lc,.int .i64 100])∧Dgs N A s F w w' io [] ic lo [] lc:=by
 obtain ⟨W,hW⟩:∃ W,W=(w.alloc (.cells #[.int .u8 d.c.kind,.int .i64 d.c.tenant,.slice d.so d.c.keys.length d.sc,.string d.c.value,.int .u32 d.c.flags,.int .i64 d.c.life,.int .u64 d.c.unique,.int .u64 d.c.by_] 37)).alloc (.cells #[.int .u8 0,.slice none 0 0,.int .u64 0] 30):=⟨_,rfl⟩
 have hBW:Below w.heap.size w W:=by rw [hW];exact g_on (g_alloc _ _) (g_alloc _ _)
 have hWs:W.heap.size=w.heap.size+2:=by rw [hW];simp
 have hBC:GBx W w.heap.size [.int .u8 d.c.kind,.int .i64 d.c.tenant,.slice d.so d.c.keys.length d.sc,.string d.c.value,.int .u32 d.c.flags,.int .i64 d.c.life,.int .u64 d.c.unique,.int .u64 d.c.by_]:=by rw [hW];exact (GBx.made w _ _).alloc _
 have hBR:GBx W (w.heap.size+1) [.int .u8 0,.slice none 0 0,.int .u64 0]:=by
  rw [hW]
  have:=GBx.made (w.alloc (.cells #[.int .u8 d.c.kind,.int .i64 d.c.tenant,.slice d.so d.c.keys.length d.sc,.string d.c.value,.int .u32 d.c.flags,.int .i64 d.c.life,.int .u64 d.c.unique,.int .u64 d.c.by_] 37)) [.int .u8 0,.slice none 0 0,.int .u64 0] 30
  rw [show (w.alloc (.cells #[.int .u8 d.c.kind,.int .i64 d.c.tenant,.slice d.so d.c.keys.length d.sc,.string d.c.value,.int .u32 d.c.flags,.int .i64 d.c.life,.int .u64 d.c.unique,.int .u64 d.c.by_] 37)).heap.size=w.heap.size+1 by simp] at this
  exact this
 have HUR:Hid (¬ Un F (w.heap.size+1)):=fun hu=>by have:=hE.un _ hu;omega
 have HUC:Hid (¬ Un F w.heap.size):=fun hu=>by have:=hE.un _ hu;omega
 have HB1:=Hid.m hBW
 have HR1:=Hid.m hBR
 have HC1:=Hid.m hBC
 have HRL:Hid (w.heap.size+1<W.heap.size):=by show _<_;omega
 have HIM:=Hid.m (eisMade_any (hE.below hBW))
 have HNM:Hid (Calls Tryz.prog 44 #[.agg #[.int .u8 d.c.kind,.int .i64 d.c.tenant,.slice d.so d.c.keys.length d.sc,.string d.c.value,.int .u32 d.c.flags,.int .i64 d.c.life,.int .u64 d.c.unique,.int .u64 d.c.by_]] W fun e w'=>∃ no nc,e=.returned (.tuple #[.slice no d.c.nmL.length nc,.int .i64 d.c.chkE])∧GRd EN w' no d.c.nmL nc∧(∀ a,no=some a→W.heap.size≤a.block∧a.block<w'.heap.size)∧Below W.heap.size W w'):=by
  refine (pnames_any d.c d.so d.sc W (hK.below hBW)).mono ?_
  rintro e w' ⟨v,rfl,h1,h2⟩
  obtain ⟨no,nc,hv,hr⟩:=h1.rd Go.Proofs.YtcdpiefflnaghaaGreatDoor.okN
  subst hv
  exact ⟨no,nc,rfl,hr,fun a ha=>by subst ha;exact h1.lt _ rfl,h2⟩
 have c0:=hBC.c 0 (by simp)
 have c1:=hBC.c 1 (by simp)
 have c2:=hBC.c 2 (by simp)
 have c3:=hBC.c 3 (by simp)
 have c4:=hBC.c 4 (by simp)
 have c5:=hBC.c 5 (by simp)
 have c6:=hBC.c 6 (by simp)
 have c7:=hBC.c 7 (by simp)
 have cl:=hBC.lt
 simp only [List.getElem_cons_zero,List.getElem_cons_succ] at c0 c1 c2 c3 c4 c5 c6 c7
 have HDW:Hid (∀ w2,Below W.heap.size W w2→Dgs N A s F w (((w2.setCell ⟨w.heap.size+1,0,none⟩ (.int .u8 0)).setCell ⟨w.heap.size+1,1,none⟩ (.slice none 0 0)).setCell ⟨w.heap.size+1,2,none⟩ (.int .u64 0)) none [] 0 none [] 0):=fun w2 hb=>by
  have:=dgs_write (n:=W.heap.size) (⟨x,hE.lv (g_on hBW hb),RA,RB⟩:Mv N A s F w w2 F) (GRd.nil w2) (GRd.nil w2) (fun a ha=>by cases ha) (fun a ha=>by cases ha) HUR.out (show w.heap.size≤w.heap.size+1 by omega) HRL.out 0 [.int .u8 0,.slice none 0 0,.int .u64 0]
  unfold sets sets sets sets at this
  exact this
 have hce:d.c.chkE=100:=by unfold Cm.chkE;rw [if_neg hm]
 rw [hce] at HNM
 obtain ⟨nn,hnn⟩:∃ nn,nn=d.c.nmL.length:=⟨_,rfl⟩
 rw [← hnn] at HNM
 clear hE hBC hBR hBW hWs hK hm hce hnn RA RB
 unfold ptr at HIM
 unfold Cd.cl ptr
 go_enter Tryz.func12,Tryz.ntmps12
 go_upto_region 1 with (fail)
 rw [← hW]
 clear hW
 go_wp2_with (first
  | (go_at_call 43;refine HIM.out.mono ?_;rintro e w1 ⟨rfl,rfl⟩)
  | (go_at_call 44;refine HNM.out.mono ?_;rintro e w2 ⟨no,nc,rfl,hr2,ha2,hb2⟩;have HB2:=Hid.m hb2;have HR2:=Hid.m hr2;have HA2:=Hid.m ha2;clear hb2 hr2 ha2;have hbR:=HR1.out.below HB2.out;have y0:=hbR.c 0 (by simp);have y1:=hbR.c 1 (by simp);have y2:=hbR.c 2 (by simp);have f0:=hbR.f 0;have f1:=hbR.f 1;have f2:=hbR.f 2;have yl:=hbR.lt;simp only [List.getElem_cons_zero,List.getElem_cons_succ] at y0 y1 y2;have hX:=(((hbR.set 0 (.int .u8 0) (by simp)).set 1 (.slice none 0 0) (by simp)).set 2 (.int .u64 0) (by simp));have ZZ0:=Hid.m (hX.c 0 (by simp));have ZZ1:=Hid.m (hX.c 1 (by simp));have ZZ2:=Hid.m (hX.c 2 (by simp));have HCG:=Hid.m (HDW.out w2 HB2.out);simp only [List.getElem_cons_zero,List.getElem_cons_succ,List.set_cons_zero,List.set_cons_succ] at ZZ0 ZZ1 ZZ2;clear hX hbR))
 try simp only [Exit.inBlock,Exit.then]
 refine bodyPost_ret (v:=.tuple #[.agg #[.int .u8 0,.slice none 0 0,.int .u64 0],.slice none 0 0,.int .i64 100]) (by simp [results,Tryz.results12,go_sem,ZZ0.out,ZZ1.out,ZZ2.out]) rfl ⟨none,0,none,0,rfl,HCG.out⟩
set_option maxHeartbeats 4000000 in
theorem do_ref {N M:Nat}{A:Ad}{s:Sh}{x:Ra}{F:Cp→Nat→Prop}{w:World}(hE:Eg N w A x F)(RA:RepA x s)(RB:RepB x s)(d:Cd)(hK:GRd ES w d.so d.c.keys d.sc)(hm:d.c.may=true)(hq:(s.quotas.length:Int)≤d.c.tenant):
  Calls Tryz.prog 12 #[ptr A.b,.agg d.cl.toArray] w fun e w'=>∃ io ic lo lc,e=.returned (.tuple #[.agg #[.int .u8 7,.slice io 0 ic,.int .u64 0],.slice lo 0 lc,.int .i64 0])∧Dgs N A s F w w' io [] ic lo [] lc:=by
 obtain ⟨W,hW⟩:∃ W,W=(w.alloc (.cells #[.int .u8 d.c.kind,.int .i64 d.c.tenant,.slice d.so d.c.keys.length d.sc,.string d.c.value,.int .u32 d.c.flags,.int .i64 d.c.life,.int .u64 d.c.unique,.int .u64 d.c.by_] 37)).alloc (.cells #[.int .u8 0,.slice none 0 0,.int .u64 0] 30):=⟨_,rfl⟩
 have hBW:Below w.heap.size w W:=by rw [hW];exact g_on (g_alloc _ _) (g_alloc _ _)
 have hWs:W.heap.size=w.heap.size+2:=by rw [hW];simp
 have hBC:GBx W w.heap.size [.int .u8 d.c.kind,.int .i64 d.c.tenant,.slice d.so d.c.keys.length d.sc,.string d.c.value,.int .u32 d.c.flags,.int .i64 d.c.life,.int .u64 d.c.unique,.int .u64 d.c.by_]:=by rw [hW];exact (GBx.made w _ _).alloc _
 have hBR:GBx W (w.heap.size+1) [.int .u8 0,.slice none 0 0,.int .u64 0]:=by
  rw [hW]
  have:=GBx.made (w.alloc (.cells #[.int .u8 d.c.kind,.int .i64 d.c.tenant,.slice d.so d.c.keys.length d.sc,.string d.c.value,.int .u32 d.c.flags,.int .i64 d.c.life,.int .u64 d.c.unique,.int .u64 d.c.by_] 37)) [.int .u8 0,.slice none 0 0,.int .u64 0] 30
  rw [show (w.alloc (.cells #[.int .u8 d.c.kind,.int .i64 d.c.tenant,.slice d.so d.c.keys.length d.sc,.string d.c.value,.int .u32 d.c.flags,.int .i64 d.c.life,.int .u64 d.c.unique,.int .u64 d.c.by_] 37)).heap.size=w.heap.size+1 by simp] at this
  exact this
 have HUR:Hid (¬ Un F (w.heap.size+1)):=fun hu=>by have:=hE.un _ hu;omega
 have HUC:Hid (¬ Un F w.heap.size):=fun hu=>by have:=hE.un _ hu;omega
 have HB1:=Hid.m hBW
 have HR1:=Hid.m hBR
 have HC1:=Hid.m hBC
 have HRL:Hid (w.heap.size+1<W.heap.size):=by show _<_;omega
 have HIM:=Hid.m (eisMade_any (hE.below hBW))
 have HNM:Hid (Calls Tryz.prog 44 #[.agg #[.int .u8 d.c.kind,.int .i64 d.c.tenant,.slice d.so d.c.keys.length d.sc,.string d.c.value,.int .u32 d.c.flags,.int .i64 d.c.life,.int .u64 d.c.unique,.int .u64 d.c.by_]] W fun e w'=>∃ no nc,e=.returned (.tuple #[.slice no d.c.nmL.length nc,.int .i64 d.c.chkE])∧GRd EN w' no d.c.nmL nc∧(∀ a,no=some a→W.heap.size≤a.block∧a.block<w'.heap.size)∧Below W.heap.size W w'):=by
  refine (pnames_any d.c d.so d.sc W (hK.below hBW)).mono ?_
  rintro e w' ⟨v,rfl,h1,h2⟩
  obtain ⟨no,nc,hv,hr⟩:=h1.rd Go.Proofs.YtcdpiefflnaghaaGreatDoor.okN
  subst hv
  exact ⟨no,nc,rfl,hr,fun a ha=>by subst ha;exact h1.lt _ rfl,h2⟩
 have c0:=hBC.c 0 (by simp)
 have c1:=hBC.c 1 (by simp)
 have c2:=hBC.c 2 (by simp)
 have c3:=hBC.c 3 (by simp)
 have c4:=hBC.c 4 (by simp)
 have c5:=hBC.c 5 (by simp)
 have c6:=hBC.c 6 (by simp)
 have c7:=hBC.c 7 (by simp)
 have cl:=hBC.lt
 simp only [List.getElem_cons_zero,List.getElem_cons_succ] at c0 c1 c2 c3 c4 c5 c6 c7
 have HDW:Hid (∀ w2,Below W.heap.size W w2→Dgs N A s F w (((w2.setCell ⟨w.heap.size+1,0,none⟩ (.int .u8 7)).setCell ⟨w.heap.size+1,1,none⟩ (.slice none 0 0)).setCell ⟨w.heap.size+1,2,none⟩ (.int .u64 0)) none [] 0 none [] 0):=fun w2 hb=>by
  have:=dgs_write (n:=W.heap.size) (⟨x,hE.lv (g_on hBW hb),RA,RB⟩:Mv N A s F w w2 F) (GRd.nil w2) (GRd.nil w2) (fun a ha=>by cases ha) (fun a ha=>by cases ha) HUR.out (show w.heap.size≤w.heap.size+1 by omega) HRL.out 0 [.int .u8 7,.slice none 0 0,.int .u64 0]
  unfold sets sets sets sets at this
  exact this
 have hce:d.c.chkE=0:=by unfold Cm.chkE;rw [if_pos hm]
 rw [hce] at HNM
 obtain ⟨nn,hnn⟩:∃ nn,nn=d.c.nmL.length:=⟨_,rfl⟩
 rw [← hnn] at HNM
 have HHQ:=Hid.m (fun w2 (hb:Below W.heap.size W w2)=>ehasQ_any ((hE.below hBW).below hb) d.c.tenant)
 rw [show decide (0≤d.c.tenant∧d.c.tenant<(x.quotas.length:Int))=false by rw [RA.quo];simp;omega] at HHQ
 clear hE hBC hBR hBW hWs hK hm hce hnn RA RB hq
 unfold ptr at HIM HHQ
 unfold Cd.cl ptr
 go_enter Tryz.func12,Tryz.ntmps12
 go_upto_region 1 with (fail)
 rw [← hW]
 clear hW
 go_wp2_with (first
  | (go_at_call 43;refine HIM.out.mono ?_;rintro e w1 ⟨rfl,rfl⟩)
  | (go_at_call 44;refine HNM.out.mono ?_;rintro e w2 ⟨no,nc,rfl,hr2,ha2,hb2⟩;have HB2:=Hid.m hb2;have HR2:=Hid.m hr2;have HA2:=Hid.m ha2;have hC2:=HC1.out.below hb2;have d0:=hC2.c 0 (by simp);have d1:=hC2.c 1 (by simp);have d2:=hC2.c 2 (by simp);have d3:=hC2.c 3 (by simp);have d4:=hC2.c 4 (by simp);have d5:=hC2.c 5 (by simp);have d6:=hC2.c 6 (by simp);have d7:=hC2.c 7 (by simp);have dl:=hC2.lt;simp only [List.getElem_cons_zero,List.getElem_cons_succ] at d0 d1 d2 d3 d4 d5 d6 d7;clear hC2 hb2 hr2 ha2;have hbR:=HR1.out.below HB2.out;have y0:=hbR.c 0 (by simp);have y1:=hbR.c 1 (by simp);have y2:=hbR.c 2 (by simp);have f0:=hbR.f 0;have f1:=hbR.f 1;have f2:=hbR.f 2;have yl:=hbR.lt;simp only [List.getElem_cons_zero,List.getElem_cons_succ] at y0 y1 y2;have hX:=(((hbR.set 0 (.int .u8 7) (by simp)).set 1 (.slice none 0 0) (by simp)).set 2 (.int .u64 0) (by simp));have ZZ0:=Hid.m (hX.c 0 (by simp));have ZZ1:=Hid.m (hX.c 1 (by simp));have ZZ2:=Hid.m (hX.c 2 (by simp));have HCG:=Hid.m (HDW.out w2 HB2.out);simp only [List.getElem_cons_zero,List.getElem_cons_succ,List.set_cons_zero,List.set_cons_succ] at ZZ0 ZZ1 ZZ2;clear hX hbR)
  | (go_at_call 45;refine (HHQ.out w2 HB2.out).mono ?_;rintro e w3 ⟨rfl,rfl⟩))
 try simp only [Exit.inBlock,Exit.then]
 refine bodyPost_ret (v:=.tuple #[.agg #[.int .u8 7,.slice none 0 0,.int .u64 0],.slice none 0 0,.int .i64 0]) (by simp [results,Tryz.results12,go_sem,ZZ0.out,ZZ1.out,ZZ2.out]) rfl ⟨none,0,none,0,rfl,HCG.out⟩
set_option maxHeartbeats 4000000 in
theorem do_done {N M:Nat}{A:Ad}{s:Sh}{x:Ra}{F:Cp→Nat→Prop}{w:World}(hE:Eg N w A x F)(RA:RepA x s)(RB:RepB x s)(d:Cd)(hK:GRd ES w d.so d.c.keys d.sc)(hm:d.c.may=true){t:Nat}(htn:d.c.tenant=(t:Int))(ht:t<s.quotas.length){r:Sh × Rs × List Ch}
  (HDN:∀ W0 no nc,Below w.heap.size w W0→GRd EN W0 no d.c.names nc→(∀ a,no=some a→¬ Un F a.block∧a.block<W0.heap.size)→Calls Tryz.prog 46 #[ptr A.b,.agg d.cl.toArray,.slice no d.c.keys.length nc] W0 fun e w'=>∃ io ic lo lc,e=.returned (.tuple #[.agg #[.int .u8 r.2.1.kind,.slice io r.2.1.items.length ic,.int .u64 r.2.1.number],.slice lo r.2.2.length lc])∧Dgs M A r.1 F W0 w' io r.2.1.items ic lo r.2.2 lc):
  Calls Tryz.prog 12 #[ptr A.b,.agg d.cl.toArray] w fun e w'=>∃ io ic lo lc,e=.returned (.tuple #[.agg #[.int .u8 r.2.1.kind,.slice io r.2.1.items.length ic,.int .u64 r.2.1.number],.slice lo r.2.2.length lc,.int .i64 0])∧Dgs M A r.1 F w w' io r.2.1.items ic lo r.2.2 lc:=by
 obtain ⟨W,hW⟩:∃ W,W=(w.alloc (.cells #[.int .u8 d.c.kind,.int .i64 d.c.tenant,.slice d.so d.c.keys.length d.sc,.string d.c.value,.int .u32 d.c.flags,.int .i64 d.c.life,.int .u64 d.c.unique,.int .u64 d.c.by_] 37)).alloc (.cells #[.int .u8 0,.slice none 0 0,.int .u64 0] 30):=⟨_,rfl⟩
 have hBW:Below w.heap.size w W:=by rw [hW];exact g_on (g_alloc _ _) (g_alloc _ _)
 have hWs:W.heap.size=w.heap.size+2:=by rw [hW];simp
 have hBC:GBx W w.heap.size [.int .u8 d.c.kind,.int .i64 d.c.tenant,.slice d.so d.c.keys.length d.sc,.string d.c.value,.int .u32 d.c.flags,.int .i64 d.c.life,.int .u64 d.c.unique,.int .u64 d.c.by_]:=by rw [hW];exact (GBx.made w _ _).alloc _
 have hBR:GBx W (w.heap.size+1) [.int .u8 0,.slice none 0 0,.int .u64 0]:=by
  rw [hW]
  have:=GBx.made (w.alloc (.cells #[.int .u8 d.c.kind,.int .i64 d.c.tenant,.slice d.so d.c.keys.length d.sc,.string d.c.value,.int .u32 d.c.flags,.int .i64 d.c.life,.int .u64 d.c.unique,.int .u64 d.c.by_] 37)) [.int .u8 0,.slice none 0 0,.int .u64 0] 30
  rw [show (w.alloc (.cells #[.int .u8 d.c.kind,.int .i64 d.c.tenant,.slice d.so d.c.keys.length d.sc,.string d.c.value,.int .u32 d.c.flags,.int .i64 d.c.life,.int .u64 d.c.unique,.int .u64 d.c.by_] 37)).heap.size=w.heap.size+1 by simp] at this
  exact this
 have HUR:Hid (¬ Un F (w.heap.size+1)):=fun hu=>by have:=hE.un _ hu;omega
 have HUC:Hid (¬ Un F w.heap.size):=fun hu=>by have:=hE.un _ hu;omega
 have HB1:=Hid.m hBW
 have HR1:=Hid.m hBR
 have HC1:=Hid.m hBC
 have HRL:Hid (w.heap.size+1<W.heap.size):=by show _<_;omega
 have HIM:=Hid.m (eisMade_any (hE.below hBW))
 have HNM:Hid (Calls Tryz.prog 44 #[.agg #[.int .u8 d.c.kind,.int .i64 d.c.tenant,.slice d.so d.c.keys.length d.sc,.string d.c.value,.int .u32 d.c.flags,.int .i64 d.c.life,.int .u64 d.c.unique,.int .u64 d.c.by_]] W fun e w'=>∃ no nc,e=.returned (.tuple #[.slice no d.c.nmL.length nc,.int .i64 d.c.chkE])∧GRd EN w' no d.c.nmL nc∧(∀ a,no=some a→W.heap.size≤a.block∧a.block<w'.heap.size)∧Below W.heap.size W w'):=by
  refine (pnames_any d.c d.so d.sc W (hK.below hBW)).mono ?_
  rintro e w' ⟨v,rfl,h1,h2⟩
  obtain ⟨no,nc,hv,hr⟩:=h1.rd Go.Proofs.YtcdpiefflnaghaaGreatDoor.okN
  subst hv
  exact ⟨no,nc,rfl,hr,fun a ha=>by subst ha;exact h1.lt _ rfl,h2⟩
 have c0:=hBC.c 0 (by simp)
 have c1:=hBC.c 1 (by simp)
 have c2:=hBC.c 2 (by simp)
 have c3:=hBC.c 3 (by simp)
 have c4:=hBC.c 4 (by simp)
 have c5:=hBC.c 5 (by simp)
 have c6:=hBC.c 6 (by simp)
 have c7:=hBC.c 7 (by simp)
 have cl:=hBC.lt
 simp only [List.getElem_cons_zero,List.getElem_cons_succ] at c0 c1 c2 c3 c4 c5 c6 c7
 have hce:d.c.chkE=0:=by unfold Cm.chkE;rw [if_pos hm]
 have hnl:d.c.nmL=d.c.names:=by unfold Cm.nmL;rw [if_pos hm]
 have hnk:d.c.names.length=d.c.keys.length:=by unfold Cm.names;rw [List.length_map]
 rw [hce,hnl,hnk] at HNM
 have HHQ:=Hid.m (fun w2 (hb:Below W.heap.size W w2)=>ehasQ_any ((hE.below hBW).below hb) d.c.tenant)
 rw [show decide (0≤d.c.tenant∧d.c.tenant<(x.quotas.length:Int))=true by rw [RA.quo];simp;omega] at HHQ
 have HUN:=Hid.m hE.un
 replace HDN:=Hid.m HDN
 obtain ⟨s',hs'⟩:∃ s',s'=r.1:=⟨_,rfl⟩
 obtain ⟨kd,hkd⟩:∃ kd,kd=r.2.1.kind:=⟨_,rfl⟩
 obtain ⟨IT,hIT⟩:∃ IT,IT=r.2.1.items:=⟨_,rfl⟩
 obtain ⟨nb,hnb⟩:∃ nb,nb=r.2.1.number:=⟨_,rfl⟩
 obtain ⟨CH,hCH⟩:∃ CH,CH=r.2.2:=⟨_,rfl⟩
 rw [← hs',← hkd,← hIT,← hnb,← hCH] at HDN ⊢
 have HDL:Hid (w.heap.size≤W.heap.size):=hBW.size
 clear hE hBC hBR hBW hWs hK hm hce hnl hnk RA RB ht htn hs' hkd hIT hnb hCH
 unfold ptr at HIM HHQ HDN
 unfold Cd.cl at HDN
 unfold Cd.cl ptr
 go_enter Tryz.func12,Tryz.ntmps12
 go_upto_region 1 with (fail)
 rw [← hW]
 clear hW
 go_upto_region 8 with (first
  | (go_at_call 43;refine HIM.out.mono ?_;rintro e w1 ⟨rfl,rfl⟩)
  | (go_at_call 44;refine HNM.out.mono ?_;rintro e w2 ⟨no,nc,rfl,hr2,ha2,hb2⟩;have HB2:=Hid.m hb2;have HR2:=Hid.m hr2;have HA2:=Hid.m ha2;have hC2:=HC1.out.below hb2;have d0:=hC2.c 0 (by simp);have d1:=hC2.c 1 (by simp);have d2:=hC2.c 2 (by simp);have d3:=hC2.c 3 (by simp);have d4:=hC2.c 4 (by simp);have d5:=hC2.c 5 (by simp);have d6:=hC2.c 6 (by simp);have d7:=hC2.c 7 (by simp);have dl:=hC2.lt;simp only [List.getElem_cons_zero,List.getElem_cons_succ] at d0 d1 d2 d3 d4 d5 d6 d7;clear hC2 hb2 hr2 ha2)
  | (go_at_call 45;refine (HHQ.out w2 HB2.out).mono ?_;rintro e w3 ⟨rfl,h3⟩;replace h3:=h3.symm;subst h3))
 go_upto_region 9 with (go_at_call 46;refine (HDN.out w2 no nc (g_on HB1.out HB2.out) HR2.out (fun a ha=>⟨fun hu=>by have:=HUN.out _ hu;have:=(HA2.out a ha).1;have:=HDL.out;omega,(HA2.out a ha).2⟩)).mono ?_;rintro e w3 ⟨io,ic,lo,lc,rfl,hG⟩;have HG:=Hid.m hG;clear hG)
 clear c0 c1 c2 c3 c4 c5 c6 c7 cl d0 d1 d2 d3 d4 d5 d6 d7 dl
 obtain ⟨w4,hw4⟩:∃ w4,w4=w3.alloc (.cells #[.int .u8 kd,.slice io IT.length ic,.int .u64 nb] 30):=⟨_,rfl⟩
 have hb4:Below w3.heap.size w3 w4:=by rw [hw4];exact g_alloc _ _
 have hX4:GBx w4 w3.heap.size [.int .u8 kd,.slice io IT.length ic,.int .u64 nb]:=by rw [hw4];exact GBx.made w3 _ _
 obtain ⟨F3,hM3,hA3,hL3⟩:=HG.out.lv
 obtain ⟨hbR,hbU⟩:=hM3.box (HR1.out.below HB2.out) HUR.out
 have hbR4:=hbR.below hb4
 have y0:=hbR4.c 0 (by simp)
 have y1:=hbR4.c 1 (by simp)
 have y2:=hbR4.c 2 (by simp)
 have f0:=hbR4.f 0
 have f1:=hbR4.f 1
 have f2:=hbR4.f 2
 have yl:=hbR4.lt
 have q0:=hX4.c 0 (by simp)
 have q1:=hX4.c 1 (by simp)
 have q2:=hX4.c 2 (by simp)
 have ql:=hX4.lt
 simp only [List.getElem_cons_zero,List.getElem_cons_succ] at y0 y1 y2 q0 q1 q2
 have hX:=(((hbR4.set 0 (.int .u8 kd) (by simp)).set 1 (.slice io IT.length ic) (by simp)).set 2 (.int .u64 nb) (by simp))
 have ZZ0:=Hid.m (hX.c 0 (by simp))
 have ZZ1:=Hid.m (hX.c 1 (by simp))
 have ZZ2:=Hid.m (hX.c 2 (by simp))
 simp only [List.getElem_cons_zero,List.getElem_cons_succ,List.set_cons_zero,List.set_cons_succ] at ZZ0 ZZ1 ZZ2
 have hz:w.heap.size+1<w2.heap.size:=Nat.lt_of_lt_of_le HRL.out HB2.out.size
 have hcg:=dgs_write (n:=w2.heap.size) ((hM3.below hb4).from (g_on HB1.out HB2.out)) (HG.out.it.below hb4) (HG.out.ch.below hb4) (fun a ha=>⟨(hA3 a ha).1,(hA3 a ha).2.1,Nat.lt_of_lt_of_le (hA3 a ha).2.2 hb4.size⟩) (fun a ha=>⟨(hL3 a ha).1,(hL3 a ha).2.1,Nat.lt_of_lt_of_le (hL3 a ha).2.2 hb4.size⟩) hbU (show w.heap.size≤w.heap.size+1 by omega) hz 0 [.int .u8 kd,.slice io IT.length ic,.int .u64 nb]
 unfold sets sets sets sets at hcg
 have HCG:=Hid.m hcg
 rw [← hw4]
 clear hX hcg hbR hbR4 hbU hb4 hX4 hM3 hA3 hL3 hw4 hz
 go_wp2
 try simp only [Exit.inBlock,Exit.then]
 refine bodyPost_ret (v:=.tuple #[.agg #[.int .u8 kd,.slice io IT.length ic,.int .u64 nb],.slice lo CH.length lc,.int .i64 0]) (by simp [results,Tryz.results12,go_sem,ZZ0.out,ZZ1.out,ZZ2.out]) rfl ⟨io,ic,lo,lc,rfl,HCG.out⟩
theorem do_m {N:Nat}{A:Ad}{s:Sh}{x:Ra}{F:Cp→Nat→Prop}{w:World}(I:Inv s)(hE:Eg N w A x F)(RA:RepA x s)(RB:RepB x s)(d:Cd)(hK:GRd ES w d.so d.c.keys d.sc)(hO:d.c.keys≠[]→Off (Un F) d.so)(hby:0≤d.c.by_∧d.c.by_≤18446744073709551615)(hcm:Calm It.Tab w (Un F))(hN:N<100000000){r:Sh × Rs × List Ch × Bool}(hr:r=s.op (.cmd d.c)):
  Calls Tryz.prog 12 #[ptr A.b,.agg d.cl.toArray] w fun e w'=>∃ io ic lo lc,∃ f:Int,e=.returned (.tuple #[.agg #[.int .u8 r.2.1.kind,.slice io r.2.1.items.length ic,.int .u64 r.2.1.number],.slice lo r.2.2.1.length lc,.int .i64 f])∧((f==0)=r.2.2.2)∧Dgs (N+2) A r.1 F w w' io r.2.1.items ic lo r.2.2.1 lc:=by
 unfold Sh.op at hr
 dsimp only at hr
 by_cases hm:d.c.may=true
 ·rw [if_pos hm] at hr
  have m8:=may_life hm
  by_cases hq:(s.quotas.length:Int)≤d.c.tenant
  ·have e:s.done d.c=(s,⟨7,[],0⟩,[]):=by unfold Sh.done;rw [if_pos hq]
   rw [e] at hr
   rw [hr]
   refine (do_ref (M:=0) hE RA RB d hK hm hq).mono ?_
   rintro e w' ⟨io,ic,lo,lc,rfl,h⟩
   exact ⟨io,ic,lo,lc,0,rfl,rfl,h.mono (by omega)⟩
  ·obtain ⟨t,htn⟩:∃ t:Nat,d.c.tenant=(t:Int):=⟨d.c.tenant.toNat,by omega⟩
   have ht:t<s.quotas.length:=by omega
   rw [hr]
   refine (do_done (M:=N+2) hE RA RB d hK hm htn ht (r:=s.done d.c) fun W0 no nc hb hRd hAd=>doNames_m I (hE.below hb) RA RB hm htn ht (hK.below hb) hO hby (hcm.on (Kpt.of hb) fun _ hk=>.inl hk) hN hRd hAd rfl).mono ?_
   rintro e w' ⟨io,ic,lo,lc,rfl,h⟩
   exact ⟨io,ic,lo,lc,0,rfl,rfl,h⟩
 ·rw [if_neg hm] at hr
  rw [hr]
  refine (do_bad (M:=0) hE RA RB d hK hm).mono ?_
  rintro e w' ⟨io,ic,lo,lc,rfl,h⟩
  exact ⟨io,ic,lo,lc,100,rfl,rfl,h.mono (by omega)⟩
end Go.Proofs.YtcdpiefflnaghaaGreatDoor.En
namespace Go.Proofs.YtcdpiefflnaghaaGreatDoor.En
open Go.Proofs.YtcdpiefflnaghaaGreatDoor.It
open Go.Proofs.YtcdpiefflnaghaaGreatDoor.Lr
open Go.Proofs.YtcdpiefflnaghaaGreatDoor.Qt
open Go.Proofs.YtcdpiefflnaghaaGreatDoor.Sb
open Go.RowKit Go.Proofs.YtcdpiefflnaghaaGreatDoor
set_option maxHeartbeats 4000000 in
theorem all_any {N:Nat}{A:Ad}{V:Va}{x:Ra}{F:Cp→Nat→Prop}{w:World}(h:Egv N w A V x F)(hl:x.row.length≤1000){L:List (Int × Im)}(hLl:L.length=x.row.length)(hL:∀ j (hj:j<L.length),∃ p:Nat,∃ hp:p<x.kept.length,x.row[j]? = some (p:Int)∧x.kept[p]=L[j]):
  Calls Tryz.prog 48 #[ptr A.pi] w fun e w'=>∃ v,e=.returned v∧GOwn EK w' w.heap.size v L∧Below w.heap.size w w':=by
 obtain ⟨ro,rc,hI⟩:=h.itm
 have i1:=hI.h1
 have il:=hI.head.lt
 have HRD:Hid (GRd EI w ro x.row rc):=by
  obtain ⟨ao,cap,hv,hr⟩:=hI.own.rd Go.Proofs.YtcdpiefflnaghaaGreatDoor.okI
  cases hv
  exact hr
 have HKT:Hid (∀ W0,Below w.heap.size w W0→W0.cell? ⟨A.pi,0,none⟩=some (.slice (some ⟨A.pk,0,none⟩) x.kept.length x.kept.length)∧A.pi<W0.heap.size∧A.pk<W0.heap.size∧∀ p (hp:p<x.kept.length),W0.cell? ⟨A.pk,p * 6,none⟩=some (.int .i64 x.kept[p].1)∧W0.cell? ⟨A.pk,p * 6+1,none⟩=some (.string x.kept[p].2.key)∧W0.cell? ⟨A.pk,p * 6+2,none⟩=some (.string x.kept[p].2.value)∧W0.cell? ⟨A.pk,p * 6+3,none⟩=some (.int .u32 x.kept[p].2.flags)∧W0.cell? ⟨A.pk,p * 6+4,none⟩=some (.int .i64 x.kept[p].2.till)∧W0.cell? ⟨A.pk,p * 6+5,none⟩=some (.int .u64 x.kept[p].2.unique)):=fun W0 hb=>by
  obtain ⟨ro',rc',hI'⟩:=(h.below hb).itm
  exact ⟨hI'.h0,hI'.head.lt,hI'.body.lt,fun p hp=>hI'.at_ hp⟩
 obtain ⟨i0,hi,hz0,hz1,hz2⟩:=info_parts okK.info
 obtain ⟨n,hn⟩:∃ n,n=x.row.length:=⟨_,rfl⟩
 have HN:=Hid.m hn
 have HL:=Hid.m hL
 have HLL:Hid (L.length=n):=by show _=_;omega
 rw [← hn] at i1 hl
 obtain ⟨K,hK⟩:∃ K,K=x.kept.length:=⟨_,rfl⟩
 have HKE:=Hid.m hK
 have hb56:i0.bytes * n≤281474976710656:=by
  rw [hz2]
  have h1:=okK.small
  have h2:EK.bytes * n≤1000 * 1000:=Nat.mul_le_mul h1 hl
  omega
 clear h hI hL hLl hn hK
 unfold ptr
 go_enter Tryz.func48,Tryz.ntmps48
 go_upto_region 2 with (at_make;refine wpList_make_own _ rfl (.const (.int .i64 0)) (.tmp 10) 39 rfl w.heap.size 141 i0 _ 6 Tryz.underlying39 hi hz0 hz1 .i64 .i64 _ n rfl rfl (by first | rfl | go_num) hb56 (by unfold maxLen;omega) (Nat.le_refl _) ?_;intro w1 ho1 hg1;have HB1:Hid (Below w.heap.size w w1):=g_grown_below hg1;have HO1:Hid (GOwn EK w1 w.heap.size (.slice (some ⟨w.heap.size,0,none⟩) 0 n) []):=ho1;clear ho1 hg1)
 clear hi hz0 hz1 hz2 hb56
 have j1:=(HB1.out.cell (p:=⟨A.pi,1,none⟩) il).trans i1
 have jl:A.pi<w1.heap.size:=Nat.lt_of_lt_of_le il HB1.out.size
 clear i1 il
 go_wp2
 clear j1 jl
 go_loopw [3,5,17] (fun v _ i wr=>∃ (j:Nat) (lo:Option Addr) (lm lc:Nat),j≤n∧i=.int .i64 j∧v=.slice lo lm lc∧Hid (Below w.heap.size w wr)∧Hid (GOwn EK wr w.heap.size (.slice lo lm lc) (L.take j))) (fun _ _ i _=>n - (intOf i).toNat)
 case atStart=>exact ⟨0,_,_,_,Nat.zero_le _,rfl,rfl,HB1,HO1⟩
 case round=>
  clear HB1 HO1
  obtain ⟨j,lo,lm,lc,hj,rfl,rfl,HBj,HOj⟩:=hrel
  by_cases hjn:j<n
  ·have hjn2:(j:Int)<(n:Int):=by omega
   have hjr:j<x.row.length:=by have:=HN.out;omega
   have hjL:j<L.length:=by have:=HLL.out;omega
   obtain ⟨vb,vf,hvo,hvb,v0⟩:=(HRD.out.below HBj.out).nt (i:=j) hjr
   obtain ⟨p,hp,e1,e2⟩:=HL.out j hjL
   rw [show x.row[j]=(p:Int) from (List.getElem?_eq_some_iff.1 e1).2] at v0
   obtain ⟨k9,kl1,kl2,kk⟩:=HKT.out wr HBj.out
   obtain ⟨k0,k1,k2,k3,k4,k5⟩:=kk p hp
   rw [e2] at k0 k1 k2 k3 k4 k5
   rw [← HKE.out] at k9
   have hp2:(p:Int)<(K:Int):=by have:=HKE.out;omega
   have HTK:Hid (L.take (j+1)=L.take j++[L[j]]):=by show _=_;rw [List.take_add_one,List.getElem?_eq_getElem hjL];rfl
   have HTL:Hid ((L.take j).length+1≤1000000):=by show _≤_;rw [List.length_take];omega
   have HSZ:Hid (w.heap.size≤wr.heap.size):=HBj.out.size
   obtain ⟨z,hz⟩:∃ z,z=L[j]:=⟨_,rfl⟩
   rw [← hz] at k0 k1 k2 k3 k4 k5 HTK
   subst hvo
   clear kk e1 e2 hz hp hjr hjL
   go_wp2_with (at_builtin;refine g_one (w0:=wr) okK rfl _ _ _ rfl rfl w.heap.size _ _ HOj.out rfl z rfl _ rfl rfl HTL.out HSZ.out ?_;intro v5 w5 hO5 hG5;have HB5:=Hid.m (HBj.out.trans (hG5.below HOj.out HSZ.out));rw [← HTK.out] at hO5;have HO5:=Hid.m hO5;obtain ⟨a5,c5,hv5,-⟩:=hO5.rd okK;rw [List.length_take] at hv5;subst hv5;clear hO5 hG5)
   go_roundw
   case rel=>exact ⟨j+1,a5,_,c5,by omega,by go_num,rfl,HB5,HO5⟩
   case measure=>simp [intOf];omega
  ·have hjn3:¬ ((j:Int)<(n:Int)):=by omega
   have HE:Hid (L.take j=L):=by show _=_;rw [List.take_of_length_le (by have:=HLL.out;omega)]
   go_wp2
   go_ret
   exact ⟨_,rfl,by rw [← HE.out];exact HOj.out,HBj.out⟩
theorem kept_at {s:Sh}{x:Ra}(RB:RepB x s):s.kept.length=x.row.length∧∀ j (hj:j<s.kept.length),∃ p:Nat,∃ hp:p<x.kept.length,x.row[j]? = some (p:Int)∧x.kept[p]=s.kept[j]:=by
 have e:s.kept=s.held.map fun h=>(h.tenant,h.item):=rfl
 refine ⟨by rw [RB.row,e,List.length_map,List.length_map],fun j hj=>?_⟩
 have hj2:j<s.held.length:=by rw [e,List.length_map] at hj;exact hj
 obtain ⟨hp,hz⟩:=List.getElem?_eq_some_iff.1 (RB.kept _ (List.getElem_mem hj2))
 refine ⟨s.held[j].pl,hp,?_,?_⟩
 ·rw [RB.row,List.getElem?_map,List.getElem?_eq_getElem hj2]
  rfl
 ·rw [hz]
  simp [e]
end Go.Proofs.YtcdpiefflnaghaaGreatDoor.En
namespace Go.Proofs.YtcdpiefflnaghaaGreatDoor.En
open Go.Proofs.YtcdpiefflnaghaaGreatDoor.It
open Go.Proofs.YtcdpiefflnaghaaGreatDoor.Lr
open Go.Proofs.YtcdpiefflnaghaaGreatDoor.Qt
open Go.Proofs.YtcdpiefflnaghaaGreatDoor.Sb
open Go.RowKit Go.Proofs.YtcdpiefflnaghaaGreatDoor
def wV (p:Wh.NU):Na × Int:=((p.1.tenant,p.1.key),p.2)
theorem wU_wV (p:Wh.NU):wU (wV p)=p:=rfl
theorem nms_rd {w:World}{base g:Nat}{S:List (Na × Int)}(h:Wh.NmAt w base g ((S.map wU).map Prod.fst))(hl:S.length≤1000000):GRd EN w (some ⟨g,0,none⟩) (S.map Prod.fst) S.length:=by
 refine ⟨by simp,by omega,(by intro e;cases e),.inr ⟨g,0,rfl,h.lt,fun i hi j hj=>?_⟩⟩
 have hi2:i<S.length:=by simpa using hi
 obtain ⟨h1,h2⟩:=h.cells i (by simpa using hi2)
 have hj2:j=0∨j=1:=by
  have:j<2:=hj
  omega
 rcases hj2 with rfl | rfl
 ·simpa [EN,wU,wN] using h1
 ·simpa [EN,wU,wN] using h2
theorem wtick {N:Nat}{A:Ad}{V:Va}{x:Ra}{F:Cp→Nat→Prop}{w:World}(h:Egv N w A V x F)(hN:N≤1000000)(hL:x.L.length≤1000){t:Nat}(ht:x.now≤t)(ht2:t≤1099511627776):
  Calls Tryz.prog 49 #[ptr A.pw,.int .i64 t] w fun e w'=>∃ (g:Nat) (S:List (Na × Int)),e=.returned (.tuple #[.slice (some ⟨g,0,none⟩) S.length S.length,.int .i64 0])∧GRd EN w' (some ⟨g,0,none⟩) (S.map Prod.fst) S.length∧S.Perm (x.L.filter fun q=>decide (q.2≤(t:Int)))∧(S.map wU).Pairwise Wh.tlt∧
   ∃ F',Lv (N+2 * x.L.length) A { x with now:=t,L:=x.L.filter fun q=>decide ((t:Int)<q.2) } F w w' F'∧¬ Un F' g∧w.heap.size≤g∧g<w'.heap.size:=by
 obtain ⟨b0,mb,h1,h2⟩:=h.whl
 refine (Wh.tick_len w A.pw x.now (x.L.map wU) b0 mb N h1 hN t ht ht2).mono ?_
 rintro e w' ⟨g,S0,rfl,hn,hp,hpw,mb',hw,hk,hs,hg⟩
 obtain ⟨S,rfl⟩:∃ S:List (Na × Int),S0=S.map wU:=⟨S0.map wV,by
  rw [List.map_map]
  symm
  exact List.map_id'' (fun p=>wU_wV p) S0⟩
 have hp2:S.Perm (x.L.filter fun q=>decide (q.2≤(t:Int))):=by
  have e1:Wh.dueOf t (x.L.map wU)=(x.L.filter fun q=>decide (q.2≤(t:Int))).map wU:=by
   unfold Wh.dueOf
   rw [List.filter_map]
   rfl
  rw [e1] at hp
  have h3:=hp.map wV
  rw [List.map_map,List.map_map] at h3
  have e2:∀ l:List (Na × Int),l.map (wV ∘ wU)=l:=fun l=>List.map_id'' (fun p=>rfl) l
  rw [e2,e2] at h3
  exact h3
 have e3:Wh.restOf t (x.L.map wU)=(x.L.filter fun q=>decide ((t:Int)<q.2)).map wU:=by
  unfold Wh.restOf
  rw [List.filter_map]
  rfl
 rw [e3,List.length_map] at hw
 have hSl:S.length≤1000:=by
  have h4:=hp2.length_eq
  have h5:=List.length_filter_le (fun q:Na × Int=>decide (q.2≤(t:Int))) x.L
  omega
 have hk':Kpt (F .whl) w w':=(Kpt.ofW hk).mono h2
 have hsub:∀ k,Wh.Foot A.pw b0 mb' k→F .whl k∨w.heap.size≤k:=fun k hk=>(hs k hk).imp (h2 k) id
 have hE:=h.whlTurn hk' (N':=N+2 * x.L.length) (now':=t) (L':=x.L.filter fun q=>decide ((t:Int)<q.2)) (G:=Wh.Foot A.pw b0 mb') ⟨b0,mb',hw,fun k hk=>hk⟩ (fun k hk=>hw.lt hk) hsub
 have hLv:Lv (N+2 * x.L.length) A { x with now:=t,L:=x.L.filter fun q=>decide ((t:Int)<q.2) } F w w' (upc F .whl (Wh.Foot A.pw b0 mb')):=⟨⟨V,hE⟩,kpt_mu (by decide) hk',sub_upc hsub⟩
 refine ⟨g,S,by rw [List.length_map],nms_rd hn (by omega),hp2,hpw,_,hLv,?_,hn.le,hn.lt⟩
 rintro ⟨c,hc⟩
 by_cases e:c=.whl
 ·subst e
  rw [upc_same] at hc
  exact hg hc
 ·rw [upc_other e] at hc
  have:=(Parts.lt h) g ⟨c,hc⟩
  have:=hn.le
  omega
end Go.Proofs.YtcdpiefflnaghaaGreatDoor.En
namespace Go.Proofs.YtcdpiefflnaghaaGreatDoor.En
open Go.Proofs.YtcdpiefflnaghaaGreatDoor.It
open Go.Proofs.YtcdpiefflnaghaaGreatDoor.Lr
open Go.Proofs.YtcdpiefflnaghaaGreatDoor.Qt
open Go.Proofs.YtcdpiefflnaghaaGreatDoor.Sb
open Go.RowKit Go.Proofs.YtcdpiefflnaghaaGreatDoor
structure Lag (x:Ra)(s:Sh)(t:Nat)(rest:List (Na × Int)):Prop where
 now:x.now=t
 L:x.L=rest
 rep:∃ (n0:Nat) (L0:List (Na × Int)),RepA { x with now:=n0,L:=L0 } s∧RepB { x with now:=n0,L:=L0 } s
variable {N:Nat} {A:Ad} {s:Sh} {x:Ra} {F:Cp→Nat→Prop} {w:World} {t:Nat} {rest:List (Na × Int)}
theorem lag_start (RA:RepA x s)(RB:RepB x s)(t:Nat)(rest:List (Na × Int)):Lag { x with now:=t,L:=rest } s t rest:=⟨rfl,rfl,x.now,x.L,RA,RB⟩
theorem strike_none {n:Na}{l:List (Na × Int)}(h:n∉l.map Prod.fst):strikeN n l=l:=by
 unfold strikeN
 rw [List.filter_eq_self]
 intro q hq
 have:q.1≠n:=fun e=>h (List.mem_map.2 ⟨q,hq,e⟩)
 simpa using this
theorem lag_find {i:Nat}(I:Inv s)(hE:Eg N w A x F)(h:Lag x s t rest){tn:Int}{k:ByteArray}(hn:okN (tn,k))(hat:s.at tn k=some i)(hi:i<s.held.length):
  Calls Tryz.prog 50 #[ptr A.b,.agg #[.int .i64 tn,.string k]] w fun e w'=>e=.returned (.tuple #[.int .i64 s.held[i].pl,.bool true])∧∃ F',Lv N A x F w w' F':=by
 obtain ⟨n0,L0,RA,RB⟩:=h.rep
 obtain ⟨hi2,hlk⟩:=lk_some I RB hat
 have hlen:=RB.lens I
 have hlk2:lkN x.T (tn,k)=some (s.held[i].pl:Int):=hlk
 refine (find_any hE hn (by have:=hlen.2.2;show x.T.length≤1000;exact Nat.le_trans this (by decide))).mono ?_
 rintro e w' ⟨rfl,F',hL⟩
 rw [hlk2]
 exact ⟨rfl,F',hL⟩
theorem lag_leave {i:Nat}(I:Inv s)(hE:Eg N w A x F)(h:Lag x s t rest)(hi:i<s.held.length)(hn:s.held[i].name∉rest.map Prod.fst):
  Calls Tryz.prog 51 #[ptr A.b,.int .i64 s.held[i].pl] w fun e w'=>e=.returned (.agg #[.int .i64 s.held[i].tenant,.string s.held[i].item.key])∧∃ F' x',Lv N A x' F w w' F'∧Lag x' (s.leave i) t rest:=by
 obtain ⟨n0,L0,RA,RB⟩:=h.rep
 have hm:=List.getElem_mem hi
 have hv:=lvs_of I I RA RB hm hm
 have hv2:Lvs x s.held[i].pl s.held[i].tenant.toNat (cls s.held[i].item).toNat (s.held[i].tenant,s.held[i].item):=⟨hv.hz,hv.hkl,hv.hrl,hv.htl,hv.hil,hv.ht,hv.hc,hv.ht4,hv.hc5,hv.hok,hv.hin,hv.hs,hv.hbit,hv.hn⟩
 refine (leave_any hE hv2).mono ?_
 rintro e w' ⟨rfl,F',hL⟩
 refine ⟨rfl,F',_,hL,?_⟩
 rw [leave_eq hi]
 refine ⟨h.now,?_,n0,strikeN s.held[i].name L0,?_,?_⟩
 ·show strikeN _ x.L=rest
  rw [h.L]
  exact strike_none hn
 ·exact (RA.release I hi).forget _ _
 ·exact (RB.release _ _ _).forget I hi
theorem lag_end {s0:Sh}(h:Lag x s t rest)(hs:s.held=s0.held.filter fun h=>!dueI h.item t)(hr:rest.Perm (((s0.held.filter fun h=>decide (h.item.till≠0)).map Hd.due).filter fun q=>decide ((t:Int)<q.2))):RepA x { s with now:=(t:Int) }∧RepB x { s with now:=(t:Int) }:=by
 obtain ⟨n0,L0,RA,RB⟩:=h.rep
 refine ⟨⟨RA.quo,by show (x.now:Int)=t;rw [h.now],RA.pages,RA.ord,RA.last⟩,RB.T,?_,RB.kl,RB.kept,RB.row⟩
 show x.L.Perm ((s.held.filter fun h=>decide (h.item.till≠0)).map Hd.due)
 rw [h.L,hs]
 refine hr.trans ?_
 rw [List.filter_map,List.filter_filter,List.filter_filter]
 have e:(s0.held.filter fun a=>((fun q:Na × Int=>decide ((t:Int)<q.2)) ∘ Hd.due) a && decide (a.item.till≠0))=s0.held.filter fun a=>decide (a.item.till≠0) && !dueI a.item t:=by
  apply List.filter_congr
  intro a _
  show (decide ((t:Int)<a.item.till) && decide (a.item.till≠0))=(decide (a.item.till≠0) && !(decide (a.item.till≠0) && decide (a.item.till≤(t:Int))))
  by_cases h1:a.item.till=0
  ·simp [h1]
  ·by_cases h2:(t:Int)<a.item.till
   ·have h3:¬ a.item.till≤(t:Int):=by omega
    simp [h1,h2,h3]
   ·have h3:a.item.till≤(t:Int):=by omega
    simp [h1,h2,h3]
 rw [e]
end Go.Proofs.YtcdpiefflnaghaaGreatDoor.En
namespace Go.Proofs.YtcdpiefflnaghaaGreatDoor.En
open Go.Proofs.YtcdpiefflnaghaaGreatDoor.It
open Go.Proofs.YtcdpiefflnaghaaGreatDoor.Lr
open Go.Proofs.YtcdpiefflnaghaaGreatDoor.Qt
open Go.Proofs.YtcdpiefflnaghaaGreatDoor.Sb
open Go.RowKit Go.Proofs.YtcdpiefflnaghaaGreatDoor
theorem due_filter (s:Sh)(t:Int):(((s.held.filter fun h=>decide (h.item.till≠0)).map Hd.due).filter fun q=>decide (q.2≤t))=(s.held.filter fun h=>dueI h.item t).map Hd.due:=by
 rw [List.filter_map,List.filter_filter]
 congr 1
 apply List.filter_congr
 intro a _
 show (decide (a.item.till≤t) && decide (a.item.till≠0))=(decide (a.item.till≠0) && decide (a.item.till≤t))
 rw [Bool.and_comm]
theorem dues_of {s:Sh}{x:Ra}(RB:RepB x s){t:Int}{S:List (Na × Int)}(hp:S.Perm (x.L.filter fun q=>decide (q.2≤t)))(hw:(S.map wU).Pairwise Wh.tlt):s.dues t=S.map Prod.fst:=by
 have hD:S.Perm ((s.held.filter fun h=>dueI h.item t).map Hd.due):=by
  refine hp.trans ?_
  rw [← due_filter]
  exact RB.L.filter _
 have hSp:S.Pairwise tlt:=by
  rw [List.pairwise_map] at hw
  exact hw
 have hI:=inOrder_rise hD hSp
 have hIp:=inOrder_perm ((s.held.filter fun h=>dueI h.item t).map Hd.due)
 have e:(inOrder ((s.held.filter fun h=>dueI h.item t).map Hd.due)).map wU=S.map wU:=Wh.rise_eq ((hIp.trans hD.symm).map wU) (by rw [List.pairwise_map];exact hI) hw
 have e2:∀ l:List (Na × Int),(l.map wU).map wV=l:=fun l=>by
  rw [List.map_map]
  exact List.map_id'' (fun p=>rfl) l
 have e3:=congrArg (List.map wV) e
 rw [e2,e2] at e3
 unfold Sh.dues
 rw [e3]
theorem dues_held {s:Sh}(I:Inv s){t:Int}{ns:List (Int × ByteArray)}(hn:ns=s.dues t):∃ H:List Hd,ns=H.map Hd.name∧(∀ h∈H,h∈s.held∧dueI h.item t=true)∧(H.map Hd.name).Nodup:=by
 have hp:=dues_perm s t
 rw [← hn] at hp
 have hm:∀ n∈ns,∃ h∈s.held,dueI h.item t=true∧h.name=n:=fun n hns=>by
  obtain ⟨h,hh,e⟩:=List.mem_map.1 (hp.mem_iff.1 hns)
  obtain ⟨h1,h2⟩:=List.mem_filter.1 hh
  exact ⟨h,h1,h2,e⟩
 have hnd:ns.Nodup:=hp.nodup_iff.2 (List.Nodup.sublist (List.Sublist.map _ List.filter_sublist) I.names)
 have key:∀ l:List (Int × ByteArray),(∀ n∈l,∃ h∈s.held,dueI h.item t=true∧h.name=n)→∃ H:List Hd,l=H.map Hd.name∧∀ h∈H,h∈s.held∧dueI h.item t=true:=by
  intro l
  induction l with
  | nil=>exact fun _=>⟨[],rfl,fun h hh=>by simp at hh⟩
  | cons a l ih=>
   intro hl
   obtain ⟨H,e,hH⟩:=ih fun n hn=>hl n (List.mem_cons_of_mem _ hn)
   obtain ⟨h,h1,h2,h3⟩:=hl a (List.mem_cons_self ..)
   refine ⟨h::H,by rw [List.map_cons,h3,e],fun h' hh'=>?_⟩
   rcases List.mem_cons.1 hh' with rfl | hh'
   ·exact ⟨h1,h2⟩
   ·exact hH h' hh'
 obtain ⟨H,e,hH⟩:=key ns hm
 exact ⟨H,e,hH,by rw [← e];exact hnd⟩
end Go.Proofs.YtcdpiefflnaghaaGreatDoor.En
namespace Go.Proofs.YtcdpiefflnaghaaGreatDoor.En
open Go.Proofs.YtcdpiefflnaghaaGreatDoor.It
open Go.Proofs.YtcdpiefflnaghaaGreatDoor.Lr
open Go.Proofs.YtcdpiefflnaghaaGreatDoor.Qt
open Go.Proofs.YtcdpiefflnaghaaGreatDoor.Sb
open Go.RowKit Go.Proofs.YtcdpiefflnaghaaGreatDoor
set_option maxHeartbeats 4000000 in
theorem tick_m {N:Nat}{A:Ad}{s:Sh}{x:Ra}{F:Cp→Nat→Prop}{w:World}(I:Inv s)(hE:Eg N w A x F)(RA:RepA x s)(RB:RepB x s)(hN:N≤1000000){m:Nat}(hm1:s.now≤(m:Int))(hm2:m≤1099511627776):
  Calls Tryz.prog 15 #[ptr A.b,.int .i64 m] w fun e w'=>∃ lo lc,e=.returned (.tuple #[.slice lo 1 lc,.int .i64 0])∧Cgs (N+512) A (s.tick m) F w w' lo [.clock m] lc:=by
 have hlen:=RB.lens I
 have hLl:x.L.length≤256:=by
  have h1:=RB.L.length_eq
  rw [List.length_map] at h1
  have h2:=List.length_filter_le (fun h:Hd=>decide (h.item.till≠0)) s.held
  have h3:x.row.length=s.held.length:=by rw [RB.row,List.length_map]
  omega
 obtain ⟨rest,hrest⟩:∃ rest,rest=x.L.filter fun q=>decide ((m:Int)<q.2):=⟨_,rfl⟩
 have HIM:=Hid.m (eisMade_any hE)
 have HTK:Hid (Calls Tryz.prog 49 #[ptr A.pw,.int .i64 m] w fun e w'=>∃ (g:Nat) (H:List Hd),e=.returned (.tuple #[.slice (some ⟨g,0,none⟩) H.length H.length,.int .i64 0])∧GRd EN w' (some ⟨g,0,none⟩) (H.map Hd.name) H.length∧H.map Hd.name=s.dues m∧(∀ h∈H,h∈s.held∧dueI h.item m=true)∧(H.map Hd.name).Nodup∧H.length≤256∧∃ F',Lv (N+512) A { x with now:=m,L:=rest } F w w' F'∧¬ Un F' g∧g<w'.heap.size):=by
  obtain ⟨V,hEv⟩:=hE
  refine (wtick hEv hN (by omega) (by have:=RA.now;omega) hm2).mono ?_
  rintro e w' ⟨g,S,rfl,hr,hp,hw,F',hL,hu,_,hg⟩
  have hd:=dues_of RB hp hw
  obtain ⟨H,e1,h1,h2⟩:=dues_held I hd.symm
  have hl:S.length=H.length:=by have:=congrArg List.length e1;simpa using this
  rw [hl,e1] at hr
  exact ⟨g,H,by rw [hl],hr,by rw [← e1,hd],h1,h2,by have h4:=hp.length_eq;have h5:=List.length_filter_le (fun q:Na × Int=>decide (q.2≤(m:Int))) x.L;omega,F',by rw [hrest];exact hL.mono (by omega),hu,hg⟩
 have HNR:Hid (∀ h∈s.held,dueI h.item m=true→h.name∉rest.map Prod.fst):=fun h hh hd hmem=>by
  obtain ⟨q,hq,e⟩:=List.mem_map.1 hmem
  rw [hrest] at hq
  obtain ⟨q1,q2⟩:=List.mem_filter.1 hq
  obtain ⟨h',hh',e2⟩:=List.mem_map.1 (RB.L.mem_iff.1 q1)
  have h3:=(List.mem_filter.1 hh').1
  rw [← e2] at e q2
  have h4:h'=h:=I.one h3 hh e
  rw [h4] at q2
  simp only [dueI,Bool.and_eq_true,decide_eq_true_eq] at hd
  have h5:(m:Int)<h.item.till:=of_decide_eq_true q2
  omega
 have HLG:Hid (Lag { x with now:=m,L:=rest } s m rest):=lag_start RA RB m rest
 have HEN:Hid (∀ xj,Lag xj (s.leaves (s.dues m)) m rest→RepA xj (s.tick m)∧RepB xj (s.tick m)):=fun xj hj=>by
  refine lag_end (s0:=s) hj (leaves_filter I (fun h=>dueI h.item m) (dues_perm s m)) ?_
  rw [hrest]
  exact RB.L.filter _
 have HI:Hid (∀ l,Inv (s.leaves l)):=fun l=>(leaves_spec l I).1.inv
 have HOK:Hid (∀ h∈s.held,okN h.name):=fun h hh=>I.okN hh
 have HLV:Hid (∀ {H:List Hd},(∀ h∈H,h∈s.held)→(H.map Hd.name).Nodup→∀ {j:Nat} (hj:j<H.length),∃ i,∃ hi:i<(s.leaves ((H.take j).map Hd.name)).held.length,(s.leaves ((H.take j).map Hd.name)).held[i]=H[j]∧(s.leaves ((H.take j).map Hd.name)).at H[j].tenant H[j].item.key=some i∧s.leaves ((H.take (j+1)).map Hd.name)=(s.leaves ((H.take j).map Hd.name)).leave i):=fun hs hd _ hj=>leaves_at I hs hd hj
 obtain ⟨V,hEv⟩:=hE
 have c1:=hEv.c1
 have bl:=hEv.lt
 have HX0:Hid (∃ x0:Ra,x0={ x with now:=m,L:=rest }):=⟨_,rfl⟩
 obtain ⟨x0,hx0⟩:=HX0.out
 rw [← hx0] at HTK HLG
 clear hEv RA RB hlen hLl hrest hx0 HX0 I hm1 hm2
 unfold ptr at c1 HIM HTK ⊢
 go_enter Tryz.func15,Tryz.ntmps15
 go_upto_region 6 with (first
  | (go_at_call 43;refine HIM.out.mono ?_;rintro e w0 ⟨rfl,h0⟩;replace h0:=h0.symm;subst h0)
  | (go_at_call 49;refine HTK.out.mono ?_;rintro e w1 ⟨g,H,rfl,hr1,hd1,hh1,hn1,hl1,F1,hL1,hu1,hg1⟩;have HR1:=Hid.m hr1;have HD1:=Hid.m hd1;have HH1:=Hid.m hh1;have HN1:=Hid.m hn1;have HL1:=Hid.m hL1;have HU1:Hid (¬ Un F1 g∧g<w1.heap.size):=⟨hu1,hg1⟩;have HHL:=Hid.m hl1;clear hl1;clear hr1 hd1 hh1 hn1 hL1 hu1 hg1))
 clear c1 bl
 obtain ⟨n,hn⟩:∃ n,n=H.length:=⟨_,rfl⟩
 have HNE:=Hid.m hn
 have hnl:n≤256:=by have:=HHL.out;omega
 rw [← hn] at HR1 ⊢
 clear hn
 go_wp2
 go_loopw [29] (fun i wr=>∃ (j:Nat) (Fj:Cp→Nat→Prop) (xj:Ra),j≤n∧i=.int .i64 j∧Hid (Lv (N+512) A xj F w wr Fj)∧Hid (Lag xj (s.leaves ((H.take j).map Hd.name)) m rest)∧Hid (GRd EN wr (some ⟨g,0,none⟩) (H.map Hd.name) n)∧Hid (¬ Un Fj g∧g<wr.heap.size)) (fun i _=>n - (intOf i).toNat)
 case atStart=>exact ⟨0,F1,x0,Nat.zero_le _,rfl,HL1,HLG,HR1,HU1⟩
 case round=>
  obtain ⟨j,Fj,xj,hj,rfl,HLj,HGj,HRj,HUj⟩:=hrel
  by_cases hjn:j<n
  ·have hjn2:(j:Int)<(n:Int):=by omega
   have hjv:j<H.length:=by have:=HNE.out;omega
   obtain ⟨vb,vf,hvo,hvb,v0,v1⟩:=HRj.out.nam (i:=j) (by simpa using hjv)
   cases hvo
   simp only [List.getElem_map,Nat.zero_add] at v0 v1
   obtain ⟨i,hi,h1,hat,h2⟩:=HLV.out (fun h hh=>(HH1.out h hh).1) HN1.out hjv
   have HFD:=Hid.m (fun (W0:World) (hE0:Eg (N+512) W0 A xj Fj)=>lag_find (HI.out _) hE0 HGj.out (HOK.out _ (HH1.out _ (List.getElem_mem hjv)).1) hat hi)
   have HVL:=Hid.m (fun (W0:World) (F0:Cp→Nat→Prop) (hE0:Eg (N+512) W0 A xj F0)=>lag_leave (HI.out _) hE0 HGj.out hi (by rw [h1];exact HNR.out _ (HH1.out _ (List.getElem_mem hjv)).1 (HH1.out _ (List.getElem_mem hjv)).2))
   rw [← h2] at HVL
   rw [h1] at HFD HVL
   obtain ⟨h,hh⟩:∃ h,h=H[j]:=⟨_,rfl⟩
   rw [← hh] at v0 v1 HFD HVL
   unfold Hd.name at v0 v1
   dsimp only at v0 v1
   clear h1 h2 hh hi hat
   obtain ⟨w2,hw2⟩:∃ w2,w2=wr.alloc (.cells #[.int .i64 h.tenant,.string h.item.key] 119):=⟨_,rfl⟩
   have hb2:Below wr.heap.size wr w2:=by rw [hw2];exact g_alloc _ _
   have hB2:GBx w2 wr.heap.size [.int .i64 h.tenant,.string h.item.key]:=by rw [hw2];exact GBx.made wr _ _
   have HL2:=Hid.m (HLj.out.below hb2)
   have HR2:=Hid.m (HRj.out.below hb2)
   have HU2:Hid (¬ Un Fj g∧g<w2.heap.size):=⟨HUj.out.1,Nat.lt_of_lt_of_le HUj.out.2 hb2.size⟩
   unfold ptr at HFD HVL
   go_upto_region 9 with (fail)
   rw [← hw2]
   clear hw2 v0 v1 hvb hb2
   have b0:=hB2.c 0 (by simp)
   have b1:=hB2.c 1 (by simp)
   have bl:=hB2.lt
   simp only [List.getElem_cons_zero,List.getElem_cons_succ] at b0 b1
   clear hB2
   go_upto_region 10 with (go_at_call 50;refine (HFD.out w2 HL2.out.eg).mono ?_;rintro e w3 ⟨rfl,F3,hL3⟩;have HL3:=Hid.m (HL2.out.trans hL3);have hr3:=hL3.rd HR2.out (fun a ha=>by cases ha;exact HU2.out);have HR3:=Hid.m hr3.1;have HU3:=Hid.m (hr3.2 _ rfl);clear hL3 hr3)
   clear b0 b1 bl
   go_wp2_with (go_at_call 51;refine (HVL.out w3 F3 HL3.out.eg).mono ?_;rintro e w4 ⟨rfl,F4,x4,hL4,hG4⟩;have HL4:=Hid.m (HL3.out.trans hL4);have HG4:=Hid.m hG4;have hr4:=hL4.rd HR3.out (fun a ha=>by cases ha;exact HU3.out);have HR4:=Hid.m hr4.1;have HU4:=Hid.m (hr4.2 _ rfl);clear hL4 hG4 hr4)
   go_roundw
   case rel=>exact ⟨j+1,F4,x4,by omega,by go_num,HL4,HG4,HR4,HU4⟩
   case measure=>simp [intOf];omega
  ·have hjn3:¬ ((j:Int)<(n:Int)):=by omega
   have HJ:Hid (s.leaves ((H.take j).map Hd.name)=s.leaves (s.dues m)):=by show _=_;rw [List.take_of_length_le (by have:=HNE.out;omega),HD1.out]
   rw [HJ.out] at HGj
   obtain ⟨rA,rB⟩:=HEN.out xj HGj.out
   have hN6:GRd EC (wr.alloc (.cells (EC.cells (.clock m)).toArray EC.e)) (some ⟨wr.heap.size,0,none⟩) [.clock m] 1:=g_new okC wr (.clock m)
   have HCG:Hid (Cgs (N+512) A (s.tick m) F w (wr.alloc (.cells (EC.cells (.clock m)).toArray EC.e)) (some ⟨wr.heap.size,0,none⟩) [.clock m] 1):=⟨hN6,Fj,xj,HLj.out.below (g_alloc _ _),rA,rB,fun a ha=>by cases ha;exact ⟨fun hu=>by have:=HLj.out.eg.un _ hu;have h9:wr.heap.size<wr.heap.size:=this;omega,HLj.out.kpt.size,by simp⟩⟩
   simp only [EC,Ch.cl,Ch.kd,Ch.tn,Ch.im,Ch.key,Ch.why,Ch.to,Im.none] at HCG
   clear hN6 rA rB
   go_wp2
   try simp only [Exit.inBlock,Exit.then]
   go_ret2
   exact ⟨some ⟨wr.heap.size,0,none⟩,1,rfl,HCG.out⟩
end Go.Proofs.YtcdpiefflnaghaaGreatDoor.En
namespace Go.Proofs.YtcdpiefflnaghaaGreatDoor.En
open Go.Proofs.YtcdpiefflnaghaaGreatDoor.It
open Go.Proofs.YtcdpiefflnaghaaGreatDoor.Lr
open Go.Proofs.YtcdpiefflnaghaaGreatDoor.Qt
open Go.Proofs.YtcdpiefflnaghaaGreatDoor.Sb
open Go.RowKit Go.Proofs.YtcdpiefflnaghaaGreatDoor
theorem tick_no {N:Nat}{A:Ad}{s:Sh}{x:Ra}{F:Cp→Nat→Prop}{w:World}(hE:Eg N w A x F)(RA:RepA x s){m:Int}(hm:¬ (s.now≤m∧momI m=true)):
  Calls Tryz.prog 15 #[ptr A.b,.int .i64 m] w fun e w'=>e=.returned (.tuple #[.slice none 0 0,.int .i64 2])∧w'=w:=by
 have HIM:=Hid.m (eisMade_any hE)
 obtain ⟨V,hEv⟩:=hE
 have c1:=hEv.c1
 have bl:=hEv.lt
 obtain ⟨b0,mb,h1,h2⟩:=hEv.whl
 have hbad:m<(x.now:Int)∨1099511627776<m:=by
  have h3:=RA.now
  simp only [momI,decide_eq_true_eq] at hm
  omega
 have HTK:=Hid.m (Wh.tick_bad w A.pw x.now (x.L.map wU) b0 mb N h1 m hbad)
 clear hEv h1 h2 hbad hm RA
 unfold ptr at c1 HIM ⊢
 go_enter Tryz.func15,Tryz.ntmps15
 go_wp2_with (first
  | (go_at_call 43;refine HIM.out.mono ?_;rintro e w0 ⟨rfl,h0⟩;replace h0:=h0.symm;subst h0)
  | (go_at_call 49;refine HTK.out.mono ?_;rintro e w1 ⟨rfl,h0⟩;replace h0:=h0.symm;subst h0))
 try simp only [Exit.inBlock,Exit.then]
 go_ret2
 exact ⟨rfl,rfl⟩
end Go.Proofs.YtcdpiefflnaghaaGreatDoor.En
namespace Go.Proofs.YtcdpiefflnaghaaGreatDoor.En
open Go.Proofs.YtcdpiefflnaghaaGreatDoor.It
open Go.Proofs.YtcdpiefflnaghaaGreatDoor.Lr
open Go.Proofs.YtcdpiefflnaghaaGreatDoor.Qt
open Go.Proofs.YtcdpiefflnaghaaGreatDoor.Sb
open Go.RowKit Go.Proofs.YtcdpiefflnaghaaGreatDoor
def Sh.wq (s:Sh)(q:List Int):Sh:={ s with quotas:=q }
section
variable {N:Nat} {A:Ad} {s:Sh} {F F1:Cp→Nat→Prop} {w w1:World} {q:List Int}
theorem leave_q (I:Inv s)(h:Mv N A (s.wq q) F w w1 F1){i:Nat}(hi:i<s.held.length):
  Calls Tryz.prog 51 #[ptr A.b,.int .i64 s.held[i].pl] w1 fun e w'=>e=.returned (.agg #[.int .i64 s.held[i].tenant,.string s.held[i].item.key])∧∃ F',Mv N A ((s.leave i).wq q) F1 w1 w' F':=by
 obtain ⟨x,hL,RA,RB⟩:=h
 have RA0:RepA { x with quotas:=s.quotas } s:=⟨rfl,RA.now,RA.pages,RA.ord,RA.last⟩
 have RB0:RepB { x with quotas:=s.quotas } s:=⟨RB.T,RB.L,RB.kl,RB.kept,RB.row⟩
 have hm:=List.getElem_mem hi
 have hv:=lvs_of I I RA0 RB0 hm hm
 have hv2:Lvs x s.held[i].pl s.held[i].tenant.toNat (cls s.held[i].item).toNat (s.held[i].tenant,s.held[i].item):=⟨hv.hz,hv.hkl,hv.hrl,hv.htl,hv.hil,hv.ht,hv.hc,hv.ht4,hv.hc5,hv.hok,hv.hin,hv.hs,hv.hbit,hv.hn⟩
 refine (leave_any hL.eg hv2).mono ?_
 rintro e w' ⟨rfl,F',hL2⟩
 refine ⟨rfl,F',_,hL2,?_,?_⟩
 ·rw [leave_eq hi]
  have r:=(RA0.release I hi).forget s.held[i].pl s.held[i].name
  exact ⟨RA.quo,r.now,r.pages,r.ord,r.last⟩
 ·rw [leave_eq hi]
  have r:=(RB0.release s.held[i].pl (s.held[i].tenant.toNat * 5+(cls s.held[i].item).toNat) s.held[i].item.key).forget I hi
  exact ⟨r.T,r.L,r.kl,r.kept,r.row⟩
end
theorem evs_app (t:Int)(P:Nat):∀ (a b:List Nat) (s:Sh),s.evs t P (a++b)=(((s.evs t P a).1.evs t P b).1,(s.evs t P a).2++((s.evs t P a).1.evs t P b).2)
 | [],b,s=>by simp [Sh.evs]
 | k::a,b,s=>by
  rw [List.cons_append,Sh.evs,Sh.evs]
  cases e:s.held.findIdx? fun h=>decide (h.page=P∧h.chunk=k) with
  | none=>simp only;exact evs_app t P a b s
  | some i=>
   simp only
   cases e2:s.held[i]? with
   | none=>simp only;exact evs_app t P a b s
   | some h=>simp only;rw [evs_app t P a b (s.leave i)];rfl
theorem evs_one {s:Sh}(I:Inv s)(t:Int){P k i:Nat}(hi:i<s.held.length)(h1:s.held[i].page=P)(h2:s.held[i].chunk=k):s.evs t P [k]=(s.leave i,[.drop t s.held[i].item.key 2]):=by
 have e:s.held.findIdx? (fun h=>decide (h.page=P∧h.chunk=k))=some i:=by
  rw [List.findIdx?_eq_some_iff_getElem]
  refine ⟨hi,by simp [h1,h2],fun j hj=>?_⟩
  have hjl:j<s.held.length:=Nat.lt_trans hj hi
  intro hp
  have hp2:s.held[j].page=P∧s.held[j].chunk=k:=by simpa using hp
  have hs:=I.spot
  have e3:(s.held.map fun h=>(h.page,h.chunk))[j]'(by simpa using hjl)=(s.held.map fun h=>(h.page,h.chunk))[i]'(by simpa using hi):=by
   simp [hp2.1,hp2.2,h1,h2]
  have:=(List.getElem_inj hs).1 e3
  omega
 rw [Sh.evs,e]
 simp only [List.getElem?_eq_getElem hi,Sh.evs]
theorem evs_no {s:Sh}(t:Int){P k:Nat}(h:∀ x∈s.held,¬ (x.page=P∧x.chunk=k)):s.evs t P [k]=(s,[]):=by
 have e:s.held.findIdx? (fun h=>decide (h.page=P∧h.chunk=k))=none:=by
  rw [List.findIdx?_eq_none_iff]
  intro x hx
  simpa using h x hx
 rw [Sh.evs,e]
 simp only [Sh.evs]
structure Evs (s:Sh)(t:Int)(P:Nat)(st:Nat→Sh)(CH:Nat→List Ch):Prop where
 z:st 0=s∧CH 0=[]
 inv:∀ k,Inv (st k)
 on:∀ k,s.pages[P]?.any (fun p=>p.u.testBit k)=true→∃ i,∃ hi:i<(st k).held.length,(st k).held[i].pl=P * 16+k∧(st k).held[i].tenant=t∧st (k+1)=(st k).leave i∧CH (k+1)=CH k++[.drop t (st k).held[i].item.key 2]
 off:∀ k,s.pages[P]?.any (fun p=>p.u.testBit k)=false→st (k+1)=st k∧CH (k+1)=CH k
 len:∀ k,(CH k).length≤k
theorem evs_st {s:Sh}(I:Inv s){t:Int}{P:Nat}(hP:P<s.pages.length)(ho:isOf t s.pages[P]=true):Evs s t P (fun k=>(s.evs t P (List.range k)).1) (fun k=>(s.evs t P (List.range k)).2):=by
 have hten:∀ h∈s.held,h.page=P→h.tenant=t:=by
  intro x hx e
  obtain ⟨_,q1,_,_⟩:=I.page x hx
  subst e
  rw [← q1]
  unfold isOf at ho
  simp at ho
  exact ho.2
 have hsp:=fun k=>evs_spec t P (List.range k) I hten
 have hrg:∀ k,List.range (k+1)=List.range k++[k]:=fun k=>List.range_succ
 have hany:s.pages[P]? = some s.pages[P]:=List.getElem?_eq_getElem hP
 have hoff:∀ k,s.pages[P]?.any (fun p=>p.u.testBit k)=false→(s.evs t P (List.range (k+1))).1=(s.evs t P (List.range k)).1∧(s.evs t P (List.range (k+1))).2=(s.evs t P (List.range k)).2:=by
  intro k hb
  rw [hany] at hb
  have hb2:s.pages[P].u.testBit k=false:=hb
  have hn:∀ x∈(s.evs t P (List.range k)).1.held,¬ (x.page=P∧x.chunk=k):=by
   intro x hx e
   have hx2:=((hsp k).2.2.2.2 x).1 hx
   obtain ⟨_,_,_,hbit⟩:=I.page x hx2.1
   obtain ⟨e1,e2⟩:=e
   subst e1 e2
   rw [hb2] at hbit
   cases hbit
  rw [hrg,evs_app,evs_no t hn]
  simp
 have hon:∀ k,s.pages[P]?.any (fun p=>p.u.testBit k)=true→∃ i,∃ hi:i<(s.evs t P (List.range k)).1.held.length,(s.evs t P (List.range k)).1.held[i].pl=P * 16+k∧(s.evs t P (List.range k)).1.held[i].tenant=t∧(s.evs t P (List.range (k+1))).1=(s.evs t P (List.range k)).1.leave i∧(s.evs t P (List.range (k+1))).2=(s.evs t P (List.range k)).2++[.drop t (s.evs t P (List.range k)).1.held[i].item.key 2]:=by
  intro k hb
  rw [hany] at hb
  have hb2:s.pages[P].u.testBit k=true:=hb
  obtain ⟨x,hx,h1,h2⟩:=I.bits P hP k hb2
  have hx2:x∈(s.evs t P (List.range k)).1.held:=((hsp k).2.2.2.2 x).2 ⟨hx,fun ⟨_,e⟩=>by rw [List.mem_range] at e;omega⟩
  obtain ⟨i,hi,e⟩:=List.getElem_of_mem hx2
  refine ⟨i,hi,?_,?_,?_⟩
  ·rw [e];unfold Hd.pl;rw [h1,h2]
  ·rw [e];exact hten x hx h1
  ·rw [hrg,evs_app,evs_one (hsp k).1.inv t hi (by rw [e];exact h1) (by rw [e];exact h2)]
   exact ⟨rfl,rfl⟩
 refine ⟨⟨rfl,rfl⟩,fun k=>(hsp k).1.inv,hon,hoff,fun k=>?_⟩
 induction k with
 | zero=>simp [Sh.evs]
 | succ k ih=>
  cases hb:s.pages[P]?.any (fun p=>p.u.testBit k) with
  | false=>rw [(hoff k hb).2];omega
  | true=>
   obtain ⟨i,hi,_,_,_,e⟩:=hon k hb
   rw [e,List.length_append]
   simp
   omega
end Go.Proofs.YtcdpiefflnaghaaGreatDoor.En
namespace Go.Proofs.YtcdpiefflnaghaaGreatDoor.En
open Go.Proofs.YtcdpiefflnaghaaGreatDoor.It
open Go.Proofs.YtcdpiefflnaghaaGreatDoor.Lr
open Go.Proofs.YtcdpiefflnaghaaGreatDoor.Qt
open Go.Proofs.YtcdpiefflnaghaaGreatDoor.Sb
open Go.RowKit Go.Proofs.YtcdpiefflnaghaaGreatDoor
theorem isOver_m {N:Nat}{A:Ad}{x:Ra}{F:Cp→Nat→Prop}{w:World}(hE:Eg N w A x F)(hs:sOk x.pages=true)(hq:chkE x.pages.length x.quotas=0){t:Int}(ht:hasQ x.quotas t=true){b:Bool}(hb:b=decide (qAt x.quotas t<(owned x.pages t:Int))):
  Calls Tryz.prog 103 #[ptr A.b,.int .i64 t] w fun e w'=>e=.returned (.bool b)∧Below w.heap.size w w':=by
 have mixed:Tryz.prog.follows .mixedOrders=true:=by kernel_rfl
 obtain ⟨V,h⟩:=hE
 obtain ⟨ao,cap,hP⟩:=h.imm.pg
 have hE0:askE x.pages x.quotas t=0:=by unfold askE;rw [if_neg (by simp [hs]),if_neg (by simp [hq]),if_neg (by simp [ht])]
 have hov:overV x.pages x.quotas t=max ((owned x.pages t:Int) - qAt x.quotas t) 0:=by unfold overV;rw [if_pos hE0]
 have HO:=Hid.m (fun p:Beh w=>Qt.qover_any p.v ao x.pages cap (sb_of (hP.rd.below p.ok)) V.qo x.quotas V.qc (il_of (h.imm.qu.below p.ok)) t)
 rw [hE0] at HO
 obtain ⟨M,hM⟩:∃ M,M=overV x.pages x.quotas t:=⟨_,rfl⟩
 have hMb:decide (0<M)=b:=by rw [hb,hM,hov,Bool.eq_iff_iff];simp;omega
 rw [← hM] at HO
 have hp0:=hP.box.c 0 (by simp)
 simp only [List.getElem_cons_zero] at hp0
 have d3:∀ p:Beh w,_:=cell_beh (a:=⟨A.b,3,none⟩) h.lt h.c3
 have d24:∀ p:Beh w,_:=cell_beh (a:=⟨A.b,24,none⟩) h.lt h.c24
 have dp:∀ p:Beh w,_:=cell_beh (a:=⟨V.pp,0,none⟩) hP.box.lt hp0
 clear hov hM hp0 hP h hs hq ht hE0 hb
 unfold ptr at d3 ⊢
 go_enter Tryz.func103,Tryz.ntmps103
 go_upto_region 1 with (fail)
 refine wp_region_quiet_beh (by assumption) (by kernel_rfl) ?_
 repeat (first | go_big_quiet_skip | (quiet_step (first | (go_at_call 32;exact Calls.beh_of (HO.out _)))))
 refine wpQuiet_nil ?_
 intro w5 hw'
 obtain ⟨⟨wq,hq⟩,hw''⟩:=hw'
 subst hw''
 clear d3 d24 dp HO
 go_wp2
 go_ret
 exact ⟨rfl,hq⟩
structure Lq (N:Nat)(A:Ad)(s':Sh)(F:Cp→Nat→Prop)(w:World)(BL:Nat)(wr:World)(v:Value)(l:List Ch)(Fj:Cp→Nat→Prop):Prop where
 mv:Mv N A s' F w wr Fj
 hz:BL≤wr.heap.size
 own:GOwn EC wr BL v l
 off:∀ k,v.ownBlock=some k→¬ Un Fj k
section
variable {N:Nat} {A:Ad} {s' s2:Sh} {F:Cp→Nat→Prop} {w:World} {BL:Nat} {wr w2:World} {v v':Value} {l l':List Ch} {Fj F2:Cp→Nat→Prop}
theorem Lq.below (h:Lq N A s' F w BL wr v l Fj)(hb:Below wr.heap.size wr w2):Lq N A s' F w BL w2 v l Fj:=
 ⟨h.mv.below hb,Nat.le_trans h.hz hb.size,h.own.below hb,h.off⟩
theorem Lq.on (h:Lq N A s' F w BL wr v l Fj)(g:Mv N A s2 Fj wr w2 F2):Lq N A s2 F w BL w2 v l F2:=
 ⟨h.mv.trans g,Nat.le_trans h.hz g.size,(g.own h.own h.off).1,(g.own h.own h.off).2⟩
theorem Lq.grew (h:Lq N A s' F w BL wr v l Fj)(hw:w.heap.size≤BL)(hg:GGrew wr w2 v v')(ho:GOwn EC w2 BL v' l'):Lq N A s' F w BL w2 v' l' Fj:=by
 have hm:=h.mv.grew hg h.off fun k hk=>Nat.le_trans hw (h.own.lt k hk).1
 exact ⟨hm.1,Nat.le_trans h.hz hg.grown.size,ho,hm.2⟩
theorem Lq.rows {lo:Option Addr}{n lc:Nat}(h:Lq N A s' F w BL wr (.slice lo n lc) l Fj):n=l.length∧GRd EC wr lo l lc∧∀ a,lo=some a→¬ Un Fj a.block∧BL≤a.block∧a.block<wr.heap.size:=by
 obtain ⟨ao,cap,hv,hr⟩:=h.own.rd okC
 cases hv
 exact ⟨rfl,hr,fun a ha=>by subst ha;exact ⟨h.off _ rfl,(h.own.lt _ rfl).1,(h.own.lt _ rfl).2⟩⟩
end
structure Cgq (N:Nat)(A:Ad)(s':Sh)(F:Cp→Nat→Prop)(w w':World)(lo:Option Addr)(C:List Ch)(lc:Nat):Prop where
 rd:GRd EC w' lo C lc
 mv:∃ F',Mv N A s' F w w' F'∧∀ a,lo=some a→¬ Un F' a.block∧w.heap.size≤a.block∧a.block<w'.heap.size
theorem bit_test {u k:Nat}(hu:u<65536):(bits BinOp.and IntKind.u16 ((u:Int) / 2 ^ k) 1==1)=u.testBit k:=by
 have e:((u:Int) / 2 ^ k)=((u / 2 ^ k:Nat):Int):=by simp
 rw [e,Sb.u16_and1 _ (Sb.div_lt16 hu),Sb.testBit_div,Bool.eq_iff_iff]
 simp
 omega
set_option maxHeartbeats 4000000 in
theorem emptyPage_m {N:Nat}{A:Ad}{s:Sh}{q:List Int}{F0 F:Cp→Nat→Prop}{w0 w:World}(I:Inv s)(hM:Mv N A (s.wq q) F0 w0 w F){t:Int}{P:Nat}(hP:P<s.pages.length)(ho:isOf t s.pages[P]=true):
  Calls Tryz.prog 105 #[ptr A.b,.int .i64 P] w fun e w'=>∃ lo lc,e=.returned (.slice lo (s.evs t P (List.range 16)).2.length lc)∧Cgq N A ((s.evs t P (List.range 16)).1.wq q) F w w' lo (s.evs t P (List.range 16)).2 lc:=by
 have hV:=evs_st I hP ho
 obtain ⟨st,hst⟩:∃ st:Nat→Sh,st=fun k=>(s.evs t P (List.range k)).1:=⟨_,rfl⟩
 obtain ⟨CH,hCH⟩:∃ CH:Nat→List Ch,CH=fun k=>(s.evs t P (List.range k)).2:=⟨_,rfl⟩
 have e1:(s.evs t P (List.range 16)).1=st 16:=by rw [hst]
 have e2:(s.evs t P (List.range 16)).2=CH 16:=by rw [hCH]
 rw [e1,e2]
 rw [← hst,← hCH] at hV
 have HV:=Hid.m hV
 obtain ⟨x,hL,RA,RB⟩:=hM
 have HL0:Hid (Lq N A ((st 0).wq q) F w w.heap.size w (.slice none 0 0) (CH 0) F):=by
  rw [hV.z.1,hV.z.2]
  exact ⟨⟨x,Lv.refl hL.eg,RA,RB⟩,Nat.le_refl _,GOwn.nil _ _,by intro k hk;cases hk⟩
 obtain ⟨V,h⟩:=hL.eg
 have c3:=h.c3
 have bl:=h.lt
 obtain ⟨ao,cap,hG⟩:=h.imm.pg
 have hp0:=hG.box.c 0 (by simp)
 have hpl:=hG.box.lt
 simp only [List.getElem_cons_zero] at hp0
 have hPx:P<x.pages.length:=by rw [RA.pages];exact hP
 obtain ⟨gb,gf,hao,hgb,hgc⟩:=hG.rd.lies (by intro e;rw [e] at hPx;simp at hPx)
 have u2:=hgc P hPx 2 (by decide)
 have hpg:x.pages[P]=s.pages[P]:=by simp only [RA.pages];rfl
 have hu:s.pages[P].u<65536:=s.pages[P].hu
 have HBT:Hid (∀ k,s.pages[P]?.any (fun p=>p.u.testBit k)=s.pages[P].u.testBit k):=fun k=>by rw [List.getElem?_eq_getElem hP];rfl
 simp only [EP,hpg,List.getElem_cons_zero,List.getElem_cons_succ] at u2
 have hl16:=sOk_len I.slab
 have hnl:x.pages.length≤16:=by rw [RA.pages];exact hl16.2
 obtain ⟨n,hn⟩:∃ n,n=x.pages.length:=⟨_,rfl⟩
 have hPn:(P:Int)<(n:Int):=by omega
 obtain ⟨u,hue⟩:∃ u,u=s.pages[P].u:=⟨_,rfl⟩
 rw [← hn] at hp0 hnl
 rw [← hue] at u2 hu HBT
 rw [hao] at hp0
 have hP16:P<16:=by omega
 have HPL:=Hid.m (fun k (hk:k<16) (W0:World)=>eplaceOf_any P k (by omega) (by omega) W0)
 clear h hG hgc hpg hn hue hao hL RA RB hV hst hCH e1 e2 hPx hl16
 unfold ptr at c3 ⊢
 go_enter Tryz.func105,Tryz.ntmps105
 go_wp2
 clear c3 bl hp0 hpl hgb u2
 go_loopw [5,7,19] (fun s5 _ i wr=>∃ (k:Nat) (lo:Option Addr) (lm lc:Nat) (Fj:Cp→Nat→Prop),k≤16∧i=.int .i64 k∧s5=.slice lo lm lc∧Hid (Lq N A ((st k).wq q) F w w.heap.size wr (.slice lo lm lc) (CH k) Fj)) (fun _ _ i _=>16 - (intOf i).toNat)
 case atStart=>exact ⟨0,none,0,0,F,Nat.zero_le _,rfl,rfl,HL0⟩
 case round=>
  clear HL0
  obtain ⟨k,lo,lm,lc,Fj,hk,rfl,rfl,HP⟩:=hrel
  by_cases hkn:k<16
  ·have hkn2:(k:Int)<16:=by omega
   have HBK:=Hid.m (bit_test (k:=k) hu)
   have hcv:IntKind.u64.wrap (k:Int)=(k:Int):=by rw [IntKind.wrap_u64];omega
   cases hbit:u.testBit k with
   | false=>
    obtain ⟨h1,h2⟩:=HV.out.off k (by rw [HBT.out];exact hbit)
    have hbt:=HBK.out
    rw [hbit] at hbt
    have HS2:Hid (st (k+1)=st k∧CH (k+1)=CH k):=⟨h1,h2⟩
    clear h1 h2 hbit
    go_wp2
    go_roundw
    case rel=>exact ⟨k+1,lo,lm,lc,Fj,by omega,by go_num,rfl,by rw [HS2.out.1,HS2.out.2];exact HP⟩
    case measure=>simp [intOf];omega
   | true=>
    obtain ⟨i,hi,h1,h2,h3,h4⟩:=HV.out.on k (by rw [HBT.out];exact hbit)
    have hbt:=HBK.out
    rw [hbit] at hbt
    have HLV:=Hid.m (fun (w2:World) (F2:Cp→Nat→Prop) (h:Mv N A ((st k).wq q) F w w2 F2)=>leave_q (HV.out.inv k) h hi)
    rw [h1,h2,← h3] at HLV
    have HS2:=Hid.m h4
    obtain ⟨key,hkey⟩:∃ key,key=(st k).held[i].item.key:=⟨_,rfl⟩
    rw [← hkey] at HLV HS2
    have HDR:=Hid.m (fun W0=>edropped_any t key 2 W0)
    have HLL:Hid ((CH k).length+1≤1000000):=by show _≤_;have:=HV.out.len k;omega
    have HPK:=Hid.m (HPL.out k hkn)
    obtain ⟨pl,hpl⟩:∃ pl,pl=P * 16+k:=⟨_,rfl⟩
    rw [← hpl] at HLV HPK
    clear h1 h2 h3 h4 hi hkey hbit hpl
    unfold ptr at HLV
    unfold Ch.v at HDR
    simp only [Ch.kd,Ch.tn,Ch.im,Ch.key,Ch.why,Ch.to,Im.none] at HDR
    go_wp2_with (first
     | (go_at_call 164;refine (HPK.out _).mono ?_;rintro e w1 ⟨rfl,h0⟩;replace h0:=h0.symm;subst h0)
     | (go_at_call 51;refine (HLV.out wr Fj HP.out.mv).mono ?_;rintro e w3 ⟨rfl,F3,hm3⟩;have HP3:=Hid.m (HP.out.on hm3);clear hm3)
     | (go_at_call 138;refine (HDR.out w3).mono ?_;rintro e w4 ⟨rfl,hb4⟩;have HP4:=Hid.m (HP3.out.below hb4);clear hb4)
     | (at_builtin;refine g_one (w0:=w4) okC rfl _ _ _ rfl rfl w.heap.size _ _ HP4.out.own rfl (Ch.drop t key 2) rfl _ rfl rfl HLL.out HP4.out.hz ?_;intro v5 w5 hO5 hG5;have HP5:=Hid.m (HP4.out.grew (Nat.le_refl _) hG5 hO5);obtain ⟨a5,c5,hv5,-⟩:=hO5.rd okC;rw [List.length_append] at hv5;subst hv5;clear hO5 hG5))
    go_roundw
    case rel=>exact ⟨k+1,a5,_,c5,F3,by omega,by go_num,rfl,by rw [HS2.out];exact HP5⟩
    case measure=>simp [intOf];omega
  ·have hkn3:¬ ((k:Int)<16):=by omega
   have hkE:k=16:=by omega
   obtain ⟨hlm,hrd,hadr⟩:=HP.out.rows
   have HR:Hid (lm=(CH 16).length∧Cgq N A ((st 16).wq q) F w wr lo (CH 16) lc):=by
    have hmv:=HP.out.mv
    rw [hkE] at hlm hrd hmv
    exact ⟨hlm,hrd,Fj,hmv,hadr⟩
   clear hlm hrd hadr HP hkE
   go_wp2
   go_ret
   obtain ⟨e9,hC9⟩:=HR.out
   subst e9
   exact ⟨lo,lc,rfl,hC9⟩
end Go.Proofs.YtcdpiefflnaghaaGreatDoor.En
