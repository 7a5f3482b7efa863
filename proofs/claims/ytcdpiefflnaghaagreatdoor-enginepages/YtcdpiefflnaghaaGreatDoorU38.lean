/-
  Package engine and what stands beneath it, part 38: contracts of functions, and what they rest on.
-/
import Derived.Test.YtcdpiefflnaghaaGreatDoorU37
set_option linter.unusedSimpArgs false
set_option linter.unusedVariables false
set_option maxRecDepth 100000
namespace Go.Proofs.YtcdpiefflnaghaaGreatDoor.En
open Go.Proofs.YtcdpiefflnaghaaGreatDoor.It
open Go.Proofs.YtcdpiefflnaghaaGreatDoor.Lr
open Go.Proofs.YtcdpiefflnaghaaGreatDoor.Qt
open Go.Proofs.YtcdpiefflnaghaaGreatDoor.Sb
open Go.RowKit Go.Proofs.YtcdpiefflnaghaaGreatDoor
theorem two_boxes {w W:World}{cs rs:List Value}{T U:TypeId}(hW:W=(w.alloc (.cells cs.toArray T)).alloc (.cells rs.toArray U)):Below w.heap.size w W∧W.heap.size=w.heap.size+2∧GBx W w.heap.size cs∧GBx W (w.heap.size+1) rs:=by
 subst hW
 refine ⟨g_on (g_alloc _ _) (g_alloc _ _),by simp,(GBx.made w cs T).alloc _,?_⟩
 have:=GBx.made (w.alloc (.cells cs.toArray T)) rs U
 rw [show (w.alloc (.cells cs.toArray T)).heap.size=w.heap.size+1 by simp] at this
 exact this
theorem next_box {w W w1:World}{xs cs rs:List Value}{T:TypeId}(hB:Below w.heap.size w W)(hC:GBx W w.heap.size cs)(hR:GBx W (w.heap.size+1) rs)(hw:w1=W.alloc (.cells xs.toArray T)):Below w.heap.size w w1∧GBx w1 W.heap.size xs∧GBx w1 w.heap.size cs∧GBx w1 (w.heap.size+1) rs∧W.heap.size≤w1.heap.size:=by
 subst hw
 exact ⟨g_on hB (g_alloc _ _),GBx.made W xs T,hC.alloc _,hR.alloc _,by simp⟩
theorem _root_.Go.Proofs.YtcdpiefflnaghaaGreatDoor.GBx.c3 {w:World}{b:Nat}{v0 v1 v2:Value}(h:GBx w b [v0,v1,v2]):w.cell? ⟨b,0,none⟩=some v0∧w.cell? ⟨b,1,none⟩=some v1∧w.cell? ⟨b,2,none⟩=some v2:=⟨h.c 0 (by simp),h.c 1 (by simp),h.c 2 (by simp)⟩
theorem _root_.Go.Proofs.YtcdpiefflnaghaaGreatDoor.GBx.c5 {w:World}{b:Nat}{v0 v1 v2 v3 v4:Value}(h:GBx w b [v0,v1,v2,v3,v4]):w.cell? ⟨b,0,none⟩=some v0∧w.cell? ⟨b,1,none⟩=some v1∧w.cell? ⟨b,2,none⟩=some v2∧w.cell? ⟨b,3,none⟩=some v3∧w.cell? ⟨b,4,none⟩=some v4:=⟨h.c 0 (by simp),h.c 1 (by simp),h.c 2 (by simp),h.c 3 (by simp),h.c 4 (by simp)⟩
theorem _root_.Go.Proofs.YtcdpiefflnaghaaGreatDoor.GBx.c8 {w:World}{b:Nat}{v0 v1 v2 v3 v4 v5 v6 v7:Value}(h:GBx w b [v0,v1,v2,v3,v4,v5,v6,v7]):w.cell? ⟨b,0,none⟩=some v0∧w.cell? ⟨b,1,none⟩=some v1∧w.cell? ⟨b,2,none⟩=some v2∧w.cell? ⟨b,3,none⟩=some v3∧w.cell? ⟨b,4,none⟩=some v4∧w.cell? ⟨b,5,none⟩=some v5∧w.cell? ⟨b,6,none⟩=some v6∧w.cell? ⟨b,7,none⟩=some v7:=⟨h.c 0 (by simp),h.c 1 (by simp),h.c 2 (by simp),h.c 3 (by simp),h.c 4 (by simp),h.c 5 (by simp),h.c 6 (by simp),h.c 7 (by simp)⟩
set_option maxHeartbeats 4000000 in
theorem missing_2 {N M:Nat}{A:Ad}{s':Sh}{x:Ra}{F:Cp→Nat→Prop}{w:World}(hE:Eg N w A x F)(d:Cd)(hk:d.c.kind=2){kd nb:Int}{CH:List Ch}
  (HS:∀ W0,Below w.heap.size w W0→Calls Tryz.prog 140 #[ptr A.b,.agg d.cl.toArray] W0 fun e w'=>∃ lo lc,e=.returned (.tuple #[.agg #[.int .u8 kd,.slice none 0 0,.int .u64 nb],.slice lo CH.length lc])∧Cgs M A s' F W0 w' lo CH lc):
  Calls Tryz.prog 87 #[ptr A.b,.agg d.cl.toArray] w fun e w'=>∃ lo lc,e=.returned (.tuple #[.agg #[.int .u8 kd,.slice none 0 0,.int .u64 nb],.slice lo CH.length lc])∧Cgs M A s' F w w' lo CH lc:=by
 obtain ⟨W,hW⟩:∃ W,W=(w.alloc (.cells #[.int .u8 2,.int .i64 d.c.tenant,.slice d.so d.c.keys.length d.sc,.string d.c.value,.int .u32 d.c.flags,.int .i64 d.c.life,.int .u64 d.c.unique,.int .u64 d.c.by_] 37)).alloc (.cells #[.int .u8 0,.slice none 0 0,.int .u64 0] 30):=⟨_,rfl⟩
 obtain ⟨hBW,hWs,hBC,hBR⟩:=two_boxes hW
 have HUR:Hid (¬ Un F (w.heap.size+1)):=fun hu=>by have:=hE.un _ hu;omega
 have HB1:=Hid.m hBW
 have HR1:=Hid.m hBR
 have HRL:Hid (w.heap.size+1<W.heap.size):=by show _<_;omega
 obtain ⟨c0,c1,c2,c3,c4,c5,c6,c7⟩:=hBC.c8
 have cl:=hBC.lt
 replace HS:=Hid.m HS
 unfold Cd.cl at HS ⊢
 rw [hk] at HS ⊢
 clear hE hBC hBR hBW hWs hk
 unfold ptr at HS ⊢
 go_enter Tryz.func87,Tryz.ntmps87
 go_upto_region 1 with (fail)
 rw [← hW]
 clear hW
 go_wp2_with (go_at_call 140;refine (HS.out W HB1.out).mono ?_;rintro e w3 ⟨lo,lc,rfl,hG⟩;have HG:=Hid.m hG;clear hG;have hLb:=HG.out.lv;obtain ⟨F3,x3',hL3,rA3,rB3,hA3⟩:=hLb;obtain ⟨hbR,hbU⟩:=hL3.box HR1.out HUR.out;obtain ⟨y0,y1,y2⟩:=hbR.c3;have f0:=hbR.f 0;have f1:=hbR.f 1;have f2:=hbR.f 2;have yl:=hbR.lt;have hX:=(((hbR.set 0 (.int .u8 kd) (by simp)).set 1 (.slice none 0 0) (by simp)).set 2 (.int .u64 nb) (by simp));have ZZ0:=Hid.m (hX.c 0 (by simp));have ZZ1:=Hid.m (hX.c 1 (by simp));have ZZ2:=Hid.m (hX.c 2 (by simp));have HCG:=Hid.m (cgs_write (n:=W.heap.size) (hL3.from HB1.out) rA3 rB3 HG.out.rd hA3 hbU (show w.heap.size≤w.heap.size+1 by omega) HRL.out 0 [.int .u8 kd,.slice none 0 0,.int .u64 nb]);unfold sets sets sets sets at HCG;simp only [List.getElem_cons_zero,List.getElem_cons_succ,List.set_cons_zero,List.set_cons_succ] at ZZ0 ZZ1 ZZ2;clear hX hbR hbU hL3 rA3 rB3 hA3)
 try simp only [Exit.inBlock,Exit.then]
 refine bodyPost_ret (v:=.tuple #[.agg #[.int .u8 kd,.slice none 0 0,.int .u64 nb],.slice lo CH.length lc]) (by simp [results,Tryz.results87,go_sem,ZZ0.out,ZZ1.out,ZZ2.out]) rfl ⟨lo,lc,rfl,HCG.out⟩
set_option maxHeartbeats 4000000 in
theorem missing_3 {N M:Nat}{A:Ad}{s':Sh}{x:Ra}{F:Cp→Nat→Prop}{w:World}(hE:Eg N w A x F)(d:Cd)(hk:d.c.kind=3){kd nb:Int}{CH:List Ch}
  (HS:∀ W0,Below w.heap.size w W0→Calls Tryz.prog 140 #[ptr A.b,.agg d.cl.toArray] W0 fun e w'=>∃ lo lc,e=.returned (.tuple #[.agg #[.int .u8 kd,.slice none 0 0,.int .u64 nb],.slice lo CH.length lc])∧Cgs M A s' F W0 w' lo CH lc):
  Calls Tryz.prog 87 #[ptr A.b,.agg d.cl.toArray] w fun e w'=>∃ lo lc,e=.returned (.tuple #[.agg #[.int .u8 kd,.slice none 0 0,.int .u64 nb],.slice lo CH.length lc])∧Cgs M A s' F w w' lo CH lc:=by
 obtain ⟨W,hW⟩:∃ W,W=(w.alloc (.cells #[.int .u8 3,.int .i64 d.c.tenant,.slice d.so d.c.keys.length d.sc,.string d.c.value,.int .u32 d.c.flags,.int .i64 d.c.life,.int .u64 d.c.unique,.int .u64 d.c.by_] 37)).alloc (.cells #[.int .u8 0,.slice none 0 0,.int .u64 0] 30):=⟨_,rfl⟩
 obtain ⟨hBW,hWs,hBC,hBR⟩:=two_boxes hW
 have HUR:Hid (¬ Un F (w.heap.size+1)):=fun hu=>by have:=hE.un _ hu;omega
 have HB1:=Hid.m hBW
 have HR1:=Hid.m hBR
 have HRL:Hid (w.heap.size+1<W.heap.size):=by show _<_;omega
 obtain ⟨c0,c1,c2,c3,c4,c5,c6,c7⟩:=hBC.c8
 have cl:=hBC.lt
 replace HS:=Hid.m HS
 unfold Cd.cl at HS ⊢
 rw [hk] at HS ⊢
 clear hE hBC hBR hBW hWs hk
 unfold ptr at HS ⊢
 go_enter Tryz.func87,Tryz.ntmps87
 go_upto_region 1 with (fail)
 rw [← hW]
 clear hW
 go_wp2_with (go_at_call 140;refine (HS.out W HB1.out).mono ?_;rintro e w3 ⟨lo,lc,rfl,hG⟩;have HG:=Hid.m hG;clear hG;have hLb:=HG.out.lv;obtain ⟨F3,x3',hL3,rA3,rB3,hA3⟩:=hLb;obtain ⟨hbR,hbU⟩:=hL3.box HR1.out HUR.out;obtain ⟨y0,y1,y2⟩:=hbR.c3;have f0:=hbR.f 0;have f1:=hbR.f 1;have f2:=hbR.f 2;have yl:=hbR.lt;have hX:=(((hbR.set 0 (.int .u8 kd) (by simp)).set 1 (.slice none 0 0) (by simp)).set 2 (.int .u64 nb) (by simp));have ZZ0:=Hid.m (hX.c 0 (by simp));have ZZ1:=Hid.m (hX.c 1 (by simp));have ZZ2:=Hid.m (hX.c 2 (by simp));have HCG:=Hid.m (cgs_write (n:=W.heap.size) (hL3.from HB1.out) rA3 rB3 HG.out.rd hA3 hbU (show w.heap.size≤w.heap.size+1 by omega) HRL.out 0 [.int .u8 kd,.slice none 0 0,.int .u64 nb]);unfold sets sets sets sets at HCG;simp only [List.getElem_cons_zero,List.getElem_cons_succ,List.set_cons_zero,List.set_cons_succ] at ZZ0 ZZ1 ZZ2;clear hX hbR hbU hL3 rA3 rB3 hA3)
 try simp only [Exit.inBlock,Exit.then]
 refine bodyPost_ret (v:=.tuple #[.agg #[.int .u8 kd,.slice none 0 0,.int .u64 nb],.slice lo CH.length lc]) (by simp [results,Tryz.results87,go_sem,ZZ0.out,ZZ1.out,ZZ2.out]) rfl ⟨lo,lc,rfl,HCG.out⟩
set_option maxHeartbeats 4000000 in
theorem missing_n {N M:Nat}{A:Ad}{s:Sh}{x:Ra}{F:Cp→Nat→Prop}{w:World}(hE:Eg N w A x F)(RA:RepA x s)(RB:RepB x s)(d:Cd)(h2:¬ d.c.kind=2)(h3:¬ d.c.kind=3):
  Calls Tryz.prog 87 #[ptr A.b,.agg d.cl.toArray] w fun e w'=>∃ lo lc,e=.returned (.tuple #[.agg #[.int .u8 2,.slice none 0 0,.int .u64 0],.slice lo 0 lc])∧Cgs N A s F w w' lo [] lc:=by
 obtain ⟨W,hW⟩:∃ W,W=(w.alloc (.cells #[.int .u8 d.c.kind,.int .i64 d.c.tenant,.slice d.so d.c.keys.length d.sc,.string d.c.value,.int .u32 d.c.flags,.int .i64 d.c.life,.int .u64 d.c.unique,.int .u64 d.c.by_] 37)).alloc (.cells #[.int .u8 0,.slice none 0 0,.int .u64 0] 30):=⟨_,rfl⟩
 obtain ⟨hBW,hWs,hBC,hBR⟩:=two_boxes hW
 have HUR:Hid (¬ Un F (w.heap.size+1)):=fun hu=>by have:=hE.un _ hu;omega
 have HCG:Cgs N A s F w (((W.setCell ⟨w.heap.size+1,0,none⟩ (.int .u8 2)).setCell ⟨w.heap.size+1,1,none⟩ (.slice none 0 0)).setCell ⟨w.heap.size+1,2,none⟩ (.int .u64 0)) none [] 0:=by
  have:=cgs_write (n:=W.heap.size) (hE.lv hBW) RA RB (GRd.nil W) (fun a ha=>by cases ha) HUR.out (show w.heap.size≤w.heap.size+1 by omega) (by omega) 0 [.int .u8 2,.slice none 0 0,.int .u64 0]
  unfold sets sets sets sets at this
  exact this
 replace HCG:=Hid.m HCG
 have c0:=hBC.c 0 (by simp)
 have cl:=hBC.lt
 obtain ⟨y0,y1,y2⟩:=hBR.c3
 have f0:=hBR.f 0
 have f1:=hBR.f 1
 have f2:=hBR.f 2
 have yl:=hBR.lt
 simp only [List.getElem_cons_zero,List.getElem_cons_succ] at c0
 have hX:=(((hBR.set 0 (.int .u8 2) (by simp)).set 1 (.slice none 0 0) (by simp)).set 2 (.int .u64 0) (by simp))
 have ZZ0:=Hid.m (hX.c 0 (by simp))
 have ZZ1:=Hid.m (hX.c 1 (by simp))
 have ZZ2:=Hid.m (hX.c 2 (by simp))
 simp only [List.getElem_cons_zero,List.getElem_cons_succ,List.set_cons_zero,List.set_cons_succ] at ZZ0 ZZ1 ZZ2
 clear hE hBC hBR hBW hWs hX RA RB
 unfold ptr Cd.cl
 go_enter Tryz.func87,Tryz.ntmps87
 go_upto_region 1 with (fail)
 rw [← hW]
 clear hW
 go_wp2
 try simp only [Exit.inBlock,Exit.then]
 refine bodyPost_ret (v:=.tuple #[.agg #[.int .u8 2,.slice none 0 0,.int .u64 0],.slice none 0 0]) (by simp [results,Tryz.results87,go_sem,ZZ0.out,ZZ1.out,ZZ2.out]) rfl ⟨none,0,rfl,HCG.out⟩
set_option maxHeartbeats 4000000 in
theorem there_2 {N M:Nat}{A:Ad}{s s':Sh}{x:Ra}{F:Cp→Nat→Prop}{w:World}(hE:Eg N w A x F)(d:Cd)(hk:d.c.kind=2){p:Nat}{z:Int × Im}(hp:p<x.kept.length)(hz:x.kept[p]=z){kd nb:Int}{CH:List Ch}
  (HS:∀ W0,Below w.heap.size w W0→Calls Tryz.prog 140 #[ptr A.b,.agg d.cl.toArray] W0 fun e w'=>∃ lo lc,e=.returned (.tuple #[.agg #[.int .u8 kd,.slice none 0 0,.int .u64 nb],.slice lo CH.length lc])∧Cgs M A s' F W0 w' lo CH lc):
  Calls Tryz.prog 88 #[ptr A.b,.agg d.cl.toArray,.int .i64 p] w fun e w'=>∃ lo lc,e=.returned (.tuple #[.agg #[.int .u8 kd,.slice none 0 0,.int .u64 nb],.slice lo CH.length lc])∧Cgs M A s' F w w' lo CH lc:=by
 obtain ⟨W,hW⟩:∃ W,W=(w.alloc (.cells #[.int .u8 2,.int .i64 d.c.tenant,.slice d.so d.c.keys.length d.sc,.string d.c.value,.int .u32 d.c.flags,.int .i64 d.c.life,.int .u64 d.c.unique,.int .u64 d.c.by_] 37)).alloc (.cells #[.int .u8 0,.slice none 0 0,.int .u64 0] 30):=⟨_,rfl⟩
 obtain ⟨hBW,hWs,hBC,hBR⟩:=two_boxes hW
 have HUR:Hid (¬ Un F (w.heap.size+1)):=fun hu=>by have:=hE.un _ hu;omega
 obtain ⟨V,hEv⟩:=hE.below hBW
 obtain ⟨ro,rc,hI⟩:=hEv.itm
 have c25:=hEv.c25
 have i0:=hI.h0
 obtain ⟨k0,k1,k2,k3,k4,k5⟩:=hI.at_ hp
 rw [hz] at k0 k1 k2 k3 k4 k5
 have bl:=hEv.lt
 have il:=hI.head.lt
 have kl:=hI.body.lt
 obtain ⟨K,hK⟩:∃ K,K=x.kept.length:=⟨_,rfl⟩
 rw [← hK] at i0
 have hp2:(p:Int)<(K:Int):=by omega
 try simp only [EK] at k0 k1 k2 k3 k4 k5
 have HBC:=Hid.m hBC
 have HBR:=Hid.m hBR
 have HBW:=Hid.m hBW
 have HWS:=Hid.m hWs
 replace HS:=Hid.m HS
 unfold Cd.cl at HS ⊢
 rw [hk] at HS ⊢
 clear hE hEv hI hBC hBR hBW hWs hk hK hp hz
 unfold ptr at HS c25 ⊢
 go_enter Tryz.func88,Tryz.ntmps88
 go_upto_region 1 with (fail)
 rw [← hW]
 clear hW
 go_upto_region 2 with (fail)
 clear c25 i0 k0 k1 k2 k3 k4 k5 bl il kl
 obtain ⟨w1,hw1⟩:∃ w1,w1=W.alloc (.cells #[.string z.2.key,.string z.2.value,.int .u32 z.2.flags,.int .i64 z.2.till,.int .u64 z.2.unique] 76):=⟨_,rfl⟩
 obtain ⟨hB1,hX1,hC1,hR1,hn1⟩:=next_box HBW.out HBC.out HBR.out hw1
 have HRL:Hid (w.heap.size+1<w1.heap.size):=by show _<_;have:=HWS.out;omega
 have HB1:=Hid.m hB1
 have HR1:=Hid.m hR1
 have HN1:=Hid.m hn1
 rw [← hw1]
 clear hw1
 obtain ⟨c0,c1,c2,c3,c4,c5,c6,c7⟩:=hC1.c8
 obtain ⟨q0,q1,q2,q3,q4⟩:=hX1.c5
 have cl:=hC1.lt
 have ql:=hX1.lt
 clear hC1 hX1 hR1 hB1 hn1
 go_wp2_with (go_at_call 140;refine (HS.out w1 HB1.out).mono ?_;rintro e w3 ⟨lo,lc,rfl,hG⟩;have HG:=Hid.m hG;clear hG;have hLb:=HG.out.lv;obtain ⟨F3,x3',hL3,rA3,rB3,hA3⟩:=hLb;obtain ⟨hbR,hbU⟩:=hL3.box HR1.out HUR.out;obtain ⟨y0,y1,y2⟩:=hbR.c3;have f0:=hbR.f 0;have f1:=hbR.f 1;have f2:=hbR.f 2;have yl:=hbR.lt;have hX:=(((hbR.set 0 (.int .u8 kd) (by simp)).set 1 (.slice none 0 0) (by simp)).set 2 (.int .u64 nb) (by simp));have ZZ0:=Hid.m (hX.c 0 (by simp));have ZZ1:=Hid.m (hX.c 1 (by simp));have ZZ2:=Hid.m (hX.c 2 (by simp));have HCG:=Hid.m (cgs_write (n:=w1.heap.size) (hL3.from HB1.out) rA3 rB3 HG.out.rd hA3 hbU (show w.heap.size≤w.heap.size+1 by omega) HRL.out 0 [.int .u8 kd,.slice none 0 0,.int .u64 nb]);unfold sets sets sets sets at HCG;simp only [List.getElem_cons_zero,List.getElem_cons_succ,List.set_cons_zero,List.set_cons_succ] at ZZ0 ZZ1 ZZ2;clear hX hbR hbU hL3 rA3 rB3 hA3)
 try simp only [Exit.inBlock,Exit.then]
 refine bodyPost_ret (v:=.tuple #[.agg #[.int .u8 kd,.slice none 0 0,.int .u64 nb],.slice lo CH.length lc]) (by simp [results,Tryz.results88,go_sem,ZZ0.out,ZZ1.out,ZZ2.out]) rfl ⟨lo,lc,rfl,HCG.out⟩
set_option maxHeartbeats 4000000 in
theorem there_4 {N M:Nat}{A:Ad}{s s':Sh}{x:Ra}{F:Cp→Nat→Prop}{w:World}(hE:Eg N w A x F)(d:Cd)(hk:d.c.kind=4){p:Nat}{z:Int × Im}(hp:p<x.kept.length)(hz:x.kept[p]=z){kd nb:Int}{CH:List Ch}
  (HS:∀ W0,Below w.heap.size w W0→Calls Tryz.prog 140 #[ptr A.b,.agg d.cl.toArray] W0 fun e w'=>∃ lo lc,e=.returned (.tuple #[.agg #[.int .u8 kd,.slice none 0 0,.int .u64 nb],.slice lo CH.length lc])∧Cgs M A s' F W0 w' lo CH lc):
  Calls Tryz.prog 88 #[ptr A.b,.agg d.cl.toArray,.int .i64 p] w fun e w'=>∃ lo lc,e=.returned (.tuple #[.agg #[.int .u8 kd,.slice none 0 0,.int .u64 nb],.slice lo CH.length lc])∧Cgs M A s' F w w' lo CH lc:=by
 obtain ⟨W,hW⟩:∃ W,W=(w.alloc (.cells #[.int .u8 4,.int .i64 d.c.tenant,.slice d.so d.c.keys.length d.sc,.string d.c.value,.int .u32 d.c.flags,.int .i64 d.c.life,.int .u64 d.c.unique,.int .u64 d.c.by_] 37)).alloc (.cells #[.int .u8 0,.slice none 0 0,.int .u64 0] 30):=⟨_,rfl⟩
 obtain ⟨hBW,hWs,hBC,hBR⟩:=two_boxes hW
 have HUR:Hid (¬ Un F (w.heap.size+1)):=fun hu=>by have:=hE.un _ hu;omega
 obtain ⟨V,hEv⟩:=hE.below hBW
 obtain ⟨ro,rc,hI⟩:=hEv.itm
 have c25:=hEv.c25
 have i0:=hI.h0
 obtain ⟨k0,k1,k2,k3,k4,k5⟩:=hI.at_ hp
 rw [hz] at k0 k1 k2 k3 k4 k5
 have bl:=hEv.lt
 have il:=hI.head.lt
 have kl:=hI.body.lt
 obtain ⟨K,hK⟩:∃ K,K=x.kept.length:=⟨_,rfl⟩
 rw [← hK] at i0
 have hp2:(p:Int)<(K:Int):=by omega
 try simp only [EK] at k0 k1 k2 k3 k4 k5
 have HBC:=Hid.m hBC
 have HBR:=Hid.m hBR
 have HBW:=Hid.m hBW
 have HWS:=Hid.m hWs
 replace HS:=Hid.m HS
 unfold Cd.cl at HS ⊢
 rw [hk] at HS ⊢
 clear hE hEv hI hBC hBR hBW hWs hk hK hp hz
 unfold ptr at HS c25 ⊢
 go_enter Tryz.func88,Tryz.ntmps88
 go_upto_region 1 with (fail)
 rw [← hW]
 clear hW
 go_upto_region 2 with (fail)
 clear c25 i0 k0 k1 k2 k3 k4 k5 bl il kl
 obtain ⟨w1,hw1⟩:∃ w1,w1=W.alloc (.cells #[.string z.2.key,.string z.2.value,.int .u32 z.2.flags,.int .i64 z.2.till,.int .u64 z.2.unique] 76):=⟨_,rfl⟩
 obtain ⟨hB1,hX1,hC1,hR1,hn1⟩:=next_box HBW.out HBC.out HBR.out hw1
 have HRL:Hid (w.heap.size+1<w1.heap.size):=by show _<_;have:=HWS.out;omega
 have HB1:=Hid.m hB1
 have HR1:=Hid.m hR1
 have HN1:=Hid.m hn1
 rw [← hw1]
 clear hw1
 obtain ⟨c0,c1,c2,c3,c4,c5,c6,c7⟩:=hC1.c8
 obtain ⟨q0,q1,q2,q3,q4⟩:=hX1.c5
 have cl:=hC1.lt
 have ql:=hX1.lt
 clear hC1 hX1 hR1 hB1 hn1
 go_wp2_with (go_at_call 140;refine (HS.out w1 HB1.out).mono ?_;rintro e w3 ⟨lo,lc,rfl,hG⟩;have HG:=Hid.m hG;clear hG;have hLb:=HG.out.lv;obtain ⟨F3,x3',hL3,rA3,rB3,hA3⟩:=hLb;obtain ⟨hbR,hbU⟩:=hL3.box HR1.out HUR.out;obtain ⟨y0,y1,y2⟩:=hbR.c3;have f0:=hbR.f 0;have f1:=hbR.f 1;have f2:=hbR.f 2;have yl:=hbR.lt;have hX:=(((hbR.set 0 (.int .u8 kd) (by simp)).set 1 (.slice none 0 0) (by simp)).set 2 (.int .u64 nb) (by simp));have ZZ0:=Hid.m (hX.c 0 (by simp));have ZZ1:=Hid.m (hX.c 1 (by simp));have ZZ2:=Hid.m (hX.c 2 (by simp));have HCG:=Hid.m (cgs_write (n:=w1.heap.size) (hL3.from HB1.out) rA3 rB3 HG.out.rd hA3 hbU (show w.heap.size≤w.heap.size+1 by omega) HRL.out 0 [.int .u8 kd,.slice none 0 0,.int .u64 nb]);unfold sets sets sets sets at HCG;simp only [List.getElem_cons_zero,List.getElem_cons_succ,List.set_cons_zero,List.set_cons_succ] at ZZ0 ZZ1 ZZ2;clear hX hbR hbU hL3 rA3 rB3 hA3)
 try simp only [Exit.inBlock,Exit.then]
 refine bodyPost_ret (v:=.tuple #[.agg #[.int .u8 kd,.slice none 0 0,.int .u64 nb],.slice lo CH.length lc]) (by simp [results,Tryz.results88,go_sem,ZZ0.out,ZZ1.out,ZZ2.out]) rfl ⟨lo,lc,rfl,HCG.out⟩
set_option maxHeartbeats 4000000 in
theorem there_5 {N M:Nat}{A:Ad}{s s':Sh}{x:Ra}{F:Cp→Nat→Prop}{w:World}(hE:Eg N w A x F)(d:Cd)(hk:d.c.kind=5){p:Nat}{z:Int × Im}(hp:p<x.kept.length)(hz:x.kept[p]=z)(hu:z.2.unique=d.c.unique){kd nb:Int}{CH:List Ch}
  (HS:∀ W0,Below w.heap.size w W0→Calls Tryz.prog 140 #[ptr A.b,.agg d.cl.toArray] W0 fun e w'=>∃ lo lc,e=.returned (.tuple #[.agg #[.int .u8 kd,.slice none 0 0,.int .u64 nb],.slice lo CH.length lc])∧Cgs M A s' F W0 w' lo CH lc):
  Calls Tryz.prog 88 #[ptr A.b,.agg d.cl.toArray,.int .i64 p] w fun e w'=>∃ lo lc,e=.returned (.tuple #[.agg #[.int .u8 kd,.slice none 0 0,.int .u64 nb],.slice lo CH.length lc])∧Cgs M A s' F w w' lo CH lc:=by
 obtain ⟨W,hW⟩:∃ W,W=(w.alloc (.cells #[.int .u8 5,.int .i64 d.c.tenant,.slice d.so d.c.keys.length d.sc,.string d.c.value,.int .u32 d.c.flags,.int .i64 d.c.life,.int .u64 d.c.unique,.int .u64 d.c.by_] 37)).alloc (.cells #[.int .u8 0,.slice none 0 0,.int .u64 0] 30):=⟨_,rfl⟩
 obtain ⟨hBW,hWs,hBC,hBR⟩:=two_boxes hW
 have HUR:Hid (¬ Un F (w.heap.size+1)):=fun hu=>by have:=hE.un _ hu;omega
 obtain ⟨V,hEv⟩:=hE.below hBW
 obtain ⟨ro,rc,hI⟩:=hEv.itm
 have c25:=hEv.c25
 have i0:=hI.h0
 obtain ⟨k0,k1,k2,k3,k4,k5⟩:=hI.at_ hp
 rw [hz] at k0 k1 k2 k3 k4 k5
 have bl:=hEv.lt
 have il:=hI.head.lt
 have kl:=hI.body.lt
 obtain ⟨K,hK⟩:∃ K,K=x.kept.length:=⟨_,rfl⟩
 rw [← hK] at i0
 have hp2:(p:Int)<(K:Int):=by omega
 try simp only [EK] at k0 k1 k2 k3 k4 k5
 have HBC:=Hid.m hBC
 have HBR:=Hid.m hBR
 have HBW:=Hid.m hBW
 have HWS:=Hid.m hWs
 replace HS:=Hid.m HS
 unfold Cd.cl at HS ⊢
 rw [hk] at HS ⊢
 replace hu:=Hid.m hu
 clear hE hEv hI hBC hBR hBW hWs hk hK hp hz
 unfold ptr at HS c25 ⊢
 go_enter Tryz.func88,Tryz.ntmps88
 go_upto_region 1 with (fail)
 rw [← hW]
 clear hW
 go_upto_region 2 with (fail)
 clear c25 i0 k0 k1 k2 k3 k4 k5 bl il kl
 obtain ⟨w1,hw1⟩:∃ w1,w1=W.alloc (.cells #[.string z.2.key,.string z.2.value,.int .u32 z.2.flags,.int .i64 z.2.till,.int .u64 z.2.unique] 76):=⟨_,rfl⟩
 obtain ⟨hB1,hX1,hC1,hR1,hn1⟩:=next_box HBW.out HBC.out HBR.out hw1
 have HRL:Hid (w.heap.size+1<w1.heap.size):=by show _<_;have:=HWS.out;omega
 have HB1:=Hid.m hB1
 have HR1:=Hid.m hR1
 have HN1:=Hid.m hn1
 rw [← hw1]
 clear hw1
 obtain ⟨c0,c1,c2,c3,c4,c5,c6,c7⟩:=hC1.c8
 obtain ⟨q0,q1,q2,q3,q4⟩:=hX1.c5
 have cl:=hC1.lt
 have ql:=hX1.lt
 have hu2:=hu.out
 clear hC1 hX1 hR1 hB1 hn1
 go_wp2_with (go_at_call 140;refine (HS.out w1 HB1.out).mono ?_;rintro e w3 ⟨lo,lc,rfl,hG⟩;have HG:=Hid.m hG;clear hG;have hLb:=HG.out.lv;obtain ⟨F3,x3',hL3,rA3,rB3,hA3⟩:=hLb;obtain ⟨hbR,hbU⟩:=hL3.box HR1.out HUR.out;obtain ⟨y0,y1,y2⟩:=hbR.c3;have f0:=hbR.f 0;have f1:=hbR.f 1;have f2:=hbR.f 2;have yl:=hbR.lt;have hX:=(((hbR.set 0 (.int .u8 kd) (by simp)).set 1 (.slice none 0 0) (by simp)).set 2 (.int .u64 nb) (by simp));have ZZ0:=Hid.m (hX.c 0 (by simp));have ZZ1:=Hid.m (hX.c 1 (by simp));have ZZ2:=Hid.m (hX.c 2 (by simp));have HCG:=Hid.m (cgs_write (n:=w1.heap.size) (hL3.from HB1.out) rA3 rB3 HG.out.rd hA3 hbU (show w.heap.size≤w.heap.size+1 by omega) HRL.out 0 [.int .u8 kd,.slice none 0 0,.int .u64 nb]);unfold sets sets sets sets at HCG;simp only [List.getElem_cons_zero,List.getElem_cons_succ,List.set_cons_zero,List.set_cons_succ] at ZZ0 ZZ1 ZZ2;clear hX hbR hbU hL3 rA3 rB3 hA3)
 try simp only [Exit.inBlock,Exit.then]
 refine bodyPost_ret (v:=.tuple #[.agg #[.int .u8 kd,.slice none 0 0,.int .u64 nb],.slice lo CH.length lc]) (by simp [results,Tryz.results88,go_sem,ZZ0.out,ZZ1.out,ZZ2.out]) rfl ⟨lo,lc,rfl,HCG.out⟩
set_option maxHeartbeats 4000000 in
theorem there_6 {N M:Nat}{A:Ad}{s s':Sh}{x:Ra}{F:Cp→Nat→Prop}{w:World}(hE:Eg N w A x F)(d:Cd)(hk:d.c.kind=6){p:Nat}{z:Int × Im}(hp:p<x.kept.length)(hz:x.kept[p]=z){kd nb:Int}{CH:List Ch}
  (HS:∀ W0,Below w.heap.size w W0→Calls Tryz.prog 141 #[ptr A.b,.agg d.cl.toArray,z.2.v] W0 fun e w'=>∃ lo lc,e=.returned (.tuple #[.agg #[.int .u8 kd,.slice none 0 0,.int .u64 nb],.slice lo CH.length lc])∧Cgs M A s' F W0 w' lo CH lc):
  Calls Tryz.prog 88 #[ptr A.b,.agg d.cl.toArray,.int .i64 p] w fun e w'=>∃ lo lc,e=.returned (.tuple #[.agg #[.int .u8 kd,.slice none 0 0,.int .u64 nb],.slice lo CH.length lc])∧Cgs M A s' F w w' lo CH lc:=by
 obtain ⟨W,hW⟩:∃ W,W=(w.alloc (.cells #[.int .u8 6,.int .i64 d.c.tenant,.slice d.so d.c.keys.length d.sc,.string d.c.value,.int .u32 d.c.flags,.int .i64 d.c.life,.int .u64 d.c.unique,.int .u64 d.c.by_] 37)).alloc (.cells #[.int .u8 0,.slice none 0 0,.int .u64 0] 30):=⟨_,rfl⟩
 obtain ⟨hBW,hWs,hBC,hBR⟩:=two_boxes hW
 have HUR:Hid (¬ Un F (w.heap.size+1)):=fun hu=>by have:=hE.un _ hu;omega
 obtain ⟨V,hEv⟩:=hE.below hBW
 obtain ⟨ro,rc,hI⟩:=hEv.itm
 have c25:=hEv.c25
 have i0:=hI.h0
 obtain ⟨k0,k1,k2,k3,k4,k5⟩:=hI.at_ hp
 rw [hz] at k0 k1 k2 k3 k4 k5
 have bl:=hEv.lt
 have il:=hI.head.lt
 have kl:=hI.body.lt
 obtain ⟨K,hK⟩:∃ K,K=x.kept.length:=⟨_,rfl⟩
 rw [← hK] at i0
 have hp2:(p:Int)<(K:Int):=by omega
 try simp only [EK] at k0 k1 k2 k3 k4 k5
 have HBC:=Hid.m hBC
 have HBR:=Hid.m hBR
 have HBW:=Hid.m hBW
 have HWS:=Hid.m hWs
 replace HS:=Hid.m HS
 unfold Cd.cl at HS ⊢
 rw [hk] at HS ⊢
 unfold Im.v at HS
 clear hE hEv hI hBC hBR hBW hWs hk hK hp hz
 unfold ptr at HS c25 ⊢
 go_enter Tryz.func88,Tryz.ntmps88
 go_upto_region 1 with (fail)
 rw [← hW]
 clear hW
 go_upto_region 2 with (fail)
 clear c25 i0 k0 k1 k2 k3 k4 k5 bl il kl
 obtain ⟨w1,hw1⟩:∃ w1,w1=W.alloc (.cells #[.string z.2.key,.string z.2.value,.int .u32 z.2.flags,.int .i64 z.2.till,.int .u64 z.2.unique] 76):=⟨_,rfl⟩
 obtain ⟨hB1,hX1,hC1,hR1,hn1⟩:=next_box HBW.out HBC.out HBR.out hw1
 have HRL:Hid (w.heap.size+1<w1.heap.size):=by show _<_;have:=HWS.out;omega
 have HB1:=Hid.m hB1
 have HR1:=Hid.m hR1
 have HN1:=Hid.m hn1
 rw [← hw1]
 clear hw1
 obtain ⟨c0,c1,c2,c3,c4,c5,c6,c7⟩:=hC1.c8
 obtain ⟨q0,q1,q2,q3,q4⟩:=hX1.c5
 have cl:=hC1.lt
 have ql:=hX1.lt
 clear hC1 hX1 hR1 hB1 hn1
 go_wp2_with (go_at_call 141;refine (HS.out w1 HB1.out).mono ?_;rintro e w3 ⟨lo,lc,rfl,hG⟩;have HG:=Hid.m hG;clear hG;have hLb:=HG.out.lv;obtain ⟨F3,x3',hL3,rA3,rB3,hA3⟩:=hLb;obtain ⟨hbR,hbU⟩:=hL3.box HR1.out HUR.out;obtain ⟨y0,y1,y2⟩:=hbR.c3;have f0:=hbR.f 0;have f1:=hbR.f 1;have f2:=hbR.f 2;have yl:=hbR.lt;have hX:=(((hbR.set 0 (.int .u8 kd) (by simp)).set 1 (.slice none 0 0) (by simp)).set 2 (.int .u64 nb) (by simp));have ZZ0:=Hid.m (hX.c 0 (by simp));have ZZ1:=Hid.m (hX.c 1 (by simp));have ZZ2:=Hid.m (hX.c 2 (by simp));have HCG:=Hid.m (cgs_write (n:=w1.heap.size) (hL3.from HB1.out) rA3 rB3 HG.out.rd hA3 hbU (show w.heap.size≤w.heap.size+1 by omega) HRL.out 0 [.int .u8 kd,.slice none 0 0,.int .u64 nb]);unfold sets sets sets sets at HCG;simp only [List.getElem_cons_zero,List.getElem_cons_succ,List.set_cons_zero,List.set_cons_succ] at ZZ0 ZZ1 ZZ2;clear hX hbR hbU hL3 rA3 rB3 hA3)
 try simp only [Exit.inBlock,Exit.then]
 refine bodyPost_ret (v:=.tuple #[.agg #[.int .u8 kd,.slice none 0 0,.int .u64 nb],.slice lo CH.length lc]) (by simp [results,Tryz.results88,go_sem,ZZ0.out,ZZ1.out,ZZ2.out]) rfl ⟨lo,lc,rfl,HCG.out⟩
set_option maxHeartbeats 4000000 in
theorem there_7 {N M:Nat}{A:Ad}{s s':Sh}{x:Ra}{F:Cp→Nat→Prop}{w:World}(hE:Eg N w A x F)(d:Cd)(hk:d.c.kind=7){p:Nat}{z:Int × Im}(hp:p<x.kept.length)(hz:x.kept[p]=z){kd nb:Int}{CH:List Ch}
  (HS:∀ W0,Below w.heap.size w W0→Calls Tryz.prog 141 #[ptr A.b,.agg d.cl.toArray,z.2.v] W0 fun e w'=>∃ lo lc,e=.returned (.tuple #[.agg #[.int .u8 kd,.slice none 0 0,.int .u64 nb],.slice lo CH.length lc])∧Cgs M A s' F W0 w' lo CH lc):
  Calls Tryz.prog 88 #[ptr A.b,.agg d.cl.toArray,.int .i64 p] w fun e w'=>∃ lo lc,e=.returned (.tuple #[.agg #[.int .u8 kd,.slice none 0 0,.int .u64 nb],.slice lo CH.length lc])∧Cgs M A s' F w w' lo CH lc:=by
 obtain ⟨W,hW⟩:∃ W,W=(w.alloc (.cells #[.int .u8 7,.int .i64 d.c.tenant,.slice d.so d.c.keys.length d.sc,.string d.c.value,.int .u32 d.c.flags,.int .i64 d.c.life,.int .u64 d.c.unique,.int .u64 d.c.by_] 37)).alloc (.cells #[.int .u8 0,.slice none 0 0,.int .u64 0] 30):=⟨_,rfl⟩
 obtain ⟨hBW,hWs,hBC,hBR⟩:=two_boxes hW
 have HUR:Hid (¬ Un F (w.heap.size+1)):=fun hu=>by have:=hE.un _ hu;omega
 obtain ⟨V,hEv⟩:=hE.below hBW
 obtain ⟨ro,rc,hI⟩:=hEv.itm
 have c25:=hEv.c25
 have i0:=hI.h0
 obtain ⟨k0,k1,k2,k3,k4,k5⟩:=hI.at_ hp
 rw [hz] at k0 k1 k2 k3 k4 k5
 have bl:=hEv.lt
 have il:=hI.head.lt
 have kl:=hI.body.lt
 obtain ⟨K,hK⟩:∃ K,K=x.kept.length:=⟨_,rfl⟩
 rw [← hK] at i0
 have hp2:(p:Int)<(K:Int):=by omega
 try simp only [EK] at k0 k1 k2 k3 k4 k5
 have HBC:=Hid.m hBC
 have HBR:=Hid.m hBR
 have HBW:=Hid.m hBW
 have HWS:=Hid.m hWs
 replace HS:=Hid.m HS
 unfold Cd.cl at HS ⊢
 rw [hk] at HS ⊢
 unfold Im.v at HS
 clear hE hEv hI hBC hBR hBW hWs hk hK hp hz
 unfold ptr at HS c25 ⊢
 go_enter Tryz.func88,Tryz.ntmps88
 go_upto_region 1 with (fail)
 rw [← hW]
 clear hW
 go_upto_region 2 with (fail)
 clear c25 i0 k0 k1 k2 k3 k4 k5 bl il kl
 obtain ⟨w1,hw1⟩:∃ w1,w1=W.alloc (.cells #[.string z.2.key,.string z.2.value,.int .u32 z.2.flags,.int .i64 z.2.till,.int .u64 z.2.unique] 76):=⟨_,rfl⟩
 obtain ⟨hB1,hX1,hC1,hR1,hn1⟩:=next_box HBW.out HBC.out HBR.out hw1
 have HRL:Hid (w.heap.size+1<w1.heap.size):=by show _<_;have:=HWS.out;omega
 have HB1:=Hid.m hB1
 have HR1:=Hid.m hR1
 have HN1:=Hid.m hn1
 rw [← hw1]
 clear hw1
 obtain ⟨c0,c1,c2,c3,c4,c5,c6,c7⟩:=hC1.c8
 obtain ⟨q0,q1,q2,q3,q4⟩:=hX1.c5
 have cl:=hC1.lt
 have ql:=hX1.lt
 clear hC1 hX1 hR1 hB1 hn1
 go_wp2_with (go_at_call 141;refine (HS.out w1 HB1.out).mono ?_;rintro e w3 ⟨lo,lc,rfl,hG⟩;have HG:=Hid.m hG;clear hG;have hLb:=HG.out.lv;obtain ⟨F3,x3',hL3,rA3,rB3,hA3⟩:=hLb;obtain ⟨hbR,hbU⟩:=hL3.box HR1.out HUR.out;obtain ⟨y0,y1,y2⟩:=hbR.c3;have f0:=hbR.f 0;have f1:=hbR.f 1;have f2:=hbR.f 2;have yl:=hbR.lt;have hX:=(((hbR.set 0 (.int .u8 kd) (by simp)).set 1 (.slice none 0 0) (by simp)).set 2 (.int .u64 nb) (by simp));have ZZ0:=Hid.m (hX.c 0 (by simp));have ZZ1:=Hid.m (hX.c 1 (by simp));have ZZ2:=Hid.m (hX.c 2 (by simp));have HCG:=Hid.m (cgs_write (n:=w1.heap.size) (hL3.from HB1.out) rA3 rB3 HG.out.rd hA3 hbU (show w.heap.size≤w.heap.size+1 by omega) HRL.out 0 [.int .u8 kd,.slice none 0 0,.int .u64 nb]);unfold sets sets sets sets at HCG;simp only [List.getElem_cons_zero,List.getElem_cons_succ,List.set_cons_zero,List.set_cons_succ] at ZZ0 ZZ1 ZZ2;clear hX hbR hbU hL3 rA3 rB3 hA3)
 try simp only [Exit.inBlock,Exit.then]
 refine bodyPost_ret (v:=.tuple #[.agg #[.int .u8 kd,.slice none 0 0,.int .u64 nb],.slice lo CH.length lc]) (by simp [results,Tryz.results88,go_sem,ZZ0.out,ZZ1.out,ZZ2.out]) rfl ⟨lo,lc,rfl,HCG.out⟩
set_option maxHeartbeats 4000000 in
theorem there_8 {N M:Nat}{A:Ad}{s s':Sh}{x:Ra}{F:Cp→Nat→Prop}{w:World}(hE:Eg N w A x F)(d:Cd)(hk:d.c.kind=8){p:Nat}{z:Int × Im}(hp:p<x.kept.length)(hz:x.kept[p]=z){kd nb:Int}{CH:List Ch}
  (HS:∀ W0,Below w.heap.size w W0→Calls Tryz.prog 142 #[ptr A.b,.agg d.cl.toArray,z.2.v] W0 fun e w'=>∃ lo lc,e=.returned (.tuple #[.agg #[.int .u8 kd,.slice none 0 0,.int .u64 nb],.slice lo CH.length lc])∧Cgs M A s' F W0 w' lo CH lc):
  Calls Tryz.prog 88 #[ptr A.b,.agg d.cl.toArray,.int .i64 p] w fun e w'=>∃ lo lc,e=.returned (.tuple #[.agg #[.int .u8 kd,.slice none 0 0,.int .u64 nb],.slice lo CH.length lc])∧Cgs M A s' F w w' lo CH lc:=by
 obtain ⟨W,hW⟩:∃ W,W=(w.alloc (.cells #[.int .u8 8,.int .i64 d.c.tenant,.slice d.so d.c.keys.length d.sc,.string d.c.value,.int .u32 d.c.flags,.int .i64 d.c.life,.int .u64 d.c.unique,.int .u64 d.c.by_] 37)).alloc (.cells #[.int .u8 0,.slice none 0 0,.int .u64 0] 30):=⟨_,rfl⟩
 obtain ⟨hBW,hWs,hBC,hBR⟩:=two_boxes hW
 have HUR:Hid (¬ Un F (w.heap.size+1)):=fun hu=>by have:=hE.un _ hu;omega
 obtain ⟨V,hEv⟩:=hE.below hBW
 obtain ⟨ro,rc,hI⟩:=hEv.itm
 have c25:=hEv.c25
 have i0:=hI.h0
 obtain ⟨k0,k1,k2,k3,k4,k5⟩:=hI.at_ hp
 rw [hz] at k0 k1 k2 k3 k4 k5
 have bl:=hEv.lt
 have il:=hI.head.lt
 have kl:=hI.body.lt
 obtain ⟨K,hK⟩:∃ K,K=x.kept.length:=⟨_,rfl⟩
 rw [← hK] at i0
 have hp2:(p:Int)<(K:Int):=by omega
 try simp only [EK] at k0 k1 k2 k3 k4 k5
 have HBC:=Hid.m hBC
 have HBR:=Hid.m hBR
 have HBW:=Hid.m hBW
 have HWS:=Hid.m hWs
 replace HS:=Hid.m HS
 unfold Cd.cl at HS ⊢
 rw [hk] at HS ⊢
 unfold Im.v at HS
 clear hE hEv hI hBC hBR hBW hWs hk hK hp hz
 unfold ptr at HS c25 ⊢
 go_enter Tryz.func88,Tryz.ntmps88
 go_upto_region 1 with (fail)
 rw [← hW]
 clear hW
 go_upto_region 2 with (fail)
 clear c25 i0 k0 k1 k2 k3 k4 k5 bl il kl
 obtain ⟨w1,hw1⟩:∃ w1,w1=W.alloc (.cells #[.string z.2.key,.string z.2.value,.int .u32 z.2.flags,.int .i64 z.2.till,.int .u64 z.2.unique] 76):=⟨_,rfl⟩
 obtain ⟨hB1,hX1,hC1,hR1,hn1⟩:=next_box HBW.out HBC.out HBR.out hw1
 have HRL:Hid (w.heap.size+1<w1.heap.size):=by show _<_;have:=HWS.out;omega
 have HB1:=Hid.m hB1
 have HR1:=Hid.m hR1
 have HN1:=Hid.m hn1
 rw [← hw1]
 clear hw1
 obtain ⟨c0,c1,c2,c3,c4,c5,c6,c7⟩:=hC1.c8
 obtain ⟨q0,q1,q2,q3,q4⟩:=hX1.c5
 have cl:=hC1.lt
 have ql:=hX1.lt
 clear hC1 hX1 hR1 hB1 hn1
 go_wp2_with (go_at_call 142;refine (HS.out w1 HB1.out).mono ?_;rintro e w3 ⟨lo,lc,rfl,hG⟩;have HG:=Hid.m hG;clear hG;have hLb:=HG.out.lv;obtain ⟨F3,x3',hL3,rA3,rB3,hA3⟩:=hLb;obtain ⟨hbR,hbU⟩:=hL3.box HR1.out HUR.out;obtain ⟨y0,y1,y2⟩:=hbR.c3;have f0:=hbR.f 0;have f1:=hbR.f 1;have f2:=hbR.f 2;have yl:=hbR.lt;have hX:=(((hbR.set 0 (.int .u8 kd) (by simp)).set 1 (.slice none 0 0) (by simp)).set 2 (.int .u64 nb) (by simp));have ZZ0:=Hid.m (hX.c 0 (by simp));have ZZ1:=Hid.m (hX.c 1 (by simp));have ZZ2:=Hid.m (hX.c 2 (by simp));have HCG:=Hid.m (cgs_write (n:=w1.heap.size) (hL3.from HB1.out) rA3 rB3 HG.out.rd hA3 hbU (show w.heap.size≤w.heap.size+1 by omega) HRL.out 0 [.int .u8 kd,.slice none 0 0,.int .u64 nb]);unfold sets sets sets sets at HCG;simp only [List.getElem_cons_zero,List.getElem_cons_succ,List.set_cons_zero,List.set_cons_succ] at ZZ0 ZZ1 ZZ2;clear hX hbR hbU hL3 rA3 rB3 hA3)
 try simp only [Exit.inBlock,Exit.then]
 refine bodyPost_ret (v:=.tuple #[.agg #[.int .u8 kd,.slice none 0 0,.int .u64 nb],.slice lo CH.length lc]) (by simp [results,Tryz.results88,go_sem,ZZ0.out,ZZ1.out,ZZ2.out]) rfl ⟨lo,lc,rfl,HCG.out⟩
set_option maxHeartbeats 4000000 in
theorem there_9 {N M:Nat}{A:Ad}{s s':Sh}{x:Ra}{F:Cp→Nat→Prop}{w:World}(hE:Eg N w A x F)(d:Cd)(hk:d.c.kind=9){p:Nat}{z:Int × Im}(hp:p<x.kept.length)(hz:x.kept[p]=z){kd nb:Int}{CH:List Ch}
  (HS:∀ W0,Below w.heap.size w W0→Calls Tryz.prog 143 #[ptr A.b,.agg d.cl.toArray,.int .i64 p] W0 fun e w'=>∃ lo lc,e=.returned (.tuple #[.agg #[.int .u8 kd,.slice none 0 0,.int .u64 nb],.slice lo CH.length lc])∧Cgs M A s' F W0 w' lo CH lc):
  Calls Tryz.prog 88 #[ptr A.b,.agg d.cl.toArray,.int .i64 p] w fun e w'=>∃ lo lc,e=.returned (.tuple #[.agg #[.int .u8 kd,.slice none 0 0,.int .u64 nb],.slice lo CH.length lc])∧Cgs M A s' F w w' lo CH lc:=by
 obtain ⟨W,hW⟩:∃ W,W=(w.alloc (.cells #[.int .u8 9,.int .i64 d.c.tenant,.slice d.so d.c.keys.length d.sc,.string d.c.value,.int .u32 d.c.flags,.int .i64 d.c.life,.int .u64 d.c.unique,.int .u64 d.c.by_] 37)).alloc (.cells #[.int .u8 0,.slice none 0 0,.int .u64 0] 30):=⟨_,rfl⟩
 obtain ⟨hBW,hWs,hBC,hBR⟩:=two_boxes hW
 have HUR:Hid (¬ Un F (w.heap.size+1)):=fun hu=>by have:=hE.un _ hu;omega
 obtain ⟨V,hEv⟩:=hE.below hBW
 obtain ⟨ro,rc,hI⟩:=hEv.itm
 have c25:=hEv.c25
 have i0:=hI.h0
 obtain ⟨k0,k1,k2,k3,k4,k5⟩:=hI.at_ hp
 rw [hz] at k0 k1 k2 k3 k4 k5
 have bl:=hEv.lt
 have il:=hI.head.lt
 have kl:=hI.body.lt
 obtain ⟨K,hK⟩:∃ K,K=x.kept.length:=⟨_,rfl⟩
 rw [← hK] at i0
 have hp2:(p:Int)<(K:Int):=by omega
 try simp only [EK] at k0 k1 k2 k3 k4 k5
 have HBC:=Hid.m hBC
 have HBR:=Hid.m hBR
 have HBW:=Hid.m hBW
 have HWS:=Hid.m hWs
 replace HS:=Hid.m HS
 unfold Cd.cl at HS ⊢
 rw [hk] at HS ⊢
 clear hE hEv hI hBC hBR hBW hWs hk hK hp hz
 unfold ptr at HS c25 ⊢
 go_enter Tryz.func88,Tryz.ntmps88
 go_upto_region 1 with (fail)
 rw [← hW]
 clear hW
 go_upto_region 2 with (fail)
 clear c25 i0 k0 k1 k2 k3 k4 k5 bl il kl
 obtain ⟨w1,hw1⟩:∃ w1,w1=W.alloc (.cells #[.string z.2.key,.string z.2.value,.int .u32 z.2.flags,.int .i64 z.2.till,.int .u64 z.2.unique] 76):=⟨_,rfl⟩
 obtain ⟨hB1,hX1,hC1,hR1,hn1⟩:=next_box HBW.out HBC.out HBR.out hw1
 have HRL:Hid (w.heap.size+1<w1.heap.size):=by show _<_;have:=HWS.out;omega
 have HB1:=Hid.m hB1
 have HR1:=Hid.m hR1
 have HN1:=Hid.m hn1
 rw [← hw1]
 clear hw1
 obtain ⟨c0,c1,c2,c3,c4,c5,c6,c7⟩:=hC1.c8
 obtain ⟨q0,q1,q2,q3,q4⟩:=hX1.c5
 have cl:=hC1.lt
 have ql:=hX1.lt
 clear hC1 hX1 hR1 hB1 hn1
 go_wp2_with (go_at_call 143;refine (HS.out w1 HB1.out).mono ?_;rintro e w3 ⟨lo,lc,rfl,hG⟩;have HG:=Hid.m hG;clear hG;have hLb:=HG.out.lv;obtain ⟨F3,x3',hL3,rA3,rB3,hA3⟩:=hLb;obtain ⟨hbR,hbU⟩:=hL3.box HR1.out HUR.out;obtain ⟨y0,y1,y2⟩:=hbR.c3;have f0:=hbR.f 0;have f1:=hbR.f 1;have f2:=hbR.f 2;have yl:=hbR.lt;have hX:=(((hbR.set 0 (.int .u8 kd) (by simp)).set 1 (.slice none 0 0) (by simp)).set 2 (.int .u64 nb) (by simp));have ZZ0:=Hid.m (hX.c 0 (by simp));have ZZ1:=Hid.m (hX.c 1 (by simp));have ZZ2:=Hid.m (hX.c 2 (by simp));have HCG:=Hid.m (cgs_write (n:=w1.heap.size) (hL3.from HB1.out) rA3 rB3 HG.out.rd hA3 hbU (show w.heap.size≤w.heap.size+1 by omega) HRL.out 0 [.int .u8 kd,.slice none 0 0,.int .u64 nb]);unfold sets sets sets sets at HCG;simp only [List.getElem_cons_zero,List.getElem_cons_succ,List.set_cons_zero,List.set_cons_succ] at ZZ0 ZZ1 ZZ2;clear hX hbR hbU hL3 rA3 rB3 hA3)
 try simp only [Exit.inBlock,Exit.then]
 refine bodyPost_ret (v:=.tuple #[.agg #[.int .u8 kd,.slice none 0 0,.int .u64 nb],.slice lo CH.length lc]) (by simp [results,Tryz.results88,go_sem,ZZ0.out,ZZ1.out,ZZ2.out]) rfl ⟨lo,lc,rfl,HCG.out⟩
set_option maxHeartbeats 4000000 in
theorem there_3 {N M:Nat}{A:Ad}{s s':Sh}{x:Ra}{F:Cp→Nat→Prop}{w:World}(hE:Eg N w A x F)(RA:RepA x s)(RB:RepB x s)(d:Cd)(hk:d.c.kind=3){p:Nat}{z:Int × Im}(hp:p<x.kept.length)(hz:x.kept[p]=z){kd nb:Int}{CH:List Ch}:
  Calls Tryz.prog 88 #[ptr A.b,.agg d.cl.toArray,.int .i64 p] w fun e w'=>∃ lo lc,e=.returned (.tuple #[.agg #[.int .u8 3,.slice none 0 0,.int .u64 0],.slice lo 0 lc])∧Cgs N A s F w w' lo [] lc:=by
 obtain ⟨W,hW⟩:∃ W,W=(w.alloc (.cells #[.int .u8 3,.int .i64 d.c.tenant,.slice d.so d.c.keys.length d.sc,.string d.c.value,.int .u32 d.c.flags,.int .i64 d.c.life,.int .u64 d.c.unique,.int .u64 d.c.by_] 37)).alloc (.cells #[.int .u8 0,.slice none 0 0,.int .u64 0] 30):=⟨_,rfl⟩
 obtain ⟨hBW,hWs,hBC,hBR⟩:=two_boxes hW
 have HUR:Hid (¬ Un F (w.heap.size+1)):=fun hu=>by have:=hE.un _ hu;omega
 obtain ⟨V,hEv⟩:=hE.below hBW
 obtain ⟨ro,rc,hI⟩:=hEv.itm
 have c25:=hEv.c25
 have i0:=hI.h0
 obtain ⟨k0,k1,k2,k3,k4,k5⟩:=hI.at_ hp
 rw [hz] at k0 k1 k2 k3 k4 k5
 have bl:=hEv.lt
 have il:=hI.head.lt
 have kl:=hI.body.lt
 obtain ⟨K,hK⟩:∃ K,K=x.kept.length:=⟨_,rfl⟩
 rw [← hK] at i0
 have hp2:(p:Int)<(K:Int):=by omega
 try simp only [EK] at k0 k1 k2 k3 k4 k5
 have HBC:=Hid.m hBC
 have HBR:=Hid.m hBR
 have HBW:=Hid.m hBW
 have HWS:=Hid.m hWs
 have HCG:Hid (∀ W1,Below w.heap.size w W1→W.heap.size≤W1.heap.size→Cgs N A s F w (((W1.setCell ⟨w.heap.size+1,0,none⟩ (.int .u8 3)).setCell ⟨w.heap.size+1,1,none⟩ (.slice none 0 0)).setCell ⟨w.heap.size+1,2,none⟩ (.int .u64 0)) none [] 0):=fun W1 hb hn=>by
  have:=cgs_write (n:=W.heap.size) (hE.lv hb) RA RB (GRd.nil W1) (fun a ha=>by cases ha) HUR.out (show w.heap.size≤w.heap.size+1 by omega) (by omega) 0 [.int .u8 3,.slice none 0 0,.int .u64 0]
  unfold sets sets sets sets at this
  exact this
 unfold Cd.cl
 rw [hk]
 clear hE hEv hI hBC hBR hBW hWs hk hK hp hz RA RB
 unfold ptr at c25 ⊢
 go_enter Tryz.func88,Tryz.ntmps88
 go_upto_region 1 with (fail)
 rw [← hW]
 clear hW
 go_upto_region 2 with (fail)
 clear c25 i0 k0 k1 k2 k3 k4 k5 bl il kl
 obtain ⟨w1,hw1⟩:∃ w1,w1=W.alloc (.cells #[.string z.2.key,.string z.2.value,.int .u32 z.2.flags,.int .i64 z.2.till,.int .u64 z.2.unique] 76):=⟨_,rfl⟩
 obtain ⟨hB1,hX1,hC1,hR1,hn1⟩:=next_box HBW.out HBC.out HBR.out hw1
 have HRL:Hid (w.heap.size+1<w1.heap.size):=by show _<_;have:=HWS.out;omega
 have HB1:=Hid.m hB1
 have HR1:=Hid.m hR1
 have HN1:=Hid.m hn1
 rw [← hw1]
 clear hw1
 obtain ⟨c0,c1,c2,c3,c4,c5,c6,c7⟩:=hC1.c8
 obtain ⟨q0,q1,q2,q3,q4⟩:=hX1.c5
 have cl:=hC1.lt
 have ql:=hX1.lt
 obtain ⟨y0,y1,y2⟩:=hR1.c3
 have f0:=hR1.f 0
 have f1:=hR1.f 1
 have f2:=hR1.f 2
 have yl:=hR1.lt
 have hX:=(((hR1.set 0 (.int .u8 3) (by simp)).set 1 (.slice none 0 0) (by simp)).set 2 (.int .u64 0) (by simp))
 have ZZ0:=Hid.m (hX.c 0 (by simp))
 have ZZ1:=Hid.m (hX.c 1 (by simp))
 have ZZ2:=Hid.m (hX.c 2 (by simp))
 simp only [List.getElem_cons_zero,List.getElem_cons_succ,List.set_cons_zero,List.set_cons_succ] at ZZ0 ZZ1 ZZ2
 have HC2:=Hid.m (HCG.out w1 HB1.out HN1.out)
 clear hX hC1 hX1 hR1 hB1 hn1 HCG
 go_wp2
 try simp only [Exit.inBlock,Exit.then]
 refine bodyPost_ret (v:=.tuple #[.agg #[.int .u8 3,.slice none 0 0,.int .u64 0],.slice none 0 0]) (by simp [results,Tryz.results88,go_sem,ZZ0.out,ZZ1.out,ZZ2.out]) rfl ⟨none,0,rfl,HC2.out⟩
set_option maxHeartbeats 4000000 in
theorem there_5n {N M:Nat}{A:Ad}{s s':Sh}{x:Ra}{F:Cp→Nat→Prop}{w:World}(hE:Eg N w A x F)(RA:RepA x s)(RB:RepB x s)(d:Cd)(hk:d.c.kind=5){p:Nat}{z:Int × Im}(hp:p<x.kept.length)(hz:x.kept[p]=z)(hu:¬ z.2.unique=d.c.unique){kd nb:Int}{CH:List Ch}:
  Calls Tryz.prog 88 #[ptr A.b,.agg d.cl.toArray,.int .i64 p] w fun e w'=>∃ lo lc,e=.returned (.tuple #[.agg #[.int .u8 3,.slice none 0 0,.int .u64 0],.slice lo 0 lc])∧Cgs N A s F w w' lo [] lc:=by
 obtain ⟨W,hW⟩:∃ W,W=(w.alloc (.cells #[.int .u8 5,.int .i64 d.c.tenant,.slice d.so d.c.keys.length d.sc,.string d.c.value,.int .u32 d.c.flags,.int .i64 d.c.life,.int .u64 d.c.unique,.int .u64 d.c.by_] 37)).alloc (.cells #[.int .u8 0,.slice none 0 0,.int .u64 0] 30):=⟨_,rfl⟩
 obtain ⟨hBW,hWs,hBC,hBR⟩:=two_boxes hW
 have HUR:Hid (¬ Un F (w.heap.size+1)):=fun hu=>by have:=hE.un _ hu;omega
 obtain ⟨V,hEv⟩:=hE.below hBW
 obtain ⟨ro,rc,hI⟩:=hEv.itm
 have c25:=hEv.c25
 have i0:=hI.h0
 obtain ⟨k0,k1,k2,k3,k4,k5⟩:=hI.at_ hp
 rw [hz] at k0 k1 k2 k3 k4 k5
 have bl:=hEv.lt
 have il:=hI.head.lt
 have kl:=hI.body.lt
 obtain ⟨K,hK⟩:∃ K,K=x.kept.length:=⟨_,rfl⟩
 rw [← hK] at i0
 have hp2:(p:Int)<(K:Int):=by omega
 try simp only [EK] at k0 k1 k2 k3 k4 k5
 have HBC:=Hid.m hBC
 have HBR:=Hid.m hBR
 have HBW:=Hid.m hBW
 have HWS:=Hid.m hWs
 have HCG:Hid (∀ W1,Below w.heap.size w W1→W.heap.size≤W1.heap.size→Cgs N A s F w (((W1.setCell ⟨w.heap.size+1,0,none⟩ (.int .u8 3)).setCell ⟨w.heap.size+1,1,none⟩ (.slice none 0 0)).setCell ⟨w.heap.size+1,2,none⟩ (.int .u64 0)) none [] 0):=fun W1 hb hn=>by
  have:=cgs_write (n:=W.heap.size) (hE.lv hb) RA RB (GRd.nil W1) (fun a ha=>by cases ha) HUR.out (show w.heap.size≤w.heap.size+1 by omega) (by omega) 0 [.int .u8 3,.slice none 0 0,.int .u64 0]
  unfold sets sets sets sets at this
  exact this
 unfold Cd.cl
 rw [hk]
 replace hu:=Hid.m hu
 clear hE hEv hI hBC hBR hBW hWs hk hK hp hz RA RB
 unfold ptr at c25 ⊢
 go_enter Tryz.func88,Tryz.ntmps88
 go_upto_region 1 with (fail)
 rw [← hW]
 clear hW
 go_upto_region 2 with (fail)
 clear c25 i0 k0 k1 k2 k3 k4 k5 bl il kl
 obtain ⟨w1,hw1⟩:∃ w1,w1=W.alloc (.cells #[.string z.2.key,.string z.2.value,.int .u32 z.2.flags,.int .i64 z.2.till,.int .u64 z.2.unique] 76):=⟨_,rfl⟩
 obtain ⟨hB1,hX1,hC1,hR1,hn1⟩:=next_box HBW.out HBC.out HBR.out hw1
 have HRL:Hid (w.heap.size+1<w1.heap.size):=by show _<_;have:=HWS.out;omega
 have HB1:=Hid.m hB1
 have HR1:=Hid.m hR1
 have HN1:=Hid.m hn1
 rw [← hw1]
 clear hw1
 obtain ⟨c0,c1,c2,c3,c4,c5,c6,c7⟩:=hC1.c8
 obtain ⟨q0,q1,q2,q3,q4⟩:=hX1.c5
 have cl:=hC1.lt
 have ql:=hX1.lt
 have hu2:=hu.out
 obtain ⟨y0,y1,y2⟩:=hR1.c3
 have f0:=hR1.f 0
 have f1:=hR1.f 1
 have f2:=hR1.f 2
 have yl:=hR1.lt
 have hX:=(((hR1.set 0 (.int .u8 3) (by simp)).set 1 (.slice none 0 0) (by simp)).set 2 (.int .u64 0) (by simp))
 have ZZ0:=Hid.m (hX.c 0 (by simp))
 have ZZ1:=Hid.m (hX.c 1 (by simp))
 have ZZ2:=Hid.m (hX.c 2 (by simp))
 simp only [List.getElem_cons_zero,List.getElem_cons_succ,List.set_cons_zero,List.set_cons_succ] at ZZ0 ZZ1 ZZ2
 have HC2:=Hid.m (HCG.out w1 HB1.out HN1.out)
 clear hX hC1 hX1 hR1 hB1 hn1 HCG
 go_wp2
 try simp only [Exit.inBlock,Exit.then]
 refine bodyPost_ret (v:=.tuple #[.agg #[.int .u8 3,.slice none 0 0,.int .u64 0],.slice none 0 0]) (by simp [results,Tryz.results88,go_sem,ZZ0.out,ZZ1.out,ZZ2.out]) rfl ⟨none,0,rfl,HC2.out⟩
end Go.Proofs.YtcdpiefflnaghaaGreatDoor.En
namespace Go.Proofs.YtcdpiefflnaghaaGreatDoor.En
open Go.Proofs.YtcdpiefflnaghaaGreatDoor.It
open Go.Proofs.YtcdpiefflnaghaaGreatDoor.Lr
open Go.Proofs.YtcdpiefflnaghaaGreatDoor.Qt
open Go.Proofs.YtcdpiefflnaghaaGreatDoor.Sb
open Go.RowKit Go.Proofs.YtcdpiefflnaghaaGreatDoor
variable {N M:Nat} {A:Ad} {s:Sh} {x:Ra} {F:Cp→Nat→Prop} {w:World}
structure Key1 (s:Sh)(w:World)(F:Cp→Nat→Prop)(d:Cd)(t:Nat)(k0:ByteArray)(ks:List ByteArray):Prop where
 tn:d.c.tenant=(t:Int)
 ht:t<s.quotas.length
 hk:d.c.keys=k0::ks
 rd:GRd ES w d.so d.c.keys d.sc
 off:Off (Un F) d.so
 life:0≤d.c.life∧d.c.life≤1099511627776
 by_:0≤d.c.by_∧d.c.by_≤18446744073709551615
 val:d.c.value.size≤2000
 calm:Calm It.Tab w (Un F)
theorem Key1.below {d:Cd}{t:Nat}{k0:ByteArray}{ks:List ByteArray}{W:World}(h:Key1 s w F d t k0 ks)(hb:Below w.heap.size w W):Key1 s W F d t k0 ks:=
 ⟨h.tn,h.ht,h.hk,h.rd.below hb,h.off,h.life,h.by_,h.val,h.calm.on (Kpt.of hb) fun _ hk=>.inl hk⟩
theorem Cgs.mono {N':Nat}{s':Sh}{w':World}{lo:Option Addr}{C:List Ch}{lc:Nat}(h:Cgs N A s' F w w' lo C lc)(hN:N≤N'):Cgs N' A s' F w w' lo C lc:=by
 obtain ⟨F',x',h1,h2,h3,h4⟩:=h.lv
 exact ⟨h.rd,F',x',h1.mono hN,h2,h3,h4⟩
theorem one_none {c:Cm}{k0:ByteArray}{ks:List ByteArray}(hk:c.keys=k0::ks)(hat:s.at c.tenant k0=none):s.one c=if 4≤c.kind then (s,⟨2,[],0⟩,[]) else s.putR c.tenant ⟨k0,c.value,c.flags,aftI s.now c.life,0⟩ 0:=by
 have hh:c.keys.headD ⟨#[]⟩=k0:=by rw [hk];rfl
 unfold Sh.one
 rw [hh,hat]
 rfl
theorem one_some {c:Cm}{k0:ByteArray}{ks:List ByteArray}(hk:c.keys=k0::ks){i:Nat}(hat:s.at c.tenant k0=some i)(hi:i<s.held.length):s.one c =
  if c.kind=3 then (s,⟨3,[],0⟩,[])
  else if c.kind=5∧s.held[i].item.unique≠c.unique then (s,⟨3,[],0⟩,[])
  else if c.kind=9 then (s.retimeH i s.held[i] (aftI s.now c.life),⟨1,[],0⟩,[.put s.held[i].tenant (s.held[i].item.at_ (aftI s.now c.life))])
  else if c.kind=6∨c.kind=7 then
   match cntO s.held[i].item.value c.by_ (decide (c.kind=7)) with
   | none=>(s,⟨6,[],0⟩,[])
   | some (text,n)=>s.putR c.tenant ⟨s.held[i].item.key,text,s.held[i].item.flags,s.held[i].item.till,0⟩ n
  else if c.kind=8 then
   match jnO s.held[i].item.value c.value with
   | none=>(s,⟨4,[],0⟩,[])
   | some text=>s.putR c.tenant ⟨s.held[i].item.key,text,s.held[i].item.flags,s.held[i].item.till,0⟩ 0
  else s.putR c.tenant ⟨k0,c.value,c.flags,aftI s.now c.life,0⟩ 0:=by
 have hh:c.keys.headD ⟨#[]⟩=k0:=by rw [hk];rfl
 unfold Sh.one
 rw [hh,hat]
 simp only [Option.bind_some,List.getElem?_eq_getElem hi,Option.map_some]
 rfl
theorem set_out (I:Inv s)(hE:Eg N w A x F)(RA:RepA x s)(RB:RepB x s){d:Cd}{t:Nat}{k0:ByteArray}{ks:List ByteArray}(H:Key1 s w F d t k0 ks)(hN:N<100000000){r:Sh × Rs × List Ch}(hr:r=s.putR d.c.tenant ⟨k0,d.c.value,d.c.flags,aftI s.now d.c.life,0⟩ 0)(W0:World)(hb:Below w.heap.size w W0):
  Calls Tryz.prog 140 #[ptr A.b,.agg d.cl.toArray] W0 fun e w'=>∃ lo lc,e=.returned (.tuple #[.agg #[.int .u8 r.2.1.kind,.slice none 0 0,.int .u64 r.2.1.number],.slice lo r.2.2.length lc])∧Cgs (N+2) A r.1 F W0 w' lo r.2.2 lc:=by
 have H0:=H.below hb
 have h0:(if (s.put (t:Int) ⟨k0,d.c.value,d.c.flags,aftI s.now d.c.life,0⟩).2.1=1 then (0:Int) else 0)=0:=by split <;> rfl
 rw [hr,H.tn]
 unfold Sh.putR
 dsimp only
 rw [h0]
 exact set_m I (hE.below hb) RA RB d H0.tn H0.ht H0.hk H0.rd H0.off H0.life hN
theorem missing_m (I:Inv s)(hE:Eg N w A x F)(RA:RepA x s)(RB:RepB x s){d:Cd}{t:Nat}{k0:ByteArray}{ks:List ByteArray}(H:Key1 s w F d t k0 ks)(hN:N<100000000)(hat:s.at d.c.tenant k0=none)(hkd:2≤d.c.kind):
  Calls Tryz.prog 87 #[ptr A.b,.agg d.cl.toArray] w fun e w'=>∃ lo lc,e=.returned (.tuple #[.agg #[.int .u8 (s.one d.c).2.1.kind,.slice none 0 0,.int .u64 (s.one d.c).2.1.number],.slice lo (s.one d.c).2.2.length lc])∧Cgs (N+2) A (s.one d.c).1 F w w' lo (s.one d.c).2.2 lc:=by
 have e:=one_none H.hk hat
 by_cases h4:4≤d.c.kind
 ·rw [if_pos h4] at e
  rw [e]
  refine (missing_n (M:=0) hE RA RB d (by omega) (by omega)).mono ?_
  rintro e w' ⟨lo,lc,rfl,h⟩
  exact ⟨lo,lc,rfl,h.mono (by omega)⟩
 ·rw [if_neg h4] at e
  have h23:d.c.kind=2∨d.c.kind=3:=by omega
  rcases h23 with hk | hk
  ·exact missing_2 hE d hk (set_out I hE RA RB H hN e)
  ·exact missing_3 hE d hk (set_out I hE RA RB H hN e)
theorem there_m (I:Inv s)(hE:Eg N w A x F)(RA:RepA x s)(RB:RepB x s){d:Cd}{t:Nat}{k0:ByteArray}{ks:List ByteArray}(H:Key1 s w F d t k0 ks)(hN:N<100000000){i:Nat}(hat:s.at d.c.tenant k0=some i)(hi:i<s.held.length)(hkd:2≤d.c.kind∧d.c.kind≤9):
  Calls Tryz.prog 88 #[ptr A.b,.agg d.cl.toArray,.int .i64 s.held[i].pl] w fun e w'=>∃ lo lc,e=.returned (.tuple #[.agg #[.int .u8 (s.one d.c).2.1.kind,.slice none 0 0,.int .u64 (s.one d.c).2.1.number],.slice lo (s.one d.c).2.2.length lc])∧Cgs (N+2) A (s.one d.c).1 F w w' lo (s.one d.c).2.2 lc:=by
 have e:=one_some H.hk hat hi
 have hm:=List.getElem_mem hi
 obtain ⟨hpk,hpz⟩:=List.getElem?_eq_some_iff.1 (RB.kept _ hm)
 have hdu:=I.due _ hm
 have hv:s.held[i].item.value.size≤512:=by
  have h1:=I.item _ hm
  simp only [okI,Bool.and_eq_true,decide_eq_true_eq] at h1
  exact (by first | exact h1.1.2.2 | exact h1.1.1.2.2 | exact (of_decide_eq_true (Bool.and_eq_true _ _ ▸ I.item _ hm).1).2.2)
 have hcs:d.c.kind=2∨d.c.kind=3∨d.c.kind=4∨d.c.kind=5∨d.c.kind=6∨d.c.kind=7∨d.c.kind=8∨d.c.kind=9:=by omega
 rcases hcs with hk | hk | hk | hk | hk | hk | hk | hk
 ·rw [if_neg (by omega),if_neg (by omega),if_neg (by omega),if_neg (by omega),if_neg (by omega)] at e
  exact there_2 (s:=s) hE d hk hpk hpz (set_out I hE RA RB H hN e)
 ·rw [if_pos hk] at e
  rw [e]
  refine (there_3 (M:=0) (s':=s) (kd:=0) (nb:=0) (CH:=[]) hE RA RB d hk hpk hpz).mono ?_
  rintro e w' ⟨lo,lc,rfl,h⟩
  exact ⟨lo,lc,rfl,h.mono (by omega)⟩
 ·rw [if_neg (by omega),if_neg (by omega),if_neg (by omega),if_neg (by omega),if_neg (by omega)] at e
  exact there_4 (s:=s) hE d hk hpk hpz (set_out I hE RA RB H hN e)
 ·by_cases hu:s.held[i].item.unique=d.c.unique
  ·rw [if_neg (by omega),if_neg (fun h=>h.2 hu),if_neg (by omega),if_neg (by omega),if_neg (by omega)] at e
   exact there_5 (s:=s) hE d hk hpk hpz hu (set_out I hE RA RB H hN e)
  ·rw [if_neg (by omega),if_pos ⟨hk,hu⟩] at e
   rw [e]
   refine (there_5n (M:=0) (s':=s) (kd:=0) (nb:=0) (CH:=[]) hE RA RB d hk hpk hpz hu).mono ?_
   rintro e w' ⟨lo,lc,rfl,h⟩
   exact ⟨lo,lc,rfl,h.mono (by omega)⟩
 ·rw [if_neg (by omega),if_neg (by omega),if_neg (by omega),if_pos (.inl hk),H.tn] at e
  exact there_6 (s:=s) hE d hk hpk hpz fun W0 hb=>count_m I (hE.below hb) RA RB d H.tn H.ht hdu H.by_ (H.below hb).calm hN e
 ·rw [if_neg (by omega),if_neg (by omega),if_neg (by omega),if_pos (.inr hk),H.tn] at e
  exact there_7 (s:=s) hE d hk hpk hpz fun W0 hb=>count_m I (hE.below hb) RA RB d H.tn H.ht hdu H.by_ (H.below hb).calm hN e
 ·rw [if_neg (by omega),if_neg (by omega),if_neg (by omega),if_neg (by omega),if_pos hk,H.tn] at e
  exact there_8 (s:=s) hE d hk hpk hpz fun W0 hb=>extend_m I (hE.below hb) RA RB d H.tn H.ht hdu (by omega) H.val hN e
 ·rw [if_neg (by omega),if_neg (by omega),if_pos hk] at e
  rw [e]
  exact there_9 (s:=s) hE d hk hpk hpz fun W0 hb=>touch_m I (hE.below hb) RA RB d H.life hi hN
end Go.Proofs.YtcdpiefflnaghaaGreatDoor.En
namespace Go.Proofs.YtcdpiefflnaghaaGreatDoor.En
open Go.Proofs.YtcdpiefflnaghaaGreatDoor.It
open Go.Proofs.YtcdpiefflnaghaaGreatDoor.Lr
open Go.Proofs.YtcdpiefflnaghaaGreatDoor.Qt
open Go.Proofs.YtcdpiefflnaghaaGreatDoor.Sb
open Go.RowKit Go.Proofs.YtcdpiefflnaghaaGreatDoor
variable {N M:Nat} {A:Ad} {s:Sh} {x:Ra} {F:Cp→Nat→Prop} {w:World}
def Mv (N:Nat)(A:Ad)(s':Sh)(F:Cp→Nat→Prop)(w w':World)(F':Cp→Nat→Prop):Prop:=∃ x',Lv N A x' F w w' F'∧RepA x' s'∧RepB x' s'
theorem Mv.trans {s1 s2:Sh}{w1 w2:World}{F1 F2:Cp→Nat→Prop}(h:Mv N A s1 F w w1 F1)(g:Mv N A s2 F1 w1 w2 F2):Mv N A s2 F w w2 F2:=by
 obtain ⟨x1,h1,_,_⟩:=h
 obtain ⟨x2,h2,a2,b2⟩:=g
 exact ⟨x2,h1.trans h2,a2,b2⟩
theorem Mv.below {s1:Sh}{w1 w2:World}{F1:Cp→Nat→Prop}(h:Mv N A s1 F w w1 F1)(hb:Below w1.heap.size w1 w2):Mv N A s1 F w w2 F1:=by
 obtain ⟨x1,h1,a,b⟩:=h
 exact ⟨x1,h1.below hb,a,b⟩
theorem Mv.from {s1:Sh}{w1 W:World}{F1:Cp→Nat→Prop}(h:Mv N A s1 F W w1 F1)(hb:Below w.heap.size w W):Mv N A s1 F w w1 F1:=by
 obtain ⟨x1,h1,a,b⟩:=h
 exact ⟨x1,h1.from hb,a,b⟩
theorem Mv.size {s1:Sh}{w1:World}{F1:Cp→Nat→Prop}(h:Mv N A s1 F w w1 F1):w.heap.size≤w1.heap.size:=by
 obtain ⟨x1,h1,a,b⟩:=h
 exact h1.kpt.size
theorem Mv.box {s1:Sh}{w1:World}{F1:Cp→Nat→Prop}{b:Nat}{vs:List Value}(h:Mv N A s1 F w w1 F1)(hb:GBx w b vs)(hn:¬ Un F b):GBx w1 b vs∧¬ Un F1 b:=by
 obtain ⟨x1,h1,_,_⟩:=h
 exact h1.box hb hn
theorem Mv.own {α:Type}{E:GEl α}{s1:Sh}{w1:World}{F1:Cp→Nat→Prop}{base:Nat}{v:Value}{l:List α}(h:Mv N A s1 F w w1 F1)(ho:GOwn E w base v l)(hn:∀ k,v.ownBlock=some k→¬ Un F k):GOwn E w1 base v l∧∀ k,v.ownBlock=some k→¬ Un F1 k:=by
 obtain ⟨x1,h1,_,_⟩:=h
 exact h1.own ho hn
theorem Mv.rd {α:Type}{E:GEl α}{s1:Sh}{w1:World}{F1:Cp→Nat→Prop}{ao:Option Addr}{cap:Nat}{l:List α}(h:Mv N A s1 F w w1 F1)(ho:GRd E w ao l cap)(hn:∀ a,ao=some a→¬ Un F a.block∧a.block<w.heap.size):GRd E w1 ao l cap∧∀ a,ao=some a→¬ Un F1 a.block∧a.block<w1.heap.size:=by
 obtain ⟨x1,h1,_,_⟩:=h
 exact h1.rd ho hn
theorem Mv.grew {s1:Sh}{w1 w2:World}{F1:Cp→Nat→Prop}{v v':Value}(h:Mv N A s1 F w w1 F1)(hg:GGrew w1 w2 v v')(hn:∀ k,v.ownBlock=some k→¬ Un F1 k)(hv:∀ k,v.ownBlock=some k→w.heap.size≤k):Mv N A s1 F w w2 F1∧∀ k,v'.ownBlock=some k→¬ Un F1 k:=by
 obtain ⟨x1,h1,a,b⟩:=h
 refine ⟨⟨x1,?_,a,b⟩,fun k hk=>?_⟩
 ·have hg2:=hg.grown
  refine ⟨?_,?_,h1.sub⟩
  ·obtain ⟨V,hV⟩:=h1.eg
   exact ⟨V,Parts.same hV hg2.size fun k hk=>hg2.block k (Parts.lt hV k hk) fun e=>hn k e.symm hk⟩
  ·refine ⟨hg2.os.trans h1.kpt.os,hg2.tape.trans h1.kpt.tape,hg2.output.trans h1.kpt.output,Nat.le_trans h1.kpt.size hg2.size,fun k hk hm=>?_⟩
   rw [hg2.block k (Nat.lt_of_lt_of_le hk h1.kpt.size) (fun e=>by have:=hv k e.symm;omega)]
   exact h1.kpt.block k hk hm
 ·rcases hg.lies k hk with e | e
  ·exact hn k e
  ·intro hu
   have:=h1.eg.un k hu
   omega
theorem leave_m (I:Inv s)(hE:Eg N w A x F)(RA:RepA x s)(RB:RepB x s){i:Nat}(hi:i<s.held.length):
  Calls Tryz.prog 51 #[ptr A.b,.int .i64 s.held[i].pl] w fun e w'=>e=.returned (.agg #[.int .i64 s.held[i].tenant,.string s.held[i].item.key])∧∃ F',Mv N A (s.leave i) F w w' F':=by
 have hm:=List.getElem_mem hi
 refine (leave_any hE (lvs_of I I RA RB hm hm)).mono ?_
 rintro e w' ⟨rfl,F',hL⟩
 refine ⟨rfl,F',_,hL,?_,?_⟩
 ·rw [leave_eq hi]
  exact (RA.release I hi).forget _ _
 ·rw [leave_eq hi]
  exact (RB.release _ _ _).forget I hi
theorem find_some (I:Inv s)(hE:Eg N w A x F)(RA:RepA x s)(RB:RepB x s){t:Int}{k:ByteArray}(hn:okN (t,k)){i:Nat}(hat:s.at t k=some i)(hi:i<s.held.length):
  Calls Tryz.prog 50 #[ptr A.b,.agg #[.int .i64 t,.string k]] w fun e w'=>e=.returned (.tuple #[.int .i64 s.held[i].pl,.bool true])∧∃ F',Mv N A s F w w' F':=by
 obtain ⟨hi2,hlk⟩:=lk_some I RB hat
 have hlen:=RB.lens I
 refine (find_any hE hn (by omega)).mono ?_
 rintro e w' ⟨rfl,F',hL⟩
 rw [hlk]
 exact ⟨rfl,F',x,hL,RA,RB⟩
theorem find_none (I:Inv s)(hE:Eg N w A x F)(RA:RepA x s)(RB:RepB x s){t:Int}{k:ByteArray}(hn:okN (t,k))(hat:s.at t k=none):
  Calls Tryz.prog 50 #[ptr A.b,.agg #[.int .i64 t,.string k]] w fun e w'=>e=.returned (.tuple #[.int .i64 0,.bool false])∧∃ F',Mv N A s F w w' F':=by
 have hlen:=RB.lens I
 refine (find_any hE hn (by omega)).mono ?_
 rintro e w' ⟨rfl,F',hL⟩
 rw [lk_none I RB hat]
 exact ⟨rfl,F',x,hL,RA,RB⟩
theorem hit_m (I:Inv s)(hE:Eg N w A x F)(RA:RepA x s)(RB:RepB x s){i:Nat}(hi:i<s.held.length):
  Calls Tryz.prog 137 #[ptr A.b,.int .i64 s.held[i].pl] w fun e w'=>e=.returned (.tuple #[])∧∃ F',Mv N A (s.hit i) F w w' F':=by
 have hm:=List.getElem_mem hi
 refine (hit_l hE (lvs_of I I RA RB hm hm)).mono ?_
 rintro e w' ⟨rfl,F',hL⟩
 have e1:s.hit i=s.hitH s.held[i]:=by unfold Sh.hit;rw [List.getElem?_eq_getElem hi]
 rw [e1]
 exact ⟨rfl,F',_,hL,RA.hit I hm,RB.hit _ _⟩
theorem dels_snoc (t:Int)(k:ByteArray):∀ (ks:List ByteArray) (s:Sh),s.dels t (ks++[k])=match (s.dels t ks).1.at t k with
  | some i=>((s.dels t ks).1.leave i,(s.dels t ks).2++[.drop t k 1])
  | none=>s.dels t ks
 | [],s=>by
  show Sh.dels s t [k]=_
  unfold Sh.dels
  simp only [Sh.dels]
  cases s.at t k <;> rfl
 | a::ks,s=>by
  show Sh.dels s t (a::(ks++[k]))=_
  unfold Sh.dels
  cases e:s.at t a with
  | none=>simp only;exact dels_snoc t k ks s
  | some i=>
   simp only
   rw [dels_snoc t k ks (s.leave i)]
   cases ((s.leave i).dels t ks).1.at t k <;> rfl
theorem gets_snoc (t:Int)(k:ByteArray):∀ (ks:List ByteArray) (s:Sh),s.gets t (ks++[k])=match (s.gets t ks).1.at t k with
  | some i=>match (s.gets t ks).1.held[i]? with
   | some h=>((s.gets t ks).1.hit i,(s.gets t ks).2++[h.item])
   | none=>s.gets t ks
  | none=>s.gets t ks
 | [],s=>by
  show Sh.gets s t [k]=_
  unfold Sh.gets
  simp only [Sh.gets]
  cases s.at t k with
  | none=>rfl
  | some i=>
   simp only
   cases s.held[i]? <;> rfl
 | a::ks,s=>by
  show Sh.gets s t (a::(ks++[k]))=_
  unfold Sh.gets
  cases e:s.at t a with
  | none=>simp only;exact gets_snoc t k ks s
  | some i=>
   simp only
   cases e2:s.held[i]? with
   | none=>simp only;exact gets_snoc t k ks s
   | some h=>
    simp only
    rw [gets_snoc t k ks (s.hit i)]
    cases ((s.hit i).gets t ks).1.at t k with
    | none=>rfl
    | some j=>
     simp only
     cases ((s.hit i).gets t ks).1.held[j]? <;> rfl
end Go.Proofs.YtcdpiefflnaghaaGreatDoor.En
namespace Go.Proofs.YtcdpiefflnaghaaGreatDoor.En
open Go.Proofs.YtcdpiefflnaghaaGreatDoor.It
open Go.Proofs.YtcdpiefflnaghaaGreatDoor.Lr
open Go.Proofs.YtcdpiefflnaghaaGreatDoor.Qt
open Go.Proofs.YtcdpiefflnaghaaGreatDoor.Sb
open Go.RowKit Go.Proofs.YtcdpiefflnaghaaGreatDoor
structure Lp {α:Type}(E:GEl α)(N:Nat)(A:Ad)(s':Sh)(F:Cp→Nat→Prop)(w:World)(BL:Nat)(no:Option Addr)(names:List (Int × ByteArray))(nc R:Nat)(wr:World)(v:Value)(l:List α)(Fj:Cp→Nat→Prop):Prop where
 mv:Mv N A s' F w wr Fj
 hz:BL≤wr.heap.size
 own:GOwn E wr BL v l
 off:∀ k,v.ownBlock=some k→¬ Un Fj k
 rd:GRd EN wr no names nc
 adr:∀ a,no=some a→¬ Un Fj a.block∧a.block<wr.heap.size
 box:GBx wr R [.int .u8 0,.slice none 0 0,.int .u64 0]∧¬ Un Fj R
variable {α:Type} {E:GEl α} {N:Nat} {A:Ad} {s' s2:Sh} {F:Cp→Nat→Prop} {w:World} {BL:Nat} {no:Option Addr} {names:List (Int × ByteArray)} {nc R:Nat} {wr w2:World} {v v':Value} {l l':List α} {Fj F2:Cp→Nat→Prop}
theorem Lp.below (h:Lp E N A s' F w BL no names nc R wr v l Fj)(hb:Below wr.heap.size wr w2):Lp E N A s' F w BL no names nc R w2 v l Fj:=
 ⟨h.mv.below hb,Nat.le_trans h.hz hb.size,h.own.below hb,h.off,h.rd.below hb,fun a ha=>⟨(h.adr a ha).1,Nat.lt_of_lt_of_le (h.adr a ha).2 hb.size⟩,h.box.1.below hb,h.box.2⟩
theorem Lp.on (h:Lp E N A s' F w BL no names nc R wr v l Fj)(g:Mv N A s2 Fj wr w2 F2):Lp E N A s2 F w BL no names nc R w2 v l F2:=
 ⟨h.mv.trans g,Nat.le_trans h.hz g.size,(g.own h.own h.off).1,(g.own h.own h.off).2,(g.rd h.rd h.adr).1,(g.rd h.rd h.adr).2,g.box h.box.1 h.box.2⟩
theorem Lp.grew (h:Lp E N A s' F w BL no names nc R wr v l Fj)(hw:w.heap.size≤BL)(hR:R<BL)(hn:∀ a,no=some a→a.block<BL)(hg:GGrew wr w2 v v')(ho:GOwn E w2 BL v' l'):Lp E N A s' F w BL no names nc R w2 v' l' Fj:=by
 have hm:=h.mv.grew hg h.off fun k hk=>Nat.le_trans hw (h.own.lt k hk).1
 have hgo:∀ k,k<wr.heap.size→k<BL→w2.heap[k]? = wr.heap[k]?:=fun k hk hl=>hg.grown.block k hk fun e=>by
  have:=(h.own.lt k e.symm).1
  omega
 refine ⟨hm.1,Nat.le_trans h.hz hg.grown.size,ho,hm.2,?_,fun a ha=>⟨(h.adr a ha).1,Nat.lt_of_lt_of_le (h.adr a ha).2 hg.grown.size⟩,?_,h.box.2⟩
 ·exact h.rd.same hg.grown.size fun k hk=>by
   obtain ⟨a,ha,rfl⟩:=hk
   exact hgo _ (h.adr a ha).2 (hn a ha)
 ·exact h.box.1.same hg.grown.size (hgo _ h.box.1.lt hR)
theorem _root_.Go.Proofs.YtcdpiefflnaghaaGreatDoor.GRd.nam {w:World}{ao:Option Addr}{l:List (Int × ByteArray)}{cap:Nat}(h:GRd EN w ao l cap){i:Nat}(hi:i<l.length):∃ b off,ao=some ⟨b,off,none⟩∧b<w.heap.size∧w.cell? ⟨b,off+i * 2,none⟩=some (.int .i64 l[i].1)∧w.cell? ⟨b,off+i * 2+1,none⟩=some (.string l[i].2):=by
 obtain ⟨b,off,e,hb,hc⟩:=h.lies (by intro e;rw [e] at hi;simp at hi)
 have h0:=hc i hi 0 (by decide)
 have h1:=hc i hi 1 (by decide)
 exact ⟨b,off,e,hb,by simpa [EN] using h0,by simpa [EN] using h1⟩
variable {s:Sh} {F1:Cp→Nat→Prop} {w1:World}
theorem find_sm (I:Inv s)(h:Mv N A s F w w1 F1){t:Int}{k:ByteArray}(hn:okN (t,k)){i:Nat}(hat:s.at t k=some i)(hi:i<s.held.length):
  Calls Tryz.prog 50 #[ptr A.b,.agg #[.int .i64 t,.string k]] w1 fun e w'=>e=.returned (.tuple #[.int .i64 s.held[i].pl,.bool true])∧∃ F',Mv N A s F1 w1 w' F':=by
 obtain ⟨x,hL,RA,RB⟩:=h
 exact find_some I hL.eg RA RB hn hat hi
theorem find_nm (I:Inv s)(h:Mv N A s F w w1 F1){t:Int}{k:ByteArray}(hn:okN (t,k))(hat:s.at t k=none):
  Calls Tryz.prog 50 #[ptr A.b,.agg #[.int .i64 t,.string k]] w1 fun e w'=>e=.returned (.tuple #[.int .i64 0,.bool false])∧∃ F',Mv N A s F1 w1 w' F':=by
 obtain ⟨x,hL,RA,RB⟩:=h
 exact find_none I hL.eg RA RB hn hat
theorem leave_mm (I:Inv s)(h:Mv N A s F w w1 F1){i:Nat}(hi:i<s.held.length):
  Calls Tryz.prog 51 #[ptr A.b,.int .i64 s.held[i].pl] w1 fun e w'=>e=.returned (.agg #[.int .i64 s.held[i].tenant,.string s.held[i].item.key])∧∃ F',Mv N A (s.leave i) F1 w1 w' F':=by
 obtain ⟨x,hL,RA,RB⟩:=h
 exact leave_m I hL.eg RA RB hi
theorem hit_mm (I:Inv s)(h:Mv N A s F w w1 F1){i:Nat}(hi:i<s.held.length):
  Calls Tryz.prog 137 #[ptr A.b,.int .i64 s.held[i].pl] w1 fun e w'=>e=.returned (.tuple #[])∧∃ F',Mv N A (s.hit i) F1 w1 w' F':=by
 obtain ⟨x,hL,RA,RB⟩:=h
 exact hit_m I hL.eg RA RB hi
theorem Lp.rows (K:GOk E){lo:Option Addr}{n lc:Nat}(h:Lp E N A s' F w BL no names nc R wr (.slice lo n lc) l Fj):n=l.length∧GRd E wr lo l lc∧∀ a,lo=some a→¬ Un Fj a.block∧BL≤a.block∧a.block<wr.heap.size:=by
 obtain ⟨ao,cap,hv,hr⟩:=h.own.rd K
 cases hv
 exact ⟨rfl,hr,fun a ha=>by subst ha;exact ⟨h.off _ rfl,(h.own.lt _ rfl).1,(h.own.lt _ rfl).2⟩⟩
end Go.Proofs.YtcdpiefflnaghaaGreatDoor.En
