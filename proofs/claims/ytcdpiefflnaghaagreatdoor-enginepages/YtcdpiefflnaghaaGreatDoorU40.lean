/-
  Package engine and what stands beneath it, part 40: contracts of functions, and what they rest on.
-/
import Derived.Test.YtcdpiefflnaghaaGreatDoorU39
set_option linter.unusedSimpArgs false
set_option linter.unusedVariables false
set_option maxRecDepth 100000
namespace Go.Proofs.YtcdpiefflnaghaaGreatDoor.En
open Go.Proofs.YtcdpiefflnaghaaGreatDoor.It
open Go.Proofs.YtcdpiefflnaghaaGreatDoor.Lr
open Go.Proofs.YtcdpiefflnaghaaGreatDoor.Qt
open Go.Proofs.YtcdpiefflnaghaaGreatDoor.Sb
open Go.RowKit Go.Proofs.YtcdpiefflnaghaaGreatDoor
structure Dgs (N:Nat)(A:Ad)(s':Sh)(F:Cp→Nat→Prop)(w w':World)(io:Option Addr)(IT:List Im)(ic:Nat)(lo:Option Addr)(CH:List Ch)(lc:Nat):Prop where
 it:GRd EJ w' io IT ic
 ch:GRd EC w' lo CH lc
 lv:∃ F',Mv N A s' F w w' F'∧(∀ a,io=some a→¬ Un F' a.block∧w.heap.size≤a.block∧a.block<w'.heap.size)∧∀ a,lo=some a→¬ Un F' a.block∧w.heap.size≤a.block∧a.block<w'.heap.size
theorem Mv.trans' {N N':Nat}{A:Ad}{s1 s2:Sh}{F F1 F2:Cp→Nat→Prop}{w w1 w2:World}(h:Mv N A s1 F w w1 F1)(g:Mv N' A s2 F1 w1 w2 F2):Mv N' A s2 F w w2 F2:=by
 obtain ⟨x1,h1,_,_⟩:=h
 obtain ⟨x2,h2,a2,b2⟩:=g
 exact ⟨x2,h1.trans h2,a2,b2⟩
theorem Cgs.mv {N:Nat}{A:Ad}{s':Sh}{F:Cp→Nat→Prop}{w w':World}{lo:Option Addr}{C:List Ch}{lc:Nat}(h:Cgs N A s' F w w' lo C lc):∃ F',Mv N A s' F w w' F'∧∀ a,lo=some a→¬ Un F' a.block∧w.heap.size≤a.block∧a.block<w'.heap.size:=by
 obtain ⟨F',x',h1,h2,h3,h4⟩:=h.lv
 exact ⟨F',⟨x',h1,h2,h3⟩,h4⟩
theorem dgs_write {N:Nat}{A:Ad}{s':Sh}{F F':Cp→Nat→Prop}{w w':World}{io lo:Option Addr}{IT:List Im}{C:List Ch}{ic lc R n:Nat}(hM:Mv N A s' F w w' F')(hI:GRd EJ w' io IT ic)(hR:GRd EC w' lo C lc)(hA:∀ a,io=some a→¬ Un F' a.block∧n≤a.block∧a.block<w'.heap.size)(hB:∀ a,lo=some a→¬ Un F' a.block∧n≤a.block∧a.block<w'.heap.size)(hu:¬ Un F' R)(hb:w.heap.size≤R)(hn:R<n)(j:Nat)(vs:List Value):
  Dgs N A s' F w (sets w' R j vs) io IT ic lo C lc:=by
 obtain ⟨x',hL,RA,RB⟩:=hM
 have hk:=Kpt.grown (sets_grown R vs w' j)
 have hs:=sets_size R vs w' j
 exact ⟨hI.kpt hk fun a ha e=>by have:=(hA a ha).2.1;omega,hR.kpt hk fun a ha e=>by have:=(hB a ha).2.1;omega,F',⟨x',hL.write hu hb j,RA,RB⟩,fun a ha=>⟨(hA a ha).1,by have:=(hA a ha).2.1;omega,by have:=(hA a ha).2.2;omega⟩,fun a ha=>⟨(hB a ha).1,by have:=(hB a ha).2.1;omega,by have:=(hB a ha).2.2;omega⟩⟩
set_option maxHeartbeats 4000000 in
theorem names_get {N M:Nat}{A:Ad}{s s':Sh}{x:Ra}{F:Cp→Nat→Prop}{w:World}(hE:Eg N w A x F)(d:Cd)(hk:d.c.kind=1){no:Option Addr}{nn nc:Nat}{kd nb:Int}{CH:List Ch}{IT:List Im}
  (HS:∀ W0,Below w.heap.size w W0→Calls Tryz.prog 84 #[ptr A.b,.slice no nn nc] W0 fun e w'=>∃ lo lc,e=.returned (.agg #[.int .u8 1,.slice lo IT.length lc,.int .u64 0])∧Rws EJ M A s' F W0 w' lo IT lc):
  Calls Tryz.prog 46 #[ptr A.b,.agg d.cl.toArray,.slice no nn nc] w fun e w'=>∃ io ic lo lc,e=.returned (.tuple #[.agg #[.int .u8 1,.slice io IT.length ic,.int .u64 0],.slice lo 0 lc])∧Dgs M A s' F w w' io IT ic lo [] lc:=by
 obtain ⟨W,hW⟩:∃ W,W=(w.alloc (.cells #[.int .u8 1,.int .i64 d.c.tenant,.slice d.so d.c.keys.length d.sc,.string d.c.value,.int .u32 d.c.flags,.int .i64 d.c.life,.int .u64 d.c.unique,.int .u64 d.c.by_] 37)).alloc (.cells #[.int .u8 0,.slice none 0 0,.int .u64 0] 30):=⟨_,rfl⟩
 have hBW:Below w.heap.size w W:=by rw [hW];exact g_on (g_alloc _ _) (g_alloc _ _)
 have hWs:W.heap.size=w.heap.size+2:=by rw [hW];simp
 have hBC:GBx W w.heap.size [.int .u8 1,.int .i64 d.c.tenant,.slice d.so d.c.keys.length d.sc,.string d.c.value,.int .u32 d.c.flags,.int .i64 d.c.life,.int .u64 d.c.unique,.int .u64 d.c.by_]:=by rw [hW];exact (GBx.made w _ _).alloc _
 have hBR:GBx W (w.heap.size+1) [.int .u8 0,.slice none 0 0,.int .u64 0]:=by
  rw [hW]
  have:=GBx.made (w.alloc (.cells #[.int .u8 1,.int .i64 d.c.tenant,.slice d.so d.c.keys.length d.sc,.string d.c.value,.int .u32 d.c.flags,.int .i64 d.c.life,.int .u64 d.c.unique,.int .u64 d.c.by_] 37)) [.int .u8 0,.slice none 0 0,.int .u64 0] 30
  rw [show (w.alloc (.cells #[.int .u8 1,.int .i64 d.c.tenant,.slice d.so d.c.keys.length d.sc,.string d.c.value,.int .u32 d.c.flags,.int .i64 d.c.life,.int .u64 d.c.unique,.int .u64 d.c.by_] 37)).heap.size=w.heap.size+1 by simp] at this
  exact this
 have HUR:Hid (¬ Un F (w.heap.size+1)):=fun hu=>by have:=hE.un _ hu;omega
 have HUC:Hid (¬ Un F w.heap.size):=fun hu=>by have:=hE.un _ hu;omega
 have HB1:=Hid.m hBW
 have HR1:=Hid.m hBR
 have HC1:=Hid.m hBC
 have HRL:Hid (w.heap.size+1<W.heap.size):=by show _<_;omega
 have c0:=hBC.c 0 (by simp)
 have c1:=hBC.c 1 (by simp)
 have c2:=hBC.c 2 (by simp)
 have c3:=hBC.c 3 (by simp)
 have c4:=hBC.c 4 (by simp)
 have c5:=hBC.c 5 (by simp)
 have c6:=hBC.c 6 (by simp)
 have c7:=hBC.c 7 (by simp)
 have cl:=hBC.lt
 simp only [List.getElem_cons_zero,List.getElem_cons_succ] at c0 c1 c2 c3 c4 c5 c6 c7
 replace HS:=Hid.m HS
 unfold Cd.cl
 rw [hk]
 clear hE hBC hBR hBW hWs hk
 unfold ptr at HS ⊢
 go_enter Tryz.func46,Tryz.ntmps46
 go_upto_region 1 with (fail)
 rw [← hW]
 clear hW
 go_wp2_with (go_at_call 84;refine (HS.out W HB1.out).mono ?_;rintro e w3 ⟨lo,lc,rfl,hG⟩;have HG:=Hid.m hG;clear hG;obtain ⟨F3,hM3,hA3⟩:=HG.out.lv;obtain ⟨hbR,hbU⟩:=hM3.box HR1.out HUR.out;have y0:=hbR.c 0 (by simp);have y1:=hbR.c 1 (by simp);have y2:=hbR.c 2 (by simp);have f0:=hbR.f 0;have f1:=hbR.f 1;have f2:=hbR.f 2;have yl:=hbR.lt;simp only [List.getElem_cons_zero,List.getElem_cons_succ] at y0 y1 y2;have hX:=(((hbR.set 0 (.int .u8 1) (by simp)).set 1 (.slice lo IT.length lc) (by simp)).set 2 (.int .u64 0) (by simp));have ZZ0:=Hid.m (hX.c 0 (by simp));have ZZ1:=Hid.m (hX.c 1 (by simp));have ZZ2:=Hid.m (hX.c 2 (by simp));have HCG:=Hid.m (dgs_write (n:=W.heap.size) (hM3.from HB1.out) HG.out.rd (GRd.nil w3) hA3 (fun a ha=>by cases ha) hbU (show w.heap.size≤w.heap.size+1 by omega) HRL.out 0 [.int .u8 1,.slice lo IT.length lc,.int .u64 0]);unfold sets sets sets sets at HCG;simp only [List.getElem_cons_zero,List.getElem_cons_succ,List.set_cons_zero,List.set_cons_succ] at ZZ0 ZZ1 ZZ2;clear hX hbR hbU;clear hM3 hA3)
 try simp only [Exit.inBlock,Exit.then]
 refine bodyPost_ret (v:=.tuple #[.agg #[.int .u8 1,.slice lo IT.length lc,.int .u64 0],.slice none 0 0]) (by simp [results,Tryz.results46,go_sem,ZZ0.out,ZZ1.out,ZZ2.out]) rfl ⟨lo,lc,none,0,rfl,HCG.out⟩
set_option maxHeartbeats 4000000 in
theorem names_drop {N M:Nat}{A:Ad}{s s':Sh}{x:Ra}{F:Cp→Nat→Prop}{w:World}(hE:Eg N w A x F)(d:Cd)(hk:d.c.kind=10){no:Option Addr}{nn nc:Nat}{kd nb:Int}{CH:List Ch}{IT:List Im}
  (HS:∀ W0,Below w.heap.size w W0→Calls Tryz.prog 85 #[ptr A.b,.slice no nn nc] W0 fun e w'=>∃ lo lc,e=.returned (.tuple #[.agg #[.int .u8 kd,.slice none 0 0,.int .u64 nb],.slice lo CH.length lc])∧Cgs M A s' F W0 w' lo CH lc):
  Calls Tryz.prog 46 #[ptr A.b,.agg d.cl.toArray,.slice no nn nc] w fun e w'=>∃ io ic lo lc,e=.returned (.tuple #[.agg #[.int .u8 kd,.slice io 0 ic,.int .u64 nb],.slice lo CH.length lc])∧Dgs M A s' F w w' io [] ic lo CH lc:=by
 obtain ⟨W,hW⟩:∃ W,W=(w.alloc (.cells #[.int .u8 10,.int .i64 d.c.tenant,.slice d.so d.c.keys.length d.sc,.string d.c.value,.int .u32 d.c.flags,.int .i64 d.c.life,.int .u64 d.c.unique,.int .u64 d.c.by_] 37)).alloc (.cells #[.int .u8 0,.slice none 0 0,.int .u64 0] 30):=⟨_,rfl⟩
 have hBW:Below w.heap.size w W:=by rw [hW];exact g_on (g_alloc _ _) (g_alloc _ _)
 have hWs:W.heap.size=w.heap.size+2:=by rw [hW];simp
 have hBC:GBx W w.heap.size [.int .u8 10,.int .i64 d.c.tenant,.slice d.so d.c.keys.length d.sc,.string d.c.value,.int .u32 d.c.flags,.int .i64 d.c.life,.int .u64 d.c.unique,.int .u64 d.c.by_]:=by rw [hW];exact (GBx.made w _ _).alloc _
 have hBR:GBx W (w.heap.size+1) [.int .u8 0,.slice none 0 0,.int .u64 0]:=by
  rw [hW]
  have:=GBx.made (w.alloc (.cells #[.int .u8 10,.int .i64 d.c.tenant,.slice d.so d.c.keys.length d.sc,.string d.c.value,.int .u32 d.c.flags,.int .i64 d.c.life,.int .u64 d.c.unique,.int .u64 d.c.by_] 37)) [.int .u8 0,.slice none 0 0,.int .u64 0] 30
  rw [show (w.alloc (.cells #[.int .u8 10,.int .i64 d.c.tenant,.slice d.so d.c.keys.length d.sc,.string d.c.value,.int .u32 d.c.flags,.int .i64 d.c.life,.int .u64 d.c.unique,.int .u64 d.c.by_] 37)).heap.size=w.heap.size+1 by simp] at this
  exact this
 have HUR:Hid (¬ Un F (w.heap.size+1)):=fun hu=>by have:=hE.un _ hu;omega
 have HUC:Hid (¬ Un F w.heap.size):=fun hu=>by have:=hE.un _ hu;omega
 have HB1:=Hid.m hBW
 have HR1:=Hid.m hBR
 have HC1:=Hid.m hBC
 have HRL:Hid (w.heap.size+1<W.heap.size):=by show _<_;omega
 have c0:=hBC.c 0 (by simp)
 have c1:=hBC.c 1 (by simp)
 have c2:=hBC.c 2 (by simp)
 have c3:=hBC.c 3 (by simp)
 have c4:=hBC.c 4 (by simp)
 have c5:=hBC.c 5 (by simp)
 have c6:=hBC.c 6 (by simp)
 have c7:=hBC.c 7 (by simp)
 have cl:=hBC.lt
 simp only [List.getElem_cons_zero,List.getElem_cons_succ] at c0 c1 c2 c3 c4 c5 c6 c7
 replace HS:=Hid.m HS
 unfold Cd.cl
 rw [hk]
 clear hE hBC hBR hBW hWs hk
 unfold ptr at HS ⊢
 go_enter Tryz.func46,Tryz.ntmps46
 go_upto_region 1 with (fail)
 rw [← hW]
 clear hW
 go_wp2_with (go_at_call 85;refine (HS.out W HB1.out).mono ?_;rintro e w3 ⟨lo,lc,rfl,hG⟩;have HG:=Hid.m hG;clear hG;obtain ⟨F3,hM3,hA3⟩:=HG.out.mv;obtain ⟨hbR,hbU⟩:=hM3.box HR1.out HUR.out;have y0:=hbR.c 0 (by simp);have y1:=hbR.c 1 (by simp);have y2:=hbR.c 2 (by simp);have f0:=hbR.f 0;have f1:=hbR.f 1;have f2:=hbR.f 2;have yl:=hbR.lt;simp only [List.getElem_cons_zero,List.getElem_cons_succ] at y0 y1 y2;have hX:=(((hbR.set 0 (.int .u8 kd) (by simp)).set 1 (.slice none 0 0) (by simp)).set 2 (.int .u64 nb) (by simp));have ZZ0:=Hid.m (hX.c 0 (by simp));have ZZ1:=Hid.m (hX.c 1 (by simp));have ZZ2:=Hid.m (hX.c 2 (by simp));have HCG:=Hid.m (dgs_write (n:=W.heap.size) (hM3.from HB1.out) (GRd.nil w3) HG.out.rd (fun a ha=>by cases ha) hA3 hbU (show w.heap.size≤w.heap.size+1 by omega) HRL.out 0 [.int .u8 kd,.slice none 0 0,.int .u64 nb]);unfold sets sets sets sets at HCG;simp only [List.getElem_cons_zero,List.getElem_cons_succ,List.set_cons_zero,List.set_cons_succ] at ZZ0 ZZ1 ZZ2;clear hX hbR hbU;clear hM3 hA3)
 try simp only [Exit.inBlock,Exit.then]
 refine bodyPost_ret (v:=.tuple #[.agg #[.int .u8 kd,.slice none 0 0,.int .u64 nb],.slice lo CH.length lc]) (by simp [results,Tryz.results46,go_sem,ZZ0.out,ZZ1.out,ZZ2.out]) rfl ⟨none,0,lo,lc,rfl,HCG.out⟩
set_option maxHeartbeats 4000000 in
theorem names_flush {N M:Nat}{A:Ad}{s s':Sh}{x:Ra}{F:Cp→Nat→Prop}{w:World}(hE:Eg N w A x F)(d:Cd)(hk:d.c.kind=11){no:Option Addr}{nn nc:Nat}{kd nb:Int}{CH:List Ch}{IT:List Im}
  (HS:∀ W0,Below w.heap.size w W0→Calls Tryz.prog 86 #[ptr A.b,.int .i64 d.c.tenant] W0 fun e w'=>∃ lo lc,e=.returned (.tuple #[.agg #[.int .u8 kd,.slice none 0 0,.int .u64 nb],.slice lo CH.length lc])∧Cgs M A s' F W0 w' lo CH lc):
  Calls Tryz.prog 46 #[ptr A.b,.agg d.cl.toArray,.slice no nn nc] w fun e w'=>∃ io ic lo lc,e=.returned (.tuple #[.agg #[.int .u8 kd,.slice io 0 ic,.int .u64 nb],.slice lo CH.length lc])∧Dgs M A s' F w w' io [] ic lo CH lc:=by
 obtain ⟨W,hW⟩:∃ W,W=(w.alloc (.cells #[.int .u8 11,.int .i64 d.c.tenant,.slice d.so d.c.keys.length d.sc,.string d.c.value,.int .u32 d.c.flags,.int .i64 d.c.life,.int .u64 d.c.unique,.int .u64 d.c.by_] 37)).alloc (.cells #[.int .u8 0,.slice none 0 0,.int .u64 0] 30):=⟨_,rfl⟩
 have hBW:Below w.heap.size w W:=by rw [hW];exact g_on (g_alloc _ _) (g_alloc _ _)
 have hWs:W.heap.size=w.heap.size+2:=by rw [hW];simp
 have hBC:GBx W w.heap.size [.int .u8 11,.int .i64 d.c.tenant,.slice d.so d.c.keys.length d.sc,.string d.c.value,.int .u32 d.c.flags,.int .i64 d.c.life,.int .u64 d.c.unique,.int .u64 d.c.by_]:=by rw [hW];exact (GBx.made w _ _).alloc _
 have hBR:GBx W (w.heap.size+1) [.int .u8 0,.slice none 0 0,.int .u64 0]:=by
  rw [hW]
  have:=GBx.made (w.alloc (.cells #[.int .u8 11,.int .i64 d.c.tenant,.slice d.so d.c.keys.length d.sc,.string d.c.value,.int .u32 d.c.flags,.int .i64 d.c.life,.int .u64 d.c.unique,.int .u64 d.c.by_] 37)) [.int .u8 0,.slice none 0 0,.int .u64 0] 30
  rw [show (w.alloc (.cells #[.int .u8 11,.int .i64 d.c.tenant,.slice d.so d.c.keys.length d.sc,.string d.c.value,.int .u32 d.c.flags,.int .i64 d.c.life,.int .u64 d.c.unique,.int .u64 d.c.by_] 37)).heap.size=w.heap.size+1 by simp] at this
  exact this
 have HUR:Hid (¬ Un F (w.heap.size+1)):=fun hu=>by have:=hE.un _ hu;omega
 have HUC:Hid (¬ Un F w.heap.size):=fun hu=>by have:=hE.un _ hu;omega
 have HB1:=Hid.m hBW
 have HR1:=Hid.m hBR
 have HC1:=Hid.m hBC
 have HRL:Hid (w.heap.size+1<W.heap.size):=by show _<_;omega
 have c0:=hBC.c 0 (by simp)
 have c1:=hBC.c 1 (by simp)
 have c2:=hBC.c 2 (by simp)
 have c3:=hBC.c 3 (by simp)
 have c4:=hBC.c 4 (by simp)
 have c5:=hBC.c 5 (by simp)
 have c6:=hBC.c 6 (by simp)
 have c7:=hBC.c 7 (by simp)
 have cl:=hBC.lt
 simp only [List.getElem_cons_zero,List.getElem_cons_succ] at c0 c1 c2 c3 c4 c5 c6 c7
 replace HS:=Hid.m HS
 unfold Cd.cl
 rw [hk]
 clear hE hBC hBR hBW hWs hk
 unfold ptr at HS ⊢
 go_enter Tryz.func46,Tryz.ntmps46
 go_upto_region 1 with (fail)
 rw [← hW]
 clear hW
 go_wp2_with (go_at_call 86;refine (HS.out W HB1.out).mono ?_;rintro e w3 ⟨lo,lc,rfl,hG⟩;have HG:=Hid.m hG;clear hG;obtain ⟨F3,hM3,hA3⟩:=HG.out.mv;obtain ⟨hbR,hbU⟩:=hM3.box HR1.out HUR.out;have y0:=hbR.c 0 (by simp);have y1:=hbR.c 1 (by simp);have y2:=hbR.c 2 (by simp);have f0:=hbR.f 0;have f1:=hbR.f 1;have f2:=hbR.f 2;have yl:=hbR.lt;simp only [List.getElem_cons_zero,List.getElem_cons_succ] at y0 y1 y2;have hX:=(((hbR.set 0 (.int .u8 kd) (by simp)).set 1 (.slice none 0 0) (by simp)).set 2 (.int .u64 nb) (by simp));have ZZ0:=Hid.m (hX.c 0 (by simp));have ZZ1:=Hid.m (hX.c 1 (by simp));have ZZ2:=Hid.m (hX.c 2 (by simp));have HCG:=Hid.m (dgs_write (n:=W.heap.size) (hM3.from HB1.out) (GRd.nil w3) HG.out.rd (fun a ha=>by cases ha) hA3 hbU (show w.heap.size≤w.heap.size+1 by omega) HRL.out 0 [.int .u8 kd,.slice none 0 0,.int .u64 nb]);unfold sets sets sets sets at HCG;simp only [List.getElem_cons_zero,List.getElem_cons_succ,List.set_cons_zero,List.set_cons_succ] at ZZ0 ZZ1 ZZ2;clear hX hbR hbU;clear hM3 hA3)
 try simp only [Exit.inBlock,Exit.then]
 refine bodyPost_ret (v:=.tuple #[.agg #[.int .u8 kd,.slice none 0 0,.int .u64 nb],.slice lo CH.length lc]) (by simp [results,Tryz.results46,go_sem,ZZ0.out,ZZ1.out,ZZ2.out]) rfl ⟨none,0,lo,lc,rfl,HCG.out⟩
set_option maxHeartbeats 4000000 in
theorem names_missing {N M:Nat}{A:Ad}{s s':Sh}{x:Ra}{F:Cp→Nat→Prop}{w:World}(hE:Eg N w A x F)(d:Cd)(h1:¬ d.c.kind=1)(h10:¬ d.c.kind=10)(h11:¬ d.c.kind=11){no:Option Addr}{nn nc:Nat}{kd nb:Int}{CH:List Ch}{IT:List Im}
  (hnn:0<nn) {nb0 nf0:Nat} (hno:no=some ⟨nb0,nf0,none⟩) {k0:ByteArray} (hnb:nb0<w.heap.size) (v0:w.cell? ⟨nb0,nf0,none⟩=some (.int .i64 d.c.tenant)) (v1:w.cell? ⟨nb0,nf0+1,none⟩=some (.string k0)) {pl:Int}
  (HFD:∀ W0,Below w.heap.size w W0→Calls Tryz.prog 50 #[ptr A.b,.agg #[.int .i64 d.c.tenant,.string k0]] W0 fun e w'=>e=.returned (.tuple #[.int .i64 0,.bool false])∧∃ F',Mv N A s F W0 w' F')
  (HS:∀ W0 F0,Mv N A s F w W0 F0→Calls Tryz.prog 87 #[ptr A.b,.agg d.cl.toArray] W0 fun e w'=>∃ lo lc,e=.returned (.tuple #[.agg #[.int .u8 kd,.slice none 0 0,.int .u64 nb],.slice lo CH.length lc])∧Cgs M A s' F0 W0 w' lo CH lc):
  Calls Tryz.prog 46 #[ptr A.b,.agg d.cl.toArray,.slice no nn nc] w fun e w'=>∃ io ic lo lc,e=.returned (.tuple #[.agg #[.int .u8 kd,.slice io 0 ic,.int .u64 nb],.slice lo CH.length lc])∧Dgs M A s' F w w' io [] ic lo CH lc:=by
 obtain ⟨W,hW⟩:∃ W,W=(w.alloc (.cells #[.int .u8 d.c.kind,.int .i64 d.c.tenant,.slice d.so d.c.keys.length d.sc,.string d.c.value,.int .u32 d.c.flags,.int .i64 d.c.life,.int .u64 d.c.unique,.int .u64 d.c.by_] 37)).alloc (.cells #[.int .u8 0,.slice none 0 0,.int .u64 0] 30):=⟨_,rfl⟩
 have hBW:Below w.heap.size w W:=by rw [hW];exact g_on (g_alloc _ _) (g_alloc _ _)
 have hWs:W.heap.size=w.heap.size+2:=by rw [hW];simp
 have hBC:GBx W w.heap.size [.int .u8 d.c.kind,.int .i64 d.c.tenant,.slice d.so d.c.keys.length d.sc,.string d.c.value,.int .u32 d.c.flags,.int .i64 d.c.life,.int .u64 d.c.unique,.int .u64 d.c.by_]:=by rw [hW];exact (GBx.made w _ _).alloc _
 have hBR:GBx W (w.heap.size+1) [.int .u8 0,.slice none 0 0,.int .u64 0]:=by
  rw [hW]
  have:=GBx.made (w.alloc (.cells #[.int .u8 d.c.kind,.int .i64 d.c.tenant,.slice d.so d.c.keys.length d.sc,.string d.c.value,.int .u32 d.c.flags,.int .i64 d.c.life,.int .u64 d.c.unique,.int .u64 d.c.by_] 37)) [.int .u8 0,.slice none 0 0,.int .u64 0] 30
  rw [show (w.alloc (.cells #[.int .u8 d.c.kind,.int .i64 d.c.tenant,.slice d.so d.c.keys.length d.sc,.string d.c.value,.int .u32 d.c.flags,.int .i64 d.c.life,.int .u64 d.c.unique,.int .u64 d.c.by_] 37)).heap.size=w.heap.size+1 by simp] at this
  exact this
 have HUR:Hid (¬ Un F (w.heap.size+1)):=fun hu=>by have:=hE.un _ hu;omega
 have HUC:Hid (¬ Un F w.heap.size):=fun hu=>by have:=hE.un _ hu;omega
 have HB1:=Hid.m hBW
 have HR1:=Hid.m hBR
 have HC1:=Hid.m hBC
 have HRL:Hid (w.heap.size+1<W.heap.size):=by show _<_;omega
 have c0:=hBC.c 0 (by simp)
 have c1:=hBC.c 1 (by simp)
 have c2:=hBC.c 2 (by simp)
 have c3:=hBC.c 3 (by simp)
 have c4:=hBC.c 4 (by simp)
 have c5:=hBC.c 5 (by simp)
 have c6:=hBC.c 6 (by simp)
 have c7:=hBC.c 7 (by simp)
 have cl:=hBC.lt
 simp only [List.getElem_cons_zero,List.getElem_cons_succ] at c0 c1 c2 c3 c4 c5 c6 c7
 replace HS:=Hid.m HS
 replace HFD:=Hid.m (HFD W hBW)
 subst hno
 have n0:=(hBW.cell (p:=⟨nb0,nf0,none⟩) hnb).trans v0
 have n1:=(hBW.cell (p:=⟨nb0,nf0+1,none⟩) hnb).trans v1
 have hnl:nb0<W.heap.size:=Nat.lt_of_lt_of_le hnb hBW.size
 have hnn2:(0:Int)<(nn:Int):=by omega
 unfold Cd.cl at HS ⊢
 clear hE hBC hBR hBW hWs v0 v1 hnb
 unfold ptr at HS HFD ⊢
 go_enter Tryz.func46,Tryz.ntmps46
 go_upto_region 1 with (fail)
 rw [← hW]
 clear hW
 go_wp2_with (first
  | (go_at_call 50;refine HFD.out.mono ?_;rintro e w2 ⟨rfl,F2,hm2⟩;have HM2:=Hid.m (hm2.from HB1.out);have HR2:=Hid.m (hm2.box HR1.out HUR.out);have HZ2:=Hid.m (Nat.lt_of_lt_of_le HRL.out hm2.size);have hC2:=(hm2.box HC1.out HUC.out).1;have d0:=hC2.c 0 (by simp);have d1:=hC2.c 1 (by simp);have d2:=hC2.c 2 (by simp);have d3:=hC2.c 3 (by simp);have d4:=hC2.c 4 (by simp);have d5:=hC2.c 5 (by simp);have d6:=hC2.c 6 (by simp);have d7:=hC2.c 7 (by simp);have dl:=hC2.lt;simp only [List.getElem_cons_zero,List.getElem_cons_succ] at d0 d1 d2 d3 d4 d5 d6 d7;clear hC2 hm2)
  | (go_at_call 87;refine (HS.out w2 F2 HM2.out).mono ?_;rintro e w3 ⟨lo,lc,rfl,hG⟩;have HG:=Hid.m hG;clear hG;obtain ⟨F3,hM3,hA3⟩:=HG.out.mv;obtain ⟨hbR,hbU⟩:=hM3.box HR2.out.1 HR2.out.2;have y0:=hbR.c 0 (by simp);have y1:=hbR.c 1 (by simp);have y2:=hbR.c 2 (by simp);have f0:=hbR.f 0;have f1:=hbR.f 1;have f2:=hbR.f 2;have yl:=hbR.lt;simp only [List.getElem_cons_zero,List.getElem_cons_succ] at y0 y1 y2;have hX:=(((hbR.set 0 (.int .u8 kd) (by simp)).set 1 (.slice none 0 0) (by simp)).set 2 (.int .u64 nb) (by simp));have ZZ0:=Hid.m (hX.c 0 (by simp));have ZZ1:=Hid.m (hX.c 1 (by simp));have ZZ2:=Hid.m (hX.c 2 (by simp));have HCG:=Hid.m (dgs_write (n:=w2.heap.size) (HM2.out.trans' hM3) (GRd.nil w3) HG.out.rd (fun a ha=>by cases ha) hA3 hbU (show w.heap.size≤w.heap.size+1 by omega) HZ2.out 0 [.int .u8 kd,.slice none 0 0,.int .u64 nb]);unfold sets sets sets sets at HCG;simp only [List.getElem_cons_zero,List.getElem_cons_succ,List.set_cons_zero,List.set_cons_succ] at ZZ0 ZZ1 ZZ2;clear hX hbR hbU;clear hM3 hA3))
 try simp only [Exit.inBlock,Exit.then]
 refine bodyPost_ret (v:=.tuple #[.agg #[.int .u8 kd,.slice none 0 0,.int .u64 nb],.slice lo CH.length lc]) (by simp [results,Tryz.results46,go_sem,ZZ0.out,ZZ1.out,ZZ2.out]) rfl ⟨none,0,lo,lc,rfl,HCG.out⟩
set_option maxHeartbeats 4000000 in
theorem names_there {N M:Nat}{A:Ad}{s s':Sh}{x:Ra}{F:Cp→Nat→Prop}{w:World}(hE:Eg N w A x F)(d:Cd)(h1:¬ d.c.kind=1)(h10:¬ d.c.kind=10)(h11:¬ d.c.kind=11){no:Option Addr}{nn nc:Nat}{kd nb:Int}{CH:List Ch}{IT:List Im}
  (hnn:0<nn) {nb0 nf0:Nat} (hno:no=some ⟨nb0,nf0,none⟩) {k0:ByteArray} (hnb:nb0<w.heap.size) (v0:w.cell? ⟨nb0,nf0,none⟩=some (.int .i64 d.c.tenant)) (v1:w.cell? ⟨nb0,nf0+1,none⟩=some (.string k0)) {pl:Int}
  (HFD:∀ W0,Below w.heap.size w W0→Calls Tryz.prog 50 #[ptr A.b,.agg #[.int .i64 d.c.tenant,.string k0]] W0 fun e w'=>e=.returned (.tuple #[.int .i64 pl,.bool true])∧∃ F',Mv N A s F W0 w' F')
  (HS:∀ W0 F0,Mv N A s F w W0 F0→Calls Tryz.prog 88 #[ptr A.b,.agg d.cl.toArray,.int .i64 pl] W0 fun e w'=>∃ lo lc,e=.returned (.tuple #[.agg #[.int .u8 kd,.slice none 0 0,.int .u64 nb],.slice lo CH.length lc])∧Cgs M A s' F0 W0 w' lo CH lc):
  Calls Tryz.prog 46 #[ptr A.b,.agg d.cl.toArray,.slice no nn nc] w fun e w'=>∃ io ic lo lc,e=.returned (.tuple #[.agg #[.int .u8 kd,.slice io 0 ic,.int .u64 nb],.slice lo CH.length lc])∧Dgs M A s' F w w' io [] ic lo CH lc:=by
 obtain ⟨W,hW⟩:∃ W,W=(w.alloc (.cells #[.int .u8 d.c.kind,.int .i64 d.c.tenant,.slice d.so d.c.keys.length d.sc,.string d.c.value,.int .u32 d.c.flags,.int .i64 d.c.life,.int .u64 d.c.unique,.int .u64 d.c.by_] 37)).alloc (.cells #[.int .u8 0,.slice none 0 0,.int .u64 0] 30):=⟨_,rfl⟩
 have hBW:Below w.heap.size w W:=by rw [hW];exact g_on (g_alloc _ _) (g_alloc _ _)
 have hWs:W.heap.size=w.heap.size+2:=by rw [hW];simp
 have hBC:GBx W w.heap.size [.int .u8 d.c.kind,.int .i64 d.c.tenant,.slice d.so d.c.keys.length d.sc,.string d.c.value,.int .u32 d.c.flags,.int .i64 d.c.life,.int .u64 d.c.unique,.int .u64 d.c.by_]:=by rw [hW];exact (GBx.made w _ _).alloc _
 have hBR:GBx W (w.heap.size+1) [.int .u8 0,.slice none 0 0,.int .u64 0]:=by
  rw [hW]
  have:=GBx.made (w.alloc (.cells #[.int .u8 d.c.kind,.int .i64 d.c.tenant,.slice d.so d.c.keys.length d.sc,.string d.c.value,.int .u32 d.c.flags,.int .i64 d.c.life,.int .u64 d.c.unique,.int .u64 d.c.by_] 37)) [.int .u8 0,.slice none 0 0,.int .u64 0] 30
  rw [show (w.alloc (.cells #[.int .u8 d.c.kind,.int .i64 d.c.tenant,.slice d.so d.c.keys.length d.sc,.string d.c.value,.int .u32 d.c.flags,.int .i64 d.c.life,.int .u64 d.c.unique,.int .u64 d.c.by_] 37)).heap.size=w.heap.size+1 by simp] at this
  exact this
 have HUR:Hid (¬ Un F (w.heap.size+1)):=fun hu=>by have:=hE.un _ hu;omega
 have HUC:Hid (¬ Un F w.heap.size):=fun hu=>by have:=hE.un _ hu;omega
 have HB1:=Hid.m hBW
 have HR1:=Hid.m hBR
 have HC1:=Hid.m hBC
 have HRL:Hid (w.heap.size+1<W.heap.size):=by show _<_;omega
 have c0:=hBC.c 0 (by simp)
 have c1:=hBC.c 1 (by simp)
 have c2:=hBC.c 2 (by simp)
 have c3:=hBC.c 3 (by simp)
 have c4:=hBC.c 4 (by simp)
 have c5:=hBC.c 5 (by simp)
 have c6:=hBC.c 6 (by simp)
 have c7:=hBC.c 7 (by simp)
 have cl:=hBC.lt
 simp only [List.getElem_cons_zero,List.getElem_cons_succ] at c0 c1 c2 c3 c4 c5 c6 c7
 replace HS:=Hid.m HS
 replace HFD:=Hid.m (HFD W hBW)
 subst hno
 have n0:=(hBW.cell (p:=⟨nb0,nf0,none⟩) hnb).trans v0
 have n1:=(hBW.cell (p:=⟨nb0,nf0+1,none⟩) hnb).trans v1
 have hnl:nb0<W.heap.size:=Nat.lt_of_lt_of_le hnb hBW.size
 have hnn2:(0:Int)<(nn:Int):=by omega
 unfold Cd.cl at HS ⊢
 clear hE hBC hBR hBW hWs v0 v1 hnb
 unfold ptr at HS HFD ⊢
 go_enter Tryz.func46,Tryz.ntmps46
 go_upto_region 1 with (fail)
 rw [← hW]
 clear hW
 go_wp2_with (first
  | (go_at_call 50;refine HFD.out.mono ?_;rintro e w2 ⟨rfl,F2,hm2⟩;have HM2:=Hid.m (hm2.from HB1.out);have HR2:=Hid.m (hm2.box HR1.out HUR.out);have HZ2:=Hid.m (Nat.lt_of_lt_of_le HRL.out hm2.size);have hC2:=(hm2.box HC1.out HUC.out).1;have d0:=hC2.c 0 (by simp);have d1:=hC2.c 1 (by simp);have d2:=hC2.c 2 (by simp);have d3:=hC2.c 3 (by simp);have d4:=hC2.c 4 (by simp);have d5:=hC2.c 5 (by simp);have d6:=hC2.c 6 (by simp);have d7:=hC2.c 7 (by simp);have dl:=hC2.lt;simp only [List.getElem_cons_zero,List.getElem_cons_succ] at d0 d1 d2 d3 d4 d5 d6 d7;clear hC2 hm2)
  | (go_at_call 88;refine (HS.out w2 F2 HM2.out).mono ?_;rintro e w3 ⟨lo,lc,rfl,hG⟩;have HG:=Hid.m hG;clear hG;obtain ⟨F3,hM3,hA3⟩:=HG.out.mv;obtain ⟨hbR,hbU⟩:=hM3.box HR2.out.1 HR2.out.2;have y0:=hbR.c 0 (by simp);have y1:=hbR.c 1 (by simp);have y2:=hbR.c 2 (by simp);have f0:=hbR.f 0;have f1:=hbR.f 1;have f2:=hbR.f 2;have yl:=hbR.lt;simp only [List.getElem_cons_zero,List.getElem_cons_succ] at y0 y1 y2;have hX:=(((hbR.set 0 (.int .u8 kd) (by simp)).set 1 (.slice none 0 0) (by simp)).set 2 (.int .u64 nb) (by simp));have ZZ0:=Hid.m (hX.c 0 (by simp));have ZZ1:=Hid.m (hX.c 1 (by simp));have ZZ2:=Hid.m (hX.c 2 (by simp));have HCG:=Hid.m (dgs_write (n:=w2.heap.size) (HM2.out.trans' hM3) (GRd.nil w3) HG.out.rd (fun a ha=>by cases ha) hA3 hbU (show w.heap.size≤w.heap.size+1 by omega) HZ2.out 0 [.int .u8 kd,.slice none 0 0,.int .u64 nb]);unfold sets sets sets sets at HCG;simp only [List.getElem_cons_zero,List.getElem_cons_succ,List.set_cons_zero,List.set_cons_succ] at ZZ0 ZZ1 ZZ2;clear hX hbR hbU;clear hM3 hA3))
 try simp only [Exit.inBlock,Exit.then]
 refine bodyPost_ret (v:=.tuple #[.agg #[.int .u8 kd,.slice none 0 0,.int .u64 nb],.slice lo CH.length lc]) (by simp [results,Tryz.results46,go_sem,ZZ0.out,ZZ1.out,ZZ2.out]) rfl ⟨none,0,lo,lc,rfl,HCG.out⟩
end Go.Proofs.YtcdpiefflnaghaaGreatDoor.En
namespace Go.Proofs.YtcdpiefflnaghaaGreatDoor.En
open Go.Proofs.YtcdpiefflnaghaaGreatDoor.It
open Go.Proofs.YtcdpiefflnaghaaGreatDoor.Lr
open Go.Proofs.YtcdpiefflnaghaaGreatDoor.Qt
open Go.Proofs.YtcdpiefflnaghaaGreatDoor.Sb
open Go.RowKit Go.Proofs.YtcdpiefflnaghaaGreatDoor
theorem Dgs.mono {N N':Nat}{A:Ad}{s':Sh}{F:Cp→Nat→Prop}{w w':World}{io:Option Addr}{IT:List Im}{ic:Nat}{lo:Option Addr}{CH:List Ch}{lc:Nat}(h:Dgs N A s' F w w' io IT ic lo CH lc)(hN:N≤N'):Dgs N' A s' F w w' io IT ic lo CH lc:=by
 obtain ⟨F',⟨x',h1,h2,h3⟩,h4,h5⟩:=h.lv
 exact ⟨h.it,h.ch,F',⟨x',h1.mono hN,h2,h3⟩,h4,h5⟩
theorem Key1.on {N:Nat}{A:Ad}{s:Sh}{x:Ra}{F F0:Cp→Nat→Prop}{w W:World}{d:Cd}{t:Nat}{k0:ByteArray}{ks:List ByteArray}(h:Key1 s w F d t k0 ks)(g:Lv N A x F w W F0):Key1 s W F0 d t k0 ks:=by
 obtain ⟨b,off,e,hb,_⟩:=h.rd.lies (by rw [h.hk];simp)
 have hr:=g.rd h.rd (fun a ha=>⟨h.off a ha,by rw [e] at ha;cases ha;exact hb⟩)
 exact ⟨h.tn,h.ht,h.hk,hr.1,fun a ha=>(hr.2 a ha).1,h.life,h.by_,h.val,h.calm.on g.un g.subU⟩
theorem one_items {s:Sh}{c:Cm}:(s.one c).2.1.items=[]:=by
 unfold Sh.one Sh.putR
 split
 ·split <;> rfl
 ·split
  ·rfl
  split
  ·rfl
  split
  ·rfl
  split
  ·split <;> rfl
  split
  ·split <;> rfl
  ·rfl
theorem doNames_m {N:Nat}{A:Ad}{s:Sh}{x:Ra}{F:Cp→Nat→Prop}{w:World}(I:Inv s)(hE:Eg N w A x F)(RA:RepA x s)(RB:RepB x s){d:Cd}(hm:d.c.may=true){t:Nat}(htn:d.c.tenant=(t:Int))(ht:t<s.quotas.length)(hK:GRd ES w d.so d.c.keys d.sc)(hO:d.c.keys≠[]→Off (Un F) d.so)(hby:0≤d.c.by_∧d.c.by_≤18446744073709551615)(hcm:Calm It.Tab w (Un F))(hN:N<100000000){no:Option Addr}{nc:Nat}(hR:GRd EN w no d.c.names nc)(hA:∀ a,no=some a→¬ Un F a.block∧a.block<w.heap.size){r:Sh × Rs × List Ch}(hr:r=s.done d.c):
  Calls Tryz.prog 46 #[ptr A.b,.agg d.cl.toArray,.slice no d.c.keys.length nc] w fun e w'=>∃ io ic lo lc,e=.returned (.tuple #[.agg #[.int .u8 r.2.1.kind,.slice io r.2.1.items.length ic,.int .u64 r.2.1.number],.slice lo r.2.2.length lc])∧Dgs (N+2) A r.1 F w w' io r.2.1.items ic lo r.2.2 lc:=by
 have hm2:=hm
 unfold Cm.may at hm2
 simp only [Bool.and_eq_true,decide_eq_true_eq] at hm2
 obtain ⟨⟨⟨⟨⟨⟨m1,m2⟩,m3⟩,m4⟩,m5⟩,m6⟩,m7⟩:=hm2
 have m8:0≤d.c.tenant∧d.c.tenant<4:=by simpa [tenOk] using m2
 have hlife:=(may_life hm).2.2
 have hval:d.c.value.size≤512:=by
  unfold Cm.vOk at m4
  simp only [Bool.and_eq_true,decide_eq_true_eq] at m4
  exact m4.1
 have hq:¬ (s.quotas.length:Int)≤d.c.tenant:=by omega
 have hks:¬ d.c.kind=11→(1≤d.c.keys.length∧d.c.keys.length≤8∧(d.c.keys.length≤1∨d.c.kind=1∨d.c.kind=10))∧∀ k∈d.c.keys,okN (d.c.tenant,k):=fun h11=>by
  unfold Cm.kOk at m3
  rw [if_neg h11] at m3
  simp only [Bool.and_eq_true,decide_eq_true_eq,List.all_eq_true] at m3
  refine ⟨m3.1.1,fun k hk=>?_⟩
  have:=m3.1.2 k hk
  simp only [keyOk,decide_eq_true_eq] at this
  exact ⟨m8.1,m8.2,this⟩
 unfold Sh.done at hr
 rw [if_neg hq] at hr
 by_cases h1:d.c.kind=1
 ·rw [if_pos h1] at hr
  have hk:=hks (by omega)
  rw [hr]
  refine (names_get (M:=N) (s:=s) (kd:=0) (nb:=0) (CH:=[]) hE d h1 fun W0 hb=>get_m I (hE.below hb) RA RB (t:=d.c.tenant) (ks:=d.c.keys) (hR.below hb) (fun a ha=>⟨(hA a ha).1,Nat.lt_of_lt_of_le (hA a ha).2 hb.size⟩) hk.2 (by omega)).mono ?_
  rintro e w' ⟨io,ic,lo,lc,rfl,h⟩
  exact ⟨io,ic,lo,lc,rfl,h.mono (by omega)⟩
 rw [if_neg h1] at hr
 by_cases h10:d.c.kind=10
 ·rw [if_pos h10] at hr
  have hk:=hks (by omega)
  rw [hr]
  refine (names_drop (M:=N) (s:=s) (IT:=[]) hE d h10 fun W0 hb=>drop_m I (hE.below hb) RA RB (t:=d.c.tenant) (ks:=d.c.keys) (hR.below hb) (fun a ha=>⟨(hA a ha).1,Nat.lt_of_lt_of_le (hA a ha).2 hb.size⟩) hk.2 (by omega)).mono ?_
  rintro e w' ⟨io,ic,lo,lc,rfl,h⟩
  exact ⟨io,ic,lo,lc,rfl,h.mono (by omega)⟩
 rw [if_neg h10] at hr
 by_cases h11:d.c.kind=11
 ·rw [if_pos h11] at hr
  rw [hr]
  refine (names_flush (M:=N) (s:=s) (IT:=[]) (kd:=1) (nb:=0) (CH:=[.clear d.c.tenant]) hE d h11 fun W0 hb=>flush_m I (hE.below hb) RA RB d.c.tenant).mono ?_
  rintro e w' ⟨io,ic,lo,lc,rfl,h⟩
  exact ⟨io,ic,lo,lc,rfl,h.mono (by omega)⟩
 rw [if_neg h11] at hr
 obtain ⟨hk1,hk2⟩:=hks h11
 obtain ⟨k0,hkk⟩:∃ k0,d.c.keys=[k0]:=List.length_eq_one_iff.1 (by omega)
 have H:Key1 s w F d t k0 []:=⟨htn,ht,hkk,hK,hO (by rw [hkk];simp),hlife,hby,by omega,hcm⟩
 have hok:okN (d.c.tenant,k0):=hk2 k0 (by rw [hkk];simp)
 have hit:r.2.1.items=[]:=by rw [hr];exact one_items
 rw [hit]
 obtain ⟨nb0,nf0,hno,hnb,v0,v1⟩:=hR.nam (i:=0) (by unfold Cm.names;rw [hkk];simp)
 have e0:d.c.names[0]'(by unfold Cm.names;rw [hkk];simp)=(d.c.tenant,k0):=by
  unfold Cm.names
  simp [hkk]
 rw [e0] at v0 v1
 rw [Nat.zero_mul,Nat.add_zero] at v0 v1
 cases hat:s.at d.c.tenant k0 with
 | none=>
  refine names_missing (M:=N+2) (s:=s) (IT:=[]) (pl:=0) hE d h1 h10 h11 (by omega) hno hnb v0 v1 (fun W0 hb=>find_none I (hE.below hb) RA RB hok hat) fun W0 F0 hM=>?_
  obtain ⟨x0,hL0,rA0,rB0⟩:=hM
  rw [hr]
  exact missing_m I hL0.eg rA0 rB0 (H.on hL0) hN hat (by omega)
 | some i=>
  obtain ⟨hi,-⟩:=at_some hat
  refine names_there (M:=N+2) (s:=s) (IT:=[]) (pl:=(s.held[i].pl:Int)) hE d h1 h10 h11 (by omega) hno hnb v0 v1 (fun W0 hb=>find_some I (hE.below hb) RA RB hok hat hi) fun W0 F0 hM=>?_
  obtain ⟨x0,hL0,rA0,rB0⟩:=hM
  rw [hr]
  exact there_m I hL0.eg rA0 rB0 (H.on hL0) hN hat hi (by omega)
end Go.Proofs.YtcdpiefflnaghaaGreatDoor.En
