/-
  Package engine and what stands beneath it, part 37: contracts of functions, and what they rest on.
-/
import Derived.Test.YtcdpiefflnaghaaGreatDoorU36
import Derived.Test.YtcdpiefflnaghaaGreatDoorU07
set_option linter.unusedSimpArgs false
set_option linter.unusedVariables false
set_option maxRecDepth 100000
namespace Go.Proofs.YtcdpiefflnaghaaGreatDoor.En
open Go.Proofs.YtcdpiefflnaghaaGreatDoor.It
open Go.Proofs.YtcdpiefflnaghaaGreatDoor.Lr
open Go.Proofs.YtcdpiefflnaghaaGreatDoor.Qt
open Go.Proofs.YtcdpiefflnaghaaGreatDoor.Sb
open Go.RowKit Go.Proofs.YtcdpiefflnaghaaGreatDoor
set_option maxHeartbeats 4000000 in
theorem extend_m {N:Nat}{A:Ad}{s:Sh}{x:Ra}{F:Cp→Nat→Prop}{w:World}(I:Inv s)(hE:Eg N w A x F)(RA:RepA x s)(RB:RepB x s)(d:Cd){t:Nat}(htn:d.c.tenant=(t:Int))(ht:t<s.quotas.length){X:Im}(hd:dueI X s.now=false)(hXv:X.value.size≤2000)(hdv:d.c.value.size≤2000)(hN:N<100000000){r:Sh × Rs × List Ch}
  (hr:r=match jnO X.value d.c.value with
   | none=>(s,⟨4,[],0⟩,[])
   | some text=>s.putR t ⟨X.key,text,X.flags,X.till,0⟩ 0):
  Calls Tryz.prog 142 #[ptr A.b,.agg d.cl.toArray,X.v] w fun e w'=>∃ lo lc,e=.returned (.tuple #[.agg #[.int .u8 r.2.1.kind,.slice none 0 0,.int .u64 r.2.1.number],.slice lo r.2.2.length lc])∧Cgs (N+2) A r.1 F w w' lo r.2.2 lc:=by
 obtain ⟨W,hW⟩:∃ W,W=((w.alloc (.cells #[.int .u8 d.c.kind,.int .i64 t,.slice d.so d.c.keys.length d.sc,.string d.c.value,.int .u32 d.c.flags,.int .i64 d.c.life,.int .u64 d.c.unique,.int .u64 d.c.by_] 37)).alloc (.cells #[.string X.key,.string X.value,.int .u32 X.flags,.int .i64 X.till,.int .u64 X.unique] 76)).alloc (.cells #[.int .u8 0,.slice none 0 0,.int .u64 0] 30):=⟨_,rfl⟩
 have hBW:Below w.heap.size w W:=by rw [hW];exact g_on (g_on (g_alloc _ _) (g_alloc _ _)) (g_alloc _ _)
 have hWs:W.heap.size=w.heap.size+3:=by rw [hW];simp
 have hBC:GBx W w.heap.size [.int .u8 d.c.kind,.int .i64 t,.slice d.so d.c.keys.length d.sc,.string d.c.value,.int .u32 d.c.flags,.int .i64 d.c.life,.int .u64 d.c.unique,.int .u64 d.c.by_]:=by rw [hW];exact ((GBx.made w _ _).alloc _).alloc _
 have hBX:GBx W (w.heap.size+1) [.string X.key,.string X.value,.int .u32 X.flags,.int .i64 X.till,.int .u64 X.unique]:=by
  rw [hW]
  have:=(GBx.made (w.alloc (.cells #[.int .u8 d.c.kind,.int .i64 t,.slice d.so d.c.keys.length d.sc,.string d.c.value,.int .u32 d.c.flags,.int .i64 d.c.life,.int .u64 d.c.unique,.int .u64 d.c.by_] 37)) [.string X.key,.string X.value,.int .u32 X.flags,.int .i64 X.till,.int .u64 X.unique] 76).alloc (.cells #[.int .u8 0,.slice none 0 0,.int .u64 0] 30)
  rw [show (w.alloc (.cells #[.int .u8 d.c.kind,.int .i64 t,.slice d.so d.c.keys.length d.sc,.string d.c.value,.int .u32 d.c.flags,.int .i64 d.c.life,.int .u64 d.c.unique,.int .u64 d.c.by_] 37)).heap.size=w.heap.size+1 by simp] at this
  exact this
 have hBR:GBx W (w.heap.size+2) [.int .u8 0,.slice none 0 0,.int .u64 0]:=by
  rw [hW]
  have:=GBx.made ((w.alloc (.cells #[.int .u8 d.c.kind,.int .i64 t,.slice d.so d.c.keys.length d.sc,.string d.c.value,.int .u32 d.c.flags,.int .i64 d.c.life,.int .u64 d.c.unique,.int .u64 d.c.by_] 37)).alloc (.cells #[.string X.key,.string X.value,.int .u32 X.flags,.int .i64 X.till,.int .u64 X.unique] 76)) [.int .u8 0,.slice none 0 0,.int .u64 0] 30
  rw [show ((w.alloc (.cells #[.int .u8 d.c.kind,.int .i64 t,.slice d.so d.c.keys.length d.sc,.string d.c.value,.int .u32 d.c.flags,.int .i64 d.c.life,.int .u64 d.c.unique,.int .u64 d.c.by_] 37)).alloc (.cells #[.string X.key,.string X.value,.int .u32 X.flags,.int .i64 X.till,.int .u64 X.unique] 76)).heap.size=w.heap.size+2 by simp] at this
  exact this
 have hEW:=hE.below hBW
 have HUR:Hid (¬ Un F (w.heap.size+2)):=fun hu=>by have:=hE.un _ hu;omega
 have HEW:=Hid.m hEW
 have HPT:Hid (∀ (W0:World) (hb:Below w.heap.size w W0) (Y:Im),dueI Y s.now=false→Calls Tryz.prog 190 #[ptr A.b,.int .i64 t,Y.v] W0 fun e w'=>∃ lo lc,e=.returned (.tuple #[.int .u8 (s.put t Y).2.1,.slice lo (s.put t Y).2.2.length lc])∧Cgs (N+2) A (s.put t Y).1 F W0 w' lo (s.put t Y).2.2 lc):=fun W0 hb Y hY=>put_m I (hE.below hb) RA RB ht hY hN
 have HCT:=Hid.m (It.join_any X.value d.c.value hXv hdv W)
 have HBC:=Hid.m hBC
 have HBX:=Hid.m hBX
 have HBR:=Hid.m hBR
 have HBW:=Hid.m hBW
 have c0:=hBC.c 0 (by simp)
 have c1:=hBC.c 1 (by simp)
 have c3:=hBC.c 3 (by simp)
 have c7:=hBC.c 7 (by simp)
 have cl:=hBC.lt
 have x1:=hBX.c 1 (by simp)
 have xl:=hBX.lt
 simp only [List.getElem_cons_zero,List.getElem_cons_succ] at c0 c1 c3 c7 x1
 have y0:=hBR.c 0 (by simp)
 have y1:=hBR.c 1 (by simp)
 have y2:=hBR.c 2 (by simp)
 have f0:=hBR.f 0
 have f1:=hBR.f 1
 have f2:=hBR.f 2
 have yl:=hBR.lt
 simp only [List.getElem_cons_zero,List.getElem_cons_succ] at y0 y1 y2
 unfold Cd.cl
 rw [htn]
 by_cases hg:X.value.size+d.c.value.size≤512
 case neg=>
  have hr2:r=(s,⟨4,[],0⟩,[]):=by rw [hr];unfold jnO;rw [if_neg hg]
  have hg2:It.jnE X.value d.c.value=3:=by unfold It.jnE;rw [if_neg hg]
  rw [hg2] at HCT
  rw [hr2]
  have HCG:Hid (∀ W1,Below W.heap.size W W1→Cgs (N+2) A s F w (((W1.setCell ⟨w.heap.size+2,0,none⟩ (.int .u8 4)).setCell ⟨w.heap.size+2,1,none⟩ (.slice none 0 0)).setCell ⟨w.heap.size+2,2,none⟩ (.int .u64 0)) none [] 0):=fun W1 hb=>by
   have:=cgs_write (n:=W.heap.size) ((hE.lv (g_on hBW hb)).mono (show N≤N+2 by omega)) RA RB (GRd.nil W1) (fun a ha=>by cases ha) HUR.out (show w.heap.size≤w.heap.size+2 by omega) (by omega) 0 [.int .u8 4,.slice none 0 0,.int .u64 0]
   unfold sets sets sets sets at this
   exact this
  clear hE hEW RA RB hr hr2 hg hg2 hBC hBX hBR hBW HPT hd
  unfold ptr Im.v
  go_enter Tryz.func142,Tryz.ntmps142
  go_upto_region 1 with (fail)
  rw [← hW]
  clear hW
  go_upto_region 3 with (go_at_call 192;refine HCT.out.mono ?_;rintro e w1 ⟨rfl,hb1⟩;have HB1:=Hid.m hb1;clear hb1)
  have hR1:=HBR.out.below HB1.out
  have z0:=hR1.c 0 (by simp)
  have z1:=hR1.c 1 (by simp)
  have z2:=hR1.c 2 (by simp)
  have g0:=hR1.f 0
  have g1:=hR1.f 1
  have g2:=hR1.f 2
  have gl:=hR1.lt
  simp only [List.getElem_cons_zero,List.getElem_cons_succ] at z0 z1 z2
  have hX:=(((hR1.set 0 (.int .u8 4) (by simp)).set 1 (.slice none 0 0) (by simp)).set 2 (.int .u64 0) (by simp))
  have ZZ0:=Hid.m (hX.c 0 (by simp))
  have ZZ1:=Hid.m (hX.c 1 (by simp))
  have ZZ2:=Hid.m (hX.c 2 (by simp))
  simp only [List.getElem_cons_zero,List.getElem_cons_succ,List.set_cons_zero,List.set_cons_succ] at ZZ0 ZZ1 ZZ2
  have HC2:=Hid.m (HCG.out w1 HB1.out)
  clear hX hR1 y0 y1 y2 f0 f1 f2 yl HCG c0 c1 c3 c7 cl x1 xl
  go_wp2
  try simp only [Exit.inBlock,Exit.then]
  refine bodyPost_ret (v:=.tuple #[.agg #[.int .u8 4,.slice none 0 0,.int .u64 0],.slice none 0 0]) (by simp [results,Tryz.results142,go_sem,ZZ0.out,ZZ1.out,ZZ2.out]) rfl ⟨none,0,rfl,HC2.out⟩
 case pos=>
  obtain ⟨text,htx⟩:∃ text,text=It.jnV X.value d.c.value:=⟨_,rfl⟩
  have hg2:It.jnE X.value d.c.value=0:=by unfold It.jnE;rw [if_pos hg]
  have hr2:r=s.putR t ⟨X.key,text,X.flags,X.till,0⟩ 0:=by
   rw [hr,htx]
   unfold jnO It.jnV
   rw [if_pos hg,if_pos hg]
   have e:X.value++d.c.value=⟨(It.bl X.value++It.bl d.c.value).toArray⟩:=by
    apply ByteArray.ext
    simp [It.bl,ByteArray.data_append]
   rw [e]
  rw [hg2,← htx] at HCT
  have hpu:s.put t ⟨X.key,text,X.flags,X.till,0⟩=s.put t ⟨X.key,text,X.flags,X.till,X.unique⟩:=rfl
  obtain ⟨Y,hY⟩:∃ Y:Im,Y=⟨X.key,text,X.flags,X.till,X.unique⟩:=⟨_,rfl⟩
  have HPY:=Hid.m (fun W0 (hb:Below w.heap.size w W0)=>HPT.out W0 hb Y (by rw [hY];exact hd))
  rw [show Y.v=.agg #[.string X.key,.string text,.int .u32 X.flags,.int .i64 X.till,.int .u64 X.unique] by rw [hY];rfl] at HPY
  have hr3:r=((s.put t Y).1,⟨(s.put t Y).2.1,[],if (s.put t Y).2.1=1 then 0 else 0⟩,(s.put t Y).2.2):=by rw [hr2,hY];unfold Sh.putR;rw [hpu]
  rw [hr3]
  dsimp only
  obtain ⟨kd,hkd⟩:∃ kd,kd=(s.put t Y).2.1:=⟨_,rfl⟩
  obtain ⟨CH,hCH⟩:∃ CH,CH=(s.put t Y).2.2:=⟨_,rfl⟩
  obtain ⟨s',hs'⟩:∃ s',s'=(s.put t Y).1:=⟨_,rfl⟩
  rw [← hkd,← hCH,← hs'] at HPY ⊢
  rw [show (if kd=1 then (0:Int) else 0)=0 by split <;> rfl]
  clear hE hEW RA RB hr hr2 hr3 hg hg2 hBC hBX hBR hBW HPT hd hpu hY hkd hCH hs' htx
  unfold ptr at HPY
  unfold ptr Im.v
  go_enter Tryz.func142,Tryz.ntmps142
  go_upto_region 1 with (fail)
  rw [← hW]
  clear hW
  go_upto_region 4 with (go_at_call 192;refine HCT.out.mono ?_;rintro e w1 ⟨rfl,hb1⟩;have HB1:=Hid.m hb1;clear hb1)
  have hX1:=HBX.out.below HB1.out
  have z1:=hX1.c 1 (by simp)
  have zf:=hX1.f 1
  have zl:=hX1.lt
  simp only [List.getElem_cons_zero,List.getElem_cons_succ] at z1
  obtain ⟨w2,hw2⟩:∃ w2,w2=w1.setCell ⟨w.heap.size+1,1,none⟩ (.string text):=⟨_,rfl⟩
  have hX2:GBx w2 (w.heap.size+1) [.string X.key,.string text,.int .u32 X.flags,.int .i64 X.till,.int .u64 X.unique]:=by rw [hw2];exact (hX1.set 1 (.string text) (by simp)).ext (by simp)
  have hC2:GBx w2 w.heap.size [.int .u8 d.c.kind,.int .i64 t,.slice d.so d.c.keys.length d.sc,.string d.c.value,.int .u32 d.c.flags,.int .i64 d.c.life,.int .u64 d.c.unique,.int .u64 d.c.by_]:=by rw [hw2];exact (HBC.out.below HB1.out).other _ _ (by omega)
  have hR2:GBx w2 (w.heap.size+2) [.int .u8 0,.slice none 0 0,.int .u64 0]:=by rw [hw2];exact (HBR.out.below HB1.out).other _ _ (by omega)
  have hB2:Below w.heap.size w w2:=by rw [hw2];exact (g_on HBW.out HB1.out).setCell (p:=⟨w.heap.size+1,1,none⟩) (by show w.heap.size≤w.heap.size+1;omega) _
  have HB2:=Hid.m hB2
  have HR2:=Hid.m hR2
  have HZ2:Hid (W.heap.size≤w2.heap.size):=by show _≤_;rw [hw2];simpa using HB1.out.size
  clear y0 y1 y2 f0 f1 f2 yl c0 c1 c3 c7 cl x1 xl
  go_upto_region 5 with (fail)
  rw [← hw2]
  clear hw2 z1 zf zl hX1
  have c1:=hC2.c 1 (by simp)
  have cl:=hC2.lt
  have x0:=hX2.c 0 (by simp)
  have x1:=hX2.c 1 (by simp)
  have x2:=hX2.c 2 (by simp)
  have x3:=hX2.c 3 (by simp)
  have x4:=hX2.c 4 (by simp)
  have xl:=hX2.lt
  simp only [List.getElem_cons_zero,List.getElem_cons_succ] at c1 x0 x1 x2 x3 x4
  clear hC2 hX2 hR2 hB2
  go_upto_region 6 with (go_at_call 190;refine (HPY.out w2 HB2.out).mono ?_;rintro e w3 ⟨lo,lc,rfl,hG⟩;have HG:=Hid.m hG;clear hG)
  obtain ⟨hR3,F3,x3',hL3,rA3,rB3,hA3⟩:=HG.out
  obtain ⟨hbR,hbU⟩:=hL3.box HR2.out HUR.out
  have y0:=hbR.c 0 (by simp)
  have y1:=hbR.c 1 (by simp)
  have y2:=hbR.c 2 (by simp)
  have f0:=hbR.f 0
  have f1:=hbR.f 1
  have f2:=hbR.f 2
  have yl:=hbR.lt
  simp only [List.getElem_cons_zero,List.getElem_cons_succ] at y0 y1 y2
  have hX:=(((hbR.set 0 (.int .u8 kd) (by simp)).set 1 (.slice none 0 0) (by simp)).set 2 (.int .u64 0) (by simp))
  have ZZ0:=Hid.m (hX.c 0 (by simp))
  have ZZ1:=Hid.m (hX.c 1 (by simp))
  have ZZ2:=Hid.m (hX.c 2 (by simp))
  have HCG:=Hid.m (cgs_write (n:=w2.heap.size) (hL3.from HB2.out) rA3 rB3 hR3 hA3 hbU (show w.heap.size≤w.heap.size+2 by omega) (show w.heap.size+2<w2.heap.size by have:=HZ2.out;omega) 0 [.int .u8 kd,.slice none 0 0,.int .u64 0])
  unfold sets sets sets sets at HCG
  simp only [List.getElem_cons_zero,List.getElem_cons_succ,List.set_cons_zero,List.set_cons_succ] at ZZ0 ZZ1 ZZ2
  clear hX hbR hbU hR3 hL3 rA3 rB3 hA3 c1 cl x0 x1 x2 x3 x4 xl hWs
  go_wp2
  try simp only [Exit.inBlock,Exit.then]
  refine bodyPost_ret (v:=.tuple #[.agg #[.int .u8 kd,.slice none 0 0,.int .u64 0],.slice lo CH.length lc]) (by simp [results,Tryz.results142,go_sem,ZZ0.out,ZZ1.out,ZZ2.out]) rfl ⟨lo,lc,rfl,HCG.out⟩
set_option maxHeartbeats 4000000 in
theorem count_m {N:Nat}{A:Ad}{s:Sh}{x:Ra}{F:Cp→Nat→Prop}{w:World}(I:Inv s)(hE:Eg N w A x F)(RA:RepA x s)(RB:RepB x s)(d:Cd){t:Nat}(htn:d.c.tenant=(t:Int))(ht:t<s.quotas.length){X:Im}(hd:dueI X s.now=false)(hby:0≤d.c.by_∧d.c.by_≤18446744073709551615)(hc:Calm It.Tab w (Un F))(hN:N<100000000){r:Sh × Rs × List Ch}
  (hr:r=match cntO X.value d.c.by_ (decide (d.c.kind=7)) with
   | none=>(s,⟨6,[],0⟩,[])
   | some (text,n)=>s.putR t ⟨X.key,text,X.flags,X.till,0⟩ n):
  Calls Tryz.prog 141 #[ptr A.b,.agg d.cl.toArray,X.v] w fun e w'=>∃ lo lc,e=.returned (.tuple #[.agg #[.int .u8 r.2.1.kind,.slice none 0 0,.int .u64 r.2.1.number],.slice lo r.2.2.length lc])∧Cgs (N+2) A r.1 F w w' lo r.2.2 lc:=by
 obtain ⟨W,hW⟩:∃ W,W=((w.alloc (.cells #[.int .u8 d.c.kind,.int .i64 t,.slice d.so d.c.keys.length d.sc,.string d.c.value,.int .u32 d.c.flags,.int .i64 d.c.life,.int .u64 d.c.unique,.int .u64 d.c.by_] 37)).alloc (.cells #[.string X.key,.string X.value,.int .u32 X.flags,.int .i64 X.till,.int .u64 X.unique] 76)).alloc (.cells #[.int .u8 0,.slice none 0 0,.int .u64 0] 30):=⟨_,rfl⟩
 have hBW:Below w.heap.size w W:=by rw [hW];exact g_on (g_on (g_alloc _ _) (g_alloc _ _)) (g_alloc _ _)
 have hWs:W.heap.size=w.heap.size+3:=by rw [hW];simp
 have hBC:GBx W w.heap.size [.int .u8 d.c.kind,.int .i64 t,.slice d.so d.c.keys.length d.sc,.string d.c.value,.int .u32 d.c.flags,.int .i64 d.c.life,.int .u64 d.c.unique,.int .u64 d.c.by_]:=by rw [hW];exact ((GBx.made w _ _).alloc _).alloc _
 have hBX:GBx W (w.heap.size+1) [.string X.key,.string X.value,.int .u32 X.flags,.int .i64 X.till,.int .u64 X.unique]:=by
  rw [hW]
  have:=(GBx.made (w.alloc (.cells #[.int .u8 d.c.kind,.int .i64 t,.slice d.so d.c.keys.length d.sc,.string d.c.value,.int .u32 d.c.flags,.int .i64 d.c.life,.int .u64 d.c.unique,.int .u64 d.c.by_] 37)) [.string X.key,.string X.value,.int .u32 X.flags,.int .i64 X.till,.int .u64 X.unique] 76).alloc (.cells #[.int .u8 0,.slice none 0 0,.int .u64 0] 30)
  rw [show (w.alloc (.cells #[.int .u8 d.c.kind,.int .i64 t,.slice d.so d.c.keys.length d.sc,.string d.c.value,.int .u32 d.c.flags,.int .i64 d.c.life,.int .u64 d.c.unique,.int .u64 d.c.by_] 37)).heap.size=w.heap.size+1 by simp] at this
  exact this
 have hBR:GBx W (w.heap.size+2) [.int .u8 0,.slice none 0 0,.int .u64 0]:=by
  rw [hW]
  have:=GBx.made ((w.alloc (.cells #[.int .u8 d.c.kind,.int .i64 t,.slice d.so d.c.keys.length d.sc,.string d.c.value,.int .u32 d.c.flags,.int .i64 d.c.life,.int .u64 d.c.unique,.int .u64 d.c.by_] 37)).alloc (.cells #[.string X.key,.string X.value,.int .u32 X.flags,.int .i64 X.till,.int .u64 X.unique] 76)) [.int .u8 0,.slice none 0 0,.int .u64 0] 30
  rw [show ((w.alloc (.cells #[.int .u8 d.c.kind,.int .i64 t,.slice d.so d.c.keys.length d.sc,.string d.c.value,.int .u32 d.c.flags,.int .i64 d.c.life,.int .u64 d.c.unique,.int .u64 d.c.by_] 37)).alloc (.cells #[.string X.key,.string X.value,.int .u32 X.flags,.int .i64 X.till,.int .u64 X.unique] 76)).heap.size=w.heap.size+2 by simp] at this
  exact this
 have hEW:=hE.below hBW
 have HUR:Hid (¬ Un F (w.heap.size+2)):=fun hu=>by have:=hE.un _ hu;omega
 have HEW:=Hid.m hEW
 have HPT:Hid (∀ (W0:World) (hb:Below w.heap.size w W0) (Y:Im),dueI Y s.now=false→Calls Tryz.prog 190 #[ptr A.b,.int .i64 t,Y.v] W0 fun e w'=>∃ lo lc,e=.returned (.tuple #[.int .u8 (s.put t Y).2.1,.slice lo (s.put t Y).2.2.length lc])∧Cgs (N+2) A (s.put t Y).1 F W0 w' lo (s.put t Y).2.2 lc):=fun W0 hb Y hY=>put_m I (hE.below hb) RA RB ht hY hN
 obtain ⟨B,hB⟩:∃ B:Nat,d.c.by_=(B:Int):=⟨d.c.by_.toNat,by omega⟩
 have HCT:=Hid.m (It.count_any X.value B (by omega) (d.c.kind==7) W (hc.below hBW).tb)
 have HBC:=Hid.m hBC
 have HBX:=Hid.m hBX
 have HBR:=Hid.m hBR
 have HBW:=Hid.m hBW
 have c0:=hBC.c 0 (by simp)
 have c1:=hBC.c 1 (by simp)
 have c3:=hBC.c 3 (by simp)
 have c7:=hBC.c 7 (by simp)
 have cl:=hBC.lt
 have x1:=hBX.c 1 (by simp)
 have xl:=hBX.lt
 simp only [List.getElem_cons_zero,List.getElem_cons_succ] at c0 c1 c3 c7 x1
 have y0:=hBR.c 0 (by simp)
 have y1:=hBR.c 1 (by simp)
 have y2:=hBR.c 2 (by simp)
 have f0:=hBR.f 0
 have f1:=hBR.f 1
 have f2:=hBR.f 2
 have yl:=hBR.lt
 simp only [List.getElem_cons_zero,List.getElem_cons_succ] at y0 y1 y2
 unfold Cd.cl
 rw [htn]
 rw [hB] at c7 hW ⊢
 by_cases hg:isNum X.value.data.toList=true
 case neg=>
  have hr2:r=(s,⟨6,[],0⟩,[]):=by rw [hr];unfold cntO;rw [if_neg hg]
  have hg2:It.isNum (It.bl X.value)=false:=by
   have h9:It.isNum X.value.data.toList=false:=by simpa using hg
   exact h9
  rw [hg2] at HCT
  rw [hr2]
  have HCG:Hid (∀ W1,Below W.heap.size W W1→Cgs (N+2) A s F w (((W1.setCell ⟨w.heap.size+2,0,none⟩ (.int .u8 6)).setCell ⟨w.heap.size+2,1,none⟩ (.slice none 0 0)).setCell ⟨w.heap.size+2,2,none⟩ (.int .u64 0)) none [] 0):=fun W1 hb=>by
   have:=cgs_write (n:=W.heap.size) ((hE.lv (g_on hBW hb)).mono (show N≤N+2 by omega)) RA RB (GRd.nil W1) (fun a ha=>by cases ha) HUR.out (show w.heap.size≤w.heap.size+2 by omega) (by omega) 0 [.int .u8 6,.slice none 0 0,.int .u64 0]
   unfold sets sets sets sets at this
   exact this
  clear hE hEW RA RB hr hr2 hg hg2 hBC hBX hBR hBW HPT hd hc hby hB
  unfold ptr Im.v
  go_enter Tryz.func141,Tryz.ntmps141
  go_upto_region 1 with (fail)
  rw [← hW]
  clear hW
  go_upto_region 3 with (go_at_call 132;refine HCT.out.mono ?_;rintro e w1 ⟨rfl,hb1⟩;have HB1:=Hid.m hb1;clear hb1)
  have hR1:=HBR.out.below HB1.out
  have z0:=hR1.c 0 (by simp)
  have z1:=hR1.c 1 (by simp)
  have z2:=hR1.c 2 (by simp)
  have g0:=hR1.f 0
  have g1:=hR1.f 1
  have g2:=hR1.f 2
  have gl:=hR1.lt
  simp only [List.getElem_cons_zero,List.getElem_cons_succ] at z0 z1 z2
  have hX:=(((hR1.set 0 (.int .u8 6) (by simp)).set 1 (.slice none 0 0) (by simp)).set 2 (.int .u64 0) (by simp))
  have ZZ0:=Hid.m (hX.c 0 (by simp))
  have ZZ1:=Hid.m (hX.c 1 (by simp))
  have ZZ2:=Hid.m (hX.c 2 (by simp))
  simp only [List.getElem_cons_zero,List.getElem_cons_succ,List.set_cons_zero,List.set_cons_succ] at ZZ0 ZZ1 ZZ2
  have HC2:=Hid.m (HCG.out w1 HB1.out)
  clear hX hR1 y0 y1 y2 f0 f1 f2 yl HCG c0 c1 c3 c7 cl x1 xl
  go_wp2
  try simp only [Exit.inBlock,Exit.then]
  refine bodyPost_ret (v:=.tuple #[.agg #[.int .u8 6,.slice none 0 0,.int .u64 0],.slice none 0 0]) (by simp [results,Tryz.results141,go_sem,ZZ0.out,ZZ1.out,ZZ2.out]) rfl ⟨none,0,rfl,HC2.out⟩
 case pos=>
  obtain ⟨n,hn⟩:∃ n:Nat,n=It.cV X.value B (d.c.kind==7):=⟨_,rfl⟩
  obtain ⟨text,htx⟩:∃ text,text=It.cS X.value B (d.c.kind==7):=⟨_,rfl⟩
  have hg2:It.isNum (It.bl X.value)=true:=hg
  have hdk:decide (d.c.kind=7)=(d.c.kind==7):=by rw [Bool.eq_iff_iff];simp
  have hr2:r=s.putR t ⟨X.key,text,X.flags,X.till,0⟩ n:=by
   rw [hr,htx,hn,hB]
   unfold cntO It.cS It.cV It.cntN
   rw [if_pos hg,hdk,if_pos hg2,if_pos hg2,Int.toNat_natCast]
   rfl
  rw [hg2,← hn,← htx] at HCT
  have hpu:s.put t ⟨X.key,text,X.flags,X.till,0⟩=s.put t ⟨X.key,text,X.flags,X.till,X.unique⟩:=rfl
  obtain ⟨Y,hY⟩:∃ Y:Im,Y=⟨X.key,text,X.flags,X.till,X.unique⟩:=⟨_,rfl⟩
  have HPY:=Hid.m (fun W0 (hb:Below w.heap.size w W0)=>HPT.out W0 hb Y (by rw [hY];exact hd))
  rw [show Y.v=.agg #[.string X.key,.string text,.int .u32 X.flags,.int .i64 X.till,.int .u64 X.unique] by rw [hY];rfl] at HPY
  have hr3:r=((s.put t Y).1,⟨(s.put t Y).2.1,[],if (s.put t Y).2.1=1 then (n:Int) else 0⟩,(s.put t Y).2.2):=by rw [hr2,hY];unfold Sh.putR;rw [hpu]
  rw [hr3]
  dsimp only
  obtain ⟨kd,hkd⟩:∃ kd,kd=(s.put t Y).2.1:=⟨_,rfl⟩
  obtain ⟨CH,hCH⟩:∃ CH,CH=(s.put t Y).2.2:=⟨_,rfl⟩
  obtain ⟨s',hs'⟩:∃ s',s'=(s.put t Y).1:=⟨_,rfl⟩
  rw [← hkd,← hCH,← hs'] at HPY ⊢
  obtain ⟨NB,hNB⟩:∃ NB:Int,NB=if kd=1 then (n:Int) else 0:=⟨_,rfl⟩
  rw [← hNB]
  have HNB:=Hid.m hNB
  clear hNB hn
  clear hE hEW RA RB hr hr2 hr3 hg hg2 hBC hBX hBR hBW HPT hd hpu hY hkd hCH hs' htx hc hby hB hdk
  unfold ptr at HPY
  unfold ptr Im.v
  go_enter Tryz.func141,Tryz.ntmps141
  go_upto_region 1 with (fail)
  rw [← hW]
  clear hW
  go_upto_region 4 with (go_at_call 132;refine HCT.out.mono ?_;rintro e w1 ⟨rfl,hb1⟩;have HB1:=Hid.m hb1;clear hb1)
  have hX1:=HBX.out.below HB1.out
  have z1:=hX1.c 1 (by simp)
  have zf:=hX1.f 1
  have zl:=hX1.lt
  simp only [List.getElem_cons_zero,List.getElem_cons_succ] at z1
  obtain ⟨w2,hw2⟩:∃ w2,w2=w1.setCell ⟨w.heap.size+1,1,none⟩ (.string text):=⟨_,rfl⟩
  have hX2:GBx w2 (w.heap.size+1) [.string X.key,.string text,.int .u32 X.flags,.int .i64 X.till,.int .u64 X.unique]:=by rw [hw2];exact (hX1.set 1 (.string text) (by simp)).ext (by simp)
  have hC2:GBx w2 w.heap.size [.int .u8 d.c.kind,.int .i64 t,.slice d.so d.c.keys.length d.sc,.string d.c.value,.int .u32 d.c.flags,.int .i64 d.c.life,.int .u64 d.c.unique,.int .u64 d.c.by_]:=by rw [hw2];exact (HBC.out.below HB1.out).other _ _ (by omega)
  have hR2:GBx w2 (w.heap.size+2) [.int .u8 0,.slice none 0 0,.int .u64 0]:=by rw [hw2];exact (HBR.out.below HB1.out).other _ _ (by omega)
  have hB2:Below w.heap.size w w2:=by rw [hw2];exact (g_on HBW.out HB1.out).setCell (p:=⟨w.heap.size+1,1,none⟩) (by show w.heap.size≤w.heap.size+1;omega) _
  have HB2:=Hid.m hB2
  have HR2:=Hid.m hR2
  have HZ2:Hid (W.heap.size≤w2.heap.size):=by show _≤_;rw [hw2];simpa using HB1.out.size
  clear y0 y1 y2 f0 f1 f2 yl c0 c1 c3 c7 cl x1 xl
  go_upto_region 5 with (fail)
  rw [← hw2]
  clear hw2 z1 zf zl hX1
  have c1:=hC2.c 1 (by simp)
  have cl:=hC2.lt
  have x0:=hX2.c 0 (by simp)
  have x1:=hX2.c 1 (by simp)
  have x2:=hX2.c 2 (by simp)
  have x3:=hX2.c 3 (by simp)
  have x4:=hX2.c 4 (by simp)
  have xl:=hX2.lt
  simp only [List.getElem_cons_zero,List.getElem_cons_succ] at c1 x0 x1 x2 x3 x4
  clear hC2 hX2 hR2 hB2
  go_upto_region 6 with (go_at_call 190;refine (HPY.out w2 HB2.out).mono ?_;rintro e w3 ⟨lo,lc,rfl,hG⟩;have HG:=Hid.m hG;clear hG)
  obtain ⟨hR3,F3,x3',hL3,rA3,rB3,hA3⟩:=HG.out
  obtain ⟨hbR,hbU⟩:=hL3.box HR2.out HUR.out
  have y0:=hbR.c 0 (by simp)
  have y1:=hbR.c 1 (by simp)
  have y2:=hbR.c 2 (by simp)
  have f0:=hbR.f 0
  have f1:=hbR.f 1
  have f2:=hbR.f 2
  have yl:=hbR.lt
  simp only [List.getElem_cons_zero,List.getElem_cons_succ] at y0 y1 y2
  have hX:=(((hbR.set 0 (.int .u8 kd) (by simp)).set 1 (.slice none 0 0) (by simp)).set 2 (.int .u64 NB) (by simp))
  have ZZ0:=Hid.m (hX.c 0 (by simp))
  have ZZ1:=Hid.m (hX.c 1 (by simp))
  have ZZ2:=Hid.m (hX.c 2 (by simp))
  have HCG:=Hid.m (cgs_write (n:=w2.heap.size) (hL3.from HB2.out) rA3 rB3 hR3 hA3 hbU (show w.heap.size≤w.heap.size+2 by omega) (show w.heap.size+2<w2.heap.size by have:=HZ2.out;omega) 0 [.int .u8 kd,.slice none 0 0,.int .u64 NB])
  unfold sets sets sets sets at HCG
  simp only [List.getElem_cons_zero,List.getElem_cons_succ,List.set_cons_zero,List.set_cons_succ] at ZZ0 ZZ1 ZZ2
  clear hX hbR hbU hR3 hL3 rA3 rB3 hA3 c1 cl x0 x1 x2 x3 x4 xl hWs
  by_cases hk1:kd=1
  ·have hkb:(kd != 1)=false:=by rw [hk1];rfl
   have hNB:NB=n:=by rw [HNB.out,if_pos hk1]
   clear HNB hk1
   subst hNB
   go_wp2
   try simp only [Exit.inBlock,Exit.then]
   refine bodyPost_ret (v:=.tuple #[.agg #[.int .u8 kd,.slice none 0 0,.int .u64 n],.slice lo CH.length lc]) (by simp [results,Tryz.results141,go_sem,ZZ0.out,ZZ1.out,ZZ2.out]) rfl ⟨lo,lc,rfl,HCG.out⟩
  ·have hkb:(kd != 1)=true:=by simpa using hk1
   have hNB:NB=0:=by rw [HNB.out,if_neg hk1]
   clear HNB hk1
   subst hNB
   go_wp2
   try simp only [Exit.inBlock,Exit.then]
   refine bodyPost_ret (v:=.tuple #[.agg #[.int .u8 kd,.slice none 0 0,.int .u64 0],.slice lo CH.length lc]) (by simp [results,Tryz.results141,go_sem,ZZ0.out,ZZ1.out,ZZ2.out]) rfl ⟨lo,lc,rfl,HCG.out⟩
end Go.Proofs.YtcdpiefflnaghaaGreatDoor.En
namespace Go.Proofs.YtcdpiefflnaghaaGreatDoor.En
open Go.Proofs.YtcdpiefflnaghaaGreatDoor.It
open Go.Proofs.YtcdpiefflnaghaaGreatDoor.Lr
open Go.Proofs.YtcdpiefflnaghaaGreatDoor.Qt
open Go.Proofs.YtcdpiefflnaghaaGreatDoor.Sb
open Go.RowKit Go.Proofs.YtcdpiefflnaghaaGreatDoor
section
variable {x:Ra} {s:Sh}
theorem RepA.hit (I:Inv s)(RA:RepA x s){h:Hd}(hm:h∈s.held):RepA { x with ord:=upn x.ord (h.tenant.toNat * 5+(cls h.item).toNat) ((x.ord (h.tenant.toNat * 5+(cls h.item).toNat)).hit h.item.key) } (s.hitH h):=by
 have ht:=I.t4 hm
 have hc:=cls_lt h.item
 refine ⟨RA.quo,RA.now,RA.pages,?_,RA.last⟩
 intro t c h4 h5
 show upn x.ord _ _ (t * 5+c)=upd s.ord _ _ _ t c
 by_cases e:(t:Int)=h.tenant∧(c:Int)=cls h.item
 ·obtain ⟨e1,e2⟩:=e
  rw [← e1,← e2,Int.toNat_natCast,Int.toNat_natCast,upn_same,upd_same,RA.ord t c h4 h5]
 ·rw [upd_other e,upn_other,RA.ord t c h4 h5]
  intro e2
  exact e ⟨by omega,by omega⟩
theorem RepB.hit (RB:RepB x s)(h:Hd)(o:Nat→Od):RepB { x with ord:=o } (s.hitH h):=⟨RB.T,RB.L,RB.kl,RB.kept,RB.row⟩
theorem rep_touch (I:Inv s)(RA:RepA x s)(RB:RepB x s){i:Nat}(hi:i<s.held.length)(till:Int)(o:Nat→Od):
  RepB { x with ord:=o,L:=dueL x.L (s.held[i].tenant,s.held[i].item.at_ till),kept:=x.kept.set s.held[i].pl (s.held[i].tenant,s.held[i].item.at_ till),row:=x.row.erase (s.held[i].pl:Int)++[(s.held[i].pl:Int)] } (s.retimeH i s.held[i] till):=by
 have hm:=List.getElem_mem hi
 have F:=RB.forget I hi
 have hlen:s.held[i].pl<x.kept.length:=by rw [RB.kl];exact I.pl_lt hm
 have hme:∀ {y:Hd},y∈s.held.eraseIdx i↔y∈s.held∧y≠s.held[i]:=mem_eraseIdx_iff (held_nodup I.names) hi
 have hperm:(s.held.eraseIdx i++[s.held[i]]).Perm s.held:=(List.perm_append_comm).trans (cons_erase_perm hi)
 refine ⟨?_,?_,?_,?_,?_⟩
 ·show x.T.Perm ((s.held.eraseIdx i++[s.held[i].at_ till]).map _)
  refine RB.T.trans ?_
  have e:(s.held.eraseIdx i++[s.held[i].at_ till]).map (fun h=>(h.name,(h.pl:Int)))=(s.held.eraseIdx i++[s.held[i]]).map (fun h=>(h.name,(h.pl:Int))):=by
   rw [List.map_append,List.map_append]
   rfl
  rw [e]
  exact (hperm.map _).symm
 ·show (dueL x.L _).Perm (((s.held.eraseIdx i++[s.held[i].at_ till]).filter _).map _)
  have hL:(strikeN s.held[i].name x.L).Perm (((s.held.eraseIdx i).filter fun h=>decide (h.item.till≠0)).map Hd.due):=F.L
  rw [List.filter_append,List.map_append]
  unfold dueL
  by_cases e:till=0
  ·rw [if_pos (show (s.held[i].item.at_ till).till=0 from e)]
   have e2:([s.held[i].at_ till].filter fun h=>decide (h.item.till≠0))=[]:=by simp [Hd.at_,Im.at_,e]
   rw [e2,List.map_nil,List.append_nil]
   exact hL
  ·rw [if_neg (show ¬ (s.held[i].item.at_ till).till=0 from e)]
   have e2:([s.held[i].at_ till].filter fun h=>decide (h.item.till≠0))=[s.held[i].at_ till]:=by simp [Hd.at_,Im.at_,e]
   rw [e2]
   refine ((hL.cons _).trans ?_)
   exact (List.perm_append_singleton _ _).symm
 ·show (x.kept.set _ _).length=s.pages.length * 16
  rw [List.length_set,RB.kl]
 ·intro h hh
  have hh':h∈s.held.eraseIdx i++[s.held[i].at_ till]:=hh
  show (x.kept.set _ _)[h.pl]? = _
  rcases List.mem_append.1 hh' with h5 | h5
  ·have h6:=hme.1 h5
   rw [List.getElem?_set_ne fun e=>h6.2 (I.pl_inj hm h6.1 e).symm]
   exact RB.kept h h6.1
  ·simp only [List.mem_singleton] at h5
   subst h5
   show (x.kept.set s.held[i].pl _)[s.held[i].pl]? = _
   rw [List.getElem?_set_self hlen]
   rfl
 ·show x.row.erase _++[_]=(s.held.eraseIdx i++[s.held[i].at_ till]).map _
  have hr:x.row.erase (s.held[i].pl:Int)=(s.held.eraseIdx i).map fun h=>(h.pl:Int):=F.row
  rw [hr,List.map_append]
  rfl
end
end Go.Proofs.YtcdpiefflnaghaaGreatDoor.En
namespace Go.Proofs.YtcdpiefflnaghaaGreatDoor.En
open Go.Proofs.YtcdpiefflnaghaaGreatDoor.It
open Go.Proofs.YtcdpiefflnaghaaGreatDoor.Lr
open Go.Proofs.YtcdpiefflnaghaaGreatDoor.Qt
open Go.Proofs.YtcdpiefflnaghaaGreatDoor.Sb
open Go.RowKit Go.Proofs.YtcdpiefflnaghaaGreatDoor
set_option maxHeartbeats 4000000 in
theorem touch_m {N:Nat}{A:Ad}{s:Sh}{x:Ra}{F:Cp→Nat→Prop}{w:World}(I:Inv s)(hE:Eg N w A x F)(RA:RepA x s)(RB:RepB x s)(d:Cd)(hl:0≤d.c.life∧d.c.life≤1099511627776){i:Nat}(hi:i<s.held.length)(hN:N<100000000):
  Calls Tryz.prog 143 #[ptr A.b,.agg d.cl.toArray,.int .i64 s.held[i].pl] w fun e w'=>∃ lo lc,e=.returned (.tuple #[.agg #[.int .u8 1,.slice none 0 0,.int .u64 0],.slice lo 1 lc])∧Cgs (N+2) A (s.retimeH i s.held[i] (aftI s.now d.c.life)) F w w' lo [.put s.held[i].tenant (s.held[i].item.at_ (aftI s.now d.c.life))] lc:=by
 have hm:=List.getElem_mem hi
 have hlv:=lvs_of I I RA RB hm hm
 have hlen:=RB.lens I
 have hao:=aft_ok I.mom hl
 have RAh:=RA.hit I hm
 have RBt:=rep_touch I RA RB hi (aftI s.now d.c.life) (upn x.ord (s.held[i].tenant.toNat * 5+(cls s.held[i].item).toNat) ((x.ord (s.held[i].tenant.toNat * 5+(cls s.held[i].item).toNat)).hit s.held[i].item.key))
 obtain ⟨h,hh⟩:∃ h,h=s.held[i]:=⟨_,rfl⟩
 rw [← hh] at hm hlv RAh RBt ⊢
 obtain ⟨hpk,hpz⟩:=List.getElem?_eq_some_iff.1 (RB.kept h hm)
 obtain ⟨W,hW⟩:∃ W,W=(w.alloc (.cells #[.int .u8 d.c.kind,.int .i64 d.c.tenant,.slice d.so d.c.keys.length d.sc,.string d.c.value,.int .u32 d.c.flags,.int .i64 d.c.life,.int .u64 d.c.unique,.int .u64 d.c.by_] 37)).alloc (.cells #[.int .u8 0,.slice none 0 0,.int .u64 0] 30):=⟨_,rfl⟩
 have hBW:Below w.heap.size w W:=by rw [hW];exact g_on (g_alloc _ _) (g_alloc _ _)
 have hWs:W.heap.size=w.heap.size+2:=by rw [hW];simp
 have hBC:GBx W w.heap.size [.int .u8 d.c.kind,.int .i64 d.c.tenant,.slice d.so d.c.keys.length d.sc,.string d.c.value,.int .u32 d.c.flags,.int .i64 d.c.life,.int .u64 d.c.unique,.int .u64 d.c.by_]:=by rw [hW];exact (GBx.made w _ _).alloc _
 have hBR:GBx W (w.heap.size+1) [.int .u8 0,.slice none 0 0,.int .u64 0]:=by
  rw [hW]
  have:=GBx.made (w.alloc (.cells #[.int .u8 d.c.kind,.int .i64 d.c.tenant,.slice d.so d.c.keys.length d.sc,.string d.c.value,.int .u32 d.c.flags,.int .i64 d.c.life,.int .u64 d.c.unique,.int .u64 d.c.by_] 37)) [.int .u8 0,.slice none 0 0,.int .u64 0] 30
  rw [show (w.alloc (.cells #[.int .u8 d.c.kind,.int .i64 d.c.tenant,.slice d.so d.c.keys.length d.sc,.string d.c.value,.int .u32 d.c.flags,.int .i64 d.c.life,.int .u64 d.c.unique,.int .u64 d.c.by_] 37)).heap.size=w.heap.size+1 by simp] at this
  exact this
 have HEW:=Hid.m (hE.below hBW)
 have HUR:Hid (¬ Un F (w.heap.size+1)):=fun hu=>by have:=hE.un _ hu;omega
 have HUN:=Hid.m hE.un
 have HUT:=Hid.m (fun W0 (hb:Below w.heap.size w W0)=>until_any (hE.below hb) d (by rw [RA.now];exact I.mom) hl)
 rw [RA.now] at HUT
 have HHT:=Hid.m (fun W0 (hb:Below w.heap.size w W0)=>hit_l (hE.below hb) hlv)
 obtain ⟨M,hM⟩:∃ M,M=aftI s.now d.c.life:=⟨_,rfl⟩
 rw [← hM] at HUT RBt hao ⊢
 obtain ⟨xh,hxh⟩:∃ xh,xh=({ x with ord:=upn x.ord (h.tenant.toNat * 5+(cls h.item).toNat) ((x.ord (h.tenant.toNat * 5+(cls h.item).toNat)).hit h.item.key) }:Ra):=⟨_,rfl⟩
 obtain ⟨xt,hxt⟩:∃ xt,xt=({ xh with L:=dueL xh.L (h.tenant,h.item.at_ M),kept:=xh.kept.set h.pl (h.tenant,h.item.at_ M),row:=xh.row.erase (h.pl:Int)++[(h.pl:Int)] }:Ra):=⟨_,rfl⟩
 have HKP:Hid (∀ W0 F0,Eg N W0 A xh F0→Calls Tryz.prog 174 #[ptr A.b,.int .i64 h.pl,.agg (EK.cells (h.tenant,h.item.at_ M)).toArray] W0 fun e w'=>e=.returned (.tuple #[])∧∃ F',Lv (N+2) A xt F0 W0 w' F'):=fun W0 F0 hE0=>by
  rw [hxt]
  refine keep_any hE0 (by rw [hxh];exact hpk) (by rw [hxh];show x.kept.length≤_;omega) (by rw [hxh];show x.row.length≤_;omega) (z:=(h.tenant,h.item.at_ M)) (I.okN hm) hN ?_
  rw [hxh]
  show M=0∨((x.now:Int)<M∧M≤1099511627776)
  rw [RA.now]
  rcases hao.2 with h1 | h1
  ·exact .inl h1
  ·have h2:=hao.1
   simp only [momI,decide_eq_true_eq] at h2
   exact .inr ⟨h1,h2.2⟩
 have HRA:Hid (RepA xt (s.retimeH i h M)):=by rw [hxt,hxh];exact ⟨RAh.quo,RAh.now,RAh.pages,RAh.ord,RAh.last⟩
 have HRB:Hid (RepB xt (s.retimeH i h M)):=by rw [hxt,hxh];exact RBt
 rw [← hxh] at HHT
 obtain ⟨V,hEv⟩:=hE.below hBW
 obtain ⟨ro,rc,hI⟩:=hEv.itm
 have c25:=hEv.c25
 have i0:=hI.h0
 obtain ⟨k0,k1,k2,k3,k4,k5⟩:=hI.at_ hpk
 rw [hpz] at k0 k1 k2 k3 k4 k5
 have bl:=hEv.lt
 have il:=hI.head.lt
 have kl:=hI.body.lt
 have HPU:=Hid.m (fun W0=>eputting_any (h.tenant,h.item.at_ M) W0)
 simp only [EK,Im.at_] at HPU HKP
 unfold Ch.v at HPU
 simp only [Ch.kd,Ch.tn,Ch.im,Ch.key,Ch.why,Ch.to] at HPU
 have HBC:=Hid.m hBC
 have HBR:=Hid.m hBR
 have HBW:=Hid.m hBW
 obtain ⟨K,hK⟩:∃ K,K=x.kept.length:=⟨_,rfl⟩
 rw [← hK] at i0
 obtain ⟨p,hp⟩:∃ p,p=h.pl:=⟨_,rfl⟩
 have hp2:(p:Int)<(K:Int):=by omega
 rw [← hp] at HHT HKP k0 k1 k2 k3 k4 k5 ⊢
 unfold Cd.cl at HUT ⊢
 have HWS:=Hid.m hWs
 clear hWs
 clear hE hEv hI RA RB RAh RBt hlv hlen hao hm hpk hpz hBC hBR hBW hM hxh hxt hK hp hl hN I hh
 unfold ptr at c25 HUT HHT HKP ⊢
 go_enter Tryz.func143,Tryz.ntmps143
 go_upto_region 1 with (fail)
 rw [← hW]
 clear hW
 go_upto_region 2 with (fail)
 clear c25 i0 k0 k1 k2 k3 k4 k5 bl il kl
 obtain ⟨w1,hw1⟩:∃ w1,w1=W.alloc (.cells #[.int .i64 h.tenant,.string h.item.key,.string h.item.value,.int .u32 h.item.flags,.int .i64 h.item.till,.int .u64 h.item.unique] 141):=⟨_,rfl⟩
 have hB1:Below w.heap.size w w1:=by rw [hw1];exact g_on HBW.out (g_alloc _ _)
 have hK1:GBx w1 W.heap.size [.int .i64 h.tenant,.string h.item.key,.string h.item.value,.int .u32 h.item.flags,.int .i64 h.item.till,.int .u64 h.item.unique]:=by rw [hw1];exact GBx.made W _ _
 have hC1:GBx w1 w.heap.size [.int .u8 d.c.kind,.int .i64 d.c.tenant,.slice d.so d.c.keys.length d.sc,.string d.c.value,.int .u32 d.c.flags,.int .i64 d.c.life,.int .u64 d.c.unique,.int .u64 d.c.by_]:=by rw [hw1];exact HBC.out.alloc _
 have hR1:GBx w1 (w.heap.size+1) [.int .u8 0,.slice none 0 0,.int .u64 0]:=by rw [hw1];exact HBR.out.alloc _
 have HB1:=Hid.m hB1
 have HK1:=Hid.m hK1
 have HR1:=Hid.m hR1
 rw [← hw1]
 clear hw1
 have c0:=hC1.c 0 (by simp)
 have c1:=hC1.c 1 (by simp)
 have c2:=hC1.c 2 (by simp)
 have c3:=hC1.c 3 (by simp)
 have c4:=hC1.c 4 (by simp)
 have c5:=hC1.c 5 (by simp)
 have c6:=hC1.c 6 (by simp)
 have c7:=hC1.c 7 (by simp)
 have cl:=hC1.lt
 simp only [List.getElem_cons_zero,List.getElem_cons_succ] at c0 c1 c2 c3 c4 c5 c6 c7
 clear hC1 hR1 hK1 hB1
 go_upto_region 3 with (go_at_call 191;refine (HUT.out w1 HB1.out).mono ?_;rintro e w2 ⟨rfl,hb2⟩;have HB2:=Hid.m hb2;have k4:=(HK1.out.below hb2).c 4 (by simp);have kf:=(HK1.out.below hb2).f 4;have kl:=(HK1.out.below hb2).lt;simp only [List.getElem_cons_zero,List.getElem_cons_succ] at k4;clear hb2)
 obtain ⟨w3,hw3⟩:∃ w3,w3=w2.setCell ⟨W.heap.size,4,none⟩ (.int .i64 M):=⟨_,rfl⟩
 have hK3:GBx w3 W.heap.size [.int .i64 h.tenant,.string h.item.key,.string h.item.value,.int .u32 h.item.flags,.int .i64 M,.int .u64 h.item.unique]:=by rw [hw3];exact ((HK1.out.below HB2.out).set 4 (.int .i64 M) (by simp)).ext (by simp)
 have hR3:GBx w3 (w.heap.size+1) [.int .u8 0,.slice none 0 0,.int .u64 0]:=by rw [hw3];exact (HR1.out.below HB2.out).other _ _ (by have:=HWS.out;omega)
 have hB3:Below w.heap.size w w3:=by rw [hw3];exact (g_on HB1.out HB2.out).setCell (p:=⟨W.heap.size,4,none⟩) (by show w.heap.size≤W.heap.size;have:=HWS.out;omega) _
 have HK3:=Hid.m hK3
 have HR3:=Hid.m hR3
 have HB3:=Hid.m hB3
 have HUK:Hid (¬ Un F W.heap.size):=fun hu=>by have:=HUN.out _ hu;have:=HWS.out;omega
 have HKR:Hid (w.heap.size+1<W.heap.size):=by show _<_;have:=HWS.out;omega
 rw [← hw3]
 clear hw3 k4 kf kl c0 c1 c2 c3 c4 c5 c6 c7 cl hK3 hR3 hB3
 go_upto_region 4 with (go_at_call 137;refine (HHT.out w3 HB3.out).mono ?_;rintro e w4 ⟨rfl,F4,hL4⟩;have HL4:=Hid.m hL4;have HK4:=Hid.m (hL4.box HK3.out HUK.out);have HR4:=Hid.m (hL4.box HR3.out HUR.out);clear hL4)
 have z0:=HK4.out.1.c 0 (by simp)
 have z1:=HK4.out.1.c 1 (by simp)
 have z2:=HK4.out.1.c 2 (by simp)
 have z3:=HK4.out.1.c 3 (by simp)
 have z4:=HK4.out.1.c 4 (by simp)
 have z5:=HK4.out.1.c 5 (by simp)
 have zl:=HK4.out.1.lt
 simp only [List.getElem_cons_zero,List.getElem_cons_succ] at z0 z1 z2 z3 z4 z5
 go_upto_region 5 with (go_at_call 174;refine (HKP.out w4 F4 HL4.out.eg).mono ?_;rintro e w5 ⟨rfl,F5,hL5⟩;have HL5:=Hid.m (HL4.out.trans hL5);have HK5:=Hid.m (hL5.box HK4.out.1 HK4.out.2);have HR5:=Hid.m (hL5.box HR4.out.1 HR4.out.2);clear hL5)
 clear z0 z1 z2 z3 z4 z5 zl
 have z0:=HK5.out.1.c 0 (by simp)
 have z1:=HK5.out.1.c 1 (by simp)
 have z2:=HK5.out.1.c 2 (by simp)
 have z3:=HK5.out.1.c 3 (by simp)
 have z4:=HK5.out.1.c 4 (by simp)
 have z5:=HK5.out.1.c 5 (by simp)
 have zl:=HK5.out.1.lt
 simp only [List.getElem_cons_zero,List.getElem_cons_succ] at z0 z1 z2 z3 z4 z5
 go_wp2_with (go_at_call 193;refine (HPU.out _).mono ?_;rintro e w6 ⟨rfl,hb6⟩;have HB6:=Hid.m hb6;have hr6:=(HR5.out.1.below hb6).alloc (.cells #[.int .u8 1,.int .i64 h.tenant,.string h.item.key,.string h.item.value,.int .u32 h.item.flags,.int .i64 M,.int .u64 h.item.unique,.string ⟨#[]⟩,.int .u8 0,.int .i64 0,.bool false] 78);have y0:=hr6.c 0 (by simp);have y1:=hr6.c 1 (by simp);have y2:=hr6.c 2 (by simp);have f0:=hr6.f 0;have f1:=hr6.f 1;have f2:=hr6.f 2;have yl:=hr6.lt;simp only [List.getElem_cons_zero,List.getElem_cons_succ] at y0 y1 y2;clear hb6 hr6)
 try simp only [Exit.inBlock,Exit.then]
 have hR6:GBx (w6.alloc (.cells #[.int .u8 1,.int .i64 h.tenant,.string h.item.key,.string h.item.value,.int .u32 h.item.flags,.int .i64 M,.int .u64 h.item.unique,.string ⟨#[]⟩,.int .u8 0,.int .i64 0,.bool false] 78)) (w.heap.size+1) [.int .u8 0,.slice none 0 0,.int .u64 0]:=(HR5.out.1.below HB6.out).alloc _
 have hX:=(((hR6.set 0 (.int .u8 1) (by simp)).set 1 (.slice none 0 0) (by simp)).set 2 (.int .u64 0) (by simp))
 have q0:=hX.c 0 (by simp)
 have q1:=hX.c 1 (by simp)
 have q2:=hX.c 2 (by simp)
 simp only [List.getElem_cons_zero,List.getElem_cons_succ,List.set_cons_zero,List.set_cons_succ] at q0 q1 q2
 have hN6:GRd EC (w6.alloc (.cells #[.int .u8 1,.int .i64 h.tenant,.string h.item.key,.string h.item.value,.int .u32 h.item.flags,.int .i64 M,.int .u64 h.item.unique,.string ⟨#[]⟩,.int .u8 0,.int .i64 0,.bool false] 78)) (some ⟨w6.heap.size,0,none⟩) [.put h.tenant (h.item.at_ M)] 1:=g_new okC w6 (.put h.tenant (h.item.at_ M))
 have hL6:=(HL5.out.from HB3.out).below (g_on HB6.out (g_alloc w6 (.cells #[.int .u8 1,.int .i64 h.tenant,.string h.item.key,.string h.item.value,.int .u32 h.item.flags,.int .i64 M,.int .u64 h.item.unique,.string ⟨#[]⟩,.int .u8 0,.int .i64 0,.bool false] 78)))
 have hs5:=HL5.out.kpt.size
 have hs3:=HB3.out.size
 have hs6:=HB6.out.size
 have hKl:=HK3.out.lt
 have hkr:=HKR.out
 have HCG:=cgs_write (n:=w6.heap.size) hL6 HRA.out HRB.out hN6 (fun a ha=>by cases ha;exact ⟨fun hu=>by have:=HL5.out.eg.un _ hu;show False;have h9:w6.heap.size<w5.heap.size:=this;omega,Nat.le_refl _,by simp⟩) HR5.out.2 (show w.heap.size≤w.heap.size+1 by omega) (show w.heap.size+1<w6.heap.size by omega) 0 [.int .u8 1,.slice none 0 0,.int .u64 0]
 unfold sets sets sets sets at HCG
 refine bodyPost_ret (v:=.tuple #[.agg #[.int .u8 1,.slice none 0 0,.int .u64 0],.slice (some ⟨w6.heap.size,0,none⟩) 1 1]) (by simp [results,Tryz.results143,go_sem,q0,q1,q2]) rfl ⟨some ⟨w6.heap.size,0,none⟩,1,rfl,HCG⟩
end Go.Proofs.YtcdpiefflnaghaaGreatDoor.En
