/-
  Package engine and what stands beneath it, part 35: contracts of functions, and what they rest on.
-/
import Derived.Test.YtcdpiefflnaghaaGreatDoorU34
set_option linter.unusedSimpArgs false
set_option linter.unusedVariables false
set_option maxRecDepth 100000
namespace Go.Proofs.YtcdpiefflnaghaaGreatDoor.En
open Go.Proofs.YtcdpiefflnaghaaGreatDoor.It
open Go.Proofs.YtcdpiefflnaghaaGreatDoor.Lr
open Go.Proofs.YtcdpiefflnaghaaGreatDoor.Qt
open Go.Proofs.YtcdpiefflnaghaaGreatDoor.Sb
open Go.RowKit Go.Proofs.YtcdpiefflnaghaaGreatDoor
def ZL:List Value:=[.pointer none,.pointer none,.pointer none,.pointer none,.pointer none,.pointer none,.pointer none,.pointer none,.pointer none,.pointer none,.pointer none,.pointer none,.pointer none,.pointer none,.pointer none,.pointer none,.pointer none,.pointer none,.pointer none,.pointer none,.pointer none,.pointer none,.pointer none,.pointer none,.slice none 0 0,.pointer none,.int .u64 0]
theorem Eg.c26' {N:Nat}{A:Ad}{x:Ra}{F:Cp→Nat→Prop}{w:World}(h:Eg N w A x F):w.cell? ⟨A.b,26,none⟩=some (.int .u64 x.last):=by
 obtain ⟨V,h⟩:=h
 exact h.c26
theorem Eg.b_lt {N:Nat}{A:Ad}{x:Ra}{F:Cp→Nat→Prop}{w:World}(h:Eg N w A x F):A.b<w.heap.size:=by
 obtain ⟨V,h⟩:=h
 exact h.lt
theorem put_large {N:Nat}{A:Ad}{x:Ra}{F:Cp→Nat→Prop}{w:World}(h:Eg N w A x F){t:Int}{X:Im}(hX:¬ (okI X=true∧szI X≤256)):
  Calls Tryz.prog 190 #[ptr A.b,.int .i64 t,X.v] w fun e w'=>e=.returned (.tuple #[.int .u8 4,.slice none 0 0])∧Below w.heap.size w w':=by
 have HCO:=Hid.m (fun W0=>classOf_bad X hX W0)
 obtain ⟨W,hW⟩:∃ W,W=w.alloc (.cells #[.string X.key,.string X.value,.int .u32 X.flags,.int .i64 X.till,.int .u64 X.unique] 76):=⟨_,rfl⟩
 have HBW:Hid (Below w.heap.size w W):=by rw [hW];exact g_alloc _ _
 clear h hX
 unfold Im.v at HCO ⊢
 unfold ptr
 go_enter Tryz.func190,Tryz.ntmps190
 go_wp2_with (go_at_call 111;rw [← hW];refine (HCO.out _).mono ?_;rintro e w1 ⟨⟨c,rfl⟩,hb1⟩;have HB1:=Hid.m (g_on HBW.out hb1);clear hb1)
 go_ret2
 exact ⟨rfl,HB1.out⟩
set_option maxHeartbeats 8000000 in
theorem put_mem_new {N:Nat}{A:Ad}{x xa:Ra}{F:Cp→Nat→Prop}{w:World}(h:Eg N w A x F){t c:Nat}{X:Im}(hX:okI X=true∧szI X≤256)(hcl:cls X=(c:Int))(hn:okN ((t:Int),X.key))(htl:x.T.length≤1000)(hlk:lkN x.T ((t:Int),X.key)=none)(hxa:x=xa){pg:List Pg}{od:Nat→Od}(hxr:xa={ x with pages:=pg,ord:=od })(hroom:∀ W F0,Eg N W A xa F0→Calls Tryz.prog 247 #[ptr A.b,.int .i64 t,.int .i64 c] W fun e w'=>e=.returned (.tuple #[.int .i64 0,.slice none 0 0,.bool false])∧Below W.heap.size W w'):
  Calls Tryz.prog 190 #[ptr A.b,.int .i64 t,X.v] w fun e w'=>e=.returned (.tuple #[.int .u8 5,.slice none 0 0])∧∃ F',Lv N A x F w w' F':=by
 have HUN:=Hid.m h.un
 obtain ⟨V,h⟩:=h
 have HE:=Hid.m h
 obtain ⟨CS,hCS⟩:∃ CS,CS=cellsE A V x.quotas.length x.last:=⟨_,rfl⟩
 have HCS:=Hid.m hCS
 have HCI:Hid ((Tryz.prog.info? 106).map (·.size)=some CS.length):=by
  show _=_
  rw [hCS,cells_len]
  kernel_rfl
 have HC1:Hid (∀ v∈CS,v.oneCell'=true):=by rw [hCS];exact cells_one _ _ _ _
 clear hCS
 obtain ⟨W,hW⟩:∃ W,W=w.alloc (.cells #[.string X.key,.string X.value,.int .u32 X.flags,.int .i64 X.till,.int .u64 X.unique] 76):=⟨_,rfl⟩
 obtain ⟨C,hC⟩:∃ C,C=w.heap.size:=⟨_,rfl⟩
 have HBW:Hid (Below w.heap.size w W):=by rw [hW];exact g_alloc _ _
 have HBX:Hid (GBx W C [.string X.key,.string X.value,.int .u32 X.flags,.int .i64 X.till,.int .u64 X.unique]):=by rw [hW,hC];exact GBx.made w _ _
 have HCC:=Hid.m hC
 have HUC:Hid (¬ Un F C):=fun hu=>by have:=HUN.out _ hu;have:=HCC.out;omega
 have HCO:=Hid.m (fun W0=>classOf_good X hX W0)
 rw [hcl] at HCO
 have HFD:=Hid.m (fun W0 (hb:Below w.heap.size w W0)=>find_any (⟨V,h.below hb⟩:Eg N W0 A x F) (n:=((t:Int),X.key)) hn htl)
 rw [hlk] at HFD
 simp only [Option.getD_some,Option.getD_none,Option.isSome_some,Option.isSome_none] at HFD
 have HRM:=Hid.m hroom
 subst hxa
 have HXR:=Hid.m hxr
 clear h hX hcl hn htl hlk hroom hxr
 unfold Im.v at HCO ⊢
 unfold ptr at HFD HRM ⊢
 have x0:=HBX.out.c 0 (by simp)
 have x1:=HBX.out.c 1 (by simp)
 have x2:=HBX.out.c 2 (by simp)
 have x3:=HBX.out.c 3 (by simp)
 have x4:=HBX.out.c 4 (by simp)
 have xl:=HBX.out.lt
 simp only [List.getElem_cons_zero,List.getElem_cons_succ] at x0 x1 x2 x3 x4
 go_enter Tryz.func190,Tryz.ntmps190
 go_upto_region 1 with (fail)
 rw [← hW,← hC]
 clear hW hC
 go_upto_region 4 with (go_at_call 111;refine (HCO.out _).mono ?_;rintro e w1 ⟨rfl,hb1⟩;have HB1:=Hid.m hb1;clear hb1)
 clear x0 x1 x2 x3 x4 xl
 have HBW1:=Hid.m (g_on HBW.out HB1.out)
 have hE1:=HE.out.below HBW1.out
 have HE1c:Hid (∀ j v,CS[j]? = some v→w1.cell? ⟨A.b,j,none⟩=some v):=fun j v hv=>by
  have hj:j<27:=by
   have:=(List.getElem?_eq_some_iff.1 hv).1
   rw [HCS.out,cells_len] at this
   exact this
  rw [hE1.c j hj,← HCS.out]
  exact hv
 have el:=hE1.lt
 have HZB:Hid (GBx (w1.alloc (.cells ZL.toArray 106)) w1.heap.size ZL):=GBx.made w1 ZL _
 have HC27:Hid (CS.length=27):=by show _=_;rw [HCS.out,cells_len]
 have HZC:Hid (∀ j,j<27→((w1.alloc (.cells ZL.toArray 106)).cell? ⟨w1.heap.size,j,none⟩).isSome=true):=fun j hj=>by rw [HZB.out.c j hj];rfl
 unfold ZL at HZB HZC
 clear hE1
 go_cut [10] from 20 (fun s10 wx=>∃ B,s10=.pointer (some ⟨B,0,none⟩)∧Hid (Below w.heap.size w wx∧w.heap.size≤B∧GBx wx B CS∧GBx wx C [.string X.key,.string X.value,.int .u32 X.flags,.int .i64 X.till,.int .u64 X.unique]∧¬ Un F B))
 case first=>
  go_wp2_with (first
   | (refine wpl_load rfl 106 _ rfl A.b rfl CS HE1c.out _ Tryz.underlying106 rfl HCI.out ?_)
   | (refine wpl_store rfl 106 _ _ rfl w1.heap.size CS rfl rfl HCI.out (fun j hj=>HZC.out j (by have:=HC27.out;omega)) (fun j _=>HZB.out.f j) HC1.out ?_))
  all_goals (try simp only [Act.put])
  go_meet
  case rel=>
   refine ⟨w1.heap.size,rfl,below_sets _ CS 0 (g_on HBW1.out (g_alloc _ _)) HBW1.out.size,HBW1.out.size,?_,?_,fun hu=>by have:=HUN.out _ hu;have:=HBW1.out.size;omega⟩
   ·have:=sets_box w1.heap.size CS ZL [] _ HZB.out (by rw [HC27.out];rfl)
    simpa using this
   ·exact ((HBX.out.below HB1.out).alloc _).kpt (Kpt.grown (sets_grown w1.heap.size CS _ 0)) (fun e=>by have:=HBX.out.lt;have:=HB1.out.size;omega)
 case rest=>
 obtain ⟨B,rfl,HC⟩:=hcut
 obtain ⟨w2,hw2⟩:∃ w2,w2=wc:=⟨_,rfl⟩
 rw [← hw2] at HC ⊢
 clear hw2 el HCO HBX
 have x0:=HC.out.2.2.2.1.c 0 (by simp)
 have xl:=HC.out.2.2.2.1.lt
 simp only [List.getElem_cons_zero,List.getElem_cons_succ] at x0
 go_upto_region 8 with (go_at_call 50;refine (HFD.out w2 HC.out.1).mono ?_;rintro e w3 ⟨rfl,F3,hL3⟩;have HL3:=Hid.m (hL3.from HC.out.1);have HLB:=Hid.m (hL3.box HC.out.2.2.1 HC.out.2.2.2.2);have HLX:=Hid.m (hL3.box HC.out.2.2.2.1 HUC.out);clear hL3)
 clear x0 xl HFD
 go_upto_region 10 with (go_at_call 247;refine (HRM.out w3 F3 HL3.out.eg).mono ?_;rintro e w5 ⟨rfl,hb5⟩;have HB5:=Hid.m hb5;clear hb5)
 have HL5:=Hid.m (HL3.out.below HB5.out)
 have hbB:=HLB.out.1.below HB5.out
 have bl:=hbB.lt
 have HBC:Hid (∀ j v,CS[j]? = some v→w5.cell? ⟨B,j,none⟩=some v):=fun j v hv=>by
  obtain ⟨hj,rfl⟩:=List.getElem?_eq_some_iff.1 hv
  exact hbB.c j hj
 rw [HXR.out] at HL5
 obtain ⟨F6,hL6⟩:=HE.out.restore HL5.out
 rw [← HCS.out] at hL6
 have HL6:=Hid.m hL6
 obtain ⟨V5,h5⟩:=HL5.out.eg
 have HEb:=Hid.m h5.eng.1
 have el:=HEb.out.lt
 have HEC:Hid (∀ j,j<CS.length→(w5.cell? ⟨A.b,j,none⟩).isSome=true):=fun j hj=>by
  have h27:=HC27.out
  rw [HEb.out.c j (by rw [cells_len];omega)]
  rfl
 clear hL6 h5 hbB HL3 HLB HLX
 go_wp2_with (first
  | (refine wpl_load rfl 106 _ rfl B rfl CS HBC.out _ Tryz.underlying106 rfl HCI.out ?_)
  | (refine wpl_store rfl 106 _ _ rfl A.b CS rfl rfl HCI.out HEC.out (fun j _=>HEb.out.f j) HC1.out ?_))
 go_ret2
 exact ⟨rfl,F6,HL6.out⟩
set_option maxHeartbeats 8000000 in
theorem put_mem_over {N:Nat}{A:Ad}{x xa:Ra}{F:Cp→Nat→Prop}{w:World}(h:Eg N w A x F){t c:Nat}{X:Im}(hX:okI X=true∧szI X≤256)(hcl:cls X=(c:Int))(hn:okN ((t:Int),X.key))(htl:x.T.length≤1000){p0:Nat}(hlk:lkN x.T ((t:Int),X.key)=some (p0:Int))(hrel:∀ W F0,Eg N W A x F0→Calls Tryz.prog 95 #[ptr A.b,.int .i64 p0] W fun e w'=>e=.returned (.tuple #[])∧∃ F',Lv N A xa F0 W w' F'){pg:List Pg}{od:Nat→Od}(hxr:xa={ x with pages:=pg,ord:=od })(hroom:∀ W F0,Eg N W A xa F0→Calls Tryz.prog 247 #[ptr A.b,.int .i64 t,.int .i64 c] W fun e w'=>e=.returned (.tuple #[.int .i64 0,.slice none 0 0,.bool false])∧Below W.heap.size W w'):
  Calls Tryz.prog 190 #[ptr A.b,.int .i64 t,X.v] w fun e w'=>e=.returned (.tuple #[.int .u8 5,.slice none 0 0])∧∃ F',Lv N A x F w w' F':=by
 have HUN:=Hid.m h.un
 obtain ⟨V,h⟩:=h
 have HE:=Hid.m h
 obtain ⟨CS,hCS⟩:∃ CS,CS=cellsE A V x.quotas.length x.last:=⟨_,rfl⟩
 have HCS:=Hid.m hCS
 have HCI:Hid ((Tryz.prog.info? 106).map (·.size)=some CS.length):=by
  show _=_
  rw [hCS,cells_len]
  kernel_rfl
 have HC1:Hid (∀ v∈CS,v.oneCell'=true):=by rw [hCS];exact cells_one _ _ _ _
 clear hCS
 obtain ⟨W,hW⟩:∃ W,W=w.alloc (.cells #[.string X.key,.string X.value,.int .u32 X.flags,.int .i64 X.till,.int .u64 X.unique] 76):=⟨_,rfl⟩
 obtain ⟨C,hC⟩:∃ C,C=w.heap.size:=⟨_,rfl⟩
 have HBW:Hid (Below w.heap.size w W):=by rw [hW];exact g_alloc _ _
 have HBX:Hid (GBx W C [.string X.key,.string X.value,.int .u32 X.flags,.int .i64 X.till,.int .u64 X.unique]):=by rw [hW,hC];exact GBx.made w _ _
 have HCC:=Hid.m hC
 have HUC:Hid (¬ Un F C):=fun hu=>by have:=HUN.out _ hu;have:=HCC.out;omega
 have HCO:=Hid.m (fun W0=>classOf_good X hX W0)
 rw [hcl] at HCO
 have HFD:=Hid.m (fun W0 (hb:Below w.heap.size w W0)=>find_any (⟨V,h.below hb⟩:Eg N W0 A x F) (n:=((t:Int),X.key)) hn htl)
 rw [hlk] at HFD
 simp only [Option.getD_some,Option.getD_none,Option.isSome_some,Option.isSome_none] at HFD
 have HRM:=Hid.m hroom
 have HRE:=Hid.m hrel
 have HXR:=Hid.m hxr
 clear h hX hcl hn htl hlk hroom hrel hxr
 unfold Im.v at HCO ⊢
 unfold ptr at HFD HRM HRE ⊢
 have x0:=HBX.out.c 0 (by simp)
 have x1:=HBX.out.c 1 (by simp)
 have x2:=HBX.out.c 2 (by simp)
 have x3:=HBX.out.c 3 (by simp)
 have x4:=HBX.out.c 4 (by simp)
 have xl:=HBX.out.lt
 simp only [List.getElem_cons_zero,List.getElem_cons_succ] at x0 x1 x2 x3 x4
 go_enter Tryz.func190,Tryz.ntmps190
 go_upto_region 1 with (fail)
 rw [← hW,← hC]
 clear hW hC
 go_upto_region 4 with (go_at_call 111;refine (HCO.out _).mono ?_;rintro e w1 ⟨rfl,hb1⟩;have HB1:=Hid.m hb1;clear hb1)
 clear x0 x1 x2 x3 x4 xl
 have HBW1:=Hid.m (g_on HBW.out HB1.out)
 have hE1:=HE.out.below HBW1.out
 have HE1c:Hid (∀ j v,CS[j]? = some v→w1.cell? ⟨A.b,j,none⟩=some v):=fun j v hv=>by
  have hj:j<27:=by
   have:=(List.getElem?_eq_some_iff.1 hv).1
   rw [HCS.out,cells_len] at this
   exact this
  rw [hE1.c j hj,← HCS.out]
  exact hv
 have el:=hE1.lt
 have HZB:Hid (GBx (w1.alloc (.cells ZL.toArray 106)) w1.heap.size ZL):=GBx.made w1 ZL _
 have HC27:Hid (CS.length=27):=by show _=_;rw [HCS.out,cells_len]
 have HZC:Hid (∀ j,j<27→((w1.alloc (.cells ZL.toArray 106)).cell? ⟨w1.heap.size,j,none⟩).isSome=true):=fun j hj=>by rw [HZB.out.c j hj];rfl
 unfold ZL at HZB HZC
 clear hE1
 go_cut [10] from 20 (fun s10 wx=>∃ B,s10=.pointer (some ⟨B,0,none⟩)∧Hid (Below w.heap.size w wx∧w.heap.size≤B∧GBx wx B CS∧GBx wx C [.string X.key,.string X.value,.int .u32 X.flags,.int .i64 X.till,.int .u64 X.unique]∧¬ Un F B))
 case first=>
  go_wp2_with (first
   | (refine wpl_load rfl 106 _ rfl A.b rfl CS HE1c.out _ Tryz.underlying106 rfl HCI.out ?_)
   | (refine wpl_store rfl 106 _ _ rfl w1.heap.size CS rfl rfl HCI.out (fun j hj=>HZC.out j (by have:=HC27.out;omega)) (fun j _=>HZB.out.f j) HC1.out ?_))
  all_goals (try simp only [Act.put])
  go_meet
  case rel=>
   refine ⟨w1.heap.size,rfl,below_sets _ CS 0 (g_on HBW1.out (g_alloc _ _)) HBW1.out.size,HBW1.out.size,?_,?_,fun hu=>by have:=HUN.out _ hu;have:=HBW1.out.size;omega⟩
   ·have:=sets_box w1.heap.size CS ZL [] _ HZB.out (by rw [HC27.out];rfl)
    simpa using this
   ·exact ((HBX.out.below HB1.out).alloc _).kpt (Kpt.grown (sets_grown w1.heap.size CS _ 0)) (fun e=>by have:=HBX.out.lt;have:=HB1.out.size;omega)
 case rest=>
 obtain ⟨B,rfl,HC⟩:=hcut
 obtain ⟨w2,hw2⟩:∃ w2,w2=wc:=⟨_,rfl⟩
 rw [← hw2] at HC ⊢
 clear hw2 el HCO HBX
 have x0:=HC.out.2.2.2.1.c 0 (by simp)
 have xl:=HC.out.2.2.2.1.lt
 simp only [List.getElem_cons_zero,List.getElem_cons_succ] at x0
 go_upto_region 7 with (go_at_call 50;refine (HFD.out w2 HC.out.1).mono ?_;rintro e w3 ⟨rfl,F3,hL3⟩;have HL3:=Hid.m (hL3.from HC.out.1);have HLB:=Hid.m (hL3.box HC.out.2.2.1 HC.out.2.2.2.2);have HLX:=Hid.m (hL3.box HC.out.2.2.2.1 HUC.out);clear hL3)
 clear x0 xl HFD
 go_upto_region 8 with (go_at_call 95;refine (HRE.out w3 F3 HL3.out.eg).mono ?_;rintro e w4 ⟨rfl,F4,hL4⟩;have HL4:=Hid.m (HL3.out.trans hL4);have HLB4:=Hid.m (hL4.box HLB.out.1 HLB.out.2);have HLX4:=Hid.m (hL4.box HLX.out.1 HLX.out.2);clear hL4)
 clear HL3 HLB HLX HRE
 have HL3:=HL4
 have HLB:=HLB4
 have HLX:=HLX4
 clear HL4 HLB4 HLX4
 go_upto_region 10 with (go_at_call 247;refine (HRM.out w4 F4 HL3.out.eg).mono ?_;rintro e w5 ⟨rfl,hb5⟩;have HB5:=Hid.m hb5;clear hb5)
 have HL5:=Hid.m (HL3.out.below HB5.out)
 have hbB:=HLB.out.1.below HB5.out
 have bl:=hbB.lt
 have HBC:Hid (∀ j v,CS[j]? = some v→w5.cell? ⟨B,j,none⟩=some v):=fun j v hv=>by
  obtain ⟨hj,rfl⟩:=List.getElem?_eq_some_iff.1 hv
  exact hbB.c j hj
 rw [HXR.out] at HL5
 obtain ⟨F6,hL6⟩:=HE.out.restore HL5.out
 rw [← HCS.out] at hL6
 have HL6:=Hid.m hL6
 obtain ⟨V5,h5⟩:=HL5.out.eg
 have HEb:=Hid.m h5.eng.1
 have el:=HEb.out.lt
 have HEC:Hid (∀ j,j<CS.length→(w5.cell? ⟨A.b,j,none⟩).isSome=true):=fun j hj=>by
  have h27:=HC27.out
  rw [HEb.out.c j (by rw [cells_len];omega)]
  rfl
 clear hL6 h5 hbB HL3 HLB HLX
 go_wp2_with (first
  | (refine wpl_load rfl 106 _ rfl B rfl CS HBC.out _ Tryz.underlying106 rfl HCI.out ?_)
  | (refine wpl_store rfl 106 _ _ rfl A.b CS rfl rfl HCI.out HEC.out (fun j _=>HEb.out.f j) HC1.out ?_))
 go_ret2
 exact ⟨rfl,F6,HL6.out⟩
set_option maxHeartbeats 8000000 in
theorem put_done_new {N:Nat}{A:Ad}{x xa xb xc xd xe:Ra}{F:Cp→Nat→Prop}{w:World}(h:Eg N w A x F){t c:Nat}{X:Im}(hX:okI X=true∧szI X≤256)(hcl:cls X=(c:Int))(hn:okN ((t:Int),X.key))(htl:x.T.length≤1000)(hlk:lkN x.T ((t:Int),X.key)=none)(hxa:x=xa){pl:Nat}{vs:List (Nat × (Int × Im))}(hvl:vs.length≤1000)(hroom:∀ W F0,Eg N W A xa F0→Calls Tryz.prog 247 #[ptr A.b,.int .i64 t,.int .i64 c] W fun e w'=>∃ vo vc,e=.returned (.tuple #[.int .i64 pl,.slice vo vs.length vc,.bool true])∧GRd EI w' vo (vs.map fun y=>(y.1:Int)) vc∧∃ F',Lv N A xb F0 W w' F'∧∀ a,vo=some a→¬ Un F' a.block∧a.block<w'.heap.size)(hxc:xb=xc){xs:Nat→Ra}(hs0:xs 0=xc)(hvic:∀ j (hj:j<vs.length) W F0,Eg N W A (xs j) F0→Calls Tryz.prog 96 #[ptr A.b,.int .i64 vs[j].1] W fun e w'=>e=.returned (.agg #[.int .i64 vs[j].2.1,.string vs[j].2.2.key])∧∃ F',Lv N A (xs (j+1)) F0 W w' F')(hl:(xs vs.length).last=x.last)(hxd:xd={ xs vs.length with last:=nx x.last })
  (hst:∀ W F0,Eg N W A xd F0→Calls Tryz.prog 114 #[ptr A.b,.int .i64 pl,.agg (EK.cells ((t:Int),X.num (nx x.last))).toArray] W fun e w'=>e=.returned (.tuple #[])∧∃ F',Lv (N+2) A xe F0 W w' F'):
  Calls Tryz.prog 190 #[ptr A.b,.int .i64 t,X.v] w fun e w'=>∃ lo lc,e=.returned (.tuple #[.int .u8 1,.slice lo (vs.length+1) lc])∧GRd EC w' lo ((vs.map fun y=>Ch.drop y.2.1 y.2.2.key 2)++[.put t (X.num (nx x.last))]) lc∧∃ F',Lv (N+2) A xe F w w' F'∧∀ a,lo=some a→¬ Un F' a.block∧w.heap.size≤a.block∧a.block<w'.heap.size:=by
 have HUN:=Hid.m h.un
 obtain ⟨NL,hNL⟩:∃ NL,NL=nx x.last:=⟨_,rfl⟩
 have hwr:IntKind.u64.wrap (x.last+1)=NL:=by rw [hNL];rfl
 rw [← hNL] at hst hxd ⊢
 clear hNL
 obtain ⟨V,h⟩:=h
 have HE:=Hid.m h
 obtain ⟨CS,hCS⟩:∃ CS,CS=cellsE A V x.quotas.length x.last:=⟨_,rfl⟩
 have HCS:=Hid.m hCS
 have HCI:Hid ((Tryz.prog.info? 106).map (·.size)=some CS.length):=by
  show _=_
  rw [hCS,cells_len]
  kernel_rfl
 have HC1:Hid (∀ v∈CS,v.oneCell'=true):=by rw [hCS];exact cells_one _ _ _ _
 clear hCS
 obtain ⟨W,hW⟩:∃ W,W=w.alloc (.cells #[.string X.key,.string X.value,.int .u32 X.flags,.int .i64 X.till,.int .u64 X.unique] 76):=⟨_,rfl⟩
 obtain ⟨C,hC⟩:∃ C,C=w.heap.size:=⟨_,rfl⟩
 have HBW:Hid (Below w.heap.size w W):=by rw [hW];exact g_alloc _ _
 have HBX:Hid (GBx W C [.string X.key,.string X.value,.int .u32 X.flags,.int .i64 X.till,.int .u64 X.unique]):=by rw [hW,hC];exact GBx.made w _ _
 have HCC:=Hid.m hC
 have HUC:Hid (¬ Un F C):=fun hu=>by have:=HUN.out _ hu;have:=HCC.out;omega
 have HCO:=Hid.m (fun W0=>classOf_good X hX W0)
 rw [hcl] at HCO
 have HFD:=Hid.m (fun W0 (hb:Below w.heap.size w W0)=>find_any (⟨V,h.below hb⟩:Eg N W0 A x F) (n:=((t:Int),X.key)) hn htl)
 rw [hlk] at HFD
 simp only [Option.getD_some,Option.getD_none,Option.isSome_some,Option.isSome_none] at HFD
 have HRM:=Hid.m hroom
 have HVI:=Hid.m hvic
 have HST:=Hid.m hst
 have HXD:=Hid.m hxd
 have HS0:=Hid.m hs0
 have HLS:=Hid.m hl
 subst hxa
 subst hxc
 clear h hX hcl hn htl hlk hroom hvic hst hxd hs0 hl
 unfold Im.v at HCO ⊢
 unfold ptr at HFD HRM HVI HST ⊢
 simp only [EK,Im.num] at HST
 have x0:=HBX.out.c 0 (by simp)
 have x1:=HBX.out.c 1 (by simp)
 have x2:=HBX.out.c 2 (by simp)
 have x3:=HBX.out.c 3 (by simp)
 have x4:=HBX.out.c 4 (by simp)
 have xl:=HBX.out.lt
 simp only [List.getElem_cons_zero,List.getElem_cons_succ] at x0 x1 x2 x3 x4
 go_enter Tryz.func190,Tryz.ntmps190
 go_upto_region 1 with (fail)
 rw [← hW,← hC]
 clear hW hC
 go_upto_region 4 with (go_at_call 111;refine (HCO.out _).mono ?_;rintro e w1 ⟨rfl,hb1⟩;have HB1:=Hid.m hb1;clear hb1)
 clear x0 x1 x2 x3 x4 xl
 have HBW1:=Hid.m (g_on HBW.out HB1.out)
 have hE1:=HE.out.below HBW1.out
 have HE1c:Hid (∀ j v,CS[j]? = some v→w1.cell? ⟨A.b,j,none⟩=some v):=fun j v hv=>by
  have hj:j<27:=by
   have:=(List.getElem?_eq_some_iff.1 hv).1
   rw [HCS.out,cells_len] at this
   exact this
  rw [hE1.c j hj,← HCS.out]
  exact hv
 have el:=hE1.lt
 have HZB:Hid (GBx (w1.alloc (.cells ZL.toArray 106)) w1.heap.size ZL):=GBx.made w1 ZL _
 have HC27:Hid (CS.length=27):=by show _=_;rw [HCS.out,cells_len]
 have HZC:Hid (∀ j,j<27→((w1.alloc (.cells ZL.toArray 106)).cell? ⟨w1.heap.size,j,none⟩).isSome=true):=fun j hj=>by rw [HZB.out.c j hj];rfl
 unfold ZL at HZB HZC
 clear hE1
 go_cut [10] from 20 (fun s10 wx=>∃ B,s10=.pointer (some ⟨B,0,none⟩)∧Hid (Below w.heap.size w wx∧w.heap.size≤B∧GBx wx B CS∧GBx wx C [.string X.key,.string X.value,.int .u32 X.flags,.int .i64 X.till,.int .u64 X.unique]∧¬ Un F B))
 case first=>
  go_wp2_with (first
   | (refine wpl_load rfl 106 _ rfl A.b rfl CS HE1c.out _ Tryz.underlying106 rfl HCI.out ?_)
   | (refine wpl_store rfl 106 _ _ rfl w1.heap.size CS rfl rfl HCI.out (fun j hj=>HZC.out j (by have:=HC27.out;omega)) (fun j _=>HZB.out.f j) HC1.out ?_))
  all_goals (try simp only [Act.put])
  go_meet
  case rel=>
   refine ⟨w1.heap.size,rfl,below_sets _ CS 0 (g_on HBW1.out (g_alloc _ _)) HBW1.out.size,HBW1.out.size,?_,?_,fun hu=>by have:=HUN.out _ hu;have:=HBW1.out.size;omega⟩
   ·have:=sets_box w1.heap.size CS ZL [] _ HZB.out (by rw [HC27.out];rfl)
    simpa using this
   ·exact ((HBX.out.below HB1.out).alloc _).kpt (Kpt.grown (sets_grown w1.heap.size CS _ 0)) (fun e=>by have:=HBX.out.lt;have:=HB1.out.size;omega)
 case rest=>
 obtain ⟨B,rfl,HC⟩:=hcut
 obtain ⟨w2,hw2⟩:∃ w2,w2=wc:=⟨_,rfl⟩
 rw [← hw2] at HC ⊢
 clear hw2 el HCO HBX
 have x0:=HC.out.2.2.2.1.c 0 (by simp)
 have xl:=HC.out.2.2.2.1.lt
 simp only [List.getElem_cons_zero,List.getElem_cons_succ] at x0
 go_upto_region 8 with (go_at_call 50;refine (HFD.out w2 HC.out.1).mono ?_;rintro e w3 ⟨rfl,F3,hL3⟩;have HL3:=Hid.m (hL3.from HC.out.1);have HLB:=Hid.m (hL3.box HC.out.2.2.1 HC.out.2.2.2.2);have HLX:=Hid.m (hL3.box HC.out.2.2.2.1 HUC.out);clear hL3)
 clear x0 xl HFD
 go_upto_region 14 with (go_at_call 247;refine (HRM.out w3 F3 HL3.out.eg).mono ?_;rintro e w5 ⟨vo,vc,rfl,hV5,F5,hL5,hA5⟩;have HL5:=Hid.m (HL3.out.trans hL5);have HLX5:=Hid.m (hL5.box HLX.out.1 HLX.out.2);have HV5:=Hid.m hV5;have HA5:=Hid.m hA5;clear hL5 hV5 hA5)
 clear HL3 HLB HLX HRM
 go_upto_region 15 with (fail)
 obtain ⟨n,hn⟩:∃ n,n=vs.length:=⟨_,rfl⟩
 have hnl:n≤1000:=by omega
 have HN:=Hid.m hn
 rw [← hn]
 clear hn
 obtain ⟨BL,hBL⟩:∃ BL,BL=w5.heap.size:=⟨_,rfl⟩
 have HBL:Hid (BL≤w5.heap.size):=Nat.le_of_eq hBL
 have HWB:Hid (w.heap.size≤BL):=by rw [hBL];exact HL5.out.kpt.size
 have HAL:Hid (∀ a,vo=some a→a.block<BL):=fun a ha=>by rw [hBL];exact (HA5.out a ha).2
 have HCL:Hid (C<BL):=by rw [hBL];exact HLX5.out.1.lt
 clear hBL
 go_wp2
 go_loopw [16,18,62] (fun s16 _ i wr=>∃ (j:Nat) (lo:Option Addr) (lc:Nat) (Fj:Cp→Nat→Prop),j≤n∧i=.int .i64 j∧s16=.slice lo j lc∧Hid (Lv N A (xs j) F w wr Fj)∧Hid (BL≤wr.heap.size)∧Hid (GOwn EC wr BL (.slice lo j lc) ((vs.take j).map fun y=>Ch.drop y.2.1 y.2.2.key 2))∧Hid (∀ k,(Value.slice lo j lc).ownBlock=some k→¬ Un Fj k)∧Hid (GRd EI wr vo (vs.map fun y=>(y.1:Int)) vc)∧Hid (∀ a,vo=some a→¬ Un Fj a.block∧a.block<wr.heap.size)∧Hid (GBx wr C [.string X.key,.string X.value,.int .u32 X.flags,.int .i64 X.till,.int .u64 X.unique]∧¬ Un Fj C)) (fun _ _ i _=>n - (intOf i).toNat)
 case atStart=>exact ⟨0,none,0,F5,Nat.zero_le _,rfl,rfl,by rw [HS0.out];exact HL5,HBL,by show GOwn _ _ _ _ _;simpa using GOwn.nil _ _,(by intro k hk;cases hk),HV5,HA5,HLX5⟩
 case round=>
  clear HL5 HLX5 HV5 HA5
  obtain ⟨j,lo,lc,Fj,hj,rfl,rfl,HLj,HZj,HOj,HNj,HVj,HAj,HXj⟩:=hrel
  by_cases hjn:j<n
  ·have hjn2:(j:Int)<(n:Int):=by omega
   have hjv:j<vs.length:=by have:=HN.out;omega
   obtain ⟨vb,vf,hvo,hvb,hvc⟩:=HVj.out.nt (i:=j) (by simpa using hjv)
   simp only [List.getElem_map] at hvc
   have HFJ:=Hid.m (HVI.out j hjv wr Fj HLj.out.eg)
   have HDR:=Hid.m (fun W0=>edropped_any vs[j].2.1 vs[j].2.2.key 2 W0)
   have HTK:Hid ((vs.take (j+1)).map (fun y=>Ch.drop y.2.1 y.2.2.key 2)=(vs.take j).map (fun y=>Ch.drop y.2.1 y.2.2.key 2)++[Ch.drop vs[j].2.1 vs[j].2.2.key 2]):=by
    show _=_
    rw [List.take_add_one,List.getElem?_eq_getElem hjv,List.map_append]
    rfl
   have HLL:Hid (((vs.take j).map fun y=>Ch.drop y.2.1 y.2.2.key 2).length=j):=by show _=_;rw [List.length_map,List.length_take];omega
   obtain ⟨y,hy⟩:∃ y,y=vs[j]:=⟨_,rfl⟩
   rw [← hy] at HFJ HDR HTK hvc
   subst hvo
   clear hy
   unfold Ch.v at HDR
   simp only [Ch.kd,Ch.tn,Ch.im,Ch.key,Ch.why,Ch.to,Im.none] at HDR
   go_upto_region 18 with (fail)
   go_wp2_with (first
    | (go_at_call 96;refine HFJ.out.mono ?_;rintro e w7 ⟨rfl,F7,hL7⟩;have HL7:=Hid.m (HLj.out.trans hL7);have ho7:=hL7.own HOj.out HNj.out;have HO7:=Hid.m ho7.1;have HN7:=Hid.m ho7.2;have hv7:=hL7.rd HVj.out HAj.out;have HV7:=Hid.m hv7.1;have HA7:=Hid.m hv7.2;have HX7:=Hid.m (hL7.box HXj.out.1 HXj.out.2);have HZ7:=Hid.m (Nat.le_trans HZj.out hL7.kpt.size);clear hL7 ho7 hv7)
    | (go_at_call 138;refine (HDR.out w7).mono ?_;rintro e w8 ⟨rfl,hb8⟩;have HB8:=Hid.m hb8;clear hb8)
    | (at_builtin;refine g_one (w0:=w8) okC rfl _ _ _ rfl rfl BL _ _ (HO7.out.below HB8.out) rfl (Ch.drop y.2.1 y.2.2.key 2) rfl _ rfl rfl (by rw [HLL.out];omega) (Nat.le_trans HZ7.out HB8.out.size) ?_;intro v9 w9 hO9 hG9;rw [← HTK.out] at hO9;have HO9:=Hid.m hO9;have HG9:=Hid.m hG9;obtain ⟨a9,c9,hv9,-⟩:=hO9.rd okC;rw [List.length_map,List.length_take,Nat.min_eq_left (show j+1≤vs.length from hjv)] at hv9;subst hv9;clear hO9 hG9))
   have HU8:Hid (∀ k,Un F7 k→k<w8.heap.size):=fun k hk=>Nat.lt_of_lt_of_le (HL7.out.eg.un k hk) HB8.out.size
   have HK9:Hid (Lv N A (xs (j+1)) F w w9 F7):=by
    obtain ⟨V8,h8⟩:=(HL7.out.below HB8.out).eg
    have hkk:Kpt (fun k=>(Value.slice lo j lc).ownBlock=some k) w8 w9:=⟨HG9.out.grown.os,HG9.out.grown.tape,HG9.out.grown.output,HG9.out.grown.size,fun k hk hn=>HG9.out.grown.block k hk fun e=>hn e.symm⟩
    refine ⟨⟨V8,Parts.same h8 hkk.size fun k hk=>hkk.block k (Parts.lt h8 k hk) fun e=>HN7.out k e hk⟩,(HL7.out.below HB8.out).kpt.trans hkk fun k hk=>.inr ?_,(HL7.out.below HB8.out).sub⟩
    exact Nat.le_trans HWB.out (HO7.out.lt k hk).1
   go_roundw
   case rel=>
    have hgo:∀ k,k<w8.heap.size→(Value.slice lo j lc).ownBlock≠some k→w9.heap[k]? = w8.heap[k]?:=fun k hk hne=>HG9.out.grown.block k hk fun e=>hne e.symm
    refine ⟨j+1,a9,c9,F7,by omega,by go_num,rfl,HK9.out,Nat.le_trans (Nat.le_trans HZ7.out HB8.out.size) HG9.out.grown.size,HO9.out,?_,?_,?_,?_⟩
    ·intro k hk hu
     rcases HG9.out.lies k hk with h1 | h1
     ·exact HN7.out k h1 hu
     ·have:=HU8.out k hu;omega
    ·exact (HV7.out.below HB8.out).same HG9.out.grown.size fun k hk=>by
      obtain ⟨a,ha,rfl⟩:=hk
      refine hgo _ (Nat.lt_of_lt_of_le (HA7.out a ha).2 HB8.out.size) fun e=>?_
      have h1:=(HO7.out.lt _ e).1
      have h2:=HAL.out a ha
      omega
    ·intro a ha
     exact ⟨(HA7.out a ha).1,Nat.lt_of_lt_of_le (Nat.lt_of_lt_of_le (HA7.out a ha).2 HB8.out.size) HG9.out.grown.size⟩
    ·refine ⟨(HX7.out.1.below HB8.out).same HG9.out.grown.size (hgo _ ?_ fun e=>?_),HX7.out.2⟩
     ·exact Nat.lt_of_lt_of_le HX7.out.1.lt HB8.out.size
     ·have h1:=(HO7.out.lt C e).1
      have h2:=HCL.out
      omega
   case measure=>simp [intOf];omega
  ·have hjn3:¬ ((j:Int)<(n:Int)):=by omega
   have hjE:j=n:=by omega
   subst hjE
   have HLN:Hid (((vs.take j).map fun y=>Ch.drop y.2.1 y.2.2.key 2)=vs.map fun y=>Ch.drop y.2.1 y.2.2.key 2):=by show _=_;rw [HN.out,List.take_length]
   have HLL:Hid ((vs.map fun y=>Ch.drop y.2.1 y.2.2.key 2).length=j):=by show _=_;rw [List.length_map,HN.out]
   rw [HLN.out] at HOj
   rw [← HN.out] at HLS HXD
   obtain ⟨Vj,hEj⟩:=HLj.out.eg
   have e26:=hEj.c26
   rw [HLS.out] at e26
   have ef:=hEj.f 26
   have el:=hEj.lt
   obtain ⟨Fl,hLl⟩:=hEj.last (Below.refl _ _) NL
   rw [← HXD.out] at hLl
   obtain ⟨w10,hw10⟩:∃ w10,w10=wr.setCell ⟨A.b,26,none⟩ (.int .u64 NL):=⟨_,rfl⟩
   rw [← hw10] at hLl
   have HLl:=Hid.m (HLj.out.trans hLl)
   have ho10:=hLl.own HOj.out HNj.out
   have HO10:=Hid.m ho10.1
   have HN10:=Hid.m ho10.2
   have hx10:=hLl.box HXj.out.1 HXj.out.2
   have HX10:=Hid.m hx10
   have d26:=HLl.out.eg.c26'
   rw [HXD.out] at d26
   have dl:=HLl.out.eg.b_lt
   have c0:=hx10.1.c 0 (by simp)
   have c1:=hx10.1.c 1 (by simp)
   have c2:=hx10.1.c 2 (by simp)
   have c3:=hx10.1.c 3 (by simp)
   have c4:=hx10.1.c 4 (by simp)
   have cf:=hx10.1.f 4
   have cl:=hx10.1.lt
   simp only [List.getElem_cons_zero,List.getElem_cons_succ] at c0 c1 c2 c3 c4
   dsimp only at d26
   have HZ10:=Hid.m (Nat.le_trans HZj.out hLl.kpt.size)
   clear hEj hLl ho10 hx10 HLj HOj HNj HXj HVj HAj HVI
   go_upto_region 21 with (fail)
   rw [← hw10]
   clear hw10 e26 ef el
   have hX11:GBx (w10.setCell ⟨C,4,none⟩ (.int .u64 NL)) C [.string X.key,.string X.value,.int .u32 X.flags,.int .i64 X.till,.int .u64 NL]:=(HX10.out.1.set 4 (.int .u64 NL) (by simp)).ext (by simp)
   have hL11:=HLl.out.write (b:=C) (vs:=[.int .u64 NL]) HX10.out.2 (Nat.le_of_eq HCC.out.symm) 4
   have hO11:=HO10.out.grown (g_set w10 ⟨C,4,none⟩ (.int .u64 NL)) (fun k hk e=>by have h1:=(HO10.out.lt k hk).1;have h2:=HCL.out;have h3:C=k:=Option.some.inj e;omega)
   obtain ⟨w11,hw11⟩:∃ w11,w11=w10.setCell ⟨C,4,none⟩ (.int .u64 NL):=⟨_,rfl⟩
   have hz11:w11.heap.size=w10.heap.size:=by rw [hw11];simp
   unfold sets sets at hL11
   rw [← hw11] at hX11 hL11 hO11
   have HL11:=Hid.m hL11
   have HO11:=Hid.m hO11
   have HZ11:Hid (BL≤w11.heap.size):=by rw [hz11];exact HZ10.out
   go_upto_region 22 with (fail)
   rw [← hw11]
   clear c0 c1 c2 c3 c4 cf cl d26 dl hw11 hz11
   have c0:=hX11.c 0 (by simp)
   have c1:=hX11.c 1 (by simp)
   have c2:=hX11.c 2 (by simp)
   have c3:=hX11.c 3 (by simp)
   have c4:=hX11.c 4 (by simp)
   have cl:=hX11.lt
   simp only [List.getElem_cons_zero,List.getElem_cons_succ] at c0 c1 c2 c3 c4
   go_upto_region 23 with (fail)
   clear c0 c1 c2 c3 c4 cl hX11 hL11 hO11
   have hKB:GBx (w11.alloc (.cells #[.int .i64 t,.string X.key,.string X.value,.int .u32 X.flags,.int .i64 X.till,.int .u64 NL] 141)) w11.heap.size [.int .i64 t,.string X.key,.string X.value,.int .u32 X.flags,.int .i64 X.till,.int .u64 NL]:=GBx.made w11 _ _
   have hB12:Below w11.heap.size w11 (w11.alloc (.cells #[.int .i64 t,.string X.key,.string X.value,.int .u32 X.flags,.int .i64 X.till,.int .u64 NL] 141)):=g_alloc _ _
   obtain ⟨w12,hw12⟩:∃ w12,w12=w11.alloc (.cells #[.int .i64 t,.string X.key,.string X.value,.int .u32 X.flags,.int .i64 X.till,.int .u64 NL] 141):=⟨_,rfl⟩
   obtain ⟨KB,hKBe⟩:∃ KB,KB=w11.heap.size:=⟨_,rfl⟩
   rw [← hw12] at hKB hB12
   rw [← hKBe] at hKB
   rw [← hw12]
   try rw [← hKBe]
   have HKB:=Hid.m hKB
   have HL12:=Hid.m (HL11.out.below hB12)
   have HO12:=Hid.m (HO11.out.below hB12)
   have HZ12:=Hid.m (Nat.le_trans HZ11.out hB12.size)
   have HUK:Hid (¬ Un Fl KB):=fun hu=>by have:=HL11.out.eg.un _ hu;omega
   have c0:=hKB.c 0 (by simp)
   have c1:=hKB.c 1 (by simp)
   have c2:=hKB.c 2 (by simp)
   have c3:=hKB.c 3 (by simp)
   have c4:=hKB.c 4 (by simp)
   have c5:=hKB.c 5 (by simp)
   have cl:=hKB.lt
   simp only [List.getElem_cons_zero,List.getElem_cons_succ] at c0 c1 c2 c3 c4 c5
   have HST2:=Hid.m (HST.out w12 Fl HL12.out.eg)
   have HPU:=Hid.m (fun W0=>eputting_any ((t:Int),X.num NL) W0)
   simp only [EK,Im.num] at HPU
   unfold Ch.v at HPU
   simp only [Ch.kd,Ch.tn,Ch.im,Ch.key,Ch.why,Ch.to] at HPU
   clear hKB hB12 hw12 hKBe HST
   go_upto_region 24 with (go_at_call 114;refine HST2.out.mono ?_;rintro e w13 ⟨rfl,F13,hL13⟩;have HL13:=Hid.m (HL12.out.trans hL13);have ho13:=hL13.own HO12.out HN10.out;have HO13:=Hid.m ho13.1;have HN13:=Hid.m ho13.2;have HK13:=Hid.m (hL13.box HKB.out HUK.out).1;have HZ13:=Hid.m (Nat.le_trans HZ12.out hL13.kpt.size);clear hL13 ho13)
   clear c0 c1 c2 c3 c4 c5 cl HKB HO12 HZ12
   have c0:=HK13.out.c 0 (by simp)
   have c1:=HK13.out.c 1 (by simp)
   have c2:=HK13.out.c 2 (by simp)
   have c3:=HK13.out.c 3 (by simp)
   have c4:=HK13.out.c 4 (by simp)
   have c5:=HK13.out.c 5 (by simp)
   have cl:=HK13.out.lt
   simp only [List.getElem_cons_zero,List.getElem_cons_succ] at c0 c1 c2 c3 c4 c5
   go_wp2_with (first
    | (go_at_call 193;refine (HPU.out _).mono ?_;rintro e w14 ⟨rfl,hb14⟩;have HB14:=Hid.m hb14;clear hb14)
    | (at_builtin;refine g_one (w0:=w14) okC rfl _ _ _ rfl rfl BL _ _ (HO13.out.below HB14.out) rfl (Ch.put (t:Int) (X.num NL)) rfl _ rfl rfl (by rw [HLL.out];omega) (Nat.le_trans HZ13.out HB14.out.size) ?_;intro v9 w15 hO9 hG9;have HO9:=Hid.m hO9;have HG9:=Hid.m hG9;obtain ⟨a9,c9,hv9,hr9⟩:=hO9.rd okC;have HR9:=Hid.m hr9;rw [List.length_append,HLL.out] at hv9;subst hv9;clear hO9 hG9 hr9))
   try simp only [Exit.inBlock,Exit.then]
   go_ret2
   have hU14:∀ k,Un F13 k→k<w14.heap.size:=fun k hk=>Nat.lt_of_lt_of_le (HL13.out.eg.un k hk) HB14.out.size
   refine ⟨a9,c9,by rw [← HN.out];rfl,HR9.out,F13,?_,fun a ha=>?_⟩
   ·obtain ⟨V14,h14⟩:=(HL13.out.below HB14.out).eg
    have hkk:Kpt (fun k=>(Value.slice lo j lc).ownBlock=some k) w14 w15:=⟨HG9.out.grown.os,HG9.out.grown.tape,HG9.out.grown.output,HG9.out.grown.size,fun k hk hn=>HG9.out.grown.block k hk fun e=>hn e.symm⟩
    refine ⟨⟨V14,Parts.same h14 hkk.size fun k hk=>hkk.block k (Parts.lt h14 k hk) fun e=>HN13.out k e hk⟩,(HL13.out.below HB14.out).kpt.trans hkk fun k hk=>.inr ?_,(HL13.out.below HB14.out).sub⟩
    exact Nat.le_trans HWB.out (HO13.out.lt k hk).1
   ·subst ha
    have h1:=HO9.out.lt a.block rfl
    refine ⟨fun hu=>?_,Nat.le_trans HWB.out h1.1,h1.2⟩
    rcases HG9.out.lies a.block rfl with h2 | h2
    ·exact HN13.out _ h2 hu
    ·have:=hU14 _ hu;omega
set_option maxHeartbeats 8000000 in
theorem put_done_over {N:Nat}{A:Ad}{x xa xb xc xd xe:Ra}{F:Cp→Nat→Prop}{w:World}(h:Eg N w A x F){t c:Nat}{X:Im}(hX:okI X=true∧szI X≤256)(hcl:cls X=(c:Int))(hn:okN ((t:Int),X.key))(htl:x.T.length≤1000){p0:Nat}(hlk:lkN x.T ((t:Int),X.key)=some (p0:Int))(hrel:∀ W F0,Eg N W A x F0→Calls Tryz.prog 95 #[ptr A.b,.int .i64 p0] W fun e w'=>e=.returned (.tuple #[])∧∃ F',Lv N A xa F0 W w' F'){pl:Nat}{vs:List (Nat × (Int × Im))}(hvl:vs.length≤1000)(hroom:∀ W F0,Eg N W A xa F0→Calls Tryz.prog 247 #[ptr A.b,.int .i64 t,.int .i64 c] W fun e w'=>∃ vo vc,e=.returned (.tuple #[.int .i64 pl,.slice vo vs.length vc,.bool true])∧GRd EI w' vo (vs.map fun y=>(y.1:Int)) vc∧∃ F',Lv N A xb F0 W w' F'∧∀ a,vo=some a→¬ Un F' a.block∧a.block<w'.heap.size){n0:Na}(hfor:∀ W F0,Eg N W A xb F0→Calls Tryz.prog 96 #[ptr A.b,.int .i64 p0] W fun e w'=>e=.returned (.agg #[.int .i64 n0.1,.string n0.2])∧∃ F',Lv N A xc F0 W w' F'){xs:Nat→Ra}(hs0:xs 0=xc)(hvic:∀ j (hj:j<vs.length) W F0,Eg N W A (xs j) F0→Calls Tryz.prog 96 #[ptr A.b,.int .i64 vs[j].1] W fun e w'=>e=.returned (.agg #[.int .i64 vs[j].2.1,.string vs[j].2.2.key])∧∃ F',Lv N A (xs (j+1)) F0 W w' F')(hl:(xs vs.length).last=x.last)(hxd:xd={ xs vs.length with last:=nx x.last })
  (hst:∀ W F0,Eg N W A xd F0→Calls Tryz.prog 114 #[ptr A.b,.int .i64 pl,.agg (EK.cells ((t:Int),X.num (nx x.last))).toArray] W fun e w'=>e=.returned (.tuple #[])∧∃ F',Lv (N+2) A xe F0 W w' F'):
  Calls Tryz.prog 190 #[ptr A.b,.int .i64 t,X.v] w fun e w'=>∃ lo lc,e=.returned (.tuple #[.int .u8 1,.slice lo (vs.length+1) lc])∧GRd EC w' lo ((vs.map fun y=>Ch.drop y.2.1 y.2.2.key 2)++[.put t (X.num (nx x.last))]) lc∧∃ F',Lv (N+2) A xe F w w' F'∧∀ a,lo=some a→¬ Un F' a.block∧w.heap.size≤a.block∧a.block<w'.heap.size:=by
 have HUN:=Hid.m h.un
 obtain ⟨NL,hNL⟩:∃ NL,NL=nx x.last:=⟨_,rfl⟩
 have hwr:IntKind.u64.wrap (x.last+1)=NL:=by rw [hNL];rfl
 rw [← hNL] at hst hxd ⊢
 clear hNL
 obtain ⟨V,h⟩:=h
 have HE:=Hid.m h
 obtain ⟨CS,hCS⟩:∃ CS,CS=cellsE A V x.quotas.length x.last:=⟨_,rfl⟩
 have HCS:=Hid.m hCS
 have HCI:Hid ((Tryz.prog.info? 106).map (·.size)=some CS.length):=by
  show _=_
  rw [hCS,cells_len]
  kernel_rfl
 have HC1:Hid (∀ v∈CS,v.oneCell'=true):=by rw [hCS];exact cells_one _ _ _ _
 clear hCS
 obtain ⟨W,hW⟩:∃ W,W=w.alloc (.cells #[.string X.key,.string X.value,.int .u32 X.flags,.int .i64 X.till,.int .u64 X.unique] 76):=⟨_,rfl⟩
 obtain ⟨C,hC⟩:∃ C,C=w.heap.size:=⟨_,rfl⟩
 have HBW:Hid (Below w.heap.size w W):=by rw [hW];exact g_alloc _ _
 have HBX:Hid (GBx W C [.string X.key,.string X.value,.int .u32 X.flags,.int .i64 X.till,.int .u64 X.unique]):=by rw [hW,hC];exact GBx.made w _ _
 have HCC:=Hid.m hC
 have HUC:Hid (¬ Un F C):=fun hu=>by have:=HUN.out _ hu;have:=HCC.out;omega
 have HCO:=Hid.m (fun W0=>classOf_good X hX W0)
 rw [hcl] at HCO
 have HFD:=Hid.m (fun W0 (hb:Below w.heap.size w W0)=>find_any (⟨V,h.below hb⟩:Eg N W0 A x F) (n:=((t:Int),X.key)) hn htl)
 rw [hlk] at HFD
 simp only [Option.getD_some,Option.getD_none,Option.isSome_some,Option.isSome_none] at HFD
 have HRM:=Hid.m hroom
 have HRE:=Hid.m hrel
 have HFO:=Hid.m hfor
 have HVI:=Hid.m hvic
 have HST:=Hid.m hst
 have HXD:=Hid.m hxd
 have HS0:=Hid.m hs0
 have HLS:=Hid.m hl
 clear h hX hcl hn htl hlk hroom hrel hfor hvic hst hxd hs0 hl
 unfold Im.v at HCO ⊢
 unfold ptr at HFD HRM HRE HFO HVI HST ⊢
 simp only [EK,Im.num] at HST
 have x0:=HBX.out.c 0 (by simp)
 have x1:=HBX.out.c 1 (by simp)
 have x2:=HBX.out.c 2 (by simp)
 have x3:=HBX.out.c 3 (by simp)
 have x4:=HBX.out.c 4 (by simp)
 have xl:=HBX.out.lt
 simp only [List.getElem_cons_zero,List.getElem_cons_succ] at x0 x1 x2 x3 x4
 go_enter Tryz.func190,Tryz.ntmps190
 go_upto_region 1 with (fail)
 rw [← hW,← hC]
 clear hW hC
 go_upto_region 4 with (go_at_call 111;refine (HCO.out _).mono ?_;rintro e w1 ⟨rfl,hb1⟩;have HB1:=Hid.m hb1;clear hb1)
 clear x0 x1 x2 x3 x4 xl
 have HBW1:=Hid.m (g_on HBW.out HB1.out)
 have hE1:=HE.out.below HBW1.out
 have HE1c:Hid (∀ j v,CS[j]? = some v→w1.cell? ⟨A.b,j,none⟩=some v):=fun j v hv=>by
  have hj:j<27:=by
   have:=(List.getElem?_eq_some_iff.1 hv).1
   rw [HCS.out,cells_len] at this
   exact this
  rw [hE1.c j hj,← HCS.out]
  exact hv
 have el:=hE1.lt
 have HZB:Hid (GBx (w1.alloc (.cells ZL.toArray 106)) w1.heap.size ZL):=GBx.made w1 ZL _
 have HC27:Hid (CS.length=27):=by show _=_;rw [HCS.out,cells_len]
 have HZC:Hid (∀ j,j<27→((w1.alloc (.cells ZL.toArray 106)).cell? ⟨w1.heap.size,j,none⟩).isSome=true):=fun j hj=>by rw [HZB.out.c j hj];rfl
 unfold ZL at HZB HZC
 clear hE1
 go_cut [10] from 20 (fun s10 wx=>∃ B,s10=.pointer (some ⟨B,0,none⟩)∧Hid (Below w.heap.size w wx∧w.heap.size≤B∧GBx wx B CS∧GBx wx C [.string X.key,.string X.value,.int .u32 X.flags,.int .i64 X.till,.int .u64 X.unique]∧¬ Un F B))
 case first=>
  go_wp2_with (first
   | (refine wpl_load rfl 106 _ rfl A.b rfl CS HE1c.out _ Tryz.underlying106 rfl HCI.out ?_)
   | (refine wpl_store rfl 106 _ _ rfl w1.heap.size CS rfl rfl HCI.out (fun j hj=>HZC.out j (by have:=HC27.out;omega)) (fun j _=>HZB.out.f j) HC1.out ?_))
  all_goals (try simp only [Act.put])
  go_meet
  case rel=>
   refine ⟨w1.heap.size,rfl,below_sets _ CS 0 (g_on HBW1.out (g_alloc _ _)) HBW1.out.size,HBW1.out.size,?_,?_,fun hu=>by have:=HUN.out _ hu;have:=HBW1.out.size;omega⟩
   ·have:=sets_box w1.heap.size CS ZL [] _ HZB.out (by rw [HC27.out];rfl)
    simpa using this
   ·exact ((HBX.out.below HB1.out).alloc _).kpt (Kpt.grown (sets_grown w1.heap.size CS _ 0)) (fun e=>by have:=HBX.out.lt;have:=HB1.out.size;omega)
 case rest=>
 obtain ⟨B,rfl,HC⟩:=hcut
 obtain ⟨w2,hw2⟩:∃ w2,w2=wc:=⟨_,rfl⟩
 rw [← hw2] at HC ⊢
 clear hw2 el HCO HBX
 have x0:=HC.out.2.2.2.1.c 0 (by simp)
 have xl:=HC.out.2.2.2.1.lt
 simp only [List.getElem_cons_zero,List.getElem_cons_succ] at x0
 go_upto_region 7 with (go_at_call 50;refine (HFD.out w2 HC.out.1).mono ?_;rintro e w3 ⟨rfl,F3,hL3⟩;have HL3:=Hid.m (hL3.from HC.out.1);have HLB:=Hid.m (hL3.box HC.out.2.2.1 HC.out.2.2.2.2);have HLX:=Hid.m (hL3.box HC.out.2.2.2.1 HUC.out);clear hL3)
 clear x0 xl HFD
 go_upto_region 8 with (go_at_call 95;refine (HRE.out w3 F3 HL3.out.eg).mono ?_;rintro e w4 ⟨rfl,F4,hL4⟩;have HL4:=Hid.m (HL3.out.trans hL4);have HLB4:=Hid.m (hL4.box HLB.out.1 HLB.out.2);have HLX4:=Hid.m (hL4.box HLX.out.1 HLX.out.2);clear hL4)
 clear HL3 HLB HLX HRE
 have HL3:=HL4
 have HLB:=HLB4
 have HLX:=HLX4
 clear HL4 HLB4 HLX4
 go_upto_region 13 with (go_at_call 247;refine (HRM.out w4 F4 HL3.out.eg).mono ?_;rintro e w5 ⟨vo,vc,rfl,hV5,F5,hL5,hA5⟩;have HL5:=Hid.m (HL3.out.trans hL5);have HLX5:=Hid.m (hL5.box HLX.out.1 HLX.out.2);have HV5:=Hid.m hV5;have HA5:=Hid.m hA5;clear hL5 hV5 hA5)
 clear HL3 HLB HLX HRM
 go_upto_region 14 with (go_at_call 96;refine (HFO.out w5 F5 HL5.out.eg).mono ?_;rintro e w6 ⟨rfl,F6,hL6⟩;have HL6:=Hid.m (HL5.out.trans hL6);have HLX6:=Hid.m (hL6.box HLX5.out.1 HLX5.out.2);have hr6:=hL6.rd HV5.out HA5.out;have HV6:=Hid.m hr6.1;have HA6:=Hid.m hr6.2;clear hL6 hr6)
 clear HL5 HLX5 HV5 HA5 HFO
 go_upto_region 15 with (fail)
 obtain ⟨n,hn⟩:∃ n,n=vs.length:=⟨_,rfl⟩
 have hnl:n≤1000:=by omega
 have HN:=Hid.m hn
 rw [← hn]
 clear hn
 obtain ⟨BL,hBL⟩:∃ BL,BL=w6.heap.size:=⟨_,rfl⟩
 have HBL:Hid (BL≤w6.heap.size):=Nat.le_of_eq hBL
 have HWB:Hid (w.heap.size≤BL):=by rw [hBL];exact HL6.out.kpt.size
 have HAL:Hid (∀ a,vo=some a→a.block<BL):=fun a ha=>by rw [hBL];exact (HA6.out a ha).2
 have HCL:Hid (C<BL):=by rw [hBL];exact HLX6.out.1.lt
 clear hBL
 go_wp2
 go_loopw [16,18,62] (fun s16 _ i wr=>∃ (j:Nat) (lo:Option Addr) (lc:Nat) (Fj:Cp→Nat→Prop),j≤n∧i=.int .i64 j∧s16=.slice lo j lc∧Hid (Lv N A (xs j) F w wr Fj)∧Hid (BL≤wr.heap.size)∧Hid (GOwn EC wr BL (.slice lo j lc) ((vs.take j).map fun y=>Ch.drop y.2.1 y.2.2.key 2))∧Hid (∀ k,(Value.slice lo j lc).ownBlock=some k→¬ Un Fj k)∧Hid (GRd EI wr vo (vs.map fun y=>(y.1:Int)) vc)∧Hid (∀ a,vo=some a→¬ Un Fj a.block∧a.block<wr.heap.size)∧Hid (GBx wr C [.string X.key,.string X.value,.int .u32 X.flags,.int .i64 X.till,.int .u64 X.unique]∧¬ Un Fj C)) (fun _ _ i _=>n - (intOf i).toNat)
 case atStart=>exact ⟨0,none,0,F6,Nat.zero_le _,rfl,rfl,by rw [HS0.out];exact HL6,HBL,by show GOwn _ _ _ _ _;simpa using GOwn.nil _ _,(by intro k hk;cases hk),HV6,HA6,HLX6⟩
 case round=>
  clear HL6 HLX6 HV6 HA6
  obtain ⟨j,lo,lc,Fj,hj,rfl,rfl,HLj,HZj,HOj,HNj,HVj,HAj,HXj⟩:=hrel
  by_cases hjn:j<n
  ·have hjn2:(j:Int)<(n:Int):=by omega
   have hjv:j<vs.length:=by have:=HN.out;omega
   obtain ⟨vb,vf,hvo,hvb,hvc⟩:=HVj.out.nt (i:=j) (by simpa using hjv)
   simp only [List.getElem_map] at hvc
   have HFJ:=Hid.m (HVI.out j hjv wr Fj HLj.out.eg)
   have HDR:=Hid.m (fun W0=>edropped_any vs[j].2.1 vs[j].2.2.key 2 W0)
   have HTK:Hid ((vs.take (j+1)).map (fun y=>Ch.drop y.2.1 y.2.2.key 2)=(vs.take j).map (fun y=>Ch.drop y.2.1 y.2.2.key 2)++[Ch.drop vs[j].2.1 vs[j].2.2.key 2]):=by
    show _=_
    rw [List.take_add_one,List.getElem?_eq_getElem hjv,List.map_append]
    rfl
   have HLL:Hid (((vs.take j).map fun y=>Ch.drop y.2.1 y.2.2.key 2).length=j):=by show _=_;rw [List.length_map,List.length_take];omega
   obtain ⟨y,hy⟩:∃ y,y=vs[j]:=⟨_,rfl⟩
   rw [← hy] at HFJ HDR HTK hvc
   subst hvo
   clear hy
   unfold Ch.v at HDR
   simp only [Ch.kd,Ch.tn,Ch.im,Ch.key,Ch.why,Ch.to,Im.none] at HDR
   go_upto_region 18 with (fail)
   go_wp2_with (first
    | (go_at_call 96;refine HFJ.out.mono ?_;rintro e w7 ⟨rfl,F7,hL7⟩;have HL7:=Hid.m (HLj.out.trans hL7);have ho7:=hL7.own HOj.out HNj.out;have HO7:=Hid.m ho7.1;have HN7:=Hid.m ho7.2;have hv7:=hL7.rd HVj.out HAj.out;have HV7:=Hid.m hv7.1;have HA7:=Hid.m hv7.2;have HX7:=Hid.m (hL7.box HXj.out.1 HXj.out.2);have HZ7:=Hid.m (Nat.le_trans HZj.out hL7.kpt.size);clear hL7 ho7 hv7)
    | (go_at_call 138;refine (HDR.out w7).mono ?_;rintro e w8 ⟨rfl,hb8⟩;have HB8:=Hid.m hb8;clear hb8)
    | (at_builtin;refine g_one (w0:=w8) okC rfl _ _ _ rfl rfl BL _ _ (HO7.out.below HB8.out) rfl (Ch.drop y.2.1 y.2.2.key 2) rfl _ rfl rfl (by rw [HLL.out];omega) (Nat.le_trans HZ7.out HB8.out.size) ?_;intro v9 w9 hO9 hG9;rw [← HTK.out] at hO9;have HO9:=Hid.m hO9;have HG9:=Hid.m hG9;obtain ⟨a9,c9,hv9,-⟩:=hO9.rd okC;rw [List.length_map,List.length_take,Nat.min_eq_left (show j+1≤vs.length from hjv)] at hv9;subst hv9;clear hO9 hG9))
   have HU8:Hid (∀ k,Un F7 k→k<w8.heap.size):=fun k hk=>Nat.lt_of_lt_of_le (HL7.out.eg.un k hk) HB8.out.size
   have HK9:Hid (Lv N A (xs (j+1)) F w w9 F7):=by
    obtain ⟨V8,h8⟩:=(HL7.out.below HB8.out).eg
    have hkk:Kpt (fun k=>(Value.slice lo j lc).ownBlock=some k) w8 w9:=⟨HG9.out.grown.os,HG9.out.grown.tape,HG9.out.grown.output,HG9.out.grown.size,fun k hk hn=>HG9.out.grown.block k hk fun e=>hn e.symm⟩
    refine ⟨⟨V8,Parts.same h8 hkk.size fun k hk=>hkk.block k (Parts.lt h8 k hk) fun e=>HN7.out k e hk⟩,(HL7.out.below HB8.out).kpt.trans hkk fun k hk=>.inr ?_,(HL7.out.below HB8.out).sub⟩
    exact Nat.le_trans HWB.out (HO7.out.lt k hk).1
   go_roundw
   case rel=>
    have hgo:∀ k,k<w8.heap.size→(Value.slice lo j lc).ownBlock≠some k→w9.heap[k]? = w8.heap[k]?:=fun k hk hne=>HG9.out.grown.block k hk fun e=>hne e.symm
    refine ⟨j+1,a9,c9,F7,by omega,by go_num,rfl,HK9.out,Nat.le_trans (Nat.le_trans HZ7.out HB8.out.size) HG9.out.grown.size,HO9.out,?_,?_,?_,?_⟩
    ·intro k hk hu
     rcases HG9.out.lies k hk with h1 | h1
     ·exact HN7.out k h1 hu
     ·have:=HU8.out k hu;omega
    ·exact (HV7.out.below HB8.out).same HG9.out.grown.size fun k hk=>by
      obtain ⟨a,ha,rfl⟩:=hk
      refine hgo _ (Nat.lt_of_lt_of_le (HA7.out a ha).2 HB8.out.size) fun e=>?_
      have h1:=(HO7.out.lt _ e).1
      have h2:=HAL.out a ha
      omega
    ·intro a ha
     exact ⟨(HA7.out a ha).1,Nat.lt_of_lt_of_le (Nat.lt_of_lt_of_le (HA7.out a ha).2 HB8.out.size) HG9.out.grown.size⟩
    ·refine ⟨(HX7.out.1.below HB8.out).same HG9.out.grown.size (hgo _ ?_ fun e=>?_),HX7.out.2⟩
     ·exact Nat.lt_of_lt_of_le HX7.out.1.lt HB8.out.size
     ·have h1:=(HO7.out.lt C e).1
      have h2:=HCL.out
      omega
   case measure=>simp [intOf];omega
  ·have hjn3:¬ ((j:Int)<(n:Int)):=by omega
   have hjE:j=n:=by omega
   subst hjE
   have HLN:Hid (((vs.take j).map fun y=>Ch.drop y.2.1 y.2.2.key 2)=vs.map fun y=>Ch.drop y.2.1 y.2.2.key 2):=by show _=_;rw [HN.out,List.take_length]
   have HLL:Hid ((vs.map fun y=>Ch.drop y.2.1 y.2.2.key 2).length=j):=by show _=_;rw [List.length_map,HN.out]
   rw [HLN.out] at HOj
   rw [← HN.out] at HLS HXD
   obtain ⟨Vj,hEj⟩:=HLj.out.eg
   have e26:=hEj.c26
   rw [HLS.out] at e26
   have ef:=hEj.f 26
   have el:=hEj.lt
   obtain ⟨Fl,hLl⟩:=hEj.last (Below.refl _ _) NL
   rw [← HXD.out] at hLl
   obtain ⟨w10,hw10⟩:∃ w10,w10=wr.setCell ⟨A.b,26,none⟩ (.int .u64 NL):=⟨_,rfl⟩
   rw [← hw10] at hLl
   have HLl:=Hid.m (HLj.out.trans hLl)
   have ho10:=hLl.own HOj.out HNj.out
   have HO10:=Hid.m ho10.1
   have HN10:=Hid.m ho10.2
   have hx10:=hLl.box HXj.out.1 HXj.out.2
   have HX10:=Hid.m hx10
   have d26:=HLl.out.eg.c26'
   rw [HXD.out] at d26
   have dl:=HLl.out.eg.b_lt
   have c0:=hx10.1.c 0 (by simp)
   have c1:=hx10.1.c 1 (by simp)
   have c2:=hx10.1.c 2 (by simp)
   have c3:=hx10.1.c 3 (by simp)
   have c4:=hx10.1.c 4 (by simp)
   have cf:=hx10.1.f 4
   have cl:=hx10.1.lt
   simp only [List.getElem_cons_zero,List.getElem_cons_succ] at c0 c1 c2 c3 c4
   dsimp only at d26
   have HZ10:=Hid.m (Nat.le_trans HZj.out hLl.kpt.size)
   clear hEj hLl ho10 hx10 HLj HOj HNj HXj HVj HAj HVI
   go_upto_region 21 with (fail)
   rw [← hw10]
   clear hw10 e26 ef el
   have hX11:GBx (w10.setCell ⟨C,4,none⟩ (.int .u64 NL)) C [.string X.key,.string X.value,.int .u32 X.flags,.int .i64 X.till,.int .u64 NL]:=(HX10.out.1.set 4 (.int .u64 NL) (by simp)).ext (by simp)
   have hL11:=HLl.out.write (b:=C) (vs:=[.int .u64 NL]) HX10.out.2 (Nat.le_of_eq HCC.out.symm) 4
   have hO11:=HO10.out.grown (g_set w10 ⟨C,4,none⟩ (.int .u64 NL)) (fun k hk e=>by have h1:=(HO10.out.lt k hk).1;have h2:=HCL.out;have h3:C=k:=Option.some.inj e;omega)
   obtain ⟨w11,hw11⟩:∃ w11,w11=w10.setCell ⟨C,4,none⟩ (.int .u64 NL):=⟨_,rfl⟩
   have hz11:w11.heap.size=w10.heap.size:=by rw [hw11];simp
   unfold sets sets at hL11
   rw [← hw11] at hX11 hL11 hO11
   have HL11:=Hid.m hL11
   have HO11:=Hid.m hO11
   have HZ11:Hid (BL≤w11.heap.size):=by rw [hz11];exact HZ10.out
   go_upto_region 22 with (fail)
   rw [← hw11]
   clear c0 c1 c2 c3 c4 cf cl d26 dl hw11 hz11
   have c0:=hX11.c 0 (by simp)
   have c1:=hX11.c 1 (by simp)
   have c2:=hX11.c 2 (by simp)
   have c3:=hX11.c 3 (by simp)
   have c4:=hX11.c 4 (by simp)
   have cl:=hX11.lt
   simp only [List.getElem_cons_zero,List.getElem_cons_succ] at c0 c1 c2 c3 c4
   go_upto_region 23 with (fail)
   clear c0 c1 c2 c3 c4 cl hX11 hL11 hO11
   have hKB:GBx (w11.alloc (.cells #[.int .i64 t,.string X.key,.string X.value,.int .u32 X.flags,.int .i64 X.till,.int .u64 NL] 141)) w11.heap.size [.int .i64 t,.string X.key,.string X.value,.int .u32 X.flags,.int .i64 X.till,.int .u64 NL]:=GBx.made w11 _ _
   have hB12:Below w11.heap.size w11 (w11.alloc (.cells #[.int .i64 t,.string X.key,.string X.value,.int .u32 X.flags,.int .i64 X.till,.int .u64 NL] 141)):=g_alloc _ _
   obtain ⟨w12,hw12⟩:∃ w12,w12=w11.alloc (.cells #[.int .i64 t,.string X.key,.string X.value,.int .u32 X.flags,.int .i64 X.till,.int .u64 NL] 141):=⟨_,rfl⟩
   obtain ⟨KB,hKBe⟩:∃ KB,KB=w11.heap.size:=⟨_,rfl⟩
   rw [← hw12] at hKB hB12
   rw [← hKBe] at hKB
   rw [← hw12]
   try rw [← hKBe]
   have HKB:=Hid.m hKB
   have HL12:=Hid.m (HL11.out.below hB12)
   have HO12:=Hid.m (HO11.out.below hB12)
   have HZ12:=Hid.m (Nat.le_trans HZ11.out hB12.size)
   have HUK:Hid (¬ Un Fl KB):=fun hu=>by have:=HL11.out.eg.un _ hu;omega
   have c0:=hKB.c 0 (by simp)
   have c1:=hKB.c 1 (by simp)
   have c2:=hKB.c 2 (by simp)
   have c3:=hKB.c 3 (by simp)
   have c4:=hKB.c 4 (by simp)
   have c5:=hKB.c 5 (by simp)
   have cl:=hKB.lt
   simp only [List.getElem_cons_zero,List.getElem_cons_succ] at c0 c1 c2 c3 c4 c5
   have HST2:=Hid.m (HST.out w12 Fl HL12.out.eg)
   have HPU:=Hid.m (fun W0=>eputting_any ((t:Int),X.num NL) W0)
   simp only [EK,Im.num] at HPU
   unfold Ch.v at HPU
   simp only [Ch.kd,Ch.tn,Ch.im,Ch.key,Ch.why,Ch.to] at HPU
   clear hKB hB12 hw12 hKBe HST
   go_upto_region 24 with (go_at_call 114;refine HST2.out.mono ?_;rintro e w13 ⟨rfl,F13,hL13⟩;have HL13:=Hid.m (HL12.out.trans hL13);have ho13:=hL13.own HO12.out HN10.out;have HO13:=Hid.m ho13.1;have HN13:=Hid.m ho13.2;have HK13:=Hid.m (hL13.box HKB.out HUK.out).1;have HZ13:=Hid.m (Nat.le_trans HZ12.out hL13.kpt.size);clear hL13 ho13)
   clear c0 c1 c2 c3 c4 c5 cl HKB HO12 HZ12
   have c0:=HK13.out.c 0 (by simp)
   have c1:=HK13.out.c 1 (by simp)
   have c2:=HK13.out.c 2 (by simp)
   have c3:=HK13.out.c 3 (by simp)
   have c4:=HK13.out.c 4 (by simp)
   have c5:=HK13.out.c 5 (by simp)
   have cl:=HK13.out.lt
   simp only [List.getElem_cons_zero,List.getElem_cons_succ] at c0 c1 c2 c3 c4 c5
   go_wp2_with (first
    | (go_at_call 193;refine (HPU.out _).mono ?_;rintro e w14 ⟨rfl,hb14⟩;have HB14:=Hid.m hb14;clear hb14)
    | (at_builtin;refine g_one (w0:=w14) okC rfl _ _ _ rfl rfl BL _ _ (HO13.out.below HB14.out) rfl (Ch.put (t:Int) (X.num NL)) rfl _ rfl rfl (by rw [HLL.out];omega) (Nat.le_trans HZ13.out HB14.out.size) ?_;intro v9 w15 hO9 hG9;have HO9:=Hid.m hO9;have HG9:=Hid.m hG9;obtain ⟨a9,c9,hv9,hr9⟩:=hO9.rd okC;have HR9:=Hid.m hr9;rw [List.length_append,HLL.out] at hv9;subst hv9;clear hO9 hG9 hr9))
   try simp only [Exit.inBlock,Exit.then]
   go_ret2
   have hU14:∀ k,Un F13 k→k<w14.heap.size:=fun k hk=>Nat.lt_of_lt_of_le (HL13.out.eg.un k hk) HB14.out.size
   refine ⟨a9,c9,by rw [← HN.out];rfl,HR9.out,F13,?_,fun a ha=>?_⟩
   ·obtain ⟨V14,h14⟩:=(HL13.out.below HB14.out).eg
    have hkk:Kpt (fun k=>(Value.slice lo j lc).ownBlock=some k) w14 w15:=⟨HG9.out.grown.os,HG9.out.grown.tape,HG9.out.grown.output,HG9.out.grown.size,fun k hk hn=>HG9.out.grown.block k hk fun e=>hn e.symm⟩
    refine ⟨⟨V14,Parts.same h14 hkk.size fun k hk=>hkk.block k (Parts.lt h14 k hk) fun e=>HN13.out k e hk⟩,(HL13.out.below HB14.out).kpt.trans hkk fun k hk=>.inr ?_,(HL13.out.below HB14.out).sub⟩
    exact Nat.le_trans HWB.out (HO13.out.lt k hk).1
   ·subst ha
    have h1:=HO9.out.lt a.block rfl
    refine ⟨fun hu=>?_,Nat.le_trans HWB.out h1.1,h1.2⟩
    rcases HG9.out.lies a.block rfl with h2 | h2
    ·exact HN13.out _ h2 hu
    ·have:=hU14 _ hu;omega
end Go.Proofs.YtcdpiefflnaghaaGreatDoor.En
namespace Go.Proofs.YtcdpiefflnaghaaGreatDoor.En
open Go.Proofs.YtcdpiefflnaghaaGreatDoor.It
open Go.Proofs.YtcdpiefflnaghaaGreatDoor.Lr
open Go.Proofs.YtcdpiefflnaghaaGreatDoor.Qt
open Go.Proofs.YtcdpiefflnaghaaGreatDoor.Sb
open Go.RowKit Go.Proofs.YtcdpiefflnaghaaGreatDoor
def Hd.pl (h:Hd):Nat:=h.page * 16+h.chunk
structure RepA (x:Ra)(s:Sh):Prop where
 quo:x.quotas=s.quotas
 now:(x.now:Int)=s.now
 pages:x.pages=s.pages
 ord:∀ t c:Nat,t<4→c<5→x.ord (t * 5+c)=s.ord t c
 last:x.last=s.last
structure RepB (x:Ra)(s:Sh):Prop where
 T:x.T.Perm (s.held.map fun h=>(h.name,(h.pl:Int)))
 L:x.L.Perm ((s.held.filter fun h=>decide (h.item.till≠0)).map Hd.due)
 kl:x.kept.length=s.pages.length * 16
 kept:∀ h∈s.held,x.kept[h.pl]? = some (h.tenant,h.item)
 row:x.row=s.held.map fun h=>(h.pl:Int)
section
variable {x:Ra} {s:Sh}
theorem Inv.pl_lt (I:Inv s){h:Hd}(hm:h∈s.held):h.pl<s.pages.length * 16:=by
 obtain ⟨hp,_,_,hb⟩:=I.page h hm
 have:=(I.spot_lt hm).2
 unfold Hd.pl
 omega
theorem Inv.pl_div (I:Inv s){h:Hd}(hm:h∈s.held):h.pl / 16=h.page∧h.pl % 16=h.chunk:=by
 have:=(I.spot_lt hm).2
 unfold Hd.pl
 omega
theorem Inv.pl_inj (I:Inv s){h h':Hd}(h1:h∈s.held)(h2:h'∈s.held)(e:h.pl=h'.pl):h=h':=by
 have e1:=I.pl_div h1
 have e2:=I.pl_div h2
 obtain ⟨i,hi,rfl⟩:=List.getElem_of_mem h1
 obtain ⟨j,hj,rfl⟩:=List.getElem_of_mem h2
 have hs:=I.spot
 have e3:(s.held.map fun h=>(h.page,h.chunk))[i]'(by simpa using hi)=(s.held.map fun h=>(h.page,h.chunk))[j]'(by simpa using hj):=by
  simp only [List.getElem_map,Prod.mk.injEq]
  omega
 have:=(List.getElem_inj hs).1 e3
 subst this
 rfl
theorem Inv.okN (I:Inv s){h:Hd}(hm:h∈s.held):okN h.name:=by
 have h1:=I.ten h hm
 have h2:=(I.item h hm).1
 have h3:=I.tOk h1
 unfold okI at h2
 simp only [Bool.and_eq_true,decide_eq_true_eq] at h2
 simp only [isT,Bool.and_eq_true,decide_eq_true_eq] at h3
 exact ⟨h1.1,(by show h.tenant<4;omega),h2.1.1,h2.1.2.1⟩
theorem lk_perm {T T':List (Na × Int)}(h:T.Perm T')(hn:(T'.map Prod.fst).Nodup)(n:Na):lkN T n=lkN T' n:=by
 have hn1:(T.map Prod.fst).Nodup:=(h.map Prod.fst).nodup_iff.2 hn
 have key:∀ {L:List (Na × Int)},(L.map Prod.fst).Nodup→∀ {v:Int},(n,v)∈L→lkN L n=some v:=by
  intro L hL v hv
  unfold lkN
  induction L with
  | nil=>cases hv
  | cons a L ih=>
   rw [List.map_cons,List.nodup_cons] at hL
   rw [List.find?_cons]
   by_cases e:a.1=n
   ·simp only [e,decide_true]
    rcases List.mem_cons.1 hv with e2 | e2
    ·rw [← e2];rfl
    ·exact absurd (show a.1∈L.map Prod.fst by rw [e];exact List.mem_map.2 ⟨_,e2,rfl⟩) hL.1
   ·simp only [e,decide_false]
    rcases List.mem_cons.1 hv with e2 | e2
    ·exact absurd (by rw [← e2]) e
    ·exact ih hL.2 e2
 have none_:∀ {L:List (Na × Int)},(∀ v,(n,v)∉L)→lkN L n=none:=by
  intro L hL
  unfold lkN
  rw [List.find?_eq_none.2]
  ·rfl
  ·intro p hp e
   simp at e
   exact hL p.2 (by rw [← e];exact hp)
 by_cases hv:∃ v,(n,v)∈T
 ·obtain ⟨v,hv⟩:=hv
  rw [key hn1 hv,key hn (h.mem_iff.1 hv)]
 ·rw [none_ fun v h2=>hv ⟨v,h2⟩,none_ fun v h2=>hv ⟨v,h.mem_iff.2 h2⟩]
theorem lk_held (I:Inv s)(B:RepB x s)(t:Int)(k:ByteArray):lkN x.T (t,k)=(s.at t k).bind fun i=>(s.held[i]?).map fun h=>(h.pl:Int):=by
 have hn:((s.held.map fun h=>(h.name,(h.pl:Int))).map Prod.fst).Nodup:=by
  rw [List.map_map]
  exact I.names
 rw [lk_perm B.T hn]
 unfold lkN Sh.at
 clear B hn I
 generalize s.held=l
 induction l with
 | nil=>rfl
 | cons a l ih=>
  rw [List.map_cons,List.find?_cons,List.findIdx?_cons]
  by_cases e:a.name=(t,k)
  ·simp [e]
  ·simp only [e,decide_false]
   rw [ih]
   cases List.findIdx? (fun h=>decide (h.name=(t,k))) l with
   | none=>rfl
   | some i=>simp
theorem lk_some (I:Inv s)(B:RepB x s){t:Int}{k:ByteArray}{i:Nat}(h:s.at t k=some i):∃ hi:i<s.held.length,lkN x.T (t,k)=some (s.held[i].pl:Int):=by
 obtain ⟨hi,_⟩:=at_some h
 refine ⟨hi,?_⟩
 rw [lk_held I B,h,Option.bind_some,List.getElem?_eq_getElem hi]
 rfl
theorem lk_none (I:Inv s)(B:RepB x s){t:Int}{k:ByteArray}(h:s.at t k=none):lkN x.T (t,k)=none:=by rw [lk_held I B,h];rfl
theorem RepB.lens (I:Inv s)(B:RepB x s):x.kept.length≤256∧x.row.length≤256∧x.T.length≤256:=by
 have h1:=I.many
 have h2:=sOk_len I.slab
 refine ⟨by rw [B.kl];omega,by rw [B.row,List.length_map];exact h1,by rw [B.T.length_eq,List.length_map];exact h1⟩
theorem RepA.at_ (A:RepA x s){t c:Int}(ht:0≤t∧t<4)(hc:0≤c∧c<5):x.ord (t.toNat * 5+c.toNat)=s.ord t c:=by
 rw [A.ord t.toNat c.toNat (by omega) (by omega),Int.toNat_of_nonneg ht.1,Int.toNat_of_nonneg hc.1]
theorem cls_lt (x:Im):0≤cls x∧cls x<5:=by
 have:=cls_isC x
 simp only [isC,Bool.and_eq_true,decide_eq_true_eq] at this
 omega
theorem Inv.t4 (I:Inv s){h:Hd}(hm:h∈s.held):0≤h.tenant∧h.tenant<4:=⟨(I.okN hm).1,(I.okN hm).2.1⟩
theorem lvs_of {s1:Sh}(I:Inv s)(I1:Inv s1)(A:RepA x s1)(B:RepB x s){h:Hd}(hm:h∈s.held)(hm1:h∈s1.held):Lvs x h.pl h.tenant.toNat (cls h.item).toNat (h.tenant,h.item):=by
 obtain ⟨hp,hpt,hpc,hpb⟩:=I1.page h hm1
 have hd:=I1.pl_div hm1
 have ht:=I1.t4 hm1
 have hc:=cls_lt h.item
 have hl:=B.lens I
 have hpg:∀ (hq:h.pl / 16<x.pages.length),x.pages[h.pl / 16]=s1.pages[h.page]:=by
  intro hq
  simp only [A.pages,hd.1]
 have hil:h.pl / 16<x.pages.length:=by rw [A.pages,hd.1];exact hp
 refine ⟨B.kept h hm,by omega,by omega,by omega,hil,?_,?_,by omega,by omega,?_,?_,by rw [A.pages];exact I1.slab,?_,I.okN hm⟩
 ·rw [hpg hil,hpt,Int.toNat_of_nonneg ht.1]
 ·rw [hpg hil,hpc,Int.toNat_of_nonneg hc.1]
 ·rw [A.at_ ht hc];exact I1.oks _ _
 ·rw [A.at_ ht hc];exact (I1.keys _ _ _).2 ⟨h,hm1,rfl,rfl,rfl⟩
 ·rw [hpg hil,hd.2];exact hpb
theorem RepA.release (I:Inv s)(A:RepA x s){i:Nat}(hi:i<s.held.length):RepA (x.release s.held[i].pl (s.held[i].tenant.toNat * 5+(cls s.held[i].item).toNat) s.held[i].item.key) (s.leaveH i s.held[i]):=by
 have hm:=List.getElem_mem hi
 have ht:=I.t4 hm
 have hc:=cls_lt s.held[i].item
 have hd:=I.pl_div hm
 refine ⟨A.quo,A.now,?_,?_,A.last⟩
 ·show freeR x.pages _ _=freeR s.pages _ _
  rw [A.pages,hd.1,hd.2]
 ·intro t c h4 h5
  show upn x.ord _ _ (t * 5+c)=upd s.ord _ _ _ t c
  by_cases e:(t:Int)=s.held[i].tenant∧(c:Int)=cls s.held[i].item
  ·obtain ⟨e1,e2⟩:=e
   rw [← e1,← e2,Int.toNat_natCast,Int.toNat_natCast,upn_same,upd_same,A.ord t c h4 h5]
  ·rw [upd_other e,upn_other,A.ord t c h4 h5]
   intro e2
   exact e ⟨by omega,by omega⟩
theorem RepA.forget (A:RepA x s)(p:Nat)(n:Na):RepA (x.forget p n) s:=⟨A.quo,A.now,A.pages,A.ord,A.last⟩
theorem RepB.release (B:RepB x s)(p I:Nat)(k:ByteArray):RepB (x.release p I k) s:=⟨B.T,B.L,B.kl,B.kept,B.row⟩
theorem RepB.forget (I:Inv s)(B:RepB x s){i:Nat}(hi:i<s.held.length):RepB (x.forget s.held[i].pl s.held[i].name) (s.leaveH i s.held[i]):=by
 have hm:=List.getElem_mem hi
 have hme:∀ {y:Hd},y∈s.held.eraseIdx i↔y∈s.held∧y≠s.held[i]:=mem_eraseIdx_iff (held_nodup I.names) hi
 have hef:=erase_filter Hd.name s.held i hi I.names
 obtain ⟨hp,_,_,hb⟩:=I.page _ hm
 refine ⟨?_,?_,?_,?_,?_⟩
 ·show (strikeN _ x.T).Perm ((s.held.eraseIdx i).map _)
  rw [hef]
  refine (B.T.filter _).trans ?_
  rw [List.filter_map]
  exact List.Perm.refl _
 ·show (strikeN _ x.L).Perm (((s.held.eraseIdx i).filter _).map _)
  rw [hef]
  refine (B.L.filter _).trans ?_
  rw [List.filter_map,List.filter_filter,List.filter_filter]
  refine List.Perm.of_eq ?_
  congr 1
  apply List.filter_congr
  intro y _
  rw [Bool.eq_iff_iff]
  simp [Hd.due,and_comm]
  intro _
  exact decide_eq_false_iff_not
 ·show (x.kept.set _ _).length=(freeR s.pages _ _).length * 16
  rw [List.length_set,(free_eq I.slab hp hb).2,List.length_set,B.kl]
 ·intro y hy
  have h1:=hme.1 hy
  show (x.kept.set _ _)[y.pl]? = _
  rw [List.getElem?_set_ne fun e=>h1.2 (I.pl_inj hm h1.1 e).symm]
  exact B.kept y h1.1
 ·show x.row.erase _=(s.held.eraseIdx i).map _
  rw [B.row,map_eraseIdx]
  have hj:(s.held.map fun h=>(h.pl:Int))[i]? = some (s.held[i].pl:Int):=by rw [List.getElem?_map,List.getElem?_eq_getElem hi];rfl
  have hnd:(s.held.map fun h=>(h.pl:Int)).Nodup:=by
   rw [List.nodup_iff_pairwise_ne,List.pairwise_map]
   refine List.Pairwise.imp_of_mem ?_ (held_nodup I.names)
   intro a b ha hb' hne e
   exact hne (I.pl_inj ha hb' (by omega))
  have hl:i<(s.held.map fun h=>(h.pl:Int)).length:=by simpa using hi
  rw [hnd.erase_eq_filter]
  have h2:=erase_filter (id:Int→Int) (s.held.map fun h=>(h.pl:Int)) i hl (by simpa using hnd)
  rw [h2]
  apply List.filter_congr
  intro y _
  rw [Bool.eq_iff_iff]
  simp
end
end Go.Proofs.YtcdpiefflnaghaaGreatDoor.En
