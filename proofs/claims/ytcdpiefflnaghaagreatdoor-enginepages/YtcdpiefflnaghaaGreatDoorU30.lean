/-
  Package engine and what stands beneath it, part 30: contracts of functions, and what they rest on.
-/
import Derived.Test.YtcdpiefflnaghaaGreatDoorU26
set_option linter.unusedSimpArgs false
set_option linter.unusedVariables false
set_option maxRecDepth 100000
namespace Go.Proofs.YtcdpiefflnaghaaGreatDoor.Sb
open Go.RowKit
theorem take_full (w:World)(ao:Option Addr)(ps:List Pg)(cap:Nat)(h:Sb w ao ps cap)(t c q:Int)(ho:sOk ps=true)(ht:isT t=true)(hc:isC c=true)(hq:isQ q=true)(hp:place ps t c q=none):
  Calls Tryz.prog 170 #[.agg #[.slice ao ps.length cap],.int .i64 t,.int .i64 c,.int .i64 q] w fun e w'=>e=.returned (.tuple #[.agg #[.slice none 0 0],.int .i64 0,.int .i64 0,.int .i64 9])∧Below w.heap.size w w':=by
 have HCT:=Hid.m (fun W (hb:Below w.heap.size w W)=>checkTenant_any W ao ps cap (h.below hb) t)
 rw [show tE ps t=0 by unfold tE;rw [ho,ht];rfl] at HCT
 have hlen:=sOk_len ho
 have hic:=fun W=>isClass_any c W
 have HRM:=Hid.m (fun W (hb:Below w.heap.size w W)=>room_any W ao ps cap (h.below hb) (by omega) t c hc)
 have HOW:=Hid.m (fun W (hb:Below w.heap.size w W)=>owned_any W ao ps cap (h.below hb) (by omega) t)
 have HFP:=Hid.m (fun W (hb:Below w.heap.size w W)=>freePage_any W ao ps cap (h.below hb) (by omega))
 have hq0:decide (q<0)=false:=by simp [isQ] at hq;simp;omega
 have hq1:decide (16<q)=false:=by simp [isQ] at hq;simp;omega
 rw [hc] at hic
 obtain ⟨hr,hp2⟩:=place_none hp
 rw [hr] at HRM
 simp only [optP,optK,Option.isSome_none] at HRM
 obtain ⟨O,hO⟩:∃ O,O=owned ps t:=⟨_,rfl⟩
 rw [← hO] at HOW hp2
 clear hp hr hO h ho ht hc hq
 by_cases hlt:(O:Int)<q
 ·have hlt2:decide ((O:Int)<q)=true:=by simp [hlt]
  have hf:freeP ps=none:=by
   rcases hp2 with h | h
   ·exact absurd hlt h
   ·exact h
  rw [hf] at HFP
  simp only [optI,Option.isSome_none] at HFP
  clear hp2 hf
  go_enter Tryz.func170,Tryz.ntmps170
  go_upto_region 1 with (fail)
  obtain ⟨w0,hw0⟩:∃ w0,w0=(w.alloc (Obj.cells #[Value.slice ao ps.length cap] 51)).alloc (Obj.cells #[Value.slice none 0 0] 51):=⟨_,rfl⟩
  rw [← hw0]
  have T0:TK w w0 (.slice ao ps.length cap):=by rw [hw0];exact TK.begin _ _ _ _
  have a0:=T0.c0
  have x0:=T0.x0
  have HT0:=Hid.m T0
  clear hw0 T0
  go_wp2_with (first
   | (go_at_call 75;refine (HCT.out _ HT0.out.below).mono ?_;rintro e w1 ⟨rfl,hb1⟩;have T1:=HT0.out.step hb1;have a1:=T1.c0;have b1:=T1.c1;have f1:=T1.f1;have x1:=T1.x0;have y1:=T1.x1;have HT1:=Hid.m T1;clear T1 hb1 a0 x0)
   | (go_at_call 125;refine (hic _).mono ?_;rintro e w2 ⟨rfl,hwq⟩;obtain rfl:w1=w2:=hwq.symm)
   | (go_at_call 231;refine (HRM.out _ HT1.out.below).mono ?_;rintro e w2 ⟨rfl,hb2⟩;have T2:=HT1.out.step hb2;have a2:=T2.c0;have b2:=T2.c1;have f2:=T2.f1;have x2:=T2.x0;have y2:=T2.x1;have HT2:=Hid.m T2;clear T2 hb2 a1 x1 b1 f1 y1)
   | (go_at_call 76;refine (HOW.out _ HT2.out.below).mono ?_;rintro e w3 ⟨rfl,hb3⟩;have T3:=HT2.out.step hb3;have a3:=T3.c0;have b3:=T3.c1;have f3:=T3.f1;have x3:=T3.x0;have y3:=T3.x1;have HT3:=Hid.m T3;clear T3 hb3 a2 x2 b2 f2 y2)
   | (go_at_call 232;refine (HFP.out _ HT3.out.below).mono ?_;rintro e w4 ⟨rfl,hb4⟩;have T4:=HT3.out.step hb4;have a4:=T4.c0;have b4:=T4.c1;have f4:=T4.f1;have x4:=T4.x0;have y4:=T4.x1;have HT4:=Hid.m T4;clear T4 hb4 a3 x3 b3 f3 y3))
  have z0:(w4.setCell ⟨w.heap.size+1,0,none⟩ (.slice none 0 0)).cell? ⟨w.heap.size+1,0,none⟩=some (.slice none 0 0):=World.cell?_setCell_same _ _ _ b4
  try simp only [Exit.inBlock,Exit.then]
  exact bodyPost_ret (v:=.tuple #[.agg #[.slice none 0 0],.int .i64 0,.int .i64 0,.int .i64 9]) (by simp [results,Tryz.results170,go_sem,z0]) rfl ⟨rfl,HT4.out.below.setCell (by simp) _⟩
 ·have hlt2:decide ((O:Int)<q)=false:=by simp;omega
  clear hp2
  go_enter Tryz.func170,Tryz.ntmps170
  go_upto_region 1 with (fail)
  obtain ⟨w0,hw0⟩:∃ w0,w0=(w.alloc (Obj.cells #[Value.slice ao ps.length cap] 51)).alloc (Obj.cells #[Value.slice none 0 0] 51):=⟨_,rfl⟩
  rw [← hw0]
  have T0:TK w w0 (.slice ao ps.length cap):=by rw [hw0];exact TK.begin _ _ _ _
  have a0:=T0.c0
  have x0:=T0.x0
  have HT0:=Hid.m T0
  clear hw0 T0
  go_wp2_with (first
   | (go_at_call 75;refine (HCT.out _ HT0.out.below).mono ?_;rintro e w1 ⟨rfl,hb1⟩;have T1:=HT0.out.step hb1;have a1:=T1.c0;have b1:=T1.c1;have f1:=T1.f1;have x1:=T1.x0;have y1:=T1.x1;have HT1:=Hid.m T1;clear T1 hb1 a0 x0)
   | (go_at_call 125;refine (hic _).mono ?_;rintro e w2 ⟨rfl,hwq⟩;obtain rfl:w1=w2:=hwq.symm)
   | (go_at_call 231;refine (HRM.out _ HT1.out.below).mono ?_;rintro e w2 ⟨rfl,hb2⟩;have T2:=HT1.out.step hb2;have a2:=T2.c0;have b2:=T2.c1;have f2:=T2.f1;have x2:=T2.x0;have y2:=T2.x1;have HT2:=Hid.m T2;clear T2 hb2 a1 x1 b1 f1 y1)
   | (go_at_call 76;refine (HOW.out _ HT2.out.below).mono ?_;rintro e w3 ⟨rfl,hb3⟩;have T3:=HT2.out.step hb3;have a3:=T3.c0;have b3:=T3.c1;have f3:=T3.f1;have x3:=T3.x0;have y3:=T3.x1;have HT3:=Hid.m T3;clear T3 hb3 a2 x2 b2 f2 y2))
  have z0:(w3.setCell ⟨w.heap.size+1,0,none⟩ (.slice none 0 0)).cell? ⟨w.heap.size+1,0,none⟩=some (.slice none 0 0):=World.cell?_setCell_same _ _ _ b3
  try simp only [Exit.inBlock,Exit.then]
  exact bodyPost_ret (v:=.tuple #[.agg #[.slice none 0 0],.int .i64 0,.int .i64 0,.int .i64 9]) (by simp [results,Tryz.results170,go_sem,z0]) rfl ⟨rfl,HT3.out.below.setCell (by simp) _⟩
set_option maxHeartbeats 2000000 in
theorem take_good (w:World)(ao:Option Addr)(ps:List Pg)(cap:Nat)(h:Sb w ao ps cap)(t c q:Int)(ho:sOk ps=true)(ht:isT t=true)(hc:isC c=true)(hq:isQ q=true)(i k:Nat)(hp:place ps t c q=some (i,k)):
  Calls Tryz.prog 170 #[.agg #[.slice ao ps.length cap],.int .i64 t,.int .i64 c,.int .i64 q] w fun e w'=>∃ v',e=.returned (.tuple #[.agg #[v'],.int .i64 i,.int .i64 k,.int .i64 0])∧FreshS w' w.heap.size v' (ps.set i (taken ps t c i k))∧Below w.heap.size w w':=by
 obtain ⟨hi,hk,hbt,_⟩:=place_lt hc hp
 have hk16:k<16:=by have:=chunks_le hc;omega
 have HCT:=Hid.m (fun W (hb:Below w.heap.size w W)=>checkTenant_any W ao ps cap (h.below hb) t)
 rw [show tE ps t=0 by unfold tE;rw [ho,ht];rfl] at HCT
 have hlen:=sOk_len ho
 have hic:=fun W=>isClass_any c W
 have HRM:=Hid.m (fun W (hb:Below w.heap.size w W)=>room_any W ao ps cap (h.below hb) (by omega) t c hc)
 have HOW:=Hid.m (fun W (hb:Below w.heap.size w W)=>owned_any W ao ps cap (h.below hb) (by omega) t)
 have HFP:=Hid.m (fun W (hb:Below w.heap.size w W)=>freePage_any W ao ps cap (h.below hb) (by omega))
 have hq0:decide (q<0)=false:=by simp [isQ] at hq;simp;omega
 have hq1:decide (16<q)=false:=by simp [isQ] at hq;simp;omega
 rw [hc] at hic
 have hsome:=place_some hp
 obtain ⟨P,hP⟩:∃ P,P=taken ps t c i k:=⟨_,rfl⟩
 have hPt:P.t=t:=by rw [hP];rfl
 have hPc:P.c=c:=by rw [hP];rfl
 have hPu:P.u=ps[i].u ||| 2 ^ k:=by rw [hP];show ((ps[i]?.getD pz).u ||| 2 ^ k) % 65536=_;rw [List.getElem?_eq_getElem hi];exact or_mod ps[i].hu hk16
 rw [← hP]
 have HPt:=Hid.m hPt
 have HPc:=Hid.m hPc
 have HPu:=Hid.m hPu
 have HSB:=Hid.m h
 obtain ⟨b,off,rfl,hbl,hcs⟩:=h.lies (by intro e;rw [e] at hlen;simp at hlen)
 have HC:=Hid.m hcs
 have hbit:=fun W=>bit_any k W hk16
 clear hp hP hPt hPc hPu hcs ho ht hc hq hk hbt h
 rcases hsome with hr | ⟨hr,hlt,hf,hk0⟩
 ·rw [hr] at HRM
  simp only [optP,optK,Option.isSome_some] at HRM
  have hor:bits BinOp.or IntKind.u16 (ps[i].u:Int) (2 ^ k)=(P.u:Int):=by
   have h:=u16_or_nat ps[i].u (2 ^ k) ps[i].hu (pow_lt16 hk16)
   rw [← HPu.out] at h
   simpa using h
  clear hr HOW HFP
  go_enter Tryz.func170,Tryz.ntmps170
  go_upto_region 1 with (fail)
  obtain ⟨w0,hw0⟩:∃ w0,w0=(w.alloc (Obj.cells #[Value.slice (some ⟨b,off,none⟩) ps.length cap] 51)).alloc (Obj.cells #[Value.slice none 0 0] 51):=⟨_,rfl⟩
  rw [← hw0]
  have T0:TK w w0 (.slice (some ⟨b,off,none⟩) ps.length cap):=by rw [hw0];exact TK.begin _ _ _ _
  have a0:=T0.c0
  have x0:=T0.x0
  have HT0:=Hid.m T0
  clear hw0 T0
  go_upto_region 11 with (first
   | (go_at_call 75;refine (HCT.out _ HT0.out.below).mono ?_;rintro e w1 ⟨rfl,hb1⟩;have T1:=HT0.out.step hb1;have a1:=T1.c0;have b1:=T1.c1;have f1:=T1.f1;have x1:=T1.x0;have y1:=T1.x1;have HT1:=Hid.m T1;clear T1 hb1 a0 x0)
   | (go_at_call 125;refine (hic _).mono ?_;rintro e w2 ⟨rfl,hwq⟩;obtain rfl:w1=w2:=hwq.symm)
   | (go_at_call 231;refine (HRM.out _ HT1.out.below).mono ?_;rintro e w2 ⟨rfl,hb2⟩;have T2:=HT1.out.step hb2;have a2:=T2.c0;have b2:=T2.c1;have f2:=T2.f1;have x2:=T2.x0;have y2:=T2.x1;have HT2:=Hid.m T2;clear T2 hb2 a1 x1 b1 f1 y1))
  have HCP:=Hid.m (scopied_any w2 _ ps cap (HSB.out.below HT2.out.below) (by intro e;rw [e] at hlen;simp at hlen) (by omega))
  go_upto_region 12 with (go_at_call 216;refine HCP.out.mono ?_;rintro e w7 ⟨g,rfl,hg7,hr7,hb7⟩;have T7:=HT2.out.step hb7;have a7:=T7.c0;have b7:=T7.c1;have f7:=T7.f1;have x7:=T7.x0;have y7:=T7.x1;have HT7:=Hid.m T7;have HR7:=Hid.m hr7;clear T7 hb7 hr7)
  have hgw:w.heap.size+1<g:=by have:=HT2.out.x1;omega
  have hg8:g<w7.heap.size:=(Array.getElem?_eq_some_iff.1 HR7.out).1
  obtain ⟨w8,hw8⟩:∃ w8,w8=w7.setCell ⟨w.heap.size+1,0,none⟩ (.slice (some ⟨g,0,none⟩) ps.length ps.length):=⟨_,rfl⟩
  rw [← hw8]
  have hr8:w8.heap[g]? = some (.cells (ps.flatMap pcells).toArray 139 (0,0)):=by rw [hw8];exact (Below.heap_setCell w7 ⟨w.heap.size+1,0,none⟩ _ g (by show g≠w.heap.size+1;omega)).trans HR7.out
  have hgr8:w7.grownBy w8 (some (w.heap.size+1)):=by rw [hw8];exact grown_set _ _ _ _
  have a8:w8.cell? ⟨w.heap.size,0,none⟩=some (.slice (some ⟨b,off,none⟩) ps.length cap):=hgr8.cell (a:=⟨w.heap.size,0,none⟩) a7 (by intro e;have:=Option.some.inj e;simp at this)
  have b8:w8.cell? ⟨w.heap.size+1,0,none⟩=some (.slice (some ⟨g,0,none⟩) ps.length ps.length):=by rw [hw8];exact World.cell?_setCell_same _ _ _ b7
  have f8:w8.frozen? ⟨w.heap.size+1,0,none⟩=false:=by rw [hw8];simpa using f7
  have hs8:w8.heap.size=w7.heap.size:=by rw [hw8];simp
  have HB8:=Hid.m (HT7.out.below.grown hgr8 (by omega) (fun k hk=>by cases hk;omega))
  obtain ⟨q0,q1,q2⟩:=(HC.out i hi).below HB8.out hbl
  have F8:=row_pages (base:=w.heap.size) hr8 (by omega) (by omega)
  obtain ⟨_,_,e8,_,_,_,hF8⟩:=F8
  cases e8
  rcases hF8 with hn | ⟨g',e8,_,_,hf8,hL8⟩
  ·rw [hn] at hlen;simp at hlen
  cases e8
  obtain ⟨r0,r1,r2⟩:=hL8 i hi
  have HL8:=Hid.m hL8
  have HF8:=Hid.m hf8
  have h0:=hf8 (i * 3)
  have h1:=hf8 (i * 3+1)
  have h2:=hf8 (i * 3+2)
  have hgs:g<w8.heap.size:=by omega
  have hbs:b<w8.heap.size:=by omega
  have z8:w.heap.size+1<w8.heap.size:=by omega
  have z9:w.heap.size<w8.heap.size:=by omega
  have hset:=set3_lies (n:=0) hi HL8.out P
  rw [HPt.out,HPc.out] at hset
  have HW:=Hid.m (fun w9 hw9=>take_end (w:=w) (w8:=w8) (w9:=w9) (g:=g) (i:=i) (t:=t) (c:=c) (p:=P) (b:=.slice (some ⟨g,0,none⟩) ps.length ps.length) hw9 HB8.out (by omega) hgs b8 f8 HF8.out hset)
  clear hw8 hr8 hgr8 hL8 hf8 a7 b7 f7 x7 y7 HR7 hg7 hs8 hset
  go_wp2
  go_region_law
   (go_simp;go_at_call 215;refine (hbit _).mono ?_;rintro e w9 ⟨rfl,hwq⟩;obtain rfl:=hwq)
  all_goals
   obtain ⟨w9,hw9⟩:∃ w9,w9=(((w8.setCell ⟨g,i * 3,none⟩ (.int .i64 t)).setCell ⟨g,i * 3+1,none⟩ (.int .i64 c)).setCell ⟨g,i * 3+2,none⟩ (.int .u16 (P.u:Int))).drew:=⟨_,rfl⟩
   rw [← hw9]
   obtain ⟨b9,f9,y9,HB9,HF9⟩:=HW.out w9 hw9
   clear hw9
   go_wp2
   have z0:(w9.setCell ⟨w.heap.size+1,0,none⟩ (.slice (some ⟨g,0,none⟩) ps.length ps.length)).cell? ⟨w.heap.size+1,0,none⟩=some (.slice (some ⟨g,0,none⟩) ps.length ps.length):=World.cell?_setCell_same _ _ _ b9
   try simp only [Exit.inBlock,Exit.then]
   refine bodyPost_ret (v:=.tuple #[.agg #[.slice (some ⟨g,0,none⟩) ps.length ps.length],.int .i64 i,.int .i64 k,.int .i64 0]) (by simp [results,Tryz.results170,go_sem,z0]) rfl ⟨_,rfl,?_,HB9.out.setCell (by simp) _⟩
   exact fresh_end HF9.out (by omega) (by omega) (by simp)
 ·rw [hr] at HRM
  simp only [optP,optK,Option.isSome_none] at HRM
  rw [hf] at HFP
  simp only [optI,Option.isSome_some] at HFP
  obtain ⟨O,hO⟩:∃ O,O=owned ps t:=⟨_,rfl⟩
  rw [← hO] at HOW hlt
  have hlt2:decide ((O:Int)<q)=true:=by simp [hlt]
  subst hk0
  have hor:bits BinOp.or IntKind.u16 (ps[i].u:Int) 1=(P.u:Int):=by
   have h:=u16_or_nat ps[i].u 1 ps[i].hu (by decide)
   have e:=HPu.out
   rw [Nat.pow_zero] at e
   rw [← e] at h
   simpa using h
  clear hr hf hO
  go_enter Tryz.func170,Tryz.ntmps170
  go_upto_region 1 with (fail)
  obtain ⟨w0,hw0⟩:∃ w0,w0=(w.alloc (Obj.cells #[Value.slice (some ⟨b,off,none⟩) ps.length cap] 51)).alloc (Obj.cells #[Value.slice none 0 0] 51):=⟨_,rfl⟩
  rw [← hw0]
  have T0:TK w w0 (.slice (some ⟨b,off,none⟩) ps.length cap):=by rw [hw0];exact TK.begin _ _ _ _
  have a0:=T0.c0
  have x0:=T0.x0
  have HT0:=Hid.m T0
  clear hw0 T0
  go_upto_region 11 with (first
   | (go_at_call 75;refine (HCT.out _ HT0.out.below).mono ?_;rintro e w1 ⟨rfl,hb1⟩;have T1:=HT0.out.step hb1;have a1:=T1.c0;have b1:=T1.c1;have f1:=T1.f1;have x1:=T1.x0;have y1:=T1.x1;have HT1:=Hid.m T1;clear T1 hb1 a0 x0)
   | (go_at_call 125;refine (hic _).mono ?_;rintro e w2 ⟨rfl,hwq⟩;obtain rfl:w1=w2:=hwq.symm)
   | (go_at_call 231;refine (HRM.out _ HT1.out.below).mono ?_;rintro e w2 ⟨rfl,hb2⟩;have T2:=HT1.out.step hb2;have a2:=T2.c0;have b2:=T2.c1;have f2:=T2.f1;have x2:=T2.x0;have y2:=T2.x1;have HT2:=Hid.m T2;clear T2 hb2 a1 x1 b1 f1 y1)
   | (go_at_call 76;refine (HOW.out _ HT2.out.below).mono ?_;rintro e w3 ⟨rfl,hb3⟩;have T3:=HT2.out.step hb3;have a3:=T3.c0;have b3:=T3.c1;have f3:=T3.f1;have x3:=T3.x0;have y3:=T3.x1;have HT3:=Hid.m T3;clear T3 hb3 a2 x2 b2 f2 y2)
   | (go_at_call 232;refine (HFP.out _ HT3.out.below).mono ?_;rintro e w4 ⟨rfl,hb4⟩;have T4:=HT3.out.step hb4;have a4:=T4.c0;have b4:=T4.c1;have f4:=T4.f1;have x4:=T4.x0;have y4:=T4.x1;have HT4:=Hid.m T4;clear T4 hb4 a3 x3 b3 f3 y3))
  have HCP:=Hid.m (scopied_any w4 _ ps cap (HSB.out.below HT4.out.below) (by intro e;rw [e] at hlen;simp at hlen) (by omega))
  go_upto_region 12 with (go_at_call 216;refine HCP.out.mono ?_;rintro e w7 ⟨g,rfl,hg7,hr7,hb7⟩;have T7:=HT4.out.step hb7;have a7:=T7.c0;have b7:=T7.c1;have f7:=T7.f1;have x7:=T7.x0;have y7:=T7.x1;have HT7:=Hid.m T7;have HR7:=Hid.m hr7;clear T7 hb7 hr7)
  have hgw:w.heap.size+1<g:=by have:=HT4.out.x1;omega
  have hg8:g<w7.heap.size:=(Array.getElem?_eq_some_iff.1 HR7.out).1
  obtain ⟨w8,hw8⟩:∃ w8,w8=w7.setCell ⟨w.heap.size+1,0,none⟩ (.slice (some ⟨g,0,none⟩) ps.length ps.length):=⟨_,rfl⟩
  rw [← hw8]
  have hr8:w8.heap[g]? = some (.cells (ps.flatMap pcells).toArray 139 (0,0)):=by rw [hw8];exact (Below.heap_setCell w7 ⟨w.heap.size+1,0,none⟩ _ g (by show g≠w.heap.size+1;omega)).trans HR7.out
  have hgr8:w7.grownBy w8 (some (w.heap.size+1)):=by rw [hw8];exact grown_set _ _ _ _
  have a8:w8.cell? ⟨w.heap.size,0,none⟩=some (.slice (some ⟨b,off,none⟩) ps.length cap):=hgr8.cell (a:=⟨w.heap.size,0,none⟩) a7 (by intro e;have:=Option.some.inj e;simp at this)
  have b8:w8.cell? ⟨w.heap.size+1,0,none⟩=some (.slice (some ⟨g,0,none⟩) ps.length ps.length):=by rw [hw8];exact World.cell?_setCell_same _ _ _ b7
  have f8:w8.frozen? ⟨w.heap.size+1,0,none⟩=false:=by rw [hw8];simpa using f7
  have hs8:w8.heap.size=w7.heap.size:=by rw [hw8];simp
  have HB8:=Hid.m (HT7.out.below.grown hgr8 (by omega) (fun k hk=>by cases hk;omega))
  obtain ⟨q0,q1,q2⟩:=(HC.out i hi).below HB8.out hbl
  have F8:=row_pages (base:=w.heap.size) hr8 (by omega) (by omega)
  obtain ⟨_,_,e8,_,_,_,hF8⟩:=F8
  cases e8
  rcases hF8 with hn | ⟨g',e8,_,_,hf8,hL8⟩
  ·rw [hn] at hlen;simp at hlen
  cases e8
  obtain ⟨r0,r1,r2⟩:=hL8 i hi
  have HL8:=Hid.m hL8
  have HF8:=Hid.m hf8
  have h0:=hf8 (i * 3)
  have h1:=hf8 (i * 3+1)
  have h2:=hf8 (i * 3+2)
  have hgs:g<w8.heap.size:=by omega
  have hbs:b<w8.heap.size:=by omega
  have z8:w.heap.size+1<w8.heap.size:=by omega
  have z9:w.heap.size<w8.heap.size:=by omega
  have hset:=set3_lies (n:=0) hi HL8.out P
  rw [HPt.out,HPc.out] at hset
  have HW:=Hid.m (fun w9 hw9=>take_end (w:=w) (w8:=w8) (w9:=w9) (g:=g) (i:=i) (t:=t) (c:=c) (p:=P) (b:=.slice (some ⟨g,0,none⟩) ps.length ps.length) hw9 HB8.out (by omega) hgs b8 f8 HF8.out hset)
  clear hw8 hr8 hgr8 hL8 hf8 a7 b7 f7 x7 y7 HR7 hg7 hs8 hset
  go_wp2
  go_region_law
   (go_simp;go_at_call 215;refine (hbit _).mono ?_;rintro e w9 ⟨rfl,hwq⟩;obtain rfl:=hwq)
  all_goals
   obtain ⟨w9,hw9⟩:∃ w9,w9=(((w8.setCell ⟨g,i * 3,none⟩ (.int .i64 t)).setCell ⟨g,i * 3+1,none⟩ (.int .i64 c)).setCell ⟨g,i * 3+2,none⟩ (.int .u16 (P.u:Int))).drew:=⟨_,rfl⟩
   rw [← hw9]
   obtain ⟨b9,f9,y9,HB9,HF9⟩:=HW.out w9 hw9
   clear hw9
   go_wp2
   have z0:(w9.setCell ⟨w.heap.size+1,0,none⟩ (.slice (some ⟨g,0,none⟩) ps.length ps.length)).cell? ⟨w.heap.size+1,0,none⟩=some (.slice (some ⟨g,0,none⟩) ps.length ps.length):=World.cell?_setCell_same _ _ _ b9
   try simp only [Exit.inBlock,Exit.then]
   refine bodyPost_ret (v:=.tuple #[.agg #[.slice (some ⟨g,0,none⟩) ps.length ps.length],.int .i64 i,.int .i64 0,.int .i64 0]) (by simp [results,Tryz.results170,go_sem,z0]) rfl ⟨_,rfl,?_,HB9.out.setCell (by simp) _⟩
   exact fresh_end HF9.out (by omega) (by omega) (by simp)
end Go.Proofs.YtcdpiefflnaghaaGreatDoor.Sb
namespace Go.Proofs.YtcdpiefflnaghaaGreatDoor.Sb
open Go.RowKit
theorem and_xor {u k:Nat}(hu:u<65536)(hk:k<16)(h:u.testBit k=true):u &&& (65535 - 2 ^ k)=u ^^^ 2 ^ k:=by
 have e:65535 - 2 ^ k=2 ^ 16 - (2 ^ k+1):=by omega
 have hp:2 ^ k<2 ^ 16:=Nat.pow_lt_pow_right (by decide) hk
 rw [e]
 apply Nat.eq_of_testBit_eq
 intro i
 rw [Nat.testBit_and,Nat.testBit_two_pow_sub_succ hp,Nat.testBit_xor,Nat.testBit_two_pow]
 by_cases hi:k=i
 ·subst hi;simp [h]
 ·simp [hi]
  intro h1
  apply Decidable.byContradiction
  intro h2
  have h3:u<2 ^ i:=Nat.lt_of_lt_of_le hu (by have:2 ^ 16≤2 ^ i:=Nat.pow_le_pow_right (by decide) (by omega);simpa using this)
  rw [Nat.testBit_lt_two_pow h3] at h1
  cases h1
theorem xor_sub {u k:Nat}(h:u.testBit k=true):u ^^^ 2 ^ k=u - 2 ^ k:=by
 have h1:(u ^^^ 2 ^ k).testBit k=false:=by rw [Nat.testBit_xor,h,Nat.testBit_two_pow_self];rfl
 have h2:=or_add h1
 have h3:(u ^^^ 2 ^ k) ||| 2 ^ k=u:=by
  apply Nat.eq_of_testBit_eq
  intro i
  rw [Nat.testBit_or,Nat.testBit_xor,Nat.testBit_two_pow]
  by_cases hi:k=i
  ·subst hi;simp [h]
  ·simp [hi]
 omega
theorem and_sub {u k:Nat}(hu:u<65536)(hk:k<16)(h:u.testBit k=true):u &&& (65535 - 2 ^ k)=u - 2 ^ k:=by
 rw [and_xor hu hk h,xor_sub h]
theorem hasK_lt {p:Pg}{k:Int}(ho:pOk p=true)(h:hasK p k=true):0≤k∧k<(chunks p.c:Int)∧p.u.testBit k.toNat=true:=by
 unfold hasK at h
 simp at h
 refine ⟨h.1.1,?_,h.2⟩
 have hu:=pOk_u ho
 apply Decidable.byContradiction
 intro hn
 have h2:chunks p.c≤k.toNat:=by omega
 have h3:p.u<2 ^ k.toNat:=Nat.lt_of_lt_of_le hu (Nat.pow_le_pow_right (by decide) h2)
 rw [Nat.testBit_lt_two_pow h3] at h
 exact absurd h.2 (by simp)
theorem free_bad1 (w:World)(ao:Option Addr)(ps:List Pg)(cap:Nat)(h:Sb w ao ps cap)(i k:Int)(he:sOk ps=false):
  Calls Tryz.prog 157 #[.agg #[.slice ao ps.length cap],.int .i64 i,.int .i64 k] w fun e w'=>e=.returned (.tuple #[.agg #[.slice none 0 0],.int .i64 8])∧Below w.heap.size w w':=by
 have HCK:=Hid.m (fun W (hb:Below w.heap.size w W)=>scheck_any W ao ps cap (h.below hb))
 rw [show sE ps=8 by unfold sE;rw [he];rfl] at HCK
 clear h he
 go_enter Tryz.func157,Tryz.ntmps157
 go_upto_region 1 with (fail)
 obtain ⟨w0,hw0⟩:∃ w0,w0=(w.alloc (Obj.cells #[Value.slice ao ps.length cap] 51)).alloc (Obj.cells #[Value.slice none 0 0] 51):=⟨_,rfl⟩
 rw [← hw0]
 have T0:TK w w0 (.slice ao ps.length cap):=by rw [hw0];exact TK.begin _ _ _ _
 have a0:=T0.c0
 have x0:=T0.x0
 have HT0:=Hid.m T0
 clear hw0 T0
 go_wp2_with (go_at_call 30;refine (HCK.out _ HT0.out.below).mono ?_;rintro e w1 ⟨rfl,hb1⟩;have T1:=HT0.out.step hb1;have a1:=T1.c0;have b1:=T1.c1;have f1:=T1.f1;have x1:=T1.x0;have y1:=T1.x1;have HT1:=Hid.m T1;clear T1 hb1 a0 x0)
 have z0:(w1.setCell ⟨w.heap.size+1,0,none⟩ (.slice none 0 0)).cell? ⟨w.heap.size+1,0,none⟩=some (.slice none 0 0):=World.cell?_setCell_same _ _ _ b1
 try simp only [Exit.inBlock,Exit.then]
 exact bodyPost_ret (v:=.tuple #[.agg #[.slice none 0 0],.int .i64 8]) (by simp [results,Tryz.results157,go_sem,z0]) rfl ⟨rfl,HT1.out.below.setCell (by simp) _⟩
theorem free_bad2 (w:World)(ao:Option Addr)(ps:List Pg)(cap:Nat)(h:Sb w ao ps cap)(i k:Int)(ho:sOk ps=true)(he:inP ps i=false):
  Calls Tryz.prog 157 #[.agg #[.slice ao ps.length cap],.int .i64 i,.int .i64 k] w fun e w'=>e=.returned (.tuple #[.agg #[.slice none 0 0],.int .i64 2])∧Below w.heap.size w w':=by
 have HCK:=Hid.m (fun W (hb:Below w.heap.size w W)=>scheck_any W ao ps cap (h.below hb))
 rw [show sE ps=0 by unfold sE;rw [ho];rfl] at HCK
 have hlen:=sOk_len ho
 simp only [inP,decide_eq_false_iff_not] at he
 clear h ho
 by_cases h0:i<0
 ·have h1:decide (i<0)=true:=by simp [h0]
  clear he h0
  go_enter Tryz.func157,Tryz.ntmps157
  go_upto_region 1 with (fail)
  obtain ⟨w0,hw0⟩:∃ w0,w0=(w.alloc (Obj.cells #[Value.slice ao ps.length cap] 51)).alloc (Obj.cells #[Value.slice none 0 0] 51):=⟨_,rfl⟩
  rw [← hw0]
  have T0:TK w w0 (.slice ao ps.length cap):=by rw [hw0];exact TK.begin _ _ _ _
  have a0:=T0.c0
  have x0:=T0.x0
  have HT0:=Hid.m T0
  clear hw0 T0
  go_wp2_with (go_at_call 30;refine (HCK.out _ HT0.out.below).mono ?_;rintro e w1 ⟨rfl,hb1⟩;have T1:=HT0.out.step hb1;have a1:=T1.c0;have b1:=T1.c1;have f1:=T1.f1;have x1:=T1.x0;have y1:=T1.x1;have HT1:=Hid.m T1;clear T1 hb1 a0 x0)
  have z0:(w1.setCell ⟨w.heap.size+1,0,none⟩ (.slice none 0 0)).cell? ⟨w.heap.size+1,0,none⟩=some (.slice none 0 0):=World.cell?_setCell_same _ _ _ b1
  try simp only [Exit.inBlock,Exit.then]
  exact bodyPost_ret (v:=.tuple #[.agg #[.slice none 0 0],.int .i64 2]) (by simp [results,Tryz.results157,go_sem,z0]) rfl ⟨rfl,HT1.out.below.setCell (by simp) _⟩
 ·have h1:decide (i<0)=false:=by simp;omega
  have h2:decide ((ps.length:Int)≤i)=true:=by simp;omega
  clear he h0
  go_enter Tryz.func157,Tryz.ntmps157
  go_upto_region 1 with (fail)
  obtain ⟨w0,hw0⟩:∃ w0,w0=(w.alloc (Obj.cells #[Value.slice ao ps.length cap] 51)).alloc (Obj.cells #[Value.slice none 0 0] 51):=⟨_,rfl⟩
  rw [← hw0]
  have T0:TK w w0 (.slice ao ps.length cap):=by rw [hw0];exact TK.begin _ _ _ _
  have a0:=T0.c0
  have x0:=T0.x0
  have HT0:=Hid.m T0
  clear hw0 T0
  go_wp2_with (go_at_call 30;refine (HCK.out _ HT0.out.below).mono ?_;rintro e w1 ⟨rfl,hb1⟩;have T1:=HT0.out.step hb1;have a1:=T1.c0;have b1:=T1.c1;have f1:=T1.f1;have x1:=T1.x0;have y1:=T1.x1;have HT1:=Hid.m T1;clear T1 hb1 a0 x0)
  have z0:(w1.setCell ⟨w.heap.size+1,0,none⟩ (.slice none 0 0)).cell? ⟨w.heap.size+1,0,none⟩=some (.slice none 0 0):=World.cell?_setCell_same _ _ _ b1
  try simp only [Exit.inBlock,Exit.then]
  exact bodyPost_ret (v:=.tuple #[.agg #[.slice none 0 0],.int .i64 2]) (by simp [results,Tryz.results157,go_sem,z0]) rfl ⟨rfl,HT1.out.below.setCell (by simp) _⟩
theorem free_bad3 (w:World)(ao:Option Addr)(ps:List Pg)(cap:Nat)(h:Sb w ao ps cap)(i:Nat)(k:Int)(ho:sOk ps=true)(hi:i<ps.length)(he:hasK ps[i] k=false):
  Calls Tryz.prog 157 #[.agg #[.slice ao ps.length cap],.int .i64 i,.int .i64 k] w fun e w'=>e=.returned (.tuple #[.agg #[.slice none 0 0],.int .i64 6])∧Below w.heap.size w w':=by
 have HCK:=Hid.m (fun W (hb:Below w.heap.size w W)=>scheck_any W ao ps cap (h.below hb))
 rw [show sE ps=0 by unfold sE;rw [ho];rfl] at HCK
 have hlen:=sOk_len ho
 have hpo:=sOk_pg ho i hi
 obtain ⟨b,off,rfl,hbl,hcs⟩:=h.lies (by intro e;rw [e] at hlen;simp at hlen)
 have HC:=Hid.m (hcs i hi)
 obtain ⟨p,hp⟩:∃ p,p=ps[i]:=⟨_,rfl⟩
 rw [← hp] at hpo HC he
 have hch:=fun W=>chunksOf_any p.c W (pOk_c hpo)
 have hcl:=chunks_le (pOk_c hpo)
 have g1:decide ((i:Int)<0)=false:=by simp
 have g2:decide ((ps.length:Int)≤(i:Int))=false:=by simp;omega
 have g2n:decide (ps.length≤i)=false:=by simp;omega
 have hcase:decide (k<0)=true∨(decide (k<0)=false∧decide ((chunks p.c:Int)≤k)=true)∨∃ K:Nat,k=(K:Int)∧K<chunks p.c∧p.u.testBit K=false:=by
  by_cases h0:k<0
  ·exact .inl (by simp [h0])
  ·by_cases h1:(chunks p.c:Int)≤k
   ·exact .inr (.inl ⟨by simp;omega,by simp [h1]⟩)
   ·refine .inr (.inr ⟨k.toNat,by omega,by omega,?_⟩)
    unfold hasK at he
    have:decide (0≤k∧k<16)=true:=by simp;omega
    rw [this] at he
    simpa using he
 obtain ⟨N,hN⟩:∃ N,N=chunks p.c:=⟨_,rfl⟩
 rw [← hN] at hch hcl hcase
 clear hp hN h ho hpo he hcs
 rcases hcase with h1 | ⟨h1,h2⟩ | ⟨K,rfl,hK,hbt⟩
 ·skip
  go_enter Tryz.func157,Tryz.ntmps157
  go_upto_region 1 with (fail)
  obtain ⟨w0,hw0⟩:∃ w0,w0=(w.alloc (Obj.cells #[Value.slice (some ⟨b,off,none⟩) ps.length cap] 51)).alloc (Obj.cells #[Value.slice none 0 0] 51):=⟨_,rfl⟩
  rw [← hw0]
  have T0:TK w w0 (.slice (some ⟨b,off,none⟩) ps.length cap):=by rw [hw0];exact TK.begin _ _ _ _
  have a0:=T0.c0
  have x0:=T0.x0
  have HT0:=Hid.m T0
  clear hw0 T0
  go_upto_region 6 with (go_at_call 30;refine (HCK.out _ HT0.out.below).mono ?_;rintro e w1 ⟨rfl,hb1⟩;have T1:=HT0.out.step hb1;have a1:=T1.c0;have b1:=T1.c1;have f1:=T1.f1;have x1:=T1.x0;have y1:=T1.x1;have HT1:=Hid.m T1;clear T1 hb1 a0 x0)
  obtain ⟨r0,r1,r2⟩:=HC.out.below HT1.out.below hbl
  have hbl1:b<w1.heap.size:=by omega
  go_upto_region 7 with (fail)
  obtain ⟨w2,hw2⟩:∃ w2,w2=w1.alloc (Obj.cells #[Value.int .i64 p.t,Value.int .i64 p.c,Value.int .u16 (p.u:Int)] 139):=⟨_,rfl⟩
  rw [← hw2]
  have hb2:Below w1.heap.size w1 w2:=by rw [hw2];exact (Below.refl _ _).alloc (Nat.le_refl _) _
  obtain ⟨pb,hpb⟩:∃ pb,pb=w1.heap.size:=⟨_,rfl⟩
  have p0:w2.cell? ⟨pb,0,none⟩=some (.int .i64 p.t):=by rw [hw2,hpb];simp
  have p1:w2.cell? ⟨pb,1,none⟩=some (.int .i64 p.c):=by rw [hw2,hpb];simp
  have p2:w2.cell? ⟨pb,2,none⟩=some (.int .u16 (p.u:Int)):=by rw [hw2,hpb];simp
  have pf0:w2.frozen? ⟨pb,0,none⟩=false:=by rw [hw2,hpb];simp
  have pf1:w2.frozen? ⟨pb,1,none⟩=false:=by rw [hw2,hpb];simp
  have pf2:w2.frozen? ⟨pb,2,none⟩=false:=by rw [hw2,hpb];simp
  have ps2:pb<w2.heap.size:=by rw [hw2,hpb];simp
  have pw:w.heap.size+1<pb:=by rw [hpb];exact y1
  rw [← hpb]
  have T2:=HT1.out.step hb2
  have a2:=T2.c0
  have b2:=T2.c1
  have f2:=T2.f1
  have x2:=T2.x0
  have y2:=T2.x1
  have HT2:=Hid.m T2
  clear hw2 hb2 hpb T2 a1 b1 f1 x1 y1 r0 r1 r2 hbl1
  go_wp2
  have z0:(w2.setCell ⟨w.heap.size+1,0,none⟩ (.slice none 0 0)).cell? ⟨w.heap.size+1,0,none⟩=some (.slice none 0 0):=World.cell?_setCell_same _ _ _ b2
  try simp only [Exit.inBlock,Exit.then]
  exact bodyPost_ret (v:=.tuple #[.agg #[.slice none 0 0],.int .i64 6]) (by simp [results,Tryz.results157,go_sem,z0]) rfl ⟨rfl,HT2.out.below.setCell (by simp) _⟩
 ·skip
  go_enter Tryz.func157,Tryz.ntmps157
  go_upto_region 1 with (fail)
  obtain ⟨w0,hw0⟩:∃ w0,w0=(w.alloc (Obj.cells #[Value.slice (some ⟨b,off,none⟩) ps.length cap] 51)).alloc (Obj.cells #[Value.slice none 0 0] 51):=⟨_,rfl⟩
  rw [← hw0]
  have T0:TK w w0 (.slice (some ⟨b,off,none⟩) ps.length cap):=by rw [hw0];exact TK.begin _ _ _ _
  have a0:=T0.c0
  have x0:=T0.x0
  have HT0:=Hid.m T0
  clear hw0 T0
  go_upto_region 6 with (go_at_call 30;refine (HCK.out _ HT0.out.below).mono ?_;rintro e w1 ⟨rfl,hb1⟩;have T1:=HT0.out.step hb1;have a1:=T1.c0;have b1:=T1.c1;have f1:=T1.f1;have x1:=T1.x0;have y1:=T1.x1;have HT1:=Hid.m T1;clear T1 hb1 a0 x0)
  obtain ⟨r0,r1,r2⟩:=HC.out.below HT1.out.below hbl
  have hbl1:b<w1.heap.size:=by omega
  go_upto_region 7 with (fail)
  obtain ⟨w2,hw2⟩:∃ w2,w2=w1.alloc (Obj.cells #[Value.int .i64 p.t,Value.int .i64 p.c,Value.int .u16 (p.u:Int)] 139):=⟨_,rfl⟩
  rw [← hw2]
  have hb2:Below w1.heap.size w1 w2:=by rw [hw2];exact (Below.refl _ _).alloc (Nat.le_refl _) _
  obtain ⟨pb,hpb⟩:∃ pb,pb=w1.heap.size:=⟨_,rfl⟩
  have p0:w2.cell? ⟨pb,0,none⟩=some (.int .i64 p.t):=by rw [hw2,hpb];simp
  have p1:w2.cell? ⟨pb,1,none⟩=some (.int .i64 p.c):=by rw [hw2,hpb];simp
  have p2:w2.cell? ⟨pb,2,none⟩=some (.int .u16 (p.u:Int)):=by rw [hw2,hpb];simp
  have pf0:w2.frozen? ⟨pb,0,none⟩=false:=by rw [hw2,hpb];simp
  have pf1:w2.frozen? ⟨pb,1,none⟩=false:=by rw [hw2,hpb];simp
  have pf2:w2.frozen? ⟨pb,2,none⟩=false:=by rw [hw2,hpb];simp
  have ps2:pb<w2.heap.size:=by rw [hw2,hpb];simp
  have pw:w.heap.size+1<pb:=by rw [hpb];exact y1
  rw [← hpb]
  have T2:=HT1.out.step hb2
  have a2:=T2.c0
  have b2:=T2.c1
  have f2:=T2.f1
  have x2:=T2.x0
  have y2:=T2.x1
  have HT2:=Hid.m T2
  clear hw2 hb2 hpb T2 a1 b1 f1 x1 y1 r0 r1 r2 hbl1
  go_wp2_with (go_at_call 126;refine (hch _).mono ?_;rintro e w3 ⟨rfl,hwq⟩;obtain rfl:w2=w3:=hwq.symm)
  have z0:(w2.setCell ⟨w.heap.size+1,0,none⟩ (.slice none 0 0)).cell? ⟨w.heap.size+1,0,none⟩=some (.slice none 0 0):=World.cell?_setCell_same _ _ _ b2
  try simp only [Exit.inBlock,Exit.then]
  exact bodyPost_ret (v:=.tuple #[.agg #[.slice none 0 0],.int .i64 6]) (by simp [results,Tryz.results157,go_sem,z0]) rfl ⟨rfl,HT2.out.below.setCell (by simp) _⟩
 ·have h1:decide ((K:Int)<0)=false:=by simp
  have h2:decide ((N:Int)≤(K:Int))=false:=by simp;omega
  have h2n:decide (N≤K)=false:=by simp;omega
  have hus:=fun W=>isUsed_any p K W (by omega)
  rw [hbt] at hus
  clear hbt
  go_enter Tryz.func157,Tryz.ntmps157
  go_upto_region 1 with (fail)
  obtain ⟨w0,hw0⟩:∃ w0,w0=(w.alloc (Obj.cells #[Value.slice (some ⟨b,off,none⟩) ps.length cap] 51)).alloc (Obj.cells #[Value.slice none 0 0] 51):=⟨_,rfl⟩
  rw [← hw0]
  have T0:TK w w0 (.slice (some ⟨b,off,none⟩) ps.length cap):=by rw [hw0];exact TK.begin _ _ _ _
  have a0:=T0.c0
  have x0:=T0.x0
  have HT0:=Hid.m T0
  clear hw0 T0
  go_upto_region 6 with (go_at_call 30;refine (HCK.out _ HT0.out.below).mono ?_;rintro e w1 ⟨rfl,hb1⟩;have T1:=HT0.out.step hb1;have a1:=T1.c0;have b1:=T1.c1;have f1:=T1.f1;have x1:=T1.x0;have y1:=T1.x1;have HT1:=Hid.m T1;clear T1 hb1 a0 x0)
  obtain ⟨r0,r1,r2⟩:=HC.out.below HT1.out.below hbl
  have hbl1:b<w1.heap.size:=by omega
  go_upto_region 7 with (fail)
  obtain ⟨w2,hw2⟩:∃ w2,w2=w1.alloc (Obj.cells #[Value.int .i64 p.t,Value.int .i64 p.c,Value.int .u16 (p.u:Int)] 139):=⟨_,rfl⟩
  rw [← hw2]
  have hb2:Below w1.heap.size w1 w2:=by rw [hw2];exact (Below.refl _ _).alloc (Nat.le_refl _) _
  obtain ⟨pb,hpb⟩:∃ pb,pb=w1.heap.size:=⟨_,rfl⟩
  have p0:w2.cell? ⟨pb,0,none⟩=some (.int .i64 p.t):=by rw [hw2,hpb];simp
  have p1:w2.cell? ⟨pb,1,none⟩=some (.int .i64 p.c):=by rw [hw2,hpb];simp
  have p2:w2.cell? ⟨pb,2,none⟩=some (.int .u16 (p.u:Int)):=by rw [hw2,hpb];simp
  have pf0:w2.frozen? ⟨pb,0,none⟩=false:=by rw [hw2,hpb];simp
  have pf1:w2.frozen? ⟨pb,1,none⟩=false:=by rw [hw2,hpb];simp
  have pf2:w2.frozen? ⟨pb,2,none⟩=false:=by rw [hw2,hpb];simp
  have ps2:pb<w2.heap.size:=by rw [hw2,hpb];simp
  have pw:w.heap.size+1<pb:=by rw [hpb];exact y1
  rw [← hpb]
  have T2:=HT1.out.step hb2
  have a2:=T2.c0
  have b2:=T2.c1
  have f2:=T2.f1
  have x2:=T2.x0
  have y2:=T2.x1
  have HT2:=Hid.m T2
  clear hw2 hb2 hpb T2 a1 b1 f1 x1 y1 r0 r1 r2 hbl1
  go_wp2_with (first
   | (go_at_call 126;refine (hch _).mono ?_;rintro e w3 ⟨rfl,hwq⟩;obtain rfl:w2=w3:=hwq.symm)
   | (go_at_call 214;refine (hus _).mono ?_;rintro e w3 ⟨rfl,hb3⟩;have T3:=HT2.out.step hb3;have a3:=T3.c0;have b3:=T3.c1;have f3:=T3.f1;have x3:=T3.x0;have y3:=T3.x1;have HT3:=Hid.m T3;clear T3 hb3 a2 x2 b2 f2 y2))
  have z0:(w3.setCell ⟨w.heap.size+1,0,none⟩ (.slice none 0 0)).cell? ⟨w.heap.size+1,0,none⟩=some (.slice none 0 0):=World.cell?_setCell_same _ _ _ b3
  try simp only [Exit.inBlock,Exit.then]
  exact bodyPost_ret (v:=.tuple #[.agg #[.slice none 0 0],.int .i64 6]) (by simp [results,Tryz.results157,go_sem,z0]) rfl ⟨rfl,HT3.out.below.setCell (by simp) _⟩
end Go.Proofs.YtcdpiefflnaghaaGreatDoor.Sb
namespace Go.Proofs.YtcdpiefflnaghaaGreatDoor.Sb
open Go.RowKit
structure PB (wq:World)(pb:Nat)(p:Pg):Prop where
 p0:wq.cell? ⟨pb,0,none⟩=some (.int .i64 p.t)
 p1:wq.cell? ⟨pb,1,none⟩=some (.int .i64 p.c)
 p2:wq.cell? ⟨pb,2,none⟩=some (.int .u16 (p.u:Int))
 f0:wq.frozen? ⟨pb,0,none⟩=false
 f1:wq.frozen? ⟨pb,1,none⟩=false
 f2:wq.frozen? ⟨pb,2,none⟩=false
 lt:pb<wq.heap.size
theorem PB.step {wq wr:World}{pb:Nat}{p:Pg}(h:PB wq pb p)(hb:Below wq.heap.size wq wr):PB wr pb p:=
 ⟨(below_cells hb _ 0 h.lt).trans h.p0,(below_cells hb _ 1 h.lt).trans h.p1,(below_cells hb _ 2 h.lt).trans h.p2,(below_frozen hb _ 0 h.lt).trans h.f0,(below_frozen hb _ 1 h.lt).trans h.f1,(below_frozen hb _ 2 h.lt).trans h.f2,Nat.lt_of_lt_of_le h.lt hb.size⟩
theorem TK.grown {w wq wr:World}{v:Value}{g:Nat}(h:TK w wq v)(hg:w.heap.size+1<g)(hgr:wq.grownBy wr (some g)):TK w wr v:=
 ⟨h.below.grown hgr (by have:=h.x0;omega) (fun k hk=>by cases hk;omega),
  hgr.cell (a:=⟨w.heap.size,0,none⟩) h.c0 (by intro e;have:=Option.some.inj e;simp at this;omega),
  hgr.cell (a:=⟨w.heap.size+1,0,none⟩) h.c1 (by intro e;have:=Option.some.inj e;simp at this;omega),
  (World.frozen?_of_block (w:=wq) (hgr.block (w.heap.size+1) h.x1 (by intro e;have:=Option.some.inj e;omega))).trans h.f1,
  Nat.lt_of_lt_of_le h.x0 hgr.size,Nat.lt_of_lt_of_le h.x1 hgr.size⟩
theorem PB.setu {wq:World}{pb:Nat}{p q:Pg}(h:PB wq pb p)(ht:q.t=p.t)(hc:q.c=p.c):PB (wq.setCell ⟨pb,2,none⟩ (.int .u16 (q.u:Int))).drew pb q:=by
 refine ⟨?_,?_,?_,?_,?_,?_,?_⟩
 ·rw [ht];exact (World.cell?_setCell_other _ _ _ _ (by simp)).trans h.p0
 ·rw [hc];exact (World.cell?_setCell_other _ _ _ _ (by simp)).trans h.p1
 ·exact World.cell?_setCell_same _ _ _ h.p2
 ·have:=h.f0;simpa using this
 ·have:=h.f1;simpa using this
 ·have:=h.f2;simpa using this
 ·have:=h.lt;simpa using this
theorem PB.set3 {wq:World}{pb:Nat}{p:Pg}(h:PB wq pb p):PB (((wq.setCell ⟨pb,0,none⟩ (.int .i64 0)).setCell ⟨pb,1,none⟩ (.int .i64 0)).setCell ⟨pb,2,none⟩ (.int .u16 0)) pb pz:=by
 refine ⟨?_,?_,?_,?_,?_,?_,?_⟩
 ·rw [World.cell?_setCell_other _ _ _ _ (by simp),World.cell?_setCell_other _ _ _ _ (by simp)];exact World.cell?_setCell_same _ _ _ h.p0
 ·rw [World.cell?_setCell_other _ _ _ _ (by simp)];exact World.cell?_setCell_same _ _ _ ((World.cell?_setCell_other _ _ _ _ (by simp)).trans h.p1)
 ·exact World.cell?_setCell_same _ _ _ (((World.cell?_setCell_other _ _ _ _ (by simp)).trans (World.cell?_setCell_other _ _ _ _ (by simp))).trans h.p2)
 ·have:=h.f0;simpa using this
 ·have:=h.f1;simpa using this
 ·have:=h.f2;simpa using this
 ·have:=h.lt;simpa using this
set_option maxHeartbeats 1000000 in
theorem free_good (w:World)(ao:Option Addr)(ps:List Pg)(cap:Nat)(h:Sb w ao ps cap)(i k:Nat)(ho:sOk ps=true)(hi:i<ps.length)(he:hasK ps[i] k=true):
  Calls Tryz.prog 157 #[.agg #[.slice ao ps.length cap],.int .i64 i,.int .i64 k] w fun e w'=>∃ v',e=.returned (.tuple #[.agg #[v'],.int .i64 0])∧FreshS w' w.heap.size v' (ps.set i (given ps[i] k))∧Below w.heap.size w w':=by
 have HCK:=Hid.m (fun W (hb:Below w.heap.size w W)=>scheck_any W ao ps cap (h.below hb))
 rw [show sE ps=0 by unfold sE;rw [ho];rfl] at HCK
 have hlen:=sOk_len ho
 have hpo:=sOk_pg ho i hi
 have HSB:=Hid.m h
 obtain ⟨b,off,rfl,hbl,hcs⟩:=h.lies (by intro e;rw [e] at hlen;simp at hlen)
 have HC:=Hid.m (hcs i hi)
 obtain ⟨p,hp⟩:∃ p,p=ps[i]:=⟨_,rfl⟩
 rw [← hp] at hpo HC he ⊢
 have hch:=fun W=>chunksOf_any p.c W (pOk_c hpo)
 have hcl:=chunks_le (pOk_c hpo)
 obtain ⟨hk0,hkN,hbt⟩:=hasK_lt hpo he
 rw [Int.toNat_natCast] at hbt
 have g1:decide ((i:Int)<0)=false:=by simp
 have g2:decide ((ps.length:Int)≤(i:Int))=false:=by simp;omega
 have g2n:decide (ps.length≤i)=false:=by simp;omega
 obtain ⟨N,hN⟩:∃ N,N=chunks p.c:=⟨_,rfl⟩
 rw [← hN] at hch hcl hkN
 have h1:decide ((k:Int)<0)=false:=by simp
 have h2:decide ((N:Int)≤(k:Int))=false:=by simp;omega
 have h2n:decide (N≤k)=false:=by simp;omega
 have hk16:k<16:=by omega
 have hus:=fun W=>isUsed_any p k W hk16
 rw [hbt] at hus
 have hbit:=fun W=>bit_any k W hk16
 obtain ⟨q,hq⟩:∃ q:Pg,q=⟨p.t,p.c,p.u - 2 ^ k,Nat.lt_of_le_of_lt (Nat.sub_le _ _) p.hu⟩:=⟨_,rfl⟩
 have hqt:q.t=p.t:=by rw [hq]
 have hqc:q.c=p.c:=by rw [hq]
 have hqu:q.u=p.u - 2 ^ k:=by rw [hq]
 have hand:bits BinOp.andNot IntKind.u16 (p.u:Int) (2 ^ k)=(q.u:Int):=by
  have h:=u16_andNot_nat p.u (2 ^ k) p.hu (pow_lt16 hk16)
  rw [and_sub p.hu hk16 hbt,← hqu] at h
  simpa using h
 have hgiv:given p k=if q.u=0 then pz else q:=by unfold given;rw [hqu,hq]
 obtain ⟨G,hG⟩:∃ G,G=given p k:=⟨_,rfl⟩
 rw [← hG] at hgiv ⊢
 have HGV:=Hid.m hgiv
 have HQT:=Hid.m hqt
 have HQC:=Hid.m hqc
 have hfr:=fun W=>isFree_any q W
 clear hG hp hN h ho hpo he hcs hbt hq hqt hqc hqu hgiv
 go_enter Tryz.func157,Tryz.ntmps157
 go_upto_region 1 with (fail)
 obtain ⟨w0,hw0⟩:∃ w0,w0=(w.alloc (Obj.cells #[Value.slice (some ⟨b,off,none⟩) ps.length cap] 51)).alloc (Obj.cells #[Value.slice none 0 0] 51):=⟨_,rfl⟩
 rw [← hw0]
 have T0:TK w w0 (.slice (some ⟨b,off,none⟩) ps.length cap):=by rw [hw0];exact TK.begin _ _ _ _
 have a0:=T0.c0
 have x0:=T0.x0
 have HT0:=Hid.m T0
 clear hw0 T0
 go_upto_region 6 with (go_at_call 30;refine (HCK.out _ HT0.out.below).mono ?_;rintro e w1 ⟨rfl,hb1⟩;have T1:=HT0.out.step hb1;have a1:=T1.c0;have b1:=T1.c1;have f1:=T1.f1;have x1:=T1.x0;have y1:=T1.x1;have HT1:=Hid.m T1;clear T1 hb1 a0 x0)
 obtain ⟨r0,r1,r2⟩:=HC.out.below HT1.out.below hbl
 have hbl1:b<w1.heap.size:=by omega
 go_upto_region 7 with (fail)
 obtain ⟨w2,hw2⟩:∃ w2,w2=w1.alloc (Obj.cells #[Value.int .i64 p.t,Value.int .i64 p.c,Value.int .u16 (p.u:Int)] 139):=⟨_,rfl⟩
 rw [← hw2]
 have hb2:Below w1.heap.size w1 w2:=by rw [hw2];exact (Below.refl _ _).alloc (Nat.le_refl _) _
 obtain ⟨pb,hpb⟩:∃ pb,pb=w1.heap.size:=⟨_,rfl⟩
 have p0:w2.cell? ⟨pb,0,none⟩=some (.int .i64 p.t):=by rw [hw2,hpb];simp
 have p1:w2.cell? ⟨pb,1,none⟩=some (.int .i64 p.c):=by rw [hw2,hpb];simp
 have p2:w2.cell? ⟨pb,2,none⟩=some (.int .u16 (p.u:Int)):=by rw [hw2,hpb];simp
 have pf0:w2.frozen? ⟨pb,0,none⟩=false:=by rw [hw2,hpb];simp
 have pf1:w2.frozen? ⟨pb,1,none⟩=false:=by rw [hw2,hpb];simp
 have pf2:w2.frozen? ⟨pb,2,none⟩=false:=by rw [hw2,hpb];simp
 have ps2:pb<w2.heap.size:=by rw [hw2,hpb];simp
 have pw:w.heap.size+1<pb:=by rw [hpb];exact y1
 rw [← hpb]
 have T2:=HT1.out.step hb2
 have a2:=T2.c0
 have b2:=T2.c1
 have f2:=T2.f1
 have x2:=T2.x0
 have y2:=T2.x1
 have HT2:=Hid.m T2
 clear hw2 hb2 hpb T2 a1 b1 f1 x1 y1 r0 r1 r2 hbl1
 have HP2:Hid (PB w2 pb p):=⟨p0,p1,p2,pf0,pf1,pf2,ps2⟩
 clear HT0
 go_upto_region 9 with (first
  | (go_at_call 126;refine (hch _).mono ?_;rintro e w3 ⟨rfl,hwq⟩;obtain rfl:w2=w3:=hwq.symm)
  | (go_at_call 214;refine (hus _).mono ?_;rintro e w3 ⟨rfl,hb3⟩;have HT3:=Hid.m (HT2.out.step hb3);have HP3:=Hid.m (HP2.out.step hb3);have a3:=HT3.out.c0;have b3:=HT3.out.c1;have f3:=HT3.out.f1;have x3:=HT3.out.x0;have y3:=HT3.out.x1;have p30:=HP3.out.p0;have p31:=HP3.out.p1;have p32:=HP3.out.p2;have k30:=HP3.out.f0;have k31:=HP3.out.f1;have k32:=HP3.out.f2;have l3:=HP3.out.lt;clear hb3 a2 b2 f2 x2 y2 p0 p1 p2 pf0 pf1 pf2 ps2))
 have hgr4:w3.grownBy (w3.setCell ⟨pb,2,none⟩ (.int .u16 (q.u:Int))) (some pb):=grown_set _ _ _ _
 have HT4':=Hid.m (fun w4 (e:w4=(w3.setCell ⟨pb,2,none⟩ (.int .u16 (q.u:Int))).drew)=>show TK w w4 (.slice (some ⟨b,off,none⟩) ps.length cap) from by rw [e];exact (HT3.out.grown pw hgr4).drew)
 have HP4':=Hid.m (fun w4 (e:w4=(w3.setCell ⟨pb,2,none⟩ (.int .u16 (q.u:Int))).drew)=>show PB w4 pb q from by rw [e];exact HP3.out.setu HQT.out HQC.out)
 clear hgr4
 go_cut [] from 48 (fun wx=>Hid (TK w wx (.slice (some ⟨b,off,none⟩) ps.length cap))∧Hid (PB wx pb q))
 case first=>
  go_wp2
  go_region_law
   (go_simp;go_at_call 215;refine (hbit _).mono ?_;rintro e w9 ⟨rfl,hwq⟩;obtain rfl:=hwq)
  all_goals
   go_wp2
   go_meet
   case rel=>exact ⟨HT4'.out _ rfl,HP4'.out _ rfl⟩
 case rest=>
 obtain ⟨w4,hw4⟩:∃ w4,w4=wc:=⟨_,rfl⟩
 rw [← hw4] at hcut ⊢
 obtain ⟨HT4,HP4⟩:=hcut
 clear hw4 HT4' HP4' hand hbit a3 b3 f3 x3 y3 p30 p31 p32 k30 k31 k32 l3
 have a4:=HT4.out.c0;have b4:=HT4.out.c1;have f4:=HT4.out.f1;have x4:=HT4.out.x0;have y4:=HT4.out.x1;have p40:=HP4.out.p0;have p41:=HP4.out.p1;have p42:=HP4.out.p2;have k40:=HP4.out.f0;have k41:=HP4.out.f1;have k42:=HP4.out.f2;have l4:=HP4.out.lt
 by_cases hz:q.u=0
 ·have e:G=pz:=by rw [HGV.out,if_pos hz]
  subst e
  rw [decide_eq_true hz] at hfr
  have HZ:=Hid.m hz
  clear hz
  go_upto_region 11 with (go_at_call 123;refine (hfr _).mono ?_;rintro e w6 ⟨rfl,hb6⟩;have HT6:=Hid.m (HT4.out.step hb6);have HP6:=Hid.m (HP4.out.step hb6);have a6:=HT6.out.c0;have b6:=HT6.out.c1;have f6:=HT6.out.f1;have x6:=HT6.out.x0;have y6:=HT6.out.x1;have p60:=HP6.out.p0;have p61:=HP6.out.p1;have p62:=HP6.out.p2;have k60:=HP6.out.f0;have k61:=HP6.out.f1;have k62:=HP6.out.f2;have l6:=HP6.out.lt;clear hb6;clear a4 b4 f4 x4 y4 p40 p41 p42 k40 k41 k42 l4)
  go_upto_region 12 with (fail)
  obtain ⟨w5,hw5⟩:∃ w5,w5=((w6.setCell ⟨pb,0,none⟩ (.int .i64 0)).setCell ⟨pb,1,none⟩ (.int .i64 0)).setCell ⟨pb,2,none⟩ (.int .u16 0):=⟨_,rfl⟩
  rw [← hw5]
  have hgr5:w6.grownBy w5 (some pb):=by rw [hw5];exact ((grown_set _ _ _ _).trans (grown_set _ _ _ _)).trans (grown_set _ _ _ _)
  have HT5:=Hid.m (HT6.out.grown pw hgr5)
  have HP5:Hid (PB w5 pb pz):=by rw [hw5];exact HP6.out.set3
  have a5:=HT5.out.c0;have b5:=HT5.out.c1;have f5:=HT5.out.f1;have x5:=HT5.out.x0;have y5:=HT5.out.x1;have p50:=HP5.out.p0;have p51:=HP5.out.p1;have p52:=HP5.out.p2;have k50:=HP5.out.f0;have k51:=HP5.out.f1;have k52:=HP5.out.f2;have l5:=HP5.out.lt
  clear a6 b6 f6 x6 y6 p60 p61 p62 k60 k61 k62 l6
  clear hgr5 hw5
  have HCP:=Hid.m (scopied_any w5 _ ps cap (HSB.out.below HT5.out.below) (by intro e;rw [e] at hlen;simp at hlen) (by omega))
  go_upto_region 13 with (go_at_call 216;refine HCP.out.mono ?_;rintro e w7 ⟨g,rfl,hg7,hr7,hb7⟩;have HT7:=Hid.m (HT5.out.step hb7);have HP7:=Hid.m (HP5.out.step hb7);have a7:=HT7.out.c0;have b7:=HT7.out.c1;have f7:=HT7.out.f1;have x7:=HT7.out.x0;have y7:=HT7.out.x1;have p70:=HP7.out.p0;have p71:=HP7.out.p1;have p72:=HP7.out.p2;have k70:=HP7.out.f0;have k71:=HP7.out.f1;have k72:=HP7.out.f2;have l7:=HP7.out.lt;have HR7:=Hid.m hr7;clear hb7 hr7;clear a5 b5 f5 x5 y5 p50 p51 p52 k50 k51 k52 l5)
  have hgw:w.heap.size+1<g:=by have:=HT5.out.x1;omega
  have hgp:pb<g:=by have:=HP5.out.lt;omega
  have hg8:g<w7.heap.size:=(Array.getElem?_eq_some_iff.1 HR7.out).1
  obtain ⟨w8,hw8⟩:∃ w8,w8=w7.alloc (Obj.cells #[Value.slice (some ⟨g,0,none⟩) ps.length ps.length] 51):=⟨_,rfl⟩
  obtain ⟨lb,hlb⟩:∃ lb,lb=w7.heap.size:=⟨_,rfl⟩
  rw [← hw8,← hlb]
  have hb8:Below w7.heap.size w7 w8:=by rw [hw8];exact (Below.refl _ _).alloc (Nat.le_refl _) _
  have hr8:w8.heap[g]? = some (.cells (ps.flatMap pcells).toArray 139 (0,0)):=(hb8.block g hg8).trans HR7.out
  have l8c:w8.cell? ⟨lb,0,none⟩=some (.slice (some ⟨g,0,none⟩) ps.length ps.length):=by rw [hw8,hlb];simp
  have hlg:g<lb:=by omega
  have HT8:=Hid.m (HT7.out.step hb8)
  have HP8:=Hid.m (HP7.out.step hb8)
  have a8:=HT8.out.c0;have b8:=HT8.out.c1;have f8:=HT8.out.f1;have x8:=HT8.out.x0;have y8:=HT8.out.x1;have p80:=HP8.out.p0;have p81:=HP8.out.p1;have p82:=HP8.out.p2;have k80:=HP8.out.f0;have k81:=HP8.out.f1;have k82:=HP8.out.f2;have l8:=HP8.out.lt
  have hlb8:lb<w8.heap.size:=by rw [hw8,hlb];simp
  have F8:=row_pages (base:=w.heap.size) hr8 (by omega) (by omega)
  obtain ⟨_,_,e8,_,_,_,hF8⟩:=F8
  cases e8
  rcases hF8 with hn | ⟨g',e8,_,_,hf8,hL8⟩
  ·rw [hn] at hlen;simp at hlen
  cases e8
  obtain ⟨r0,r1,r2⟩:=hL8 i hi
  have HL8:=Hid.m hL8
  have HF8:=Hid.m hf8
  have h0:=hf8 (i * 3)
  have h1:=hf8 (i * 3+1)
  have h2:=hf8 (i * 3+2)
  have hgs:g<w8.heap.size:=by omega
  clear a7 b7 f7 x7 y7 p70 p71 p72 k70 k71 k72 l7
  clear hw8 hlb hb8 hr8 hL8 hf8 HR7 hg7 hg8
  go_upto_region 14 with (fail)
  obtain ⟨w9,hw9⟩:∃ w9,w9=((w8.setCell ⟨g,i * 3,none⟩ (.int .i64 pz.t)).setCell ⟨g,i * 3+1,none⟩ (.int .i64 pz.c)).setCell ⟨g,i * 3+2,none⟩ (.int .u16 (pz.u:Int)):=⟨_,rfl⟩
  rw [← hw9]
  have hset:=set3_lies (n:=0) hi HL8.out pz
  have hgr9:w8.grownBy w9 (some g):=by rw [hw9];exact ((grown_set _ _ _ _).trans (grown_set _ _ _ _)).trans (grown_set _ _ _ _)
  have hs9:w9.heap.size=w8.heap.size:=by rw [hw9];simp
  have hfx:∀ j,w9.frozen? ⟨g,j,none⟩=false:=by intro j;rw [hw9];simpa using HF8.out j
  have hset2:∀ j (hj:j<(ps.set i pz).length),PgLies w9 g (j * 3) (ps.set i pz)[j]:=by rw [hw9];exact hset
  have HT9:=Hid.m (HT8.out.grown hgw hgr9)
  have l9c:w9.cell? ⟨lb,0,none⟩=some (.slice (some ⟨g,0,none⟩) ps.length ps.length):=hgr9.cell (a:=⟨lb,0,none⟩) l8c (by intro e;have:=Option.some.inj e;simp at this;omega)
  have b9:=HT9.out.c1
  have f9:=HT9.out.f1
  have y9:=HT9.out.x1
  have hlb9:lb<w9.heap.size:=by omega
  have HF9:=Hid.m (show g<w9.heap.size∧(∀ j,w9.frozen? ⟨g,j,none⟩=false)∧∀ j (hj:j<(ps.set i pz).length),PgLies w9 g (j * 3) (ps.set i pz)[j] from ⟨by omega,hfx,hset2⟩)
  clear a8 b8 f8 x8 y8 p80 p81 p82 k80 k81 k82 l8
  clear hw9 hset hgr9 hfx hset2 l8c hs9
  go_wp2
  have z0:(w9.setCell ⟨w.heap.size+1,0,none⟩ (.slice (some ⟨g,0,none⟩) ps.length ps.length)).cell? ⟨w.heap.size+1,0,none⟩=some (.slice (some ⟨g,0,none⟩) ps.length ps.length):=World.cell?_setCell_same _ _ _ b9
  try simp only [Exit.inBlock,Exit.then]
  refine bodyPost_ret (v:=.tuple #[.agg #[.slice (some ⟨g,0,none⟩) ps.length ps.length],.int .i64 0]) (by simp [results,Tryz.results157,go_sem,z0]) rfl ⟨_,rfl,?_,HT9.out.below.setCell (by simp) _⟩
  exact fresh_end HF9.out (by omega) (by omega) (by simp)
 ·have e:q=G:=by rw [HGV.out,if_neg hz]
  subst e
  rw [decide_eq_false hz] at hfr
  clear hz
  go_upto_region 12 with (go_at_call 123;refine (hfr _).mono ?_;rintro e w5 ⟨rfl,hb5⟩;have HT5:=Hid.m (HT4.out.step hb5);have HP5:=Hid.m (HP4.out.step hb5);have a5:=HT5.out.c0;have b5:=HT5.out.c1;have f5:=HT5.out.f1;have x5:=HT5.out.x0;have y5:=HT5.out.x1;have p50:=HP5.out.p0;have p51:=HP5.out.p1;have p52:=HP5.out.p2;have k50:=HP5.out.f0;have k51:=HP5.out.f1;have k52:=HP5.out.f2;have l5:=HP5.out.lt;clear hb5;clear a4 b4 f4 x4 y4 p40 p41 p42 k40 k41 k42 l4)
  have HCP:=Hid.m (scopied_any w5 _ ps cap (HSB.out.below HT5.out.below) (by intro e;rw [e] at hlen;simp at hlen) (by omega))
  go_upto_region 13 with (go_at_call 216;refine HCP.out.mono ?_;rintro e w7 ⟨g,rfl,hg7,hr7,hb7⟩;have HT7:=Hid.m (HT5.out.step hb7);have HP7:=Hid.m (HP5.out.step hb7);have a7:=HT7.out.c0;have b7:=HT7.out.c1;have f7:=HT7.out.f1;have x7:=HT7.out.x0;have y7:=HT7.out.x1;have p70:=HP7.out.p0;have p71:=HP7.out.p1;have p72:=HP7.out.p2;have k70:=HP7.out.f0;have k71:=HP7.out.f1;have k72:=HP7.out.f2;have l7:=HP7.out.lt;have HR7:=Hid.m hr7;clear hb7 hr7;clear a5 b5 f5 x5 y5 p50 p51 p52 k50 k51 k52 l5)
  have hgw:w.heap.size+1<g:=by have:=HT5.out.x1;omega
  have hgp:pb<g:=by have:=HP5.out.lt;omega
  have hg8:g<w7.heap.size:=(Array.getElem?_eq_some_iff.1 HR7.out).1
  obtain ⟨w8,hw8⟩:∃ w8,w8=w7.alloc (Obj.cells #[Value.slice (some ⟨g,0,none⟩) ps.length ps.length] 51):=⟨_,rfl⟩
  obtain ⟨lb,hlb⟩:∃ lb,lb=w7.heap.size:=⟨_,rfl⟩
  rw [← hw8,← hlb]
  have hb8:Below w7.heap.size w7 w8:=by rw [hw8];exact (Below.refl _ _).alloc (Nat.le_refl _) _
  have hr8:w8.heap[g]? = some (.cells (ps.flatMap pcells).toArray 139 (0,0)):=(hb8.block g hg8).trans HR7.out
  have l8c:w8.cell? ⟨lb,0,none⟩=some (.slice (some ⟨g,0,none⟩) ps.length ps.length):=by rw [hw8,hlb];simp
  have hlg:g<lb:=by omega
  have HT8:=Hid.m (HT7.out.step hb8)
  have HP8:=Hid.m (HP7.out.step hb8)
  have a8:=HT8.out.c0;have b8:=HT8.out.c1;have f8:=HT8.out.f1;have x8:=HT8.out.x0;have y8:=HT8.out.x1;have p80:=HP8.out.p0;have p81:=HP8.out.p1;have p82:=HP8.out.p2;have k80:=HP8.out.f0;have k81:=HP8.out.f1;have k82:=HP8.out.f2;have l8:=HP8.out.lt
  have hlb8:lb<w8.heap.size:=by rw [hw8,hlb];simp
  have F8:=row_pages (base:=w.heap.size) hr8 (by omega) (by omega)
  obtain ⟨_,_,e8,_,_,_,hF8⟩:=F8
  cases e8
  rcases hF8 with hn | ⟨g',e8,_,_,hf8,hL8⟩
  ·rw [hn] at hlen;simp at hlen
  cases e8
  obtain ⟨r0,r1,r2⟩:=hL8 i hi
  have HL8:=Hid.m hL8
  have HF8:=Hid.m hf8
  have h0:=hf8 (i * 3)
  have h1:=hf8 (i * 3+1)
  have h2:=hf8 (i * 3+2)
  have hgs:g<w8.heap.size:=by omega
  clear a7 b7 f7 x7 y7 p70 p71 p72 k70 k71 k72 l7
  clear hw8 hlb hb8 hr8 hL8 hf8 HR7 hg7 hg8
  go_upto_region 14 with (fail)
  obtain ⟨w9,hw9⟩:∃ w9,w9=((w8.setCell ⟨g,i * 3,none⟩ (.int .i64 q.t)).setCell ⟨g,i * 3+1,none⟩ (.int .i64 q.c)).setCell ⟨g,i * 3+2,none⟩ (.int .u16 (q.u:Int)):=⟨_,rfl⟩
  rw [← hw9]
  have hset:=set3_lies (n:=0) hi HL8.out q
  have hgr9:w8.grownBy w9 (some g):=by rw [hw9];exact ((grown_set _ _ _ _).trans (grown_set _ _ _ _)).trans (grown_set _ _ _ _)
  have hs9:w9.heap.size=w8.heap.size:=by rw [hw9];simp
  have hfx:∀ j,w9.frozen? ⟨g,j,none⟩=false:=by intro j;rw [hw9];simpa using HF8.out j
  have hset2:∀ j (hj:j<(ps.set i q).length),PgLies w9 g (j * 3) (ps.set i q)[j]:=by rw [hw9];exact hset
  have HT9:=Hid.m (HT8.out.grown hgw hgr9)
  have l9c:w9.cell? ⟨lb,0,none⟩=some (.slice (some ⟨g,0,none⟩) ps.length ps.length):=hgr9.cell (a:=⟨lb,0,none⟩) l8c (by intro e;have:=Option.some.inj e;simp at this;omega)
  have b9:=HT9.out.c1
  have f9:=HT9.out.f1
  have y9:=HT9.out.x1
  have hlb9:lb<w9.heap.size:=by omega
  have HF9:=Hid.m (show g<w9.heap.size∧(∀ j,w9.frozen? ⟨g,j,none⟩=false)∧∀ j (hj:j<(ps.set i q).length),PgLies w9 g (j * 3) (ps.set i q)[j] from ⟨by omega,hfx,hset2⟩)
  clear a8 b8 f8 x8 y8 p80 p81 p82 k80 k81 k82 l8
  clear hw9 hset hgr9 hfx hset2 l8c hs9
  go_wp2
  have z0:(w9.setCell ⟨w.heap.size+1,0,none⟩ (.slice (some ⟨g,0,none⟩) ps.length ps.length)).cell? ⟨w.heap.size+1,0,none⟩=some (.slice (some ⟨g,0,none⟩) ps.length ps.length):=World.cell?_setCell_same _ _ _ b9
  try simp only [Exit.inBlock,Exit.then]
  refine bodyPost_ret (v:=.tuple #[.agg #[.slice (some ⟨g,0,none⟩) ps.length ps.length],.int .i64 0]) (by simp [results,Tryz.results157,go_sem,z0]) rfl ⟨_,rfl,?_,HT9.out.below.setCell (by simp) _⟩
  exact fresh_end HF9.out (by omega) (by omega) (by simp)
end Go.Proofs.YtcdpiefflnaghaaGreatDoor.Sb
namespace Go.Proofs.YtcdpiefflnaghaaGreatDoor.Sb
open Go.RowKit
theorem take_sb (w:World)(ao:Option Addr)(ps:List Pg)(cap:Nat)(h:Sb w ao ps cap)(t c q E:Int)(R:List Pg)(i k:Nat)(hE:takeE ps t c q=E)(hR:takeR ps t c q=(R,i,k)):
  Calls Tryz.prog 170 #[.agg #[.slice ao ps.length cap],.int .i64 t,.int .i64 c,.int .i64 q] w fun e w'=>∃ ro rc,e=.returned (.tuple #[.agg #[.slice ro R.length rc],.int .i64 i,.int .i64 k,.int .i64 E])∧Sb w' ro R rc∧FreshS w' w.heap.size (.slice ro R.length rc) R∧Below w.heap.size w w':=by
 have hbad:∀ e:Int,takeE ps t c q=e→¬ e=0→(Calls Tryz.prog 170 #[.agg #[.slice ao ps.length cap],.int .i64 t,.int .i64 c,.int .i64 q] w fun x w'=>x=.returned (.tuple #[.agg #[.slice none 0 0],.int .i64 0,.int .i64 0,.int .i64 e])∧Below w.heap.size w w')→
   Calls Tryz.prog 170 #[.agg #[.slice ao ps.length cap],.int .i64 t,.int .i64 c,.int .i64 q] w fun e w'=>∃ ro rc,e=.returned (.tuple #[.agg #[.slice ro R.length rc],.int .i64 i,.int .i64 k,.int .i64 E])∧Sb w' ro R rc∧FreshS w' w.heap.size (.slice ro R.length rc) R∧Below w.heap.size w w':=by
  intro e he hne hc
  have e2:takeR ps t c q=([],0,0):=by unfold takeR;rw [if_neg (by rw [he];exact hne)]
  rw [e2] at hR
  cases hR
  rw [he] at hE
  subst hE
  refine hc.mono ?_
  rintro x w' ⟨rfl,hb⟩
  exact ⟨none,0,rfl,Sb.nil _,FreshS.nil _ _,hb⟩
 cases eO:sOk ps
 ·refine hbad 8 (by unfold takeE;rw [if_pos eO]) (by decide) ?_
  have e1:tE ps t=8:=by unfold tE;rw [if_pos eO]
  have:=take_bad1 w ao ps cap h t c q (by rw [e1];decide)
  rwa [e1] at this
 cases eT:isT t
 ·refine hbad 2 (by unfold takeE;rw [if_neg (by rw [eO];decide),if_pos eT]) (by decide) ?_
  have e1:tE ps t=2:=by unfold tE;rw [if_neg (by rw [eO];decide),if_pos eT]
  have:=take_bad1 w ao ps cap h t c q (by rw [e1];decide)
  rwa [e1] at this
 have e0:tE ps t=0:=by unfold tE;rw [if_neg (by rw [eO];decide),if_neg (by rw [eT];decide)]
 cases eC:isC c
 ·exact hbad 2 (by unfold takeE;rw [if_neg (by rw [eO];decide),if_neg (by rw [eT];decide),if_pos eC]) (by decide) (take_bad2 w ao ps cap h t c q e0 (.inl eC))
 cases eQ:isQ q
 ·exact hbad 2 (by unfold takeE;rw [if_neg (by rw [eO];decide),if_neg (by rw [eT];decide),if_neg (by rw [eC];decide),if_pos eQ]) (by decide) (take_bad2 w ao ps cap h t c q e0 (.inr eQ))
 cases eP:place ps t c q with
 | none=>exact hbad 9 (by unfold takeE;rw [if_neg (by rw [eO];decide),if_neg (by rw [eT];decide),if_neg (by rw [eC];decide),if_neg (by rw [eQ];decide),if_pos (by rw [eP];rfl)]) (by decide) (take_full w ao ps cap h t c q eO eT eC eQ eP)
 | some x=>
  obtain ⟨i',k'⟩:=x
  have e1:takeE ps t c q=0:=by unfold takeE;rw [if_neg (by rw [eO];decide),if_neg (by rw [eT];decide),if_neg (by rw [eC];decide),if_neg (by rw [eQ];decide),if_neg (by rw [eP];simp)]
  have e2:takeR ps t c q=(ps.set i' (taken ps t c i' k'),i',k'):=by unfold takeR;rw [if_pos e1,eP]
  rw [e2] at hR
  simp only [Prod.mk.injEq] at hR
  obtain ⟨rfl,rfl,rfl⟩:=hR
  rw [e1] at hE
  subst hE
  refine (take_good w ao ps cap h t c q eO eT eC eQ _ _ eP).mono ?_
  rintro x w' ⟨v',rfl,hf,hb⟩
  obtain ⟨ro,rc,rfl,hs⟩:=hf.sb
  exact ⟨ro,rc,rfl,hs,hf,hb⟩
theorem free_sb (w:World)(ao:Option Addr)(ps:List Pg)(cap:Nat)(h:Sb w ao ps cap)(i k E:Int)(R:List Pg)(hE:freeE ps i k=E)(hR:freeR ps i k=R):
  Calls Tryz.prog 157 #[.agg #[.slice ao ps.length cap],.int .i64 i,.int .i64 k] w fun e w'=>∃ ro rc,e=.returned (.tuple #[.agg #[.slice ro R.length rc],.int .i64 E])∧Sb w' ro R rc∧FreshS w' w.heap.size (.slice ro R.length rc) R∧Below w.heap.size w w':=by
 have hbad:∀ e:Int,freeE ps i k=e→¬ e=0→(Calls Tryz.prog 157 #[.agg #[.slice ao ps.length cap],.int .i64 i,.int .i64 k] w fun x w'=>x=.returned (.tuple #[.agg #[.slice none 0 0],.int .i64 e])∧Below w.heap.size w w')→
   Calls Tryz.prog 157 #[.agg #[.slice ao ps.length cap],.int .i64 i,.int .i64 k] w fun e w'=>∃ ro rc,e=.returned (.tuple #[.agg #[.slice ro R.length rc],.int .i64 E])∧Sb w' ro R rc∧FreshS w' w.heap.size (.slice ro R.length rc) R∧Below w.heap.size w w':=by
  intro e he hne hc
  have e2:freeR ps i k=[]:=by unfold freeR;rw [if_neg (by rw [he];exact hne)]
  rw [e2] at hR
  subst hR
  rw [he] at hE
  subst hE
  refine hc.mono ?_
  rintro x w' ⟨rfl,hb⟩
  exact ⟨none,0,rfl,Sb.nil _,FreshS.nil _ _,hb⟩
 cases eO:sOk ps
 ·exact hbad 8 (by unfold freeE;rw [if_pos eO]) (by decide) (free_bad1 w ao ps cap h i k eO)
 cases eI:inP ps i
 ·exact hbad 2 (by unfold freeE;rw [if_neg (by rw [eO];decide),if_pos eI]) (by decide) (free_bad2 w ao ps cap h i k eO eI)
 have hI:0≤i∧i<(ps.length:Int):=by simpa [inP] using eI
 obtain ⟨I,rfl⟩:∃ I:Nat,i=(I:Int):=⟨i.toNat,by omega⟩
 have hI2:I<ps.length:=by omega
 have eP:pgAt ps I=ps[I]:=by unfold pgAt;rw [Int.toNat_natCast,List.getElem?_eq_getElem hI2];rfl
 cases eK:hasK ps[I] k
 ·exact hbad 6 (by unfold freeE;rw [if_neg (by rw [eO];decide),if_neg (by rw [eI];decide),if_pos (by rw [eP];exact eK)]) (by decide) (free_bad3 w ao ps cap h I k eO hI2 eK)
 ·have e1:freeE ps I k=0:=by unfold freeE;rw [if_neg (by rw [eO];decide),if_neg (by rw [eI];decide),if_neg (by rw [eP,eK];decide)]
  have hk:=hasK_lt (sOk_pg eO I hI2) eK
  obtain ⟨K,rfl⟩:∃ K:Nat,k=(K:Int):=⟨k.toNat,by omega⟩
  have e2:freeR ps I K=ps.set I (given ps[I] K):=by unfold freeR;rw [if_pos e1,eP,Int.toNat_natCast,Int.toNat_natCast]
  rw [e2] at hR
  subst hR
  rw [e1] at hE
  subst hE
  refine (free_good w ao ps cap h I K eO hI2 eK).mono ?_
  rintro x w' ⟨v',rfl,hf,hb⟩
  obtain ⟨ro,rc,rfl,hs⟩:=hf.sb
  exact ⟨ro,rc,rfl,hs,hf,hb⟩
theorem new_sb (n:Nat)(w:World)(hn:1≤n∧n≤16):
  Calls Tryz.prog 39 #[.int .i64 n] w fun e w'=>∃ ro rc,e=.returned (.tuple #[.agg #[.slice ro (List.replicate n pz).length rc],.int .i64 0])∧Sb w' ro (List.replicate n pz) rc∧FreshS w' w.heap.size (.slice ro (List.replicate n pz).length rc) (List.replicate n pz)∧Below w.heap.size w w':=by
 refine (snew_any n w hn).mono ?_
 rintro e w' ⟨g,rfl,hg,hr,hb⟩
 have hF:=row_pages hr hg (by simp;omega)
 obtain ⟨ro,rc,e,hs⟩:=hF.sb
 cases e
 rw [List.length_replicate] at *
 exact ⟨_,_,rfl,hs,hF,hb⟩
theorem Owned_any (w:World)(ao:Option Addr)(ps:List Pg)(cap:Nat)(h:Sb w ao ps cap)(ho:sOk ps=true)(t:Int)(ht:isT t=true):
  Calls Tryz.prog 31 #[.agg #[.slice ao ps.length cap],.int .i64 t] w fun e w'=>e=.returned (.tuple #[.int .i64 (owned ps t),.int .i64 0])∧Below w.heap.size w w':=by
 have HCT:=Hid.m (fun W (hb:Below w.heap.size w W)=>checkTenant_any W ao ps cap (h.below hb) t)
 rw [show tE ps t=0 by unfold tE;rw [ho,ht];rfl] at HCT
 have hlen:=sOk_len ho
 have HOW:=Hid.m (fun W (hb:Below w.heap.size w W)=>owned_any W ao ps cap (h.below hb) (by omega) t)
 have ha:∀ o,Below w.heap.size w (w.alloc o):=fun o=>(Below.refl _ _).alloc (Nat.le_refl _) _
 obtain ⟨O,hO⟩:∃ O,O=owned ps t:=⟨_,rfl⟩
 rw [← hO] at HOW ⊢
 clear h ho ht hO
 go_enter Tryz.func31,Tryz.ntmps31
 go_wp2_with (first
  | (go_at_call 75;refine (HCT.out _ (ha _)).mono ?_;rintro e w1 ⟨rfl,hb1⟩;have z:w1.cell? ⟨w.heap.size,0,none⟩=some (.slice ao ps.length cap):=(below_cells hb1 _ 0 (by simp)).trans (by simp);have hs1:w.heap.size<w1.heap.size:=by (have:=hb1.size;simp at this;omega))
  | (go_at_call 76;refine (HOW.out _ (below_alloc hb1)).mono ?_;rintro e w2 ⟨rfl,hb2⟩))
 go_ret2
 exact ⟨rfl,(below_alloc hb1).trans (hb2.mono (by omega))⟩
end Go.Proofs.YtcdpiefflnaghaaGreatDoor.Sb
namespace Go.Proofs.YtcdpiefflnaghaaGreatDoor.Sb
open Go.RowKit
theorem lastI_snd (t:Int):∀ (ps:List Pg) (x:Int × Int),(ps.foldl (fun (x:Int × Int) p=>(if isOf t p then x.2 else x.1,x.2+1)) x).2=x.2+ps.length
 | [],x=>by simp
 | p::ps,x=>by rw [List.foldl_cons,lastI_snd t ps];simp;omega
theorem lastI_take {ps:List Pg}{k:Nat}(t:Int)(h:k<ps.length):lastI (ps.take (k+1)) t=if isOf t ps[k]=true then (k:Int) else lastI (ps.take k) t:=by
 unfold lastI
 rw [List.take_succ_eq_append_getElem h,List.foldl_append]
 have e:=lastI_snd t (ps.take k) (-1,0)
 simp only [List.foldl_cons,List.foldl_nil]
 rw [e]
 simp
 rw [Nat.min_eq_left (by omega)]
end Go.Proofs.YtcdpiefflnaghaaGreatDoor.Sb
namespace Go.Proofs.YtcdpiefflnaghaaGreatDoor.Sb
open Go.RowKit
theorem Last_any (w:World)(ao:Option Addr)(ps:List Pg)(cap:Nat)(h:Sb w ao ps cap)(ho:sOk ps=true)(t:Int)(ht:isT t=true):
  Calls Tryz.prog 104 #[.agg #[.slice ao ps.length cap],.int .i64 t] w fun e w'=>e=.returned (.tuple #[.int .i64 (lastI ps t),.int .i64 0])∧Below w.heap.size w w':=by
 have HCT:=Hid.m (fun W (hb:Below w.heap.size w W)=>checkTenant_any W ao ps cap (h.below hb) t)
 rw [show tE ps t=0 by unfold tE;rw [ho,ht];rfl] at HCT
 have hlen:=sOk_len ho
 have ha:∀ o,Below w.heap.size w (w.alloc o):=fun o=>(Below.refl _ _).alloc (Nat.le_refl _) _
 obtain ⟨b,off,rfl,hbl,hcs⟩:=h.lies (by intro e;rw [e] at hlen;simp at hlen)
 have HC:=Hid.m hcs
 have hcap:=h.hl
 obtain ⟨M,hM⟩:∃ M,M=lastI ps t:=⟨_,rfl⟩
 rw [← hM]
 have HM:=Hid.m hM
 clear h ho ht hM hcs
 go_enter Tryz.func104,Tryz.ntmps104
 go_wp2_with (go_at_call 75;refine (HCT.out _ (ha _)).mono ?_;rintro e w1 ⟨rfl,hb1⟩;have z:w1.cell? ⟨w.heap.size,0,none⟩=some (.slice (some ⟨b,off,none⟩) ps.length cap):=(below_cells hb1 _ 0 (by simp)).trans (by simp);have hs1:w.heap.size<w1.heap.size:=by (have:=hb1.size;simp at this;omega))
 have HB1:=Hid.m (below_alloc hb1)
 clear hb1
 go_loopw [7,19] (fun m i wr=>∃ (k:Nat) (m':Int),k≤ps.length∧i=.int .i64 k∧m=.int .i64 m'∧Hid (Below w.heap.size w wr)∧w.heap.size<wr.heap.size∧Hid (m'=lastI (ps.take k) t)) (fun _ i _=>ps.length - (intOf i).toNat)
 case atStart=>exact ⟨0,-1,Nat.zero_le _,rfl,rfl,HB1,hs1,rfl⟩
 case round=>
  obtain ⟨k,m',hk,rfl,rfl,HBR,hsz,HOK⟩:=hrel
  by_cases hlt:k<ps.length
  ·have hlt2:(k:Int)<(ps.length:Int):=by omega
   obtain ⟨p,hpe⟩:∃ p,p=ps[k]:=⟨_,rfl⟩
   have hL:=HC.out k hlt
   have hO:=lastI_take t hlt
   rw [← hpe] at hL hO
   have HO:=Hid.m hO
   obtain ⟨r0,r1,r2⟩:=hL.below HBR.out hbl
   have hbl2:b<wr.heap.size:=by omega
   clear hpe hL hO
   have hm:=fun W=>isOf_any p t W
   cases ep:isOf t p
   ·rw [ep] at hm HO
    go_wp2_with (go_at_call 127;refine (hm _).mono ?_;rintro e w2 ⟨rfl,hb2⟩)
    go_roundw
    case rel=>exact ⟨k+1,m',by omega,by go_num,rfl,HBR.out.trans ((below_alloc hb2).mono (by omega)),by have:=(below_alloc hb2).size;omega,by have:=HO.out;simp at this;show _=_;rw [this];exact HOK.out⟩
    case measure=>simp [intOf];omega
   ·rw [ep] at hm HO
    go_wp2_with (go_at_call 127;refine (hm _).mono ?_;rintro e w2 ⟨rfl,hb2⟩)
    go_roundw
    case rel=>exact ⟨k+1,(k:Int),by omega,by go_num,rfl,HBR.out.trans ((below_alloc hb2).mono (by omega)),by have:=(below_alloc hb2).size;omega,by have:=HO.out;simp at this;show _=_;rw [this]⟩
    case measure=>simp [intOf];omega
  ·have hlt2:decide ((k:Int)<(ps.length:Int))=false:=by simp;omega
   have hM:M=m':=by
    rw [HM.out,HOK.out,List.take_of_length_le (by omega)]
   subst hM
   go_wp2
   go_ret2
   exact ⟨rfl,HBR.out⟩
end Go.Proofs.YtcdpiefflnaghaaGreatDoor.Sb
