/-
  Package engine and what stands beneath it, part 27: contracts of functions, and what they rest on.
-/
import Derived.Test.YtcdpiefflnaghaaGreatDoorU25
import Derived.Test.YtcdpiefflnaghaaGreatDoorU26
import Derived.Test.YtcdpiefflnaghaaGreatDoorU07
import Derived.Test.YtcdpiefflnaghaaGreatDoorU11
set_option linter.unusedSimpArgs false
set_option linter.unusedVariables false
set_option maxRecDepth 100000
namespace Go.Proofs.YtcdpiefflnaghaaGreatDoor.En
open Go.Proofs.YtcdpiefflnaghaaGreatDoor.It
open Go.Proofs.YtcdpiefflnaghaaGreatDoor.Lr
open Go.Proofs.YtcdpiefflnaghaaGreatDoor.Qt
open Go.Proofs.YtcdpiefflnaghaaGreatDoor.Sb
open Go.RowKit Go.Proofs.YtcdpiefflnaghaaGreatDoor
section
variable {N:Nat} {A:Ad} {V:Va} {x:Ra} {F:Cp→Nat→Prop} {w:World}
theorem cells_len (A:Ad)(V:Va)(q:Nat)(l:Int):(cellsE A V q l).length=27:=by simp [cellsE]
theorem Egv.lt (h:Egv N w A V x F):A.b<w.heap.size:=h.eng.1.lt
theorem Egv.c (h:Egv N w A V x F)(j:Nat)(hj:j<27):w.cell? ⟨A.b,j,none⟩=(cellsE A V x.quotas.length x.last)[j]?:=by
 have hl:=cells_len A V x.quotas.length x.last
 rw [List.getElem?_eq_getElem (by omega)]
 exact h.eng.1.c j (by omega)
theorem Egv.c0 (h:Egv N w A V x F):w.cell? ⟨A.b,0,none⟩=some (ptr A.b):=h.c 0 (by decide)
theorem Egv.c1 (h:Egv N w A V x F):w.cell? ⟨A.b,1,none⟩=some (ptr A.pw):=h.c 1 (by decide)
theorem Egv.c2 (h:Egv N w A V x F):w.cell? ⟨A.b,2,none⟩=some (ptr A.pt):=h.c 2 (by decide)
theorem Egv.c3 (h:Egv N w A V x F):w.cell? ⟨A.b,3,none⟩=some (ptr V.pp):=h.c 3 (by decide)
theorem Egv.c24 (h:Egv N w A V x F):w.cell? ⟨A.b,24,none⟩=some (.slice V.qo x.quotas.length V.qc):=h.c 24 (by decide)
theorem Egv.c25 (h:Egv N w A V x F):w.cell? ⟨A.b,25,none⟩=some (ptr A.pi):=h.c 25 (by decide)
theorem Egv.c26 (h:Egv N w A V x F):w.cell? ⟨A.b,26,none⟩=some (.int .u64 x.last):=h.c 26 (by decide)
theorem Egv.co (h:Egv N w A V x F){i:Nat}(hi:i<20):w.cell? ⟨A.b,4+i,none⟩=some (ptr (V.po i)):=by
 rw [h.c (4+i) (by omega)]
 unfold cellsE
 rw [List.append_assoc,List.getElem?_append_right (by simp),List.getElem?_append_left (by simp;omega)]
 simp [hi]
theorem Egv.f (h:Egv N w A V x F)(j:Nat):w.frozen? ⟨A.b,j,none⟩=false:=h.eng.1.f j
end
theorem ptrE_same (p:Nat)(W:World):(binOp .eql 22 (.pointer (some ⟨p,0,none⟩)) (.pointer (some ⟨p,0,none⟩))).run Tryz.prog W=.ok (.bool true) W:=by
 have h9:(Op.equalIn (9999+1) 22 (.pointer (some ⟨p,0,none⟩)) (.pointer (some ⟨p,0,none⟩))).run Tryz.prog W=.ok true W:=by
  have hse:(Go.sizeOf 106).run Tryz.prog W=.ok 27 W:=by kernel_rfl
  rw [Op.equalIn]
  simp only [Sem.run_bind,run_underlying Tryz.underlying22,Result.andThen_ok]
  simp [hse,sameAddr]
 simp only [binOp]
 have:(Op.equal 22 (.pointer (some ⟨p,0,none⟩)) (.pointer (some ⟨p,0,none⟩))).run Tryz.prog W=.ok true W:=h9
 simp [this]
theorem eisMade_any {N:Nat}{A:Ad}{x:Ra}{F:Cp→Nat→Prop}{w:World}(h:Eg N w A x F):Calls Tryz.prog 43 #[ptr A.b] w fun e w'=>e=.returned (.bool true)∧w'=w:=by
 obtain ⟨V,h⟩:=h
 have h0:=h.c0
 have hlt:=h.lt
 have hp:=ptrE_same A.b
 clear h
 unfold ptr at h0 ⊢
 go_enter Tryz.func43,Tryz.ntmps43
 go_wp2
 go_ret
 exact ⟨rfl,rfl⟩
theorem ehasQ_any {N:Nat}{A:Ad}{x:Ra}{F:Cp→Nat→Prop}{w:World}(h:Eg N w A x F)(t:Int):Calls Tryz.prog 45 #[ptr A.b,.int .i64 t] w fun e w'=>e=.returned (.bool (decide (0≤t∧t<x.quotas.length)))∧w'=w:=by
 obtain ⟨V,h⟩:=h
 have h24:=h.c24
 have hlt:=h.lt
 have hq:x.quotas.length≤9223372036854775807:=h.imm.qu.len
 clear h
 unfold ptr
 by_cases h1:0≤t
 ·by_cases h2:t<(x.quotas.length:Int)
  ·have e:decide (0≤t∧t<(x.quotas.length:Int))=true:=by simp;omega
   rw [e]
   go_enter Tryz.func45,Tryz.ntmps45
   go_wp2
   go_ret
   exact ⟨rfl,rfl⟩
  ·have e:decide (0≤t∧t<(x.quotas.length:Int))=false:=by simp;omega
   rw [e]
   go_enter Tryz.func45,Tryz.ntmps45
   go_wp2
   go_ret
   exact ⟨rfl,rfl⟩
 ·have e:decide (0≤t∧t<(x.quotas.length:Int))=false:=by simp;omega
  rw [e]
  go_enter Tryz.func45,Tryz.ntmps45
  go_wp2
  go_ret
  exact ⟨rfl,rfl⟩
theorem enow_any {N:Nat}{A:Ad}{x:Ra}{F:Cp→Nat→Prop}{w:World}(h:Eg N w A x F):Calls Tryz.prog 47 #[ptr A.b] w fun e w'=>e=.returned (.int .i64 x.now)∧w'=w:=by
 obtain ⟨V,h⟩:=h
 have h1:=h.c1
 have hlt:=h.lt
 obtain ⟨b0,mb,hw,_⟩:=h.whl
 have HN:=Hid.m (Wh.now_any w A.pw x.now (x.L.map wU) b0 mb N hw)
 clear h hw
 unfold ptr at h1 ⊢
 go_enter Tryz.func47,Tryz.ntmps47
 go_wp2_with (go_at_call 89;refine HN.out.mono ?_;rintro e w1 ⟨rfl,rfl⟩)
 go_ret
 exact ⟨rfl,rfl⟩
theorem enameOf_any (z:Int × Im)(w:World):Calls Tryz.prog 112 #[.agg (EK.cells z).toArray] w fun e w'=>e=.returned (.agg #[.int .i64 z.1,.string z.2.key])∧Below w.heap.size w w':=by
 unfold EK
 dsimp only
 obtain ⟨W,hW⟩:∃ W,W=(w.alloc (.cells #[.int .i64 z.1,.string z.2.key,.string z.2.value,.int .u32 z.2.flags,.int .i64 z.2.till,.int .u64 z.2.unique] 141)).alloc (.cells #[.int .i64 0,.string ⟨#[]⟩] 119):=⟨_,rfl⟩
 go_enter Tryz.func112,Tryz.ntmps112
 go_wp2
 try simp only [Exit.inBlock,Exit.then]
 refine bodyPost_ret (v:=.agg #[.int .i64 z.1,.string z.2.key]) (by simp [results,Tryz.results112,go_sem]) rfl ⟨rfl,?_⟩
 exact g_on (g_alloc w _) (g_alloc _ _)
theorem echunkAt_any (p:Nat)(hp:p<9223372036854775807)(w:World):Calls Tryz.prog 156 #[.int .i64 p] w fun e w'=>e=.returned (.tuple #[.int .i64 (p / 16:Nat),.int .i64 (p % 16:Nat)])∧w'=w:=by
 go_enter Tryz.func156,Tryz.ntmps156
 go_wp2
 go_ret2
 exact ⟨by simp,rfl⟩
theorem eplaceOf_any (i k:Nat)(hi:i<1000000)(hk:k<1000000)(w:World):Calls Tryz.prog 164 #[.int .i64 i,.int .i64 k] w fun e w'=>e=.returned (.int .i64 (i * 16+k:Nat))∧w'=w:=by
 go_enter Tryz.func164,Tryz.ntmps164
 go_wp2
 go_ret
 exact ⟨by simp,rfl⟩
end Go.Proofs.YtcdpiefflnaghaaGreatDoor.En
namespace Go.Proofs.YtcdpiefflnaghaaGreatDoor.En
open Go.Proofs.YtcdpiefflnaghaaGreatDoor.It
open Go.Proofs.YtcdpiefflnaghaaGreatDoor.Lr
open Go.Proofs.YtcdpiefflnaghaaGreatDoor.Qt
open Go.Proofs.YtcdpiefflnaghaaGreatDoor.Sb
open Go.RowKit Go.Proofs.YtcdpiefflnaghaaGreatDoor
theorem lk_t (T:List (Na × Int))(n:Na):Tb.lk (T.map tU) (tN n)=lkN T n:=by
 unfold Tb.lk lkN
 rw [List.find?_map]
 have e:((fun q:Tb.NU=>decide (q.1=tN n)) ∘ tU)=fun p=>decide (p.1=n):=by
  funext p
  rw [Bool.eq_iff_iff]
  simp [tU,tN_inj]
 rw [e]
 cases List.find? (fun p=>decide (p.1=n)) T <;> rfl
theorem ok_t {n:Na}(h:okN n):(tN n).ok:=h
theorem ok_w {n:Na}(h:okN n):(wN n).ok:=h
theorem Kpt.ofT {F:Nat→Prop}{w w':World}(h:Tb.Kept F w w'):Kpt F w w':=⟨h.os,h.tape,h.output,h.size,h.block⟩
theorem Kpt.ofW {F:Nat→Prop}{w w':World}(h:Wh.Kept F w w'):Kpt F w w':=⟨h.os,h.tape,h.output,h.size,h.block⟩
section
variable {N:Nat} {A:Ad} {V:Va} {x:Ra} {F:Cp→Nat→Prop} {w:World}
theorem Egv.tabLv (h:Egv N w A V x F){base:Nat}{T':List (Na × Int)}{F0:Nat→Prop}{w':World}(hF0:∀ k,F0 k→F .tab k)(hB:base≤w.heap.size)(hs:Tb.Same w base A.pt (T'.map tU) 1000 F0 w'):∃ F',Egv N w' A V { x with T:=T' } F'∧Lv N A { x with T:=T' } F w w' F':=by
 obtain ⟨moved,F1,hm,h1,h2,h3⟩:=hs
 have hk:Kpt (F .tab) w w':=(Kpt.ofT h2).mono hF0
 have hsub:∀ k,F1 k→F .tab k∨w.heap.size≤k:=fun k hk=>(h3 k hk).imp (hF0 k) id
 have hE:=h.tabTurn hk (T':=T') (G:=F1) ⟨base,moved,F1,h1,Nat.le_trans hB hk.size,fun k hk=>hk⟩ (fun k hk=>(h1.lt hk).2) hsub
 exact ⟨_,hE,⟨V,hE⟩,kpt_mu (by decide) hk,sub_upc hsub⟩
theorem tget (h:Egv N w A V x F){n:Na}(hn:okN n)(hl:x.T.length≤1000):
  Calls Tryz.prog 94 #[ptr A.pt,.agg #[.int .i64 n.1,.string n.2]] w fun e w'=>e=.returned (.tuple #[.int .i64 ((lkN x.T n).getD 0),.bool (lkN x.T n).isSome,.int .i64 0])∧∃ F',Lv N A x F w w' F':=by
 obtain ⟨base,moved,F0,h1,h2,h3⟩:=h.tab
 refine (Tb.get_ok w base A.pt (x.T.map tU) moved 1000 F0 h1 (by simpa using hl) (by decide) (tN n) (ok_t hn)).mono ?_
 rintro e w' ⟨rfl,hs⟩
 unfold Tb.getV
 rw [lk_t]
 obtain ⟨F',_,hL⟩:=h.tabLv h3 h2 hs
 exact ⟨rfl,F',hL⟩
theorem tput (h:Egv N w A V x F){n:Na}(hn:okN n)(hl:x.T.length<1000)(p:Int):
  Calls Tryz.prog 173 #[ptr A.pt,.agg #[.int .i64 n.1,.string n.2],.int .i64 p] w fun e w'=>e=.returned (.int .i64 0)∧∃ F',Lv N A { x with T:=(n,p)::strikeN n x.T } F w w' F':=by
 obtain ⟨base,moved,F0,h1,h2,h3⟩:=h.tab
 refine (Tb.put_ok w base A.pt (x.T.map tU) moved 1000 F0 h1 (by simpa using hl) (by decide) (tN n) (ok_t hn) p).mono ?_
 rintro e w' ⟨rfl,T',rfl,hs⟩
 rw [strike_t] at hs
 obtain ⟨F',_,hL⟩:=h.tabLv (T':=(n,p)::strikeN n x.T) h3 h2 hs
 exact ⟨rfl,F',hL⟩
theorem tdel (h:Egv N w A V x F){n:Na}(hn:okN n)(hl:x.T.length≤1000):
  Calls Tryz.prog 158 #[ptr A.pt,.agg #[.int .i64 n.1,.string n.2]] w fun e w'=>(∃ r:Bool,e=.returned (.tuple #[.bool r,.int .i64 0]))∧∃ F',Lv N A { x with T:=strikeN n x.T } F w w' F':=by
 obtain ⟨base,moved,F0,h1,h2,h3⟩:=h.tab
 refine (Tb.del_ok w base A.pt (x.T.map tU) moved 1000 F0 h1 (by simpa using hl) (by decide) (tN n) (ok_t hn)).mono ?_
 rintro e w' ⟨rfl,T',rfl,hs⟩
 rw [strike_t] at hs
 obtain ⟨F',_,hL⟩:=h.tabLv (T':=strikeN n x.T) h3 h2 hs
 exact ⟨⟨_,rfl⟩,F',hL⟩
theorem Egv.whlLv (h:Egv N w A V x F){N' now':Nat}{L':List (Na × Int)}{b0:Nat}{mb mb':Nat→Option Nat}{w':World}(hF0:∀ k,Wh.Foot A.pw b0 mb k→F .whl k)(hw:Wh.Wh w' A.pw now' (L'.map wU) (L'.map wU) b0 mb' N')(hk:Wh.Kept (Wh.Foot A.pw b0 mb) w w')(hs:∀ k,Wh.Foot A.pw b0 mb' k→Wh.Foot A.pw b0 mb k∨w.heap.size≤k):∃ F',F' .whl=Wh.Foot A.pw b0 mb'∧Lv N' A { x with now:=now',L:=L' } F w w' F':=by
 have hk':Kpt (F .whl) w w':=(Kpt.ofW hk).mono hF0
 have hsub:∀ k,Wh.Foot A.pw b0 mb' k→F .whl k∨w.heap.size≤k:=fun k hk=>(hs k hk).imp (hF0 k) id
 have hE:=h.whlTurn hk' (N':=N') (now':=now') (L':=L') (G:=Wh.Foot A.pw b0 mb') ⟨b0,mb',hw,fun k hk=>hk⟩ (fun k hk=>hw.lt hk) hsub
 exact ⟨_,upc_same _ _ _,⟨V,hE⟩,kpt_mu (by decide) hk',sub_upc hsub⟩
theorem wadd (h:Egv N w A V x F){n:Na}(hn:okN n)(hN:N<100000000){u:Int}(hu:(x.now:Int)<u∧u≤1099511627776):
  Calls Tryz.prog 240 #[ptr A.pw,.agg #[.int .i64 n.1,.string n.2],.int .i64 u] w fun e w'=>e=.returned (.int .i64 0)∧∃ F',Lv (N+2) A { x with L:=(n,u)::strikeN n x.L } F w w' F':=by
 obtain ⟨b0,mb,h1,h2⟩:=h.whl
 have hE:Wh.addE x.now (wN n) u=0:=by
  unfold Wh.addE
  rw [if_pos (ok_w hn),if_neg (by omega)]
 refine (Wh.add_any w A.pw x.now (x.L.map wU) b0 mb N h1 hN (wN n) u).mono ?_
 rintro e w' ⟨rfl,mb',hw,hk,hs⟩
 rw [hE]
 have e1:Wh.addL (x.L.map wU) x.now (wN n) u=((n,u)::strikeN n x.L).map wU:=by
  unfold Wh.addL
  rw [if_pos hE,strike_w]
  rfl
 rw [e1] at hw
 obtain ⟨F',_,hL⟩:=h.whlLv h2 hw hk hs
 exact ⟨rfl,F',hL⟩
theorem wdel (h:Egv N w A V x F){n:Na}(hn:okN n):
  Calls Tryz.prog 159 #[ptr A.pw,.agg #[.int .i64 n.1,.string n.2]] w fun e w'=>(∃ r:Int,e=.returned (.int .i64 r))∧∃ F',Lv N A { x with L:=strikeN n x.L } F w w' F':=by
 obtain ⟨b0,mb,h1,h2⟩:=h.whl
 refine (Wh.del_any w A.pw x.now (x.L.map wU) b0 mb N h1 (wN n)).mono ?_
 rintro e w' ⟨rfl,mb',hw,hk,hs⟩
 rw [if_pos (ok_w hn),strike_w] at hw
 obtain ⟨F',_,hL⟩:=h.whlLv h2 hw hk hs
 exact ⟨⟨_,rfl⟩,F',hL⟩
end
theorem find_any {N:Nat}{A:Ad}{x:Ra}{F:Cp→Nat→Prop}{w:World}(h:Eg N w A x F){n:Na}(hn:okN n)(hl:x.T.length≤1000):
  Calls Tryz.prog 50 #[ptr A.b,.agg #[.int .i64 n.1,.string n.2]] w fun e w'=>e=.returned (.tuple #[.int .i64 ((lkN x.T n).getD 0),.bool (lkN x.T n).isSome])∧∃ F',Lv N A x F w w' F':=by
 obtain ⟨V,h⟩:=h
 obtain ⟨W,hW⟩:∃ W,W=w.alloc (.cells #[.int .i64 n.1,.string n.2] 119):=⟨_,rfl⟩
 have HB:Hid (Below w.heap.size w W):=by rw [hW];exact g_alloc _ _
 have HG:=Hid.m (fun W' (hb:Below W.heap.size W W')=>tget ((h.below HB.out).below hb) hn hl)
 have h2:W.cell? ⟨A.b,2,none⟩=some (ptr A.pt):=(h.below HB.out).c2
 have hlt:A.b<W.heap.size:=(h.below HB.out).lt
 have n0:W.cell? ⟨w.heap.size,0,none⟩=some (.int .i64 n.1):=by rw [hW];simp
 have n1:W.cell? ⟨w.heap.size,1,none⟩=some (.string n.2):=by rw [hW];simp
 have hltn:w.heap.size<W.heap.size:=by rw [hW];simp
 obtain ⟨pl,hpl⟩:∃ pl,pl=(lkN x.T n).getD 0:=⟨_,rfl⟩
 obtain ⟨is,his⟩:∃ b,b=(lkN x.T n).isSome:=⟨_,rfl⟩
 rw [← hpl,← his] at HG ⊢
 clear hpl his h
 unfold ptr at h2 HG ⊢
 go_enter Tryz.func50,Tryz.ntmps50
 go_upto_region 1 with (fail)
 rw [← hW]
 clear hW
 go_region_with (go_at_call 94;refine (HG.out _ (by exact (Below.refl _ _).drew)).mono ?_;rintro e w1 ⟨rfl,F',hL⟩;have HL:=Hid.m hL;clear hL)
 all_goals (go_wp2;go_ret2;exact ⟨rfl,F',HL.out.from HB.out.drew⟩)
end Go.Proofs.YtcdpiefflnaghaaGreatDoor.En
namespace Go.Proofs.YtcdpiefflnaghaaGreatDoor.En
open Go.Proofs.YtcdpiefflnaghaaGreatDoor.It
open Go.Proofs.YtcdpiefflnaghaaGreatDoor.Lr
open Go.Proofs.YtcdpiefflnaghaaGreatDoor.Qt
open Go.Proofs.YtcdpiefflnaghaaGreatDoor.Sb
open Go.RowKit Go.Proofs.YtcdpiefflnaghaaGreatDoor
theorem edropped_any (t:Int)(k:ByteArray)(y:Int)(w:World):Calls Tryz.prog 138 #[.agg #[.int .i64 t,.string k],.int .u8 y] w fun e w'=>e=.returned (Ch.drop t k y).v∧Below w.heap.size w w':=by
 unfold Ch.v
 simp only [Ch.kd,Ch.tn,Ch.im,Ch.key,Ch.why,Ch.to,Im.none]
 go_enter Tryz.func138,Tryz.ntmps138
 go_wp2
 try simp only [Exit.inBlock,Exit.then]
 refine bodyPost_ret (v:=.agg #[.int .u8 2,.int .i64 t,.string ⟨#[]⟩,.string ⟨#[]⟩,.int .u32 0,.int .i64 0,.int .u64 0,.string k,.int .u8 y,.int .i64 0,.bool false]) (by simp [results,Tryz.results138,go_sem]) rfl ⟨rfl,?_⟩
 exact g_on (g_alloc w _) (g_alloc _ _)
theorem eputting_any (z:Int × Im)(w:World):Calls Tryz.prog 193 #[.agg (EK.cells z).toArray] w fun e w'=>e=.returned (Ch.put z.1 z.2).v∧Below w.heap.size w w':=by
 unfold EK Ch.v
 simp only [Ch.kd,Ch.tn,Ch.im,Ch.key,Ch.why,Ch.to]
 go_enter Tryz.func193,Tryz.ntmps193
 go_wp2
 try simp only [Exit.inBlock,Exit.then]
 refine bodyPost_ret (v:=.agg #[.int .u8 1,.int .i64 z.1,.string z.2.key,.string z.2.value,.int .u32 z.2.flags,.int .i64 z.2.till,.int .u64 z.2.unique,.string ⟨#[]⟩,.int .u8 0,.int .i64 0,.bool false]) (by simp [results,Tryz.results193,go_sem]) rfl ⟨rfl,?_⟩
 exact g_on (g_alloc w _) (g_alloc _ _)
def iI (x:Im):It.It:=⟨x.key,x.value,x.flags,x.till,x.unique⟩
theorem ck_ok (x:Im):(It.ckE (iI x)=0)↔okI x=true:=by
 unfold It.ckE okI It.mom momI iI
 simp only [Bool.and_eq_true,decide_eq_true_eq]
 by_cases h1:x.key.size<1∨32<x.key.size∨512<x.value.size
 ·rw [if_pos h1]
  constructor
  ·intro e;cases e
  ·rintro ⟨h2,_⟩;omega
 ·rw [if_neg h1]
  by_cases h2:0≤x.till∧x.till≤1099511627776
  ·rw [if_pos h2]
   exact ⟨fun _=>⟨by omega,h2⟩,fun _=>rfl⟩
  ·rw [if_neg h2]
   exact ⟨fun e=>(by cases e),fun h=>absurd h.2 h2⟩
theorem cls_s (x:Im):((Sb.clsN (szI x:Int):Nat):Int)=cls x:=by
 unfold Sb.clsN cls clsN
 by_cases h1:szI x≤16
 ·rw [if_pos (by omega),if_pos h1];rfl
 rw [if_neg (by omega),if_neg h1]
 by_cases h2:szI x≤32
 ·rw [if_pos (by omega),if_pos h2];rfl
 rw [if_neg (by omega),if_neg h2]
 by_cases h3:szI x≤64
 ·rw [if_pos (by omega),if_pos h3];rfl
 rw [if_neg (by omega),if_neg h3]
 by_cases h4:szI x≤128
 ·rw [if_pos (by omega),if_pos h4];rfl
 ·rw [if_neg (by omega),if_neg h4];rfl
theorem classOf_good (x:Im)(h:okI x=true∧szI x≤256)(w:World):Calls Tryz.prog 111 #[x.v] w fun e w'=>e=.returned (.tuple #[.int .i64 (cls x),.bool true])∧Below w.heap.size w w':=by
 have hc:It.ckE (iI x)=0:=(ck_ok x).2 h.1
 have hsz:It.szV (iI x)=(szI x:Int):=by unfold It.szV;rw [if_pos hc];unfold szI iI;first | (simp;done) | (simp;omega)
 have HS:=Hid.m (fun W=>It.isize_any (iI x) W)
 rw [hc,hsz] at HS
 have hs1:1≤(szI x:Int)∧(szI x:Int)≤256:=by have:=h.2;unfold szI at *;omega
 have HC:=Hid.m (fun W=>Sb.scls_good (szI x:Int) W hs1)
 rw [show ((Sb.clsN (szI x:Int):Nat):Int)=cls x from cls_s x] at HC
 obtain ⟨W,hW⟩:∃ W,W=w.alloc (.cells #[.string x.key,.string x.value,.int .u32 x.flags,.int .i64 x.till,.int .u64 x.unique] 76):=⟨_,rfl⟩
 have HB:Hid (Below w.heap.size w W):=by rw [hW];exact g_alloc _ _
 clear h hc hsz hs1
 unfold It.It.v iI at HS
 dsimp only at HS
 unfold Im.v
 go_enter Tryz.func111,Tryz.ntmps111
 go_wp2_with (first
  | (go_at_call 78;rw [← hW];refine (HS.out W).mono ?_;rintro e w1 ⟨rfl,hw1⟩;have HB1:Hid (Below w.heap.size w w1):=(by rw [hw1];exact g_on (g_on HB.out (g_alloc _ _)) (g_alloc _ _));clear hw1)
  | (go_at_call 79;refine (HC.out _).mono ?_;rintro e w2 ⟨rfl,rfl⟩))
 go_ret2
 exact ⟨rfl,HB1.out⟩
theorem classOf_bad (x:Im)(h:¬ (okI x=true∧szI x≤256))(w:World):Calls Tryz.prog 111 #[x.v] w fun e w'=>(∃ c:Int,e=.returned (.tuple #[.int .i64 c,.bool false]))∧Below w.heap.size w w':=by
 have HS:=Hid.m (fun W=>It.isize_any (iI x) W)
 obtain ⟨W,hW⟩:∃ W,W=w.alloc (.cells #[.string x.key,.string x.value,.int .u32 x.flags,.int .i64 x.till,.int .u64 x.unique] 76):=⟨_,rfl⟩
 have HB:Hid (Below w.heap.size w W):=by rw [hW];exact g_alloc _ _
 by_cases hk:okI x=true
 ·have hc:It.ckE (iI x)=0:=(ck_ok x).2 hk
  have hsz:It.szV (iI x)=(szI x:Int):=by unfold It.szV;rw [if_pos hc];unfold szI iI;first | (simp;done) | (simp;omega)
  rw [hc,hsz] at HS
  have hs1:¬ (1≤(szI x:Int)∧(szI x:Int)≤256):=fun e=>h ⟨hk,by omega⟩
  have HC:=Hid.m (fun W=>Sb.scls_bad (szI x:Int) W hs1)
  clear h hc hsz hs1 hk
  unfold It.It.v iI at HS
  dsimp only at HS
  unfold Im.v
  go_enter Tryz.func111,Tryz.ntmps111
  go_wp2_with (first
   | (go_at_call 78;rw [← hW];refine (HS.out W).mono ?_;rintro e w1 ⟨rfl,hw1⟩;have HB1:Hid (Below w.heap.size w w1):=(by rw [hw1];exact g_on (g_on HB.out (g_alloc _ _)) (g_alloc _ _));clear hw1)
   | (go_at_call 79;refine (HC.out _).mono ?_;rintro e w2 ⟨rfl,rfl⟩))
  go_ret2
  exact ⟨⟨_,rfl⟩,HB1.out⟩
 ·have hc:It.ckE (iI x)≠0:=fun e=>hk ((ck_ok x).1 e)
  obtain ⟨c,hcc⟩:∃ c,c=It.ckE (iI x):=⟨_,rfl⟩
  rw [← hcc] at HS hc
  have hc2:(c != 0)=true:=by simpa using hc
  have hc3:(c==0)=false:=by simpa using hc
  clear h hk hcc hc
  unfold It.It.v iI at HS
  dsimp only at HS
  unfold Im.v
  go_enter Tryz.func111,Tryz.ntmps111
  go_wp2_with (go_at_call 78;rw [← hW];refine (HS.out W).mono ?_;rintro e w1 ⟨rfl,hw1⟩;have HB1:Hid (Below w.heap.size w w1):=(by rw [hw1];exact g_on (g_on HB.out (g_alloc _ _)) (g_alloc _ _));clear hw1)
  go_ret2
  exact ⟨⟨_,rfl⟩,HB1.out⟩
end Go.Proofs.YtcdpiefflnaghaaGreatDoor.En
namespace Go.Proofs.YtcdpiefflnaghaaGreatDoor.En
open Go.Proofs.YtcdpiefflnaghaaGreatDoor.It
open Go.Proofs.YtcdpiefflnaghaaGreatDoor.Lr
open Go.Proofs.YtcdpiefflnaghaaGreatDoor.Qt
open Go.Proofs.YtcdpiefflnaghaaGreatDoor.Sb
open Go.RowKit Go.Proofs.YtcdpiefflnaghaaGreatDoor
theorem _root_.Go.Proofs.YtcdpiefflnaghaaGreatDoor.GRd.pg {w:World}{ao:Option Addr}{l:List Pg}{cap:Nat}(h:GRd EP w ao l cap){i:Nat}(hi:i<l.length):∃ b off,ao=some ⟨b,off,none⟩∧b<w.heap.size∧w.cell? ⟨b,off+i * 3,none⟩=some (.int .i64 l[i].t)∧w.cell? ⟨b,off+i * 3+1,none⟩=some (.int .i64 l[i].c)∧w.cell? ⟨b,off+i * 3+2,none⟩=some (.int .u16 (l[i].u:Int)):=by
 obtain ⟨b,off,e,hb,hc⟩:=h.lies (by intro e;rw [e] at hi;simp at hi)
 have h0:=hc i hi 0 (by decide)
 have h1:=hc i hi 1 (by decide)
 have h2:=hc i hi 2 (by decide)
 exact ⟨b,off,e,hb,by simpa [EP] using h0,by simpa [EP] using h1,by simpa [EP] using h2⟩
theorem g_drewN {B:Nat}{w w':World}(h:Below B w w')(n:Nat):Below B w (w'.drewN n):=⟨h.os,h.tape,h.output,h.size,h.block⟩
set_option maxHeartbeats 1000000 in
theorem orderAt_any {N:Nat}{A:Ad}{x:Ra}{F:Cp→Nat→Prop}{w:World}(h:Eg N w A x F){p i t c:Nat}(hp:p<9223372036854775807)(hi:p / 16=i)(hil:i<x.pages.length)(ht:x.pages[i].t=(t:Int))(hc:x.pages[i].c=(c:Int))(ht4:t<4)(hc5:c<5):
  Calls Tryz.prog 154 #[ptr A.b,.int .i64 p] w fun e w'=>e=.returned (.pointer (some ⟨A.b,4+(t * 5+c),none⟩))∧Below w.heap.size w w':=by
 obtain ⟨V,h⟩:=h
 have h3:=h.c3
 have hlt:=h.lt
 obtain ⟨ao,cap,hP⟩:=h.imm.pg
 have hp0:=hP.box.c 0 (by simp)
 have hpl:=hP.box.lt
 have hll:=hP.rd.len
 obtain ⟨g,off,rfl,hg,g0,g1,g2⟩:=hP.rd.pg hil
 rw [ht] at g0
 rw [hc] at g1
 simp only [List.getElem_cons_zero] at hp0
 have HC:=Hid.m (fun W=>echunkAt_any p hp W)
 rw [hi] at HC
 obtain ⟨u,hu⟩:∃ u,u=x.pages[i].u:=⟨_,rfl⟩
 rw [← hu] at g2
 clear hu hP h hi ht hc
 obtain ⟨n,hn⟩:∃ n,n=x.pages.length:=⟨_,rfl⟩
 rw [← hn] at hil hp0 hll
 clear hn
 have hil2:(i:Int)<(n:Int):=by omega
 have ht2:(t:Int)<4:=by omega
 have hc2:(c:Int)<5:=by omega
 unfold ptr at h3 ⊢
 go_enter Tryz.func154,Tryz.ntmps154
 go_wp2_with (go_at_call 156;refine (HC.out _).mono ?_;rintro e w1 ⟨rfl,rfl⟩)
 go_quiet (fail)
 go_wp2
 go_ret
 refine ⟨?_,?_⟩
 ·simp
 ·exact g_drewN (g_alloc _ _) _
end Go.Proofs.YtcdpiefflnaghaaGreatDoor.En
