/-
  Package engine and what stands beneath it, part 14: contracts of functions, and what they rest on.
-/
import Derived.OpenShut
import Derived.Test.YtcdpiefflnaghaaGreatDoorU13
import Derived.Test.YtcdpiefflnaghaaGreatDoorU09
set_option linter.unusedSimpArgs false
set_option linter.unusedVariables false
set_option maxRecDepth 100000
namespace Go.Proofs.YtcdpiefflnaghaaGreatDoor.En
open Go.ChangeShapes Go.WideShapes Go.ChangeAt Go.RowKit Go.Proofs.YtcdpiefflnaghaaGreatDoor
open Go.ChangeMaps (open_string shut_string)
theorem laidOut_all:laidOutB Tryz.prog=true:=by kernel_rfl
theorem n8:Tryz.prog.cellsOf 5=1:=by kernel_rfl
theorem n64:Tryz.prog.cellsOf 3=1:=by kernel_rfl
theorem nstr:Tryz.prog.cellsOf 9=1:=by kernel_rfl
theorem nu32:Tryz.prog.cellsOf 35=1:=by kernel_rfl
theorem nu64:Tryz.prog.cellsOf 28=1:=by kernel_rfl
theorem nstrs:Tryz.prog.cellsOf 34=1:=by kernel_rfl
theorem ncmd:Tryz.prog.cellsOf 37=8:=by kernel_rfl
theorem nop:Tryz.prog.cellsOf 61=11:=by kernel_rfl
instance:Inhabited Opr:=⟨⟨0,⟨⟨0,0,[],⟨#[]⟩,0,0,0,0⟩,none,0⟩,0,0⟩⟩
instance:Inhabited ByteArray:=⟨⟨#[]⟩⟩
variable {H:Type} {enc:TypeId × Value→H} {W:World} {base:Nat} {sp:Nat→Bool} {bb:Bool}
theorem str_of_cells {fuel:Nat}{cs:List Value}{x:DataW H × List MemPlace}(h:DataW.trod enc Tryz.prog W base sp bb fuel 9 cs=some x):∃ s:ByteArray,cs=ES.cells s∧True:=by
 obtain ⟨s,e,_,_⟩:=DataW.trod_string Tryz.underlying9 h
 exact ⟨s,e,trivial⟩
theorem int_of_cells {fuel:Nat}{cs:List Value}{x:DataW H × List MemPlace}(h:DataW.trod enc Tryz.prog W base sp bb fuel 3 cs=some x):∃ n:Int,cs=EI.cells n∧(-9223372036854775808≤n∧n≤9223372036854775807):=by
 obtain ⟨n,e,_,g⟩:=DataW.trod_int Tryz.underlying3 h
 exact ⟨n,e,bounds_i64 g⟩
structure CdOk (W:World)(d:Cd):Prop where
 keys:GRd ES W d.so d.c.keys d.sc
 kind:0≤d.c.kind∧d.c.kind≤255
 tenant:-9223372036854775808≤d.c.tenant∧d.c.tenant≤9223372036854775807
 flags:0≤d.c.flags∧d.c.flags≤4294967295
 life:-9223372036854775808≤d.c.life∧d.c.life≤9223372036854775807
 unique:0≤d.c.unique∧d.c.unique≤18446744073709551615
 by_:0≤d.c.by_∧d.c.by_≤18446744073709551615
theorem cd_of_cells (hsp:∀ b,sp b=true){fuel:Nat}{cs:List Value}{x:DataW H × List MemPlace}(h:DataW.trod enc Tryz.prog W base sp bb fuel 37 cs=some x):∃ d:Cd,cs=ED.cells d∧CdOk W d:=by
 obtain ⟨xs,n,_,hx,hlen,hxl,hfs⟩:=DataW.trod_struct Tryz.underlying37 h
 rw [ncmd] at hlen
 match cs,hlen,xs,hxl with
 | [u0,u1,u2,u3,u4,u5,u6,u7],_,[y0,y1,y2,y3,y4,y5,y6,y7],_=>
  have f0:=hfs 0 _ rfl
  have f1:=hfs 1 _ rfl
  have f2:=hfs 2 _ rfl
  have f3:=hfs 3 _ rfl
  have f4:=hfs 4 _ rfl
  have f5:=hfs 5 _ rfl
  have f6:=hfs 6 _ rfl
  have f7:=hfs 7 _ rfl
  simp [n8,n64,nstrs,nstr,nu32,nu64] at f0 f1 f2 f3 f4 f5 f6 f7
  obtain ⟨m0,e0,_,g0⟩:=DataW.trod_int Tryz.underlying5 f0
  obtain ⟨m1,e1,_,g1⟩:=DataW.trod_int Tryz.underlying3 f1
  obtain ⟨s3,e3,_,g3⟩:=DataW.trod_string Tryz.underlying9 f3
  obtain ⟨m4,e4,_,g4⟩:=DataW.trod_int Tryz.underlying35 f4
  obtain ⟨m5,e5,_,g5⟩:=DataW.trod_int Tryz.underlying3 f5
  obtain ⟨m6,e6,_,g6⟩:=DataW.trod_int Tryz.underlying28 f6
  obtain ⟨m7,e7,_,g7⟩:=DataW.trod_int Tryz.underlying28 f7
  obtain ⟨ko,l,kc,e2,hg,_⟩:=g_open okS nstr (fun _=>True) hsp (fun _ _ _ hx=>str_of_cells hx) f2
  simp at e0 e1 e3 e4 e5 e6 e7
  subst e0 e1 e2 e3 e4 e5 e6 e7
  exact ⟨⟨⟨m0,m1,l,s3,m4,m5,m6,m7⟩,ko,kc⟩,rfl,hg,bounds_u8 g0,bounds_i64 g1,bounds_u32 g4,bounds_i64 g5,bounds_u64 g6,bounds_u64 g7⟩
structure OprOk (W:World)(o:Opr):Prop where
 cmd:CdOk W o.d
 kind:0≤o.kind∧o.kind≤255
 tenant:-9223372036854775808≤o.tenant∧o.tenant≤9223372036854775807
 dest:-9223372036854775808≤o.dest∧o.dest≤9223372036854775807
theorem op_of_cells (hsp:∀ b,sp b=true){fuel:Nat}{cs:List Value}{x:DataW H × List MemPlace}(h:DataW.trod enc Tryz.prog W base sp bb fuel 61 cs=some x):∃ o:Opr,cs=EO.cells o∧OprOk W o:=by
 obtain ⟨xs,n,_,hx,hlen,hxl,hfs⟩:=DataW.trod_struct Tryz.underlying61 h
 rw [nop] at hlen
 match cs,hlen,xs,hxl with
 | [u0,u1,u2,u3,u4,u5,u6,u7,u8,u9,u10],_,[y0,y1,y2,y3],_=>
  have f0:=hfs 0 _ rfl
  have f1:=hfs 1 _ rfl
  have f2:=hfs 2 _ rfl
  have f3:=hfs 3 _ rfl
  simp [n8,n64,ncmd] at f0 f1 f2 f3
  obtain ⟨m0,e0,_,g0⟩:=DataW.trod_int Tryz.underlying5 f0
  obtain ⟨d,e1,hd⟩:=cd_of_cells hsp f1
  obtain ⟨m2,e2,_,g2⟩:=DataW.trod_int Tryz.underlying3 f2
  obtain ⟨m3,e3,_,g3⟩:=DataW.trod_int Tryz.underlying3 f3
  simp [ED,Cd.cl] at e0 e1 e2 e3
  obtain ⟨rfl,rfl,rfl,rfl,rfl,rfl,rfl,rfl⟩:=e1
  subst e0 e2 e3
  exact ⟨⟨m0,d,m2,m3⟩,rfl,hd,bounds_u8 g0,bounds_i64 g2,bounds_i64 g3⟩
theorem inOps_of {v:Value}{r:Reach}{b0:Nat}{d:DataW H}{p:List MemPlace}(hsp:∀ b,sp b=true)(hv:Value.okWide Tryz.prog W r b0 47 v)
  (hf:DataW.Trod enc Tryz.prog W base sp bb 47 v d p):∃ (lo:Option Addr) (l:List Opr) (lc:Nat),v=.slice lo l.length lc∧Ops W lo l lc∧(∀ o∈l,OprOk W o):=by
 obtain ⟨a,len,cap,rfl⟩:=okWide_slice Tryz.underlying47 hv
 obtain ⟨fuel,hf⟩:=hf
 obtain ⟨lo,l,lc,e,hg,hq⟩:=g_open okO nop (OprOk W) hsp (fun _ _ _ hx=>op_of_cells hsp hx) (show DataW.trod enc Tryz.prog W base sp bb fuel 47 [.slice a len cap]=_ from hf)
 have hall:∀ o∈l,OprOk W o:=by
  intro o ho
  obtain ⟨i,hi,rfl⟩:=List.getElem_of_mem ho
  exact hq i hi
 exact ⟨lo,l,lc,e,⟨hg,fun o ho=>(hall o ho).cmd.keys,fun o ho=>(hall o ho).cmd.by_⟩,hall⟩
theorem inNums_of {v:Value}{r:Reach}{b0:Nat}{d:DataW H}{p:List MemPlace}(hsp:∀ b,sp b=true)(hv:Value.okWide Tryz.prog W r b0 26 v)
  (hf:DataW.Trod enc Tryz.prog W base sp bb 26 v d p):∃ (lo:Option Addr) (l:List Int) (lc:Nat),v=.slice lo l.length lc∧GRd EI W lo l lc∧(∀ n∈l,-9223372036854775808≤n∧n≤9223372036854775807):=by
 obtain ⟨a,len,cap,rfl⟩:=okWide_slice Tryz.underlying26 hv
 obtain ⟨fuel,hf⟩:=hf
 obtain ⟨lo,l,lc,e,hg,hq⟩:=g_open Go.Proofs.YtcdpiefflnaghaaGreatDoor.okI n64 (fun n=>-9223372036854775808≤n∧n≤9223372036854775807) hsp (fun _ _ _ hx=>int_of_cells hx) (show DataW.trod enc Tryz.prog W base sp bb fuel 26 [.slice a len cap]=_ from hf)
 refine ⟨lo,l,lc,e,hg,fun n hn=>?_⟩
 obtain ⟨i,hi,rfl⟩:=List.getElem_of_mem hn
 exact hq i hi
end Go.Proofs.YtcdpiefflnaghaaGreatDoor.En
