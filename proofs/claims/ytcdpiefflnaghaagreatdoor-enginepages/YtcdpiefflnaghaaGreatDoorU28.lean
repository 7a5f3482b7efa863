/-
  Package engine and what stands beneath it, part 28: contracts of functions, and what they rest on.
-/
import Derived.Test.YtcdpiefflnaghaaGreatDoorRows
import Derived.WalkKit
import Derived.ProofKit
import Derived.OpenShut
import Derived.WalkSpells
import Derived.WalkLawsBesides
import Derived.Maps.AppendAt
import Derived.Laws.AppendOwnNone
import Derived.Deep.Cut
import Derived.Deep.CutRange
import Derived.Deep.QuietTactic
import Derived.BigQuiet
import Derived.Deep.RegionLaw
import Derived.Deep.RegionHeld3
import Derived.Deep.RegionWith
import Derived.Deep.AppendLies
import Derived.Shelf.Lay
import Derived.Shelf.Spec.SlicesInsert
import Derived.Shelf.Spec.SlicesInsertGrow
import Derived.Shelf.SortM.Plain
import Derived.Shelf.SortM.SortNone
import Derived.Shelf.SlicesE.Clone
import Derived.Shelf.SlicesE.Delete
import Derived.Shelf.SlicesE.Compact
import Derived.Shelf.SlicesE.Reverse
import Derived.Shelf.SlicesE.IndexFunc
import Derived.Shelf.Spec.SlicesGrow
import Derived.Ground.SlgnProg
import Derived.Ground.Names8Prog
import Derived.Ground.SlgmProg
import Derived.Ground.SlgfProg
import Derived.Ground.Names2Prog
import Derived.Deep.Upon
import Derived.Shelf.SlSortCmp.QuietGrown
import Derived.Deep.LoopGhost
import Derived.Test.YtcdpiefflnaghaaGreatDoorU00
set_option linter.unusedSimpArgs false
set_option linter.unusedVariables false
set_option maxRecDepth 100000
namespace Go.Proofs.YtcdpiefflnaghaaGreatDoor.Lr
open Go.RowKit
theorem Hid.m {p:Prop}(h:p):Hid p:=h
theorem Tryz.infoStr:(Tryz.prog.info? 9).map (fun i=>(i.zero,i.size,i.bytes))=some (some (.string ⟨#[]⟩),1,16):=by kernel_rfl
theorem addr_add (b off j:Nat):(⟨b,off,none⟩:Addr).add j=⟨b,off+j,none⟩:=by unfold Addr.add;split <;> simp_all
theorem below_cells {W w1:World}(hb:Below W.heap.size W w1):∀ b o,b<W.heap.size→w1.cell? ⟨b,o,none⟩=W.cell? ⟨b,o,none⟩:=
 fun b o h=>hb.cell (p:=⟨b,o,none⟩) h
theorem below_alloc {w w1:World}{o:Obj}(hb:Below (w.alloc o).heap.size (w.alloc o) w1):Below w.heap.size w w1:=
 ((Below.refl _ _).alloc (Nat.le_refl _) _).trans (hb.mono (by simp))
theorem grown_below {w w':World}(h:Below w.heap.size w w')(row:Option Nat):w.grownBy w' row:=⟨h.os,h.tape,h.output,h.size,fun k hk _=>h.block k hk⟩
theorem grownBy_setCell (w:World)(p:Addr)(v:Value):w.grownBy (w.setCell p v) (some p.block):=
 ⟨rfl,rfl,rfl,by simp,fun k hk hne=>Below.heap_setCell w p v k (fun e=>hne (by rw [e]))⟩
theorem cell_of_heap {w:World}{g:Nat}{cur:Array Value}{t:TypeId}{m:Nat × Nat}(h:w.heap[g]? = some (.cells cur t m))(j:Nat):w.cell? ⟨g,j,none⟩=cur[j]?:=by
 unfold World.cell?
 simp [h]
theorem frozen_of_heap {w:World}{g:Nat}{cur:Array Value}{t:TypeId}(h:w.heap[g]? = some (.cells cur t (0,0)))(j:Nat):w.frozen? ⟨g,j,none⟩=false:=by
 unfold World.frozen?
 simp [h]
def TsAt (w:World)(B:Nat)(ao:Option Addr)(ks:List ByteArray):Prop:=
 ks=[]∨∃ b off,ao=some ⟨b,off,none⟩∧b<B∧∀ j (hj:j<ks.length),w.cell? ⟨b,off+j,none⟩=some (.string ks[j])
theorem TsAt.below {w w':World}{B B':Nat}{ao:Option Addr}{ks:List ByteArray}(h:TsAt w B ao ks)(hb:Below B w w')(hB:B≤B'):TsAt w' B' ao ks:=by
 rcases h with rfl | ⟨b,off,rfl,hlt,hc⟩
 ·exact .inl rfl
 ·exact .inr ⟨b,off,rfl,by omega,fun j hj=>(hb.cell (p:=⟨b,off+j,none⟩) hlt).trans (hc j hj)⟩
structure Tl (w:World)(ao:Option Addr)(ks:List ByteArray)(cap:Nat):Prop where
 hl:ks.length≤cap
 hc:cap≤9223372036854775807
 hn:ao=none→cap=0
 at_:TsAt w w.heap.size ao ks
theorem Tl.below {w w':World}{ao:Option Addr}{ks:List ByteArray}{cap:Nat}(h:Tl w ao ks cap)(hb:Below w.heap.size w w'):Tl w' ao ks cap:=
 ⟨h.hl,h.hc,h.hn,h.at_.below hb hb.size⟩
theorem Tl.alloc {w:World}{ao:Option Addr}{ks:List ByteArray}{cap:Nat}(h:Tl w ao ks cap)(o:Obj):Tl (w.alloc o) ao ks cap:=
 h.below ((Below.refl _ _).alloc (Nat.le_refl _) _)
theorem Tl.nil (w:World):Tl w none [] 0:=⟨by simp,by simp,fun _=>rfl,.inl rfl⟩
def OwnTs (w:World)(base:Nat)(v:Value)(ks:List ByteArray):Prop:=w.ownsRow base 9 1 v ks.length (ks.map Value.string)
theorem OwnTs.nil (w:World)(base:Nat):OwnTs w base (.slice none 0 0) []:=World.ownsRow_nil w base _ 1
theorem OwnTs.alloc {w:World}{base:Nat}{v:Value}{ks:List ByteArray}(h:OwnTs w base v ks)(o:Obj):OwnTs (w.alloc o) base v ks:=World.ownsRow.alloc h o
theorem OwnTs.grown {w w':World}{base:Nat}{v:Value}{ks:List ByteArray}{row:Option Nat}(h:OwnTs w base v ks)(hg:w.grownBy w' row)(hne:∀ k,v.ownBlock=some k→row≠some k):OwnTs w' base v ks:=by
 refine World.ownsRow.kept h hg ?_
 cases hv:v.ownBlock with
 | none=>exact .inl rfl
 | some k=>exact .inr (fun e=>hne k hv e.symm)
theorem OwnTs.below {w w':World}{base:Nat}{v:Value}{ks:List ByteArray}(h:OwnTs w base v ks)(hb:Below w.heap.size w w'):OwnTs w' base v ks:=
 h.grown (row:=none) (grown_below hb none) (by intro k _ e;cases e)
theorem OwnTs.lt {w:World}{base:Nat}{v:Value}{ks:List ByteArray}(h:OwnTs w base v ks):∀ k,v.ownBlock=some k→base≤k∧k<w.heap.size:=World.ownsRow.lt h
theorem OwnTs.base {w:World}{base base':Nat}{v:Value}{ks:List ByteArray}(h:OwnTs w base v ks)(hb:base'≤base):OwnTs w base' v ks:=by
 refine ⟨h.1,?_⟩
 rcases h.2 with h1 | ⟨g,cap,cur,h1,h2,h3⟩
 ·exact .inl h1
 ·exact .inr ⟨g,cap,cur,h1,Nat.le_trans hb h2,h3⟩
theorem OwnTs.mk' {w:World}{base g cap:Nat}{cur:Array Value}{ks:List ByteArray}(hb:base≤g)(hg:w.heap[g]? = some (.cells cur 9 (0,0)))(hsz:cur.size=cap)(hn:ks.length≤cap)(hm:cap≤maxLen)
  (hc:∀ j (hj:j<ks.length),w.cell? ⟨g,j,none⟩=some (.string ks[j])):OwnTs w base (.slice (some ⟨g,0,none⟩) ks.length cap) ks:=by
 refine ⟨by simp,.inr ⟨g,cap,cur,rfl,hb,hg,hn,hm,by omega,?_⟩⟩
 refine List.ext_getElem? fun j=>?_
 by_cases hj:j<ks.length
 ·have h1:=hc j hj
  rw [cell_of_heap hg] at h1
  rw [List.getElem?_take_of_lt (by omega),Array.getElem?_toList,h1]
  simp [hj]
 ·rw [List.getElem?_eq_none (by simp;omega),List.getElem?_eq_none (by simp;omega)]
theorem OwnTs.parts {w:World}{base:Nat}{v:Value}{ks:List ByteArray}(h:OwnTs w base v ks):(v=.slice none 0 0∧ks=[])∨∃ g cap cur,v=.slice (some ⟨g,0,none⟩) ks.length cap∧base≤g∧w.heap[g]? = some (.cells cur 9 (0,0))∧cur.size=cap∧ks.length≤cap∧cap≤9223372036854775807∧∀ j (hj:j<ks.length),w.cell? ⟨g,j,none⟩=some (.string ks[j]):=by
 rcases h.2 with ⟨e,hn⟩ | ⟨g,cap,cur,e,hb,hg,hn,hm,hs,ht⟩
 ·exact .inl ⟨e,List.eq_nil_of_length_eq_zero hn⟩
 ·refine .inr ⟨g,cap,cur,e,hb,hg,by omega,hn,hm,fun j hj=>?_⟩
  subst e
  have:=World.ownsRow.cells h (g:=g) rfl j (.string ks[j]) (by simp [hj])
  rwa [addr_add,Nat.zero_add] at this
theorem OwnTs.tl {w:World}{base:Nat}{v:Value}{ks:List ByteArray}(h:OwnTs w base v ks):∃ ao cap,v=.slice ao ks.length cap∧Tl w ao ks cap:=by
 rcases h.parts with ⟨rfl,rfl⟩ | ⟨g,cap,cur,rfl,hb,hg,hs,hn,hm,hc⟩
 ·exact ⟨none,0,rfl,Tl.nil w⟩
 ·exact ⟨_,cap,rfl,hn,hm,(by intro e;cases e),.inr ⟨g,0,rfl,(Array.getElem?_eq_some_iff.1 hg).1,fun j hj=>by rw [Nat.zero_add];exact hc j hj⟩⟩
structure Grew (w w':World)(v v':Value):Prop where
 grown:w.grownBy w' v.ownBlock
 lies:∀ k,v'.ownBlock=some k→v.ownBlock=some k∨w.heap.size≤k
theorem Grew.refl (w:World)(v:Value):Grew w w v v:=⟨World.grownBy.refl w _,fun k h=>.inl h⟩
theorem Grew.alloc {w w':World}{v v':Value}{o:Obj}(h:Grew (w.alloc o) w' v v'):Grew w w' v v':=by
 have hs:(w.alloc o).heap.size=w.heap.size+1:=by simp
 refine ⟨(World.grownBy_alloc w o v.ownBlock).trans h.grown,fun k hk=>?_⟩
 rcases h.lies k hk with g | g
 ·exact .inl g
 ·exact .inr (by omega)
theorem str_one (ks:List ByteArray):∀ u∈ks.map Value.string,u.oneCell'=true:=by
 intro u hu
 obtain ⟨c,_,rfl⟩:=List.mem_map.1 hu
 rfl
theorem str_news {w:World}{b off:Nat}{ks:List ByteArray}(hc:∀ j (hj:j<ks.length),w.cell? ⟨b,off+j,none⟩=some (.string ks[j])):
  ∀ j u,(ks.map Value.string)[j]? = some u→w.cell? ((⟨b,off,none⟩:Addr).add j)=some u:=by
 intro j u hu
 have hj:j<ks.length:=by simpa using (List.getElem?_eq_some_iff.1 hu).1
 have:u=.string ks[j]:=by simpa [hj] using hu.symm
 subst this
 rw [addr_add]
 exact hc j hj
theorem run_app_row (w:World)(ty:TypeId)(base:Nat)(v:Value)(l:List ByteArray)(hown:OwnTs w base v l)(ao:Option Addr)(c:Nat)(src:List ByteArray)(B:Nat)(hnil:ao=none→c=0)(hsrc:TsAt w B ao src)
  (hlen:l.length+src.length≤1000000) (hbase:base≤w.heap.size):
  ∃ v' w',(Builtin.append_ #[34,34] ty #[v,.slice ao src.length c]).run Tryz.prog w=.ok v' w'∧OwnTs w' base v' (l++src)∧Grew w w' v v':=by
 obtain ⟨i0,hi,hz0,hz1,hz2⟩:=info_parts Tryz.infoStr
 cases ao with
 | none=>
  have hs:src=[]:=by
   rcases hsrc with h | ⟨b,off,h,_⟩
   ·exact h
   ·cases h
  subst hs
  have hc:=hnil rfl
  subst hc
  have hr:=run_append_owned_none (P:=Tryz.prog) (w:=w) base 34 ty 9 i0 1 Tryz.underlying34 hi v l.length (l.map Value.string) hown
  exact ⟨v,w,hr,by simpa using hown,Grew.refl w v⟩
 | some a=>
  have hm:maxLen=9223372036854775807:=rfl
  have hnews:∀ j u,(src.map Value.string)[j]? = some u→w.cell? (a.add j)=some u:=by
   rcases hsrc with rfl | ⟨b,off,h,_,hc⟩
   ·intro j u hu;simp at hu
   ·cases h
    exact str_news hc
  obtain ⟨v',w',hr,ho,hg,_,hat⟩:=run_append_own_at (P:=Tryz.prog) w base 34 ty 9 i0 (.string ⟨#[]⟩) 1 16 Tryz.underlying34 hi hz0 hz1 hz2 rfl (by decide) v l.length (l.map Value.string) hown a src.length c (src.map Value.string) (by simp) hnews (str_one src) (by omega) (by omega) hbase
  refine ⟨v',w',hr,?_,hg,fun k hk=>?_⟩
  ·have:(l++src).length=l.length+src.length:=by simp
   unfold OwnTs
   rw [this,List.map_append]
   exact ho
  ·rcases hat with h | h
   ·exact .inl (h ▸ hk)
   ·rw [h] at hk;cases hk;exact .inr (Nat.le_refl _)
section
variable {w:World} {ops:Array Oper} {rest:List Oper} {o:Oper} {a:Act} {Q:Exit→Act→World→Prop} {K:Act→World→Prop} {E:Prop}
theorem app_row (hgd:o.guard=none)(s x:Operand)(ho:o.op=.call { callee:=.builtin .append,args:=#[s,x],argTypes:=#[34,34] })
  (base:Nat) (v:Value) (l:List ByteArray) (hown:OwnTs w base v l) (hs:a.eval s=v) (ao:Option Addr) (c:Nat) (src:List ByteArray) (m:Nat) (hm:m=src.length) (hx:a.eval x=.slice ao m c) (B:Nat) (hnil:ao=none→c=0) (hsrc:TsAt w B ao src)
  (hlen:l.length+src.length≤1000000) (hbase:base≤w.heap.size)
  (h:∀ v' w',OwnTs w' base v' (l++src)→Grew w w' v v'→wpList Tryz.prog ops Q rest (a.put o.dst v') w'):wpList Tryz.prog ops Q (o::rest) a w:=by
 subst hm
 refine wpList_plain hgd fun K hK=>?_
 obtain ⟨v',w',hr,h2,h3⟩:=run_app_row w o.type base v l hown ao c src B hnil hsrc hlen hbase
 unfold Oper.wp execOp
 simp only [ho,resolve,invoke,builtin,Sem.run_bind,Sem.run_pure,Result.andThen_ok,List.map_toArray,List.map_cons,List.map_nil,hs,hx,hr]
 exact hK _ _ (h v' w' h2 h3)
end
end Go.Proofs.YtcdpiefflnaghaaGreatDoor.Lr
namespace Go.Proofs
open Go.Shelf Go.RowKit Go.Lib Go.Sort
shelf_lay_g SlLaysE0.n41 Slgn 41 at Tryz 271 as Tryz.layClone
shelf_lay_g SlLaysE.n45 Slgn 45 at Tryz 260 as Tryz.layDelete
shelf_lay_g SlLaysE.n43 Slgn 43 at Tryz 294 as Tryz.layCompact
shelf_lay_g SlLaysE.n35 Slgn 35 at Tryz 295 as Tryz.layReverse
shelf_lay_g SlLaysH.n8 Slgf 8 at Tryz 282 as Tryz.layContains
shelf_lay_g SlLaysM.n6 Slgm 6 at Tryz 293 as Tryz.laySort
shelf_lay_g Lays8.n4 Nm8 4 at Tryz 291 as Tryz.layGrow
shelf_lay Lays2.n22 Nm2 22 at Tryz as Tryz.layInsert
end Go.Proofs
namespace Go.Proofs.YtcdpiefflnaghaaGreatDoor.Lr
open Go.RowKit Go.Shelf Go.Lib Go.Sort
instance:Inhabited ByteArray:=⟨⟨#[]⟩⟩
theorem turned_row {α:Type}[Inhabited α](enc:α→Value){w:World}{g n:Nat}{os:Array Obj}{cur:Array Value}(d:Array α)(hg:w.heap[g]? = some (.cells cur 9 (0,0)))(hd:d.size≤cur.size):
  ∃ cur',(grow (putRow enc (Sort.ahead w n) g 0 d) os).heap[g]? = some (.cells cur' 9 (0,0))∧cur'.size=cur.size∧∀ j,j<d.size→cur'[j]? = some (enc d[j]!):=by
 have hgl:g<w.heap.size:=(Array.getElem?_eq_some_iff.1 hg).1
 refine ⟨putCells enc 0 d cur,?_,by simp [putCells],fun j hj=>?_⟩
 ·rw [heap_grow_old _ _ (by simp [putRow,mapBlock,Sort.ahead];exact hgl)]
  simp [putRow,mapBlock,Sort.ahead,Array.getElem?_modify,hg,onCells]
 ·simp [putCells,hj,show j<cur.size by omega]
theorem turned_grown {α:Type}[Inhabited α](enc:α→Value){w:World}{g n:Nat}{os:Array Obj}(d:Array α):w.grownBy (grow (putRow enc (Sort.ahead w n) g 0 d) os) (some g):=by
 refine ⟨rfl,rfl,rfl,by simp [grow,putRow,mapBlock,Sort.ahead],fun k hk hne=>?_⟩
 rw [heap_grow_old _ _ (by simp [putRow,mapBlock,Sort.ahead];exact hk)]
 have:g≠k:=fun e=>hne (by rw [e])
 simp [putRow,mapBlock,Sort.ahead,Array.getElem?_modify,this]
theorem grow_none (w:World):grow w #[]=w:=by simp [grow]
theorem own_holds {w:World}{g cap:Nat}{cur:Array Value}{ks:List ByteArray}(hg:w.heap[g]? = some (.cells cur 9 (0,0)))(hc:∀ j (hj:j<ks.length),w.cell? ⟨g,j,none⟩=some (.string ks[j])):Holds Value.string w g 0 ks.toArray:=by
 intro j hj
 have hj2:j<ks.length:=by simpa using hj
 refine ⟨?_,frozen_of_heap hg _⟩
 rw [Nat.zero_add,hc j hj2]
 simp [hj2]
theorem clone_any (w:World)(ao:Option Addr)(ks:List ByteArray)(cap:Nat)(h:Tl w ao ks cap)(hl:ks.length≤1000):
  Calls Tryz.prog 271 #[.slice ao ks.length cap] w fun e w'=>∃ v',e=.returned v'∧OwnTs w' w.heap.size v' ks∧Below w.heap.size w w':=by
 have hsl:=h.hn
 have HT:=Hid.m h.at_
 cases ao with
 | none=>
  have hc:=hsl rfl
  have h2:=h.hl
  have:ks=[]:=List.eq_nil_of_length_eq_zero (by omega)
  subst this
  refine (AnyE.slices_Clone_nil Tryz.layClone ([]:List ByteArray).length cap w).mono ?_
  rintro e w' ⟨rfl,rfl⟩
  exact ⟨_,rfl,OwnTs.nil _ _,Below.refl _ _⟩
 | some a=>
  have hq:∀ (w:World),(binOp .eql 34 (.slice (some a) ks.length cap) (.slice none 0 0)).run Tryz.prog w=.ok (.bool false) w:=fun w=>Lib.run_eql_slice_nil w _ _ (some a) _ _ 0 0 Tryz.underlying34
  have hm:maxLen=9223372036854775807:=rfl
  have HO:Hid (OwnTs (w.alloc (.cells #[] 9)) w.heap.size (.slice (some ⟨w.heap.size,0,none⟩) 0 0) []):=World.ownsRow_made w #[] 0 (Nat.le_refl _) (Nat.zero_le _) (by simp)
  clear h hsl
  go_enter Tryz.func271,Tryz.ntmps271
  go_wp2_with (at_builtin;refine app_row rfl _ _ rfl w.heap.size _ [] HO.out rfl (some a) cap ks ks.length rfl rfl (w.heap.size+1) (by intro e;cases e) (HT.out.below ((Below.refl _ _).alloc (Nat.le_refl _) _) (by omega)) (by simp;omega) (by simp) ?_;intro v' w1 hO hG)
  go_ret
  refine ⟨v',rfl,hO,?_⟩
  exact ((Below.refl _ w).alloc (Nat.le_refl _) _).grown hG.grown (by simp) (by intro k hk;simp [Value.ownBlock] at hk;omega)
theorem Tryz.zeroStr:∀ w,(zeroValue 9).run Tryz.prog w=.ok (Value.string default) w:=fun w=>by kernel_rfl
theorem delete_any (w:World)(base:Nat)(v:Value)(ks:List ByteArray)(h:OwnTs w base v ks)(i:Nat)(hi:i<ks.length)(i2:Int)(hi2:i2=(i:Int)+1):
  Calls Tryz.prog 260 #[v,.int .i64 i,.int .i64 i2] w fun e w'=>∃ v',e=.returned v'∧OwnTs w' base v' (ks.eraseIdx i)∧w.grownBy w' v.ownBlock∧v'.ownBlock=v.ownBlock:=by
 subst hi2
 rcases h.parts with ⟨rfl,rfl⟩ | ⟨g,cap,cur,rfl,hb,hg,hs,hn,hm,hc⟩
 ·simp at hi
 ·obtain ⟨i0,hi0,hz0,hz1,hz2⟩:=info_parts Tryz.infoStr
  have hcon:=AnyE.slices_Delete Tryz.layDelete Value.string (fun _=>rfl) default Tryz.zeroStr i0 hi0 hz1 g 0 cap i (i+1) ks.toArray w (own_holds (cap:=cap) hg hc) (by simpa using hn) hm (by omega) (by simp;omega)
  have e1:((i+1:Nat):Int)=(i:Int)+1:=by omega
  have e2:ks.toArray.size=ks.length:=by simp
  rw [e1,e2] at hcon
  refine hcon.mono ?_
  rintro e w' ⟨rfl,q,rfl⟩
  have hL:ks.length - (i+1 - i)=(ks.eraseIdx i).length:=by rw [List.length_eraseIdx_of_lt hi];omega
  obtain ⟨d,hd⟩:∃ d,d=(ks.toArray.toList.take i++ks.toArray.toList.drop (i+1)++List.replicate (i+1 - i) (default:ByteArray)).toArray:=⟨_,rfl⟩
  have hds:d.size=ks.length:=by rw [hd];simp;omega
  rw [← hd,hL]
  obtain ⟨cur',hg',hs',hc'⟩:=turned_row (n:=q) (os:=#[]) Value.string d hg (by omega)
  rw [grow_none] at hg'
  refine ⟨_,rfl,OwnTs.mk' hb hg' (by omega) (by rw [← hL];omega) hm (fun j hj=>?_),?_,rfl⟩
  ·rw [cell_of_heap hg',hc' j (by rw [← hL] at hj;omega)]
   congr 2
   have hj2:j<d.size:=by rw [← hL] at hj;omega
   rw [getElem!_pos d j hj2]
   subst hd
   simp only [List.getElem_toArray]
   rw [List.getElem_append_left (by rw [← hL] at hj;simp;omega)]
   congr 1
   exact (List.eraseIdx_eq_take_drop_succ ks i).symm
  ·have:=turned_grown (w:=w) (g:=g) (n:=q) (os:=#[]) Value.string d
   rw [grow_none] at this
   exact this
def srt (ks:List ByteArray):List (List UInt8):=(bs ks).mergeSort fun x y=>decide (x≤y)
theorem srt_len (ks:List ByteArray):(srt ks).length=ks.length:=by unfold srt bs;simp
theorem encStr_bytes (k:ByteArray):encStr k.data.toList=Value.string k:=by cases k;simp [encStr]
theorem eqlStr:EqlAt Tryz.prog 9 encStr (fun x y=>decide (x=y)):=⟨fun x y w=>by
 have h:=(EqlAt.string Tryz.prog 9).1 ⟨x.toArray⟩ ⟨y.toArray⟩ w
 refine h.trans ?_
 congr 2
 rw [Bool.eq_iff_iff]
 simp [ByteArray.toList_mk],fun op a b x y w=>(GuardAt.string Tryz.prog 9) op a b ⟨x.toArray⟩ ⟨y.toArray⟩ w⟩
theorem neqStr:NeqAt Tryz.prog 9 encStr (fun x y=>decide (x=y)):=⟨fun x y w=>by
 have h:=(NeqAt.string Tryz.prog 9).1 ⟨x.toArray⟩ ⟨y.toArray⟩ w
 refine h.trans ?_
 congr 2
 rw [Bool.eq_iff_iff]
 simp [ByteArray.toList_mk],fun op a b x y w=>(GuardAt.string Tryz.prog 9) op a b ⟨x.toArray⟩ ⟨y.toArray⟩ w⟩
end Go.Proofs.YtcdpiefflnaghaaGreatDoor.Lr
namespace Go.Proofs.YtcdpiefflnaghaaGreatDoor.Lr
open Go.RowKit Go.Shelf Go.Lib Go.Sort
theorem Tryz.zeroEnc:∀ w,(zeroValue 9).run Tryz.prog w=.ok (encStr []) w:=fun w=>by kernel_rfl
theorem own_holdsE {w:World}{g:Nat}{cur:Array Value}{ks:List ByteArray}(hg:w.heap[g]? = some (.cells cur 9 (0,0)))(hc:∀ j (hj:j<ks.length),w.cell? ⟨g,j,none⟩=some (.string ks[j])):Holds encStr w g 0 (bs ks).toArray:=by
 intro j hj
 have hj2:j<ks.length:=by simpa [bs] using hj
 refine ⟨?_,frozen_of_heap hg _⟩
 rw [Nat.zero_add,hc j hj2]
 have:(bs ks).toArray[j]! = ks[j].data.toList:=by simp [bs,hj2]
 rw [this,encStr_bytes]
theorem hasTwice_any (w:World)(base:Nat)(v:Value)(ks:List ByteArray)(h:OwnTs w base v ks)(hl:ks.length≤1000):
  Calls Tryz.prog 283 #[v] w fun e w'=>e=.returned (.bool (!decide ks.Nodup))∧w.grownBy w' v.ownBlock:=by
 rcases h.parts with ⟨rfl,rfl⟩ | ⟨g,cap,cur,rfl,hb,hg,hs,hn,hm,hc⟩
 ·have hcomp:∀ w,Calls Tryz.prog 294 #[.slice none 0 0] w fun e w'=>e=.returned (.slice none 0 0)∧w'=w:=by
   intro w
   go_enter Tryz.func294,Tryz.ntmps294
   go_wp2
   go_ret
   exact ⟨rfl,rfl⟩
  clear h
  go_enter Tryz.func283,Tryz.ntmps283
  go_wp2_with (first
   | (go_at_call 293;refine (AnyM.slices_Sort_string_none Tryz.laySort none 0 _).mono ?_;rintro e w1 ⟨rfl,rfl⟩)
   | (go_at_call 294;refine (hcomp _).mono ?_;rintro e w1 ⟨rfl,rfl⟩))
  go_ret
  exact ⟨by simp,World.grownBy.refl _ _⟩
 ·have hgl:g<w.heap.size:=(Array.getElem?_eq_some_iff.1 hg).1
  have hbl:(bs ks).length=ks.length:=by simp [bs]
  have hsort:=AnyM.slices_Sort_string Tryz.laySort g 0 cap (bs ks) w (own_holdsE hg hc) hgl (by omega)
  rw [hbl] at hsort
  have hcomp:∀ n os,Calls Tryz.prog 294 #[.slice (some ⟨g,0,none⟩) ks.length cap] (grow (putRow encStr (Sort.ahead w n) g 0 (srt ks).toArray) os) fun e w'=>e=.returned (.slice (some ⟨g,0,none⟩) (compactUpTo (srt ks).toArray (srt ks).length).length cap)∧Hid (w.grownBy w' (some g)):=by
   intro n os
   obtain ⟨cur',hg',hs',hc'⟩:=turned_row (n:=n) (os:=os) encStr (srt ks).toArray hg (by simp [srt_len];omega)
   have hgr:=turned_grown (w:=w) (g:=g) (n:=n) (os:=os) encStr (srt ks).toArray
   obtain ⟨W,hW⟩:∃ W,W=grow (putRow encStr (Sort.ahead w n) g 0 (srt ks).toArray) os:=⟨_,rfl⟩
   rw [← hW] at hg' hgr ⊢
   have hH:Holds encStr W g 0 (srt ks).toArray:=fun j hj=>⟨by rw [Nat.zero_add,cell_of_heap hg'];exact hc' j hj,frozen_of_heap hg' _⟩
   have hcon:=AnyE.slices_Compact Tryz.layCompact encStr (fun _=>rfl) eqlStr neqStr [] Tryz.zeroEnc g 0 cap (srt ks).toArray W hH (by simp [srt_len];omega) (by simp [srt_len];omega)
   have e2:(srt ks).toArray.size=(srt ks).length:=by simp
   rw [e2,srt_len] at hcon
   rw [srt_len]
   refine hcon.mono ?_
   rintro e w' ⟨rfl,q,rfl⟩
   refine ⟨rfl,?_⟩
   have h3:=turned_grown (w:=W) (g:=g) (n:=q) (os:=#[]) encStr (compactUpTo (srt ks).toArray ks.length++List.replicate (ks.length - (compactUpTo (srt ks).toArray ks.length).length) []).toArray
   rw [grow_none] at h3
   exact hgr.trans h3
  have HT:Hid (decide ((compactUpTo (srt ks).toArray (srt ks).length).length<ks.length)=!decide ks.Nodup):=by
   have:=twice_eq ks
   rw [show ((bs ks).mergeSort fun x y=>decide (x≤y))=srt ks from rfl] at this
   rw [srt_len] at this ⊢
   exact this
  obtain ⟨m,hm2⟩:∃ m,m=(compactUpTo (srt ks).toArray (srt ks).length).length:=⟨_,rfl⟩
  rw [← hm2] at HT
  simp only [← hm2] at hcomp
  have hml:m≤ks.length:=by
   rw [hm2,srt_len]
   unfold compactUpTo
   have:=List.length_filter_le (keeps (srt ks).toArray) (List.range ks.length)
   simpa using this
  clear hm2 h hg hs hc
  unfold srt at hcomp
  go_enter Tryz.func283,Tryz.ntmps283
  go_wp2_with (first
   | (go_at_call 293;refine hsort.mono ?_;rintro e w1 ⟨rfl,n,os,rfl⟩)
   | (go_at_call 294;refine (hcomp _ _).mono ?_;rintro e w2 ⟨rfl,HG⟩))
  go_ret
  refine ⟨?_,HG.out⟩
  rw [← HT.out]
  congr 2
theorem isNoKey_any (k:ByteArray)(w:World):Calls Tryz.prog 270 #[.string k] w fun e w'=>e=.returned (.bool (!kOk k))∧w'=w:=by
 by_cases h1:k.size<1
 ·have e:kOk k=false:=by simp [kOk];omega
  rw [e]
  have h2:decide ((k.size:Int)<1)=true:=by simp;omega
  go_enter Tryz.func270,Tryz.ntmps270
  go_wp2
  all_goals
   go_ret
   exact ⟨by simp;try omega,rfl⟩
 ·have h2:decide ((k.size:Int)<1)=false:=by simp;omega
  by_cases h3:32<k.size
  ·have e:kOk k=false:=by simp [kOk];omega
   rw [e]
   go_enter Tryz.func270,Tryz.ntmps270
   go_wp2
   go_ret
   exact ⟨by simp;try omega,rfl⟩
  ·have e:kOk k=true:=by simp [kOk];omega
   rw [e]
   go_enter Tryz.func270,Tryz.ntmps270
   go_wp2
   go_ret
   exact ⟨by simp;try omega,rfl⟩
theorem contains_any (w:World)(ao:Option Addr)(ks:List ByteArray)(cap:Nat)(h:Tl w ao ks cap):
  Calls Tryz.prog 282 #[.slice ao ks.length cap,.func (.func 270) #[] #[]] w fun e w'=>e=.returned (.bool (!ks.all kOk))∧∃ q,w'=w.drewN q:=by
 rcases h.at_ with rfl | ⟨b,off,rfl,hb,hc⟩
 ·refine (AnyE.slices_ContainsFunc_empty Tryz.layContains ao cap _ w).mono ?_
  rintro e w' ⟨rfl,rfl⟩
  exact ⟨by simp,0,rfl⟩
 ·have eg:∀ args w,(callFunc 270 args).run Tryz.prog w=.ok (.enter 270 args) w:=enters_of Tryz.func270 (by kernel_rfl) rfl
  refine (AnyE.slices_ContainsFunc Tryz.layContains Value.string (fun k=>!kOk k) 270 #[] eg b off ks.length cap ks w ?_ (Nat.le_refl _) (Nat.le_trans h.hl h.hc) ?_).mono ?_
  ·intro W x _
   refine (isNoKey_any x W).mono ?_
   rintro e w' ⟨rfl,rfl⟩
   exact ⟨rfl,0,rfl⟩
  ·intro j hj
   rw [hc j hj,getElem!_pos ks j hj]
  ·rintro e w' ⟨rfl,q,rfl⟩
   refine ⟨?_,q,rfl⟩
   rw [List.take_length,List.all_eq_not_any_not,Bool.not_not]
end Go.Proofs.YtcdpiefflnaghaaGreatDoor.Lr
namespace Go.Proofs.YtcdpiefflnaghaaGreatDoor.Lr
open Go.RowKit Go.Shelf Go.Lib Go.Sort
theorem heap_set {w:World}{g o:Nat}{v:Value}{cur:Array Value}{t:TypeId}{m:Nat × Nat}(h:w.heap[g]? = some (.cells cur t m)):(w.setCell ⟨g,o,none⟩ v).heap[g]? = some (.cells (cur.setIfInBounds o v) t m):=by
 unfold World.setCell
 simp [Array.getElem?_modify,h]
theorem heap_sets {g:Nat}{t:TypeId}{m:Nat × Nat}:∀ (vs:List Value) (o:Nat) {w:World} {cur:Array Value},w.heap[g]? = some (.cells cur t m)→∃ cur',(w.setCells g o vs).heap[g]? = some (.cells cur' t m)∧cur'.size=cur.size
 | [],o,w,cur,h=>⟨cur,h,rfl⟩
 | v::vs,o,w,cur,h=>by
  obtain ⟨cur',h1,h2⟩:=heap_sets vs (o+1) (heap_set (o:=o) (v:=v) h)
  exact ⟨cur',h1,by rw [h2];simp⟩
theorem tape_sets (g:Nat):∀ (vs:List Value) (o:Nat) (w:World),(w.setCells g o vs).tape=w.tape
 | [],o,w=>rfl
 | v::vs,o,w=>(tape_sets g vs (o+1) _).trans rfl
theorem size_sets (g:Nat):∀ (vs:List Value) (o:Nat) (w:World),(w.setCells g o vs).heap.size=w.heap.size
 | [],o,w=>rfl
 | v::vs,o,w=>(size_sets g vs (o+1) _).trans (by simp)
theorem grown_sets (w:World)(g o:Nat)(vs:List Value):w.grownBy (w.setCells g o vs) (some g):=
 ⟨World.os_setCells _ _ _ _,tape_sets g vs _ _,World.output_setCells _ _ _ _,by rw [size_sets];exact Nat.le_refl _,fun k hk hne=>World.heap_setCells_other w g _ vs hk (fun e=>hne (by rw [e]))⟩
theorem grown_drew (w:World)(row:Option Nat):w.grownBy w.drew row:=⟨rfl,rfl,rfl,Nat.le_refl _,fun _ _ _=>rfl⟩
theorem sets_front {w:World}{g:Nat}{cur:Array Value}{t:TypeId}(hg:w.heap[g]? = some (.cells cur t (0,0)))(ks:List ByteArray)(k:ByteArray)(hsz:ks.length+1≤cur.size):
  ∃ cur',((w.setCells g 1 (ks.map Value.string)).setCells g 0 [.string k]).heap[g]? = some (.cells cur' t (0,0))∧cur'.size=cur.size∧∀ j (hj:j<(k::ks).length),((w.setCells g 1 (ks.map Value.string)).setCells g 0 [.string k]).cell? ⟨g,j,none⟩=some (.string (k::ks)[j]):=by
 obtain ⟨c1,h1,s1⟩:=heap_sets (ks.map Value.string) 1 hg
 obtain ⟨c2,h2,s2⟩:=heap_sets [Value.string k] 0 h1
 refine ⟨c2,h2,by omega,fun j hj=>?_⟩
 cases j with
 | zero=>
  have:=World.cell?_setCells_in g [Value.string k] 0 (w.setCells g 1 (ks.map Value.string)) (fun t ht=>by rw [cell_of_heap h1,Array.getElem?_eq_getElem (by simp at ht;omega)];rfl) 0 (by simp)
  simpa using this
 | succ j=>
  rw [World.cell?_setCells_out g [Value.string k] _ _ ⟨g,j+1,none⟩ (fun _ _=>.inr (by simp))]
  have hj2:j<ks.length:=by simpa using hj
  have:=World.cell?_setCells_in g (ks.map Value.string) 1 w (fun t ht=>by rw [cell_of_heap hg,Array.getElem?_eq_getElem (by simp at ht;omega)];rfl) j (by simpa using hj2)
  rw [Nat.add_comm 1 j] at this
  rw [this]
  simp
theorem sets_front2 {w:World}{g:Nat}{cur:Array Value}{t:TypeId}(hg:w.heap[g]? = some (.cells cur t (0,0)))(ks:List ByteArray)(k:ByteArray)(hsz:ks.length+1≤cur.size):
  ∃ cur',((w.setCells g 0 [.string k]).drew.setCells g 1 (ks.map Value.string)).heap[g]? = some (.cells cur' t (0,0))∧cur'.size=cur.size∧∀ j (hj:j<(k::ks).length),((w.setCells g 0 [.string k]).drew.setCells g 1 (ks.map Value.string)).cell? ⟨g,j,none⟩=some (.string (k::ks)[j]):=by
 obtain ⟨c1,h1,s1⟩:=heap_sets [Value.string k] 0 hg
 have h1d:(w.setCells g 0 [.string k]).drew.heap[g]? = some (.cells c1 t (0,0)):=h1
 obtain ⟨c2,h2,s2⟩:=heap_sets (ks.map Value.string) 1 h1d
 refine ⟨c2,h2,by omega,fun j hj=>?_⟩
 cases j with
 | zero=>
  rw [World.cell?_setCells_out g (ks.map Value.string) _ _ ⟨g,0,none⟩ (fun _ _=>.inl (by simp))]
  have:=World.cell?_setCells_in g [Value.string k] 0 w (fun t ht=>by rw [cell_of_heap hg,Array.getElem?_eq_getElem (by simp at ht;omega)];rfl) 0 (by simp)
  simpa using this
 | succ j=>
  have hj2:j<ks.length:=by simpa using hj
  have:=World.cell?_setCells_in g (ks.map Value.string) 1 (w.setCells g 0 [.string k]).drew (fun t ht=>by rw [cell_of_heap h1d,Array.getElem?_eq_getElem (by simp at ht;omega)];rfl) j (by simpa using hj2)
  rw [Nat.add_comm 1 j] at this
  rw [this]
  simp
theorem zeros_size (n:Nat):(Builtin.zeroCells (Value.string ⟨#[]⟩).cells n).size=n:=by
 unfold Builtin.zeroCells
 simp [Value.cells]
theorem alloc_heap (w:World)(o:Obj):(w.alloc o).heap[w.heap.size]? = some o:=heap_alloc_new w o
set_option maxHeartbeats 1000000 in
theorem insert_any (w:World)(base:Nat)(v:Value)(ks:List ByteArray)(h:OwnTs w base v ks)(k:ByteArray)(vb:Nat)(hvb:w.heap[vb]? = some (.cells #[.string k] 9 (0,0)))(hne:v.ownBlock≠some vb)(hbase:base≤w.heap.size)(hl:ks.length≤1000):
  Calls Tryz.prog 238 #[v,.int .i64 0,.slice (some ⟨vb,0,none⟩) 1 1] w fun e w'=>∃ v',e=.returned v'∧OwnTs w' base v' (k::ks)∧Grew w w' v v':=by
 have hvs:∀ j u,[Value.string k][j]? = some u→w.cell? ⟨vb,0+j,none⟩=some u:=by
  intro j u hu
  rw [cell_of_heap hvb,Nat.zero_add]
  simpa using hu
 have h1v:∀ u∈[Value.string k],u.oneCell'=true:=by intro u hu;simp at hu;subst hu;rfl
 have hmx:maxLen=9223372036854775807:=rfl
 have one:∀ c,∃ v',Ending.returned (.slice (some ⟨w.heap.size,0,none⟩) (0+1) (grownCap w (0+1) c 9))=.returned v'∧OwnTs (w.drew.alloc (.cells (([]++[Value.string k]).toArray++Builtin.zeroCells (Value.string ⟨#[]⟩).cells (grownCap w (0+1) c 9 - (0+1))) 9)) base v' [k]∧∀ row,w.grownBy (w.drew.alloc (.cells (([]++[Value.string k]).toArray++Builtin.zeroCells (Value.string ⟨#[]⟩).cells (grownCap w (0+1) c 9 - (0+1))) 9)) row∧∀ g,v'.ownBlock=some g→w.heap.size≤g:=by
  intro c
  have hge:=grownCap_ge w (0+1) c 9
  refine ⟨_,rfl,?_,fun row=>⟨(grown_drew w row).trans (World.grownBy_alloc _ _ _),fun g hg=>by simp [Value.ownBlock] at hg;omega⟩⟩
  obtain ⟨o,ho⟩:∃ o:Array Value,o=([]++[Value.string k]).toArray++Builtin.zeroCells (Value.string ⟨#[]⟩).cells (grownCap w (0+1) c 9 - (0+1)):=⟨_,rfl⟩
  rw [← ho]
  have hh:(w.drew.alloc (.cells o 9)).heap[w.heap.size]? = some (.cells o 9 (0,0)):=alloc_heap w.drew _
  refine OwnTs.mk' (ks:=[k]) (cap:=grownCap w (0+1) c 9) hbase hh (by rw [ho,Array.size_append,zeros_size];show 1+_=_;omega) hge (grownCap_le_maxLen w _ _ _ (by omega)) (fun j hj=>?_)
  have:j=0:=by simp at hj;omega
  subst this
  rw [cell_of_heap hh,ho,Array.getElem?_append_left (by simp)]
  rfl
 rcases h.parts with ⟨rfl,rfl⟩ | ⟨g,cap,cur,rfl,hb,hg,hs,hn,hm,hc⟩
 ·refine (Any2.slices_Insert_string_end_grow Tryz.layInsert none 0 0 vb 0 1 1 [] [.string k] w (by omega) (by omega) (by omega) (by omega) rfl rfl (fun _=>rfl) (fun a e=>by cases e) hvs h1v).mono ?_
  rintro e w' ⟨rfl,rfl⟩
  obtain ⟨v',e1,e2,e3⟩:=one 0
  exact ⟨v',e1,e2,(e3 _).1,fun g hg=>.inr ((e3 none).2 g hg)⟩
 ·have hnb:g≠vb:=fun e=>hne (by rw [e];rfl)
  have hsome:∀ j,j<cap→(w.cell? ⟨g,0+j,none⟩).isSome=true:=fun j hj=>by rw [cell_of_heap hg,Array.getElem?_eq_getElem (by omega)];rfl
  have hfz:∀ j,w.frozen? ⟨g,0+j,none⟩=false:=fun j=>frozen_of_heap hg _
  have hcs:∀ j u,(ks.map Value.string)[j]? = some u→w.cell? ⟨g,0+j,none⟩=some u:=by
   intro j u hu
   have:=str_news (off:=0) (fun j hj=>by rw [Nat.zero_add];exact hc j hj) j u hu
   rwa [addr_add] at this
  by_cases h0:ks=[]
  ·subst h0
   by_cases hr:0+1≤cap
   ·refine (Any2.slices_Insert_string_end_room Tryz.layInsert g 0 0 cap vb 0 1 1 [.string k] w (by omega) hr hm rfl (fun j hj=>hsome j (by omega)) (fun j hj=>hfz j) hvs h1v).mono ?_
    rintro e w' ⟨rfl,rfl⟩
    have hf:=sets_front hg [] k (by simp;omega)
    obtain ⟨c',e1,e2,e3⟩:=hf
    exact ⟨_,rfl,OwnTs.mk' (ks:=[k]) hb e1 (by omega) hr hm e3,grown_sets _ _ _ _,fun x hx=>.inl hx⟩
   ·refine (Any2.slices_Insert_string_end_grow Tryz.layInsert (some ⟨g,0,none⟩) 0 cap vb 0 1 1 [] [.string k] w (by omega) (by omega) (by omega) (by omega) rfl rfl (fun _=>rfl) (fun a e=>by intro j u hu;simp at hu) hvs h1v).mono ?_
    rintro e w' ⟨rfl,rfl⟩
    obtain ⟨v',e1,e2,e3⟩:=one cap
    exact ⟨v',e1,e2,(e3 _).1,fun g hg=>.inr ((e3 none).2 g hg)⟩
  ·have hpos:0<ks.length:=List.length_pos_iff.2 h0
   by_cases hr:ks.length+1≤cap
   ·have hcon:=Any2.slices_Insert_string_shift Tryz.layInsert g 0 ks.length cap 0 vb 0 1 1 (ks.map Value.string) [.string k] w hpos (by omega) hr hm (Ne.symm hnb) (by simp) rfl hcs (fun j hj=>hsome j (by omega)) (fun j hj=>hfz j) hvs (str_one ks) h1v 9 9 1 cur.size (by simp [World.shape?,hvb]) (by simp [World.shape?,hg]) (by omega) (frozen_of_heap hvb _) (frozen_of_heap hvb _)
    refine hcon.mono ?_
    rintro e w' ⟨rfl,rfl⟩
    have hgd:w.drew.heap[g]? = some (.cells cur 9 (0,0)):=hg
    obtain ⟨c',e1,e2,e3⟩:=sets_front hgd ks k (by omega)
    have hl2:ks.length+1=(k::ks).length:=by simp
    simp only [List.drop_zero,Nat.zero_add,hl2]
    exact ⟨_,rfl,OwnTs.mk' (ks:=k::ks) hb e1 (by omega) hr hm e3,((grown_drew w _).trans (grown_sets _ _ _ _)).trans (grown_sets _ _ _ _),fun x hx=>.inl hx⟩
   ·have hcon:=Any2.slices_Insert_string_grow Tryz.layInsert g 0 ks.length cap 0 vb 0 1 1 (ks.map Value.string) [.string k] w hpos (by omega) hn (by omega) (by omega) (by simp) rfl hcs hvs (str_one ks) h1v
    refine hcon.mono ?_
    rintro e w' ⟨rfl,rfl⟩
    have hge:=grownCap_ge w (ks.length+1) cap 9
    simp only [show Tryz.layInsert_ren.t 9=9 from rfl]
    obtain ⟨C,hC⟩:∃ C,C=grownCap w (ks.length+1) cap 9:=⟨_,rfl⟩
    have hle:C≤maxLen:=by rw [hC];exact grownCap_le_maxLen w _ _ _ (by omega)
    rw [← hC] at hge ⊢
    obtain ⟨o,ho⟩:∃ o:Array Value,o=((ks.map Value.string).take 0).toArray++Builtin.zeroCells (Value.string ⟨#[]⟩).cells (ks.length+1 - 0)++Builtin.zeroCells (Value.string ⟨#[]⟩).cells (C - (ks.length+1)):=⟨_,rfl⟩
    rw [← ho]
    have hos:o.size=C:=by rw [ho,Array.size_append,Array.size_append,zeros_size,zeros_size];simp;omega
    have hh:(w.alloc (.cells o 9)).drew.heap[w.heap.size]? = some (.cells o 9 (0,0)):=alloc_heap w (.cells o 9)
    obtain ⟨c',e1,e2,e3⟩:=sets_front2 hh ks k (by omega)
    have hl2:ks.length+1=(k::ks).length:=by simp
    simp only [List.drop_zero,Nat.zero_add,hl2]
    refine ⟨_,rfl,OwnTs.mk' (ks:=k::ks) hbase e1 (by omega) (by simpa using hge) hle e3,?_,fun x hx=>.inr (by simp [Value.ownBlock] at hx;omega)⟩
    have hB:Below w.heap.size w ((((w.alloc (.cells o 9)).drew.setCells w.heap.size 0 [.string k]).drew).setCells w.heap.size 1 (ks.map Value.string)):=by
     have b1:Below w.heap.size w (w.alloc (.cells o 9)).drew:=((Below.refl _ _).alloc (Nat.le_refl _) _).drew
     have b2:=b1.grown (grown_sets (w.alloc (.cells o 9)).drew w.heap.size 0 [.string k]) (by show _≤(w.alloc _).heap.size;simp) (fun x hx=>by cases hx;exact Nat.le_refl _)
     have b3:=b2.drew
     exact b3.grown (grown_sets _ w.heap.size 1 (ks.map Value.string)) (by show _≤((w.alloc _).drew.setCells _ _ _).heap.size;rw [size_sets];show _≤(w.alloc _).heap.size;simp) (fun x hx=>by cases hx;exact Nat.le_refl _)
    exact grown_below hB _
theorem grow_any (w:World)(n:Nat)(hn:n≤1000):
  Calls Tryz.prog 291 #[.slice none 0 0,.int .i64 n] w fun e w'=>∃ v',e=.returned v'∧OwnTs w' w.heap.size v' []∧Below w.heap.size w w':=by
 obtain ⟨i0,hi,hz0,hz1,hz2⟩:=info_parts Tryz.infoStr
 have hmx:maxLen=9223372036854775807:=rfl
 by_cases h0:n=0
 ·subst h0
  refine (Any8.slices_Grow_room Tryz.layGrow none 0 0 0 w (by omega) (by omega) (by omega) (by omega)).mono ?_
  rintro e w' ⟨rfl,rfl⟩
  exact ⟨_,rfl,OwnTs.nil _ _,Below.refl _ _⟩
 ·refine (Any8.slices_Grow_grow Tryz.layGrow i0 (.string ⟨#[]⟩) hi hz0 (by omega) none 0 0 n [] w (by omega) (by omega) (by rw [hz2];omega) (by omega) (by simp) (fun _=>rfl) (fun a e=>by cases e)).mono ?_
  rintro e w' ⟨rfl,rfl⟩
  have hge:=grownCap_ge w (0+n) 0 9
  refine ⟨_,rfl,?_,(Below.refl _ _).drew.alloc (by show _≤w.heap.size;exact Nat.le_refl _) _⟩
  simp only [show Tryz.layGrow_ren.t 25=9 from rfl]
  have hh:(w.drew.alloc (.cells (([]:List Value).toArray++Builtin.zeroCells (Value.string ⟨#[]⟩).cells (0+n - 0)++Builtin.zeroCells (Value.string ⟨#[]⟩).cells (grownCap w (0+n) 0 9 - (0+n))) 9)).heap[w.heap.size]? = _:=alloc_heap w.drew _
  exact OwnTs.mk' (ks:=[]) (cap:=grownCap w (0+n) 0 9) (Nat.le_refl _) hh (by rw [Array.size_append,Array.size_append,zeros_size,zeros_size];show 0+(0+n - 0)+_=_;omega) (by simp) (grownCap_le_maxLen w _ _ _ (by omega)) (fun j hj=>by simp at hj)
set_option maxHeartbeats 1000000 in
theorem concat_any (w:World)(B:Nat)(a1 a2:Option Addr)(X Y:List ByteArray)(c1 c2:Nat)(h0:w.cell? ⟨B,0,none⟩=some (.slice a1 X.length c1))(h1:w.cell? ⟨B,1,none⟩=some (.slice a2 Y.length c2))(hX:Tl w a1 X c1)(hY:Tl w a2 Y c2)(hl:X.length+Y.length≤1000):
  Calls Tryz.prog 281 #[.slice (some ⟨B,0,none⟩) 2 2] w fun e w'=>∃ v',e=.returned v'∧OwnTs w' w.heap.size v' (X++Y)∧Below w.heap.size w w':=by
 have hB:B<w.heap.size:=World.block_lt_of_cell? w ⟨B,0,none⟩ h0
 have HX:=Hid.m hX
 have HY:=Hid.m hY
 have e1:((X.length:Int)+(Y.length:Int))=((X.length+Y.length:Nat):Int):=by omega
 have HG:=Hid.m (grow_any w (X.length+Y.length) hl)
 rw [← e1] at HG
 have b1:(X.length:Int)≤1000:=by omega
 have b2:(Y.length:Int)≤1000:=by omega
 have b3:¬ (X.length:Int)<0:=by omega
 have b4:¬ (X.length:Int)+(Y.length:Int)<0:=by omega
 clear hX hY e1
 go_enter Tryz.func281,Tryz.ntmps281
 go_wp2
 refine wp_loop_rounds 3 ?_
 rw [rounds_succ]
 go_wp2
 rw [rounds_succ]
 go_wp2
 rw [rounds_succ]
 go_wp2_with (go_at_call 291;refine HG.out.mono ?_;rintro e w1 ⟨v1,rfl,hO1,hb1⟩)
 have d0:=(below_cells hb1 B 0 hB).trans h0
 have d1:=(below_cells hb1 B 1 hB).trans h1
 have HO1:=Hid.m hO1
 have HB1:=Hid.m hb1
 clear hO1 hb1 h0 h1
 refine wp_loop_rounds 3 ?_
 rw [rounds_succ]
 go_wp2_with (at_builtin;refine app_row rfl _ _ rfl w.heap.size v1 [] HO1.out rfl a1 c1 X X.length rfl rfl w.heap.size HX.out.hn (HX.out.at_.below HB1.out (Nat.le_refl _)) (by simp;omega) HB1.out.size ?_;intro v2 w2 hO2 hG2)
 have hb2:=HB1.out.grown hG2.grown HB1.out.size (fun k hk=>(HO1.out.lt k hk).1)
 have q1:w2.cell? ⟨B,1,none⟩=some (.slice a2 Y.length c2):=hG2.grown.cell (a:=⟨B,1,none⟩) d1 (fun e=>by have:=(HO1.out.lt B e.symm).1;omega)
 have HO2:=Hid.m hO2
 have HB2:=Hid.m hb2
 clear hO2 hb2 hG2 d0 d1
 rw [rounds_succ]
 go_wp2_with (at_builtin;refine app_row rfl _ _ rfl w.heap.size v2 X HO2.out rfl a2 c2 Y Y.length rfl rfl w.heap.size HY.out.hn (HY.out.at_.below HB2.out (Nat.le_refl _)) (by omega) HB2.out.size ?_;intro v3 w3 hO3 hG3)
 have hb3:=HB2.out.grown hG3.grown HB2.out.size (fun k hk=>(HO2.out.lt k hk).1)
 have HO3:=Hid.m hO3
 have HB3:=Hid.m hb3
 clear hO3 hb3 hG3 q1
 rw [rounds_succ]
 go_wp2
 go_ret
 exact ⟨v3,rfl,HO3.out,HB3.out⟩
end Go.Proofs.YtcdpiefflnaghaaGreatDoor.Lr
namespace Go.Proofs.YtcdpiefflnaghaaGreatDoor.Lr
open Go.RowKit Go.Shelf Go.Lib Go.Sort
theorem ba_beq (a b:ByteArray):(a.toList==b.toList)=decide (a=b):=by
 obtain ⟨⟨a⟩⟩:=a
 obtain ⟨⟨b⟩⟩:=b
 rw [Bool.eq_iff_iff]
 simp [ByteArray.toList_mk]
theorem ret_int {k:IntKind}{a b:Int}(h:a=b):Ending.returned (.int k a)=.returned (.int k b):=by rw [h]
theorem ba_eq {a b:ByteArray}(h:a=b):(a.toList==b.toList)=true:=by rw [ba_beq];simp [h]
theorem ba_ne {a b:ByteArray}(h:a≠b):(a.toList==b.toList)=false:=by rw [ba_beq];simp [h]
theorem many_any (aT aK:Option Addr)(n cT m cK:Nat)(w:World)(hn:n≤1000)(hm:m≤1000):
  Calls Tryz.prog 236 #[.agg #[.slice aT n cT,.slice aK m cK]] w fun e w'=>e=.returned (.int .i64 ((n:Int)+(m:Int)))∧w'=w.alloc (.cells #[.slice aT n cT,.slice aK m cK] 108):=by
 have b1:(n:Int)≤1000:=by omega
 have b2:(m:Int)≤1000:=by omega
 go_enter Tryz.func236,Tryz.ntmps236
 go_wp2
 go_ret
 exact ⟨rfl,rfl⟩
theorem half_any (n:Nat)(w:World)(hn:n≤2000):
  Calls Tryz.prog 261 #[.int .i64 n] w fun e w'=>e=.returned (.int .i64 (((n+1) / 2:Nat):Int))∧w'=w:=by
 have b1:(n:Int)≤2000:=by omega
 go_enter Tryz.func261,Tryz.ntmps261
 go_wp2
 go_ret
 exact ⟨ret_int (by omega),rfl⟩
structure Ix (ks:List ByteArray)(key:ByteArray)(i:Int):Prop where
 is:key∈ks→∃ j:Nat,i=j∧j<ks.length∧ks.eraseIdx j=ks.erase key
 no:key∉ks→i=-1
theorem indexOf_any (ao:Option Addr)(ks:List ByteArray)(cap:Nat)(key:ByteArray)(w:World)(h:Tl w ao ks cap):
  Calls Tryz.prog 235 #[.slice ao ks.length cap,.string key] w fun e w'=>∃ i:Int,e=.returned (.int .i64 i)∧Ix ks key i∧w'=w:=by
 have hm:ks.length≤9223372036854775807:=Nat.le_trans h.hl h.hc
 have HT:=Hid.m h.at_
 clear h
 go_enter Tryz.func235,Tryz.ntmps235
 go_wp2
 go_loop [9] (fun i=>∃ k:Nat,k≤ks.length∧i=.int .i64 k∧Hid (∀ j (hj:j<ks.length),j<k→ks[j]≠key)) (fun i=>ks.length - (intOf i).toNat)
 case atStart=>exact ⟨0,Nat.zero_le _,rfl,fun j hj h=>by omega⟩
 case round=>
  obtain ⟨k,hk,rfl,HA⟩:=hrel
  by_cases hlt:k<ks.length
  ·have hlt2:(k:Int)<(ks.length:Int):=by omega
   rcases HT.out with h | ⟨b,off,rfl,hb,hc⟩
   ·rw [h] at hlt;simp at hlt
   have hx:=hc k hlt
   obtain ⟨s,hs⟩:∃ s,s=ks[k]:=⟨_,rfl⟩
   have HS:=Hid.m hs
   rw [← hs] at hx
   clear hs hc
   by_cases e:s=key
   ·have e2:=ba_eq e
    go_wp2
    go_ret
    refine ⟨k,rfl,⟨fun _=>⟨k,rfl,hlt,?_⟩,fun hno=>absurd ?_ hno⟩,rfl⟩
    ·have hk1:ks[k]=key:=HS.out.symm.trans e
     have hidx:ks.idxOf key=k:=by
      have h1:ks.idxOf key≤k:=by
       refine Classical.byContradiction fun hc=>?_
       have:=List.not_of_lt_findIdx (p:=(·==key)) (xs:=ks) (i:=k) (by unfold List.idxOf at hc;omega)
       simp [hk1] at this
      have h2:ks.idxOf key<ks.length:=by omega
      refine Nat.le_antisymm h1 (Nat.le_of_not_lt fun hc=>?_)
      exact HA.out _ h2 hc (List.getElem_idxOf h2)
     rw [List.erase_eq_eraseIdx_of_idxOf hidx]
    ·rw [← e,HS.out]
     exact List.getElem_mem hlt
   ·have e2:=ba_ne e
    go_wp2
    go_round
    case rel=>exact ⟨k+1,by omega,by go_num,fun j hj hjk=>by
     by_cases ej:j=k
     ·subst ej;rw [← HS.out];exact e
     ·exact HA.out j hj (by omega)⟩
    case measure=>simp [intOf];omega
  ·have hlt2:¬ (k:Int)<(ks.length:Int):=by omega
   have hno:key∉ks:=fun hm2=>by
    obtain ⟨j,hj,e⟩:=List.getElem_of_mem hm2
    exact HA.out j hj (by omega) e
   have HN:=Hid.m hno
   clear hno
   go_wp2
   go_ret
   exact ⟨-1,rfl,⟨fun h=>absurd h HN.out,fun _=>rfl⟩,rfl⟩
end Go.Proofs.YtcdpiefflnaghaaGreatDoor.Lr
namespace Go.Proofs.YtcdpiefflnaghaaGreatDoor.Lr
open Go.RowKit Go.Shelf Go.Lib Go.Sort
theorem many_grown (aT aK:Option Addr)(n cT m cK:Nat)(w:World)(hn:n≤1000)(hm:m≤1000):
  Calls Tryz.prog 236 #[.agg #[.slice aT n cT,.slice aK m cK]] w fun e w'=>e=.returned (.int .i64 ((n:Int)+(m:Int)))∧∃ q os',w'=grow (w.drewN q) os':=by
 refine (many_any aT aK n cT m cK w hn hm).mono ?_
 rintro e w' ⟨rfl,rfl⟩
 exact ⟨rfl,0,_,alloc_eq_grow w _⟩
theorem half_grown (n m:Nat)(w:World)(hn:n≤1000)(hm:m≤1000):
  Calls Tryz.prog 261 #[.int .i64 ((n:Int)+(m:Int))] w fun e w'=>e=.returned (.int .i64 (((n+m+1) / 2:Nat):Int))∧∃ q os',w'=grow (w.drewN q) os':=by
 have e:((n:Int)+(m:Int))=((n+m:Nat):Int):=by omega
 rw [e]
 refine (half_any (n+m) w (by omega)).mono ?_
 rintro e w' ⟨rfl,rfl⟩
 exact ⟨rfl,0,#[],(grow_none _).symm⟩
theorem below_grow (w:World)(n:Nat)(os:Array Obj):Below w.heap.size w (grow (w.drewN n) os):=
 ⟨rfl,rfl,rfl,by simp [grow,World.drewN],fun k hk=>heap_grow_old _ _ hk⟩
theorem below_drewN (w:World)(n:Nat):Below w.heap.size w (w.drewN n):=⟨rfl,rfl,rfl,Nat.le_refl _,fun _ _=>rfl⟩
set_option maxHeartbeats 1000000 in
theorem check_many (T K:List ByteArray)(aT aK:Option Addr)(cT cK:Nat)(w:World)(hT:T.length≤300)(hK:K.length≤300)(hbad:256<T.length+K.length∨(T.length+K.length+1) / 2<K.length):
  Calls Tryz.prog 269 #[.agg #[.slice aT T.length cT,.slice aK K.length cK]] w fun e w'=>e=.returned (.int .i64 8)∧Below w.heap.size w w':=by
 have mixed:=Tryz.layInsert.mixed
 have hmany:=fun W=>many_grown aT aK T.length cT K.length cK W (by omega) (by omega)
 have hhalf:=fun W=>half_grown T.length K.length W (by omega) (by omega)
 obtain ⟨W,hW⟩:∃ W,W=w.alloc (Obj.cells #[.slice aT T.length cT,.slice aK K.length cK] 108):=⟨_,rfl⟩
 have HB:Hid (Below w.heap.size w W):=by rw [hW];exact (Below.refl _ _).alloc (Nat.le_refl _) _
 have hs:w.heap.size<W.heap.size:=by rw [hW];simp
 have c0:W.cell? ⟨w.heap.size,0,none⟩=some (.slice aT T.length cT):=by rw [hW];simp
 have c1:W.cell? ⟨w.heap.size,1,none⟩=some (.slice aK K.length cK):=by rw [hW];simp
 have d0:∀ n os,(grow (W.drewN n) os).cell? ⟨w.heap.size,0,none⟩=some (.slice aT T.length cT):=cell_grown hs c0
 have d1:∀ n os,(grow (W.drewN n) os).cell? ⟨w.heap.size,1,none⟩=some (.slice aK K.length cK):=cell_grown hs c1
 obtain ⟨hf,hhf⟩:∃ hf:Nat,hf=(T.length+K.length+1) / 2:=⟨_,rfl⟩
 rw [← hhf] at hhalf hbad
 clear hhf
 by_cases h1:256<T.length+K.length
 ·have g1:decide ((256:Int)<(T.length:Int)+(K.length:Int))=true:=by simp;omega
  clear hbad
  go_enter Tryz.func269,Tryz.ntmps269
  go_upto_region 1 with (fail)
  rw [← hW]
  clear hW
  go_quiet_grown (first
   | (go_at_call 236;exact Calls.grown_of (hmany _))
   | (go_at_call 261;exact Calls.grown_of (hhalf _)))
  go_wp2
  go_ret
  exact ⟨rfl,HB.out.trans ((below_grow W nq osq).mono (Nat.le_of_lt hs))⟩
 ·have g1:decide ((256:Int)<(T.length:Int)+(K.length:Int))=false:=by simp;omega
  have g2:(hf:Int)<(K.length:Int):=by omega
  clear hbad
  go_enter Tryz.func269,Tryz.ntmps269
  go_upto_region 1 with (fail)
  rw [← hW]
  clear hW
  go_quiet_grown (first
   | (go_at_call 236;exact Calls.grown_of (hmany _))
   | (go_at_call 261;exact Calls.grown_of (hhalf _)))
  go_wp2
  go_ret
  exact ⟨rfl,HB.out.trans ((below_grow W nq osq).mono (Nat.le_of_lt hs))⟩
set_option maxHeartbeats 1000000 in
theorem check_keys (T K:List ByteArray)(aT aK:Option Addr)(cT cK:Nat)(w:World)(hTl:Tl w aT T cT)(hKl:Tl w aK K cK)(h1:T.length+K.length≤256)(h2:K.length≤(T.length+K.length+1) / 2):
  Calls Tryz.prog 269 #[.agg #[.slice aT T.length cT,.slice aK K.length cK]] w fun e w'=>e=.returned (.int .i64 (if (T++K).all kOk=true∧(T++K).Nodup then 0 else 8))∧Below w.heap.size w w':=by
 have mixed:=Tryz.layInsert.mixed
 have hmany:=fun W=>many_grown aT aK T.length cT K.length cK W (by omega) (by omega)
 have hhalf:=fun W=>half_grown T.length K.length W (by omega) (by omega)
 obtain ⟨L,hL⟩:∃ L,L=T++K:=⟨_,rfl⟩
 have HLL:Hid (L.length=T.length+K.length):=by rw [hL];exact List.length_append
 rw [← hL]
 obtain ⟨R,hR⟩:∃ R:Int,R=(if L.all kOk=true∧L.Nodup then 0 else 8):=⟨_,rfl⟩
 rw [← hR]
 obtain ⟨al,hal⟩:∃ al,al=L.all kOk:=⟨_,rfl⟩
 obtain ⟨nd,hnd⟩:∃ nd,nd=decide L.Nodup:=⟨_,rfl⟩
 have hR2:R=if al=true∧nd=true then 0 else 8:=by
  rw [hR,hal,hnd]
  congr 1
  simp
 clear hR
 obtain ⟨W,hW⟩:∃ W,W=w.alloc (Obj.cells #[.slice aT T.length cT,.slice aK K.length cK] 108):=⟨_,rfl⟩
 have HB:Hid (Below w.heap.size w W):=by rw [hW];exact (Below.refl _ _).alloc (Nat.le_refl _) _
 have hs:w.heap.size<W.heap.size:=by rw [hW];simp
 have c0:W.cell? ⟨w.heap.size,0,none⟩=some (.slice aT T.length cT):=by rw [hW];simp
 have c1:W.cell? ⟨w.heap.size,1,none⟩=some (.slice aK K.length cK):=by rw [hW];simp
 have d0:∀ n os,(grow (W.drewN n) os).cell? ⟨w.heap.size,0,none⟩=some (.slice aT T.length cT):=cell_grown hs c0
 have d1:∀ n os,(grow (W.drewN n) os).cell? ⟨w.heap.size,1,none⟩=some (.slice aK K.length cK):=cell_grown hs c1
 obtain ⟨hf,hhf⟩:∃ hf:Nat,hf=(T.length+K.length+1) / 2:=⟨_,rfl⟩
 rw [← hhf] at hhalf h2
 clear hhf
 have g1:decide ((256:Int)<(T.length:Int)+(K.length:Int))=false:=by simp;omega
 have g2:¬ (hf:Int)<(K.length:Int):=by omega
 have HX:=Hid.m (hTl.below HB.out)
 have HY:=Hid.m (hKl.below HB.out)
 have HL:Hid (T.length+K.length≤1000):=by show _≤_;omega
 have HAL:=Hid.m hal
 have HND:=Hid.m hnd
 clear hal hnd hTl hKl h1
 go_enter Tryz.func269,Tryz.ntmps269
 go_upto_region 1 with (fail)
 rw [← hW]
 clear hW
 go_quiet_grown (first
  | (go_at_call 236;exact Calls.grown_of (hmany _))
  | (go_at_call 261;exact Calls.grown_of (hhalf _)))
 obtain ⟨V,hV⟩:∃ V,V=grow (W.drewN nq) osq:=⟨_,rfl⟩
 have hbV:Below W.heap.size W V:=by rw [hV];exact below_grow W nq osq
 have e0:=d0 nq osq
 have e1:=d1 nq osq
 rw [← hV] at e0 e1 ⊢
 have hsV:w.heap.size<V.heap.size:=Nat.lt_of_lt_of_le hs hbV.size
 have HBV:=Hid.m (HB.out.trans (hbV.mono (Nat.le_of_lt hs)))
 have HXV:=Hid.m (HX.out.below hbV)
 have HYV:=Hid.m (HY.out.below hbV)
 clear hV d0 d1 c0 c1 HB HX HY hbV hmany hhalf
 obtain ⟨V2,hV2⟩:∃ V2,V2=V.alloc (Obj.cells #[.slice aT T.length cT,.slice aK K.length cK] 34):=⟨_,rfl⟩
 have HC:Hid (Calls Tryz.prog 281 #[.slice (some ⟨V.heap.size,0,none⟩) 2 2] V2 fun e w'=>∃ v',e=.returned v'∧OwnTs w' V2.heap.size v' L∧Below V2.heap.size V2 w'):=by
  rw [hV2,hL]
  exact concat_any _ V.heap.size aT aK T K cT cK (by simp) (by simp) (HXV.out.alloc _) (HYV.out.alloc _) HL.out
 have HB2:Hid (Below w.heap.size w V2):=by rw [hV2];exact HBV.out.alloc (Nat.le_of_lt hsV) _
 have hbw2:Hid (w.heap.size≤V2.heap.size):=HB2.out.size
 rw [hV2] at HC
 rw [hV2] at HB2 hbw2
 have HL2:Hid (L.length≤1000):=by show _≤_;rw [HLL.out];exact HL.out
 clear hV2 hL HLL
 cases hal:al with
 | false=>
  have hR3:R=8:=by rw [hR2,hal];simp
  clear hR2
  subst hR3
  have hna:L.all kOk=false:=by rw [← HAL.out,hal]
  go_wp2_with (first
   | (go_at_call 281;refine HC.out.mono ?_;rintro e w1 ⟨v1,rfl,hO1,hb1⟩;obtain ⟨ao1,cap1,rfl,hT1⟩:=hO1.tl;have HO1:=Hid.m hO1;have HT1:=Hid.m hT1;have HB1:=Hid.m hb1;clear hO1 hT1 hb1)
   | (go_at_call 282;refine (contains_any _ _ _ _ HT1.out).mono ?_;rintro e w2 ⟨rfl,q,rfl⟩;rw [hna]))
  go_ret
  exact ⟨rfl,(HB2.out.trans (HB1.out.mono hbw2.out)).trans ((below_drewN w1 q).mono (Nat.le_trans hbw2.out HB1.out.size))⟩
 | true=>
  have hna:L.all kOk=true:=by rw [← HAL.out,hal]
  cases hnd:nd with
  | false=>
   have hR3:R=8:=by rw [hR2,hal,hnd];simp
   clear hR2
   subst hR3
   have hnn:decide L.Nodup=false:=by rw [← HND.out,hnd]
   go_wp2_with (first
    | (go_at_call 281;refine HC.out.mono ?_;rintro e w1 ⟨v1,rfl,hO1,hb1⟩;obtain ⟨ao1,cap1,rfl,hT1⟩:=hO1.tl;have HO1:=Hid.m hO1;have HT1:=Hid.m hT1;have HB1:=Hid.m hb1;clear hO1 hT1 hb1)
    | (go_at_call 282;refine (contains_any _ _ _ _ HT1.out).mono ?_;rintro e w2 ⟨rfl,q,rfl⟩;rw [hna])
    | (go_at_call 283;refine (hasTwice_any _ _ _ _ (HO1.out.below (below_drewN _ _)) HL2.out).mono ?_;rintro e w3 ⟨rfl,hg3⟩;rw [hnn]))
   go_ret
   exact ⟨rfl,(((HB2.out.trans (HB1.out.mono hbw2.out)).trans ((below_drewN w1 q).mono (Nat.le_trans hbw2.out HB1.out.size)))).grown hg3 (Nat.le_trans hbw2.out HB1.out.size) (fun k hk=>Nat.le_trans hbw2.out (HO1.out.lt k hk).1)⟩
  | true=>
   have hR3:R=0:=by rw [hR2,hal,hnd];simp
   clear hR2
   subst hR3
   have hnn:decide L.Nodup=true:=by rw [← HND.out,hnd]
   go_upto_region 4 with (go_at_call 281;refine HC.out.mono ?_;rintro e w1 ⟨v1,rfl,hO1,hb1⟩;obtain ⟨ao1,cap1,rfl,hT1⟩:=hO1.tl;have HO1:=Hid.m hO1;have HT1:=Hid.m hT1;have HB1:=Hid.m hb1;clear hO1 hT1 hb1)
   go_wp2_with (first
    | (go_at_call 282;refine (contains_any _ _ _ _ HT1.out).mono ?_;rintro e w2 ⟨rfl,q,rfl⟩;rw [hna])
    | (go_at_call 283;refine (hasTwice_any _ _ _ _ (HO1.out.below (below_drewN _ _)) HL2.out).mono ?_;rintro e w3 ⟨rfl,hg3⟩;rw [hnn]))
   go_ret
   exact ⟨rfl,(((HB2.out.trans (HB1.out.mono hbw2.out)).trans ((below_drewN w1 q).mono (Nat.le_trans hbw2.out HB1.out.size)))).grown hg3 (Nat.le_trans hbw2.out HB1.out.size) (fun k hk=>Nat.le_trans hbw2.out (HO1.out.lt k hk).1)⟩
def chk (T K:List ByteArray):Int:=if okO T K=true then 0 else 8
theorem check_any (T K:List ByteArray)(aT aK:Option Addr)(cT cK:Nat)(w:World)(hTl:Tl w aT T cT)(hKl:Tl w aK K cK)(hT:T.length≤300)(hK:K.length≤300):
  Calls Tryz.prog 269 #[.agg #[.slice aT T.length cT,.slice aK K.length cK]] w fun e w'=>e=.returned (.int .i64 (chk T K))∧Below w.heap.size w w':=by
 unfold chk
 by_cases hb:256<T.length+K.length∨(T.length+K.length+1) / 2<K.length
 ·have:okO T K=false:=okO_false fun h=>by
   have h1:=h.many
   have h2:=h.half
   rw [Nat.add_comm K.length] at h1 h2
   omega
  rw [this]
  exact check_many T K aT aK cT cK w hT hK hb
 ·have h1:T.length+K.length≤256:=by omega
  have h2:K.length≤(T.length+K.length+1) / 2:=by omega
  have e:(if okO T K=true then (0:Int) else 8)=(if (T++K).all kOk=true∧(T++K).Nodup then 0 else 8):=by
   have hp:(T++K).Perm (K++T):=List.perm_append_comm
   have:okO T K=true↔((T++K).all kOk=true∧(T++K).Nodup):=by
    rw [okO_iff]
    constructor
    ·intro h
     exact ⟨List.all_eq_true.2 fun x hx=>h.keys x (hp.mem_iff.1 hx),hp.nodup_iff.2 h.nodup⟩
    ·rintro ⟨a,b⟩
     exact ⟨by omega,by rw [Nat.add_comm K.length];exact h2,fun x hx=>List.all_eq_true.1 a x (hp.mem_iff.2 hx),hp.nodup_iff.1 b⟩
   simp only [this]
  rw [e]
  exact check_keys T K aT aK cT cK w hTl hKl h1 h2
theorem chk_ok {T K:List ByteArray}(h:Ok T K):chk T K=0:=by unfold chk;rw [if_pos (okO_iff.2 h)]
theorem chk_bad {T K:List ByteArray}(h:¬ Ok T K):chk T K=8:=by unfold chk;rw [if_neg (fun e=>h (okO_iff.1 e))]
end Go.Proofs.YtcdpiefflnaghaaGreatDoor.Lr
namespace Go.Proofs.YtcdpiefflnaghaaGreatDoor.Lr
open Go.RowKit Go.Shelf Go.Lib Go.Sort
theorem below_drew0 {w w':World}(h:Below w.drew.heap.size w.drew w'):Below w.heap.size w w':=⟨h.os,h.tape,h.output,h.size,h.block⟩
structure OB (w:World)(b:Nat)(x y:Value):Prop where
 c0:w.cell? ⟨b,0,none⟩=some x
 c1:w.cell? ⟨b,1,none⟩=some y
 f0:w.frozen? ⟨b,0,none⟩=false
 f1:w.frozen? ⟨b,1,none⟩=false
 lt:b<w.heap.size
theorem OB.same {w w':World}{b:Nat}{x y:Value}(h:OB w b x y)(e:w'.heap[b]? = w.heap[b]?)(hs:w.heap.size≤w'.heap.size):OB w' b x y:=
 ⟨(World.cell?_of_block (a:=⟨b,0,none⟩) e).trans h.c0,(World.cell?_of_block (a:=⟨b,1,none⟩) e).trans h.c1,(World.frozen?_of_block (a:=⟨b,0,none⟩) e).trans h.f0,(World.frozen?_of_block (a:=⟨b,1,none⟩) e).trans h.f1,Nat.lt_of_lt_of_le h.lt hs⟩
theorem OB.below {w w':World}{b:Nat}{x y:Value}(h:OB w b x y)(hb:Below w.heap.size w w'):OB w' b x y:=h.same (hb.block b h.lt) hb.size
theorem OB.grown {w w':World}{b:Nat}{x y:Value}{row:Option Nat}(h:OB w b x y)(hg:w.grownBy w' row)(hne:row≠some b):OB w' b x y:=h.same (hg.block b h.lt (fun e=>hne e.symm)) hg.size
theorem OB.other {w:World}{b:Nat}{x y:Value}(h:OB w b x y)(p:Addr)(v:Value)(hp:p.block≠b):OB (w.setCell p v) b x y:=h.grown (grownBy_setCell w p v) (fun e=>hp (Option.some.inj e))
theorem OB.set0 {w:World}{b:Nat}{x y:Value}(h:OB w b x y)(u:Value):OB (w.setCell ⟨b,0,none⟩ u) b u y:=by
 refine ⟨World.cell?_setCell_same _ _ _ h.c0,?_,by rw [World.frozen?_setCell];exact h.f0,by rw [World.frozen?_setCell];exact h.f1,by simpa using h.lt⟩
 rw [World.cell?_setCell_other _ _ _ _ (by intro e;cases e)]
 exact h.c1
theorem OB.set1 {w:World}{b:Nat}{x y:Value}(h:OB w b x y)(u:Value):OB (w.setCell ⟨b,1,none⟩ u) b x u:=by
 refine ⟨?_,World.cell?_setCell_same _ _ _ h.c1,by rw [World.frozen?_setCell];exact h.f0,by rw [World.frozen?_setCell];exact h.f1,by simpa using h.lt⟩
 rw [World.cell?_setCell_other _ _ _ _ (by intro e;cases e)]
 exact h.c0
theorem OB.made (w:World)(x y:Value):OB (w.alloc (.cells #[x,y] 108)) w.heap.size x y:=
 ⟨by simp,by simp,by simp,by simp,by simp⟩
theorem OB.alloc {w:World}{b:Nat}{x y:Value}(h:OB w b x y)(o:Obj):OB (w.alloc o) b x y:=h.below ((Below.refl _ _).alloc (Nat.le_refl _) _)
structure Rw (w:World)(base:Nat)(aT:Option Addr)(cT:Nat)(aK:Option Addr)(cK:Nat)(T K:List ByteArray):Prop where
 t:OwnTs w base (.slice aT T.length cT) T
 k:OwnTs w base (.slice aK K.length cK) K
 ap:∀ g,(Value.slice aT T.length cT).ownBlock=some g→(Value.slice aK K.length cK).ownBlock≠some g
theorem Rw.tlT {w:World}{base:Nat}{aT:Option Addr}{cT:Nat}{aK:Option Addr}{cK:Nat}{T K:List ByteArray}(h:Rw w base aT cT aK cK T K):Tl w aT T cT:=by
 obtain ⟨ao,cap,e,hh⟩:=h.t.tl
 cases e
 exact hh
theorem Rw.tlK {w:World}{base:Nat}{aT:Option Addr}{cT:Nat}{aK:Option Addr}{cK:Nat}{T K:List ByteArray}(h:Rw w base aT cT aK cK T K):Tl w aK K cK:=by
 obtain ⟨ao,cap,e,hh⟩:=h.k.tl
 cases e
 exact hh
theorem Rw.below {w w':World}{base:Nat}{aT:Option Addr}{cT:Nat}{aK:Option Addr}{cK:Nat}{T K:List ByteArray}(h:Rw w base aT cT aK cK T K)(hb:Below w.heap.size w w'):Rw w' base aT cT aK cK T K:=
 ⟨h.t.below hb,h.k.below hb,h.ap⟩
theorem Rw.base {w:World}{base base':Nat}{aT:Option Addr}{cT:Nat}{aK:Option Addr}{cK:Nat}{T K:List ByteArray}(h:Rw w base aT cT aK cK T K)(hb:base'≤base):Rw w base' aT cT aK cK T K:=
 ⟨h.t.base hb,h.k.base hb,h.ap⟩
theorem Rw.set {w:World}{base:Nat}{aT:Option Addr}{cT:Nat}{aK:Option Addr}{cK:Nat}{T K:List ByteArray}(h:Rw w base aT cT aK cK T K)(p:Addr)(v:Value)(hp:∀ g,(Value.slice aT T.length cT).ownBlock=some g∨(Value.slice aK K.length cK).ownBlock=some g→g≠p.block):Rw (w.setCell p v) base aT cT aK cK T K:=
 ⟨h.t.grown (grownBy_setCell w p v) (fun g hg e=>hp g (.inl hg) (Option.some.inj e).symm),h.k.grown (grownBy_setCell w p v) (fun g hg e=>hp g (.inr hg) (Option.some.inj e).symm),h.ap⟩
set_option maxHeartbeats 1000000 in
theorem copied_any (T K:List ByteArray)(aT aK:Option Addr)(cT cK:Nat)(w:World)(hTl:Tl w aT T cT)(hKl:Tl w aK K cK)(hT:T.length≤300)(hK:K.length≤300):
  Calls Tryz.prog 237 #[.agg #[.slice aT T.length cT,.slice aK K.length cK]] w fun e w'=>∃ aT' cT' aK' cK',e=.returned (.agg #[.slice aT' T.length cT',.slice aK' K.length cK'])∧Rw w' w.heap.size aT' cT' aK' cK' T K∧Below w.heap.size w w':=by
 obtain ⟨w2,hw2⟩:∃ w2,w2=(w.alloc (Obj.cells #[.slice aT T.length cT,.slice aK K.length cK] 108)).alloc (Obj.cells #[.slice none 0 0,.slice none 0 0] 108):=⟨_,rfl⟩
 have HB2:Hid (Below w.heap.size w w2):=by rw [hw2];exact ((Below.refl _ _).alloc (Nat.le_refl _) _).alloc (by simp) _
 have HA:Hid (OB w2 w.heap.size (.slice aT T.length cT) (.slice aK K.length cK)):=by rw [hw2];exact (OB.made _ _ _).alloc _
 have HR:Hid (OB w2 (w.heap.size+1) (.slice none 0 0) (.slice none 0 0)):=by
  rw [hw2]
  have:=OB.made (w.alloc (Obj.cells #[.slice aT T.length cT,.slice aK K.length cK] 108)) (.slice none 0 0) (.slice none 0 0)
  rw [show (w.alloc (Obj.cells #[.slice aT T.length cT,.slice aK K.length cK] 108)).heap.size=w.heap.size+1 by simp] at this
  exact this
 have hs2:Hid (w2.heap.size=w.heap.size+2):=by rw [hw2];show _=_;simp
 have HT2:=Hid.m (hTl.below HB2.out)
 have HK2:=Hid.m (hKl.below HB2.out)
 have HLT:Hid (T.length≤1000):=by show _≤_;omega
 have HLK:Hid (K.length≤1000):=by show _≤_;omega
 clear hTl hKl
 go_enter Tryz.func237,Tryz.ntmps237
 go_upto_region 1 with (fail)
 rw [← hw2]
 clear hw2
 obtain ⟨c0,c1,f0,f1,l0⟩:=HA.out
 obtain ⟨r0,r1,s0,s1,l1⟩:=HR.out
 go_region_with (first
  | (go_at_call 271;refine (clone_any _ aK K cK (HK2.out.below HB3.out) HLK.out).mono ?_;rintro e w4 ⟨vK,rfl,hOK,hb4⟩;obtain ⟨aK',cK',rfl,hK4⟩:=hOK.tl;have HOK:=Hid.m hOK;have HB4:=Hid.m hb4;have HR4:=Hid.m (HR3.out.below hb4);clear hOK hb4 hK4 r0 r1 s0 s1 l1;obtain ⟨r0,r1,s0,s1,l1⟩:=HR4.out)
  | (go_at_call 271;refine (clone_any _ aT T cT (by first | exact HT2.out | exact HT2.out.below (Below.refl _ _).drew) HLT.out).mono ?_;rintro e w3 ⟨vT,rfl,hOT,hb3⟩;have HB3:Hid (Below w2.heap.size w2 w3):=(by first | exact hb3 | exact below_drew0 hb3);have HOT:Hid (OwnTs w3 w2.heap.size vT T):=hOT;obtain ⟨aT',cT',rfl,hT3⟩:=hOT.tl;have HA3:=Hid.m (HA.out.below HB3.out);have HR3:=Hid.m (HR.out.below HB3.out);clear hOT hb3 hT3 c0 c1 f0 f1 l0;obtain ⟨c0,c1,f0,f1,l0⟩:=HA3.out))
 all_goals
  go_wp2
  obtain ⟨q0,q1,_,_,_⟩:=(HR4.out.set0 (.slice aT' T.length cT')).set1 (.slice aK' K.length cK')
  try simp only [Exit.inBlock,Exit.then]
  refine bodyPost_ret (v:=.agg #[.slice aT' T.length cT',.slice aK' K.length cK']) (by simp [results,Tryz.results237,go_sem,q0,q1]) rfl ⟨aT',cT',aK',cK',rfl,?_,?_⟩
  ·have h1:OwnTs w4 w.heap.size (.slice aT' T.length cT') T:=(HOT.out.below HB4.out).base (by rw [hs2.out];omega)
   have h2:OwnTs w4 w.heap.size (.slice aK' K.length cK') K:=HOK.out.base (Nat.le_trans (by rw [hs2.out];omega) HB3.out.size)
   have ap:∀ g,(Value.slice aT' T.length cT').ownBlock=some g→(Value.slice aK' K.length cK').ownBlock≠some g:=fun g hg e=>by
    have e1:=(HOT.out.lt g hg).2
    have e2:=(HOK.out.lt g e).1
    omega
   have far:∀ g,(Value.slice aT' T.length cT').ownBlock=some g∨(Value.slice aK' K.length cK').ownBlock=some g→g≠w.heap.size+1:=fun g hg=>by
    have e0:=hs2.out
    rcases hg with hg | hg
    ·have:=(HOT.out.lt g hg).1
     omega
    ·have:=(HOK.out.lt g hg).1
     have:=HB3.out.size
     omega
   exact ((Rw.mk h1 h2 ap).set ⟨w.heap.size+1,0,none⟩ _ far).set ⟨w.heap.size+1,1,none⟩ _ far
  ·have hb:Below w.heap.size w w4:=(HB2.out.trans (HB3.out.mono HB2.out.size)).trans (HB4.out.mono (Nat.le_trans HB2.out.size HB3.out.size))
   exact (hb.setCell (by simp) _).setCell (by simp) _
end Go.Proofs.YtcdpiefflnaghaaGreatDoor.Lr
