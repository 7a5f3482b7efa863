/-
  Package engine and what stands beneath it, part 20: contracts of functions, and what they rest on.
-/
import Derived.Sort.OwnSorted
import Derived.Test.YtcdpiefflnaghaaGreatDoorU19
set_option linter.unusedSimpArgs false
set_option linter.unusedVariables false
set_option maxRecDepth 100000
namespace Go.Proofs.YtcdpiefflnaghaaGreatDoor.Wh
open Go.Proofs.YtcdpiefflnaghaaGreatDoor.Me
open Go.RowKit Go.Shelf Go.Lib Go.Sort
instance:Inhabited Nm:=⟨⟨0,⟨#[]⟩⟩⟩
def sortT (D:List NU):List NU:=D.mergeSort (fun x y=>!(ltOf cmpT y x))
theorem sortT_perm (D:List NU):(sortT D).Perm D:=List.mergeSort_perm _ _
theorem sortT_rise {D:List NU}(h:D.Pairwise (fun p q=>p.1≠q.1)):(sortT D).Pairwise tlt:=by
 have h1:(sortT D).Pairwise (fun x y=>(!(ltOf cmpT y x))=true):=List.pairwise_mergeSort (fun a b c hab hbc=>by
  rw [cmpT_lt] at *
  simp at *
  exact tlt_ntrans hbc hab) (fun a b=>by
  rw [cmpT_lt,cmpT_lt]
  simp
  by_cases hba:tlt b a
  ·exact .inr (fun hab=>tlt_irrefl a (tlt_trans hab hba))
  ·exact .inl hba) D
 have h2:(sortT D).Pairwise (fun p q=>p.1≠q.1):=((sortT_perm D).symm.pairwise_iff (fun {_ _} hne=>Ne.symm hne)).1 h
 refine (h1.and h2).imp (fun {x y} hxy=>?_)
 obtain ⟨a,b⟩:=hxy
 rw [cmpT_lt] at a
 simp at a
 refine Classical.byContradiction fun hn=>b ?_
 rw [tlt_total hn a]
theorem grownBy_sortK {w:World}{g n:Nat}{os:Array Obj}(d:Array NU):w.grownBy (sortWorldK tcells 3 w g 0 n d os) (some g):=by
 unfold sortWorldK putRowK
 refine ⟨rfl,rfl,rfl,by simp,fun k hk hne=>?_⟩
 rw [heap_grow_old _ _ (by simpa using hk)]
 have:g≠k:=fun e=>hne (by rw [e])
 simp [putRow,mapBlock,Sort.ahead,Array.getElem?_modify,this]
theorem sort_any (w:World)(base:Nat)(v:Value)(D:List NU)(hT:OwnT w base v D)(hlen:D.length≤100000000):
  Calls Tryz.prog 92 #[v,.func (.func 93) #[] #[]] w fun e w'=>e=.returned (.tuple #[])∧w.grownBy w' v.ownBlock∧∃ ao cap,v=.slice ao (sortT D).length cap∧(sortT D).length≤cap∧cap≤maxLen∧TAt w' ao (sortT D):=by
 have hSl:(sortT D).length=D.length:=(sortT_perm D).length_eq
 rcases h2:hT.2 with ⟨e1,hn⟩ | ⟨g,cap,cur,e1,hb,hg,hnc,hcm,hcs,htake⟩
 ·have hD:D=[]:=List.eq_nil_of_length_eq_zero hn
  subst hD e1
  refine (AnyF.slices_SortFunc_none Tryz.sortT none 0 (.func (.func 93) #[] #[]) w).mono ?_
  rintro e w' ⟨rfl,rfl⟩
  exact ⟨rfl,World.grownBy.refl _ _,none,0,by rw [hSl];rfl,by simp [sortT],by simp [maxLen],.inl (by simp [sortT])⟩
 ·subst e1
  have hgl:g<w.heap.size:=(Array.getElem?_eq_some_iff.1 hg).1
  have hH:HoldsK tcells 3 w g 0 D.toArray:=by
   intro j hj
   have hj2:j<D.length * 3:=by simpa using hj
   have hi:j / 3<D.length:=by omega
   refine ⟨?_,by simp [World.frozen?,hg]⟩
   have h1:=flatT_get D (j / 3) (j % 3) hi (by omega)
   rw [show j / 3 * 3+j % 3=j by omega] at h1
   have h3:=World.ownsRow.cells hT (g:=g) rfl j _ h1
   rw [Me.addr_add] at h3
   rw [h3,get_flatK _ _ _ _ (by simpa using hj2)]
   congr 1
   have e2:D.toArray[j / 3]! = D[j / 3]:=by simp [hi]
   rw [e2]
   show _=id _
   have:j % 3=0∨j % 3=1∨j % 3=2:=by omega
   rcases this with h | h | h <;> simp [h,tcells]
  have eg:∀ args w,(callFunc 93 args).run Tryz.prog w=.ok (.enter 93 args) w:=enters_of Tryz.func93 (by kernel_rfl) rfl
  have hcon:=AnyQ.slices_SortFunc_total Tryz.sortT 3 Tryz.isAgg179 Tryz.sizeOf179 tcells (fun _=>rfl) tcells_one cmpT cmpT_swo 93 #[] g 0 cap D.toArray w eg (fun _ _ _ _ x y=>byMoment_any x y _) hH hgl (by simp;omega) cmpT_total
  have hl:D.toArray.size=D.length:=by simp
  rw [hl] at hcon
  refine hcon.mono ?_
  rintro e w' ⟨rfl,n,os,rfl⟩
  refine ⟨rfl,grownBy_sortK _,some ⟨g,0,none⟩,cap,by rw [hSl],by omega,hcm,.inr ⟨g,0,rfl,?_,fun i hi=>?_⟩⟩
  ·exact Nat.lt_of_lt_of_le hgl (grownBy_sortK (w:=w) (g:=g) (n:=n) (os:=os) _).size
  ·have hK:=holdsK_sortWorldK_c tcells 3 w g 0 D.toArray (sortT D).toArray n os hH hgl (by simp [hSl])
   have e2:(sortT D).toArray[i]! = (sortT D)[i]:=by simp [hi]
   have a0:=(hK.cell (i:=i) (c:=0) (by simpa using hi) (by omega)).1
   have a1:=(hK.cell (i:=i) (c:=1) (by simpa using hi) (by omega)).1
   have a2:=(hK.cell (i:=i) (c:=2) (by simpa using hi) (by omega)).1
   rw [e2] at a0 a1 a2
   exact ⟨a0,a1,a2⟩
end Go.Proofs.YtcdpiefflnaghaaGreatDoor.Wh
namespace Go.Proofs.YtcdpiefflnaghaaGreatDoor.Wh
open Go.Proofs.YtcdpiefflnaghaaGreatDoor.Me
open Go.RowKit
def wheel0 (now:Int)(b:Nat):Array Value:=(Value.pointer none::.int .i64 now::.map (some b)::List.replicate 448 (.map none)).toArray
theorem zero0 (now:Int)(b:Nat):(Tryz.zeroCells162.setIfInBounds 1 (.int .i64 now)).setIfInBounds 2 (.map (some b))=wheel0 now b:=by kernel_rfl
set_option maxHeartbeats 400000 in
theorem new_any (w:World)(now:Nat)(hn:now≤1099511627776):
  Calls Tryz.prog 38 #[.int .i64 now] w fun e w'=>∃ p,e=.returned (.tuple #[.pointer (some ⟨p,0,none⟩),.int .i64 0])∧w.heap.size≤p∧Below w.heap.size w w'∧∃ b0,Wh w' p now [] [] b0 (fun _=>none) 0∧w.heap.size≤b0:=by
 have h1:¬ (now:Int)<0:=by omega
 have h2:¬ (1099511627776:Int)<(now:Int):=by omega
 have hd1:decide ((now:Int)<0)=false:=by simp
 have hd2:decide ((1099511627776:Int)<(now:Int))=false:=by simp;omega
 have hmm:=@run_makeMap Tryz.prog
 go_enter Tryz.func38,Tryz.ntmps38
 go_upto_region 4 with fail
 obtain ⟨wA,hwA⟩:∃ wA,wA=(w.alloc (.map #[] 0)).alloc (.cells (wheel0 now w.heap.size) 162):=⟨_,rfl⟩
 have hbA:Below w.heap.size w wA:=by rw [hwA];exact ((Below.refl _ _).alloc (Nat.le_refl _) _).alloc (by simp) _
 have hc:∀ j,wA.cell? ⟨w.heap.size+1,j,none⟩=(wheel0 now w.heap.size)[j]?:=fun j=>by
  rw [hwA]
  simp
 have hf:∀ j,wA.frozen? ⟨w.heap.size+1,j,none⟩=false:=fun j=>by
  rw [hwA]
  simp
 have hm:Mp wA w.heap.size 0 []:=by
  rw [hwA]
  exact (Mp.made w).kept (World.grownBy_alloc _ _ none) (by simp)
 have hc0:wA.cell? ⟨w.heap.size+1,0,none⟩=some (.pointer none):=(hc 0).trans rfl
 have hf0:=hf 0
 have HC:=Hid.m hc
 have HF:=Hid.m hf
 rw [zero0 now w.heap.size,← hwA]
 clear hwA hc hf hmm
 go_wp2
 go_ret2
 have hne:∀ j,j≠0→(wA.setCell ⟨w.heap.size+1,0,none⟩ (.pointer (some ⟨w.heap.size+1,0,none⟩))).cell? ⟨w.heap.size+1,j,none⟩=(wheel0 now w.heap.size)[j]?:=fun j hj=>by
  rw [World.cell?_setCell_other _ _ _ _ (fun e=>by first | exact hj (congrArg Addr.off e) | exact hj (congrArg Addr.off e).symm)]
  exact HC.out j
 refine ⟨w.heap.size+1,rfl,by omega,hbA.setCell (by simp) _,w.heap.size,⟨World.cell?_setCell_same _ _ _ hc0,(hne 1 (by omega)).trans rfl,(hne 2 (by omega)).trans rfl,fun i hi=>?_,fun i=>?_,hn,hm.setCell (by simp) _,fun i b hi e=>(by cases e),fun i hi e q hq=>(by cases hq),fun q hq=>(by cases hq),List.Pairwise.nil,fun i j b hi hj e=>(by cases e),by omega,fun i hi e=>(by cases e),fun i hi e=>(by cases e)⟩,Nat.le_refl _⟩
 ·rw [hne (3+i) (by omega)]
  unfold wheel0
  rw [List.getElem?_toArray,show 3+i=i+1+1+1 by omega,List.getElem?_cons_succ,List.getElem?_cons_succ,List.getElem?_cons_succ]
  rw [List.getElem?_replicate,if_pos hi]
 ·rw [World.frozen?_setCell]
  exact HF.out i
theorem new_bad (w:World)(now:Int)(hn:now<0∨1099511627776<now):
  Calls Tryz.prog 38 #[.int .i64 now] w fun e w'=>e=.returned (.tuple #[.pointer none,.int .i64 2])∧w'=w:=by
 by_cases h1:now<0
 ·go_enter Tryz.func38,Tryz.ntmps38
  go_wp2
  go_ret2
  exact ⟨rfl,rfl⟩
 ·have hd1:decide (now<0)=false:=by simpa using h1
  have h2:1099511627776<now:=by omega
  go_enter Tryz.func38,Tryz.ntmps38
  go_wp2
  go_ret2
  exact ⟨rfl,rfl⟩
theorem ptr_same (p:Nat)(W:World):(binOp .eql 92 (.pointer (some ⟨p,0,none⟩)) (.pointer (some ⟨p,0,none⟩))).run Tryz.prog W=.ok (.bool true) W:=by
 have h9:(Op.equalIn (9999+1) 92 (.pointer (some ⟨p,0,none⟩)) (.pointer (some ⟨p,0,none⟩))).run Tryz.prog W=.ok true W:=by
  have hse:(Go.sizeOf 162).run Tryz.prog W=.ok 451 W:=by kernel_rfl
  rw [Op.equalIn]
  simp only [Sem.run_bind,run_underlying Tryz.underlying92,Result.andThen_ok]
  simp [hse,sameAddr]
 simp only [binOp]
 have:(Op.equal 92 (.pointer (some ⟨p,0,none⟩)) (.pointer (some ⟨p,0,none⟩))).run Tryz.prog W=.ok true W:=h9
 simp [this]
theorem isMade_any (w:World)(p:Nat)(h:w.cell? ⟨p,0,none⟩=some (.pointer (some ⟨p,0,none⟩))):
  Calls Tryz.prog 90 #[.pointer (some ⟨p,0,none⟩)] w fun e w'=>e=.returned (.bool true)∧w'=w:=by
 have hps:=fun W=>ptr_same p W
 go_enter Tryz.func90,Tryz.ntmps90
 go_wp2
 go_ret
 exact ⟨rfl,rfl⟩
theorem mayBe_any (w:World)(y:Nm):
  Calls Tryz.prog 262 #[.agg #[.int .i64 y.tenant,.string y.key]] w fun e w'=>e=.returned (.bool (decide y.ok))∧w'=w.alloc (.cells #[.int .i64 y.tenant,.string y.key] 119):=by
 obtain ⟨t,k⟩:=y
 unfold Nm.ok
 simp only []
 by_cases h1:0≤t
 ·by_cases h2:t<4
  ·by_cases h3:1≤(k.size:Int)
   ·by_cases h4:(k.size:Int)≤32
    ·go_enter Tryz.func262,Tryz.ntmps262
     go_wp2
     go_ret
     exact ⟨by simp [h1,h2];omega,rfl⟩
    ·have h4':decide ((k.size:Int)≤32)=false:=by simpa using h4
     go_enter Tryz.func262,Tryz.ntmps262
     go_wp2
     go_ret
     exact ⟨by simp [h1,h2];omega,rfl⟩
   ·have h3':decide (1≤(k.size:Int))=false:=by simpa using h3
    go_enter Tryz.func262,Tryz.ntmps262
    go_wp2
    go_ret
    exact ⟨by simp [h1,h2];omega,rfl⟩
  ·have h2':decide (t<4)=false:=by simpa using h2
   go_enter Tryz.func262,Tryz.ntmps262
   go_wp2
   go_ret
   exact ⟨by simp [h1,h2],rfl⟩
 ·have h1':decide (0≤t)=false:=by simpa using h1
  have hz:decide (0≤t∧t<4∧1≤k.size∧k.size≤32)=false:=decide_eq_false (fun h=>h1 h.1)
  rw [hz]
  clear hz
  go_enter Tryz.func262,Tryz.ntmps262
  go_wp2
  go_ret
  exact ⟨rfl,rfl⟩
theorem now_any (w:World)(p now:Nat)(L:List NU)(b0:Nat)(mb:Nat→Option Nat)(N:Nat)(h:Wh w p now L L b0 mb N):
  Calls Tryz.prog 89 #[.pointer (some ⟨p,0,none⟩)] w fun e w'=>e=.returned (.tuple #[.int .i64 now,.int .i64 0])∧w'=w:=by
 have h1:=isMade_any w p h.self
 have h2:=h.nowc
 clear h
 go_enter Tryz.func89,Tryz.ntmps89
 go_wp2_with (go_at_call 90;refine h1.mono ?_;rintro e w' ⟨rfl,rfl⟩)
 go_ret2
 exact ⟨rfl,rfl⟩
theorem until_any (w:World)(p now:Nat)(L:List NU)(b0:Nat)(mb:Nat→Option Nat)(N:Nat)(h:Wh w p now L L b0 mb N)(y:Nm):
  Calls Tryz.prog 218 #[.pointer (some ⟨p,0,none⟩),.agg #[.int .i64 y.tenant,.string y.key]] w fun e w'=>Below w.heap.size w w'∧
   ((¬ y.ok∧e=.returned (.tuple #[.int .i64 0,.int .i64 8]))∨(y.ok∧(∀ q∈L,q.1≠y)∧e=.returned (.tuple #[.int .i64 0,.int .i64 6]))∨(y.ok∧∃ u,(y,u)∈L∧e=.returned (.tuple #[.int .i64 u,.int .i64 0]))):=by
 have hbA:Below w.heap.size w (w.alloc (.cells #[.int .i64 y.tenant,.string y.key] 119)):=alb w _
 have hlt:=h.lt (.inl rfl)
 obtain ⟨wA,hwA⟩:∃ wA,wA=w.alloc (.cells #[.int .i64 y.tenant,.string y.key] 119):=⟨_,rfl⟩
 rw [← hwA] at hbA
 have hA:=h.below hbA
 have x0:wA.cell? ⟨w.heap.size,0,none⟩=some (.int .i64 y.tenant):=by rw [hwA];simp
 have x1:wA.cell? ⟨w.heap.size,1,none⟩=some (.string y.key):=by rw [hwA];simp
 have hsA:wA.heap.size=w.heap.size+1:=by rw [hwA];simp
 have HI:=Hid.m (isMade_any wA p hA.self)
 have HM:=Hid.m (mayBe_any wA y)
 by_cases hy:y.ok
 ·have hyd:decide y.ok=true:=by simpa using hy
  rw [hyd] at HM
  obtain ⟨wB,hwB⟩:∃ wB,wB=wA.alloc (.cells #[.int .i64 y.tenant,.string y.key] 119):=⟨_,rfl⟩
  have hbB:Below wA.heap.size wA wB:=by rw [hwB];exact alb _ _
  rw [← hwB] at HM
  have hB:=hA.below hbB
  have z0:=(hbB.cell (p:=⟨w.heap.size,0,none⟩) (by show w.heap.size<wA.heap.size;omega)).trans x0
  have z1:=(hbB.cell (p:=⟨w.heap.size,1,none⟩) (by show w.heap.size<wA.heap.size;omega)).trans x1
  have huc:=hB.untilc
  have HBE:Hid (Below w.heap.size w wB.drew):=(hbA.trans (hbB.mono (by omega))).drew
  rcases mp_look_run hB.drew.um y hy with ⟨u,hm,hr⟩ | ⟨hno,hr⟩
  ·have HME:=Hid.m hm
   clear hm hA hB hbA hbB h hwB
   go_enter Tryz.func218,Tryz.ntmps218
   go_upto_region 1 with fail
   rw [← hwA]
   clear hwA
   go_upto_region 5 with (first
    | (go_at_call 90;refine HI.out.mono ?_;rintro e w' ⟨rfl,rfl⟩)
    | (go_at_call 262;refine HM.out.mono ?_;rintro e w' ⟨rfl,rfl⟩))
   go_region
   go_wp2
   go_ret2
   exact ⟨HBE.out,.inr (.inr ⟨hy,u,HME.out,rfl⟩)⟩
  ·have HNO:=Hid.m hno
   clear hno hA hB hbA hbB h hwB
   go_enter Tryz.func218,Tryz.ntmps218
   go_upto_region 1 with fail
   rw [← hwA]
   clear hwA
   go_upto_region 5 with (first
    | (go_at_call 90;refine HI.out.mono ?_;rintro e w' ⟨rfl,rfl⟩)
    | (go_at_call 262;refine HM.out.mono ?_;rintro e w' ⟨rfl,rfl⟩))
   go_region
   go_wp2
   go_ret2
   exact ⟨HBE.out,.inr (.inl ⟨hy,HNO.out,rfl⟩)⟩
 ·have hyd:decide y.ok=false:=by simpa using hy
  rw [hyd] at HM
  have HBE:Hid (Below w.heap.size w (wA.alloc (.cells #[.int .i64 y.tenant,.string y.key] 119))):=hbA.alloc (by omega) _
  clear hA hbA h
  go_enter Tryz.func218,Tryz.ntmps218
  go_upto_region 1 with fail
  rw [← hwA]
  clear hwA
  go_wp2_with (first
   | (go_at_call 90;refine HI.out.mono ?_;rintro e w' ⟨rfl,rfl⟩)
   | (go_at_call 262;refine HM.out.mono ?_;rintro e w' ⟨rfl,rfl⟩))
  go_ret2
  exact ⟨HBE.out,.inl ⟨hy,rfl⟩⟩
end Go.Proofs.YtcdpiefflnaghaaGreatDoor.Wh
namespace Go.Proofs.YtcdpiefflnaghaaGreatDoor.Wh
open Go.Proofs.YtcdpiefflnaghaaGreatDoor.Me
open Go.RowKit
def addE (now:Nat)(y:Nm)(u:Int):Int:=if y.ok then (if u≤(now:Int)∨1099511627776<u then 2 else 0) else 8
def addL (L:List NU)(now:Nat)(y:Nm)(u:Int):List NU:=if addE now y u=0 then (y,u)::strike y L else L
set_option maxHeartbeats 1000000 in
theorem add_any (w:World)(p now:Nat)(L:List NU)(b0:Nat)(mb:Nat→Option Nat)(N:Nat)(h:Wh w p now L L b0 mb N)(hN:N<100000000)(y:Nm)(u:Int):
  Calls Tryz.prog 240 #[.pointer (some ⟨p,0,none⟩),.agg #[.int .i64 y.tenant,.string y.key],.int .i64 u] w fun e w'=>e=.returned (.int .i64 (addE now y u))∧
   ∃ mb',Wh w' p now (addL L now y u) (addL L now y u) b0 mb' (N+2)∧Kept (Foot p b0 mb) w w'∧∀ k,Foot p b0 mb' k→Foot p b0 mb k∨w.heap.size≤k:=by
 have hbA:Below w.heap.size w (w.alloc (.cells #[.int .i64 y.tenant,.string y.key] 119)):=alb w _
 have hlt:=h.lt (.inl rfl)
 obtain ⟨wA,hwA⟩:∃ wA,wA=w.alloc (.cells #[.int .i64 y.tenant,.string y.key] 119):=⟨_,rfl⟩
 rw [← hwA] at hbA
 have hA:=h.below hbA
 have x0:wA.cell? ⟨w.heap.size,0,none⟩=some (.int .i64 y.tenant):=by rw [hwA];simp
 have x1:wA.cell? ⟨w.heap.size,1,none⟩=some (.string y.key):=by rw [hwA];simp
 have xf:wA.frozen? ⟨w.heap.size,1,none⟩=false:=by rw [hwA];simp
 have hsA:wA.heap.size=w.heap.size+1:=by rw [hwA];simp
 have HI:=Hid.m (isMade_any wA p hA.self)
 have HM:=Hid.m (mayBe_any wA y)
 by_cases hy:y.ok
 ·have hyd:decide y.ok=true:=by simpa using hy
  rw [hyd] at HM
  obtain ⟨wB,hwB⟩:∃ wB,wB=wA.alloc (.cells #[.int .i64 y.tenant,.string y.key] 119):=⟨_,rfl⟩
  have hbB:Below wA.heap.size wA wB:=by rw [hwB];exact alb _ _
  rw [← hwB] at HM
  have hB:=hA.below hbB
  have z0:=(hbB.cell (p:=⟨w.heap.size,0,none⟩) (by show w.heap.size<wA.heap.size;omega)).trans x0
  have z1:=(hbB.cell (p:=⟨w.heap.size,1,none⟩) (by show w.heap.size<wA.heap.size;omega)).trans x1
  have zf:=(hbB.frozen (p:=⟨w.heap.size,1,none⟩) (by show w.heap.size<wA.heap.size;omega)).trans xf
  have hnc:=hB.nowc
  have hb0B:Below w.heap.size w wB:=hbA.trans (hbB.mono (by omega))
  by_cases hbad:u≤(now:Int)∨1099511627776<u
  ·have e1:addE now y u=2:=by unfold addE;rw [if_pos hy,if_pos hbad]
   have e2:addL L now y u=L:=by unfold addL;rw [e1,if_neg (by decide)]
   rw [e1,e2]
   have HW:=Hid.m (hB.mono (show N≤N+2 by omega))
   have HB:=Hid.m hb0B
   have hcase:(u≤(now:Int))∨(decide (u≤(now:Int))=false∧¬ u≤(now:Int)∧1099511627776<u):=by
    by_cases c:u≤(now:Int)
    ·exact .inl c
    ·exact .inr ⟨by simpa using c,c,by omega⟩
   clear hA hB hbA hbB hb0B h hwB hbad e1 e2
   go_enter Tryz.func240,Tryz.ntmps240
   go_upto_region 1 with fail
   rw [← hwA]
   clear hwA
   rcases hcase with hc | ⟨hc1,hc2,hc3⟩
   all_goals
    go_wp2_with (first
     | (go_at_call 90;refine HI.out.mono ?_;rintro e w' ⟨rfl,rfl⟩)
     | (go_at_call 262;refine HM.out.mono ?_;rintro e w' ⟨rfl,rfl⟩))
    go_ret
    exact ⟨rfl,mb,HW.out,Kept.below HB.out,fun k hk=>.inl hk⟩
  ·have e1:addE now y u=0:=by unfold addE;rw [if_pos hy,if_neg hbad]
   have e2:addL L now y u=(y,u)::strike y L:=by unfold addL;rw [if_pos e1]
   rw [e1,e2]
   have h1:¬ u≤(now:Int):=by omega
   have h2:¬ (1099511627776:Int)<u:=by omega
   have hd1:decide (u≤(now:Int))=false:=by simpa using h1
   have hd2:decide ((1099511627776:Int)<u)=false:=by simpa using h2
   obtain ⟨v,rfl⟩:∃ v:Nat,u=(v:Int):=⟨u.toNat,by omega⟩
   have HLV:=Hid.m (leave_any wB p now L b0 mb N hB y hy)
   have HB:=Hid.m hb0B
   have hnf:¬ Foot p b0 mb w.heap.size:=fun hf=>by have:=h.lt hf;omega
   have HNF:=Hid.m hnf
   have hsB:wB.heap.size=w.heap.size+2:=by rw [hwB];simp [hsA]
   clear hA hB hbA hbB hb0B h hwB hbad e1 e2 hnf
   go_enter Tryz.func240,Tryz.ntmps240
   go_upto_region 1 with fail
   rw [← hwA]
   clear hwA
   go_upto_region 8 with (first
    | (go_at_call 90;refine HI.out.mono ?_;rintro e w' ⟨rfl,rfl⟩)
    | (go_at_call 262;refine HM.out.mono ?_;rintro e w' ⟨rfl,rfl⟩)
    | (go_at_call 219;refine HLV.out.mono ?_;rintro e w1 ⟨rfl,mb1,hW1,hK1,hF1⟩))
   have hbl:=hK1.block w.heap.size (by omega) HNF.out
   have q0:w1.cell? ⟨w.heap.size,0,none⟩=some (.int .i64 y.tenant):=(World.cell?_of_block hbl).trans z0
   have q1:w1.cell? ⟨w.heap.size,1,none⟩=some (.string y.key):=(World.cell?_of_block hbl).trans z1
   have qf:w1.frozen? ⟨w.heap.size,1,none⟩=false:=(World.frozen?_of_block hbl).trans zf
   have hks:y.key.size≤281474976710656:=by have:=hy.2.2.2;omega
   have HCL:=Hid.m (clone_any y.key w1 hks)
   have HF1:Hid (¬ Foot p b0 mb1 w.heap.size):=fun hf=>by
    rcases hF1 _ hf with g | g
    ·exact HNF.out g
    ·omega
   have hs1:=hK1.size
   go_upto_region 9 with (go_at_call 171;refine HCL.out.mono ?_;rintro e w2 ⟨rfl,hb2⟩;have r0:=(hb2.cell (p:=⟨w.heap.size,0,none⟩) (by show w.heap.size<w1.heap.size;omega)).trans q0;have r1:=(hb2.cell (p:=⟨w.heap.size,1,none⟩) (by show w.heap.size<w1.heap.size;omega)).trans q1;have rf:=(hb2.frozen (p:=⟨w.heap.size,1,none⟩) (by show w.heap.size<w1.heap.size;omega)).trans qf)
   have hs2:=hb2.size
   obtain ⟨w3,hw3⟩:∃ w3,w3=w2.setCell ⟨w.heap.size,1,none⟩ (.string y.key):=⟨_,rfl⟩
   have hs3:w3.heap.size=w2.heap.size:=by rw [hw3];simp
   have hW3:Wh w3 p now (strike y L) (strike y L) b0 mb1 N:=by
    rw [hw3]
    exact (hW1.below hb2).kept (Kept.grown (F:=fun k=>k=w.heap.size) (grown_set w2 w.heap.size 1 (.string y.key)) (fun k hk=>by cases hk;exact .inl rfl)) (fun k hk e=>HF1.out (e ▸ hk))
   have hK3:Kept (Foot p b0 mb) w w3:=by
    rw [hw3]
    have k1:=(Kept.below (F:=Foot p b0 mb) HB.out).trans hK1 (fun k hk=>.inl hk)
    have k2:=k1.trans (Kept.below (F:=Foot p b0 mb) hb2) (fun k hk=>.inl hk)
    exact k2.trans (Kept.grown (F:=fun k=>k=w.heap.size) (grown_set w2 w.heap.size 1 (.string y.key)) (fun k hk=>by cases hk;exact .inl rfl)) (fun k hk=>.inr (by omega))
   have t0:w3.cell? ⟨w.heap.size,0,none⟩=some (.int .i64 y.tenant):=by rw [hw3,World.cell?_setCell_other _ _ _ _ (by simp)];exact r0
   have t1:w3.cell? ⟨w.heap.size,1,none⟩=some (.string y.key):=by rw [hw3];exact World.cell?_setCell_same _ _ _ r1
   rw [← hw3]
   clear hw3 r0 r1 rf q0 q1 qf
   have HST:=Hid.m (stand_any w3 p now _ _ b0 mb1 N hW3 y hy v (by omega) (by omega) (fun q hq=>(mem_strike.1 hq).2) (by omega))
   go_wp2_with (go_at_call 194;refine HST.out.mono ?_;rintro e w4 ⟨rfl,mb4,hW4,hK4,hF4⟩)
   go_ret
   rw [strike_none (fun q hq=>(mem_strike.1 hq).2)] at hW4
   have hF13:∀ k,Foot p b0 mb1 k→Foot p b0 mb k∨w.heap.size≤k:=fun k hk=>(hF1 k hk).imp id (fun g=>by omega)
   refine ⟨rfl,mb4,hW4,hK3.trans hK4 hF13,fun k hk=>?_⟩
   rcases hF4 k hk with g | g
   ·exact hF13 k g
   ·exact .inr (by have:=hK3.size;omega)
 ·have hyd:decide y.ok=false:=by simpa using hy
  rw [hyd] at HM
  have e1:addE now y u=8:=by unfold addE;rw [if_neg hy]
  have e2:addL L now y u=L:=by unfold addL;rw [e1,if_neg (by decide)]
  rw [e1,e2]
  have hbB:Below w.heap.size w (wA.alloc (.cells #[.int .i64 y.tenant,.string y.key] 119)):=hbA.alloc (by omega) _
  have HW:=Hid.m ((h.below hbB).mono (show N≤N+2 by omega))
  have HB:=Hid.m hbB
  clear hA hbA hbB h e1 e2
  go_enter Tryz.func240,Tryz.ntmps240
  go_upto_region 1 with fail
  rw [← hwA]
  clear hwA
  go_wp2_with (first
   | (go_at_call 90;refine HI.out.mono ?_;rintro e w' ⟨rfl,rfl⟩)
   | (go_at_call 262;refine HM.out.mono ?_;rintro e w' ⟨rfl,rfl⟩))
  go_ret
  exact ⟨rfl,mb,HW.out,Kept.below HB.out,fun k hk=>.inl hk⟩
end Go.Proofs.YtcdpiefflnaghaaGreatDoor.Wh
namespace Go.Proofs.YtcdpiefflnaghaaGreatDoor.Wh
open Go.Proofs.YtcdpiefflnaghaaGreatDoor.Me
open Go.RowKit Go.Sort
theorem Tryz.infoName:(Tryz.prog.info? 119).map (fun i=>(i.zero,i.size,i.bytes))=some (some (.agg #[.int .i64 0,.string ⟨#[]⟩]),2,24):=by kernel_rfl
structure NmAt (w:World)(base g:Nat)(ns:List Nm):Prop where
 le:base≤g
 lt:g<w.heap.size
 cells:∀ i (hi:i<ns.length),w.cell? ⟨g,i * 2,none⟩=some (.int .i64 ns[i].tenant)∧w.cell? ⟨g,i * 2+1,none⟩=some (.string ns[i].key)
 free:∀ j,w.frozen? ⟨g,j,none⟩=false
theorem tick_bad (w:World)(p now:Nat)(L:List NU)(b0:Nat)(mb:Nat→Option Nat)(N:Nat)(h:Wh w p now L L b0 mb N)(t:Int)(ht:t<(now:Int)∨1099511627776<t):
  Calls Tryz.prog 49 #[.pointer (some ⟨p,0,none⟩),.int .i64 t] w fun e w'=>e=.returned (.tuple #[.slice none 0 0,.int .i64 2])∧w'=w:=by
 have h1:=isMade_any w p h.self
 have h2:=h.nowc
 clear h
 by_cases hc:t<(now:Int)
 ·go_enter Tryz.func49,Tryz.ntmps49
  go_wp2_with (go_at_call 90;refine h1.mono ?_;rintro e w' ⟨rfl,rfl⟩)
  go_ret2
  exact ⟨rfl,rfl⟩
 ·have hc1:decide (t<(now:Int))=false:=by simpa using hc
  have hc2:1099511627776<t:=by omega
  go_enter Tryz.func49,Tryz.ntmps49
  go_wp2_with (go_at_call 90;refine h1.mono ?_;rintro e w' ⟨rfl,rfl⟩)
  go_ret2
  exact ⟨rfl,rfl⟩
set_option maxHeartbeats 2000000 in
theorem tick_len (w:World)(p now:Nat)(L:List NU)(b0:Nat)(mb:Nat→Option Nat)(N:Nat)(h:Wh w p now L L b0 mb N)(hN:N≤1000000)(t:Nat)(ht:now≤t)(ht2:t≤1099511627776):
  Calls Tryz.prog 49 #[.pointer (some ⟨p,0,none⟩),.int .i64 t] w fun e w'=>∃ (g:Nat) (S:List NU),e=.returned (.tuple #[.slice (some ⟨g,0,none⟩) S.length S.length,.int .i64 0])∧NmAt w' w.heap.size g (S.map Prod.fst)∧S.Perm (dueOf t L)∧S.Pairwise tlt∧
   ∃ mb',Wh w' p t (restOf t L) (restOf t L) b0 mb' (N+2 * L.length)∧Kept (Foot p b0 mb) w w'∧(∀ k,Foot p b0 mb' k→Foot p b0 mb k∨w.heap.size≤k)∧¬ Foot p b0 mb' g:=by
 have h1:=isMade_any w p h.self
 have h2:=h.nowc
 have hlt:=h.lt (.inl rfl)
 have hlen:=h.um.len
 have HTU:=Hid.m (turn_len w p now L b0 mb N h t ht ht2 hN)
 have HAP:=Hid.m h.apart
 have hc1:¬ (t:Int)<(now:Int):=by omega
 have hd1:decide ((t:Int)<(now:Int))=false:=by simpa using hc1
 have hc2:¬ (1099511627776:Int)<(t:Int):=by omega
 have hd2:decide ((1099511627776:Int)<(t:Int))=false:=by simpa using hc2
 clear h
 go_enter Tryz.func49,Tryz.ntmps49
 go_upto_region 6 with (first
  | (go_at_call 90;refine h1.mono ?_;rintro e w0 ⟨rfl,hw0⟩;obtain rfl:w=w0:=hw0.symm)
  | (go_at_call 91;refine HTU.out.mono ?_;rintro e w1 ⟨v1,rfl,D,hD,hDP,mb1,hW1,hK1,hF1⟩))
 have hDl:D.length≤N:=by have:=hDP.length_eq;have h3:(dueOf t L).length≤L.length:=List.length_filter_le _ _;omega
 have hDap:D.Pairwise (fun p q=>p.1≠q.1):=(hDP.symm.pairwise_iff (fun {_ _} hne=>Ne.symm hne)).1 (HAP.out.filter _)
 have HSO:=Hid.m (sort_any w1 w.heap.size v1 D hD (by omega))
 have hSp:=sortT_perm D
 have hSr:=sortT_rise hDap
 have hSl:(sortT D).length≤N:=by have:=hSp.length_eq;omega
 obtain ⟨S,hS⟩:∃ S,S=sortT D:=⟨_,rfl⟩
 rw [← hS] at HSO hSp hSr hSl
 have HPE:=Hid.m (hSp.trans hDP)
 have HRI:=Hid.m hSr
 have HW1:=Hid.m hW1
 have HK1:=Hid.m hK1
 have HF1:=Hid.m hF1
 have hs1:=hK1.size
 have HAW:=Hid.m (fun g hg=>hD.away hW1 hlt g hg)
 have HGE:=Hid.m (fun g hg=>(hD.lt g hg).1)
 clear hS hSp hSr hDP hDap hDl hW1 hK1 hF1
 go_upto_region 7 with (go_at_call 92;refine HSO.out.mono ?_;rintro e w2 ⟨rfl,hg2,ao,cap,rfl,hlc,hcm,hTA⟩)
 obtain ⟨i0,hi,hz0,hz1,hz2⟩:=info_parts Tryz.infoName
 have hW2:Wh w2 p t (restOf t L) (restOf t L) b0 mb1 (N+2 * L.length):=HW1.out.kept (Kept.grown (F:=fun g=>(Value.slice ao S.length cap).ownBlock=some g) hg2 (fun g hg=>.inl hg)) (fun g hg e=>HAW.out g e hg)
 have HK2:Hid (Kept (Foot p b0 mb) w w2):=HK1.out.trans (Kept.grown (F:=fun g=>(Value.slice ao S.length cap).ownBlock=some g) hg2 (fun g hg=>.inl hg)) (fun g hg=>.inr (HGE.out g hg))
 have hs2:=hg2.size
 have hmx:S.length≤9223372036854775807:=by omega
 have HW2:=Hid.m hW2
 clear hg2 hW2
 go_wp2_with (at_make;refine wpList_make_full _ rfl (.tmp 29) (.tmp 29) 109 rfl w2.heap.size 119 i0 _ 2 Tryz.underlying109 hi hz0 hz1 .i64 .i64 _ _ S.length rfl rfl (by first | rfl | go_num) (by first | rfl | go_num) (by rw [hz2];omega) (by unfold maxLen;omega) (Nat.le_refl _) ?_;intro w3 hrow3 hg3)
 have hml:(madeCells (Value.agg #[Value.int IntKind.i64 0,Value.string ⟨#[]⟩]).cells (S.length * 2)).toList.length=S.length * 2:=by simp [madeCells]
 have hex3:∀ j,j<S.length * 2→∃ v,w3.cell? ⟨w2.heap.size,j,none⟩=some v:=fun j hj=>by
  have h5:=World.ownsRow.cells hrow3 (g:=w2.heap.size) rfl j _ (List.getElem?_eq_getElem (by rw [hml];exact hj))
  rw [Me.addr_add,Nat.zero_add] at h5
  exact ⟨_,h5⟩
 have hfr3:∀ j,w3.frozen? ⟨w2.heap.size,j,none⟩=false:=fun j=>by
  rcases hrow3.2 with ⟨e,_⟩ | ⟨g,cap',cur,e,_,hg,_⟩
  ·cases e
  ·cases e
   simp [World.frozen?,hg]
 have hlt3:w2.heap.size<w3.heap.size:=(hrow3.lt w2.heap.size rfl).2
 have hb23:Below w2.heap.size w2 w3:=⟨hg3.os,hg3.tape,hg3.output,hg3.size,fun k hk=>hg3.block k hk (by simp)⟩
 have HTA:Hid (TAt w2 ao S):=hTA
 clear hrow3 hg3 hml hTA hi hz0 hz1 hz2
 obtain ⟨g,hg⟩:∃ g,g=w2.heap.size:=⟨_,rfl⟩
 rw [← hg] at hex3 hfr3 hlt3 hb23 ⊢
 have HGq:=Hid.m hg
 clear hg
 go_loopw [33] (fun i wr=>∃ k:Nat,k≤S.length∧i=.int .i64 k∧Below g w2 wr∧g<wr.heap.size∧Hid (∀ j,wr.frozen? ⟨g,j,none⟩=false)∧Hid (∀ j,j<S.length * 2→∃ v,wr.cell? ⟨g,j,none⟩=some v)∧Hid (∀ i (hi:i<S.length),i<k→wr.cell? ⟨g,i * 2,none⟩=some (.int .i64 S[i].1.tenant)∧wr.cell? ⟨g,i * 2+1,none⟩=some (.string S[i].1.key))) (fun i _=>S.length - (intOf i).toNat)
 case atStart=>exact ⟨0,Nat.zero_le _,rfl,hb23,hlt3,hfr3,hex3,fun i hi h=>absurd h (by omega)⟩
 case round=>
  obtain ⟨k,hk,rfl,hbr,hgr,HFR,HEX,HCE⟩:=hrel
  clear hex3 hfr3 hlt3 hb23
  by_cases hlk:k<S.length
  ·have hlk2:(k:Int)<(S.length:Int):=by omega
   rcases HTA.out with h0 | ⟨tb,off,rfl,htb,hcells⟩
   ·rw [h0] at hlk;simp at hlk
   obtain ⟨c0,c1,c2⟩:=hcells k hlk
   have htg:tb<g:=by have:=HGq.out;omega
   have htr:tb<wr.heap.size:=by omega
   obtain ⟨q,hq⟩:∃ q,q=S[k]:=⟨_,rfl⟩
   rw [← hq] at c0 c1 c2
   have d0:=(hbr.cell (p:=⟨tb,off+k * 3,none⟩) htg).trans c0
   have d1:=(hbr.cell (p:=⟨tb,off+k * 3+1,none⟩) htg).trans c1
   have d2:=(hbr.cell (p:=⟨tb,off+k * 3+2,none⟩) htg).trans c2
   obtain ⟨v0,e0⟩:=HEX.out (k * 2) (by omega)
   obtain ⟨v1,e1⟩:=HEX.out (k * 2+1) (by omega)
   have f0:=HFR.out (k * 2)
   have f1:=HFR.out (k * 2+1)
   have HQ:=Hid.m hq
   clear hcells c0 c1 c2 hq
   go_wp2
   go_roundw
   case rel=>
    obtain ⟨A,hA⟩:∃ A:Value,A=.int .i64 q.1.tenant:=⟨_,rfl⟩
    obtain ⟨C,hC⟩:∃ C:Value,C=.string q.1.key:=⟨_,rfl⟩
    rw [← hA,← hC]
    have hcl:∀ j,j≠k * 2→j≠k * 2+1→∀ o,(((wr.setCell ⟨g,k * 2,none⟩ A).setCell ⟨g,k * 2+1,none⟩ C).alloc o).cell? ⟨g,j,none⟩=wr.cell? ⟨g,j,none⟩:=fun j h1 h2 o=>by
     rw [World.cell?_alloc_lt _ _ _ (by simp;exact hgr),World.cell?_setCell_other _ _ _ _ (fun e=>by first | exact h2 (congrArg Addr.off e) | exact h2 (congrArg Addr.off e).symm),World.cell?_setCell_other _ _ _ _ (fun e=>by first | exact h1 (congrArg Addr.off e) | exact h1 (congrArg Addr.off e).symm)]
    have hc1:∀ o,(((wr.setCell ⟨g,k * 2,none⟩ A).setCell ⟨g,k * 2+1,none⟩ C).alloc o).cell? ⟨g,k * 2+1,none⟩=some C:=fun o=>by
     rw [World.cell?_alloc_lt _ _ _ (by simp;exact hgr)]
     refine World.cell?_setCell_same (u:=v1) _ _ _ ?_
     rw [World.cell?_setCell_other _ _ _ _ (by simp)]
     exact e1
    have hc0:∀ o,(((wr.setCell ⟨g,k * 2,none⟩ A).setCell ⟨g,k * 2+1,none⟩ C).alloc o).cell? ⟨g,k * 2,none⟩=some A:=fun o=>by
     rw [World.cell?_alloc_lt _ _ _ (by simp;exact hgr),World.cell?_setCell_other _ _ _ _ (by simp)]
     exact World.cell?_setCell_same _ _ _ e0
    refine ⟨k+1,by omega,by go_num,((hbr.setCell (Nat.le_refl _) _).setCell (Nat.le_refl _) _).alloc (by simp;omega) _,by simp;omega,fun j=>?_,fun j hj=>?_,fun i hi hik=>?_⟩
    ·rw [World.frozen?_alloc_past _ _ _ (by simp;exact hgr),World.frozen?_setCell,World.frozen?_setCell]
     exact HFR.out j
    ·by_cases n1:j=k * 2
     ·subst n1;exact ⟨_,hc0 _⟩
     ·by_cases n2:j=k * 2+1
      ·subst n2;exact ⟨_,hc1 _⟩
      ·rw [hcl j n1 n2]
       exact HEX.out j hj
    ·by_cases n:i=k
     ·subst n
      rw [hc0,hc1,hA,hC,HQ.out]
      exact ⟨rfl,rfl⟩
     ·rw [hcl _ (by omega) (by omega),hcl _ (by omega) (by omega)]
      exact HCE.out i hi (by omega)
   case measure=>simp [intOf];omega
  ·have hkS:k=S.length:=by omega
   have hlk2:¬ (k:Int)<(S.length:Int):=by omega
   subst hkS
   go_wp2
   go_ret2
   have hsz2:=HK2.out.size
   have hbr2:Below w2.heap.size w2 wr:=by rw [← HGq.out];exact hbr
   have hgq:=HGq.out
   refine ⟨g,S,rfl,⟨by omega,hgr,fun i hi=>?_,HFR.out⟩,HPE.out,HRI.out,mb1,HW2.out.below hbr2,HK2.out.trans (Kept.below (F:=Foot p b0 mb) hbr2) (fun k hk=>.inl hk),HF1.out,fun hf=>?_⟩
   ·have hi':i<S.length:=by simpa using hi
    have:=HCE.out i hi' hi'
    simpa using this
   ·have:=HW2.out.lt hf
    omega
end Go.Proofs.YtcdpiefflnaghaaGreatDoor.Wh
namespace Go.Proofs.YtcdpiefflnaghaaGreatDoor.Wh
open Go.Proofs.YtcdpiefflnaghaaGreatDoor.Me
open Go.RowKit Go.Sort
theorem rise_eq:∀ {A B:List NU},A.Perm B→A.Pairwise tlt→B.Pairwise tlt→A=B
 | [],B,h,_,_=>(List.nil_perm.1 h).symm
 | a::A,[],h,_,_=>by have:=h.length_eq;simp at this
 | a::A,b::B,h,ha,hb=>by
  obtain ⟨a1,a2⟩:=List.pairwise_cons.1 ha
  obtain ⟨b1,b2⟩:=List.pairwise_cons.1 hb
  have e:a=b:=by
   rcases List.mem_cons.1 (h.mem_iff.1 (List.mem_cons_self)) with e | hm
   ·exact e
   ·rcases List.mem_cons.1 (h.mem_iff.2 (List.mem_cons_self (a:=b) (l:=B))) with e | hm2
    ·exact e.symm
    ·exact absurd (tlt_trans (a1 b hm2) (b1 a hm)) (tlt_irrefl a)
  subst e
  rw [rise_eq ((List.perm_cons a).1 h) a2 b2]
end Go.Proofs.YtcdpiefflnaghaaGreatDoor.Wh
namespace Go.Proofs.YtcdpiefflnaghaaGreatDoor.Wh
open Go.Proofs.YtcdpiefflnaghaaGreatDoor.Me
open Go.RowKit
def delE (L:List NU)(y:Nm):Int:=if y.ok then (if ∀ q∈L,q.1≠y then 6 else 0) else 8
set_option maxHeartbeats 1000000 in
theorem del_any (w:World)(p now:Nat)(L:List NU)(b0:Nat)(mb:Nat→Option Nat)(N:Nat)(h:Wh w p now L L b0 mb N)(y:Nm):
  Calls Tryz.prog 159 #[.pointer (some ⟨p,0,none⟩),.agg #[.int .i64 y.tenant,.string y.key]] w fun e w'=>e=.returned (.int .i64 (delE L y))∧
   ∃ mb',Wh w' p now (if y.ok then strike y L else L) (if y.ok then strike y L else L) b0 mb' N∧Kept (Foot p b0 mb) w w'∧∀ k,Foot p b0 mb' k→Foot p b0 mb k∨w.heap.size≤k:=by
 have hbA:Below w.heap.size w (w.alloc (.cells #[.int .i64 y.tenant,.string y.key] 119)):=alb w _
 obtain ⟨wA,hwA⟩:∃ wA,wA=w.alloc (.cells #[.int .i64 y.tenant,.string y.key] 119):=⟨_,rfl⟩
 rw [← hwA] at hbA
 have hA:=h.below hbA
 have x0:wA.cell? ⟨w.heap.size,0,none⟩=some (.int .i64 y.tenant):=by rw [hwA];simp
 have x1:wA.cell? ⟨w.heap.size,1,none⟩=some (.string y.key):=by rw [hwA];simp
 have hsA:wA.heap.size=w.heap.size+1:=by rw [hwA];simp
 have HU:=Hid.m (until_any wA p now L b0 mb N hA y)
 have HW:=Hid.m hA
 have HB:=Hid.m hbA
 clear h hA hbA
 go_enter Tryz.func159,Tryz.ntmps159
 go_upto_region 1 with fail
 rw [← hwA]
 clear hwA
 go_wp2_with (first
  | (go_at_call 218;refine HU.out.mono ?_;rintro e w1 ⟨hb1,hc⟩;have y0:=(hb1.cell (p:=⟨w.heap.size,0,none⟩) (by show w.heap.size<wA.heap.size;omega)).trans x0;have y1:=(hb1.cell (p:=⟨w.heap.size,1,none⟩) (by show w.heap.size<wA.heap.size;omega)).trans x1;rcases hc with ⟨hy,rfl⟩ | ⟨hy,hno,rfl⟩ | ⟨hy,u,hm,rfl⟩)
  | (go_at_call 219;refine (leave_any w1 p now L b0 mb N (HW.out.below hb1) y hy).mono ?_;rintro e w2 ⟨rfl,mb2,hW2,hK2,hF2⟩))
 ·go_ret
  have e1:delE L y=8:=by unfold delE;rw [if_neg hy]
  rw [e1]
  try rw [if_neg hy]
  exact ⟨rfl,mb,HW.out.below hb1,(Kept.below (F:=Foot p b0 mb) HB.out).trans (Kept.below (F:=Foot p b0 mb) hb1) (fun k hk=>.inl hk),fun k hk=>.inl hk⟩
 ·go_ret
  have e1:delE L y=6:=by unfold delE;rw [if_pos hy,if_pos hno]
  rw [e1]
  try rw [if_pos hy]
  rw [strike_none hno]
  exact ⟨rfl,mb,HW.out.below hb1,(Kept.below (F:=Foot p b0 mb) HB.out).trans (Kept.below (F:=Foot p b0 mb) hb1) (fun k hk=>.inl hk),fun k hk=>.inl hk⟩
 ·go_ret
  have e1:delE L y=0:=by unfold delE;rw [if_pos hy,if_neg (fun hno=>hno (y,u) hm rfl)]
  rw [e1]
  try rw [if_pos hy]
  refine ⟨rfl,mb2,hW2,((Kept.below (F:=Foot p b0 mb) HB.out).trans (Kept.below (F:=Foot p b0 mb) hb1) (fun k hk=>.inl hk)).trans hK2 (fun k hk=>.inl hk),fun k hk=>(hF2 k hk).imp id (fun g=>?_)⟩
  have h1:=HB.out.size
  have h2:=hb1.size
  omega
end Go.Proofs.YtcdpiefflnaghaaGreatDoor.Wh
