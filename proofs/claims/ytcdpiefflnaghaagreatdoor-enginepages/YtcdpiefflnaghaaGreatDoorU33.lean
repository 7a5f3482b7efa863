/-
  Package engine and what stands beneath it, part 33: contracts of functions, and what they rest on.
-/
import Derived.Test.YtcdpiefflnaghaaGreatDoorU31
import Derived.Test.YtcdpiefflnaghaaGreatDoorU09
import Derived.Test.YtcdpiefflnaghaaGreatDoorU02
import Derived.Test.YtcdpiefflnaghaaGreatDoorU32
import Derived.Test.YtcdpiefflnaghaaGreatDoorU28
set_option linter.unusedSimpArgs false
set_option linter.unusedVariables false
set_option maxRecDepth 100000
namespace Go.Proofs
open Go.Shelf Go.RowKit Go.Lib Go.Sort
shelf_lay_g SlLaysE.n45 Slgn 45 at Tryz 221 as Tryz.layDeleteI
end Go.Proofs
namespace Go.Proofs.YtcdpiefflnaghaaGreatDoor.En
open Go.Proofs.YtcdpiefflnaghaaGreatDoor.It
open Go.Proofs.YtcdpiefflnaghaaGreatDoor.Lr
open Go.Proofs.YtcdpiefflnaghaaGreatDoor.Qt
open Go.Proofs.YtcdpiefflnaghaaGreatDoor.Sb
open Go.RowKit Go.Proofs.YtcdpiefflnaghaaGreatDoor Go.Shelf Go.Lib Go.Sort
theorem flat_int (l:List Int):l.flatMap EI.cells=l.map fun n=>Value.int .i64 n:=by
 induction l with
 | nil=>rfl
 | cons a l ih=>rw [List.flatMap_cons,List.map_cons,← ih];rfl
theorem own_i {w:World}{base:Nat}{v:Value}{l:List Int}(h:Qt.OwnI w base v l):GOwn EI w base v l:=by
 unfold GOwn
 rw [flat_int]
 exact h
theorem i_own {w:World}{base:Nat}{v:Value}{l:List Int}(h:GOwn EI w base v l):Qt.OwnI w base v l:=by
 unfold GOwn at h
 rw [flat_int] at h
 exact h
theorem il_of {w:World}{ao:Option Addr}{l:List Int}{cap:Nat}(h:GRd EI w ao l cap):Qt.Il w ao l cap:=by
 refine ⟨h.hl,h.hc,h.hn,?_⟩
 rcases h.at_ with e | ⟨b,off,e,hb,hc⟩
 ·exact .inl e
 ·refine .inr ⟨b,off,e,hb,fun j hj=>?_⟩
  have:=hc j hj 0 (by decide)
  simpa [EI] using this
theorem cloneI {w:World}{ao:Option Addr}{l:List Int}{cap:Nat}(h:GRd EI w ao l cap)(hl:l.length≤1000):
  Calls Tryz.prog 41 #[.slice ao l.length cap] w fun e w'=>∃ v',e=.returned v'∧GOwn EI w' w.heap.size v' l∧Below w.heap.size w w':=by
 refine (Qt.qclone_any w ao l cap (il_of h) hl).mono ?_
 rintro e w' ⟨v',rfl,h1,h2⟩
 exact ⟨v',rfl,own_i h1,h2⟩
theorem turnedI {w:World}{g n:Nat}{cur:Array Value}(d:Array Int)(hg:w.heap[g]? = some (.cells cur 3 (0,0)))(hd:d.size≤cur.size):
  ∃ cur',(putRow (fun n:Int=>Value.int .i64 n) (Sort.ahead w n) g 0 d).heap[g]? = some (.cells cur' 3 (0,0))∧cur'.size=cur.size∧∀ j,j<d.size→cur'[j]? = some (.int .i64 d[j]!):=by
 have hgl:g<w.heap.size:=(Array.getElem?_eq_some_iff.1 hg).1
 refine ⟨putCells (fun n:Int=>Value.int .i64 n) 0 d cur,?_,by simp [putCells],fun j hj=>?_⟩
 ·simp [putRow,mapBlock,Sort.ahead,Array.getElem?_modify,hg,onCells]
 ·simp [putCells,hj,show j<cur.size by omega]
theorem turnedGrown {w:World}{g n:Nat}(d:Array Int):w.grownBy (putRow (fun n:Int=>Value.int .i64 n) (Sort.ahead w n) g 0 d) (some g):=by
 refine ⟨rfl,rfl,rfl,by simp [putRow,mapBlock,Sort.ahead],fun k hk hne=>?_⟩
 have:g≠k:=fun e=>hne (by rw [e])
 simp [putRow,mapBlock,Sort.ahead,Array.getElem?_modify,this]
theorem Tryz.infoInt2:(Tryz.prog.info? 3).map (fun i=>(i.zero,i.size,i.bytes))=some (some (.int .i64 0),1,8):=by kernel_rfl
theorem Tryz.zeroInt2:∀ w,(zeroValue 3).run Tryz.prog w=.ok (Value.int .i64 default) w:=fun w=>by kernel_rfl
theorem deleteI (w:World)(base:Nat)(v:Value)(ks:List Int)(h:GOwn EI w base v ks)(i:Nat)(hi:i<ks.length)(i2:Int)(hi2:i2=(i:Int)+1):
  Calls Tryz.prog 221 #[v,.int .i64 i,.int .i64 i2] w fun e w'=>∃ v',e=.returned v'∧GOwn EI w' base v' (ks.eraseIdx i)∧w.grownBy w' v.ownBlock∧v'.ownBlock=v.ownBlock:=by
 subst hi2
 rcases (i_own h).parts with ⟨rfl,rfl⟩ | ⟨g,cap,cur,rfl,hb,hg,hs,hn,hm,hc⟩
 ·simp at hi
 ·obtain ⟨i0,hi0,hz0,hz1,hz2⟩:=info_parts Tryz.infoInt2
  have hh:Holds (fun n:Int=>Value.int .i64 n) w g 0 ks.toArray:=by
   intro j hj
   have hj2:j<ks.length:=by simpa using hj
   refine ⟨?_,g_frozen hg _⟩
   rw [Nat.zero_add,hc j hj2]
   simp [hj2]
  have hcon:=AnyE.slices_Delete Tryz.layDeleteI (fun n:Int=>Value.int .i64 n) (fun _=>rfl) default Tryz.zeroInt2 i0 hi0 hz1 g 0 cap i (i+1) ks.toArray w hh (by simpa using hn) hm (by omega) (by simp;omega)
  have e1:((i+1:Nat):Int)=(i:Int)+1:=by omega
  have e2:ks.toArray.size=ks.length:=by simp
  rw [e1,e2] at hcon
  refine hcon.mono ?_
  rintro e w' ⟨rfl,q,rfl⟩
  have hL:ks.length - (i+1 - i)=(ks.eraseIdx i).length:=by rw [List.length_eraseIdx_of_lt hi];omega
  obtain ⟨d,hd⟩:∃ d,d=(ks.toArray.toList.take i++ks.toArray.toList.drop (i+1)++List.replicate (i+1 - i) (default:Int)).toArray:=⟨_,rfl⟩
  have hds:d.size=ks.length:=by rw [hd];simp;omega
  rw [← hd,hL]
  obtain ⟨cur',hg',hs',hc'⟩:=turnedI (n:=q) d hg (by omega)
  refine ⟨_,rfl,own_i (Qt.OwnI.mk' hb hg' (by omega) (by rw [← hL];omega) hm (fun j hj=>?_)),?_,rfl⟩
  ·rw [g_cell hg',hc' j (by rw [← hL] at hj;omega)]
   congr 2
   have hj2:j<d.size:=by rw [← hL] at hj;omega
   rw [getElem!_pos d j hj2]
   subst hd
   simp only [List.getElem_toArray]
   rw [List.getElem_append_left (by rw [← hL] at hj;simp;omega)]
   congr 1
   exact (List.eraseIdx_eq_take_drop_succ ks i).symm
  ·exact turnedGrown (w:=w) (g:=g) (n:=q) d
theorem sets_mid (b:Nat):∀ (vs us pre post:List Value) (w:World),GBx w b (pre++us++post)→us.length=vs.length→GBx (sets w b pre.length vs) b (pre++vs++post)
 | [],[],pre,post,w,h,_=>h
 | v::vs,u::us,pre,post,w,h,hl=>by
  have h1:GBx (w.setCell ⟨b,pre.length,none⟩ v) b ((pre++[v])++us++post):=(h.set pre.length v (by simp)).ext (by simp)
  have h2:=sets_mid b vs us (pre++[v]) post (w.setCell ⟨b,pre.length,none⟩ v) h1 (by simpa using hl)
  have e:(pre++[v]).length=pre.length+1:=by simp
  rw [e] at h2
  unfold sets
  rw [show pre++v::vs++post=pre++[v]++vs++post by simp]
  exact h2
theorem kept_sets {w:World}{b:Nat}{kept:List (Int × Im)}(h:GBx w b (kept.flatMap EK.cells)){p:Nat}(hp:p<kept.length)(z:Int × Im):GBx (sets w b (p * 6) (EK.cells z)) b ((kept.set p z).flatMap EK.cells):=by
 have e1:kept=kept.take p++kept[p]::kept.drop (p+1):=by rw [← List.drop_eq_getElem_cons hp,List.take_append_drop]
 have e2:kept.set p z=kept.take p++z::kept.drop (p+1):=by
  rw [List.set_eq_take_append_cons_drop,if_pos hp]
 have e3:kept.flatMap EK.cells=(kept.take p).flatMap EK.cells++EK.cells kept[p]++(kept.drop (p+1)).flatMap EK.cells:=by
  conv=>lhs;rw [e1]
  rw [List.flatMap_append,List.flatMap_cons,List.append_assoc]
 rw [e2,List.flatMap_append,List.flatMap_cons,← List.append_assoc]
 have hl:((kept.take p).flatMap EK.cells).length=p * 6:=by
  rw [okK.flat_len,List.length_take,Nat.min_eq_left (by omega)]
  rfl
 rw [← hl]
 exact sets_mid b (EK.cells z) (EK.cells kept[p]) _ _ w (e3 ▸ h) rfl
theorem sets_size (b:Nat):∀ (vs:List Value) (w:World) (j:Nat),(sets w b j vs).heap.size=w.heap.size
 | [],w,_=>rfl
 | v::vs,w,j=>by unfold sets;rw [sets_size b vs];simp
def zK:Int × Im:=(0,Im.none)
end Go.Proofs.YtcdpiefflnaghaaGreatDoor.En
namespace Go.Proofs.YtcdpiefflnaghaaGreatDoor.En
open Go.Proofs.YtcdpiefflnaghaaGreatDoor.It
open Go.Proofs.YtcdpiefflnaghaaGreatDoor.Lr
open Go.Proofs.YtcdpiefflnaghaaGreatDoor.Qt
open Go.Proofs.YtcdpiefflnaghaaGreatDoor.Sb
open Go.RowKit Go.Proofs.YtcdpiefflnaghaaGreatDoor
theorem ItmP.store {A:Ad}{kept:List (Int × Im)}{row:List Int}{F:Nat→Prop}{w:World}{ro:Option Addr}{rc:Nat}(h:ItmP A kept row F w ro rc){p:Nat}(hp:p<kept.length)(z:Int × Im):ItmP A (kept.set p z) row F (sets w A.pk (p * 6) (EK.cells z)) ro rc∧Kpt F w (sets w A.pk (p * 6) (EK.cells z)):=by
 have hk:=Kpt.grown (sets_grown A.pk (EK.cells z) w (p * 6))
 have hk2:Kpt F w (sets w A.pk (p * 6) (EK.cells z)):=hk.mono fun k e=>by subst e;exact h.fk
 refine ⟨⟨(h.head.kpt hk (fun e=>h.ne e)).ext (by simp),kept_sets h.body hp z,?_,h.fi,h.fk,h.fr,h.ne⟩,hk2⟩
 refine h.own.same fun k hk'=>?_
 have hlt:=(h.own.lt k hk').2
 refine hk.block k hlt ?_
 cases ro with
 | none=>cases hk'
 | some a=>cases hk';exact (h.fr a rfl).2.2
theorem ItmP.rows {A:Ad}{kept:List (Int × Im)}{row row':List Int}{F:Nat→Prop}{w w1:World}{ro ro':Option Addr}{rc rc':Nat}(h:ItmP A kept row F w ro rc)(hg:w.grownBy w1 (Value.slice ro row.length rc).ownBlock)(ho:GOwn EI w1 0 (.slice ro' row'.length rc') row')(hl:∀ a,ro'=some a→ro.map Addr.block=some a.block∨w.heap.size≤a.block):
  ∃ G:Nat→Prop,ItmP A kept row' G (w1.setCell ⟨A.pi,1,none⟩ (.slice ro' row'.length rc')) ro' rc'∧Kpt F w (w1.setCell ⟨A.pi,1,none⟩ (.slice ro' row'.length rc'))∧(∀ k,G k→F k∨w.heap.size≤k)∧∀ k,G k→(∀ k,F k→k<w.heap.size)→k<w1.heap.size:=by
 have hne:∀ b,b=A.pi∨b=A.pk→(Value.slice ro row.length rc).ownBlock≠some b:=by
  intro b hb e
  cases ro with
  | none=>cases e
  | some a=>
   cases e
   have:=(h.fr a rfl).2
   rcases hb with e | e
   ·exact this.1 e
   ·exact this.2 e
 have hlt':∀ a,ro'=some a→a.block<w1.heap.size:=fun a ha=>by subst ha;exact (ho.lt a.block rfl).2
 have hpi:=h.head.lt
 have hpk:=h.body.lt
 refine ⟨fun k=>F k∨∃ a,ro'=some a∧k=a.block,⟨?_,?_,?_,.inl h.fi,.inl h.fk,?_,h.ne⟩,?_,?_,?_⟩
 ·exact ((h.head.grown hg (hne _ (.inl rfl))).set 1 _ (by simp)).ext (by simp)
 ·exact (h.body.grown hg (hne _ (.inr rfl))).other _ _ h.ne
 ·refine ho.grown (g_set w1 ⟨A.pi,1,none⟩ _) ?_
  intro k hk e
  have e2:A.pi=k:=Option.some.inj e
  subst e2
  cases ro' with
  | none=>cases hk
  | some a=>
   have hab:a.block=A.pi:=Option.some.inj hk
   rcases hl a rfl with h1 | h1
   ·cases ro with
    | none=>cases h1
    | some a2=>
     have:a2.block=a.block:=Option.some.inj h1
     exact (h.fr a2 rfl).2.1 (by rw [this,hab])
   ·omega
 ·intro a ha
  refine ⟨.inr ⟨a,ha,rfl⟩,?_⟩
  rcases hl a ha with h1 | h1
  ·cases ro with
   | none=>cases h1
   | some a2=>
    have:a2.block=a.block:=Option.some.inj h1
    rw [← this]
    exact (h.fr a2 rfl).2
  ·exact ⟨by omega,by omega⟩
 ·have k1:Kpt F w w1:=⟨hg.os,hg.tape,hg.output,hg.size,fun k hk hn=>hg.block k hk fun e=>by
   cases ro with
   | none=>cases e
   | some a=>cases e;exact hn (h.fr a rfl).1⟩
  have hg2:w1.grownBy (w1.setCell ⟨A.pi,1,none⟩ (.slice ro' row'.length rc')) (some A.pi):=g_set w1 ⟨A.pi,1,none⟩ _
  exact k1.trans (Kpt.grown hg2) fun k e=>by subst e;exact .inl h.fi
 ·rintro k (hk | ⟨a,ha,rfl⟩)
  ·exact .inl hk
  ·rcases hl a ha with h1 | h1
   ·cases ro with
    | none=>cases h1
    | some a2=>
     have:a2.block=a.block:=Option.some.inj h1
     rw [← this]
     exact .inl (h.fr a2 rfl).1
   ·exact .inr h1
 ·rintro k (hk | ⟨a,ha,rfl⟩) hF
  ·exact Nat.lt_of_lt_of_le (hF k hk) hg.size
  ·exact hlt' a ha
theorem ixI_in {L:List Int}{x:Int}(h:x∈L):ixI L x=(L.idxOf x:Nat):=by
 unfold ixI
 rw [if_pos h]
theorem erase_idx {L:List Int}{x:Int}(h:x∈L):L.eraseIdx (L.idxOf x)=L.erase x:=by
 rw [List.erase_eq_eraseIdx_of_idxOf rfl]
set_option maxHeartbeats 4000000 in
theorem idrop_in {A:Ad}{kept:List (Int × Im)}{row:List Int}{F:Nat→Prop}{w:World}{ro:Option Addr}{rc:Nat}(h:ItmP A kept row F w ro rc)(hF:∀ k,F k→k<w.heap.size){p:Nat}(hp:p<kept.length)(hkl:kept.length≤1000000)(hrl:row.length≤1000000)(hin:(p:Int)∈row):
  Calls Tryz.prog 160 #[ptr A.pi,.int .i64 p] w fun e w'=>e=.returned (.tuple #[])∧∃ G ro' rc',ItmP A (kept.set p zK) (row.erase p) G w' ro' rc'∧Kpt F w w'∧(∀ k,G k→F k∨w.heap.size≤k)∧∀ k,G k→k<w'.heap.size:=by
 obtain ⟨hS,hKS⟩:=h.store hp zK
 have h0:=h.h0
 have hpl:=h.head.lt
 have hkt:=h.body.lt
 obtain ⟨k0,k1,k2,k3,k4,k5⟩:=h.at_ hp
 have kf:=h.body.f
 have f0:=kf (p * 6)
 have f1:=kf (p * 6+1)
 have f2:=kf (p * 6+2)
 have f3:=kf (p * 6+3)
 have f4:=kf (p * 6+4)
 have f5:=kf (p * 6+5)
 obtain ⟨W,hW⟩:∃ W,W=sets w A.pk (p * 6) (EK.cells zK):=⟨_,rfl⟩
 rw [← hW] at hS hKS
 have hsz:W.heap.size=w.heap.size:=by rw [hW];exact sets_size _ _ _ _
 have HS:=Hid.m hS
 have HKS:=Hid.m hKS
 have HIX:=Hid.m (indexI_any row ro rc p W (hS.own.rdOf Go.Proofs.YtcdpiefflnaghaaGreatDoor.okI))
 have i1:=hS.h1
 have if1:=hS.head.f 1
 have ilt:=hS.head.lt
 have HF:=Hid.m hF
 simp only [EK,zK,Im.none] at hW
 unfold sets sets sets sets sets sets sets at hW
 obtain ⟨K,hK⟩:∃ K,K=kept.length:=⟨_,rfl⟩
 rw [← hK] at h0 hp hkl
 have hp2:(p:Int)<(K:Int):=by omega
 clear hS hKS h kf hF hsz
 obtain ⟨n,hn⟩:∃ n,n=row.length:=⟨_,rfl⟩
 rw [← hn] at HIX i1
 unfold ptr
 rw [ixI_in hin] at HIX
 have hil:row.idxOf (p:Int)<row.length:=List.idxOf_lt_length_of_mem hin
 have HDL:=Hid.m (deleteI W 0 _ row HS.out.own (row.idxOf (p:Int)) hil _ rfl)
 rw [erase_idx hin] at HDL
 obtain ⟨i,hi⟩:∃ i,i=row.idxOf (p:Int):=⟨_,rfl⟩
 rw [← hi] at HDL HIX hil
 rw [← hn] at HDL
 have hi3:(i:Int)<1000000:=by omega
 have HN:=Hid.m hn
 have HNE:Hid ((Value.slice ro n rc).ownBlock≠some A.pi):=by
  show _≠_
  intro e
  cases ro with
  | none=>cases e
  | some a=>exact (HS.out.fr a rfl).2.1 (Option.some.inj e)
 clear hin hi hn
 go_enter Tryz.func160,Tryz.ntmps160
 go_upto_region 1 with (fail)
 rw [← hW]
 clear hW k0 k1 k2 k3 k4 k5 f0 f1 f2 f3 f4 f5 h0
 go_upto_region 3 with (go_at_call 220;refine HIX.out.mono ?_;rintro e w1 ⟨rfl,rfl⟩)
 go_wp2_with (go_at_call 221;refine HDL.out.mono ?_;rintro e w2 ⟨v',rfl,hO,hG,hB⟩;obtain ⟨ro',rc',rfl,_⟩:=hO.rd Go.Proofs.YtcdpiefflnaghaaGreatDoor.okI;have HO:=Hid.m hO;have HG:=Hid.m hG;have HBk:=Hid.m hB;have j1:=(HS.out.head.grown hG (HNE.out)).c 1 (by simp);have jf:=(HS.out.head.grown hG (HNE.out)).f 1;have jl:=(HS.out.head.grown hG (HNE.out)).lt;simp only [List.getElem_cons_succ,List.getElem_cons_zero] at j1;clear hO hG hB)
 go_end0
 obtain ⟨G,hI,hK2,hs,hlt⟩:=HS.out.rows (by rw [← HN.out];exact HG.out) HO.out (fun a ha=>.inl (by
  have:=HBk.out
  subst ha
  cases ro with
  | none=>cases this
  | some a2=>exact this.symm))
 have hsz:=HKS.out.size
 refine ⟨rfl,G,ro',rc',hI,HKS.out.trans hK2 (fun k hk=>.inl hk),fun k hk=>?_,fun k hk=>?_⟩
 ·rcases hs k hk with h1 | h1
  ·exact .inl h1
  ·exact .inr (by omega)
 ·have:=hlt k hk (fun k hk=>Nat.lt_of_lt_of_le (HF.out k hk) hsz)
  simpa using this
set_option maxHeartbeats 4000000 in
theorem idrop_out {A:Ad}{kept:List (Int × Im)}{row:List Int}{F:Nat→Prop}{w:World}{ro:Option Addr}{rc:Nat}(h:ItmP A kept row F w ro rc)(hF:∀ k,F k→k<w.heap.size){p:Nat}(hp:p<kept.length)(hkl:kept.length≤1000000)(hrl:row.length≤1000000)(hin:¬ (p:Int)∈row):
  Calls Tryz.prog 160 #[ptr A.pi,.int .i64 p] w fun e w'=>e=.returned (.tuple #[])∧∃ G ro' rc',ItmP A (kept.set p zK) (row.erase p) G w' ro' rc'∧Kpt F w w'∧(∀ k,G k→F k∨w.heap.size≤k)∧∀ k,G k→k<w'.heap.size:=by
 obtain ⟨hS,hKS⟩:=h.store hp zK
 have h0:=h.h0
 have hpl:=h.head.lt
 have hkt:=h.body.lt
 obtain ⟨k0,k1,k2,k3,k4,k5⟩:=h.at_ hp
 have kf:=h.body.f
 have f0:=kf (p * 6)
 have f1:=kf (p * 6+1)
 have f2:=kf (p * 6+2)
 have f3:=kf (p * 6+3)
 have f4:=kf (p * 6+4)
 have f5:=kf (p * 6+5)
 obtain ⟨W,hW⟩:∃ W,W=sets w A.pk (p * 6) (EK.cells zK):=⟨_,rfl⟩
 rw [← hW] at hS hKS
 have hsz:W.heap.size=w.heap.size:=by rw [hW];exact sets_size _ _ _ _
 have HS:=Hid.m hS
 have HKS:=Hid.m hKS
 have HIX:=Hid.m (indexI_any row ro rc p W (hS.own.rdOf Go.Proofs.YtcdpiefflnaghaaGreatDoor.okI))
 have i1:=hS.h1
 have if1:=hS.head.f 1
 have ilt:=hS.head.lt
 have HF:=Hid.m hF
 simp only [EK,zK,Im.none] at hW
 unfold sets sets sets sets sets sets sets at hW
 obtain ⟨K,hK⟩:∃ K,K=kept.length:=⟨_,rfl⟩
 rw [← hK] at h0 hp hkl
 have hp2:(p:Int)<(K:Int):=by omega
 clear hS hKS h kf hF hsz
 obtain ⟨n,hn⟩:∃ n,n=row.length:=⟨_,rfl⟩
 rw [← hn] at HIX i1
 unfold ptr
 have hix:ixI row (p:Int)=-1:=by unfold ixI;rw [if_neg hin]
 rw [hix] at HIX
 have her:row.erase (p:Int)=row:=List.erase_of_not_mem hin
 rw [her]
 clear hin hix her hn hK
 go_enter Tryz.func160,Tryz.ntmps160
 go_upto_region 1 with (fail)
 rw [← hW]
 clear hW k0 k1 k2 k3 k4 k5 f0 f1 f2 f3 f4 f5 h0
 go_wp2_with (go_at_call 220;refine HIX.out.mono ?_;rintro e w1 ⟨rfl,rfl⟩)
 go_end0
 exact ⟨rfl,F,ro,rc,HS.out,HKS.out,fun k hk=>.inl hk,fun k hk=>Nat.lt_of_lt_of_le (HF.out k hk) HKS.out.size⟩
theorem idrop_any {A:Ad}{kept:List (Int × Im)}{row:List Int}{F:Nat→Prop}{w:World}{ro:Option Addr}{rc:Nat}(h:ItmP A kept row F w ro rc)(hF:∀ k,F k→k<w.heap.size){p:Nat}(hp:p<kept.length)(hkl:kept.length≤1000000)(hrl:row.length≤1000000):
  Calls Tryz.prog 160 #[ptr A.pi,.int .i64 p] w fun e w'=>e=.returned (.tuple #[])∧∃ G ro' rc',ItmP A (kept.set p zK) (row.erase p) G w' ro' rc'∧Kpt F w w'∧(∀ k,G k→F k∨w.heap.size≤k)∧∀ k,G k→k<w'.heap.size:=by
 by_cases hin:(p:Int)∈row
 ·exact idrop_in h hF hp hkl hrl hin
 ·exact idrop_out h hF hp hkl hrl hin
end Go.Proofs.YtcdpiefflnaghaaGreatDoor.En
namespace Go.Proofs.YtcdpiefflnaghaaGreatDoor.En
open Go.Proofs.YtcdpiefflnaghaaGreatDoor.It
open Go.Proofs.YtcdpiefflnaghaaGreatDoor.Lr
open Go.Proofs.YtcdpiefflnaghaaGreatDoor.Qt
open Go.Proofs.YtcdpiefflnaghaaGreatDoor.Sb
open Go.RowKit Go.Proofs.YtcdpiefflnaghaaGreatDoor
theorem len_erase_le (l:List Int)(x:Int):(l.erase x).length≤l.length:=List.Sublist.length_le List.erase_sublist
set_option maxHeartbeats 4000000 in
theorem iput_any {A:Ad}{kept:List (Int × Im)}{row:List Int}{F:Nat→Prop}{w:World}{ro:Option Addr}{rc:Nat}(h:ItmP A kept row F w ro rc)(hF:∀ k,F k→k<w.heap.size){p:Nat}(hp:p<kept.length)(hkl:kept.length≤1000000)(hrl:row.length≤100000)(z:Int × Im):
  Calls Tryz.prog 241 #[ptr A.pi,.int .i64 p,.agg (EK.cells z).toArray] w fun e w'=>e=.returned (.tuple #[])∧∃ G ro' rc',ItmP A (kept.set p z) (row.erase p++[(p:Int)]) G w' ro' rc'∧Kpt F w w'∧(∀ k,G k→F k∨w.heap.size≤k)∧∀ k,G k→k<w'.heap.size:=by
 obtain ⟨W,hW⟩:∃ W,W=w.alloc (.cells #[.int .i64 z.1,.string z.2.key,.string z.2.value,.int .u32 z.2.flags,.int .i64 z.2.till,.int .u64 z.2.unique] 141):=⟨_,rfl⟩
 have hBx:GBx W w.heap.size (EK.cells z):=by rw [hW];exact GBx.made w (EK.cells z) _
 have hBW:Below w.heap.size w W:=by rw [hW];exact g_alloc _ _
 have hIW:ItmP A kept row F W ro rc:=h.same hBW.size fun k hk=>hBW.block k (hF k hk)
 have HD:=Hid.m (idrop_any hIW (fun k hk=>Nat.lt_of_lt_of_le (hF k hk) hBW.size) hp hkl (by omega))
 have HBx:=Hid.m hBx
 have HBW:=Hid.m hBW
 have HF:=Hid.m hF
 have HNB:Hid (¬ F w.heap.size):=fun hf=>by have:=hF _ hf;omega
 have HRL:Hid ((row.erase (p:Int)).length+1≤1000000):=by have:=len_erase_le row p;show _≤_;omega
 have HST:=Hid.m (fun (w1:World) (G:Nat→Prop) (ro1:Option Addr) (rc1:Nat) (hI:ItmP A (kept.set p zK) (row.erase (p:Int)) G w1 ro1 rc1)=>hI.store (by simpa using hp) z)
 rw [List.set_set] at HST
 have HLN:Hid ((kept.set p zK).length=kept.length):=by show _=_;simp
 have HPK:=Hid.m (show p<(kept.set p zK).length by simpa using hp)
 obtain ⟨K,hK⟩:∃ K,K=kept.length:=⟨_,rfl⟩
 have HK:=Hid.m hK
 rw [← hK] at hp hkl
 have hp2:(p:Int)<(K:Int):=by omega
 clear h hIW hBx hBW hF hrl hK
 unfold ptr at HD ⊢
 simp only [EK] at *
 go_enter Tryz.func241,Tryz.ntmps241
 go_upto_region 1 with (fail)
 rw [← hW]
 clear hW
 go_upto_region 2 with (go_at_call 160;refine HD.out.mono ?_;rintro e w1 ⟨rfl,G1,ro1,rc1,hI1,hK1,hs1,hl1⟩;have HI1:=Hid.m hI1;have HK1:=Hid.m hK1;have HS1:=Hid.m hs1;have HL1:=Hid.m hl1;clear hI1 hK1 hs1 hl1)
 have h0:=HI1.out.h0
 rw [HLN.out,← HK.out] at h0
 have hpl:=HI1.out.head.lt
 have hkt:=HI1.out.body.lt
 obtain ⟨k0,k1,k2,k3,k4,k5⟩:=HI1.out.at_ HPK.out
 have f0:=HI1.out.body.f (p * 6)
 have f1:=HI1.out.body.f (p * 6+1)
 have f2:=HI1.out.body.f (p * 6+2)
 have f3:=HI1.out.body.f (p * 6+3)
 have f4:=HI1.out.body.f (p * 6+4)
 have f5:=HI1.out.body.f (p * 6+5)
 have hX:=HBx.out.kpt HK1.out HNB.out
 have x0:=hX.c 0 (by simp)
 have x1:=hX.c 1 (by simp)
 have x2:=hX.c 2 (by simp)
 have x3:=hX.c 3 (by simp)
 have x4:=hX.c 4 (by simp)
 have x5:=hX.c 5 (by simp)
 have xl:=hX.lt
 simp only [List.getElem_cons_zero,List.getElem_cons_succ] at x0 x1 x2 x3 x4 x5
 obtain ⟨hS2,hK2⟩:=HST.out w1 G1 ro1 rc1 HI1.out
 obtain ⟨w2,hw2⟩:∃ w2,w2=sets w1 A.pk (p * 6) [.int .i64 z.1,.string z.2.key,.string z.2.value,.int .u32 z.2.flags,.int .i64 z.2.till,.int .u64 z.2.unique]:=⟨_,rfl⟩
 rw [← hw2] at hS2 hK2
 have HS2:=Hid.m hS2
 have HK2:=Hid.m hK2
 have HZ:Hid (w2.heap.size=w1.heap.size):=by rw [hw2];exact sets_size _ _ _ _
 unfold sets sets sets sets sets sets sets at hw2
 have HW2:=Hid.m hw2
 clear hS2 hK2 hX hw2
 go_cut [] from 6 (fun wx=>Hid (Below w2.heap.size w2 wx))
 case first=>
  go_region
  all_goals (go_wp2;go_meet)
  all_goals (case rel=>show Below _ _ _;rw [HW2.out];exact (Below.refl _ _).drew)
 case rest=>
 have HC:=hcut
 clear hcut
 obtain ⟨w3,hw3⟩:∃ w3,w3=wc:=⟨_,rfl⟩
 rw [← hw3] at HC ⊢
 clear hw3 k0 k1 k2 k3 k4 k5 f0 f1 f2 f3 f4 f5 x0 x1 x2 x3 x4 x5 h0 HD HST HW2
 have hI3:ItmP A (kept.set p z) (row.erase (p:Int)) G1 w3 ro1 rc1:=HS2.out.same HC.out.size fun k hk=>HC.out.block k (by have:=HL1.out k hk;have:=HZ.out;omega)
 have HI3:=Hid.m hI3
 have HO3:=Hid.m hI3.own
 have i1:=hI3.h1
 have if1:=hI3.head.f 1
 have ilt:=hI3.head.lt
 have HK3:Hid (Kpt F w w3):=by
  have a1:Kpt F w w1:=(Kpt.of HBW.out).trans HK1.out fun k hk=>.inl hk
  have a2:Kpt F w w2:=a1.trans HK2.out fun k hk=>(HS1.out k hk).imp id (fun h=>Nat.le_trans HBW.out.size h)
  exact a2.trans (Kpt.of (F:=F) HC.out) fun k hk=>.inl hk
 clear hI3 HBx HK1 HK2 HS2 HI1
 obtain ⟨L,hL⟩:∃ L,L=row.erase (p:Int):=⟨_,rfl⟩
 obtain ⟨n,hn⟩:∃ n,n=L.length:=⟨_,rfl⟩
 have HLE:=Hid.m hL
 rw [← hL] at HI3 HO3 HRL i1
 rw [← hn] at HO3 i1
 have HN:=Hid.m hn
 have HNE:Hid ((Value.slice ro1 n rc1).ownBlock≠some A.pi):=by
  show _≠_
  intro e
  cases ro1 with
  | none=>cases e
  | some a=>exact (HI3.out.fr a rfl).2.1 (Option.some.inj e)
 clear hL hn
 go_wp2_with (at_builtin;refine g_one (w0:=w3) Go.Proofs.YtcdpiefflnaghaaGreatDoor.okI rfl _ _ _ rfl rfl 0 _ _ HO3.out rfl (p:Int) rfl _ rfl rfl HRL.out (Nat.zero_le _) ?_;intro v7 w7 hO7 hG7;have HO7:=Hid.m hO7;have HG7:=Hid.m hG7;obtain ⟨a7,cp7,hv7,-⟩:=hO7.rd Go.Proofs.YtcdpiefflnaghaaGreatDoor.okI;subst hv7;have j1:=(HI3.out.head.grown hG7.grown HNE.out).c 1 (by simp);have jf:=(HI3.out.head.grown hG7.grown HNE.out).f 1;have jl:=(HI3.out.head.grown hG7.grown HNE.out).lt;simp only [List.getElem_cons_succ,List.getElem_cons_zero] at j1;clear hO7 hG7)
 go_end0
 obtain ⟨G,hI,hKK,hs,hlt⟩:=HI3.out.rows (by rw [← HN.out];exact HG7.out.grown) HO7.out (fun a ha=>by
  subst ha
  rcases HG7.out.lies a.block rfl with h1 | h1
  ·left
   cases ro1 with
   | none=>cases h1
   | some a2=>exact h1
  ·exact .inr h1)
 have elen:(L++[(p:Int)]).length=L.length+1:=by simp
 rw [elen] at hI hKK
 have hz:=HK3.out.size
 refine ⟨rfl,G,a7,cp7,by rw [← HLE.out];exact hI,HK3.out.trans hKK fun k hk=>(HS1.out k hk).imp id (fun h=>Nat.le_trans HBW.out.size h),fun k hk=>?_,fun k hk=>?_⟩
 ·rcases hs k hk with h1 | h1
  ·exact (HS1.out k h1).imp id (fun h=>Nat.le_trans HBW.out.size h)
  ·exact .inr (by omega)
 ·have:=hlt k hk (fun k hk=>by have:=HL1.out k hk;have:=HZ.out;have:=HC.out.size;omega)
  simpa using this
end Go.Proofs.YtcdpiefflnaghaaGreatDoor.En
namespace Go.Proofs.YtcdpiefflnaghaaGreatDoor.En
open Go.Proofs.YtcdpiefflnaghaaGreatDoor.It
open Go.Proofs.YtcdpiefflnaghaaGreatDoor.Lr
open Go.Proofs.YtcdpiefflnaghaaGreatDoor.Qt
open Go.Proofs.YtcdpiefflnaghaaGreatDoor.Sb
open Go.RowKit Go.Proofs.YtcdpiefflnaghaaGreatDoor
theorem Egv.itmLv {N:Nat}{A:Ad}{V:Va}{x:Ra}{F:Cp→Nat→Prop}{w w':World}(h:Egv N w A V x F){kept':List (Int × Im)}{row':List Int}{G:Nat→Prop}{ro:Option Addr}{rc:Nat}(hk:Kpt (F .itm) w w')(hw:ItmP A kept' row' G w' ro rc)(hG:∀ k,G k→k<w'.heap.size)(hs:∀ k,G k→F .itm k∨w.heap.size≤k):
  ∃ F',Lv N A { x with kept:=kept',row:=row' } F w w' F':=
 ⟨_,⟨V,h.itmTurn hk hw hG hs⟩,kpt_mu (by decide) hk,sub_upc hs⟩
theorem edrop {N:Nat}{A:Ad}{V:Va}{x:Ra}{F:Cp→Nat→Prop}{w:World}(h:Egv N w A V x F){p:Nat}(hp:p<x.kept.length)(hkl:x.kept.length≤1000000)(hrl:x.row.length≤1000000):
  Calls Tryz.prog 160 #[ptr A.pi,.int .i64 p] w fun e w'=>e=.returned (.tuple #[])∧∃ F',Lv N A { x with kept:=x.kept.set p zK,row:=x.row.erase p } F w w' F':=by
 obtain ⟨ro,rc,hI⟩:=h.itm
 refine (idrop_any hI (h.part .itm).lt hp hkl hrl).mono ?_
 rintro e w' ⟨rfl,G,ro',rc',h1,h2,h3,h4⟩
 exact ⟨rfl,h.itmLv h2 h1 h4 h3⟩
theorem eput {N:Nat}{A:Ad}{V:Va}{x:Ra}{F:Cp→Nat→Prop}{w:World}(h:Egv N w A V x F){p:Nat}(hp:p<x.kept.length)(hkl:x.kept.length≤1000000)(hrl:x.row.length≤100000)(z:Int × Im):
  Calls Tryz.prog 241 #[ptr A.pi,.int .i64 p,.agg (EK.cells z).toArray] w fun e w'=>e=.returned (.tuple #[])∧∃ F',Lv N A { x with kept:=x.kept.set p z,row:=x.row.erase p++[(p:Int)] } F w w' F':=by
 obtain ⟨ro,rc,hI⟩:=h.itm
 refine (iput_any hI (h.part .itm).lt hp hkl hrl z).mono ?_
 rintro e w' ⟨rfl,G,ro',rc',h1,h2,h3,h4⟩
 exact ⟨rfl,h.itmLv h2 h1 h4 h3⟩
theorem Lv.box {N:Nat}{A:Ad}{x:Ra}{F F':Cp→Nat→Prop}{w w':World}{b:Nat}{vs:List Value}(h:Lv N A x F w w' F')(hb:GBx w b vs)(hn:¬ Un F b):GBx w' b vs∧¬ Un F' b:=by
 refine ⟨hb.kpt h.kpt fun hm=>hn (mu_un hm),fun hu=>?_⟩
 rcases h.subU b hu with h1 | h1
 ·exact hn h1
 ·have:=hb.lt;omega
theorem Lv.write {N:Nat}{A:Ad}{x:Ra}{F F':Cp→Nat→Prop}{w w':World}{b:Nat}{vs:List Value}(h:Lv N A x F w w' F')(hu:¬ Un F' b)(hb:w.heap.size≤b)(j:Nat):Lv N A x F w (sets w' b j vs) F':=by
 have hk:=Kpt.grown (sets_grown b vs w' j)
 have hs:=sets_size b vs w' j
 obtain ⟨V,he⟩:=h.eg
 refine ⟨⟨V,Parts.same he (by omega) fun k hk'=>hk.block k (Parts.lt he k hk') (fun e=>hu (e ▸ hk'))⟩,h.kpt.trans hk (fun k e=>.inr (by omega)),h.sub⟩
def Ra.forget (x:Ra)(p:Nat)(n:Na):Ra:={ x with T:=strikeN n x.T,L:=strikeN n x.L,kept:=x.kept.set p zK,row:=x.row.erase (p:Int) }
set_option maxHeartbeats 4000000 in
theorem forget_any {N:Nat}{A:Ad}{x:Ra}{F:Cp→Nat→Prop}{w:World}(h:Eg N w A x F){p:Nat}(hp:p<x.kept.length)(hkl:x.kept.length≤1000000)(hrl:x.row.length≤1000000)(hn:okN (x.kept[p].1,x.kept[p].2.key))(htl:x.T.length≤1000):
  Calls Tryz.prog 96 #[ptr A.b,.int .i64 p] w fun e w'=>e=.returned (.agg #[.int .i64 x.kept[p].1,.string x.kept[p].2.key])∧∃ F',Lv N A (x.forget p (x.kept[p].1,x.kept[p].2.key)) F w w' F':=by
 obtain ⟨V,h⟩:=h
 have HE:=Hid.m h
 obtain ⟨ro,rc,hI⟩:=h.itm
 have HUL:Hid (∀ k,Un F k→k<w.heap.size):=Parts.lt h
 have c25:=h.c25
 have hlt:=h.lt
 have i0:=hI.h0
 have plt:=hI.head.lt
 have klt:=hI.body.lt
 obtain ⟨k0,k1,k2,k3,k4,k5⟩:=hI.at_ hp
 obtain ⟨W,hW⟩:∃ W,W=w.alloc (.cells #[.int .i64 0,.string ⟨#[]⟩] 119):=⟨_,rfl⟩
 have hBW:Below w.heap.size w W:=by rw [hW];exact g_alloc _ _
 have HBW:=Hid.m hBW
 have HBX:Hid (GBx W w.heap.size [.int .i64 0,.string ⟨#[]⟩]):=by rw [hW];exact GBx.made w _ _
 have HNM:=Hid.m (fun V0=>enameOf_any x.kept[p] V0)
 simp only [EK] at HNM
 obtain ⟨z,hz⟩:∃ z,z=x.kept[p]:=⟨_,rfl⟩
 rw [← hz] at HNM hn k0 k1 k2 k3 k4 k5 ⊢
 have w25:W.cell? ⟨A.b,25,none⟩=some (ptr A.pi):=(hBW.cell (p:=⟨A.b,25,none⟩) hlt).trans c25
 have wi0:W.cell? ⟨A.pi,0,none⟩=some (.slice (some ⟨A.pk,0,none⟩) x.kept.length x.kept.length):=(hBW.cell (p:=⟨A.pi,0,none⟩) plt).trans i0
 have q0:=(hBW.cell (p:=⟨A.pk,p * 6,none⟩) klt).trans k0
 have q1:=(hBW.cell (p:=⟨A.pk,p * 6+1,none⟩) klt).trans k1
 have q2:=(hBW.cell (p:=⟨A.pk,p * 6+2,none⟩) klt).trans k2
 have q3:=(hBW.cell (p:=⟨A.pk,p * 6+3,none⟩) klt).trans k3
 have q4:=(hBW.cell (p:=⟨A.pk,p * 6+4,none⟩) klt).trans k4
 have q5:=(hBW.cell (p:=⟨A.pk,p * 6+5,none⟩) klt).trans k5
 have l1:A.b<W.heap.size:=Nat.lt_of_lt_of_le hlt hBW.size
 have l2:A.pi<W.heap.size:=Nat.lt_of_lt_of_le plt hBW.size
 have l3:A.pk<W.heap.size:=Nat.lt_of_lt_of_le klt hBW.size
 have HP:=Hid.m hp
 obtain ⟨K,hK⟩:∃ K,K=x.kept.length:=⟨_,rfl⟩
 rw [← hK] at wi0 hp
 have hp2:(p:Int)<(K:Int):=by omega
 clear h hI c25 i0 k0 k1 k2 k3 k4 k5 hlt plt klt hBW hK hz
 unfold ptr at w25 ⊢
 go_enter Tryz.func96,Tryz.ntmps96
 go_upto_region 1 with (fail)
 rw [← hW]
 clear hW
 go_upto_region 2 with (go_at_call 112;go_must (refine (HNM.out _).mono ?_);rintro e w1 ⟨rfl,hb1⟩;have HB1:=Hid.m hb1;clear hb1)
 clear q0 q1 q2 q3 q4 q5 w25 wi0 l1 l2 l3
 have hBN:GBx (w1.alloc (.cells #[.int .i64 z.1,.string z.2.key] 119)) w1.heap.size [.int .i64 z.1,.string z.2.key]:=GBx.made w1 _ _
 have hBR:GBx (w1.alloc (.cells #[.int .i64 z.1,.string z.2.key] 119)) w.heap.size [.int .i64 0,.string ⟨#[]⟩]:=(HBX.out.below HB1.out).alloc _
 have hB2:Below w.heap.size w (w1.alloc (.cells #[.int .i64 z.1,.string z.2.key] 119)):=g_on (g_on HBW.out HB1.out) (g_alloc _ _)
 have hNE:w.heap.size≠w1.heap.size:=by have:=HBX.out.lt;have:=HB1.out.size;omega
 obtain ⟨w2,hw2⟩:∃ w2,w2=w1.alloc (.cells #[.int .i64 z.1,.string z.2.key] 119):=⟨_,rfl⟩
 obtain ⟨B,hB⟩:∃ B,B=w1.heap.size:=⟨_,rfl⟩
 obtain ⟨C,hC⟩:∃ C,C=w.heap.size:=⟨_,rfl⟩
 rw [← hw2,← hB] at hBN
 rw [← hw2,← hC] at hBR
 rw [← hw2] at hB2
 rw [← hC,← hB] at hNE
 have HBN:=Hid.m hBN
 have HBR:=Hid.m hBR
 have HB2:=Hid.m hB2
 have HNE:=Hid.m hNE
 have HUB:Hid (¬ Un F B):=fun hu=>by have:=HUL.out _ hu;have:=HB1.out.size;have:=HBW.out.size;omega
 have HUC:Hid (¬ Un F C):=fun hu=>by have:=HUL.out _ hu;omega
 have HE2:=Hid.m (HE.out.below hB2)
 rw [← hw2]
 try rw [← hB]
 try rw [← hC]
 have HCC:=Hid.m hC
 have n0:=hBN.c 0 (by simp)
 have n1:=hBN.c 1 (by simp)
 have nl:=hBN.lt
 simp only [List.getElem_cons_zero,List.getElem_cons_succ] at n0 n1
 clear hBN hBR hB2 hNE hw2 hB hC HNM HBX HB1
 have d2:=HE2.out.c2
 have dl:=HE2.out.lt
 have HTD:=Hid.m (fun W (hb:Below w2.heap.size w2 W)=>tdel (HE2.out.below hb) hn htl)
 unfold ptr at d2 HTD
 dsimp only at HTD
 go_cut [] from 6 (fun wx=>∃ F1,Hid (Lv N A { x with T:=strikeN (z.1,z.2.key) x.T } F w2 wx F1))
 case first=>
  go_region_with (go_at_call 158;refine (HTD.out _ (by exact (Below.refl _ _).drew)).mono ?_;rintro e w3 ⟨⟨r,rfl⟩,F1,hL⟩;have HL:=Hid.m (hL.from (w:=w2) (Below.refl _ _).drew);clear hL)
  all_goals (go_wp2;go_meet;case rel=>exact ⟨F1,HL⟩)
 case rest=>
 obtain ⟨F1,HL1⟩:=hcut
 obtain ⟨w3,hw3⟩:∃ w3,w3=wc:=⟨_,rfl⟩
 rw [← hw3] at HL1 ⊢
 clear hw3 HTD d2 dl n0 n1 nl
 obtain ⟨hbn,hub⟩:=HL1.out.box HBN.out HUB.out
 obtain ⟨hbr,huc⟩:=HL1.out.box HBR.out HUC.out
 have HBN1:=Hid.m hbn
 have HUB1:=Hid.m hub
 have HBR1:=Hid.m hbr
 have HUC1:=Hid.m huc
 obtain ⟨V1,h1⟩:=HL1.out.eg
 have d1:=h1.c1
 have dl:=h1.lt
 have n0:=hbn.c 0 (by simp)
 have n1:=hbn.c 1 (by simp)
 have nl:=hbn.lt
 simp only [List.getElem_cons_zero,List.getElem_cons_succ] at n0 n1
 have HWD:=Hid.m (fun W (hb:Below w3.heap.size w3 W)=>wdel (h1.below hb) hn)
 unfold ptr at d1 HWD
 dsimp only at HWD
 clear hbn hub hbr huc h1 HBN HUB HBR HUC
 go_upto_region 3 with (fail)
 go_cut [] from 6 (fun wx=>∃ F2,Hid (Lv N A { x with T:=strikeN (z.1,z.2.key) x.T,L:=strikeN (z.1,z.2.key) x.L } F1 w3 wx F2))
 case first=>
  go_region_with (go_at_call 159;refine (HWD.out _ (by exact (Below.refl _ _).drew)).mono ?_;rintro e w4 ⟨⟨r,rfl⟩,F2,hL⟩;have HL:=Hid.m (hL.from (w:=w3) (Below.refl _ _).drew);clear hL)
  all_goals (go_wp2;go_meet;case rel=>exact ⟨F2,HL⟩)
 case rest=>
 obtain ⟨F2,HL2⟩:=hcut
 obtain ⟨w4,hw4⟩:∃ w4,w4=wc:=⟨_,rfl⟩
 rw [← hw4] at HL2 ⊢
 clear hw4 HWD d1 dl n0 n1 nl
 obtain ⟨hbn,hub⟩:=HL2.out.box HBN1.out HUB1.out
 obtain ⟨hbr,huc⟩:=HL2.out.box HBR1.out HUC1.out
 have HBN2:=Hid.m hbn
 have HUB2:=Hid.m hub
 have HBR2:=Hid.m hbr
 have HUC2:=Hid.m huc
 obtain ⟨V2,h2⟩:=HL2.out.eg
 have d25:=h2.c25
 have dl:=h2.lt
 have HID:=Hid.m (edrop h2 HP.out hkl hrl)
 unfold ptr at d25 HID
 dsimp only at HID
 clear hbn hub hbr huc h2 HBN1 HUB1 HBR1 HUC1
 go_upto_region 5 with (go_at_call 160;refine HID.out.mono ?_;rintro e w5 ⟨rfl,F3,hL3⟩;have HL3:=Hid.m hL3;clear hL3)
 obtain ⟨hbn,hub⟩:=HL3.out.box HBN2.out HUB2.out
 obtain ⟨hbr,huc⟩:=HL3.out.box HBR2.out HUC2.out
 have n0:=hbn.c 0 (by simp)
 have n1:=hbn.c 1 (by simp)
 have nl:=hbn.lt
 have r0:=hbr.c 0 (by simp)
 have r1:=hbr.c 1 (by simp)
 have rf0:=hbr.f 0
 have rf1:=hbr.f 1
 have rl:=hbr.lt
 simp only [List.getElem_cons_zero,List.getElem_cons_succ] at n0 n1 r0 r1
 have hfin:GBx ((w5.setCell ⟨C,0,none⟩ (.int .i64 z.1)).setCell ⟨C,1,none⟩ (.string z.2.key)) C [.int .i64 z.1,.string z.2.key]:=((hbr.set 0 (.int .i64 z.1) (by simp)).set 1 (.string z.2.key) (by simp)).ext (by simp)
 have y0:=hfin.c 0 (by simp)
 have y1:=hfin.c 1 (by simp)
 simp only [List.getElem_cons_zero,List.getElem_cons_succ] at y0 y1
 have Y0:=Hid.m y0
 have Y1:=Hid.m y1
 have HLL:=Hid.m ((((HL1.out.trans HL2.out).trans HL3.out).from HB2.out).write (b:=C) (vs:=[.int .i64 z.1,.string z.2.key]) huc (Nat.le_of_eq HCC.out.symm) 0)
 clear hbn hub hbr huc hfin y0 y1 HBN2 HUB2 HBR2 HUC2 HID d25 dl
 go_wp2
 try simp only [Exit.inBlock,Exit.then]
 refine bodyPost_ret (v:=.agg #[.int .i64 z.1,.string z.2.key]) (by simp [results,Tryz.results96,go_sem,Y0.out,Y1.out]) rfl ⟨rfl,F3,?_⟩
 exact HLL.out
end Go.Proofs.YtcdpiefflnaghaaGreatDoor.En
namespace Go.Proofs.YtcdpiefflnaghaaGreatDoor.En
open Go.Proofs.YtcdpiefflnaghaaGreatDoor.It
open Go.Proofs.YtcdpiefflnaghaaGreatDoor.Lr
open Go.Proofs.YtcdpiefflnaghaaGreatDoor.Qt
open Go.Proofs.YtcdpiefflnaghaaGreatDoor.Sb
open Go.RowKit Go.Proofs.YtcdpiefflnaghaaGreatDoor
def Ra.release (x:Ra)(p I:Nat)(key:ByteArray):Ra:={ x with ord:=upn x.ord I ((x.ord I).del key),pages:=freeR x.pages (p / 16:Nat) (p % 16:Nat) }
structure Lvs (x:Ra)(p t c:Nat)(z:Int × Im):Prop where
 hz:x.kept[p]? = some z
 hkl:x.kept.length≤1000000
 hrl:x.row.length≤100000
 htl:x.T.length≤1000
 hil:p / 16<x.pages.length
 ht:x.pages[p / 16].t=(t:Int)
 hc:x.pages[p / 16].c=(c:Int)
 ht4:t<4
 hc5:c<5
 hok:(x.ord (t * 5+c)).ok
 hin:z.2.key∈(x.ord (t * 5+c)).line
 hs:sOk x.pages=true
 hbit:x.pages[p / 16].u.testBit (p % 16)=true
 hn:okN (z.1,z.2.key)
theorem release_l {N:Nat}{A:Ad}{x:Ra}{F:Cp→Nat→Prop}{w:World}(h:Eg N w A x F){p t c:Nat}{z:Int × Im}(H:Lvs x p t c z):
  Calls Tryz.prog 95 #[ptr A.b,.int .i64 p] w fun e w'=>e=.returned (.tuple #[])∧∃ F',Lv N A (x.release p (t * 5+c) z.2.key) F w w' F':=by
 obtain ⟨hp,hz⟩:=List.getElem?_eq_some_iff.1 H.hz
 subst hz
 exact release_any h hp H.hkl rfl H.hil H.ht H.hc H.ht4 H.hc5 H.hok H.hin H.hs H.hbit
theorem hit_l {N:Nat}{A:Ad}{x:Ra}{F:Cp→Nat→Prop}{w:World}(h:Eg N w A x F){p t c:Nat}{z:Int × Im}(H:Lvs x p t c z):
  Calls Tryz.prog 137 #[ptr A.b,.int .i64 p] w fun e w'=>e=.returned (.tuple #[])∧∃ F',Lv N A { x with ord:=upn x.ord (t * 5+c) ((x.ord (t * 5+c)).hit z.2.key) } F w w' F':=by
 obtain ⟨hp,hz⟩:=List.getElem?_eq_some_iff.1 H.hz
 subst hz
 exact hit_any h hp H.hkl rfl H.hil H.ht H.hc H.ht4 H.hc5 H.hok H.hin
theorem forget_z {N:Nat}{A:Ad}{x:Ra}{F:Cp→Nat→Prop}{w:World}(h:Eg N w A x F){p:Nat}{z:Int × Im}(hz:x.kept[p]? = some z)(hkl:x.kept.length≤1000000)(hrl:x.row.length≤1000000)(hn:okN (z.1,z.2.key))(htl:x.T.length≤1000):
  Calls Tryz.prog 96 #[ptr A.b,.int .i64 p] w fun e w'=>e=.returned (.agg #[.int .i64 z.1,.string z.2.key])∧∃ F',Lv N A (x.forget p (z.1,z.2.key)) F w w' F':=by
 obtain ⟨hp,hz⟩:=List.getElem?_eq_some_iff.1 hz
 subst hz
 exact forget_any h hp hkl hrl hn htl
theorem Eg.un {N:Nat}{A:Ad}{x:Ra}{F:Cp→Nat→Prop}{w:World}(h:Eg N w A x F):∀ k,Un F k→k<w.heap.size:=by
 obtain ⟨V,hv⟩:=h
 exact Parts.lt hv
set_option maxHeartbeats 1000000 in
theorem leave_any {N:Nat}{A:Ad}{x:Ra}{F:Cp→Nat→Prop}{w:World}(h:Eg N w A x F){p t c:Nat}{z:Int × Im}(H:Lvs x p t c z):
  Calls Tryz.prog 51 #[ptr A.b,.int .i64 p] w fun e w'=>e=.returned (.agg #[.int .i64 z.1,.string z.2.key])∧∃ F',Lv N A ((x.release p (t * 5+c) z.2.key).forget p (z.1,z.2.key)) F w w' F':=by
 obtain ⟨W,hW⟩:∃ W,W=w.alloc (.cells #[.int .i64 0,.string ⟨#[]⟩] 119):=⟨_,rfl⟩
 have hBW:Below w.heap.size w W:=by rw [hW];exact g_alloc _ _
 have HBX:Hid (GBx W w.heap.size [.int .i64 0,.string ⟨#[]⟩]):=by rw [hW];exact GBx.made w _ _
 have HBW:=Hid.m hBW
 have HU:Hid (¬ Un F w.heap.size):=fun hu=>by have:=h.un _ hu;omega
 have HRL:=Hid.m (release_l (h.below hBW) H)
 obtain ⟨x1,hx1⟩:∃ x1,x1=x.release p (t * 5+c) z.2.key:=⟨_,rfl⟩
 have HFG:Hid (∀ (w1:World) (F1:Cp→Nat→Prop),Eg N w1 A x1 F1→Calls Tryz.prog 96 #[ptr A.b,.int .i64 p] w1 fun e w'=>e=.returned (.agg #[.int .i64 z.1,.string z.2.key])∧∃ F',Lv N A (x1.forget p (z.1,z.2.key)) F1 w1 w' F'):=fun w1 F1 h1=>forget_z h1 (by rw [hx1];exact H.hz) (by rw [hx1];exact H.hkl) (by rw [hx1];show x.row.length≤_;have:=H.hrl;omega) H.hn (by rw [hx1];exact H.htl)
 rw [← hx1] at HRL ⊢
 clear h H hx1 hBW
 unfold ptr at HRL HFG ⊢
 obtain ⟨B,hB⟩:∃ B,B=w.heap.size:=⟨_,rfl⟩
 rw [← hB] at HBX HU
 have HBB:=Hid.m hB
 go_enter Tryz.func51,Tryz.ntmps51
 go_upto_region 1 with (fail)
 rw [← hW,← hB]
 clear hW hB
 go_upto_region 2 with (go_at_call 95;refine HRL.out.mono ?_;rintro e w1 ⟨rfl,F1,hL1⟩;have HL1:=Hid.m hL1;clear hL1)
 go_wp2_with (go_at_call 96;refine (HFG.out w1 F1 HL1.out.eg).mono ?_;rintro e w2 ⟨rfl,F2,hL2⟩;have HL2:=Hid.m (HL1.out.trans hL2);have hb2:=HL2.out.box HBX.out HU.out;have HU2:=Hid.m hb2.2;have r0:=hb2.1.c 0 (by simp);have r1:=hb2.1.c 1 (by simp);have rf0:=hb2.1.f 0;have rf1:=hb2.1.f 1;have rl:=hb2.1.lt;have hfin:GBx ((w2.setCell ⟨B,0,none⟩ (.int .i64 z.1)).setCell ⟨B,1,none⟩ (.string z.2.key)) B [.int .i64 z.1,.string z.2.key]:=((hb2.1.set 0 (.int .i64 z.1) (by simp)).set 1 (.string z.2.key) (by simp)).ext (by simp);have Y0:=Hid.m (hfin.c 0 (by simp));have Y1:=Hid.m (hfin.c 1 (by simp));simp only [List.getElem_cons_zero,List.getElem_cons_succ] at r0 r1;clear hL2 hb2 hfin)
 try simp only [Exit.inBlock,Exit.then]
 refine bodyPost_ret (v:=.agg #[.int .i64 z.1,.string z.2.key]) (by simp [results,Tryz.results51,go_sem,Y0.out,Y1.out]) rfl ⟨rfl,F2,?_⟩
 exact (HL2.out.from HBW.out).write (b:=B) (vs:=[.int .i64 z.1,.string z.2.key]) HU2.out (Nat.le_of_eq HBB.out.symm) 0
end Go.Proofs.YtcdpiefflnaghaaGreatDoor.En
namespace Go.Proofs.YtcdpiefflnaghaaGreatDoor.En
open Go.Proofs.YtcdpiefflnaghaaGreatDoor.It
open Go.Proofs.YtcdpiefflnaghaaGreatDoor.Lr
open Go.Proofs.YtcdpiefflnaghaaGreatDoor.Qt
open Go.Proofs.YtcdpiefflnaghaaGreatDoor.Sb
open Go.RowKit Go.Proofs.YtcdpiefflnaghaaGreatDoor
set_option maxHeartbeats 4000000 in
theorem keep_no {N:Nat}{A:Ad}{x:Ra}{F:Cp→Nat→Prop}{w:World}(h:Eg N w A x F){p:Nat}(hp:p<x.kept.length)(hkl:x.kept.length≤1000000)(hrl:x.row.length≤100000){z:Int × Im}(hn:okN (z.1,z.2.key))(ht:z.2.till=0):
  Calls Tryz.prog 174 #[ptr A.b,.int .i64 p,.agg (EK.cells z).toArray] w fun e w'=>e=.returned (.tuple #[])∧∃ F',Lv N A { x with L:=strikeN (z.1,z.2.key) x.L,kept:=x.kept.set p z,row:=x.row.erase (p:Int)++[(p:Int)] } F w w' F':=by
 obtain ⟨V,h⟩:=h
 have HUL:Hid (∀ k,Un F k→k<w.heap.size):=Parts.lt h
 obtain ⟨W,hW⟩:∃ W,W=w.alloc (.cells #[.int .i64 z.1,.string z.2.key,.string z.2.value,.int .u32 z.2.flags,.int .i64 z.2.till,.int .u64 z.2.unique] 141):=⟨_,rfl⟩
 have hBW:Below w.heap.size w W:=by rw [hW];exact g_alloc _ _
 have hBX:GBx W w.heap.size (EK.cells z):=by rw [hW];exact GBx.made w (EK.cells z) _
 have HE:=Hid.m (h.below hBW)
 have HBW:=Hid.m hBW
 have HBX:=Hid.m hBX
 have HNM:=Hid.m (fun V0=>enameOf_any z V0)
 simp only [EK] at HNM HBX hBX
 have HP:=Hid.m hp
 have x0:=hBX.c 0 (by simp)
 have x1:=hBX.c 1 (by simp)
 have x2:=hBX.c 2 (by simp)
 have x3:=hBX.c 3 (by simp)
 have x4:=hBX.c 4 (by simp)
 have x5:=hBX.c 5 (by simp)
 have xl:=hBX.lt
 simp only [List.getElem_cons_zero,List.getElem_cons_succ] at x0 x1 x2 x3 x4 x5
 obtain ⟨C,hC⟩:∃ C,C=w.heap.size:=⟨_,rfl⟩
 rw [← hC] at HBX x0 x1 x2 x3 x4 x5 xl
 have HCC:=Hid.m hC
 have ht0:(z.2.till==0)=true:=by rw [ht];rfl
 clear ht
 clear h hBW hBX
 simp only [EK]
 unfold ptr
 go_enter Tryz.func174,Tryz.ntmps174
 go_upto_region 1 with (fail)
 rw [← hW,← hC]
 clear hW hC
 go_upto_region 2 with (go_at_call 112;refine (HNM.out _).mono ?_;rintro e w1 ⟨rfl,hb1⟩;have HB1:=Hid.m hb1;clear hb1)
 clear x0 x1 x2 x3 x4 x5 xl
 have hBN:GBx (w1.alloc (.cells #[.int .i64 z.1,.string z.2.key] 119)) w1.heap.size [.int .i64 z.1,.string z.2.key]:=GBx.made w1 _ _
 have hBR:GBx (w1.alloc (.cells #[.int .i64 z.1,.string z.2.key] 119)) C [.int .i64 z.1,.string z.2.key,.string z.2.value,.int .u32 z.2.flags,.int .i64 z.2.till,.int .u64 z.2.unique]:=(HBX.out.below HB1.out).alloc _
 have hB2:Below W.heap.size W (w1.alloc (.cells #[.int .i64 z.1,.string z.2.key] 119)):=g_on HB1.out (g_alloc _ _)
 obtain ⟨w2,hw2⟩:∃ w2,w2=w1.alloc (.cells #[.int .i64 z.1,.string z.2.key] 119):=⟨_,rfl⟩
 obtain ⟨B,hB⟩:∃ B,B=w1.heap.size:=⟨_,rfl⟩
 rw [← hw2,← hB] at hBN
 rw [← hw2] at hBR hB2
 have HBN:=Hid.m hBN
 have HBR:=Hid.m hBR
 have HB2:=Hid.m hB2
 have HUB:Hid (¬ Un F B):=fun hu=>by have:=HUL.out _ hu;have:=HB1.out.size;have:=HBW.out.size;omega
 have HUC:Hid (¬ Un F C):=fun hu=>by have:=HUL.out _ hu;have:=HCC.out;omega
 have HE2:=Hid.m (HE.out.below hB2)
 rw [← hw2]
 try rw [← hB]
 have n0:=hBN.c 0 (by simp)
 have n1:=hBN.c 1 (by simp)
 have nl:=hBN.lt
 have x0:=hBR.c 0 (by simp)
 have x1:=hBR.c 1 (by simp)
 have x2:=hBR.c 2 (by simp)
 have x3:=hBR.c 3 (by simp)
 have x4:=hBR.c 4 (by simp)
 have x5:=hBR.c 5 (by simp)
 have xl:=hBR.lt
 simp only [List.getElem_cons_zero,List.getElem_cons_succ] at n0 n1 x0 x1 x2 x3 x4 x5
 clear hBN hBR hB2 hw2 hB HNM HBX HB1
 have d1:=HE2.out.c1
 have dl:=HE2.out.lt
 have HWD:=Hid.m (fun W0 (hb:Below w2.heap.size w2 W0)=>wdel (HE2.out.below hb) hn)
 unfold ptr at d1 HWD
 dsimp only at HWD
 go_upto_region 3 with (fail)
 go_cut [] from 7 (fun wx=>∃ F1,Hid (Lv N A { x with L:=strikeN (z.1,z.2.key) x.L } F w2 wx F1))
 case first=>
  go_region_with (go_at_call 159;refine (HWD.out _ (by exact (Below.refl _ _).drew)).mono ?_;rintro e w3 ⟨⟨r,rfl⟩,F1,hL⟩;have HL:=Hid.m (hL.from (w:=w2) (Below.refl _ _).drew);clear hL)
  all_goals (go_wp2;go_meet;case rel=>exact ⟨F1,HL⟩)
 case rest=>
 obtain ⟨F1,HL1⟩:=hcut
 obtain ⟨w3,hw3⟩:∃ w3,w3=wc:=⟨_,rfl⟩
 rw [← hw3] at HL1 ⊢
 clear hw3 HWD d1 dl n0 n1 nl x0 x1 x2 x3 x4 x5 xl
 have hbr:=(HL1.out.box HBR.out HUC.out).1
 have x0:=hbr.c 0 (by simp)
 have x1:=hbr.c 1 (by simp)
 have x2:=hbr.c 2 (by simp)
 have x3:=hbr.c 3 (by simp)
 have x4:=hbr.c 4 (by simp)
 have x5:=hbr.c 5 (by simp)
 have xl:=hbr.lt
 simp only [List.getElem_cons_zero,List.getElem_cons_succ] at x0 x1 x2 x3 x4 x5
 obtain ⟨V1,h1⟩:=HL1.out.eg
 have d25:=h1.c25
 have dl:=h1.lt
 have HPT:=Hid.m (fun W0 (hb:Below w3.heap.size w3 W0)=>eput (h1.below hb) (p:=p) HP.out hkl hrl z)
 simp only [EK] at HPT
 unfold ptr at d25 HPT
 clear hbr h1
 go_upto_region 5 with (fail)
 go_region_with (go_at_call 241;refine (HPT.out _ (by exact (Below.refl _ _).drew)).mono ?_;rintro e w4 ⟨rfl,F2,hL⟩;have HL:=Hid.m (hL.from (w:=w3) (Below.refl _ _).drew);clear hL)
 all_goals (go_wp2;go_end0;exact ⟨rfl,F2,((HL1.out.trans HL.out).from HB2.out).from HBW.out⟩)
set_option maxHeartbeats 4000000 in
theorem keep_on {N:Nat}{A:Ad}{x:Ra}{F:Cp→Nat→Prop}{w:World}(h:Eg N w A x F){p:Nat}(hp:p<x.kept.length)(hkl:x.kept.length≤1000000)(hrl:x.row.length≤100000){z:Int × Im}(hn:okN (z.1,z.2.key))(hN:N<100000000)(ht:(x.now:Int)<z.2.till∧z.2.till≤1099511627776):
  Calls Tryz.prog 174 #[ptr A.b,.int .i64 p,.agg (EK.cells z).toArray] w fun e w'=>e=.returned (.tuple #[])∧∃ F',Lv (N+2) A { x with L:=((z.1,z.2.key),z.2.till)::strikeN (z.1,z.2.key) x.L,kept:=x.kept.set p z,row:=x.row.erase (p:Int)++[(p:Int)] } F w w' F':=by
 obtain ⟨V,h⟩:=h
 have HUL:Hid (∀ k,Un F k→k<w.heap.size):=Parts.lt h
 obtain ⟨W,hW⟩:∃ W,W=w.alloc (.cells #[.int .i64 z.1,.string z.2.key,.string z.2.value,.int .u32 z.2.flags,.int .i64 z.2.till,.int .u64 z.2.unique] 141):=⟨_,rfl⟩
 have hBW:Below w.heap.size w W:=by rw [hW];exact g_alloc _ _
 have hBX:GBx W w.heap.size (EK.cells z):=by rw [hW];exact GBx.made w (EK.cells z) _
 have HE:=Hid.m (h.below hBW)
 have HBW:=Hid.m hBW
 have HBX:=Hid.m hBX
 have HNM:=Hid.m (fun V0=>enameOf_any z V0)
 simp only [EK] at HNM HBX hBX
 have HP:=Hid.m hp
 have x0:=hBX.c 0 (by simp)
 have x1:=hBX.c 1 (by simp)
 have x2:=hBX.c 2 (by simp)
 have x3:=hBX.c 3 (by simp)
 have x4:=hBX.c 4 (by simp)
 have x5:=hBX.c 5 (by simp)
 have xl:=hBX.lt
 simp only [List.getElem_cons_zero,List.getElem_cons_succ] at x0 x1 x2 x3 x4 x5
 obtain ⟨C,hC⟩:∃ C,C=w.heap.size:=⟨_,rfl⟩
 rw [← hC] at HBX x0 x1 x2 x3 x4 x5 xl
 have HCC:=Hid.m hC
 have ht0:(z.2.till==0)=false:=by simp;omega
 clear h hBW hBX
 simp only [EK]
 unfold ptr
 go_enter Tryz.func174,Tryz.ntmps174
 go_upto_region 1 with (fail)
 rw [← hW,← hC]
 clear hW hC
 go_upto_region 2 with (go_at_call 112;refine (HNM.out _).mono ?_;rintro e w1 ⟨rfl,hb1⟩;have HB1:=Hid.m hb1;clear hb1)
 clear x0 x1 x2 x3 x4 x5 xl
 have hBN:GBx (w1.alloc (.cells #[.int .i64 z.1,.string z.2.key] 119)) w1.heap.size [.int .i64 z.1,.string z.2.key]:=GBx.made w1 _ _
 have hBR:GBx (w1.alloc (.cells #[.int .i64 z.1,.string z.2.key] 119)) C [.int .i64 z.1,.string z.2.key,.string z.2.value,.int .u32 z.2.flags,.int .i64 z.2.till,.int .u64 z.2.unique]:=(HBX.out.below HB1.out).alloc _
 have hB2:Below W.heap.size W (w1.alloc (.cells #[.int .i64 z.1,.string z.2.key] 119)):=g_on HB1.out (g_alloc _ _)
 obtain ⟨w2,hw2⟩:∃ w2,w2=w1.alloc (.cells #[.int .i64 z.1,.string z.2.key] 119):=⟨_,rfl⟩
 obtain ⟨B,hB⟩:∃ B,B=w1.heap.size:=⟨_,rfl⟩
 rw [← hw2,← hB] at hBN
 rw [← hw2] at hBR hB2
 have HBN:=Hid.m hBN
 have HBR:=Hid.m hBR
 have HB2:=Hid.m hB2
 have HUB:Hid (¬ Un F B):=fun hu=>by have:=HUL.out _ hu;have:=HB1.out.size;have:=HBW.out.size;omega
 have HUC:Hid (¬ Un F C):=fun hu=>by have:=HUL.out _ hu;have:=HCC.out;omega
 have HE2:=Hid.m (HE.out.below hB2)
 rw [← hw2]
 try rw [← hB]
 have n0:=hBN.c 0 (by simp)
 have n1:=hBN.c 1 (by simp)
 have nl:=hBN.lt
 have x0:=hBR.c 0 (by simp)
 have x1:=hBR.c 1 (by simp)
 have x2:=hBR.c 2 (by simp)
 have x3:=hBR.c 3 (by simp)
 have x4:=hBR.c 4 (by simp)
 have x5:=hBR.c 5 (by simp)
 have xl:=hBR.lt
 simp only [List.getElem_cons_zero,List.getElem_cons_succ] at n0 n1 x0 x1 x2 x3 x4 x5
 clear hBN hBR hB2 hw2 hB HNM HBX HB1
 have d1:=HE2.out.c1
 have dl:=HE2.out.lt
 have HWD:=Hid.m (fun W0 (hb:Below w2.heap.size w2 W0)=>wadd (HE2.out.below hb) hn hN ht)
 unfold ptr at d1 HWD
 dsimp only at HWD
 go_upto_region 4 with (fail)
 go_cut [] from 7 (fun wx=>∃ F1,Hid (Lv (N+2) A { x with L:=((z.1,z.2.key),z.2.till)::strikeN (z.1,z.2.key) x.L } F w2 wx F1))
 case first=>
  go_region_with (go_at_call 240;refine (HWD.out _ (by exact (Below.refl _ _).drew)).mono ?_;rintro e w3 ⟨rfl,F1,hL⟩;have HL:=Hid.m (hL.from (w:=w2) (Below.refl _ _).drew);clear hL)
  all_goals (go_wp2;go_meet;case rel=>exact ⟨F1,HL⟩)
 case rest=>
 obtain ⟨F1,HL1⟩:=hcut
 obtain ⟨w3,hw3⟩:∃ w3,w3=wc:=⟨_,rfl⟩
 rw [← hw3] at HL1 ⊢
 clear hw3 HWD d1 dl n0 n1 nl x0 x1 x2 x3 x4 x5 xl
 have hbr:=(HL1.out.box HBR.out HUC.out).1
 have x0:=hbr.c 0 (by simp)
 have x1:=hbr.c 1 (by simp)
 have x2:=hbr.c 2 (by simp)
 have x3:=hbr.c 3 (by simp)
 have x4:=hbr.c 4 (by simp)
 have x5:=hbr.c 5 (by simp)
 have xl:=hbr.lt
 simp only [List.getElem_cons_zero,List.getElem_cons_succ] at x0 x1 x2 x3 x4 x5
 obtain ⟨V1,h1⟩:=HL1.out.eg
 have d25:=h1.c25
 have dl:=h1.lt
 have HPT:=Hid.m (fun W0 (hb:Below w3.heap.size w3 W0)=>eput (h1.below hb) (p:=p) HP.out hkl hrl z)
 simp only [EK] at HPT
 unfold ptr at d25 HPT
 clear hbr h1
 go_upto_region 5 with (fail)
 go_region_with (go_at_call 241;refine (HPT.out _ (by exact (Below.refl _ _).drew)).mono ?_;rintro e w4 ⟨rfl,F2,hL⟩;have HL:=Hid.m (hL.from (w:=w3) (Below.refl _ _).drew);clear hL)
 all_goals (go_wp2;go_end0;exact ⟨rfl,F2,((HL1.out.trans HL.out).from HB2.out).from HBW.out⟩)
end Go.Proofs.YtcdpiefflnaghaaGreatDoor.En
namespace Go.Proofs.YtcdpiefflnaghaaGreatDoor.En
open Go.Proofs.YtcdpiefflnaghaaGreatDoor.It
open Go.Proofs.YtcdpiefflnaghaaGreatDoor.Lr
open Go.Proofs.YtcdpiefflnaghaaGreatDoor.Qt
open Go.Proofs.YtcdpiefflnaghaaGreatDoor.Sb
open Go.RowKit Go.Proofs.YtcdpiefflnaghaaGreatDoor
structure Gd (w:World)(C:Nat)(z:Int × Im)(W:World):Prop where
 bel:Below w.heap.size w W
 box:GBx W C [.int .i64 z.1,.string z.2.key,.string z.2.value,.int .u32 z.2.flags,.int .i64 z.2.till,.int .u64 z.2.unique]
 new:w.heap.size≤C
section
variable {w W W':World} {C:Nat} {z:Int × Im}
theorem Gd.call (h:Gd w C z W)(hb:Below W.heap.size W W'):Gd w C z W':=⟨g_on h.bel hb,h.box.below hb,h.new⟩
theorem Gd.drew (h:Gd w C z W):Gd w C z W.drew:=h.call (Below.refl _ _).drew
theorem Gd.set1 (h:Gd w C z W):Gd w C z (W.setCell ⟨C,1,none⟩ (.string z.2.key)):=⟨h.bel.setCell (p:=⟨C,1,none⟩) h.new _,(h.box.set 1 (.string z.2.key) (by simp)).ext (by simp),h.new⟩
theorem Gd.set2 (h:Gd w C z W):Gd w C z (W.setCell ⟨C,2,none⟩ (.string z.2.value)):=⟨h.bel.setCell (p:=⟨C,2,none⟩) h.new _,(h.box.set 2 (.string z.2.value) (by simp)).ext (by simp),h.new⟩
theorem Gd.c (h:Gd w C z W):W.cell? ⟨C,0,none⟩=some (.int .i64 z.1)∧W.cell? ⟨C,1,none⟩=some (.string z.2.key)∧W.cell? ⟨C,2,none⟩=some (.string z.2.value)∧W.cell? ⟨C,3,none⟩=some (.int .u32 z.2.flags)∧W.cell? ⟨C,4,none⟩=some (.int .i64 z.2.till)∧W.cell? ⟨C,5,none⟩=some (.int .u64 z.2.unique):=
 ⟨h.box.c 0 (by simp),h.box.c 1 (by simp),h.box.c 2 (by simp),h.box.c 3 (by simp),h.box.c 4 (by simp),h.box.c 5 (by simp)⟩
theorem Gd.s (h:Gd w C z W):W.cell? ⟨C,1,none⟩=some (.string z.2.key)∧W.cell? ⟨C,2,none⟩=some (.string z.2.value)∧W.frozen? ⟨C,1,none⟩=false∧W.frozen? ⟨C,2,none⟩=false∧C<W.heap.size:=⟨h.c.2.1,h.c.2.2.1,h.box.f 1,h.box.f 2,h.box.lt⟩
end
theorem Eg.mono {N N':Nat}{A:Ad}{x:Ra}{F:Cp→Nat→Prop}{w:World}(h:Eg N w A x F)(hN:N≤N'):Eg N' w A x F:=by
 obtain ⟨V,h⟩:=h
 refine ⟨V,⟨fun c=>?_,h.apart⟩⟩
 cases c
 ·exact h.part .eng
 ·refine (h.part .whl).imp fun w' hw=>?_
  obtain ⟨b0,mb,h1,h2⟩:=hw
  exact ⟨b0,mb,h1.mono hN,h2⟩
 ·exact h.part .tab
 ·exact h.part .itm
 ·exact h.part .imm
theorem Lv.mono {N N':Nat}{A:Ad}{x:Ra}{F F':Cp→Nat→Prop}{w w':World}(h:Lv N A x F w w' F')(hN:N≤N'):Lv N' A x F w w' F':=⟨h.eg.mono hN,h.kpt,h.sub⟩
def dueL (L:List (Na × Int))(z:Int × Im):List (Na × Int):=if z.2.till=0 then strikeN (z.1,z.2.key) L else ((z.1,z.2.key),z.2.till)::strikeN (z.1,z.2.key) L
theorem keep_any {N:Nat}{A:Ad}{x:Ra}{F:Cp→Nat→Prop}{w:World}(h:Eg N w A x F){p:Nat}(hp:p<x.kept.length)(hkl:x.kept.length≤1000000)(hrl:x.row.length≤100000){z:Int × Im}(hn:okN (z.1,z.2.key))(hN:N<100000000)(hd:z.2.till=0∨((x.now:Int)<z.2.till∧z.2.till≤1099511627776)):
  Calls Tryz.prog 174 #[ptr A.b,.int .i64 p,.agg (EK.cells z).toArray] w fun e w'=>e=.returned (.tuple #[])∧∃ F',Lv (N+2) A { x with L:=dueL x.L z,kept:=x.kept.set p z,row:=x.row.erase (p:Int)++[(p:Int)] } F w w' F':=by
 by_cases e:z.2.till=0
 ·refine (keep_no h hp hkl hrl hn e).mono ?_
  rintro e1 w' ⟨rfl,F',hL⟩
  unfold dueL
  rw [if_pos e]
  exact ⟨rfl,F',hL.mono (by omega)⟩
 ·refine (keep_on h hp hkl hrl hn hN (hd.resolve_left e)).mono ?_
  rintro e1 w' ⟨rfl,F',hL⟩
  unfold dueL
  rw [if_neg e]
  exact ⟨rfl,F',hL⟩
set_option maxHeartbeats 4000000 in
theorem stand_any {N:Nat}{A:Ad}{x:Ra}{F:Cp→Nat→Prop}{w:World}(h:Eg N w A x F){p i t c:Nat}{z:Int × Im}(hp:p<x.kept.length)(hkl:x.kept.length≤1000000)(hrl:x.row.length≤100000)(htl:x.T.length<1000)(hi:p / 16=i)(hil:i<x.pages.length)(ht:x.pages[i].t=(t:Int))(hc:x.pages[i].c=(c:Int))(ht4:t<4)(hc5:c<5)
  (hok:(x.ord (t * 5+c)).ok) (hin:z.2.key∉(x.ord (t * 5+c)).line) (hll:(x.ord (t * 5+c)).line.length<256) (hn:okN (z.1,z.2.key)) (hv:z.2.value.size≤1000) (hN:N<100000000) (hd:z.2.till=0∨((x.now:Int)<z.2.till∧z.2.till≤1099511627776)):
  Calls Tryz.prog 114 #[ptr A.b,.int .i64 p,.agg (EK.cells z).toArray] w fun e w'=>e=.returned (.tuple #[])∧∃ F',Lv (N+2) A { x with ord:=upn x.ord (t * 5+c) ((x.ord (t * 5+c)).add z.2.key),T:=((z.1,z.2.key),(p:Int))::strikeN (z.1,z.2.key) x.T,L:=dueL x.L z,kept:=x.kept.set p z,row:=x.row.erase (p:Int)++[(p:Int)] } F w w' F':=by
 obtain ⟨W,hW⟩:∃ W,W=w.alloc (.cells #[.int .i64 z.1,.string z.2.key,.string z.2.value,.int .u32 z.2.flags,.int .i64 z.2.till,.int .u64 z.2.unique] 141):=⟨_,rfl⟩
 obtain ⟨C,hC⟩:∃ C,C=w.heap.size:=⟨_,rfl⟩
 have HG:Hid (Gd w C z W):=by
  rw [hW,hC]
  exact ⟨g_alloc _ _,GBx.made w _ _,Nat.le_refl _⟩
 have HE:=Hid.m h
 have HUC:Hid (¬ Un F C):=fun hu=>by have:=h.un _ hu;omega
 have HCK:=Hid.m (fun W0=>Tb.clone_any z.2.key W0 (by have:=hn.2.2.2;show z.2.key.size≤_;have h2:z.2.key.size≤32:=this;omega))
 have HCV:=Hid.m (fun W0=>Tb.clone_any z.2.value W0 (by omega))
 have HCC:=Hid.m hC
 have s0:=HG.out.s
 clear h
 simp only [EK]
 unfold ptr
 go_enter Tryz.func114,Tryz.ntmps114
 go_upto_region 1 with (fail)
 rw [← hW,← hC]
 clear hW hC
 go_cut [] from 9 (fun wx=>Hid (Gd w C z wx))
 case first=>
  go_region_held3 (fun V=>V.cell? ⟨C,1,none⟩=some (.string z.2.key)∧V.cell? ⟨C,2,none⟩=some (.string z.2.value)∧V.frozen? ⟨C,1,none⟩=false∧V.frozen? ⟨C,2,none⟩=false∧C<V.heap.size)
   (first | exact HG2.out.s | exact HG1.out.s | exact HG.out.s | exact HG.out.drew.s | exact HG2.out.set1.s | exact HG2.out.set2.s | exact HG2.out.set1.set2.s | exact HG2.out.set2.set1.s)
   (first
   | (have hq:=HG1;go_at_call 171;refine (HCV.out _).mono ?_;rintro e w2 ⟨rfl,hb2⟩;have HG2:=Hid.m (HG1.out.call hb2);clear hb2)
   | (go_at_call 171;refine (HCK.out _).mono ?_;rintro e w1 ⟨rfl,hb1⟩;have HG1:=Hid.m (HG.out.drew.call hb1);clear hb1))
  all_goals (go_wp2;go_meet)
  all_goals (case rel=>first | exact HG2.out.set1.set2 | exact HG2.out.set2.set1)
 case rest=>
 have HG3:=hcut
 obtain ⟨w3,hw3⟩:∃ w3,w3=wc:=⟨_,rfl⟩
 rw [← hw3] at HG3 ⊢
 clear hw3 hcut s0 HG HCK HCV
 have hE3:=HE.out.below HG3.out.bel
 have HO:=Hid.m (orderAt_any hE3 (p:=p) (by omega) hi hil ht hc ht4 hc5)
 obtain ⟨V,h⟩:=hE3
 have HE3:=Hid.m h
 have hIx:t * 5+c<20:=by omega
 obtain ⟨aT,cT,aK,cK,hOd⟩:=h.imm.od _ hIx
 have hkk:kOk z.2.key=true:=by
  have h1:=hn.2.2
  simp [kOk]
  exact h1
 have HT:=Hid.m (fun W0 (hb:Below w3.heap.size w3 W0)=>ladd (hOd.t.below hb) (hOd.k.below hb) hok hin hkk hll)
 have o0:=hOd.box.c 0 (by simp)
 have o1:=hOd.box.c 1 (by simp)
 have olt:=hOd.box.lt
 have cor:=h.co hIx
 have hlt:=h.lt
 have ck:=HG3.out.c.2.1
 have cl:=HG3.out.box.lt
 simp only [List.getElem_cons_zero,List.getElem_cons_succ] at o0 o1
 obtain ⟨od,hod⟩:∃ od,od=x.ord (t * 5+c):=⟨_,rfl⟩
 rw [← hod] at HT o0 o1
 obtain ⟨nT,hnT⟩:∃ n,n=od.T.length:=⟨_,rfl⟩
 obtain ⟨nK,hnK⟩:∃ n,n=od.K.length:=⟨_,rfl⟩
 rw [← hnT,← hnK] at HT
 rw [← hnT] at o0
 rw [← hnK] at o1
 obtain ⟨o',ho'⟩:∃ o',o'=od.add z.2.key:=⟨_,rfl⟩
 rw [← ho'] at HT
 have HO':=Hid.m ho'
 have HOD:=Hid.m hod
 obtain ⟨I,hIe⟩:∃ I,I=t * 5+c:=⟨_,rfl⟩
 rw [← hIe] at HO hIx cor o0 o1 olt
 have HIE:=Hid.m hIe
 obtain ⟨P,hP⟩:∃ P,P=V.po I:=⟨_,rfl⟩
 rw [← hP] at cor o0 o1 olt
 unfold ptr at cor HO
 have HS:Hid (∀ W0,Below w3.heap.size w3 W0→W0.cell? ⟨A.b,4+I,none⟩=some (.pointer (some ⟨P,0,none⟩))∧W0.cell? ⟨P,0,none⟩=some (.slice aT nT cT)∧W0.cell? ⟨P,1,none⟩=some (.slice aK nK cK)∧W0.cell? ⟨C,1,none⟩=some (.string z.2.key)):=fun W0 hb=>⟨(hb.cell (p:=⟨A.b,4+I,none⟩) hlt).trans cor,(hb.cell (p:=⟨P,0,none⟩) olt).trans o0,(hb.cell (p:=⟨P,1,none⟩) olt).trans o1,(hb.cell (p:=⟨C,1,none⟩) cl).trans ck⟩
 clear cor o0 o1 hod hnT hnK ho' hIe hP h hOd hi hil ht hc hok hin hll hkk ck
 go_upto_region 3 with (go_at_call 154;refine HO.out.mono ?_;rintro e w4 ⟨rfl,hb0⟩;have HB0:=Hid.m hb0;clear hb0)
 go_cut [7] from 9 (fun s7 wx=>∃ B aT' cT' aK' cK',s7=.pointer (some ⟨B,0,none⟩)∧Hid (Below w3.heap.size w3 wx∧w3.heap.size≤B∧GBx wx B [.slice aT' o'.T.length cT',.slice aK' o'.K.length cK']∧NewOd w3 wx o' aT' cT' aK' cK'))
 case first=>
  go_region_held3 (fun W0=>W0.cell? ⟨A.b,4+I,none⟩=some (.pointer (some ⟨P,0,none⟩))∧W0.cell? ⟨P,0,none⟩=some (.slice aT nT cT)∧W0.cell? ⟨P,1,none⟩=some (.slice aK nK cK)∧W0.cell? ⟨C,1,none⟩=some (.string z.2.key))
   (first | exact HS.out _ HB1.out | exact HS.out _ HB0.out | exact HS.out _ HB0.out.drew | exact HS.out _ (g_on HB0.out (g_alloc _ _)) | exact HS.out _ (g_on HB0.out (g_alloc _ _)).drew | exact HS.out _ (g_on HB1.out (g_alloc _ _)) | exact HS.out _ ((HB1.out.setCell (p:=⟨w4.heap.size,0,none⟩) HB0.out.size _).setCell (p:=⟨w4.heap.size,1,none⟩) HB0.out.size _))
   (first
   | (go_at_call 172;refine (HT.out w4.drew HB0.out.drew).mono ?_;rintro e w5 ⟨aT',cT',aK',cK',rfl,hN5,hb1⟩;have HA:=Hid.m hN5;have HB1:=Hid.m (g_on HB0.out (g_drew hb1));clear hb1 hN5)
   | (go_at_call 172;refine (HT.out (w4.alloc (.cells #[.slice none 0 0,.slice none 0 0] 108)).drew (g_on HB0.out (g_alloc _ _)).drew).mono ?_;rintro e w5 ⟨aT',cT',aK',cK',rfl,hN5,hb1⟩;have HX:=Hid.m ((GBx.made w4 [.slice none 0 0,.slice none 0 0] 108).below (g_drew hb1));have HA2:=Hid.m hN5;have HB1:=Hid.m (g_on HB0.out (g_on (g_alloc w4 _) (g_drew hb1)));have x0:=HX.out.c 0 (by simp);have x00:=HX.out.c 1 (by simp);have x1:=HX.out.f 0;have x11:=HX.out.f 1;have x2:=HX.out.lt;simp only [List.getElem_cons_zero,List.getElem_cons_succ] at x0 x00;clear hb1 hN5))
  all_goals (go_wp2;go_meet)
  all_goals (case rel=>first
   | exact ⟨_,aT',cT',aK',cK',rfl,g_on HB1.out (g_alloc _ _),HB1.out.size,GBx.made w5 [.slice aT' o'.T.length cT',.slice aK' o'.K.length cK'] _,(HA.out.after (w:=w3) HB0.out.size _)⟩
   | exact ⟨_,aT',cT',aK',cK',rfl,(HB1.out.setCell (p:=⟨w4.heap.size,0,none⟩) HB0.out.size _).setCell (p:=⟨w4.heap.size,1,none⟩) HB0.out.size _,HB0.out.size,((HX.out.set 0 _ (by simp)).set 1 _ (by simp)).ext (by simp),NewOd.down (HA2.out.before (w:=w4) (by simp) _ _) HB0.out.size⟩)
 case rest=>
 obtain ⟨B,aT',cT',aK',cK',rfl,HC⟩:=hcut
 obtain ⟨w6,hw6⟩:∃ w6,w6=wc:=⟨_,rfl⟩
 rw [← hw6] at HC ⊢
 clear hw6
 have y3:=(HS.out _ HC.out.1).1
 have yf:=(HE3.out.below HC.out.1).f (4+I)
 have ylt:=(HE3.out.below HC.out.1).lt
 obtain ⟨F1,hL⟩:=HE3.out.order HC.out.1 (o:=o') hIx HC.out.2.2.1 HC.out.2.2.2.t HC.out.2.2.2.k HC.out.2.1 HC.out.2.2.2.nt HC.out.2.2.2.nk
 unfold ptr at hL
 obtain ⟨w7,hw7⟩:∃ w7,w7=w6.setCell ⟨A.b,4+I,none⟩ (.pointer (some ⟨B,0,none⟩)):=⟨_,rfl⟩
 rw [← hw7] at hL
 have HL:=Hid.m hL
 obtain ⟨hbx,hub⟩:=hL.box HG3.out.box HUC.out
 have HBX:=Hid.m hbx
 have HUB:=Hid.m hub
 have c0:=hbx.c 0 (by simp)
 have c1:=hbx.c 1 (by simp)
 have c2:=hbx.c 2 (by simp)
 have c3:=hbx.c 3 (by simp)
 have c4:=hbx.c 4 (by simp)
 have c5:=hbx.c 5 (by simp)
 have cl7:=hbx.lt
 simp only [List.getElem_cons_zero,List.getElem_cons_succ] at c0 c1 c2 c3 c4 c5
 obtain ⟨V7,h7⟩:=hL.eg
 have d2:=h7.c2
 have dl:=h7.lt
 have HNM:=Hid.m (fun W0=>enameOf_any z W0)
 have HPT:=Hid.m (fun W0 (hb:Below w7.heap.size w7 W0)=>tput (h7.below hb) hn htl (p:Int))
 simp only [EK] at HNM
 unfold ptr at d2 HPT
 dsimp only at HPT
 clear hL hbx hub h7
 go_upto_region 5 with (fail)
 rw [← hw7]
 clear hw7 y3 yf ylt HC HS HT HO HE3 cl hlt olt
 go_cut [] from 9 (fun wx=>∃ F2,Hid (Lv N A { x with ord:=upn x.ord I o',T:=((z.1,z.2.key),(p:Int))::strikeN (z.1,z.2.key) x.T } F1 w7 wx F2))
 case first=>
  go_region_with (first
   | (go_at_call 112;refine (HNM.out _).mono ?_;rintro e w8 ⟨rfl,hb8⟩;have HB8:Hid (Below w7.heap.size w7 w8):=g_drew hb8;have e2:=(HB8.out.cell (p:=⟨A.b,2,none⟩) dl).trans d2;have el:=Nat.lt_of_lt_of_le dl HB8.out.size;clear hb8)
   | (go_at_call 173;refine (HPT.out _ HB8.out).mono ?_;rintro e w9 ⟨rfl,F2,hL9⟩;have HL9:=Hid.m (hL9.from HB8.out);clear hL9))
  all_goals (go_wp2;go_meet;case rel=>exact ⟨F2,HL9⟩)
 case rest=>
 obtain ⟨F2,HL2⟩:=hcut
 obtain ⟨w8,hw8⟩:∃ w8,w8=wc:=⟨_,rfl⟩
 rw [← hw8] at HL2 ⊢
 clear hw8 c0 c1 c2 c3 c4 c5 cl7 d2 dl HNM HPT
 have hbx:=(HL2.out.box HBX.out HUB.out).1
 have c0:=hbx.c 0 (by simp)
 have c1:=hbx.c 1 (by simp)
 have c2:=hbx.c 2 (by simp)
 have c3:=hbx.c 3 (by simp)
 have c4:=hbx.c 4 (by simp)
 have c5:=hbx.c 5 (by simp)
 have cl8:=hbx.lt
 simp only [List.getElem_cons_zero,List.getElem_cons_succ] at c0 c1 c2 c3 c4 c5
 have HKP:=Hid.m (keep_any HL2.out.eg (p:=p) hp hkl hrl hn hN hd)
 simp only [EK] at HKP
 unfold ptr at HKP
 clear hbx
 go_wp2_with (go_at_call 174;refine HKP.out.mono ?_;rintro e w9 ⟨rfl,F3,hL9⟩;have HL9:=Hid.m hL9;clear hL9)
 go_end0
 refine ⟨rfl,F3,?_⟩
 have hfin:=(((HL.out.trans HL2.out).trans HL9.out).from HG3.out.bel)
 rw [HO'.out,HOD.out,HIE.out] at hfin
 exact hfin
end Go.Proofs.YtcdpiefflnaghaaGreatDoor.En
