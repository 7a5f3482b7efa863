/-
  Package engine and what stands beneath it, part 32: contracts of functions, and what they rest on.
-/
import Derived.Deep.CutRange
import Derived.Deep.RegionWith
import Derived.Deep.AppendLies
import Derived.Lib.SliceRun
import Derived.Test.YtcdpiefflnaghaaGreatDoorU26
import Derived.Test.YtcdpiefflnaghaaGreatDoorU00
import Derived.Test.YtcdpiefflnaghaaGreatDoorU30
set_option linter.unusedSimpArgs false
set_option linter.unusedVariables false
set_option maxRecDepth 100000
namespace Go.Proofs.YtcdpiefflnaghaaGreatDoor.Qt
open Go.Proofs.YtcdpiefflnaghaaGreatDoor.Sb
open Go.RowKit
theorem Tryz.infoInt:(Tryz.prog.info? 3).map (fun i=>(i.zero,i.size,i.bytes))=some (some (.int .i64 0),1,8):=by kernel_rfl
theorem cell_of_heap {w:World}{g:Nat}{cur:Array Value}{t:TypeId}{m:Nat × Nat}(h:w.heap[g]? = some (.cells cur t m))(j:Nat):w.cell? ⟨g,j,none⟩=cur[j]?:=by
 unfold World.cell?
 simp [h]
theorem frozen_of_heap {w:World}{g:Nat}{cur:Array Value}{t:TypeId}(h:w.heap[g]? = some (.cells cur t (0,0)))(j:Nat):w.frozen? ⟨g,j,none⟩=false:=by
 unfold World.frozen?
 simp [h]
def IsAt (w:World)(B:Nat)(ao:Option Addr)(ks:List Int):Prop:=
 ks=[]∨∃ b off,ao=some ⟨b,off,none⟩∧b<B∧∀ j (hj:j<ks.length),w.cell? ⟨b,off+j,none⟩=some (.int .i64 ks[j])
theorem IsAt.below {w w':World}{B B':Nat}{ao:Option Addr}{ks:List Int}(h:IsAt w B ao ks)(hb:Below B w w')(hB:B≤B'):IsAt w' B' ao ks:=by
 rcases h with rfl | ⟨b,off,rfl,hlt,hc⟩
 ·exact .inl rfl
 ·exact .inr ⟨b,off,rfl,by omega,fun j hj=>(hb.cell (p:=⟨b,off+j,none⟩) hlt).trans (hc j hj)⟩
structure Il (w:World)(ao:Option Addr)(ks:List Int)(cap:Nat):Prop where
 hl:ks.length≤cap
 hc:cap≤9223372036854775807
 hn:ao=none→cap=0
 at_:IsAt w w.heap.size ao ks
theorem Il.below {w w':World}{ao:Option Addr}{ks:List Int}{cap:Nat}(h:Il w ao ks cap)(hb:Below w.heap.size w w'):Il w' ao ks cap:=
 ⟨h.hl,h.hc,h.hn,h.at_.below hb hb.size⟩
def OwnI (w:World)(base:Nat)(v:Value)(ks:List Int):Prop:=w.ownsRow base 3 1 v ks.length (ks.map (Value.int .i64))
theorem OwnI.nil (w:World)(base:Nat):OwnI w base (.slice none 0 0) []:=World.ownsRow_nil w base _ 1
theorem OwnI.mk' {w:World}{base g cap:Nat}{cur:Array Value}{ks:List Int}(hb:base≤g)(hg:w.heap[g]? = some (.cells cur 3 (0,0)))(hsz:cur.size=cap)(hn:ks.length≤cap)(hm:cap≤maxLen)
  (hc:∀ j (hj:j<ks.length),w.cell? ⟨g,j,none⟩=some (.int .i64 ks[j])):OwnI w base (.slice (some ⟨g,0,none⟩) ks.length cap) ks:=by
 refine ⟨by simp,.inr ⟨g,cap,cur,rfl,hb,hg,hn,hm,by omega,?_⟩⟩
 refine List.ext_getElem? fun j=>?_
 by_cases hj:j<ks.length
 ·have h1:=hc j hj
  rw [cell_of_heap hg] at h1
  rw [List.getElem?_take_of_lt (by omega),Array.getElem?_toList,h1]
  simp [hj]
 ·rw [List.getElem?_eq_none (by simp;omega),List.getElem?_eq_none (by simp;omega)]
theorem OwnI.parts {w:World}{base:Nat}{v:Value}{ks:List Int}(h:OwnI w base v ks):(v=.slice none 0 0∧ks=[])∨∃ g cap cur,v=.slice (some ⟨g,0,none⟩) ks.length cap∧base≤g∧w.heap[g]? = some (.cells cur 3 (0,0))∧cur.size=cap∧ks.length≤cap∧cap≤9223372036854775807∧∀ j (hj:j<ks.length),w.cell? ⟨g,j,none⟩=some (.int .i64 ks[j]):=by
 rcases h.2 with ⟨e,hn⟩ | ⟨g,cap,cur,e,hb,hg,hn,hm,hs,ht⟩
 ·exact .inl ⟨e,List.eq_nil_of_length_eq_zero hn⟩
 ·refine .inr ⟨g,cap,cur,e,hb,hg,by omega,hn,hm,fun j hj=>?_⟩
  subst e
  have:=World.ownsRow.cells h (g:=g) rfl j (.int .i64 ks[j]) (by simp [hj])
  rwa [addr_add,Nat.zero_add] at this
structure Grew (w w':World)(v v':Value):Prop where
 grown:w.grownBy w' v.ownBlock
 lies:∀ k,v'.ownBlock=some k→v.ownBlock=some k∨w.heap.size≤k
theorem Grew.refl (w:World)(v:Value):Grew w w v v:=⟨World.grownBy.refl w _,fun k h=>.inl h⟩
theorem int_one (ks:List Int):∀ u∈ks.map (Value.int .i64),u.oneCell'=true:=by
 intro u hu
 obtain ⟨c,_,rfl⟩:=List.mem_map.1 hu
 rfl
theorem int_news {w:World}{b off:Nat}{ks:List Int}(hc:∀ j (hj:j<ks.length),w.cell? ⟨b,off+j,none⟩=some (.int .i64 ks[j])):
  ∀ j u,(ks.map (Value.int .i64))[j]? = some u→w.cell? ((⟨b,off,none⟩:Addr).add j)=some u:=by
 intro j u hu
 have hj:j<ks.length:=by simpa using (List.getElem?_eq_some_iff.1 hu).1
 have:u=.int .i64 ks[j]:=by simpa [hj] using hu.symm
 subst this
 rw [addr_add]
 exact hc j hj
theorem run_app_ints (w:World)(ty:TypeId)(base:Nat)(v:Value)(l:List Int)(hown:OwnI w base v l)(ao:Option Addr)(c:Nat)(src:List Int)(B:Nat)(hnil:ao=none→c=0)(hsrc:IsAt w B ao src)
  (hlen:l.length+src.length≤1000000) (hbase:base≤w.heap.size):
  ∃ v' w',(Builtin.append_ #[26,26] ty #[v,.slice ao src.length c]).run Tryz.prog w=.ok v' w'∧OwnI w' base v' (l++src)∧Grew w w' v v':=by
 obtain ⟨i0,hi,hz0,hz1,hz2⟩:=info_parts Tryz.infoInt
 cases ao with
 | none=>
  have hs:src=[]:=by
   rcases hsrc with h | ⟨b,off,h,_⟩
   ·exact h
   ·cases h
  subst hs
  have hc:=hnil rfl
  subst hc
  have hr:=run_append_owned_none (P:=Tryz.prog) (w:=w) base 26 ty 3 i0 1 Tryz.underlying26 hi v l.length (l.map (Value.int .i64)) hown
  exact ⟨v,w,hr,by simpa using hown,Grew.refl w v⟩
 | some a=>
  have hm:maxLen=9223372036854775807:=rfl
  have hnews:∀ j u,(src.map (Value.int .i64))[j]? = some u→w.cell? (a.add j)=some u:=by
   rcases hsrc with rfl | ⟨b,off,h,_,hc⟩
   ·intro j u hu;simp at hu
   ·cases h
    exact int_news hc
  obtain ⟨v',w',hr,ho,hg,_,hat⟩:=run_append_own_at (P:=Tryz.prog) w base 26 ty 3 i0 (.int .i64 0) 1 8 Tryz.underlying26 hi hz0 hz1 hz2 rfl (by decide) v l.length (l.map (Value.int .i64)) hown a src.length c (src.map (Value.int .i64)) (by simp) hnews (int_one src) (by omega) (by omega) hbase
  refine ⟨v',w',hr,?_,hg,fun k hk=>?_⟩
  ·have:(l++src).length=l.length+src.length:=by simp
   unfold OwnI
   rw [this,List.map_append]
   exact ho
  ·rcases hat with h | h
   ·exact .inl (h ▸ hk)
   ·rw [h] at hk;cases hk;exact .inr (Nat.le_refl _)
section
variable {w:World} {ops:Array Oper} {rest:List Oper} {o:Oper} {a:Act} {Q:Exit→Act→World→Prop} {K:Act→World→Prop} {E:Prop}
theorem app_ints (hgd:o.guard=none)(s x:Operand)(ho:o.op=.call { callee:=.builtin .append,args:=#[s,x],argTypes:=#[26,26] })
  (base:Nat) (v:Value) (l:List Int) (hown:OwnI w base v l) (hs:a.eval s=v) (ao:Option Addr) (c:Nat) (src:List Int) (m:Nat) (hm:m=src.length) (hx:a.eval x=.slice ao m c) (B:Nat) (hnil:ao=none→c=0) (hsrc:IsAt w B ao src)
  (hlen:l.length+src.length≤1000000) (hbase:base≤w.heap.size)
  (h:∀ v' w',OwnI w' base v' (l++src)→Grew w w' v v'→wpList Tryz.prog ops Q rest (a.put o.dst v') w'):wpList Tryz.prog ops Q (o::rest) a w:=by
 subst hm
 refine wpList_plain hgd fun K hK=>?_
 obtain ⟨v',w',hr,h2,h3⟩:=run_app_ints w o.type base v l hown ao c src B hnil hsrc hlen hbase
 unfold Oper.wp execOp
 simp only [ho,resolve,invoke,builtin,Sem.run_bind,Sem.run_pure,Result.andThen_ok,List.map_toArray,List.map_cons,List.map_nil,hs,hx,hr]
 exact hK _ _ (h v' w' h2 h3)
end
end Go.Proofs.YtcdpiefflnaghaaGreatDoor.Qt
namespace Go.Proofs.YtcdpiefflnaghaaGreatDoor.Qt
open Go.Proofs.YtcdpiefflnaghaaGreatDoor.Sb
open Go.RowKit
theorem Il.lies {w:World}{ao:Option Addr}{q:List Int}{cap:Nat}(h:Il w ao q cap)(hne:q≠[]):∃ b off,ao=some ⟨b,off,none⟩∧b<w.heap.size∧∀ j (hj:j<q.length),w.cell? ⟨b,off+j,none⟩=some (.int .i64 q[j]):=by
 rcases h.at_ with e | h
 ·exact absurd e hne
 ·exact h
theorem Il.len {w:World}{ao:Option Addr}{q:List Int}{cap:Nat}(h:Il w ao q cap):q.length≤9223372036854775807:=by
 have:=h.hl;have:=h.hc;omega
theorem qsum_any (w:World)(ao:Option Addr)(q:List Int)(cap:Nat)(h:Il w ao q cap):
  Calls Tryz.prog 133 #[.slice ao q.length cap] w fun e w'=>e=.returned (.tuple #[.int .i64 (sumV q),.int .i64 (sumE q)])∧w'=w:=by
 have HS:=Hid.m h
 have hmx:=h.len
 clear h
 by_cases h4:4<q.length
 ·have e1:sumE q=4:=by unfold sumE;rw [if_pos h4]
  have e2:sumV q=0:=by unfold sumV;rw [e1];rfl
  rw [e1,e2]
  have h4':decide ((4:Int)<q.length)=true:=by simp;omega
  clear e1 e2
  go_enter Tryz.func133,Tryz.ntmps133
  go_wp2
  go_ret2
  exact ⟨rfl,rfl⟩
 have h4':decide ((4:Int)<q.length)=false:=by simp;omega
 obtain ⟨V,hV⟩:∃ V,V=sumV q:=⟨_,rfl⟩
 obtain ⟨E,hE⟩:∃ E,E=sumE q:=⟨_,rfl⟩
 rw [← hV,← hE]
 have HV:=Hid.m hV
 have HE:=Hid.m hE
 have HL:=Hid.m h4
 clear hV hE
 have hlen:q.length≤4:=by omega
 go_enter Tryz.func133,Tryz.ntmps133
 go_wp2
 go_loopw [4,12] (fun m i wr=>∃ (k:Nat) (m':Int),k≤q.length∧i=.int .i64 k∧m=.int .i64 m'∧0≤m'∧m'≤16 * k∧wr=w∧Hid (m'=(q.take k).sum)∧Hid (∀ j (hj:j<q.length),j<k→inQ q[j]=true)) (fun _ i _=>q.length - (intOf i).toNat)
 case atStart=>exact ⟨0,0,Nat.zero_le _,rfl,rfl,Int.le_refl _,by simp,rfl,by show _=_;simp,fun _ _ h=>absurd h (by omega)⟩
 case round=>
  obtain ⟨k,m',hk,rfl,rfl,hm0,hm1,rfl,HM,HA⟩:=hrel
  by_cases hlt:k<q.length
  ·have hlt2:(k:Int)<(q.length:Int):=by omega
   have hne:q≠[]:=by intro e;rw [e] at hlt;simp at hlt
   obtain ⟨b,off,rfl,hbl,hcs⟩:=HS.out.lies hne
   obtain ⟨p,hpe⟩:∃ p,p=q[k]:=⟨_,rfl⟩
   have r0:=hcs k hlt
   have hT:=sum_take hlt
   rw [← hpe] at r0 hT
   have HPE:=Hid.m hpe
   have HT:=Hid.m hT
   clear hpe hcs hne hT
   by_cases hp0:p<0
   ·have hb:inQ p=false:=by simp [inQ];omega
    have hE:E=2:=by
     rw [HE.out];unfold sumE;rw [if_neg HL.out,if_neg]
     intro g
     rw [List.all_eq_true] at g
     have:=g _ (List.getElem_mem hlt)
     rw [← HPE.out,hb] at this
     exact absurd this (by decide)
    have hV:V=0:=by rw [HV.out];unfold sumV;rw [← HE.out,hE];rfl
    subst hE hV
    have hp1:decide (p<0)=true:=by simp [hp0]
    clear hb
    go_wp2
    go_ret2
    exact ⟨rfl,rfl⟩
   have hp1:decide (p<0)=false:=by simp;omega
   by_cases hp2:16<p
   ·have hb:inQ p=false:=by simp [inQ];omega
    have hE:E=2:=by
     rw [HE.out];unfold sumE;rw [if_neg HL.out,if_neg]
     intro g
     rw [List.all_eq_true] at g
     have:=g _ (List.getElem_mem hlt)
     rw [← HPE.out,hb] at this
     exact absurd this (by decide)
    have hV:V=0:=by rw [HV.out];unfold sumV;rw [← HE.out,hE];rfl
    subst hE hV
    have hp3:decide (16<p)=true:=by simp [hp2]
    clear hb
    go_wp2
    go_ret2
    exact ⟨rfl,rfl⟩
   have hp3:decide (16<p)=false:=by simp;omega
   have HB:Hid (inQ p=true):=by show inQ p=true;simp [inQ];omega
   go_wp2
   go_roundw
   case rel=>exact ⟨k+1,m'+p,by omega,by go_num,by go_num,by omega,by omega,(by first | rfl | trivial),by show _=_;rw [HT.out,HM.out],fun j hj h=>by
    by_cases e:j=k
    ·subst e;rw [← HPE.out];exact HB.out
    ·exact HA.out j hj (by omega)⟩
   case measure=>simp [intOf];omega
  ·have hlt2:decide ((k:Int)<(q.length:Int))=false:=by simp;omega
   have hE:E=0:=by
    rw [HE.out];unfold sumE;rw [if_neg HL.out,if_pos]
    rw [List.all_eq_true]
    intro x hx
    obtain ⟨i,hi,rfl⟩:=List.mem_iff_getElem.1 hx
    exact HA.out i hi (by omega)
   have hV:V=m':=by
    rw [HV.out];unfold sumV;rw [← HE.out,hE,if_pos rfl,HM.out,List.take_of_length_le (by omega)]
   subst hE hV
   go_wp2
   go_ret2
   exact ⟨rfl,rfl⟩
theorem qmay_any (pool:Int)(w:World)(ao:Option Addr)(q:List Int)(cap:Nat)(h:Il w ao q cap):
  Calls Tryz.prog 82 #[.int .i64 pool,.slice ao q.length cap] w fun e w'=>e=.returned (.bool (mayQ pool q))∧w'=w:=by
 have hs:=qsum_any w ao q cap h
 have hmx:=h.len
 clear h
 by_cases h0:0<q.length
 ·have h0':decide ((0:Int)<q.length)=true:=by simp;omega
  by_cases hE:sumE q=0
  ·have hV:sumV q=q.sum:=by unfold sumV;rw [if_pos hE]
   have e1:mayQ pool q=decide (q.sum≤pool):=by simp [mayQ,hE,h0]
   rw [e1]
   rw [hE,hV] at hs
   clear hE hV e1
   obtain ⟨V,hV⟩:∃ V,V=q.sum:=⟨_,rfl⟩
   rw [← hV] at hs ⊢
   clear hV
   go_enter Tryz.func82,Tryz.ntmps82
   go_wp2_with (go_at_call 133;refine hs.mono ?_;rintro e w1 ⟨rfl,rfl⟩)
   go_ret
   exact ⟨rfl,rfl⟩
  ·have e1:mayQ pool q=false:=by simp [mayQ,hE]
   rw [e1]
   have hE':(sumE q==0)=false:=by simp [hE]
   obtain ⟨E,hE2⟩:∃ E,E=sumE q:=⟨_,rfl⟩
   obtain ⟨V,hV⟩:∃ V,V=sumV q:=⟨_,rfl⟩
   rw [← hE2] at hs hE'
   rw [← hV] at hs
   clear hE hE2 e1 hV
   go_enter Tryz.func82,Tryz.ntmps82
   go_wp2_with (go_at_call 133;refine hs.mono ?_;rintro e w1 ⟨rfl,rfl⟩)
   go_ret
   exact ⟨rfl,rfl⟩
 ·have h0':decide ((0:Int)<q.length)=false:=by rw [decide_eq_false_iff_not];omega
  have e1:mayQ pool q=false:=by unfold mayQ;rw [decide_eq_false h0];rfl
  rw [e1]
  obtain ⟨E,hE2⟩:∃ E,E=sumE q:=⟨_,rfl⟩
  obtain ⟨V,hV⟩:∃ V,V=sumV q:=⟨_,rfl⟩
  rw [← hE2,← hV] at hs
  clear hE2 e1 hV
  go_enter Tryz.func82,Tryz.ntmps82
  go_wp2_with (go_at_call 133;refine hs.mono ?_;rintro e w1 ⟨rfl,rfl⟩)
  go_ret
  exact ⟨rfl,rfl⟩
theorem qhas_any (ao:Option Addr)(q:List Int)(cap:Nat)(hmx:q.length≤9223372036854775807)(t:Int)(w:World):
  Calls Tryz.prog 128 #[.slice ao q.length cap,.int .i64 t] w fun e w'=>e=.returned (.bool (hasQ q t))∧w'=w:=by
 by_cases h:0≤t
 ·have h2:decide (0≤t)=true:=by simp [h]
  go_enter Tryz.func128,Tryz.ntmps128
  go_wp2
  go_ret
  exact ⟨by simp [hasQ,h],rfl⟩
 ·have h2:decide (0≤t)=false:=by simp;omega
  go_enter Tryz.func128,Tryz.ntmps128
  go_wp2
  go_ret
  exact ⟨by simp [hasQ];omega,rfl⟩
theorem qcheck_any (pool:Int)(w:World)(ao:Option Addr)(q:List Int)(cap:Nat)(h:Il w ao q cap):
  Calls Tryz.prog 37 #[.int .i64 pool,.slice ao q.length cap] w fun e w'=>e=.returned (.int .i64 (chkE pool q))∧w'=w:=by
 have hm:=qmay_any pool w ao q cap h
 clear h
 by_cases h1:pool<1
 ·have e:chkE pool q=2:=by unfold chkE;rw [if_pos (.inl h1)]
  rw [e]
  have h1':decide (pool<1)=true:=by simp [h1]
  clear e hm
  go_enter Tryz.func37,Tryz.ntmps37
  go_wp2
  go_ret
  exact ⟨rfl,rfl⟩
 have h1':decide (pool<1)=false:=by simp;omega
 by_cases h2:16<pool
 ·have e:chkE pool q=2:=by unfold chkE;rw [if_pos (.inr h2)]
  rw [e]
  have h2':decide (16<pool)=true:=by simp [h2]
  clear e hm
  go_enter Tryz.func37,Tryz.ntmps37
  go_wp2
  go_ret
  exact ⟨rfl,rfl⟩
 have h2':decide (16<pool)=false:=by simp;omega
 cases eM:mayQ pool q
 ·have e:chkE pool q=80:=by unfold chkE;rw [if_neg (by omega),if_neg (by rw [eM];decide)]
  rw [e]
  rw [eM] at hm
  clear e eM
  go_enter Tryz.func37,Tryz.ntmps37
  go_wp2_with (go_at_call 82;refine hm.mono ?_;rintro e w1 ⟨rfl,rfl⟩)
  go_ret
  exact ⟨rfl,rfl⟩
 ·have e:chkE pool q=0:=by unfold chkE;rw [if_neg (by omega),if_pos eM]
  rw [e]
  rw [eM] at hm
  clear e eM
  go_enter Tryz.func37,Tryz.ntmps37
  go_wp2_with (go_at_call 82;refine hm.mono ?_;rintro e w1 ⟨rfl,rfl⟩)
  go_ret
  exact ⟨rfl,rfl⟩
theorem qclone_any (w:World)(ao:Option Addr)(q:List Int)(cap:Nat)(h:Il w ao q cap)(hl:q.length≤1000):
  Calls Tryz.prog 41 #[.slice ao q.length cap] w fun e w'=>∃ v',e=.returned v'∧OwnI w' w.heap.size v' q∧Below w.heap.size w w':=by
 have hsl:=h.hn
 have HT:=Hid.m h.at_
 cases ao with
 | none=>
  have hc:=hsl rfl
  have h2:=h.hl
  have:q=[]:=List.eq_nil_of_length_eq_zero (by omega)
  subst this
  subst hc
  have hq:∀ (w:World),(binOp .eql 26 (.slice none 0 0) (.slice none 0 0)).run Tryz.prog w=.ok (.bool true) w:=fun w=>Lib.run_eql_slice_nil w _ _ none _ _ 0 0 Tryz.underlying26
  clear h hsl
  go_enter Tryz.func41,Tryz.ntmps41
  go_wp2
  go_ret
  exact ⟨_,rfl,OwnI.nil _ _,Below.refl _ _⟩
 | some a=>
  have hq:∀ (w:World),(binOp .eql 26 (.slice (some a) q.length cap) (.slice none 0 0)).run Tryz.prog w=.ok (.bool false) w:=fun w=>Lib.run_eql_slice_nil w _ _ (some a) _ _ 0 0 Tryz.underlying26
  have hm:maxLen=9223372036854775807:=rfl
  have HO:Hid (OwnI (w.alloc (.cells #[] 3)) w.heap.size (.slice (some ⟨w.heap.size,0,none⟩) 0 0) []):=World.ownsRow_made w #[] 0 (Nat.le_refl _) (Nat.zero_le _) (by simp)
  clear h hsl
  go_enter Tryz.func41,Tryz.ntmps41
  go_wp2_with (at_builtin;refine app_ints rfl _ _ rfl w.heap.size _ [] HO.out rfl (some a) cap q q.length rfl rfl (w.heap.size+1) (by intro e;cases e) (HT.out.below ((Below.refl _ _).alloc (Nat.le_refl _) _) (by omega)) (by simp;omega) (by simp) ?_;intro v' w1 hO hG)
  go_ret
  refine ⟨v',rfl,hO,?_⟩
  exact ((Below.refl _ w).alloc (Nat.le_refl _) _).grown hG.grown (by simp) (by intro k hk;simp [Value.ownBlock] at hk;omega)
end Go.Proofs.YtcdpiefflnaghaaGreatDoor.Qt
namespace Go.Proofs.YtcdpiefflnaghaaGreatDoor.Qt
open Go.Proofs.YtcdpiefflnaghaaGreatDoor.Sb
open Go.RowKit
def FreshI (w:World)(base:Nat)(v:Value)(q:List Int):Prop:=
 ∃ ao cap,v=.slice ao q.length cap∧q.length≤cap∧cap≤9223372036854775807∧(ao=none→cap=0)∧
  (q=[]∨∃ g,ao=some ⟨g,0,none⟩∧base≤g∧g<w.heap.size∧(∀ j,w.frozen? ⟨g,j,none⟩=false)∧∀ i (hi:i<q.length),w.cell? ⟨g,i,none⟩=some (.int .i64 q[i]))
theorem FreshI.nil (w:World)(base:Nat):FreshI w base (.slice none 0 0) []:=⟨none,0,rfl,by simp,by simp,fun _=>rfl,.inl rfl⟩
theorem FreshI.il {w:World}{base:Nat}{ao:Option Addr}{n cap:Nat}{q:List Int}(h:FreshI w base (.slice ao n cap) q):n=q.length∧Il w ao q cap:=by
 obtain ⟨ao',cap',e,h1,h2,h3,h4⟩:=h
 cases e
 refine ⟨rfl,h1,h2,h3,?_⟩
 rcases h4 with h | ⟨g,rfl,hb,hlt,hf,hc⟩
 ·exact .inl h
 ·exact .inr ⟨g,0,rfl,hlt,fun i hi=>by rw [Nat.zero_add];exact hc i hi⟩
theorem seti_lies {w:World}{g:Nat}{q:List Int}{i:Nat}(hi:i<q.length)(hc:∀ i (hi:i<q.length),w.cell? ⟨g,i,none⟩=some (.int .i64 q[i]))(p:Int):
  ∀ j (hj:j<(q.set i p).length),(w.setCell ⟨g,i,none⟩ (.int .i64 p)).cell? ⟨g,j,none⟩=some (.int .i64 (q.set i p)[j]):=by
 intro j hj
 have hj':j<q.length:=by simpa using hj
 by_cases e:j=i
 ·subst e
  have e1:(q.set j p)[j]=p:=by simp
  rw [e1]
  exact World.cell?_setCell_same _ _ _ (hc j hj')
 ·have e1:(q.set i p)[j]=q[j]:=by rw [List.getElem_set_ne (fun h=>e h.symm)]
  rw [e1,World.cell?_setCell_other _ _ _ _ (by simp <;> omega)]
  exact hc j hj'
theorem set_bad1 (pool:Int)(w:World)(ao:Option Addr)(q:List Int)(cap:Nat)(h:Il w ao q cap)(t p:Int)(hE:chkE pool q≠0):
  Calls Tryz.prog 102 #[.int .i64 pool,.slice ao q.length cap,.int .i64 t,.int .i64 p] w fun e w'=>e=.returned (.tuple #[.slice none 0 0,.int .i64 (chkE pool q)])∧Below w.heap.size w w':=by
 have hc:=qcheck_any pool w ao q cap h
 have hE':(chkE pool q != 0)=true:=by simp [hE]
 obtain ⟨E,e⟩:∃ E,E=chkE pool q:=⟨_,rfl⟩
 rw [← e] at hc hE' ⊢
 clear e hE h
 go_enter Tryz.func102,Tryz.ntmps102
 go_wp2_with (go_at_call 37;refine hc.mono ?_;rintro e w1 ⟨rfl,rfl⟩)
 go_ret2
 exact ⟨rfl,Below.refl _ _⟩
theorem set_bad2 (pool:Int)(w:World)(ao:Option Addr)(q:List Int)(cap:Nat)(h:Il w ao q cap)(t p:Int)(hE:chkE pool q=0)(hb:hasQ q t=false∨inQ p=false):
  Calls Tryz.prog 102 #[.int .i64 pool,.slice ao q.length cap,.int .i64 t,.int .i64 p] w fun e w'=>e=.returned (.tuple #[.slice none 0 0,.int .i64 2])∧Below w.heap.size w w':=by
 have hc:=qcheck_any pool w ao q cap h
 rw [hE] at hc
 have hh:=qhas_any ao q cap h.len t w
 clear h hE
 cases eH:hasQ q t
 ·rw [eH] at hh
  clear hb
  go_enter Tryz.func102,Tryz.ntmps102
  go_wp2_with (first
   | (go_at_call 37;refine hc.mono ?_;rintro e w1 ⟨rfl,rfl⟩)
   | (go_at_call 128;refine hh.mono ?_;rintro e w1 ⟨rfl,rfl⟩))
  go_ret2
  exact ⟨rfl,Below.refl _ _⟩
 ·rw [eH] at hh
  have hb2:inQ p=false:=by rcases hb with h | h;rw [eH] at h;cases h;exact h
  clear hb eH
  by_cases h1:p<0
  ·have h1':decide (p<0)=true:=by simp [h1]
   clear hb2
   go_enter Tryz.func102,Tryz.ntmps102
   go_wp2_with (first
    | (go_at_call 37;refine hc.mono ?_;rintro e w1 ⟨rfl,rfl⟩)
    | (go_at_call 128;refine hh.mono ?_;rintro e w1 ⟨rfl,rfl⟩))
   go_ret2
   exact ⟨rfl,Below.refl _ _⟩
  ·have h1':decide (p<0)=false:=by simp;omega
   have h2:16<p:=by simp [inQ] at hb2;omega
   have h2':decide (16<p)=true:=by simp [h2]
   clear hb2
   go_enter Tryz.func102,Tryz.ntmps102
   go_wp2_with (first
    | (go_at_call 37;refine hc.mono ?_;rintro e w1 ⟨rfl,rfl⟩)
    | (go_at_call 128;refine hh.mono ?_;rintro e w1 ⟨rfl,rfl⟩))
   go_ret2
   exact ⟨rfl,Below.refl _ _⟩
set_option maxHeartbeats 1000000 in
theorem set_on (pool:Int)(w:World)(ao:Option Addr)(q:List Int)(cap:Nat)(h:Il w ao q cap)(T:Nat)(p:Int)(hE:chkE pool q=0)(ht:T<q.length)(hp:inQ p=true)(R:List Int)(hR:R=q.set T p)(M:Bool)(hM:mayQ pool R=M)(F:Int)(Z:List Int)(hF:F=if M=true then 0 else 80)(hZ:Z=if M=true then R else []):
  Calls Tryz.prog 102 #[.int .i64 pool,.slice ao q.length cap,.int .i64 T,.int .i64 p] w fun e w'=>∃ ro rc,e=.returned (.tuple #[.slice ro Z.length rc,.int .i64 F])∧FreshI w' w.heap.size (.slice ro Z.length rc) Z∧Below w.heap.size w w':=by
 have hc:=qcheck_any pool w ao q cap h
 rw [hE] at hc
 have hh:=qhas_any ao q cap h.len T w
 have eH:hasQ q T=true:=by simp [hasQ];exact ht
 rw [eH] at hh
 have hl4:=(mayQ_len (chkE_may hE).2.2).2
 have hC:=qclone_any w ao q cap h (by omega)
 have hp2:0≤p∧p≤16:=by simpa [inQ] using hp
 have h1':decide (p<0)=false:=by simp;omega
 have h2':decide (16<p)=false:=by simp;omega
 have HR:=Hid.m hR
 have hlR:q.length=R.length:=by rw [hR];simp
 have hq0:q≠[]:=by intro e;rw [e] at ht;simp at ht
 have HQ0:=Hid.m hq0
 have hMay:=fun W ao cap (hi:Il W ao R cap)=>qmay_any pool W ao R cap hi
 rw [hM,← hlR] at hMay
 have HMay:=Hid.m hMay
 have HLR:=Hid.m hlR
 have HF:=Hid.m hF
 have HZ:=Hid.m hZ
 clear hE eH h hp hR hM hq0 hMay hlR hF hZ
 go_enter Tryz.func102,Tryz.ntmps102
 go_upto_region 7 with (first
  | (go_at_call 37;refine hc.mono ?_;rintro e w1 ⟨rfl,hw1⟩;have hw1:=hw1.symm;subst hw1)
  | (go_at_call 128;refine hh.mono ?_;rintro e w1 ⟨rfl,hw1⟩;have hw1:=hw1.symm;subst hw1)
  | (go_at_call 41;refine hC.mono ?_;rintro e w2 ⟨v',rfl,hO,hb2⟩))
 rcases hO.parts with ⟨-,e⟩ | ⟨g,cap',cur,rfl,hb,hg,hs,hn,hm,hcs⟩
 ·exact absurd e HQ0.out
 have hfz:w2.frozen? ⟨g,T,none⟩=false:=frozen_of_heap hg T
 have hcT:w2.cell? ⟨g,T,none⟩=some (.int .i64 q[T]):=hcs T ht
 have htl:(T:Int)<(q.length:Int):=by omega
 have hgl:g<w2.heap.size:=(Array.getElem?_eq_some_iff.1 hg).1
 have hX:Hid (FreshI (w2.setCell ⟨g,T,none⟩ (.int .i64 p)) w.heap.size (.slice (some ⟨g,0,none⟩) q.length cap') R∧Below w.heap.size w (w2.setCell ⟨g,T,none⟩ (.int .i64 p))):=by
  refine ⟨⟨_,cap',by rw [HLR.out],by have:=HLR.out;omega,hm,(by intro e;cases e),.inr ⟨g,rfl,hb,by simpa using hgl,fun j=>?_,?_⟩⟩,hb2.grown (grownBy_setCell w2 _ _) hb2.size (by intro k hk;cases hk;exact hb)⟩
  ·rw [World.frozen?_setCell];exact frozen_of_heap hg j
  ·have e:=HR.out
   subst e
   exact seti_lies ht hcs p
 obtain ⟨vT,hvT⟩:∃ vT,vT=q[T]:=⟨_,rfl⟩
 rw [← hvT] at hcT
 clear hvT hcs hO hb2 hg hs hb hc hh hC
 cases M
 ·have hF':F=80:=by rw [HF.out];rfl
  have hZ':Z=[]:=by rw [HZ.out];rfl
  clear HF HZ
  subst hF' hZ'
  go_wp2_with (go_at_call 82;refine (HMay.out _ _ _ hX.out.1.il.2).mono ?_;rintro e w4 ⟨rfl,rfl⟩)
  go_ret2
  exact ⟨none,0,rfl,FreshI.nil _ _,hX.out.2⟩
 ·have hF':F=0:=by rw [HF.out];rfl
  have hZ':Z=R:=by rw [HZ.out];rfl
  clear HF HZ
  subst hF' hZ'
  go_wp2_with (go_at_call 82;refine (HMay.out _ _ _ hX.out.1.il.2).mono ?_;rintro e w4 ⟨rfl,rfl⟩)
  go_ret2
  refine ⟨_,_,by rw [← HLR.out];rfl,by rw [← HLR.out];exact hX.out.1,hX.out.2⟩
theorem set_any (pool:Int)(w:World)(ao:Option Addr)(q:List Int)(cap:Nat)(h:Il w ao q cap)(t p:Int)(E:Int)(R:List Int)(hE:setE pool q t p=E)(hR:setR pool q t p=R):
  Calls Tryz.prog 102 #[.int .i64 pool,.slice ao q.length cap,.int .i64 t,.int .i64 p] w fun e w'=>∃ ro rc,e=.returned (.tuple #[.slice ro R.length rc,.int .i64 E])∧FreshI w' w.heap.size (.slice ro R.length rc) R∧Below w.heap.size w w':=by
 by_cases h1:chkE pool q=0
 ·cases h2:hasQ q t
  ·have e1:setE pool q t p=2:=by unfold setE;rw [if_neg (by simp [h1]),if_pos h2]
   have e2:setR pool q t p=[]:=by unfold setR;rw [e1];rfl
   rw [e1] at hE
   rw [e2] at hR
   subst hE hR
   refine (set_bad2 pool w ao q cap h t p h1 (.inl h2)).mono ?_
   rintro e w' ⟨rfl,hb⟩
   exact ⟨none,0,rfl,FreshI.nil _ _,hb⟩
  ·cases h3:inQ p
   ·have e1:setE pool q t p=2:=by unfold setE;rw [if_neg (by simp [h1]),if_neg (by simp [h2]),if_pos h3]
    have e2:setR pool q t p=[]:=by unfold setR;rw [e1];rfl
    rw [e1] at hE
    rw [e2] at hR
    subst hE hR
    refine (set_bad2 pool w ao q cap h t p h1 (.inr h3)).mono ?_
    rintro e w' ⟨rfl,hb⟩
    exact ⟨none,0,rfl,FreshI.nil _ _,hb⟩
   ·have ht:0≤t∧t<(q.length:Int):=by simpa [hasQ] using h2
    obtain ⟨T,rfl⟩:∃ T:Nat,t=(T:Int):=⟨t.toNat,by omega⟩
    have e1:setE pool q T p=if mayQ pool (q.set T p)=true then 0 else 80:=by unfold setE;rw [if_neg (by simp [h1]),if_neg (by simp [h2]),if_neg (by simp [h3]),Int.toNat_natCast]
    have e2:setR pool q T p=if mayQ pool (q.set T p)=true then q.set T p else []:=by
     unfold setR;rw [e1,Int.toNat_natCast]
     cases mayQ pool (q.set T p) <;> rfl
    exact set_on pool w ao q cap h T p h1 (by omega) h3 (q.set T p) rfl _ rfl E R (hE.symm.trans e1) (hR.symm.trans e2)
 ·have e1:setE pool q t p=chkE pool q:=by unfold setE;rw [if_pos h1]
  have e2:setR pool q t p=[]:=by unfold setR;rw [e1,if_neg h1]
  rw [e1] at hE
  rw [e2] at hR
  subst hE hR
  refine (set_bad1 pool w ao q cap h t p h1).mono ?_
  rintro e w' ⟨rfl,hb⟩
  exact ⟨none,0,rfl,FreshI.nil _ _,hb⟩
end Go.Proofs.YtcdpiefflnaghaaGreatDoor.Qt
namespace Go.Proofs.YtcdpiefflnaghaaGreatDoor.Qt
open Go.Proofs.YtcdpiefflnaghaaGreatDoor.Sb
open Go.RowKit
theorem hasQ_t {q:List Int}{t:Int}(hl:q.length≤4)(h:hasQ q t=true):isT t=true:=by
 simp [hasQ] at h;simp [isT];omega
theorem qowned_any (w:World)(so:Option Addr)(ps:List Pg)(sc:Nat)(hs:Sb w so ps sc)(ao:Option Addr)(q:List Int)(cap:Nat)(h:Il w ao q cap)(t:Int)(E O:Int)(hE:askE ps q t=E)(hO:O=if E=0 then (owned ps t:Int) else 0):
  Calls Tryz.prog 77 #[.agg #[.slice so ps.length sc],.slice ao q.length cap,.int .i64 t] w fun e w'=>e=.returned (.tuple #[.int .i64 O,.int .i64 E])∧Below w.heap.size w w':=by
 have HC:=Hid.m (fun W (hb:Below w.heap.size w W)=>scheck_any W so ps sc (hs.below hb))
 have hlq:=h.len
 have hlp:ps.length≤9223372036854775807:=by have:=hs.hl;have:=hs.hc;omega
 have HQ:=Hid.m (fun W (hb:Below w.heap.size w W)=>qcheck_any ps.length W ao q cap (h.below hb))
 have ha:∀ o,Below w.heap.size w (w.alloc o):=fun o=>(Below.refl _ _).alloc (Nat.le_refl _) _
 cases e1:sOk ps
 ·have e2:sE ps=8:=by unfold sE;rw [e1];rfl
  have e3:askE ps q t=8:=by unfold askE;rw [if_pos e1]
  rw [e3] at hE
  subst hE
  have e4:O=0:=by rw [hO];rfl
  subst e4
  rw [e2] at HC
  clear e1 e2 e3 HQ hO h hs
  go_enter Tryz.func77,Tryz.ntmps77
  go_wp2_with (go_at_call 30;refine (HC.out _ (ha _)).mono ?_;rintro e w2 ⟨rfl,hb2⟩)
  go_ret2
  exact ⟨rfl,below_alloc hb2⟩
 have e2:sE ps=0:=by unfold sE;rw [e1];rfl
 rw [e2] at HC
 clear e2
 by_cases eC:chkE ps.length q=0
 ·rw [eC] at HQ
  have hh:=fun W=>qhas_any ao q cap hlq t W
  cases eH:hasQ q t
  ·have e3:askE ps q t=2:=by unfold askE;rw [if_neg (by simp [e1]),if_neg (by simp [eC]),if_pos eH]
   rw [e3] at hE
   subst hE
   have e4:O=0:=by rw [hO];rfl
   subst e4
   rw [eH] at hh
   clear e1 e3 hO h hs eC eH
   go_enter Tryz.func77,Tryz.ntmps77
   go_wp2_with (first
    | (go_at_call 30;refine (HC.out _ (ha _)).mono ?_;rintro e w2 ⟨rfl,hb2⟩;have z:w2.cell? ⟨w.heap.size,0,none⟩=some (.slice so ps.length sc):=(below_cells hb2 _ 0 (by simp)).trans (by simp);have hs2:w.heap.size<w2.heap.size:=by (have:=hb2.size;simp at this;omega))
    | (go_at_call 37;refine (HQ.out _ (below_alloc hb2)).mono ?_;rintro e w3 ⟨rfl,rfl⟩)
    | (go_at_call 128;refine (hh _).mono ?_;rintro e w4 ⟨rfl,rfl⟩))
   go_ret2
   exact ⟨rfl,below_alloc hb2⟩
  ·have e3:askE ps q t=0:=by unfold askE;rw [if_neg (by simp [e1]),if_neg (by simp [eC]),if_neg (by simp [eH])]
   rw [e3] at hE
   subst hE
   have e4:O=(owned ps t:Int):=by rw [hO];rfl
   have HO:=Hid.m (fun W (hb:Below w.heap.size w W)=>Owned_any W so ps sc (hs.below hb) e1 t (hasQ_t (mayQ_len (chkE_may eC).2.2).2 eH))
   rw [← e4] at HO
   rw [eH] at hh
   clear e1 e3 hO h hs eC eH e4
   go_enter Tryz.func77,Tryz.ntmps77
   go_wp2_with (first
    | (go_at_call 30;refine (HC.out _ (ha _)).mono ?_;rintro e w2 ⟨rfl,hb2⟩;have z:w2.cell? ⟨w.heap.size,0,none⟩=some (.slice so ps.length sc):=(below_cells hb2 _ 0 (by simp)).trans (by simp);have hs2:w.heap.size<w2.heap.size:=by (have:=hb2.size;simp at this;omega))
    | (go_at_call 37;refine (HQ.out _ (below_alloc hb2)).mono ?_;rintro e w3 ⟨rfl,rfl⟩)
    | (go_at_call 128;refine (hh _).mono ?_;rintro e w4 ⟨rfl,rfl⟩)
    | (go_at_call 31;refine (HO.out _ (below_alloc hb2)).mono ?_;rintro e w5 ⟨rfl,hb5⟩))
   go_ret2
   exact ⟨rfl,(below_alloc hb2).trans (hb5.mono (below_alloc hb2).size)⟩
 ·have e3:askE ps q t=chkE ps.length q:=by unfold askE;rw [if_neg (by simp [e1]),if_pos eC]
  rw [e3] at hE
  rw [hE] at HQ eC
  have e4:O=0:=by rw [hO,if_neg eC]
  subst e4
  have eC':(E != 0)=true:=by simp [eC]
  clear e1 e3 hO h hs eC hE
  go_enter Tryz.func77,Tryz.ntmps77
  go_wp2_with (first
   | (go_at_call 30;refine (HC.out _ (ha _)).mono ?_;rintro e w2 ⟨rfl,hb2⟩;have z:w2.cell? ⟨w.heap.size,0,none⟩=some (.slice so ps.length sc):=(below_cells hb2 _ 0 (by simp)).trans (by simp);have hs2:w.heap.size<w2.heap.size:=by (have:=hb2.size;simp at this;omega))
   | (go_at_call 37;refine (HQ.out _ (below_alloc hb2)).mono ?_;rintro e w3 ⟨rfl,rfl⟩))
  go_ret2
  exact ⟨rfl,below_alloc hb2⟩
theorem askE_get {w:World}{ao:Option Addr}{ps:List Pg}{q:List Int}{cap:Nat}{t:Int}(h:Il w ao q cap)(e:askE ps q t=0):
  ∃ (T b off:Nat),t=(T:Int)∧T<q.length∧ao=some ⟨b,off,none⟩∧b<w.heap.size∧w.cell? ⟨b,off+T,none⟩=some (.int .i64 (qAt q t))∧0≤qAt q t∧qAt q t≤16:=by
 obtain ⟨h1,h2,h3⟩:=askE_ok e
 have ht:0≤t∧t<(q.length:Int):=by simpa [hasQ] using h3
 obtain ⟨T,rfl⟩:∃ T:Nat,t=(T:Int):=⟨t.toNat,by omega⟩
 have hT:T<q.length:=by omega
 have hne:q≠[]:=by intro e;rw [e] at hT;simp at hT
 obtain ⟨b,off,rfl,hbl,hcs⟩:=h.lies hne
 have hr:=mayQ_in (chkE_may h2).2.2 _ (List.getElem_mem hT)
 rw [qAt_get hT]
 exact ⟨T,b,off,rfl,hT,rfl,hbl,hcs T hT,hr⟩
theorem qover_any (w:World)(so:Option Addr)(ps:List Pg)(sc:Nat)(hs:Sb w so ps sc)(ao:Option Addr)(q:List Int)(cap:Nat)(h:Il w ao q cap)(t:Int):
  Calls Tryz.prog 32 #[.agg #[.slice so ps.length sc],.slice ao q.length cap,.int .i64 t] w fun e w'=>e=.returned (.tuple #[.int .i64 (overV ps q t),.int .i64 (askE ps q t)])∧Below w.heap.size w w':=by
 have ha:∀ o,Below w.heap.size w (w.alloc o):=fun o=>(Below.refl _ _).alloc (Nat.le_refl _) _
 have hlq:=h.len
 by_cases e:askE ps q t=0
 ·have e1:overV ps q t=max ((owned ps t:Int) - qAt q t) 0:=by unfold overV;rw [if_pos e]
  have HO:=Hid.m (fun W (hb:Below w.heap.size w W)=>qowned_any W so ps sc (hs.below hb) ao q cap (h.below hb) t 0 (owned ps t) e (by rw [if_pos rfl]))
  have hol:=owned_le ps t
  have hlp:ps.length≤9223372036854775807:=by have:=hs.hl;have:=hs.hc;omega
  obtain ⟨T,b,off,rfl,hT,rfl,hbl,hc,h0,h16⟩:=askE_get h e
  rw [e,e1]
  have hT2:(T:Int)<(q.length:Int):=by omega
  obtain ⟨Q,hQ⟩:∃ Q,Q=qAt q T:=⟨_,rfl⟩
  obtain ⟨O,hO⟩:∃ O,O=owned ps T:=⟨_,rfl⟩
  rw [← hQ] at hc h0 h16 ⊢
  rw [← hO] at HO hol ⊢
  clear hQ hO e e1 h hs
  go_enter Tryz.func32,Tryz.ntmps32
  go_wp2_with (go_at_call 77;refine (HO.out _ (ha _)).mono ?_;rintro e w2 ⟨rfl,hb2⟩;have z:w2.cell? ⟨b,off+T,none⟩=some (.int .i64 Q):=(below_cells (below_alloc hb2) _ _ hbl).trans hc)
  all_goals
   go_ret2
   refine ⟨?_,below_alloc hb2⟩
   show Ending.returned (.tuple #[.int .i64 _,.int .i64 0])=_
   congr 5
   omega
 ·have e1:overV ps q t=0:=by unfold overV;rw [if_neg e]
  have HO:=Hid.m (fun W (hb:Below w.heap.size w W)=>qowned_any W so ps sc (hs.below hb) ao q cap (h.below hb) t (askE ps q t) 0 rfl (by rw [if_neg e]))
  rw [e1]
  obtain ⟨E,hE⟩:∃ E,E=askE ps q t:=⟨_,rfl⟩
  rw [← hE] at HO e ⊢
  have e':(E != 0)=true:=by simp [e]
  clear hE e e1 h hs
  go_enter Tryz.func32,Tryz.ntmps32
  go_wp2_with (go_at_call 77;refine (HO.out _ (ha _)).mono ?_;rintro e w2 ⟨rfl,hb2⟩)
  go_ret2
  exact ⟨rfl,below_alloc hb2⟩
end Go.Proofs.YtcdpiefflnaghaaGreatDoor.Qt
