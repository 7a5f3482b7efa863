/-
  Package engine and what stands beneath it, part 19: contracts of functions, and what they rest on.
-/
import Derived.Deep.CutRange
import Derived.Shelf.SlSortCmp.NoneTotal
import Derived.Shelf.SlSortCmp.WholeK
import Derived.Shelf.Small.Strs
import Derived.Lib.Small
import Derived.Shelf.Lay
import Derived.Shelf.Strconv.Clone
import Derived.Ground.SlsfProg
import Derived.Ground.NamesProg
import Derived.Test.YtcdpiefflnaghaaGreatDoorU18
set_option linter.unusedSimpArgs false
set_option linter.unusedVariables false
set_option maxRecDepth 100000
namespace Go.Proofs.YtcdpiefflnaghaaGreatDoor.Wh
open Go.Proofs.YtcdpiefflnaghaaGreatDoor.Me
open Go.RowKit
theorem Tryz.infoTimed:(Tryz.prog.info? 179).map (fun i=>(i.zero,i.size,i.bytes))=some (some (.agg #[.int .i64 0,.string ⟨#[]⟩,.int .i64 0]),3,32):=by kernel_rfl
def tcells (q:NU):List Value:=[.int .i64 q.1.tenant,.string q.1.key,.int .i64 q.2]
theorem tcells_len (q:NU):(tcells q).length=3:=rfl
theorem tcells_one (q:NU):∀ u∈tcells q,u.oneCell'=true:=by
 intro u hu
 simp only [tcells,List.mem_cons,List.not_mem_nil,or_false] at hu
 rcases hu with rfl | rfl | rfl <;> rfl
def OwnT (w:World)(base:Nat)(v:Value)(T:List NU):Prop:=w.ownsRow base 179 3 v T.length (T.flatMap tcells)
theorem OwnT.nil (w:World)(base:Nat):OwnT w base (.slice none 0 0) []:=World.ownsRow_nil w base _ 3
theorem OwnT.alloc {w:World}{base:Nat}{v:Value}{T:List NU}(h:OwnT w base v T)(o:Obj):OwnT (w.alloc o) base v T:=World.ownsRow.alloc h o
theorem OwnT.grown {w w':World}{base:Nat}{v:Value}{T:List NU}{row:Option Nat}(h:OwnT w base v T)(hg:w.grownBy w' row)(hne:∀ k,v.ownBlock=some k→row≠some k):OwnT w' base v T:=by
 refine World.ownsRow.kept h hg ?_
 cases hv:v.ownBlock with
 | none=>exact .inl rfl
 | some k=>exact .inr (fun e=>hne k hv e.symm)
theorem OwnT.below {w w':World}{base:Nat}{v:Value}{T:List NU}(h:OwnT w base v T)(hb:Below w.heap.size w w'):OwnT w' base v T:=
 h.grown (row:=none) ⟨hb.os,hb.tape,hb.output,hb.size,fun k hk _=>hb.block k hk⟩ (by intro k _ e;cases e)
theorem app_t {w w0:World}{ops:Array Oper}{rest:List Oper}{o:Oper}{a:Act}{Q:Exit→Act→World→Prop}(hgd:o.guard=none)(s x:Operand)(ho:o.op=.call { callee:=.builtin .append,args:=#[s,x],argTypes:=#[175,175] })
  (base:Nat) (v:Value) (T:List NU) (hown:OwnT w0 base v T) (hs:a.eval s=v) (q:NU) (hw:w=w0.alloc (.cells (tcells q).toArray 179)) (H:Nat) (hx:a.eval x=.slice (some ⟨H,0,none⟩) 1 1) (hH:H=w0.heap.size)
  (hlen:T.length+1≤100000000) (hbase:base≤w0.heap.size)
  (h:∀ v' w',OwnT w' base v' (T++[q])→Grew w0 w' v v'→wpList Tryz.prog ops Q rest (a.put o.dst v') w'):wpList Tryz.prog ops Q (o::rest) a w:=by
 subst hH hw
 obtain ⟨i0,hi,hz0,hz1,hz2⟩:=info_parts Tryz.infoTimed
 have hm:maxLen=9223372036854775807:=rfl
 refine wpList_append_own_at _ hgd s x 175 ho base 179 i0 _ 3 32 Tryz.underlying175 hi hz0 hz1 hz2 rfl (by decide) v T.length (T.flatMap tcells) hs (World.ownsRow.alloc hown _) ⟨w0.heap.size,0,none⟩ 1 1 (tcells q) hx (by rw [tcells_len]) ?_ (tcells_one q) (by omega) (by omega) (by simp;omega) ?_
 ·intro j u hu
  rw [Me.addr_add]
  simp only [Nat.zero_add]
  have hj:=(List.getElem?_eq_some_iff.1 hu).1
  have:u=(tcells q)[j]:=by simpa [hj] using hu.symm
  subst this
  simp [hj]
 ·intro v' w' h1 h2 h3 h4
  refine h v' w' ?_ ⟨(World.grownBy_alloc w0 _ _).trans h2,fun k hk=>?_⟩
  ·have e:(T++[q]).length=T.length+1:=by simp
   unfold OwnT
   rw [e,List.flatMap_append,List.flatMap_singleton]
   exact h1
  ·rcases h4 with h4 | h4
   ·exact .inl (h4 ▸ hk)
   ·rw [h4] at hk
    cases hk
    exact .inr (by simp)
def inR (a lo hi:Nat)(q:NU):Bool:=decide (lo≤ix a q.2∧ix a q.2<hi)
def outOf (a lo hi:Nat)(G:List NU):List NU:=G.filter (inR a lo hi)
def keepIn (a lo hi:Nat)(G:List NU):List NU:=G.filter (fun q=>!inR a lo hi q)
theorem out_none (a lo:Nat)(G:List NU):outOf a lo lo G=[]:=List.filter_eq_nil_iff.2 (fun q _=>by simp [inR];try omega)
theorem keep_all (a lo:Nat)(G:List NU):keepIn a lo lo G=G:=List.filter_eq_self.2 (fun q _=>by simp [inR];omega)
theorem mem_keep {a lo hi:Nat}{G:List NU}{q:NU}:q∈keepIn a lo hi G↔q∈G∧¬ (lo≤ix a q.2∧ix a q.2<hi):=by
 simp only [keepIn,inR,List.mem_filter,Bool.not_eq_true',decide_eq_false_iff_not]
theorem part_keep {a lo hi:Nat}{G:List NU}{j:Nat}(hj:¬ (lo≤j∧j<hi)):part a j (keepIn a lo hi G)=part a j G:=by
 unfold part keepIn
 rw [List.filter_filter]
 refine List.filter_congr (fun q _=>?_)
 by_cases e:ix a q.2=j
 ·simp only [e,inR,decide_true,Bool.true_and]
  simp
  omega
 ·simp [e]
theorem part_keep_in {a lo hi:Nat}{G:List NU}{j:Nat}(hj:lo≤j∧j<hi):part a j (keepIn a lo hi G)=[]:=by
 refine List.filter_eq_nil_iff.2 (fun q hq=>?_)
 obtain ⟨_,h2⟩:=mem_keep.1 hq
 simp only [decide_eq_true_eq]
 intro e
 rw [e] at h2
 exact h2 hj
theorem out_succ {a lo hi:Nat}(h:lo≤hi):∀ (G:List NU),(outOf a lo (hi+1) G).Perm (outOf a lo hi G++part a hi G)
 | []=>by simp [outOf,part]
 | q::G=>by
  have ih:=out_succ (a:=a) h G
  have e1:outOf a lo (hi+1) (q::G)=if inR a lo (hi+1) q then q::outOf a lo (hi+1) G else outOf a lo (hi+1) G:=by simp [outOf,List.filter_cons]
  have e2:outOf a lo hi (q::G)=if inR a lo hi q then q::outOf a lo hi G else outOf a lo hi G:=by simp [outOf,List.filter_cons]
  have e3:part a hi (q::G)=if ix a q.2=hi then q::part a hi G else part a hi G:=by simp [part,List.filter_cons]
  rw [e1,e2,e3]
  by_cases h1:ix a q.2=hi
  ·have i1:inR a lo (hi+1) q=true:=by simp [inR];omega
   have i2:inR a lo hi q=false:=by simp [inR];omega
   rw [i1,i2,if_pos h1]
   simp only [if_true,Bool.false_eq_true,if_false]
   exact (List.Perm.cons q ih).trans List.perm_middle.symm
  ·have i1:inR a lo (hi+1) q=inR a lo hi q:=by simp only [inR];congr 1;apply propext;omega
   rw [i1,if_neg h1]
   cases inR a lo hi q with
   | true=>simpa using ih
   | false=>simpa using ih
theorem sub_len:∀ {A B:List NU},A.Pairwise (fun p q=>p.1≠q.1)→(∀ p∈A,p∈B)→A.length≤B.length
 | [],B,_,_=>by simp
 | p::A,B,ha,h=>by
  obtain ⟨h1,h2⟩:=List.pairwise_cons.1 ha
  have hp:p∈B:=h p (by simp)
  have hBp:=List.perm_cons_erase hp
  have:=sub_len (B:=B.erase p) h2 (fun q hq=>by
   have hq':=hBp.mem_iff.1 (h q (List.mem_cons_of_mem _ hq))
   rcases List.mem_cons.1 hq' with e | e
   ·exact absurd (by rw [e]) (h1 q hq)
   ·exact e)
  have hl:=hBp.length_eq
  simp only [List.length_cons] at hl ⊢
  omega
theorem Rg.len {w:World}{b r n:Nat}{M T:List NU}{cnt:Nat}(h:Rg w b r n M T cnt):T.length≤M.length:=by
 obtain ⟨D,left,h1,h2,h3,h4,h5,h6⟩:=h
 exact sub_len h6 h5
theorem slot_done {w:World}{p now:Nat}{U G:List NU}{b0:Nat}{mb:Nat→Option Nat}{N lo k:Nat}(h:Wh w p now U (keepIn now lo (lo+k) G) b0 mb N)(hi:lo+k<448):
  Wh (w.setCell ⟨p,3+(lo+k),none⟩ (.map none)) p now U (keepIn now lo (lo+(k+1)) G) b0 (upd mb (lo+k) none) N:=by
 refine h.ring hi none _ (fun q hq=>?_) ?_ (fun j hj=>?_) (fun _ q hq e=>?_) (fun b hb=>by cases hb)
 ·obtain ⟨h1,h2⟩:=mem_keep.1 hq
  exact mem_keep.2 ⟨h1,by omega⟩
 ·have hs:keepIn now lo (lo+(k+1)) G=(keepIn now lo (lo+k) G).filter (fun q=>!inR now lo (lo+(k+1)) q):=by
   unfold keepIn
   rw [List.filter_filter]
   refine List.filter_congr (fun q _=>?_)
   by_cases hq:inR now lo (lo+k) q=true
   ·have:inR now lo (lo+(k+1)) q=true:=by simp [inR] at hq ⊢;omega
    simp [this]
   ·simp at hq
    simp [hq]
  rw [hs]
  exact h.apart.filter _
 ·by_cases hin:lo≤j∧j<lo+k
  ·rw [part_keep_in hin,part_keep_in (by omega)]
  ·rw [part_keep hin,part_keep (by omega)]
 ·obtain ⟨h1,h2⟩:=mem_keep.1 hq
  omega
theorem foot_upd {p b0:Nat}{mb:Nat→Option Nat}{i k:Nat}(h:Foot p b0 (upd mb i none) k):Foot p b0 mb k:=by
 rcases h with h | h | ⟨j,hj,h⟩
 ·exact .inl h
 ·exact .inr (.inl h)
 ·by_cases e:j=i
  ·subst e
   rw [upd_same] at h
   cases h
  ·rw [upd_other e] at h
   exact .inr (.inr ⟨j,hj,h⟩)
theorem Wh.belowB {w w':World}{p now:Nat}{U G:List NU}{b0:Nat}{mb:Nat→Option Nat}{N B:Nat}(h:Wh w p now U G b0 mb N)(k:Below B w w')(hF:∀ k,Foot p b0 mb k→k<B):Wh w' p now U G b0 mb N:=
 h.same (fun j hj=>k.block j (hF j hj))
theorem Kept.belowB {F:Nat→Prop}{w w':World}{B:Nat}(h:Below B w w')(hF:∀ k,B≤k→F k):Kept F w w':=
 ⟨h.os,h.tape,h.output,h.size,fun k hk hn=>h.block k (Nat.lt_of_not_le fun hb=>hn (hF k hb))⟩
theorem OwnT.set {w:World}{base:Nat}{v:Value}{T:List NU}(h:OwnT w base v T){p o:Nat}(hp:p<base)(u:Value):OwnT (w.setCell ⟨p,o,none⟩ u) base v T:=
 h.grown (grown_set w p o u) (fun k hk e=>by have:=(h.lt k hk).1;cases e;omega)
theorem OwnT.ne_of {w:World}{base:Nat}{v:Value}{T:List NU}(h:OwnT w base v T){k:Nat}{o:Obj}(hk:w.heap[k]? = some o)(ho:∀ c t m,o≠.cells c t m):v.ownBlock≠some k:=by
 intro e
 rcases h.2 with ⟨rfl,_⟩ | ⟨g,cap,cur,rfl,_,hg,_⟩
 ·cases e
 ·cases e
  rw [hg] at hk
  cases hk
  exact ho _ _ _ rfl
theorem Rg.iter {w:World}{b r n:Nat}{M T:List NU}{cnt:Nat}(h:Rg w b r n M T cnt):∃ o,w.heap[r]? = some o∧∀ c t m,o≠.cells c t m:=by
 obtain ⟨D,left,hr,_⟩:=h
 obtain ⟨es,clock,since,seen,c,h1,h2,h3,h4,h5,_⟩:=hr
 exact ⟨_,h5,by intro _ _ _ e;cases e⟩
theorem Mp.obj {w:World}{b n:Nat}{M:List NU}(h:Mp w b n M):∃ o,w.heap[b]? = some o∧∀ c t m,o≠.cells c t m:=by
 obtain ⟨D,⟨es,clock,hb,_⟩,_⟩:=h
 exact ⟨_,hb,by intro _ _ _ e;cases e⟩
set_option maxHeartbeats 1000000 in
theorem take_any (w:World)(p now:Nat)(U G:List NU)(b0:Nat)(mb:Nat→Option Nat)(N:Nat)(h:Wh w p now U G b0 mb N)(rg last:Nat)(hrg:rg≤6)(hlast:last<64)(B:Nat)(hB:B≤w.heap.size)(hF:∀ k,Foot p b0 mb k→k<B)
  (v0:Value) (T0:List NU) (hT:OwnT w B v0 T0) (hTG:T0.length+G.length≤10000000):
  Calls Tryz.prog 145 #[.pointer (some ⟨p,0,none⟩),.int .i64 rg,.int .i64 last,v0] w fun e w'=>∃ v',e=.returned v'∧∃ T',OwnT w' B v' T'∧T'.Perm (T0++outOf now (64 * rg) (64 * rg+(last+1)) G)∧
   ∃ mb',Wh w' p now U (keepIn now (64 * rg) (64 * rg+(last+1)) G) b0 mb' N∧Kept (fun k=>k=p∨B≤k) w w'∧∀ k,Foot p b0 mb' k→Foot p b0 mb k:=by
 have HW:=Hid.m h
 have HF:=Hid.m hF
 clear h hF
 have hrl:(rg:Int)<7:=by omega
 go_enter Tryz.func145,Tryz.ntmps145
 go_wp2
 go_loopw [3,14] (fun t i wr=>∃ (k:Nat) (T:List NU) (mb':Nat→Option Nat),k≤last+1∧i=.int .i64 k∧OwnT wr B t T∧Hid (T.Perm (T0++outOf now (64 * rg) (64 * rg+k) G))∧Hid (Wh wr p now U (keepIn now (64 * rg) (64 * rg+k) G) b0 mb' N)∧Hid (Kept (fun k=>k=p∨B≤k) w wr)∧Hid (∀ k,Foot p b0 mb' k→Foot p b0 mb k)) (fun _ i _=>last+1 - (intOf i).toNat)
 case atStart=>exact ⟨0,T0,mb,Nat.zero_le _,rfl,hT,by rw [Nat.add_zero,out_none,List.append_nil];exact List.Perm.refl _,by rw [Nat.add_zero,keep_all];exact HW.out,Kept.refl _ _,fun k hk=>hk⟩
 case round=>
  obtain ⟨k,T,mb2,hk,rfl,hTr,HP,HWr,HK,HFT⟩:=hrel
  obtain ⟨ws,rfl⟩:∃ ws,ws=wr:=⟨_,rfl⟩
  by_cases hlt:k<last+1
  ·have hlt2:(k:Int)<(last:Int)+1:=by omega
   have hsl:(k:Int)<64:=by omega
   have hp:p<B:=HF.out p (.inl rfl)
   have hFr:∀ k,Foot p b0 mb2 k→k<B:=fun k hk=>HF.out k (HFT.out k hk)
   have hBr:B≤ws.heap.size:=Nat.le_trans hB HK.out.size
   have hpr:p<ws.heap.size:=by omega
   obtain ⟨x,hx⟩:∃ x,x=mb2 (64 * rg+k):=⟨_,rfl⟩
   have hrc:=HWr.out.ringc (64 * rg+k) (by omega)
   rw [← hx,show 3+(64 * rg+k)=3+rg * 64+k by omega] at hrc
   have hfr:=HWr.out.free (3+rg * 64+k)
   have HX:=Hid.m hx
   have HFR:=Hid.m hFr
   clear hx hFr
   have HPK:Hid (part now (64 * rg+k) (keepIn now (64 * rg) (64 * rg+k) G)=part now (64 * rg+k) G):=part_keep (by omega)
   have HOS:=Hid.m (out_succ (a:=now) (lo:=64 * rg) (hi:=64 * rg+k) (by omega) G)
   cases x with
   | none=>
    have HE:Hid (part now (64 * rg+k) G=[]):=by
     show _=_
     rw [← HPK.out]
     exact part_none (HWr.out.gn _ (by omega) HX.out.symm)
    have hrun:=run_range_nilMap (P:=Tryz.prog) ws 158 119 3 Tryz.underlying158
    have hnx:∀ ty,(Instr.next (.pointer (some ⟨ws.heap.size,0,none⟩)) false ty).run Tryz.prog (ws.alloc (.mapIter none 0 #[] 0))=_:=fun ty=>run_next_nilMap ws ty 0 0 #[]
    go_wp2
    refine wp_loop_rounds 1 ?_
    rw [rounds_succ]
    go_wp2
    go_roundw
    case rel=>
     have hd:=slot_done HWr.out (show 64 * rg+k<448 by omega)
     rw [show 3+(64 * rg+k)=3+rg * 64+k by omega] at hd
     refine ⟨k+1,T,upd mb2 (64 * rg+k) none,by omega,by go_num,(hTr.set hp _).alloc _,?_,hd.below (alb _ _),?_,fun j hj=>HFT.out j (foot_upd hj)⟩
     ·show List.Perm _ _
      have h1:=HOS.out
      rw [HE.out,List.append_nil] at h1
      exact HP.out.trans (List.Perm.append_left T0 h1.symm)
     ·exact (HK.out.trans (Kept.grown (F:=fun k=>k=p∨B≤k) (grown_set ws p (3+rg * 64+k) (.map none)) (fun j hj=>by cases hj;exact .inl (.inl rfl))) (fun j hj=>.inl hj)).trans (Kept.below (F:=fun k=>k=p∨B≤k) (alb _ _)) (fun j hj=>.inl hj)
    case measure=>simp [intOf];omega
   | some b=>
    have hmp:=HWr.out.gm (64 * rg+k) b (by omega) HX.out.symm
    obtain ⟨M,hM⟩:∃ M,M=part now (64 * rg+k) (keepIn now (64 * rg) (64 * rg+k) G):=⟨_,rfl⟩
    rw [← hM] at hmp
    have HM:=Hid.m hM
    clear hM
    go_wp2_with (first
     | (at_range;refine mp_range rfl (.tmp 24) rfl b N M rfl hmp ?_;intro w2 hrg2 hg2 hs2)
     | go_in)
    go_frame
    have hlM:T.length+M.length≤10000000:=by
     have h1:=HP.out.length_eq
     have h2:=HOS.out.length_eq
     have h3:(outOf now (64 * rg) (64 * rg+k+1) G).length≤G.length:=List.length_filter_le _ _
     rw [← HPK.out,← HM.out] at h2
     simp only [List.length_append] at h1 h2
     omega
    have hb2:Below B ws w2:=⟨hg2.os,hg2.tape,hg2.output,hg2.size,fun j hj=>hg2.block j (by omega) (by simp)⟩
    have HIT:Hid (B≤ws.heap.size):=hBr
    go_loopw [3] (fun t wq=>∃ (Tc:List NU) (cnt:Nat),Rg wq b ws.heap.size N M Tc cnt∧OwnT wq B t (T++Tc)∧Below B ws wq) (fun _ wq=>wq.rangeLeft b ws.heap.size)
    case atStart=>exact ⟨[],_,hrg2,by rw [List.append_nil];exact hTr.grown hg2 (by simp),hb2⟩
    case round=>
     obtain ⟨Tc,cnt,hrg,hTq,hbq⟩:=hrel
     have hlc:=hrg.len
     go_wp2_with (first
      | (at_next;refine rg_next rfl (.tmp 25) rfl b ws.heap.size N M Tc cnt rfl hrg ?_ ?_)
      | go_in)
     ·intro hpm
      have hrcq:wr.cell? ⟨p,3+rg * 64+k,none⟩=some (.map (some b)):=(hbq.cell (p:=⟨p,3+rg * 64+k,none⟩) hp).trans hrc
      have hfrq:wr.frozen? ⟨p,3+rg * 64+k,none⟩=false:=(hbq.frozen (p:=⟨p,3+rg * 64+k,none⟩) hp).trans hfr
      clear hrg hrg2 hg2 hs2 hb2 hmp
      go_wp2
      go_roundw
      case rel=>
       have hd:=slot_done (HWr.out.belowB hbq HFR.out) (show 64 * rg+k<448 by omega)
       rw [show 3+(64 * rg+k)=3+rg * 64+k by omega] at hd
       refine ⟨k+1,T++Tc,upd mb2 (64 * rg+k) none,by omega,by go_num,hTq.set hp _,?_,hd,?_,fun j hj=>HFT.out j (foot_upd hj)⟩
       ·show List.Perm _ _
        have h1:=HOS.out
        rw [← HPK.out,← HM.out] at h1
        have h2:(T++Tc).Perm ((T0++outOf now (64 * rg) (64 * rg+k) G)++M):=List.Perm.append HP.out hpm.symm
        rw [List.append_assoc] at h2
        exact h2.trans (List.Perm.append_left T0 h1.symm)
       ·exact (HK.out.trans (Kept.belowB (F:=fun k=>k=p∨B≤k) hbq (fun j hj=>.inr hj)) (fun j hj=>.inl hj)).trans (Kept.grown (F:=fun k=>k=p∨B≤k) (grown_set wr p (3+rg * 64+k) (.map none)) (fun j hj=>by cases hj;exact .inl (.inl rfl))) (fun j hj=>.inl hj)
      case measure=>simp [intOf];omega
     ·intro x u w3 cnt3 hmem hrg3 hlt3 hg3 hs3 hen
      have hT3:OwnT w3 B u3 (T++Tc):=hTq.grown hg3 (fun j hj e=>by obtain ⟨o,ho,hc⟩:=hrg.iter;cases e;exact hTq.ne_of ho hc hj)
      have hb3:Below B ws w3:=hbq.grown hg3 (by have:=hbq.size;omega) (fun j hj=>by cases hj;exact hBr)
      have HS3:=Hid.m hs3
      clear hs3
      go_wp2_with (first
       | (at_builtin;refine app_t rfl (.tmp 31) (.tmp 35) rfl B _ (T++Tc) (hT3.alloc _) rfl (x,u) rfl _ rfl (by simp) (by simp;omega) (by have:=hb3.size;simp;omega) ?_;intro v4 w4 ho4 hg4)
       | go_in)
      obtain ⟨o1,ho1,hc1⟩:=hrg3.iter
      obtain ⟨o2,ho2,hc2⟩:=hrg3.mp.obj
      have n1:=hT3.ne_of ho1 hc1
      have n2:=hT3.ne_of ho2 hc2
      have hrg4:=(hrg3.kept (World.grownBy_alloc w3 (.cells #[.int .i64 x.tenant,.string x.key] 119) none) (by simp) (by simp)).kept hg4.grown (fun e=>n2 e.symm) (fun e=>n1 e.symm)
      have hs4:=hb3.size
      have hb4:Below B ws w4:=(hb3.alloc (by omega) (.cells #[.int .i64 x.tenant,.string x.key] 119)).grown hg4.grown (by simp;omega) (fun j hj=>(hT3.lt j hj).1)
      refine ⟨⟨Tc++[(x,u)],cnt3,hrg4,by rw [← List.append_assoc];exact ho4,hb4⟩,?_⟩
      rw [hrg4.left,hrg.left]
      exact hlt3
  ·have hk1:k=last+1:=by omega
   have hlt2:¬ (k:Int)<(last:Int)+1:=by omega
   subst hk1
   go_wp2
   go_ret
   exact ⟨_,rfl,T,hTr,HP.out,mb2,HWr.out,HK.out,HFT.out⟩
end Go.Proofs.YtcdpiefflnaghaaGreatDoor.Wh
namespace Go.Proofs.YtcdpiefflnaghaaGreatDoor.Wh
open Go.Proofs.YtcdpiefflnaghaaGreatDoor.Me
open Go.RowKit
theorem flatT_get (T:List NU)(i j:Nat)(hi:i<T.length)(hj:j<3):(T.flatMap tcells)[i * 3+j]? = some ((tcells T[i])[j]'(by rw [tcells_len];exact hj)):=by
 induction T generalizing i with
 | nil=>simp at hi
 | cons c T ih=>
  rw [List.flatMap_cons]
  cases i with
  | zero=>
   rw [List.getElem?_append_left (by rw [tcells_len];omega)]
   simp [tcells_len,hj]
  | succ i=>
   rw [List.getElem?_append_right (by rw [tcells_len];omega),tcells_len,show (i+1) * 3+j - 3=i * 3+j by omega]
   exact ih i (by simpa using hi)
def TAt (w:World)(ao:Option Addr)(T:List NU):Prop:=
 T=[]∨∃ b off,ao=some ⟨b,off,none⟩∧b<w.heap.size∧∀ i (hi:i<T.length),w.cell? ⟨b,off+i * 3,none⟩=some (.int .i64 T[i].1.tenant)∧w.cell? ⟨b,off+i * 3+1,none⟩=some (.string T[i].1.key)∧w.cell? ⟨b,off+i * 3+2,none⟩=some (.int .i64 T[i].2)
theorem OwnT.at {w:World}{base:Nat}{v:Value}{T:List NU}(h:OwnT w base v T):
  ∃ ao cap,v=.slice ao T.length cap∧T.length≤cap∧cap≤maxLen∧TAt w ao T:=by
 rcases h.2 with ⟨rfl,hn⟩ | ⟨g,cap,cur,rfl,hb,hg,hnc,hcm,hcs,htake⟩
 ·have:T=[]:=List.eq_nil_of_length_eq_zero hn
  subst this
  exact ⟨none,0,rfl,by simp,by simp [maxLen],.inl rfl⟩
 ·refine ⟨_,cap,rfl,hnc,hcm,.inr ⟨g,0,rfl,(Array.getElem?_eq_some_iff.1 hg).1,fun i hi=>?_⟩⟩
  have key:∀ j (hj:j<3),w.cell? ⟨g,0+i * 3+j,none⟩=some ((tcells T[i])[j]'(by rw [tcells_len];exact hj)):=fun j hj=>by
   have:=World.ownsRow.cells h (g:=g) rfl (i * 3+j) _ (flatT_get T i j hi hj)
   rw [Me.addr_add] at this
   rw [Nat.zero_add] at this ⊢
   exact this
  exact ⟨key 0 (by omega),key 1 (by omega),key 2 (by omega)⟩
def dueOf (now:Nat)(T:List NU):List NU:=T.filter (fun q=>decide (q.2≤(now:Int)))
def restOf (now:Nat)(T:List NU):List NU:=T.filter (fun q=>decide ((now:Int)<q.2))
theorem OwnT.same {w w':World}{base:Nat}{v:Value}{T:List NU}(h:OwnT w base v T)(e:∀ g,v.ownBlock=some g→w'.heap[g]? = w.heap[g]?):OwnT w' base v T:=⟨h.1,by
 rcases h.2 with h1 | ⟨g,cap,cur,h1,h2,h3,h4⟩
 ·exact .inl h1
 ·exact .inr ⟨g,cap,cur,h1,h2,(e g (by rw [h1];rfl)).trans h3,h4⟩⟩
theorem OwnT.down {w:World}{b b':Nat}{v:Value}{T:List NU}(h:OwnT w b v T)(hb:b'≤b):OwnT w b' v T:=⟨h.1,by
 rcases h.2 with h | ⟨g,cap,cur,h1,h2,h3⟩
 ·exact .inl h
 ·exact .inr ⟨g,cap,cur,h1,Nat.le_trans hb h2,h3⟩⟩
theorem Wh.notCells {w:World}{p now:Nat}{U G:List NU}{b0:Nat}{mb:Nat→Option Nat}{N:Nat}(h:Wh w p now U G b0 mb N){k:Nat}(hk:Foot p b0 mb k):k=p∨∃ o,w.heap[k]? = some o∧∀ c t m,o≠.cells c t m:=by
 rcases hk with hk | hk | ⟨i,hi,hk⟩
 ·exact .inl hk
 ·exact .inr (hk ▸ h.um.obj)
 ·exact .inr (h.gm i k hi hk).obj
theorem OwnT.away {w:World}{base:Nat}{v:Value}{T:List NU}(hT:OwnT w base v T){p now:Nat}{U G:List NU}{b0:Nat}{mb:Nat→Option Nat}{N:Nat}(h:Wh w p now U G b0 mb N)(hp:p<base)(g:Nat)(hg:v.ownBlock=some g):¬ Foot p b0 mb g:=fun hf=>by
 rcases h.notCells hf with e | ⟨o,ho,hc⟩
 ·have:=(hT.lt g hg).1
  omega
 ·exact hT.ne_of ho hc hg
theorem OwnT.kept {w w':World}{base:Nat}{v:Value}{T:List NU}(hT:OwnT w base v T){F:Nat→Prop}(hk:Kept F w w')(hF:∀ g,v.ownBlock=some g→¬ F g):OwnT w' base v T:=
 hT.same (fun g hg=>hk.block g (hT.lt g hg).2 (hF g hg))
theorem strike_mid {X d:List NU}{q:NU}(h:(X++q::d).Pairwise (fun p q=>p.1≠q.1)):strike q.1 (X++q::d)=X++d:=by
 obtain ⟨h1,h2,h3⟩:=List.pairwise_append.1 h
 obtain ⟨h4,h5⟩:=List.pairwise_cons.1 h2
 unfold strike
 rw [List.filter_append,List.filter_cons_of_neg (by simp)]
 have e1:=strike_none (x:=q.1) (M:=X) (fun p hp=>h3 p hp q (by simp))
 have e2:=strike_none (x:=q.1) (M:=d) (fun p hp=>(h4 p hp).symm)
 unfold strike at e1 e2
 rw [e1,e2]
theorem due_snoc (now:Nat)(T:List NU)(q:NU):dueOf now (T++[q])=if q.2≤(now:Int) then dueOf now T++[q] else dueOf now T:=by
 unfold dueOf
 rw [List.filter_append]
 by_cases h:q.2≤(now:Int) <;> simp [h]
theorem rest_snoc (now:Nat)(T:List NU)(q:NU):restOf now (T++[q])=if q.2≤(now:Int) then restOf now T else restOf now T++[q]:=by
 unfold restOf
 rw [List.filter_append]
 by_cases h:q.2≤(now:Int)
 ·have h2:¬ (now:Int)<q.2:=by omega
  simp [h,h2]
 ·have h2:(now:Int)<q.2:=by omega
  simp [h,h2]
set_option maxHeartbeats 1000000 in
theorem settle_any (w:World)(p now:Nat)(G:List NU)(b0:Nat)(mb:Nat→Option Nat)(N:Nat)(T:List NU)(U:List NU)(hU:U.Perm (G++T))(h:Wh w p now U G b0 mb N)(hap:(G++T).Pairwise (fun p q=>p.1≠q.1))(hok:∀ q∈T,q.1.ok∧0≤q.2∧q.2≤1099511627776)
  (B:Nat) (v:Value) (hT:OwnT w B v T) (hpB:p<B) (hBw:B≤w.heap.size) (hN:N+2 * T.length<100000000):
  Calls Tryz.prog 146 #[.pointer (some ⟨p,0,none⟩),v] w fun e w'=>∃ v',e=.returned v'∧OwnT w' w.heap.size v' (dueOf now T)∧
   ∃ mb',Wh w' p now (G++restOf now T) (G++restOf now T) b0 mb' (N+2 * T.length)∧Kept (Foot p b0 mb) w w'∧∀ k,Foot p b0 mb' k→Foot p b0 mb k∨w.heap.size≤k:=by
 obtain ⟨ao,cap,rfl,hTc,hTm,hTA⟩:=hT.at
 have hTL:T.length≤50000000:=by omega
 have HAW:=Hid.m (fun g hg=>hT.away h hpB g hg)
 have HAP:=Hid.m hap
 have HOK:=Hid.m hok
 have HW0:=Hid.m (h.perm hU (List.Perm.refl _))
 have HTO:=Hid.m hT
 unfold maxLen at hTm
 clear hap hok h hT hU
 go_enter Tryz.func146,Tryz.ntmps146
 go_wp2
 go_loopw [5,10] (fun t i wr=>∃ (k:Nat) (mb':Nat→Option Nat),k≤T.length∧i=.int .i64 k∧OwnT wr w.heap.size t (dueOf now (T.take k))∧Hid (Wh wr p now ((G++restOf now (T.take k))++T.drop k) (G++restOf now (T.take k)) b0 mb' (N+2 * k))∧Hid (Kept (Foot p b0 mb) w wr)∧Hid (∀ k,Foot p b0 mb' k→Foot p b0 mb k∨w.heap.size≤k)) (fun _ i _=>T.length - (intOf i).toNat)
 case atStart=>exact ⟨0,mb,Nat.zero_le _,rfl,OwnT.nil _ _,Hid.m (by simpa [restOf] using HW0.out),Kept.refl _ _,fun k hk=>.inl hk⟩
 case round=>
  obtain ⟨k,mb2,hk,rfl,hD,HW,HK,HFT⟩:=hrel
  by_cases hlt:k<T.length
  ·have hlt2:(k:Int)<(T.length:Int):=by omega
   rcases hTA with h0 | ⟨tb,off,rfl,htb,hcells⟩
   ·rw [h0] at hlt;simp at hlt
   obtain ⟨q,hq⟩:∃ q,q=T[k]:=⟨_,rfl⟩
   obtain ⟨c0,c1,c2⟩:=hcells k hlt
   rw [← hq] at c0 c1 c2
   have hkb:=HK.out.block tb htb (HAW.out tb rfl)
   have hsz:=HK.out.size
   have htr:tb<wr.heap.size:=by omega
   have d0:wr.cell? ⟨tb,off+k * 3,none⟩=some (.int .i64 q.1.tenant):=(World.cell?_of_block hkb).trans c0
   have d1:wr.cell? ⟨tb,off+k * 3+1,none⟩=some (.string q.1.key):=(World.cell?_of_block hkb).trans c1
   have d2:wr.cell? ⟨tb,off+k * 3+2,none⟩=some (.int .i64 q.2):=(World.cell?_of_block hkb).trans c2
   have hmem:q∈T:=by rw [hq];exact List.getElem_mem hlt
   obtain ⟨hyo,hq1,hq2⟩:=HOK.out q hmem
   have hdrop:T.drop k=q::T.drop (k+1):=by rw [hq];exact List.drop_eq_getElem_cons hlt
   have htake:T.take (k+1)=T.take k++[q]:=by rw [hq];exact List.take_succ_eq_append_getElem hlt
   have HDR:=Hid.m hdrop
   have HTK:=Hid.m htake
   have hnow:wr.cell? ⟨p,1,none⟩=some (.int .i64 now):=HW.out.nowc
   have hpr:p<wr.heap.size:=HW.out.lt (.inl rfl)
   have HAPk:Hid (((G++restOf now (T.take k))++T.drop k).Pairwise (fun p q=>p.1≠q.1)):=HW.out.um.apart
   have HFRm:=Hid.m hcells
   clear hdrop htake hq c0 c1 c2 hkb hcells
   obtain ⟨y,u⟩:=q
   simp only [] at d0 d1 d2 hyo hq1 hq2
   obtain ⟨v,rfl⟩:∃ v:Nat,u=(v:Int):=⟨u.toNat,by omega⟩
   go_upto_region 5 with fail
   obtain ⟨wA,hwA⟩:∃ wA,wA=wr.alloc (.cells #[.int .i64 y.tenant,.string y.key,.int .i64 (v:Int)] 179):=⟨_,rfl⟩
   have x0:wA.cell? ⟨wr.heap.size,0,none⟩=some (.int .i64 y.tenant):=by rw [hwA];simp
   have x1:wA.cell? ⟨wr.heap.size,1,none⟩=some (.string y.key):=by rw [hwA];simp
   have x2:wA.cell? ⟨wr.heap.size,2,none⟩=some (.int .i64 (v:Int)):=by rw [hwA];simp
   have hbA:Below wr.heap.size wr wA:=by rw [hwA];exact alb _ _
   have hsA:wA.heap.size=wr.heap.size+1:=by rw [hwA];simp
   have hWA:=(HW.out.below hbA).drew
   have hnA:wA.cell? ⟨p,1,none⟩=some (.int .i64 now):=hWA.nowc
   have hDA:OwnT wA.drew w.heap.size u5 (dueOf now (T.take k)):=(hD.below hbA).below ((Below.refl _ _).drew)
   have HKA:Hid (Kept (Foot p b0 mb) w wA.drew):=(HK.out.trans (Kept.below (F:=Foot p b0 mb) hbA) (fun j hj=>.inl hj)).trans (Kept.drew (Foot p b0 mb) wA) (fun j hj=>.inl hj)
   rw [← hwA]
   clear hwA hbA hD d0 d1 d2 hnow
   have hXd:=HAPk.out
   rw [HDR.out] at hXd
   have hsm:=strike_mid hXd
   rw [HDR.out] at hWA
   have HMID:=Hid.m hsm
   have HXD:=Hid.m hXd
   clear hsm hXd
   have hpw:p<w.heap.size:=by omega
   by_cases hdue:v≤now
   ·have hd1:decide ((now:Int)<(v:Int))=false:=by simp;omega
    have hd2:¬ (now:Int)<(v:Int):=by omega
    go_region
    have hWB:=hWA.drew
    have huc:wA.cell? ⟨p,2,none⟩=some (.map (some b0)):=hWA.untilc
    obtain ⟨w3,hrun3,hm3,ht3⟩:=mp_del_run hWB.um y hyo 0
    have y0:=turned_cell hWB.um ht3 (x:=wr.heap.size) (o:=0) x0
    have y1:=turned_cell hWB.um ht3 (x:=wr.heap.size) (o:=1) x1
    have y2:=turned_cell hWB.um ht3 (x:=wr.heap.size) (o:=2) x2
    rw [HMID.out] at hm3
    have HW3:=Hid.m (hWB.turned0 ht3 _ (Nat.le_refl _) _ hm3)
    have hs3:=ht3.grown.size
    have hD3:OwnT w3 w.heap.size u5 (dueOf now (T.take k)):=(hDA.below ((Below.refl _ _).drew)).kept (Kept.turned (F:=Foot p b0 mb2) ht3 (.inr (.inl rfl))) (fun g hg=>(hDA.below ((Below.refl _ _).drew)).away hWB hpw g hg)
    have HK3:Hid (Kept (Foot p b0 mb) w w3):=(HKA.out.trans (Kept.drew (Foot p b0 mb) _) (fun j hj=>.inl hj)).trans (Kept.turned (F:=Foot p b0 mb) ht3 (.inr (.inl rfl))) (fun j hj=>.inl hj)
    have hdl:(dueOf now (T.take k)).length≤T.length:=Nat.le_trans (List.length_filter_le _ _) (by simp;omega)
    clear hWA hWB hm3 ht3 hDA
    go_upto_region 7 with fail
    go_region
    go_wp2_with (at_builtin;refine app_t rfl (.tmp 33) (.tmp 35) rfl w.heap.size _ _ hD3 rfl (y,(v:Int)) rfl _ rfl rfl (by omega) (by have:=HK3.out.size;omega) ?_;intro v4 w4 ho4 hg4)
    go_roundw
    case rel=>
     have hne:∀ g,Foot p b0 mb2 g→g<w3.heap.size→u5.ownBlock≠some g:=fun g hg _ e=>hD3.away HW3.out hpw g e hg
     have hk4:Kept (fun g=>u5.ownBlock=some g) w3 w4:=Kept.grown hg4.grown (fun g hg=>.inl hg)
     refine ⟨k+1,mb2,by omega,by go_num,?_,Hid.m ?_,?_,HFT⟩
     ·rw [HTK.out,due_snoc,if_pos (by simp;omega)]
      exact ho4
     ·rw [HTK.out,rest_snoc,if_pos (by simp;omega)]
      exact (HW3.out.kept hk4 (fun g hg e=>hne g hg (HW3.out.lt hg) e)).mono (by omega)
     ·exact HK3.out.trans hk4 (fun g hg=>.inr (hD3.lt g hg).1)
    case measure=>simp [intOf];omega
   ·have hd1:(now:Int)<(v:Int):=by omega
    go_region
    have HST:=Hid.m (stand_any wA.drew p now _ _ b0 mb2 _ hWA y hyo v (by omega) (by omega) (fun q hq=>by
     have:=(List.pairwise_append.1 HXD.out).2.2 q hq (y,(v:Int)) (by simp)
     exact this) (by omega))
    have hDaw:=Hid.m (fun g hg=>hDA.away hWA hpw g hg)
    go_wp2_with (go_at_call 194;refine HST.out.mono ?_;rintro e w3 ⟨rfl,mb3,hW3,hK3,hF3⟩)
    go_roundw
    case rel=>
     rw [HMID.out] at hW3
     refine ⟨k+1,mb3,by omega,by go_num,?_,Hid.m ?_,?_,?_⟩
     ·rw [HTK.out,due_snoc,if_neg (by simp;omega)]
      exact hDA.kept hK3 hDaw.out
     ·rw [HTK.out,rest_snoc,if_neg (by simp;omega)]
      refine (hW3.perm ?_ ?_).mono (by omega)
      ·refine List.perm_middle.symm.trans ?_
       simp
      ·rw [← List.append_assoc]
       exact (List.perm_append_singleton _ _).symm
     ·exact HKA.out.trans hK3 HFT.out
     ·show ∀ j,_
      intro j hj
      rcases hF3 j hj with g | g
      ·exact HFT.out j g
      ·exact .inr (by have:=HKA.out.size;omega)
    case measure=>simp [intOf];omega
  ·have hkT:k=T.length:=by omega
   have hlt2:¬ (k:Int)<(T.length:Int):=by omega
   subst hkT
   go_wp2
   go_ret
   have h1:=HW.out
   rw [List.take_length,List.drop_length,List.append_nil] at h1
   rw [List.take_length] at hD
   exact ⟨_,rfl,hD,mb2,h1,HK.out,HFT.out⟩
theorem out_keep (a lo hi:Nat):∀ (G:List NU),G.Perm (outOf a lo hi G++keepIn a lo hi G)
 | []=>by simp [outOf,keepIn]
 | q::G=>by
  have ih:=out_keep a lo hi G
  have e1:outOf a lo hi (q::G)=if inR a lo hi q then q::outOf a lo hi G else outOf a lo hi G:=by simp [outOf,List.filter_cons]
  have e2:keepIn a lo hi (q::G)=if inR a lo hi q then keepIn a lo hi G else q::keepIn a lo hi G:=by
   unfold keepIn
   cases h:inR a lo hi q <;> simp [List.filter_cons,h]
  rw [e1,e2]
  cases inR a lo hi q with
  | true=>simpa using ih
  | false=>
   simp only [Bool.false_eq_true,if_false]
   exact (List.Perm.cons q ih).trans List.perm_middle.symm
set_option maxHeartbeats 1000000 in
theorem turn_len (w:World)(p now:Nat)(L:List NU)(b0:Nat)(mb:Nat→Option Nat)(N:Nat)(h:Wh w p now L L b0 mb N)(now':Nat)(hn:now≤now')(hn2:now'≤1099511627776)(hN:N≤1000000):
  Calls Tryz.prog 91 #[.pointer (some ⟨p,0,none⟩),.int .i64 now'] w fun e w'=>∃ v',e=.returned v'∧∃ D,OwnT w' w.heap.size v' D∧D.Perm (dueOf now' L)∧
   ∃ mb',Wh w' p now' (restOf now' L) (restOf now' L) b0 mb' (N+2 * L.length)∧Kept (Foot p b0 mb) w w'∧∀ k,Foot p b0 mb' k→Foot p b0 mb k∨w.heap.size≤k:=by
 have hpl:=place_any now now' w h.small hn2
 have hr:=ring_le h.small hn2
 have hs:=slot_lt now now'
 have hnc:=h.nowc
 have hlt:=h.lt (.inl rfl)
 have hlen:=h.um.len
 obtain ⟨r,hrr⟩:∃ r,r=ring now now':=⟨_,rfl⟩
 obtain ⟨s,hss⟩:∃ s,s=slot now now':=⟨_,rfl⟩
 rw [← hrr] at hr hpl
 rw [← hss] at hs hpl
 have HRS:Hid (r=ring now now'∧s=slot now now'):=⟨hrr,hss⟩
 have hF:∀ k,Foot p b0 mb k→k<w.heap.size:=fun k hk=>h.lt hk
 have HF:=Hid.m hF
 have HW:=Hid.m h
 clear hrr hss hF h
 go_enter Tryz.func91,Tryz.ntmps91
 go_upto_region 2 with (go_at_call 144;refine hpl.mono ?_;rintro e w1 ⟨rfl,hb1⟩)
 have HT1:=Hid.m (take_any w1 p now L L b0 mb N (HW.out.below hb1) r s hr hs w.heap.size hb1.size HF.out (.slice none 0 0) [] (OwnT.nil _ _) (by simp;omega))
 have hb1':=Hid.m hb1
 clear hb1 hpl
 go_wp2_with (go_at_call 145;refine HT1.out.mono ?_;rintro e w2 ⟨v2,rfl,T2,hT2,hP2,mb2,hW2,hK2,hF2⟩)
 have hLP:L.Perm (T2++keepIn now (64 * r) (64 * r+(s+1)) L):=by
  rw [List.nil_append] at hP2
  exact (out_keep now _ _ L).trans (List.Perm.append_right _ hP2.symm)
 have HCo:Hid (∀ q∈keepIn now (64 * r) (64 * r+(s+1)) L,q∈L∧(64 * r+s<ix now q.2∨ix now q.2<64 * r)):=fun q hq=>by
  obtain ⟨h1,h2⟩:=mem_keep.1 hq
  exact ⟨h1,by omega⟩
 have HK2:Hid (Kept (fun k=>k=p∨w.heap.size≤k) w w2):=(Kept.below (F:=fun k=>k=p∨w.heap.size≤k) hb1'.out).trans hK2 (fun k hk=>.inl hk)
 go_loopw [7,23] (fun t i wr=>∃ (k:Nat) (T G:List NU) (mb':Nat→Option Nat),k≤r∧i=.int .i64 k∧OwnT wr w.heap.size t T∧Hid (L.Perm (T++G))∧Hid (∀ q∈G,q∈L∧(64 * r+s<ix now q.2∨(64 * k≤ix now q.2∧ix now q.2<64 * r)))∧Hid (Wh wr p now L G b0 mb' N)∧Hid (Kept (fun k=>k=p∨w.heap.size≤k) w wr)∧Hid (∀ k,Foot p b0 mb' k→Foot p b0 mb k)) (fun _ i _=>r - (intOf i).toNat)
 case atStart=>exact ⟨0,T2,_,mb2,Nat.zero_le _,rfl,hT2,hLP,fun q hq=>⟨(HCo.out q hq).1,by have:=(HCo.out q hq).2;omega⟩,hW2,HK2.out,hF2⟩
 case round=>
  obtain ⟨k,T,G,mb3,hk,rfl,hT,HLP,HC,HWr,HK,HFT⟩:=hrel
  have hszr:=HK.out.size
  have hlTG:T.length+G.length=L.length:=by have:=HLP.out.length_eq;rw [List.length_append] at this;omega
  by_cases hlt:k<r
  ·have hlt2:(k:Int)<(r:Int):=by omega
   have HT3:=Hid.m (take_any wr p now L G b0 mb3 N HWr.out k 63 (by omega) (by omega) w.heap.size hszr (fun j hj=>HF.out j (HFT.out j hj)) u7 T hT (by omega))
   go_wp2_with (go_at_call 145;refine HT3.out.mono ?_;rintro e w3 ⟨v3,rfl,T3,hT3,hP3,mb4,hW3,hK3,hF3⟩)
   go_roundw
   case rel=>
    refine ⟨k+1,T3,keepIn now (64 * k) (64 * k+(63+1)) G,mb4,by omega,by go_num,hT3,?_,fun q hq=>?_,hW3,HK.out.trans hK3 (fun j hj=>.inl hj),fun j hj=>HFT.out j (hF3 j hj)⟩
    ·show List.Perm _ _
     refine HLP.out.trans ?_
     refine (List.Perm.append_left T (out_keep now (64 * k) (64 * k+(63+1)) G)).trans ?_
     rw [← List.append_assoc]
     exact List.Perm.append_right _ hP3.symm
    ·obtain ⟨h1,h2⟩:=mem_keep.1 hq
     have h3:=HC.out q h1
     exact ⟨h3.1,by have:=h3.2;omega⟩
   case measure=>simp [intOf];omega
  ·have hkr:k=r:=by omega
   have hlt2:¬ (k:Int)<(r:Int):=by omega
   subst hkr
   have HST:Hid (∀ q∈G,(now':Int)<q.2∧ix now' q.2=ix now q.2):=fun q hq=>by
    obtain ⟨h1,h2⟩:=HC.out q hq
    obtain ⟨g1,g2,g3⟩:=HW.out.gb q h1
    have hx:64 * k+s<ix now q.2:=by omega
    obtain ⟨e1,e2⟩:=HRS.out
    unfold ix at hx
    have hsl:=slot_lt now q.2.toNat
    have hst:=stay (a:=now) (b:=q.2.toNat) (c:=now') (by omega) (by rw [← e1,← e2];omega)
    refine ⟨by omega,?_⟩
    unfold ix
    rw [hst.2.1,hst.2.2]
   have HM:=Hid.m (HWr.out.moved now' hn2 HST.out)
   have hnr:wr.cell? ⟨p,1,none⟩=some (.int .i64 now):=HWr.out.nowc
   have hfr:=HWr.out.free 1
   have hpr:p<wr.heap.size:=by omega
   have hTs:OwnT (wr.setCell ⟨p,1,none⟩ (.int .i64 (now':Int))) w.heap.size u7 T:=hT.set (by omega) _
   have hapL:=HW.out.apart
   have HSE:=Hid.m (settle_any (wr.setCell ⟨p,1,none⟩ (.int .i64 (now':Int))) p now' G b0 mb3 N T L (HLP.out.trans List.perm_append_comm) HM.out (((HLP.out.trans List.perm_append_comm).pairwise_iff (fun {_ _} hne=>Ne.symm hne)).1 hapL) (fun q hq=>by
    have hqL:q∈L:=HLP.out.mem_iff.2 (List.mem_append.2 (.inl hq))
    obtain ⟨g1,g2,g3⟩:=HW.out.gb q hqL
    exact ⟨g1,by omega,g3⟩) w.heap.size u7 hTs (by omega) (by simp;omega) (by omega))
   clear hapL hTs
   go_wp2_with (go_at_call 146;refine HSE.out.mono ?_;rintro e w5 ⟨v5,rfl,hD5,mb5,hW5,hK5,hF5⟩)
   go_ret
   have hszs:(wr.setCell ⟨p,1,none⟩ (.int .i64 (now':Int))).heap.size=wr.heap.size:=by simp
   have hdueL:(dueOf now' L).Perm (dueOf now' T):=by
    have h1:(dueOf now' L).Perm (dueOf now' (T++G)):=HLP.out.filter _
    have h2:dueOf now' (T++G)=dueOf now' T:=by
     have hg:G.filter (fun q=>decide (q.2≤(now':Int)))=[]:=List.filter_eq_nil_iff.2 (fun q hq=>by have:=(HST.out q hq).1;simp;omega)
     unfold dueOf
     rw [List.filter_append,hg,List.append_nil]
    rw [h2] at h1
    exact h1
   have hrestL:(G++restOf now' T).Perm (restOf now' L):=by
    have h1:(restOf now' L).Perm (restOf now' (T++G)):=HLP.out.filter _
    have h2:restOf now' (T++G)=restOf now' T++G:=by
     have hg:G.filter (fun q=>decide ((now':Int)<q.2))=G:=List.filter_eq_self.2 (fun q hq=>by have:=(HST.out q hq).1;simpa using this)
     unfold restOf
     rw [List.filter_append,hg]
    rw [h2] at h1
    exact (h1.trans List.perm_append_comm).symm
   have hK0:Kept (Foot p b0 mb) w (wr.setCell ⟨p,1,none⟩ (.int .i64 (now':Int))):=by
    have h1:=HK.out.trans (Kept.grown (F:=fun k=>k=p∨w.heap.size≤k) (grown_set wr p 1 (.int .i64 (now':Int))) (fun j hj=>by cases hj;exact .inl (.inl rfl))) (fun j hj=>.inl hj)
    exact ⟨h1.os,h1.tape,h1.output,h1.size,fun j hj hn=>h1.block j hj (fun hf=>by
     rcases hf with e | e
     ·exact hn (.inl e)
     ·omega)⟩
   refine ⟨_,rfl,dueOf now' T,hD5.down (by rw [hszs];exact hszr),hdueL.symm,mb5,(hW5.perm hrestL hrestL).mono (by omega),hK0.trans hK5 (fun j hj=>.inl (HFT.out j hj)),fun j hj=>?_⟩
   rcases hF5 j hj with g | g
   ·exact .inl (HFT.out j g)
   ·rw [hszs] at g
    exact .inr (by omega)
end Go.Proofs.YtcdpiefflnaghaaGreatDoor.Wh
namespace Go.Proofs.YtcdpiefflnaghaaGreatDoor.Wh
open Go.Proofs.YtcdpiefflnaghaaGreatDoor.Me
open Go.RowKit
abbrev cb:=Lib.compareBytes
theorem cb_self:∀ a,cb a a=0
 | []=>rfl
 | x::a=>by simp [cb,Lib.compareBytes,UInt8.lt_irrefl];exact cb_self a
theorem cb_swap:∀ a b,cb b a=- cb a b
 | [],[]=>rfl
 | [],_::_=>rfl
 | _::_,[]=>rfl
 | x::a,y::b=>by
  have ih:=cb_swap a b
  simp only [cb,Lib.compareBytes] at ih ⊢
  by_cases h1:x<y
  ·have h2:¬ y<x:=fun h=>UInt8.lt_irrefl x (UInt8.lt_trans h1 h)
   simp [h1,h2]
  ·by_cases h2:y<x
   ·simp [h1,h2]
   ·simp [h1,h2,ih]
theorem cb_eq:∀ {a b},cb a b=0→a=b
 | [],[],_=>rfl
 | [],_::_,h=>by cases h
 | _::_,[],h=>by cases h
 | x::a,y::b,h=>by
  simp only [cb,Lib.compareBytes] at h
  by_cases h1:x<y
  ·simp [h1] at h
  ·by_cases h2:y<x
   ·simp [h1,h2] at h
   ·simp [h1,h2] at h
    have e:x=y:=UInt8.le_antisymm (UInt8.not_lt.1 h2) (UInt8.not_lt.1 h1)
    rw [e,cb_eq h]
theorem cb_trans:∀ {a b c},cb a b<0→cb b c<0→cb a c<0
 | [],[],_,h,_=>by simp [cb,Lib.compareBytes] at h
 | [],_::_,[],_,h=>by simp [cb,Lib.compareBytes] at h
 | [],_::_,_::_,_,_=>by simp [cb,Lib.compareBytes]
 | _::_,[],_,h,_=>by simp [cb,Lib.compareBytes] at h
 | _::_,_::_,[],_,h=>by simp [cb,Lib.compareBytes] at h
 | x::a,y::b,z::c,h,k=>by
  have ih:=@cb_trans a b c
  simp only [cb,Lib.compareBytes] at h k ih ⊢
  by_cases h1:x<y
  ·by_cases k1:y<z
   ·simp [UInt8.lt_trans h1 k1]
   ·by_cases k2:z<y
    ·simp [k1,k2] at k
    ·have e:y=z:=UInt8.le_antisymm (UInt8.not_lt.1 k2) (UInt8.not_lt.1 k1)
     rw [← e];simp [h1]
  ·by_cases h2:y<x
   ·simp [h1,h2] at h
   ·have e:x=y:=UInt8.le_antisymm (UInt8.not_lt.1 h2) (UInt8.not_lt.1 h1)
    subst e
    simp [UInt8.lt_irrefl] at h
    by_cases k1:x<z
    ·simp [k1]
    ·by_cases k2:z<x
     ·simp [k1,k2] at k
     ·simp [k1,k2] at k ⊢
      exact ih h k
def nlt (a b:Nm):Prop:=a.tenant<b.tenant∨(a.tenant=b.tenant∧cb a.key.data.toList b.key.data.toList<0)
instance (a b:Nm):Decidable (nlt a b):=by unfold nlt;exact inferInstance
def tlt (a b:NU):Prop:=a.2<b.2∨(a.2=b.2∧nlt a.1 b.1)
instance (a b:NU):Decidable (tlt a b):=by unfold tlt;exact inferInstance
theorem tlt_irrefl (a:NU):¬ tlt a a:=by
 unfold tlt nlt
 have:=cb_self a.1.key.data.toList
 omega
theorem tlt_trans {a b c:NU}(h:tlt a b)(k:tlt b c):tlt a c:=by
 have ht:=@cb_trans a.1.key.data.toList b.1.key.data.toList c.1.key.data.toList
 unfold tlt nlt at h k ⊢
 omega
theorem tlt_ntrans {a b c:NU}(h:¬ tlt a b)(k:¬ tlt b c):¬ tlt a c:=by
 intro hac
 have ht:=@cb_trans b.1.key.data.toList a.1.key.data.toList c.1.key.data.toList
 have hs:=cb_swap a.1.key.data.toList b.1.key.data.toList
 have he:cb b.1.key.data.toList a.1.key.data.toList=0→cb b.1.key.data.toList c.1.key.data.toList=cb a.1.key.data.toList c.1.key.data.toList:=fun e=>by rw [cb_eq e]
 unfold tlt nlt at h k hac
 omega
theorem tlt_total {a b:NU}(h:¬ tlt a b)(k:¬ tlt b a):a=b:=by
 obtain ⟨⟨t,k1⟩,u⟩:=a
 obtain ⟨⟨t',k2⟩,u'⟩:=b
 have hs:=cb_swap k1.data.toList k2.data.toList
 unfold tlt nlt at h k
 simp only [] at h k
 have e1:u=u':=by omega
 have e2:t=t':=by omega
 have e3:cb k1.data.toList k2.data.toList=0:=by omega
 have e4:=cb_eq e3
 have e5:k1=k2:=by
  obtain ⟨⟨l1⟩⟩:=k1
  obtain ⟨⟨l2⟩⟩:=k2
  simp only [] at e4
  rw [e4]
 rw [e1,e2,e5]
def cmpT (x y:NU):Int:=
 if Lib.compareInt x.2 y.2≠0 then Lib.compareInt x.2 y.2 else if Lib.compareInt x.1.tenant y.1.tenant≠0 then Lib.compareInt x.1.tenant y.1.tenant else cb x.1.key.data.toList y.1.key.data.toList
theorem cmpT_lt (x y:NU):ltOf cmpT x y=decide (tlt x y):=by
 unfold ltOf cmpT tlt nlt Lib.compareInt
 by_cases h1:x.2<y.2
 ·simp [h1]
 ·by_cases h2:y.2<x.2
  ·simp [h1,h2];omega
  ·have e1:x.2=y.2:=by omega
   by_cases h3:x.1.tenant<y.1.tenant
   ·simp [e1,h3]
   ·by_cases h4:y.1.tenant<x.1.tenant
    ·simp [e1,h3,h4];omega
    ·have e2:x.1.tenant=y.1.tenant:=by omega
     simp [e1,e2]
theorem cmpT_swo:Go.Sort.SWO (ltOf cmpT) where
 irrefl x:=by rw [cmpT_lt];simpa using tlt_irrefl x
 trans x y z h1 h2:=by rw [cmpT_lt] at *;simp at *;exact tlt_trans h1 h2
 ntrans x y z h1 h2:=by rw [cmpT_lt] at *;simp at *;exact tlt_ntrans h1 h2
theorem cmpT_total:∀ x y,ltOf cmpT x y=false→ltOf cmpT y x=false→x=y:=fun x y h1 h2=>by
 rw [cmpT_lt] at h1 h2
 exact tlt_total (by simpa using h1) (by simpa using h2)
end Go.Proofs.YtcdpiefflnaghaaGreatDoor.Wh
namespace Go.Proofs
open Go.Shelf Go.RowKit Go.Lib Go.Sort
shelf_lay_g SlLaysF0.n6 Slsf 6 at Tryz 92 as Tryz.sortT
shelf_lay Lays.n106 Nm 106 at Tryz as Tryz.lays106Wh
shelf_lay LaysM.n316 Nm 316 at Tryz as Tryz.lays316Wh
end Go.Proofs
namespace Go.Proofs.YtcdpiefflnaghaaGreatDoor.Wh
open Go.Proofs.YtcdpiefflnaghaaGreatDoor.Me
open Go.RowKit Go.Shelf Go.Lib Go.Sort
theorem strCompare (a b:ByteArray)(w:World):Calls Tryz.prog 151 #[.string a,.string b] w fun e w'=>e=.returned (.int .i64 (cb a.data.toList b.data.toList))∧w'=w:=
 Any.strings_Compare Tryz.lays106Wh a b w
theorem strClone (s:ByteArray)(w:World)(h:s.size≤281474976710656):Calls Tryz.prog 233 #[.string s] w fun e w'=>e=.returned (.string s)∧Below w.heap.size w w':=
 Any.stringslite_Clone Tryz.lays316Wh s w h
theorem clone_any (s:ByteArray)(w:World)(h:s.size≤281474976710656):Calls Tryz.prog 171 #[.string s] w fun e w'=>e=.returned (.string s)∧Below w.heap.size w w':=by
 have hc:=strClone s w h
 go_enter Tryz.func171,Tryz.ntmps171
 go_wp2_with (go_at_call 233;refine hc.mono ?_;rintro e w' ⟨rfl,hb⟩)
 go_ret
 exact ⟨rfl,hb⟩
theorem cmpInt_any (a b:Int)(w:World):Calls Tryz.prog 150 #[.int .i64 a,.int .i64 b] w fun e w'=>e=.returned (.int .i64 (Lib.compareInt a b))∧w'=w:=by
 have hn:∀ (x:Int) (W:World),Calls Tryz.prog 205 #[.int .i64 x] W fun e w'=>e=.returned (.bool false)∧w'=W:=by
  intro x W
  go_enter Tryz.func205,Tryz.ntmps205
  go_wp2
  go_ret
  exact ⟨by simp,rfl⟩
 unfold Lib.compareInt
 by_cases h1:a<b
 ·rw [if_pos h1]
  go_enter Tryz.func150,Tryz.ntmps150
  go_wp2_with (go_at_call 205;refine (hn _ _).mono ?_;rintro e w' ⟨rfl,rfl⟩)
  go_ret
  exact ⟨rfl,rfl⟩
 ·rw [if_neg h1]
  by_cases h2:b<a
  ·rw [if_pos h2]
   go_enter Tryz.func150,Tryz.ntmps150
   go_wp2_with (go_at_call 205;refine (hn _ _).mono ?_;rintro e w' ⟨rfl,rfl⟩)
   go_ret
   exact ⟨rfl,rfl⟩
  ·rw [if_neg h2]
   go_enter Tryz.func150,Tryz.ntmps150
   go_wp2_with (go_at_call 205;refine (hn _ _).mono ?_;rintro e w' ⟨rfl,rfl⟩)
   go_ret
   exact ⟨rfl,rfl⟩
theorem or3_any (a b c:Int)(B:Nat)(w:World)(h0:w.cell? ⟨B,0,none⟩=some (.int .i64 a))(h1:w.cell? ⟨B,1,none⟩=some (.int .i64 b))(h2:w.cell? ⟨B,2,none⟩=some (.int .i64 c)):
  Calls Tryz.prog 149 #[.slice (some ⟨B,0,none⟩) 3 3] w fun e w'=>e=.returned (.int .i64 (if a≠0 then a else if b≠0 then b else c))∧w'=w:=by
 by_cases ha:a=0
 ·subst ha
  rw [if_neg (by simp)]
  by_cases hb:b=0
  ·subst hb
   rw [if_neg (by simp)]
   by_cases hc:c=0
   ·subst hc
    go_enter Tryz.func149,Tryz.ntmps149
    go_wp2
    refine wp_loop_rounds 4 ?_
    iterate 4
     rw [rounds_succ]
     go_wp2
    go_ret
    exact ⟨rfl,rfl⟩
   ·have hc2:(c != 0)=true:=by simpa using hc
    go_enter Tryz.func149,Tryz.ntmps149
    go_wp2
    refine wp_loop_rounds 3 ?_
    iterate 3
     rw [rounds_succ]
     go_wp2
    go_ret
    exact ⟨rfl,rfl⟩
  ·rw [if_pos hb]
   have hb2:(b != 0)=true:=by simpa using hb
   go_enter Tryz.func149,Tryz.ntmps149
   go_wp2
   refine wp_loop_rounds 2 ?_
   iterate 2
    rw [rounds_succ]
    go_wp2
   go_ret
   exact ⟨rfl,rfl⟩
 ·rw [if_pos ha]
  have ha2:(a != 0)=true:=by simpa using ha
  go_enter Tryz.func149,Tryz.ntmps149
  go_wp2
  refine wp_loop_rounds 1 ?_
  rw [rounds_succ]
  go_wp2
  go_ret
  exact ⟨rfl,rfl⟩
end Go.Proofs.YtcdpiefflnaghaaGreatDoor.Wh
namespace Go.Proofs.YtcdpiefflnaghaaGreatDoor.Wh
open Go.Proofs.YtcdpiefflnaghaaGreatDoor.Me
open Go.RowKit Go.Shelf Go.Lib Go.Sort
set_option maxHeartbeats 2000000 in
theorem byMoment_any (x y:NU)(W:World):
  Calls Tryz.prog 93 #[.agg #[.int .i64 x.1.tenant,.string x.1.key,.int .i64 x.2],.agg #[.int .i64 y.1.tenant,.string y.1.key,.int .i64 y.2]] W fun e w'=>e=.returned (.int .i64 (cmpT x y))∧∃ q os',w'=grow (W.drewN q) os':=by
 obtain ⟨⟨t,k⟩,u⟩:=x
 obtain ⟨⟨t',k'⟩,u'⟩:=y
 unfold cmpT
 simp only []
 have c1:=fun V=>cmpInt_any u u' V
 have c2:=fun V=>cmpInt_any t t' V
 have c3:=fun V=>strCompare k k' V
 obtain ⟨a,ha⟩:∃ a,a=Lib.compareInt u u':=⟨_,rfl⟩
 obtain ⟨b,hb⟩:∃ b,b=Lib.compareInt t t':=⟨_,rfl⟩
 obtain ⟨c,hc⟩:∃ c,c=cb k.data.toList k'.data.toList:=⟨_,rfl⟩
 rw [← ha] at c1 ⊢
 rw [← hb] at c2 ⊢
 rw [← hc] at c3 ⊢
 clear ha hb hc
 obtain ⟨r,hr⟩:∃ r,r=(if a≠0 then a else if b≠0 then b else c):=⟨_,rfl⟩
 have HOR:Hid (∀ (V:World) (B:Nat),V.cell? ⟨B,0,none⟩=some (.int .i64 a)→V.cell? ⟨B,1,none⟩=some (.int .i64 b)→V.cell? ⟨B,2,none⟩=some (.int .i64 c)→Calls Tryz.prog 149 #[.slice (some ⟨B,0,none⟩) 3 3] V fun e w'=>e=.returned (.int .i64 r)∧w'=V):=fun V B h0 h1 h2=>by rw [hr];exact or3_any a b c B V h0 h1 h2
 rw [← hr]
 clear hr
 have C1:=Hid.m c1
 have C2:=Hid.m c2
 have C3:=Hid.m c3
 clear c1 c2 c3
 go_enter Tryz.func93,Tryz.ntmps93
 go_upto_region 1 with fail
 obtain ⟨wA,hwA⟩:∃ wA,wA=(W.alloc (.cells #[.int .i64 t,.string k,.int .i64 u] 179)).alloc (.cells #[.int .i64 t',.string k',.int .i64 u'] 179):=⟨_,rfl⟩
 have HG:Hid (∀ n:Nat,∃ q os',(wA.drew.alloc (.cells #[.int .i64 a,.int .i64 b,.int .i64 c] 3))=grow (W.drewN q) os'):=fun n=>⟨1,_,by rw [hwA];show ((W.drew.alloc _).alloc _).alloc _=_;rw [alloc_eq_grow,alloc_eq_grow,alloc_eq_grow,grow_grow,grow_grow];rfl⟩
 have hsz:wA.heap.size=W.heap.size+2:=by rw [hwA];simp
 have x0:wA.cell? ⟨W.heap.size,0,none⟩=some (.int .i64 t):=by rw [hwA];simp
 have x1:wA.cell? ⟨W.heap.size,1,none⟩=some (.string k):=by rw [hwA];simp
 have x2:wA.cell? ⟨W.heap.size,2,none⟩=some (.int .i64 u):=by rw [hwA];simp
 have y0:wA.cell? ⟨W.heap.size+1,0,none⟩=some (.int .i64 t'):=by rw [hwA];simp
 have y1:wA.cell? ⟨W.heap.size+1,1,none⟩=some (.string k'):=by rw [hwA];simp
 have y2:wA.cell? ⟨W.heap.size+1,2,none⟩=some (.int .i64 u'):=by rw [hwA];simp
 rw [← hwA]
 clear hwA
 have HSD:(fun V=>V.cell? ⟨W.heap.size,0,none⟩=some (.int .i64 t)∧V.cell? ⟨W.heap.size,1,none⟩=some (.string k)∧V.cell? ⟨W.heap.size,2,none⟩=some (.int .i64 u)∧V.cell? ⟨W.heap.size+1,0,none⟩=some (.int .i64 t')∧V.cell? ⟨W.heap.size+1,1,none⟩=some (.string k')∧V.cell? ⟨W.heap.size+1,2,none⟩=some (.int .i64 u')) wA.drew:=⟨x0,x1,x2,y0,y1,y2⟩
 have HSA:∀ o,(fun V=>V.cell? ⟨W.heap.size,0,none⟩=some (.int .i64 t)∧V.cell? ⟨W.heap.size,1,none⟩=some (.string k)∧V.cell? ⟨W.heap.size,2,none⟩=some (.int .i64 u)∧V.cell? ⟨W.heap.size+1,0,none⟩=some (.int .i64 t')∧V.cell? ⟨W.heap.size+1,1,none⟩=some (.string k')∧V.cell? ⟨W.heap.size+1,2,none⟩=some (.int .i64 u')) (wA.drew.alloc o):=fun o=>⟨(World.cell?_alloc_lt _ _ _ (by show W.heap.size<wA.heap.size;omega)).trans x0,(World.cell?_alloc_lt _ _ _ (by show W.heap.size<wA.heap.size;omega)).trans x1,(World.cell?_alloc_lt _ _ _ (by show W.heap.size<wA.heap.size;omega)).trans x2,(World.cell?_alloc_lt _ _ _ (by show W.heap.size+1<wA.heap.size;omega)).trans y0,(World.cell?_alloc_lt _ _ _ (by show W.heap.size+1<wA.heap.size;omega)).trans y1,(World.cell?_alloc_lt _ _ _ (by show W.heap.size+1<wA.heap.size;omega)).trans y2⟩
 have HA0:Hid ((wA.drew.alloc (.cells #[.int .i64 a,.int .i64 b,.int .i64 c] 3)).cell? ⟨W.heap.size+2,0,none⟩=some (.int .i64 a)):=by rw [← hsz];exact World.cell?_alloc_mark wA.drew #[.int .i64 a,.int .i64 b,.int .i64 c] 3 (0,0) 0
 have HA1:Hid ((wA.drew.alloc (.cells #[.int .i64 a,.int .i64 b,.int .i64 c] 3)).cell? ⟨W.heap.size+2,1,none⟩=some (.int .i64 b)):=by rw [← hsz];exact World.cell?_alloc_mark wA.drew #[.int .i64 a,.int .i64 b,.int .i64 c] 3 (0,0) 1
 have HA2:Hid ((wA.drew.alloc (.cells #[.int .i64 a,.int .i64 b,.int .i64 c] 3)).cell? ⟨W.heap.size+2,2,none⟩=some (.int .i64 c)):=by rw [← hsz];exact World.cell?_alloc_mark wA.drew #[.int .i64 a,.int .i64 b,.int .i64 c] 3 (0,0) 2
 clear x0 x1 x2 y0 y1 y2
 refine wp_region_noPanic ?_
 refine wp_region_held_drew (S:=fun V=>V.cell? ⟨W.heap.size,0,none⟩=some (.int .i64 t)∧V.cell? ⟨W.heap.size,1,none⟩=some (.string k)∧V.cell? ⟨W.heap.size,2,none⟩=some (.int .i64 u)∧V.cell? ⟨W.heap.size+1,0,none⟩=some (.int .i64 t')∧V.cell? ⟨W.heap.size+1,1,none⟩=some (.string k')∧V.cell? ⟨W.heap.size+1,2,none⟩=some (.int .i64 u')) (by kernel_rfl) HSD (fun _=>?_)
 refine wpAnyH_take (i:=0) (v:=.pointer (some ⟨W.heap.size,2,none⟩)) rfl (by kernel_rfl) (by kernel_rfl) (by kernel_rfl) (fun _ _ _ h=>h) (Or.inl ⟨by kernel_rfl,fun W hW=>by kernel_rfl⟩) HSD ?_
 try simp only [List.getElem_toArray,List.getElem_cons_zero,List.getElem_cons_succ,Act.put,List.setIfInBounds_toArray,List.set_cons_zero,List.set_cons_succ,List.append_eq,List.cons_append,List.nil_append]
 refine wpAnyH_take (i:=1) (v:=.int .i64 u) rfl (by kernel_rfl) (by kernel_rfl) (by kernel_rfl) (fun _ _ _ h=>h) (Or.inl ⟨by kernel_rfl,fun W hW=>by obtain ⟨m0,m1,m2,m3,m4,m5⟩:=hW;go_simp⟩) HSD ?_
 try simp only [List.getElem_toArray,List.getElem_cons_zero,List.getElem_cons_succ,Act.put,List.setIfInBounds_toArray,List.set_cons_zero,List.set_cons_succ,List.append_eq,List.cons_append,List.nil_append]
 refine wpAnyH_take (i:=2) (v:=.pointer (some ⟨W.heap.size+1,2,none⟩)) rfl (by kernel_rfl) (by kernel_rfl) (by kernel_rfl) (fun _ _ _ h=>h) (Or.inl ⟨by kernel_rfl,fun W hW=>by kernel_rfl⟩) HSD ?_
 try simp only [List.getElem_toArray,List.getElem_cons_zero,List.getElem_cons_succ,Act.put,List.setIfInBounds_toArray,List.set_cons_zero,List.set_cons_succ,List.append_eq,List.cons_append,List.nil_append]
 refine wpAnyH_take (i:=3) (v:=.int .i64 u') rfl (by kernel_rfl) (by kernel_rfl) (by kernel_rfl) (fun _ _ _ h=>h) (Or.inl ⟨by kernel_rfl,fun W hW=>by obtain ⟨m0,m1,m2,m3,m4,m5⟩:=hW;go_simp⟩) HSD ?_
 try simp only [List.getElem_toArray,List.getElem_cons_zero,List.getElem_cons_succ,Act.put,List.setIfInBounds_toArray,List.set_cons_zero,List.set_cons_succ,List.append_eq,List.cons_append,List.nil_append]
 refine wpAnyH_take (i:=5) (v:=.pointer (some ⟨W.heap.size,0,none⟩)) rfl (by kernel_rfl) (by kernel_rfl) (by kernel_rfl) (fun _ _ _ h=>h) (Or.inl ⟨by kernel_rfl,fun W hW=>by kernel_rfl⟩) HSD ?_
 try simp only [List.getElem_toArray,List.getElem_cons_zero,List.getElem_cons_succ,Act.put,List.setIfInBounds_toArray,List.set_cons_zero,List.set_cons_succ,List.append_eq,List.cons_append,List.nil_append]
 refine wpAnyH_take (i:=6) (v:=.pointer (some ⟨W.heap.size,0,none⟩)) rfl (by kernel_rfl) (by kernel_rfl) (by kernel_rfl) (fun _ _ _ h=>h) (Or.inl ⟨by kernel_rfl,fun W hW=>by kernel_rfl⟩) HSD ?_
 try simp only [List.getElem_toArray,List.getElem_cons_zero,List.getElem_cons_succ,Act.put,List.setIfInBounds_toArray,List.set_cons_zero,List.set_cons_succ,List.append_eq,List.cons_append,List.nil_append]
 refine wpAnyH_take (i:=7) (v:=.int .i64 t) rfl (by kernel_rfl) (by kernel_rfl) (by kernel_rfl) (fun _ _ _ h=>h) (Or.inl ⟨by kernel_rfl,fun W hW=>by obtain ⟨m0,m1,m2,m3,m4,m5⟩:=hW;go_simp⟩) HSD ?_
 try simp only [List.getElem_toArray,List.getElem_cons_zero,List.getElem_cons_succ,Act.put,List.setIfInBounds_toArray,List.set_cons_zero,List.set_cons_succ,List.append_eq,List.cons_append,List.nil_append]
 refine wpAnyH_take (i:=8) (v:=.pointer (some ⟨W.heap.size+1,0,none⟩)) rfl (by kernel_rfl) (by kernel_rfl) (by kernel_rfl) (fun _ _ _ h=>h) (Or.inl ⟨by kernel_rfl,fun W hW=>by kernel_rfl⟩) HSD ?_
 try simp only [List.getElem_toArray,List.getElem_cons_zero,List.getElem_cons_succ,Act.put,List.setIfInBounds_toArray,List.set_cons_zero,List.set_cons_succ,List.append_eq,List.cons_append,List.nil_append]
 refine wpAnyH_take (i:=9) (v:=.pointer (some ⟨W.heap.size+1,0,none⟩)) rfl (by kernel_rfl) (by kernel_rfl) (by kernel_rfl) (fun _ _ _ h=>h) (Or.inl ⟨by kernel_rfl,fun W hW=>by kernel_rfl⟩) HSD ?_
 try simp only [List.getElem_toArray,List.getElem_cons_zero,List.getElem_cons_succ,Act.put,List.setIfInBounds_toArray,List.set_cons_zero,List.set_cons_succ,List.append_eq,List.cons_append,List.nil_append]
 refine wpAnyH_take (i:=10) (v:=.int .i64 t') rfl (by kernel_rfl) (by kernel_rfl) (by kernel_rfl) (fun _ _ _ h=>h) (Or.inl ⟨by kernel_rfl,fun W hW=>by obtain ⟨m0,m1,m2,m3,m4,m5⟩:=hW;go_simp⟩) HSD ?_
 try simp only [List.getElem_toArray,List.getElem_cons_zero,List.getElem_cons_succ,Act.put,List.setIfInBounds_toArray,List.set_cons_zero,List.set_cons_succ,List.append_eq,List.cons_append,List.nil_append]
 refine wpAnyH_take (i:=12) (v:=.pointer (some ⟨W.heap.size,0,none⟩)) rfl (by kernel_rfl) (by kernel_rfl) (by kernel_rfl) (fun _ _ _ h=>h) (Or.inl ⟨by kernel_rfl,fun W hW=>by kernel_rfl⟩) HSD ?_
 try simp only [List.getElem_toArray,List.getElem_cons_zero,List.getElem_cons_succ,Act.put,List.setIfInBounds_toArray,List.set_cons_zero,List.set_cons_succ,List.append_eq,List.cons_append,List.nil_append]
 refine wpAnyH_take (i:=13) (v:=.pointer (some ⟨W.heap.size,1,none⟩)) rfl (by kernel_rfl) (by kernel_rfl) (by kernel_rfl) (fun _ _ _ h=>h) (Or.inl ⟨by kernel_rfl,fun W hW=>by kernel_rfl⟩) HSD ?_
 try simp only [List.getElem_toArray,List.getElem_cons_zero,List.getElem_cons_succ,Act.put,List.setIfInBounds_toArray,List.set_cons_zero,List.set_cons_succ,List.append_eq,List.cons_append,List.nil_append]
 refine wpAnyH_take (i:=14) (v:=.string k) rfl (by kernel_rfl) (by kernel_rfl) (by kernel_rfl) (fun _ _ _ h=>h) (Or.inl ⟨by kernel_rfl,fun W hW=>by obtain ⟨m0,m1,m2,m3,m4,m5⟩:=hW;go_simp⟩) HSD ?_
 try simp only [List.getElem_toArray,List.getElem_cons_zero,List.getElem_cons_succ,Act.put,List.setIfInBounds_toArray,List.set_cons_zero,List.set_cons_succ,List.append_eq,List.cons_append,List.nil_append]
 refine wpAnyH_take (i:=15) (v:=.pointer (some ⟨W.heap.size+1,0,none⟩)) rfl (by kernel_rfl) (by kernel_rfl) (by kernel_rfl) (fun _ _ _ h=>h) (Or.inl ⟨by kernel_rfl,fun W hW=>by kernel_rfl⟩) HSD ?_
 try simp only [List.getElem_toArray,List.getElem_cons_zero,List.getElem_cons_succ,Act.put,List.setIfInBounds_toArray,List.set_cons_zero,List.set_cons_succ,List.append_eq,List.cons_append,List.nil_append]
 refine wpAnyH_take (i:=16) (v:=.pointer (some ⟨W.heap.size+1,1,none⟩)) rfl (by kernel_rfl) (by kernel_rfl) (by kernel_rfl) (fun _ _ _ h=>h) (Or.inl ⟨by kernel_rfl,fun W hW=>by kernel_rfl⟩) HSD ?_
 try simp only [List.getElem_toArray,List.getElem_cons_zero,List.getElem_cons_succ,Act.put,List.setIfInBounds_toArray,List.set_cons_zero,List.set_cons_succ,List.append_eq,List.cons_append,List.nil_append]
 refine wpAnyH_take (i:=17) (v:=.string k') rfl (by kernel_rfl) (by kernel_rfl) (by kernel_rfl) (fun _ _ _ h=>h) (Or.inl ⟨by kernel_rfl,fun W hW=>by obtain ⟨m0,m1,m2,m3,m4,m5⟩:=hW;go_simp⟩) HSD ?_
 try simp only [List.getElem_toArray,List.getElem_cons_zero,List.getElem_cons_succ,Act.put,List.setIfInBounds_toArray,List.set_cons_zero,List.set_cons_succ,List.append_eq,List.cons_append,List.nil_append]
 refine wpAnyH_ready (rs:=[4]) (by kernel_rfl) (by simp) ?_
 refine AllReadyH.cons rfl (fun K hK=>?_) AllReadyH.nil
 simp only [List.getElem_toArray,List.getElem_cons_zero,List.getElem_cons_succ]
 go_simp
 go_at_call 150
 refine (C1.out _).mono ?_
 rintro e w' ⟨rfl,rfl⟩
 refine hK.out _ _ HSD (fun _=>?_)
 clear hK K
 try simp only [List.getElem_toArray,List.getElem_cons_zero,List.getElem_cons_succ,Act.put,List.setIfInBounds_toArray,List.set_cons_zero,List.set_cons_succ,List.append_eq,List.cons_append,List.nil_append]
 refine wpAnyH_ready (rs:=[11]) (by kernel_rfl) (by simp) ?_
 refine AllReadyH.cons rfl (fun K hK=>?_) AllReadyH.nil
 simp only [List.getElem_toArray,List.getElem_cons_zero,List.getElem_cons_succ]
 go_simp
 go_at_call 150
 refine (C2.out _).mono ?_
 rintro e w' ⟨rfl,rfl⟩
 refine hK.out _ _ HSD (fun _=>?_)
 clear hK K
 try simp only [List.getElem_toArray,List.getElem_cons_zero,List.getElem_cons_succ,Act.put,List.setIfInBounds_toArray,List.set_cons_zero,List.set_cons_succ,List.append_eq,List.cons_append,List.nil_append]
 refine wpAnyH_ready (rs:=[18]) (by kernel_rfl) (by simp) ?_
 refine AllReadyH.cons rfl (fun K hK=>?_) AllReadyH.nil
 simp only [List.getElem_toArray,List.getElem_cons_zero,List.getElem_cons_succ]
 go_simp
 go_at_call 151
 refine (C3.out _).mono ?_
 rintro e w' ⟨rfl,rfl⟩
 refine hK.out _ _ HSD (fun _=>?_)
 clear hK K
 try simp only [List.getElem_toArray,List.getElem_cons_zero,List.getElem_cons_succ,Act.put,List.setIfInBounds_toArray,List.set_cons_zero,List.set_cons_succ,List.append_eq,List.cons_append,List.nil_append]
 refine wpAnyH_ready (rs:=[19]) (by kernel_rfl) (by simp) ?_
 refine AllReadyH.cons rfl (fun K hK=>?_) AllReadyH.nil
 simp only [List.getElem_toArray,List.getElem_cons_zero,List.getElem_cons_succ]
 go_simp
 refine hK.out _ _ (HSA _) (fun _=>?_)
 clear hK K
 try simp only [List.getElem_toArray,List.getElem_cons_zero,List.getElem_cons_succ,Act.put,List.setIfInBounds_toArray,List.set_cons_zero,List.set_cons_succ,List.append_eq,List.cons_append,List.nil_append]
 refine wpAnyH_ready (rs:=[20]) (by kernel_rfl) (by simp) ?_
 refine AllReadyH.cons rfl (fun K hK=>?_) AllReadyH.nil
 simp only [List.getElem_toArray,List.getElem_cons_zero,List.getElem_cons_succ]
 go_simp
 go_at_call 149
 refine (HOR.out (wA.drew.alloc (.cells #[.int .i64 a,.int .i64 b,.int .i64 c] 3)) (W.heap.size+2) HA0.out HA1.out HA2.out).mono ?_
 rintro e w' ⟨rfl,rfl⟩
 refine hK.out _ _ (HSA _) (fun _=>?_)
 clear hK K
 try simp only [List.getElem_toArray,List.getElem_cons_zero,List.getElem_cons_succ,Act.put,List.setIfInBounds_toArray,List.set_cons_zero,List.set_cons_succ,List.append_eq,List.cons_append,List.nil_append]
 refine wpAnyH_take (i:=21) (v:=.int .i64 r) rfl (by kernel_rfl) (by kernel_rfl) (by kernel_rfl) (fun _ _ _ h=>h) (Or.inl ⟨by kernel_rfl,fun W hW=>by kernel_rfl⟩) (HSA _) ?_
 try simp only [List.getElem_toArray,List.getElem_cons_zero,List.getElem_cons_succ,Act.put,List.setIfInBounds_toArray,List.set_cons_zero,List.set_cons_succ,List.append_eq,List.cons_append,List.nil_append]
 refine wpAnyH_done (by kernel_rfl) ?_ _
 refine NoPanic.normal ?_
 go_wp2
 go_ret
 exact ⟨rfl,HG.out wA.heap.size⟩
end Go.Proofs.YtcdpiefflnaghaaGreatDoor.Wh
