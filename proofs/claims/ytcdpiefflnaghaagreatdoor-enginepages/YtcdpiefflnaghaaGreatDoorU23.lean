/-
  Package engine and what stands beneath it, part 23: contracts of functions, and what they rest on.
-/
import Derived.Shelf.Lay
import Derived.Shelf.Strconv.Clone
import Derived.Ground.NamesProg
import Derived.Test.YtcdpiefflnaghaaGreatDoorU22
set_option linter.unusedSimpArgs false
set_option linter.unusedVariables false
set_option maxRecDepth 100000
namespace Go.Proofs.YtcdpiefflnaghaaGreatDoor.Tb
open Go.Proofs.YtcdpiefflnaghaaGreatDoor.Me
open Go.RowKit
def TB (w:World)(base p:Nat)(T:List NU)(moved C:Nat)(F:Nat→Prop):Prop:=
 ∃ blk num val ents next,Tm w base p blk num val ents next T.length moved∧Iv num ents next T.length∧(flat num ents).Perm T∧(∀ b,num b≤2 * C+8)∧F=Ft p blk num val
theorem TB.below {w w':World}{base p:Nat}{T:List NU}{moved C:Nat}{F:Nat→Prop}(h:TB w base p T moved C F)(hb:Below w.heap.size w w'):TB w' base p T moved C F:=by
 obtain ⟨blk,num,val,ents,next,h1,h2,h3,h4,h5⟩:=h
 exact ⟨blk,num,val,ents,next,h1.below hb,h2,h3,h4,h5⟩
theorem TB.lt {w:World}{base p:Nat}{T:List NU}{moved C:Nat}{F:Nat→Prop}(h:TB w base p T moved C F){k:Nat}(hk:F k):base≤k∧k<w.heap.size:=by
 obtain ⟨blk,num,val,ents,next,h1,h2,h3,h4,rfl⟩:=h
 exact h1.lt hk
theorem TB.mono {w:World}{base p:Nat}{T:List NU}{moved C C':Nat}{F:Nat→Prop}(h:TB w base p T moved C F)(hC:C≤C'):TB w base p T moved C' F:=by
 obtain ⟨blk,num,val,ents,next,h1,h2,h3,h4,h5⟩:=h
 exact ⟨blk,num,val,ents,next,h1,h2,h3,fun b=>by have:=h4 b;omega,h5⟩
theorem Iv.empty {num:Bool→Nat}{ents:Bool→Nat→List NU}{next many:Nat}(h:Iv num ents next many)(hp:1≤num false)(hn:next<num true)(left:Nat):
  Iv num (up2 (standAll (num false) ents ((ents true next).drop left)) true next ((ents true next).take left)) next many∧(flat num (up2 (standAll (num false) ents ((ents true next).drop left)) true next ((ents true next).take left))).Perm (flat num ents):=by
 have hp1:(flat num (up2 (standAll (num false) ents ((ents true next).drop left)) true next ((ents true next).take left))).Perm (flat num ents):=by
  obtain ⟨rest,h1,h2⟩:=flat_split num (standAll (num false) ents ((ents true next).drop left)) true hn
  rw [standAll_old] at h1
  refine (h2 _).trans ?_
  have h3:=h1.symm.trans (standAll_flat num hp ((ents true next).drop left) ents)
  have h4:(((ents true next).take left++rest)++(ents true next).drop left).Perm (flat num ents++(ents true next).drop left):=by
   refine List.Perm.trans ?_ h3
   conv=>rhs;rw [← List.take_append_drop left (ents true next)]
   rw [List.append_assoc,List.append_assoc]
   exact List.Perm.append_left _ List.perm_append_comm
  exact (List.perm_append_right_iff _).1 h4
 have hh:=standAll_home num ((ents true next).drop left) ents (fun b i hi q hq=>⟨h.home b i hi q hq,h.ok b i hi q hq⟩) (fun x hx=>h.ok true next hn x (List.mem_of_mem_drop hx))
 have hh2:∀ b i,i<num b→∀ q∈up2 (standAll (num false) ents ((ents true next).drop left)) true next ((ents true next).take left) b i,rix q.1 (num b)=i∧q.1.ok:=by
  intro b i hi q hq
  by_cases e:b=true∧i=next
  ·obtain ⟨rfl,rfl⟩:=e
   rw [up2_same] at hq
   have:=List.mem_of_mem_take hq
   exact ⟨h.home true _ hi q this,h.ok true _ hi q this⟩
  ·rw [up2_other e] at hq
   exact hh b i hi q hq
 refine ⟨⟨fun b i hi q hq=>(hh2 b i hi q hq).1,fun b i hi q hq=>(hh2 b i hi q hq).2,apart_perm hp1 h.apart,h.nx,fun i hi=>?_,by rw [hp1.length_eq];exact h.cnt⟩,hp1⟩
 rw [up2_other (by omega),standAll_old]
 exact h.done i hi
theorem Tm.done {w:World}{base p:Nat}{blk num:Bool→Nat}{val:Bool→Nat→Value}{ents:Bool→Nat→List NU}{next many moved:Nat}(h:Tm w base p blk num val ents next many moved):
  Tm ((w.setCell ⟨p,2,none⟩ (.slice none 0 0)).setCell ⟨p,3,none⟩ (.int .i64 0)) base p blk (two (num false) 0) val ents 0 many moved:=by
 obtain ⟨w1,hw1⟩:∃ x,x=(w.setCell ⟨p,2,none⟩ (.slice none 0 0)).setCell ⟨p,3,none⟩ (.int .i64 0):=⟨_,rfl⟩
 rw [← hw1]
 have hs1:w1.heap.size=w.heap.size:=by rw [hw1];simp
 have e1:∀ k,k≠p→w1.heap[k]? = w.heap[k]?:=fun k hk=>by
  rw [hw1]
  exact (Below.heap_setCell _ ⟨p,3,none⟩ _ k hk).trans (Below.heap_setCell w ⟨p,2,none⟩ _ k hk)
 have c2:w1.cell? ⟨p,2,none⟩=some (.slice none 0 0):=by
  rw [hw1,World.cell?_setCell_other _ _ _ _ (by simp)]
  exact World.cell?_setCell_same _ _ _ h.oldc
 have c3:w1.cell? ⟨p,3,none⟩=some (.int .i64 0):=by
  rw [hw1]
  refine World.cell?_setCell_same _ _ _ (u:=.int .i64 next) ?_
  rw [World.cell?_setCell_other _ _ _ _ (by simp)]
  exact h.nextc
 have co:∀ o,o≠2→o≠3→w1.cell? ⟨p,o,none⟩=w.cell? ⟨p,o,none⟩:=fun o h1 h2=>by
  rw [hw1,World.cell?_setCell_other _ _ _ _ (by first | (simp;done) | (simp;omega)),World.cell?_setCell_other _ _ _ _ (by first | (simp;done) | (simp;omega))]
 have f1:∀ o,w1.frozen? ⟨p,o,none⟩=false:=fun o=>by rw [hw1];simpa using h.pfree o
 clear hw1
 have nb:∀ b,0<two (num false) 0 b→b=false:=fun b hb=>by
  cases b
  ·rfl
  ·exact absurd hb (by show ¬ 0<0;omega)
 refine ⟨(co 0 (by omega) (by omega)).trans h.self,(co 1 (by omega) (by omega)).trans h.rowsc,c2,c3,(co 4 (by omega) (by omega)).trans h.manyc,(co 5 (by omega) (by omega)).trans h.movedc,f1,⟨h.plt.1,by have:=h.plt.2;omega⟩,fun b i hi=>?_,fun b hb i=>?_,fun b i hi=>?_,fun b hb=>?_,fun hb=>absurd hb (by show ¬ 0<0;omega),fun b i b' i' g hi hi' g1 g2=>?_,fun b i g hi hg=>?_,h.pos⟩
 ·obtain rfl:=nb b (by omega)
  exact (World.cell?_of_block (e1 _ (h.pblk false (by have:=h.pos;omega)).1)).trans (h.cell false i hi)
 ·obtain rfl:=nb b hb
  exact (World.frozen?_of_block (e1 _ (h.pblk false (by have:=h.pos;omega)).1)).trans (h.free false (by have:=h.pos;omega) i)
 ·obtain rfl:=nb b (by omega)
  exact (h.own false i hi).same (fun g hg=>e1 g (h.far false i g hi hg).1)
 ·obtain rfl:=nb b hb
  have:=h.pblk false hb
  exact ⟨this.1,this.2.1,by omega⟩
 ·obtain rfl:=nb b (by omega)
  obtain rfl:=nb b' (by omega)
  exact h.sep false i false i' g hi hi' g1 g2
 ·obtain rfl:=nb b (by omega)
  have h1:=h.far false i g hi hg
  refine ⟨h1.1,fun b' hb'=>?_⟩
  obtain rfl:=nb b' hb'
  exact h1.2 false hb'
theorem Ft.done {p:Nat}{blk num:Bool→Nat}{val:Bool→Nat→Value}:∀ k,Ft p blk (two (num false) 0) val k→Ft p blk num val k:=by
 rintro k (rfl | ⟨b,hb,rfl⟩ | ⟨b,i,hi,hg⟩)
 ·exact .inl rfl
 ·cases b
  ·exact .inr (.inl ⟨false,hb,rfl⟩)
  ·exact absurd hb (by show ¬ 0<0;omega)
 ·cases b
  ·exact .inr (.inr ⟨false,i,hi,hg⟩)
  ·exact absurd hi (by show ¬ i<0;omega)
theorem Iv.stop {num:Bool→Nat}{ents:Bool→Nat→List NU}{many:Nat}(h:Iv num ents (num true) many):flat (two (num false) 0) ents=flat num ents∧Iv (two (num false) 0) ents 0 many:=by
 have hf:flat (two (num false) 0) ents=flat num ents:=by
  unfold flat rowsOf
  show (List.range 0).flatMap (ents true)++(List.range (num false)).flatMap (ents false)=_
  have:(List.range (num true)).flatMap (ents true)=[]:=by
   rw [List.flatMap_eq_nil_iff]
   intro i hi
   exact h.done i (List.mem_range.1 hi)
  rw [this]
  simp
 refine ⟨hf,⟨fun b i hi q hq=>?_,fun b i hi q hq=>?_,by rw [hf];exact h.apart,Nat.zero_le _,fun i hi=>by omega,by rw [hf];exact h.cnt⟩⟩
 ·cases b
  ·exact h.home false i hi q hq
  ·exact absurd hi (by show ¬ i<0;omega)
 ·cases b
  ·exact h.ok false i hi q hq
  ·exact absurd hi (by show ¬ i<0;omega)
theorem resize_tb (w:World)(base p:Nat)(blk num:Bool→Nat)(val:Bool→Nat→Value)(ents:Bool→Nat→List NU)(next moved:Nat)(T:List NU)(C:Nat)(h:Tm w base p blk num val ents next T.length moved)(hI:Iv num ents next T.length)(hP:(flat num ents).Perm T)(hN:∀ b,num b≤2 * C+8)(hC:T.length≤C)(hC2:C≤200000)(h0:num true=0):
  Calls Tryz.prog 255 #[.pointer (some ⟨p,0,none⟩)] w fun e w'=>e=.returned (.tuple #[])∧∃ F',TB w' base p T moved C F'∧Kept (Ft p blk num val) w w'∧∀ k,F' k→Ft p blk num val k∨w.heap.size≤k:=by
 have hn:=hN false
 have hpos:=h.pos
 have key:∀ m w',1≤m→(m≤num false∨m<2 * T.length)→Tm w' base p (two w.heap.size (blk false)) (two m (num false)) (two (fun _=>.slice none 0 0) (val false)) (two (fun _=>[]) (ents false)) next T.length moved→Kept (Ft p blk num val) w w'→∃ F',TB w' base p T moved C F'∧Kept (Ft p blk num val) w w'∧∀ k,F' k→Ft p blk num val k∨w.heap.size≤k:=fun m w' h1 h2 h3 h4=>
  ⟨_,⟨_,_,_,_,_,h3,hI.fresh h0 m,by rw [flat_fresh num ents h0];exact hP,fun b=>by cases b;(show m≤_;omega);(show num false≤_;omega),rfl⟩,h4,Ft.fresh (w:=w) hpos⟩
 by_cases hA:num false<T.length
 ·refine (resize_up w base p blk num val ents next T.length moved h (by omega) (by omega) hA).mono ?_
  rintro e w' ⟨rfl,m,h1,h2,h3,h4⟩
  exact ⟨rfl,key m w' h1 h2 h3 h4⟩
 ·by_cases hB:8<num false∧T.length * 8<num false
  ·refine (resize_down w base p blk num val ents next T.length moved h (by omega) (by omega) hA hB.1 hB.2).mono ?_
   rintro e w' ⟨rfl,m,h1,h2,h3,h4⟩
   exact ⟨rfl,key m w' h1 h2 h3 h4⟩
  ·refine (resize_not w base p blk num val ents next T.length moved h (by omega) (by omega) hA hB).mono ?_
   rintro e w' ⟨rfl,rfl⟩
   exact ⟨rfl,_,⟨_,_,_,_,_,h,hI,hP,hN,rfl⟩,Kept.refl _ _,fun k hk=>.inl hk⟩
set_option maxHeartbeats 2000000 in
theorem moveOn_any (w:World)(base p:Nat)(T:List NU)(moved0 C:Nat)(F:Nat→Prop)(h:TB w base p T moved0 C F)(hC:T.length≤C)(hC2:C≤200000):
  Calls Tryz.prog 209 #[.pointer (some ⟨p,0,none⟩)] w fun e w'=>e=.returned (.tuple #[])∧∃ moved F',moved≤4∧TB w' base p T moved C F'∧Kept F w w'∧∀ k,F' k→F k∨w.heap.size≤k:=by
 obtain ⟨blk0,num0,val0,ents0,next0,hT0,hI0,hP0,hN0,rfl⟩:=h
 have c5:=hT0.movedc
 have f5:=hT0.pfree 5
 have HT0:=Hid.m hT0
 have HI0:=Hid.m hI0
 have HP0:=Hid.m hP0
 have HN0:=Hid.m hN0
 clear hT0 hI0 hP0 hN0
 go_enter Tryz.func209,Tryz.ntmps209
 go_upto_region 1 with (fail)
 obtain ⟨w0,hw0⟩:∃ x,x=w.setCell ⟨p,5,none⟩ (.int .i64 0):=⟨_,rfl⟩
 rw [← hw0]
 have HT1:Hid (Tm w0 base p blk0 num0 val0 ents0 next0 T.length 0):=by rw [hw0];exact HT0.out.setMoved 0
 have HK1:Hid (Kept (Ft p blk0 num0 val0) w w0):=by rw [hw0];exact Kept.set w (.inl rfl) 5 _
 clear hw0 c5 f5
 have c2:=HT1.out.oldc
 unfold osl at c2
 have HRZ:=Hid.m (fun h0=>resize_tb w0 base p blk0 num0 val0 ents0 next0 0 T C HT1.out HI0.out HP0.out HN0.out hC hC2 h0)
 have hcs:num0 true=0∨¬ num0 true=0:=Classical.em _
 rcases hcs with h0 | h0
 ·rw [if_pos h0] at c2
  have HRY:=Hid.m (HRZ.out h0)
  clear h0
  go_upto_region 3 with (go_at_call 255;refine HRY.out.mono ?_;rintro e wL ⟨rfl,FL,hTB,hK,hF⟩;have HTB:=Hid.m hTB;have HKL:Hid (Kept (Ft p blk0 num0 val0) w wL):=HK1.out.trans hK (fun k hk=>.inl hk);have HFL:Hid (∀ k,FL k→Ft p blk0 num0 val0 k∨w.heap.size≤k):=fun k hk=>(hF k hk).imp id (fun g=>Nat.le_trans HK1.out.size g);clear hTB hK hF)
  clear HRY c2
  go_wp2
  go_loopw [13] (fun s13 wr=>∃ (j moved:Nat) (F':Nat→Prop),j≤8∧s13=.int .i64 j∧moved≤4∧Hid (TB wr base p T moved C F')∧Hid (Kept (Ft p blk0 num0 val0) w wr)∧Hid (∀ k,F' k→Ft p blk0 num0 val0 k∨w.heap.size≤k)) (fun s13 _=>8 - (intOf s13).toNat)
  case atStart=>exact ⟨0,0,FL,by omega,rfl,by omega,HTB,HKL,HFL⟩
  case round=>
   obtain ⟨j,moved,F',hj,rfl,hmv,HTBr,HKr,HFr⟩:=hrel
   by_cases hlt:j<8
   ·have hlt2:(j:Int)<8:=by omega
    have htb:=HTBr.out
    obtain ⟨blk,num,val,ents,next,hT,hI,hP,hN,hFe⟩:=htb
    have d2:=hT.oldc
    unfold osl at d2
    have d3:=hT.nextc
    have f2:=hT.pfree 2
    have f3:=hT.pfree 3
    have HT:=Hid.m hT
    have HI:=Hid.m hI
    have HP:=Hid.m hP
    have HN:=Hid.m hN
    have HFe:=Hid.m hFe
    have hnx:=hI.nx
    clear hT hI hP hN hFe
    by_cases hne:next=num true
    ·have hfin:∀ W,W=(wr.setCell ⟨p,2,none⟩ (.slice none 0 0)).setCell ⟨p,3,none⟩ (.int .i64 0)→∀ n,∃ moved F',moved≤4∧TB (W.drewN n) base p T moved C F'∧Kept (Ft p blk0 num0 val0) w (W.drewN n)∧∀ k,F' k→Ft p blk0 num0 val0 k∨w.heap.size≤k:=by
      intro W hW n
      have hI2:=HI.out
      rw [hne] at hI2
      obtain ⟨e1,e2⟩:=hI2.stop
      refine ⟨moved,Ft p blk (two (num false) 0) val,hmv,⟨blk,two (num false) 0,val,ents,0,?_,e2,by rw [e1];exact HP.out,fun b=>?_,rfl⟩,?_,fun k hk=>HFr.out k (by rw [HFe.out];exact Ft.done k hk)⟩
      ·rw [hW];exact HT.out.done.below (below_drewR (Below.refl _ _) n)
      ·cases b
       ·exact HN.out false
       ·exact Nat.zero_le _
      ·have hp:Ft p blk num val p:=.inl rfl
       have h1:=(HKr.out.trans (Kept.set (F:=Ft p blk num val) wr hp 2 (.slice none 0 0)) (fun k hk=>HFr.out k (by rw [HFe.out];exact hk))).trans (Kept.set (F:=Ft p blk num val) _ hp 3 (.int .i64 0)) (fun k hk=>HFr.out k (by rw [HFe.out];exact hk))
       rw [hW]
       exact ⟨h1.os,h1.tape,h1.output,h1.size,h1.block⟩
     have HFIN:=Hid.m hfin
     have g1:((next:Int)==(num true:Int))=true:=by simp [hne]
     have g1n:(next==num true)=true:=by simp [hne]
     by_cases h00:num true=0
     ·rw [if_pos h00] at d2
      have hn0:next=0:=by omega
      subst hn0
      clear hfin hne g1 g1n hnx h00
      go_upto_region 5 with (fail)
      go_quiet (fail)
      go_wp2
      try simp only [Exit.inBlock,Exit.then]
      refine bodyPost_ret (results_none rfl _ _ _) rfl ⟨rfl,?_⟩
      exact HFIN.out _ rfl _
     ·rw [if_neg h00] at d2
      clear hfin hne hnx h00
      go_upto_region 5 with (fail)
      go_quiet (fail)
      go_wp2
      try simp only [Exit.inBlock,Exit.then]
      refine bodyPost_ret (results_none rfl _ _ _) rfl ⟨rfl,?_⟩
      exact HFIN.out _ rfl _
    ·have hnl:next<num true:=by omega
     rw [if_neg (by omega)] at d2
     have g1:((next:Int)==(num true:Int))=false:=by simp;omega
     have g1n:(next==num true)=false:=by simp [hne]
     have hpr:=HT.out.plt.2
     clear hne hnx f2
     go_upto_region 5 with (fail)
     go_cut [24] from 14 to 52 (fun s24 wx=>s24=.bool false∧Hid (Below wr.heap.size wr wx))
     case first=>
      go_quiet (fail)
      go_wp2
      go_meet
      case rel=>exact ⟨rfl,below_drewR (Below.refl _ _) _⟩
     case rest=>
     obtain ⟨rfl,HB1⟩:=hcut
     obtain ⟨w1,hw1⟩:∃ x,x=wc:=⟨_,rfl⟩
     rw [← hw1] at HB1 ⊢
     clear hw1 d2 d3 f3 hpr
     have HT1':=Hid.m (HT.out.below HB1.out)
     have HEM:=Hid.m (empty_any w1 base p blk num val ents next T.length moved HT1'.out (fun b=>by have:=HN.out b;omega) hnl hmv (HI.out.ok true next hnl) (by rw [HP.out.length_eq];omega))
     go_upto_region 8 with (go_at_call 256;refine HEM.out.mono ?_;rintro e w2 ⟨rfl,val2,left,hleft,hT2,hK2,hF2⟩;have HT2:=Hid.m hT2;have HK2:=Hid.m hK2;have HF2:=Hid.m hF2;have HLE:=Hid.m hleft;clear hT2 hK2 hF2 hleft)
     obtain ⟨Z,hZ⟩:∃ Z,Z=(ents true next).length:=⟨_,rfl⟩
     rw [← hZ] at HLE HT2
     have hlz:left≤Z:=by have:=HLE.out;omega
     have hzz:Z≤400000:=by have h1:=row_le num ents true hnl;have h2:=HP.out.length_eq;omega
     have HMV2:Hid (moved+(Z - left)≤4):=by have:=HLE.out;show _≤_;omega
     have HIE:=Hid.m (HI.out.empty HT.out.pos hnl left)
     have hlen:((ents true next).take left).length=left:=by simp;omega
     obtain ⟨E2,hE2⟩:∃ E2,E2=up2 (standAll (num false) ents ((ents true next).drop left)) true next ((ents true next).take left):=⟨_,rfl⟩
     have HE3:Hid (E2 true next=(ents true next).take left):=by show _=_;rw [hE2,up2_same]
     rw [← hE2] at HIE HT2
     obtain ⟨aa,ac,hva,hla,-,-⟩:=(HT2.out.own true next hnl).at
     rw [HE3.out,hlen] at hva hla
     have e2:=HT2.out.oldc
     unfold osl at e2
     rw [if_neg (by omega)] at e2
     have e3:=HT2.out.nextc
     have ff3:=HT2.out.pfree 3
     have e4:=HT2.out.cell true next hnl
     rw [hva] at e4
     have hnl2:(next:Int)<(num true:Int):=by omega
     have hpl2:=HT2.out.plt.2
     clear hva hla hE2 hlen hZ HEM
     have HKW:Hid (Kept (Ft p blk0 num0 val0) w w2):=(HKr.out.trans (Kept.below (F:=Ft p blk0 num0 val0) HB1.out) (fun k hk=>.inl hk)).trans HK2.out (fun k hk=>HFr.out k (by rw [HFe.out];exact hk))
     have HFW:Hid (∀ k,Ft p blk num val2 k→Ft p blk0 num0 val0 k∨w.heap.size≤k):=fun k hk=>(HF2.out k hk).elim (fun g=>HFr.out k (by rw [HFe.out];exact g)) (fun g=>.inr (Nat.le_trans HKr.out.size (Nat.le_trans HB1.out.size g)))
     go_cut [44] from 14 to 52 (fun s44 wx=>s44=.bool (decide (0<left))∧Hid (Below w2.heap.size w2 wx))
     case first=>
      go_quiet (fail)
      go_wp2
      go_meet
      case rel=>exact ⟨by first | rfl | (congr 1;simp;done) | (simp;done),below_drewR (Below.refl _ _) _⟩
     case rest=>
     obtain ⟨rfl,HB3⟩:=hcut
     obtain ⟨w3,hw3⟩:∃ x,x=wc:=⟨_,rfl⟩
     rw [← hw3] at HB3 ⊢
     have x3:=(bcl HB3.out _ 3 hpl2).trans e3
     have y3:=(bfr HB3.out _ 3 hpl2).trans ff3
     clear hw3 e2 e3 e4 ff3
     have HT3:=Hid.m (HT2.out.below HB3.out)
     have HKW3:Hid (Kept (Ft p blk0 num0 val0) w w3):=HKW.out.trans (Kept.below (F:=Ft p blk0 num0 val0) HB3.out) (fun k hk=>.inl hk)
     by_cases hl0:0<left
     ·have hl1:decide (0<left)=true:=by simp [hl0]
      rw [hl1]
      go_wp2
      try simp only [Exit.inBlock,Exit.then]
      refine bodyPost_ret (results_none rfl _ _ _) rfl ⟨rfl,moved+(Z - left),Ft p blk num val2,HMV2.out,⟨blk,num,val2,E2,next,HT3.out,HIE.out.1,HIE.out.2.trans HP.out,HN.out,rfl⟩,HKW3.out,HFW.out⟩
     ·have hl1:decide (0<left)=false:=by simp;omega
      rw [hl1]
      obtain rfl:left=0:=by omega
      have hE0:Hid (E2 true next=[]):=by show _=_;rw [HE3.out];simp
      have hnb:next≤500000:=by have:=HN.out true;omega
      clear hl0 hl1
      go_wp2
      go_roundw
      case rel=>
       have hI3:Iv num E2 (next+1) T.length:=⟨HIE.out.1.home,HIE.out.1.ok,HIE.out.1.apart,by omega,fun i hi=>by
        by_cases e:i=next
        ·subst e;exact hE0.out
        ·exact HIE.out.1.done i (by omega),HIE.out.1.cnt⟩
       have en:((next:Int)+1)=((next+1:Nat):Int):=by omega
       have hT4:=HT3.out.setNext (next+1)
       rw [← en] at hT4
       have hK4:Kept (Ft p blk0 num0 val0) w (w3.setCell ⟨p,3,none⟩ (.int .i64 ((next:Int)+1))):=HKW3.out.trans (Kept.set (F:=Ft p blk num val2) w3 (.inl rfl) 3 _) HFW.out
       have hfinal:∃ (j' moved':Nat) (F':Nat→Prop),j'≤8∧Value.int .i64 ((j:Int)+1)=.int .i64 j'∧moved'≤4∧Hid (TB (w3.setCell ⟨p,3,none⟩ (.int .i64 ((next:Int)+1))) base p T moved' C F')∧Hid (Kept (Ft p blk0 num0 val0) w (w3.setCell ⟨p,3,none⟩ (.int .i64 ((next:Int)+1))))∧Hid (∀ k,F' k→Ft p blk0 num0 val0 k∨w.heap.size≤k):=
        ⟨j+1,moved+(Z - 0),Ft p blk num val2,by omega,by simp,HMV2.out,⟨blk,num,val2,E2,next+1,hT4,hI3,HIE.out.2.trans HP.out,HN.out,rfl⟩,hK4,HFW.out⟩
       first
        | exact hfinal
        | ((repeat apply Exists.intro);exact ⟨hfinal,rfl⟩)
      case measure=>simp [intOf];omega
   ·have hlt2:¬ (j:Int)<8:=by omega
    go_wp2
    refine bodyPost_end (results_none rfl _ _ _) rfl ?_
    first
     | exact ⟨rfl,moved,F',hmv,HTBr.out,HKr.out,HFr.out⟩
     | exact ⟨rfl,moved,hmv,F',HTBr.out,HKr.out,HFr.out⟩
 ·rw [if_neg h0] at c2
  have h0i:¬ (num0 true:Int)=0:=by omega
  have h0b:((num0 true:Int)==0)=false:=by simp;omega
  have h0c:(num0 true==0)=false:=by simp [h0]
  go_upto_region 3 with (fail)
  obtain ⟨wL,hwL⟩:∃ x,x=w0:=⟨_,rfl⟩
  have HTB:Hid (TB w0 base p T 0 C (Ft p blk0 num0 val0)):=⟨blk0,num0,val0,ents0,next0,HT1.out,HI0.out,HP0.out,HN0.out,rfl⟩
  have HKL:=HK1
  rw [← hwL] at HTB HKL ⊢
  obtain ⟨FL,hFL0⟩:∃ FL,FL=Ft p blk0 num0 val0:=⟨_,rfl⟩
  have HFL:Hid (∀ k,FL k→Ft p blk0 num0 val0 k∨w.heap.size≤k):=fun k hk=>.inl (by rw [← hFL0];exact hk)
  rw [← hFL0] at HTB
  clear hwL hFL0 c2 h0 h0i h0b h0c
  go_wp2
  go_loopw [13] (fun s13 wr=>∃ (j moved:Nat) (F':Nat→Prop),j≤8∧s13=.int .i64 j∧moved≤4∧Hid (TB wr base p T moved C F')∧Hid (Kept (Ft p blk0 num0 val0) w wr)∧Hid (∀ k,F' k→Ft p blk0 num0 val0 k∨w.heap.size≤k)) (fun s13 _=>8 - (intOf s13).toNat)
  case atStart=>exact ⟨0,0,FL,by omega,rfl,by omega,HTB,HKL,HFL⟩
  case round=>
   obtain ⟨j,moved,F',hj,rfl,hmv,HTBr,HKr,HFr⟩:=hrel
   by_cases hlt:j<8
   ·have hlt2:(j:Int)<8:=by omega
    have htb:=HTBr.out
    obtain ⟨blk,num,val,ents,next,hT,hI,hP,hN,hFe⟩:=htb
    have d2:=hT.oldc
    unfold osl at d2
    have d3:=hT.nextc
    have f2:=hT.pfree 2
    have f3:=hT.pfree 3
    have HT:=Hid.m hT
    have HI:=Hid.m hI
    have HP:=Hid.m hP
    have HN:=Hid.m hN
    have HFe:=Hid.m hFe
    have hnx:=hI.nx
    clear hT hI hP hN hFe
    by_cases hne:next=num true
    ·have hfin:∀ W,W=(wr.setCell ⟨p,2,none⟩ (.slice none 0 0)).setCell ⟨p,3,none⟩ (.int .i64 0)→∀ n,∃ moved F',moved≤4∧TB (W.drewN n) base p T moved C F'∧Kept (Ft p blk0 num0 val0) w (W.drewN n)∧∀ k,F' k→Ft p blk0 num0 val0 k∨w.heap.size≤k:=by
      intro W hW n
      have hI2:=HI.out
      rw [hne] at hI2
      obtain ⟨e1,e2⟩:=hI2.stop
      refine ⟨moved,Ft p blk (two (num false) 0) val,hmv,⟨blk,two (num false) 0,val,ents,0,?_,e2,by rw [e1];exact HP.out,fun b=>?_,rfl⟩,?_,fun k hk=>HFr.out k (by rw [HFe.out];exact Ft.done k hk)⟩
      ·rw [hW];exact HT.out.done.below (below_drewR (Below.refl _ _) n)
      ·cases b
       ·exact HN.out false
       ·exact Nat.zero_le _
      ·have hp:Ft p blk num val p:=.inl rfl
       have h1:=(HKr.out.trans (Kept.set (F:=Ft p blk num val) wr hp 2 (.slice none 0 0)) (fun k hk=>HFr.out k (by rw [HFe.out];exact hk))).trans (Kept.set (F:=Ft p blk num val) _ hp 3 (.int .i64 0)) (fun k hk=>HFr.out k (by rw [HFe.out];exact hk))
       rw [hW]
       exact ⟨h1.os,h1.tape,h1.output,h1.size,h1.block⟩
     have HFIN:=Hid.m hfin
     have g1:((next:Int)==(num true:Int))=true:=by simp [hne]
     have g1n:(next==num true)=true:=by simp [hne]
     by_cases h00:num true=0
     ·rw [if_pos h00] at d2
      have hn0:next=0:=by omega
      subst hn0
      clear hfin hne g1 g1n hnx h00
      go_upto_region 5 with (fail)
      go_quiet (fail)
      go_wp2
      try simp only [Exit.inBlock,Exit.then]
      refine bodyPost_ret (results_none rfl _ _ _) rfl ⟨rfl,?_⟩
      exact HFIN.out _ rfl _
     ·rw [if_neg h00] at d2
      clear hfin hne hnx h00
      go_upto_region 5 with (fail)
      go_quiet (fail)
      go_wp2
      try simp only [Exit.inBlock,Exit.then]
      refine bodyPost_ret (results_none rfl _ _ _) rfl ⟨rfl,?_⟩
      exact HFIN.out _ rfl _
    ·have hnl:next<num true:=by omega
     rw [if_neg (by omega)] at d2
     have g1:((next:Int)==(num true:Int))=false:=by simp;omega
     have g1n:(next==num true)=false:=by simp [hne]
     have hpr:=HT.out.plt.2
     clear hne hnx f2
     go_upto_region 5 with (fail)
     go_cut [24] from 14 to 52 (fun s24 wx=>s24=.bool false∧Hid (Below wr.heap.size wr wx))
     case first=>
      go_quiet (fail)
      go_wp2
      go_meet
      case rel=>exact ⟨rfl,below_drewR (Below.refl _ _) _⟩
     case rest=>
     obtain ⟨rfl,HB1⟩:=hcut
     obtain ⟨w1,hw1⟩:∃ x,x=wc:=⟨_,rfl⟩
     rw [← hw1] at HB1 ⊢
     clear hw1 d2 d3 f3 hpr
     have HT1':=Hid.m (HT.out.below HB1.out)
     have HEM:=Hid.m (empty_any w1 base p blk num val ents next T.length moved HT1'.out (fun b=>by have:=HN.out b;omega) hnl hmv (HI.out.ok true next hnl) (by rw [HP.out.length_eq];omega))
     go_upto_region 8 with (go_at_call 256;refine HEM.out.mono ?_;rintro e w2 ⟨rfl,val2,left,hleft,hT2,hK2,hF2⟩;have HT2:=Hid.m hT2;have HK2:=Hid.m hK2;have HF2:=Hid.m hF2;have HLE:=Hid.m hleft;clear hT2 hK2 hF2 hleft)
     obtain ⟨Z,hZ⟩:∃ Z,Z=(ents true next).length:=⟨_,rfl⟩
     rw [← hZ] at HLE HT2
     have hlz:left≤Z:=by have:=HLE.out;omega
     have hzz:Z≤400000:=by have h1:=row_le num ents true hnl;have h2:=HP.out.length_eq;omega
     have HMV2:Hid (moved+(Z - left)≤4):=by have:=HLE.out;show _≤_;omega
     have HIE:=Hid.m (HI.out.empty HT.out.pos hnl left)
     have hlen:((ents true next).take left).length=left:=by simp;omega
     obtain ⟨E2,hE2⟩:∃ E2,E2=up2 (standAll (num false) ents ((ents true next).drop left)) true next ((ents true next).take left):=⟨_,rfl⟩
     have HE3:Hid (E2 true next=(ents true next).take left):=by show _=_;rw [hE2,up2_same]
     rw [← hE2] at HIE HT2
     obtain ⟨aa,ac,hva,hla,-,-⟩:=(HT2.out.own true next hnl).at
     rw [HE3.out,hlen] at hva hla
     have e2:=HT2.out.oldc
     unfold osl at e2
     rw [if_neg (by omega)] at e2
     have e3:=HT2.out.nextc
     have ff3:=HT2.out.pfree 3
     have e4:=HT2.out.cell true next hnl
     rw [hva] at e4
     have hnl2:(next:Int)<(num true:Int):=by omega
     have hpl2:=HT2.out.plt.2
     clear hva hla hE2 hlen hZ HEM
     have HKW:Hid (Kept (Ft p blk0 num0 val0) w w2):=(HKr.out.trans (Kept.below (F:=Ft p blk0 num0 val0) HB1.out) (fun k hk=>.inl hk)).trans HK2.out (fun k hk=>HFr.out k (by rw [HFe.out];exact hk))
     have HFW:Hid (∀ k,Ft p blk num val2 k→Ft p blk0 num0 val0 k∨w.heap.size≤k):=fun k hk=>(HF2.out k hk).elim (fun g=>HFr.out k (by rw [HFe.out];exact g)) (fun g=>.inr (Nat.le_trans HKr.out.size (Nat.le_trans HB1.out.size g)))
     go_cut [44] from 14 to 52 (fun s44 wx=>s44=.bool (decide (0<left))∧Hid (Below w2.heap.size w2 wx))
     case first=>
      go_quiet (fail)
      go_wp2
      go_meet
      case rel=>exact ⟨by first | rfl | (congr 1;simp;done) | (simp;done),below_drewR (Below.refl _ _) _⟩
     case rest=>
     obtain ⟨rfl,HB3⟩:=hcut
     obtain ⟨w3,hw3⟩:∃ x,x=wc:=⟨_,rfl⟩
     rw [← hw3] at HB3 ⊢
     have x3:=(bcl HB3.out _ 3 hpl2).trans e3
     have y3:=(bfr HB3.out _ 3 hpl2).trans ff3
     clear hw3 e2 e3 e4 ff3
     have HT3:=Hid.m (HT2.out.below HB3.out)
     have HKW3:Hid (Kept (Ft p blk0 num0 val0) w w3):=HKW.out.trans (Kept.below (F:=Ft p blk0 num0 val0) HB3.out) (fun k hk=>.inl hk)
     by_cases hl0:0<left
     ·have hl1:decide (0<left)=true:=by simp [hl0]
      rw [hl1]
      go_wp2
      try simp only [Exit.inBlock,Exit.then]
      refine bodyPost_ret (results_none rfl _ _ _) rfl ⟨rfl,moved+(Z - left),Ft p blk num val2,HMV2.out,⟨blk,num,val2,E2,next,HT3.out,HIE.out.1,HIE.out.2.trans HP.out,HN.out,rfl⟩,HKW3.out,HFW.out⟩
     ·have hl1:decide (0<left)=false:=by simp;omega
      rw [hl1]
      obtain rfl:left=0:=by omega
      have hE0:Hid (E2 true next=[]):=by show _=_;rw [HE3.out];simp
      have hnb:next≤500000:=by have:=HN.out true;omega
      clear hl0 hl1
      go_wp2
      go_roundw
      case rel=>
       have hI3:Iv num E2 (next+1) T.length:=⟨HIE.out.1.home,HIE.out.1.ok,HIE.out.1.apart,by omega,fun i hi=>by
        by_cases e:i=next
        ·subst e;exact hE0.out
        ·exact HIE.out.1.done i (by omega),HIE.out.1.cnt⟩
       have en:((next:Int)+1)=((next+1:Nat):Int):=by omega
       have hT4:=HT3.out.setNext (next+1)
       rw [← en] at hT4
       have hK4:Kept (Ft p blk0 num0 val0) w (w3.setCell ⟨p,3,none⟩ (.int .i64 ((next:Int)+1))):=HKW3.out.trans (Kept.set (F:=Ft p blk num val2) w3 (.inl rfl) 3 _) HFW.out
       have hfinal:∃ (j' moved':Nat) (F':Nat→Prop),j'≤8∧Value.int .i64 ((j:Int)+1)=.int .i64 j'∧moved'≤4∧Hid (TB (w3.setCell ⟨p,3,none⟩ (.int .i64 ((next:Int)+1))) base p T moved' C F')∧Hid (Kept (Ft p blk0 num0 val0) w (w3.setCell ⟨p,3,none⟩ (.int .i64 ((next:Int)+1))))∧Hid (∀ k,F' k→Ft p blk0 num0 val0 k∨w.heap.size≤k):=
        ⟨j+1,moved+(Z - 0),Ft p blk num val2,by omega,by simp,HMV2.out,⟨blk,num,val2,E2,next+1,hT4,hI3,HIE.out.2.trans HP.out,HN.out,rfl⟩,hK4,HFW.out⟩
       first
        | exact hfinal
        | ((repeat apply Exists.intro);exact ⟨hfinal,rfl⟩)
      case measure=>simp [intOf];omega
   ·have hlt2:¬ (j:Int)<8:=by omega
    go_wp2
    refine bodyPost_end (results_none rfl _ _ _) rfl ?_
    first
     | exact ⟨rfl,moved,F',hmv,HTBr.out,HKr.out,HFr.out⟩
     | exact ⟨rfl,moved,hmv,F',HTBr.out,HKr.out,HFr.out⟩
end Go.Proofs.YtcdpiefflnaghaaGreatDoor.Tb
namespace Go.Proofs.YtcdpiefflnaghaaGreatDoor.Tb
open Go.Proofs.YtcdpiefflnaghaaGreatDoor.Me
open Go.RowKit
theorem ptr_same (p:Nat)(W:World):(binOp .eql 96 (.pointer (some ⟨p,0,none⟩)) (.pointer (some ⟨p,0,none⟩))).run Tryz.prog W=.ok (.bool true) W:=by
 have h9:(Op.equalIn (9999+1) 96 (.pointer (some ⟨p,0,none⟩)) (.pointer (some ⟨p,0,none⟩))).run Tryz.prog W=.ok true W:=by
  have hse:(Go.sizeOf 165).run Tryz.prog W=.ok 6 W:=by kernel_rfl
  rw [Op.equalIn]
  simp only [Sem.run_bind,run_underlying Tryz.underlying96,Result.andThen_ok]
  simp [hse,sameAddr]
 simp only [binOp]
 have:(Op.equal 96 (.pointer (some ⟨p,0,none⟩)) (.pointer (some ⟨p,0,none⟩))).run Tryz.prog W=.ok true W:=h9
 simp [this]
theorem isMade_any (w:World)(p:Nat)(h:w.cell? ⟨p,0,none⟩=some (.pointer (some ⟨p,0,none⟩))):
  Calls Tryz.prog 207 #[.pointer (some ⟨p,0,none⟩)] w fun e w'=>e=.returned (.bool true)∧w'=w:=by
 have hps:=fun W=>ptr_same p W
 go_enter Tryz.func207,Tryz.ntmps207
 go_wp2
 go_ret
 exact ⟨rfl,rfl⟩
theorem mayBe_any (w:World)(y:Nm):
  Calls Tryz.prog 208 #[.agg #[.int .i64 y.tenant,.string y.key]] w fun e w'=>e=.returned (.bool (decide y.ok))∧w'=w.alloc (.cells #[.int .i64 y.tenant,.string y.key] 119):=by
 obtain ⟨t,k⟩:=y
 unfold Nm.ok
 simp only []
 by_cases h1:0≤t
 ·by_cases h2:t<4
  ·by_cases h3:1≤(k.size:Int)
   ·by_cases h4:(k.size:Int)≤32
    ·go_enter Tryz.func208,Tryz.ntmps208
     go_wp2
     go_ret
     exact ⟨by simp [h1,h2];omega,rfl⟩
    ·have h4':decide ((k.size:Int)≤32)=false:=by simpa using h4
     go_enter Tryz.func208,Tryz.ntmps208
     go_wp2
     go_ret
     exact ⟨by simp [h1,h2];omega,rfl⟩
   ·have h3':decide (1≤(k.size:Int))=false:=by simpa using h3
    go_enter Tryz.func208,Tryz.ntmps208
    go_wp2
    go_ret
    exact ⟨by simp [h1,h2];omega,rfl⟩
  ·have h2':decide (t<4)=false:=by simpa using h2
   go_enter Tryz.func208,Tryz.ntmps208
   go_wp2
   go_ret
   exact ⟨by simp [h1,h2],rfl⟩
 ·have h1':decide (0≤t)=false:=by simpa using h1
  have hz:decide (0≤t∧t<4∧1≤k.size∧k.size≤32)=false:=decide_eq_false (fun h=>h1 h.1)
  rw [hz]
  clear hz
  go_enter Tryz.func208,Tryz.ntmps208
  go_wp2
  go_ret
  exact ⟨rfl,rfl⟩
theorem TB.self {w:World}{base p:Nat}{T:List NU}{moved C:Nat}{F:Nat→Prop}(h:TB w base p T moved C F):w.cell? ⟨p,0,none⟩=some (.pointer (some ⟨p,0,none⟩))∧w.cell? ⟨p,4,none⟩=some (.int .i64 (T.length:Nat))∧w.cell? ⟨p,5,none⟩=some (.int .i64 moved):=by
 obtain ⟨blk,num,val,ents,next,h1,_⟩:=h
 exact ⟨h1.self,h1.manyc,h1.movedc⟩
theorem begin_ok (w:World)(base p:Nat)(T:List NU)(moved0 C:Nat)(F:Nat→Prop)(h:TB w base p T moved0 C F)(hC:T.length≤C)(hC2:C≤200000)(y:Nm)(hy:y.ok):
  Calls Tryz.prog 152 #[.pointer (some ⟨p,0,none⟩),.agg #[.int .i64 y.tenant,.string y.key]] w fun e w'=>e=.returned (.int .i64 0)∧∃ moved F',moved≤4∧TB w' base p T moved C F'∧Kept F w w'∧∀ k,F' k→F k∨w.heap.size≤k:=by
 have HT:=Hid.m h
 have HM:=Hid.m (fun W (hb:Below w.heap.size w W)=>isMade_any W p (h.below hb).self.1)
 have HY:=Hid.m (fun W=>mayBe_any W y)
 rw [decide_eq_true hy] at HY
 have HMV:=Hid.m (fun W (hb:Below w.heap.size w W)=>moveOn_any W base p T moved0 C F (h.below hb) hC hC2)
 clear h hy
 go_enter Tryz.func152,Tryz.ntmps152
 go_upto_region 1 with (fail)
 obtain ⟨w0,hw0⟩:∃ w0,w0=w.alloc (Obj.cells #[.int .i64 y.tenant,.string y.key] 119):=⟨_,rfl⟩
 rw [← hw0]
 have HB0:Hid (Below w.heap.size w w0):=by rw [hw0];exact (Below.refl _ _).alloc (Nat.le_refl _) _
 have a0:w0.cell? ⟨w.heap.size,0,none⟩=some (.int .i64 y.tenant):=by rw [hw0];simp
 have a1:w0.cell? ⟨w.heap.size,1,none⟩=some (.string y.key):=by rw [hw0];simp
 have y0:w.heap.size≤w0.heap.size:=HB0.out.size
 clear hw0
 go_upto_region 5 with (first
  | (go_at_call 207;refine (HM.out _ HB0.out).mono ?_;rintro e w1 ⟨rfl,hwq⟩;obtain rfl:=hwq.symm)
  | (go_at_call 208;refine (HY.out _).mono ?_;rintro e w2 ⟨rfl,hwq⟩;have HB2:Hid (Below w.heap.size w w2):=(by rw [hwq];exact HB0.out.alloc HB0.out.size _);clear hwq))
 go_wp2_with (go_at_call 209;refine (HMV.out _ HB2.out).mono ?_;rintro e w3 ⟨rfl,moved,F',hm,hT3,hK3,hF3⟩)
 go_ret
 exact ⟨rfl,moved,F',hm,hT3,(Kept.below (F:=F) HB2.out).trans hK3 (fun k hk=>.inl hk),fun k hk=>(hF3 k hk).imp id (fun g=>Nat.le_trans HB2.out.size g)⟩
end Go.Proofs.YtcdpiefflnaghaaGreatDoor.Tb
namespace Go.Proofs.YtcdpiefflnaghaaGreatDoor.Tb
open Go.Proofs.YtcdpiefflnaghaaGreatDoor.Me
open Go.RowKit
def lk (T:List NU)(y:Nm):Option Int:=(T.find? (fun q=>decide (q.1=y))).map Prod.snd
theorem find_mem {y:Nm}{u:Int}:∀ {L:List NU},L.Pairwise (fun p q=>p.1≠q.1)→(y,u)∈L→L.find? (fun q=>decide (q.1=y))=some (y,u)
 | [],_,hm=>by cases hm
 | x::L,ha,hm=>by
  obtain ⟨h1,h2⟩:=List.pairwise_cons.1 ha
  by_cases e:x.1=y
  ·rcases List.mem_cons.1 hm with rfl | hm
   ·simp
   ·exact absurd e (h1 _ hm)
  ·rcases List.mem_cons.1 hm with rfl | hm
   ·exact absurd rfl e
   ·rw [List.find?_cons_of_neg (by simp [e])]
    exact find_mem h2 hm
theorem lk_mem {T:List NU}{y:Nm}{u:Int}(ha:T.Pairwise (fun p q=>p.1≠q.1))(hm:(y,u)∈T):lk T y=some u:=by unfold lk;rw [find_mem ha hm];rfl
theorem lk_none {T:List NU}{y:Nm}(h:∀ q∈T,q.1≠y):lk T y=none:=by
 unfold lk
 rw [List.find?_eq_none.2 (fun q hq=>by simpa using h q hq)]
 rfl
theorem found_cases {num:Bool→Nat}{ents:Bool→Nat→List NU}{next many:Nat}{T:List NU}{y:Nm}{b:Bool}{k:Int}(hI:Iv num ents next many)(hP:(flat num ents).Perm T)(hlt:rix y (num b)<num b)(hk:k=ixOf (ents b (rix y (num b))) y)(hf:b=false→0<num true→ixOf (ents true (rix y (num true))) y=-1)(ht:b=true→0≤k):
  (k=-1∧∀ q∈T,q.1≠y)∨∃ (j:Nat) (x:Int),k=j∧∃ h:j<(ents b (rix y (num b))).length,(ents b (rix y (num b)))[j]=(y,x)∧(y,x)∈T:=by
 rcases ixOf_ge (ents b (rix y (num b))) y with e | ⟨j,e,hj,e2⟩
 ·rw [← hk] at e
  refine .inl ⟨e,fun q hq=>?_⟩
  have hb:b=false:=by
   cases b
   ·rfl
   ·have:=ht rfl;omega
  subst hb
  refine hI.absent (y:=y) (fun b' hb'=>?_) q (hP.mem_iff.2 hq)
  cases b'
  ·rw [← hk];exact e
  ·exact hf rfl hb'
 ·rw [← hk] at e
  have hm:=List.getElem_mem hj
  obtain ⟨z,hz⟩:∃ z,z=(ents b (rix y (num b)))[j]:=⟨_,rfl⟩
  rw [← hz] at e2 hm
  obtain ⟨z1,z2⟩:=z
  have e3:z1=y:=e2
  subst e3
  exact .inr ⟨j,z2,e,hj,hz.symm,hP.mem_iff.1 (mem_flat.2 ⟨b,rix z1 (num b),hlt,hm⟩)⟩
theorem TB.apart {w:World}{base p:Nat}{T:List NU}{moved C:Nat}{F:Nat→Prop}(h:TB w base p T moved C F):T.Pairwise (fun p q=>p.1≠q.1):=by
 obtain ⟨blk,num,val,ents,next,h1,h2,h3,_⟩:=h
 exact apart_perm h3.symm h2.apart
def Same (w:World)(base p:Nat)(T:List NU)(C:Nat)(F:Nat→Prop)(w':World):Prop:=∃ moved F',moved≤4∧TB w' base p T moved C F'∧Kept F w w'∧∀ k,F' k→F k∨w.heap.size≤k
def getV (T:List NU)(y:Nm):Value:=.tuple #[.int .i64 ((lk T y).getD 0),.bool (lk T y).isSome,.int .i64 0]
set_option maxHeartbeats 1000000 in
theorem get_ok (w:World)(base p:Nat)(T:List NU)(moved0 C:Nat)(F:Nat→Prop)(h:TB w base p T moved0 C F)(hC:T.length≤C)(hC2:C≤200000)(y:Nm)(hy:y.ok):
  Calls Tryz.prog 94 #[.pointer (some ⟨p,0,none⟩),.agg #[.int .i64 y.tenant,.string y.key]] w fun e w'=>e=.returned (getV T y)∧Same w base p T C F w':=by
 have HT:=Hid.m h
 have HBG:=Hid.m (fun W (hb:Below w.heap.size w W)=>begin_ok W base p T moved0 C F (h.below hb) hC hC2 y hy)
 have HY:=Hid.m hy
 clear h hy
 go_enter Tryz.func94,Tryz.ntmps94
 go_upto_region 1 with (fail)
 obtain ⟨w0,hw0⟩:∃ w0,w0=w.alloc (Obj.cells #[.int .i64 y.tenant,.string y.key] 119):=⟨_,rfl⟩
 rw [← hw0]
 have HB0:Hid (Below w.heap.size w w0):=by rw [hw0];exact (Below.refl _ _).alloc (Nat.le_refl _) _
 have a0:w0.cell? ⟨w.heap.size,0,none⟩=some (.int .i64 y.tenant):=by rw [hw0];simp
 have a1:w0.cell? ⟨w.heap.size,1,none⟩=some (.string y.key):=by rw [hw0];simp
 have y0:w.heap.size<w0.heap.size:=by rw [hw0];simp
 clear hw0
 go_upto_region 4 with (go_at_call 152;refine (HBG.out _ HB0.out).mono ?_;rintro e w1 ⟨rfl,moved,F',hm,hT1,hK1,hF1⟩;have hbk:=hK1.block w.heap.size y0 (fun hf=>by have:=(HT.out.lt hf).2;omega);have b0:=(World.cell?_of_block (a:=⟨w.heap.size,0,none⟩) hbk).trans a0;have b1:=(World.cell?_of_block (a:=⟨w.heap.size,1,none⟩) hbk).trans a1;have HT1:=Hid.m hT1;have HK1:=Hid.m hK1;have HF1:=Hid.m hF1;clear hT1 hK1 hF1 hbk)
 clear a0 a1
 have HSM:Hid (∀ W,Below w1.heap.size w1 W→Same w base p T C F W):=fun W hb=>⟨moved,F',hm,HT1.out.below hb,((Kept.below (F:=F) HB0.out).trans HK1.out (fun k hk=>.inl hk)).trans (Kept.below (F:=F) hb) (fun k hk=>.inl hk),fun k hk=>(HF1.out k hk).imp id (fun g=>Nat.le_trans HB0.out.size g)⟩
 have HAP:=Hid.m HT1.out.apart
 have htb:=HT1.out
 obtain ⟨blk,num,val,ents,next,hTm,hI,hP,hN,hFe⟩:=htb
 have HFD:=Hid.m (find_any w1 base p blk num val ents next T.length moved hTm (fun b=>by have:=hN b;omega) y HY.out (fun b i hi=>by have h1:=row_le num ents b hi;have h2:=hP.length_eq;omega))
 have HTm:=Hid.m hTm
 have HI:=Hid.m hI
 have HP:=Hid.m hP
 clear hTm hI hP hN hFe
 go_upto_region 5 with (go_at_call 153;refine HFD.out.mono ?_;rintro e w2 ⟨⟨b,k,rfl,hlt,hk,hf,ht⟩,hb2⟩;have HB2:=Hid.m hb2;have HKK:=Hid.m hk;have HKF:=Hid.m hf;have HKT:=Hid.m ht;clear hb2 hk hf ht)
 have hfc:=found_cases HI.out HP.out hlt HKK.out HKF.out HKT.out
 clear HKK HKF HKT HFD
 rcases hfc with ⟨rfl,hno⟩ | ⟨j,x,rfl,hj,hjx,hmx⟩
 ·have HV:Hid (getV T y=.tuple #[.int .i64 0,.bool false,.int .i64 0]):=by show _=_;unfold getV;rw [lk_none hno];rfl
  clear hno
  go_wp2
  go_ret3
  exact ⟨by rw [HV.out];rfl,HSM.out _ HB2.out⟩
 ·have HV:Hid (getV T y=.tuple #[.int .i64 x,.bool true,.int .i64 0]):=by show _=_;unfold getV;rw [lk_mem HAP.out hmx];rfl
  clear hmx
  have HTm2:=Hid.m (HTm.out.below HB2.out)
  obtain ⟨ix,hix⟩:∃ ix,ix=rix y (num b):=⟨_,rfl⟩
  rw [← hix] at hlt ⊢
  have hj':j<(ents b ix).length:=by rw [hix];exact hj
  have hjx':(ents b ix)[j]=(y,x):=by subst hix;exact hjx
  clear hj hjx hix
  have c0:=HTm2.out.cell b ix hlt
  rcases (HTm2.out.own b ix hlt).row with ⟨e1,e2⟩ | ⟨g,cap,e1,h1,h2,h3⟩
  ·rw [e2] at hj';simp at hj'
  rw [e1] at c0
  rcases h3 with e3 | ⟨g',off,e3,hgl,hcs⟩
  ·rw [e3] at hj';simp at hj'
  cases e3
  obtain ⟨-,-,c2⟩:=hcs j hj'
  rw [hjx'] at c2
  have c3:w2.cell? ⟨g,0+j * 3+2,none⟩=some (.int .i64 x):=c2
  rw [Nat.zero_add] at c3
  have hj2:(j:Int)<((ents b ix).length:Int):=by omega
  have hj3:¬ (j:Int)<0:=by omega
  clear hcs c2 hjx' e1
  go_wp2
  go_ret3
  exact ⟨by rw [HV.out];rfl,HSM.out _ HB2.out⟩
end Go.Proofs.YtcdpiefflnaghaaGreatDoor.Tb
namespace Go.Proofs
open Go.Shelf Go.RowKit Go.Lib
shelf_lay LaysM.n316 Nm 316 at Tryz as Tryz.lays316Tb
end Go.Proofs
namespace Go.Proofs.YtcdpiefflnaghaaGreatDoor.Tb
open Go.Proofs.YtcdpiefflnaghaaGreatDoor.Me
open Go.RowKit
theorem strClone (s:ByteArray)(w:World)(h:s.size≤281474976710656):Calls Tryz.prog 233 #[.string s] w fun e w'=>e=.returned (.string s)∧Below w.heap.size w w':=
 Any.stringslite_Clone Tryz.lays316Tb s w h
theorem clone_any (s:ByteArray)(w:World)(h:s.size≤281474976710656):Calls Tryz.prog 171 #[.string s] w fun e w'=>e=.returned (.string s)∧Below w.heap.size w w':=by
 have hc:=strClone s w h
 go_enter Tryz.func171,Tryz.ntmps171
 go_wp2_with (go_at_call 233;refine hc.mono ?_;rintro e w' ⟨rfl,hb⟩)
 go_ret
 exact ⟨rfl,hb⟩
theorem cut_list {L:List NU}{j:Nat}{q:NU}(hj:j<L.length)(e:L[j]=q):L=L.take j++q::L.drop (j+1):=by
 have h1:L.drop j=q::L.drop (j+1):=by rw [← e];exact (List.getElem_cons_drop (h:=hj)).symm
 rw [← h1]
 exact (List.take_append_drop j L).symm
theorem strike_apart {y:Nm}{x:Int}{M T:List NU}(hP:T.Perm ((y,x)::M))(ha:T.Pairwise (fun p q=>p.1≠q.1)):(strike y T).Perm M:=by
 have ha2:=apart_perm hP.symm ha
 obtain ⟨h1,h2⟩:=List.pairwise_cons.1 ha2
 have e:strike y ((y,x)::M)=M:=by
  have:strike y ((y,x)::M)=strike y M:=by simp [strike]
  rw [this,strike_none (fun q hq=>(h1 q hq).symm)]
 have h3:(strike y T).Perm (strike y ((y,x)::M)):=hP.filter _
 rwa [e] at h3
theorem flat_entry {num:Bool→Nat}{ents:Bool→Nat→List NU}{b:Bool}{i j:Nat}{q:NU}(hi:i<num b)(hj:j<(ents b i).length)(e:(ents b i)[j]=q):
  ∃ M,(flat num ents).Perm (q::M)∧(flat num (up2 ents b i ((ents b i).take j++(ents b i).drop (j+1)))).Perm M∧∀ q',(flat num (up2 ents b i ((ents b i).set j q'))).Perm (q'::M):=by
 obtain ⟨rest,h1,h2⟩:=flat_split num ents b hi
 refine ⟨(ents b i).take j++(ents b i).drop (j+1)++rest,?_,h2 _,fun q'=>?_⟩
 ·refine h1.trans ?_
  conv=>lhs;rw [cut_list hj e]
  rw [List.append_assoc,List.cons_append,List.append_assoc]
  exact List.perm_middle
 ·refine (h2 _).trans ?_
  have hs:(ents b i).set j q'=(ents b i).take j++q'::(ents b i).drop (j+1):=by rw [List.set_eq_take_append_cons_drop,if_pos hj]
  rw [hs,List.append_assoc,List.cons_append,List.append_assoc]
  exact List.perm_middle
theorem Iv.del {num:Bool→Nat}{ents:Bool→Nat→List NU}{next many:Nat}{T:List NU}{b:Bool}{i j:Nat}{y:Nm}{x:Int}(h:Iv num ents next many)(hP:(flat num ents).Perm T)(hi:i<num b)(hj:j<(ents b i).length)(e:(ents b i)[j]=(y,x)):
  Iv num (up2 ents b i ((ents b i).take j++(ents b i).drop (j+1))) next (strike y T).length∧(flat num (up2 ents b i ((ents b i).take j++(ents b i).drop (j+1)))).Perm (strike y T)∧(strike y T).length+1=T.length:=by
 obtain ⟨M,h1,h2,_⟩:=flat_entry hi hj e
 have hs:=strike_apart (hP.symm.trans h1) (apart_perm hP.symm h.apart)
 have hf:=h2.trans hs.symm
 have hmem:∀ b' i',i'<num b'→∀ q∈up2 ents b i ((ents b i).take j++(ents b i).drop (j+1)) b' i',q∈ents b' i':=by
  intro b' i' hi' q hq
  by_cases e2:b'=b∧i'=i
  ·obtain ⟨rfl,rfl⟩:=e2
   rw [up2_same] at hq
   rcases List.mem_append.1 hq with hm | hm
   ·exact List.mem_of_mem_take hm
   ·exact List.mem_of_mem_drop hm
  ·rwa [up2_other e2] at hq
 refine ⟨⟨fun b' i' hi' q hq=>h.home b' i' hi' q (hmem b' i' hi' q hq),fun b' i' hi' q hq=>h.ok b' i' hi' q (hmem b' i' hi' q hq),?_,h.nx,fun i' hi'=>?_,by rw [hf.length_eq]⟩,hf,?_⟩
 ·have ha:=apart_perm h1.symm h.apart
  exact apart_perm h2 (List.pairwise_cons.1 ha).2
 ·have h0:=h.done i' hi'
  by_cases e2:true=b∧i'=i
  ·obtain ⟨rfl,rfl⟩:=e2
   rw [h0] at hj;simp at hj
  ·rw [up2_other e2];exact h0
 ·rw [hs.length_eq,← hP.length_eq,h1.length_eq]
  rfl
theorem Iv.set {num:Bool→Nat}{ents:Bool→Nat→List NU}{next many:Nat}{T:List NU}{b:Bool}{i j:Nat}{y:Nm}{x:Int}(h:Iv num ents next many)(hP:(flat num ents).Perm T)(hi:i<num b)(hj:j<(ents b i).length)(e:(ents b i)[j]=(y,x))(x':Int):
  Iv num (up2 ents b i ((ents b i).set j (y,x'))) next ((y,x')::strike y T).length∧(flat num (up2 ents b i ((ents b i).set j (y,x')))).Perm ((y,x')::strike y T)∧((y,x')::strike y T).length=T.length:=by
 obtain ⟨M,h1,_,h2⟩:=flat_entry hi hj e
 have hs:=strike_apart (hP.symm.trans h1) (apart_perm hP.symm h.apart)
 have hf:=(h2 (y,x')).trans (hs.symm.cons _)
 have hmem:∀ b' i',i'<num b'→∀ q∈up2 ents b i ((ents b i).set j (y,x')) b' i',∃ q'∈ents b' i',q'.1=q.1:=by
  intro b' i' hi' q hq
  by_cases e2:b'=b∧i'=i
  ·obtain ⟨rfl,rfl⟩:=e2
   rw [up2_same] at hq
   rcases List.mem_or_eq_of_mem_set hq with hm | hm
   ·exact ⟨q,hm,rfl⟩
   ·exact ⟨(y,x),by rw [← e];exact List.getElem_mem hj,by rw [hm]⟩
  ·rw [up2_other e2] at hq
   exact ⟨q,hq,rfl⟩
 refine ⟨⟨fun b' i' hi' q hq=>?_,fun b' i' hi' q hq=>?_,?_,h.nx,fun i' hi'=>?_,by rw [hf.length_eq]⟩,hf,?_⟩
 ·obtain ⟨q',hm,e3⟩:=hmem b' i' hi' q hq
  rw [← e3];exact h.home b' i' hi' q' hm
 ·obtain ⟨q',hm,e3⟩:=hmem b' i' hi' q hq
  rw [← e3];exact h.ok b' i' hi' q' hm
 ·have ha:=apart_perm h1.symm h.apart
  obtain ⟨a1,a2⟩:=List.pairwise_cons.1 ha
  exact apart_perm (h2 _) (List.pairwise_cons.2 ⟨a1,a2⟩)
 ·have h0:=h.done i' hi'
  by_cases e2:true=b∧i'=i
  ·obtain ⟨rfl,rfl⟩:=e2
   rw [h0] at hj;simp at hj
  ·rw [up2_other e2];exact h0
 ·rw [List.length_cons,hs.length_eq,← hP.length_eq,h1.length_eq]
  rfl
theorem Iv.add {num:Bool→Nat}{ents:Bool→Nat→List NU}{next many:Nat}{T:List NU}{y:Nm}(h:Iv num ents next many)(hp:1≤num false)(hP:(flat num ents).Perm T)(hy:y.ok)(hno:∀ q∈T,q.1≠y)(x:Int):
  Iv num (up2 ents false (rix y (num false)) (ents false (rix y (num false))++[(y,x)])) next ((y,x)::strike y T).length∧(flat num (up2 ents false (rix y (num false)) (ents false (rix y (num false))++[(y,x)]))).Perm ((y,x)::strike y T)∧((y,x)::strike y T).length=T.length+1:=by
 have hf0:=standAll_flat num hp [(y,x)] ents
 have hf:(flat num (up2 ents false (rix y (num false)) (ents false (rix y (num false))++[(y,x)]))).Perm ((y,x)::strike y T):=by
  rw [strike_none hno]
  exact hf0.trans ((List.perm_append_singleton _ _).trans (hP.cons _))
 have hh:=standAll_home num [(y,x)] ents (fun b i hi q hq=>⟨h.home b i hi q hq,h.ok b i hi q hq⟩) (fun z hz=>by rw [List.mem_singleton.1 hz];exact hy)
 refine ⟨⟨fun b i hi q hq=>(hh b i hi q hq).1,fun b i hi q hq=>(hh b i hi q hq).2,?_,h.nx,fun i hi=>?_,by rw [hf.length_eq]⟩,hf,by rw [List.length_cons,strike_none hno]⟩
 ·refine apart_perm hf (List.pairwise_cons.2 ⟨fun q hq=>?_,?_⟩)
  ·rw [strike_none hno] at hq
   exact (hno q hq).symm
  ·rw [strike_none hno]
   exact apart_perm hP.symm h.apart
 ·rw [up2_other (by simp)]
  exact h.done i hi
set_option maxHeartbeats 1000000 in
theorem del_ok (w:World)(base p:Nat)(T:List NU)(moved0 C:Nat)(F:Nat→Prop)(h:TB w base p T moved0 C F)(hC:T.length≤C)(hC2:C≤200000)(y:Nm)(hy:y.ok):
  Calls Tryz.prog 158 #[.pointer (some ⟨p,0,none⟩),.agg #[.int .i64 y.tenant,.string y.key]] w fun e w'=>e=.returned (.tuple #[.bool (lk T y).isSome,.int .i64 0])∧∃ T',T'=strike y T∧Same w base p T' C F w':=by
 have HT:=Hid.m h
 have HBG:=Hid.m (fun W (hb:Below w.heap.size w W)=>begin_ok W base p T moved0 C F (h.below hb) hC hC2 y hy)
 have HY:=Hid.m hy
 clear h hy
 go_enter Tryz.func158,Tryz.ntmps158
 go_upto_region 1 with (fail)
 obtain ⟨w0,hw0⟩:∃ w0,w0=w.alloc (Obj.cells #[.int .i64 y.tenant,.string y.key] 119):=⟨_,rfl⟩
 rw [← hw0]
 have HB0:Hid (Below w.heap.size w w0):=by rw [hw0];exact (Below.refl _ _).alloc (Nat.le_refl _) _
 have a0:w0.cell? ⟨w.heap.size,0,none⟩=some (.int .i64 y.tenant):=by rw [hw0];simp
 have a1:w0.cell? ⟨w.heap.size,1,none⟩=some (.string y.key):=by rw [hw0];simp
 have y0:w.heap.size<w0.heap.size:=by rw [hw0];simp
 clear hw0
 go_upto_region 4 with (go_at_call 152;refine (HBG.out _ HB0.out).mono ?_;rintro e w1 ⟨rfl,moved,F',hm,hT1,hK1,hF1⟩;have hbk:=hK1.block w.heap.size y0 (fun hf=>by have:=(HT.out.lt hf).2;omega);have b0:=(World.cell?_of_block (a:=⟨w.heap.size,0,none⟩) hbk).trans a0;have b1:=(World.cell?_of_block (a:=⟨w.heap.size,1,none⟩) hbk).trans a1;have HT1:=Hid.m hT1;have HK1:=Hid.m hK1;have HF1:=Hid.m hF1;clear hT1 hK1 hF1 hbk)
 clear a0 a1
 have HSM:Hid (∀ W,Below w1.heap.size w1 W→Same w base p T C F W):=fun W hb=>⟨moved,F',hm,HT1.out.below hb,((Kept.below (F:=F) HB0.out).trans HK1.out (fun k hk=>.inl hk)).trans (Kept.below (F:=F) hb) (fun k hk=>.inl hk),fun k hk=>(HF1.out k hk).imp id (fun g=>Nat.le_trans HB0.out.size g)⟩
 have HAP:=Hid.m HT1.out.apart
 have htb:=HT1.out
 obtain ⟨blk,num,val,ents,next,hTm,hI,hP,hN,hFe⟩:=htb
 have HFD:=Hid.m (find_any w1 base p blk num val ents next T.length moved hTm (fun b=>by have:=hN b;omega) y HY.out (fun b i hi=>by have h1:=row_le num ents b hi;have h2:=hP.length_eq;omega))
 have HTm:=Hid.m hTm
 have HI:=Hid.m hI
 have HP:=Hid.m hP
 have HNB:=Hid.m hN
 have HFE:=Hid.m hFe
 clear hTm hI hP hN hFe
 go_upto_region 5 with (go_at_call 153;refine HFD.out.mono ?_;rintro e w2 ⟨⟨b,k,rfl,hlt,hk,hf,ht⟩,hb2⟩;have HB2:=Hid.m hb2;have HKK:=Hid.m hk;have HKF:=Hid.m hf;have HKT:=Hid.m ht;clear hb2 hk hf ht)
 have hfc:=found_cases HI.out HP.out hlt HKK.out HKF.out HKT.out
 clear HKK HKF HKT HFD
 rcases hfc with ⟨rfl,hno⟩ | ⟨j,x,rfl,hj,hjx,hmx⟩
 ·have HV:Hid (lk T y=none):=lk_none hno
  have HSK:Hid (strike y T=T):=strike_none hno
  clear hno
  go_wp2
  go_ret2
  exact ⟨by rw [HV.out];rfl,T,HSK.out.symm,HSM.out _ HB2.out⟩
 ·have HV:Hid (lk T y=some x):=lk_mem HAP.out hmx
  clear hmx
  have HTm2:=Hid.m (HTm.out.below HB2.out)
  obtain ⟨ix,hix⟩:∃ ix,ix=rix y (num b):=⟨_,rfl⟩
  rw [← hix] at hlt ⊢
  have hj':j<(ents b ix).length:=by rw [hix];exact hj
  have hjx':(ents b ix)[j]=(y,x):=by subst hix;exact hjx
  clear hj hjx hix
  have c0:=HTm2.out.cell b ix hlt
  rcases (HTm2.out.own b ix hlt).row with ⟨e1,e2⟩ | ⟨g,cap,e1,h1,h2,h3⟩
  ·rw [e2] at hj';simp at hj'
  rw [e1] at c0
  have HOW:=HTm2.out.own b ix hlt
  rw [e1] at HOW
  have HDE:=Hid.m (delete_any w2 base _ (ents b ix) HOW j (j+1) (by omega) (by omega))
  have HPU:=Hid.m (HI.out.del HP.out hlt hj' hjx')
  have HE1:=Hid.m e1
  have hj3:¬ (j:Int)<0:=by omega
  have hjb:j<400000:=by have h1:=row_le num ents b hlt;have h2:=HP.out.length_eq;omega
  have HBK:=Hid.m (HTm2.out.pblk b (by omega))
  have ff:=HTm2.out.free b (by omega) ix
  obtain ⟨LL,hLL⟩:∃ LL,LL=(ents b ix).take j++(ents b ix).drop (j+1):=⟨_,rfl⟩
  rw [← hLL] at HDE HPU
  have ej:((j:Int)+1)=((j+1:Nat):Int):=by omega
  rw [← ej] at HDE
  clear e1 h1 h2 h3 hLL HOW ej hjx'
  go_upto_region 8 with (go_at_call 217;refine HDE.out.mono ?_;rintro e w3 ⟨ro,rcp,rfl,hO3,hg3,hb3⟩;have HG3:Hid (w2.grownBy w3 (val b ix).ownBlock):=(by rw [HE1.out];exact hg3);have hbk3:w3.heap[blk b]? = w2.heap[blk b]?:=HG3.out.block _ HBK.out.2.2 (fun e=>(HTm2.out.far b ix _ hlt e.symm).2 b (by omega) rfl);have d0:=(World.cell?_of_block (a:=⟨blk b,ix,none⟩) hbk3).trans c0;have df:=(World.frozen?_of_block (a:=⟨blk b,ix,none⟩) hbk3).trans ff;have HO3:=Hid.m hO3;have HB3:=Hid.m hb3;clear hO3 hg3 hb3 hbk3)
  have hlv:∀ g,(Value.slice ro LL.length rcp).ownBlock=some g→(val b ix).ownBlock=some g∨w2.heap.size≤g:=fun g hg=>.inl (by rw [HE1.out,← HB3.out];exact hg)
  obtain ⟨w4,hw4⟩:∃ x,x=w3.setCell ⟨blk b,ix,none⟩ (.slice ro LL.length rcp):=⟨_,rfl⟩
  rw [← hw4]
  have HT4:Hid (Tm w4 base p blk num (up2 val b ix (.slice ro LL.length rcp)) (up2 ents b ix LL) next T.length moved):=by rw [hw4];exact HTm2.out.slotSet hlt HG3.out _ _ HO3.out hlv
  have HK4:Hid (Kept (Ft p blk num val) w2 w4):=by
   rw [hw4]
   exact (Kept.grown (F:=Ft p blk num val) HG3.out (fun k hk=>.inl (.inr (.inr ⟨b,ix,hlt,hk⟩)))).trans (Kept.set (F:=Ft p blk num val) w3 (.inr (.inl ⟨b,by omega,rfl⟩)) ix _) (fun k hk=>.inl hk)
  have HF4:=Hid.m (Ft.slot (w:=w2) (p:=p) (blk:=blk) hlt hlv)
  clear hw4 d0 df c0 ff hlv
  have m4:=HT4.out.manyc
  have mf:=HT4.out.pfree 4
  have hTl:1≤T.length:=by have:=HPU.out.2.2;omega
  go_wp2
  go_ret2
  refine ⟨by rw [HV.out];rfl,strike y T,rfl,moved,Ft p blk num (up2 val b ix (.slice ro LL.length rcp)),hm,⟨blk,num,_,up2 ents b ix LL,next,?_,HPU.out.1,HPU.out.2.1,HNB.out,rfl⟩,?_,?_⟩
  ·have h5:=HT4.out.setMany (strike y T).length
   have e5:(((strike y T).length:Nat):Int)=(T.length:Int) - 1:=by have:=HPU.out.2.2;omega
   rw [e5] at h5
   exact h5
  ·have k5:=HK4.out.trans (Kept.set (F:=Ft p blk num val) w4 (.inl rfl) 4 (.int .i64 ((T.length:Int) - 1))) (fun k hk=>.inl hk)
   exact (((Kept.below (F:=F) HB0.out).trans HK1.out (fun k hk=>.inl hk)).trans (Kept.below (F:=F) HB2.out) (fun k hk=>.inl hk)).trans k5 (fun k hk=>(HF1.out k (by rw [HFE.out];exact hk)).imp id (fun g=>Nat.le_trans HB0.out.size g))
  ·intro k hk
   rcases HF4.out k hk with g | g
   ·exact (HF1.out k (by rw [HFE.out];exact g)).imp id (fun g=>Nat.le_trans HB0.out.size g)
   ·exact .inr (Nat.le_trans HB0.out.size (Nat.le_trans HK1.out.size (Nat.le_trans HB2.out.size g)))
end Go.Proofs.YtcdpiefflnaghaaGreatDoor.Tb
namespace Go.Proofs.YtcdpiefflnaghaaGreatDoor.Tb
open Go.Proofs.YtcdpiefflnaghaaGreatDoor.Me
open Go.RowKit
theorem OwnR.setNum {w:World}{base g cap:Nat}{L:List NU}(h:OwnR w base (.slice (some ⟨g,0,none⟩) L.length cap) L){j:Nat}(hj:j<L.length){y:Nm}{x:Int}(e:L[j]=(y,x))(x':Int):
  OwnR (w.setCell ⟨g,j * 3+2,none⟩ (.int .i64 x')) base (.slice (some ⟨g,0,none⟩) L.length cap) (L.set j (y,x')):=by
 obtain ⟨cur,hb,hg,hsz,hn,hm,hcl⟩:=h.parts
 have h1:=heap_set (o:=j * 3+2) (v:=.int .i64 x') hg
 have hl:(L.set j (y,x')).length=L.length:=by simp
 rw [← hl]
 refine OwnR.mk' hb h1 (by simp [hsz]) (by rw [hl];exact hn) hm ?_
 intro k u hu
 have hk:k<L.length * 3:=by have:=(List.getElem?_eq_some_iff.1 hu).1;rw [flatT_len,hl] at this;exact this
 have hi:k / 3<L.length:=by omega
 have hi2:k / 3<(L.set j (y,x')).length:=by rw [hl];exact hi
 have h2:=flatT_get (L.set j (y,x')) (k / 3) (k % 3) hi2 (by omega)
 have h3:=flatT_get L (k / 3) (k % 3) hi (by omega)
 rw [show k / 3 * 3+k % 3=k by omega] at h2 h3
 have h4:=hcl k _ h3
 rw [h2] at hu
 by_cases e2:k=j * 3+2
 ·subst e2
  have hu2:u=.int .i64 x':=by
   have e3:(j * 3+2) / 3=j:=by omega
   have e4:(j * 3+2) % 3=2:=by omega
   have hu3:=Option.some.inj hu
   simp only [e3,e4,List.getElem_set_self] at hu3
   rw [← hu3]
   rfl
  rw [hu2]
  exact World.cell?_setCell_same _ _ _ h4
 ·rw [World.cell?_setCell_other _ _ _ _ (by first | (simp;done) | (simp;omega)),h4]
  rw [← hu]
  by_cases e5:k / 3=j
  ·have e6:k % 3=0∨k % 3=1:=by omega
   have hu3:(L.set j (y,x'))[k / 3]=(y,x'):=by simp [e5]
   have hu4:L[k / 3]=(y,x):=by rw [← e];simp [e5]
   simp only [hu3,hu4]
   rcases e6 with e6 | e6
   ·simp only [e6];rfl
   ·simp only [e6];rfl
  ·have hu3:(L.set j (y,x'))[k / 3]=L[k / 3]:=List.getElem_set_ne (fun e=>e5 e.symm) _
   simp only [hu3]
set_option maxHeartbeats 1000000 in
theorem put_ok (w:World)(base p:Nat)(T:List NU)(moved0 C:Nat)(F:Nat→Prop)(h:TB w base p T moved0 C F)(hC:T.length<C)(hC2:C≤200000)(y:Nm)(hy:y.ok)(x':Int):
  Calls Tryz.prog 173 #[.pointer (some ⟨p,0,none⟩),.agg #[.int .i64 y.tenant,.string y.key],.int .i64 x'] w fun e w'=>e=.returned (.int .i64 0)∧∃ T',T'=(y,x')::strike y T∧Same w base p T' C F w':=by
 have HT:=Hid.m h
 have HBG:=Hid.m (fun W (hb:Below w.heap.size w W)=>begin_ok W base p T moved0 C F (h.below hb) (Nat.le_of_lt hC) hC2 y hy)
 have HY:=Hid.m hy
 clear h hy
 go_enter Tryz.func173,Tryz.ntmps173
 go_upto_region 1 with (fail)
 obtain ⟨w0,hw0⟩:∃ w0,w0=w.alloc (Obj.cells #[.int .i64 y.tenant,.string y.key] 119):=⟨_,rfl⟩
 rw [← hw0]
 have HB0:Hid (Below w.heap.size w w0):=by rw [hw0];exact (Below.refl _ _).alloc (Nat.le_refl _) _
 have a0:w0.cell? ⟨w.heap.size,0,none⟩=some (.int .i64 y.tenant):=by rw [hw0];simp
 have a1:w0.cell? ⟨w.heap.size,1,none⟩=some (.string y.key):=by rw [hw0];simp
 have y0:w.heap.size<w0.heap.size:=by rw [hw0];simp
 have z0:w0.frozen? ⟨w.heap.size,1,none⟩=false:=by rw [hw0];simp
 clear hw0
 go_upto_region 4 with (go_at_call 152;refine (HBG.out _ HB0.out).mono ?_;rintro e w1 ⟨rfl,moved,F',hm,hT1,hK1,hF1⟩;have hbk:=hK1.block w.heap.size y0 (fun hf=>by have:=(HT.out.lt hf).2;omega);have b0:=(World.cell?_of_block (a:=⟨w.heap.size,0,none⟩) hbk).trans a0;have b1:=(World.cell?_of_block (a:=⟨w.heap.size,1,none⟩) hbk).trans a1;have z1:=(World.frozen?_of_block (a:=⟨w.heap.size,1,none⟩) hbk).trans z0;have y1:w.heap.size<w1.heap.size:=Nat.lt_of_lt_of_le y0 hK1.size;have HT1:=Hid.m hT1;have HK1:=Hid.m hK1;have HF1:=Hid.m hF1;clear hT1 hK1 hF1 hbk)
 clear a0 a1 z0
 have HSM:Hid (∀ W,Below w1.heap.size w1 W→Same w base p T C F W):=fun W hb=>⟨moved,F',hm,HT1.out.below hb,((Kept.below (F:=F) HB0.out).trans HK1.out (fun k hk=>.inl hk)).trans (Kept.below (F:=F) hb) (fun k hk=>.inl hk),fun k hk=>(HF1.out k hk).imp id (fun g=>Nat.le_trans HB0.out.size g)⟩
 have HAP:=Hid.m HT1.out.apart
 have htb:=HT1.out
 obtain ⟨blk,num,val,ents,next,hTm,hI,hP,hN,hFe⟩:=htb
 have HFD:=Hid.m (find_any w1 base p blk num val ents next T.length moved hTm (fun b=>by have:=hN b;omega) y HY.out (fun b i hi=>by have h1:=row_le num ents b hi;have h2:=hP.length_eq;omega))
 have HTm:=Hid.m hTm
 have HI:=Hid.m hI
 have HP:=Hid.m hP
 have HNB:=Hid.m hN
 have HFE:=Hid.m hFe
 clear hTm hI hP hN hFe
 go_upto_region 5 with (go_at_call 153;refine HFD.out.mono ?_;rintro e w2 ⟨⟨b,k,rfl,hlt,hk,hf,ht⟩,hb2⟩;have HB2:=Hid.m hb2;have HKK:=Hid.m hk;have HKF:=Hid.m hf;have HKT:=Hid.m ht;clear hb2 hk hf ht)
 have hfc:=found_cases HI.out HP.out hlt HKK.out HKF.out HKT.out
 rcases hfc with ⟨rfl,hno⟩ | ⟨j,x,rfl,hj,hjx,hmx⟩
 ·have HPU:=Hid.m (HI.out.add HTm.out.pos HP.out HY.out hno x')
  have hks:y.key.size≤281474976710656:=by have:=HY.out.2.2.2;omega
  have HCL:=Hid.m (clone_any y.key w2 hks)
  have d0:=(bcl HB2.out _ 0 y1).trans b0
  have d1:=(bcl HB2.out _ 1 y1).trans b1
  have z2:=(bfr HB2.out _ 1 y1).trans z1
  have y2:w.heap.size<w2.heap.size:=Nat.lt_of_lt_of_le y1 HB2.out.size
  clear HKK HKF HKT HFD hno hks b0 b1 z1
  go_upto_region 9 with (go_at_call 171;refine HCL.out.mono ?_;rintro e w3 ⟨rfl,hb3⟩;have HB3:=Hid.m hb3;have q0:=(bcl hb3 _ 0 y2).trans d0;have q1:=(bcl hb3 _ 1 y2).trans d1;have q2:=(bfr hb3 _ 1 y2).trans z2;clear hb3)
  have y3:w.heap.size<w3.heap.size:=Nat.lt_of_lt_of_le y2 HB3.out.size
  obtain ⟨w4,hw4⟩:∃ x,x=w3.setCell ⟨w.heap.size,1,none⟩ (.string y.key):=⟨_,rfl⟩
  rw [← hw4]
  have r0:w4.cell? ⟨w.heap.size,0,none⟩=some (.int .i64 y.tenant):=by rw [hw4,World.cell?_setCell_other _ _ _ _ (by simp)];exact q0
  have r1:w4.cell? ⟨w.heap.size,1,none⟩=some (.string y.key):=by rw [hw4];exact World.cell?_setCell_same _ _ _ q1
  have HK34:Hid (Kept (fun k=>k=w.heap.size) w3 w4):=by rw [hw4];exact Kept.set (F:=fun k=>k=w.heap.size) w3 rfl 1 _
  clear hw4 d0 d1 q0 q1 q2 z2
  have HNF:Hid (∀ k,Ft p blk num val k→k≠w.heap.size):=fun k hk e=>by
   have h1:=HF1.out k (by rw [HFE.out];exact hk)
   rcases h1 with g | g
   ·have:=(HT.out.lt g).2;omega
   ·omega
  have HTm4:Hid (Tm w4 base p blk num val ents next T.length moved):=((HTm.out.below HB2.out).below HB3.out).kept HK34.out (fun k hk e=>HNF.out k hk e)
  have HST:=Hid.m (stand_any w4 base p blk num val ents next T.length moved HTm4.out (by have:=HNB.out false;omega) (y,x') HY.out (by have h1:=row_le num ents false (rix_lt y HTm.out.pos);have h2:=HP.out.length_eq;show (ents false (rix y (num false))).length+1≤1000000;omega))
  go_upto_region 10 with (go_at_call 239;refine HST.out.mono ?_;rintro e w5 ⟨rfl,v,hT5,hK5,hF5⟩;have HT5:=Hid.m hT5;have HK5:=Hid.m hK5;have HF5:=Hid.m hF5;clear hT5 hK5 hF5)
  have m4:=HT5.out.manyc
  have mf:=HT5.out.pfree 4
  have hTb:T.length<200000:=by omega
  clear r0 r1 HST HCL
  go_wp2
  go_ret
  refine ⟨rfl,_,rfl,moved,Ft p blk num (up2 val false (rix y (num false)) v),hm,⟨blk,num,up2 val false (rix y (num false)) v,_,next,?_,HPU.out.1,HPU.out.2.1,HNB.out,rfl⟩,?_,?_⟩
  ·have h5:=HT5.out.setMany ((y,x')::strike y T).length
   have e5:((((y,x')::strike y T).length:Nat):Int)=(T.length:Int)+1:=by have:=HPU.out.2.2;omega
   rw [e5] at h5
   rw [HPU.out.2.2] at h5 ⊢
   exact h5
  ·have k0:=((Kept.below (F:=F) HB0.out).trans HK1.out (fun k hk=>.inl hk)).trans (Kept.below (F:=F) (HB2.out.trans (HB3.out.mono HB2.out.size))) (fun k hk=>.inl hk)
   have k1:=k0.trans HK34.out (fun k hk=>.inr (by omega))
   have k2:=k1.trans HK5.out (fun k hk=>(HF1.out k (by rw [HFE.out];exact hk)).imp id (fun g=>Nat.le_trans HB0.out.size g))
   exact k2.trans (Kept.set (F:=Ft p blk num val) w5 (.inl rfl) 4 _) (fun k hk=>(HF1.out k (by rw [HFE.out];exact hk)).imp id (fun g=>Nat.le_trans HB0.out.size g))
  ·intro k hk
   rcases HF5.out k hk with g | g
   ·exact (HF1.out k (by rw [HFE.out];exact g)).imp id (fun g=>Nat.le_trans HB0.out.size g)
   ·exact .inr (Nat.le_trans (Nat.le_of_lt y3) (Nat.le_trans HK34.out.size g))
 ·clear HKK HKF HKT HFD hmx b0 b1 z1
  have HTm2:=Hid.m (HTm.out.below HB2.out)
  obtain ⟨ix,hix⟩:∃ ix,ix=rix y (num b):=⟨_,rfl⟩
  rw [← hix] at hlt ⊢
  have hj':j<(ents b ix).length:=by rw [hix];exact hj
  have hjx':(ents b ix)[j]=(y,x):=by subst hix;exact hjx
  clear hj hjx hix
  have c0:=HTm2.out.cell b ix hlt
  rcases (HTm2.out.own b ix hlt).row with ⟨e1,e2⟩ | ⟨g,cap,e1,h1,h2,h3⟩
  ·rw [e2] at hj';simp at hj'
  rw [e1] at c0
  have HOW:=HTm2.out.own b ix hlt
  rw [e1] at HOW
  have HSN:=Hid.m (HOW.setNum hj' hjx' x')
  have HPU:=Hid.m (HI.out.set HP.out hlt hj' hjx' x')
  have HE1:=Hid.m e1
  obtain ⟨cur,-,hgh,hsz,-,-,-⟩:=HOW.parts
  have ff:=frozen_of_heap hgh (j * 3+2)
  rcases h3 with e3 | ⟨g',off,e3,hgl,hcs⟩
  ·rw [e3] at hj';simp at hj'
  cases e3
  obtain ⟨-,-,c2⟩:=hcs j hj'
  rw [Nat.zero_add] at c2
  have hj2:(j:Int)<((ents b ix).length:Int):=by omega
  have hj3:(0:Int)≤(j:Int):=by omega
  have hj4:decide ((0:Int)≤(j:Int))=true:=by simp
  clear hcs hjx' e1 hgh hsz HOW h1 h2
  go_wp2
  go_ret
  have hg3:w2.grownBy (w2.setCell ⟨g,j * 3+2,none⟩ (.int .i64 x')) (val b ix).ownBlock:=by
   rw [HE1.out]
   exact ⟨rfl,rfl,rfl,by simp,fun k hk hne=>Below.heap_setCell w2 ⟨g,j * 3+2,none⟩ _ k (fun e=>hne (by rw [show k=g from e];rfl))⟩
  refine ⟨rfl,_,rfl,moved,Ft p blk num val,hm,⟨blk,num,val,_,next,?_,HPU.out.1,HPU.out.2.1,HNB.out,rfl⟩,?_,?_⟩
  ·rw [HPU.out.2.2]
   exact HTm2.out.slotIn hlt hg3 _ (by rw [HE1.out];exact HSN.out)
  ·have k5:=Kept.grown (F:=Ft p blk num val) hg3 (fun k hk=>.inl (.inr (.inr ⟨b,ix,hlt,hk⟩)))
   exact (((Kept.below (F:=F) HB0.out).trans HK1.out (fun k hk=>.inl hk)).trans (Kept.below (F:=F) HB2.out) (fun k hk=>.inl hk)).trans k5 (fun k hk=>(HF1.out k (by rw [HFE.out];exact hk)).imp id (fun g=>Nat.le_trans HB0.out.size g))
  ·intro k hk
   exact (HF1.out k (by rw [HFE.out];exact hk)).imp id (fun g=>Nat.le_trans HB0.out.size g)
end Go.Proofs.YtcdpiefflnaghaaGreatDoor.Tb
