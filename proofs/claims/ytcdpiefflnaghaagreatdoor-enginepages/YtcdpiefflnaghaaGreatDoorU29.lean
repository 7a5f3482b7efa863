/-
  Package engine and what stands beneath it, part 29: contracts of functions, and what they rest on.
-/
import Derived.Test.YtcdpiefflnaghaaGreatDoorU28
set_option linter.unusedSimpArgs false
set_option linter.unusedVariables false
set_option maxRecDepth 100000
namespace Go.Proofs.YtcdpiefflnaghaaGreatDoor.Lr
open Go.RowKit Go.Shelf Go.Lib Go.Sort
structure Lv (w0 w:World)(base b:Nat)(aT:Option Addr)(cT:Nat)(aK:Option Addr)(cK:Nat)(T K:List ByteArray):Prop where
 ob:OB w b (.slice aT T.length cT) (.slice aK K.length cK)
 rs:OB w (b+1) (.slice none 0 0) (.slice none 0 0)
 rw_:Rw w base aT cT aK cK T K
 ft:∀ g,(Value.slice aT T.length cT).ownBlock=some g→g≠b∧g≠b+1
 fk:∀ g,(Value.slice aK K.length cK).ownBlock=some g→g≠b∧g≠b+1
 be:Below base w0 w
 bb:base≤b
theorem Lv.below {w0 w w':World}{base b:Nat}{aT:Option Addr}{cT:Nat}{aK:Option Addr}{cK:Nat}{T K:List ByteArray}(h:Lv w0 w base b aT cT aK cK T K)(hb:Below w.heap.size w w'):Lv w0 w' base b aT cT aK cK T K:=
 ⟨h.ob.below hb,h.rs.below hb,h.rw_.below hb,h.ft,h.fk,h.be.trans (hb.mono (by have:=h.bb;have:=h.ob.lt;omega)),h.bb⟩
theorem Lv.ins {w0 w w':World}{base b:Nat}{aT:Option Addr}{cT:Nat}{aK:Option Addr}{cK:Nat}{T T' K:List ByteArray}{a':Option Addr}{c':Nat}(h:Lv w0 w base b aT cT aK cK T K)
  (hO:OwnTs w' base (.slice a' T'.length c') T') (hG:Grew w w' (.slice aT T.length cT) (.slice a' T'.length c')):Lv w0 (w'.setCell ⟨b,0,none⟩ (.slice a' T'.length c')) base b a' c' aK cK T' K:=by
 have hlt:=h.ob.lt
 have hlr:=h.rs.lt
 have ft':∀ g,(Value.slice a' T'.length c').ownBlock=some g→g≠b∧g≠b+1:=fun g hg=>by
  rcases hG.lies g hg with e | e
  ·exact h.ft g e
  ·omega
 have o1:OB w' b (.slice aT T.length cT) (.slice aK K.length cK):=h.ob.grown hG.grown (fun e=>(h.ft b e).1 rfl)
 have o2:OB w' (b+1) (.slice none 0 0) (.slice none 0 0):=h.rs.grown hG.grown (fun e=>(h.ft (b+1) e).2 rfl)
 have k1:OwnTs w' base (.slice aK K.length cK) K:=h.rw_.k.grown hG.grown (fun g hg e=>h.rw_.ap g e hg)
 refine ⟨o1.set0 _,o2.other _ _ (by show b≠b+1;omega),?_,ft',h.fk,?_,h.bb⟩
 ·refine (Rw.mk hO k1 (fun g hg e=>?_)).set _ _ (fun g hg=>?_)
  ·rcases hG.lies g hg with e2 | e2
   ·exact h.rw_.ap g e2 e
   ·have:=(h.rw_.k.lt g e).2
    omega
  ·rcases hg with hg | hg
   ·exact (ft' g hg).1
   ·exact (h.fk g hg).1
 ·exact (h.be.grown hG.grown (by have:=h.bb;have:=h.ob.lt;omega) (fun g hg=>(h.rw_.t.lt g hg).1)).setCell h.bb _
theorem Lv.del {w0 w w':World}{base b:Nat}{aT:Option Addr}{cT:Nat}{aK:Option Addr}{cK:Nat}{T K K':List ByteArray}{a':Option Addr}{c':Nat}(h:Lv w0 w base b aT cT aK cK T K)
  (hO:OwnTs w' base (.slice a' K'.length c') K') (hG:w.grownBy w' (Value.slice aK K.length cK).ownBlock) (he:(Value.slice a' K'.length c').ownBlock=(Value.slice aK K.length cK).ownBlock):Lv w0 (w'.setCell ⟨b,1,none⟩ (.slice a' K'.length c')) base b aT cT a' c' T K':=by
 have o1:OB w' b (.slice aT T.length cT) (.slice aK K.length cK):=h.ob.grown hG (fun e=>(h.fk b e).1 rfl)
 have o2:OB w' (b+1) (.slice none 0 0) (.slice none 0 0):=h.rs.grown hG (fun e=>(h.fk (b+1) e).2 rfl)
 have t1:OwnTs w' base (.slice aT T.length cT) T:=h.rw_.t.grown hG (fun g hg e=>h.rw_.ap g hg e)
 refine ⟨o1.set1 _,o2.other _ _ (by show b≠b+1;omega),?_,h.ft,fun g hg=>h.fk g (he ▸ hg),?_,h.bb⟩
 ·refine (Rw.mk t1 hO (fun g hg e=>h.rw_.ap g hg (he ▸ e))).set _ _ (fun g hg=>?_)
  rcases hg with hg | hg
  ·exact (h.ft g hg).1
  ·exact (h.fk g (he ▸ hg)).1
 ·exact (h.be.grown hG (by have:=h.bb;have:=h.ob.lt;omega) (fun g hg=>(h.rw_.k.lt g hg).1)).setCell h.bb _
theorem Grew.drew {w w':World}{v v':Value}(h:Grew w.drew w' v v'):Grew w w' v v':=
 ⟨⟨h.grown.os,h.grown.tape,h.grown.output,h.grown.size,h.grown.block⟩,h.lies⟩
set_option maxHeartbeats 2000000 in
theorem levelled_any (T K:List ByteArray)(aT aK:Option Addr)(cT cK:Nat)(base:Nat)(w:World)(h:Rw w base aT cT aK cK T K)(hbase:base≤w.heap.size)(hT:T.length≤300)(hK:K.length≤300):
  Calls Tryz.prog 213 #[.agg #[.slice aT T.length cT,.slice aK K.length cK]] w fun e w'=>∃ aT' cT' aK' cK',e=.returned (.agg #[.slice aT' (lvT T K).length cT',.slice aK' (lvK T K).length cK'])∧Rw w' base aT' cT' aK' cK' (lvT T K) (lvK T K)∧Below base w w':=by
 have mixed:=Tryz.layInsert.mixed
 obtain ⟨w2,hw2⟩:∃ w2,w2=(w.alloc (Obj.cells #[.slice aT T.length cT,.slice aK K.length cK] 108)).alloc (Obj.cells #[.slice none 0 0,.slice none 0 0] 108):=⟨_,rfl⟩
 have HV0:Hid (Lv w w2 base w.heap.size aT cT aK cK T K):=by
  have hb:Below w.heap.size w w2:=by rw [hw2];exact ((Below.refl _ _).alloc (Nat.le_refl _) _).alloc (by simp) _
  have hA:OB w2 w.heap.size (.slice aT T.length cT) (.slice aK K.length cK):=by rw [hw2];exact (OB.made _ _ _).alloc _
  have hR:OB w2 (w.heap.size+1) (.slice none 0 0) (.slice none 0 0):=by
   rw [hw2]
   have:=OB.made (w.alloc (Obj.cells #[.slice aT T.length cT,.slice aK K.length cK] 108)) (.slice none 0 0) (.slice none 0 0)
   rw [show (w.alloc (Obj.cells #[.slice aT T.length cT,.slice aK K.length cK] 108)).heap.size=w.heap.size+1 by simp] at this
   exact this
  exact ⟨hA,hR,h.below hb,fun g hg=>by have:=(h.t.lt g hg).2;omega,fun g hg=>by have:=(h.k.lt g hg).2;omega,hb.mono hbase,hbase⟩
 obtain ⟨B,hB⟩:∃ B,B=w.heap.size:=⟨_,rfl⟩
 have HKL:Hid (K.length≤300∧T.length≤300):=⟨hK,hT⟩
 clear h hT hK
 go_enter Tryz.func213,Tryz.ntmps213
 go_upto_region 1 with (fail)
 rw [← hw2]
 clear hw2
 rw [← hB] at HV0 ⊢
 clear hB hbase
 go_wp2
 go_loopg [3] K.length (fun g s3 wr=>∃ (j:Nat) (aX:Option Addr) (cX:Nat) (aY:Option Addr) (cY:Nat),Hid (j+g=K.length)∧Hid (Lv w wr base B aX cX aY cY (stT T K j) (stK K j))∧Hid (j=0∨(K.length+T.length+1) / 2<K.length - j+1))
 case atStart=>exact ⟨0,aT,cT,aK,cK,by show 0+K.length=_;omega,by rw [(st_zero T K).1,(st_zero T K).2];exact HV0.out,.inl rfl⟩
 case round=>
  obtain ⟨j,aX,cX,aY,cY,HJ,HV,HE⟩:=hrel
  have hjK:Hid (j≤K.length):=by show j≤_;have:=HJ.out;omega
  obtain ⟨X,hX⟩:∃ X,X=stT T K j:=⟨_,rfl⟩
  obtain ⟨Y,hY⟩:∃ Y,Y=stK K j:=⟨_,rfl⟩
  have HXL:Hid (X.length=T.length+j):=by rw [hX];exact stT_len T K j hjK.out
  have HYL:Hid (Y.length=K.length - j):=by rw [hY];exact stK_len K j
  rw [← hX,← hY] at HV
  have HX:=Hid.m hX
  have HY:=Hid.m hY
  clear hX hY
  have hX1:X.length≤1000:=by have:=HXL.out;have:=HKL.out;have:=hjK.out;omega
  have hY1:Y.length≤1000:=by have:=HYL.out;have:=HKL.out;omega
  have hmany:=fun W=>many_grown aX aY X.length cX Y.length cY W hX1 hY1
  have hhalf:=fun W=>half_grown X.length Y.length W hX1 hY1
  obtain ⟨hf,hhf⟩:∃ hf:Nat,hf=(X.length+Y.length+1) / 2:=⟨_,rfl⟩
  rw [← hhf] at hhalf
  have HHF:Hid (hf=(K.length+T.length+1) / 2):=by show hf=_;rw [hhf,HXL.out,HYL.out];have:=hjK.out;congr 2;omega
  clear hhf
  obtain ⟨c0,c1,f0,f1,l0⟩:=HV.out.ob
  have d0:∀ n os,(grow (wr.drewN n) os).cell? ⟨B,0,none⟩=some (.slice aX X.length cX):=cell_grown l0 c0
  have d1:∀ n os,(grow (wr.drewN n) os).cell? ⟨B,1,none⟩=some (.slice aY Y.length cY):=cell_grown l0 c1
  clear c0 c1 f0 f1
  by_cases hlt:hf<Y.length
  ·have g2:(hf:Int)<(Y.length:Int):=by omega
   go_wp2
   go_quiet_grown (first
    | (go_at_call 236;exact Calls.grown_of (hmany _))
    | (go_at_call 261;exact Calls.grown_of (hhalf _)))
   obtain ⟨V,hV⟩:∃ V,V=grow (wr.drewN nq) osq:=⟨_,rfl⟩
   have HVV:Hid (Lv w V base B aX cX aY cY X Y):=by rw [hV];exact HV.out.below (below_grow wr nq osq)
   rw [← hV]
   clear hV d0 d1 hmany hhalf l0
   obtain ⟨m,hm⟩:∃ m,Y.length=m+1:=⟨Y.length - 1,by omega⟩
   have hmY:m<Y.length:=by omega
   have hmI:(m:Int)<(Y.length:Int):=by omega
   have HMY:=Hid.m hm
   have m1:(Y.length:Int) - 1=(m:Int):=by omega
   have m2:IntKind.i64.wrap ((Y.length:Int) - 1)=(m:Int):=by rw [m1];simp [IntKind.wrap,IntKind.bits,IntKind.signed];omega
   obtain ⟨k,hk⟩:∃ k,k=Y[m]:=⟨_,rfl⟩
   obtain ⟨gY,hgY⟩:∃ gY,aY=some ⟨gY,0,none⟩∧V.cell? ⟨gY,m,none⟩=some (.string k)∧gY<V.heap.size:=by
    rcases HVV.out.rw_.k.parts with ⟨e,e2⟩ | ⟨g,cap,cur,e,hb,hg,hs,hn,hmx,hc⟩
    ·rw [e2] at hmY;simp at hmY
    ·cases e
     exact ⟨g,rfl,by rw [hk];exact hc m hmY,(Array.getElem?_eq_some_iff.1 hg).1⟩
   obtain ⟨rfl,hck,hgl⟩:=hgY
   have HKE:=Hid.m hk
   clear hk hm
   obtain ⟨c0,c1,f0,f1,l0⟩:=HVV.out.ob
   go_upto_region 3 with (fail)
   go_cut [] from 15 to 24 (fun wx=>∃ (a':Option Addr) (c':Nat) (X':List ByteArray),Hid (X'=k::X)∧Hid (Lv w wx base B a' c' (some ⟨gY,0,none⟩) cY X' Y))
   case first=>
    go_region_with (go_at_call 238;refine (insert_any _ base _ X (by first | exact HVV.out.rw_.t.alloc _ | exact (HVV.out.rw_.t.below (Below.refl _ _).drew).alloc _ | exact (HVV.out.rw_.t.alloc _).below (Below.refl _ _).drew) k V.heap.size (by first | exact alloc_heap V _ | exact alloc_heap V.drew _) (fun e=>by have:=(HVV.out.rw_.t.lt _ e).2;omega) (by have:=HVV.out.bb;have:=HVV.out.ob.lt;first | (simp;omega) | (show _≤(V.drew.alloc _).heap.size;simp;omega)) hX1).mono ?_;rintro e w5 ⟨v5,rfl,hO5,hG5⟩;obtain ⟨X',hX'⟩:∃ X',X'=k::X:=⟨_,rfl⟩;rw [← hX'] at hO5;have HXX:=Hid.m hX';have HO5:=Hid.m hO5;obtain ⟨a5,c5,rfl,hT5⟩:=hO5.tl;have HG5:Hid (Grew V w5 (.slice aX X.length cX) (.slice a5 X'.length c5)):=(by first | exact hG5.alloc | exact hG5.alloc.drew | exact hG5.drew.alloc);clear hX' hO5 hT5 hG5 c0 c1 f0 f1 l0;obtain ⟨c0,c1,f0,f1,l0⟩:=HVV.out.ob.grown HG5.out.grown (fun e=>(HVV.out.ft B e).1 rfl))
    all_goals
     go_wp2
     go_meet
     case rel=>exact ⟨a5,c5,X',HXX.out,HVV.out.ins HO5.out HG5.out⟩
   case rest=>
    obtain ⟨a5,c5,X',HXX,HV5⟩:=hcut
    obtain ⟨w6,hw6⟩:∃ x,x=wc:=⟨_,rfl⟩
    rw [← hw6] at HV5 ⊢
    clear hw6 c0 c1 f0 f1 l0 hck hgl
    obtain ⟨c0,c1,f0,f1,l0⟩:=HV5.out.ob
    have HDL:=Hid.m (delete_any w6 base _ Y HV5.out.rw_.k m hmY ((m:Int)+1) rfl)
    have hmb:(m:Int)≤1000:=by omega
    go_wp2_with (go_at_call 260;refine HDL.out.mono ?_;rintro e w7 ⟨v7,rfl,hO7,hG7,hE7⟩;obtain ⟨Y',hY'⟩:∃ Y',Y'=Y.eraseIdx m:=⟨_,rfl⟩;rw [← hY'] at hO7;have HYY:=Hid.m hY';have HO7:=Hid.m hO7;obtain ⟨a7,c7,rfl,hT7⟩:=hO7.tl;have HG7:=Hid.m hG7;have HE7:=Hid.m hE7;clear hY' hO7 hT7 hG7 hE7 c0 c1 f0 f1 l0;obtain ⟨c0,c1,f0,f1,l0⟩:=HV5.out.ob.grown HG7.out (fun e=>(HV5.out.fk B e).1 rfl))
    obtain ⟨g',hg'⟩:∃ g',gk=g'+1:=⟨gk - 1,by have:=HJ.out;have:=HYL.out;omega⟩
    subst hg'
    have hjl:j<K.length:=by have:=HJ.out;omega
    have hsu:=st_succ T K j hjl
    go_roundg g'
    case measure=>omega
    case rel=>
     refine ⟨j+1,a5,c5,a7,c7,by show _=_;have:=HJ.out;omega,?_,.inr ?_⟩
     ·have h1:stT T K (j+1)=X':=by
       rw [HXX.out,hsu.1,HX.out,HKE.out]
       congr 1
       have e2:m=K.length - j - 1:=by have:=HMY.out;have:=HYL.out;omega
       subst e2
       simp only [HY.out]
      have h2:stK K (j+1)=Y':=by
       rw [HYY.out,hsu.2,← HY.out]
       have e2:K.length - j - 1=m:=by have:=HMY.out;have:=HYL.out;omega
       rw [e2,List.eraseIdx_eq_take_drop_succ,List.drop_of_length_le (by omega),List.append_nil]
      rw [h1,h2]
      exact HV5.out.del HO7.out HG7.out HE7.out
     ·have:=HHF.out
      have:=HYL.out
      omega
  ·have g2:¬ (hf:Int)<(Y.length:Int):=by omega
   have HN:=Hid.m hlt
   clear hlt
   go_wp2
   go_quiet_grown (first
    | (go_at_call 236;exact Calls.grown_of (hmany _))
    | (go_at_call 261;exact Calls.grown_of (hhalf _)))
   obtain ⟨V,hV⟩:∃ V,V=grow (wr.drewN nq) osq:=⟨_,rfl⟩
   have HVV:Hid (Lv w V base B aX cX aY cY X Y):=by rw [hV];exact HV.out.below (below_grow wr nq osq)
   rw [← hV]
   clear hV d0 d1 hmany hhalf l0
   obtain ⟨c0,c1,f0,f1,l0⟩:=HVV.out.ob
   obtain ⟨r0,r1,s0,s1,l1⟩:=HVV.out.rs
   go_wp2
   obtain ⟨q0,q1,_,_,_⟩:=(HVV.out.rs.set0 (.slice aX X.length cX)).set1 (.slice aY Y.length cY)
   have hend:=st_end T K j hjK.out (by have:=HN.out;have:=HHF.out;have:=HYL.out;omega) HE.out
   rw [← HX.out,← HY.out] at hend
   try simp only [Exit.inBlock,Exit.then]
   refine bodyPost_ret (v:=.agg #[.slice aX X.length cX,.slice aY Y.length cY]) (by simp [results,Tryz.results213,go_sem,q0,q1]) rfl ⟨aX,cX,aY,cY,by rw [hend.1,hend.2],?_,?_⟩
   ·rw [← hend.1,← hend.2]
    have far:∀ g,(Value.slice aX X.length cX).ownBlock=some g∨(Value.slice aY Y.length cY).ownBlock=some g→g≠B+1:=fun g hg=>by
     rcases hg with hg | hg
     ·exact (HVV.out.ft g hg).2
     ·exact (HVV.out.fk g hg).2
    exact (HVV.out.rw_.set ⟨B+1,0,none⟩ _ far).set ⟨B+1,1,none⟩ _ far
   ·have hb:=HVV.out.bb
    exact (HVV.out.be.setCell (by show _≤B+1;omega) _).setCell (by show _≤B+1;omega) _
end Go.Proofs.YtcdpiefflnaghaaGreatDoor.Lr
namespace Go.Proofs.YtcdpiefflnaghaaGreatDoor.Lr
open Go.RowKit Go.Shelf Go.Lib Go.Sort
def ckw (T K:List ByteArray)(key:ByteArray):Int:=if okO T K=true then (if kOk key=true then 0 else 3) else 8
theorem checkWith_any (T K:List ByteArray)(aT aK:Option Addr)(cT cK:Nat)(key:ByteArray)(w:World)(hTl:Tl w aT T cT)(hKl:Tl w aK K cK)(hT:T.length≤300)(hK:K.length≤300):
  Calls Tryz.prog 234 #[.agg #[.slice aT T.length cT,.slice aK K.length cK],.string key] w fun e w'=>e=.returned (.int .i64 (ckw T K key))∧Below w.heap.size w w':=by
 obtain ⟨W,hW⟩:∃ W,W=w.alloc (Obj.cells #[.slice aT T.length cT,.slice aK K.length cK] 108):=⟨_,rfl⟩
 have HB:Hid (Below w.heap.size w W):=by rw [hW];exact (Below.refl _ _).alloc (Nat.le_refl _) _
 have HC:=Hid.m (check_any T K aT aK cT cK W (hTl.below HB.out) (hKl.below HB.out) hT hK)
 have HW:=Hid.m hW
 have hle:Hid (w.heap.size≤W.heap.size):=HB.out.size
 clear hTl hKl hT hK
 rw [hW] at HC
 clear hW
 unfold ckw
 by_cases h:Ok T K
 ·rw [if_pos (okO_iff.2 h)]
  rw [chk_ok h] at HC
  cases hk:kOk key with
  | true=>
   rw [if_pos rfl]
   have HK:=Hid.m (fun W=>isNoKey_any key W)
   rw [hk] at HK
   clear h
   go_enter Tryz.func234,Tryz.ntmps234
   go_wp2_with (first
    | (go_at_call 269;refine HC.out.mono ?_;rintro e w1 ⟨rfl,hb1⟩;have HB1:=Hid.m hb1;clear hb1)
    | (go_at_call 270;refine (HK.out _).mono ?_;rintro e w2 ⟨rfl,rfl⟩))
   go_ret
   exact ⟨rfl,below_alloc HB1.out⟩
  | false=>
   rw [if_neg (by simp)]
   have HK:=Hid.m (fun W=>isNoKey_any key W)
   rw [hk] at HK
   clear h
   go_enter Tryz.func234,Tryz.ntmps234
   go_wp2_with (first
    | (go_at_call 269;refine HC.out.mono ?_;rintro e w1 ⟨rfl,hb1⟩;have HB1:=Hid.m hb1;clear hb1)
    | (go_at_call 270;refine (HK.out _).mono ?_;rintro e w2 ⟨rfl,rfl⟩))
   go_ret
   exact ⟨rfl,below_alloc HB1.out⟩
 ·rw [if_neg (fun e=>h (okO_iff.1 e))]
  rw [chk_bad h] at HC
  clear h
  go_enter Tryz.func234,Tryz.ntmps234
  go_wp2_with (go_at_call 269;refine HC.out.mono ?_;rintro e w1 ⟨rfl,hb1⟩;have HB1:=Hid.m hb1;clear hb1)
  go_ret
  exact ⟨rfl,below_alloc HB1.out⟩
def vic (T K:List ByteArray):ByteArray:=(K++T).getLast?.getD ⟨#[]⟩
theorem vic_try {T K:List ByteArray}{n:Nat}(h:T.length=n+1):vic T K=T[n]'(by omega):=by
 unfold vic
 have:T≠[]:=by intro e;rw [e] at h;simp at h
 rw [List.getLast?_append,List.getLast?_eq_getElem? (l:=T),List.getElem?_eq_getElem (by omega)]
 simp [h]
theorem vic_keep {K:List ByteArray}{n:Nat}(h:K.length=n+1):vic [] K=K[n]'(by omega):=by
 unfold vic
 rw [List.append_nil,List.getLast?_eq_getElem?,List.getElem?_eq_getElem (by omega)]
 simp [h]
theorem at_of {w:World}{ao:Option Addr}{ks:List ByteArray}{cap:Nat}(h:Tl w ao ks cap){n:Nat}(hn:n<ks.length):∃ b off,ao=some ⟨b,off,none⟩∧b<w.heap.size∧w.cell? ⟨b,off+n,none⟩=some (.string ks[n]):=by
 rcases h.at_ with e | ⟨b,off,e,hb,hc⟩
 ·rw [e] at hn;simp at hn
 ·exact ⟨b,off,e,hb,hc n hn⟩
set_option maxHeartbeats 1000000 in
theorem victim_any (T K:List ByteArray)(aT aK:Option Addr)(cT cK:Nat)(w:World)(hTl:Tl w aT T cT)(hKl:Tl w aK K cK)(hT:T.length≤300)(hK:K.length≤300):
  Calls Tryz.prog 275 #[.agg #[.slice aT T.length cT,.slice aK K.length cK]] w fun e w'=>e=.returned (.tuple #[.string (if okO T K=true then vic T K else ⟨#[]⟩),.int .i64 (if okO T K=true then (if T.length+K.length=0 then 6 else 0) else 8)])∧Below w.heap.size w w':=by
 obtain ⟨W,hW⟩:∃ W,W=w.alloc (Obj.cells #[.slice aT T.length cT,.slice aK K.length cK] 108):=⟨_,rfl⟩
 have HB:Hid (Below w.heap.size w W):=by rw [hW];exact (Below.refl _ _).alloc (Nat.le_refl _) _
 have HOB:Hid (OB W w.heap.size (.slice aT T.length cT) (.slice aK K.length cK)):=by rw [hW];exact OB.made _ _ _
 have HTW:=Hid.m (hTl.below HB.out)
 have HKW:=Hid.m (hKl.below HB.out)
 have HC:=Hid.m (check_any T K aT aK cT cK W HTW.out HKW.out hT hK)
 have hle:Hid (w.heap.size≤W.heap.size):=HB.out.size
 clear hTl hKl
 by_cases h:Ok T K
 ·rw [if_pos (okO_iff.2 h),if_pos (okO_iff.2 h)]
  rw [chk_ok h] at HC
  clear h
  by_cases h0:0<T.length
  ·obtain ⟨n,hn⟩:∃ n,T.length=n+1:=⟨T.length - 1,by omega⟩
   have hnT:n<T.length:=by omega
   have hnI:(n:Int)<(T.length:Int):=by omega
   have m1:(T.length:Int) - 1=(n:Int):=by omega
   have h0I:(0:Int)<(T.length:Int):=by omega
   rw [if_neg (by omega)]
   obtain ⟨k,hk⟩:∃ k,k=vic T K:=⟨_,rfl⟩
   rw [← hk]
   have hk2:T[n]=k:=by rw [hk,vic_try hn]
   obtain ⟨b,off,rfl,hb,hc⟩:=at_of HTW.out hnT
   rw [hk2] at hc
   clear hk2 hn hk
   go_enter Tryz.func275,Tryz.ntmps275
   go_upto_region 1 with (fail)
   rw [← hW]
   clear hW
   obtain ⟨c0,c1,f0,f1,l0⟩:=HOB.out
   go_wp2_with (go_at_call 269;refine HC.out.mono ?_;rintro e w1 ⟨rfl,hb1⟩;have HB1:=Hid.m hb1;clear c0 c1 f0 f1 l0;obtain ⟨c0,c1,f0,f1,l0⟩:=HOB.out.below hb1;have hc1:=(below_cells hb1 b (off+n) hb).trans hc;clear hb1)
   go_ret2
   exact ⟨rfl,HB.out.trans (HB1.out.mono hle.out)⟩
  ·have hT0:T=[]:=List.eq_nil_of_length_eq_zero (by omega)
   subst hT0
   clear h0
   by_cases h1:0<K.length
   ·obtain ⟨n,hn⟩:∃ n,K.length=n+1:=⟨K.length - 1,by omega⟩
    have hnT:n<K.length:=by omega
    have hnI:(n:Int)<(K.length:Int):=by omega
    have m1:(K.length:Int) - 1=(n:Int):=by omega
    have h0I:(0:Int)<(K.length:Int):=by omega
    rw [if_neg (by intro e;simp only [List.length_nil] at e;omega)]
    obtain ⟨k,hk⟩:∃ k,k=vic [] K:=⟨_,rfl⟩
    rw [← hk]
    have hk2:K[n]=k:=by rw [hk,vic_keep hn]
    obtain ⟨b,off,rfl,hb,hc⟩:=at_of HKW.out hnT
    rw [hk2] at hc
    clear hk2 hn hk
    simp only [List.length_nil] at *
    go_enter Tryz.func275,Tryz.ntmps275
    go_upto_region 1 with (fail)
    rw [← hW]
    clear hW
    obtain ⟨c0,c1,f0,f1,l0⟩:=HOB.out
    go_wp2_with (go_at_call 269;refine HC.out.mono ?_;rintro e w1 ⟨rfl,hb1⟩;have HB1:=Hid.m hb1;clear c0 c1 f0 f1 l0;obtain ⟨c0,c1,f0,f1,l0⟩:=HOB.out.below hb1;have hc1:=(below_cells hb1 b (off+n) hb).trans hc;clear hb1)
    go_ret2
    exact ⟨rfl,HB.out.trans (HB1.out.mono hle.out)⟩
   ·have hK0:K=[]:=List.eq_nil_of_length_eq_zero (by omega)
    subst hK0
    clear h1
    simp only [List.length_nil] at *
    rw [if_pos trivial]
    have hv:vic [] []=⟨#[]⟩:=rfl
    rw [hv]
    clear hv
    go_enter Tryz.func275,Tryz.ntmps275
    go_upto_region 1 with (fail)
    rw [← hW]
    clear hW
    obtain ⟨c0,c1,f0,f1,l0⟩:=HOB.out
    go_wp2_with (go_at_call 269;refine HC.out.mono ?_;rintro e w1 ⟨rfl,hb1⟩;have HB1:=Hid.m hb1;clear c0 c1 f0 f1 l0;obtain ⟨c0,c1,f0,f1,l0⟩:=HOB.out.below hb1;clear hb1)
    go_ret2
    exact ⟨rfl,HB.out.trans (HB1.out.mono hle.out)⟩
 ·rw [if_neg (fun e=>h (okO_iff.1 e)),if_neg (fun e=>h (okO_iff.1 e))]
  rw [chk_bad h] at HC
  clear h
  go_enter Tryz.func275,Tryz.ntmps275
  go_upto_region 1 with (fail)
  rw [← hW]
  clear hW
  obtain ⟨c0,c1,f0,f1,l0⟩:=HOB.out
  go_wp2_with (go_at_call 269;refine HC.out.mono ?_;rintro e w1 ⟨rfl,hb1⟩;have HB1:=Hid.m hb1;clear hb1)
  go_ret2
  exact ⟨rfl,HB.out.trans (HB1.out.mono hle.out)⟩
end Go.Proofs.YtcdpiefflnaghaaGreatDoor.Lr
namespace Go.Proofs.YtcdpiefflnaghaaGreatDoor.Lr
open Go.RowKit Go.Shelf Go.Lib Go.Sort
theorem begin2 (w:World)(x y:Value):∃ w2,w2=(w.alloc (Obj.cells #[x,y] 108)).alloc (Obj.cells #[.slice none 0 0,.slice none 0 0] 108)∧Below w.heap.size w w2∧OB w2 w.heap.size x y∧OB w2 (w.heap.size+1) (.slice none 0 0) (.slice none 0 0)∧w2.heap.size=w.heap.size+2:=by
 refine ⟨_,rfl,((Below.refl _ _).alloc (Nat.le_refl _) _).alloc (by simp) _,(OB.made _ _ _).alloc _,?_,by simp⟩
 have:=OB.made (w.alloc (Obj.cells #[x,y] 108)) (.slice none 0 0) (.slice none 0 0)
 rw [show (w.alloc (Obj.cells #[x,y] 108)).heap.size=w.heap.size+1 by simp] at this
 exact this
structure Lf (w0 w:World)(base C R:Nat)(aT:Option Addr)(cT:Nat)(aK:Option Addr)(cK:Nat)(T K:List ByteArray):Prop where
 ob:OB w C (.slice aT T.length cT) (.slice aK K.length cK)
 rs:OB w R (.slice none 0 0) (.slice none 0 0)
 rw_:Rw w base aT cT aK cK T K
 ft:∀ g,(Value.slice aT T.length cT).ownBlock=some g→g≠C∧g≠R
 fk:∀ g,(Value.slice aK K.length cK).ownBlock=some g→g≠C∧g≠R
 be:Below base w0 w
 bb:base≤C
 ne:C≠R
theorem Lf.chT {w0 w w':World}{base C R:Nat}{aT:Option Addr}{cT:Nat}{aK:Option Addr}{cK:Nat}{T T' K:List ByteArray}{a':Option Addr}{c':Nat}(h:Lf w0 w base C R aT cT aK cK T K)
  (hO:OwnTs w' base (.slice a' T'.length c') T') (hG:Grew w w' (.slice aT T.length cT) (.slice a' T'.length c')):Lf w0 (w'.setCell ⟨C,0,none⟩ (.slice a' T'.length c')) base C R a' c' aK cK T' K:=by
 have hlt:=h.ob.lt
 have hlr:=h.rs.lt
 have ft':∀ g,(Value.slice a' T'.length c').ownBlock=some g→g≠C∧g≠R:=fun g hg=>by
  rcases hG.lies g hg with e | e
  ·exact h.ft g e
  ·omega
 have o1:OB w' C (.slice aT T.length cT) (.slice aK K.length cK):=h.ob.grown hG.grown (fun e=>(h.ft C e).1 rfl)
 have o2:OB w' R (.slice none 0 0) (.slice none 0 0):=h.rs.grown hG.grown (fun e=>(h.ft R e).2 rfl)
 have k1:OwnTs w' base (.slice aK K.length cK) K:=h.rw_.k.grown hG.grown (fun g hg e=>h.rw_.ap g e hg)
 refine ⟨o1.set0 _,o2.other _ _ h.ne,?_,ft',h.fk,?_,h.bb,h.ne⟩
 ·refine (Rw.mk hO k1 (fun g hg e=>?_)).set _ _ (fun g hg=>?_)
  ·rcases hG.lies g hg with e2 | e2
   ·exact h.rw_.ap g e2 e
   ·have:=(h.rw_.k.lt g e).2
    omega
  ·rcases hg with hg | hg
   ·exact (ft' g hg).1
   ·exact (h.fk g hg).1
 ·exact (h.be.grown hG.grown (by have:=h.bb;omega) (fun g hg=>(h.rw_.t.lt g hg).1)).setCell h.bb _
theorem Lf.chK {w0 w w':World}{base C R:Nat}{aT:Option Addr}{cT:Nat}{aK:Option Addr}{cK:Nat}{T K K':List ByteArray}{a':Option Addr}{c':Nat}(h:Lf w0 w base C R aT cT aK cK T K)
  (hO:OwnTs w' base (.slice a' K'.length c') K') (hG:Grew w w' (.slice aK K.length cK) (.slice a' K'.length c')):Lf w0 (w'.setCell ⟨C,1,none⟩ (.slice a' K'.length c')) base C R aT cT a' c' T K':=by
 have hlt:=h.ob.lt
 have hlr:=h.rs.lt
 have fk':∀ g,(Value.slice a' K'.length c').ownBlock=some g→g≠C∧g≠R:=fun g hg=>by
  rcases hG.lies g hg with e | e
  ·exact h.fk g e
  ·omega
 have o1:OB w' C (.slice aT T.length cT) (.slice aK K.length cK):=h.ob.grown hG.grown (fun e=>(h.fk C e).1 rfl)
 have o2:OB w' R (.slice none 0 0) (.slice none 0 0):=h.rs.grown hG.grown (fun e=>(h.fk R e).2 rfl)
 have t1:OwnTs w' base (.slice aT T.length cT) T:=h.rw_.t.grown hG.grown (fun g hg e=>h.rw_.ap g hg e)
 refine ⟨o1.set1 _,o2.other _ _ h.ne,?_,h.ft,fk',?_,h.bb,h.ne⟩
 ·refine (Rw.mk t1 hO (fun g hg e=>?_)).set _ _ (fun g hg=>?_)
  ·rcases hG.lies g e with e2 | e2
   ·exact h.rw_.ap g hg e2
   ·have:=(h.rw_.t.lt g hg).2
    omega
  ·rcases hg with hg | hg
   ·exact (h.ft g hg).1
   ·exact (fk' g hg).1
 ·exact (h.be.grown hG.grown (by have:=h.bb;omega) (fun g hg=>(h.rw_.k.lt g hg).1)).setCell h.bb _
theorem Lf.answer {w0 w:World}{base C R:Nat}{aT:Option Addr}{cT:Nat}{aK:Option Addr}{cK:Nat}{T K:List ByteArray}(h:Lf w0 w base C R aT cT aK cK T K)(hr:base≤R):
  Rw ((w.setCell ⟨R,0,none⟩ (.slice aT T.length cT)).setCell ⟨R,1,none⟩ (.slice aK K.length cK)) base aT cT aK cK T K∧Below base w0 ((w.setCell ⟨R,0,none⟩ (.slice aT T.length cT)).setCell ⟨R,1,none⟩ (.slice aK K.length cK))∧OB ((w.setCell ⟨R,0,none⟩ (.slice aT T.length cT)).setCell ⟨R,1,none⟩ (.slice aK K.length cK)) R (.slice aT T.length cT) (.slice aK K.length cK):=by
 have far:∀ g,(Value.slice aT T.length cT).ownBlock=some g∨(Value.slice aK K.length cK).ownBlock=some g→g≠R:=fun g hg=>by
  rcases hg with hg | hg
  ·exact (h.ft g hg).2
  ·exact (h.fk g hg).2
 exact ⟨(h.rw_.set ⟨R,0,none⟩ _ far).set ⟨R,1,none⟩ _ far,(h.be.setCell hr _).setCell hr _,(h.rs.set0 _).set1 _⟩
theorem Lf.begin {w w2 w3 w4:World}{R b2 b3:Nat}{aT:Option Addr}{cT:Nat}{aK:Option Addr}{cK:Nat}{T K:List ByteArray}(hb:Below w.heap.size w w4)(hR:OB w3 R (.slice none 0 0) (.slice none 0 0))(hb4:Below w3.heap.size w3 w4)(hs:w.heap.size≤w3.heap.size)(h:Rw w4 w3.heap.size aT cT aK cK T K):
  Lf w (w4.alloc (Obj.cells #[.slice aT T.length cT,.slice aK K.length cK] 108)) w.heap.size w4.heap.size R aT cT aK cK T K:=by
 have hlr:=hR.lt
 have:=hb4.size
 refine ⟨OB.made _ _ _,(hR.below hb4).alloc _,(h.below ((Below.refl _ _).alloc (Nat.le_refl _) _)).base hs,fun g hg=>?_,fun g hg=>?_,hb.alloc hb.size _,hb.size,by omega⟩
 ·have:=h.t.lt g hg
  omega
 ·have:=h.k.lt g hg
  omega
theorem grew_of {w w':World}{v v':Value}(h:w.grownBy w' v.ownBlock)(e:v'.ownBlock=v.ownBlock):Grew w w' v v':=⟨h,fun k hk=>.inl (e ▸ hk)⟩
set_option maxHeartbeats 1000000 in
theorem without_ok (T K:List ByteArray)(aT aK:Option Addr)(cT cK:Nat)(key:ByteArray)(w:World)(hTl:Tl w aT T cT)(hKl:Tl w aK K cK)(hT:T.length≤300)(hK:K.length≤300)(h0:ckw T K key=0)(hnd:(K++T).Nodup)(hin:key∈K++T):
  Calls Tryz.prog 212 #[.agg #[.slice aT T.length cT,.slice aK K.length cK],.string key] w fun e w'=>∃ aT' cT' aK' cK',e=.returned (.tuple #[.agg #[.slice aT' (T.erase key).length cT',.slice aK' (K.erase key).length cK'],.int .i64 0])∧Rw w' w.heap.size aT' cT' aK' cK' (T.erase key) (K.erase key)∧Below w.heap.size w w':=by
 obtain ⟨w2,hw2,hb2,hA,hR,hs2⟩:=begin2 w (.slice aT T.length cT) (.slice aK K.length cK)
 have HC:=Hid.m (checkWith_any T K aT aK cT cK key w2 (hTl.below hb2) (hKl.below hb2) hT hK)
 rw [h0] at HC
 have HCP:=Hid.m (fun W (hb:Below w2.heap.size w2 W)=>copied_any T K aT aK cT cK W ((hTl.below hb2).below hb) ((hKl.below hb2).below hb) hT hK)
 have HB2:=Hid.m hb2
 have HR:=Hid.m hR
 have HA:=Hid.m hA
 have HS2:=Hid.m hs2
 have HT3:Hid (T.length≤300∧K.length≤300):=⟨hT,hK⟩
 obtain ⟨T',hT'⟩:∃ T',T'=T.erase key:=⟨_,rfl⟩
 obtain ⟨K',hK'⟩:∃ K',K'=K.erase key:=⟨_,rfl⟩
 rw [← hT',← hK']
 have HT':=Hid.m hT'
 have HK':=Hid.m hK'
 by_cases hiT:key∈T
 ·have hiK:key∉K:=fun h=>(List.nodup_append.1 hnd).2.2 key h key hiT rfl
  have hKK:K=K':=by rw [hK',List.erase_of_not_mem hiK]
  have HI:=Hid.m hiT
  clear hTl hKl hT hK hb2 hA hR h0 hs2 hnd hin hiT hiK hT' hK'
  subst hKK
  go_enter Tryz.func212,Tryz.ntmps212
  go_upto_region 1 with (fail)
  rw [← hw2]
  clear hw2
  obtain ⟨c0,c1,f0,f1,l0⟩:=HA.out
  go_upto_region 5 with (first
   | (go_at_call 237;refine (HCP.out _ HB3.out).mono ?_;rintro e w4 ⟨aX,cX,aY,cY,rfl,hRw,hb4⟩;have HRw:=Hid.m hRw;have HB4:=Hid.m hb4;clear hRw hb4)
   | (go_at_call 234;refine HC.out.mono ?_;rintro e w3 ⟨rfl,hb3⟩;have HB3:=Hid.m hb3;clear c0 c1 f0 f1 l0;obtain ⟨c0,c1,f0,f1,l0⟩:=HA.out.below hb3;have HR3:=Hid.m (HR.out.below hb3);clear hb3))
  have HL:Hid (Lf w (w4.alloc (Obj.cells #[.slice aX T.length cX,.slice aY K.length cY] 108)) w.heap.size w4.heap.size (w.heap.size+1) aX cX aY cY T K):=
   Lf.begin (w2:=w2) (b2:=0) (b3:=0) ((HB2.out.trans (HB3.out.mono HB2.out.size)).trans (HB4.out.mono (Nat.le_trans HB2.out.size HB3.out.size))) HR3.out HB4.out (Nat.le_trans HB2.out.size HB3.out.size) HRw.out
  obtain ⟨W5,hW5⟩:∃ W5,W5=w4.alloc (Obj.cells #[.slice aX T.length cX,.slice aY K.length cY] 108):=⟨_,rfl⟩
  obtain ⟨C,hC⟩:∃ C,C=w4.heap.size:=⟨_,rfl⟩
  rw [← hW5,← hC] at HL
  rw [← hW5,← hC]
  clear hW5 hC c0 c1 f0 f1 l0 HB4 HRw HB3 HR3 HCP HC
  obtain ⟨c0,c1,f0,f1,l0⟩:=HL.out.ob
  have HIX:=Hid.m (indexOf_any aX T cX key W5 HL.out.rw_.tlT)
  obtain ⟨r0,r1,s0,s1,l1⟩:=HL.out.rs
  go_upto_region 6 with (go_at_call 235;refine HIX.out.mono ?_;rintro e wi ⟨i,rfl,hix,hwi⟩;obtain rfl:wi=W5:=hwi;obtain ⟨j,rfl,hj,hje⟩:=hix.is HI.out;have HJE:=Hid.m hje;clear hix hje)
  have hj0:(0:Int)≤(j:Int):=by omega
  have hjb:(j:Int)≤300:=by have:=HT3.out;omega
  have HDL:=Hid.m (delete_any wi w.heap.size _ T HL.out.rw_.t j hj ((j:Int)+1) rfl)
  rw [HJE.out,← HT'.out] at HDL
  go_wp2_with (go_at_call 260;refine HDL.out.mono ?_;rintro e w7 ⟨v7,rfl,hO7,hG7,hE7⟩;have HO7:=Hid.m hO7;obtain ⟨a7,c7,rfl,hT7⟩:=hO7.tl;have HG7:=Hid.m (grew_of hG7 hE7);clear hO7 hT7 hG7 hE7 c0 c1 f0 f1 l0 r0 r1 s0 s1 l1;have HL7:=Hid.m (HL.out.chT HO7.out HG7.out);obtain ⟨c0,c1,f0,f1,l0⟩:=HL.out.ob.grown HG7.out.grown (fun e=>(HL.out.ft _ e).1 rfl);obtain ⟨b0,b1,_,_,_⟩:=HL7.out.ob;obtain ⟨r0,r1,s0,s1,l1⟩:=HL7.out.rs)
  obtain ⟨hRA,hBA,q0,q1,_,_,_⟩:=HL7.out.answer (by omega)
  try simp only [Exit.inBlock,Exit.then]
  exact bodyPost_ret (v:=.tuple #[.agg #[.slice a7 T'.length c7,.slice aY K.length cY],.int .i64 0]) (by simp [results,Tryz.results212,go_sem,q0,q1]) rfl ⟨a7,c7,aY,cY,rfl,hRA,hBA⟩
 ·have hiK:key∈K:=by rcases List.mem_append.1 hin with h | h;exact h;exact absurd h hiT
  have hTT:T=T':=by rw [hT',List.erase_of_not_mem hiT]
  have HI:=Hid.m hiT
  have HI2:=Hid.m hiK
  clear hTl hKl hT hK hb2 hA hR h0 hs2 hnd hin hiT hiK hT' hK'
  subst hTT
  go_enter Tryz.func212,Tryz.ntmps212
  go_upto_region 1 with (fail)
  rw [← hw2]
  clear hw2
  obtain ⟨c0,c1,f0,f1,l0⟩:=HA.out
  go_upto_region 5 with (first
   | (go_at_call 237;refine (HCP.out _ HB3.out).mono ?_;rintro e w4 ⟨aX,cX,aY,cY,rfl,hRw,hb4⟩;have HRw:=Hid.m hRw;have HB4:=Hid.m hb4;clear hRw hb4)
   | (go_at_call 234;refine HC.out.mono ?_;rintro e w3 ⟨rfl,hb3⟩;have HB3:=Hid.m hb3;clear c0 c1 f0 f1 l0;obtain ⟨c0,c1,f0,f1,l0⟩:=HA.out.below hb3;have HR3:=Hid.m (HR.out.below hb3);clear hb3))
  have HL:Hid (Lf w (w4.alloc (Obj.cells #[.slice aX T.length cX,.slice aY K.length cY] 108)) w.heap.size w4.heap.size (w.heap.size+1) aX cX aY cY T K):=
   Lf.begin (w2:=w2) (b2:=0) (b3:=0) ((HB2.out.trans (HB3.out.mono HB2.out.size)).trans (HB4.out.mono (Nat.le_trans HB2.out.size HB3.out.size))) HR3.out HB4.out (Nat.le_trans HB2.out.size HB3.out.size) HRw.out
  obtain ⟨W5,hW5⟩:∃ W5,W5=w4.alloc (Obj.cells #[.slice aX T.length cX,.slice aY K.length cY] 108):=⟨_,rfl⟩
  obtain ⟨C,hC⟩:∃ C,C=w4.heap.size:=⟨_,rfl⟩
  rw [← hW5,← hC] at HL
  rw [← hW5,← hC]
  clear hW5 hC c0 c1 f0 f1 l0 HB4 HRw HB3 HR3 HCP HC
  obtain ⟨c0,c1,f0,f1,l0⟩:=HL.out.ob
  have HIX:=Hid.m (indexOf_any aX T cX key W5 HL.out.rw_.tlT)
  have HIY:=Hid.m (indexOf_any aY K cY key W5 HL.out.rw_.tlK)
  obtain ⟨r0,r1,s0,s1,l1⟩:=HL.out.rs
  go_upto_region 9 with (go_at_call 235;refine HIX.out.mono ?_;rintro e wi ⟨i,rfl,hix,hwi⟩;obtain rfl:wi=W5:=hwi;obtain rfl:=hix.no HI.out;clear hix)
  go_upto_region 10 with (go_at_call 235;refine HIY.out.mono ?_;rintro e wj ⟨i,rfl,hix,hwi⟩;obtain rfl:wj=wi:=hwi;obtain ⟨j,rfl,hj,hje⟩:=hix.is HI2.out;have HJE:=Hid.m hje;clear hix hje)
  have hj0:(0:Int)≤(j:Int):=by omega
  have hjb:(j:Int)≤300:=by have:=HT3.out;omega
  have HDL:=Hid.m (delete_any wj w.heap.size _ K HL.out.rw_.k j hj ((j:Int)+1) rfl)
  rw [HJE.out,← HK'.out] at HDL
  go_wp2_with (go_at_call 260;refine HDL.out.mono ?_;rintro e w7 ⟨v7,rfl,hO7,hG7,hE7⟩;have HO7:=Hid.m hO7;obtain ⟨a7,c7,rfl,hT7⟩:=hO7.tl;have HG7:=Hid.m (grew_of hG7 hE7);clear hO7 hT7 hG7 hE7 c0 c1 f0 f1 l0 r0 r1 s0 s1 l1;have HL7:=Hid.m (HL.out.chK HO7.out HG7.out);obtain ⟨c0,c1,f0,f1,l0⟩:=HL.out.ob.grown HG7.out.grown (fun e=>(HL.out.fk _ e).1 rfl);obtain ⟨b0,b1,_,_,_⟩:=HL7.out.ob;obtain ⟨r0,r1,s0,s1,l1⟩:=HL7.out.rs)
  obtain ⟨hRA,hBA,q0,q1,_,_,_⟩:=HL7.out.answer (by omega)
  try simp only [Exit.inBlock,Exit.then]
  exact bodyPost_ret (v:=.tuple #[.agg #[.slice aX T.length cX,.slice a7 K'.length c7],.int .i64 0]) (by simp [results,Tryz.results212,go_sem,q0,q1]) rfl ⟨aX,cX,a7,c7,rfl,hRA,hBA⟩
end Go.Proofs.YtcdpiefflnaghaaGreatDoor.Lr
namespace Go.Proofs.YtcdpiefflnaghaaGreatDoor.Lr
open Go.RowKit Go.Shelf Go.Lib Go.Sort
theorem ckw_ok {T K:List ByteArray}{key:ByteArray}(h:Ok T K)(hk:kOk key=true):ckw T K key=0:=by unfold ckw;rw [if_pos (okO_iff.2 h),if_pos hk]
theorem ckw_zero {T K:List ByteArray}{key:ByteArray}(h:ckw T K key=0):Ok T K∧kOk key=true:=by
 unfold ckw at h
 by_cases h1:okO T K=true
 ·rw [if_pos h1] at h
  by_cases h2:kOk key=true
  ·exact ⟨okO_iff.1 h1,h2⟩
  ·rw [if_neg h2] at h;simp at h
 ·rw [if_neg h1] at h;simp at h
def adE (T K:List ByteArray)(key:ByteArray):Int:=if ckw T K key≠0 then ckw T K key else if key∈K++T then 2 else if K.length+T.length=256 then 9 else 0
def htE (T K:List ByteArray)(key:ByteArray):Int:=if ckw T K key≠0 then ckw T K key else if key∈K++T then 0 else 6
theorem adE_zero {T K:List ByteArray}{key:ByteArray}(h:adE T K key=0):Ok T K∧kOk key=true∧key∉K++T∧K.length+T.length<256:=by
 unfold adE at h
 by_cases h1:ckw T K key=0
 ·obtain ⟨a,b⟩:=ckw_zero h1
  rw [if_neg (by simpa using h1)] at h
  by_cases h2:key∈K++T
  ·rw [if_pos h2] at h;simp at h
  ·rw [if_neg h2] at h
   by_cases h3:K.length+T.length=256
   ·rw [if_pos h3] at h;simp at h
   ·exact ⟨a,b,h2,by have:=a.many;omega⟩
 ·rw [if_pos h1] at h
  exact absurd h h1
theorem htE_zero {T K:List ByteArray}{key:ByteArray}(h:htE T K key=0):ckw T K key=0∧Ok T K∧kOk key=true∧key∈K++T:=by
 unfold htE at h
 by_cases h1:ckw T K key=0
 ·obtain ⟨a,b⟩:=ckw_zero h1
  rw [if_neg (by simpa using h1)] at h
  by_cases h2:key∈K++T
  ·exact ⟨h1,a,b,h2⟩
  ·rw [if_neg h2] at h;simp at h
 ·rw [if_pos h1] at h
  exact absurd h h1
theorem htE_in {T K:List ByteArray}{key:ByteArray}(h:Ok T K)(hk:key∈K++T):htE T K key=0:=by
 unfold htE
 rw [if_neg (by simp [ckw_ok h (h.keys key hk)]),if_pos hk]
theorem rw_answer {w2 w:World}{base R B:Nat}{aT:Option Addr}{cT:Nat}{aK:Option Addr}{cK:Nat}{T K:List ByteArray}(hR:OB w R (.slice none 0 0) (.slice none 0 0))(h:Rw w base aT cT aK cK T K)(hr:R<base)(hb:Below B w2 w)(hB:B≤R):
  Rw ((w.setCell ⟨R,0,none⟩ (.slice aT T.length cT)).setCell ⟨R,1,none⟩ (.slice aK K.length cK)) base aT cT aK cK T K∧Below B w2 ((w.setCell ⟨R,0,none⟩ (.slice aT T.length cT)).setCell ⟨R,1,none⟩ (.slice aK K.length cK))∧OB ((w.setCell ⟨R,0,none⟩ (.slice aT T.length cT)).setCell ⟨R,1,none⟩ (.slice aK K.length cK)) R (.slice aT T.length cT) (.slice aK K.length cK):=by
 have far:∀ g,(Value.slice aT T.length cT).ownBlock=some g∨(Value.slice aK K.length cK).ownBlock=some g→g≠R:=fun g hg=>by
  rcases hg with hg | hg
  ·have:=(h.t.lt g hg).1
   omega
  ·have:=(h.k.lt g hg).1
   omega
 exact ⟨(h.set ⟨R,0,none⟩ _ far).set ⟨R,1,none⟩ _ far,(hb.setCell hB _).setCell hB _,(hR.set0 _).set1 _⟩
set_option maxHeartbeats 1000000 in
theorem del_ok (T K:List ByteArray)(aT aK:Option Addr)(cT cK:Nat)(key:ByteArray)(w:World)(hTl:Tl w aT T cT)(hKl:Tl w aK K cK)(hT:T.length≤300)(hK:K.length≤300)(hE:htE T K key=0):
  Calls Tryz.prog 155 #[.agg #[.slice aT T.length cT,.slice aK K.length cK],.string key] w fun e w'=>∃ aT' cT' aK' cK',e=.returned (.tuple #[.agg #[.slice aT' (dlT T K key).length cT',.slice aK' (dlK T K key).length cK'],.int .i64 0])∧Rw w' w.heap.size aT' cT' aK' cK' (dlT T K key) (dlK T K key)∧Below w.heap.size w w':=by
 obtain ⟨h0,hok,hk,hin⟩:=htE_zero hE
 obtain ⟨w2,hw2,hb2,hA,hR,hs2⟩:=begin2 w (.slice aT T.length cT) (.slice aK K.length cK)
 have HC:=Hid.m (without_ok T K aT aK cT cK key w2 (hTl.below hb2) (hKl.below hb2) hT hK h0 hok.nodup hin)
 have l1:(T.erase key).length≤300:=Nat.le_trans List.length_erase_le hT
 have l2:(K.erase key).length≤300:=Nat.le_trans List.length_erase_le hK
 unfold dlT dlK
 obtain ⟨T',hT'⟩:∃ T',T'=T.erase key:=⟨_,rfl⟩
 obtain ⟨K',hK'⟩:∃ K',K'=K.erase key:=⟨_,rfl⟩
 rw [← hT',← hK'] at HC ⊢
 rw [← hT'] at l1
 rw [← hK'] at l2
 obtain ⟨T2,hT2⟩:∃ T2,T2=lvT T' K':=⟨_,rfl⟩
 obtain ⟨K2,hK2⟩:∃ K2,K2=lvK T' K':=⟨_,rfl⟩
 have HLV:=Hid.m (fun W base a c a' c' (h:Rw W base a c a' c' T' K') (hb:base≤W.heap.size)=>levelled_any T' K' a a' c c' base W h hb l1 l2)
 rw [← hT2,← hK2] at HLV ⊢
 have HB2:=Hid.m hb2
 have HR:=Hid.m hR
 have HA:=Hid.m hA
 have HS2:=Hid.m hs2
 clear hTl hKl hT hK hb2 hA hR h0 hs2 hok hin hT' hK' hT2 hK2 l1 l2 hE hk
 go_enter Tryz.func155,Tryz.ntmps155
 go_upto_region 1 with (fail)
 rw [← hw2]
 clear hw2
 obtain ⟨c0,c1,f0,f1,l0⟩:=HA.out
 go_upto_region 4 with (go_at_call 212;refine HC.out.mono ?_;rintro e w3 ⟨aX,cX,aY,cY,rfl,hRw,hb3⟩;have HRw:=Hid.m hRw;have HB3:=Hid.m hb3;clear hRw hb3)
 have HL:Hid (Lf w2 (w3.alloc (Obj.cells #[.slice aX T'.length cX,.slice aY K'.length cY] 108)) w2.heap.size w3.heap.size (w.heap.size+1) aX cX aY cY T' K'):=
  Lf.begin (w2:=w2) (b2:=0) (b3:=0) HB3.out HR.out HB3.out (Nat.le_refl _) HRw.out
 obtain ⟨W5,hW5⟩:∃ W5,W5=w3.alloc (Obj.cells #[.slice aX T'.length cX,.slice aY K'.length cY] 108):=⟨_,rfl⟩
 obtain ⟨C,hC⟩:∃ C,C=w3.heap.size:=⟨_,rfl⟩
 rw [← hW5,← hC] at HL
 rw [← hW5,← hC]
 clear hW5 hC c0 c1 f0 f1 l0 HB3 HRw HC
 obtain ⟨c0,c1,f0,f1,l0⟩:=HL.out.ob
 have hbs:w2.heap.size≤W5.heap.size:=HL.out.be.size
 have HLV2:=Hid.m (HLV.out W5 w2.heap.size aX cX aY cY HL.out.rw_ hbs)
 go_wp2_with (go_at_call 213;refine HLV2.out.mono ?_;rintro e w8 ⟨a8,c8,b8,d8,rfl,hRw8,hb8⟩;have HRw8:=Hid.m hRw8;have HB8:=Hid.m hb8;have HR8:Hid (OB w8 (w.heap.size+1) (.slice none 0 0) (.slice none 0 0)):=HL.out.rs.same (hb8.block _ (by rw [HS2.out];omega)) hb8.size;clear hRw8 hb8;obtain ⟨r0,r1,s0,s1,l1⟩:=HR8.out)
 obtain ⟨hRA,hBA,q0,q1,_,_,_⟩:=rw_answer (B:=w.heap.size) (w2:=w) HR8.out HRw8.out (by rw [HS2.out];omega) ((HB2.out.trans (HL.out.be.mono (by rw [HS2.out];omega))).trans (HB8.out.mono (by rw [HS2.out];omega))) (by omega)
 try simp only [Exit.inBlock,Exit.then]
 exact bodyPost_ret (v:=.tuple #[.agg #[.slice a8 T2.length c8,.slice b8 K2.length d8],.int .i64 0]) (by simp [results,Tryz.results155,go_sem,q0,q1]) rfl ⟨a8,c8,b8,d8,rfl,hRA.base (by rw [HS2.out];omega),hBA⟩
set_option maxHeartbeats 1000000 in
theorem hit_ok (T K:List ByteArray)(aT aK:Option Addr)(cT cK:Nat)(key:ByteArray)(w:World)(hTl:Tl w aT T cT)(hKl:Tl w aK K cK)(hT:T.length≤299)(hK:K.length≤299)(hE:htE T K key=0):
  Calls Tryz.prog 187 #[.agg #[.slice aT T.length cT,.slice aK K.length cK],.string key] w fun e w'=>∃ aT' cT' aK' cK',e=.returned (.tuple #[.agg #[.slice aT' (htT T K key).length cT',.slice aK' (htK T K key).length cK'],.int .i64 0])∧Rw w' w.heap.size aT' cT' aK' cK' (htT T K key) (htK T K key)∧Below w.heap.size w w':=by
 obtain ⟨h0,hok,hk,hin⟩:=htE_zero hE
 obtain ⟨w2,hw2,hb2,hA,hR,hs2⟩:=begin2 w (.slice aT T.length cT) (.slice aK K.length cK)
 have HC:=Hid.m (without_ok T K aT aK cT cK key w2 (hTl.below hb2) (hKl.below hb2) (by omega) (by omega) h0 hok.nodup hin)
 have l1:(T.erase key).length≤300:=Nat.le_trans List.length_erase_le (by omega)
 have l2:(K.erase key).length≤299:=Nat.le_trans List.length_erase_le hK
 unfold htT htK
 obtain ⟨T',hT'⟩:∃ T',T'=T.erase key:=⟨_,rfl⟩
 obtain ⟨K',hK'⟩:∃ K',K'=K.erase key:=⟨_,rfl⟩
 rw [← hT',← hK'] at HC ⊢
 rw [← hT'] at l1
 rw [← hK'] at l2
 obtain ⟨K3,hK3⟩:∃ K3,K3=key::K':=⟨_,rfl⟩
 have l3:K3.length≤300:=by rw [hK3];simp;omega
 rw [← hK3]
 obtain ⟨T2,hT2⟩:∃ T2,T2=lvT T' K3:=⟨_,rfl⟩
 obtain ⟨K2,hK2⟩:∃ K2,K2=lvK T' K3:=⟨_,rfl⟩
 have HLV:=Hid.m (fun W base a c a' c' (h:Rw W base a c a' c' T' K3) (hb:base≤W.heap.size)=>levelled_any T' K3 a a' c c' base W h hb l1 l3)
 rw [← hT2,← hK2] at HLV ⊢
 have HB2:=Hid.m hb2
 have HR:=Hid.m hR
 have HA:=Hid.m hA
 have HS2:=Hid.m hs2
 have HK3:=Hid.m hK3
 have HL2:Hid (K'.length≤1000):=by show _≤_;omega
 clear hTl hKl hT hK hb2 hA hR h0 hs2 hok hin hT' hK' hT2 hK2 l1 l2 l3 hE hk hK3
 go_enter Tryz.func187,Tryz.ntmps187
 go_upto_region 1 with (fail)
 rw [← hw2]
 clear hw2
 obtain ⟨c0,c1,f0,f1,l0⟩:=HA.out
 go_upto_region 4 with (go_at_call 212;refine HC.out.mono ?_;rintro e w3 ⟨aX,cX,aY,cY,rfl,hRw,hb3⟩;have HRw:=Hid.m hRw;have HB3:=Hid.m hb3;clear hRw hb3)
 have HL:Hid (Lf w2 (w3.alloc (Obj.cells #[.slice aX T'.length cX,.slice aY K'.length cY] 108)) w2.heap.size w3.heap.size (w.heap.size+1) aX cX aY cY T' K'):=
  Lf.begin (w2:=w2) (b2:=0) (b3:=0) HB3.out HR.out HB3.out (Nat.le_refl _) HRw.out
 obtain ⟨W5,hW5⟩:∃ W5,W5=w3.alloc (Obj.cells #[.slice aX T'.length cX,.slice aY K'.length cY] 108):=⟨_,rfl⟩
 obtain ⟨C,hC⟩:∃ C,C=w3.heap.size:=⟨_,rfl⟩
 rw [← hW5,← hC] at HL
 rw [← hW5,← hC]
 clear hW5 hC c0 c1 f0 f1 l0 HB3 HRw HC
 obtain ⟨c0,c1,f0,f1,l0⟩:=HL.out.ob
 have hbs:w2.heap.size≤W5.heap.size:=HL.out.be.size
 have HIN:=Hid.m (insert_any (W5.alloc (Obj.cells #[.string key] 9)) w2.heap.size _ K' (HL.out.rw_.k.alloc _) key W5.heap.size (alloc_heap _ _) (fun e=>by have:=(HL.out.rw_.k.lt _ e).2;omega) (by simp;omega) HL2.out)
 rw [← HK3.out] at HIN
 go_upto_region 5 with (go_at_call 238;refine HIN.out.mono ?_;rintro e w7 ⟨v7,rfl,hO7,hG7⟩;have HO7:=Hid.m hO7;obtain ⟨a7,c7,rfl,hT7⟩:=hO7.tl;have HG7:=Hid.m hG7.alloc;clear hO7 hT7 hG7 c0 c1 f0 f1 l0;have HL7:=Hid.m (HL.out.chK HO7.out HG7.out);obtain ⟨c0,c1,f0,f1,l0⟩:=HL.out.ob.grown HG7.out.grown (fun e=>(HL.out.fk _ e).1 rfl))
 obtain ⟨W7,hW7⟩:∃ W7,W7=w7.setCell ⟨C,1,none⟩ (.slice a7 K3.length c7):=⟨_,rfl⟩
 rw [← hW7] at HL7
 rw [← hW7]
 clear hW7 c0 c1 f0 f1 l0 HG7 HO7 HIN
 obtain ⟨c0,c1,f0,f1,l0⟩:=HL7.out.ob
 have hbs7:w2.heap.size≤W7.heap.size:=HL7.out.be.size
 have HLV2:=Hid.m (HLV.out W7 w2.heap.size aX cX a7 c7 HL7.out.rw_ hbs7)
 go_wp2_with (go_at_call 213;refine HLV2.out.mono ?_;rintro e w8 ⟨a8,c8,b8,d8,rfl,hRw8,hb8⟩;have HRw8:=Hid.m hRw8;have HB8:=Hid.m hb8;have HR8:Hid (OB w8 (w.heap.size+1) (.slice none 0 0) (.slice none 0 0)):=HL7.out.rs.same (hb8.block _ (by rw [HS2.out];omega)) hb8.size;clear hRw8 hb8;obtain ⟨r0,r1,s0,s1,l1⟩:=HR8.out)
 obtain ⟨hRA,hBA,q0,q1,_,_,_⟩:=rw_answer (B:=w.heap.size) (w2:=w) HR8.out HRw8.out (by rw [HS2.out];omega) ((HB2.out.trans (HL7.out.be.mono (by rw [HS2.out];omega))).trans (HB8.out.mono (by rw [HS2.out];omega))) (by omega)
 try simp only [Exit.inBlock,Exit.then]
 exact bodyPost_ret (v:=.tuple #[.agg #[.slice a8 T2.length c8,.slice b8 K2.length d8],.int .i64 0]) (by simp [results,Tryz.results187,go_sem,q0,q1]) rfl ⟨a8,c8,b8,d8,rfl,hRA.base (by rw [HS2.out];omega),hBA⟩
end Go.Proofs.YtcdpiefflnaghaaGreatDoor.Lr
namespace Go.Proofs.YtcdpiefflnaghaaGreatDoor.Lr
open Go.RowKit Go.Shelf Go.Lib Go.Sort
set_option maxHeartbeats 1000000 in
theorem add_ok (T K:List ByteArray)(aT aK:Option Addr)(cT cK:Nat)(key:ByteArray)(w:World)(hTl:Tl w aT T cT)(hKl:Tl w aK K cK)(hE:adE T K key=0):
  Calls Tryz.prog 172 #[.agg #[.slice aT T.length cT,.slice aK K.length cK],.string key] w fun e w'=>∃ aT' cT' aK' cK',e=.returned (.tuple #[.agg #[.slice aT' (key::T).length cT',.slice aK' K.length cK'],.int .i64 0])∧Rw w' w.heap.size aT' cT' aK' cK' (key::T) K∧Below w.heap.size w w':=by
 obtain ⟨hok,hk,hin,hm⟩:=adE_zero hE
 have h0:=ckw_ok hok hk
 have hT:T.length≤300:=by omega
 have hK:K.length≤300:=by omega
 obtain ⟨w2,hw2,hb2,hA,hR,hs2⟩:=begin2 w (.slice aT T.length cT) (.slice aK K.length cK)
 have HC:=Hid.m (checkWith_any T K aT aK cT cK key w2 (hTl.below hb2) (hKl.below hb2) hT hK)
 rw [h0] at HC
 have HIX:=Hid.m (fun W (hb:Below w2.heap.size w2 W)=>indexOf_any aT T cT key W ((hTl.below hb2).below hb))
 have HIY:=Hid.m (fun W (hb:Below w2.heap.size w2 W)=>indexOf_any aK K cK key W ((hKl.below hb2).below hb))
 have HMN:=Hid.m (fun W=>many_any aT aK T.length cT K.length cK W (by omega) (by omega))
 have HCP:=Hid.m (fun W (hb:Below w2.heap.size w2 W)=>copied_any T K aT aK cT cK W ((hTl.below hb2).below hb) ((hKl.below hb2).below hb) hT hK)
 obtain ⟨mm,hmm⟩:∃ mm:Int,mm=(T.length:Int)+(K.length:Int):=⟨_,rfl⟩
 rw [← hmm] at HMN
 have hm1:(mm==256)=false:=by simp;omega
 have HT3:Hid (T.length≤1000):=by show _≤_;omega
 obtain ⟨T',hT'⟩:∃ T',T'=key::T:=⟨_,rfl⟩
 rw [← hT']
 have HT':=Hid.m hT'
 have HB2:=Hid.m hb2
 have HR:=Hid.m hR
 have HA:=Hid.m hA
 have HS2:=Hid.m hs2
 have HI:Hid (key∉T):=fun h=>hin (List.mem_append.2 (.inr h))
 have HI2:Hid (key∉K):=fun h=>hin (List.mem_append.2 (.inl h))
 clear hTl hKl hT hK hb2 hA hR h0 hs2 hin hm hmm hok hk hE hT'
 go_enter Tryz.func172,Tryz.ntmps172
 go_upto_region 1 with (fail)
 rw [← hw2]
 clear hw2
 obtain ⟨c0,c1,f0,f1,l0⟩:=HA.out
 go_upto_region 9 with (first
  | (go_at_call 237;refine (HCP.out _ (HB3.out.trans (HB4.out.mono HB3.out.size))).mono ?_;rintro e w5 ⟨aX,cX,aY,cY,rfl,hRw,hb5⟩;have HRw:=Hid.m hRw;have HB5:=Hid.m hb5;clear hRw hb5)
  | (go_at_call 236;refine (HMN.out _).mono ?_;rintro e wi ⟨rfl,hwi⟩;have HB4:Hid (Below w3.heap.size w3 wi):=(by rw [hwi];exact (Below.refl _ _).alloc (Nat.le_refl _) _);clear hwi c0 c1 f0 f1 l0;obtain ⟨c0,c1,f0,f1,l0⟩:=(HA3.out.below HB4.out);have HR4:=Hid.m (HR3.out.below HB4.out))
  | (go_at_call 235;refine (HIY.out _ mark.out).mono ?_;rintro e wi ⟨i,rfl,hix,hwi⟩;obtain rfl:w3=wi:=hwi.symm;obtain rfl:=hix.no HI2.out;clear hix)
  | (go_at_call 235;refine (HIX.out _ HB3.out).mono ?_;rintro e wi ⟨i,rfl,hix,hwi⟩;obtain rfl:w3=wi:=hwi.symm;obtain rfl:=hix.no HI.out;clear hix;have mark:=HB3)
  | (go_at_call 234;refine HC.out.mono ?_;rintro e w3 ⟨rfl,hb3⟩;have HB3:=Hid.m hb3;clear c0 c1 f0 f1 l0;obtain ⟨c0,c1,f0,f1,l0⟩:=HA.out.below hb3;have HA3:=Hid.m (HA.out.below hb3);have HR3:=Hid.m (HR.out.below hb3);clear hb3))
 have hb4:=HB2.out.trans ((HB3.out.trans (HB4.out.mono HB3.out.size)).mono HB2.out.size)
 have HL:Hid (Lf w (w5.alloc (Obj.cells #[.slice aX T.length cX,.slice aY K.length cY] 108)) w.heap.size w5.heap.size (w.heap.size+1) aX cX aY cY T K):=
  Lf.begin (w2:=w2) (b2:=0) (b3:=0) (hb4.trans (HB5.out.mono hb4.size)) HR4.out HB5.out hb4.size HRw.out
 clear hb4
 obtain ⟨W5,hW5⟩:∃ W5,W5=w5.alloc (Obj.cells #[.slice aX T.length cX,.slice aY K.length cY] 108):=⟨_,rfl⟩
 obtain ⟨C,hC⟩:∃ C,C=w5.heap.size:=⟨_,rfl⟩
 rw [← hW5,← hC] at HL
 rw [← hW5,← hC]
 clear hW5 hC c0 c1 f0 f1 l0 HB4 HB5 HRw HC mark
 obtain ⟨c0,c1,f0,f1,l0⟩:=HL.out.ob
 have hbs:w.heap.size≤W5.heap.size:=HL.out.be.size
 have HIN:=Hid.m (insert_any (W5.alloc (Obj.cells #[.string key] 9)) w.heap.size _ T (HL.out.rw_.t.alloc _) key W5.heap.size (alloc_heap _ _) (fun e=>by have:=(HL.out.rw_.t.lt _ e).2;omega) (by simp;omega) HT3.out)
 rw [← HT'.out] at HIN
 go_wp2_with (go_at_call 238;refine HIN.out.mono ?_;rintro e w7 ⟨v7,rfl,hO7,hG7⟩;have HO7:=Hid.m hO7;obtain ⟨a7,c7,rfl,hT7⟩:=hO7.tl;have HG7:=Hid.m hG7.alloc;clear hO7 hT7 hG7 c0 c1 f0 f1 l0;have HL7:=Hid.m (HL.out.chT HO7.out HG7.out);obtain ⟨c0,c1,f0,f1,l0⟩:=HL.out.ob.grown HG7.out.grown (fun e=>(HL.out.ft _ e).1 rfl);obtain ⟨b0,b1,_,_,_⟩:=HL7.out.ob;obtain ⟨r0,r1,s0,s1,l1⟩:=HL7.out.rs)
 obtain ⟨hRA,hBA,q0,q1,_,_,_⟩:=HL7.out.answer (by omega)
 try simp only [Exit.inBlock,Exit.then]
 exact bodyPost_ret (v:=.tuple #[.agg #[.slice a7 T'.length c7,.slice aY K.length cY],.int .i64 0]) (by simp [results,Tryz.results172,go_sem,q0,q1]) rfl ⟨a7,c7,aY,cY,rfl,hRA,hBA⟩
end Go.Proofs.YtcdpiefflnaghaaGreatDoor.Lr
