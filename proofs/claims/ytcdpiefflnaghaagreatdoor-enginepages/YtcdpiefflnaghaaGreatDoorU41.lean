/-
  Package engine and what stands beneath it, part 41: contracts of functions, and what they rest on.
-/
import Derived.Shelf.Abstract
import Derived.Lib.SliceRun
import Derived.Test.YtcdpiefflnaghaaGreatDoorU02
import Derived.Test.YtcdpiefflnaghaaGreatDoorU03
set_option linter.unusedSimpArgs false
set_option linter.unusedVariables false
set_option maxRecDepth 100000
namespace Go.Proofs.YtcdpiefflnaghaaGreatDoor
open Go.RowKit Go.Sort Go.Shelf
set_option maxHeartbeats 2000000 in
theorem pnames_any (c:Cm)(ko:Option Addr)(kc:Nat)(w:World)(h:GRd ES w ko c.keys kc):
  Calls Tryz.prog 44 #[.agg (c.arr (.slice ko c.keys.length kc))] w fun e w'=>∃ v,e=.returned (.tuple #[v,.int .i64 c.chkE])∧GOwn EN w' w.heap.size v c.nmL∧RowKit.Below w.heap.size w w':=by
 have HK:=Hid.m (fun W (hW:RowKit.Below w.heap.size w W)=>pcheck_any c ko kc W (h.below hW))
 have HM:=Hid.m (Cm.At.made c (.slice ko c.keys.length kc) w)
 have HR:=Hid.m h
 have hlen:=h.len
 have HST:=Hid.m (fun k hk=>@names_step c k hk)
 have HNL:Hid (c.names.length=c.keys.length):=by show _=_;simp [Cm.names]
 have HL8:Hid (c.may=true→c.keys.length≤8):=fun e=>Cm.kOk_len (Cm.may_parts e).2.2.1
 unfold Cm.chkE at HK
 unfold Cm.chkE Cm.nmL
 obtain ⟨M,hM⟩:∃ M,M=c.may:=⟨_,rfl⟩
 rw [← hM] at HK HL8 ⊢
 obtain ⟨N,hN⟩:∃ N,N=c.names:=⟨_,rfl⟩
 rw [← hN] at HST HNL ⊢
 clear hM hN h
 obtain ⟨kind,tenant,keys,value,flags,life,unique,by_⟩:=c
 unfold Cm.arr at *
 dsimp only at *
 obtain ⟨W,hW⟩:∃ W,W=w.alloc (.cells #[.int .u8 kind,.int .i64 tenant,.slice ko keys.length kc,.string value,.int .u32 flags,.int .i64 life,.int .u64 unique,.int .u64 by_] 37):=⟨_,rfl⟩
 have HB:Hid (RowKit.Below w.heap.size w W):=by rw [hW];exact g_alloc _ _
 rw [← hW] at HM
 obtain ⟨hlt,c0,c1,c2,c3,c4,c5,c6,c7⟩:=HM.out
 dsimp only at c0 c1 c2 c3 c4 c5 c6 c7
 cases M
 ·rw [if_neg (by decide)] at HK
  rw [if_neg (by decide),if_neg (by decide)]
  go_enter Tryz.func44,Tryz.ntmps44
  go_upto_region 1 with (fail)
  rw [← hW]
  clear hW
  go_wp2_with (go_at_call 83;refine (HK.out _ HB.out).mono ?_;rintro e w1 ⟨rfl,hb1⟩)
  go_ret2
  exact ⟨_,rfl,GOwn.nil _ _,g_on HB.out hb1⟩
 rw [if_pos rfl] at HK
 rw [if_pos rfl,if_pos rfl]
 have hl8:=HL8.out rfl
 go_enter Tryz.func44,Tryz.ntmps44
 go_upto_region 1 with (fail)
 rw [← hW]
 clear hW
 go_wp2_with (go_at_call 83;refine (HK.out _ HB.out).mono ?_;rintro e w1 ⟨rfl,hb1⟩;have HB1:=Hid.m (g_on HB.out hb1);have HM1:=Hid.m (HM.out.below hb1);clear hb1 c0 c1 c2 c3 c4 c5 c6 c7 hlt;obtain ⟨hlt,c0,c1,c2,c3,c4,c5,c6,c7⟩:=HM1.out;dsimp only at c0 c1 c2 c3 c4 c5 c6 c7)
 clear c0 c1 c2 c3 c4 c5 c6 c7 hlt HM HB HK HL8
 go_loopw [5,7,16] (fun v _ i wr=>∃ (k:Nat) (v5:Value),k≤keys.length∧i=.int .i64 k∧v=v5∧Hid (RowKit.Below w1.heap.size w1 wr)∧Hid (GOwn EN wr w1.heap.size v5 (N.take k))) (fun _ _ i _=>keys.length - (RowKit.intOf i).toNat)
 case atStart=>exact ⟨0,_,Nat.zero_le _,rfl,rfl,RowKit.Below.refl _ _,by show GOwn _ _ _ _ _;rw [List.take_zero];exact GOwn.nil _ _⟩
 case round=>
  obtain ⟨k,v5,hkn,rfl,rfl,HBW,HOW⟩:=hrel
  have hbz:=HBW.out.size
  obtain ⟨hlt,c0,c1,c2,c3,c4,c5,c6,c7⟩:=HM1.out.below HBW.out
  dsimp only at c0 c1 c2 c3 c4 c5 c6 c7
  by_cases hkl:k<keys.length
  ·have hkl2:(k:Int)<(keys.length:Int):=by omega
   have hne:keys≠[]:=by intro e;rw [e] at hkl;simp at hkl
   obtain ⟨b,off,rfl,hbl,hcs⟩:=((HR.out.below HB1.out).below HBW.out).str hne
   have r0:=hcs k hkl
   obtain ⟨p,hpe⟩:∃ p,p=keys[k]:=⟨_,rfl⟩
   have HE:=Hid.m (HST.out k hkl)
   rw [← hpe] at r0 HE
   have HLT:Hid ((N.take k).length+1≤1000000):=by show _≤_;rw [List.length_take,HNL.out];omega
   clear hcs hne hpe
   go_wp2_with (at_builtin;refine g_one (w0:=wr) okN rfl _ _ _ rfl rfl w1.heap.size _ (N.take k) HOW.out rfl (tenant,p) rfl _ rfl rfl HLT.out hbz ?_;intro v7 w7 hO7 hG7;have HO7:=Hid.m hO7;have HG7:=Hid.m hG7;clear hO7 hG7)
   go_roundw
   case rel=>exact ⟨k+1,v7,by omega,by go_num,rfl,HBW.out.trans (HG7.out.below HOW.out hbz),by show GOwn _ _ _ _ _;rw [HE.out];exact HO7.out⟩
   case measure=>simp [RowKit.intOf];omega
  ·have ek:N.take k=N:=List.take_of_length_le (by rw [HNL.out];omega)
   rw [ek] at HOW
   have hkl2:¬ ((k:Int)<(keys.length:Int)):=by omega
   clear ek
   go_wp2
   go_ret2
   exact ⟨_,rfl,HOW.out.down HB1.out.size,g_on HB1.out HBW.out⟩
end Go.Proofs.YtcdpiefflnaghaaGreatDoor
