/-
  Package engine and what stands beneath it, part 48: contracts of functions, and what they rest on.
-/
import Derived.Test.YtpinkmndjabbjaaGreatDoorU06
set_option linter.unusedSimpArgs false
set_option linter.unusedVariables false
set_option maxRecDepth 100000
namespace Go.Proofs.YtpinkmndjabbjaaGreatDoor.En
open Go.Proofs.YtpinkmndjabbjaaGreatDoor.Lr
open Go.Proofs.YtpinkmndjabbjaaGreatDoor.Qt
open Go.Proofs.YtpinkmndjabbjaaGreatDoor.Sb
open Go.RowKit Go.Proofs.YtpinkmndjabbjaaGreatDoor
def blk (L:List (Int × Im))(t:Int)(k:ByteArray):List Im:=(L.filter fun z=>decide (nm z=(t,k))).map Prod.snd
theorem getsOf_eq (L:List (Int × Im))(t:Int)(ks:List ByteArray):getsOf L t ks=ks.flatMap (blk L t):=rfl
theorem gets_take (L:List (Int × Im))(t:Int)(ks:List ByteArray)(i:Nat)(hi:i<ks.length):getsOf L t (ks.take (i+1))=getsOf L t (ks.take i)++blk L t ks[i]:=by
 rw [getsOf_eq,getsOf_eq,List.take_add_one,List.getElem?_eq_getElem hi,List.flatMap_append]
 simp
theorem blk_take (L:List (Int × Im))(t:Int)(key:ByteArray)(k:Nat)(hk:k<L.length):blk (L.take (k+1)) t key=blk (L.take k) t key++(if nm L[k]=(t,key) then [L[k].2] else []):=by
 unfold blk
 rw [List.take_add_one,List.getElem?_eq_getElem hk,List.filter_append,List.map_append]
 by_cases h:nm L[k]=(t,key)
 ·simp [h]
 ·simp [h]
theorem gets_at (L:List (Int × Im))(t:Int)(ks:List ByteArray)(i:Nat)(hi:i<ks.length)(k:Nat)(hk:k<L.length)(h:nm L[k]=(t,ks[i])):(getsOf L t ks)[(getsOf L t (ks.take i)).length+(blk (L.take k) t ks[i]).length]? = some L[k].2:=by
 have e1:getsOf L t ks=getsOf L t (ks.take i)++(blk L t ks[i]++getsOf L t (ks.drop (i+1))):=by
  rw [← List.append_assoc,← gets_take L t ks i hi,getsOf_eq,getsOf_eq,getsOf_eq,← List.flatMap_append,List.take_append_drop]
 have e2:blk L t ks[i]=blk (L.take k) t ks[i]++(L[k].2::blk (L.drop (k+1)) t ks[i]):=by
  have:L=L.take (k+1)++L.drop (k+1):=(List.take_append_drop _ _).symm
  conv=>lhs;rw [this]
  have hb:∀ a b:List (Int × Im),blk (a++b) t ks[i]=blk a t ks[i]++blk b t ks[i]:=by intro a b;unfold blk;rw [List.filter_append,List.map_append]
  rw [hb,blk_take L t ks[i] k hk,if_pos h]
  simp
 rw [e1,List.getElem?_append_right (by omega),e2]
 simp
theorem nm_eq {z:Int × Im}{t:Int}{k:ByteArray}:nm z=(t,k)↔z.1=t∧z.2.key=k:=by
 unfold nm
 constructor
 ·intro h;exact ⟨congrArg Prod.fst h,congrArg Prod.snd h⟩
 ·intro h;rw [h.1,h.2]
theorem j_t {a b:Int}(h:a=b):(a==b)=true:=by simp [h]
theorem j_f {a b:Int}(h:¬ a=b):(a==b)=false:=by simpa using h
set_option maxHeartbeats 8000000 in
theorem gets_done (now number:Int)(c:Cm)(L:List (Int × Im))(I:List Im)(hI:I=getsOf L c.tenant c.keys)(ko so io:Option Addr)(kc sc ic:Nat)(w:World)(h:GRd EK w ko L kc)(hs:GRd ES w so c.keys sc)(hi:GRd EJ w io I ic):
  Calls Tryz.prog 26 #[.agg #[.int .i64 now,.slice ko L.length kc],.agg (c.arr (.slice so c.keys.length sc)),.agg #[.int .u8 1,.slice io I.length ic,.int .u64 number]] w fun e w'=>e=.returned (.bool true)∧Below w.heap.size w w':=by
 obtain ⟨kind,tenant,keys,value,flags,life,unique,by_⟩:=c
 unfold Cm.arr
 dsimp only at *
 obtain ⟨W,hW⟩:∃ W,W=((w.alloc (.cells #[.int .i64 now,.slice ko L.length kc] 70)).alloc (.cells #[.int .u8 kind,.int .i64 tenant,.slice so keys.length sc,.string value,.int .u32 flags,.int .i64 life,.int .u64 unique,.int .u64 by_] 37)).alloc (.cells #[.int .u8 1,.slice io I.length ic,.int .u64 number] 30):=⟨_,rfl⟩
 have HB:Hid (Below w.heap.size w W):=by rw [hW];exact g_on (g_on (g_alloc _ _) (g_alloc _ _)) (g_alloc _ _)
 have x1:W.cell? ⟨w.heap.size,1,none⟩=some (.slice ko L.length kc):=by
  rw [hW]
  have:=((GBx.made w [.int .i64 now,.slice ko L.length kc] 70).alloc (.cells #[.int .u8 kind,.int .i64 tenant,.slice so keys.length sc,.string value,.int .u32 flags,.int .i64 life,.int .u64 unique,.int .u64 by_] 37)).alloc (.cells #[.int .u8 1,.slice io I.length ic,.int .u64 number] 30)
  simpa using this.c 1 (by simp)
 have hX1:GBx W (w.heap.size+1) [.int .u8 kind,.int .i64 tenant,.slice so keys.length sc,.string value,.int .u32 flags,.int .i64 life,.int .u64 unique,.int .u64 by_]:=by
  rw [hW]
  have:=(GBx.made (w.alloc (.cells #[.int .i64 now,.slice ko L.length kc] 70)) [.int .u8 kind,.int .i64 tenant,.slice so keys.length sc,.string value,.int .u32 flags,.int .i64 life,.int .u64 unique,.int .u64 by_] 37).alloc (.cells #[.int .u8 1,.slice io I.length ic,.int .u64 number] 30)
  rw [show (w.alloc (.cells #[.int .i64 now,.slice ko L.length kc] 70)).heap.size=w.heap.size+1 by simp] at this
  exact this
 have hX2:GBx W (w.heap.size+2) [.int .u8 1,.slice io I.length ic,.int .u64 number]:=by
  rw [hW]
  have:=GBx.made ((w.alloc (.cells #[.int .i64 now,.slice ko L.length kc] 70)).alloc (.cells #[.int .u8 kind,.int .i64 tenant,.slice so keys.length sc,.string value,.int .u32 flags,.int .i64 life,.int .u64 unique,.int .u64 by_] 37)) [.int .u8 1,.slice io I.length ic,.int .u64 number] 30
  rw [show ((w.alloc (.cells #[.int .i64 now,.slice ko L.length kc] 70)).alloc (.cells #[.int .u8 kind,.int .i64 tenant,.slice so keys.length sc,.string value,.int .u32 flags,.int .i64 life,.int .u64 unique,.int .u64 by_] 37)).heap.size=w.heap.size+2 by simp] at this
  exact this
 have y1:=hX1.c 1 (by simp)
 have y2:=hX1.c 2 (by simp)
 have z0:=hX2.c 0 (by simp)
 have z1:=hX2.c 1 (by simp)
 simp only [List.getElem_cons_zero,List.getElem_cons_succ] at y1 y2 z0 z1
 have lt1:=hX1.lt
 have lt2:=hX2.lt
 have lt0:w.heap.size<W.heap.size:=by omega
 have HL:=Hid.m (h.below HB.out)
 have HS:=Hid.m (hs.below HB.out)
 have HI:=Hid.m (hi.below HB.out)
 have hlen:=h.len
 have hlens:=hs.len
 have hleni:=hi.len
 have HIE:=Hid.m hI
 clear h hs hi hX1 hX2 hI
 go_enter Tryz.func26,Tryz.ntmps26
 go_upto_region 1 with (fail)
 rw [← hW]
 clear hW
 go_wp2
 go_loopw [7,8,9] (fun a i _ wr=>∃ k n m:Nat,k≤keys.length∧i=.int .i64 k∧a=.int .i64 m∧wr=W.drewN n∧Hid (m=(getsOf L tenant (keys.take k)).length)) (fun _ i _ _=>keys.length - (intOf i).toNat)
 case atStart=>exact ⟨0,0,0,Nat.zero_le _,rfl,rfl,rfl,by show _=_;simp [getsOf]⟩
 case round=>
  obtain ⟨k,n,m,hk,rfl,rfl,rfl,HM⟩:=hrel
  by_cases hkl:k<keys.length
  ·have hkl2:(k:Int)<(keys.length:Int):=by omega
   have hne:keys≠[]:=by intro e;rw [e] at hkl;simp at hkl
   obtain ⟨bs,offs,rfl,hbs,hcs⟩:=HS.out.str hne
   have r0:=hcs k hkl
   obtain ⟨p,hpe⟩:∃ p,p=keys[k]:=⟨_,rfl⟩
   have HT:=Hid.m (gets_take L tenant keys k hkl)
   have HAT:=Hid.m (fun j hj=>gets_at L tenant keys k hkl j hj)
   rw [← hpe] at r0 HT HAT
   rw [← HIE.out] at HAT
   clear hcs hne hpe
   go_wp2
   go_loopw [7,9] (fun a j wr=>∃ q n m':Nat,q≤L.length∧j=.int .i64 q∧a=.int .i64 m'∧wr=W.drewN n∧Hid (m'=(getsOf L tenant (keys.take k)).length+(blk (L.take q) tenant p).length)) (fun _ j _=>L.length - (intOf j).toNat)
   case atStart=>exact ⟨0,n,m,Nat.zero_le _,rfl,rfl,rfl,by show _=_;rw [HM.out];simp [blk]⟩
   case round=>
    obtain ⟨q,n2,m2,hq,rfl,rfl,rfl,HM2⟩:=hrel
    by_cases hql:q<L.length
    ·have hql2:(q:Int)<(L.length:Int):=by omega
     have hne:L≠[]:=by intro e;rw [e] at hql;simp at hql
     obtain ⟨b,off,rfl,hbl,hcs⟩:=HL.out.kp hne
     obtain ⟨v0,v1,v2,v3,v4,v5⟩:=hcs q hql
     have HBT:=Hid.m (blk_take L tenant p q hql)
     have HA1:=Hid.m (HAT.out q hql)
     obtain ⟨z,hz⟩:∃ z,z=L[q]:=⟨_,rfl⟩
     rw [← hz] at v0 v1 v2 v3 v4 v5 HBT HA1
     clear hcs hne hz
     by_cases ht:z.1=tenant
     ·have gt:=j_t ht
      by_cases hkk:z.2.key=p
      ·have gk:=ba_eq hkk
       have hat:=HA1.out (nm_eq.2 ⟨ht,hkk⟩)
       rw [← HM2.out] at hat
       have hmi:m2<I.length:=(List.getElem?_eq_some_iff.1 hat).1
       have hneI:I≠[]:=by intro e;rw [e] at hmi;simp at hmi
       obtain ⟨bi,offi,rfl,hbi,hci⟩:=HI.out.ij hneI
       obtain ⟨i0,i1,i2,i3,i4⟩:=hci m2 z.2 hat
       have hmi2:(m2:Int)<(I.length:Int):=by omega
       have hmi3:¬ ((I.length:Int)≤(m2:Int)):=by omega
       have HM3:Hid (m2+1=(getsOf L tenant (keys.take k)).length+(blk (L.take (q+1)) tenant p).length):=by
        show _=_
        rw [HBT.out,if_pos (nm_eq.2 ⟨ht,hkk⟩),HM2.out]
        simp
        omega
       clear hat hneI hci ht hkk
       go_wp2
       go_quiet (fail)
       go_wp2
       go_quiet (fail)
       go_wp2
       go_roundw
       case rel=>exact ⟨q+1,_,m2+1,by omega,by go_num,by go_num,by first | rfl | (rw [World.drewN_drewN,World.drewN_drewN]),HM3⟩
       case measure=>simp [intOf];omega
      ·have gk:=ba_ne hkk
       have HM3:Hid (m2=(getsOf L tenant (keys.take k)).length+(blk (L.take (q+1)) tenant p).length):=by
        show _=_
        rw [HBT.out,if_neg (fun e=>hkk (nm_eq.1 e).2),List.append_nil]
        exact HM2.out
       clear ht hkk
       go_wp2
       go_quiet (fail)
       go_wp2
       go_roundw
       case rel=>exact ⟨q+1,_,m2,by omega,by go_num,rfl,by first | rfl | exact World.drewN_drewN _ _ _,HM3⟩
       case measure=>simp [intOf];omega
     ·have gt:=j_f ht
      have HM3:Hid (m2=(getsOf L tenant (keys.take k)).length+(blk (L.take (q+1)) tenant p).length):=by
       show _=_
       rw [HBT.out,if_neg (fun e=>ht (nm_eq.1 e).1),List.append_nil]
       exact HM2.out
      clear ht
      go_wp2
      go_quiet (fail)
      go_wp2
      go_roundw
      case rel=>exact ⟨q+1,_,m2,by omega,by go_num,rfl,by first | rfl | exact World.drewN_drewN _ _ _,HM3⟩
      case measure=>simp [intOf];omega
    ·have hql2:¬ ((q:Int)<(L.length:Int)):=by omega
     have HM4:Hid (m2=(getsOf L tenant (keys.take (k+1))).length):=by
      show _=_
      rw [HT.out,HM2.out,List.take_of_length_le (l:=L) (by omega),List.length_append]
     go_wp2
     go_roundw
     case rel=>exact ⟨k+1,n2,m2,by omega,by go_num,rfl,rfl,HM4⟩
     case measure=>simp [intOf];omega
  ·have hkl2:¬ ((k:Int)<(keys.length:Int)):=by omega
   have em:m=I.length:=by rw [HM.out,HIE.out,List.take_of_length_le (by omega)]
   have em2:((m:Int)==(I.length:Int))=true:=by simp [em]
   clear em
   go_wp2
   go_ret
   exact ⟨rfl,g_quiet_on n HB.out⟩
set_option maxHeartbeats 4000000 in
theorem gets_else (now number kd:Int)(hkd:¬ kd=1)(c:Cm)(L:List (Int × Im))(ko so:Option Addr)(kc sc:Nat)(ic:Nat)(io:Option Addr)(w:World)(h:GRd EK w ko L kc)(hs:GRd ES w so c.keys sc):
  Calls Tryz.prog 26 #[.agg #[.int .i64 now,.slice ko L.length kc],.agg (c.arr (.slice so c.keys.length sc)),.agg #[.int .u8 kd,.slice io 0 ic,.int .u64 number]] w fun e w'=>e=.returned (.bool true)∧Below w.heap.size w w':=by
 obtain ⟨kind,tenant,keys,value,flags,life,unique,by_⟩:=c
 unfold Cm.arr
 dsimp only at *
 have hlens:=hs.len
 have g1:=j_f hkd
 clear h hs hkd
 go_enter Tryz.func26,Tryz.ntmps26
 by_cases hz:(0:Int)<(keys.length:Int)
 ·go_wp2
  go_loopw [7,8,9] (fun a i _ wr=>i=.int .i64 0∧a=.int .i64 0∧wr=((w.alloc (.cells #[.int .i64 now,.slice ko L.length kc] 70)).alloc (.cells #[.int .u8 kind,.int .i64 tenant,.slice so keys.length sc,.string value,.int .u32 flags,.int .i64 life,.int .u64 unique,.int .u64 by_] 37)).alloc (.cells #[.int .u8 kd,.slice io 0 ic,.int .u64 number] 30)) (fun _ _ _ _=>0)
  case atStart=>exact ⟨rfl,rfl,rfl⟩
  case round=>
   obtain ⟨rfl,rfl,rfl⟩:=hrel
   go_wp2
   go_ret
   exact ⟨rfl,g_on (g_on (g_alloc _ _) (g_alloc _ _)) (g_alloc _ _)⟩
 ·go_wp2
  go_loopw [7,8,9] (fun a i _ wr=>i=.int .i64 0∧a=.int .i64 0∧wr=((w.alloc (.cells #[.int .i64 now,.slice ko L.length kc] 70)).alloc (.cells #[.int .u8 kind,.int .i64 tenant,.slice so keys.length sc,.string value,.int .u32 flags,.int .i64 life,.int .u64 unique,.int .u64 by_] 37)).alloc (.cells #[.int .u8 kd,.slice io 0 ic,.int .u64 number] 30)) (fun _ _ _ _=>0)
  case atStart=>exact ⟨rfl,rfl,rfl⟩
  case round=>
   obtain ⟨rfl,rfl,rfl⟩:=hrel
   go_wp2
   go_ret
   exact ⟨rfl,g_on (g_on (g_alloc _ _) (g_alloc _ _)) (g_alloc _ _)⟩
end Go.Proofs.YtpinkmndjabbjaaGreatDoor.En
