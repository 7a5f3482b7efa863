/-
  Package engine and what stands beneath it, part 09: contracts of functions, and what they rest on.
-/
import Derived.Test.YtcdpiefflnaghaaGreatDoorU02
import Derived.Test.YtcdpiefflnaghaaGreatDoorU03
import Derived.Test.YtcdpiefflnaghaaGreatDoorU06
import Derived.Test.YtcdpiefflnaghaaGreatDoorU04
import Derived.Test.YtcdpiefflnaghaaGreatDoorU05
import Derived.Test.YtcdpiefflnaghaaGreatDoorU08
set_option linter.unusedSimpArgs false
set_option linter.unusedVariables false
set_option maxRecDepth 100000
namespace Go.Proofs.YtcdpiefflnaghaaGreatDoor.En
open Go.RowKit Go.Proofs.YtcdpiefflnaghaaGreatDoor
def lgC (c:Cm):Bool:=decide (2000<c.value.size) || decide (40<c.keys.length) || c.keys.any fun k=>decide (200<k.size)
set_option maxHeartbeats 2000000 in
theorem rlong_any (c:Cm)(ko:Option Addr)(kc:Nat)(w:World)(h:GRd ES w ko c.keys kc):
  Calls Tryz.prog 97 #[.agg (c.arr (.slice ko c.keys.length kc))] w fun e w'=>e=.returned (.bool (lgC c))∧Below w.heap.size w w':=by
 have HM:=Hid.m (Cm.At.made c (.slice ko c.keys.length kc) w)
 have HR:=Hid.m h
 have hlen:=h.len
 obtain ⟨G,hG⟩:∃ G,G=(lgC c):=⟨_,rfl⟩
 rw [← hG]
 unfold lgC at hG
 have HG:=Hid.m hG
 clear hG h
 obtain ⟨kind,tenant,keys,value,flags,life,unique,by_⟩:=c
 unfold Cm.arr at *
 dsimp only at *
 obtain ⟨W,hW⟩:∃ W,W=w.alloc (.cells #[.int .u8 kind,.int .i64 tenant,.slice ko keys.length kc,.string value,.int .u32 flags,.int .i64 life,.int .u64 unique,.int .u64 by_] 37):=⟨_,rfl⟩
 have HB:Hid (Below w.heap.size w W):=by rw [hW];exact g_alloc _ _
 rw [← hW] at HM
 obtain ⟨hlt,c0,c1,c2,c3,c4,c5,c6,c7⟩:=HM.out
 dsimp only at c0 c1 c2 c3 c4 c5 c6 c7
 go_enter Tryz.func97,Tryz.ntmps97
 go_upto_region 1 with (fail)
 rw [← hW]
 clear hW
 by_cases a1:2000<value.size
 ·have e:G=true:=by rw [HG.out];simp [a1]
  subst e
  have a1':(2000:Int)<(value.size:Int):=by omega
  go_wp2
  go_ret
  exact ⟨rfl,HB.out⟩
 have a1':¬ ((2000:Int)<(value.size:Int)):=by omega
 by_cases a2:40<keys.length
 ·have e:G=true:=by rw [HG.out];simp [a2]
  subst e
  have a2':(40:Int)<(keys.length:Int):=by omega
  go_wp2
  go_ret
  exact ⟨rfl,HB.out⟩
 have a2':¬ ((40:Int)<(keys.length:Int)):=by omega
 have HG2:Hid (G=keys.any fun k=>decide (200<k.size)):=by show G=_;rw [HG.out];simp [a1,a2]
 clear HG a1 a2
 go_wp2
 go_loopw [4] (fun i wr=>∃ k:Nat,k≤keys.length∧i=.int .i64 k∧wr=W∧Hid (∀ j (hj:j<keys.length),j<k→¬ 200<keys[j].size)) (fun i _=>keys.length - (intOf i).toNat)
 case atStart=>exact ⟨0,Nat.zero_le _,rfl,rfl,fun _ _ h=>absurd h (by omega)⟩
 case round=>
  obtain ⟨k,hk,rfl,rfl,HA⟩:=hrel
  by_cases hkl:k<keys.length
  ·have hkl2:(k:Int)<(keys.length:Int):=by omega
   have hne:keys≠[]:=by intro e;rw [e] at hkl;simp at hkl
   obtain ⟨b,off,rfl,hbl,hcs⟩:=(HR.out.below HB.out).str hne
   have r0:=hcs k hkl
   obtain ⟨p,hpe⟩:∃ p,p=keys[k]:=⟨_,rfl⟩
   rw [← hpe] at r0
   by_cases hp:200<p.size
   ·have e:G=true:=by
     rw [HG2.out,List.any_eq_true]
     exact ⟨keys[k],List.getElem_mem hkl,by rw [← hpe];simpa using hp⟩
    subst e
    have hp1:(200:Int)<(p.size:Int):=by omega
    clear HG2 HA hcs hne hpe
    go_wp2
    go_ret
    exact ⟨rfl,HB.out⟩
   ·have hp1:¬ ((200:Int)<(p.size:Int)):=by omega
    have HA2:Hid (∀ j (hj:j<keys.length),j<k+1→¬ 200<keys[j].size):=by
     intro j hj hjk
     by_cases e:j=k
     ·subst e;rw [← hpe];exact hp
     ·exact HA.out j hj (by omega)
    clear HA hcs hne hpe hp
    go_wp2
    go_roundw
    case rel=>exact ⟨k+1,by omega,by go_num,by first | rfl | trivial,HA2⟩
    case measure=>simp [intOf];omega
  ·have e:G=false:=by
    rw [HG2.out,List.any_eq_false]
    intro x hx
    obtain ⟨j,hj,rfl⟩:=List.getElem_of_mem hx
    have:=HA.out j hj (by omega)
    simpa using this
   subst e
   clear HG2 HA
   go_wp2
   go_ret
   exact ⟨rfl,HB.out⟩
structure Cd where
 c:Cm
 so:Option Addr
 sc:Nat
def Cd.cl (d:Cd):List Value:=[.int .u8 d.c.kind,.int .i64 d.c.tenant,.slice d.so d.c.keys.length d.sc,.string d.c.value,.int .u32 d.c.flags,.int .i64 d.c.life,.int .u64 d.c.unique,.int .u64 d.c.by_]
def ED:GEl Cd:=⟨37,124,8,88,.agg #[.int .u8 0,.int .i64 0,.slice none 0 0,.string ⟨#[]⟩,.int .u32 0,.int .i64 0,.int .u64 0,.int .u64 0],Cd.cl⟩
theorem okD:GOk ED:=⟨Tryz.underlying124,by kernel_rfl,rfl,by decide,by decide,fun _=>rfl,fun a u h=>by simp [ED,Cd.cl] at h;rcases h with rfl | rfl | rfl | rfl | rfl | rfl | rfl | rfl <;> rfl⟩
structure Opr where
 kind:Int
 d:Cd
 tenant:Int
 dest:Int
def Opr.cl (o:Opr):List Value:=[.int .u8 o.kind,.int .u8 o.d.c.kind,.int .i64 o.d.c.tenant,.slice o.d.so o.d.c.keys.length o.d.sc,.string o.d.c.value,.int .u32 o.d.c.flags,.int .i64 o.d.c.life,.int .u64 o.d.c.unique,.int .u64 o.d.c.by_,.int .i64 o.tenant,.int .i64 o.dest]
def EO:GEl Opr:=⟨61,47,11,112,.agg #[.int .u8 0,.int .u8 0,.int .i64 0,.slice none 0 0,.string ⟨#[]⟩,.int .u32 0,.int .i64 0,.int .u64 0,.int .u64 0,.int .i64 0,.int .i64 0],Opr.cl⟩
theorem okO:GOk EO:=⟨Tryz.underlying47,by kernel_rfl,rfl,by decide,by decide,fun _=>rfl,fun a u h=>by simp [EO,Opr.cl] at h;rcases h with rfl | rfl | rfl | rfl | rfl | rfl | rfl | rfl | rfl | rfl | rfl <;> rfl⟩
theorem _root_.Go.Proofs.YtcdpiefflnaghaaGreatDoor.GRd.cd {w:World}{ao:Option Addr}{l:List Cd}{cap:Nat}(h:GRd ED w ao l cap)(hne:l≠[]):∃ b off,ao=some ⟨b,off,none⟩∧b<w.heap.size∧∀ i (hi:i<l.length),w.cell? ⟨b,off+i * 8,none⟩=some (.int .u8 l[i].c.kind)∧w.cell? ⟨b,off+i * 8+1,none⟩=some (.int .i64 l[i].c.tenant)∧w.cell? ⟨b,off+i * 8+2,none⟩=some (.slice l[i].so l[i].c.keys.length l[i].sc)∧w.cell? ⟨b,off+i * 8+3,none⟩=some (.string l[i].c.value)∧w.cell? ⟨b,off+i * 8+4,none⟩=some (.int .u32 l[i].c.flags)∧w.cell? ⟨b,off+i * 8+5,none⟩=some (.int .i64 l[i].c.life)∧w.cell? ⟨b,off+i * 8+6,none⟩=some (.int .u64 l[i].c.unique)∧w.cell? ⟨b,off+i * 8+7,none⟩=some (.int .u64 l[i].c.by_):=by
 obtain ⟨b,off,e,hb,hc⟩:=h.lies hne
 refine ⟨b,off,e,hb,fun i hi=>?_⟩
 have h0:=hc i hi 0 (by decide)
 have h1:=hc i hi 1 (by decide)
 have h2:=hc i hi 2 (by decide)
 have h3:=hc i hi 3 (by decide)
 have h4:=hc i hi 4 (by decide)
 have h5:=hc i hi 5 (by decide)
 have h6:=hc i hi 6 (by decide)
 have h7:=hc i hi 7 (by decide)
 exact ⟨by simpa [ED,Cd.cl] using h0,by simpa [ED,Cd.cl] using h1,by simpa [ED,Cd.cl] using h2,by simpa [ED,Cd.cl] using h3,by simpa [ED,Cd.cl] using h4,by simpa [ED,Cd.cl] using h5,by simpa [ED,Cd.cl] using h6,by simpa [ED,Cd.cl] using h7⟩
theorem _root_.Go.Proofs.YtcdpiefflnaghaaGreatDoor.GRd.op {w:World}{ao:Option Addr}{l:List Opr}{cap:Nat}(h:GRd EO w ao l cap)(hne:l≠[]):∃ b off,ao=some ⟨b,off,none⟩∧b<w.heap.size∧∀ i (hi:i<l.length) (j:Nat) (hj:j<(l[i].cl).length),w.cell? ⟨b,off+i * 11+j,none⟩=some (l[i].cl)[j]:=by
 obtain ⟨b,off,e,hb,hc⟩:=h.lies hne
 refine ⟨b,off,e,hb,fun i hi j hj=>?_⟩
 have h0:=hc i hi j hj
 rw [show EO.cells l[i]=l[i].cl from rfl,List.getElem?_eq_getElem hj] at h0
 exact h0
structure Ops (w:World)(ao:Option Addr)(l:List Opr)(cap:Nat):Prop where
 row:GRd EO w ao l cap
 keys:∀ o∈l,GRd ES w o.d.so o.d.c.keys o.d.sc
 by_:∀ o∈l,0≤o.d.c.by_∧o.d.c.by_≤18446744073709551615
theorem Ops.below {w w':World}{ao:Option Addr}{l:List Opr}{cap:Nat}(h:Ops w ao l cap)(hb:Below w.heap.size w w'):Ops w' ao l cap:=⟨h.row.below hb,fun o ho=>(h.keys o ho).below hb,h.by_⟩
set_option maxHeartbeats 4000000 in
theorem commands_any (l:List Opr)(ao:Option Addr)(cap:Nat)(w:World)(h:GRd EO w ao l cap)(hl:l.length≤1000):
  Calls Tryz.prog 53 #[.slice ao l.length cap] w fun e w'=>∃ v,e=.returned v∧GOwn ED w' w.heap.size v (l.map Opr.d)∧Below w.heap.size w w':=by
 have HR:=Hid.m h
 have hlen:=h.len
 clear h
 obtain ⟨M,hM⟩:∃ M,M=l.map Opr.d:=⟨_,rfl⟩
 have HML:Hid (M.length=l.length):=by show _=_;rw [hM];simp
 have HST:Hid (∀ k (hk:k<l.length),M.take (k+1)=M.take k++[l[k].d]):=by
  intro k hk
  rw [hM,List.take_add_one,List.getElem?_eq_getElem (by simpa using hk)]
  simp
 rw [← hM]
 clear hM
 go_enter Tryz.func53,Tryz.ntmps53
 go_wp2
 go_loopw [3,4] (fun v i wr=>∃ (k:Nat) (v5:Value),k≤l.length∧i=.int .i64 k∧v=v5∧Hid (Below w.heap.size w wr)∧Hid (GOwn ED wr w.heap.size v5 (M.take k))) (fun _ i _=>l.length - (intOf i).toNat)
 case atStart=>exact ⟨0,_,Nat.zero_le _,rfl,rfl,Below.refl _ _,by show GOwn _ _ _ _ _;rw [List.take_zero];exact GOwn.nil _ _⟩
 case round=>
  obtain ⟨k,v5,hkn,rfl,rfl,HBW,HOW⟩:=hrel
  have hbz:=HBW.out.size
  by_cases hkl:k<l.length
  ·have hkl2:(k:Int)<(l.length:Int):=by omega
   have hne:l≠[]:=by intro e;rw [e] at hkl;simp at hkl
   obtain ⟨b,off,rfl,hbl,hcs⟩:=(HR.out.below HBW.out).op hne
   have r1:=hcs k hkl 1 (by simp [Opr.cl])
   have r2:=hcs k hkl 2 (by simp [Opr.cl])
   have r3:=hcs k hkl 3 (by simp [Opr.cl])
   have r4:=hcs k hkl 4 (by simp [Opr.cl])
   have r5:=hcs k hkl 5 (by simp [Opr.cl])
   have r6:=hcs k hkl 6 (by simp [Opr.cl])
   have r7:=hcs k hkl 7 (by simp [Opr.cl])
   have r8:=hcs k hkl 8 (by simp [Opr.cl])
   have HE:=Hid.m (HST.out k hkl)
   simp only [Opr.cl,List.getElem_cons_zero,List.getElem_cons_succ] at r1 r2 r3 r4 r5 r6 r7 r8
   obtain ⟨p,hpe⟩:∃ p,p=l[k].d:=⟨_,rfl⟩
   rw [← hpe] at r1 r2 r3 r4 r5 r6 r7 r8 HE
   have HLT:Hid ((M.take k).length+1≤1000000):=by show _≤_;rw [List.length_take,HML.out];omega
   clear hcs hne hpe
   go_wp2_with (at_builtin;refine g_one (w0:=wr) okD rfl _ _ _ rfl rfl w.heap.size _ (M.take k) HOW.out rfl p rfl _ rfl rfl HLT.out hbz ?_;intro v7 w7 hO7 hG7;have HO7:=Hid.m hO7;have HG7:=Hid.m hG7;clear hO7 hG7)
   go_roundw
   case rel=>exact ⟨k+1,v7,by omega,by go_num,rfl,HBW.out.trans (HG7.out.below HOW.out hbz),by show GOwn _ _ _ _ _;rw [HE.out];exact HO7.out⟩
   case measure=>simp [intOf];omega
  ·have ek:M.take k=M:=List.take_of_length_le (by rw [HML.out];omega)
   rw [ek] at HOW
   have hkl2:¬ ((k:Int)<(l.length:Int)):=by omega
   clear ek
   go_wp2
   go_ret
   exact ⟨_,rfl,HOW.out,HBW.out⟩
set_option maxHeartbeats 4000000 in
theorem rgreat_any (l:List Cd)(ao:Option Addr)(cap:Nat)(w:World)(h:GRd ED w ao l cap)(hk:∀ d∈l,GRd ES w d.so d.c.keys d.sc)(hl:l.length≤120):
  Calls Tryz.prog 52 #[.slice ao l.length cap] w fun e w'=>e=.returned (.bool (l.any fun d=>lgC d.c))∧Below w.heap.size w w':=by
 have HR:=Hid.m h
 have HKS:=Hid.m hk
 have hlen:=h.len
 have hl2:¬ ((120:Int)<(l.length:Int)):=by omega
 obtain ⟨G,hG⟩:∃ G,G=l.any fun d=>lgC d.c:=⟨_,rfl⟩
 rw [← hG]
 have HG:=Hid.m hG
 clear h hk hG
 go_enter Tryz.func52,Tryz.ntmps52
 go_wp2
 go_loopw [3] (fun i wr=>∃ k:Nat,k≤l.length∧i=.int .i64 k∧Hid (Below w.heap.size w wr)∧Hid (∀ j (hj:j<l.length),j<k→lgC l[j].c=false)) (fun i _=>l.length - (intOf i).toNat)
 case atStart=>exact ⟨0,Nat.zero_le _,rfl,Below.refl _ _,fun _ _ h=>absurd h (by omega)⟩
 case round=>
  obtain ⟨k,hkn,rfl,HBW,HA⟩:=hrel
  by_cases hkl:k<l.length
  ·have hkl2:(k:Int)<(l.length:Int):=by omega
   have hne:l≠[]:=by intro e;rw [e] at hkl;simp at hkl
   obtain ⟨b,off,rfl,hbl,hcs⟩:=(HR.out.below HBW.out).cd hne
   obtain ⟨r0,r1,r2,r3,r4,r5,r6,r7⟩:=hcs k hkl
   have HLG:=Hid.m (rlong_any l[k].c l[k].so l[k].sc wr ((HKS.out l[k] (List.getElem_mem hkl)).below HBW.out))
   obtain ⟨p,hpe⟩:∃ p,p=l[k]:=⟨_,rfl⟩
   rw [← hpe] at r0 r1 r2 r3 r4 r5 r6 r7 HLG
   unfold Cm.arr at HLG
   clear hcs hne
   cases hp:lgC p.c
   ·have HA2:Hid (∀ j (hj:j<l.length),j<k+1→lgC l[j].c=false):=by
     intro j hj hjk
     by_cases e:j=k
     ·subst e;rw [← hpe];exact hp
     ·exact HA.out j hj (by omega)
    rw [hp] at HLG
    clear HA hpe hp
    go_wp2_with (go_at_call 97;refine HLG.out.mono ?_;rintro e w4 ⟨rfl,hb4⟩;have HB4:=Hid.m hb4;clear hb4)
    go_roundw
    case rel=>exact ⟨k+1,by omega,by go_num,g_on HBW.out HB4.out,HA2⟩
    case measure=>simp [intOf];omega
   ·have e:G=true:=by
     rw [HG.out,List.any_eq_true]
     exact ⟨l[k],List.getElem_mem hkl,by rw [← hpe];exact hp⟩
    subst e
    rw [hp] at HLG
    clear HA hpe hp HG
    go_wp2_with (go_at_call 97;refine HLG.out.mono ?_;rintro e w4 ⟨rfl,hb4⟩;have HB4:=Hid.m hb4;clear hb4)
    go_ret
    exact ⟨rfl,g_on HBW.out HB4.out⟩
  ·have e:G=false:=by
    rw [HG.out,List.any_eq_false]
    intro x hx
    obtain ⟨j,hj,rfl⟩:=List.getElem_of_mem hx
    have:=HA.out j hj (by omega)
    simp [this]
   subst e
   have hkl2:¬ ((k:Int)<(l.length:Int)):=by omega
   clear HG HA
   go_wp2
   go_ret
   exact ⟨rfl,HBW.out⟩
def grt (l:List Opr)(q:Nat):Bool:=decide (120<l.length) || decide (20<q) || l.any fun o=>lgC o.d.c
set_option maxHeartbeats 4000000 in
theorem great_any (l:List Opr)(ao qo:Option Addr)(cap qn qc:Nat)(w:World)(h:Ops w ao l cap)(hq:qn≤9223372036854775807):
  Calls Tryz.prog 17 #[.slice ao l.length cap,.slice qo qn qc] w fun e w'=>e=.returned (.bool (grt l qn))∧Below w.heap.size w w':=by
 have HR:=Hid.m h
 have hlen:=h.row.len
 obtain ⟨G,hG⟩:∃ G,G=grt l qn:=⟨_,rfl⟩
 rw [← hG]
 unfold grt at hG
 have HG:=Hid.m hG
 clear h hG
 by_cases h1:120<l.length
 ·have h1':(120:Int)<(l.length:Int):=by omega
  have e:G=true:=by rw [HG.out];simp [h1]
  subst e
  clear HG h1
  go_enter Tryz.func17,Tryz.ntmps17
  go_wp2
  go_ret
  exact ⟨rfl,Below.refl _ _⟩
 have h1':¬ ((120:Int)<(l.length:Int)):=by omega
 by_cases h2:20<qn
 ·have h2':(20:Int)<(qn:Int):=by omega
  have e:G=true:=by rw [HG.out];simp [h2]
  subst e
  clear HG h1 h2
  go_enter Tryz.func17,Tryz.ntmps17
  go_wp2
  go_ret
  exact ⟨rfl,Below.refl _ _⟩
 have h2':¬ ((20:Int)<(qn:Int)):=by omega
 have HG2:Hid (G=(l.map Opr.d).any fun d=>lgC d.c):=by show _=_;rw [HG.out];simp [h1,h2,List.any_map,Function.comp_def]
 have HC:=Hid.m (commands_any l ao cap w HR.out.row (by omega))
 have HL:Hid (l.length≤120):=by show _≤_;omega
 clear HG h1 h2
 go_enter Tryz.func17,Tryz.ntmps17
 go_wp2_with (first
  | (go_at_call 53;refine HC.out.mono ?_;rintro e w4 ⟨v4,rfl,hO4,hb4⟩;obtain ⟨a4,c4,hv4,hR4⟩:=hO4.rd okD;subst hv4;have HB4:=Hid.m hb4;have HGR:=Hid.m (rgreat_any (l.map Opr.d) a4 c4 w4 hR4 (by intro d hd;obtain ⟨o,ho,rfl⟩:=List.mem_map.1 hd;exact (HR.out.keys o ho).below hb4) (by rw [List.length_map];exact HL.out));rw [List.length_map] at HGR;rw [← HG2.out] at HGR;clear hO4 hb4 hR4)
  | (go_at_call 52;refine HGR.out.mono ?_;rintro e w5 ⟨rfl,hb5⟩;have HB5:=Hid.m hb5;clear hb5))
 go_ret
 exact ⟨rfl,g_on HB4.out HB5.out⟩
end Go.Proofs.YtcdpiefflnaghaaGreatDoor.En
namespace Go.Proofs.YtcdpiefflnaghaaGreatDoor.En
open Go.Proofs.YtcdpiefflnaghaaGreatDoor.It
open Go.Proofs.YtcdpiefflnaghaaGreatDoor.Lr
open Go.Proofs.YtcdpiefflnaghaaGreatDoor.Qt
open Go.Proofs.YtcdpiefflnaghaaGreatDoor.Sb
open Go.RowKit Go.Proofs.YtcdpiefflnaghaaGreatDoor
structure Kpt (F:Nat→Prop)(w w':World):Prop where
 os:w'.os=w.os
 tape:w'.tape=w.tape
 output:w'.output=w.output
 size:w.heap.size≤w'.heap.size
 block:∀ k,k<w.heap.size→¬ F k→w'.heap[k]? = w.heap[k]?
theorem Kpt.of {F:Nat→Prop}{w w':World}(h:Below w.heap.size w w'):Kpt F w w':=⟨h.os,h.tape,h.output,h.size,fun k hk _=>h.block k hk⟩
theorem Kpt.below {F:Nat→Prop}{B:Nat}{w w':World}(h:Kpt F w w')(hF:∀ k,F k→B≤k)(hB:B≤w.heap.size):Below B w w':=
 ⟨h.os,h.tape,h.output,h.size,fun k hk=>h.block k (by omega) (fun hf=>by have:=hF k hf;omega)⟩
theorem Kpt.trans {F F':Nat→Prop}{w w1 w2:World}(h:Kpt F w w1)(h':Kpt F' w1 w2)(hF:∀ k,F' k→F k∨w.heap.size≤k):Kpt F w w2:=
 ⟨h'.os.trans h.os,h'.tape.trans h.tape,h'.output.trans h.output,Nat.le_trans h.size h'.size,fun k hk hf=>by
  have h1:¬ F' k:=fun hf'=>by
   rcases hF k hf' with h2 | h2
   ·exact hf h2
   ·omega
  rw [h'.block k (Nat.lt_of_lt_of_le hk h.size) h1,h.block k hk hf]⟩
def Off (F:Nat→Prop)(ao:Option Addr):Prop:=∀ a,ao=some a→¬ F a.block
theorem _root_.Go.Proofs.YtcdpiefflnaghaaGreatDoor.GRd.kpt {α:Type}{E:GEl α}{F:Nat→Prop}{w w':World}{ao:Option Addr}{l:List α}{cap:Nat}(h:GRd E w ao l cap)(hk:Kpt F w w')(ho:Off F ao):GRd E w' ao l cap:=by
 refine ⟨h.hl,h.hc,h.hn,?_⟩
 rcases h.at_ with e | ⟨b,off,e,hb,hc⟩
 ·exact .inl e
 ·refine .inr ⟨b,off,e,Nat.lt_of_lt_of_le hb hk.size,fun i hi j hj=>?_⟩
  rw [World.cell?_of_block (w:=w) (a:=⟨b,off+i * E.sz+j,none⟩) (hk.block b hb (ho _ e))]
  exact hc i hi j hj
def Nw (w:World)(ao:Option Addr):Prop:=∀ a,ao=some a→w.heap.size≤a.block
def Opr.opn (o:Opr):Opn:=if o.kind=0 then .cmd o.d.c else if o.kind=1 then .clock o.dest else .quota o.tenant o.dest
structure Leaves (R:Nat→World→Value→Sh→(Nat→Prop)→Prop)(n:Nat)(e:Value)(s:Sh)(F:Nat→Prop)(w w':World)(lo:Option Addr)(C:List Ch)(lc:Nat)(F':Nat→Prop):Prop where
 rep:R n w' e s F'
 kpt:Kpt F w w'
 sub:∀ k,F' k→F k∨w.heap.size≤k
 chs:GRd EC w' lo C lc
 off:Off F' lo
 nw:Nw w lo
def Calm (Tb:World→Prop)(w:World)(F:Nat→Prop):Prop:=∃ B,B≤w.heap.size∧(∀ k,F k→B≤k)∧∀ w',Below B w w'→Tb w'
theorem Calm.tb {Tb:World→Prop}{w:World}{F:Nat→Prop}(h:Calm Tb w F):Tb w:=by
 obtain ⟨B,_,_,h3⟩:=h
 exact h3 w (Below.refl _ _)
theorem Calm.on {Tb:World→Prop}{w w':World}{F F':Nat→Prop}(h:Calm Tb w F)(hk:Kpt F w w')(hs:∀ k,F' k→F k∨w.heap.size≤k):Calm Tb w' F':=by
 obtain ⟨B,h1,h2,h3⟩:=h
 refine ⟨B,Nat.le_trans h1 hk.size,fun k hk'=>?_,fun w2 h4=>h3 w2 ((hk.below h2 h1).trans h4)⟩
 rcases hs k hk' with h5 | h5
 ·exact h2 k h5
 ·omega
theorem Calm.below {Tb:World→Prop}{w w':World}{F:Nat→Prop}(h:Calm Tb w F)(hb:Below w.heap.size w w'):Calm Tb w' F:=h.on (Kpt.of hb) (fun _ hk=>.inl hk)
structure Eng (Tb:World→Prop)(R:Nat→World→Value→Sh→(Nat→Prop)→Prop):Prop where
 lt:∀ {n w e s F},R n w e s F→∀ k,F k→k<w.heap.size
 stab:∀ {n w w' e s F},R n w e s F→w.heap.size≤w'.heap.size→(∀ k,F k→w'.heap[k]? = w.heap[k]?)→R n w' e s F
 inv:∀ {n w e s F},R n w e s F→Inv s
 ptr:∀ {n w e s F},R n w e s F→∃ a,e=.pointer (some a)
 make:∀ (n:Nat) (q:List Int) (now:Int) (qo:Option Addr) (qc:Nat) (w:World),chkE n q=0→momI now=true→GRd EI w qo q qc→
  Calls Tryz.prog 11 #[.int .i64 n,.slice qo q.length qc,.int .i64 now] w fun x w'=>∃ e F,x=.returned (.tuple #[e,.int .i64 0])∧R 0 w' e (Sh.new n q now) F∧(∀ k,F k→w.heap.size≤k)∧Below w.heap.size w w'
 makes:∀ (n:Int) (q:List Int) (now:Int) (qo:Option Addr) (qc:Nat) (w:World),¬ (0≤n∧chkE n.toNat q=0∧momI now=true)→GRd EI w qo q qc→
  Calls Tryz.prog 11 #[.int .i64 n,.slice qo q.length qc,.int .i64 now] w fun x w'=>∃ f:Int,x=.returned (.tuple #[.pointer none,.int .i64 f])∧¬ f=0∧Below w.heap.size w w'
 cmd:∀ {n w e s F} (d:Cd),n<1000→Calm Tb w F→R n w e s F→GRd ES w d.so d.c.keys d.sc→(d.c.keys≠[]→Off F d.so)→(0≤d.c.by_∧d.c.by_≤18446744073709551615)→
  Calls Tryz.prog 12 #[e,.agg d.cl.toArray] w fun x w'=>∃ io ic lo lc f F',x=.returned (.tuple #[.agg #[.int .u8 (s.op (.cmd d.c)).2.1.kind,.slice io (s.op (.cmd d.c)).2.1.items.length ic,.int .u64 (s.op (.cmd d.c)).2.1.number],.slice lo (s.op (.cmd d.c)).2.2.1.length lc,.int .i64 f])∧((f==0)=(s.op (.cmd d.c)).2.2.2)∧GRd EJ w' io (s.op (.cmd d.c)).2.1.items ic∧Off F' io∧Nw w io∧Leaves R (n+1) e (s.op (.cmd d.c)).1 F w w' lo (s.op (.cmd d.c)).2.2.1 lc F'
 clock:∀ {n w e s F} (m:Int),n<1000→R n w e s F→
  Calls Tryz.prog 15 #[e,.int .i64 m] w fun x w'=>∃ lo lc f F',x=.returned (.tuple #[.slice lo (s.op (.clock m)).2.2.1.length lc,.int .i64 f])∧((f==0)=(s.op (.clock m)).2.2.2)∧Leaves R (n+1) e (s.op (.clock m)).1 F w w' lo (s.op (.clock m)).2.2.1 lc F'
 quota:∀ {n w e s F} (t p:Int),n<1000→R n w e s F→
  Calls Tryz.prog 60 #[e,.int .i64 t,.int .i64 p] w fun x w'=>∃ lo lc f F',x=.returned (.tuple #[.slice lo (s.op (.quota t p)).2.2.1.length lc,.int .i64 f])∧((f==0)=(s.op (.quota t p)).2.2.2)∧Leaves R (n+1) e (s.op (.quota t p)).1 F w w' lo (s.op (.quota t p)).2.2.1 lc F'
 image:∀ {n w e s F},R n w e s F→
  Calls Tryz.prog 14 #[e] w fun x w'=>∃ qo qc ko kc F',x=.returned (.tuple #[.agg (imB s.now (.slice qo s.quotas.length qc) (.slice ko s.kept.length kc) 0 0 false).toArray,.int .i64 0])∧GRd EI w' qo s.quotas qc∧Off F' qo∧Nw w qo∧GRd EK w' ko s.kept kc∧Off F' ko∧Nw w ko∧R n w' e s F'∧Kpt F w w'∧(∀ k,F' k→F k∨w.heap.size≤k)
theorem Kpt.grown {w w':World}{b:Nat}(h:w.grownBy w' (some b)):Kpt (fun k=>k=b) w w':=⟨h.os,h.tape,h.output,h.size,fun k hk hne=>h.block k hk (by intro e;exact hne (Option.some.inj e))⟩
theorem _root_.Go.Proofs.YtcdpiefflnaghaaGreatDoor.GBx.kpt {F:Nat→Prop}{w w':World}{b:Nat}{vs:List Value}(h:GBx w b vs)(hk:Kpt F w w')(hb:¬ F b):GBx w' b vs:=by
 have e:w'.heap[b]? = w.heap[b]?:=hk.block b h.lt hb
 exact ⟨Nat.lt_of_lt_of_le h.lt hk.size,fun j=>(World.frozen?_of_block (a:=⟨b,j,none⟩) e).trans (h.f j),fun j hj=>(World.cell?_of_block (a:=⟨b,j,none⟩) e).trans (h.c j hj)⟩
section
variable {Tb:World→Prop} {R:Nat→World→Value→Sh→(Nat→Prop)→Prop}
theorem Eng.on (E:Eng Tb R){n:Nat}{w w':World}{e:Value}{s:Sh}{F:Nat→Prop}(h:R n w e s F)(hb:Below w.heap.size w w'):R n w' e s F:=E.stab h hb.size fun k hk=>hb.block k (E.lt h k hk)
theorem Leaves.on (E:Eng Tb R){n:Nat}{e:Value}{s:Sh}{F F':Nat→Prop}{w W w1 w2:World}{lo:Option Addr}{C:List Ch}{lc b:Nat}(h:Leaves R n e s F W w1 lo C lc F')(hw:Below w.heap.size w W)(hb0:w.heap.size≤b)(hb1:b<W.heap.size)(hF:∀ k,F k→k<w.heap.size)(hk:Kpt (fun k=>k=b) w1 w2):Leaves R n e s F w w2 lo C lc F':=by
 have hne:∀ k,F' k→k≠b:=by
  intro k hk e
  rcases h.sub k hk with h1 | h1
  ·have:=hF k h1;omega
  ·omega
 refine ⟨E.stab h.rep hk.size fun k hk'=>hk.block k (E.lt h.rep k hk') (hne k hk'),?_,?_,h.chs.kpt hk ?_,h.off,?_⟩
 ·exact ((Kpt.of hw).trans h.kpt fun k hf=>.inl hf).trans hk fun k e=>.inr (by omega)
 ·intro k hk'
  rcases h.sub k hk' with h1 | h1
  ·exact .inl h1
  ·exact .inr (by have:=hw.size;omega)
 ·intro a ha e
  have:=h.nw a ha
  omega
 ·intro a ha
  have:=h.nw a ha
  have:=hw.size
  omega
end
end Go.Proofs.YtcdpiefflnaghaaGreatDoor.En
namespace Go.Proofs.YtcdpiefflnaghaaGreatDoor.En
open Go.Proofs.YtcdpiefflnaghaaGreatDoor.It
open Go.Proofs.YtcdpiefflnaghaaGreatDoor.Lr
open Go.Proofs.YtcdpiefflnaghaaGreatDoor.Qt
open Go.Proofs.YtcdpiefflnaghaaGreatDoor.Sb
open Go.RowKit Go.Proofs.YtcdpiefflnaghaaGreatDoor
theorem zero_f {n:Int}(h:¬ n=0):(n==0)=false:=by simpa using h
theorem op_clock (s:Sh)(m:Int):(s.op (.clock m)).2.1=⟨0,[],0⟩:=by unfold Sh.op;simp only;split <;> rfl
theorem op_quota (s:Sh)(t p:Int):(s.op (.quota t p)).2.1=⟨0,[],0⟩:=by unfold Sh.op;simp only;split <;> rfl
section
variable {Tb:World→Prop} {R:Nat→World→Value→Sh→(Nat→Prop)→Prop}
set_option maxHeartbeats 8000000 in
theorem do_any (E:Eng Tb R){m:Nat}{w:World}{e:Value}{s:Sh}{F:Nat→Prop}(o:Opr)(hm:m<1000)(hca:Calm Tb w F)(h:R m w e s F)(hk:GRd ES w o.d.so o.d.c.keys o.d.sc)(ho:o.d.c.keys≠[]→Off F o.d.so)(hby:0≤o.d.c.by_∧o.d.c.by_≤18446744073709551615):
  Calls Tryz.prog 25 #[e,.agg o.cl.toArray] w fun x w'=>∃ io ic lo lc F',x=.returned (.tuple #[.agg #[.int .u8 (s.op o.opn).2.1.kind,.slice io (s.op o.opn).2.1.items.length ic,.int .u64 (s.op o.opn).2.1.number],.slice lo (s.op o.opn).2.2.1.length lc,.bool (s.op o.opn).2.2.2])∧GRd EJ w' io (s.op o.opn).2.1.items ic∧Off F' io∧Nw w io∧Leaves R (m+1) e (s.op o.opn).1 F w w' lo (s.op o.opn).2.2.1 lc F':=by
 have HLT:=Hid.m (E.lt h)
 obtain ⟨W,hW⟩:∃ W,W=(w.alloc (.cells o.cl.toArray 61)).alloc (.cells #[.int .u8 0,.slice none 0 0,.int .u64 0] 30):=⟨_,rfl⟩
 have HB:Hid (Below w.heap.size w W):=by rw [hW];exact g_on (g_alloc _ _) (g_alloc _ _)
 have HX:Hid (GBx W w.heap.size o.cl):=by rw [hW];exact (GBx.made w o.cl _).alloc _
 have HY:Hid (GBx W (w.heap.size+1) [.int .u8 0,.slice none 0 0,.int .u64 0]):=by
  rw [hW]
  have:=GBx.made (w.alloc (.cells o.cl.toArray 61)) [.int .u8 0,.slice none 0 0,.int .u64 0] 30
  rw [show (w.alloc (.cells o.cl.toArray 61)).heap.size=w.heap.size+1 by simp] at this
  exact this
 have HR:=Hid.m (E.on h HB.out)
 have HM:=Hid.m hm
 have HCA:=Hid.m (hca.below HB.out)
 clear hm hca
 have HK:=Hid.m (hk.below HB.out)
 have HO:=Hid.m ho
 have HBY:=Hid.m hby
 clear hby
 have hlt1:=HY.out.lt
 have hlt:=HX.out.lt
 have HNB:Hid (¬ F (w.heap.size+1)):=fun hf=>by have:=HLT.out _ hf;omega
 obtain ⟨a,rfl⟩:=E.ptr h
 have c0:=HX.out.c 0 (by simp [Opr.cl])
 have c1:=HX.out.c 1 (by simp [Opr.cl])
 have c2:=HX.out.c 2 (by simp [Opr.cl])
 have c3:=HX.out.c 3 (by simp [Opr.cl])
 have c4:=HX.out.c 4 (by simp [Opr.cl])
 have c5:=HX.out.c 5 (by simp [Opr.cl])
 have c6:=HX.out.c 6 (by simp [Opr.cl])
 have c7:=HX.out.c 7 (by simp [Opr.cl])
 have c8:=HX.out.c 8 (by simp [Opr.cl])
 have c9:=HX.out.c 9 (by simp [Opr.cl])
 have c10:=HX.out.c 10 (by simp [Opr.cl])
 simp only [Opr.cl,List.getElem_cons_zero,List.getElem_cons_succ] at c0 c1 c2 c3 c4 c5 c6 c7 c8 c9 c10
 unfold Opr.cl at hW ⊢
 clear h hk ho HX
 obtain ⟨n,hn⟩:∃ n,n=o.opn:=⟨_,rfl⟩
 rw [← hn]
 unfold Opr.opn at hn
 obtain ⟨t,ht⟩:∃ t,t=s.op n:=⟨_,rfl⟩
 rw [← ht]
 obtain ⟨s1,⟨rk,rI,rn⟩,C,ok⟩:=t
 dsimp only
 by_cases k0:o.kind=0
 ·have g0:(o.kind==0)=true:=by rw [k0];rfl
  have hn2:n=.cmd o.d.c:=by rw [hn,if_pos k0]
  have HC:=Hid.m (E.cmd o.d HM.out HCA.out HR.out HK.out HO.out HBY.out)
  rw [← hn2,← ht] at HC
  dsimp only at HC
  unfold Cd.cl at HC
  clear k0 hn hn2 ht
  go_enter Tryz.func25,Tryz.ntmps25
  go_upto_region 1 with (fail)
  rw [← hW]
  clear hW
  go_upto_region 4 with (go_at_call 12;refine HC.out.mono ?_;rintro x w1 ⟨io,ic,lo,lc,f,F',rfl,hf,hI,hoI,hnI,hL⟩;have HF:=Hid.m hf;have HI:=Hid.m hI;have HOI:=Hid.m hoI;have HNI:=Hid.m hnI;have HL:=Hid.m hL;clear hf hI hoI hnI hL c0 c1 c2 c3 c4 c5 c6 c7 c8 c9 c10)
  obtain ⟨V,hV⟩:∃ V,V=w1.alloc (.cells #[.int .u8 rk,.slice io rI.length ic,.int .u64 rn] 30):=⟨_,rfl⟩
  have hY1:GBx V (w.heap.size+1) [.int .u8 0,.slice none 0 0,.int .u64 0]:=by rw [hV];exact (HY.out.kpt HL.out.kpt HNB.out).alloc _
  have hZ:GBx V w1.heap.size [.int .u8 rk,.slice io rI.length ic,.int .u64 rn]:=by rw [hV];exact GBx.made w1 _ _
  have HG:Hid (w1.grownBy (((V.setCell ⟨w.heap.size+1,0,none⟩ (.int .u8 rk)).setCell ⟨w.heap.size+1,1,none⟩ (.slice io rI.length ic)).setCell ⟨w.heap.size+1,2,none⟩ (.int .u64 rn)) (some (w.heap.size+1))):=by
   have q0:w1.grownBy V (some (w.heap.size+1)):=by rw [hV];exact World.grownBy_alloc w1 _ _
   have q1:V.grownBy (V.setCell ⟨w.heap.size+1,0,none⟩ (.int .u8 rk)) (some (w.heap.size+1)):=g_set V ⟨w.heap.size+1,0,none⟩ (.int .u8 rk)
   generalize V.setCell ⟨w.heap.size+1,0,none⟩ (.int .u8 rk)=V1 at q1 ⊢
   have q2:V1.grownBy (V1.setCell ⟨w.heap.size+1,1,none⟩ (.slice io rI.length ic)) (some (w.heap.size+1)):=g_set V1 ⟨w.heap.size+1,1,none⟩ (.slice io rI.length ic)
   generalize V1.setCell ⟨w.heap.size+1,1,none⟩ (.slice io rI.length ic)=V2 at q2 ⊢
   have q3:V2.grownBy (V2.setCell ⟨w.heap.size+1,2,none⟩ (.int .u64 rn)) (some (w.heap.size+1)):=g_set V2 ⟨w.heap.size+1,2,none⟩ (.int .u64 rn)
   exact q0.trans (q1.trans (q2.trans q3))
  have hX:GBx (((V.setCell ⟨w.heap.size+1,0,none⟩ (.int .u8 rk)).setCell ⟨w.heap.size+1,1,none⟩ (.slice io rI.length ic)).setCell ⟨w.heap.size+1,2,none⟩ (.int .u64 rn)) (w.heap.size+1) [.int .u8 rk,.slice io rI.length ic,.int .u64 rn]:=(((hY1.set 0 (.int .u8 rk) (by simp)).set 1 (.slice io rI.length ic) (by simp)).set 2 (.int .u64 rn) (by simp)).ext (by simp)
  have x0:=hX.c 0 (by simp)
  have x1:=hX.c 1 (by simp)
  have x2:=hX.c 2 (by simp)
  have y0:=hY1.c 0 (by simp)
  have y1:=hY1.c 1 (by simp)
  have y2:=hY1.c 2 (by simp)
  have f0:=hY1.f 0
  have f1:=hY1.f 1
  have f2:=hY1.f 2
  have z0:=hZ.c 0 (by simp)
  have z1:=hZ.c 1 (by simp)
  have z2:=hZ.c 2 (by simp)
  simp only [List.getElem_cons_zero,List.getElem_cons_succ] at x0 x1 x2 y0 y1 y2 z0 z1 z2
  have ltz:=hZ.lt
  have lty:=hY1.lt
  have ZZ0:=Hid.m x0
  have ZZ1:=Hid.m x1
  have ZZ2:=Hid.m x2
  clear x0 x1 x2 hX hY1 hZ HC HK HO
  rw [← hV]
  clear hV
  go_wp2
  try simp only [Exit.inBlock,Exit.then]
  refine bodyPost_ret (v:=.tuple #[.agg #[.int .u8 rk,.slice io rI.length ic,.int .u64 rn],.slice lo C.length lc,.bool (f==0)]) (by simp [results,Tryz.results25,go_sem,ZZ0.out,ZZ1.out,ZZ2.out]) rfl ⟨io,ic,lo,lc,F',by rw [HF.out],HI.out.kpt (Kpt.grown HG.out) ?_,HOI.out,?_,HL.out.on E HB.out (by omega) hlt1 HLT.out (Kpt.grown HG.out)⟩
  ·intro a2 ha e2
   have:=HNI.out a2 ha
   omega
  ·intro a2 ha
   have:=HNI.out a2 ha
   have:=HB.out.size
   omega
 have g0:=zero_f k0
 by_cases k1:o.kind=1
 ·have g1:(o.kind==1)=true:=by rw [k1];rfl
  have hn2:n=.clock o.dest:=by rw [hn,if_neg k0,if_pos k1]
  clear k0 k1
  have HC:=Hid.m (E.clock o.dest HM.out HR.out)
  have hr:=op_clock s o.dest
  rw [← hn2,← ht] at HC hr
  dsimp only at HC hr
  obtain ⟨rfl,rfl,rfl⟩:rk=0∧rI=[]∧rn=0:=by injection hr with h1 h2 h3;exact ⟨h1,h2,h3⟩
  clear hn hn2 ht hr
  go_enter Tryz.func25,Tryz.ntmps25
  go_upto_region 1 with (fail)
  rw [← hW]
  clear hW
  go_upto_region 7 with (go_at_call 15;refine HC.out.mono ?_;rintro x w1 ⟨lo,lc,f,F',rfl,hf,hL⟩;have HF:=Hid.m hf;have HL:=Hid.m hL;clear hf hL c0 c1 c2 c3 c4 c5 c6 c7 c8 c9 c10)
  have hY1:GBx w1 (w.heap.size+1) [.int .u8 0,.slice none 0 0,.int .u64 0]:=HY.out.kpt HL.out.kpt HNB.out
  have HG:Hid (w1.grownBy (((w1.setCell ⟨w.heap.size+1,0,none⟩ (.int .u8 0)).setCell ⟨w.heap.size+1,1,none⟩ (.slice none 0 0)).setCell ⟨w.heap.size+1,2,none⟩ (.int .u64 0)) (some (w.heap.size+1))):=by
   have q1:w1.grownBy (w1.setCell ⟨w.heap.size+1,0,none⟩ (.int .u8 0)) (some (w.heap.size+1)):=g_set w1 ⟨w.heap.size+1,0,none⟩ (.int .u8 0)
   generalize w1.setCell ⟨w.heap.size+1,0,none⟩ (.int .u8 0)=V1 at q1 ⊢
   have q2:V1.grownBy (V1.setCell ⟨w.heap.size+1,1,none⟩ (.slice none 0 0)) (some (w.heap.size+1)):=g_set V1 ⟨w.heap.size+1,1,none⟩ (.slice none 0 0)
   generalize V1.setCell ⟨w.heap.size+1,1,none⟩ (.slice none 0 0)=V2 at q2 ⊢
   have q3:V2.grownBy (V2.setCell ⟨w.heap.size+1,2,none⟩ (.int .u64 0)) (some (w.heap.size+1)):=g_set V2 ⟨w.heap.size+1,2,none⟩ (.int .u64 0)
   exact q1.trans (q2.trans q3)
  have hX:GBx (((w1.setCell ⟨w.heap.size+1,0,none⟩ (.int .u8 0)).setCell ⟨w.heap.size+1,1,none⟩ (.slice none 0 0)).setCell ⟨w.heap.size+1,2,none⟩ (.int .u64 0)) (w.heap.size+1) [.int .u8 0,.slice none 0 0,.int .u64 0]:=(((hY1.set 0 (.int .u8 0) (by simp)).set 1 (.slice none 0 0) (by simp)).set 2 (.int .u64 0) (by simp)).ext (by simp)
  have x0:=hX.c 0 (by simp)
  have x1:=hX.c 1 (by simp)
  have x2:=hX.c 2 (by simp)
  have y0:=hY1.c 0 (by simp)
  have y1:=hY1.c 1 (by simp)
  have y2:=hY1.c 2 (by simp)
  have f0:=hY1.f 0
  have f1:=hY1.f 1
  have f2:=hY1.f 2
  simp only [List.getElem_cons_zero,List.getElem_cons_succ] at x0 x1 x2 y0 y1 y2
  have lty:=hY1.lt
  have ZZ0:=Hid.m x0
  have ZZ1:=Hid.m x1
  have ZZ2:=Hid.m x2
  clear x0 x1 x2 hX hY1 HC HK HO
  go_wp2
  try simp only [Exit.inBlock,Exit.then]
  refine bodyPost_ret (v:=.tuple #[.agg #[.int .u8 0,.slice none 0 0,.int .u64 0],.slice lo C.length lc,.bool (f==0)]) (by simp [results,Tryz.results25,go_sem,ZZ0.out,ZZ1.out,ZZ2.out]) rfl ⟨none,0,lo,lc,F',by rw [HF.out],GRd.nil _,(fun _ h=>by cases h),(fun _ h=>by cases h),HL.out.on E HB.out (by omega) hlt1 HLT.out (Kpt.grown HG.out)⟩
 ·have g1:(o.kind==1)=false:=by simpa using k1
  have hn2:n=.quota o.tenant o.dest:=by rw [hn,if_neg k0,if_neg k1]
  clear k0 k1
  have HC:=Hid.m (E.quota o.tenant o.dest HM.out HR.out)
  have hr:=op_quota s o.tenant o.dest
  rw [← hn2,← ht] at HC hr
  dsimp only at HC hr
  obtain ⟨rfl,rfl,rfl⟩:rk=0∧rI=[]∧rn=0:=by injection hr with h1 h2 h3;exact ⟨h1,h2,h3⟩
  clear hn hn2 ht hr
  go_enter Tryz.func25,Tryz.ntmps25
  go_upto_region 1 with (fail)
  rw [← hW]
  clear hW
  go_upto_region 9 with (go_at_call 60;refine HC.out.mono ?_;rintro x w1 ⟨lo,lc,f,F',rfl,hf,hL⟩;have HF:=Hid.m hf;have HL:=Hid.m hL;clear hf hL c0 c1 c2 c3 c4 c5 c6 c7 c8 c9 c10)
  have hY1:GBx w1 (w.heap.size+1) [.int .u8 0,.slice none 0 0,.int .u64 0]:=HY.out.kpt HL.out.kpt HNB.out
  have HG:Hid (w1.grownBy (((w1.setCell ⟨w.heap.size+1,0,none⟩ (.int .u8 0)).setCell ⟨w.heap.size+1,1,none⟩ (.slice none 0 0)).setCell ⟨w.heap.size+1,2,none⟩ (.int .u64 0)) (some (w.heap.size+1))):=by
   have q1:w1.grownBy (w1.setCell ⟨w.heap.size+1,0,none⟩ (.int .u8 0)) (some (w.heap.size+1)):=g_set w1 ⟨w.heap.size+1,0,none⟩ (.int .u8 0)
   generalize w1.setCell ⟨w.heap.size+1,0,none⟩ (.int .u8 0)=V1 at q1 ⊢
   have q2:V1.grownBy (V1.setCell ⟨w.heap.size+1,1,none⟩ (.slice none 0 0)) (some (w.heap.size+1)):=g_set V1 ⟨w.heap.size+1,1,none⟩ (.slice none 0 0)
   generalize V1.setCell ⟨w.heap.size+1,1,none⟩ (.slice none 0 0)=V2 at q2 ⊢
   have q3:V2.grownBy (V2.setCell ⟨w.heap.size+1,2,none⟩ (.int .u64 0)) (some (w.heap.size+1)):=g_set V2 ⟨w.heap.size+1,2,none⟩ (.int .u64 0)
   exact q1.trans (q2.trans q3)
  have hX:GBx (((w1.setCell ⟨w.heap.size+1,0,none⟩ (.int .u8 0)).setCell ⟨w.heap.size+1,1,none⟩ (.slice none 0 0)).setCell ⟨w.heap.size+1,2,none⟩ (.int .u64 0)) (w.heap.size+1) [.int .u8 0,.slice none 0 0,.int .u64 0]:=(((hY1.set 0 (.int .u8 0) (by simp)).set 1 (.slice none 0 0) (by simp)).set 2 (.int .u64 0) (by simp)).ext (by simp)
  have x0:=hX.c 0 (by simp)
  have x1:=hX.c 1 (by simp)
  have x2:=hX.c 2 (by simp)
  have y0:=hY1.c 0 (by simp)
  have y1:=hY1.c 1 (by simp)
  have y2:=hY1.c 2 (by simp)
  have f0:=hY1.f 0
  have f1:=hY1.f 1
  have f2:=hY1.f 2
  simp only [List.getElem_cons_zero,List.getElem_cons_succ] at x0 x1 x2 y0 y1 y2
  have lty:=hY1.lt
  have ZZ0:=Hid.m x0
  have ZZ1:=Hid.m x1
  have ZZ2:=Hid.m x2
  clear x0 x1 x2 hX hY1 HC HK HO
  go_wp2
  try simp only [Exit.inBlock,Exit.then]
  refine bodyPost_ret (v:=.tuple #[.agg #[.int .u8 0,.slice none 0 0,.int .u64 0],.slice lo C.length lc,.bool (f==0)]) (by simp [results,Tryz.results25,go_sem,ZZ0.out,ZZ1.out,ZZ2.out]) rfl ⟨none,0,lo,lc,F',by rw [HF.out],GRd.nil _,(fun _ h=>by cases h),(fun _ h=>by cases h),HL.out.on E HB.out (by omega) hlt1 HLT.out (Kpt.grown HG.out)⟩
end
end Go.Proofs.YtcdpiefflnaghaaGreatDoor.En
namespace Go.Proofs.YtcdpiefflnaghaaGreatDoor.En
open Go.Proofs.YtcdpiefflnaghaaGreatDoor.It
open Go.Proofs.YtcdpiefflnaghaaGreatDoor.Lr
open Go.Proofs.YtcdpiefflnaghaaGreatDoor.Qt
open Go.Proofs.YtcdpiefflnaghaaGreatDoor.Sb
open Go.RowKit Go.Proofs.YtcdpiefflnaghaaGreatDoor
def exA:Cm:=⟨2,0,[⟨#[107]⟩],⟨#[118]⟩,0,0,0,0⟩
def exB:Cm:=⟨6,0,[⟨#[107]⟩],⟨#[]⟩,0,0,0,1⟩
def ex0:Sh:=Sh.new 2 [1,1] 0
noncomputable def ex1:Sh:=(ex0.op (.cmd exA)).1
theorem exA_r:(ex0.op (.cmd exA)).2=(⟨1,[],0⟩,[.put 0 ⟨⟨#[107]⟩,⟨#[118]⟩,0,0,1⟩],true):=by kernel_rfl
theorem exB_r:(ex1.op (.cmd exB)).2=(⟨6,[],0⟩,[],true):=by kernel_rfl
theorem ex_chk:chkE 2 [1,1]=0:=by kernel_rfl
def sets (w:World)(b:Nat):Nat→List Value→World
 | _,[]=>w
 | j,v::vs=>sets (w.setCell ⟨b,j,none⟩ v) b (j+1) vs
theorem sets_grown (b:Nat):∀ (vs:List Value) (w:World) (j:Nat),w.grownBy (sets w b j vs) (some b)
 | [],w,_=>World.grownBy.refl w _
 | v::vs,w,j=>by
  have h1:w.grownBy (w.setCell ⟨b,j,none⟩ v) (some b):=g_set w ⟨b,j,none⟩ v
  have h2:=sets_grown b vs (w.setCell ⟨b,j,none⟩ v) (j+1)
  exact h1.trans h2
theorem sets_box (b:Nat):∀ (vs us pre:List Value) (w:World),GBx w b (pre++us)→us.length=vs.length→GBx (sets w b pre.length vs) b (pre++vs)
 | [],[],pre,w,h,_=>h
 | v::vs,u::us,pre,w,h,hl=>by
  have h1:GBx (w.setCell ⟨b,pre.length,none⟩ v) b ((pre++[v])++us):=(h.set pre.length v (by simp)).ext (by simp)
  have h2:=sets_box b vs us (pre++[v]) (w.setCell ⟨b,pre.length,none⟩ v) h1 (by simpa using hl)
  have e:(pre++[v]).length=pre.length+1:=by simp
  rw [e] at h2
  unfold sets
  rw [show pre++v::vs=pre++[v]++vs by simp]
  exact h2
set_option maxHeartbeats 4000000 in
theorem set_any (t:Int)(k v:ByteArray)(w:World):
  Calls Tryz.prog 13 #[.int .i64 t,.string k,.string v] w fun x w'=>∃ b:Nat,x=.returned (.agg #[.int .u8 2,.int .i64 t,.slice (some ⟨b,0,none⟩) 1 1,.string v,.int .u32 0,.int .i64 0,.int .u64 0,.int .u64 0])∧GRd ES w' (some ⟨b,0,none⟩) [k] 1∧w.heap.size≤b∧Below w.heap.size w w':=by
 obtain ⟨W,hW⟩:∃ W,W=w.alloc (.cells #[.int .u8 0,.int .i64 0,.slice none 0 0,.string ⟨#[]⟩,.int .u32 0,.int .i64 0,.int .u64 0,.int .u64 0] 37):=⟨_,rfl⟩
 have hsz:W.heap.size=w.heap.size+1:=by rw [hW];simp
 have HX:Hid (GBx W w.heap.size [.int .u8 0,.int .i64 0,.slice none 0 0,.string ⟨#[]⟩,.int .u32 0,.int .i64 0,.int .u64 0,.int .u64 0]):=by rw [hW];exact GBx.made w [.int .u8 0,.int .i64 0,.slice none 0 0,.string ⟨#[]⟩,.int .u32 0,.int .i64 0,.int .u64 0,.int .u64 0] _
 have HBW:Hid (Below w.heap.size w W):=by rw [hW];exact g_alloc _ _
 obtain ⟨Z,hZ⟩:∃ Z,Z=sets W w.heap.size 0 [.int .u8 2,.int .i64 t,.slice (some ⟨w.heap.size+1,0,none⟩) 1 1,.string v,.int .u32 0,.int .i64 0,.int .u64 0,.int .u64 0]:=⟨_,rfl⟩
 have HK:Hid (Kpt (fun k=>k=w.heap.size) W Z):=by rw [hZ];exact Kpt.grown (sets_grown _ _ _ _)
 have hZB:GBx Z w.heap.size [.int .u8 2,.int .i64 t,.slice (some ⟨w.heap.size+1,0,none⟩) 1 1,.string v,.int .u32 0,.int .i64 0,.int .u64 0,.int .u64 0]:=by rw [hZ];exact sets_box w.heap.size _ _ [] W HX.out rfl
 unfold sets sets sets sets sets sets sets sets sets at hZ
 have hzs:Z.heap.size=w.heap.size+1:=by rw [hZ];simp [hsz]
 have HZA:Hid (GBx (Z.alloc (.cells #[.string k] 9)) w.heap.size [.int .u8 2,.int .i64 t,.slice (some ⟨w.heap.size+1,0,none⟩) 1 1,.string v,.int .u32 0,.int .i64 0,.int .u64 0,.int .u64 0]):=hZB.alloc _
 have HS:Hid (GRd ES (Z.alloc (.cells #[.string k] 9)) (some ⟨w.heap.size+1,0,none⟩) [k] 1):=by
  have:=g_new okS Z k
  rw [hzs] at this
  exact this
 have HBZ:Hid (Below w.heap.size w (Z.alloc (.cells #[.string k] 9))):=by
  have h1:Below w.heap.size W Z:=HK.out.below (fun k hk=>by omega) (by omega)
  exact (HBW.out.trans h1).trans ((g_alloc Z _).mono (by omega))
 have z0:=HZA.out.c 0 (by simp)
 have z1:=HZA.out.c 1 (by simp)
 have z2:=HZA.out.c 2 (by simp)
 have z3:=HZA.out.c 3 (by simp)
 have z4:=HZA.out.c 4 (by simp)
 have z5:=HZA.out.c 5 (by simp)
 have z6:=HZA.out.c 6 (by simp)
 have z7:=HZA.out.c 7 (by simp)
 simp only [List.getElem_cons_zero,List.getElem_cons_succ] at z0 z1 z2 z3 z4 z5 z6 z7
 have Z0:=Hid.m z0
 have Z1:=Hid.m z1
 have Z2:=Hid.m z2
 have Z3:=Hid.m z3
 have Z4:=Hid.m z4
 have Z5:=Hid.m z5
 have Z6:=Hid.m z6
 have Z7:=Hid.m z7
 have y0:=HX.out.c 0 (by simp)
 have y1:=HX.out.c 1 (by simp)
 have y2:=HX.out.c 2 (by simp)
 have y3:=HX.out.c 3 (by simp)
 have y4:=HX.out.c 4 (by simp)
 have y5:=HX.out.c 5 (by simp)
 have y6:=HX.out.c 6 (by simp)
 have y7:=HX.out.c 7 (by simp)
 have f0:=HX.out.f 0
 have f1:=HX.out.f 1
 have f2:=HX.out.f 2
 have f3:=HX.out.f 3
 have f4:=HX.out.f 4
 have f5:=HX.out.f 5
 have f6:=HX.out.f 6
 have f7:=HX.out.f 7
 simp only [List.getElem_cons_zero,List.getElem_cons_succ] at y0 y1 y2 y3 y4 y5 y6 y7
 have hlt:=HX.out.lt
 clear z0 z1 z2 z3 z4 z5 z6 z7 hZB HX HZA hzs
 have HZE:=Hid.m hZ
 clear hZ
 go_enter Tryz.func13,Tryz.ntmps13
 go_upto_region 1 with (fail)
 rw [← hW]
 clear hW
 go_wp2
 try simp only [Exit.inBlock,Exit.then]
 rw [← HZE.out]
 refine bodyPost_ret (v:=.agg #[.int .u8 2,.int .i64 t,.slice (some ⟨w.heap.size+1,0,none⟩) 1 1,.string v,.int .u32 0,.int .i64 0,.int .u64 0,.int .u64 0]) (by simp [results,Tryz.results13,go_sem,Z0.out,Z1.out,Z2.out,Z3.out,Z4.out,Z5.out,Z6.out,Z7.out]) rfl ⟨w.heap.size+1,rfl,HS.out,by omega,HBZ.out⟩
section
variable {Tb:World→Prop} {R:Nat→World→Value→Sh→(Nat→Prop)→Prop}
theorem doA (E:Eng Tb R){n:Nat}(hn:n<1000){w:World}{e:Value}{F:Nat→Prop}{b:Nat}(hc:Calm Tb w F)(h:R n w e ex0 F)(hs:GRd ES w (some ⟨b,0,none⟩) [⟨#[107]⟩] 1)(hb:¬ F b):
  Calls Tryz.prog 12 #[e,.agg #[.int .u8 2,.int .i64 0,.slice (some ⟨b,0,none⟩) 1 1,.string ⟨#[118]⟩,.int .u32 0,.int .i64 0,.int .u64 0,.int .u64 0]] w fun x w'=>∃ io ic lo lc F',x=.returned (.tuple #[.agg #[.int .u8 1,.slice io 0 ic,.int .u64 0],.slice lo 1 lc,.int .i64 0])∧Leaves R (n+1) e ex1 F w w' lo [.put 0 ⟨⟨#[107]⟩,⟨#[118]⟩,0,0,1⟩] lc F':=by
 have h1:=E.cmd ⟨exA,some ⟨b,0,none⟩,1⟩ hn hc h hs (by intro _ a ha;cases ha;exact hb) (by show 0≤exA.by_∧exA.by_≤18446744073709551615;decide)
 dsimp only at h1
 rw [show ex0.op (.cmd exA)=(ex1,⟨1,[],0⟩,[.put 0 ⟨⟨#[107]⟩,⟨#[118]⟩,0,0,1⟩],true) from Prod.ext rfl exA_r] at h1
 dsimp only at h1
 refine Calls.mono h1 ?_
 rintro x w' ⟨io,ic,lo,lc,f,F',rfl,hf,_,_,_,hL⟩
 have hf0:f=0:=by simpa using hf
 subst hf0
 exact ⟨io,ic,lo,lc,F',rfl,hL⟩
theorem doB (E:Eng Tb R){n:Nat}(hn:n<1000){w:World}{e:Value}{F:Nat→Prop}{b:Nat}(hc:Calm Tb w F)(h:R n w e ex1 F)(hs:GRd ES w (some ⟨b,0,none⟩) [⟨#[107]⟩] 1)(hb:¬ F b):
  Calls Tryz.prog 12 #[e,.agg #[.int .u8 6,.int .i64 0,.slice (some ⟨b,0,none⟩) 1 1,.string ⟨#[]⟩,.int .u32 0,.int .i64 0,.int .u64 0,.int .u64 1]] w fun x w'=>∃ io ic lo lc s' F',x=.returned (.tuple #[.agg #[.int .u8 6,.slice io 0 ic,.int .u64 0],.slice lo 0 lc,.int .i64 0])∧Leaves R (n+1) e s' F w w' lo [] lc F':=by
 have h1:=E.cmd ⟨exB,some ⟨b,0,none⟩,1⟩ hn hc h hs (by intro _ a ha;cases ha;exact hb) (by show 0≤exB.by_∧exB.by_≤18446744073709551615;decide)
 dsimp only at h1
 rw [show ex1.op (.cmd exB)=((ex1.op (.cmd exB)).1,⟨6,[],0⟩,[],true) from Prod.ext rfl exB_r] at h1
 dsimp only at h1
 refine Calls.mono h1 ?_
 rintro x w' ⟨io,ic,lo,lc,f,F',rfl,hf,_,_,_,hL⟩
 have hf0:f=0:=by simpa using hf
 subst hf0
 exact ⟨io,ic,lo,lc,_,F',rfl,hL⟩
end
end Go.Proofs.YtcdpiefflnaghaaGreatDoor.En
namespace Go.Proofs.YtcdpiefflnaghaaGreatDoor.En
open Go.Proofs.YtcdpiefflnaghaaGreatDoor.It
open Go.Proofs.YtcdpiefflnaghaaGreatDoor.Lr
open Go.Proofs.YtcdpiefflnaghaaGreatDoor.Qt
open Go.Proofs.YtcdpiefflnaghaaGreatDoor.Sb
open Go.RowKit Go.Proofs.YtcdpiefflnaghaaGreatDoor
theorem _root_.Go.Proofs.YtcdpiefflnaghaaGreatDoor.GRd.ch1 {w:World}{ao:Option Addr}{c:Ch}{cap:Nat}(h:GRd EC w ao [c] cap):∃ b off,ao=some ⟨b,off,none⟩∧b<w.heap.size∧w.cell? ⟨b,off,none⟩=some (.int .u8 c.kd)∧w.cell? ⟨b,off+6,none⟩=some (.int .u64 c.im.unique):=by
 obtain ⟨b,off,e,hb,hc⟩:=h.lies (by simp)
 have h0:=hc 0 (by simp) 0 (by decide)
 have h6:=hc 0 (by simp) 6 (by decide)
 exact ⟨b,off,e,hb,by simpa [EC,Ch.cl] using h0,by simpa [EC,Ch.cl] using h6⟩
section
variable {Tb:World→Prop} {R:Nat→World→Value→Sh→(Nat→Prop)→Prop}
set_option maxHeartbeats 8000000 in
theorem alive_any (E:Eng Tb R)(w:World)(hT:∀ w',Below w.heap.size w w'→Tb w'):Calls Tryz.prog 16 #[] w fun x w'=>x=.returned (.bool true)∧Below w.heap.size w w':=by
 obtain ⟨W,hW⟩:∃ W,W=w.alloc (.cells #[.int .i64 1,.int .i64 1] 3):=⟨_,rfl⟩
 have HB:Hid (Below w.heap.size w W):=by rw [hW];exact g_alloc _ _
 have HTB:=Hid.m hT
 have HCM:Hid (∀ (V:World) (G:Nat→Prop),Below w.heap.size w V→(∀ k,G k→w.heap.size≤k)→Calm Tb V G):=fun V G hb hg=>⟨w.heap.size,hb.size,hg,fun w' hb'=>HTB.out w' (hb.trans hb')⟩
 clear hT
 have hq:GRd EI W (some ⟨w.heap.size,0,none⟩) [1,1] 2:=by
  refine ⟨by simp,by simp,(by intro e;cases e),.inr ⟨w.heap.size,0,rfl,by rw [hW];simp,fun i hi j hj=>?_⟩⟩
  have hj0:j=0:=by have:j<1:=hj;omega
  subst hj0
  rw [hW]
  match i,hi with
  | 0,_=>simp [EI]
  | 1,_=>simp [EI]
 have HM:=Hid.m (E.make 2 [1,1] 0 _ 2 W ex_chk (by kernel_rfl) hq)
 clear hq
 go_enter Tryz.func16,Tryz.ntmps16
 go_upto_region 2 with (first | (rw [← hW];fail) | (go_at_call 11;rw [← hW];refine HM.out.mono ?_;rintro x w1 ⟨e,F,rfl,hR,hF,hb1⟩;have HR:=Hid.m hR;have HF:=Hid.m hF;have HB1:=Hid.m (g_on HB.out hb1);clear hR hF hb1))
 go_upto_region 5 with (first
  | (go_at_call 13;refine (set_any 0 ⟨#[107]⟩ ⟨#[118]⟩ w1).mono ?_;rintro x w2 ⟨b,rfl,hS,hb,hb2⟩;have HS:=Hid.m hS;have HBL:=Hid.m hb;have HB2:=Hid.m hb2;clear hS hb hb2)
  | (go_at_call 12;refine (doA E (by decide:(0:Nat)<1000) (HCM.out _ _ (g_on HB1.out HB2.out) (fun k hk=>Nat.le_trans HB.out.size (HF.out k hk))) (E.on HR.out HB2.out) HS.out (fun hf=>by have:=E.lt HR.out _ hf;have:=HBL.out;omega)).mono ?_;rintro x w3 ⟨io,ic,lo,lc,F3,rfl,hL⟩;have HL:=Hid.m hL;clear hL))
 have HF0:Hid (∀ k,F k→w.heap.size≤k):=fun k hk=>Nat.le_trans HB.out.size (HF.out k hk)
 have HBW2:Hid (Below w.heap.size w w2):=g_on HB1.out HB2.out
 have HF3:Hid (∀ k,F3 k→w.heap.size≤k):=fun k hk=>by
  rcases HL.out.sub k hk with h1 | h1
  ·exact HF0.out k h1
  ·exact Nat.le_trans HBW2.out.size h1
 have HBW3:Hid (Below w.heap.size w w3):=HBW2.out.trans (HL.out.kpt.below HF0.out HBW2.out.size)
 obtain ⟨bc,oc,rfl,hbc,r0,r6⟩:=HL.out.chs.ch1
 simp only [Ch.kd,Ch.im] at r0 r6
 obtain ⟨V,hV⟩:∃ V,V=w3.alloc (.cells #[.int .u8 1,.slice io 0 ic,.int .u64 0] 30):=⟨_,rfl⟩
 have HV:Hid (GBx V w3.heap.size [.int .u8 1,.slice io 0 ic,.int .u64 0]):=by rw [hV];exact GBx.made w3 _ _
 have HBV:Hid (Below w3.heap.size w3 V):=by rw [hV];exact g_alloc _ _
 have s0:V.cell? ⟨bc,oc,none⟩=some (.int .u8 1):=(HBV.out.cell (p:=⟨bc,oc,none⟩) hbc).trans r0
 have s6:V.cell? ⟨bc,oc+6,none⟩=some (.int .u64 1):=(HBV.out.cell (p:=⟨bc,oc+6,none⟩) hbc).trans r6
 have z0:=HV.out.c 0 (by simp)
 have z1:=HV.out.c 1 (by simp)
 have z2:=HV.out.c 2 (by simp)
 simp only [List.getElem_cons_zero,List.getElem_cons_succ] at z0 z1 z2
 have ltv:=HV.out.lt
 have ltc:bc<V.heap.size:=Nat.lt_of_lt_of_le hbc HBV.out.size
 rw [← hV]
 clear hV r0 r6 HM hbc
 go_upto_region 6 with (fail)
 clear s0 s6 z0 z1 z2 ltc
 obtain ⟨X,hX⟩:∃ X,X=V.alloc (.cells #[.string ⟨#[107]⟩] 9):=⟨_,rfl⟩
 have HBX:Hid (Below V.heap.size V X):=by rw [hX];exact g_alloc _ _
 have HSX:Hid (GRd ES X (some ⟨V.heap.size,0,none⟩) [⟨#[107]⟩] 1):=by rw [hX];exact g_new okS V ⟨#[107]⟩
 have HRX:=Hid.m (E.on (E.on HL.out.rep HBV.out) HBX.out)
 have HBWX:Hid (Below w.heap.size w X):=(HBW3.out.trans (HBV.out.mono HBW3.out.size)).trans (HBX.out.mono (Nat.le_trans HBW3.out.size HBV.out.size))
 have HNF:Hid (¬ F3 V.heap.size):=fun hf=>by have:=E.lt HL.out.rep _ hf;have:=HBV.out.size;omega
 have HNG:Hid (¬ F3 w3.heap.size):=fun hf=>by have:=E.lt HL.out.rep _ hf;omega
 go_upto_region 7 with (go_at_call 12;rw [← hX];refine (doB E (by decide:(1:Nat)<1000) (HCM.out _ _ HBWX.out HF3.out) HRX.out HSX.out HNF.out).mono ?_;rintro x w4 ⟨io4,ic4,lo4,lc4,s4,F4,rfl,hL4⟩;have HL4:=Hid.m hL4;have y0:=((HV.out.below HBX.out).kpt hL4.kpt HNG.out).c 0 (by simp);have y1:=((HV.out.below HBX.out).kpt hL4.kpt HNG.out).c 1 (by simp);have y2:=((HV.out.below HBX.out).kpt hL4.kpt HNG.out).c 2 (by simp);have f0:=((HV.out.below HBX.out).kpt hL4.kpt HNG.out).f 0;have f1:=((HV.out.below HBX.out).kpt hL4.kpt HNG.out).f 1;have f2:=((HV.out.below HBX.out).kpt hL4.kpt HNG.out).f 2;have lt4:=((HV.out.below HBX.out).kpt hL4.kpt HNG.out).lt;simp only [List.getElem_cons_zero,List.getElem_cons_succ] at y0 y1 y2;clear hL4)
 have HBX4:Hid (Below w.heap.size w w4):=by
  have h1:Below w.heap.size w X:=(HBW3.out.trans (HBV.out.mono HBW3.out.size)).trans (HBX.out.mono (Nat.le_trans HBW3.out.size HBV.out.size))
  exact h1.trans (HL4.out.kpt.below HF3.out h1.size)
 have hs3:=HBW3.out.size
 have HBE:=Hid.m (((HBX4.out.setCell (p:=⟨w3.heap.size,0,none⟩) hs3 (.int .u8 6)).setCell (p:=⟨w3.heap.size,1,none⟩) hs3 (.slice io4 0 ic4)).setCell (p:=⟨w3.heap.size,2,none⟩) hs3 (.int .u64 0))
 go_wp2
 go_ret
 exact ⟨rfl,HBE.out⟩
end
end Go.Proofs.YtcdpiefflnaghaaGreatDoor.En
