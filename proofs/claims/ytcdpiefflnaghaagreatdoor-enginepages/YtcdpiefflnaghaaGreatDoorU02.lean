/-
  Package engine and what stands beneath it, part 02: contracts of functions, and what they rest on.
-/
import Derived.LoopTactic
import Derived.Shelf.SlSortCmp.QuietGrown
import Derived.Test.YtcdpiefflnaghaaGreatDoorU01
import Derived.Test.YtcdpiefflnaghaaGreatDoorU00
set_option linter.unusedSimpArgs false
set_option linter.unusedVariables false
set_option maxRecDepth 100000
namespace Go.Proofs.YtcdpiefflnaghaaGreatDoor
open Go.RowKit
structure Cm where
 kind:Int
 tenant:Int
 keys:List ByteArray
 value:ByteArray
 flags:Int
 life:Int
 unique:Int
 by_:Int
def Cm.arr (c:Cm)(v:Value):Array Value:=#[.int .u8 c.kind,.int .i64 c.tenant,v,.string c.value,.int .u32 c.flags,.int .i64 c.life,.int .u64 c.unique,.int .u64 c.by_]
def Cm.puts (c:Cm):Bool:=decide (2≤c.kind) && decide (c.kind≤5)
def Cm.kOk (c:Cm):Bool:=
 if c.kind=11 then decide (c.keys.length=0) else decide (1≤c.keys.length∧c.keys.length≤8∧(c.keys.length≤1∨c.kind=1∨c.kind=10)) && c.keys.all keyOk && decide c.keys.Nodup
def Cm.vOk (c:Cm):Bool:=decide (c.value.size≤512) && (decide (c.value.size=0) || c.puts || decide (c.kind=8))
def Cm.lOk (c:Cm):Bool:=decide (0≤c.life∧c.life≤1099511627776) && (decide (c.life=0) || c.puts || decide (c.kind=9))
def Cm.fOk (c:Cm):Bool:=(decide (c.flags=0) || c.puts) && (decide (c.unique=0) || decide (c.kind=5))
def Cm.bOk (c:Cm):Bool:=decide (c.by_=0) || decide (c.kind=6) || decide (c.kind=7)
def Cm.may (c:Cm):Bool:=decide (1≤c.kind∧c.kind≤11) && tenOk c.tenant && c.kOk && c.vOk && c.lOk && c.fOk && c.bOk
def Cm.names (c:Cm):List (Int × ByteArray):=c.keys.map fun k=>(c.tenant,k)
def Cm.chkE (c:Cm):Int:=if c.may=true then 0 else 100
def Cm.nmL (c:Cm):List (Int × ByteArray):=if c.may=true then c.names else []
def ES:GEl ByteArray:=⟨9,34,1,16,.string ⟨#[]⟩,fun s=>[.string s]⟩
theorem okS:GOk ES:=⟨Tryz.underlying34,by kernel_rfl,rfl,by decide,by decide,fun _=>rfl,fun a u h=>by simp [ES] at h;subst h;rfl⟩
def EI:GEl Int:=⟨3,26,1,8,.int .i64 0,fun n=>[.int .i64 n]⟩
theorem okI:GOk EI:=⟨Tryz.underlying26,by kernel_rfl,rfl,by decide,by decide,fun _=>rfl,fun a u h=>by simp [EI] at h;subst h;rfl⟩
def EN:GEl (Int × ByteArray):=⟨119,109,2,24,.agg #[.int .i64 0,.string ⟨#[]⟩],fun n=>[.int .i64 n.1,.string n.2]⟩
theorem okN:GOk EN:=⟨Tryz.underlying109,by kernel_rfl,rfl,by decide,by decide,fun _=>rfl,fun a u h=>by simp [EN] at h;rcases h with rfl | rfl <;> rfl⟩
theorem GRd.str {w:World}{ao:Option Addr}{l:List ByteArray}{cap:Nat}(h:GRd ES w ao l cap)(hne:l≠[]):∃ b off,ao=some ⟨b,off,none⟩∧b<w.heap.size∧∀ i (hi:i<l.length),w.cell? ⟨b,off+i,none⟩=some (.string l[i]):=by
 obtain ⟨b,off,e,hb,hc⟩:=h.lies hne
 refine ⟨b,off,e,hb,fun i hi=>?_⟩
 have:=hc i hi 0 (by decide)
 simpa [ES] using this
theorem GRd.int {w:World}{ao:Option Addr}{l:List Int}{cap:Nat}(h:GRd EI w ao l cap)(hne:l≠[]):∃ b off,ao=some ⟨b,off,none⟩∧b<w.heap.size∧∀ i (hi:i<l.length),w.cell? ⟨b,off+i,none⟩=some (.int .i64 l[i]):=by
 obtain ⟨b,off,e,hb,hc⟩:=h.lies hne
 refine ⟨b,off,e,hb,fun i hi=>?_⟩
 have:=hc i hi 0 (by decide)
 simpa [EI] using this
theorem nodup_of_takes {L:List ByteArray}(h:∀ j (hj:j<L.length),L[j]∉L.take j):L.Nodup:=by
 rw [List.nodup_iff_pairwise_ne,List.pairwise_iff_getElem]
 intro i j hi hj hij e
 refine h j hj ?_
 rw [← e,List.mem_take_iff_getElem]
 exact ⟨i,by omega,rfl⟩
theorem takes_of_nodup {L:List ByteArray}(h:L.Nodup)(j:Nat)(hj:j<L.length):L[j]∉L.take j:=by
 intro hm
 rw [List.mem_take_iff_getElem] at hm
 obtain ⟨i,hi,e⟩:=hm
 exact List.pairwise_iff_getElem.1 (List.nodup_iff_pairwise_ne.1 h) i j (by omega) hj (by omega) e
theorem ba_beq {a b:ByteArray}:(a.toList==b.toList)=decide (a=b):=by
 rw [ByteArray.toList_eq,ByteArray.toList_eq]
 by_cases h:a=b
 ·simp [h]
 ·have:a.data.toList≠b.data.toList:=by
   intro e
   apply h
   cases a;cases b
   simp at e
   rw [e]
  rw [decide_eq_false h]
  simpa using fun e=>this (congrArg Array.toList e)
theorem ba_eq {a b:ByteArray}(h:a=b):(a.toList==b.toList)=true:=by rw [ba_beq];simp [h]
theorem ba_ne {a b:ByteArray}(h:a≠b):(a.toList==b.toList)=false:=by rw [ba_beq];simp [h]
theorem g_drewN {w:World}(n:Nat):Below w.heap.size w (w.drewN n):=⟨rfl,rfl,rfl,Nat.le_refl _,fun _ _=>rfl⟩
theorem g_quiet_on {w w':World}(n:Nat)(h:Below w.heap.size w w'):Below w.heap.size w (w'.drewN n):=g_on h (g_drewN n)
structure Cm.At (c:Cm)(v:Value)(w:World)(b:Nat):Prop where
 lt:b<w.heap.size
 c0:w.cell? ⟨b,0,none⟩=some (.int .u8 c.kind)
 c1:w.cell? ⟨b,1,none⟩=some (.int .i64 c.tenant)
 c2:w.cell? ⟨b,2,none⟩=some v
 c3:w.cell? ⟨b,3,none⟩=some (.string c.value)
 c4:w.cell? ⟨b,4,none⟩=some (.int .u32 c.flags)
 c5:w.cell? ⟨b,5,none⟩=some (.int .i64 c.life)
 c6:w.cell? ⟨b,6,none⟩=some (.int .u64 c.unique)
 c7:w.cell? ⟨b,7,none⟩=some (.int .u64 c.by_)
theorem Cm.At.below {c:Cm}{v:Value}{w w':World}{b:Nat}(h:c.At v w b)(hb:Below w.heap.size w w'):c.At v w' b:=
 ⟨Nat.lt_of_lt_of_le h.lt hb.size,(hb.cell (p:=⟨b,0,none⟩) h.lt).trans h.c0,(hb.cell (p:=⟨b,1,none⟩) h.lt).trans h.c1,(hb.cell (p:=⟨b,2,none⟩) h.lt).trans h.c2,(hb.cell (p:=⟨b,3,none⟩) h.lt).trans h.c3,(hb.cell (p:=⟨b,4,none⟩) h.lt).trans h.c4,(hb.cell (p:=⟨b,5,none⟩) h.lt).trans h.c5,(hb.cell (p:=⟨b,6,none⟩) h.lt).trans h.c6,(hb.cell (p:=⟨b,7,none⟩) h.lt).trans h.c7⟩
theorem Cm.At.made (c:Cm)(v:Value)(w:World):c.At v (w.alloc (.cells (c.arr v) 37)) w.heap.size:=by
 unfold Cm.arr
 refine ⟨by simp,?_,?_,?_,?_,?_,?_,?_,?_⟩ <;> simp
end Go.Proofs.YtcdpiefflnaghaaGreatDoor
namespace Go.Proofs.YtcdpiefflnaghaaGreatDoor
open Go.RowKit
instance:LawfulBEq ByteArray where
 eq_of_beq {a b} h:=by
  have h':a.data==b.data:=h
  cases a;cases b
  simpa using h'
 rfl {a}:=by
  show (a.data==a.data)=true
  simp
def ixI (L:List Int)(x:Int):Int:=if x∈L then (L.idxOf x:Nat) else -1
theorem ixI_hit {L:List Int}{x:Int}{k:Nat}(hk:k<L.length)(h:L[k]=x)(ha:∀ j (hj:j<L.length),j<k→¬ L[j]=x):ixI L x=(k:Int):=by
 have hm:x∈L:=by rw [← h];exact List.getElem_mem hk
 unfold ixI
 rw [if_pos hm]
 have h1:L.idxOf x<L.length:=List.idxOf_lt_length_of_mem hm
 have h2:L[L.idxOf x]=x:=List.getElem_idxOf h1
 have h3:¬ L.idxOf x<k:=fun hl=>ha _ h1 hl h2
 have h4:¬ k<L.idxOf x:=fun hl=>by
  have:=List.not_of_lt_findIdx (p:=fun y=>y==x) (xs:=L) (i:=k) hl
  simp [h] at this
 omega
theorem ixI_miss {L:List Int}{x:Int}(ha:∀ j (hj:j<L.length),¬ L[j]=x):ixI L x=-1:=by
 unfold ixI
 rw [if_neg]
 intro hm
 obtain ⟨j,hj,e⟩:=List.getElem_of_mem hm
 exact ha j hj e
theorem indexI_any (L:List Int)(ao:Option Addr)(cap:Nat)(x:Int)(w:World)(h:GRd EI w ao L cap):
  Calls Tryz.prog 220 #[.slice ao L.length cap,.int .i64 x] w fun e w'=>e=.returned (.int .i64 (ixI L x))∧w'=w:=by
 have hlen:=h.len
 have HR:=Hid.m h
 have HH:=Hid.m (fun k hk=>@ixI_hit L x k hk)
 have HM:=Hid.m (@ixI_miss L x)
 obtain ⟨R,hR⟩:∃ R,R=ixI L x:=⟨_,rfl⟩
 rw [← hR] at HH HM ⊢
 clear hR h
 go_enter Tryz.func220,Tryz.ntmps220
 go_wp2
 go_loopw [5,8] (fun _ i wr=>∃ k:Nat,k≤L.length∧i=.int .i64 k∧wr=w∧Hid (∀ j (hj:j<L.length),j<k→¬ L[j]=x)) (fun _ i _=>L.length - (intOf i).toNat)
 case atStart=>exact ⟨0,Nat.zero_le _,rfl,rfl,fun _ _ h=>absurd h (by omega)⟩
 case round=>
  obtain ⟨k,hk,rfl,rfl,HA⟩:=hrel
  by_cases hkl:k<L.length
  ·have hkl2:(k:Int)<(L.length:Int):=by omega
   have hne:L≠[]:=by intro e;rw [e] at hkl;simp at hkl
   obtain ⟨b,off,rfl,hbl,hcs⟩:=HR.out.int hne
   have r0:=hcs k hkl
   obtain ⟨p,hpe⟩:∃ p,p=L[k]:=⟨_,rfl⟩
   rw [← hpe] at r0
   by_cases hp:p=x
   ·have e:=HH.out k hkl (by rw [← hpe];exact hp) HA.out
    subst e
    have hp1:(x==p)=true:=by simp [hp]
    clear HH HM HA hcs hne hpe hp
    go_wp2
    go_ret
    exact ⟨rfl,rfl⟩
   ·have hp1:(x==p)=false:=by simp;exact fun e=>hp e.symm
    have HA2:Hid (∀ j (hj:j<L.length),j<k+1→¬ L[j]=x):=by
     intro j hj hjk
     by_cases e:j=k
     ·subst e;rw [← hpe];exact hp
     ·exact HA.out j hj (by omega)
    clear HA hcs hne hpe hp
    go_wp2
    go_roundw
    case rel=>exact ⟨k+1,by omega,by go_num,by first | rfl | trivial,HA2⟩
    case measure=>simp [intOf];omega
  ·have e:=HM.out (fun j hj=>HA.out j hj (by omega))
   subst e
   have hkl2:¬ (k:Int)<(L.length:Int):=by omega
   clear HH HM HA
   go_wp2
   go_ret
   exact ⟨rfl,rfl⟩
def ixS (L:List ByteArray)(x:ByteArray):Int:=if x∈L then (L.idxOf x:Nat) else -1
theorem ixS_hit {L:List ByteArray}{x:ByteArray}{k:Nat}(hk:k<L.length)(h:L[k]=x)(ha:∀ j (hj:j<L.length),j<k→¬ L[j]=x):ixS L x=(k:Int):=by
 have hm:x∈L:=by rw [← h];exact List.getElem_mem hk
 unfold ixS
 rw [if_pos hm]
 have h1:L.idxOf x<L.length:=List.idxOf_lt_length_of_mem hm
 have h2:L[L.idxOf x]=x:=List.getElem_idxOf h1
 have h3:¬ L.idxOf x<k:=fun hl=>ha _ h1 hl h2
 have h4:¬ k<L.idxOf x:=fun hl=>by
  have:=List.not_of_lt_findIdx (p:=fun y=>y==x) (xs:=L) (i:=k) hl
  simp [h] at this
 omega
theorem ixS_miss {L:List ByteArray}{x:ByteArray}(ha:∀ j (hj:j<L.length),¬ L[j]=x):ixS L x=-1:=by
 unfold ixS
 rw [if_neg]
 intro hm
 obtain ⟨j,hj,e⟩:=List.getElem_of_mem hm
 exact ha j hj e
theorem ixS_mem (L:List ByteArray)(x:ByteArray):decide (0≤ixS L x)=decide (x∈L):=by
 unfold ixS
 by_cases h:x∈L
 ·rw [if_pos h];simp [h]
 ·rw [if_neg h];simp [h]
theorem indexS_any (L:List ByteArray)(ao:Option Addr)(cap m:Nat)(hm:m=L.length)(x:ByteArray)(w:World)(h:GRd ES w ao L cap):
  Calls Tryz.prog 245 #[.slice ao m cap,.string x] w fun e w'=>e=.returned (.int .i64 (ixS L x))∧w'=w:=by
 subst hm
 have hlen:=h.len
 have HR:=Hid.m h
 have HH:=Hid.m (fun k hk=>@ixS_hit L x k hk)
 have HM:=Hid.m (@ixS_miss L x)
 obtain ⟨R,hR⟩:∃ R,R=ixS L x:=⟨_,rfl⟩
 rw [← hR] at HH HM ⊢
 clear hR h
 go_enter Tryz.func245,Tryz.ntmps245
 go_wp2
 go_loopw [5,8] (fun _ i wr=>∃ k:Nat,k≤L.length∧i=.int .i64 k∧wr=w∧Hid (∀ j (hj:j<L.length),j<k→¬ L[j]=x)) (fun _ i _=>L.length - (intOf i).toNat)
 case atStart=>exact ⟨0,Nat.zero_le _,rfl,rfl,fun _ _ h=>absurd h (by omega)⟩
 case round=>
  obtain ⟨k,hk,rfl,rfl,HA⟩:=hrel
  by_cases hkl:k<L.length
  ·have hkl2:(k:Int)<(L.length:Int):=by omega
   have hne:L≠[]:=by intro e;rw [e] at hkl;simp at hkl
   obtain ⟨b,off,rfl,hbl,hcs⟩:=HR.out.str hne
   have r0:=hcs k hkl
   obtain ⟨p,hpe⟩:∃ p,p=L[k]:=⟨_,rfl⟩
   rw [← hpe] at r0
   by_cases hp:p=x
   ·have e:=HH.out k hkl (by rw [← hpe];exact hp) HA.out
    subst e
    have hp1:(x.toList==p.toList)=true:=ba_eq hp.symm
    clear HH HM HA hcs hne hpe hp
    go_wp2
    go_ret
    exact ⟨rfl,rfl⟩
   ·have hp1:(x.toList==p.toList)=false:=ba_ne (fun e=>hp e.symm)
    have HA2:Hid (∀ j (hj:j<L.length),j<k+1→¬ L[j]=x):=by
     intro j hj hjk
     by_cases e:j=k
     ·subst e;rw [← hpe];exact hp
     ·exact HA.out j hj (by omega)
    clear HA hcs hne hpe hp
    go_wp2
    go_roundw
    case rel=>exact ⟨k+1,by omega,by go_num,by first | rfl | trivial,HA2⟩
    case measure=>simp [intOf];omega
  ·have e:=HM.out (fun j hj=>HA.out j hj (by omega))
   subst e
   have hkl2:¬ (k:Int)<(L.length:Int):=by omega
   clear HH HM HA
   go_wp2
   go_ret
   exact ⟨rfl,rfl⟩
theorem containsS_any (L:List ByteArray)(ao:Option Addr)(cap m:Nat)(hm:m=L.length)(x:ByteArray)(w:World)(h:GRd ES w ao L cap):
  Calls Tryz.prog 186 #[.slice ao m cap,.string x] w fun e w'=>e=.returned (.bool (decide (x∈L)))∧w'=w:=by
 subst hm
 have HI:=Hid.m (indexS_any L ao cap L.length rfl x w h)
 rw [← ixS_mem]
 obtain ⟨R,hR⟩:∃ R,R=ixS L x:=⟨_,rfl⟩
 rw [← hR] at HI ⊢
 clear hR h
 go_enter Tryz.func186,Tryz.ntmps186
 go_wp2_with (go_at_call 245;refine HI.out.mono ?_;rintro e w1 ⟨rfl,rfl⟩)
 go_ret
 exact ⟨rfl,rfl⟩
end Go.Proofs.YtcdpiefflnaghaaGreatDoor
namespace Go.Proofs.YtcdpiefflnaghaaGreatDoor
open Go.RowKit
theorem ba_empty {s:ByteArray}(h:s.size=0):s.toList.isEmpty=true:=by
 rw [ByteArray.toList_eq]
 have:s.data.toList.length=0:=by rw [Array.length_toList];exact h
 cases e:s.data.toList with
 | nil=>rfl
 | cons a l=>rw [e] at this;simp at this
theorem ba_full {s:ByteArray}(h:¬ s.size=0):s.toList.isEmpty=false:=by
 rw [ByteArray.toList_eq]
 have:¬ s.data.toList.length=0:=by rw [Array.length_toList];exact h
 cases e:s.data.toList with
 | nil=>rw [e] at this;simp at this
 | cons a l=>rfl
end Go.Proofs.YtcdpiefflnaghaaGreatDoor
namespace Go.Proofs.YtcdpiefflnaghaaGreatDoor
open Go.RowKit
def manyN (n:Nat):Nat:=if n=0 then 1 else if n=1 then 2 else 4
def mayN (kind:Int):Nat:=
 if kind=1∨kind=10 then 6 else if kind=2∨kind=3∨kind=4 then 58 else if kind=5 then 122 else if kind=6∨kind=7 then 130 else if kind=8 then 10 else if kind=9 then 34 else if kind=11 then 1 else 0
def orIf (b:Bool)(x m:Nat):Nat:=if b=true then x ||| m else x
theorem orIf_t (x m:Nat):orIf true x m=x ||| m:=rfl
theorem orIf_lt {b:Bool}{x m:Nat}(hx:x<256)(hm:m<256):orIf b x m<256:=by
 unfold orIf
 split
 ·exact Nat.or_lt_two_pow (n:=8) hx hm
 ·exact hx
def Cm.hasN (c:Cm):Nat:=orIf (!decide (c.by_=0)) (orIf (!decide (c.unique=0)) (orIf (!decide (c.life=0)) (orIf (!decide (c.flags=0)) (orIf (!decide (c.value.size=0)) (manyN c.keys.length) 8) 16) 32) 64) 128
theorem bor_all:∀ x:Fin 256,bits BinOp.or IntKind.u64 ((x.val:Nat):Int) 8=((x.val ||| 8:Nat):Int)∧bits BinOp.or IntKind.u64 ((x.val:Nat):Int) 16=((x.val ||| 16:Nat):Int)∧bits BinOp.or IntKind.u64 ((x.val:Nat):Int) 32=((x.val ||| 32:Nat):Int)∧bits BinOp.or IntKind.u64 ((x.val:Nat):Int) 64=((x.val ||| 64:Nat):Int)∧bits BinOp.or IntKind.u64 ((x.val:Nat):Int) 128=((x.val ||| 128:Nat):Int):=by decide +kernel
theorem bor8 {x:Nat}(h:x<256):bits BinOp.or IntKind.u64 (x:Int) 8=((x ||| 8:Nat):Int):=(bor_all ⟨x,h⟩).1
theorem bor16 {x:Nat}(h:x<256):bits BinOp.or IntKind.u64 (x:Int) 16=((x ||| 16:Nat):Int):=(bor_all ⟨x,h⟩).2.1
theorem bor32 {x:Nat}(h:x<256):bits BinOp.or IntKind.u64 (x:Int) 32=((x ||| 32:Nat):Int):=(bor_all ⟨x,h⟩).2.2.1
theorem bor64 {x:Nat}(h:x<256):bits BinOp.or IntKind.u64 (x:Int) 64=((x ||| 64:Nat):Int):=(bor_all ⟨x,h⟩).2.2.2.1
theorem bor128 {x:Nat}(h:x<256):bits BinOp.or IntKind.u64 (x:Int) 128=((x ||| 128:Nat):Int):=(bor_all ⟨x,h⟩).2.2.2.2
theorem manyKeys_any (n:Nat)(w:World):Calls Tryz.prog 185 #[.int .i64 n] w fun e w'=>e=.returned (.int .u64 (manyN n:Nat))∧w'=w:=by
 by_cases h0:n=0
 ·subst h0
  go_enter Tryz.func185,Tryz.ntmps185
  go_wp2
  go_ret
  exact ⟨rfl,rfl⟩
 by_cases h1:n=1
 ·subst h1
  go_enter Tryz.func185,Tryz.ntmps185
  go_wp2
  go_ret
  exact ⟨rfl,rfl⟩
 have e:manyN n=4:=by unfold manyN;rw [if_neg h0,if_neg h1]
 rw [e]
 have a0:((n:Int)==0)=false:=beq_eq_false_iff_ne.2 (by omega)
 have a1:((n:Int)==1)=false:=beq_eq_false_iff_ne.2 (by omega)
 clear e
 go_enter Tryz.func185,Tryz.ntmps185
 go_wp2
 go_ret
 exact ⟨rfl,rfl⟩
theorem mayHave_any (kind:Int)(w:World):Calls Tryz.prog 135 #[.int .u8 kind] w fun e w'=>e=.returned (.int .u64 (mayN kind:Nat))∧w'=w:=by
 by_cases h1:kind=1
 ·subst h1
  go_enter Tryz.func135,Tryz.ntmps135
  go_wp2
  go_ret
  exact ⟨rfl,rfl⟩
 by_cases h2:kind=2
 ·subst h2
  go_enter Tryz.func135,Tryz.ntmps135
  go_wp2
  go_ret
  exact ⟨rfl,rfl⟩
 by_cases h3:kind=3
 ·subst h3
  go_enter Tryz.func135,Tryz.ntmps135
  go_wp2
  go_ret
  exact ⟨rfl,rfl⟩
 by_cases h4:kind=4
 ·subst h4
  go_enter Tryz.func135,Tryz.ntmps135
  go_wp2
  go_ret
  exact ⟨rfl,rfl⟩
 by_cases h5:kind=5
 ·subst h5
  go_enter Tryz.func135,Tryz.ntmps135
  go_wp2
  go_ret
  exact ⟨rfl,rfl⟩
 by_cases h6:kind=6
 ·subst h6
  go_enter Tryz.func135,Tryz.ntmps135
  go_wp2
  go_ret
  exact ⟨rfl,rfl⟩
 by_cases h7:kind=7
 ·subst h7
  go_enter Tryz.func135,Tryz.ntmps135
  go_wp2
  go_ret
  exact ⟨rfl,rfl⟩
 by_cases h8:kind=8
 ·subst h8
  go_enter Tryz.func135,Tryz.ntmps135
  go_wp2
  go_ret
  exact ⟨rfl,rfl⟩
 by_cases h9:kind=9
 ·subst h9
  go_enter Tryz.func135,Tryz.ntmps135
  go_wp2
  go_ret
  exact ⟨rfl,rfl⟩
 by_cases h10:kind=10
 ·subst h10
  go_enter Tryz.func135,Tryz.ntmps135
  go_wp2
  go_ret
  exact ⟨rfl,rfl⟩
 by_cases h11:kind=11
 ·subst h11
  go_enter Tryz.func135,Tryz.ntmps135
  go_wp2
  go_ret
  exact ⟨rfl,rfl⟩
 have e:mayN kind=0:=by unfold mayN;simp [h1,h2,h3,h4,h5,h6,h7,h8,h9,h10,h11]
 rw [e]
 have a1:(kind==1)=false:=beq_eq_false_iff_ne.2 h1
 have a2:(kind==2)=false:=beq_eq_false_iff_ne.2 h2
 have a3:(kind==3)=false:=beq_eq_false_iff_ne.2 h3
 have a4:(kind==4)=false:=beq_eq_false_iff_ne.2 h4
 have a5:(kind==5)=false:=beq_eq_false_iff_ne.2 h5
 have a6:(kind==6)=false:=beq_eq_false_iff_ne.2 h6
 have a7:(kind==7)=false:=beq_eq_false_iff_ne.2 h7
 have a8:(kind==8)=false:=beq_eq_false_iff_ne.2 h8
 have a9:(kind==9)=false:=beq_eq_false_iff_ne.2 h9
 have a10:(kind==10)=false:=beq_eq_false_iff_ne.2 h10
 have a11:(kind==11)=false:=beq_eq_false_iff_ne.2 h11
 clear e h1 h2 h3 h4 h5 h6 h7 h8 h9 h10 h11
 go_enter Tryz.func135,Tryz.ntmps135
 go_wp2
 go_ret
 exact ⟨rfl,rfl⟩
set_option maxHeartbeats 1000000 in
theorem has_any (c:Cm)(ko:Option Addr)(kc:Nat)(w:World):
  Calls Tryz.prog 134 #[.agg (c.arr (.slice ko c.keys.length kc))] w fun e w'=>e=.returned (.int .u64 (c.hasN:Nat))∧w'=w.alloc (.cells (c.arr (.slice ko c.keys.length kc)) 37):=by
 have HM:=Hid.m (Cm.At.made c (.slice ko c.keys.length kc) w)
 have HMK:=Hid.m (fun W=>manyKeys_any c.keys.length W)
 obtain ⟨X0,hX0⟩:∃ X0,X0=manyN c.keys.length:=⟨_,rfl⟩
 have hx0:X0<256:=by rw [hX0];unfold manyN;split <;> first | decide | (split <;> decide)
 obtain ⟨B0,hB0⟩:∃ B:Bool,B=!decide (c.value.size=0):=⟨_,rfl⟩
 obtain ⟨X1,hX1⟩:∃ X,X=orIf B0 X0 8:=⟨_,rfl⟩
 have hx1:X1<256:=by rw [hX1];exact orIf_lt hx0 (by decide)
 obtain ⟨B1,hB1⟩:∃ B:Bool,B=!decide (c.flags=0):=⟨_,rfl⟩
 obtain ⟨X2,hX2⟩:∃ X,X=orIf B1 X1 16:=⟨_,rfl⟩
 have hx2:X2<256:=by rw [hX2];exact orIf_lt hx1 (by decide)
 obtain ⟨B2,hB2⟩:∃ B:Bool,B=!decide (c.life=0):=⟨_,rfl⟩
 obtain ⟨X3,hX3⟩:∃ X,X=orIf B2 X2 32:=⟨_,rfl⟩
 have hx3:X3<256:=by rw [hX3];exact orIf_lt hx2 (by decide)
 obtain ⟨B3,hB3⟩:∃ B:Bool,B=!decide (c.unique=0):=⟨_,rfl⟩
 obtain ⟨X4,hX4⟩:∃ X,X=orIf B3 X3 64:=⟨_,rfl⟩
 have hx4:X4<256:=by rw [hX4];exact orIf_lt hx3 (by decide)
 obtain ⟨B4,hB4⟩:∃ B:Bool,B=!decide (c.by_=0):=⟨_,rfl⟩
 obtain ⟨X5,hX5⟩:∃ X,X=orIf B4 X4 128:=⟨_,rfl⟩
 have hx5:X5<256:=by rw [hX5];exact orIf_lt hx4 (by decide)
 have e:c.hasN=X5:=by rw [hX5,hX4,hX3,hX2,hX1,hX0,hB4,hB3,hB2,hB1,hB0];rfl
 rw [e]
 rw [← hX0] at HMK
 have HX1:=Hid.m hX1
 have HB0:=Hid.m hB0
 have HX2:=Hid.m hX2
 have HB1:=Hid.m hB1
 have HX3:=Hid.m hX3
 have HB2:=Hid.m hB2
 have HX4:=Hid.m hX4
 have HB3:=Hid.m hB3
 have HX5:=Hid.m hX5
 have HB4:=Hid.m hB4
 clear e hX0 hX1 hX2 hX3 hX4 hX5 hB0 hB1 hB2 hB3 hB4
 obtain ⟨kind,tenant,keys,value,flags,life,unique,by_⟩:=c
 unfold Cm.arr at *
 dsimp only at *
 obtain ⟨W,hW⟩:∃ W,W=w.alloc (.cells #[.int .u8 kind,.int .i64 tenant,.slice ko keys.length kc,.string value,.int .u32 flags,.int .i64 life,.int .u64 unique,.int .u64 by_] 37):=⟨_,rfl⟩
 rw [← hW] at HM ⊢
 obtain ⟨hlt,c0,c1,c2,c3,c4,c5,c6,c7⟩:=HM.out
 dsimp only at c0 c1 c2 c3 c4 c5 c6 c7
 have b0:value.toList.isEmpty=!B0:=by
  rw [HB0.out,Bool.not_not]
  by_cases e:value.size=0
  ·rw [ba_empty e];simp [e]
  ·rw [ba_full e];simp [e]
 have b1:(flags != 0)=B1:=by rw [HB1.out];by_cases e:flags=0 <;> simp [e]
 have b2:(life != 0)=B2:=by rw [HB2.out];by_cases e:life=0 <;> simp [e]
 have b3:(unique != 0)=B3:=by rw [HB3.out];by_cases e:unique=0 <;> simp [e]
 have b4:(by_ != 0)=B4:=by rw [HB4.out];by_cases e:by_=0 <;> simp [e]
 clear HB0 HB1 HB2 HB3 HB4
 go_enter Tryz.func134,Tryz.ntmps134
 go_upto_region 1 with (fail)
 rw [← hW]
 clear hW
 go_upto_if 10 with (go_at_call 185;refine (HMK.out _).mono ?_;rintro e w1 ⟨rfl,hw1⟩;have hw1:=hw1.symm;subst hw1)
 go_cut [3] from 4 (fun s3 wx=>s3=.int .u64 (X1:Nat)∧wx=W)
 case first=>
  cases B0
  ·go_wp2
   go_meet
   case rel=>exact ⟨by rw [HX1.out];rfl,rfl⟩
  ·go_wp2
   go_meet
   case rel=>exact ⟨by rw [HX1.out,orIf_t,← bor8 hx0],rfl⟩
 case rest=>
 obtain ⟨rfl,hwc⟩:=hcut
 have hwc:=hwc.symm
 subst hwc
 go_upto_if 15 with (fail)
 go_cut [3] from 4 (fun s3 wx=>s3=.int .u64 (X2:Nat)∧wx=W)
 case first=>
  cases B1
  ·go_wp2
   go_meet
   case rel=>exact ⟨by rw [HX2.out];rfl,rfl⟩
  ·go_wp2
   go_meet
   case rel=>exact ⟨by rw [HX2.out,orIf_t,← bor16 hx1],rfl⟩
 case rest=>
 obtain ⟨rfl,hwc⟩:=hcut
 have hwc:=hwc.symm
 subst hwc
 go_upto_if 20 with (fail)
 go_cut [3] from 4 (fun s3 wx=>s3=.int .u64 (X3:Nat)∧wx=W)
 case first=>
  cases B2
  ·go_wp2
   go_meet
   case rel=>exact ⟨by rw [HX3.out];rfl,rfl⟩
  ·go_wp2
   go_meet
   case rel=>exact ⟨by rw [HX3.out,orIf_t,← bor32 hx2],rfl⟩
 case rest=>
 obtain ⟨rfl,hwc⟩:=hcut
 have hwc:=hwc.symm
 subst hwc
 go_upto_if 25 with (fail)
 go_cut [3] from 4 (fun s3 wx=>s3=.int .u64 (X4:Nat)∧wx=W)
 case first=>
  cases B3
  ·go_wp2
   go_meet
   case rel=>exact ⟨by rw [HX4.out];rfl,rfl⟩
  ·go_wp2
   go_meet
   case rel=>exact ⟨by rw [HX4.out,orIf_t,← bor64 hx3],rfl⟩
 case rest=>
 obtain ⟨rfl,hwc⟩:=hcut
 have hwc:=hwc.symm
 subst hwc
 go_upto_if 30 with (fail)
 go_cut [3] from 4 (fun s3 wx=>s3=.int .u64 (X5:Nat)∧wx=W)
 case first=>
  cases B4
  ·go_wp2
   go_meet
   case rel=>exact ⟨by rw [HX5.out];rfl,rfl⟩
  ·go_wp2
   go_meet
   case rel=>exact ⟨by rw [HX5.out,orIf_t,← bor128 hx4],rfl⟩
 case rest=>
 obtain ⟨rfl,hwc⟩:=hcut
 have hwc:=hwc.symm
 subst hwc
 go_wp2
 go_ret
 exact ⟨rfl,rfl⟩
end Go.Proofs.YtcdpiefflnaghaaGreatDoor
namespace Go.Proofs.YtcdpiefflnaghaaGreatDoor
open Go.RowKit Go.Sort Go.Shelf
theorem grow_same (w:World):∃ q os',w=grow (w.drewN q) os':=⟨0,#[],by simp [grow,World.drewN_zero]⟩
end Go.Proofs.YtcdpiefflnaghaaGreatDoor
namespace Go.Proofs.YtcdpiefflnaghaaGreatDoor
open Go.RowKit Go.Sort Go.Shelf
theorem g_grow (w:World)(n:Nat)(os:Array Obj):RowKit.Below w.heap.size w (grow (w.drewN n) os):=
 ⟨rfl,rfl,rfl,by simp [grow,World.drewN],fun k hk=>heap_grow_old _ _ hk⟩
end Go.Proofs.YtcdpiefflnaghaaGreatDoor
namespace Go.Proofs.YtcdpiefflnaghaaGreatDoor
open Go.RowKit Go.Sort Go.Shelf
theorem Cm.may_parts {c:Cm}(h:c.may=true):(1≤c.kind∧c.kind≤11)∧tenOk c.tenant=true∧c.kOk=true∧c.vOk=true∧c.lOk=true∧c.fOk=true∧c.bOk=true:=by
 unfold Cm.may at h
 simp only [Bool.and_eq_true,decide_eq_true_eq] at h
 obtain ⟨⟨⟨⟨⟨⟨h1,h2⟩,h3⟩,h4⟩,h5⟩,h6⟩,h7⟩:=h
 exact ⟨h1,h2,h3,h4,h5,h6,h7⟩
theorem Cm.kOk_len {c:Cm}(h:c.kOk=true):c.keys.length≤8:=by
 unfold Cm.kOk at h
 split at h
 ·have h0:c.keys.length=0:=by simpa using h
  omega
 ·simp only [Bool.and_eq_true,decide_eq_true_eq] at h
  exact h.1.1.2.1
theorem names_step {c:Cm}{k:Nat}(h:k<c.keys.length):c.names.take (k+1)=c.names.take k++[(c.tenant,c.keys[k])]:=by
 unfold Cm.names
 rw [List.take_add_one,List.getElem?_eq_getElem (by simpa using h)]
 simp
end Go.Proofs.YtcdpiefflnaghaaGreatDoor
namespace Go.Proofs.YtcdpiefflnaghaaGreatDoor
open Go.RowKit Go.Sort Go.Shelf
def mvN:Fin 3→Nat
 | 0=>1
 | 1=>2
 | 2=>4
def hv (m:Fin 3)(v f l u y:Bool):Nat:=orIf y (orIf u (orIf l (orIf f (orIf v (mvN m) 8) 16) 32) 64) 128
def mcl (n:Nat):Fin 3:=if n=0 then 0 else if n=1 then 1 else 2
theorem mvN_mcl (n:Nat):mvN (mcl n)=manyN n:=by
 unfold mcl manyN
 by_cases h0:n=0
 ·rw [if_pos h0,if_pos h0];rfl
 ·rw [if_neg h0,if_neg h0]
  by_cases h1:n=1
  ·rw [if_pos h1,if_pos h1];rfl
  ·rw [if_neg h1,if_neg h1];rfl
theorem mcl_0 (n:Nat):mcl n=0↔n=0:=by
 unfold mcl
 by_cases h0:n=0
 ·simp [h0]
 ·rw [if_neg h0]
  by_cases h1:n=1
  ·simp [h1]
  ·simp [h0,h1]
theorem mcl_1 (n:Nat):mcl n=1↔n=1:=by
 unfold mcl
 by_cases h0:n=0
 ·simp [h0]
 ·rw [if_neg h0]
  by_cases h1:n=1
  ·simp [h1]
  ·simp [h0,h1]
theorem bits_6:∀ (m:Fin 3) (v f l u y:Bool),(bits BinOp.andNot IntKind.u64 ((hv m v f l u y:Nat):Int) 6 != 0)=!(decide (m≠0) && !v && !f && !l && !u && !y):=by decide +kernel
theorem bits_58:∀ (m:Fin 3) (v f l u y:Bool),(bits BinOp.andNot IntKind.u64 ((hv m v f l u y:Nat):Int) 58 != 0)=!(decide (m=1) && !u && !y):=by decide +kernel
theorem bits_122:∀ (m:Fin 3) (v f l u y:Bool),(bits BinOp.andNot IntKind.u64 ((hv m v f l u y:Nat):Int) 122 != 0)=!(decide (m=1) && !y):=by decide +kernel
theorem bits_130:∀ (m:Fin 3) (v f l u y:Bool),(bits BinOp.andNot IntKind.u64 ((hv m v f l u y:Nat):Int) 130 != 0)=!(decide (m=1) && !v && !f && !l && !u):=by decide +kernel
theorem bits_10:∀ (m:Fin 3) (v f l u y:Bool),(bits BinOp.andNot IntKind.u64 ((hv m v f l u y:Nat):Int) 10 != 0)=!(decide (m=1) && !f && !l && !u && !y):=by decide +kernel
theorem bits_34:∀ (m:Fin 3) (v f l u y:Bool),(bits BinOp.andNot IntKind.u64 ((hv m v f l u y:Nat):Int) 34 != 0)=!(decide (m=1) && !v && !f && !u && !y):=by decide +kernel
theorem bits_1:∀ (m:Fin 3) (v f l u y:Bool),(bits BinOp.andNot IntKind.u64 ((hv m v f l u y:Nat):Int) 1 != 0)=!(decide (m=0) && !v && !f && !l && !u && !y):=by decide +kernel
theorem bits_0:∀ (m:Fin 3) (v f l u y:Bool),(bits BinOp.andNot IntKind.u64 ((hv m v f l u y:Nat):Int) 0 != 0)=!false:=by decide +kernel
def Cm.bad (c:Cm):Bool:=bits BinOp.andNot IntKind.u64 ((c.hasN:Nat):Int) ((mayN c.kind:Nat):Int) != 0
def keysC (l:List ByteArray):Bool:=decide (l.length≤8) && l.all keyOk && decide l.Nodup
theorem Cm.hasN_hv (c:Cm):c.hasN=hv (mcl c.keys.length) (!decide (c.value.size=0)) (!decide (c.flags=0)) (!decide (c.life=0)) (!decide (c.unique=0)) (!decide (c.by_=0)):=by
 unfold Cm.hasN hv
 rw [mvN_mcl]
theorem Cm.may_code (c:Cm):c.may=(!c.bad && tenOk c.tenant && keysC c.keys && decide (c.value.size≤512) && decide (0≤c.life∧c.life≤1099511627776)):=by
 unfold Cm.bad
 rw [c.hasN_hv]
 obtain ⟨kind,tenant,keys,value,flags,life,unique,by_⟩:=c
 unfold Cm.may Cm.kOk Cm.vOk Cm.lOk Cm.fOk Cm.bOk Cm.puts keysC
 dsimp only
 have h0:keys.length=0→keys.all keyOk=true∧decide keys.Nodup=true:=by
  intro e
  have:=List.eq_nil_of_length_eq_zero e
  subst this
  exact ⟨rfl,by simp⟩
 have c0:=mcl_0 keys.length
 have c1:=mcl_1 keys.length
 generalize mcl keys.length=m at c0 c1 ⊢
 generalize keys.length=n at h0 c0 c1 ⊢
 generalize keys.all keyOk=A at h0 ⊢
 generalize decide keys.Nodup=N at h0 ⊢
 generalize tenOk tenant=T
 generalize value.size=vs
 by_cases k1:kind=1
 ·subst k1
  rw [show ((mayN 1:Nat):Int)=6 from rfl,bits_6]
  rw [Bool.eq_iff_iff]
  cases A <;> cases N <;> cases T <;> simp [c0,c1] at h0 ⊢ <;> omega
 by_cases k2:kind=2
 ·subst k2
  rw [show ((mayN 2:Nat):Int)=58 from rfl,bits_58]
  rw [Bool.eq_iff_iff]
  cases A <;> cases N <;> cases T <;> simp [c0,c1] at h0 ⊢ <;> omega
 by_cases k3:kind=3
 ·subst k3
  rw [show ((mayN 3:Nat):Int)=58 from rfl,bits_58]
  rw [Bool.eq_iff_iff]
  cases A <;> cases N <;> cases T <;> simp [c0,c1] at h0 ⊢ <;> omega
 by_cases k4:kind=4
 ·subst k4
  rw [show ((mayN 4:Nat):Int)=58 from rfl,bits_58]
  rw [Bool.eq_iff_iff]
  cases A <;> cases N <;> cases T <;> simp [c0,c1] at h0 ⊢ <;> omega
 by_cases k5:kind=5
 ·subst k5
  rw [show ((mayN 5:Nat):Int)=122 from rfl,bits_122]
  rw [Bool.eq_iff_iff]
  cases A <;> cases N <;> cases T <;> simp [c0,c1] at h0 ⊢ <;> omega
 by_cases k6:kind=6
 ·subst k6
  rw [show ((mayN 6:Nat):Int)=130 from rfl,bits_130]
  rw [Bool.eq_iff_iff]
  cases A <;> cases N <;> cases T <;> simp [c0,c1] at h0 ⊢ <;> omega
 by_cases k7:kind=7
 ·subst k7
  rw [show ((mayN 7:Nat):Int)=130 from rfl,bits_130]
  rw [Bool.eq_iff_iff]
  cases A <;> cases N <;> cases T <;> simp [c0,c1] at h0 ⊢ <;> omega
 by_cases k8:kind=8
 ·subst k8
  rw [show ((mayN 8:Nat):Int)=10 from rfl,bits_10]
  rw [Bool.eq_iff_iff]
  cases A <;> cases N <;> cases T <;> simp [c0,c1] at h0 ⊢ <;> omega
 by_cases k9:kind=9
 ·subst k9
  rw [show ((mayN 9:Nat):Int)=34 from rfl,bits_34]
  rw [Bool.eq_iff_iff]
  cases A <;> cases N <;> cases T <;> simp [c0,c1] at h0 ⊢ <;> omega
 by_cases k10:kind=10
 ·subst k10
  rw [show ((mayN 10:Nat):Int)=6 from rfl,bits_6]
  rw [Bool.eq_iff_iff]
  cases A <;> cases N <;> cases T <;> simp [c0,c1] at h0 ⊢ <;> omega
 by_cases k11:kind=11
 ·subst k11
  rw [show ((mayN 11:Nat):Int)=1 from rfl,bits_1]
  rw [Bool.eq_iff_iff]
  cases A <;> cases N <;> cases T <;> simp [c0,c1] at h0 ⊢ <;> omega
 have e0:mayN kind=0:=by unfold mayN;simp [k1,k2,k3,k4,k5,k6,k7,k8,k9,k10,k11]
 rw [e0,show ((0:Nat):Int)=0 from rfl,bits_0]
 have e1:¬ (1≤kind∧kind≤11):=by omega
 simp [e1]
end Go.Proofs.YtcdpiefflnaghaaGreatDoor
namespace Go.Proofs.YtcdpiefflnaghaaGreatDoor
open Go.RowKit Go.Sort Go.Shelf
theorem GRd.take {α:Type}{E:GEl α}{w:World}{ao:Option Addr}{l:List α}{cap:Nat}(h:GRd E w ao l cap)(k:Nat):GRd E w ao (l.take k) cap:=by
 refine ⟨by have:=h.hl;simp;omega,h.hc,h.hn,?_⟩
 rcases h.at_ with rfl | ⟨b,off,e,hb,hc⟩
 ·exact .inl (by simp)
 ·refine .inr ⟨b,off,e,hb,fun i hi j hj=>?_⟩
  have hi':i<l.length:=by simp at hi;omega
  rw [List.getElem_take]
  exact hc i hi' j hj
theorem keysC_false {l:List ByteArray}{k:Nat}(hk:k<l.length)(h:keyOk l[k]=false∨l[k]∈l.take k):keysC l=false:=by
 unfold keysC
 rcases h with h | h
 ·have:l.all keyOk=false:=by
   rw [List.all_eq_false]
   exact ⟨l[k],List.getElem_mem hk,by simp [h]⟩
  simp [this]
 ·have:¬ l.Nodup:=fun hn=>takes_of_nodup hn k hk h
  simp [this]
theorem keysC_true {l:List ByteArray}(h8:l.length≤8)(h:∀ j (hj:j<l.length),keyOk l[j]=true∧l[j]∉l.take j):keysC l=true:=by
 unfold keysC
 have h1:l.all keyOk=true:=by
  rw [List.all_eq_true]
  intro x hx
  obtain ⟨j,hj,rfl⟩:=List.getElem_of_mem hx
  exact (h j hj).1
 have h2:l.Nodup:=nodup_of_takes (fun j hj=>(h j hj).2)
 simp [h1,h2,h8]
set_option maxHeartbeats 1000000 in
theorem keysMayBe_any (l:List ByteArray)(ao:Option Addr)(cap:Nat)(w:World)(h:GRd ES w ao l cap):
  Calls Tryz.prog 136 #[.slice ao l.length cap] w fun e w'=>e=.returned (.bool (keysC l))∧w'=w:=by
 have hlen:=h.len
 have hcap:=h.hl
 have hcm:=h.hc
 have HR:=Hid.m h
 by_cases h8:8<l.length
 ·have e:keysC l=false:=by unfold keysC;rw [decide_eq_false (by omega)];rfl
  rw [e]
  have h8':(8:Int)<(l.length:Int):=by omega
  clear h e
  go_enter Tryz.func136,Tryz.ntmps136
  go_wp2
  go_ret
  exact ⟨rfl,rfl⟩
 have h8':¬ (8:Int)<(l.length:Int):=by omega
 have HF:=Hid.m (fun k hk=>@keysC_false l k hk)
 have HT:=Hid.m (@keysC_true l (by omega))
 obtain ⟨R,hR⟩:∃ R,R=keysC l:=⟨_,rfl⟩
 rw [← hR] at HF HT ⊢
 clear hR h
 go_enter Tryz.func136,Tryz.ntmps136
 go_wp2
 go_loopw [3,4,10] (fun _ _ i wr=>∃ k:Nat,k≤l.length∧i=.int .i64 k∧wr=w∧Hid (∀ j (hj:j<l.length),j<k→keyOk l[j]=true∧l[j]∉l.take j)) (fun _ _ i _=>l.length - (intOf i).toNat)
 case atStart=>exact ⟨0,Nat.zero_le _,rfl,rfl,fun _ _ h=>absurd h (by omega)⟩
 case round=>
  obtain ⟨k,hk,rfl,hwr,HA⟩:=hrel
  have hwr:=hwr.symm
  subst hwr
  by_cases hkl:k<l.length
  ·have hkl2:(k:Int)<(l.length:Int):=by omega
   have hne:l≠[]:=by intro e;rw [e] at hkl;simp at hkl
   obtain ⟨b,off,rfl,hbl,hcs⟩:=HR.out.str hne
   have r0:=hcs k hkl
   obtain ⟨y,hye⟩:∃ y,y=l[k]:=⟨_,rfl⟩
   rw [← hye] at r0
   have HFK:=HF.out k hkl
   rw [← hye] at HFK
   have HFK:=Hid.m HFK
   by_cases s1:y.size<1
   ·have s1':(y.size:Int)<1:=by omega
    have e:R=false:=HFK.out (.inl (by simp [keyOk];omega))
    subst e
    clear HF HT HA HFK hcs hne hye
    go_wp2
    go_ret
    exact ⟨rfl,rfl⟩
   have s1':¬ (y.size:Int)<1:=by omega
   by_cases s2:32<y.size
   ·have s2':(32:Int)<(y.size:Int):=by omega
    have e:R=false:=HFK.out (.inl (by simp [keyOk];omega))
    subst e
    clear HF HT HA HFK hcs hne hye
    go_wp2
    go_ret
    exact ⟨rfl,rfl⟩
   have s2':¬ (32:Int)<(y.size:Int):=by omega
   have HC:=Hid.m (containsS_any (l.take k) (some ⟨b,off,none⟩) cap k (by simp;omega) y w (HR.out.take k))
   have hkc:k≤cap:=by omega
   have hkc2:(k:Int)≤(cap:Int):=by omega
   obtain ⟨Z,hZ⟩:∃ Z:Bool,Z=decide (y∈l.take k):=⟨_,rfl⟩
   rw [← hZ] at HC
   cases Z
   ·have hn:y∉l.take k:=by simpa using hZ.symm
    have HA2:Hid (∀ j (hj:j<l.length),j<k+1→keyOk l[j]=true∧l[j]∉l.take j):=by
     intro j hj hjk
     by_cases e:j=k
     ·subst e;rw [← hye];exact ⟨by simp [keyOk];omega,hn⟩
     ·exact HA.out j hj (by omega)
    clear HF HT HA HFK hcs hne hye hn hZ
    go_wp2_with (go_at_call 186;refine HC.out.mono ?_;rintro e w1 ⟨rfl,hw1⟩;have hw1:=hw1.symm;subst hw1)
    go_roundw
    case rel=>exact ⟨k+1,by omega,by go_num,by first | rfl | trivial,HA2⟩
    case measure=>simp [intOf];omega
   ·have hn:y∈l.take k:=by simpa using hZ.symm
    have e:R=false:=HFK.out (.inr hn)
    subst e
    clear HF HT HA HFK hcs hne hye hn hZ
    go_wp2_with (go_at_call 186;refine HC.out.mono ?_;rintro e w1 ⟨rfl,hw1⟩;have hw1:=hw1.symm;subst hw1)
    go_ret
    exact ⟨rfl,rfl⟩
  ·have e:=HT.out (fun j hj=>HA.out j hj (by omega))
   subst e
   have hkl2:¬ (k:Int)<(l.length:Int):=by omega
   clear HF HT HA
   go_wp2
   go_ret
   exact ⟨rfl,rfl⟩
set_option maxHeartbeats 2000000 in
theorem pcheck_any (c:Cm)(ko:Option Addr)(kc:Nat)(w:World)(h:GRd ES w ko c.keys kc):
  Calls Tryz.prog 83 #[.agg (c.arr (.slice ko c.keys.length kc))] w fun e w'=>e=.returned (.int .i64 c.chkE)∧RowKit.Below w.heap.size w w':=by
 have mixed:Tryz.prog.follows .mixedOrders=true:=by kernel_rfl
 have HK:=Hid.m (fun W (hW:RowKit.Below w.heap.size w W)=>keysMayBe_any c.keys ko kc W (h.below hW))
 have HHS:Hid (∀ W,Calls Tryz.prog 134 #[.agg (c.arr (.slice ko c.keys.length kc))] W fun e w'=>e=.returned (.int .u64 (c.hasN:Nat))∧∃ q os',w'=grow (W.drewN q) os'):=fun W=>(has_any c ko kc W).mono (by rintro e w' ⟨rfl,rfl⟩;exact ⟨rfl,0,_,alloc_eq_grow _ _⟩)
 have HMH:Hid (∀ W,Calls Tryz.prog 135 #[.int .u8 c.kind] W fun e w'=>e=.returned (.int .u64 (mayN c.kind:Nat))∧∃ q os',w'=grow (W.drewN q) os'):=fun W=>(mayHave_any c.kind W).mono (by rintro e w' ⟨rfl,rfl⟩;exact ⟨rfl,grow_same _⟩)
 have HM:=Hid.m (Cm.At.made c (.slice ko c.keys.length kc) w)
 unfold Cm.chkE
 rw [c.may_code]
 obtain ⟨B,hB⟩:∃ B,B=c.bad:=⟨_,rfl⟩
 obtain ⟨T,hT⟩:∃ T,T=tenOk c.tenant:=⟨_,rfl⟩
 obtain ⟨K,hK⟩:∃ K,K=keysC c.keys:=⟨_,rfl⟩
 have hB':=hB
 unfold Cm.bad at hB'
 rw [← hB,← hT,← hK]
 rw [← hK] at HK
 obtain ⟨E,hE⟩:∃ E:Int,E=if (!B && T && K && decide (c.value.size≤512) && decide (0≤c.life∧c.life≤1099511627776))=true then 0 else 100:=⟨_,rfl⟩
 rw [← hE]
 have HE:=Hid.m hE
 clear hE
 obtain ⟨HN,hHN⟩:∃ HN,HN=c.hasN:=⟨_,rfl⟩
 obtain ⟨MN,hMN⟩:∃ MN,MN=mayN c.kind:=⟨_,rfl⟩
 rw [← hHN,← hMN] at hB'
 rw [← hHN] at HHS
 rw [← hMN] at HMH
 obtain ⟨Z,hZ⟩:∃ Z,Z=bits BinOp.andNot IntKind.u64 (HN:Int) (MN:Int):=⟨_,rfl⟩
 rw [← hZ] at hB'
 have hz:=hZ.symm
 have HBZ:=Hid.m hB'
 have HT:=Hid.m hT
 clear hB hK hHN hMN h hT hB' hZ
 obtain ⟨kind,tenant,keys,value,flags,life,unique,by_⟩:=c
 unfold Cm.arr at *
 dsimp only at *
 obtain ⟨W,hW⟩:∃ W,W=w.alloc (.cells #[.int .u8 kind,.int .i64 tenant,.slice ko keys.length kc,.string value,.int .u32 flags,.int .i64 life,.int .u64 unique,.int .u64 by_] 37):=⟨_,rfl⟩
 have HB:Hid (RowKit.Below w.heap.size w W):=by rw [hW];exact g_alloc _ _
 rw [← hW] at HM
 obtain ⟨hlt,c0,c1,c2,c3,c4,c5,c6,c7⟩:=HM.out
 dsimp only at c0 c1 c2 c3 c4 c5 c6 c7
 go_enter Tryz.func83,Tryz.ntmps83
 go_upto_region 1 with (fail)
 rw [← hW]
 clear hW
 have d0:∀ n os,(grow (W.drewN n) os).cell? ⟨w.heap.size,0,none⟩=_:=cell_grown hlt c0
 have d1:∀ n os,(grow (W.drewN n) os).cell? ⟨w.heap.size,1,none⟩=_:=cell_grown hlt c1
 have d2:∀ n os,(grow (W.drewN n) os).cell? ⟨w.heap.size,2,none⟩=_:=cell_grown hlt c2
 have d3:∀ n os,(grow (W.drewN n) os).cell? ⟨w.heap.size,3,none⟩=_:=cell_grown hlt c3
 have d4:∀ n os,(grow (W.drewN n) os).cell? ⟨w.heap.size,4,none⟩=_:=cell_grown hlt c4
 have d5:∀ n os,(grow (W.drewN n) os).cell? ⟨w.heap.size,5,none⟩=_:=cell_grown hlt c5
 have d6:∀ n os,(grow (W.drewN n) os).cell? ⟨w.heap.size,6,none⟩=_:=cell_grown hlt c6
 have d7:∀ n os,(grow (W.drewN n) os).cell? ⟨w.heap.size,7,none⟩=_:=cell_grown hlt c7
 clear c0 c1 c2 c3 c4 c5 c6 c7
 go_cut [3] from 4 (fun s3 wx=>s3=.bool B∧Hid (RowKit.Below W.heap.size W wx))
 case first=>
  go_quiet_grown (first
   | (go_at_call 134;exact Calls.grown_of (HHS.out _))
   | (go_at_call 135;exact Calls.grown_of (HMH.out _)))
  go_wp2
  go_meet
  case rel=>exact ⟨by rw [HBZ.out],g_grow _ _ _⟩
 case rest=>
 obtain ⟨rfl,HBC⟩:=hcut
 have HB2:=Hid.m (g_on HB.out HBC.out)
 obtain ⟨hlt2,c0,c1,c2,c3,c4,c5,c6,c7⟩:=HM.out.below HBC.out
 dsimp only at c0 c1 c2 c3 c4 c5 c6 c7
 clear d0 d1 d2 d3 d4 d5 d6 d7 hz HBZ HHS HMH HBC HB
 cases B
 case true=>
  go_wp2
  go_ret
  exact ⟨by rw [HE.out];simp,HB2.out⟩
 by_cases t1:tenant<0
 ·have e:T=false:=by rw [HT.out];simp [tenOk];omega
  subst e
  go_wp2
  go_ret
  exact ⟨by rw [HE.out];simp,HB2.out⟩
 by_cases t2:4≤tenant
 ·have e:T=false:=by rw [HT.out];simp [tenOk];omega
  subst e
  go_wp2
  go_ret
  exact ⟨by rw [HE.out];simp,HB2.out⟩
 have e:T=true:=by rw [HT.out];simp [tenOk];omega
 subst e
 clear HT
 cases K
 case false=>
  go_wp2_with (go_at_call 136;refine (HK.out _ HB2.out).mono ?_;rintro e w1 ⟨rfl,hw1⟩;have hw1:=hw1.symm;subst hw1)
  go_ret
  exact ⟨by rw [HE.out];simp,HB2.out⟩
 by_cases v1:512<value.size
 ·have v1':(512:Int)<(value.size:Int):=by omega
  go_wp2_with (go_at_call 136;refine (HK.out _ HB2.out).mono ?_;rintro e w1 ⟨rfl,hw1⟩;have hw1:=hw1.symm;subst hw1)
  go_ret
  exact ⟨by rw [HE.out,if_neg (by simp;omega)];rfl,HB2.out⟩
 have v1':¬ (512:Int)<(value.size:Int):=by omega
 by_cases l1:life<0
 ·go_wp2_with (go_at_call 136;refine (HK.out _ HB2.out).mono ?_;rintro e w1 ⟨rfl,hw1⟩;have hw1:=hw1.symm;subst hw1)
  go_ret
  exact ⟨by rw [HE.out,if_neg (by simp;omega)];rfl,HB2.out⟩
 by_cases l2:1099511627776<life
 ·go_wp2_with (go_at_call 136;refine (HK.out _ HB2.out).mono ?_;rintro e w1 ⟨rfl,hw1⟩;have hw1:=hw1.symm;subst hw1)
  go_ret
  exact ⟨by rw [HE.out,if_neg (by simp;omega)];rfl,HB2.out⟩
 go_wp2_with (go_at_call 136;refine (HK.out _ HB2.out).mono ?_;rintro e w1 ⟨rfl,hw1⟩;have hw1:=hw1.symm;subst hw1)
 go_ret
 exact ⟨by rw [HE.out,if_pos (by simp;omega)];rfl,HB2.out⟩
end Go.Proofs.YtcdpiefflnaghaaGreatDoor
