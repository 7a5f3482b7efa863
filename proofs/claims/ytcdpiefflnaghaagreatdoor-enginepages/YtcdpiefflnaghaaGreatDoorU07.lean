/-
  Package engine and what stands beneath it, part 07: contracts of functions, and what they rest on.
-/
import Derived.Test.YtcdpiefflnaghaaGreatDoorRows
import Derived.WalkKit
import Derived.ProofKit
import Derived.Lib.Hide
import Derived.BigCall
import Derived.BigGuard
import Derived.BigQuiet
import Derived.Laws.Runes
import Derived.Laws.RangeString
import Derived.Laws.RangeAny
import Derived.LoopTactic
import Derived.Shelf.Lay
import Derived.Shelf.Strconv.Itoa1
import Derived.Shelf.Strconv.Itoa2
import Derived.Shelf.Strings.OnBuilder
import Derived.Ground.NamesProg
import Derived.Lib.AppendIntMem
import Derived.Lib.ItoaLen
import Derived.ShutString
import Derived.ChangeOld
import Derived.Deep.Slices
import Derived.SliceStrings
import Derived.SizedLaws
import Derived.ChangeMaps
import Derived.Carry
import Derived.OpenShut
import Derived.Test.YtcdpiefflnaghaaGreatDoorChecked
import Derived.Test.YtcdpiefflnaghaaGreatDoorTie
import Derived.Test.YtcdpiefflnaghaaGreatDoorCards
import Derived.LaidMore
import Derived.Lib.LaidTab
import Derived.Stop.LaidErr
import Derived.Stop.Joined
set_option linter.unusedSimpArgs false
set_option linter.unusedVariables false
set_option maxRecDepth 100000
namespace Go.Proofs.YtcdpiefflnaghaaGreatDoor.It
open Go.RowKit
def dig (d:Nat):UInt8:=UInt8.ofNat (48+d)
def isD (b:UInt8):Bool:=decide (48≤b.toNat∧b.toNat≤57)
def dv (b:UInt8):Nat:=b.toNat - 48
def decL (n:Nat):List UInt8:=if h:n<10 then [dig n] else decL (n / 10)++[dig (n % 10)]
termination_by n
decreasing_by omega
def valL (l:List UInt8):Nat:=l.foldl (fun n b=>10 * n+dv b) 0
def isNum (l:List UInt8):Bool:=
 decide (l≠[]) && decide (l.length≤20) && (decide (l.head?≠some 48) || decide (l=[48])) && l.all isD && decide (valL l<18446744073709551616)
def numV (l:List UInt8):Nat:=if isNum l=true then valL l else 0
theorem dig_nat {d:Nat}(h:d<10):(dig d).toNat=48+d:=by
 unfold dig
 rw [UInt8.toNat_ofNat']
 omega
theorem dig_dv {b:UInt8}(h:isD b=true):dig (dv b)=b:=by
 have h1:48≤b.toNat∧b.toNat≤57:=by simpa [isD] using h
 apply UInt8.toNat_inj.1
 rw [dig_nat (by unfold dv;omega)]
 unfold dv
 omega
theorem dv_lt {b:UInt8}(h:isD b=true):dv b<10:=by
 have h1:48≤b.toNat∧b.toNat≤57:=by simpa [isD] using h
 unfold dv
 omega
theorem valL_snoc (l:List UInt8)(b:UInt8):valL (l++[b])=10 * valL l+dv b:=by unfold valL;rw [List.foldl_append];rfl
theorem decL_small {n:Nat}(h:n<10):decL n=[dig n]:=by rw [decL,dif_pos h]
theorem decL_great {n:Nat}(h:¬ n<10):decL n=decL (n / 10)++[dig (n % 10)]:=by rw [decL,dif_neg h]
theorem valL_cons_le (b:UInt8)(l:List UInt8):∀ m,m * 10 ^ l.length≤l.foldl (fun n b=>10 * n+dv b) m:=by
 induction l with
 | nil=>intro m;simp
 | cons c l ih=>
  intro m
  have:=ih (10 * m+dv c)
  simp only [List.foldl_cons,List.length_cons]
  refine Nat.le_trans ?_ this
  rw [Nat.pow_succ,Nat.mul_comm (10 ^ l.length) 10,← Nat.mul_assoc]
  exact Nat.mul_le_mul_right _ (by omega)
theorem valL_pos {l:List UInt8}(h0:l≠[])(hd:l.all isD=true)(hh:l.head?≠some 48):0<valL l:=by
 cases l with
 | nil=>exact absurd rfl h0
 | cons b l=>
  have h1:isD b=true:=by simp at hd;exact hd.1
  have h2:dv b≠0:=by
   intro e
   apply hh
   have:=dig_dv h1
   rw [e] at this
   simp [← this]
   rfl
  have h3:=valL_cons_le b l (10 * 0+dv b)
  have h4:0<(10 * 0+dv b) * 10 ^ l.length:=Nat.mul_pos (by omega) (Nat.pow_pos (by decide))
  have h5:valL (b::l)=l.foldl (fun n b=>10 * n+dv b) (10 * 0+dv b):=rfl
  omega
theorem isNum_parts {l:List UInt8}(h:isNum l=true):l≠[]∧l.length≤20∧(l.head?≠some 48∨l=[48])∧l.all isD=true∧valL l<18446744073709551616:=by
 unfold isNum at h
 simp only [Bool.and_eq_true,Bool.or_eq_true,decide_eq_true_eq] at h
 exact ⟨h.1.1.1.1,h.1.1.1.2,h.1.1.2,h.1.2,h.2⟩
theorem numV_lt (l:List UInt8):numV l<18446744073709551616:=by
 unfold numV
 split
 ·rename_i h;exact (isNum_parts h).2.2.2.2
 ·decide
theorem valL_take {l:List UInt8}{k:Nat}(h:k<l.length):valL (l.take (k+1))=10 * valL (l.take k)+dv l[k]:=by
 rw [List.take_succ_eq_append_getElem h,valL_snoc]
theorem valL_take_le (l:List UInt8)(k:Nat):valL (l.take k)≤valL l:=by
 have h1:valL l=(l.drop k).foldl (fun n b=>10 * n+dv b) (valL (l.take k)):=by
  unfold valL
  rw [← List.foldl_append,List.take_append_drop]
 have h2:=valL_cons_le 0 (l.drop k) (valL (l.take k))
 rw [← h1] at h2
 exact Nat.le_trans (Nat.le_mul_of_pos_right _ (Nat.pow_pos (by decide))) h2
end Go.Proofs.YtcdpiefflnaghaaGreatDoor.It
namespace Go.Proofs.YtcdpiefflnaghaaGreatDoor.It
open Go.RowKit
theorem Hid.m {p:Prop}(h:p):Hid p:=h
structure It where
 key:ByteArray
 value:ByteArray
 flags:Int
 till:Int
 unique:Int
def It.v (x:It):Value:=.agg #[.string x.key,.string x.value,.int .u32 x.flags,.int .i64 x.till,.int .u64 x.unique]
def It.obj (x:It):Obj:=.cells #[.string x.key,.string x.value,.int .u32 x.flags,.int .i64 x.till,.int .u64 x.unique] 76
def mom (n:Int):Bool:=decide (0≤n) && decide (n≤1099511627776)
def ckE (x:It):Int:=if x.key.size<1∨32<x.key.size∨512<x.value.size then 3 else if mom x.till=true then 0 else 2
def szV (x:It):Int:=if ckE x=0 then 8+x.key.size+x.value.size else 0
def unE (now many:Int):Int:=if mom now=true∧mom many=true then 0 else 2
def unV (now many:Int):Int:=if mom now=true∧mom many=true∧many≠0∧now+many≤1099511627776 then now+many else 0
theorem isMoment_any (n:Int)(w:World):
  Calls Tryz.prog 182 #[.int .i64 n] w fun e w'=>e=.returned (.bool (mom n))∧w'=w:=by
 unfold mom
 by_cases h:0≤n
 ·have h':decide (0≤n)=true:=by simpa using h
  go_enter Tryz.func182,Tryz.ntmps182
  go_wp2
  go_ret
  exact ⟨by simp [h],rfl⟩
 ·have h':decide (0≤n)=false:=by simpa using h
  go_enter Tryz.func182,Tryz.ntmps182
  go_wp2
  go_ret
  exact ⟨by simp [h],rfl⟩
theorem icheck_any (x:It)(w:World):
  Calls Tryz.prog 129 #[x.v] w fun e w'=>e=.returned (.int .i64 (ckE x))∧w'=w.alloc x.obj:=by
 obtain ⟨key,value,flags,till,unique⟩:=x
 unfold ckE It.v It.obj
 dsimp only
 by_cases h1:key.size<1
 ·have h1':decide ((key.size:Int)<1)=true:=by simp;omega
  rw [if_pos (Or.inl h1)]
  clear h1
  go_enter Tryz.func129,Tryz.ntmps129
  go_wp2
  go_ret
  exact ⟨rfl,rfl⟩
 have h1':decide ((key.size:Int)<1)=false:=by simp;omega
 by_cases h2:32<key.size
 ·have h2':decide ((32:Int)<(key.size:Int))=true:=by simp;omega
  rw [if_pos (Or.inr (Or.inl h2))]
  clear h1 h2
  go_enter Tryz.func129,Tryz.ntmps129
  go_wp2
  go_ret
  exact ⟨rfl,rfl⟩
 have h2':decide ((32:Int)<(key.size:Int))=false:=by simp;omega
 by_cases h3:512<value.size
 ·have h3':decide ((512:Int)<(value.size:Int))=true:=by simp;omega
  rw [if_pos (Or.inr (Or.inr h3))]
  clear h1 h2 h3
  go_enter Tryz.func129,Tryz.ntmps129
  go_wp2
  go_ret
  exact ⟨rfl,rfl⟩
 have h3':decide ((512:Int)<(value.size:Int))=false:=by simp;omega
 rw [if_neg (by omega)]
 clear h1 h2 h3
 cases hm:mom till
 ·go_enter Tryz.func129,Tryz.ntmps129
  go_wp2_with (go_at_call 182;refine (isMoment_any _ _).mono ?_;rintro e w1 ⟨rfl,rfl⟩)
  all_goals go_ret
  all_goals first | exact ⟨rfl,rfl⟩ | simp_all
 ·go_enter Tryz.func129,Tryz.ntmps129
  go_wp2_with (go_at_call 182;refine (isMoment_any _ _).mono ?_;rintro e w1 ⟨rfl,rfl⟩)
  all_goals go_ret
  all_goals first | exact ⟨rfl,rfl⟩ | simp_all
theorem isize_any (x:It)(w:World):
  Calls Tryz.prog 78 #[x.v] w fun e w'=>e=.returned (.tuple #[.int .i64 (szV x),.int .i64 (ckE x)])∧w'=(w.alloc x.obj).alloc x.obj:=by
 have HC:=Hid.m (icheck_any x)
 obtain ⟨E,hE⟩:∃ E,E=ckE x:=⟨_,rfl⟩
 rw [← hE] at HC
 unfold szV
 rw [← hE]
 by_cases h0:E=0
 ·subst h0
  have hs:x.key.size≤32∧x.value.size≤512:=by
   unfold ckE at hE
   split at hE
   ·exact absurd hE (by decide)
   ·omega
  obtain ⟨key,value,flags,till,unique⟩:=x
  unfold It.v It.obj at *
  dsimp only at *
  have hk1:(key.size:Int)≤32:=by omega
  have hk2:(value.size:Int)≤512:=by omega
  clear hE hs
  go_enter Tryz.func78,Tryz.ntmps78
  go_wp2_with (go_at_call 129;refine (HC.out _).mono ?_;rintro e w1 ⟨rfl,rfl⟩)
  all_goals go_ret2
  all_goals exact ⟨rfl,rfl⟩
 ·have h0':(E==0)=false:=by simpa using h0
  have h0'':(E != 0)=true:=by simpa using h0
  rw [if_neg h0]
  obtain ⟨key,value,flags,till,unique⟩:=x
  unfold It.v It.obj at *
  dsimp only at *
  clear hE h0
  go_enter Tryz.func78,Tryz.ntmps78
  go_wp2_with (go_at_call 129;refine (HC.out _).mono ?_;rintro e w1 ⟨rfl,rfl⟩)
  all_goals go_ret2
  all_goals exact ⟨rfl,rfl⟩
theorem iuntil_any (now many:Int)(w:World):
  Calls Tryz.prog 131 #[.int .i64 now,.int .i64 many] w fun e w'=>e=.returned (.tuple #[.int .i64 (unV now many),.int .i64 (unE now many)])∧w'=w:=by
 cases h1:mom now
 ·have e1:unV now many=0:=by unfold unV;rw [if_neg (by simp [h1])]
  have e2:unE now many=2:=by unfold unE;rw [if_neg (by simp [h1])]
  rw [e1,e2]
  clear e1 e2
  go_enter Tryz.func131,Tryz.ntmps131
  go_wp2_with (go_at_call 182;refine (isMoment_any _ _).mono ?_;rintro e w1 ⟨rfl,rfl⟩)
  all_goals go_ret2
  all_goals first | exact ⟨rfl,rfl⟩ | simp_all
 cases h2:mom many
 ·have e1:unV now many=0:=by unfold unV;rw [if_neg (by simp [h2])]
  have e2:unE now many=2:=by unfold unE;rw [if_neg (by simp [h2])]
  rw [e1,e2]
  clear e1 e2
  go_enter Tryz.func131,Tryz.ntmps131
  go_wp2_with (go_at_call 182;refine (isMoment_any _ _).mono ?_;rintro e w1 ⟨rfl,rfl⟩)
  all_goals go_ret2
  all_goals first | exact ⟨rfl,rfl⟩ | simp_all
 have e2:unE now many=0:=by unfold unE;rw [if_pos ⟨h1,h2⟩]
 have e1:unV now many=if many≠0∧now+many≤1099511627776 then now+many else 0:=by unfold unV;simp [h1,h2]
 have b1:0≤now∧now≤1099511627776:=by simpa [mom] using h1
 have b2:0≤many∧many≤1099511627776:=by simpa [mom] using h2
 obtain ⟨b11,b12⟩:=b1
 obtain ⟨b21,b22⟩:=b2
 rw [e2,e1]
 clear e1 e2
 by_cases h3:many=0
 ·subst h3
  go_enter Tryz.func131,Tryz.ntmps131
  go_wp2_with (go_at_call 182;refine (isMoment_any _ _).mono ?_;rintro e w1 ⟨rfl,rfl⟩)
  all_goals go_ret2
  all_goals first | exact ⟨rfl,rfl⟩ | simp_all
 ·have h3':(many==0)=false:=by simpa using h3
  by_cases h4:now+many≤1099511627776
  ·have h4':decide ((1099511627776:Int)<now+many)=false:=by simp;omega
   rw [if_pos ⟨h3,h4⟩]
   clear h3
   go_enter Tryz.func131,Tryz.ntmps131
   go_wp2_with (go_at_call 182;refine (isMoment_any _ _).mono ?_;rintro e w1 ⟨rfl,rfl⟩)
   all_goals go_ret2
   all_goals first | exact ⟨rfl,rfl⟩ | simp_all
  ·have h4':decide ((1099511627776:Int)<now+many)=true:=by simp;omega
   rw [if_neg (by intro h;exact h4 h.2)]
   clear h3 h4
   go_enter Tryz.func131,Tryz.ntmps131
   go_wp2_with (go_at_call 182;refine (isMoment_any _ _).mono ?_;rintro e w1 ⟨rfl,rfl⟩)
   all_goals go_ret2
   all_goals first | exact ⟨rfl,rfl⟩ | simp_all
end Go.Proofs.YtcdpiefflnaghaaGreatDoor.It
namespace Go.Proofs.YtcdpiefflnaghaaGreatDoor.It
open Go.RowKit
def bl (s:ByteArray):List UInt8:=s.data.toList
theorem bl_len (s:ByteArray):(bl s).length=s.size:=Array.length_toList
theorem bl_get (s:ByteArray)(k:Nat)(h:k<s.size)(h':k<(bl s).length):s[k]'h=(bl s)[k]:=by simp [bl];rfl
theorem bl_inj {s t:ByteArray}(h:bl s=bl t):s=t:=by
 cases s;cases t
 simp [bl] at h
 rw [h]
structure Nk (l:List UInt8)(k:Nat)(n:Nat):Prop where
 le:k≤l.length
 dig:(l.take k).all isD=true
 val:n=valL (l.take k)
 lt:n<18446744073709551616
 head:k≤1∨l.head?≠some 48
theorem Nk.start (l:List UInt8):Nk l 0 0:=⟨Nat.zero_le _,by simp,by simp [valL],by decide,.inl (by decide)⟩
theorem all_take {l:List UInt8}{k:Nat}(h:k<l.length)(hd:(l.take k).all isD=true)(hb:isD l[k]=true):(l.take (k+1)).all isD=true:=by
 rw [List.take_add_one,List.getElem?_eq_getElem h,List.all_append,hd]
 simp [hb]
theorem Nk.step {l:List UInt8}{k n:Nat}(h:Nk l k n)(hk:k<l.length)(hb:isD l[k]=true)(h0:¬ (0<k∧n=0))(hr:10 * n+dv l[k]<18446744073709551616):Nk l (k+1) (10 * n+dv l[k]) where
 le:=hk
 dig:=all_take hk h.dig hb
 val:=by rw [valL_take hk,← h.val]
 lt:=hr
 head:=by
  by_cases hk0:k=0
  ·left;omega
  ·right
   intro he
   apply h0
   refine ⟨by omega,?_⟩
   rcases h.head with h1 | h1
   ·have hk1:k=1:=by omega
    subst hk1
    rw [h.val]
    match l,he,hk with
    | a::l,he,hk=>
     simp at he
     subst he
     simp [valL,dv]
   ·exact absurd he h1
theorem Nk.not_digit {l:List UInt8}{k:Nat}(hk:k<l.length)(hb:isD l[k]=false):isNum l=false:=by
 cases h:isNum l
 ·rfl
 ·have:=(isNum_parts h).2.2.2.1
  rw [List.all_eq_true] at this
  rw [this _ (List.getElem_mem hk)] at hb
  cases hb
theorem Nk.nought {l:List UInt8}{k:Nat}{n:Nat}(h:Nk l k n)(hk:k<l.length)(h0:0<k)(hn:n=0):isNum l=false:=by
 cases hi:isNum l
 ·rfl
 ·obtain ⟨p1,p2,p3,p4,p5⟩:=isNum_parts hi
  rcases p3 with p3 | p3
  ·have hne:l.take k≠[]:=by
    intro e
    rw [List.take_eq_nil_iff] at e
    rcases e with e | e
    ·omega
    ·exact p1 e
   have hh:(l.take k).head?≠some 48:=by
    match l,k,h0 with
    | [],_,_=>simp
    | a::l,k+1,_=>simpa using p3
   have:=valL_pos hne h.dig hh
   rw [← h.val] at this
   omega
  ·rw [p3] at hk
   simp at hk
   omega
theorem Nk.beyond {l:List UInt8}{k n:Nat}(h:Nk l k n)(hk:k<l.length)(hr:¬ 10 * n+dv l[k]<18446744073709551616):isNum l=false:=by
 cases hi:isNum l
 ·rfl
 ·obtain ⟨p1,p2,p3,p4,p5⟩:=isNum_parts hi
  have h1:=valL_take hk
  rw [← h.val] at h1
  have h2:=valL_take_le l (k+1)
  omega
theorem Nk.fin {l:List UInt8}{n:Nat}(h:Nk l l.length n)(hne:l≠[]):isNum l=true∧numV l=n:=by
 have hd:=h.dig
 have hv:=h.val
 rw [List.take_length] at hd hv
 have hl:l.length≤20:=by
  rcases h.head with h1 | h1
  ·omega
  ·match l,hne,hd,hv,h1 with
   | a::l,_,hd,hv,h1=>
    have ha:isD a=true:=by simp at hd;exact hd.1
    have hp:1≤dv a:=by
     have h2:48≤a.toNat∧a.toNat≤57:=by simpa [isD] using ha
     unfold dv
     have:a.toNat≠48:=by
      intro e
      apply h1
      have:a=48:=UInt8.toNat_inj.1 e
      rw [this]
      rfl
     omega
    have h3:=valL_cons_le a l (dv a)
    have h4:valL (a::l)=l.foldl (fun n b=>10 * n+dv b) (dv a):=by simp [valL]
    rw [← h4,← hv] at h3
    have hlt:=h.lt
    rcases Nat.lt_or_ge l.length 20 with h5 | h5
    ·simp;omega
    ·have h6:10 ^ 20≤10 ^ l.length:=Nat.pow_le_pow_right (by decide) h5
     have h7:10 ^ l.length≤dv a * 10 ^ l.length:=Nat.le_mul_of_pos_left _ hp
     have h8:(10:Nat) ^ 20=100000000000000000000:=by decide
     omega
 have hi:isNum l=true:=by
  unfold isNum
  have hlt:=h.lt
  rw [hv] at hlt
  have hh:l.head?≠some 48∨l=[48]:=by
   rcases h.head with h1 | h1
   ·match l,hne,h1 with
    | [a],_,_=>
     by_cases ha:a=48
     ·right;rw [ha]
     ·left;simpa using ha
   ·exact .inl h1
  simp only [Bool.and_eq_true,Bool.or_eq_true,decide_eq_true_eq]
  exact ⟨⟨⟨⟨hne,hl⟩,hh⟩,hd⟩,hlt⟩
 exact ⟨hi,by unfold numV;rw [if_pos hi,hv]⟩
theorem numV_not {l:List UInt8}(h:isNum l=false):numV l=0:=by unfold numV;rw [h];rfl
theorem rune_digit (s:ByteArray)(k:Nat)(h:k<s.size)(h':k<(bl s).length)(hd:isD (bl s)[k]=true):(Utf8.decode s k).1=48+dv (bl s)[k]∧(Utf8.decode s k).2=1:=by
 have hb:48≤(bl s)[k].toNat∧(bl s)[k].toNat≤57:=by simpa [isD] using hd
 rw [← bl_get s k h h'] at hb
 rw [decode_ascii s k h (by omega),← bl_get s k h h']
 refine ⟨?_,rfl⟩
 unfold dv
 show (s[k]).toNat=_
 omega
theorem rune_not (s:ByteArray)(k:Nat)(h:k<s.size)(h':k<(bl s).length)(hd:isD (bl s)[k]=false):(Utf8.decode s k).1<48∨57<(Utf8.decode s k).1:=by
 have hb:¬ (48≤(bl s)[k].toNat∧(bl s)[k].toNat≤57):=by simpa [isD] using hd
 rw [← bl_get s k h h'] at hb
 by_cases ha:(s[k]'h).toNat<128
 ·rw [decode_ascii s k h ha]
  show (s[k]).toNat<48∨57<(s[k]).toNat
  omega
 ·right
  have:=(decode_high s k h (by omega)).1
  omega
set_option maxHeartbeats 4000000 in
theorem number_any (s:ByteArray)(w:World):
  Calls Tryz.prog 183 #[.string s] w fun e w'=>e=.returned (.tuple #[.int .u64 (numV (bl s)),.bool (isNum (bl s))])∧∃ pos,w'=w.iter s pos:=by
 obtain ⟨V,hV⟩:∃ V,V=numV (bl s):=⟨_,rfl⟩
 obtain ⟨B,hB⟩:∃ B,B=isNum (bl s):=⟨_,rfl⟩
 rw [← hV,← hB]
 have HV:=Hid.m hV
 have HB:=Hid.m hB
 clear hV hB
 go_enter Tryz.func183,Tryz.ntmps183
 go_wp2
 go_loopw [4] (fun n wr=>∃ (k m:Nat),wr=w.iter s k∧n=.int .u64 m∧Hid (Nk (bl s) k m)) (fun _ wr=>s.size - wr.iterPos w.heap.size)
 case atStart=>exact ⟨0,0,rfl,rfl,Nk.start _⟩
 case round=>
  obtain ⟨k,m,rfl,rfl,HK⟩:=hrel
  have hm:m<18446744073709551616:=HK.out.lt
  by_cases hp:k<s.size
  ·have hp':k<(bl s).length:=by rw [bl_len];exact hp
   have hnx:∀ ty,(Instr.next (.pointer (some ⟨w.heap.size,0,none⟩)) true ty).run Tryz.prog (w.iter s k)=_:=fun ty=>run_next_any w s k ty hp
   obtain ⟨R,hR⟩:∃ R:Nat,R=(Utf8.decode s k).1:=⟨_,rfl⟩
   obtain ⟨D,hD⟩:∃ D:Nat,D=(Utf8.decode s k).2:=⟨_,rfl⟩
   rw [← hR,← hD] at hnx
   cases hd:isD (bl s)[k]
   ·have hr:=rune_not s k hp hp' hd
    rw [← hR] at hr
    have e1:isNum (bl s)=false:=Nk.not_digit hp' hd
    have e2:V=0:=by rw [HV.out];exact numV_not e1
    have e3:B=false:=by rw [HB.out];exact e1
    subst e2 e3
    clear e1 hR hD hd HV HB HK hm
    rcases hr with hr | hr
    ·have hr1:decide ((R:Int)<48)=true:=by simp;omega
     clear hr
     go_wp2
     go_ret2
     exact ⟨rfl,_,rfl⟩
    ·have hr1:decide ((R:Int)<48)=false:=by simp;omega
     have hr2:decide ((57:Int)<(R:Int))=true:=by simp;omega
     clear hr
     go_wp2
     go_ret2
     exact ⟨rfl,_,rfl⟩
   ·obtain ⟨hr1,hr2⟩:=rune_digit s k hp hp' hd
    rw [← hR] at hr1
    rw [← hD] at hr2
    subst hr2
    obtain ⟨d,hdd⟩:∃ d,d=dv (bl s)[k]:=⟨_,rfl⟩
    have hd10:d<10:=by rw [hdd];exact dv_lt hd
    rw [← hdd] at hr1
    subst hr1
    have HDD:=Hid.m hdd
    have HD:=Hid.m hd
    clear hR hD hd hdd
    have hi1:((48+d:Nat):Int)=48+(d:Int):=by omega
    rw [hi1] at hnx
    clear hi1
    have hr1:decide (48+(d:Int)<48)=false:=by simp;omega
    have hr2:decide ((57:Int)<48+(d:Int))=false:=by simp;omega
    have hdg:(48+(d:Int)) - 48=(d:Int):=by omega
    by_cases h0:0<k∧m=0
    ·have e1:isNum (bl s)=false:=HK.out.nought hp' h0.1 h0.2
     have e2:V=0:=by rw [HV.out];exact numV_not e1
     have e3:B=false:=by rw [HB.out];exact e1
     subst e2 e3
     obtain ⟨h01,rfl⟩:=h0
     have h02:decide ((0:Int)<(k:Int))=true:=by simp;omega
     clear e1 HV HB HK
     go_wp2
     go_ret2
     exact ⟨rfl,_,rfl⟩
    by_cases hg:10 * m+d<18446744073709551616
    ·have hs:Nk (bl s) (k+1) (10 * m+d):=by
      have:=HK.out.step hp' HD.out h0 (by rw [← HDD.out];exact hg)
      rw [← HDD.out] at this
      exact this
     have HS:=Hid.m hs
     have hg1:¬ ((18446744073709551615 - (d:Int)) / 10<(m:Int)):=by omega
     have hg2:10 * (m:Int)+(d:Int)<18446744073709551616:=by omega
     have hg3:10 * (m:Int)<18446744073709551616:=by omega
     clear hs HK HD HDD HV HB hg
     by_cases hk:0<k
     ·have hm0:((m:Int)==0)=false:=by
       have:¬ m=0:=fun e=>h0 ⟨hk,e⟩
       simp;omega
      clear h0
      go_wp2
      go_roundw
      case rel=>exact ⟨k+1,10 * m+d,rfl,by go_num,HS⟩
      case measure=>simp;omega
     ·clear h0
      go_wp2
      go_roundw
      case rel=>exact ⟨k+1,10 * m+d,rfl,by go_num,HS⟩
      case measure=>simp;omega
    ·have e1:isNum (bl s)=false:=HK.out.beyond hp' (by rw [← HDD.out];exact hg)
     have e2:V=0:=by rw [HV.out];exact numV_not e1
     have e3:B=false:=by rw [HB.out];exact e1
     subst e2 e3
     have hg1:((18446744073709551615 - (d:Int)) / 10<(m:Int)):=by omega
     clear e1 HV HB HK HD HDD hg
     by_cases hk:0<k
     ·have hm0:¬ m=0:=fun e=>h0 ⟨hk,e⟩
      clear h0
      go_wp2
      go_ret2
      exact ⟨rfl,_,rfl⟩
     ·clear h0
      go_wp2
      go_ret2
      exact ⟨rfl,_,rfl⟩
  ·have hnx:∀ ty,(Instr.next (.pointer (some ⟨w.heap.size,0,none⟩)) true ty).run Tryz.prog (w.iter s k)=_:=fun ty=>run_next_end w s k ty hp
   have hk:k=(bl s).length:=by rw [bl_len];have:=HK.out.le;rw [bl_len] at this;omega
   by_cases hs:s=⟨#[]⟩
   ·subst hs
    have e1:isNum (bl ⟨#[]⟩)=false:=by decide
    have e2:V=0:=by rw [HV.out];exact numV_not e1
    have e3:B=false:=by rw [HB.out];exact e1
    have e4:m=0:=by
     have:=HK.out.val
     rw [this]
     simp [bl,valL]
    subst e2 e3 e4
    clear e1 HV HB HK hk hp
    go_wp2
    go_ret2
    exact ⟨rfl,_,rfl⟩
   ·have hne:bl s≠[]:=fun e=>hs (bl_inj (by rw [e];rfl))
    rw [hk] at HK
    obtain ⟨e1,e5⟩:=HK.out.fin hne
    have e2:V=m:=by rw [HV.out];exact e5
    have e3:B=true:=by rw [HB.out];exact e1
    subst e2 e3
    have hs1:s.toList.isEmpty=false:=by
     rw [ByteArray.toList_eq]
     show (bl s).isEmpty=false
     cases h:bl s with
     | nil=>exact absurd h hne
     | cons a l=>rfl
    have HS1:=Hid.m hs1
    clear hs1
    clear e1 e5 HV HB HK hk hp hne
    go_wp2
    go_ret2
    refine ⟨?_,_,rfl⟩
    show Ending.returned (.tuple #[.int .u64 (V:Int),.bool (!s.toList.isEmpty)])=_
    rw [HS1.out]
    rfl
end Go.Proofs.YtcdpiefflnaghaaGreatDoor.It
namespace Go.Proofs
open Go.Shelf Go.RowKit Go.Lib Go.Sort
shelf_lay Lays.n283 Nm 283 at Tryz as Tryz.laySmall
shelf_lay LaysM.n284 Nm 284 at Tryz as Tryz.layDigits
shelf_lay Lays.n285 Nm 285 at Tryz as Tryz.layBase10
shelf_lay Lays.n156 Nm 156 at Tryz as Tryz.layJoin
end Go.Proofs
namespace Go.Proofs.YtcdpiefflnaghaaGreatDoor.It
open Go.RowKit Go.Shelf Go.Lib Go.Sort
theorem decL_dec (n:Nat):Lib.decDigits n=decL n:=by
 induction n using Nat.strongRecOn with
 | ind n ih=>
  by_cases h:n<10
  ·rw [decL_small h,Lib.decDigits_one h];rfl
  ·rw [decL_great h,Lib.decDigits,dif_neg h,ih (n / 10) (by omega)]
   rfl
def Tab (w : World) : Prop := Lib.TabIs Tryz.prog w "internal/strconv.uint64pow10" .u64 Lib.pow10Tab
theorem Tab.below {w w':World}(h:Tab w)(hb:RowKit.Below w.heap.size w w'):Tab w':=by
 unfold Tab Lib.TabIs World.var? at *
 cases hg : Tryz.prog.globalNamed "internal/strconv.uint64pow10" with
 | none=>simp [hg] at h
 | some g=>
  simp only [hg,Option.bind_some] at h ⊢
  have hlt:g<w.heap.size:=by
   rcases Nat.lt_or_ge g w.heap.size with h1 | h1
   ·exact h1
   ·rw [Array.getElem?_eq_none h1] at h
    simp at h
  rw [hb.block g hlt]
  exact h
theorem below_grow1 (w:World)(n:Nat)(os:Array Obj):RowKit.Below w.heap.size w (grow (w.drewN n) os):=Lib.below_grow _ _ (Nat.le_refl _) _ _
theorem below_iter (w:World)(s:ByteArray)(p:Nat):RowKit.Below w.heap.size w (w.iter s p):=(RowKit.Below.refl _ _).alloc (Nat.le_refl _) _
theorem small_any (i:Nat)(h:i<100)(w:World):Calls Tryz.prog 285 #[.int .i64 i] w fun e w'=>e=.returned (.string ⟨(Lib.decDigits i).toArray⟩)∧w'=w:=
 Any.internal_strconv_small Tryz.laySmall i h w
theorem digits_any (u:Nat)(h1:1≤u)(h2:u<18446744073709551616)(w:World)(ht:Tab w):Calls Tryz.prog 286 #[.int .u64 u] w fun e w'=>e=.returned (.int .i64 (Lib.nDigits u))∧w'=w:=
 Any.internal_strconv_numDigits Tryz.layDigits u h1 h2 w ht
theorem base10_any (blk off cap:Nat)(u:Nat)(d:Array UInt8)(w:World)(hH:Holds (fun (b:UInt8)=>Value.int .u8 (b.toNat:Int)) w blk off d)(hu:u<10 ^ d.size)(hu64:u<18446744073709551616)(hsz:d.size<4611686018427387904):
  Calls Tryz.prog 287 #[.slice (some ⟨blk,off,none⟩) d.size cap,.int .u64 u] w fun e w'=>
   e=.returned (.tuple #[])∧∃ (n v':Nat) (dk:Array UInt8),w'=(putRow (fun (b:UInt8)=>Value.int .u8 (b.toNat:Int)) w blk off dk).drewN n∧FmtInv d.size u 0 v' dk:=
 Any.internal_strconv_formatBase10 Tryz.layBase10 blk off cap u d w hH hu hu64 hsz
set_option maxHeartbeats 4000000 in
theorem formatUint_any (u:Nat)(hu64:u<18446744073709551616)(w:World)(ht:Tab w):
  Calls Tryz.prog 274 #[.int .u64 u,.int .i64 10] w fun e w'=>e=.returned (.string ⟨(decL u).toArray⟩)∧∃ k os,w'=grow (w.drewN k) os:=by
 rw [← decL_dec]
 by_cases hs:u<100
 ·have hs':(u:Int)<100:=by omega
  go_enter Tryz.func274,Tryz.ntmps274
  go_wp2_with (go_at_call 285;refine (small_any u hs _).mono ?_;rintro e w' ⟨rfl,rfl⟩)
  go_ret
  exact ⟨rfl,0,#[],by simp [World.drewN_zero,grow]⟩
 ·have hu1:1≤u:=by omega
  have hnd20:Lib.nDigits u≤20:=Lib.nDigits_le20 u hu64
  have hal:Tryz.prog.arrayLen 341=24:=by kernel_rfl
  have hsl:∀ W,(Instr.sliceAt 341 (.pointer (some ⟨w.heap.size,0,none⟩)) none (some (.int .i64 (Lib.nDigits u:Int))) none).run Tryz.prog W=.ok (.slice (some ⟨w.heap.size,0,none⟩) (Lib.nDigits u) 24) W:=fun W=>by
   rw [run_sliceAt_array_h W 341 ⟨w.heap.size,0,none⟩ (by kernel_rfl) .i64 (Lib.nDigits u:Int) (by omega) (by rw [hal];omega)]
   go_simp
  have hH0:=Lib.holds_zero0 w 341 (Lib.nDigits u) (by omega)
  have hfmt:=base10_any w.heap.size 0 24 u (Array.replicate (Lib.nDigits u) 0) (w.alloc (.cells Lib.zeros24 341)) hH0 (by rw [Array.size_replicate];exact Lib.lt_pow_nDigits u) hu64 (by rw [Array.size_replicate];omega)
  rw [Array.size_replicate] at hfmt
  have HH0:=Lib.hid hH0
  have iu:¬ ((u:Int)<100):=by omega
  have HT:=Lib.hid ht
  clear hH0 hal ht
  go_enter Tryz.func274,Tryz.ntmps274
  go_wp2_with (go_at_call 286;refine (digits_any u hu1 hu64 _ (HT.out.below ((RowKit.Below.refl _ _).alloc (Nat.le_refl _) _))).mono ?_;rintro e w' ⟨rfl,rfl⟩)
  go_at_call 287
  refine hfmt.mono ?_
  rintro e w' ⟨rfl,k,v',dk,rfl,hF⟩
  have hcv:(convert 315 9 (.slice (some ⟨w.heap.size,0,none⟩) (Lib.nDigits u) 24)).run Tryz.prog ((putRow (fun (b:UInt8)=>Value.int .u8 (b.toNat:Int)) (w.alloc (.cells Lib.zeros24 341)) w.heap.size 0 dk).drewN k)=.ok (.string ⟨(Lib.decDigits u).toArray⟩) ((putRow (fun (b:UInt8)=>Value.int .u8 (b.toNat:Int)) (w.alloc (.cells Lib.zeros24 341)) w.heap.size 0 dk).drewN k):=by
   have h:=run_convert_bytes_back (P:=Tryz.prog) ((putRow (fun (b:UInt8)=>Value.int .u8 (b.toNat:Int)) (w.alloc (.cells Lib.zeros24 341)) w.heap.size 0 dk).drewN k) 315 9 5 ⟨w.heap.size,0,none⟩ 24 (Lib.decDigits u) Tryz.underlying315 Tryz.underlying5 Tryz.underlying9 (fun j hj=>by
    rw [Lib.row_is_numeral hF j hj,Lib.add_plain,World.cell?_drewN]
    exact cell?_putRow (fun (b:UInt8)=>Value.int .u8 (b.toNat:Int)) _ w.heap.size 0 _ dk HH0.out (by rw [hF.size,Array.size_replicate]) j (by rw [hF.size];rw [Lib.decDigits_length] at hj;exact hj))
   rw [Lib.decDigits_length] at h
   exact h
  go_wp2
  go_ret
  obtain ⟨os,eo⟩:=Lib.fin_at w (.cells Lib.zeros24 341) dk k 0
  exact ⟨rfl,k,os,eo⟩
theorem text_any (u:Nat)(hu:u<18446744073709551616)(w:World)(ht:Tab w):
  Calls Tryz.prog 184 #[.int .u64 u] w fun e w'=>e=.returned (.string ⟨(decL u).toArray⟩)∧∃ k os,w'=grow (w.drewN k) os:=by
 have HF:=Hid.m (formatUint_any u hu w ht)
 have HG:Calls Tryz.prog 244 #[.int .u64 u,.int .i64 10] w fun e w'=>e=.returned (.string ⟨(decL u).toArray⟩)∧∃ k os,w'=grow (w.drewN k) os:=by
  go_enter Tryz.func244,Tryz.ntmps244
  go_wp2_with (go_at_call 274;refine HF.out.mono ?_;rintro e w' ⟨rfl,k,os,rfl⟩)
  go_ret
  exact ⟨rfl,k,os,rfl⟩
 go_enter Tryz.func184,Tryz.ntmps184
 go_wp2_with (go_at_call 244;refine HG.mono ?_;rintro e w' ⟨rfl,k,os,rfl⟩)
 go_ret
 exact ⟨rfl,k,os,rfl⟩
end Go.Proofs.YtcdpiefflnaghaaGreatDoor.It
namespace Go.Proofs.YtcdpiefflnaghaaGreatDoor.It
open Go.RowKit Go.Shelf Go.Lib Go.Sort
def cntN (n b:Nat)(down:Bool):Nat:=if down=true then n - b else (n+b) % 18446744073709551616
def cV (s:ByteArray)(b:Nat)(down:Bool):Nat:=if isNum (bl s)=true then cntN (numV (bl s)) b down else 0
def cS (s:ByteArray)(b:Nat)(down:Bool):ByteArray:=if isNum (bl s)=true then ⟨(decL (cntN (numV (bl s)) b down)).toArray⟩ else ⟨#[]⟩
theorem cntN_lt {n b:Nat}(down:Bool)(h:n<18446744073709551616):cntN n b down<18446744073709551616:=by
 unfold cntN
 split
 ·omega
 ·exact Nat.mod_lt _ (by decide)
set_option maxHeartbeats 2000000 in
theorem count_any (s:ByteArray)(b:Nat)(hb:b<18446744073709551616)(down:Bool)(w:World)(ht:Tab w):
  Calls Tryz.prog 132 #[.string s,.int .u64 b,.bool down] w fun e w'=>e=.returned (.tuple #[.string (cS s b down),.int .u64 (cV s b down),.bool (isNum (bl s))])∧RowKit.Below w.heap.size w w':=by
 have HN:=Hid.m (number_any s w)
 have hlt:=numV_lt (bl s)
 have HT:=Hid.m (fun u hu W hW=>text_any u hu W (ht.below hW))
 unfold cS cV
 cases hi:isNum (bl s)
 ·rw [hi] at HN
  have e0:numV (bl s)=0:=numV_not hi
  rw [e0] at HN
  clear hi hlt e0 HT
  go_enter Tryz.func132,Tryz.ntmps132
  go_wp2_with (go_at_call 183;refine HN.out.mono ?_;rintro e w1 ⟨rfl,pos,rfl⟩)
  go_ret3
  exact ⟨rfl,below_iter _ _ _⟩
 rw [if_pos rfl,if_pos rfl]
 rw [hi] at HN
 obtain ⟨n,hn⟩:∃ n,n=numV (bl s):=⟨_,rfl⟩
 rw [← hn] at HN hlt ⊢
 have HC:=Hid.m (fun W hW=>text_any (cntN n b down) (cntN_lt down hlt) W (ht.below hW))
 obtain ⟨L,hL⟩:∃ L:ByteArray,L=⟨(decL (cntN n b down)).toArray⟩:=⟨_,rfl⟩
 rw [← hL] at HC ⊢
 obtain ⟨m,hm⟩:∃ m,m=cntN n b down:=⟨_,rfl⟩
 rw [← hm] at HC ⊢
 clear hL hn hi HT ht
 have hb':(b:Int)<18446744073709551616:=by omega
 have hn':(n:Int)<18446744073709551616:=by omega
 cases down
 ·have hm1:m=(n+b) % 18446744073709551616:=by rw [hm];rfl
  have hw1:IntKind.u64.wrap ((n:Int)+(b:Int))=(m:Int):=by rw [IntKind.wrap_u64,hm1];omega
  clear hm hm1
  go_enter Tryz.func132,Tryz.ntmps132
  go_wp2_with (first
   | (go_at_call 183;refine HN.out.mono ?_;rintro e w1 ⟨rfl,pos,rfl⟩)
   | (go_at_call 184;refine (HC.out _ (below_iter _ _ _)).mono ?_;rintro e w2 ⟨rfl,k,os,rfl⟩))
  go_ret3
  exact ⟨rfl,(below_iter _ _ _).trans ((below_grow1 _ _ _).mono (below_iter _ _ _).size)⟩
 ·have hm1:m=n - b:=by rw [hm];rfl
  by_cases hg:n<b
  ·have hm2:m=0:=by omega
   subst hm2
   clear hm hm1
   go_enter Tryz.func132,Tryz.ntmps132
   go_wp2_with (first
    | (go_at_call 183;refine HN.out.mono ?_;rintro e w1 ⟨rfl,pos,rfl⟩)
    | (go_at_call 184;refine (HC.out _ (below_iter _ _ _)).mono ?_;rintro e w2 ⟨rfl,k,os,rfl⟩))
   go_ret3
   exact ⟨rfl,(below_iter _ _ _).trans ((below_grow1 _ _ _).mono (below_iter _ _ _).size)⟩
  ·have hw1:IntKind.u64.wrap ((n:Int) - (b:Int))=(m:Int):=by rw [IntKind.wrap_u64];omega
   clear hm hm1
   go_enter Tryz.func132,Tryz.ntmps132
   go_wp2_with (first
    | (go_at_call 183;refine HN.out.mono ?_;rintro e w1 ⟨rfl,pos,rfl⟩)
    | (go_at_call 184;refine (HC.out _ (below_iter _ _ _)).mono ?_;rintro e w2 ⟨rfl,k,os,rfl⟩))
   go_ret3
   exact ⟨rfl,(below_iter _ _ _).trans ((below_grow1 _ _ _).mono (below_iter _ _ _).size)⟩
end Go.Proofs.YtcdpiefflnaghaaGreatDoor.It
namespace Go.Proofs.YtcdpiefflnaghaaGreatDoor.It
open Go.RowKit Go.Shelf Go.Lib Go.Sort
theorem joinExtra:Builder.Extra Tryz.prog Tryz.layJoin_ren where
 sizeBuilder:=by kernel_rfl
 liesBuilder:=by kernel_rfl
 t5:=by kernel_rfl
 a5:=fun _=>by kernel_rfl
 z5:=fun _=>by kernel_rfl
 v5:=fun _=>by kernel_rfl
 infoByte:=by kernel_rfl
 cellsByte:=by kernel_rfl
 sizeByte:=by kernel_rfl
 neB5:=by decide
def jnE (s t:ByteArray):Int:=if s.size+t.size≤512 then 0 else 3
def jnV (s t:ByteArray):ByteArray:=if s.size+t.size≤512 then ⟨(bl s++bl t).toArray⟩ else ⟨#[]⟩
theorem strJoin_any (bk:Nat)(s t:ByteArray)(w:World)(h0:w.cell? ⟨bk,0,none⟩=some (.string s))(h1:w.cell? ⟨bk,1,none⟩=some (.string t))(hb:bk<w.heap.size)(hs:s.size+t.size≤512):
  Calls Tryz.prog 248 #[.slice (some ⟨bk,0,none⟩) 2 2,.string ⟨#[]⟩] w fun e w'=>e=.returned (.string ⟨(bl s++bl t).toArray⟩)∧RowKit.Below w.heap.size w w':=by
 have hj:Lib.join ([s,t].map (·.data.toList)) (⟨#[]⟩:ByteArray).data.toList=bl s++bl t:=by simp [Lib.join,bl]
 have hl:(bl s++bl t).length≤140737488355328:=by rw [List.length_append,bl_len,bl_len];omega
 have h:=Any.strings_Join Tryz.layJoin joinExtra bk 0 2 [s,t] ⟨#[]⟩ w (fun j x hx=>by
  match j,hx with
  | 0,hx=>simp at hx;subst hx;exact h0
  | 1,hx=>simp at hx;subst hx;exact h1) hb (by simp) (by simp) (by rw [hj];exact hl)
 rw [hj] at h
 exact h
theorem join_any (s t:ByteArray)(hs:s.size≤2000)(ht:t.size≤2000)(w:World):
  Calls Tryz.prog 192 #[.string s,.string t] w fun e w'=>e=.returned (.tuple #[.string (jnV s t),.int .i64 (jnE s t)])∧RowKit.Below w.heap.size w w':=by
 unfold jnE jnV
 by_cases h:s.size+t.size≤512
 ·rw [if_pos h,if_pos h]
  have h1:decide ((512:Int)<(s.size:Int)+(t.size:Int))=false:=by simp;omega
  have HJ:=Hid.m (fun bk W h0 h1 hb=>strJoin_any bk s t W h0 h1 hb h)
  obtain ⟨J,hJ⟩:∃ J:ByteArray,J=⟨(bl s++bl t).toArray⟩:=⟨_,rfl⟩
  rw [← hJ] at HJ ⊢
  have b1:(s.size:Int)≤512:=by omega
  have b2:(t.size:Int)≤512:=by omega
  clear hs ht h hJ
  go_enter Tryz.func192,Tryz.ntmps192
  go_wp2_with (go_at_call 248;refine (HJ.out _ _ (by simp) (by simp) (by simp)).mono ?_;rintro e w' ⟨rfl,hb⟩)
  go_ret2
  exact ⟨rfl,((RowKit.Below.refl _ _).alloc (Nat.le_refl _) _).trans (hb.mono (by simp))⟩
 ·rw [if_neg h,if_neg h]
  have h1:decide ((512:Int)<(s.size:Int)+(t.size:Int))=true:=by simp;omega
  have b1:(s.size:Int)≤2000:=by omega
  have b2:(t.size:Int)≤2000:=by omega
  clear hs ht h
  go_enter Tryz.func192,Tryz.ntmps192
  go_wp2
  go_ret2
  exact ⟨rfl,RowKit.Below.refl _ _⟩
end Go.Proofs.YtcdpiefflnaghaaGreatDoor.It
namespace Go.Proofs.YtcdpiefflnaghaaGreatDoor.It
open Go.ChangeShapes Go.WideShapes Go.ChangeAt Go.RowKit
open Go.ChangeMaps (open_string shut_string)
theorem laidOut_all:laidOutB Tryz.prog=true:=by kernel_rfl
theorem Tryz.cu64:Tryz.prog.cellsOf 28=1:=by kernel_rfl
end Go.Proofs.YtcdpiefflnaghaaGreatDoor.It
namespace Go.Proofs.YtcdpiefflnaghaaGreatDoor.It
open Go.ChangeShapes Go.WideShapes Go.ChangeAt Go.RowKit
def laid3 : List (String × DataW Unit) := [("math/bits.deBruijn32tab", Rows.laid_math_bits_deBruijn32tab), ("math/bits.deBruijn64tab", Rows.laid_math_bits_deBruijn64tab), ("internal/strconv.uint64pow10", Rows.laid_internal_strconv_uint64pow10)]
theorem own:ownKnob Tryz.prog.godebug=none:=by kernel_rfl
theorem tab_data:(Rows.laid_internal_strconv_uint64pow10:DataW Unit)=Lib.tabData .u64 Lib.pow10Tab:=by
 unfold Rows.laid_internal_strconv_uint64pow10 Lib.tabData Lib.pow10Tab
 simp [List.range,List.range.loop]
theorem tab_type : (Tryz.prog.globalNamed "internal/strconv.uint64pow10").bind (fun g => (Tryz.prog.globals[g]?).map (·.type)) = some 350 := by kernel_rfl
theorem Tryz.c20:Tryz.prog.cellsOf 350=20:=by kernel_rfl
theorem tab_of_laid {W:World}(h:laidMetH Tryz.prog laid3 W):Tab W:=by
 rw [MakeChecks.laidMetH_plain _ _ _ (by kernel_rfl)] at h
 obtain ⟨ps,⟨g',t',cs,fuel,p,q,hg',ht',hvar,hd,_,_⟩,_⟩:=h.tail.tail
 have et:t'=350:=by
  have h1:=tab_type
  rw [hg'] at h1
  exact Option.some.inj (ht'.symm.trans h1)
 subst et
 rw [tab_data] at hd
 unfold Tab Lib.TabIs
 rw [hvar,← Lib.cells_of_tab Tryz.underlying350 Tryz.underlying28 Tryz.cu64 Tryz.c20 hd]
theorem door_met (os:Os)(args:Array Value):laidMetH Tryz.prog laid3 ((World.doorLaid Tryz.prog 400 os).forCall (fun _ _=>0) ⟨#[],args,[]⟩).memory:=
 laidMetH_of_parts3 (fuel:=8) (laidMet_of_run' 8 (by kernel_rfl) (by kernel_rfl)) (by kernel_rfl) (by kernel_rfl)
end Go.Proofs.YtcdpiefflnaghaaGreatDoor.It
