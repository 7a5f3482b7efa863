/-
  Package engine and what stands beneath it, part 00: contracts of functions, and what they rest on.
-/
import Derived.Test.YtcdpiefflnaghaaGreatDoorRows
import Derived.WalkKit
import Derived.ProofKit
import Derived.OpenShut
import Derived.WalkSpells
import Derived.WalkLawsBesides
import Derived.Laws.Bits64b
import Derived.Laws.BitsAllLaws
import Derived.Sort.Row
import Derived.Lib.SlicesCompact
set_option linter.unusedSimpArgs false
set_option linter.unusedVariables false
set_option maxRecDepth 100000
namespace Go.Proofs.YtcdpiefflnaghaaGreatDoor.Sb
open Go.RowKit
structure Pg where
 t:Int
 c:Int
 u:Nat
 hu:u<65536
theorem Pg.eq {a b:Pg}(h1:a.t=b.t)(h2:a.c=b.c)(h3:a.u=b.u):a=b:=by
 cases a;cases b;simp at h1 h2 h3;subst h1 h2 h3;rfl
instance:DecidableEq Pg:=fun a b=>
 if h:a.t=b.t∧a.c=b.c∧a.u=b.u then .isTrue (Pg.eq h.1 h.2.1 h.2.2) else .isFalse (fun e=>h (by subst e;exact ⟨rfl,rfl,rfl⟩))
def pz:Pg:=⟨0,0,0,by decide⟩
def isT (t:Int):Bool:=decide (0≤t∧t<4)
def isC (c:Int):Bool:=decide (0≤c∧c<5)
def isQ (q:Int):Bool:=decide (0≤q∧q≤16)
def chunks (c:Int):Nat:=16 / 2 ^ c.toNat
def pOk (p:Pg):Bool:=if p.u=0 then decide (p=pz) else isT p.t && isC p.c && decide (p.u<2 ^ chunks p.c)
def sOk (ps:List Pg):Bool:=decide (1≤ps.length∧ps.length≤16) && ps.all pOk
def sE (ps:List Pg):Int:=if sOk ps=true then 0 else 8
def tE (ps:List Pg)(t:Int):Int:=if sOk ps=false then 8 else if isT t=false then 2 else 0
def isOf (t:Int)(p:Pg):Bool:=decide (p.u≠0) && decide (p.t=t)
def owned (ps:List Pg)(t:Int):Nat:=ps.countP (isOf t)
def firstN {α:Type}(f:Nat→Option α):Nat→Option α
 | 0=>none
 | n+1=>match firstN f n with
  | some x=>some x
  | none=>f n
theorem firstN_none {α:Type}{f:Nat→Option α}:∀ {n:Nat},(∀ j,j<n→f j=none)→firstN f n=none
 | 0,_=>rfl
 | n+1,h=>by unfold firstN;rw [firstN_none (fun j hj=>h j (by omega))];exact h n (by omega)
theorem firstN_at {α:Type}{f:Nat→Option α}{x:α}:∀ {n j:Nat},j<n→(∀ i,i<j→f i=none)→f j=some x→firstN f n=some x
 | 0,_,h,_,_=>absurd h (by omega)
 | n+1,j,h,h1,h2=>by
  unfold firstN
  by_cases e:j=n
  ·subst e;rw [firstN_none h1];exact h2
  ·rw [firstN_at (n:=n) (by omega) h1 h2]
theorem firstN_some {α:Type}{f:Nat→Option α}{x:α}:∀ {n:Nat},firstN f n=some x→∃ j,j<n∧(∀ i,i<j→f i=none)∧f j=some x
 | 0,h=>by simp [firstN] at h
 | n+1,h=>by
  unfold firstN at h
  cases e:firstN f n with
  | some y=>
   rw [e] at h
   obtain ⟨j,h1,h2,h3⟩:=firstN_some e
   simp at h
   subst h
   exact ⟨j,by omega,h2,h3⟩
  | none=>
   rw [e] at h
   refine ⟨n,by omega,fun i hi=>?_,h⟩
   exact firstN_all e i hi
 where firstN_all {α:Type} {f:Nat→Option α}:∀ {n:Nat},firstN f n=none→∀ i,i<n→f i=none
 | 0,_,_,h=>absurd h (by omega)
 | n+1,e,i,hi=>by
  unfold firstN at e
  cases e2:firstN f n with
  | some y=>rw [e2] at e;simp at e
  | none=>
   rw [e2] at e
   by_cases hin:i=n
   ·subst hin;exact e
   ·exact firstN_all e2 i (by omega)
theorem firstN_all {α:Type}{f:Nat→Option α}{n:Nat}(e:firstN f n=none):∀ i,i<n→f i=none:=firstN_some.firstN_all e
def freeBit (u k:Nat):Option Nat:=if u.testBit k=true then none else some k
def lowFree (u n:Nat):Option Nat:=firstN (freeBit u) n
def roomP (t c:Int)(p:Pg):Option Nat:=if p.u≠0∧p.t=t∧p.c=c then lowFree p.u (chunks c) else none
def roomI (ps:List Pg)(t c:Int)(i:Nat):Option (Nat × Nat):=match ps[i]? with
 | some p=>(roomP t c p).map (fun k=>(i,k))
 | none=>none
def room (ps:List Pg)(t c:Int):Option (Nat × Nat):=firstN (roomI ps t c) ps.length
def freeI (ps:List Pg)(i:Nat):Option Nat:=match ps[i]? with
 | some p=>if p.u=0 then some i else none
 | none=>none
def freeP (ps:List Pg):Option Nat:=firstN (freeI ps) ps.length
def place (ps:List Pg)(t c q:Int):Option (Nat × Nat):=match room ps t c with
 | some x=>some x
 | none=>if (owned ps t:Int)<q then (freeP ps).map (fun i=>(i,0)) else none
def takeE (ps:List Pg)(t c q:Int):Int:=
 if sOk ps=false then 8 else if isT t=false then 2 else if isC c=false then 2 else if isQ q=false then 2 else if (place ps t c q).isNone=true then 9 else 0
def taken (ps:List Pg)(t c:Int)(i k:Nat):Pg:=⟨t,c,((ps[i]?.getD pz).u ||| 2 ^ k) % 65536,Nat.mod_lt _ (by decide)⟩
def takeR (ps:List Pg)(t c q:Int):List Pg × Nat × Nat:=
 if takeE ps t c q=0 then match place ps t c q with
  | some (i,k)=>(ps.set i (taken ps t c i k),i,k)
  | none=>([],0,0)
 else ([],0,0)
def given (p:Pg)(k:Nat):Pg:=if p.u - 2 ^ k=0 then pz else ⟨p.t,p.c,p.u - 2 ^ k,Nat.lt_of_le_of_lt (Nat.sub_le _ _) p.hu⟩
def pgAt (ps:List Pg)(i:Int):Pg:=ps[i.toNat]?.getD pz
def inP (ps:List Pg)(i:Int):Bool:=decide (0≤i∧i<(ps.length:Int))
def hasK (p:Pg)(k:Int):Bool:=decide (0≤k∧k<16) && p.u.testBit k.toNat
def freeE (ps:List Pg)(i k:Int):Int:=if sOk ps=false then 8 else if inP ps i=false then 2 else if hasK (pgAt ps i) k=false then 6 else 0
def freeR (ps:List Pg)(i k:Int):List Pg:=if freeE ps i k=0 then ps.set i.toNat (given (pgAt ps i) k.toNat) else []
def lastI (ps:List Pg)(t:Int):Int:=ps.foldl (fun (x:Int × Int) p=>(if isOf t p then x.2 else x.1,x.2+1)) (-1,0) |>.1
theorem isC_cases {c:Int}(h:isC c=true):c=0∨c=1∨c=2∨c=3∨c=4:=by
 simp [isC] at h;omega
theorem chunks_le {c:Int}(h:isC c=true):1≤chunks c∧chunks c≤16:=by
 rcases isC_cases h with rfl | rfl | rfl | rfl | rfl <;> decide
theorem pOk_c {p:Pg}(h:pOk p=true):isC p.c=true:=by
 unfold pOk at h
 split at h
 ·have:p=pz:=by simpa using h
  subst this;rfl
 ·simp at h;exact h.1.2
theorem pOk_u {p:Pg}(h:pOk p=true):p.u<2 ^ chunks p.c:=by
 unfold pOk at h
 split at h
 ·have:p=pz:=by simpa using h
  subst this;decide
 ·simp at h;exact h.2
theorem pOk_t {p:Pg}(h:pOk p=true):isT p.t=true:=by
 unfold pOk at h
 split at h
 ·have:p=pz:=by simpa using h
  subst this;rfl
 ·simp at h;exact h.1.1
theorem pow_lt16 {n:Nat}(h:n<16):2 ^ n<65536:=by
 have:2 ^ n<2 ^ 16:=Nat.pow_lt_pow_right (by decide) h
 simpa using this
theorem or_lt16 {u k:Nat}(hu:u<65536)(hk:k<16):u ||| 2 ^ k<65536:=by
 have:u ||| 2 ^ k<2 ^ 16:=Nat.or_lt_two_pow (by simpa using hu) (Nat.pow_lt_pow_right (by decide) hk)
 simpa using this
theorem or_mod {u k:Nat}(hu:u<65536)(hk:k<16):(u ||| 2 ^ k) % 65536=u ||| 2 ^ k:=Nat.mod_eq_of_lt (or_lt16 hu hk)
theorem or_ne {u k:Nat}:u ||| 2 ^ k≠0:=by
 intro e
 have h1:(u ||| 2 ^ k).testBit k=true:=by simp [Nat.testBit_or,Nat.testBit_two_pow_self]
 rw [e] at h1
 simp at h1
theorem or_add {u k:Nat}(h:u.testBit k=false):u ||| 2 ^ k=u+2 ^ k:=by
 have h1:(BitVec.ofNat (u+k+2) u) &&& (BitVec.ofNat (u+k+2) (2 ^ k))=0#(u+k+2):=by
  apply BitVec.eq_of_getLsbD_eq
  intro i hi
  simp only [BitVec.getLsbD_and,BitVec.getLsbD_ofNat,BitVec.getLsbD_zero,Nat.testBit_two_pow]
  by_cases e:k=i
  ·subst e;simp [h]
  ·simp [e]
 have h2:=congrArg BitVec.toNat (BitVec.add_eq_or_of_and_eq_zero _ _ h1)
 have hp:2 ^ (u+k+2)=4 * (2 ^ u * 2 ^ k):=by rw [Nat.pow_add,Nat.pow_add];omega
 have hu:u<2 ^ u:=Nat.lt_two_pow_self
 have hk:0<2 ^ k:=Nat.two_pow_pos k
 have h3:u≤2 ^ u * 2 ^ k:=Nat.le_trans (Nat.le_of_lt hu) (Nat.le_mul_of_pos_right _ hk)
 have h4:2 ^ k≤2 ^ u * 2 ^ k:=Nat.le_mul_of_pos_left _ (Nat.two_pow_pos u)
 simp only [BitVec.toNat_add,BitVec.toNat_or,BitVec.toNat_ofNat] at h2
 rw [Nat.mod_eq_of_lt (a:=u) (by omega),Nat.mod_eq_of_lt (a:=2 ^ k) (by omega),Nat.mod_eq_of_lt (by omega)] at h2
 exact h2.symm
theorem lowFree_some {u n k:Nat}(h:lowFree u n=some k):k<n∧u.testBit k=false∧∀ i,i<k→u.testBit i=true:=by
 obtain ⟨j,h1,h2,h3⟩:=firstN_some h
 unfold freeBit at h3
 split at h3
 ·simp at h3
 ·rename_i hb
  simp at h3
  subst h3
  refine ⟨h1,by simpa using hb,fun i hi=>?_⟩
  have:=h2 i hi
  unfold freeBit at this
  split at this
  ·assumption
  ·simp at this
theorem lowFree_none {u n:Nat}(h:lowFree u n=none):∀ i,i<n→u.testBit i=true:=by
 intro i hi
 have:=firstN_all h i hi
 unfold freeBit at this
 split at this
 ·assumption
 ·simp at this
theorem room_some {ps:List Pg}{t c:Int}{i k:Nat}(h:room ps t c=some (i,k)):∃ hi:i<ps.length,ps[i].u≠0∧ps[i].t=t∧ps[i].c=c∧lowFree ps[i].u (chunks c)=some k:=by
 obtain ⟨j,h1,h2,h3⟩:=firstN_some h
 unfold roomI at h3
 rw [List.getElem?_eq_getElem h1] at h3
 simp only [Option.map_eq_some_iff,Prod.mk.injEq] at h3
 obtain ⟨a,h4,rfl,rfl⟩:=h3
 unfold roomP at h4
 split at h4
 ·rename_i hh
  exact ⟨h1,hh.1,hh.2.1,hh.2.2,h4⟩
 ·simp at h4
theorem room_none {ps:List Pg}{t c:Int}(h:room ps t c=none):∀ i (hi:i<ps.length),ps[i].u≠0→ps[i].t=t→ps[i].c=c→lowFree ps[i].u (chunks c)=none:=by
 intro i hi h1 h2 h3
 have:=firstN_all h i hi
 unfold roomI at this
 rw [List.getElem?_eq_getElem hi] at this
 simp only [Option.map_eq_none_iff] at this
 unfold roomP at this
 rwa [if_pos ⟨h1,h2,h3⟩] at this
theorem freeP_some {ps:List Pg}{i:Nat}(h:freeP ps=some i):∃ hi:i<ps.length,ps[i].u=0:=by
 obtain ⟨j,h1,h2,h3⟩:=firstN_some h
 unfold freeI at h3
 rw [List.getElem?_eq_getElem h1] at h3
 simp only at h3
 split at h3
 ·simp at h3;subst h3;exact ⟨h1,by assumption⟩
 ·simp at h3
theorem freeP_none {ps:List Pg}(h:freeP ps=none):∀ i (hi:i<ps.length),ps[i].u≠0:=by
 intro i hi e
 have:=firstN_all h i hi
 unfold freeI at this
 rw [List.getElem?_eq_getElem hi] at this
 simp [e] at this
end Go.Proofs.YtcdpiefflnaghaaGreatDoor.Sb
namespace Go.Proofs.YtcdpiefflnaghaaGreatDoor.Qt
open Go.Proofs.YtcdpiefflnaghaaGreatDoor.Sb
open Go.RowKit
def inQ (x:Int):Bool:=decide (0≤x∧x≤16)
def sumE (q:List Int):Int:=if 4<q.length then 4 else if q.all inQ=true then 0 else 2
def sumV (q:List Int):Int:=if sumE q=0 then q.sum else 0
def mayQ (pool:Int)(q:List Int):Bool:=decide (0<q.length) && decide (sumE q=0) && decide (q.sum≤pool)
def chkE (pool:Int)(q:List Int):Int:=if pool<1∨16<pool then 2 else if mayQ pool q=true then 0 else 80
def hasQ (q:List Int)(t:Int):Bool:=decide (0≤t∧t<(q.length:Int))
def setE (pool:Int)(q:List Int)(t p:Int):Int:=
 if chkE pool q≠0 then chkE pool q else if hasQ q t=false then 2 else if inQ p=false then 2 else if mayQ pool (q.set t.toNat p)=true then 0 else 80
def setR (pool:Int)(q:List Int)(t p:Int):List Int:=if setE pool q t p=0 then q.set t.toNat p else []
def askE (ps:List Pg)(q:List Int)(t:Int):Int:=
 if sOk ps=false then 8 else if chkE ps.length q≠0 then chkE ps.length q else if hasQ q t=false then 2 else 0
def qAt (q:List Int)(t:Int):Int:=q[t.toNat]?.getD 0
def overV (ps:List Pg)(q:List Int)(t:Int):Int:=if askE ps q t=0 then max ((owned ps t:Int) - qAt q t) 0 else 0
theorem mayQ_len {pool:Int}{q:List Int}(h:mayQ pool q=true):1≤q.length∧q.length≤4:=by
 simp [mayQ,sumE] at h
 obtain ⟨⟨h1,h2⟩,h3⟩:=h
 refine ⟨by cases q;simp at h1;simp,?_⟩
 rcases Nat.lt_or_ge 4 q.length with g | g
 ·rw [if_pos g] at h2;exact absurd h2 (by decide)
 ·exact g
theorem mayQ_in {pool:Int}{q:List Int}(h:mayQ pool q=true):∀ x∈q,0≤x∧x≤16:=by
 have hl:=mayQ_len h
 simp [mayQ,sumE] at h
 obtain ⟨⟨h1,h2⟩,h3⟩:=h
 rw [if_neg (by omega)] at h2
 have h4:∀ x∈q,inQ x=true:=by
  by_cases g:∀ x∈q,inQ x=true
  ·exact g
  ·rw [if_neg g] at h2;exact absurd h2 (by decide)
 intro x hx
 simpa [inQ] using h4 x hx
theorem mayQ_sum {pool:Int}{q:List Int}(h:mayQ pool q=true):q.sum≤pool:=by
 simp [mayQ] at h;exact h.2
theorem chkE_may {pool:Int}{q:List Int}(h:chkE pool q=0):1≤pool∧pool≤16∧mayQ pool q=true:=by
 unfold chkE at h
 split at h
 ·exact absurd h (by decide)
 ·split at h
  ·refine ⟨by omega,by omega,by assumption⟩
  ·exact absurd h (by decide)
theorem askE_ok {ps:List Pg}{q:List Int}{t:Int}(h:askE ps q t=0):sOk ps=true∧chkE ps.length q=0∧hasQ q t=true:=by
 unfold askE at h
 split at h
 ·exact absurd h (by decide)
 ·split at h
  ·exact absurd h (by assumption)
  ·split at h
   ·exact absurd h (by decide)
   ·rename_i h1 h2 h3
    exact ⟨by simpa using h1,by simpa using h2,by simpa using h3⟩
theorem sum_take {q:List Int}{k:Nat}(h:k<q.length):(q.take (k+1)).sum=(q.take k).sum+q[k]:=by
 rw [List.take_succ_eq_append_getElem h,List.sum_append]
 simp
theorem qAt_get {q:List Int}{k:Nat}(h:k<q.length):qAt q k=q[k]:=by
 unfold qAt
 rw [Int.toNat_natCast,List.getElem?_eq_getElem h]
 rfl
end Go.Proofs.YtcdpiefflnaghaaGreatDoor.Qt
namespace Go.Proofs.YtcdpiefflnaghaaGreatDoor.Lr
open Go.Lib Go.Sort
instance:LawfulBEq ByteArray where
 eq_of_beq {a b} h:=by
  cases a;cases b
  have h2:=eq_of_beq (α:=Array UInt8) h
  subst h2
  rfl
 rfl {a}:=by
  cases a with | mk d=>
  exact beq_self_eq_true (α:=Array UInt8) d
def kOk (k:ByteArray):Bool:=decide (1≤k.size∧k.size≤32)
def okO (T K:List ByteArray):Bool:=decide ((K++T).length≤256∧K.length≤((K++T).length+1) / 2∧(∀ k∈K++T,kOk k=true)∧(K++T).Nodup)
structure Ok (T K:List ByteArray):Prop where
 many:K.length+T.length≤256
 half:K.length≤(K.length+T.length+1) / 2
 keys:∀ k∈K++T,kOk k=true
 nodup:(K++T).Nodup
theorem okO_iff {T K:List ByteArray}:okO T K=true↔Ok T K:=by
 unfold okO
 rw [decide_eq_true_iff]
 constructor
 ·rintro ⟨a,b,c,d⟩
  rw [List.length_append] at a b
  exact ⟨a,b,c,d⟩
 ·rintro ⟨a,b,c,d⟩
  refine ⟨?_,?_,c,d⟩ <;> rw [List.length_append] <;> assumption
theorem okO_false {T K:List ByteArray}(h:¬ Ok T K):okO T K=false:=by
 cases e:okO T K with
 | false=>rfl
 | true=>exact absurd (okO_iff.1 e) h
def lvN (T K:List ByteArray):Nat:=min K.length ((K.length+T.length+1) / 2)
def lvT (T K:List ByteArray):List ByteArray:=(K++T).drop (lvN T K)
def lvK (T K:List ByteArray):List ByteArray:=(K++T).take (lvN T K)
theorem lv_line (T K:List ByteArray):lvK T K++lvT T K=K++T:=List.take_append_drop _ _
theorem lvN_le (T K:List ByteArray):lvN T K≤(K++T).length:=by unfold lvN;simp;omega
theorem lvK_len (T K:List ByteArray):(lvK T K).length=lvN T K:=by
 unfold lvK
 rw [List.length_take]
 exact Nat.min_eq_left (lvN_le T K)
theorem lv_lens (T K:List ByteArray):(lvK T K).length+(lvT T K).length=K.length+T.length:=by
 have:=congrArg List.length (lv_line T K)
 simpa using this
theorem lv_ok {T K:List ByteArray}(h1:K.length+T.length≤256)(h2:∀ k∈K++T,kOk k=true)(h3:(K++T).Nodup):Ok (lvT T K) (lvK T K):=by
 refine ⟨by rw [lv_lens];exact h1,?_,by rw [lv_line];exact h2,by rw [lv_line];exact h3⟩
 rw [lv_lens,lvK_len]
 unfold lvN
 omega
def stT (T K:List ByteArray)(j:Nat):List ByteArray:=K.drop (K.length - j)++T
def stK (K:List ByteArray)(j:Nat):List ByteArray:=K.take (K.length - j)
theorem stK_len (K:List ByteArray)(j:Nat):(stK K j).length=K.length - j:=by unfold stK;simp
theorem stT_len (T K:List ByteArray)(j:Nat)(hj:j≤K.length):(stT T K j).length=T.length+j:=by unfold stT;simp;omega
theorem st_zero (T K:List ByteArray):stT T K 0=T∧stK K 0=K:=by unfold stT stK;simp
theorem st_succ (T K:List ByteArray)(j:Nat)(hj:j<K.length):stT T K (j+1)=(stK K j)[K.length - j - 1]'(by rw [stK_len];omega)::stT T K j∧stK K (j+1)=(stK K j).take (K.length - j - 1):=by
 unfold stT stK
 constructor
 ·have h1:K.length - (j+1)<K.length:=by omega
  rw [List.drop_eq_getElem_cons h1]
  have h2:K.length - (j+1)+1=K.length - j:=by omega
  rw [h2,List.getElem_take]
  simp [Nat.sub_sub]
 ·rw [List.take_take]
  congr 1
  omega
theorem st_end (T K:List ByteArray)(j:Nat)(hj:j≤K.length)(h1:K.length - j≤(K.length+T.length+1) / 2)(h2:j=0∨(K.length+T.length+1) / 2<K.length - j+1):stT T K j=lvT T K∧stK K j=lvK T K:=by
 have e:lvN T K=K.length - j:=by
  unfold lvN
  omega
 unfold lvT lvK
 rw [e]
 unfold stT stK
 rw [List.drop_append_of_le_length (by omega),List.take_append_of_le_length (by omega)]
 exact ⟨rfl,rfl⟩
def htT (T K:List ByteArray)(k:ByteArray):List ByteArray:=lvT (T.erase k) (k::K.erase k)
def htK (T K:List ByteArray)(k:ByteArray):List ByteArray:=lvK (T.erase k) (k::K.erase k)
def dlT (T K:List ByteArray)(k:ByteArray):List ByteArray:=lvT (T.erase k) (K.erase k)
def dlK (T K:List ByteArray)(k:ByteArray):List ByteArray:=lvK (T.erase k) (K.erase k)
theorem erase_line {T K:List ByteArray}{k:ByteArray}(h:(K++T).Nodup):K.erase k++T.erase k=(K++T).erase k:=by
 rw [List.erase_append]
 by_cases hk:k∈K
 ·rw [if_pos hk]
  have:k∉T:=fun h2=>(List.nodup_append.1 h).2.2 k hk k h2 rfl
  rw [List.erase_of_not_mem this]
 ·rw [if_neg hk,List.erase_of_not_mem hk]
theorem ht_line {T K:List ByteArray}{k:ByteArray}(h:(K++T).Nodup):htK T K k++htT T K k=k::(K++T).erase k:=by
 unfold htK htT
 rw [lv_line,List.cons_append,erase_line h]
theorem dl_line {T K:List ByteArray}{k:ByteArray}(h:(K++T).Nodup):dlK T K k++dlT T K k=(K++T).erase k:=by
 unfold dlK dlT
 rw [lv_line,erase_line h]
theorem ad_ok {T K:List ByteArray}{k:ByteArray}(h:Ok T K)(hk:kOk k=true)(hn:k∉K++T)(hm:K.length+T.length<256):Ok (k::T) K:=by
 have hp:(K++k::T).Perm (k::(K++T)):=List.perm_middle
 refine ⟨by simp;omega,by have:=h.half;simp;omega,fun x hx=>?_,?_⟩
 ·have:=hp.mem_iff.1 hx
  rcases List.mem_cons.1 this with rfl | h2
  ·exact hk
  ·exact h.keys x h2
 ·rw [hp.nodup_iff]
  exact List.nodup_cons.2 ⟨hn,h.nodup⟩
theorem ht_ok {T K:List ByteArray}{k:ByteArray}(h:Ok T K)(hk:k∈K++T):Ok (htT T K k) (htK T K k):=by
 have hl:(k::K.erase k++T.erase k)=k::(K++T).erase k:=by rw [List.cons_append,erase_line h.nodup]
 have hlen:((K++T).erase k).length=(K++T).length - 1:=List.length_erase_of_mem hk
 have hpos:0<(K++T).length:=List.length_pos_of_mem hk
 have hs:(k::K.erase k).length+(T.erase k).length=(K++T).length:=by
  have:=congrArg List.length hl
  rw [List.length_append,@List.length_cons _ _ ((K++T).erase k),hlen] at this
  omega
 unfold htT htK
 refine lv_ok (by rw [hs,List.length_append];exact h.many) ?_ ?_
 ·rw [hl]
  intro x hx
  rcases List.mem_cons.1 hx with rfl | h2
  ·exact h.keys _ hk
  ·exact h.keys x (List.mem_of_mem_erase h2)
 ·rw [hl]
  exact List.nodup_cons.2 ⟨fun h2=>by
   have:=(h.nodup.mem_erase_iff).1 h2
   exact this.1 rfl,h.nodup.erase k⟩
theorem dl_ok {T K:List ByteArray}{k:ByteArray}(h:Ok T K):Ok (dlT T K k) (dlK T K k):=by
 unfold dlT dlK
 have hl:=erase_line (k:=k) h.nodup
 have hlen:((K++T).erase k).length≤(K++T).length:=List.length_erase_le
 refine lv_ok ?_ ?_ ?_
 ·have:=congrArg List.length hl
  rw [List.length_append] at this
  rw [@List.length_append _ K _] at hlen
  have:=h.many
  omega
 ·rw [hl]
  exact fun x hx=>h.keys x (List.mem_of_mem_erase hx)
 ·rw [hl]
  exact h.nodup.erase k
theorem keeps_all_iff {d:List (List UInt8)}(hs:d.Pairwise (fun x y=>decide (x≤y)=true)):(∀ j,j<d.length→keeps d.toArray j=true)↔d.Nodup:=by
 constructor
 ·intro h
  rw [List.nodup_iff_pairwise_ne,List.pairwise_iff_getElem]
  intro i j hi hj hij e
  have h1:keeps d.toArray (i+1)=true:=h (i+1) (by omega)
  have hi1:i+1<d.length:=by omega
  simp [keeps,hi,hi1] at h1
  have a1:d[i]≤d[i+1]:=by
   have:=List.pairwise_iff_getElem.1 hs i (i+1) hi hi1 (by omega)
   simpa using this
  by_cases e2:i+1=j
  ·subst e2
   exact h1 e.symm
  ·have a2:d[i+1]≤d[j]:=by
    have:=List.pairwise_iff_getElem.1 hs (i+1) j hi1 hj (by omega)
    simpa using this
   rw [← e] at a2
   exact h1 (List.le_antisymm a2 a1)
 ·intro h j hj
  unfold keeps
  rw [decide_eq_true_iff]
  by_cases h0:j=0
  ·exact .inl h0
  ·right
   have hj1:j - 1<d.length:=by omega
   simp [hj,hj1]
   exact fun e=>List.pairwise_iff_getElem.1 (List.nodup_iff_pairwise_ne.1 h) (j - 1) j hj1 hj (by omega) e.symm
theorem compact_lt {d:List (List UInt8)}(hs:d.Pairwise (fun x y=>decide (x≤y)=true)):decide ((compactUpTo d.toArray d.length).length<d.length)=!decide d.Nodup:=by
 have hle:(compactUpTo d.toArray d.length).length≤d.length:=by
  unfold compactUpTo
  have:=List.length_filter_le (keeps d.toArray) (List.range d.length)
  simpa using this
 by_cases h:d.Nodup
 ·have h2:=(keeps_all_iff hs).2 h
  have:=compactUpTo_all d.toArray d.length h2
  rw [this]
  simp [h]
 ·have h2:¬ ∀ j,j<d.length→keeps d.toArray j=true:=fun h3=>h ((keeps_all_iff hs).1 h3)
  have:(compactUpTo d.toArray d.length).length≠d.length:=by
   intro e
   apply h2
   unfold compactUpTo at e
   rw [List.length_map] at e
   have e2:((List.range d.length).filter (keeps d.toArray)).length=(List.range d.length).length:=by rw [e];simp
   intro j hj
   exact List.length_filter_eq_length_iff.1 e2 j (List.mem_range.2 hj)
  simp [h]
  omega
theorem sort_sorted (l:List (List UInt8)):(l.mergeSort fun x y=>decide (x≤y)).Pairwise (fun x y=>decide (x≤y)=true):=
 List.pairwise_mergeSort (fun a b c h1 h2=>by simp at *;exact List.le_trans h1 h2) (fun a b=>by simp;exact List.le_total a b) l
theorem bytes_inj {a b:ByteArray}(h:a.data.toList=b.data.toList):a=b:=by
 cases a;cases b
 simp at h
 subst h
 rfl
def bs (l:List ByteArray):List (List UInt8):=l.map (·.data.toList)
theorem bs_nodup (l:List ByteArray):(bs l).Nodup↔l.Nodup:=by
 unfold bs
 rw [List.nodup_iff_pairwise_ne,List.nodup_iff_pairwise_ne,List.pairwise_map]
 constructor
 ·exact fun h=>h.imp (fun hne e=>hne (by rw [e]))
 ·exact fun h=>h.imp (fun hne e=>hne (bytes_inj e))
theorem twice_eq (l:List ByteArray):decide ((compactUpTo ((bs l).mergeSort fun x y=>decide (x≤y)).toArray ((bs l).mergeSort fun x y=>decide (x≤y)).length).length<((bs l).mergeSort fun x y=>decide (x≤y)).length)=!decide l.Nodup:=by
 rw [compact_lt (sort_sorted _)]
 congr 1
 rw [decide_eq_decide,(List.mergeSort_perm _ _).nodup_iff,bs_nodup]
end Go.Proofs.YtcdpiefflnaghaaGreatDoor.Lr
namespace Go.Proofs.YtcdpiefflnaghaaGreatDoor.En
open Go.Proofs.YtcdpiefflnaghaaGreatDoor.Lr
open Go.Proofs.YtcdpiefflnaghaaGreatDoor.Qt
open Go.Proofs.YtcdpiefflnaghaaGreatDoor.Sb
open Go.Proofs.YtcdpiefflnaghaaGreatDoor
structure Im where
 key:ByteArray
 value:ByteArray
 flags:Int
 till:Int
 unique:Int
def szI (x:Im):Nat:=8+x.key.size+x.value.size
def momI (n:Int):Bool:=decide (0≤n∧n≤1099511627776)
def okI (x:Im):Bool:=decide (1≤x.key.size∧x.key.size≤32∧x.value.size≤512) && momI x.till
def dueI (x:Im)(now:Int):Bool:=decide (x.till≠0) && decide (x.till≤now)
def aftI (now life:Int):Int:=if life≠0∧now+life≤1099511627776 then now+life else 0
def clsN (n:Nat):Int:=if n≤16 then 0 else if n≤32 then 1 else if n≤64 then 2 else if n≤128 then 3 else 4
def cls (x:Im):Int:=clsN (szI x)
theorem cls_isC (x:Im):isC (cls x)=true:=by
 unfold cls clsN
 split
 ·rfl
 split
 ·rfl
 split
 ·rfl
 split <;> rfl
structure Hd where
 tenant:Int
 item:Im
 page:Nat
 chunk:Nat
def Hd.name (h:Hd):Int × ByteArray:=(h.tenant,h.item.key)
structure Od where
 T:List ByteArray
 K:List ByteArray
def Od.line (o:Od):List ByteArray:=o.K++o.T
def Od.add (o:Od)(k:ByteArray):Od:=⟨k::o.T,o.K⟩
def Od.del (o:Od)(k:ByteArray):Od:=⟨dlT o.T o.K k,dlK o.T o.K k⟩
def Od.hit (o:Od)(k:ByteArray):Od:=⟨htT o.T o.K k,htK o.T o.K k⟩
def Od.ok (o:Od):Prop:=Ok o.T o.K
structure Sh where
 quotas:List Int
 now:Int
 pages:List Pg
 held:List Hd
 ord:Int→Int→Od
 last:Int
def upd (f:Int→Int→Od)(t c:Int)(o:Od):Int→Int→Od:=fun t' c'=>if t'=t∧c'=c then o else f t' c'
theorem upd_same (f:Int→Int→Od)(t c:Int)(o:Od):upd f t c o t c=o:=by simp [upd]
theorem upd_other {f:Int→Int→Od}{t c t' c':Int}{o:Od}(h:¬ (t'=t∧c'=c)):upd f t c o t' c'=f t' c':=by simp [upd,h]
def Sh.at (s:Sh)(t:Int)(k:ByteArray):Option Nat:=s.held.findIdx? fun h=>decide (h.name=(t,k))
def Sh.leaveH (s:Sh)(i:Nat)(h:Hd):Sh:=
 { s with pages:=freeR s.pages h.page h.chunk,ord:=upd s.ord h.tenant (cls h.item) ((s.ord h.tenant (cls h.item)).del h.item.key),held:=s.held.eraseIdx i }
def Sh.leave (s:Sh)(i:Nat):Sh:=match s.held[i]? with
 | some h=>s.leaveH i h
 | none=>s
def Sh.keep (s:Sh)(t:Int)(x:Im)(p k:Nat):Sh:=
 { s with ord:=upd s.ord t (cls x) ((s.ord t (cls x)).add x.key),held:=s.held++[⟨t,x,p,k⟩] }
def Sh.hitH (s:Sh)(h:Hd):Sh:={ s with ord:=upd s.ord h.tenant (cls h.item) ((s.ord h.tenant (cls h.item)).hit h.item.key) }
def Sh.hit (s:Sh)(i:Nat):Sh:=match s.held[i]? with
 | some h=>s.hitH h
 | none=>s
structure Inv (s:Sh):Prop where
 quo:chkE s.pages.length s.quotas=0
 slab:sOk s.pages=true
 mom:momI s.now=true
 names:(s.held.map Hd.name).Nodup
 ten:∀ h∈s.held,0≤h.tenant∧h.tenant<s.quotas.length
 item:∀ h∈s.held,okI h.item=true∧szI h.item≤256
 due:∀ h∈s.held,dueI h.item s.now=false
 oks:∀ t c,(s.ord t c).ok
 keys:∀ t c k,k∈(s.ord t c).line↔∃ h∈s.held,h.tenant=t∧cls h.item=c∧h.item.key=k
 spot:(s.held.map fun h=>(h.page,h.chunk)).Nodup
 page:∀ h∈s.held,∃ hp:h.page<s.pages.length,s.pages[h.page].t=h.tenant∧s.pages[h.page].c=cls h.item∧s.pages[h.page].u.testBit h.chunk=true
 bits:∀ i (hi:i<s.pages.length) k,s.pages[i].u.testBit k=true→∃ h∈s.held,h.page=i∧h.chunk=k
 own:∀ t,(owned s.pages t:Int)≤qAt s.quotas t
theorem nodup_eraseIdx {α:Type}{l:List α}(h:l.Nodup)(i:Nat):(l.eraseIdx i).Nodup:=h.sublist (List.eraseIdx_sublist l i)
theorem mem_of_eraseIdx {α:Type}{l:List α}{i:Nat}{x:α}(h:x∈l.eraseIdx i):x∈l:=(List.eraseIdx_sublist l i).subset h
theorem map_eraseIdx {α β:Type}(f:α→β):∀ (l:List α) (i:Nat),(l.eraseIdx i).map f=(l.map f).eraseIdx i
 | [],_=>by simp
 | a::l,0=>rfl
 | a::l,i+1=>by simp [map_eraseIdx f l i]
theorem mem_eraseIdx_iff {α:Type}{l:List α}(hn:l.Nodup){i:Nat}(hi:i<l.length){x:α}:x∈l.eraseIdx i↔x∈l∧x≠l[i]:=by
 rw [List.mem_eraseIdx_iff_getElem?]
 constructor
 ·rintro ⟨j,hj,e⟩
  obtain ⟨hjl,rfl⟩:=List.getElem?_eq_some_iff.1 e
  refine ⟨List.getElem_mem _,fun e2=>hj ?_⟩
  exact (List.getElem_inj hn).1 e2
 ·rintro ⟨hm,hne⟩
  obtain ⟨j,hj,rfl⟩:=List.getElem_of_mem hm
  refine ⟨j,fun e=>hne (by subst e;rfl),List.getElem?_eq_getElem hj⟩
theorem held_nodup {l:List Hd}(h:(l.map Hd.name).Nodup):l.Nodup:=by
 exact List.Pairwise.of_map Hd.name (fun a b hab e=>hab (by rw [e])) h
theorem Inv.one {s:Sh}(I:Inv s){h h':Hd}(h1:h∈s.held)(h2:h'∈s.held)(e:h.name=h'.name):h=h':=by
 obtain ⟨i,hi,rfl⟩:=List.getElem_of_mem h1
 obtain ⟨j,hj,rfl⟩:=List.getElem_of_mem h2
 have hn:=I.names
 have e2:(s.held.map Hd.name)[i]'(by simpa using hi)=(s.held.map Hd.name)[j]'(by simpa using hj):=by simpa using e
 have:=(List.getElem_inj hn).1 e2
 subst this
 rfl
theorem few:∀ (n:Nat) (l:List Nat),l.Nodup→(∀ x∈l,x<n)→l.length≤n
 | 0,l,_,h=>by
  cases l with
  | nil=>simp
  | cons a l=>exact absurd (h a (by simp)) (by omega)
 | n+1,l,hn,h=>by
  have h1:=few n (l.erase n) (hn.erase n) (fun x hx=>by
   have h2:=h x (List.mem_of_mem_erase hx)
   have h3:=(hn.mem_erase_iff.1 hx).1
   omega)
  by_cases hm:n∈l
  ·have:=List.length_erase_of_mem hm
   have:=List.length_pos_of_mem hm
   omega
  ·rw [List.erase_of_not_mem hm] at h1
   omega
theorem bit_lt {p:Pg}(h:pOk p=true){k:Nat}(hk:p.u.testBit k=true):k<chunks p.c∧k<16:=by
 have h1:=pOk_u h
 have h2:=(chunks_le (pOk_c h)).2
 have h3:k<chunks p.c:=by
  by_cases e:k<chunks p.c
  ·exact e
  ·have h4:p.u<2 ^ k:=Nat.lt_of_lt_of_le h1 (Nat.pow_le_pow_right (by decide) (by omega))
   rw [Nat.testBit_lt_two_pow h4] at hk
   cases hk
 omega
theorem sOk_at {ps:List Pg}(h:sOk ps=true){i:Nat}(hi:i<ps.length):pOk ps[i]=true:=by
 unfold sOk at h
 simp only [Bool.and_eq_true,List.all_eq_true] at h
 exact h.2 _ (List.getElem_mem hi)
theorem sOk_len {ps:List Pg}(h:sOk ps=true):1≤ps.length∧ps.length≤16:=by
 unfold sOk at h
 simp only [Bool.and_eq_true,decide_eq_true_eq] at h
 exact h.1
theorem Inv.spot_lt {s:Sh}(I:Inv s){h:Hd}(hm:h∈s.held):h.page<16∧h.chunk<16:=by
 obtain ⟨hp,_,_,hb⟩:=I.page h hm
 have:=sOk_len I.slab
 exact ⟨by omega,(bit_lt (sOk_at I.slab hp) hb).2⟩
theorem Inv.many {s:Sh}(I:Inv s):s.held.length≤256:=by
 have h1:(s.held.map fun h=>h.page * 16+h.chunk).Nodup:=by
  have h2:=I.spot
  have h3:(s.held.map fun h=>h.page * 16+h.chunk).Pairwise (·≠·):=by
   rw [List.pairwise_map]
   rw [List.nodup_iff_pairwise_ne,List.pairwise_map] at h2
   refine List.Pairwise.imp_of_mem ?_ h2
   intro a b ha hb hne e
   have h4:=I.spot_lt ha
   have h5:=I.spot_lt hb
   exact hne (by rw [Prod.mk.injEq];omega)
  exact List.nodup_iff_pairwise_ne.2 h3
 have:=few 256 _ h1 (fun x hx=>by
  obtain ⟨h,hm,rfl⟩:=List.mem_map.1 hx
  have:=I.spot_lt hm
  omega)
 simpa using this
theorem sub_len:∀ {l m:List ByteArray},l.Nodup→(∀ k∈l,k∈m)→l.length≤m.length
 | [],_,_,_=>by simp
 | a::l,m,hn,h=>by
  rw [List.nodup_cons] at hn
  have h1:=sub_len (l:=l) (m:=m.erase a) hn.2 (fun k hk=>by
   have h2:k≠a:=fun e=>hn.1 (by rw [← e];exact hk)
   exact (List.mem_erase_of_ne h2).2 (h k (by simp [hk])))
  have h3:a∈m:=h a (by simp)
  have:=List.length_erase_of_mem h3
  have:=List.length_pos_of_mem h3
  simp
  omega
theorem Inv.line_len {s:Sh}(I:Inv s)(t c:Int):(s.ord t c).line.length≤(s.held.filter fun h=>decide (h.tenant=t∧cls h.item=c)).length:=by
 have hn:(s.ord t c).line.Nodup:=(I.oks t c).nodup
 have hsub:∀ k∈(s.ord t c).line,k∈(s.held.filter fun h=>decide (h.tenant=t∧cls h.item=c)).map fun h=>h.item.key:=by
  intro k hk
  obtain ⟨h,hm,h1,h2,h3⟩:=(I.keys t c k).1 hk
  exact List.mem_map.2 ⟨h,List.mem_filter.2 ⟨hm,by simp [h1,h2]⟩,h3⟩
 have:=sub_len hn hsub
 simpa using this
end Go.Proofs.YtcdpiefflnaghaaGreatDoor.En
namespace Go.Proofs.YtcdpiefflnaghaaGreatDoor.En
open Go.Proofs.YtcdpiefflnaghaaGreatDoor.Lr
open Go.Proofs.YtcdpiefflnaghaaGreatDoor.Qt
open Go.Proofs.YtcdpiefflnaghaaGreatDoor.Sb
open Go.Proofs.YtcdpiefflnaghaaGreatDoor
theorem xor_sub {u k:Nat}(h:u.testBit k=true):u ^^^ 2 ^ k=u - 2 ^ k:=by
 have h1:(u ^^^ 2 ^ k).testBit k=false:=by rw [Nat.testBit_xor,h,Nat.testBit_two_pow_self];rfl
 have h2:=or_add h1
 have h3:(u ^^^ 2 ^ k) ||| 2 ^ k=u:=by
  apply Nat.eq_of_testBit_eq
  intro i
  rw [Nat.testBit_or,Nat.testBit_xor,Nat.testBit_two_pow]
  by_cases hi:k=i
  ·subst hi;simp [h]
  ·simp [hi]
 omega
theorem sub_bit {u k:Nat}(h:u.testBit k=true)(j:Nat):(u - 2 ^ k).testBit j=(u.testBit j && decide (j≠k)):=by
 rw [← xor_sub h,Nat.testBit_xor,Nat.testBit_two_pow]
 by_cases e:k=j
 ·subst e;simp [h]
 ·simp [e,Ne.symm e]
theorem given_u {p:Pg}{k:Nat}:(given p k).u=p.u - 2 ^ k:=by
 unfold given
 split
 ·rename_i h;rw [h];rfl
 ·rfl
theorem given_ok {p:Pg}{k:Nat}(ho:pOk p=true):pOk (given p k)=true:=by
 unfold given
 split
 ·rfl
 ·rename_i h
  have h1:=pOk_t ho
  have h2:=pOk_c ho
  have h3:=pOk_u ho
  unfold pOk
  rw [if_neg h]
  simp only [h1,h2,Bool.true_and,decide_eq_true_eq]
  exact Nat.lt_of_le_of_lt (Nat.sub_le _ _) h3
theorem set_ok {ps:List Pg}{i:Nat}{p:Pg}(ho:sOk ps=true)(hp:pOk p=true):sOk (ps.set i p)=true:=by
 have hlen:=sOk_len ho
 unfold sOk
 simp only [Bool.and_eq_true,decide_eq_true_eq,List.length_set]
 refine ⟨hlen,List.all_eq_true.2 fun q hq=>?_⟩
 rcases List.mem_or_eq_of_mem_set hq with h | h
 ·obtain ⟨j,hj,rfl⟩:=List.mem_iff_getElem.1 h
  exact sOk_at ho hj
 ·subst h
  exact hp
theorem free_eq {ps:List Pg}{i k:Nat}(ho:sOk ps=true)(hi:i<ps.length)(hb:ps[i].u.testBit k=true):freeE ps i k=0∧freeR ps i k=ps.set i (given ps[i] k):=by
 have hk:=bit_lt (sOk_at ho hi) hb
 have e1:pgAt ps (i:Int)=ps[i]:=by unfold pgAt;rw [Int.toNat_natCast,List.getElem?_eq_getElem hi];rfl
 have e2:inP ps (i:Int)=true:=by simp [inP];exact hi
 have e3:hasK ps[i] (k:Int)=true:=by simp [hasK,hb];omega
 have e4:freeE ps i k=0:=by unfold freeE;rw [ho,e2,e1,e3];rfl
 refine ⟨e4,?_⟩
 unfold freeR
 rw [if_pos e4,e1,Int.toNat_natCast,Int.toNat_natCast]
theorem owned_given {ps:List Pg}{i k:Nat}(hi:i<ps.length)(t:Int):owned (ps.set i (given ps[i] k)) t≤owned ps t:=by
 unfold owned
 rw [List.countP_set hi]
 by_cases h:isOf t (given ps[i] k)=true
 ·have h2:isOf t ps[i]=true:=by
   unfold given at h
   split at h
   ·exact absurd h (by simp [isOf,pz])
   ·rename_i h3
    unfold isOf at h ⊢
    simp at h ⊢
    exact ⟨fun e=>h3 (by rw [e];simp),h.2⟩
  have h4:0<ps.countP (isOf t):=List.countP_pos_iff.2 ⟨ps[i],List.getElem_mem hi,h2⟩
  rw [if_pos h,if_pos h2]
  omega
 ·rw [if_neg h]
  omega
theorem Od.nd {o:Od}(h:o.ok):o.line.Nodup:=h.nodup
theorem Od.del_line {o:Od}(h:o.ok)(k:ByteArray):(o.del k).line=o.line.erase k:=dl_line h.nodup
theorem Od.hit_line {o:Od}(h:o.ok)(k:ByteArray):(o.hit k).line=k::o.line.erase k:=ht_line h.nodup
theorem Od.add_mem {o:Od}(k x:ByteArray):x∈(o.add k).line↔x=k∨x∈o.line:=by
 unfold Od.add Od.line
 simp only [List.mem_append,List.mem_cons]
 constructor
 ·rintro (h | h | h)
  ·exact .inr (.inl h)
  ·exact .inl h
  ·exact .inr (.inr h)
 ·rintro (h | h | h)
  ·exact .inr (.inl h)
  ·exact .inl h
  ·exact .inr (.inr h)
theorem Inv.leave {s:Sh}(I:Inv s){i:Nat}(hi:i<s.held.length):Inv (s.leaveH i s.held[i]):=by
 obtain ⟨h,hh⟩:∃ h,h=s.held[i]:=⟨_,rfl⟩
 rw [← hh]
 have hm:h∈s.held:=by rw [hh];exact List.getElem_mem hi
 obtain ⟨hp,ht,hc,hb⟩:=I.page h hm
 obtain ⟨he,hr⟩:=free_eq I.slab hp hb
 have hnd:=held_nodup I.names
 have hme:∀ {x:Hd},x∈s.held.eraseIdx i↔x∈s.held∧x≠h:=by
  intro x
  rw [mem_eraseIdx_iff hnd hi,← hh]
 have hlen:(freeR s.pages h.page h.chunk).length=s.pages.length:=by rw [hr];simp
 have hsp:∀ x∈s.held,x≠h→¬ (x.page=h.page∧x.chunk=h.chunk):=by
  intro x hx hne e
  have h2:=I.spot
  rw [List.nodup_iff_pairwise_ne,List.pairwise_map] at h2
  obtain ⟨a,ha,rfl⟩:=List.getElem_of_mem hx
  have h3:=List.pairwise_iff_getElem.1 h2
  rcases Nat.lt_trichotomy a i with g | g | g
  ·exact h3 a i ha hi g (by rw [← hh];simp [e])
  ·subst g;exact hne (by rw [hh])
  ·exact h3 i a hi ha g (by rw [← hh];simp [e])
 refine ⟨?_,?_,I.mom,?_,?_,?_,?_,?_,?_,?_,?_,?_,?_⟩
 ·show chkE (freeR s.pages h.page h.chunk).length s.quotas=0
  rw [hlen]
  exact I.quo
 ·show sOk (freeR s.pages h.page h.chunk)=true
  rw [hr]
  exact set_ok I.slab (given_ok (sOk_at I.slab hp))
 ·show ((s.held.eraseIdx i).map Hd.name).Nodup
  rw [map_eraseIdx]
  exact nodup_eraseIdx I.names i
 ·exact fun x hx=>I.ten x (mem_of_eraseIdx hx)
 ·exact fun x hx=>I.item x (mem_of_eraseIdx hx)
 ·exact fun x hx=>I.due x (mem_of_eraseIdx hx)
 ·intro t c
  show (upd s.ord h.tenant (cls h.item) _ t c).ok
  by_cases e:t=h.tenant∧c=cls h.item
  ·obtain ⟨rfl,rfl⟩:=e
   rw [upd_same]
   exact dl_ok (I.oks _ _)
  ·rw [upd_other e]
   exact I.oks t c
 ·intro t c k
  show k∈(upd s.ord h.tenant (cls h.item) _ t c).line↔∃ x∈s.held.eraseIdx i,_
  by_cases e:t=h.tenant∧c=cls h.item
  ·obtain ⟨rfl,rfl⟩:=e
   rw [upd_same,Od.del_line (I.oks _ _),(Od.nd (I.oks _ _)).mem_erase_iff,I.keys]
   constructor
   ·rintro ⟨hne,x,hx,h1,h2,h3⟩
    exact ⟨x,hme.2 ⟨hx,fun e=>hne (by rw [← h3,e])⟩,h1,h2,h3⟩
   ·rintro ⟨x,hx,h1,h2,h3⟩
    obtain ⟨hx1,hx2⟩:=hme.1 hx
    refine ⟨fun e=>hx2 (I.one hx1 hm ?_),x,hx1,h1,h2,h3⟩
    unfold Hd.name
    rw [h1,h3,e]
  ·rw [upd_other e,I.keys]
   constructor
   ·rintro ⟨x,hx,h1,h2,h3⟩
    exact ⟨x,hme.2 ⟨hx,fun e2=>e (by rw [← h1,← h2,e2];exact ⟨rfl,rfl⟩)⟩,h1,h2,h3⟩
   ·rintro ⟨x,hx,h1,h2,h3⟩
    exact ⟨x,(hme.1 hx).1,h1,h2,h3⟩
 ·show ((s.held.eraseIdx i).map _).Nodup
  rw [map_eraseIdx]
  exact nodup_eraseIdx I.spot i
 ·intro x hx
  obtain ⟨hx1,hx2⟩:=hme.1 hx
  obtain ⟨q,q1,q2,q3⟩:=I.page x hx1
  show ∃ hp:x.page<(freeR s.pages h.page h.chunk).length,_
  refine ⟨by rw [hlen];exact q,?_⟩
  have hne:=hsp x hx1 hx2
  simp only [Sh.leaveH,hr]
  by_cases e:h.page=x.page
  ·have hck:x.chunk≠h.chunk:=fun e2=>hne ⟨e.symm,e2⟩
   have hbx:s.pages[h.page].u.testBit x.chunk=true:=by simp only [e];exact q3
   have hbit:(s.pages[h.page].u - 2 ^ h.chunk).testBit x.chunk=true:=by rw [sub_bit hb,hbx];simp [hck]
   have hu:s.pages[h.page].u - 2 ^ h.chunk≠0:=by intro e2;rw [e2] at hbit;simp at hbit
   have hg:given s.pages[h.page] h.chunk=⟨s.pages[h.page].t,s.pages[h.page].c,s.pages[h.page].u - 2 ^ h.chunk,Nat.lt_of_le_of_lt (Nat.sub_le _ _) s.pages[h.page].hu⟩:=by unfold given;rw [if_neg hu]
   have hget:(s.pages.set h.page (given s.pages[h.page] h.chunk))[x.page]'(by simpa using q)=given s.pages[h.page] h.chunk:=by
    simp only [← e]
    rw [List.getElem_set_self]
   rw [hget,hg]
   refine ⟨?_,?_,hbit⟩
   ·have:s.pages[h.page].t=s.pages[x.page].t:=by simp only [e]
    rw [← q1];exact this
   ·have:s.pages[h.page].c=s.pages[x.page].c:=by simp only [e]
    rw [← q2];exact this
  ·rw [List.getElem_set_ne e]
   exact ⟨q1,q2,q3⟩
 ·intro j hj k hk
  have hj':j<s.pages.length:=by
   have:j<(freeR s.pages h.page h.chunk).length:=hj
   rwa [hlen] at this
  simp only [Sh.leaveH,hr] at hk
  by_cases e:h.page=j
  ·subst e
   rw [List.getElem_set_self,given_u,sub_bit hb] at hk
   simp at hk
   obtain ⟨x,hx,e1,e2⟩:=I.bits h.page hj' k hk.1
   exact ⟨x,hme.2 ⟨hx,fun e3=>hk.2 (by rw [← e2,e3])⟩,e1,e2⟩
  ·rw [List.getElem_set_ne e] at hk
   obtain ⟨x,hx,e1,e2⟩:=I.bits j hj' k hk
   exact ⟨x,hme.2 ⟨hx,fun e3=>e (by rw [← e1,e3])⟩,e1,e2⟩
 ·intro t
  show (owned (freeR s.pages h.page h.chunk) t:Int)≤_
  rw [hr]
  have:=owned_given (k:=h.chunk) hp t
  have:=I.own t
  show _≤qAt s.quotas t
  omega
theorem Inv.hit {s:Sh}(I:Inv s){h:Hd}(hm:h∈s.held):Inv (s.hitH h):=by
 have hk:h.item.key∈(s.ord h.tenant (cls h.item)).line:=(I.keys _ _ _).2 ⟨h,hm,rfl,rfl,rfl⟩
 refine ⟨I.quo,I.slab,I.mom,I.names,I.ten,I.item,I.due,?_,?_,I.spot,I.page,I.bits,I.own⟩
 ·intro t c
  show (upd s.ord h.tenant (cls h.item) _ t c).ok
  by_cases e:t=h.tenant∧c=cls h.item
  ·obtain ⟨rfl,rfl⟩:=e
   rw [upd_same]
   exact ht_ok (I.oks _ _) hk
  ·rw [upd_other e]
   exact I.oks t c
 ·intro t c k
  show k∈(upd s.ord h.tenant (cls h.item) _ t c).line↔∃ x∈s.held,_
  by_cases e:t=h.tenant∧c=cls h.item
  ·obtain ⟨rfl,rfl⟩:=e
   rw [upd_same,Od.hit_line (I.oks _ _),← I.keys,List.mem_cons,(Od.nd (I.oks _ _)).mem_erase_iff]
   constructor
   ·rintro (rfl | h1)
    ·exact hk
    ·exact h1.2
   ·intro h1
    by_cases e:k=h.item.key
    ·exact .inl e
    ·exact .inr ⟨e,h1⟩
  ·rw [upd_other e,I.keys]
end Go.Proofs.YtcdpiefflnaghaaGreatDoor.En
namespace Go.Proofs.YtcdpiefflnaghaaGreatDoor.En
open Go.Proofs.YtcdpiefflnaghaaGreatDoor.Lr
open Go.Proofs.YtcdpiefflnaghaaGreatDoor.Qt
open Go.Proofs.YtcdpiefflnaghaaGreatDoor.Sb
open Go.Proofs.YtcdpiefflnaghaaGreatDoor
structure Plc (ps:List Pg)(t c q:Int)(i k:Nat):Prop where
 lt:i<ps.length
 of:ps[i].u=0∨(ps[i].t=t∧ps[i].c=c)
 ch:k<chunks c
 free:ps[i].u.testBit k=false
 own:(owned ps t:Int)+(if ps[i].u=0 then 1 else 0)≤max q (owned ps t)
theorem plc_of {ps:List Pg}{t c q:Int}{i k:Nat}(hc:isC c=true)(h:place ps t c q=some (i,k)):Plc ps t c q i k:=by
 unfold place at h
 split at h
 ·rename_i y hy
  cases h
  obtain ⟨hi,h1,h2,h3,h4⟩:=room_some hy
  obtain ⟨h5,h6,_⟩:=lowFree_some h4
  exact ⟨hi,.inr ⟨h2,h3⟩,h5,h6,by rw [if_neg h1];omega⟩
 ·split at h
  ·rename_i hq
   rw [Option.map_eq_some_iff] at h
   obtain ⟨j,hj,e⟩:=h
   cases e
   obtain ⟨hi,hu⟩:=freeP_some hj
   refine ⟨hi,.inl hu,(chunks_le hc).1,by rw [hu];simp,?_⟩
   rw [if_pos hu]
   omega
  ·cases h
theorem taken_u {ps:List Pg}{t c:Int}{i k:Nat}(hi:i<ps.length)(hk:k<16):(taken ps t c i k).u=ps[i].u ||| 2 ^ k:=by
 show ((ps[i]?.getD pz).u ||| 2 ^ k) % 65536=_
 rw [List.getElem?_eq_getElem hi]
 exact or_mod ps[i].hu hk
theorem taken_pOk {ps:List Pg}{t c q:Int}{i k:Nat}(ho:sOk ps=true)(ht:isT t=true)(hc:isC c=true)(P:Plc ps t c q i k):pOk (taken ps t c i k)=true:=by
 have hcl:=chunks_le hc
 have hk:=P.ch
 have hu:=taken_u (t:=t) (c:=c) P.lt (show k<16 by omega)
 have hi:=P.lt
 have hb:ps[i].u<2 ^ chunks c:=by
  rcases P.of with h | ⟨_,h⟩
  ·rw [h];exact Nat.two_pow_pos _
  ·have:=pOk_u (sOk_at ho P.lt);rwa [h] at this
 unfold pOk
 rw [if_neg (by rw [hu];exact or_ne),hu]
 have h1:isT (taken ps t c i k).t=true:=ht
 have h2:isC (taken ps t c i k).c=true:=hc
 rw [h1,h2]
 simp only [Bool.true_and,decide_eq_true_eq]
 exact Nat.or_lt_two_pow hb (Nat.pow_lt_pow_right (by decide) hk)
theorem owned_taken {ps:List Pg}{t c q:Int}{i k:Nat}(hc:isC c=true)(P:Plc ps t c q i k):owned (ps.set i (taken ps t c i k)) t=owned ps t+(if (ps[i]'P.lt).u=0 then 1 else 0):=by
 have hcl:=chunks_le hc
 have hk:=P.ch
 have hi:=P.lt
 have hu:=taken_u (t:=t) (c:=c) hi (show k<16 by omega)
 have ht:isOf t (taken ps t c i k)=true:=by
  unfold isOf
  rw [hu]
  simp [or_ne]
  rfl
 unfold owned
 rw [List.countP_set hi,if_pos ht]
 by_cases e:ps[i].u=0
 ·have:isOf t ps[i]=false:=by simp [isOf,e]
  rw [this,if_pos e]
  simp
 ·have h2:ps[i].t=t:=by
   rcases P.of with h | h
   ·exact absurd h e
   ·exact h.1
  have h3:isOf t ps[i]=true:=by simp [isOf,e,h2]
  have h4:0<ps.countP (isOf t):=List.countP_pos_iff.2 ⟨ps[i],List.getElem_mem hi,h3⟩
  rw [h3,if_neg e]
  simp
  omega
theorem owned_other {ps:List Pg}{t c q t':Int}{i k:Nat}(P:Plc ps t c q i k)(hne:t'≠t):owned (ps.set i (taken ps t c i k)) t'=owned ps t':=by
 have hi:=P.lt
 have h1:isOf t' (taken ps t c i k)=false:=by
  have:(taken ps t c i k).t=t:=rfl
  unfold isOf
  rw [this]
  simp
  intro _ e
  exact hne e.symm
 have h2:isOf t' ps[i]=false:=by
  unfold isOf
  simp
  intro hu e
  rcases P.of with h | h
  ·exact hu h
  ·exact hne (e.symm.trans h.1)
 unfold owned
 rw [List.countP_set hi,h1,h2]
 simp
def Sh.putAt (s:Sh)(t:Int)(x:Im)(i k:Nat)(l:Int):Sh:=Sh.keep { s with pages:=s.pages.set i (taken s.pages t (cls x) i k),last:=l } t x i k
theorem Inv.put {s:Sh}(I:Inv s){t:Int}{x:Im}{i k:Nat}(l:Int)(ht:0≤t∧t<s.quotas.length)(hx:okI x=true∧szI x≤256)(hd:dueI x s.now=false)(hn:(t,x.key)∉s.held.map Hd.name)
  (hp:place s.pages t (cls x) (qAt s.quotas t)=some (i,k)):Inv (s.putAt t x i k l):=by
 have hc:=cls_isC x
 have P:=plc_of hc hp
 have hcl:=chunks_le hc
 have hk:=P.ch
 have hi:=P.lt
 have hk16:k<16:=by omega
 have hT:isT t=true:=by
  have h1:=chkE_may I.quo
  have h2:=mayQ_len h1.2.2
  simp [isT]
  omega
 have hu:=taken_u (t:=t) (c:=cls x) hi hk16
 have hnew:(i,k)∉s.held.map fun h=>(h.page,h.chunk):=by
  intro hm
  obtain ⟨h,hh,e⟩:=List.mem_map.1 hm
  obtain ⟨q,_,_,q3⟩:=I.page h hh
  injection e with e1 e2
  subst e1 e2
  rw [P.free] at q3
  cases q3
 have hmany:s.held.length<256:=by
  have h0:(((i,k)::s.held.map fun h=>(h.page,h.chunk)).map fun z=>z.1 * 16+z.2).Nodup:=by
   rw [List.nodup_iff_pairwise_ne,List.pairwise_map]
   have h2:((i,k)::s.held.map fun h=>(h.page,h.chunk)).Nodup:=List.nodup_cons.2 ⟨hnew,I.spot⟩
   rw [List.nodup_iff_pairwise_ne] at h2
   refine List.Pairwise.imp_of_mem ?_ h2
   have hlt:∀ z∈(i,k)::s.held.map fun h=>(h.page,h.chunk),z.1<16∧z.2<16:=by
    intro z hz
    rcases List.mem_cons.1 hz with rfl | hz
    ·exact ⟨by have:=sOk_len I.slab;omega,hk16⟩
    ·obtain ⟨h,hh,rfl⟩:=List.mem_map.1 hz
     exact I.spot_lt hh
   intro a b ha hb hne e
   have h4:=hlt a ha
   have h5:=hlt b hb
   exact hne (Prod.ext (by omega) (by omega))
  have h1:=few 256 _ h0 (fun z hz=>by
   obtain ⟨y,hy,rfl⟩:=List.mem_map.1 hz
   rcases List.mem_cons.1 hy with rfl | hy
   ·have:=sOk_len I.slab
    show i * 16+k<256
    omega
   ·obtain ⟨h,hh,rfl⟩:=List.mem_map.1 hy
    have:=I.spot_lt hh
    show h.page * 16+h.chunk<256
    omega)
  simp at h1
  omega
 have hkey:kOk x.key=true:=by
  have h1:=hx.1
  unfold okI at h1
  simp at h1
  simp [kOk]
  omega
 have hnl:x.key∉(s.ord t (cls x)).line:=by
  intro hm
  obtain ⟨h,hh,h1,_,h3⟩:=(I.keys _ _ _).1 hm
  exact hn (List.mem_map.2 ⟨h,hh,by unfold Hd.name;rw [h1,h3]⟩)
 have hll:(s.ord t (cls x)).line.length<256:=by
  have h1:=I.line_len t (cls x)
  have h2:=List.length_filter_le (fun h=>decide (h.tenant=t∧cls h.item=cls x)) s.held
  omega
 refine ⟨?_,?_,I.mom,?_,?_,?_,?_,?_,?_,?_,?_,?_,?_⟩
 ·show chkE (s.pages.set i _).length s.quotas=0
  rw [List.length_set]
  exact I.quo
 ·exact set_ok I.slab (taken_pOk I.slab hT hc P)
 ·show ((s.held++[_]).map Hd.name).Nodup
  rw [List.map_append,List.nodup_append]
  refine ⟨I.names,by simp,fun a ha b hb e=>?_⟩
  simp at hb
  subst hb
  exact hn (by rw [← show a=(t,x.key) from e];exact ha)
 ·intro h hh
  rcases List.mem_append.1 hh with h1 | h1
  ·exact I.ten h h1
  ·simp at h1;subst h1;exact ht
 ·intro h hh
  rcases List.mem_append.1 hh with h1 | h1
  ·exact I.item h h1
  ·simp at h1;subst h1;exact hx
 ·intro h hh
  rcases List.mem_append.1 hh with h1 | h1
  ·exact I.due h h1
  ·simp at h1;subst h1;exact hd
 ·intro t' c'
  show (upd s.ord t (cls x) _ t' c').ok
  by_cases e:t'=t∧c'=cls x
  ·obtain ⟨rfl,rfl⟩:=e
   rw [upd_same]
   refine ad_ok (I.oks _ _) hkey hnl ?_
   have h9:(s.ord t' (cls x)).line.length=(s.ord t' (cls x)).K.length+(s.ord t' (cls x)).T.length:=by unfold Od.line;simp
   exact h9 ▸ hll
  ·rw [upd_other e]
   exact I.oks t' c'
 ·intro t' c' y
  show y∈(upd s.ord t (cls x) _ t' c').line↔∃ h∈s.held++[_],_
  by_cases e:t'=t∧c'=cls x
  ·obtain ⟨rfl,rfl⟩:=e
   rw [upd_same,Od.add_mem,I.keys]
   constructor
   ·rintro (rfl | ⟨h,hh,h1,h2,h3⟩)
    ·exact ⟨_,List.mem_append_right _ (List.mem_singleton.2 rfl),rfl,rfl,rfl⟩
    ·exact ⟨h,List.mem_append_left _ hh,h1,h2,h3⟩
   ·rintro ⟨h,hh,h1,h2,h3⟩
    rcases List.mem_append.1 hh with h4 | h4
    ·exact .inr ⟨h,h4,h1,h2,h3⟩
    ·simp at h4;subst h4;exact .inl h3.symm
  ·rw [upd_other e,I.keys]
   constructor
   ·rintro ⟨h,hh,h1,h2,h3⟩
    exact ⟨h,List.mem_append_left _ hh,h1,h2,h3⟩
   ·rintro ⟨h,hh,h1,h2,h3⟩
    rcases List.mem_append.1 hh with h4 | h4
    ·exact ⟨h,h4,h1,h2,h3⟩
    ·simp at h4;subst h4;exact absurd ⟨h1.symm,h2.symm⟩ e
 ·show ((s.held++[_]).map _).Nodup
  rw [List.map_append,List.nodup_append]
  refine ⟨I.spot,by simp,fun a ha b hb e=>?_⟩
  simp at hb
  subst hb
  exact hnew (by rw [← show a=(i,k) from e];exact ha)
 ·intro h hh
  rcases List.mem_append.1 hh with h1 | h1
  ·obtain ⟨q,q1,q2,q3⟩:=I.page h h1
   refine ⟨by simpa [Sh.putAt,Sh.keep] using q,?_⟩
   simp only [Sh.putAt,Sh.keep]
   by_cases e:i=h.page
   ·subst e
    have hu0:s.pages[h.page].u≠0:=by intro e;rw [e] at q3;simp at q3
    have hof:s.pages[h.page].t=t∧s.pages[h.page].c=cls x:=by
     rcases P.of with h2 | h2
     ·exact absurd h2 hu0
     ·exact h2
    simp only [List.getElem_set_self]
    refine ⟨?_,?_,?_⟩
    ·show t=h.tenant
     rw [← q1,hof.1]
    ·show cls x=cls h.item
     rw [← q2,hof.2]
    ·rw [hu,Nat.testBit_or,q3]
     rfl
   ·simp only [List.getElem_set_ne e]
    exact ⟨q1,q2,q3⟩
  ·simp at h1
   subst h1
   refine ⟨by simpa [Sh.putAt,Sh.keep] using hi,?_⟩
   simp only [Sh.putAt,Sh.keep,List.getElem_set_self]
   refine ⟨rfl,rfl,?_⟩
   rw [hu,Nat.testBit_or,Nat.testBit_two_pow_self]
   simp
 ·intro j hj b hb
  have hj':j<s.pages.length:=by
   have:j<(s.pages.set i (taken s.pages t (cls x) i k)).length:=hj
   simpa using this
  simp only [Sh.putAt,Sh.keep] at hb
  have hb':=hb
  by_cases e:i=j
  ·subst e
   rw [List.getElem_set_self,hu,Nat.testBit_or,Nat.testBit_two_pow] at hb'
   by_cases e2:k=b
   ·subst e2
    exact ⟨_,List.mem_append_right _ (List.mem_singleton.2 rfl),rfl,rfl⟩
   ·simp [e2] at hb'
    obtain ⟨h,hh,h1,h2⟩:=I.bits i hj' b hb'
    exact ⟨h,List.mem_append_left _ hh,h1,h2⟩
  ·rw [List.getElem_set_ne e] at hb'
   obtain ⟨h,hh,h1,h2⟩:=I.bits j hj' b hb'
   exact ⟨h,List.mem_append_left _ hh,h1,h2⟩
 ·intro t'
  show (owned (s.pages.set i (taken s.pages t (cls x) i k)) t':Int)≤qAt s.quotas t'
  by_cases e:t'=t
  ·subst e
   rw [owned_taken hc P]
   have h1:=P.own
   have h2:=I.own t'
   by_cases e0:s.pages[i].u=0
   ·rw [if_pos e0] at h1 ⊢
    omega
   ·rw [if_neg e0] at h1 ⊢
    omega
  ·rw [owned_other P e]
   exact I.own t'
end Go.Proofs.YtcdpiefflnaghaaGreatDoor.En
namespace Go.Proofs.YtcdpiefflnaghaaGreatDoor.En
open Go.Proofs.YtcdpiefflnaghaaGreatDoor.Lr
open Go.Proofs.YtcdpiefflnaghaaGreatDoor.Qt
open Go.Proofs.YtcdpiefflnaghaaGreatDoor.Sb
open Go.Proofs.YtcdpiefflnaghaaGreatDoor
inductive Ch where
 | put (t:Int) (x:Im)
 | drop (t:Int) (k:ByteArray) (why:Int)
 | clear (t:Int)
 | clock (til:Int)
 | quota (t til:Int)
structure Pl where
 now:Int
 kept:List (Int × Im)
def Ch.now (c:Ch)(n:Int):Int:=match c with
 | .clock til=>til
 | _=>n
def Ch.hits (c:Ch)(z:Int × Im):Bool:=match c with
 | .put t x=>decide (z.1=t∧z.2.key=x.key)
 | .drop t k _=>decide (z.1=t∧z.2.key=k)
 | .clear t=>decide (z.1=t)
 | _=>false
def Ch.news (c:Ch):List (Int × Im):=match c with
 | .put t x=>[(t,x)]
 | _=>[]
def after (p:Pl)(c:Ch):Pl:=⟨c.now p.now,(p.kept.filter fun z=>!(c.hits z || dueI z.2 (c.now p.now)))++c.news⟩
def nm (z:Int × Im):Int × ByteArray:=(z.1,z.2.key)
def Sh.kept (s:Sh):List (Int × Im):=s.held.map fun h=>(h.tenant,h.item)
def Sh.img (s:Sh):Pl:=⟨s.now,s.kept⟩
theorem kept_names (s:Sh):s.kept.map nm=s.held.map Hd.name:=by
 unfold Sh.kept
 rw [List.map_map]
 rfl
theorem Inv.kept_nd {s:Sh}(I:Inv s):(s.kept.map nm).Nodup:=by rw [kept_names];exact I.names
theorem Inv.kept_due {s:Sh}(I:Inv s):∀ z∈s.kept,dueI z.2 s.now=false:=by
 intro z hz
 obtain ⟨h,hh,rfl⟩:=List.mem_map.1 hz
 exact I.due h hh
theorem erase_filter {α β:Type}[DecidableEq β](f:α→β):∀ (l:List α) (i:Nat) (hi:i<l.length),(l.map f).Nodup→l.eraseIdx i=l.filter fun z=>decide (f z≠f l[i])
 | a::l,0,_,hn=>by
  rw [List.map_cons,List.nodup_cons] at hn
  rw [List.filter_cons]
  simp only [List.getElem_cons_zero,List.eraseIdx_cons_zero]
  rw [if_neg (by simp)]
  symm
  rw [List.filter_eq_self]
  intro z hz
  simp
  intro e
  exact hn.1 (by rw [← e];exact List.mem_map.2 ⟨z,hz,rfl⟩)
 | a::l,i+1,hi,hn=>by
  rw [List.map_cons,List.nodup_cons] at hn
  have hi':i<l.length:=by simpa using hi
  have ih:=erase_filter f l i hi' hn.2
  rw [List.filter_cons]
  simp only [List.getElem_cons_succ,List.eraseIdx_cons_succ]
  rw [if_pos,← ih]
  simp
  intro e
  exact hn.1 (by rw [e];exact List.mem_map.2 ⟨l[i],List.getElem_mem hi',rfl⟩)
theorem Inv.kept_leave {s:Sh}(I:Inv s){i:Nat}(hi:i<s.held.length):(s.leaveH i s.held[i]).kept=s.kept.filter fun z=>decide (nm z≠s.held[i].name):=by
 show (s.held.eraseIdx i).map _=_
 rw [map_eraseIdx]
 have h:=erase_filter nm s.kept i (by unfold Sh.kept;simpa using hi) I.kept_nd
 unfold Sh.kept at h ⊢
 rw [h]
 congr 1
 funext z
 simp [nm,Hd.name]
theorem after_plain {p:Pl}{c:Ch}(hd:∀ z∈p.kept,dueI z.2 p.now=false)(hn:c.now p.now=p.now):(after p c).kept=(p.kept.filter fun z=>!c.hits z)++c.news∧(after p c).now=p.now:=by
 refine ⟨?_,hn⟩
 unfold after
 simp only [hn]
 congr 1
 apply List.filter_congr
 intro z hz
 rw [hd z hz,Bool.or_false]
theorem at_some {s:Sh}{t:Int}{k:ByteArray}{i:Nat}(h:s.at t k=some i):∃ hi:i<s.held.length,s.held[i].name=(t,k):=by
 unfold Sh.at at h
 rw [List.findIdx?_eq_some_iff_getElem] at h
 obtain ⟨hi,h1,_⟩:=h
 exact ⟨hi,by simpa using h1⟩
theorem at_none {s:Sh}{t:Int}{k:ByteArray}(h:s.at t k=none):(t,k)∉s.held.map Hd.name:=by
 unfold Sh.at at h
 rw [List.findIdx?_eq_none_iff] at h
 intro hm
 obtain ⟨x,hx,e⟩:=List.mem_map.1 hm
 have:=h x hx
 simp [e] at this
theorem at_mem {s:Sh}{t:Int}{k:ByteArray}(h:(t,k)∈s.held.map Hd.name):∃ i,s.at t k=some i:=by
 cases e:s.at t k with
 | some i=>exact ⟨i,rfl⟩
 | none=>exact absurd h (at_none e)
theorem leave_eq {s:Sh}{i:Nat}(hi:i<s.held.length):s.leave i=s.leaveH i s.held[i]:=by
 unfold Sh.leave
 rw [List.getElem?_eq_getElem hi]
theorem owned_all:∀ {ps:List Pg},(∀ p∈ps,p.u≠0∧isT p.t=true)→ps.length=owned ps 0+owned ps 1+owned ps 2+owned ps 3
 | [],_=>rfl
 | p::ps,h=>by
  have ih:=owned_all (ps:=ps) (fun x hx=>h x (by simp [hx]))
  obtain ⟨h1,h2⟩:=h p (by simp)
  have h3:p.t=0∨p.t=1∨p.t=2∨p.t=3:=by simp [isT] at h2;omega
  unfold owned at ih ⊢
  simp only [List.countP_cons,List.length_cons]
  rcases h3 with e | e | e | e <;> simp [isOf,h1,e] <;> omega
theorem qAt_sum {q:List Int}(hl:q.length≤4):qAt q 0+qAt q 1+qAt q 2+qAt q 3=q.sum:=by
 match q,hl with
 | [],_=>rfl
 | [a],_=>simp [qAt]
 | [a,b],_=>simp [qAt]
 | [a,b,c],_=>simp [qAt];omega
 | [a,b,c,d],_=>simp [qAt];omega
theorem free_page {ps:List Pg}{q:List Int}(hs:sOk ps=true)(hm:mayQ ps.length q=true)(hA:∀ t,(owned ps t:Int)≤qAt q t){t:Int}(ht:isT t=true)(hlt:(owned ps t:Int)<qAt q t):∃ i,freeP ps=some i:=by
 cases e:freeP ps with
 | some i=>exact ⟨i,rfl⟩
 | none=>
  exfalso
  have hl:=mayQ_len hm
  have hS:=mayQ_sum hm
  have hall:∀ p∈ps,p.u≠0∧isT p.t=true:=by
   intro p hp
   obtain ⟨i,hi,rfl⟩:=List.mem_iff_getElem.1 hp
   exact ⟨freeP_none e i hi,pOk_t (sOk_at hs hi)⟩
  have hc:=owned_all hall
  have h5:=qAt_sum hl.2
  have k0:=hA 0
  have k1:=hA 1
  have k2:=hA 2
  have k3:=hA 3
  have h3:t=0∨t=1∨t=2∨t=3:=by simp [isT] at ht;omega
  rcases h3 with rfl | rfl | rfl | rfl <;> omega
theorem room_of {ps:List Pg}{t c:Int}{i k:Nat}(hi:i<ps.length)(hu:ps[i].u≠0)(ht:ps[i].t=t)(hc:ps[i].c=c)(hk:k<chunks c)(hb:ps[i].u.testBit k=false):∃ x,room ps t c=some x:=by
 cases e:room ps t c with
 | some x=>exact ⟨x,rfl⟩
 | none=>
  have:=lowFree_none (room_none e i hi hu ht hc) k hk
  rw [hb] at this
  cases this
theorem Inv.tOk {s:Sh}(I:Inv s){t:Int}(ht:0≤t∧t<s.quotas.length):isT t=true:=by
 have h1:=chkE_may I.quo
 have h2:=mayQ_len h1.2.2
 simp [isT]
 omega
theorem Inv.full {s:Sh}(I:Inv s){t c:Int}(ht:0≤t∧t<s.quotas.length)(h:place s.pages t c (qAt s.quotas t)=none):(owned s.pages t:Int)=qAt s.quotas t∧room s.pages t c=none:=by
 unfold place at h
 split at h
 ·cases h
 ·rename_i hr
  refine ⟨?_,hr⟩
  have h1:=I.own t
  by_cases e:(owned s.pages t:Int)<qAt s.quotas t
  ·obtain ⟨i,hf⟩:=free_page I.slab (chkE_may I.quo).2.2 I.own (I.tOk ht) e
   rw [if_pos e,hf] at h
   cases h
  ·omega
theorem Inv.place_behind {s:Sh}(I:Inv s){i:Nat}(hi:i<s.held.length):∃ z,place (s.leaveH i s.held[i]).pages s.held[i].tenant (cls s.held[i].item) (qAt s.quotas s.held[i].tenant)=some z:=by
 have J:=I.leave hi
 obtain ⟨h,hh⟩:∃ h,h=s.held[i]:=⟨_,rfl⟩
 rw [← hh] at J ⊢
 have hm:h∈s.held:=by rw [hh];exact List.getElem_mem hi
 obtain ⟨hp,ht,hc,hb⟩:=I.page h hm
 obtain ⟨he,hr⟩:=free_eq I.slab hp hb
 have hten:0≤h.tenant∧h.tenant<(s.leaveH i h).quotas.length:=I.ten h hm
 cases e:place (s.leaveH i h).pages h.tenant (cls h.item) (qAt s.quotas h.tenant) with
 | some z=>exact ⟨z,rfl⟩
 | none=>
  exfalso
  obtain ⟨h1,h2⟩:=J.full (t:=h.tenant) (c:=cls h.item) hten e
  have hpg:(s.leaveH i h).pages=s.pages.set h.page (given s.pages[h.page] h.chunk):=hr
  rw [hpg] at h1 h2
  have hck:=bit_lt (sOk_at I.slab hp) hb
  by_cases hu:s.pages[h.page].u - 2 ^ h.chunk=0
  ·
   have hg:given s.pages[h.page] h.chunk=pz:=by unfold given;rw [if_pos hu]
   have hof:isOf h.tenant s.pages[h.page]=true:=by
    unfold isOf
    have:s.pages[h.page].u≠0:=by intro e;rw [e] at hb;simp at hb
    simp [this,ht]
   have h3:owned (s.pages.set h.page (given s.pages[h.page] h.chunk)) h.tenant+1=owned s.pages h.tenant:=by
    unfold owned
    rw [List.countP_set hp,hg,hof]
    have h4:0<s.pages.countP (isOf h.tenant):=List.countP_pos_iff.2 ⟨s.pages[h.page],List.getElem_mem hp,hof⟩
    have h5:isOf h.tenant pz=false:=by simp [isOf,pz]
    rw [h5]
    simp
    omega
   have h6:=I.own h.tenant
   have h7:(s.leaveH i h).quotas=s.quotas:=rfl
   rw [h7] at h1
   omega
  ·have hg:given s.pages[h.page] h.chunk=⟨s.pages[h.page].t,s.pages[h.page].c,s.pages[h.page].u - 2 ^ h.chunk,Nat.lt_of_le_of_lt (Nat.sub_le _ _) s.pages[h.page].hu⟩:=by unfold given;rw [if_neg hu]
   obtain ⟨x,hx⟩:=room_of (ps:=s.pages.set h.page (given s.pages[h.page] h.chunk)) (t:=h.tenant) (c:=cls h.item) (i:=h.page) (k:=h.chunk) (by simpa using hp)
    (by rw [List.getElem_set_self,hg];exact hu) (by rw [List.getElem_set_self,hg];exact ht) (by rw [List.getElem_set_self,hg];exact hc) (by rw [← hc];exact hck.1)
    (by rw [List.getElem_set_self,given_u,sub_bit hb];simp)
   rw [hx] at h2
   cases h2
end Go.Proofs.YtcdpiefflnaghaaGreatDoor.En
namespace Go.Proofs.YtcdpiefflnaghaaGreatDoor
open Go.RowKit
theorem ret_int {k:IntKind}{a b:Int}(h:a=b):Ending.returned (.int k a)=.returned (.int k b):=by rw [h]
theorem take_snoc (s:ByteArray)(k:Nat)(h:k<s.size):s.data.toList.take (k+1)=s.data.toList.take k++[s[k]]:=by
 rw [List.take_succ_eq_append_getElem (by simpa using h)];rfl
theorem take_all (s:ByteArray)(k:Nat)(h:s.size≤k):s.data.toList.take k=s.data.toList:=
 List.take_of_length_le (by simpa using h)
def hstep (h:Int)(c:UInt8):Int:=IntKind.u64.wrap (bits BinOp.xor IntKind.u64 h (IntKind.u64.wrap ↑c.toNat) * 1099511628211)
def hashL (h:Int)(l:List UInt8):Int:=l.foldl hstep h
theorem hashL_snoc (h:Int)(l:List UInt8)(c:UInt8):hashL h (l++[c])=hstep (hashL h l) c:=by simp [hashL]
theorem u64_wrap_bounds (n:Int):0≤IntKind.u64.wrap n∧IntKind.u64.wrap n≤18446744073709551615:=by
 simp [IntKind.wrap,IntKind.bits,IntKind.signed];omega
theorem hashL_bounds (h:Int)(l:List UInt8)(h0:0≤h)(h1:h≤18446744073709551615):0≤hashL h l∧hashL h l≤18446744073709551615:=by
 rcases List.eq_nil_or_concat l with rfl | ⟨m,c,rfl⟩
 ·exact ⟨h0,h1⟩
 ·rw [List.concat_eq_append,hashL_snoc];exact u64_wrap_bounds _
def tenantText (t:Int):ByteArray:=strOfNums [t]
theorem tenantText_size (t:Int):(tenantText t).size=1:=by simp [tenantText,strOfNums_size]
def keyOk (s:ByteArray):Bool:=decide (1≤s.size∧s.size≤32)
def tenOk (t:Int):Bool:=decide (0≤t∧t<4)
def hash0 (l:List UInt8):Int:=hashL 14695981039346656037 l
theorem hash0_bounds (l:List UInt8):0≤hash0 l∧hash0 l≤18446744073709551615:=hashL_bounds _ _ (by decide) (by decide)
def smallF:Nat→Nat→List UInt8
 | 0,n=>[UInt8.ofNat n]
 | f+1,n=>if n<128 then [UInt8.ofNat n] else UInt8.ofNat (n % 128+128)::smallF f (n / 128)
def small (n:Nat):List UInt8:=smallF 9 n
def text (l:List UInt8):List UInt8:=small l.length++l
def val:List UInt8→Nat
 | []=>0
 | x::r=>x.toNat % 128+128 * val r
end Go.Proofs.YtcdpiefflnaghaaGreatDoor
