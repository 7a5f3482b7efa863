/-
  Package engine and what stands beneath it, part 18: contracts of functions, and what they rest on.
-/
import Derived.Maps.OwnSet
import Derived.Maps.RangeWalk
import Derived.DeepKeys5
import Derived.Deep.Cut
import Derived.Deep.RegionHeld3
import Derived.Deep.RegionLaw
import Derived.Test.YtcdpiefflnaghaaGreatDoorU17
import Derived.Test.YtcdpiefflnaghaaGreatDoorU16
set_option linter.unusedSimpArgs false
set_option linter.unusedVariables false
set_option maxRecDepth 100000
namespace Go.Proofs.YtcdpiefflnaghaaGreatDoor.Wh
open Go.Proofs.YtcdpiefflnaghaaGreatDoor.Me
open Go.RowKit
open Go.Maps (Keyed)
structure Nm where
 tenant:Int
 key:ByteArray
deriving DecidableEq
def Nm.val (x:Nm):Value:=.agg #[.int .i64 x.tenant,.string x.key]
def Nm.ok (x:Nm):Prop:=0≤x.tenant∧x.tenant<4∧1≤x.key.size∧x.key.size≤32
instance (x:Nm):Decidable x.ok:=by unfold Nm.ok;exact inferInstance
def kl (x:Nm):Lit:=.string (keyBytes [.int .i64 x.tenant,.string x.key.data.toList])
theorem Tryz.laidNm:laidOutB Tryz.prog=true:=by kernel_rfl
theorem Tryz.keyNm:Tryz.prog.keyType 119=true:=by kernel_rfl
theorem Tryz.rowNm:(119:TypeId)<Tryz.prog.types.size:=of_decide_eq_true (by kernel_rfl)
theorem Tryz.smallNm:Tryz.prog.types.size+2≤10000:=of_decide_eq_true (by kernel_rfl)
theorem lawNm:Keyed Tryz.prog 119:=Keyed.of_law (deep_law_gate Tryz.laidNm Tryz.smallNm Tryz.rowNm Tryz.keyNm (by kernel_rfl))
theorem Tryz.cellsNm:Tryz.prog.cellsOf 119=2:=by kernel_rfl
theorem Tryz.cellsNmT:Tryz.prog.cellsOf 3=1:=by kernel_rfl
theorem Tryz.cellsNmK:Tryz.prog.cellsOf 9=1:=by kernel_rfl
theorem zeroNm (w:World):(zeroValue 3).run Tryz.prog w=.ok (.int .i64 0) w:=by kernel_rfl
theorem lits_int {P:Program}{t:TypeId}{q:IntKind}(h:P.underlying t=some (.int q))(d:Nat)(n:Int)(hw:(Lit.int q n).wf=true):P.keyLits (d+1) t [.int q n]=some [.int q n]:=by
 simp [Program.keyLits,h,hw]
theorem lits_str {P:Program}{t:TypeId}(h:P.underlying t=some .string)(d:Nat)(s:ByteArray)(hs:s.size≤maxLen):P.keyLits (d+1) t [.string s]=some [.string s.data.toList]:=by
 simp [Program.keyLits,h,hs]
theorem lits_int_inv {P:Program}{t:TypeId}{q:IntKind}(h:P.underlying t=some (.int q)){d:Nat}{c:Value}{l:List Lit}(hl:P.keyLits (d+1) t [c]=some l):∃ n,c=.int q n:=by
 cases c <;> simp [Program.keyLits,h] at hl
 obtain ⟨⟨rfl,_⟩,_⟩:=hl
 exact ⟨_,rfl⟩
theorem lits_str_inv {P:Program}{t:TypeId}(h:P.underlying t=some .string){d:Nat}{c:Value}{l:List Lit}(hl:P.keyLits (d+1) t [c]=some l):∃ s,c=.string s:=by
 cases c <;> simp [Program.keyLits,h] at hl
 exact ⟨_,rfl⟩
theorem lits_two {P : Program} {t : TypeId} {f0 f1 : Field} (h : P.underlying t = some (.struct #[f0, f1])) (hc : P.cellsOf t = 2) (n0 : (f0.name != "_") = true) (n1 : (f1.name != "_") = true) (o0 : f0.offset = 0) (o1 : f1.offset = 1) (c0 : P.cellsOf f0.type = 1) (c1 : P.cellsOf f1.type = 1) (d : Nat) (x y : Value) :
  P.keyLits (d+1) t [x,y]=(P.keyLits d f0.type [x]).bind fun l0=>(P.keyLits d f1.type [y]).map fun l1=>l0++l1:=by
 have n0' : ¬ f0.name = "_" := by simpa using n0
 have n1' : ¬ f1.name = "_" := by simpa using n1
 simp only [Program.keyLits,h]
 rw [if_pos ⟨by rw [hc];rfl,by simp [n0',n1']⟩]
 simp only [o0,o1,c0,c1,List.mapM_cons,List.mapM_nil,List.drop,List.take]
 cases P.keyLits d f0.type [x] with
 | none=>rfl
 | some l0=>
  cases P.keyLits d f1.type [y] with
  | none=>rfl
  | some l1=>simp
theorem keyLits_nm (d:Nat)(x y:Value):Tryz.prog.keyLits (d+1) 119 [x,y]=(Tryz.prog.keyLits d 3 [x]).bind fun l0=>(Tryz.prog.keyLits d 9 [y]).map fun l1=>l0++l1:=
 lits_two Tryz.underlying119 Tryz.cellsNm rfl rfl rfl rfl Tryz.cellsNmT Tryz.cellsNmK d x y
theorem size_nm:∃ m,Tryz.prog.types.size=m+1:=⟨Tryz.prog.types.size - 1,by kernel_rfl⟩
theorem keyOf_nm (x y:Value):∃ m,keyOf Tryz.prog 119 (.agg #[x,y])=((Tryz.prog.keyLits (m+1) 3 [x]).bind fun l0=>(Tryz.prog.keyLits (m+1) 9 [y]).map fun l1=>l0++l1).map fun ls=>.string (keyBytes ls):=by
 obtain ⟨m,hm⟩:=size_nm
 refine ⟨m,?_⟩
 unfold keyOf
 rw [hm]
 have hu:=Tryz.underlying119
 have hf:(Value.agg #[x,y]).formed Tryz.prog 119=true:=by
  simp only [Value.formed,hu,Tryz.cellsNm]
  rfl
 rw [hu]
 simp only [Tryz.keyNm,hf,Value.cells]
 rw [keyLits_nm]
 rfl
theorem key_is (x:Nm)(h1:(Lit.int .i64 x.tenant).wf=true)(h2:x.key.size≤maxLen):keyOf Tryz.prog 119 x.val=some (kl x):=by
 obtain ⟨m,hm⟩:=keyOf_nm (.int .i64 x.tenant) (.string x.key)
 unfold Nm.val
 rw [hm,lits_int Tryz.underlying3 m _ h1,lits_str Tryz.underlying9 m _ h2]
 rfl
theorem key_ok {x:Nm}(h:x.ok):keyOf Tryz.prog 119 x.val=some (kl x):=by
 obtain ⟨h1,h2,h3,h4⟩:=h
 exact key_is x (WalkArith.wf_i64 (by omega)) (by unfold maxLen;omega)
theorem val_inj {a b:Nm}(h:a.val=b.val):a=b:=by
 obtain ⟨a1,a2⟩:=a
 obtain ⟨b1,b2⟩:=b
 simp only [Nm.val,Value.agg.injEq,Array.mk.injEq,List.cons.injEq,Value.int.injEq,Value.string.injEq] at h
 obtain ⟨⟨_,h1⟩,h2,_⟩:=h
 rw [h1,h2]
theorem kl_inj {a b:Nm}(ha:a.ok)(hb:b.ok)(h:kl a=kl b):a=b:=
 val_inj (lawNm.inj (key_ok ha) (h ▸ key_ok hb))
theorem key_inv {v:Value}{l:Lit}(h:keyOf Tryz.prog 119 v=some l):∃ x:Nm,v=x.val:=by
 have hf:v.formed Tryz.prog 119=true:=by
  unfold keyOf at h
  have hu:=Tryz.underlying119
  rw [hu] at h
  simp only [Tryz.keyNm,Bool.true_and] at h
  cases hv:v.formed Tryz.prog 119 with
  | true=>rfl
  | false=>rw [hv] at h;cases h
 have hc:∃ cs,v=.agg cs∧cs.size=2:=by
  unfold Value.formed at hf
  rw [Tryz.underlying119] at hf
  cases v with
  | agg cs=>exact ⟨cs,rfl,by simpa [Tryz.cellsNm] using hf⟩
  | _=>cases hf
 obtain ⟨⟨cs⟩,rfl,h2⟩:=hc
 match cs,h2 with
 | [c0,c1],_=>
  obtain ⟨m,hm⟩:=keyOf_nm c0 c1
  rw [hm] at h
  cases e0:Tryz.prog.keyLits (m+1) 3 [c0] with
  | none=>rw [e0] at h;cases h
  | some l0=>
   cases e1:Tryz.prog.keyLits (m+1) 9 [c1] with
   | none=>rw [e0,e1] at h;cases h
   | some l1=>
    obtain ⟨n,rfl⟩:=lits_int_inv Tryz.underlying3 e0
    obtain ⟨s,rfl⟩:=lits_str_inv Tryz.underlying9 e1
    exact ⟨⟨n,s⟩,rfl⟩
theorem kl_key (x:Nm):WideAt.IsKeyLit (kl x):=trivial
abbrev NU:=Nm × Int
structure Is (D:DataW Unit)(M:List NU):Prop where
 names:∀ p∈M,p.1.ok
 wf:∀ p∈M,(Lit.int .i64 p.2).wf=true
 apart:M.Pairwise (fun p q=>p.1≠q.1)
 has:∀ p∈M,Maps.has D (kl p.1)=true∧∀ z,D.atKey (kl p.1) z=.lit (.int .i64 p.2)
 only:∀ k,Maps.has D k=true→∃ p∈M,k=kl p.1
 size:Maps.size D=M.length
def strike (x:Nm)(M:List NU):List NU:=M.filter (fun p=>decide (p.1≠x))
theorem mem_strike {x:Nm}{M:List NU}{p:NU}:p∈strike x M↔p∈M∧p.1≠x:=by simp [strike]
theorem strike_none {x:Nm}{M:List NU}(h:∀ p∈M,p.1≠x):strike x M=M:=List.filter_eq_self.2 (fun p hp=>by simpa using h p hp)
theorem strike_len {x:Nm}{u:Int}:∀ {M:List NU},M.Pairwise (fun p q=>p.1≠q.1)→(x,u)∈M→(strike x M).length+1=M.length
 | [],_,h=>by cases h
 | p::M,hp,h=>by
  obtain ⟨h1,h2⟩:=List.pairwise_cons.1 hp
  by_cases e:p.1=x
  ·have:strike x (p::M)=M:=by
    unfold strike
    rw [List.filter_cons_of_neg (by simp [e])]
    exact List.filter_eq_self.2 (fun q hq=>by have:=h1 q hq;rw [e] at this;simpa using fun e'=>this e'.symm)
   rw [this];rfl
  ·have hm:(x,u)∈M:=by
    rcases List.mem_cons.1 h with h | h
    ·rw [← h] at e;exact absurd rfl e
    ·exact h
   have ih:=strike_len h2 hm
   have:strike x (p::M)=p::strike x M:=by
    unfold strike
    rw [List.filter_cons_of_pos (by simpa using e)]
   rw [this,List.length_cons,List.length_cons,ih]
theorem Is.empty:Is (.map []) []:=⟨by simp,by simp,by simp,by simp,fun k h=>by simp [Maps.has_eq] at h,rfl⟩
theorem Is.perm {D:DataW Unit}{M M':List NU}(h:Is D M)(hp:M.Perm M'):Is D M':=
 ⟨fun p hp'=>h.names p (hp.mem_iff.2 hp'),fun p hp'=>h.wf p (hp.mem_iff.2 hp'),(hp.pairwise_iff (fun {_ _} hne=>Ne.symm hne)).1 h.apart,fun p hp'=>h.has p (hp.mem_iff.2 hp'),
  fun k hk=>by obtain ⟨p,h1,h2⟩:=h.only k hk;exact ⟨p,hp.mem_iff.1 h1,h2⟩,h.size.trans hp.length_eq⟩
theorem Is.missing {D:DataW Unit}{M:List NU}(h:Is D M){x:Nm}(hx:x.ok)(hn:∀ p∈M,p.1≠x):Maps.has D (kl x)=false:=by
 cases e:Maps.has D (kl x) with
 | false=>rfl
 | true=>
  obtain ⟨p,h1,h2⟩:=h.only _ e
  exact absurd (kl_inj hx (h.names p h1) h2).symm (hn p h1)
theorem Is.one {D:DataW Unit}{M:List NU}(h:Is D M){x:Nm}{u v:Int}(h1:(x,u)∈M)(h2:(x,v)∈M):u=v:=by
 have a:=(h.has _ h1).2 (.lit (.int .i64 0))
 rw [(h.has _ h2).2 (.lit (.int .i64 0))] at a
 simpa using a.symm
theorem Is.has_iff {D:DataW Unit}{M:List NU}(h:Is D M){x:Nm}(hx:x.ok):(∃ u,(x,u)∈M∧Maps.has D (kl x)=true∧∀ z,D.atKey (kl x) z=.lit (.int .i64 u))∨((∀ p∈M,p.1≠x)∧Maps.has D (kl x)=false):=by
 by_cases hn:∀ p∈M,p.1≠x
 ·exact .inr ⟨hn,h.missing hx hn⟩
 ·simp only [Classical.not_forall,Classical.not_imp,Classical.not_not] at hn
  obtain ⟨⟨y,u⟩,hp,e⟩:=hn
  simp only [] at e
  subst e
  exact .inl ⟨u,hp,h.has (y,u) hp⟩
theorem Is.del {D:DataW Unit}{M:List NU}(h:Is D M)(hT:Maps.Tidy D){x:Nm}(hx:x.ok):Is (D.del (kl x)) (strike x M):=by
 refine ⟨fun p hp=>h.names p (mem_strike.1 hp).1,fun p hp=>h.wf p (mem_strike.1 hp).1,h.apart.filter _,fun p hp=>?_,fun k hk=>?_,?_⟩
 ·obtain ⟨h1,h2⟩:=mem_strike.1 hp
  have hne:kl p.1≠kl x:=fun e=>h2 (kl_inj (h.names p h1) hx e)
  rw [Maps.has_del_other hne]
  exact ⟨(h.has p h1).1,fun z=>by rw [Maps.atKey_del_other hne];exact (h.has p h1).2 z⟩
 ·by_cases e:k=kl x
  ·rw [e,Maps.has_del_same] at hk;cases hk
  ·rw [Maps.has_del_other e] at hk
   obtain ⟨p,h1,h2⟩:=h.only k hk
   exact ⟨p,mem_strike.2 ⟨h1,fun e'=>e (by rw [h2,e'])⟩,h2⟩
 ·have hs:=Maps.size_del (k:=kl x) hT
  rw [h.size] at hs
  rcases h.has_iff hx with ⟨u,h1,h2,_⟩ | ⟨h1,h2⟩
  ·rw [h2] at hs
   have:=strike_len h.apart h1
   simp at hs
   omega
  ·rw [h2] at hs
   rw [strike_none h1]
   simpa using hs
theorem Is.put {D:DataW Unit}{M:List NU}(h:Is D M)(hT:Maps.Tidy D){x:Nm}(hx:x.ok){u:Int}(hu:(Lit.int .i64 u).wf=true):Is (D.put (kl x) (.lit (.int .i64 u))) ((x,u)::strike x M):=by
 refine ⟨fun p hp=>?_,fun p hp=>?_,List.pairwise_cons.2 ⟨fun p hp=>(mem_strike.1 hp).2.symm,h.apart.filter _⟩,fun p hp=>?_,fun k hk=>?_,?_⟩
 ·rcases List.mem_cons.1 hp with rfl | hp
  ·exact hx
  ·exact h.names p (mem_strike.1 hp).1
 ·rcases List.mem_cons.1 hp with rfl | hp
  ·exact hu
  ·exact h.wf p (mem_strike.1 hp).1
 ·rcases List.mem_cons.1 hp with rfl | hp
  ·exact ⟨Maps.has_put_same hT.isMap (kl_key x) _,fun z=>Maps.atKey_put_same hT.isMap (kl_key x) _ z⟩
  ·obtain ⟨h1,h2⟩:=mem_strike.1 hp
   have hne:kl p.1≠kl x:=fun e=>h2 (kl_inj (h.names p h1) hx e)
   rw [Maps.has_put_other hne]
   exact ⟨(h.has p h1).1,fun z=>by rw [Maps.atKey_put_other hne];exact (h.has p h1).2 z⟩
 ·by_cases e:k=kl x
  ·exact ⟨(x,u),by simp,e⟩
  ·rw [Maps.has_put_other e] at hk
   obtain ⟨p,h1,h2⟩:=h.only k hk
   exact ⟨p,List.mem_cons_of_mem _ (mem_strike.2 ⟨h1,fun e'=>e (by rw [h2,e'])⟩),h2⟩
 ·have hs:=Maps.size_put (k:=kl x) hT (.lit (.int .i64 u))
  rw [h.size] at hs
  rw [hs]
  rcases h.has_iff hx with ⟨v,h1,h2,_⟩ | ⟨h1,h2⟩
  ·rw [h2]
   have:=strike_len h.apart h1
   simp
   omega
  ·rw [h2,strike_none h1]
   simp
def Mp (w:World)(b n:Nat)(M:List NU):Prop:=∃ D:DataW Unit,w.ownsMap Tryz.prog 119 (plainElem Tryz.prog 3) b n D∧Is D M
theorem Mp.made (w:World):Mp (w.alloc (.map #[] 0)) w.heap.size 0 []:=⟨_,World.ownsMap_made w _ _ _,Is.empty⟩
theorem Mp.lt {w:World}{b n:Nat}{M:List NU}(h:Mp w b n M):b<w.heap.size:=by obtain ⟨D,h1,_⟩:=h;exact h1.lt
theorem Mp.mono {w:World}{b n n':Nat}{M:List NU}(h:Mp w b n M)(hn:n≤n'):Mp w b n' M:=by obtain ⟨D,h1,h2⟩:=h;exact ⟨D,h1.mono hn,h2⟩
theorem Mp.perm {w:World}{b n:Nat}{M M':List NU}(h:Mp w b n M)(hp:M.Perm M'):Mp w b n M':=by obtain ⟨D,h1,h2⟩:=h;exact ⟨D,h1,h2.perm hp⟩
theorem Mp.kept {w w':World}{b n:Nat}{M:List NU}{row:Option Nat}(h:Mp w b n M)(hg:w.grownBy w' row)(hne:some b≠row):Mp w' b n M:=by obtain ⟨D,h1,h2⟩:=h;exact ⟨D,h1.kept hg hne,h2⟩
theorem Mp.apart {w:World}{b n:Nat}{M:List NU}(h:Mp w b n M):M.Pairwise (fun p q=>p.1≠q.1):=by obtain ⟨D,h1,h2⟩:=h;exact h2.apart
theorem Mp.len {w:World}{b n:Nat}{M:List NU}(h:Mp w b n M):M.length≤n:=by obtain ⟨D,h1,h2⟩:=h;rw [← h2.size];exact h1.size_le
section
variable {w:World} {ops:Array Oper} {rest:List Oper} {o:Oper} {a:Act} {Q:Exit→Act→World→Prop}
end
def Rg (w:World)(b r n:Nat)(M T:List NU)(cnt:Nat):Prop:=∃ (D:DataW Unit) (left:Lit→Bool),w.ranges Tryz.prog 119 (plainElem Tryz.prog 3) b r n D left cnt∧Is D M∧
 (∀ p∈M,left (kl p.1)=false↔p∈T)∧(∀ k,left k=true→Maps.has D k=true)∧(∀ p∈T,p∈M)∧T.Pairwise (fun p q=>p.1≠q.1)
theorem Rg.mp {w:World}{b r n:Nat}{M T:List NU}{cnt:Nat}(h:Rg w b r n M T cnt):Mp w b n M:=by obtain ⟨D,left,h1,h2,_⟩:=h;exact ⟨D,h1.owns,h2⟩
theorem Rg.left {w:World}{b r n:Nat}{M T:List NU}{cnt:Nat}(h:Rg w b r n M T cnt):w.rangeLeft b r=cnt:=by obtain ⟨D,left,h1,h2,_⟩:=h;exact h1.left_eq
theorem Rg.kept {w w':World}{b r n:Nat}{M T:List NU}{cnt:Nat}{row:Option Nat}(h:Rg w b r n M T cnt)(hg:w.grownBy w' row)(h1:some b≠row)(h2:some r≠row):Rg w' b r n M T cnt:=by
 obtain ⟨D,left,r1,r2⟩:=h
 exact ⟨D,left,r1.kept hg h1 h2,r2⟩
theorem perm_of_apart:∀ {A B:List NU},A.Pairwise (fun p q=>p.1≠q.1)→B.Pairwise (fun p q=>p.1≠q.1)→(∀ p,p∈A↔p∈B)→A.Perm B
 | [],B,_,_,h=>by
  have:B=[]:=List.eq_nil_iff_forall_not_mem.2 (fun p hp=>by have:=(h p).2 hp;cases this)
  rw [this]
 | p::A,B,ha,hb,h=>by
  obtain ⟨h1,h2⟩:=List.pairwise_cons.1 ha
  have hp:p∈B:=(h p).1 (by simp)
  have hBp:=List.perm_cons_erase hp
  have hb':(p::B.erase p).Pairwise (fun p q=>p.1≠q.1):=(hBp.pairwise_iff (fun {_ _} hne=>Ne.symm hne)).1 hb
  obtain ⟨g1,g2⟩:=List.pairwise_cons.1 hb'
  refine List.Perm.trans (List.Perm.cons p (perm_of_apart h2 g2 (fun q=>?_))) hBp.symm
  constructor
  ·intro hq
   have hqB:q∈p::B.erase p:=hBp.mem_iff.1 ((h q).1 (List.mem_cons_of_mem _ hq))
   rcases List.mem_cons.1 hqB with e | hqB
   ·exact absurd (by rw [e]) (h1 q hq)
   ·exact hqB
  ·intro hq
   have hqA:q∈p::A:=(h q).2 (hBp.mem_iff.2 (List.mem_cons_of_mem _ hq))
   rcases List.mem_cons.1 hqA with e | hqA
   ·exact absurd (by rw [e]) (g1 q hq)
   ·exact hqA
section
variable {w:World} {ops:Array Oper} {rest:List Oper} {o:Oper} {a:Act} {Q:Exit→Act→World→Prop}
theorem mp_range (hg:o.guard=none)(m:Operand)(hop:o.op=Op.range 158 m)(b n:Nat)(M:List NU)(hm:a.eval m=.map (some b))(h:Mp w b n M)
  (hK:∀ w',Rg w' b w.heap.size n M [] M.length→w.grownBy w' none→w'.heap.size=w.heap.size+1→wpList Tryz.prog ops Q rest (a.put o.dst (.pointer (some ⟨w.heap.size,0,none⟩))) w'):wpList Tryz.prog ops Q (o::rest) a w:=by
 obtain ⟨D,ho,hi⟩:=h
 refine wpList_range_own w hg m _ hop _ _ lawNm Tryz.underlying158 _ b n D hm ho (fun w' h1 h2 h3=>hK w' ⟨D,Maps.has D,?_,hi,fun p hp=>?_,fun k hk=>hk,by simp,by simp⟩ h2 h3)
 ·rw [← hi.size];exact h1
 ·rw [(hi.has p hp).1];simp
theorem rg_next (hg:o.guard=none)(it:Operand)(hop:o.op=Op.next it false)(b r n:Nat)(M T:List NU)(cnt:Nat)(hit:a.eval it=.pointer (some ⟨r,0,none⟩))(h:Rg w b r n M T cnt)
  (hDone:M.Perm T→wpList Tryz.prog ops Q rest (a.put o.dst (.tuple #[.bool false])) w)
  (hMore:∀ (x:Nm) (u:Int) (w':World) (cnt':Nat),(x,u)∈M→Rg w' b r n M (T++[(x,u)]) cnt'→cnt'<cnt→w.grownBy w' (some r)→w'.heap.size=w.heap.size→
   (Instr.entry (.pointer (some ⟨r,0,none⟩))).run Tryz.prog w'=.ok (.tuple #[.agg #[.int .i64 x.tenant,.string x.key],.int .i64 u]) w'→wpList Tryz.prog ops Q rest (a.put o.dst (.tuple #[.bool true,.agg #[.int .i64 x.tenant,.string x.key],.int .i64 u])) w'):
  wpList Tryz.prog ops Q (o::rest) a w:=by
 obtain ⟨D,left,hrg,hi,hl,hlh,hsub,hap⟩:=h
 refine wpList_next_ranges w hg it hop _ lawNm _ Nm.val (Value.int .i64) (fun key k hk=>key_inv hk) (fun v y hv=>by obtain ⟨c,rfl,_⟩:=plainElem_int_inv Tryz.underlying3 hv;exact ⟨c,rfl⟩) b r n D left cnt hit hrg (fun h0 hl0=>hDone ?_) (fun x c k y w' cnt' hkey hlk hv hat hrg' hlt hgr hsz hen=>?_)
 ·exact perm_of_apart hi.apart hap (fun p=>⟨fun hp=>(hl p hp).1 (hl0 _),hsub p⟩)
 ·obtain ⟨p,hp,e⟩:=hi.only k (hlh k hlk)
  subst e
  have ex:x=p.1:=val_inj (lawNm.inj hkey (key_ok (hi.names p hp)))
  subst ex
  obtain ⟨c',e1,e2,_⟩:=plainElem_int_inv Tryz.underlying3 hv
  have hc:c=p.2:=by
   have h1:=hat (.lit (.int .i64 0))
   rw [(hi.has p hp).2,e2] at h1
   have:c=c':=by simpa using e1
   rw [this]
   simpa using h1.symm
  subst hc
  have hnT:p∉T:=fun hT=>by rw [(hl p hp).2 hT] at hlk;cases hlk
  refine hMore p.1 p.2 w' cnt' hp ⟨D,_,hrg',hi,fun q hq=>?_,fun k hk=>?_,fun q hq=>?_,?_⟩ hlt hgr hsz hen
  ·by_cases e:q=p
   ·subst e
    simp [WideAt.sameKey_self (kl_key q.1)]
   ·have hne:kl q.1≠kl p.1:=fun e'=>by
     have e2:=kl_inj (hi.names q hq) (hi.names p hp) e'
     have e3:q.2=p.2:=hi.one (x:=q.1) (u:=q.2) (v:=p.2) hq (by rw [e2];exact hp)
     exact e (Prod.ext e2 e3)
    rw [Maps.sameKey_ne hne]
    simp only [Bool.not_false,Bool.and_true]
    rw [hl q hq]
    simp [e]
  ·simp only [Bool.and_eq_true] at hk
   exact hlh k hk.1
  ·rcases List.mem_append.1 hq with h | h
   ·exact hsub q h
   ·have:q=p:=by simpa using h
    rw [this];exact hp
  ·refine List.pairwise_append.2 ⟨hap,by simp,fun q hq q' hq' e=>?_⟩
   have:q'=p:=by simpa using hq'
   subst this
   have e3:q.2=q'.2:=hi.one (x:=q.1) (u:=q.2) (v:=q'.2) (hsub q hq) (by rw [e];exact hp)
   exact hnT (by rw [← Prod.ext e e3];exact hq)
end
end Go.Proofs.YtcdpiefflnaghaaGreatDoor.Wh
namespace Go.Proofs.YtcdpiefflnaghaaGreatDoor.Wh
open Go.Proofs.YtcdpiefflnaghaaGreatDoor.Me
open Go.RowKit
theorem i64_xor_nat (a b:Nat)(ha:a<9223372036854775808)(hb:b<9223372036854775808):bits .xor .i64 (a:Int) (b:Int)=((a ^^^ b:Nat):Int):=by
 have hx:a ^^^ b<2 ^ 63:=Nat.xor_lt_two_pow (by omega) (by omega)
 show IntKind.i64.wrap ((BitVec.ofInt 64 (a:Int) ^^^ BitVec.ofInt 64 (b:Int)).toNat:Int)=_
 rw [BitVec.toNat_xor,ofInt_u64 a (by omega),ofInt_u64 b (by omega),IntKind.wrap_i64]
 omega
theorem i64_and63 (a:Nat)(ha:a<9223372036854775808):bits .and .i64 (a:Int) 63=((a % 64:Nat):Int):=by
 have hx:a &&& 63=a % 64:=Nat.and_two_pow_sub_one_eq_mod a 6
 show IntKind.i64.wrap ((BitVec.ofInt 64 (a:Int) &&& BitVec.ofInt 64 ((63:Nat):Int)).toNat:Int)=_
 rw [BitVec.toNat_and,ofInt_u64 a (by omega),ofInt_u64 63 (by omega),hx,IntKind.wrap_i64]
 omega
theorem and_digit (b k:Nat)(hb:b<9223372036854775808):bits .and .i64 ((b:Int) / 2 ^ (k * 6)) 63=((b / 64 ^ k % 64:Nat):Int):=by
 have e:(b:Int) / 2 ^ (k * 6)=((b / 64 ^ k:Nat):Int):=by
  rw [pow64,Nat.mul_comm k 6]
  simp
 rw [e]
 exact i64_and63 _ (Nat.lt_of_le_of_lt (Nat.div_le_self _ _) hb)
set_option maxHeartbeats 400000 in
theorem place_any (a b:Nat)(w:World)(ha:a≤1099511627776)(hb:b≤1099511627776):
  Calls Tryz.prog 144 #[.int .i64 a,.int .i64 b] w fun e w'=>e=.returned (.tuple #[.int .i64 (ring a b),.int .i64 (slot a b)])∧Below w.heap.size w w':=by
 have hx:=i64_xor_nat a b (by omega) (by omega)
 go_enter Tryz.func144,Tryz.ntmps144
 go_wp2
 obtain ⟨x,hxd⟩:∃ x,x=a ^^^ b:=⟨_,rfl⟩
 rw [← hxd] at hx
 have hx1:x<1099511627776 * 2:=by rw [hxd];exact Nat.xor_lt_two_pow (n:=41) (by omega) (by omega)
 go_loopw [4,6] (fun r d wr=>∃ (k e:Nat),r=.int .i64 k∧d=.int .i64 ((e / 64:Nat):Int)∧ringD x=k+ringD e∧e≤x∧k≤64∧wr=w) (fun _ d _=>(intOf d).toNat)
 case atStart=>
  exact ⟨0,x,rfl,by rw [hxd];simp,by simp,by omega,by omega,rfl⟩
 case round=>
  obtain ⟨k,e,rfl,rfl,hr,hex,hk,rfl⟩:=hrel
  have hrl:ringD x≤6:=by have:=ring_le ha hb;unfold ring at this;rw [hxd];exact this
  by_cases hz:e / 64=0
  ·rw [hz]
   have HR:ring a b=k:=by unfold ring;rw [← hxd,hr,ringD_zero hz];rfl
   have hk6:k≤6:=by omega
   have hs:slot a b=b / 64 ^ k % 64:=by unfold slot;rw [HR]
   have HH:Hid (ring a b=k∧slot a b=b / 64 ^ k % 64):=⟨HR,hs⟩
   clear HR hs
   go_wp2
   go_region
   go_wp2
   go_ret2
   obtain ⟨h1,h2⟩:=HH.out
   rw [h1,h2,and_digit b k (by omega)]
   exact ⟨rfl,(Below.refl _ _).drew⟩
  ·have hz2:¬ ((e / 64:Nat):Int)=0:=by omega
   have hs:=ringD_succ hz
   go_wp2
   go_roundw
   case rel=>exact ⟨k+1,e / 64,by go_num,by simp,by omega,by omega,by omega,trivial⟩
   case measure=>simp [intOf];omega
end Go.Proofs.YtcdpiefflnaghaaGreatDoor.Wh
namespace Go.Proofs.YtcdpiefflnaghaaGreatDoor.Wh
open Go.Proofs.YtcdpiefflnaghaaGreatDoor.Me
open Go.RowKit
structure Kept (F:Nat→Prop)(w w':World):Prop where
 os:w'.os=w.os
 tape:w'.tape=w.tape
 output:w'.output=w.output
 size:w.heap.size≤w'.heap.size
 block:∀ k,k<w.heap.size→¬ F k→w'.heap[k]? = w.heap[k]?
theorem Kept.refl (F:Nat→Prop)(w:World):Kept F w w:=⟨rfl,rfl,rfl,Nat.le_refl _,fun _ _ _=>rfl⟩
theorem Kept.trans {F F':Nat→Prop}{a b c:World}(h:Kept F a b)(k:Kept F' b c)(hF:∀ k,F' k→F k∨a.heap.size≤k):Kept F a c:=
 ⟨k.os.trans h.os,k.tape.trans h.tape,k.output.trans h.output,Nat.le_trans h.size k.size,fun i hi hn=>(k.block i (Nat.lt_of_lt_of_le hi h.size) (fun hf=>by
  rcases hF i hf with g | g
  ·exact hn g
  ·omega)).trans (h.block i hi hn)⟩
theorem Kept.below {F:Nat→Prop}{w w':World}(h:Below w.heap.size w w'):Kept F w w':=⟨h.os,h.tape,h.output,h.size,fun k hk _=>h.block k hk⟩
theorem Kept.grown {F:Nat→Prop}{w w':World}{row:Option Nat}(h:w.grownBy w' row)(hr:∀ k,row=some k→F k∨w.heap.size≤k):Kept F w w':=
 ⟨h.os,h.tape,h.output,h.size,fun k hk hn=>h.block k hk (fun e=>by
  rcases hr k e.symm with g | g
  ·exact hn g
  ·omega)⟩
theorem Mp.same {w w':World}{b n:Nat}{M:List NU}(h:Mp w b n M)(e:w'.heap[b]? = w.heap[b]?):Mp w' b n M:=by
 obtain ⟨D,⟨es,clock,hb,r⟩,hi⟩:=h
 exact ⟨D,⟨es,clock,e.trans hb,r⟩,hi⟩
def ix (a:Nat)(u:Int):Nat:=64 * ring a u.toNat+slot a u.toNat
theorem ix_lt {a:Nat}{u:Int}(ha:a≤1099511627776)(hu:u≤1099511627776):ix a u<448:=by
 have h1:=ring_le ha (show u.toNat≤1099511627776 by omega)
 have h2:=slot_lt a u.toNat
 unfold ix
 omega
def part (a:Nat)(i:Nat)(G:List NU):List NU:=G.filter (fun q=>decide (ix a q.2=i))
theorem mem_part {a i:Nat}{G:List NU}{q:NU}:q∈part a i G↔q∈G∧ix a q.2=i:=by simp [part]
theorem part_none {a i:Nat}{G:List NU}(h:∀ q∈G,ix a q.2≠i):part a i G=[]:=List.filter_eq_nil_iff.2 (fun q hq=>by simpa using h q hq)
structure Wh (w:World)(p now:Nat)(U G:List NU)(b0:Nat)(mb:Nat→Option Nat)(N:Nat):Prop where
 self:w.cell? ⟨p,0,none⟩=some (.pointer (some ⟨p,0,none⟩))
 nowc:w.cell? ⟨p,1,none⟩=some (.int .i64 now)
 untilc:w.cell? ⟨p,2,none⟩=some (.map (some b0))
 ringc:∀ i,i<448→w.cell? ⟨p,3+i,none⟩=some (.map (mb i))
 free:∀ i,w.frozen? ⟨p,i,none⟩=false
 small:now≤1099511627776
 um:Mp w b0 N U
 gm:∀ i b,i<448→mb i=some b→Mp w b N (part now i G)
 gn:∀ i,i<448→mb i=none→∀ q∈G,ix now q.2≠i
 gb:∀ q∈G,q.1.ok∧(now:Int)<q.2∧q.2≤1099511627776
 apart:G.Pairwise (fun p q=>p.1≠q.1)
 inj:∀ i j b,i<448→j<448→mb i=some b→mb j=some b→i=j
 b0p:b0≠p
 b0m:∀ i,i<448→mb i≠some b0
 mp:∀ i,i<448→mb i≠some p
def Foot (p b0:Nat)(mb:Nat→Option Nat)(k:Nat):Prop:=k=p∨k=b0∨∃ i,i<448∧mb i=some k
theorem Wh.lt {w:World}{p now:Nat}{U G:List NU}{b0:Nat}{mb:Nat→Option Nat}{N:Nat}(h:Wh w p now U G b0 mb N){k:Nat}(hk:Foot p b0 mb k):k<w.heap.size:=by
 rcases hk with rfl | rfl | ⟨i,hi,e⟩
 ·exact World.block_lt_of_cell? w _ h.self
 ·exact h.um.lt
 ·exact (h.gm i k hi e).lt
theorem Wh.same {w w':World}{p now:Nat}{U G:List NU}{b0:Nat}{mb:Nat→Option Nat}{N:Nat}(h:Wh w p now U G b0 mb N)(e:∀ k,Foot p b0 mb k→w'.heap[k]? = w.heap[k]?):Wh w' p now U G b0 mb N:=by
 have ep:=e p (.inl rfl)
 exact ⟨(World.cell?_of_block ep).trans h.self,(World.cell?_of_block ep).trans h.nowc,(World.cell?_of_block ep).trans h.untilc,fun i hi=>(World.cell?_of_block ep).trans (h.ringc i hi),fun i=>(World.frozen?_of_block ep).trans (h.free i),h.small,
  h.um.same (e b0 (.inr (.inl rfl))),fun i b hi hb=>(h.gm i b hi hb).same (e b (.inr (.inr ⟨i,hi,hb⟩))),h.gn,h.gb,h.apart,h.inj,h.b0p,h.b0m,h.mp⟩
theorem Wh.kept {F:Nat→Prop}{w w':World}{p now:Nat}{U G:List NU}{b0:Nat}{mb:Nat→Option Nat}{N:Nat}(h:Wh w p now U G b0 mb N)(k:Kept F w w')(hF:∀ k,Foot p b0 mb k→¬ F k):Wh w' p now U G b0 mb N:=
 h.same (fun j hj=>k.block j (h.lt hj) (hF j hj))
theorem Wh.below {w w':World}{p now:Nat}{U G:List NU}{b0:Nat}{mb:Nat→Option Nat}{N:Nat}(h:Wh w p now U G b0 mb N)(k:Below w.heap.size w w'):Wh w' p now U G b0 mb N:=
 h.same (fun j hj=>k.block j (h.lt hj))
theorem Wh.mono {w:World}{p now:Nat}{U G:List NU}{b0:Nat}{mb:Nat→Option Nat}{N N':Nat}(h:Wh w p now U G b0 mb N)(hn:N≤N'):Wh w p now U G b0 mb N':=
 ⟨h.self,h.nowc,h.untilc,h.ringc,h.free,h.small,h.um.mono hn,fun i b hi hb=>(h.gm i b hi hb).mono hn,h.gn,h.gb,h.apart,h.inj,h.b0p,h.b0m,h.mp⟩
theorem Wh.perm {w:World}{p now:Nat}{U G U' G':List NU}{b0:Nat}{mb:Nat→Option Nat}{N:Nat}(h:Wh w p now U G b0 mb N)(hU:U.Perm U')(hG:G.Perm G'):Wh w p now U' G' b0 mb N:=
 ⟨h.self,h.nowc,h.untilc,h.ringc,h.free,h.small,h.um.perm hU,fun i b hi hb=>(h.gm i b hi hb).perm (hG.filter _),fun i hi e q hq=>h.gn i hi e q (hG.mem_iff.2 hq),fun q hq=>h.gb q (hG.mem_iff.2 hq),(hG.pairwise_iff (fun {_ _} hne=>Ne.symm hne)).1 h.apart,h.inj,h.b0p,h.b0m,h.mp⟩
def upd (mb:Nat→Option Nat)(i:Nat)(x:Option Nat):Nat→Option Nat:=fun j=>if j=i then x else mb j
theorem upd_same (mb:Nat→Option Nat)(i:Nat)(x:Option Nat):upd mb i x i=x:=by simp [upd]
theorem upd_other {mb:Nat→Option Nat}{i j:Nat}{x:Option Nat}(h:j≠i):upd mb i x j=mb j:=by simp [upd,h]
theorem Mp.setCell {w:World}{b n:Nat}{M:List NU}(h:Mp w b n M){a:Addr}(hb:b≠a.block)(v:Value):Mp (w.setCell a v) b n M:=h.same (Below.heap_setCell w a v b hb)
theorem Wh.ring {w:World}{p now:Nat}{U G:List NU}{b0:Nat}{mb:Nat→Option Nat}{N:Nat}(h:Wh w p now U G b0 mb N){i:Nat}(hi:i<448)(x:Option Nat)(G':List NU)(hsub:∀ q∈G',q∈G)(hap:G'.Pairwise (fun p q=>p.1≠q.1))
  (hpart:∀ j,j≠i→part now j G'=part now j G) (hn:x=none→∀ q∈G',ix now q.2≠i) (hs:∀ b,x=some b→Mp w b N (part now i G')∧b≠p∧b≠b0∧∀ j,j<448→j≠i→mb j≠some b):
  Wh (w.setCell ⟨p,3+i,none⟩ (.map x)) p now U G' b0 (upd mb i x) N:=by
 have hc:=h.ringc i hi
 refine ⟨?_,?_,?_,fun j hj=>?_,fun j=>?_,h.small,h.um.setCell h.b0p _,fun j b hj e=>?_,fun j hj e q hq=>?_,fun q hq=>h.gb q (hsub q hq),hap,fun j k b hj hk e1 e2=>?_,h.b0p,fun j hj e=>?_,fun j hj e=>?_⟩
 ·rw [World.cell?_setCell_other _ _ _ _ (by first | (simp;done) | (simp;omega))];exact h.self
 ·rw [World.cell?_setCell_other _ _ _ _ (by first | (simp;done) | (simp;omega))];exact h.nowc
 ·rw [World.cell?_setCell_other _ _ _ _ (by first | (simp;done) | (simp;omega))];exact h.untilc
 ·by_cases e:j=i
  ·subst e
   rw [upd_same]
   exact World.cell?_setCell_same _ _ _ hc
  ·rw [upd_other e,World.cell?_setCell_other _ _ _ _ (by first | (simp;done) | (simp;omega))]
   exact h.ringc j hj
 ·rw [World.frozen?_setCell];exact h.free j
 ·by_cases e':j=i
  ·subst e'
   rw [upd_same] at e
   obtain ⟨h1,h2,_⟩:=hs b e
   exact h1.setCell h2 _
  ·rw [upd_other e'] at e
   rw [hpart j e']
   exact (h.gm j b hj e).setCell (fun eb=>h.mp j hj (by rw [e,eb])) _
 ·by_cases e':j=i
  ·subst e'
   rw [upd_same] at e
   exact hn e q hq
  ·rw [upd_other e'] at e
   exact h.gn j hj e q (hsub q hq)
 ·by_cases ej:j=i
  ·by_cases ek:k=i
   ·rw [ej,ek]
   ·subst ej
    rw [upd_same] at e1
    rw [upd_other ek] at e2
    exact absurd e2 ((hs b e1).2.2.2 k hk ek)
  ·by_cases ek:k=i
   ·subst ek
    rw [upd_same] at e2
    rw [upd_other ej] at e1
    exact absurd e1 ((hs b e2).2.2.2 j hj ej)
   ·rw [upd_other ej] at e1
    rw [upd_other ek] at e2
    exact h.inj j k b hj hk e1 e2
 ·by_cases e':j=i
  ·subst e'
   rw [upd_same] at e
   exact (hs b0 e).2.2.1 rfl
  ·rw [upd_other e'] at e
   exact h.b0m j hj e
 ·by_cases e':j=i
  ·subst e'
   rw [upd_same] at e
   exact (hs p e).2.1 rfl
  ·rw [upd_other e'] at e
   exact h.mp j hj e
theorem Wh.turned {w w':World}{p now:Nat}{U G:List NU}{b0:Nat}{mb:Nat→Option Nat}{N:Nat}(h:Wh w p now U G b0 mb N){i b:Nat}(hi:i<448)(hb:mb i=some b)(ht:w.mapTurned w' b)(N':Nat)(hN:N≤N')(G':List NU)(hap:G'.Pairwise (fun p q=>p.1≠q.1))
  (hgb:∀ q∈G',q.1.ok∧(now:Int)<q.2∧q.2≤1099511627776) (hpart:∀ j,j≠i→part now j G'=part now j G) (hm:Mp w' b N' (part now i G')):Wh w' p now U G' b0 mb N':=by
 have hg:=ht.grown
 have ne:∀ k,k<w.heap.size→k≠b→w'.heap[k]? = w.heap[k]?:=fun k hk e=>hg.block k hk (fun e'=>e (by simpa using e'))
 have hpb:p≠b:=fun e=>h.mp i hi (by rw [hb,e])
 have ep:=ne p (h.lt (.inl rfl)) hpb
 refine ⟨(World.cell?_of_block ep).trans h.self,(World.cell?_of_block ep).trans h.nowc,(World.cell?_of_block ep).trans h.untilc,fun j hj=>(World.cell?_of_block ep).trans (h.ringc j hj),fun j=>(World.frozen?_of_block ep).trans (h.free j),h.small,
  (h.um.same (ne b0 h.um.lt (fun e=>h.b0m i hi (by rw [hb,e])))).mono hN,fun j c hj hc=>?_,fun j hj e q hq hx=>?_,hgb,hap,h.inj,h.b0p,h.b0m,h.mp⟩
 ·by_cases e:j=i
  ·subst e
   have:c=b:=by rw [hb] at hc;simpa using hc.symm
   rw [this];exact hm
  ·rw [hpart j e]
   exact ((h.gm j c hj hc).same (ne c (h.gm j c hj hc).lt (fun e'=>e (h.inj j i c hj hi hc (by rw [hb,e']))))).mono hN
 ·have hji:j≠i:=fun e'=>by rw [e',hb] at e;cases e
  have h1:q∈part now j G:=by rw [← hpart j hji];exact mem_part.2 ⟨hq,hx⟩
  exact h.gn j hj e q (mem_part.1 h1).1 hx
theorem Wh.turned0 {w w':World}{p now:Nat}{U G:List NU}{b0:Nat}{mb:Nat→Option Nat}{N:Nat}(h:Wh w p now U G b0 mb N)(ht:w.mapTurned w' b0)(N':Nat)(hN:N≤N')(U':List NU)(hm:Mp w' b0 N' U'):Wh w' p now U' G b0 mb N':=by
 have hg:=ht.grown
 have ne:∀ k,k<w.heap.size→k≠b0→w'.heap[k]? = w.heap[k]?:=fun k hk e=>hg.block k hk (fun e'=>e (by simpa using e'))
 have ep:=ne p (h.lt (.inl rfl)) h.b0p.symm
 exact ⟨(World.cell?_of_block ep).trans h.self,(World.cell?_of_block ep).trans h.nowc,(World.cell?_of_block ep).trans h.untilc,fun j hj=>(World.cell?_of_block ep).trans (h.ringc j hj),fun j=>(World.frozen?_of_block ep).trans (h.free j),h.small,
  hm,fun j c hj hc=>((h.gm j c hj hc).same (ne c (h.gm j c hj hc).lt (fun e'=>h.b0m j hj (by rw [hc,e'])))).mono hN,h.gn,h.gb,h.apart,h.inj,h.b0p,h.b0m,h.mp⟩
theorem Wh.moved {w:World}{p now:Nat}{U G:List NU}{b0:Nat}{mb:Nat→Option Nat}{N:Nat}(h:Wh w p now U G b0 mb N)(now':Nat)(hn:now'≤1099511627776)(hs:∀ q∈G,(now':Int)<q.2∧ix now' q.2=ix now q.2):
  Wh (w.setCell ⟨p,1,none⟩ (.int .i64 now')) p now' U G b0 mb N:=by
 have hpart:∀ i,part now' i G=part now i G:=fun i=>List.filter_congr (fun q hq=>by rw [(hs q hq).2])
 refine ⟨?_,World.cell?_setCell_same _ _ _ h.nowc,?_,fun j hj=>?_,fun j=>?_,hn,h.um.setCell h.b0p _,fun j b hj e=>?_,fun j hj e q hq=>?_,fun q hq=>⟨(h.gb q hq).1,(hs q hq).1,(h.gb q hq).2.2⟩,h.apart,h.inj,h.b0p,h.b0m,h.mp⟩
 ·rw [World.cell?_setCell_other _ _ _ _ (by simp)];exact h.self
 ·rw [World.cell?_setCell_other _ _ _ _ (by simp)];exact h.untilc
 ·rw [World.cell?_setCell_other _ _ _ _ (by first | (simp;done) | (simp;omega))];exact h.ringc j hj
 ·rw [World.frozen?_setCell];exact h.free j
 ·rw [hpart]
  exact (h.gm j b hj e).setCell (fun eb=>h.mp j hj (by rw [e,eb])) _
 ·rw [(hs q hq).2];exact h.gn j hj e q hq
end Go.Proofs.YtcdpiefflnaghaaGreatDoor.Wh
namespace Go.Proofs.YtcdpiefflnaghaaGreatDoor.Wh
open Go.Proofs.YtcdpiefflnaghaaGreatDoor.Me
open Go.RowKit
theorem Hid.m {p:Prop}(h:p):Hid p:=h
theorem alb (W:World)(o:Obj):Below W.heap.size W (W.alloc o):=(Below.refl _ _).alloc (Nat.le_refl _) o
theorem nil_map (W:World):(binOp .eql 158 (.map none) (.map none)).run Tryz.prog W=.ok (.bool true) W:=by kernel_rfl
theorem some_map (b:Nat)(W:World):(binOp .eql 158 (.map (some b)) (.map none)).run Tryz.prog W=.ok (.bool false) W:=by kernel_rfl
theorem opt_map (x:Option Nat)(W:World):(binOp .eql 158 (.map x) (.map none)).run Tryz.prog W=.ok (.bool x.isNone) W:=by
 cases x
 ·exact nil_map W
 ·exact some_map _ W
theorem mp_put_run {w:World}{b n:Nat}{M:List NU}(h:Mp w b n M)(hn:n<maxLen)(y:Nm)(hy:y.ok)(u:Int)(hu:(Lit.int .i64 u).wf=true):
  ∃ w',(Instr.mapUpdate 158 (.map (some b)) (.agg #[.int .i64 y.tenant,.string y.key]) (.int .i64 u)).run Tryz.prog w=.ok () w'∧Mp w' b (n+1) ((y,u)::strike y M)∧w.mapTurned w' b:=by
 obtain ⟨D,ho,hi⟩:=h
 obtain ⟨w',hr,h1,h2⟩:=ho.store lawNm Tryz.underlying158 hn (key_ok hy) (plainElem_int Tryz.underlying3 hu)
 exact ⟨w',hr,⟨_,h1,hi.put (ho.tidy lawNm) hy hu⟩,h2⟩
theorem mp_del_run {w:World}{b n:Nat}{M:List NU}(h:Mp w b n M)(y:Nm)(hy:y.ok)(ty:TypeId):
  ∃ w',(Builtin.delete_ #[158,119] ty #[.map (some b),.agg #[.int .i64 y.tenant,.string y.key]]).run Tryz.prog w=.ok (.tuple #[]) w'∧Mp w' b n (strike y M)∧w.mapTurned w' b:=by
 obtain ⟨D,ho,hi⟩:=h
 obtain ⟨w',hr,h1,h2⟩:=ho.drop lawNm Tryz.underlying158 (key_ok hy) ty
 exact ⟨w',hr,⟨_,h1,hi.del (ho.tidy lawNm) hy⟩,h2⟩
theorem Wh.drew {w:World}{p now:Nat}{U G:List NU}{b0:Nat}{mb:Nat→Option Nat}{N:Nat}(h:Wh w p now U G b0 mb N):Wh w.drew p now U G b0 mb N:=h.same (fun _ _=>rfl)
theorem Kept.turned {F:Nat→Prop}{w w':World}{b:Nat}(h:w.mapTurned w' b)(hb:F b):Kept F w w':=Kept.grown h.grown (fun k hk=>by cases hk;exact .inl hb)
theorem Kept.drew (F:Nat→Prop)(w:World):Kept F w w.drew:=Kept.below ((Below.refl _ _).drew)
theorem Mp.ne_cell {w:World}{b n:Nat}{M:List NU}(h:Mp w b n M){x o:Nat}{v:Value}(hc:w.cell? ⟨x,o,none⟩=some v):x≠b:=fun e=>by
 obtain ⟨D,⟨es,clock,hb,r⟩,hi⟩:=h
 subst e
 simp [World.cell?,hb] at hc
theorem turned_cell {w w':World}{b n:Nat}{M:List NU}(h:Mp w b n M)(ht:w.mapTurned w' b){x o:Nat}{v:Value}(hc:w.cell? ⟨x,o,none⟩=some v):w'.cell? ⟨x,o,none⟩=some v:=by
 have hne:=h.ne_cell hc
 rw [← hc]
 exact World.cell?_of_block (ht.grown.block x (World.block_lt_of_cell? w _ hc) (by simpa using hne))
theorem part_cons_same {a i:Nat}{q:NU}{G:List NU}(h:ix a q.2=i):part a i (q::G)=q::part a i G:=by simp [part,h]
theorem part_cons_other {a i:Nat}{q:NU}{G:List NU}(h:ix a q.2≠i):part a i (q::G)=part a i G:=by simp [part,h]
set_option maxHeartbeats 1000000 in
theorem stand_any (w:World)(p now:Nat)(U G:List NU)(b0:Nat)(mb:Nat→Option Nat)(N:Nat)(h:Wh w p now U G b0 mb N)(y:Nm)(hy:y.ok)(u:Nat)(hu:now<u)(hu2:u≤1099511627776)(hnew:∀ q∈G,q.1≠y)(hN:N<1000000000):
  Calls Tryz.prog 194 #[.pointer (some ⟨p,0,none⟩),.agg #[.int .i64 y.tenant,.string y.key],.int .i64 u] w fun e w'=>e=.returned (.tuple #[])∧
   ∃ mb',Wh w' p now ((y,(u:Int))::strike y U) ((y,(u:Int))::G) b0 mb' (N+2)∧Kept (Foot p b0 mb) w w'∧∀ k,Foot p b0 mb' k→Foot p b0 mb k∨w.heap.size≤k:=by
 have hpl:=place_any now u (w.alloc (.cells #[.int .i64 y.tenant,.string y.key] 119)) h.small hu2
 have hr:=ring_le h.small hu2
 have hs:=slot_lt now u
 have hnc:=h.nowc
 have hlt:=h.lt (.inl rfl)
 go_enter Tryz.func194,Tryz.ntmps194
 go_upto_region 2 with (go_at_call 144;refine hpl.mono ?_;rintro e w1 ⟨rfl,hb1⟩)
 have hb01:Below w.heap.size w w1:=below_alloc hb1
 have hx0:w1.cell? ⟨w.heap.size,0,none⟩=some (.int .i64 y.tenant):=(hb1.cell (p:=⟨w.heap.size,0,none⟩) (by simp)).trans (by simp)
 have hx1:w1.cell? ⟨w.heap.size,1,none⟩=some (.string y.key):=(hb1.cell (p:=⟨w.heap.size,1,none⟩) (by simp)).trans (by simp)
 have h1:=h.below hb01
 have HIX:Hid (ix now u=64 * ring now u+slot now u):=rfl
 have HI:Hid (ix now u<448):=ix_lt h.small (by omega)
 have HS1:w.heap.size<w1.heap.size:=by have:=hb1.size;simp at this;omega
 obtain ⟨r,hrr⟩:∃ r,r=ring now u:=⟨_,rfl⟩
 obtain ⟨s,hss⟩:∃ s,s=slot now u:=⟨_,rfl⟩
 rw [← hrr] at hr HIX ⊢
 rw [← hss] at hs HIX ⊢
 have hrc:=h1.ringc (ix now u) HI.out
 rw [HIX.out] at hrc
 clear hrr hss hpl hnc hb1
 obtain ⟨x,hx⟩:∃ x,x=mb (64 * r+s):=⟨_,rfl⟩
 rw [← hx,show 3+(64 * r+s)=3+r * 64+s by omega] at hrc
 have HX:Hid (x=mb (64 * r+s)):=hx
 have hfr:=h1.free (3+r * 64+s)
 clear hx
 have hrl:(r:Int)<7:=by omega
 have hsl:(s:Int)<64:=by omega
 have hsw:w1.heap.size≠p:=by omega
 have hpl:p<w1.heap.size:=by omega
 have hom:=opt_map x
 go_upto_if 25 with fail
 go_cut [] from 17 (fun wx=>∃ mb' b,Wh wx p now U G b0 mb' N∧mb' (ix now u)=some b∧Kept (Foot p b0 mb) w wx∧(∀ k,Foot p b0 mb' k→Foot p b0 mb k∨w.heap.size≤k)∧wx.cell? ⟨w.heap.size,0,none⟩=some (.int .i64 y.tenant)∧wx.cell? ⟨w.heap.size,1,none⟩=some (.string y.key)∧w.heap.size<wx.heap.size)
 case first=>
  cases x with
  | none=>
   have HW:Hid (Wh ((w1.alloc (.map #[] 0)).setCell ⟨p,3+r * 64+s,none⟩ (.map (some w1.heap.size))) p now U G b0 (upd mb (ix now u) (some w1.heap.size)) N):=by
    have h2:=(h1.below (alb w1 (.map #[] 0))).ring HI.out (some w1.heap.size) G (fun q hq=>hq) h1.apart (fun _ _=>rfl) (fun e=>by cases e) (fun b hb=>by
     cases hb
     refine ⟨?_,hsw,fun e=>?_,fun j hj _ e=>?_⟩
     ·rw [part_none (h1.gn _ HI.out (by rw [HIX.out];exact HX.out.symm))]
      exact (Mp.made w1).mono (Nat.zero_le _)
     ·have:=h1.um.lt
      omega
     ·have:=(h1.gm j _ hj e).lt
      omega)
    rw [show 3+ix now u=3+r * 64+s by have:=HIX.out;omega] at h2
    exact h2
   clear h1 h
   have hmm:=@run_makeMap Tryz.prog
   go_wp2
   go_meet
   case rel=>
    rw [← World.setCell_alloc_past (w:=w1) (.map #[] 0) p (3+r * 64+s) (.map (some w1.heap.size)) hpl]
    have hk1:Kept (Foot p b0 mb) w (w1.alloc (.map #[] 0)):=Kept.below (hb01.alloc hb01.size _)
    have hk2:=hk1.trans (Kept.grown (F:=Foot p b0 mb) (grown_set (w1.alloc (.map #[] 0)) p (3+r * 64+s) (.map (some w1.heap.size))) (fun k hk=>by cases hk;exact .inl (.inl rfl))) (fun k hk=>.inl hk)
    refine ⟨_,w1.heap.size,HW.out,upd_same _ _ _,hk2,fun k hk=>?_,?_,?_,?_⟩
    ·rcases hk with hk | hk | ⟨i,hi,hk⟩
     ·exact .inl (.inl hk)
     ·exact .inl (.inr (.inl hk))
     ·by_cases e:i=ix now u
      ·subst e
       rw [upd_same] at hk
       cases hk
       exact .inr (by omega)
      ·rw [upd_other e] at hk
       exact .inl (.inr (.inr ⟨i,hi,hk⟩))
    ·rw [World.cell?_setCell_other _ _ _ _ (by intro e;simp at e;try omega),World.cell?_alloc_lt _ _ _ (by exact HS1)]
     exact hx0
    ·rw [World.cell?_setCell_other _ _ _ _ (by intro e;simp at e;try omega),World.cell?_alloc_lt _ _ _ (by exact HS1)]
     exact hx1
    ·simp;omega
  | some b=>
   clear h
   go_wp2
   go_meet
   case rel=>exact ⟨mb,b,h1,by rw [HIX.out];exact HX.out.symm,Kept.below hb01,fun k hk=>.inl hk,hx0,hx1,HS1⟩
 case rest=>
 obtain ⟨mb2,b,hW,hmb,hk0,hft,hx0',hx1',hsz⟩:=hcut
 obtain ⟨w2,hw2⟩:∃ w2,w2=wc:=⟨_,rfl⟩
 rw [← hw2] at hW hk0 hx0' hx1' hsz ⊢
 clear hw2 h h1 hx0 hx1 hrc hfr HX hb01 HS1 hsw hpl
 have hWd:=hW.drew
 have hrc:=hWd.ringc (ix now u) HI.out
 rw [hmb,HIX.out,show 3+(64 * r+s)=3+r * 64+s by omega] at hrc
 have hwfu:(Lit.int .i64 (u:Int)).wf=true:=WalkArith.wf_i64 (by omega)
 obtain ⟨w3,hrun3,hm3,ht3⟩:=mp_put_run (hWd.gm (ix now u) b HI.out hmb) (by unfold maxLen;omega) y hy u hwfu
 have hW3:Wh w3 p now U ((y,(u:Int))::G) b0 mb2 (N+1):=by
  refine hWd.turned HI.out hmb ht3 (N+1) (by omega) _ (List.pairwise_cons.2 ⟨fun q hq=>(hnew q hq).symm,hWd.apart⟩) (fun q hq=>?_) (fun j hj=>part_cons_other (fun e=>hj e.symm)) ?_
  ·rcases List.mem_cons.1 hq with rfl | hq
   ·exact ⟨hy,by simp;omega,by simp;omega⟩
   ·exact hWd.gb q hq
  ·rw [part_cons_same (q:=(y,(u:Int))) (i:=ix now u) rfl]
   rw [strike_none (fun q hq=>hnew q (mem_part.1 hq).1)] at hm3
   exact hm3
 have hk3:Kept (Foot p b0 mb2) w2 w3:=(Kept.drew _ _).trans (Kept.turned (F:=Foot p b0 mb2) ht3 (.inr (.inr ⟨_,HI.out,hmb⟩))) (fun k hk=>.inl hk)
 have hmp:=hWd.gm (ix now u) b HI.out hmb
 have hy0:=turned_cell hmp ht3 (x:=w.heap.size) (o:=0) hx0'
 have hy1:=turned_cell hmp ht3 (x:=w.heap.size) (o:=1) hx1'
 have hu3:w3.cell? ⟨p,2,none⟩=some (.map (some b0)):=hW3.untilc
 obtain ⟨w4,hrun4,hm4,ht4⟩:=mp_put_run hW3.drew.um (by unfold maxLen;omega) y hy u hwfu
 have hW4:Wh w4 p now ((y,(u:Int))::strike y U) ((y,(u:Int))::G) b0 mb2 (N+2):=hW3.drew.turned0 ht4 (N+2) (by omega) _ hm4
 have hk4:Kept (Foot p b0 mb2) w2 w4:=hk3.trans ((Kept.drew (Foot p b0 mb2) _).trans (Kept.turned (F:=Foot p b0 mb2) ht4 (.inr (.inl rfl))) (fun k hk=>.inl hk)) (fun k hk=>.inl hk)
 have HW4:=Hid.m hW4
 have HK4:=Hid.m (hk0.trans hk4 hft)
 have HFT:=Hid.m hft
 clear hW4 hk4 hk3 hk0 hft hm3 hm4 ht3 ht4 hW3 hW hWd hmp hnew
 go_upto_region 4 with fail
 go_region
 go_upto_region 5 with fail
 go_region
 go_end0
 exact ⟨rfl,mb2,HW4.out,HK4.out,HFT.out⟩
end Go.Proofs.YtcdpiefflnaghaaGreatDoor.Wh
namespace Go.Proofs.YtcdpiefflnaghaaGreatDoor.Wh
open Go.Proofs.YtcdpiefflnaghaaGreatDoor.Me
open Go.RowKit
theorem mp_look_run {w:World}{b n:Nat}{M:List NU}(h:Mp w b n M)(y:Nm)(hy:y.ok):
  (∃ u,(y,u)∈M∧(Instr.lookup 158 (.map (some b)) (.agg #[.int .i64 y.tenant,.string y.key]) true).run Tryz.prog w=.ok (.tuple #[.int .i64 u,.bool true]) w)∨
  ((∀ q∈M,q.1≠y)∧(Instr.lookup 158 (.map (some b)) (.agg #[.int .i64 y.tenant,.string y.key]) true).run Tryz.prog w=.ok (.tuple #[.int .i64 0,.bool false]) w):=by
 obtain ⟨D,ho,hi⟩:=h
 obtain ⟨v,ps,hrun,hv⟩:=ho.look_ok lawNm Tryz.underlying158 (zeroNm w) (plainElem_int Tryz.underlying3 (q:=.i64) (a:=0) (by decide)) (key_ok hy)
 obtain ⟨c,rfl,hc,hwc⟩:=plainElem_int_inv Tryz.underlying3 hv
 have hc1:=congrArg Prod.fst hc
 simp only [] at hc1
 rcases hi.has_iff hy with ⟨u,h1,h2,h3⟩ | ⟨h1,h2⟩
 ·rw [h3] at hc1
  have:c=u:=by simpa using hc1.symm
  rw [h2,this] at hrun
  exact .inl ⟨u,h1,hrun⟩
 ·rw [Maps.atKey_of_not_has h2] at hc1
  have:c=0:=by simpa using hc1.symm
  rw [h2,this] at hrun
  exact .inr ⟨h1,hrun⟩
theorem mp_len_run {w:World}{b n:Nat}{M:List NU}(h:Mp w b n M)(ty:TypeId):(Builtin.len_ #[158] ty #[.map (some b)]).run Tryz.prog w=.ok (.int .i64 (M.length:Nat)) w:=by
 obtain ⟨D,ho,hi⟩:=h
 rw [← hi.size]
 exact ho.len Tryz.underlying158 ty
theorem part_strike (a i:Nat)(y:Nm)(G:List NU):part a i (strike y G)=strike y (part a i G):=by
 unfold part strike
 rw [List.filter_filter,List.filter_filter]
 congr 1
 funext q
 exact Bool.and_comm _ _
theorem nu_one {L:List NU}(h:L.Pairwise (fun p q=>p.1≠q.1)){x:Nm}{u v:Int}(h1:(x,u)∈L)(h2:(x,v)∈L):u=v:=by
 induction L with
 | nil=>cases h1
 | cons p L ih=>
  obtain ⟨g1,g2⟩:=List.pairwise_cons.1 h
  rcases List.mem_cons.1 h1 with e1 | h1
  ·rcases List.mem_cons.1 h2 with e2 | h2
   ·rw [← e1] at e2;simpa using e2.symm
   ·exact absurd (by rw [← e1]) (g1 _ h2)
  ·rcases List.mem_cons.1 h2 with e2 | h2
   ·exact absurd (by rw [← e2]) (g1 _ h1)
   ·exact ih g2 h1 h2
set_option maxHeartbeats 1000000 in
theorem leave_any (w:World)(p now:Nat)(L:List NU)(b0:Nat)(mb:Nat→Option Nat)(N:Nat)(h:Wh w p now L L b0 mb N)(y:Nm)(hy:y.ok):
  Calls Tryz.prog 219 #[.pointer (some ⟨p,0,none⟩),.agg #[.int .i64 y.tenant,.string y.key]] w fun e w'=>e=.returned (.tuple #[])∧
   ∃ mb',Wh w' p now (strike y L) (strike y L) b0 mb' N∧Kept (Foot p b0 mb) w w'∧∀ k,Foot p b0 mb' k→Foot p b0 mb k∨w.heap.size≤k:=by
 have hlt:=h.lt (.inl rfl)
 have hbA:Below w.heap.size w (w.alloc (.cells #[.int .i64 y.tenant,.string y.key] 119)):=alb w _
 have hA:=(h.below hbA).drew
 have hnz:w.heap.size≠p:=by omega
 obtain ⟨wA,hwA⟩:∃ wA,wA=w.alloc (.cells #[.int .i64 y.tenant,.string y.key] 119):=⟨_,rfl⟩
 rw [← hwA] at hA hbA
 have hx0:wA.cell? ⟨w.heap.size,0,none⟩=some (.int .i64 y.tenant):=by rw [hwA];simp
 have hx1:wA.cell? ⟨w.heap.size,1,none⟩=some (.string y.key):=by rw [hwA];simp
 have hsA:wA.heap.size=w.heap.size+1:=by rw [hwA];simp
 have huc:wA.cell? ⟨p,2,none⟩=some (.map (some b0)):=hA.untilc
 rcases mp_look_run hA.um y hy with ⟨u,hmem,hlk⟩ | ⟨hno,hlk⟩
 ·obtain ⟨hyo,hu1,hu2⟩:=hA.gb _ hmem
  simp only [] at hu1 hu2
  obtain ⟨v,rfl⟩:∃ v:Nat,u=(v:Int):=⟨u.toNat,by omega⟩
  have hr:=ring_le h.small (show v≤1099511627776 by omega)
  have hs:=slot_lt now v
  have HIX:Hid (ix now v=64 * ring now v+slot now v):=rfl
  have HI:Hid (ix now v<448):=ix_lt h.small (by omega)
  have hpl:=place_any now v wA.drew h.small (by omega)
  have hnc:wA.cell? ⟨p,1,none⟩=some (.int .i64 now):=hA.nowc
  obtain ⟨r,hrr⟩:∃ r,r=ring now v:=⟨_,rfl⟩
  obtain ⟨s,hss⟩:∃ s,s=slot now v:=⟨_,rfl⟩
  rw [← hrr] at hr HIX hpl
  rw [← hss] at hs HIX hpl
  clear hrr hss
  have hrl:(r:Int)<7:=by omega
  have hsl:(s:Int)<64:=by omega
  cases hmb:mb (ix now v) with
  | none=>exact absurd rfl (hA.gn _ HI.out hmb _ hmem)
  | some b=>
   have HMB:=Hid.m hmb
   have HA:=Hid.m hA
   have HMEM:=Hid.m hmem
   have HBA:=Hid.m hbA
   clear hmb hA hmem hbA hyo h
   go_enter Tryz.func219,Tryz.ntmps219
   go_upto_region 1 with fail
   rw [← hwA]
   clear hwA
   go_region
   go_upto_region 4 with (go_at_call 144;refine hpl.mono ?_;rintro e w1 ⟨rfl,hb1⟩)
   have h1:=(HA.out.below hb1).drew
   have hb01:Below w.heap.size w w1:=HBA.out.trans ((((Below.refl wA.heap.size wA).drew).trans hb1).mono (by omega))
   have hz0:w1.cell? ⟨w.heap.size,0,none⟩=some (.int .i64 y.tenant):=(hb1.cell (p:=⟨w.heap.size,0,none⟩) (by simp;omega)).trans hx0
   have hz1:w1.cell? ⟨w.heap.size,1,none⟩=some (.string y.key):=(hb1.cell (p:=⟨w.heap.size,1,none⟩) (by simp;omega)).trans hx1
   have hrc:=h1.ringc (ix now v) HI.out
   rw [HMB.out,HIX.out,show 3+(64 * r+s)=3+r * 64+s by omega] at hrc
   have hrc1:w1.cell? ⟨p,3+r * 64+s,none⟩=some (.map (some b)):=hrc
   obtain ⟨w2,hrun2,hm2,ht2⟩:=mp_del_run (h1.gm (ix now v) b HI.out HMB.out) y hy 0
   clear hpl hlk hrc
   have hmp:=h1.gm (ix now v) b HI.out HMB.out
   have hW2:Wh w2 p now L (strike y L) b0 mb N:=by
    refine h1.turned HI.out HMB.out ht2 N (Nat.le_refl _) _ (h1.apart.filter _) (fun q hq=>h1.gb q (mem_strike.1 hq).1) (fun j hj=>?_) ?_
    ·rw [part_strike]
     refine strike_none (fun q hq e=>hj ?_)
     obtain ⟨g1,g2⟩:=mem_part.1 hq
     have e3:q.2=(v:Int):=nu_one h1.apart (x:=y) (by rw [← e];exact g1) HMEM.out
     rw [← g2,e3]
    ·rw [part_strike];exact hm2
   have hk2:Kept (Foot p b0 mb) w w2:=(Kept.below hb01).trans ((Kept.drew (Foot p b0 mb) w1).trans (Kept.turned (F:=Foot p b0 mb) ht2 (.inr (.inr ⟨_,HI.out,HMB.out⟩))) (fun k hk=>.inl hk)) (fun k hk=>.inl hk)
   have hz02:=turned_cell hmp ht2 (x:=w.heap.size) (o:=0) hz0
   have hz12:=turned_cell hmp ht2 (x:=w.heap.size) (o:=1) hz1
   have hrc2:=hW2.ringc (ix now v) HI.out
   rw [HMB.out,HIX.out,show 3+(64 * r+s)=3+r * 64+s by omega] at hrc2
   have hfr2:=hW2.free (3+r * 64+s)
   have hln:=mp_len_run (hW2.gm (ix now v) b HI.out HMB.out) 3
   have hlt2:=hW2.lt (.inl rfl)
   have HW2:=Hid.m hW2
   have HK2:=Hid.m hk2
   clear hmp hm2 ht2 hW2 hk2 h1 hb01 hb1
   go_region
   obtain ⟨n,hn⟩:∃ n,n=(part now (ix now v) (strike y L)).length:=⟨_,rfl⟩
   rw [← hn] at hln
   have HN:=Hid.m hn
   clear hn
   go_upto_if 46 with fail
   go_cut [] from 47 (fun wx=>∃ mb',Wh wx p now L (strike y L) b0 mb' N∧Kept (Foot p b0 mb) w wx∧(∀ k,Foot p b0 mb' k→Foot p b0 mb k∨w.heap.size≤k)∧wx.cell? ⟨w.heap.size,0,none⟩=some (.int .i64 y.tenant)∧wx.cell? ⟨w.heap.size,1,none⟩=some (.string y.key))
   case first=>
    by_cases hn0:n=0
    ·have hn1:((n:Int)==0)=true:=by simp [hn0]
     have HW3:Hid (Wh (w2.setCell ⟨p,3+r * 64+s,none⟩ (.map none)) p now L (strike y L) b0 (upd mb (ix now v) none) N):=by
      have h3:=HW2.out.ring HI.out none (strike y L) (fun q hq=>hq) HW2.out.apart (fun _ _=>rfl) (fun _ q hq e=>?_) (fun b hb=>by cases hb)
      ·rw [show 3+ix now v=3+r * 64+s by have:=HIX.out;omega] at h3
       exact h3
      ·have hq':q∈part now (ix now v) (strike y L):=mem_part.2 ⟨hq,e⟩
       have hl:=List.length_pos_of_mem hq'
       rw [← HN.out] at hl
       omega
     go_wp2
     go_meet
     case rel=>
      refine ⟨_,HW3.out,HK2.out.trans (Kept.grown (F:=Foot p b0 mb) (grown_set w2 p (3+r * 64+s) (.map none)) (fun k hk=>by cases hk;exact .inl (.inl rfl))) (fun k hk=>.inl hk),fun k hk=>?_,?_,?_⟩
      ·rcases hk with hk | hk | ⟨i,hi,hk⟩
       ·exact .inl (.inl hk)
       ·exact .inl (.inr (.inl hk))
       ·by_cases e:i=ix now v
        ·subst e
         rw [upd_same] at hk
         cases hk
        ·rw [upd_other e] at hk
         exact .inl (.inr (.inr ⟨i,hi,hk⟩))
      ·rw [World.cell?_setCell_other _ _ _ _ (by intro e;simp at e;try omega)]
       exact hz02
      ·rw [World.cell?_setCell_other _ _ _ _ (by intro e;simp at e;try omega)]
       exact hz12
    ·have hn1:((n:Int)==0)=false:=by simp;omega
     go_wp2
     go_meet
     case rel=>exact ⟨mb,HW2.out,HK2.out,fun k hk=>.inl hk,hz02,hz12⟩
   case rest=>
   obtain ⟨mb3,hW3,hk3,hft3,hq0,hq1⟩:=hcut
   obtain ⟨w3,hw3⟩:∃ w3,w3=wc:=⟨_,rfl⟩
   rw [← hw3] at hW3 hk3 hq0 hq1 ⊢
   clear hw3 hln hrc2 hfr2 hz02 hz12 hlt2
   have hW3d:=hW3.drew
   have hu3:w3.cell? ⟨p,2,none⟩=some (.map (some b0)):=hW3.untilc
   obtain ⟨w4,hrun4,hm4,ht4⟩:=mp_del_run hW3d.um y hy 0
   have HW4:=Hid.m (hW3d.turned0 ht4 N (Nat.le_refl _) _ hm4)
   have HK4:=Hid.m (hk3.trans ((Kept.drew (Foot p b0 mb3) w3).trans (Kept.turned (F:=Foot p b0 mb3) ht4 (.inr (.inl rfl))) (fun k hk=>.inl hk)) hft3)
   have HFT:=Hid.m hft3
   clear hW3 hW3d hm4 ht4 hk3 hft3
   go_upto_region 7 with fail
   go_region
   go_end0
   exact ⟨rfl,mb3,HW4.out,HK4.out,HFT.out⟩
 ·have HA:=Hid.m hA
  have HNO:=Hid.m hno
  have HBA:=Hid.m hbA
  clear hA hno hbA h
  go_enter Tryz.func219,Tryz.ntmps219
  go_upto_region 1 with fail
  rw [← hwA]
  clear hwA
  go_region
  go_wp2
  refine bodyPost_ret (results_none rfl _ _ _) rfl ?_
  rw [strike_none HNO.out]
  exact ⟨rfl,mb,HA.out,(Kept.below HBA.out).trans (Kept.drew (Foot p b0 mb) wA) (fun k hk=>.inl hk),fun k hk=>.inl hk⟩
end Go.Proofs.YtcdpiefflnaghaaGreatDoor.Wh
