/-
  Package engine and what stands beneath it, part 26: contracts of functions, and what they rest on.
-/
import Derived.Maps.AppendAt
import Derived.Laws.AppendOwnNone
import Derived.Laws.CopyRow
import Derived.Laws.CopyOwn
import Derived.Deep.RegionHeld3
import Derived.Deep.Cut
import Derived.Deep.QuietTactic
import Derived.BigQuiet
import Derived.Deep.RegionLaw
import Derived.WalkMore
import Derived.Test.YtcdpiefflnaghaaGreatDoorU00
set_option linter.unusedSimpArgs false
set_option linter.unusedVariables false
set_option maxRecDepth 100000
namespace Go.Proofs.YtcdpiefflnaghaaGreatDoor.Sb
open Go.RowKit
theorem Tryz.infoPage:(Tryz.prog.info? 139).map (fun i=>(i.zero,i.size,i.bytes))=some (some (.agg #[.int .i64 0,.int .i64 0,.int .u16 0]),3,24):=by kernel_rfl
theorem Hid.m {p:Prop}(h:p):Hid p:=h
theorem addr_add (b off j:Nat):(⟨b,off,none⟩:Addr).add j=⟨b,off+j,none⟩:=by unfold Addr.add;split <;> simp_all
theorem below_cells {W w1:World}(hb:Below W.heap.size W w1):∀ b o,b<W.heap.size→w1.cell? ⟨b,o,none⟩=W.cell? ⟨b,o,none⟩:=
 fun b o h=>hb.cell (p:=⟨b,o,none⟩) h
theorem below_frozen {W w1:World}(hb:Below W.heap.size W w1):∀ b o,b<W.heap.size→w1.frozen? ⟨b,o,none⟩=W.frozen? ⟨b,o,none⟩:=
 fun b o h=>hb.frozen (p:=⟨b,o,none⟩) h
theorem below_alloc {w w1:World}{o:Obj}(hb:Below (w.alloc o).heap.size (w.alloc o) w1):Below w.heap.size w w1:=
 ((Below.refl _ _).alloc (Nat.le_refl _) _).trans (hb.mono (by simp))
theorem grownBy_setCell (w:World)(p:Addr)(v:Value):w.grownBy (w.setCell p v) (some p.block):=
 ⟨rfl,rfl,rfl,by simp,fun k hk hne=>Below.heap_setCell w p v k (fun e=>hne (by rw [e]))⟩
theorem grown_set (w:World)(b o:Nat)(v:Value):w.grownBy (w.setCell ⟨b,o,none⟩ v) (some b):=grownBy_setCell w ⟨b,o,none⟩ v
theorem grownBy_setRow (w:World)(g:Nat)(cs:Array Value):w.grownBy (w.setRow g cs) (some g):=
 ⟨rfl,rfl,rfl,by simp,fun i hi hne=>setRow_other w g i cs (fun e=>hne (by rw [e]))⟩
def pcells (p:Pg):List Value:=[.int .i64 p.t,.int .i64 p.c,.int .u16 (p.u:Int)]
def PgLies (w:World)(b o:Nat)(p:Pg):Prop:=
 w.cell? ⟨b,o,none⟩=some (.int .i64 p.t)∧w.cell? ⟨b,o+1,none⟩=some (.int .i64 p.c)∧w.cell? ⟨b,o+2,none⟩=some (.int .u16 (p.u:Int))
def PgAt (w:World)(B:Nat)(ao:Option Addr)(ps:List Pg):Prop:=
 ps=[]∨∃ b off,ao=some ⟨b,off,none⟩∧b<B∧∀ i (hi:i<ps.length),PgLies w b (off+i * 3) ps[i]
theorem PgLies.below {w w':World}{B b o:Nat}{p:Pg}(h:PgLies w b o p)(hb:Below B w w')(hlt:b<B):PgLies w' b o p:=
 ⟨(hb.cell (p:=⟨b,o,none⟩) hlt).trans h.1,(hb.cell (p:=⟨b,o+1,none⟩) hlt).trans h.2.1,(hb.cell (p:=⟨b,o+2,none⟩) hlt).trans h.2.2⟩
theorem PgLies.grown {w w':World}{r:Option Nat}{b o:Nat}{p:Pg}(h:PgLies w b o p)(hg:w.grownBy w' r)(hne:some b≠r):PgLies w' b o p:=
 ⟨hg.cell (a:=⟨b,o,none⟩) h.1 hne,hg.cell (a:=⟨b,o+1,none⟩) h.2.1 hne,hg.cell (a:=⟨b,o+2,none⟩) h.2.2 hne⟩
theorem PgAt.below {w w':World}{B B':Nat}{ao:Option Addr}{ps:List Pg}(h:PgAt w B ao ps)(hb:Below B w w')(hB:B≤B'):PgAt w' B' ao ps:=by
 rcases h with rfl | ⟨b,off,rfl,hlt,hc⟩
 ·exact .inl rfl
 ·exact .inr ⟨b,off,rfl,by omega,fun i hi=>(hc i hi).below hb hlt⟩
structure Sb (w:World)(ao:Option Addr)(ps:List Pg)(cap:Nat):Prop where
 hl:ps.length≤cap
 hc:cap≤9223372036854775807
 hn:ao=none→cap=0
 at_:PgAt w w.heap.size ao ps
theorem Sb.below {w w':World}{ao:Option Addr}{ps:List Pg}{cap:Nat}(h:Sb w ao ps cap)(hb:Below w.heap.size w w'):Sb w' ao ps cap:=
 ⟨h.hl,h.hc,h.hn,h.at_.below hb hb.size⟩
theorem Sb.nil (w:World):Sb w none [] 0:=⟨by simp,by simp,fun _=>rfl,.inl rfl⟩
theorem Sb.lies {w:World}{ao:Option Addr}{ps:List Pg}{cap:Nat}(h:Sb w ao ps cap)(hne:ps≠[]):∃ b off,ao=some ⟨b,off,none⟩∧b<w.heap.size∧∀ i (hi:i<ps.length),PgLies w b (off+i * 3) ps[i]:=by
 rcases h.at_ with e | h
 ·exact absurd e hne
 ·exact h
theorem pcells_one (ps:List Pg):∀ u∈ps.flatMap pcells,u.oneCell'=true:=by
 intro u hu
 obtain ⟨p,_,hp⟩:=List.mem_flatMap.1 hu
 simp [pcells] at hp
 rcases hp with rfl | rfl | rfl <;> rfl
theorem pcells_len (ps:List Pg):(ps.flatMap pcells).length=ps.length * 3:=by
 induction ps with
 | nil=>rfl
 | cons p ps ih=>simp [pcells,ih];omega
theorem pcells_get:∀ (ps:List Pg) (i:Nat) (hi:i<ps.length),
  (ps.flatMap pcells)[i * 3]? = some (.int .i64 ps[i].t)∧(ps.flatMap pcells)[i * 3+1]? = some (.int .i64 ps[i].c)∧(ps.flatMap pcells)[i * 3+2]? = some (.int .u16 (ps[i].u:Int))
 | [],i,hi=>by simp at hi
 | p::ps,0,_=>by simp [pcells]
 | p::ps,i+1,hi=>by
  have ih:=pcells_get ps i (by simpa using hi)
  have e:(p::ps).flatMap pcells=.int .i64 p.t::.int .i64 p.c::.int .u16 (p.u:Int)::ps.flatMap pcells:=by simp [pcells]
  rw [e,show (i+1) * 3=i * 3+3 by omega,show i * 3+3+1=i * 3+1+3 by omega,show i * 3+3+2=i * 3+2+3 by omega]
  simpa using ih
theorem pg_news {w:World}{b off:Nat}{ps:List Pg}(hc:∀ i (hi:i<ps.length),PgLies w b (off+i * 3) ps[i]):
  ∀ j u,(ps.flatMap pcells)[j]? = some u→w.cell? ((⟨b,off,none⟩:Addr).add j)=some u:=by
 intro j u hu
 have hj:j<ps.length * 3:=by rw [← pcells_len];exact (List.getElem?_eq_some_iff.1 hu).1
 have hi:j / 3<ps.length:=by omega
 obtain ⟨g0,g1,g2⟩:=pcells_get ps (j / 3) hi
 obtain ⟨c0,c1,c2⟩:=hc (j / 3) hi
 rw [addr_add]
 have h3:j % 3=0∨j % 3=1∨j % 3=2:=by omega
 rcases h3 with h | h | h
 ·have e:j=j / 3 * 3:=by omega
  rw [← e] at g0 c0
  rw [hu] at g0
  rw [c0,g0]
 ·have e:j=j / 3 * 3+1:=by omega
  rw [← e] at g1
  rw [Nat.add_assoc,← e] at c1
  rw [hu] at g1
  rw [c1,g1]
 ·have e:j=j / 3 * 3+2:=by omega
  rw [← e] at g2
  rw [Nat.add_assoc,← e] at c2
  rw [hu] at g2
  rw [c2,g2]
def FreshS (w:World)(base:Nat)(v:Value)(ps:List Pg):Prop:=
 ∃ ao cap,v=.slice ao ps.length cap∧ps.length≤cap∧cap≤9223372036854775807∧(ao=none→cap=0)∧
  (ps=[]∨∃ g,ao=some ⟨g,0,none⟩∧base≤g∧g<w.heap.size∧(∀ j,w.frozen? ⟨g,j,none⟩=false)∧∀ i (hi:i<ps.length),PgLies w g (i * 3) ps[i])
theorem FreshS.nil (w:World)(base:Nat):FreshS w base (.slice none 0 0) []:=⟨none,0,rfl,by simp,by simp,fun _=>rfl,.inl rfl⟩
theorem FreshS.sb {w:World}{base:Nat}{v:Value}{ps:List Pg}(h:FreshS w base v ps):∃ ao cap,v=.slice ao ps.length cap∧Sb w ao ps cap:=by
 obtain ⟨ao,cap,rfl,h1,h2,h3,h4⟩:=h
 refine ⟨ao,cap,rfl,h1,h2,h3,?_⟩
 rcases h4 with h | ⟨g,rfl,hb,hlt,hf,hc⟩
 ·exact .inl h
 ·exact .inr ⟨g,0,rfl,hlt,fun i hi=>by rw [Nat.zero_add];exact hc i hi⟩
theorem set3_lies {w:World}{g n:Nat}{ps:List Pg}{i:Nat}(hi:i<ps.length)(hc:∀ i (hi:i<ps.length),PgLies w g (i * 3) ps[i])(p:Pg):
  ∀ j (hj:j<(ps.set i p).length),PgLies (((w.setCell ⟨g,i * 3,none⟩ (.int .i64 p.t)).setCell ⟨g,i * 3+1,none⟩ (.int .i64 p.c)).setCell ⟨g,i * 3+2,none⟩ (.int .u16 (p.u:Int))) g (j * 3) (ps.set i p)[j]:=by
 intro j hj
 have hj':j<ps.length:=by simpa using hj
 obtain ⟨c0,c1,c2⟩:=hc j hj'
 by_cases e:j=i
 ·subst e
  have e1:(ps.set j p)[j]=p:=by simp
  rw [e1]
  refine ⟨?_,?_,?_⟩
  ·rw [World.cell?_setCell_other _ _ _ _ (by simp),World.cell?_setCell_other _ _ _ _ (by simp)]
   exact World.cell?_setCell_same _ _ _ c0
  ·rw [World.cell?_setCell_other _ _ _ _ (by simp)]
   refine World.cell?_setCell_same _ _ _ (u:=.int .i64 ps[j].c) ?_
   rw [World.cell?_setCell_other _ _ _ _ (by simp)]
   exact c1
  ·refine World.cell?_setCell_same _ _ _ (u:=.int .u16 (ps[j].u:Int)) ?_
   rw [World.cell?_setCell_other _ _ _ _ (by simp),World.cell?_setCell_other _ _ _ _ (by simp)]
   exact c2
 ·have e1:(ps.set i p)[j]=ps[j]:=by rw [List.getElem_set_ne (fun h=>e h.symm)]
  rw [e1]
  refine ⟨?_,?_,?_⟩
  ·rw [World.cell?_setCell_other _ _ _ _ (by simp <;> omega),World.cell?_setCell_other _ _ _ _ (by simp <;> omega),World.cell?_setCell_other _ _ _ _ (by simp <;> omega)];exact c0
  ·rw [World.cell?_setCell_other _ _ _ _ (by simp <;> omega),World.cell?_setCell_other _ _ _ _ (by simp <;> omega),World.cell?_setCell_other _ _ _ _ (by simp <;> omega)];exact c1
  ·rw [World.cell?_setCell_other _ _ _ _ (by simp <;> omega),World.cell?_setCell_other _ _ _ _ (by simp <;> omega),World.cell?_setCell_other _ _ _ _ (by simp <;> omega)];exact c2
end Go.Proofs.YtcdpiefflnaghaaGreatDoor.Sb
namespace Go.Proofs.YtcdpiefflnaghaaGreatDoor.Sb
open Go.RowKit
theorem ssize_any (c:Int)(w:World)(hc:isC c=true):
  Calls Tryz.prog 130 #[.int .i64 c] w fun e w'=>e=.returned (.int .i64 (16 * 2 ^ c.toNat))∧w'=w:=by
 rcases isC_cases hc with rfl | rfl | rfl | rfl | rfl <;>
 ·go_enter Tryz.func130,Tryz.ntmps130
  go_wp2
  go_ret
  exact ⟨by rfl,rfl⟩
theorem chunksOf_any (c:Int)(w:World)(hc:isC c=true):
  Calls Tryz.prog 126 #[.int .i64 c] w fun e w'=>e=.returned (.int .i64 (chunks c))∧w'=w:=by
 rcases isC_cases hc with rfl | rfl | rfl | rfl | rfl <;>
 ·go_enter Tryz.func126,Tryz.ntmps126
  go_wp2_with (go_at_call 130;refine (ssize_any _ _ hc).mono ?_;rintro e w1 ⟨rfl,rfl⟩)
  go_ret
  exact ⟨by rfl,rfl⟩
theorem isTenant_any (t:Int)(w:World):
  Calls Tryz.prog 124 #[.int .i64 t] w fun e w'=>e=.returned (.bool (isT t))∧w'=w:=by
 by_cases h:0≤t
 ·have h2:decide (0≤t)=true:=by simp [h]
  go_enter Tryz.func124,Tryz.ntmps124
  go_wp2
  go_ret
  exact ⟨by simp [isT,h],rfl⟩
 ·have h2:decide (0≤t)=false:=by simp;omega
  go_enter Tryz.func124,Tryz.ntmps124
  go_wp2
  go_ret
  exact ⟨by simp [isT];omega,rfl⟩
theorem isClass_any (t:Int)(w:World):
  Calls Tryz.prog 125 #[.int .i64 t] w fun e w'=>e=.returned (.bool (isC t))∧w'=w:=by
 by_cases h:0≤t
 ·have h2:decide (0≤t)=true:=by simp [h]
  go_enter Tryz.func125,Tryz.ntmps125
  go_wp2
  go_ret
  exact ⟨by simp [isC,h],rfl⟩
 ·have h2:decide (0≤t)=false:=by simp;omega
  go_enter Tryz.func125,Tryz.ntmps125
  go_wp2
  go_ret
  exact ⟨by simp [isC];omega,rfl⟩
theorem isFree_any (p:Pg)(w:World):
  Calls Tryz.prog 123 #[.agg #[.int .i64 p.t,.int .i64 p.c,.int .u16 (p.u:Int)]] w fun e w'=>e=.returned (.bool (decide (p.u=0)))∧Below w.heap.size w w':=by
 go_enter Tryz.func123,Tryz.ntmps123
 go_wp2
 go_ret
 refine ⟨?_,(Below.refl _ _).alloc (Nat.le_refl _) _⟩
 show Ending.returned (.bool ((p.u:Int)==0))=_
 congr 2
 rw [Bool.eq_iff_iff]
 simp
theorem isOf_any (p:Pg)(t:Int)(w:World):
  Calls Tryz.prog 127 #[.agg #[.int .i64 p.t,.int .i64 p.c,.int .u16 (p.u:Int)],.int .i64 t] w fun e w'=>e=.returned (.bool (isOf t p))∧Below w.heap.size w w':=by
 have hf:=fun W=>isFree_any p W
 by_cases h:p.u=0
 ·rw [decide_eq_true h] at hf
  have HU:=Hid.m h
  clear h
  go_enter Tryz.func127,Tryz.ntmps127
  go_wp2_with (go_at_call 123;refine (hf _).mono ?_;rintro e w1 ⟨rfl,hb1⟩;have hc1:=below_cells hb1)
  go_ret
  exact ⟨by simp [isOf,HU.out],below_alloc hb1⟩
 ·rw [decide_eq_false h] at hf
  go_enter Tryz.func127,Tryz.ntmps127
  go_wp2_with (go_at_call 123;refine (hf _).mono ?_;rintro e w1 ⟨rfl,hb1⟩;have z:w1.cell? ⟨w.heap.size,0,none⟩=some (.int .i64 p.t):=(below_cells hb1 _ _ (by simp)).trans (by simp))
  go_ret
  refine ⟨?_,below_alloc hb1⟩
  show Ending.returned (.bool (p.t==t))=_
  simp [isOf,h]
  rfl
theorem u16_and1 (x:Nat)(h:x<65536):bits BinOp.and IntKind.u16 (x:Int) 1=((x % 2:Nat):Int):=by
 have:=u16_and_nat x 1 h (by decide)
 rw [nat_mask1] at this
 exact this
theorem div_lt16 {u k:Nat}(hu:u<65536):u / 2 ^ k<65536:=Nat.lt_of_le_of_lt (Nat.div_le_self _ _) hu
theorem testBit_div (u k:Nat):u.testBit k=decide (u / 2 ^ k % 2=1):=Nat.testBit_eq_decide_div_mod_eq
theorem isUsed_any (p:Pg)(k:Nat)(w:World)(hk:k<16):
  Calls Tryz.prog 214 #[.agg #[.int .i64 p.t,.int .i64 p.c,.int .u16 (p.u:Int)],.int .i64 k] w fun e w'=>e=.returned (.bool (p.u.testBit k))∧Below w.heap.size w w':=by
 go_enter Tryz.func214,Tryz.ntmps214
 go_wp2
 go_ret
 refine ⟨?_,(Below.refl _ _).alloc (Nat.le_refl _) _⟩
 show Ending.returned (.bool (bits BinOp.and IntKind.u16 ((p.u:Int) / 2 ^ k) 1==1))=_
 have e:((p.u:Int) / 2 ^ k)=((p.u / 2 ^ k:Nat):Int):=by simp
 rw [e,u16_and1 _ (div_lt16 p.hu),testBit_div]
 congr 2
 rw [Bool.eq_iff_iff]
 simp
 omega
theorem bit_any (k:Nat)(w:World)(hk:k<16):
  Calls Tryz.prog 215 #[.int .i64 k] w fun e w'=>e=.returned (.int .u16 ((2 ^ k:Nat):Int))∧w'=w:=by
 go_enter Tryz.func215,Tryz.ntmps215
 go_wp2
 go_ret
 refine ⟨?_,rfl⟩
 show Ending.returned (.int .u16 (IntKind.u16.wrap (2 ^ k)))=_
 have h:=pow_lt16 hk
 rw [IntKind.wrap_u16]
 have e:(2 ^ k:Int)=((2 ^ k:Nat):Int):=by simp
 rw [e]
 obtain ⟨x,hx⟩:∃ x,x=2 ^ k:=⟨_,rfl⟩
 rw [← hx] at h ⊢
 rw [Int.emod_eq_of_lt (by omega) (by omega)]
theorem pg_eql (p q:Pg)(w:World):
  (binOp .eql 139 (.agg #[.int .i64 p.t,.int .i64 p.c,.int .u16 (p.u:Int)]) (.agg #[.int .i64 q.t,.int .i64 q.c,.int .u16 (q.u:Int)])).run Tryz.prog w=.ok (.bool (decide (p=q))) w:=by
 by_cases h:p=q
 ·subst h
  rw [decide_eq_true rfl]
  go_simp
 ·rw [decide_eq_false h]
  go_simp
  intro h1 h2 h3
  exact h (Pg.eq h1 h2 (by omega))
theorem mayBe_zero (p:Pg)(w:World)(h:p.u=0):
  Calls Tryz.prog 74 #[.agg #[.int .i64 p.t,.int .i64 p.c,.int .u16 (p.u:Int)]] w fun e w'=>e=.returned (.bool (pOk p))∧Below w.heap.size w w':=by
 have hf:=fun W=>isFree_any p W
 rw [decide_eq_true h] at hf
 have HU:=Hid.m h
 clear h
 have he:∀ W,(binOp .eql 139 (.agg #[.int .i64 p.t,.int .i64 p.c,.int .u16 (p.u:Int)]) (.agg #[.int .i64 0,.int .i64 0,.int .u16 0])).run Tryz.prog W=.ok (.bool (decide (p=pz))) W:=fun W=>pg_eql p pz W
 go_enter Tryz.func74,Tryz.ntmps74
 go_wp2_with (go_at_call 123;refine (hf _).mono ?_;rintro e w1 ⟨rfl,hb1⟩;have z0:w1.cell? ⟨w.heap.size,0,none⟩=some (.int .i64 p.t):=(below_cells hb1 _ _ (by simp)).trans (by simp);have z1:w1.cell? ⟨w.heap.size,1,none⟩=some (.int .i64 p.c):=(below_cells hb1 _ _ (by simp)).trans (by simp);have z2:w1.cell? ⟨w.heap.size,2,none⟩=some (.int .u16 p.u):=(below_cells hb1 _ _ (by simp)).trans (by simp);have hq:=he w1)
 go_ret
 exact ⟨by simp [pOk,HU.out],below_alloc hb1⟩
theorem shr_zero {u k:Nat}:((u:Int) / 2 ^ k==0)=decide (u<2 ^ k):=by
 have e:((u:Int) / 2 ^ k)=((u / 2 ^ k:Nat):Int):=by simp
 have h2:u / 2 ^ k=0↔u<2 ^ k:=by
  rw [Nat.div_eq_zero_iff]
  have:=Nat.two_pow_pos k
  omega
 rw [e,Bool.eq_iff_iff,beq_iff_eq,decide_eq_true_eq,← h2]
 omega
theorem mayBe_pos (p:Pg)(w:World)(h:p.u≠0):
  Calls Tryz.prog 74 #[.agg #[.int .i64 p.t,.int .i64 p.c,.int .u16 (p.u:Int)]] w fun e w'=>e=.returned (.bool (pOk p))∧Below w.heap.size w w':=by
 have hf:=fun W=>isFree_any p W
 rw [decide_eq_false h] at hf
 have ht:=fun W=>isTenant_any p.t W
 have hc:=fun W=>isClass_any p.c W
 go_enter Tryz.func74,Tryz.ntmps74
 go_upto_region 3 with (go_at_call 123;refine (hf _).mono ?_;rintro e w1 ⟨rfl,hb1⟩;have z0:w1.cell? ⟨w.heap.size,0,none⟩=some (.int .i64 p.t):=(below_cells hb1 _ _ (by simp)).trans (by simp);have z1:w1.cell? ⟨w.heap.size,1,none⟩=some (.int .i64 p.c):=(below_cells hb1 _ _ (by simp)).trans (by simp);have z2:w1.cell? ⟨w.heap.size,2,none⟩=some (.int .u16 p.u):=(below_cells hb1 _ _ (by simp)).trans (by simp))
 have hlt:w.heap.size<w1.heap.size:=by have:=hb1.size;simp at this;omega
 clear hf
 cases eT:isT p.t
 ·rw [eT] at ht
  go_big_quiet ((go_at_call 124;exact Calls.quiet_of_same (ht _)))
  go_wp2
  go_ret
  exact ⟨by simp [pOk,h,eT],below_drewN (below_alloc hb1) _⟩
 ·rw [eT] at ht
  cases eC:isC p.c
  ·rw [eC] at hc
   go_big_quiet (first
    | (go_at_call 124;exact Calls.quiet_of_same (ht _))
    | (go_at_call 125;exact Calls.quiet_of_same (hc _)))
   go_wp2
   go_ret
   exact ⟨by simp [pOk,h,eT,eC],below_drewN (below_alloc hb1) _⟩
  ·rw [eC] at hc
   have hk:=fun W=>chunksOf_any p.c W eC
   have hkl:=chunks_le eC
   obtain ⟨K,hK⟩:∃ K,K=chunks p.c:=⟨_,rfl⟩
   rw [← hK] at hk hkl
   have HK:=Hid.m hK
   clear hK
   go_big_quiet (first
    | (go_at_call 124;exact Calls.quiet_of_same (ht _))
    | (go_at_call 125;exact Calls.quiet_of_same (hc _))
    | (go_at_call 126;exact Calls.quiet_of_same (hk _)))
   go_wp2
   go_ret
   refine ⟨?_,below_drewN (below_alloc hb1) _⟩
   show Ending.returned (.bool ((p.u:Int) / 2 ^ K==0))=_
   rw [shr_zero,HK.out]
   simp [pOk,h,eT,eC]
theorem mayBe_any (p:Pg)(w:World):
  Calls Tryz.prog 74 #[.agg #[.int .i64 p.t,.int .i64 p.c,.int .u16 (p.u:Int)]] w fun e w'=>e=.returned (.bool (pOk p))∧Below w.heap.size w w':=by
 by_cases h:p.u=0
 ·exact mayBe_zero p w h
 ·exact mayBe_pos p w h
end Go.Proofs.YtcdpiefflnaghaaGreatDoor.Sb
namespace Go.Proofs.YtcdpiefflnaghaaGreatDoor.Sb
open Go.RowKit
def clsN (n:Int):Nat:=if n≤16 then 0 else if n≤32 then 1 else if n≤64 then 2 else if n≤128 then 3 else 4
theorem cls_le (n:Int):clsN n≤4:=by
 unfold clsN
 repeat' split
 all_goals omega
theorem cls_lt {n:Int}{k:Nat}(hn:1≤n∧n≤256)(hk:k≤clsN n):(16 * 2 ^ k:Int)<n↔k<clsN n:=by
 have h4:=cls_le n
 have h5:k=0∨k=1∨k=2∨k=3∨k=4:=by omega
 rcases h5 with rfl | rfl | rfl | rfl | rfl <;> (unfold clsN at *;repeat' split) <;> simp_all <;> omega
theorem scls_bad (n:Int)(w:World)(hn:¬ (1≤n∧n≤256)):
  Calls Tryz.prog 79 #[.int .i64 n] w fun e w'=>e=.returned (.tuple #[.int .i64 0,.int .i64 2])∧w'=w:=by
 by_cases h:n<1
 ·have h2:decide (n<1)=true:=by simp [h]
  clear hn
  go_enter Tryz.func79,Tryz.ntmps79
  go_wp2
  go_ret2
  exact ⟨rfl,rfl⟩
 ·have h1:decide (n<1)=false:=by simp;omega
  have h2:decide (256<n)=true:=by simp;omega
  clear hn h
  go_enter Tryz.func79,Tryz.ntmps79
  go_wp2
  go_ret2
  exact ⟨rfl,rfl⟩
theorem scls_good (n:Int)(w:World)(hn:1≤n∧n≤256):
  Calls Tryz.prog 79 #[.int .i64 n] w fun e w'=>e=.returned (.tuple #[.int .i64 (clsN n),.int .i64 0])∧w'=w:=by
 have h1:decide (n<1)=false:=by simp;omega
 have h2:decide (256<n)=false:=by simp;omega
 obtain ⟨C,hC⟩:∃ C,C=clsN n:=⟨_,rfl⟩
 rw [← hC]
 have HL:=Hid.m (fun k (hk:k≤clsN n)=>cls_lt hn hk)
 have HC4:Hid (C≤4):=by rw [hC];exact cls_le n
 rw [← hC] at HL
 clear hC
 go_enter Tryz.func79,Tryz.ntmps79
 go_wp2
 go_loopw [4] (fun i wr=>∃ k:Nat,k≤C∧i=.int .i64 k∧wr=w) (fun i _=>C - (intOf i).toNat)
 case atStart=>exact ⟨0,Nat.zero_le _,rfl,rfl⟩
 case round=>
  obtain ⟨k,hk,rfl,hw⟩:=hrel
  subst hw
  have hs:=fun W=>ssize_any (k:Int) W (by have:=HC4.out;simp [isC];omega)
  rw [Int.toNat_natCast] at hs
  have hlt:=HL.out k hk
  obtain ⟨S,hS⟩:∃ S:Int,S=16 * 2 ^ k:=⟨_,rfl⟩
  rw [← hS] at hs hlt
  clear hS
  have hC4:=HC4.out
  by_cases hkC:k<C
  ·have g:decide (S<n)=true:=by simp;exact hlt.2 hkC
   have HLT:=Hid.m hlt
   clear hlt
   go_wp2_with (go_at_call 130;refine (hs _).mono ?_;rintro e w2 ⟨rfl,hwq⟩;obtain rfl:=hwq)
   go_roundw
   case rel=>exact ⟨k+1,by omega,by go_num,by first | rfl | trivial⟩
   case measure=>simp [intOf];omega
  ·have g:decide (S<n)=false:=by simp;have:=mt hlt.1 hkC;omega
   have e:k=C:=by omega
   subst e
   have HLT:=Hid.m hlt
   clear hlt
   go_wp2_with (go_at_call 130;refine (hs _).mono ?_;rintro e w2 ⟨rfl,hwq⟩;obtain rfl:=hwq)
   go_ret2
   exact ⟨rfl,rfl⟩
end Go.Proofs.YtcdpiefflnaghaaGreatDoor.Sb
namespace Go.Proofs.YtcdpiefflnaghaaGreatDoor.Sb
open Go.RowKit
theorem all_take {ps:List Pg}{f:Pg→Bool}(h:∀ i (hi:i<ps.length),f ps[i]=true):ps.all f=true:=by
 rw [List.all_eq_true]
 intro p hp
 obtain ⟨i,hi,rfl⟩:=List.mem_iff_getElem.1 hp
 exact h i hi
theorem scheck_any (w:World)(ao:Option Addr)(ps:List Pg)(cap:Nat)(h:Sb w ao ps cap):
  Calls Tryz.prog 30 #[.agg #[.slice ao ps.length cap]] w fun e w'=>e=.returned (.int .i64 (sE ps))∧Below w.heap.size w w':=by
 have HS:=Hid.m h
 have hmx:ps.length≤9223372036854775807:=by have:=h.hl;have:=h.hc;omega
 clear h
 by_cases h1:ps.length<1
 ·have e:sE ps=8:=by unfold sE sOk;rw [if_neg];simp;omega
  rw [e]
  have h1':decide ((ps.length:Int)<1)=true:=by simp;omega
  clear e
  go_enter Tryz.func30,Tryz.ntmps30
  go_wp2
  go_ret
  exact ⟨rfl,(Below.refl _ _).alloc (Nat.le_refl _) _⟩
 have h1':decide ((ps.length:Int)<1)=false:=by simp;omega
 by_cases h2:16<ps.length
 ·have e:sE ps=8:=by unfold sE sOk;rw [if_neg];simp;omega
  rw [e]
  have h2':decide ((16:Int)<ps.length)=true:=by simp;omega
  clear e
  go_enter Tryz.func30,Tryz.ntmps30
  go_wp2
  go_ret
  exact ⟨rfl,(Below.refl _ _).alloc (Nat.le_refl _) _⟩
 have h2':decide ((16:Int)<ps.length)=false:=by simp;omega
 have hne:ps≠[]:=by intro e;rw [e] at h1;simp at h1
 obtain ⟨b,off,rfl,hbl,hcs⟩:=HS.out.lies hne
 have HC:=Hid.m hcs
 obtain ⟨E,hE⟩:∃ E,E=sE ps:=⟨_,rfl⟩
 rw [← hE]
 have HE:=Hid.m hE
 clear hcs hE hne
 go_enter Tryz.func30,Tryz.ntmps30
 go_wp2
 go_loopw [18] (fun i wr=>∃ k:Nat,k≤ps.length∧i=.int .i64 k∧Below w.heap.size w wr∧w.heap.size<wr.heap.size∧Hid (∀ i (hi:i<ps.length),i<k→pOk ps[i]=true)) (fun i _=>ps.length - (intOf i).toNat)
 case atStart=>exact ⟨0,Nat.zero_le _,rfl,(Below.refl _ _).alloc (Nat.le_refl _) _,by simp,fun _ _ h=>absurd h (by omega)⟩
 case round=>
  obtain ⟨k,hk,rfl,hbr,hsz,HOK⟩:=hrel
  by_cases hlt:k<ps.length
  ·have hlt2:(k:Int)<(ps.length:Int):=by omega
   obtain ⟨p,hpe⟩:∃ p,p=ps[k]:=⟨_,rfl⟩
   have hL:=HC.out k hlt
   rw [← hpe] at hL
   have HPE:=Hid.m hpe
   obtain ⟨r0,r1,r2⟩:=hL.below hbr hbl
   have hbl2:b<wr.heap.size:=by omega
   clear hpe hL
   cases ep:pOk p
   ·have hE:E=8:=by
     rw [HE.out]
     unfold sE sOk
     rw [if_neg]
     simp
     intro _ _
     exact ⟨p,by rw [HPE.out];exact List.getElem_mem hlt,ep⟩
    subst hE
    have hm:=fun W=>mayBe_any p W
    rw [ep] at hm
    go_wp2_with (go_at_call 74;refine (hm _).mono ?_;rintro e w2 ⟨rfl,hb2⟩)
    go_ret
    exact ⟨rfl,hbr.trans ((below_alloc hb2).mono (by omega))⟩
   ·have hm:=fun W=>mayBe_any p W
    rw [ep] at hm
    go_wp2_with (go_at_call 74;refine (hm _).mono ?_;rintro e w2 ⟨rfl,hb2⟩)
    go_roundw
    case rel=>exact ⟨k+1,by omega,by go_num,hbr.trans ((below_alloc hb2).mono (by omega)),by have:=(below_alloc hb2).size;omega,fun i hi h=>by
     by_cases e:i=k
     ·subst e;rw [← HPE.out];exact ep
     ·exact HOK.out i hi (by omega)⟩
    case measure=>simp [intOf];omega
  ·have hlt2:decide ((k:Int)<(ps.length:Int))=false:=by simp;omega
   have hE:E=0:=by
    rw [HE.out]
    unfold sE sOk
    rw [if_pos]
    rw [all_take (fun i hi=>HOK.out i hi (by omega))]
    simp
    omega
   subst hE
   go_wp2
   go_ret
   exact ⟨rfl,hbr⟩
theorem checkTenant_any (w:World)(ao:Option Addr)(ps:List Pg)(cap:Nat)(h:Sb w ao ps cap)(t:Int):
  Calls Tryz.prog 75 #[.agg #[.slice ao ps.length cap],.int .i64 t] w fun e w'=>e=.returned (.int .i64 (tE ps t))∧Below w.heap.size w w':=by
 have hc:=fun W (hb:Below w.heap.size w W)=>scheck_any W ao ps cap (h.below hb)
 have ht:=fun W=>isTenant_any t W
 have HC:=Hid.m hc
 have ha:∀ o,Below w.heap.size w (w.alloc o):=fun o=>(Below.refl _ _).alloc (Nat.le_refl _) _
 clear hc h
 cases e1:sOk ps
 ·have e2:sE ps=8:=by unfold sE;rw [e1];rfl
  have e3:tE ps t=8:=by unfold tE;rw [e1];rfl
  rw [e3]
  rw [e2] at HC
  clear e1 e2 e3
  go_enter Tryz.func75,Tryz.ntmps75
  go_wp2_with (go_at_call 30;refine (HC.out _ (ha _)).mono ?_;rintro e w2 ⟨rfl,hb2⟩)
  go_ret
  exact ⟨rfl,below_alloc hb2⟩
 ·have e2:sE ps=0:=by unfold sE;rw [e1];rfl
  rw [e2] at HC
  clear e2
  cases eT:isT t
  ·have e3:tE ps t=2:=by unfold tE;rw [e1,eT];rfl
   rw [e3]
   rw [eT] at ht
   clear e3 e1
   go_enter Tryz.func75,Tryz.ntmps75
   go_wp2_with (first
    | (go_at_call 30;refine (HC.out _ (ha _)).mono ?_;rintro e w2 ⟨rfl,hb2⟩)
    | (go_at_call 124;refine (ht _).mono ?_;rintro e w3 ⟨rfl,rfl⟩))
   go_ret
   exact ⟨rfl,below_alloc hb2⟩
  ·have e3:tE ps t=0:=by unfold tE;rw [e1,eT];rfl
   rw [e3]
   rw [eT] at ht
   clear e3 e1
   go_enter Tryz.func75,Tryz.ntmps75
   go_wp2_with (first
    | (go_at_call 30;refine (HC.out _ (ha _)).mono ?_;rintro e w2 ⟨rfl,hb2⟩)
    | (go_at_call 124;refine (ht _).mono ?_;rintro e w3 ⟨rfl,rfl⟩))
   go_ret
   exact ⟨rfl,below_alloc hb2⟩
theorem owned_le (ps:List Pg)(t:Int):owned ps t≤ps.length:=List.countP_le_length
theorem owned_take {ps:List Pg}{k:Nat}(t:Int)(h:k<ps.length):owned (ps.take (k+1)) t=owned (ps.take k) t+(if isOf t ps[k] then 1 else 0):=by
 unfold owned
 rw [List.take_succ_eq_append_getElem h,List.countP_append]
 simp [List.countP_cons]
theorem owned_any (w:World)(ao:Option Addr)(ps:List Pg)(cap:Nat)(h:Sb w ao ps cap)(hl:ps.length≤1000)(t:Int):
  Calls Tryz.prog 76 #[.agg #[.slice ao ps.length cap],.int .i64 t] w fun e w'=>e=.returned (.int .i64 (owned ps t))∧Below w.heap.size w w':=by
 have HS:=Hid.m h
 clear h
 obtain ⟨M,hM⟩:∃ M,M=owned ps t:=⟨_,rfl⟩
 rw [← hM]
 have HM:=Hid.m hM
 clear hM
 go_enter Tryz.func76,Tryz.ntmps76
 go_wp2
 go_loopw [5,11] (fun m i wr=>∃ k m':Nat,k≤ps.length∧i=.int .i64 k∧m=.int .i64 m'∧m'≤k∧Below w.heap.size w wr∧w.heap.size<wr.heap.size∧Hid (m'=owned (ps.take k) t)) (fun _ i _=>ps.length - (intOf i).toNat)
 case atStart=>exact ⟨0,0,Nat.zero_le _,rfl,rfl,Nat.le_refl _,(Below.refl _ _).alloc (Nat.le_refl _) _,by simp,rfl⟩
 case round=>
  obtain ⟨k,m',hk,rfl,rfl,hmk,hbr,hsz,HOK⟩:=hrel
  by_cases hlt:k<ps.length
  ·have hlt2:(k:Int)<(ps.length:Int):=by omega
   have hne:ps≠[]:=by intro e;rw [e] at hlt;simp at hlt
   obtain ⟨b,off,rfl,hbl,hcs⟩:=HS.out.lies hne
   obtain ⟨p,hpe⟩:∃ p,p=ps[k]:=⟨_,rfl⟩
   have hL:=hcs k hlt
   have hO:=owned_take t hlt
   rw [← hpe] at hL hO
   have HO:=Hid.m hO
   obtain ⟨r0,r1,r2⟩:=hL.below hbr hbl
   have hbl2:b<wr.heap.size:=by omega
   clear hpe hL hcs hne hO
   have hm:=fun W=>isOf_any p t W
   cases ep:isOf t p
   ·rw [ep] at hm HO
    go_wp2_with (go_at_call 127;refine (hm _).mono ?_;rintro e w2 ⟨rfl,hb2⟩)
    go_roundw
    case rel=>exact ⟨k+1,m',by omega,by go_num,rfl,by omega,hbr.trans ((below_alloc hb2).mono (by omega)),by have:=(below_alloc hb2).size;omega,by have:=HO.out;simp at this;show _=_;rw [this];exact HOK.out⟩
    case measure=>simp [intOf];omega
   ·rw [ep] at hm HO
    go_wp2_with (go_at_call 127;refine (hm _).mono ?_;rintro e w2 ⟨rfl,hb2⟩)
    go_roundw
    case rel=>exact ⟨k+1,m'+1,by omega,by go_num,by go_num,by omega,hbr.trans ((below_alloc hb2).mono (by omega)),by have:=(below_alloc hb2).size;omega,by have:=HO.out;simp at this;show _=_;rw [this,HOK.out]⟩
    case measure=>simp [intOf];omega
  ·have hlt2:decide ((k:Int)<(ps.length:Int))=false:=by simp;omega
   have hM:M=m':=by
    rw [HM.out,HOK.out,List.take_of_length_le (by omega)]
   subst hM
   go_wp2
   go_ret
   exact ⟨rfl,hbr⟩
def optI (o:Option Nat):Int:=match o with
 | some i=>(i:Int)
 | none=>0
theorem freePage_any (w:World)(ao:Option Addr)(ps:List Pg)(cap:Nat)(h:Sb w ao ps cap)(hl:ps.length≤1000):
  Calls Tryz.prog 232 #[.agg #[.slice ao ps.length cap]] w fun e w'=>e=.returned (.tuple #[.int .i64 (optI (freeP ps)),.bool (freeP ps).isSome])∧Below w.heap.size w w':=by
 have HS:=Hid.m h
 clear h
 obtain ⟨I,hI⟩:∃ I,I=optI (freeP ps):=⟨_,rfl⟩
 obtain ⟨B,hB⟩:∃ B,B=(freeP ps).isSome:=⟨_,rfl⟩
 rw [← hI,← hB]
 have HI:=Hid.m hI
 have HB:=Hid.m hB
 clear hI hB
 go_enter Tryz.func232,Tryz.ntmps232
 go_wp2
 go_loopw [9] (fun i wr=>∃ k:Nat,k≤ps.length∧i=.int .i64 k∧Below w.heap.size w wr∧w.heap.size<wr.heap.size∧Hid (∀ i,i<k→freeI ps i=none)) (fun i _=>ps.length - (intOf i).toNat)
 case atStart=>exact ⟨0,Nat.zero_le _,rfl,(Below.refl _ _).alloc (Nat.le_refl _) _,by simp,fun _ h=>absurd h (by omega)⟩
 case round=>
  obtain ⟨k,hk,rfl,hbr,hsz,HOK⟩:=hrel
  by_cases hlt:k<ps.length
  ·have hlt2:(k:Int)<(ps.length:Int):=by omega
   have hne:ps≠[]:=by intro e;rw [e] at hlt;simp at hlt
   obtain ⟨b,off,rfl,hbl,hcs⟩:=HS.out.lies hne
   obtain ⟨p,hpe⟩:∃ p,p=ps[k]:=⟨_,rfl⟩
   have hL:=hcs k hlt
   rw [← hpe] at hL
   have HPE:=Hid.m hpe
   obtain ⟨r0,r1,r2⟩:=hL.below hbr hbl
   have hbl2:b<wr.heap.size:=by omega
   clear hpe hL hcs hne
   have hm:=fun W=>isFree_any p W
   have hfi:freeI ps k=if p.u=0 then some k else none:=by
    unfold freeI
    rw [List.getElem?_eq_getElem hlt,HPE.out]
   have HFI:=Hid.m hfi
   clear hfi
   by_cases ep:p.u=0
   ·have hP:freeP ps=some k:=firstN_at hlt HOK.out (by rw [HFI.out,if_pos ep])
    have hI:I=(k:Int):=by rw [HI.out,hP];rfl
    have hB:B=true:=by rw [HB.out,hP];rfl
    subst hI hB
    rw [decide_eq_true ep] at hm
    have HEP:=Hid.m ep
    clear ep hP
    go_wp2_with (go_at_call 123;refine (hm _).mono ?_;rintro e w2 ⟨rfl,hb2⟩)
    go_ret2
    exact ⟨rfl,hbr.trans ((below_alloc hb2).mono (by omega))⟩
   ·rw [decide_eq_false ep] at hm
    have HEP:=Hid.m ep
    clear ep
    go_wp2_with (go_at_call 123;refine (hm _).mono ?_;rintro e w2 ⟨rfl,hb2⟩)
    go_roundw
    case rel=>exact ⟨k+1,by omega,by go_num,hbr.trans ((below_alloc hb2).mono (by omega)),by have:=(below_alloc hb2).size;omega,fun i h=>by
     by_cases e:i=k
     ·subst e;rw [HFI.out,if_neg HEP.out]
     ·exact HOK.out i (by omega)⟩
    case measure=>simp [intOf];omega
  ·have hlt2:decide ((k:Int)<(ps.length:Int))=false:=by simp;omega
   have hP:freeP ps=none:=firstN_none (fun i hi=>HOK.out i (by omega))
   have hI:I=0:=by rw [HI.out,hP];rfl
   have hB:B=false:=by rw [HB.out,hP];rfl
   subst hI hB
   clear hP
   go_wp2
   go_ret2
   exact ⟨rfl,hbr⟩
end Go.Proofs.YtcdpiefflnaghaaGreatDoor.Sb
namespace Go.Proofs.YtcdpiefflnaghaaGreatDoor.Sb
open Go.RowKit
def optP (o:Option (Nat × Nat)):Int:=match o with
 | some (i,_)=>(i:Int)
 | none=>0
def optK (o:Option (Nat × Nat)):Int:=match o with
 | some (_,k)=>(k:Int)
 | none=>0
set_option maxHeartbeats 1000000 in
theorem room_any (w:World)(ao:Option Addr)(ps:List Pg)(cap:Nat)(h:Sb w ao ps cap)(hl:ps.length≤1000)(t c:Int)(hc:isC c=true):
  Calls Tryz.prog 231 #[.agg #[.slice ao ps.length cap],.int .i64 t,.int .i64 c] w fun e w'=>e=.returned (.tuple #[.int .i64 (optP (room ps t c)),.int .i64 (optK (room ps t c)),.bool (room ps t c).isSome])∧Below w.heap.size w w':=by
 have HS:=Hid.m h
 clear h
 obtain ⟨I,hI⟩:∃ I,I=optP (room ps t c):=⟨_,rfl⟩
 obtain ⟨K,hK⟩:∃ K,K=optK (room ps t c):=⟨_,rfl⟩
 obtain ⟨B,hB⟩:∃ B,B=(room ps t c).isSome:=⟨_,rfl⟩
 rw [← hI,← hK,← hB]
 have HI:=Hid.m hI
 have HK:=Hid.m hK
 have HB:=Hid.m hB
 have hch:=fun W=>chunksOf_any c W hc
 have hcl:=chunks_le hc
 obtain ⟨N,hN⟩:∃ N,N=chunks c:=⟨_,rfl⟩
 rw [← hN] at hch hcl
 have HN:=Hid.m hN
 clear hI hK hB hN hc
 go_enter Tryz.func231,Tryz.ntmps231
 go_wp2
 go_step3
 go_wp2_with (go_at_call 126;refine (hch _).mono ?_;rintro e w2 ⟨rfl,rfl⟩)
 go_step3
 go_wp2
 go_loopw [6,7,8,18] (fun o1 o2 o3 i wr=>∃ k:Nat,k≤ps.length∧i=.int .i64 k∧o1=.int .i64 0∧o2=.int .i64 0∧o3=.bool false∧Below w.heap.size w wr∧w.heap.size<wr.heap.size∧Hid (∀ i,i<k→roomI ps t c i=none)) (fun _ _ _ i _=>ps.length - (intOf i).toNat)
 case atStart=>exact ⟨0,Nat.zero_le _,rfl,rfl,rfl,rfl,(Below.refl _ _).alloc (Nat.le_refl _) _,by simp,fun _ h=>absurd h (by omega)⟩
 case round=>
  obtain ⟨k,hk,rfl,rfl,rfl,rfl,hbr,hsz,HOK⟩:=hrel
  by_cases hlt:k<ps.length
  ·have hlt2:(k:Int)<(ps.length:Int):=by omega
   have hne:ps≠[]:=by intro e;rw [e] at hlt;simp at hlt
   obtain ⟨b,off,rfl,hbl,hcs⟩:=HS.out.lies hne
   obtain ⟨p,hpe⟩:∃ p,p=ps[k]:=⟨_,rfl⟩
   have hL:=hcs k hlt
   rw [← hpe] at hL
   have HPE:=Hid.m hpe
   obtain ⟨r0,r1,r2⟩:=hL.below hbr hbl
   have hbl2:b<wr.heap.size:=by omega
   clear hpe hL hcs hne
   have hm:=fun W=>isOf_any p t W
   have hfi:roomI ps t c k=(roomP t c p).map (fun j=>(k,j)):=by
    unfold roomI
    rw [List.getElem?_eq_getElem hlt,HPE.out]
   have HFI:=Hid.m hfi
   clear hfi
   cases ep:isOf t p
   ·have hrn:roomP t c p=none:=by
     unfold roomP
     rw [if_neg]
     rintro ⟨h1,h2,h3⟩
     simp [isOf,h1,h2] at ep
    have HRN:=Hid.m hrn
    clear hrn
    rw [ep] at hm
    go_wp2_with (go_at_call 127;refine (hm _).mono ?_;rintro e w2 ⟨rfl,hb2⟩)
    go_roundw
    case rel=>exact ⟨k+1,by omega,by go_num,rfl,rfl,rfl,hbr.trans ((below_alloc hb2).mono (by omega)),by have:=(below_alloc hb2).size;omega,fun i h=>by
     by_cases e:i=k
     ·subst e;rw [HFI.out,HRN.out];rfl
     ·exact HOK.out i (by omega)⟩
    case measure=>simp [intOf];omega
   ·rw [ep] at hm
    by_cases ec:p.c=c
    ·have hrn:roomP t c p=lowFree p.u N:=by
      unfold roomP
      rw [if_pos,HN.out]
      simp [isOf] at ep
      exact ⟨ep.1,ep.2,ec⟩
     have HRN:=Hid.m hrn
     have hec:(p.c != c)=false:=by simp [ec]
     have HEC:=Hid.m ec
     clear hrn ec
     go_wp2_with (go_at_call 127;refine (hm _).mono ?_;rintro e w2 ⟨rfl,hb2⟩;have y0:w2.cell? ⟨wr.heap.size,0,none⟩=some (.int .i64 p.t):=(below_cells hb2 _ _ (by simp)).trans (by simp);have y1:w2.cell? ⟨wr.heap.size,1,none⟩=some (.int .i64 p.c):=(below_cells hb2 _ _ (by simp)).trans (by simp);have y2:w2.cell? ⟨wr.heap.size,2,none⟩=some (.int .u16 p.u):=(below_cells hb2 _ _ (by simp)).trans (by simp);have hx:wr.heap.size<w2.heap.size:=by (have:=hb2.size;simp at this;omega))
     have HB2:=Hid.m hb2
     clear hb2
     go_loopw [6,7,8,34] (fun o1 o2 o3 i wq=>∃ q:Nat,q≤N∧i=.int .i64 q∧o1=.int .i64 0∧o2=.int .i64 0∧o3=.bool false∧Below w2.heap.size w2 wq∧Hid (∀ i,i<q→freeBit p.u i=none)) (fun _ _ _ i _=>N - (intOf i).toNat)
     case atStart=>exact ⟨0,Nat.zero_le _,rfl,rfl,rfl,rfl,Below.refl _ _,fun _ h=>absurd h (by omega)⟩
     case round=>
      obtain ⟨q,hq,rfl,rfl,rfl,rfl,hbq,HOQ⟩:=hrel
      have x0:=(below_cells hbq _ 0 hx).trans y0
      have x1:=(below_cells hbq _ 1 hx).trans y1
      have x2:=(below_cells hbq _ 2 hx).trans y2
      have hsq:=hbq.size
      have hx2:=Nat.lt_of_lt_of_le hx hsq
      have HQ:Hid (Below w.heap.size w wr):=hbr.trans (((below_alloc HB2.out).mono (by omega)).trans (hbq.mono (by omega)))
      by_cases hqN:q<N
      ·have hqN2:(q:Int)<(N:Int):=by omega
       have hu:=fun W=>isUsed_any p q W (by omega)
       cases eu:p.u.testBit q
       ·have hL1:lowFree p.u N=some q:=firstN_at hqN HOQ.out (by unfold freeBit;rw [eu];rfl)
        have hP:room ps t c=some (k,q):=firstN_at hlt HOK.out (by rw [HFI.out,HRN.out,hL1];rfl)
        have hI:I=(k:Int):=by rw [HI.out,hP];rfl
        have hK:K=(q:Int):=by rw [HK.out,hP];rfl
        have hB:B=true:=by rw [HB.out,hP];rfl
        subst hI hK hB
        rw [eu] at hu
        clear hP hL1 eu
        go_wp2_with (go_at_call 214;refine (hu _).mono ?_;rintro e w3 ⟨rfl,hb3⟩)
        try rw [Exit.noGoto_ret]
        go_ret3
        exact ⟨rfl,HQ.out.trans (hb3.mono (by omega))⟩
       ·rw [eu] at hu
        have HEU:=Hid.m eu
        clear eu
        go_wp2_with (go_at_call 214;refine (hu _).mono ?_;rintro e w3 ⟨rfl,hb3⟩)
        go_roundw
        case rel=>exact ⟨q+1,by omega,by go_num,rfl,rfl,rfl,hbq.trans (hb3.mono (by omega)),fun i h=>by
         by_cases e:i=q
         ·subst e;unfold freeBit;rw [HEU.out];rfl
         ·exact HOQ.out i (by omega)⟩
        case measure=>simp [intOf];omega
      ·have hqN2:decide ((q:Int)<(N:Int))=false:=by simp;omega
       have HL1:Hid (lowFree p.u N=none):=firstN_none (fun i hi=>HOQ.out i (by omega))
       go_wp2
       go_roundw
       case rel=>exact ⟨k+1,by omega,by go_num,rfl,rfl,rfl,HQ.out,by omega,fun i h=>by
        by_cases e:i=k
        ·subst e;rw [HFI.out,HRN.out,HL1.out];rfl
        ·exact HOK.out i (by omega)⟩
       case measure=>simp [intOf];omega
    ·have hrn:roomP t c p=none:=by
      unfold roomP
      rw [if_neg]
      rintro ⟨h1,h2,h3⟩
      exact ec h3
     have HRN:=Hid.m hrn
     have hec:(p.c != c)=true:=by simp [ec]
     clear hrn ec
     go_wp2_with (go_at_call 127;refine (hm _).mono ?_;rintro e w2 ⟨rfl,hb2⟩;have y0:w2.cell? ⟨wr.heap.size,0,none⟩=some (.int .i64 p.t):=(below_cells hb2 _ _ (by simp)).trans (by simp);have y1:w2.cell? ⟨wr.heap.size,1,none⟩=some (.int .i64 p.c):=(below_cells hb2 _ _ (by simp)).trans (by simp);have y2:w2.cell? ⟨wr.heap.size,2,none⟩=some (.int .u16 p.u):=(below_cells hb2 _ _ (by simp)).trans (by simp);have hx:wr.heap.size<w2.heap.size:=by (have:=hb2.size;simp at this;omega))
     go_roundw
     case rel=>exact ⟨k+1,by omega,by go_num,rfl,rfl,rfl,hbr.trans ((below_alloc hb2).mono (by omega)),by have:=(below_alloc hb2).size;omega,fun i h=>by
      by_cases e:i=k
      ·subst e;rw [HFI.out,HRN.out];rfl
      ·exact HOK.out i (by omega)⟩
     case measure=>simp [intOf];omega
  ·have hlt2:decide ((k:Int)<(ps.length:Int))=false:=by simp;omega
   have hP:room ps t c=none:=firstN_none (fun i hi=>HOK.out i (by omega))
   have hI:I=0:=by rw [HI.out,hP];rfl
   have hK:K=0:=by rw [HK.out,hP];rfl
   have hB:B=false:=by rw [HB.out,hP];rfl
   subst hI hK hB
   clear hP
   go_wp2
   try rw [Exit.noGoto_ret]
   go_ret3
   exact ⟨rfl,hbr⟩
end Go.Proofs.YtcdpiefflnaghaaGreatDoor.Sb
namespace Go.Proofs.YtcdpiefflnaghaaGreatDoor.Sb
open Go.RowKit
theorem run_copy_size {P:Program}(w:World)(dT sT ty elem:TypeId)(g n dCap:Nat)(a:Addr)(sCap k:Nat)(cur:Array Value)(t:TypeId)(cs:List Value)
  (hu:P.underlying dT=some (.slice elem)) (hs:(P.info? elem).map (·.size)=some k)
  (hg:w.heap[g]? = some (.cells cur t (0,0))) (hn:cs.length=n * k)
  (hsrc:∀ j v,cs[j]? = some v→w.cell? (a.add j)=some v) (hfit:cs.length≤cur.size) (h1:∀ v∈cs,v.oneCell'=true):
  (Builtin.copy_ #[dT,sT] ty #[.slice (some ⟨g,0,none⟩) n dCap,.slice (some a) n sCap]).run P w =
   .ok (goInt n) (w.setRow g (cs++cur.toList.drop cs.length).toArray):=by
 have hl:=run_loadCells_list (P:=P) w a cs hsrc
 have hst:=run_storeCells_at P g 0 t cs 0 cur w hg (by simpa using hfit) h1
 cases hq:P.info? elem with
 | none=>simp [hq] at hs
 | some i=>
  have hi:i.size=k:=by simpa [hq] using hs
  simp at hst
  simp [Builtin.copy_,run_underlying hu,Builtin.lenOf,Builtin.firstCells,sizeOf,typeInfo,hq,hi,← hn,hl,hst]
theorem made_pages (n:Nat):(madeCells (Value.agg #[.int .i64 0,.int .i64 0,.int .u16 0]).cells (n * 3)).toList=(List.replicate n pz).flatMap pcells:=by
 apply List.ext_getElem?
 intro j
 by_cases h:j<n * 3
 ·have hi:j / 3<(List.replicate n pz).length:=by simp;omega
  obtain ⟨g0,g1,g2⟩:=pcells_get (List.replicate n pz) (j / 3) hi
  have h3:j % 3=0∨j % 3=1∨j % 3=2:=by omega
  rcases h3 with e | e | e
  ·rw [show j / 3 * 3=j by omega] at g0
   rw [g0]
   simp [madeCells,Value.cells,h,e,pz]
  ·rw [show j / 3 * 3+1=j by omega] at g1
   rw [g1]
   simp [madeCells,Value.cells,h,e,pz]
  ·rw [show j / 3 * 3+2=j by omega] at g2
   rw [g2]
   simp [madeCells,Value.cells,h,e,pz]
 ·have e2:((List.replicate n pz).flatMap pcells)[j]? = none:=List.getElem?_eq_none (by rw [pcells_len];simp;omega)
  rw [e2]
  simp [madeCells,h]
theorem made_row {w1:World}{B g n:Nat}(ho:w1.ownsRow B 139 3 (.slice (some ⟨g,0,none⟩) n n) n (madeCells (Value.agg #[.int .i64 0,.int .i64 0,.int .u16 0]).cells (n * 3)).toList):
  w1.heap[g]? = some (.cells ((List.replicate n pz).flatMap pcells).toArray 139 (0,0)):=by
 rw [made_pages] at ho
 rcases ho.2 with ⟨h,_⟩ | ⟨g',cap,cur,h,hb,hg,hnc,hcm,hcs,htake⟩
 ·cases h
 ·cases h
  have e:cur.toList=(List.replicate n pz).flatMap pcells:=by
   rw [← htake,List.take_of_length_le]
   simp [hcs]
  rw [hg]
  congr 1
  rw [← e]
theorem row_pages {w:World}{base g:Nat}{ps:List Pg}(hg:w.heap[g]? = some (.cells (ps.flatMap pcells).toArray 139 (0,0)))(hb:base≤g)(hl:ps.length≤1000):FreshS w base (.slice (some ⟨g,0,none⟩) ps.length ps.length) ps:=by
 refine ⟨_,ps.length,rfl,Nat.le_refl _,by omega,(by intro e;cases e),.inr ⟨g,rfl,hb,(Array.getElem?_eq_some_iff.1 hg).1,fun j=>by simp [World.frozen?,hg],fun i hi=>?_⟩⟩
 obtain ⟨g0,g1,g2⟩:=pcells_get ps i hi
 refine ⟨?_,?_,?_⟩
 ·simp [World.cell?,hg,g0]
 ·simp [World.cell?,hg,g1]
 ·simp [World.cell?,hg,g2]
theorem copy_pages (w:World)(ty:TypeId)(g dc:Nat)(ps:List Pg)(b off c:Nat)(hsrc:∀ i (hi:i<ps.length),PgLies w b (off+i * 3) ps[i])
  (cur:Array Value) (hg:w.heap[g]? = some (.cells cur 139 (0,0))) (hfit:cur.size=ps.length * 3):
  (Builtin.copy_ #[49,49] ty #[.slice (some ⟨g,0,none⟩) ps.length dc,.slice (some ⟨b,off,none⟩) ps.length c]).run Tryz.prog w=.ok (goInt ps.length) (w.setRow g (ps.flatMap pcells).toArray):=by
 obtain ⟨i0,hi,hz0,hz1,hz2⟩:=info_parts Tryz.infoPage
 have hr:=run_copy_size (P:=Tryz.prog) w 49 49 ty 139 g ps.length dc ⟨b,off,none⟩ c 3 cur 139 (ps.flatMap pcells) Tryz.underlying49 (by rw [hi];simp [hz1]) hg (pcells_len ps) (pg_news hsrc) (by rw [pcells_len];omega) (pcells_one ps)
 rw [List.drop_of_length_le (by rw [pcells_len];simp [hfit]),List.append_nil] at hr
 exact hr
theorem scopied_any (w:World)(ao:Option Addr)(ps:List Pg)(cap:Nat)(h:Sb w ao ps cap)(hne:ps≠[])(hl:ps.length≤1000):
  Calls Tryz.prog 216 #[.agg #[.slice ao ps.length cap]] w fun e w'=>∃ g,e=.returned (.agg #[.slice (some ⟨g,0,none⟩) ps.length ps.length])∧w.heap.size≤g∧w'.heap[g]? = some (.cells (ps.flatMap pcells).toArray 139 (0,0))∧Below w.heap.size w w':=by
 obtain ⟨i0,hi,hz0,hz1,hz2⟩:=info_parts Tryz.infoPage
 obtain ⟨b,off,rfl,hbl,hcs⟩:=h.lies hne
 have HC:=Hid.m hcs
 clear hcs h hne
 go_enter Tryz.func216,Tryz.ntmps216
 go_upto_region 1 with (fail)
 obtain ⟨w2,hw2⟩:∃ w2,w2=(w.alloc (Obj.cells #[Value.slice (some ⟨b,off,none⟩) ps.length cap] 51)).alloc (Obj.cells #[Value.slice none 0 0] 51):=⟨_,rfl⟩
 rw [← hw2]
 have hs2:w2.heap.size=w.heap.size+2:=by rw [hw2];simp
 have hb2:Below w.heap.size w w2:=by rw [hw2];exact ((Below.refl _ _).alloc (Nat.le_refl _) _).alloc (by simp) _
 have c0:w2.cell? ⟨w.heap.size,0,none⟩=some (.slice (some ⟨b,off,none⟩) ps.length cap):=by rw [hw2];simp
 have c1:w2.cell? ⟨w.heap.size+1,0,none⟩=some (.slice none 0 0):=by rw [hw2];simp
 have f1:w2.frozen? ⟨w.heap.size+1,0,none⟩=false:=by rw [hw2];simp
 have x0:w.heap.size<w2.heap.size:=by omega
 have x1:w.heap.size+1<w2.heap.size:=by omega
 have HSZ:=Hid.m hs2
 have HB2:=Hid.m hb2
 clear hw2 hs2 hb2
 go_upto_region 2 with (at_make;refine wpList_make_full _ rfl (.tmp 6) (.tmp 6) 49 rfl w2.heap.size 139 i0 _ 3 Tryz.underlying49 hi hz0 hz1 .i64 .i64 _ _ ps.length rfl rfl (by first | rfl | go_num) (by first | rfl | go_num) (by rw [hz2];omega) (by unfold maxLen;omega) (Nat.le_refl _) ?_;intro w3 ho3 hg3)
 have hr3:=made_row ho3
 have hb3:Below w2.heap.size w2 w3:=(Below.refl _ _).grown hg3 (Nat.le_refl _) (fun k hk=>by cases hk)
 have hs3:w2.heap.size<w3.heap.size:=(Array.getElem?_eq_some_iff.1 hr3).1
 have d0:=(below_cells hb3 _ 0 x0).trans c0
 have d1:=(below_cells hb3 _ 0 x1).trans c1
 have g1:=(below_frozen hb3 _ 0 x1).trans f1
 have y0:w.heap.size<w3.heap.size:=by omega
 have y1:w.heap.size+1<w3.heap.size:=by omega
 have HR3:=Hid.m hr3
 have HB3:=Hid.m (HB2.out.trans (hb3.mono (by omega)))
 clear hr3 hb3 ho3 hg3 c0 c1 f1
 obtain ⟨g,hg⟩:∃ g,g=w2.heap.size:=⟨_,rfl⟩
 rw [← hg] at HR3 hs3 ⊢
 have hgg:w.heap.size+1<g:=by omega
 clear hg
 obtain ⟨w4,hw4⟩:∃ w4,w4=w3.setRow g (ps.flatMap pcells).toArray:=⟨_,rfl⟩
 have hrun:=copy_pages w3 3 g ps.length ps b off cap (fun i hi=>(HC.out i hi).below HB3.out hbl) _ HR3.out (by simp only [pcells_len,List.size_toArray,List.length_replicate])
 rw [← hw4] at hrun
 have HW4:=Hid.m hw4
 clear hw4
 go_upto_region 3 with (fail)
 clear hrun
 have hw4:=HW4.out
 have hr4:w4.heap[g]? = some (.cells (ps.flatMap pcells).toArray 139 (0,0)):=by rw [hw4];exact setRow_heap w3 g _ _ _ _ HR3.out
 have hg4:w3.grownBy w4 (some g):=by rw [hw4];exact grownBy_setRow w3 g _
 have e1:w4.cell? ⟨w.heap.size+1,0,none⟩=some (.slice none 0 0):=hg4.cell (a:=⟨w.heap.size+1,0,none⟩) d1 (by intro e;have:=Option.some.inj e;simp at this;omega)
 have k1:w4.frozen? ⟨w.heap.size+1,0,none⟩=false:=(World.frozen?_of_block (w:=w3) (hg4.block (w.heap.size+1) y1 (by intro e;have:=Option.some.inj e;omega))).trans g1
 have z1:w.heap.size+1<w4.heap.size:=by have:=hg4.size;omega
 have HR4:=Hid.m hr4
 have HB4:=Hid.m (HB3.out.grown hg4 (by omega) (fun k hk=>by cases hk;omega))
 clear hr4 hg4 hw4 HW4 d0 d1 g1 y0 y1
 go_wp2
 have z0:(w4.setCell ⟨w.heap.size+1,0,none⟩ (.slice (some ⟨g,0,none⟩) ps.length ps.length)).cell? ⟨w.heap.size+1,0,none⟩=some (.slice (some ⟨g,0,none⟩) ps.length ps.length):=World.cell?_setCell_same _ _ _ e1
 try simp only [Exit.inBlock,Exit.then]
 refine bodyPost_ret (v:=.agg #[.slice (some ⟨g,0,none⟩) ps.length ps.length]) (by simp [results,Tryz.results216,go_sem,z0]) rfl ⟨g,rfl,by omega,?_,HB4.out.setCell (by simp) _⟩
 exact (Below.heap_setCell w4 ⟨w.heap.size+1,0,none⟩ _ g (by show g≠w.heap.size+1;omega)).trans HR4.out
theorem snew_any (n:Nat)(w:World)(hn:1≤n∧n≤16):
  Calls Tryz.prog 39 #[.int .i64 n] w fun e w'=>∃ g,e=.returned (.tuple #[.agg #[.slice (some ⟨g,0,none⟩) n n],.int .i64 0])∧w.heap.size≤g∧w'.heap[g]? = some (.cells ((List.replicate n pz).flatMap pcells).toArray 139 (0,0))∧Below w.heap.size w w':=by
 obtain ⟨i0,hi,hz0,hz1,hz2⟩:=info_parts Tryz.infoPage
 have h1:decide ((n:Int)<1)=false:=by simp;omega
 have h2:decide ((16:Int)<n)=false:=by simp;omega
 go_enter Tryz.func39,Tryz.ntmps39
 go_upto_region 3 with (fail)
 obtain ⟨w2,hw2⟩:∃ w2,w2=w.alloc (Obj.cells #[Value.slice none 0 0] 51):=⟨_,rfl⟩
 rw [← hw2]
 have hs2:w2.heap.size=w.heap.size+1:=by rw [hw2];simp
 have hb2:Below w.heap.size w w2:=by rw [hw2];exact (Below.refl _ _).alloc (Nat.le_refl _) _
 have c1:w2.cell? ⟨w.heap.size,0,none⟩=some (.slice none 0 0):=by rw [hw2];simp
 have f1:w2.frozen? ⟨w.heap.size,0,none⟩=false:=by rw [hw2];simp
 have x1:w.heap.size<w2.heap.size:=by omega
 have HB2:=Hid.m hb2
 clear hw2 hs2 hb2
 go_wp2_with (at_make;refine wpList_make_full _ rfl (.tmp 11) (.tmp 11) 49 rfl w2.heap.size 139 i0 _ 3 Tryz.underlying49 hi hz0 hz1 .i64 .i64 _ _ n rfl rfl (by first | rfl | go_num) (by first | rfl | go_num) (by rw [hz2];omega) (by unfold maxLen;omega) (Nat.le_refl _) ?_;intro w3 ho3 hg3;have hr3:=made_row ho3;have hb3:Below w2.heap.size w2 w3:=(Below.refl _ _).grown hg3 (Nat.le_refl _) (fun k hk=>by cases hk);have hs3:w2.heap.size<w3.heap.size:=(Array.getElem?_eq_some_iff.1 hr3).1;have d1:=(below_cells hb3 _ 0 x1).trans c1;have g1:=(below_frozen hb3 _ 0 x1).trans f1;have y1:w.heap.size<w3.heap.size:=Nat.lt_trans x1 hs3;have HR3:=Hid.m hr3;have HB3:=Hid.m (HB2.out.trans (hb3.mono (by omega)));clear hr3 hb3 ho3 hg3 c1 f1)
 have z0:(w3.setCell ⟨w.heap.size,0,none⟩ (.slice (some ⟨w2.heap.size,0,none⟩) n n)).cell? ⟨w.heap.size,0,none⟩=some (.slice (some ⟨w2.heap.size,0,none⟩) n n):=World.cell?_setCell_same _ _ _ d1
 try simp only [Exit.inBlock,Exit.then]
 refine bodyPost_ret (v:=.tuple #[.agg #[.slice (some ⟨w2.heap.size,0,none⟩) n n],.int .i64 0]) (by simp [results,Tryz.results39,go_sem,z0]) rfl ⟨w2.heap.size,rfl,by omega,?_,HB3.out.setCell (by simp) _⟩
 exact (Below.heap_setCell w3 ⟨w.heap.size,0,none⟩ _ w2.heap.size (by show w2.heap.size≠w.heap.size;omega)).trans HR3.out
end Go.Proofs.YtcdpiefflnaghaaGreatDoor.Sb
namespace Go.Proofs.YtcdpiefflnaghaaGreatDoor.Sb
open Go.RowKit
structure TK (w wq:World)(v:Value):Prop where
 below:Below w.heap.size w wq
 c0:wq.cell? ⟨w.heap.size,0,none⟩=some v
 c1:wq.cell? ⟨w.heap.size+1,0,none⟩=some (.slice none 0 0)
 f1:wq.frozen? ⟨w.heap.size+1,0,none⟩=false
 x0:w.heap.size<wq.heap.size
 x1:w.heap.size+1<wq.heap.size
theorem TK.step {w wq wr:World}{v:Value}(h:TK w wq v)(hb:Below wq.heap.size wq wr):TK w wr v:=
 ⟨h.below.trans (hb.mono (Nat.le_of_lt h.x0)),(below_cells hb _ 0 h.x0).trans h.c0,(below_cells hb _ 0 h.x1).trans h.c1,(below_frozen hb _ 0 h.x1).trans h.f1,Nat.lt_of_lt_of_le h.x0 hb.size,Nat.lt_of_lt_of_le h.x1 hb.size⟩
theorem TK.begin (w:World)(v:Value)(t t':TypeId):TK w ((w.alloc (Obj.cells #[v] t)).alloc (Obj.cells #[Value.slice none 0 0] t')) v:=
 ⟨((Below.refl _ _).alloc (Nat.le_refl _) _).alloc (by simp) _,by simp,by simp,by simp,by simp;omega,by simp⟩
theorem TK.drew {w wq:World}{v:Value}(h:TK w wq v):TK w wq.drew v:=⟨⟨h.below.os,h.below.tape,h.below.output,h.below.size,h.below.block⟩,h.c0,h.c1,h.f1,h.x0,h.x1⟩
theorem place_some {ps:List Pg}{t c q:Int}{i k:Nat}(h:place ps t c q=some (i,k)):
  room ps t c=some (i,k)∨(room ps t c=none∧(owned ps t:Int)<q∧freeP ps=some i∧k=0):=by
 unfold place at h
 cases e:room ps t c with
 | some x=>rw [e] at h;simp at h;exact .inl (by rw [h])
 | none=>
  rw [e] at h
  simp only at h
  split at h
  ·rename_i hq
   rw [Option.map_eq_some_iff] at h
   obtain ⟨a,h1,h2⟩:=h
   cases h2
   exact .inr ⟨rfl,hq,h1,rfl⟩
  ·simp at h
theorem place_none {ps:List Pg}{t c q:Int}(h:place ps t c q=none):room ps t c=none∧(¬ (owned ps t:Int)<q∨freeP ps=none):=by
 unfold place at h
 cases e:room ps t c with
 | some x=>rw [e] at h;simp at h
 | none=>
  rw [e] at h
  simp only at h
  split at h
  ·rw [Option.map_eq_none_iff] at h
   exact ⟨rfl,.inr h⟩
  ·rename_i hq
   exact ⟨rfl,.inl hq⟩
theorem place_lt {ps:List Pg}{t c q:Int}{i k:Nat}(hc:isC c=true)(h:place ps t c q=some (i,k)):∃ hi:i<ps.length,k<chunks c∧ps[i].u.testBit k=false∧(ps[i].u=0∨(ps[i].t=t∧ps[i].c=c)):=by
 rcases place_some h with h | ⟨_,_,h2,rfl⟩
 ·obtain ⟨hi,h1,h2,h3,h4⟩:=room_some h
  obtain ⟨a,b,_⟩:=lowFree_some h4
  exact ⟨hi,a,b,.inr ⟨h2,h3⟩⟩
 ·obtain ⟨hi,h1⟩:=freeP_some h2
  exact ⟨hi,(chunks_le hc).1,by rw [h1];simp,.inl h1⟩
theorem sOk_len {ps:List Pg}(h:sOk ps=true):1≤ps.length∧ps.length≤16:=by
 unfold sOk at h
 simp at h
 exact h.1
theorem sOk_pg {ps:List Pg}(h:sOk ps=true)(i:Nat)(hi:i<ps.length):pOk ps[i]=true:=by
 unfold sOk at h
 simp only [Bool.and_eq_true,List.all_eq_true] at h
 exact h.2 _ (List.getElem_mem hi)
theorem take_bad1 (w:World)(ao:Option Addr)(ps:List Pg)(cap:Nat)(h:Sb w ao ps cap)(t c q:Int)(he:¬ tE ps t=0):
  Calls Tryz.prog 170 #[.agg #[.slice ao ps.length cap],.int .i64 t,.int .i64 c,.int .i64 q] w fun e w'=>e=.returned (.tuple #[.agg #[.slice none 0 0],.int .i64 0,.int .i64 0,.int .i64 (tE ps t)])∧Below w.heap.size w w':=by
 have HCT:=Hid.m (fun W (hb:Below w.heap.size w W)=>checkTenant_any W ao ps cap (h.below hb) t)
 obtain ⟨E,hE⟩:∃ E,E=tE ps t:=⟨_,rfl⟩
 rw [← hE] at he HCT ⊢
 have he2:(E != 0)=true:=by simp [he]
 clear hE h he
 go_enter Tryz.func170,Tryz.ntmps170
 go_upto_region 1 with (fail)
 obtain ⟨w0,hw0⟩:∃ w0,w0=(w.alloc (Obj.cells #[Value.slice ao ps.length cap] 51)).alloc (Obj.cells #[Value.slice none 0 0] 51):=⟨_,rfl⟩
 rw [← hw0]
 have T0:TK w w0 (.slice ao ps.length cap):=by rw [hw0];exact TK.begin _ _ _ _
 have a0:=T0.c0
 have x0:=T0.x0
 have HT0:=Hid.m T0
 clear hw0 T0
 go_wp2_with (go_at_call 75;refine (HCT.out _ HT0.out.below).mono ?_;rintro e w1 ⟨rfl,hb1⟩;have T1:=HT0.out.step hb1;have a1:=T1.c1;have b1:=T1.f1;have x1:=T1.x1;have HT1:=Hid.m T1.below;clear T1 hb1)
 have z0:(w1.setCell ⟨w.heap.size+1,0,none⟩ (.slice none 0 0)).cell? ⟨w.heap.size+1,0,none⟩=some (.slice none 0 0):=World.cell?_setCell_same _ _ _ a1
 try simp only [Exit.inBlock,Exit.then]
 refine bodyPost_ret (v:=.tuple #[.agg #[.slice none 0 0],.int .i64 0,.int .i64 0,.int .i64 E]) (by simp [results,Tryz.results170,go_sem,z0]) rfl ⟨rfl,HT1.out.setCell (by simp) _⟩
theorem take_bad2 (w:World)(ao:Option Addr)(ps:List Pg)(cap:Nat)(h:Sb w ao ps cap)(t c q:Int)(he:tE ps t=0)(hcq:isC c=false∨isQ q=false):
  Calls Tryz.prog 170 #[.agg #[.slice ao ps.length cap],.int .i64 t,.int .i64 c,.int .i64 q] w fun e w'=>e=.returned (.tuple #[.agg #[.slice none 0 0],.int .i64 0,.int .i64 0,.int .i64 2])∧Below w.heap.size w w':=by
 have HCT:=Hid.m (fun W (hb:Below w.heap.size w W)=>checkTenant_any W ao ps cap (h.below hb) t)
 rw [he] at HCT
 clear h he
 have hic:=fun W=>isClass_any c W
 have hcase:isC c=false∨(isC c=true∧decide (q<0)=true)∨(isC c=true∧decide (q<0)=false∧decide (16<q)=true):=by
  cases e:isC c
  ·exact .inl rfl
  ·rcases hcq with h | h
   ·rw [e] at h;cases h
   ·simp [isQ] at h
    by_cases h0:q<0
    ·exact .inr (.inl ⟨rfl,by simp [h0]⟩)
    ·exact .inr (.inr ⟨rfl,by simp;omega,by simp;omega⟩)
 clear hcq
 rcases hcase with h1 | ⟨h1,h2⟩ | ⟨h1,h2,h3⟩
 all_goals
  rw [h1] at hic
  clear h1
  go_enter Tryz.func170,Tryz.ntmps170
  go_upto_region 1 with (fail)
  obtain ⟨w0,hw0⟩:∃ w0,w0=(w.alloc (Obj.cells #[Value.slice ao ps.length cap] 51)).alloc (Obj.cells #[Value.slice none 0 0] 51):=⟨_,rfl⟩
  rw [← hw0]
  have T0:TK w w0 (.slice ao ps.length cap):=by rw [hw0];exact TK.begin _ _ _ _
  have a0:=T0.c0
  have x0:=T0.x0
  have HT0:=Hid.m T0
  clear hw0 T0
  go_wp2_with (first
   | (go_at_call 75;refine (HCT.out _ HT0.out.below).mono ?_;rintro e w1 ⟨rfl,hb1⟩;have T1:=HT0.out.step hb1;have a1:=T1.c1;have b1:=T1.f1;have x1:=T1.x1;have HT1:=Hid.m T1.below;clear T1 hb1)
   | (go_at_call 125;refine (hic _).mono ?_;rintro e w2 ⟨rfl,hwq⟩;obtain rfl:w1=w2:=hwq.symm))
  have z0:(w1.setCell ⟨w.heap.size+1,0,none⟩ (.slice none 0 0)).cell? ⟨w.heap.size+1,0,none⟩=some (.slice none 0 0):=World.cell?_setCell_same _ _ _ a1
  try simp only [Exit.inBlock,Exit.then]
  exact bodyPost_ret (v:=.tuple #[.agg #[.slice none 0 0],.int .i64 0,.int .i64 0,.int .i64 2]) (by simp [results,Tryz.results170,go_sem,z0]) rfl ⟨rfl,HT1.out.setCell (by simp) _⟩
theorem take_end {w w8 w9:World}{g i:Nat}{t c:Int}{p:Pg}{b:Value}{ps:List Pg}
  (hw9:w9=(((w8.setCell ⟨g,i * 3,none⟩ (.int .i64 t)).setCell ⟨g,i * 3+1,none⟩ (.int .i64 c)).setCell ⟨g,i * 3+2,none⟩ (.int .u16 (p.u:Int))).drew)
  (hb:Below w.heap.size w w8) (hg:w.heap.size+1<g) (hgs:g<w8.heap.size) (hc:w8.cell? ⟨w.heap.size+1,0,none⟩=some b) (hf:w8.frozen? ⟨w.heap.size+1,0,none⟩=false) (hfr:∀ j,w8.frozen? ⟨g,j,none⟩=false)
  (hl:∀ j (hj:j<ps.length),PgLies (((w8.setCell ⟨g,i * 3,none⟩ (.int .i64 t)).setCell ⟨g,i * 3+1,none⟩ (.int .i64 c)).setCell ⟨g,i * 3+2,none⟩ (.int .u16 (p.u:Int))) g (j * 3) ps[j]):
  w9.cell? ⟨w.heap.size+1,0,none⟩=some b∧w9.frozen? ⟨w.heap.size+1,0,none⟩=false∧w.heap.size+1<w9.heap.size∧Hid (Below w.heap.size w w9)∧Hid (g<w9.heap.size∧(∀ j,w9.frozen? ⟨g,j,none⟩=false)∧∀ j (hj:j<ps.length),PgLies w9 g (j * 3) ps[j]):=by
 obtain ⟨x,hx⟩:∃ x,x=((w8.setCell ⟨g,i * 3,none⟩ (.int .i64 t)).setCell ⟨g,i * 3+1,none⟩ (.int .i64 c)).setCell ⟨g,i * 3+2,none⟩ (.int .u16 (p.u:Int)):=⟨_,rfl⟩
 rw [← hx] at hw9 hl
 have hgr:w8.grownBy x (some g):=by rw [hx];exact ((grown_set _ _ _ _).trans (grown_set _ _ _ _)).trans (grown_set _ _ _ _)
 have hs:x.heap.size=w8.heap.size:=by rw [hx];simp
 have hfx:∀ j,x.frozen? ⟨g,j,none⟩=false:=by intro j;rw [hx];simpa using hfr j
 have hfy:x.frozen? ⟨w.heap.size+1,0,none⟩=false:=by rw [hx];simpa using hf
 have hbx:=hb.grown hgr (by omega) (fun k hk=>by cases hk;omega)
 have hcx:=hgr.cell (a:=⟨w.heap.size+1,0,none⟩) hc (by intro e;have:=Option.some.inj e;simp at this;omega)
 clear hx
 subst hw9
 exact ⟨hcx,hfy,by show _<x.heap.size;omega,⟨hbx.os,hbx.tape,hbx.output,hbx.size,hbx.block⟩,by show _<x.heap.size;omega,hfx,hl⟩
theorem fresh_end {w9:World}{S g base n:Nat}{v:Value}{ps:List Pg}(h:g<w9.heap.size∧(∀ j,w9.frozen? ⟨g,j,none⟩=false)∧∀ j (hj:j<ps.length),PgLies w9 g (j * 3) ps[j])(hb:base≤g)(hg:S<g∧n≤1000)(hn:n=ps.length):FreshS (w9.setCell ⟨S,0,none⟩ v) base (.slice (some ⟨g,0,none⟩) n n) ps:=by
 subst hn
 refine ⟨_,_,rfl,Nat.le_refl _,by omega,(by intro e;cases e),.inr ⟨g,rfl,hb,by simpa using h.1,fun j=>by simpa using h.2.1 j,fun j hj=>?_⟩⟩
 exact (h.2.2 j hj).grown (grown_set w9 S 0 v) (by intro e;have:=Option.some.inj e;omega)
end Go.Proofs.YtcdpiefflnaghaaGreatDoor.Sb
