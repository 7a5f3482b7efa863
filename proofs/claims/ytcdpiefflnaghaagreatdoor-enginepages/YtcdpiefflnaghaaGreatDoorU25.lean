/-
  Package engine and what stands beneath it, part 25: contracts of functions, and what they rest on.
-/
import Derived.Test.YtcdpiefflnaghaaGreatDoorU15
import Derived.Test.YtcdpiefflnaghaaGreatDoorU20
import Derived.Test.YtcdpiefflnaghaaGreatDoorU24
set_option linter.unusedSimpArgs false
set_option linter.unusedVariables false
set_option maxRecDepth 100000
namespace Go.Proofs.YtcdpiefflnaghaaGreatDoor.En
open Go.Proofs.YtcdpiefflnaghaaGreatDoor.It
open Go.Proofs.YtcdpiefflnaghaaGreatDoor.Lr
open Go.Proofs.YtcdpiefflnaghaaGreatDoor.Qt
open Go.Proofs.YtcdpiefflnaghaaGreatDoor.Sb
open Go.RowKit Go.Proofs.YtcdpiefflnaghaaGreatDoor
abbrev Na:=Int × ByteArray
def EP:GEl Pg:=⟨139,49,3,24,.agg #[.int .i64 0,.int .i64 0,.int .u16 0],fun p=>[.int .i64 p.t,.int .i64 p.c,.int .u16 (p.u:Int)]⟩
def tN (n:Na):Tb.Nm:=⟨n.1,n.2⟩
def wN (n:Na):Wh.Nm:=⟨n.1,n.2⟩
def tU (p:Na × Int):Tb.NU:=(tN p.1,p.2)
def wU (p:Na × Int):Wh.NU:=(wN p.1,p.2)
def okN (n:Na):Prop:=0≤n.1∧n.1<4∧1≤n.2.size∧n.2.size≤32
instance (n:Na):Decidable (okN n):=by unfold okN;exact inferInstance
def strikeN (n:Na)(T:List (Na × Int)):List (Na × Int):=T.filter fun p=>decide (p.1≠n)
def lkN (T:List (Na × Int))(n:Na):Option Int:=(T.find? fun p=>decide (p.1=n)).map Prod.snd
theorem tN_inj {a b:Na}:tN a=tN b↔a=b:=by
 constructor
 ·intro h
  injection h with h1 h2
  exact Prod.ext h1 h2
 ·rintro rfl;rfl
theorem wN_inj {a b:Na}:wN a=wN b↔a=b:=by
 constructor
 ·intro h
  injection h with h1 h2
  exact Prod.ext h1 h2
 ·rintro rfl;rfl
theorem strike_t (n:Na)(T:List (Na × Int)):Tb.strike (tN n) (T.map tU)=(strikeN n T).map tU:=by
 unfold Tb.strike strikeN
 rw [List.filter_map]
 congr 1
 apply List.filter_congr
 intro p _
 rw [Bool.eq_iff_iff]
 simp [tU,tN_inj]
theorem strike_w (n:Na)(T:List (Na × Int)):Wh.strike (wN n) (T.map wU)=(strikeN n T).map wU:=by
 unfold Wh.strike strikeN
 rw [List.filter_map]
 congr 1
 apply List.filter_congr
 intro p _
 rw [Bool.eq_iff_iff]
 simp [wU,wN_inj]
structure Ra where
 quotas:List Int
 now:Nat
 pages:List Pg
 ord:Nat→Od
 T:List (Na × Int)
 L:List (Na × Int)
 kept:List (Int × Im)
 row:List Int
 last:Int
structure Ad where
 b:Nat
 pw:Nat
 pt:Nat
 pi:Nat
 pk:Nat
structure Va where
 pp:Nat
 po:Nat→Nat
 qo:Option Addr
 qc:Nat
def ptr (b:Nat):Value:=.pointer (some ⟨b,0,none⟩)
def cellsE (A:Ad)(V:Va)(q:Nat)(last:Int):List Value:=[ptr A.b,ptr A.pw,ptr A.pt,ptr V.pp]++((List.range 20).map fun i=>ptr (V.po i))++[.slice V.qo q V.qc,ptr A.pi,.int .u64 last]
def EngP (A:Ad)(V:Va)(q:Nat)(last:Int)(F:Nat→Prop)(w:World):Prop:=GBx w A.b (cellsE A V q last)∧F A.b
def WhlP (N:Nat)(A:Ad)(now:Nat)(L:List (Na × Int))(F:Nat→Prop)(w:World):Prop:=∃ b0 mb,Wh.Wh w A.pw now (L.map wU) (L.map wU) b0 mb N∧∀ k,Wh.Foot A.pw b0 mb k→F k
def TabP (A:Ad)(T:List (Na × Int))(F:Nat→Prop)(w:World):Prop:=∃ base moved F0,Tb.TB w base A.pt (T.map tU) moved 1000 F0∧base≤w.heap.size∧∀ k,F0 k→F k
structure ItmP (A:Ad)(kept:List (Int × Im))(row:List Int)(F:Nat→Prop)(w:World)(ro:Option Addr)(rc:Nat):Prop where
 head:GBx w A.pi [.slice (some ⟨A.pk,0,none⟩) kept.length kept.length,.slice ro row.length rc]
 body:GBx w A.pk (kept.flatMap EK.cells)
 own:GOwn EI w 0 (.slice ro row.length rc) row
 fi:F A.pi
 fk:F A.pk
 fr:∀ a,ro=some a→F a.block∧a.block≠A.pi∧a.block≠A.pk
 ne:A.pi≠A.pk
structure OrdP (p:Nat)(o:Od)(F:Nat→Prop)(w:World)(aT:Option Addr)(cT:Nat)(aK:Option Addr)(cK:Nat):Prop where
 box:GBx w p [.slice aT o.T.length cT,.slice aK o.K.length cK]
 t:GRd ES w aT o.T cT
 k:GRd ES w aK o.K cK
 fp:F p
 ft:∀ k,Bk aT k→F k
 fk:∀ k,Bk aK k→F k
structure PagP (p:Nat)(ps:List Pg)(F:Nat→Prop)(w:World)(ao:Option Addr)(cap:Nat):Prop where
 box:GBx w p [.slice ao ps.length cap]
 rd:GRd EP w ao ps cap
 fp:F p
 fa:∀ k,Bk ao k→F k
structure ImmP (V:Va)(q:List Int)(ps:List Pg)(ods:Nat→Od)(F:Nat→Prop)(w:World):Prop where
 pg:∃ ao cap,PagP V.pp ps F w ao cap
 od:∀ i,i<20→∃ aT cT aK cK,OrdP (V.po i) (ods i) F w aT cT aK cK
 qu:GRd EI w V.qo q V.qc
 fq:∀ k,Bk V.qo k→F k
def PE (N:Nat)(A:Ad)(V:Va)(x:Ra)(F:Cp→Nat→Prop):Cp→World→Prop
 | .eng=>EngP A V x.quotas.length x.last (F .eng)
 | .whl=>WhlP N A x.now x.L (F .whl)
 | .tab=>TabP A x.T (F .tab)
 | .itm=>fun w=>∃ ro rc,ItmP A x.kept x.row (F .itm) w ro rc
 | .imm=>ImmP V x.quotas x.pages x.ord (F .imm)
def Egv (N:Nat)(w:World)(A:Ad)(V:Va)(x:Ra)(F:Cp→Nat→Prop):Prop:=Parts w F (PE N A V x F)
def Eg (N:Nat)(w:World)(A:Ad)(x:Ra)(F:Cp→Nat→Prop):Prop:=∃ V,Egv N w A V x F
def Mu (F:Cp→Nat→Prop)(k:Nat):Prop:=∃ c,c≠.imm∧F c k
structure Lv (N:Nat)(A:Ad)(x:Ra)(F:Cp→Nat→Prop)(w w':World)(F':Cp→Nat→Prop):Prop where
 eg:Eg N w' A x F'
 kpt:Kpt (Mu F) w w'
 sub:∀ c k,F' c k→F c k∨w.heap.size≤k
theorem mu_un {F:Cp→Nat→Prop}{k:Nat}(h:Mu F k):Un F k:=by
 obtain ⟨c,_,hc⟩:=h
 exact ⟨c,hc⟩
theorem Kpt.mono {F G:Nat→Prop}{w w':World}(h:Kpt F w w')(hF:∀ k,F k→G k):Kpt G w w':=⟨h.os,h.tape,h.output,h.size,fun k hk hn=>h.block k hk fun hf=>hn (hF k hf)⟩
theorem Lv.un {N:Nat}{A:Ad}{x:Ra}{F F':Cp→Nat→Prop}{w w':World}(h:Lv N A x F w w' F'):Kpt (Un F) w w':=h.kpt.mono fun _ hk=>mu_un hk
theorem Lv.subU {N:Nat}{A:Ad}{x:Ra}{F F':Cp→Nat→Prop}{w w':World}(h:Lv N A x F w w' F'):∀ k,Un F' k→Un F k∨w.heap.size≤k:=by
 rintro k ⟨c,hc⟩
 rcases h.sub c k hc with h1 | h1
 ·exact .inl ⟨c,h1⟩
 ·exact .inr h1
theorem Lv.subM {N:Nat}{A:Ad}{x:Ra}{F F':Cp→Nat→Prop}{w w':World}(h:Lv N A x F w w' F'):∀ k,Mu F' k→Mu F k∨w.heap.size≤k:=by
 rintro k ⟨c,hn,hc⟩
 rcases h.sub c k hc with h1 | h1
 ·exact .inl ⟨c,hn,h1⟩
 ·exact .inr h1
theorem Lv.trans {N N':Nat}{A:Ad}{x x':Ra}{F F' F2:Cp→Nat→Prop}{w w' w2:World}(h:Lv N A x F w w' F')(g:Lv N' A x' F' w' w2 F2):Lv N' A x' F w w2 F2:=by
 refine ⟨g.eg,h.kpt.trans g.kpt h.subM,fun c k hk=>?_⟩
 rcases g.sub c k hk with h1 | h1
 ·exact h.sub c k h1
 ·exact .inr (Nat.le_trans h.kpt.size h1)
theorem Lv.refl {N:Nat}{A:Ad}{x:Ra}{F:Cp→Nat→Prop}{w:World}(h:Eg N w A x F):Lv N A x F w w F:=⟨h,Kpt.of (Below.refl _ _),fun _ _ hk=>.inl hk⟩
theorem Eg.below {N:Nat}{A:Ad}{x:Ra}{F:Cp→Nat→Prop}{w w':World}(h:Eg N w A x F)(hb:Below w.heap.size w w'):Eg N w' A x F:=by
 obtain ⟨V,h⟩:=h
 exact ⟨V,Parts.below h hb⟩
theorem Eg.lv {N:Nat}{A:Ad}{x:Ra}{F:Cp→Nat→Prop}{w w':World}(h:Eg N w A x F)(hb:Below w.heap.size w w'):Lv N A x F w w' F:=⟨h.below hb,Kpt.of hb,fun _ _ hk=>.inl hk⟩
theorem Lv.below {N:Nat}{A:Ad}{x:Ra}{F F':Cp→Nat→Prop}{w w' w2:World}(h:Lv N A x F w w' F')(hb:Below w'.heap.size w' w2):Lv N A x F w w2 F':=h.trans (h.eg.lv hb)
theorem Lv.from {N:Nat}{A:Ad}{x:Ra}{F F':Cp→Nat→Prop}{w W w':World}(h:Lv N A x F W w' F')(hb:Below w.heap.size w W):Lv N A x F w w' F':=by
 refine ⟨h.eg,(Kpt.of hb).trans h.kpt fun k hk=>.inl hk,fun c k hk=>?_⟩
 rcases h.sub c k hk with h1 | h1
 ·exact .inl h1
 ·exact .inr (Nat.le_trans hb.size h1)
end Go.Proofs.YtcdpiefflnaghaaGreatDoor.En
namespace Go.Proofs.YtcdpiefflnaghaaGreatDoor.En
open Go.Proofs.YtcdpiefflnaghaaGreatDoor.It
open Go.Proofs.YtcdpiefflnaghaaGreatDoor.Lr
open Go.Proofs.YtcdpiefflnaghaaGreatDoor.Qt
open Go.Proofs.YtcdpiefflnaghaaGreatDoor.Sb
open Go.RowKit Go.Proofs.YtcdpiefflnaghaaGreatDoor
theorem _root_.Go.Proofs.YtcdpiefflnaghaaGreatDoor.GBx.same {w w':World}{b:Nat}{vs:List Value}(h:GBx w b vs)(hs:w.heap.size≤w'.heap.size)(e:w'.heap[b]? = w.heap[b]?):GBx w' b vs:=
 ⟨Nat.lt_of_lt_of_le h.lt hs,fun j=>(World.frozen?_of_block (a:=⟨b,j,none⟩) e).trans (h.f j),fun j hj=>(World.cell?_of_block (a:=⟨b,j,none⟩) e).trans (h.c j hj)⟩
theorem _root_.Go.Proofs.YtcdpiefflnaghaaGreatDoor.GRd.same {α:Type}{E:GEl α}{w w':World}{ao:Option Addr}{l:List α}{cap:Nat}(h:GRd E w ao l cap)(hs:w.heap.size≤w'.heap.size)(e:∀ k,Bk ao k→w'.heap[k]? = w.heap[k]?):GRd E w' ao l cap:=by
 refine ⟨h.hl,h.hc,h.hn,?_⟩
 rcases h.at_ with e1 | ⟨b,off,e1,hb,hc⟩
 ·exact .inl e1
 ·refine .inr ⟨b,off,e1,Nat.lt_of_lt_of_le hb hs,fun i hi j hj=>?_⟩
  rw [World.cell?_of_block (w:=w) (a:=⟨b,off+i * E.sz+j,none⟩) (e b ⟨_,e1,rfl⟩)]
  exact hc i hi j hj
theorem _root_.Go.Proofs.YtcdpiefflnaghaaGreatDoor.GOwn.same {α:Type}{E:GEl α}{w w':World}{base:Nat}{v:Value}{l:List α}(h:GOwn E w base v l)(e:∀ k,v.ownBlock=some k→w'.heap[k]? = w.heap[k]?):GOwn E w' base v l:=by
 refine ⟨h.1,?_⟩
 rcases h.2 with h1 | ⟨g,cap,cur,h1,h2,h3,h4⟩
 ·exact .inl h1
 ·exact .inr ⟨g,cap,cur,h1,h2,(e g (by rw [h1];rfl)).trans h3,h4⟩
section
variable {N:Nat} {A:Ad} {V:Va} {x:Ra} {F:Nat→Prop} {w w':World} {q:List Int} {ps:List Pg} {ods:Nat→Od}
theorem EngP.part {q:Nat}{last:Int}(h:EngP A V q last F w)(hF:∀ k,F k→k<w.heap.size):Part w F (EngP A V q last F):=
 ⟨hF,fun w' hs he=>⟨h.1.same hs (he _ h.2),h.2⟩⟩
theorem WhlP.part {now:Nat}{L:List (Na × Int)}(h:WhlP N A now L F w)(hF:∀ k,F k→k<w.heap.size):Part w F (WhlP N A now L F):=
 ⟨hF,fun w' hs he=>by
  obtain ⟨b0,mb,h1,h2⟩:=h
  exact ⟨b0,mb,h1.same fun k hk=>he k (h2 k hk),h2⟩⟩
theorem TabP.part {T:List (Na × Int)}(h:TabP A T F w)(hF:∀ k,F k→k<w.heap.size):Part w F (TabP A T F):=
 ⟨hF,fun w' hs he=>by
  obtain ⟨base,moved,F0,h1,h2,h3⟩:=h
  obtain ⟨blk,num,val,ents,next,g1,g2,g3,g4,rfl⟩:=h1
  exact ⟨base,moved,_,⟨blk,num,val,ents,next,g1.same hs fun k hk=>he k (h3 k hk),g2,g3,g4,rfl⟩,Nat.le_trans h2 hs,h3⟩⟩
theorem ItmP.same {kept:List (Int × Im)}{row:List Int}{ro:Option Addr}{rc:Nat}(h:ItmP A kept row F w ro rc)(hs:w.heap.size≤w'.heap.size)(he:∀ k,F k→w'.heap[k]? = w.heap[k]?):ItmP A kept row F w' ro rc:=
 ⟨h.head.same hs (he _ h.fi),h.body.same hs (he _ h.fk),h.own.same (fun k hk=>by
  cases ro with
  | none=>cases hk
  | some a=>cases hk;exact he _ (h.fr a rfl).1),h.fi,h.fk,h.fr,h.ne⟩
theorem ItmP.part {kept:List (Int × Im)}{row:List Int}{ro:Option Addr}{rc:Nat}(h:ItmP A kept row F w ro rc)(hF:∀ k,F k→k<w.heap.size):Part w F (fun w=>∃ ro rc,ItmP A kept row F w ro rc):=
 ⟨hF,fun w' hs he=>⟨ro,rc,h.same hs he⟩⟩
theorem OrdP.same {p:Nat}{o:Od}{aT aK:Option Addr}{cT cK:Nat}(h:OrdP p o F w aT cT aK cK)(hs:w.heap.size≤w'.heap.size)(he:∀ k,F k→w'.heap[k]? = w.heap[k]?):OrdP p o F w' aT cT aK cK:=
 ⟨h.box.same hs (he _ h.fp),h.t.same hs (fun k hk=>he k (h.ft k hk)),h.k.same hs (fun k hk=>he k (h.fk k hk)),h.fp,h.ft,h.fk⟩
theorem OrdP.more {G:Nat→Prop}{p:Nat}{o:Od}{aT aK:Option Addr}{cT cK:Nat}(h:OrdP p o F w aT cT aK cK)(hG:∀ k,F k→G k):OrdP p o G w aT cT aK cK:=
 ⟨h.box,h.t,h.k,hG _ h.fp,fun k hk=>hG k (h.ft k hk),fun k hk=>hG k (h.fk k hk)⟩
theorem PagP.same {p:Nat}{ps:List Pg}{ao:Option Addr}{cap:Nat}(h:PagP p ps F w ao cap)(hs:w.heap.size≤w'.heap.size)(he:∀ k,F k→w'.heap[k]? = w.heap[k]?):PagP p ps F w' ao cap:=
 ⟨h.box.same hs (he _ h.fp),h.rd.same hs (fun k hk=>he k (h.fa k hk)),h.fp,h.fa⟩
theorem PagP.more {G:Nat→Prop}{p:Nat}{ps:List Pg}{ao:Option Addr}{cap:Nat}(h:PagP p ps F w ao cap)(hG:∀ k,F k→G k):PagP p ps G w ao cap:=⟨h.box,h.rd,hG _ h.fp,fun k hk=>hG k (h.fa k hk)⟩
theorem ImmP.same (h:ImmP V q ps ods F w)(hs:w.heap.size≤w'.heap.size)(he:∀ k,F k→w'.heap[k]? = w.heap[k]?):ImmP V q ps ods F w':=by
 refine ⟨?_,fun i hi=>?_,h.qu.same hs (fun k hk=>he k (h.fq k hk)),h.fq⟩
 ·obtain ⟨ao,cap,g⟩:=h.pg
  exact ⟨ao,cap,g.same hs he⟩
 ·obtain ⟨aT,cT,aK,cK,g⟩:=h.od i hi
  exact ⟨aT,cT,aK,cK,g.same hs he⟩
theorem ImmP.part (h:ImmP V q ps ods F w)(hF:∀ k,F k→k<w.heap.size):Part w F (ImmP V q ps ods F):=⟨hF,fun w' hs he=>h.same hs he⟩
end
section
variable {N:Nat} {A:Ad} {V:Va} {x:Ra} {F:Cp→Nat→Prop} {w w':World}
theorem Egv.eng (h:Egv N w A V x F):EngP A V x.quotas.length x.last (F .eng) w:=(h.part .eng).holds
theorem Egv.whl (h:Egv N w A V x F):WhlP N A x.now x.L (F .whl) w:=(h.part .whl).holds
theorem Egv.tab (h:Egv N w A V x F):TabP A x.T (F .tab) w:=(h.part .tab).holds
theorem Egv.itm (h:Egv N w A V x F):∃ ro rc,ItmP A x.kept x.row (F .itm) w ro rc:=(h.part .itm).holds
theorem Egv.imm (h:Egv N w A V x F):ImmP V x.quotas x.pages x.ord (F .imm) w:=(h.part .imm).holds
theorem Egv.below (h:Egv N w A V x F)(hb:Below w.heap.size w w'):Egv N w' A V x F:=Parts.below h hb
theorem Egv.of {F':Cp→Nat→Prop}{P:Cp→World→Prop}{x':Ra}{V':Va}{N':Nat}(h:Parts w F' P)(hP:∀ c,P c=PE N' A V' x' F' c):Egv N' w A V' x' F':=by
 have:P=PE N' A V' x' F':=funext hP
 subst this
 exact h
theorem Egv.whlTurn (h:Egv N w A V x F){N' now':Nat}{L':List (Na × Int)}{G:Nat→Prop}(hk:Kpt (F .whl) w w')(hw:WhlP N' A now' L' G w')(hG:∀ k,G k→k<w'.heap.size)(hs:∀ k,G k→F .whl k∨w.heap.size≤k):
  Egv N' w' A V { x with now:=now',L:=L' } (upc F .whl G):=
 Egv.of (Parts.turn h .whl hk (hw.part hG) hs) (fun c=>by cases c <;> rfl)
theorem Egv.tabTurn (h:Egv N w A V x F){T':List (Na × Int)}{G:Nat→Prop}(hk:Kpt (F .tab) w w')(hw:TabP A T' G w')(hG:∀ k,G k→k<w'.heap.size)(hs:∀ k,G k→F .tab k∨w.heap.size≤k):
  Egv N w' A V { x with T:=T' } (upc F .tab G):=
 Egv.of (Parts.turn h .tab hk (hw.part hG) hs) (fun c=>by cases c <;> rfl)
theorem Egv.itmTurn (h:Egv N w A V x F){kept':List (Int × Im)}{row':List Int}{G:Nat→Prop}{ro:Option Addr}{rc:Nat}(hk:Kpt (F .itm) w w')(hw:ItmP A kept' row' G w' ro rc)(hG:∀ k,G k→k<w'.heap.size)(hs:∀ k,G k→F .itm k∨w.heap.size≤k):
  Egv N w' A V { x with kept:=kept',row:=row' } (upc F .itm G):=
 Egv.of (Parts.turn h .itm hk (hw.part hG) hs) (fun c=>by cases c <;> rfl)
theorem Egv.cell (h:Egv N w A V x F){w1:World}(hb:Below w.heap.size w w1)(j:Nat)(v:Value){V':Va}{q':List Int}{p':List Pg}{o':Nat→Od}{l':Int}(hj:j<27)
  (hc:cellsE A V' q'.length l'=(cellsE A V x.quotas.length x.last).set j v) {G:Nat→Prop} (hI:ImmP V' q' p' o' G w1) (hG:∀ k,G k→k<w1.heap.size) (hs:∀ k,G k→F .imm k∨w.heap.size≤k):
  Egv N (w1.setCell ⟨A.b,j,none⟩ v) A V' { x with quotas:=q',pages:=p',ord:=o',last:=l' } (upc F .imm G):=by
 have hlen:(cellsE A V x.quotas.length x.last).length=27:=by simp [cellsE]
 have h1:Parts w1 (upc F .imm G) (upc (PE N A V x F) .imm (ImmP V' q' p' o' G)):=
  Parts.turn h .imm (Kpt.of hb) (hI.part hG) hs
 have hE:=((h.part .eng).below hb).holds
 have hg:w1.grownBy (w1.setCell ⟨A.b,j,none⟩ v) (some A.b):=g_set w1 ⟨A.b,j,none⟩ v
 have hk:Kpt (upc F .imm G .eng) w1 (w1.setCell ⟨A.b,j,none⟩ v):=(Kpt.grown hg).mono fun k hk=>by
  subst hk
  exact hE.2
 have hlt:=(h.part .eng).lt
 have hE2:EngP A V' q'.length l' (F .eng) (w1.setCell ⟨A.b,j,none⟩ v):=⟨(hE.1.set j v (by rw [hlen];exact hj)).ext hc.symm,hE.2⟩
 have h2:=Parts.turn h1 .eng hk (hE2.part fun k hk=>Nat.lt_of_lt_of_le (hlt k hk) (by have:=hb.size;simpa using this)) (fun k hk=>.inl hk)
 have hF:upc (upc F .imm G) .eng (F .eng)=upc F .imm G:=by funext c;cases c <;> rfl
 rw [hF] at h2
 exact Egv.of h2 (fun c=>by cases c <;> rfl)
theorem sub_upc {c:Cp}{G:Nat→Prop}{n:Nat}(hs:∀ k,G k→F c k∨n≤k):∀ d k,upc F c G d k→F d k∨n≤k:=by
 intro d k hk
 by_cases e:d=c
 ·subst e
  rw [upc_same] at hk
  exact hs k hk
 ·rw [upc_other e] at hk
  exact .inl hk
theorem kpt_mu {c:Cp}(hc:c≠.imm)(hk:Kpt (F c) w w'):Kpt (Mu F) w w':=hk.mono fun k h=>⟨c,hc,h⟩
theorem Egv.cellLv (h:Egv N w A V x F){w1:World}(hb:Below w.heap.size w w1)(j:Nat)(v:Value){V':Va}{q':List Int}{p':List Pg}{o':Nat→Od}{l':Int}(hj:j<27)
  (hc:cellsE A V' q'.length l'=(cellsE A V x.quotas.length x.last).set j v) {G:Nat→Prop} (hI:ImmP V' q' p' o' G w1) (hG:∀ k,G k→k<w1.heap.size) (hs:∀ k,G k→F .imm k∨w.heap.size≤k):
  Lv N A { x with quotas:=q',pages:=p',ord:=o',last:=l' } F w (w1.setCell ⟨A.b,j,none⟩ v) (upc F .imm G):=by
 refine ⟨⟨V',h.cell hb j v hj hc hI hG hs⟩,?_,sub_upc hs⟩
 have hg:w1.grownBy (w1.setCell ⟨A.b,j,none⟩ v) (some A.b):=g_set w1 ⟨A.b,j,none⟩ v
 exact (Kpt.of hb).trans ((Kpt.grown hg).mono (G:=Mu F) fun k hk=>by subst hk;exact ⟨.eng,by simp,h.eng.2⟩) fun k hk=>.inl hk
theorem Egv.pages (h:Egv N w A V x F){w1:World}(hb:Below w.heap.size w w1){p:Nat}{R:List Pg}{ro:Option Addr}{rc:Nat}(hbx:GBx w1 p [.slice ro R.length rc])(hrd:GRd EP w1 ro R rc)(hp:w.heap.size≤p)(hr:∀ a,ro=some a→w.heap.size≤a.block∧a.block<w1.heap.size):
  ∃ F',Lv N A { x with pages:=R } F w (w1.setCell ⟨A.b,3,none⟩ (ptr p)) F':=by
 have hI:=((h.part .imm).below hb).holds
 have hlt:=(h.part .imm).lt
 refine ⟨upc F .imm (fun k=>F .imm k∨k=p∨Bk ro k),h.cellLv hb 3 (ptr p) (V':={ V with pp:=p }) (by decide) (by rfl) ⟨⟨ro,rc,hbx,hrd,.inr (.inl rfl),fun k hk=>.inr (.inr hk)⟩,?_,hI.qu,fun k hk=>.inl (hI.fq k hk)⟩ ?_ ?_⟩
 ·intro i hi
  obtain ⟨aT,cT,aK,cK,g⟩:=hI.od i hi
  exact ⟨aT,cT,aK,cK,g.more fun k hk=>.inl hk⟩
 ·rintro k (hk | rfl | ⟨a,ha,rfl⟩)
  ·exact Nat.lt_of_lt_of_le (hlt k hk) hb.size
  ·exact hbx.lt
  ·exact (hr a ha).2
 ·rintro k (hk | rfl | ⟨a,ha,rfl⟩)
  ·exact .inl hk
  ·exact .inr hp
  ·exact .inr (hr a ha).1
def upn {α:Type}(f:Nat→α)(i:Nat)(y:α):Nat→α:=fun j=>if j=i then y else f j
theorem upn_same {α:Type}(f:Nat→α)(i:Nat)(y:α):upn f i y i=y:=by simp [upn]
theorem upn_other {α:Type}{f:Nat→α}{i j:Nat}{y:α}(h:j≠i):upn f i y j=f j:=by simp [upn,h]
theorem cells_po (A:Ad)(V:Va)(q:Nat)(l:Int)(i p:Nat)(hi:i<20):cellsE A { V with po:=upn V.po i p } q l=(cellsE A V q l).set (4+i) (ptr p):=by
 unfold cellsE
 have e:((List.range 20).map fun j=>ptr (upn V.po i p j))=((List.range 20).map fun j=>ptr (V.po j)).set i (ptr p):=by
  apply List.ext_getElem?
  intro j
  by_cases hj:j<20
  ·by_cases e:i=j
   ·subst e
    rw [List.getElem?_set_self (by simpa using hi)]
    simp [hj,upn]
   ·rw [List.getElem?_set_ne e]
    simp [hj,upn,Ne.symm e]
  ·rw [List.getElem?_eq_none (by simp;omega),List.getElem?_eq_none (by simp;omega)]
 show _++((List.range 20).map fun j=>ptr (upn V.po i p j))++_=_
 rw [e,List.append_assoc,List.append_assoc,List.set_append_right _ _ (by simp)]
 rw [show 4+i - [ptr A.b,ptr A.pw,ptr A.pt,ptr V.pp].length=i by simp,List.set_append_left _ _ (by simpa using hi)]
theorem Egv.order (h:Egv N w A V x F){w1:World}(hb:Below w.heap.size w w1){p i:Nat}(hi:i<20){o:Od}{aT aK:Option Addr}{cT cK:Nat}(hbx:GBx w1 p [.slice aT o.T.length cT,.slice aK o.K.length cK])(ht:GRd ES w1 aT o.T cT)(hk:GRd ES w1 aK o.K cK)(hp:w.heap.size≤p)
  (hr:∀ a,aT=some a→w.heap.size≤a.block∧a.block<w1.heap.size) (hr2:∀ a,aK=some a→w.heap.size≤a.block∧a.block<w1.heap.size):
  ∃ F',Lv N A { x with ord:=upn x.ord i o } F w (w1.setCell ⟨A.b,4+i,none⟩ (ptr p)) F':=by
 have hI:=((h.part .imm).below hb).holds
 have hlt:=(h.part .imm).lt
 refine ⟨upc F .imm (fun k=>F .imm k∨k=p∨Bk aT k∨Bk aK k),h.cellLv hb (4+i) (ptr p) (V':={ V with po:=upn V.po i p }) (by omega) (cells_po A V _ _ i p hi) ⟨?_,?_,hI.qu,fun k hk=>.inl (hI.fq k hk)⟩ ?_ ?_⟩
 ·obtain ⟨ao,cap,g⟩:=hI.pg
  exact ⟨ao,cap,g.more fun k hk=>.inl hk⟩
 ·intro j hj
  by_cases e:j=i
  ·subst e
   refine ⟨aT,cT,aK,cK,?_⟩
   show OrdP (upn V.po j p j) (upn x.ord j o j) _ w1 aT cT aK cK
   rw [upn_same,upn_same]
   exact ⟨hbx,ht,hk,.inr (.inl rfl),fun k hk=>.inr (.inr (.inl hk)),fun k hk=>.inr (.inr (.inr hk))⟩
  ·obtain ⟨aT',cT',aK',cK',g⟩:=hI.od j hj
   refine ⟨aT',cT',aK',cK',?_⟩
   show OrdP (upn V.po i p j) (upn x.ord i o j) _ w1 aT' cT' aK' cK'
   rw [upn_other e,upn_other e]
   exact g.more fun k hk=>.inl hk
 ·rintro k (hk | rfl | ⟨a,ha,rfl⟩ | ⟨a,ha,rfl⟩)
  ·exact Nat.lt_of_lt_of_le (hlt k hk) hb.size
  ·exact hbx.lt
  ·exact (hr a ha).2
  ·exact (hr2 a ha).2
 ·rintro k (hk | rfl | ⟨a,ha,rfl⟩ | ⟨a,ha,rfl⟩)
  ·exact .inl hk
  ·exact .inr hp
  ·exact .inr (hr a ha).1
  ·exact .inr (hr2 a ha).1
theorem Egv.quotas (h:Egv N w A V x F){w1:World}(hb:Below w.heap.size w w1){q:List Int}{qo:Option Addr}{qc:Nat}(hrd:GRd EI w1 qo q qc)(hr:∀ a,qo=some a→w.heap.size≤a.block∧a.block<w1.heap.size):
  ∃ F',Lv N A { x with quotas:=q } F w (w1.setCell ⟨A.b,24,none⟩ (.slice qo q.length qc)) F':=by
 have hI:=((h.part .imm).below hb).holds
 have hlt:=(h.part .imm).lt
 refine ⟨upc F .imm (fun k=>F .imm k∨Bk qo k),h.cellLv hb 24 (.slice qo q.length qc) (V':={ V with qo:=qo,qc:=qc }) (by decide) (by rfl) ⟨?_,?_,hrd,fun k hk=>.inr hk⟩ ?_ ?_⟩
 ·obtain ⟨ao,cap,g⟩:=hI.pg
  exact ⟨ao,cap,g.more fun k hk=>.inl hk⟩
 ·intro i hi
  obtain ⟨aT,cT,aK,cK,g⟩:=hI.od i hi
  exact ⟨aT,cT,aK,cK,g.more fun k hk=>.inl hk⟩
 ·rintro k (hk | ⟨a,ha,rfl⟩)
  ·exact Nat.lt_of_lt_of_le (hlt k hk) hb.size
  ·exact (hr a ha).2
 ·rintro k (hk | ⟨a,ha,rfl⟩)
  ·exact .inl hk
  ·exact .inr (hr a ha).1
theorem Egv.last (h:Egv N w A V x F){w1:World}(hb:Below w.heap.size w w1)(l:Int):∃ F',Lv N A { x with last:=l } F w (w1.setCell ⟨A.b,26,none⟩ (.int .u64 l)) F':=by
 have hI:=((h.part .imm).below hb).holds
 have hlt:=(h.part .imm).lt
 exact ⟨upc F .imm (F .imm),h.cellLv hb 26 (.int .u64 l) (V':=V) (by decide) (by rfl) ⟨hI.pg,hI.od,hI.qu,hI.fq⟩ (fun k hk=>Nat.lt_of_lt_of_le (hlt k hk) hb.size) (fun k hk=>.inl hk)⟩
end
end Go.Proofs.YtcdpiefflnaghaaGreatDoor.En
