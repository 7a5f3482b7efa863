/-
  Package engine and what stands beneath it, part 31: contracts of functions, and what they rest on.
-/
import Derived.Test.YtcdpiefflnaghaaGreatDoorU27
import Derived.Test.YtcdpiefflnaghaaGreatDoorU29
import Derived.Test.YtcdpiefflnaghaaGreatDoorU30
set_option linter.unusedSimpArgs false
set_option linter.unusedVariables false
set_option maxRecDepth 100000
namespace Go.Proofs.YtcdpiefflnaghaaGreatDoor.En
open Go.Proofs.YtcdpiefflnaghaaGreatDoor.It
open Go.Proofs.YtcdpiefflnaghaaGreatDoor.Lr
open Go.Proofs.YtcdpiefflnaghaaGreatDoor.Qt
open Go.Proofs.YtcdpiefflnaghaaGreatDoor.Sb
open Go.RowKit Go.Proofs.YtcdpiefflnaghaaGreatDoor
theorem tl_of {w:World}{ao:Option Addr}{l:List ByteArray}{cap:Nat}(h:GRd ES w ao l cap):Lr.Tl w ao l cap:=by
 refine ⟨h.hl,h.hc,h.hn,?_⟩
 rcases h.at_ with e | ⟨b,off,e,hb,hc⟩
 ·exact .inl e
 ·refine .inr ⟨b,off,e,hb,fun j hj=>?_⟩
  have:=hc j hj 0 (by decide)
  simpa [ES] using this
theorem own_ts {w:World}{base:Nat}{v:Value}{l:List ByteArray}(h:Lr.OwnTs w base v l):GOwn ES w base v l:=by
 unfold Lr.OwnTs at h
 unfold GOwn
 have e:l.flatMap ES.cells=l.map Value.string:=by
  clear h
  induction l with
  | nil=>rfl
  | cons a l ih=>rw [List.flatMap_cons,List.map_cons,← ih];rfl
 rw [e]
 exact h
structure NewOd (w w':World)(o:Od)(aT:Option Addr)(cT:Nat)(aK:Option Addr)(cK:Nat):Prop where
 t:GRd ES w' aT o.T cT
 k:GRd ES w' aK o.K cK
 nt:∀ a,aT=some a→w.heap.size≤a.block∧a.block<w'.heap.size
 nk:∀ a,aK=some a→w.heap.size≤a.block∧a.block<w'.heap.size
theorem newOd_of {w w':World}{aT aK:Option Addr}{cT cK:Nat}{T K:List ByteArray}(h:Lr.Rw w' w.heap.size aT cT aK cK T K):NewOd w w' ⟨T,K⟩ aT cT aK cK:=
 ⟨(own_ts h.t).rdOf okS,(own_ts h.k).rdOf okS,fun a ha=>by subst ha;exact (own_ts h.t).lt a.block rfl,fun a ha=>by subst ha;exact (own_ts h.k).lt a.block rfl⟩
section
variable {w:World} {o:Od} {aT aK:Option Addr} {cT cK:Nat} (ht:GRd ES w aT o.T cT) (hk:GRd ES w aK o.K cK) (hok:o.ok)
include ht hk hok
theorem ldel {key:ByteArray}(hin:key∈o.line):Calls Tryz.prog 155 #[.agg #[.slice aT o.T.length cT,.slice aK o.K.length cK],.string key] w fun e w'=>∃ aT' cT' aK' cK',e=.returned (.tuple #[.agg #[.slice aT' (o.del key).T.length cT',.slice aK' (o.del key).K.length cK'],.int .i64 0])∧NewOd w w' (o.del key) aT' cT' aK' cK'∧Below w.heap.size w w':=by
 have hm:=hok.many
 refine (Lr.del_ok o.T o.K aT aK cT cK key w (tl_of ht) (tl_of hk) (by omega) (by omega) (Lr.htE_in hok hin)).mono ?_
 rintro e w' ⟨aT',cT',aK',cK',rfl,hR,hb⟩
 exact ⟨aT',cT',aK',cK',rfl,newOd_of hR,hb⟩
theorem lhit {key:ByteArray}(hin:key∈o.line):Calls Tryz.prog 187 #[.agg #[.slice aT o.T.length cT,.slice aK o.K.length cK],.string key] w fun e w'=>∃ aT' cT' aK' cK',e=.returned (.tuple #[.agg #[.slice aT' (o.hit key).T.length cT',.slice aK' (o.hit key).K.length cK'],.int .i64 0])∧NewOd w w' (o.hit key) aT' cT' aK' cK'∧Below w.heap.size w w':=by
 have hm:=hok.many
 refine (Lr.hit_ok o.T o.K aT aK cT cK key w (tl_of ht) (tl_of hk) (by omega) (by omega) (Lr.htE_in hok hin)).mono ?_
 rintro e w' ⟨aT',cT',aK',cK',rfl,hR,hb⟩
 exact ⟨aT',cT',aK',cK',rfl,newOd_of hR,hb⟩
theorem ladd {key:ByteArray}(hin:key∉o.line)(hkk:kOk key=true)(hl:o.line.length<256):Calls Tryz.prog 172 #[.agg #[.slice aT o.T.length cT,.slice aK o.K.length cK],.string key] w fun e w'=>∃ aT' cT' aK' cK',e=.returned (.tuple #[.agg #[.slice aT' (o.add key).T.length cT',.slice aK' (o.add key).K.length cK'],.int .i64 0])∧NewOd w w' (o.add key) aT' cT' aK' cK'∧Below w.heap.size w w':=by
 have hl2:o.K.length+o.T.length<256:=by unfold Od.line at hl;simpa using hl
 have hE:Lr.adE o.T o.K key=0:=by
  unfold Lr.adE
  rw [if_neg (by simp [Lr.ckw_ok hok hkk]),if_neg (show ¬ key∈o.K++o.T from hin),if_neg (by omega)]
 refine (Lr.add_ok o.T o.K aT aK cT cK key w (tl_of ht) (tl_of hk) hE).mono ?_
 rintro e w' ⟨aT',cT',aK',cK',rfl,hR,hb⟩
 exact ⟨aT',cT',aK',cK',rfl,newOd_of hR,hb⟩
theorem lvic:Calls Tryz.prog 275 #[.agg #[.slice aT o.T.length cT,.slice aK o.K.length cK]] w fun e w'=>e=.returned (.tuple #[.string (o.line.getLast?.getD ⟨#[]⟩),.int .i64 (if o.line=[] then 6 else 0)])∧Below w.heap.size w w':=by
 have hm:=hok.many
 refine (Lr.victim_any o.T o.K aT aK cT cK w (tl_of ht) (tl_of hk) (by omega) (by omega)).mono ?_
 rintro e w' ⟨rfl,hb⟩
 refine ⟨?_,hb⟩
 have h1:Lr.okO o.T o.K=true:=Lr.okO_iff.2 hok
 rw [if_pos h1,if_pos h1]
 have e1:Lr.vic o.T o.K=o.line.getLast?.getD ⟨#[]⟩:=by
  unfold Lr.vic Od.line
  cases hT:o.T with
  | nil=>simp
  | cons a l=>simp [List.getLast?_cons]
 have e2:(if o.T.length+o.K.length=0 then (6:Int) else 0)=if o.line=[] then 6 else 0:=by
  by_cases e:o.line=[]
  ·rw [if_pos e]
   unfold Od.line at e
   have:=congrArg List.length e
   simp at this
   simp [this]
  ·rw [if_neg e]
   unfold Od.line at e
   rw [if_neg]
   intro h2
   refine e (List.eq_nil_of_length_eq_zero ?_)
   rw [List.length_append]
   omega
 rw [e1,e2]
end
theorem sb_of {w:World}{ao:Option Addr}{l:List Pg}{cap:Nat}(h:GRd EP w ao l cap):Sb.Sb w ao l cap:=by
 refine ⟨h.hl,h.hc,h.hn,?_⟩
 rcases h.at_ with e | ⟨b,off,e,hb,hc⟩
 ·exact .inl e
 ·refine .inr ⟨b,off,e,hb,fun i hi=>⟨?_,?_,?_⟩⟩
  ·simpa [EP] using hc i hi 0 (by decide)
  ·simpa [EP] using hc i hi 1 (by decide)
  ·simpa [EP] using hc i hi 2 (by decide)
theorem of_sb {w:World}{ao:Option Addr}{l:List Pg}{cap:Nat}(h:Sb.Sb w ao l cap):GRd EP w ao l cap:=by
 refine ⟨h.hl,h.hc,h.hn,?_⟩
 rcases h.at_ with e | ⟨b,off,e,hb,hc⟩
 ·exact .inl e
 ·refine .inr ⟨b,off,e,hb,fun i hi j hj=>?_⟩
  have hj3:j<3:=hj
  obtain ⟨h0,h1,h2⟩:=hc i hi
  match j,hj3 with
  | 0,_=>simpa [EP] using h0
  | 1,_=>simpa [EP] using h1
  | 2,_=>simpa [EP] using h2
structure NewPg (w w':World)(ps:List Pg)(ao:Option Addr)(cap:Nat):Prop where
 rd:GRd EP w' ao ps cap
 nw:∀ a,ao=some a→w.heap.size≤a.block∧a.block<w'.heap.size
theorem newPg_of {w w':World}{ps:List Pg}{ao:Option Addr}{cap:Nat}(hne:ps≠[])(h:Sb.Sb w' ao ps cap)(hf:Sb.FreshS w' w.heap.size (.slice ao ps.length cap) ps):NewPg w w' ps ao cap:=by
 refine ⟨of_sb h,?_⟩
 obtain ⟨a2,c2,e,_,_,_,h4⟩:=hf
 injection e with e1 e2 e3
 subst e1
 rcases h4 with h5 | ⟨g,rfl,h6,h7,_⟩
 ·exact absurd h5 hne
 ·intro a ha
  cases ha
  exact ⟨h6,h7⟩
section
variable {w:World} {ps:List Pg} {ao:Option Addr} {cap:Nat} (h:GRd EP w ao ps cap) (hs:sOk ps=true)
include h hs
theorem sfree {i k:Nat}(hi:i<ps.length)(hb:ps[i].u.testBit k=true):Calls Tryz.prog 157 #[.agg #[.slice ao ps.length cap],.int .i64 i,.int .i64 k] w fun e w'=>∃ ro rc,e=.returned (.tuple #[.agg #[.slice ro (freeR ps i k).length rc],.int .i64 0])∧NewPg w w' (freeR ps i k) ro rc∧Below w.heap.size w w':=by
 obtain ⟨h1,h2⟩:=free_eq hs hi hb
 refine (Sb.free_sb w ao ps cap (sb_of h) i k 0 (freeR ps i k) h1 rfl).mono ?_
 rintro e w' ⟨ro,rc,rfl,h3,h4,hb⟩
 refine ⟨ro,rc,rfl,newPg_of ?_ h3 h4,hb⟩
 rw [h2]
 intro e
 have:=congrArg List.length e
 simp at this
 simp [this] at hi
theorem stake {t c q:Int}{i k:Nat}(ht:isT t=true)(hc:isC c=true)(hq:0≤q∧q≤16)(hp:place ps t c q=some (i,k))(hi:i<ps.length):Calls Tryz.prog 170 #[.agg #[.slice ao ps.length cap],.int .i64 t,.int .i64 c,.int .i64 q] w fun e w'=>∃ ro rc,e=.returned (.tuple #[.agg #[.slice ro (ps.set i (taken ps t c i k)).length rc],.int .i64 i,.int .i64 k,.int .i64 0])∧NewPg w w' (ps.set i (taken ps t c i k)) ro rc∧Below w.heap.size w w':=by
 have hQ:isQ q=true:=by simp [isQ];omega
 have hE:takeE ps t c q=0:=by
  unfold takeE
  simp [hs,ht,hc,hQ,hp]
 have hR:takeR ps t c q=(ps.set i (taken ps t c i k),i,k):=by
  unfold takeR
  rw [if_pos hE,hp]
 refine (Sb.take_sb w ao ps cap (sb_of h) t c q 0 _ i k hE hR).mono ?_
 rintro e w' ⟨ro,rc,rfl,h3,h4,hb⟩
 refine ⟨ro,rc,rfl,newPg_of ?_ h3 h4,hb⟩
 intro e
 have:=congrArg List.length e
 simp at this
 simp [this] at hi
theorem stakeNo {t c q:Int}(ht:isT t=true)(hc:isC c=true)(hq:0≤q∧q≤16)(hp:place ps t c q=none):Calls Tryz.prog 170 #[.agg #[.slice ao ps.length cap],.int .i64 t,.int .i64 c,.int .i64 q] w fun e w'=>∃ ro rc,e=.returned (.tuple #[.agg #[.slice ro 0 rc],.int .i64 (0:Nat),.int .i64 (0:Nat),.int .i64 9])∧Below w.heap.size w w':=by
 have hQ:isQ q=true:=by simp [isQ];omega
 have hE:takeE ps t c q=9:=by
  unfold takeE
  simp [hs,ht,hc,hQ,hp]
 have hR:takeR ps t c q=([],0,0):=by
  unfold takeR
  rw [if_neg (by rw [hE];decide)]
 refine (Sb.take_sb w ao ps cap (sb_of h) t c q 9 _ 0 0 hE hR).mono ?_
 rintro e w' ⟨ro,rc,rfl,h3,h4,hb⟩
 exact ⟨ro,rc,rfl,hb⟩
end
end Go.Proofs.YtcdpiefflnaghaaGreatDoor.En
namespace Go.Proofs.YtcdpiefflnaghaaGreatDoor.En
open Go.Proofs.YtcdpiefflnaghaaGreatDoor.It
open Go.Proofs.YtcdpiefflnaghaaGreatDoor.Lr
open Go.Proofs.YtcdpiefflnaghaaGreatDoor.Qt
open Go.Proofs.YtcdpiefflnaghaaGreatDoor.Sb
open Go.RowKit Go.Proofs.YtcdpiefflnaghaaGreatDoor
theorem _root_.Go.Proofs.YtcdpiefflnaghaaGreatDoor.GRd.nt {w:World}{ao:Option Addr}{l:List Int}{cap:Nat}(h:GRd EI w ao l cap){i:Nat}(hi:i<l.length):∃ b off,ao=some ⟨b,off,none⟩∧b<w.heap.size∧w.cell? ⟨b,off+i,none⟩=some (.int .i64 l[i]):=by
 obtain ⟨b,off,e,hb,hc⟩:=h.lies (by intro e;rw [e] at hi;simp at hi)
 have h0:=hc i hi 0 (by decide)
 exact ⟨b,off,e,hb,by simpa [EI] using h0⟩
theorem NewPg.after {w w0 w1:World}{R:List Pg}{ro:Option Addr}{rc:Nat}(h:NewPg w0 w1 R ro rc)(hs:w.heap.size≤w0.heap.size)(o:Obj):GRd EP (w1.alloc o) ro R rc∧∀ a,ro=some a→w.heap.size≤a.block∧a.block<(w1.alloc o).heap.size:=
 ⟨h.rd.alloc o,fun a ha=>by have:=h.nw a ha;simp;omega⟩
theorem NewPg.before {w w0 w1:World}{R:List Pg}{ro:Option Addr}{rc:Nat}(h:NewPg w0 w1 R ro rc)(hs:w.heap.size<w0.heap.size)(v:Value):GRd EP (w1.setCell ⟨w.heap.size,0,none⟩ v) ro R rc∧∀ a,ro=some a→w.heap.size≤a.block∧a.block<(w1.setCell ⟨w.heap.size,0,none⟩ v).heap.size:=
 ⟨h.rd.other _ _ _ (fun g off e _ e2=>by have:=h.nw _ e;simp at this;omega),fun a ha=>by have:=h.nw a ha;simp;omega⟩
set_option maxHeartbeats 4000000 in
theorem take_ok {N:Nat}{A:Ad}{x:Ra}{F:Cp→Nat→Prop}{w:World}(h:Eg N w A x F)(hs:sOk x.pages=true){t:Nat}{c:Int}{i k:Nat}(ht4:t<4)(hc:isC c=true)(htl:t<x.quotas.length)(hq:0≤x.quotas[t]∧x.quotas[t]≤16)(hp:place x.pages t c x.quotas[t]=some (i,k))(hi:i<x.pages.length)(hi16:i<16)(hk16:k<16):
  Calls Tryz.prog 113 #[ptr A.b,.int .i64 t,.int .i64 c] w fun e w'=>e=.returned (.tuple #[.int .i64 (i * 16+k:Nat),.bool true])∧∃ F',Lv N A { x with pages:=x.pages.set i (taken x.pages t c i k) } F w w' F':=by
 obtain ⟨V,h⟩:=h
 have HE:=Hid.m h
 have h3:=h.c3
 have h24:=h.c24
 have hlt:=h.lt
 obtain ⟨ao,cap,hP⟩:=h.imm.pg
 have hp0:=hP.box.c 0 (by simp)
 have hpl:=hP.box.lt
 simp only [List.getElem_cons_zero] at hp0
 obtain ⟨qb,qf,hqo,hqb,hqc⟩:=h.imm.qu.nt htl
 have hql:=h.imm.qu.len
 have ht:isT (t:Int)=true:=by simp [isT];omega
 have HT:=Hid.m (fun W (hb:Below w.heap.size w W)=>stake (hP.rd.below hb) hs ht hc hq hp hi)
 have HF:=Hid.m (fun W=>eplaceOf_any i k (by omega) (by omega) W)
 obtain ⟨R,hR⟩:∃ R,R=x.pages.set i (taken x.pages t c i k):=⟨_,rfl⟩
 rw [← hR] at HT ⊢
 obtain ⟨n,hn⟩:∃ n,n=x.pages.length:=⟨_,rfl⟩
 obtain ⟨q,hqq⟩:∃ q,q=x.quotas[t]:=⟨_,rfl⟩
 obtain ⟨m,hm⟩:∃ m,m=x.quotas.length:=⟨_,rfl⟩
 rw [← hqq] at HT hqc
 rw [← hn] at HT hp0
 rw [hqo,← hm] at h24
 rw [← hm] at htl hql
 clear hR hn hqq hm hP h hq hp hi hs hqo
 have htl2:(t:Int)<(m:Int):=by omega
 unfold ptr at h3 ⊢
 have HS:Hid (∀ W,Below w.heap.size w W→W.cell? ⟨A.b,3,none⟩=some (.pointer (some ⟨V.pp,0,none⟩))∧W.cell? ⟨V.pp,0,none⟩=some (.slice ao n cap)∧W.cell? ⟨A.b,24,none⟩=some (.slice (some ⟨qb,qf,none⟩) m V.qc)∧W.cell? ⟨qb,qf+t,none⟩=some (.int .i64 q)):=fun W hb=>⟨(hb.cell (p:=⟨A.b,3,none⟩) hlt).trans h3,(hb.cell (p:=⟨V.pp,0,none⟩) hpl).trans hp0,(hb.cell (p:=⟨A.b,24,none⟩) hlt).trans h24,(hb.cell (p:=⟨qb,qf+t,none⟩) hqb).trans hqc⟩
 go_enter Tryz.func113,Tryz.ntmps113
 go_upto_region 1 with (fail)
 go_cut [8,9,10,11] from 12 (fun s8 s9 s10 s11 wx=>∃ B ro rc,s8=.pointer (some ⟨B,0,none⟩)∧s9=.int .i64 i∧s10=.int .i64 k∧s11=.int .i64 0∧Hid (Below w.heap.size w wx∧w.heap.size≤B∧GBx wx B [.slice ro R.length rc]∧GRd EP wx ro R rc∧∀ a,ro=some a→w.heap.size≤a.block∧a.block<wx.heap.size))
 case first=>
  go_region_held3 (fun W=>W.cell? ⟨A.b,3,none⟩=some (.pointer (some ⟨V.pp,0,none⟩))∧W.cell? ⟨V.pp,0,none⟩=some (.slice ao n cap)∧W.cell? ⟨A.b,24,none⟩=some (.slice (some ⟨qb,qf,none⟩) m V.qc)∧W.cell? ⟨qb,qf+t,none⟩=some (.int .i64 q))
   (first | exact HS.out _ HB1.out | exact HS.out _ (Below.refl _ _) | exact HS.out _ (Below.refl _ _).drew | exact HS.out _ (g_alloc _ _) | exact HS.out _ (g_alloc _ _).drew | exact HS.out _ (g_on HB1.out (g_alloc _ _)) | exact HS.out _ (HB1.out.setCell (by simp) _) | exact HS.out _ ((g_on HB1.out (g_alloc _ _)).setCell (by simp;omega) _))
   (first
   | (go_at_call 170;refine (HT.out w.drew (Below.refl _ _).drew).mono ?_;rintro e w1 ⟨ro,rc,rfl,hN,hb1⟩;have HA:=Hid.m (⟨g_drew hb1,hN⟩:Below w.heap.size w w1∧NewPg w.drew w1 R ro rc);have HB1:=Hid.m (g_drew hb1);clear hb1 hN)
   | (go_at_call 170;refine (HT.out (w.alloc (.cells #[.slice none 0 0] 51)).drew (g_alloc _ _).drew).mono ?_;rintro e w1 ⟨ro,rc,rfl,hN,hb1⟩;have HX:=Hid.m ((GBx.made w [.slice none 0 0] 51).below (g_drew hb1));have HB:=Hid.m (⟨g_on (g_alloc w _) (g_drew hb1),hN⟩:Below w.heap.size w w1∧NewPg (w.alloc (.cells #[.slice none 0 0] 51)).drew w1 R ro rc);have HB1:=Hid.m (g_on (g_alloc w _) (g_drew hb1));have x0:=HX.out.c 0 (by simp);have x1:=HX.out.f 0;have x2:=HX.out.lt;simp only [List.getElem_cons_zero] at x0;clear hb1 hN))
  all_goals (go_wp2;go_meet)
  all_goals (case rel=>first
   | exact ⟨_,ro,rc,rfl,rfl,rfl,rfl,g_on HB1.out (g_alloc _ _),HB1.out.size,GBx.made w1 [.slice ro R.length rc] _,(HA.out.2.after (w:=w) (Nat.le_refl _) _).1,(HA.out.2.after (w:=w) (Nat.le_refl _) _).2⟩
   | exact ⟨_,ro,rc,rfl,rfl,rfl,rfl,HB1.out.setCell (p:=⟨w.heap.size,0,none⟩) (Nat.le_refl _) _,Nat.le_refl _,(HX.out.set 0 _ (by simp)).ext (by simp),(HB.out.2.before (w:=w) (by simp) _).1,(HB.out.2.before (w:=w) (by simp) _).2⟩)
 case rest=>
 obtain ⟨B,ro,rc,rfl,rfl,rfl,rfl,HC⟩:=hcut
 obtain ⟨w2,hw2⟩:∃ w2,w2=wc:=⟨_,rfl⟩
 rw [← hw2] at HC ⊢
 clear hw2
 have y3:=(HE.out.below HC.out.1).c3
 have yf:=(HE.out.below HC.out.1).f 3
 have ylt:=(HE.out.below HC.out.1).lt
 unfold ptr at y3
 obtain ⟨F',hL⟩:=HE.out.pages HC.out.1 HC.out.2.2.1 HC.out.2.2.2.1 HC.out.2.1 HC.out.2.2.2.2
 have HL:=Hid.m hL
 clear hL h3 h24 hp0 hqc
 unfold ptr at HL
 go_wp2_with (go_at_call 164;refine (HF.out _).mono ?_;rintro e w3 ⟨rfl,rfl⟩)
 go_ret2
 exact ⟨rfl,F',HL.out⟩
set_option maxHeartbeats 4000000 in
theorem take_no {N:Nat}{A:Ad}{x:Ra}{F:Cp→Nat→Prop}{w:World}(h:Eg N w A x F)(hs:sOk x.pages=true){t:Nat}{c:Int}(ht4:t<4)(hc:isC c=true)(htl:t<x.quotas.length)(hq:0≤x.quotas[t]∧x.quotas[t]≤16)(hp:place x.pages t c x.quotas[t]=none):
  Calls Tryz.prog 113 #[ptr A.b,.int .i64 t,.int .i64 c] w fun e w'=>e=.returned (.tuple #[.int .i64 0,.bool false])∧Below w.heap.size w w':=by
 obtain ⟨V,h⟩:=h
 have HE:=Hid.m h
 have h3:=h.c3
 have h24:=h.c24
 have hlt:=h.lt
 obtain ⟨ao,cap,hP⟩:=h.imm.pg
 have hp0:=hP.box.c 0 (by simp)
 have hpl:=hP.box.lt
 simp only [List.getElem_cons_zero] at hp0
 obtain ⟨qb,qf,hqo,hqb,hqc⟩:=h.imm.qu.nt htl
 have hql:=h.imm.qu.len
 have ht:isT (t:Int)=true:=by simp [isT];omega
 have HT:=Hid.m (fun W (hb:Below w.heap.size w W)=>stakeNo (hP.rd.below hb) hs ht hc hq hp)
 obtain ⟨n,hn⟩:∃ n,n=x.pages.length:=⟨_,rfl⟩
 obtain ⟨q,hqq⟩:∃ q,q=x.quotas[t]:=⟨_,rfl⟩
 obtain ⟨m,hm⟩:∃ m,m=x.quotas.length:=⟨_,rfl⟩
 rw [← hqq] at HT hqc
 rw [← hn] at HT hp0
 rw [hqo,← hm] at h24
 rw [← hm] at htl hql
 clear hn hqq hm hP h hq hp hs hqo
 have htl2:(t:Int)<(m:Int):=by omega
 unfold ptr at h3 ⊢
 have HS:Hid (∀ W,Below w.heap.size w W→W.cell? ⟨A.b,3,none⟩=some (.pointer (some ⟨V.pp,0,none⟩))∧W.cell? ⟨V.pp,0,none⟩=some (.slice ao n cap)∧W.cell? ⟨A.b,24,none⟩=some (.slice (some ⟨qb,qf,none⟩) m V.qc)∧W.cell? ⟨qb,qf+t,none⟩=some (.int .i64 q)):=fun W hb=>⟨(hb.cell (p:=⟨A.b,3,none⟩) hlt).trans h3,(hb.cell (p:=⟨V.pp,0,none⟩) hpl).trans hp0,(hb.cell (p:=⟨A.b,24,none⟩) hlt).trans h24,(hb.cell (p:=⟨qb,qf+t,none⟩) hqb).trans hqc⟩
 go_enter Tryz.func113,Tryz.ntmps113
 go_upto_region 1 with (fail)
 go_cut [8,9,10,11] from 12 (fun s8 s9 s10 s11 wx=>∃ B,s8=.pointer (some ⟨B,0,none⟩)∧s9=.int .i64 0∧s10=.int .i64 0∧s11=.int .i64 9∧Hid (Below w.heap.size w wx))
 case first=>
  go_region_held3 (fun W=>W.cell? ⟨A.b,3,none⟩=some (.pointer (some ⟨V.pp,0,none⟩))∧W.cell? ⟨V.pp,0,none⟩=some (.slice ao n cap)∧W.cell? ⟨A.b,24,none⟩=some (.slice (some ⟨qb,qf,none⟩) m V.qc)∧W.cell? ⟨qb,qf+t,none⟩=some (.int .i64 q))
   (first | exact HS.out _ HB1.out | exact HS.out _ (Below.refl _ _) | exact HS.out _ (Below.refl _ _).drew | exact HS.out _ (g_alloc _ _) | exact HS.out _ (g_alloc _ _).drew | exact HS.out _ (g_on HB1.out (g_alloc _ _)) | exact HS.out _ (HB1.out.setCell (by simp) _) | exact HS.out _ ((g_on HB1.out (g_alloc _ _)).setCell (by simp;omega) _))
   (first
   | (go_at_call 170;refine (HT.out w.drew (Below.refl _ _).drew).mono ?_;rintro e w1 ⟨ro,rc,rfl,hb1⟩;have HB1:=Hid.m (g_drew hb1);clear hb1)
   | (go_at_call 170;refine (HT.out (w.alloc (.cells #[.slice none 0 0] 51)).drew (g_alloc _ _).drew).mono ?_;rintro e w1 ⟨ro,rc,rfl,hb1⟩;have HX:=Hid.m ((GBx.made w [.slice none 0 0] 51).below (g_drew hb1));have HB1:=Hid.m (g_on (g_alloc w _) (g_drew hb1));have x0:=HX.out.c 0 (by simp);have x1:=HX.out.f 0;have x2:=HX.out.lt;simp only [List.getElem_cons_zero] at x0;clear hb1))
  all_goals (go_wp2;go_meet)
  all_goals (case rel=>first
   | exact ⟨_,rfl,rfl,rfl,rfl,g_on HB1.out (g_alloc _ _)⟩
   | exact ⟨_,rfl,rfl,rfl,rfl,HB1.out.setCell (p:=⟨w.heap.size,0,none⟩) (Nat.le_refl _) _⟩)
 case rest=>
 obtain ⟨B,rfl,rfl,rfl,rfl,HC⟩:=hcut
 go_wp2
 go_ret2
 exact ⟨rfl,HC.out⟩
end Go.Proofs.YtcdpiefflnaghaaGreatDoor.En
namespace Go.Proofs.YtcdpiefflnaghaaGreatDoor.En
open Go.Proofs.YtcdpiefflnaghaaGreatDoor.It
open Go.Proofs.YtcdpiefflnaghaaGreatDoor.Lr
open Go.Proofs.YtcdpiefflnaghaaGreatDoor.Qt
open Go.Proofs.YtcdpiefflnaghaaGreatDoor.Sb
open Go.RowKit Go.Proofs.YtcdpiefflnaghaaGreatDoor
theorem NewOd.after {w w0 w1:World}{o:Od}{aT aK:Option Addr}{cT cK:Nat}(h:NewOd w0 w1 o aT cT aK cK)(hs:w.heap.size≤w0.heap.size)(ob:Obj):NewOd w (w1.alloc ob) o aT cT aK cK:=
 ⟨h.t.alloc ob,h.k.alloc ob,fun a ha=>by have:=h.nt a ha;simp;omega,fun a ha=>by have:=h.nk a ha;simp;omega⟩
theorem NewOd.before {w w0 w1:World}{o:Od}{aT aK:Option Addr}{cT cK:Nat}(h:NewOd w0 w1 o aT cT aK cK)(hs:w.heap.size<w0.heap.size)(u v:Value):NewOd w ((w1.setCell ⟨w.heap.size,0,none⟩ u).setCell ⟨w.heap.size,1,none⟩ v) o aT cT aK cK:=
 ⟨(h.t.other _ _ _ (fun g off e _ e2=>by have:=h.nt _ e;simp at this;omega)).other _ _ _ (fun g off e _ e2=>by have:=h.nt _ e;simp at this;omega),(h.k.other _ _ _ (fun g off e _ e2=>by have:=h.nk _ e;simp at this;omega)).other _ _ _ (fun g off e _ e2=>by have:=h.nk _ e;simp at this;omega),fun a ha=>by have:=h.nt a ha;simp;omega,fun a ha=>by have:=h.nk a ha;simp;omega⟩
theorem ItmP.at_ {A:Ad}{kept:List (Int × Im)}{row:List Int}{F:Nat→Prop}{w:World}{ro:Option Addr}{rc:Nat}(h:ItmP A kept row F w ro rc){p:Nat}(hp:p<kept.length):w.cell? ⟨A.pk,p * 6,none⟩=some (.int .i64 kept[p].1)∧w.cell? ⟨A.pk,p * 6+1,none⟩=some (.string kept[p].2.key)∧w.cell? ⟨A.pk,p * 6+2,none⟩=some (.string kept[p].2.value)∧w.cell? ⟨A.pk,p * 6+3,none⟩=some (.int .u32 kept[p].2.flags)∧w.cell? ⟨A.pk,p * 6+4,none⟩=some (.int .i64 kept[p].2.till)∧w.cell? ⟨A.pk,p * 6+5,none⟩=some (.int .u64 kept[p].2.unique):=by
 have hl:(kept.flatMap EK.cells).length=kept.length * 6:=okK.flat_len kept
 have key:∀ j,j<6→w.cell? ⟨A.pk,p * 6+j,none⟩=(EK.cells kept[p])[j]?:=by
  intro j hj
  have h1:=h.body.c (p * 6+j) (by omega)
  have h2:=okK.flat_get kept p j hp hj
  rw [h1,← List.getElem?_eq_getElem]
  exact h2
 exact ⟨key 0 (by decide),key 1 (by decide),key 2 (by decide),key 3 (by decide),key 4 (by decide),key 5 (by decide)⟩
theorem ItmP.h0 {A:Ad}{kept:List (Int × Im)}{row:List Int}{F:Nat→Prop}{w:World}{ro:Option Addr}{rc:Nat}(h:ItmP A kept row F w ro rc):w.cell? ⟨A.pi,0,none⟩=some (.slice (some ⟨A.pk,0,none⟩) kept.length kept.length):=h.head.c 0 (by simp)
theorem ItmP.h1 {A:Ad}{kept:List (Int × Im)}{row:List Int}{F:Nat→Prop}{w:World}{ro:Option Addr}{rc:Nat}(h:ItmP A kept row F w ro rc):w.cell? ⟨A.pi,1,none⟩=some (.slice ro row.length rc):=h.head.c 1 (by simp)
theorem NewOd.down {w w0 w1:World}{o:Od}{aT aK:Option Addr}{cT cK:Nat}(h:NewOd w0 w1 o aT cT aK cK)(hs:w.heap.size≤w0.heap.size):NewOd w w1 o aT cT aK cK:=
 ⟨h.t,h.k,fun a ha=>by have:=h.nt a ha;omega,fun a ha=>by have:=h.nk a ha;omega⟩
set_option maxHeartbeats 4000000 in
theorem hit_any {N:Nat}{A:Ad}{x:Ra}{F:Cp→Nat→Prop}{w:World}(h:Eg N w A x F){p i t c:Nat}(hp:p<x.kept.length)(hpl:x.kept.length≤1000000)(hi:p / 16=i)(hil:i<x.pages.length)(ht:x.pages[i].t=(t:Int))(hc:x.pages[i].c=(c:Int))(ht4:t<4)(hc5:c<5)(hok:(x.ord (t * 5+c)).ok)(hin:x.kept[p].2.key∈(x.ord (t * 5+c)).line):
  Calls Tryz.prog 137 #[ptr A.b,.int .i64 p] w fun e w'=>e=.returned (.tuple #[])∧∃ F',Lv N A { x with ord:=upn x.ord (t * 5+c) ((x.ord (t * 5+c)).hit x.kept[p].2.key) } F w w' F':=by
 have HO:=Hid.m (orderAt_any h (p:=p) (by omega) hi hil ht hc ht4 hc5)
 obtain ⟨V,h⟩:=h
 have HE:=Hid.m h
 obtain ⟨ro,rc,hI⟩:=h.itm
 have hIx:t * 5+c<20:=by omega
 obtain ⟨aT,cT,aK,cK,hOd⟩:=h.imm.od _ hIx
 have HT:=Hid.m (fun W (hb:Below w.heap.size w W)=>lhit (hOd.t.below hb) (hOd.k.below hb) hok hin)
 have o0:=hOd.box.c 0 (by simp)
 have o1:=hOd.box.c 1 (by simp)
 have olt:=hOd.box.lt
 have c25:=h.c25
 have cor:=h.co hIx
 have hlt:=h.lt
 have p0:=hI.h0
 have plt:=hI.head.lt
 have k1:=(hI.at_ hp).2.1
 have klt:=hI.body.lt
 simp only [List.getElem_cons_zero,List.getElem_cons_succ] at o0 o1
 obtain ⟨key,hkey⟩:∃ key,key=x.kept[p].2.key:=⟨_,rfl⟩
 rw [← hkey] at HT k1 ⊢
 obtain ⟨K,hK⟩:∃ K,K=x.kept.length:=⟨_,rfl⟩
 rw [← hK] at p0 hp hpl
 obtain ⟨od,hod⟩:∃ od,od=x.ord (t * 5+c):=⟨_,rfl⟩
 rw [← hod] at HT o0 o1 ⊢
 obtain ⟨nT,hnT⟩:∃ n,n=od.T.length:=⟨_,rfl⟩
 obtain ⟨nK,hnK⟩:∃ n,n=od.K.length:=⟨_,rfl⟩
 rw [← hnT,← hnK] at HT
 rw [← hnT] at o0
 rw [← hnK] at o1
 obtain ⟨o',ho'⟩:∃ o',o'=od.hit key:=⟨_,rfl⟩
 rw [← ho'] at HT ⊢
 obtain ⟨I,hIe⟩:∃ I,I=t * 5+c:=⟨_,rfl⟩
 rw [← hIe] at HO hIx cor o0 o1 olt ⊢
 obtain ⟨P,hP⟩:∃ P,P=V.po I:=⟨_,rfl⟩
 rw [← hP] at cor o0 o1 olt
 have HPP:=Hid.m hP
 have hp2:(p:Int)<(K:Int):=by omega
 unfold ptr at c25 cor HO ⊢
 have HS:Hid (∀ W,Below w.heap.size w W→W.cell? ⟨A.b,4+I,none⟩=some (.pointer (some ⟨P,0,none⟩))∧W.cell? ⟨P,0,none⟩=some (.slice aT nT cT)∧W.cell? ⟨P,1,none⟩=some (.slice aK nK cK)∧W.cell? ⟨A.b,25,none⟩=some (.pointer (some ⟨A.pi,0,none⟩))∧W.cell? ⟨A.pi,0,none⟩=some (.slice (some ⟨A.pk,0,none⟩) K K)∧W.cell? ⟨A.pk,p * 6+1,none⟩=some (.string key)):=fun W hb=>⟨(hb.cell (p:=⟨A.b,4+I,none⟩) hlt).trans cor,(hb.cell (p:=⟨P,0,none⟩) olt).trans o0,(hb.cell (p:=⟨P,1,none⟩) olt).trans o1,(hb.cell (p:=⟨A.b,25,none⟩) hlt).trans c25,(hb.cell (p:=⟨A.pi,0,none⟩) plt).trans p0,(hb.cell (p:=⟨A.pk,p * 6+1,none⟩) klt).trans k1⟩
 clear cor o0 o1 c25 p0 k1 hkey hK hod hnT hnK ho' hIe hP h hI hOd hi hil ht hc hok hin
 go_enter Tryz.func137,Tryz.ntmps137
 go_upto_region 1 with (go_at_call 154;refine HO.out.mono ?_;rintro e w0 ⟨rfl,hb0⟩;have HB0:=Hid.m hb0;clear hb0)
 go_cut [5] from 7 (fun s5 wx=>∃ B aT' cT' aK' cK',s5=.pointer (some ⟨B,0,none⟩)∧Hid (Below w.heap.size w wx∧w.heap.size≤B∧GBx wx B [.slice aT' o'.T.length cT',.slice aK' o'.K.length cK']∧NewOd w wx o' aT' cT' aK' cK'))
 case first=>
  go_region_held3 (fun W=>W.cell? ⟨A.b,4+I,none⟩=some (.pointer (some ⟨P,0,none⟩))∧W.cell? ⟨P,0,none⟩=some (.slice aT nT cT)∧W.cell? ⟨P,1,none⟩=some (.slice aK nK cK)∧W.cell? ⟨A.b,25,none⟩=some (.pointer (some ⟨A.pi,0,none⟩))∧W.cell? ⟨A.pi,0,none⟩=some (.slice (some ⟨A.pk,0,none⟩) K K)∧W.cell? ⟨A.pk,p * 6+1,none⟩=some (.string key))
   (first | exact HS.out _ HB1.out | exact HS.out _ HB0.out | exact HS.out _ HB0.out.drew | exact HS.out _ (g_on HB0.out (g_alloc _ _)) | exact HS.out _ (g_on HB0.out (g_alloc _ _)).drew | exact HS.out _ (g_on HB1.out (g_alloc _ _)) | exact HS.out _ ((HB1.out.setCell (p:=⟨w0.heap.size,0,none⟩) HB0.out.size _).setCell (p:=⟨w0.heap.size,1,none⟩) HB0.out.size _))
   (first
   | (go_at_call 187;refine (HT.out w0.drew HB0.out.drew).mono ?_;rintro e w1 ⟨aT',cT',aK',cK',rfl,hN,hb1⟩;have HA:=Hid.m hN;have HB1:=Hid.m (g_on HB0.out (g_drew hb1));clear hb1 hN)
   | (go_at_call 187;refine (HT.out (w0.alloc (.cells #[.slice none 0 0,.slice none 0 0] 108)).drew (g_on HB0.out (g_alloc _ _)).drew).mono ?_;rintro e w1 ⟨aT',cT',aK',cK',rfl,hN,hb1⟩;have HX:=Hid.m ((GBx.made w0 [.slice none 0 0,.slice none 0 0] 108).below (g_drew hb1));have HA2:=Hid.m hN;have HB1:=Hid.m (g_on HB0.out (g_on (g_alloc w0 _) (g_drew hb1)));have x0:=HX.out.c 0 (by simp);have x00:=HX.out.c 1 (by simp);have x1:=HX.out.f 0;have x11:=HX.out.f 1;have x2:=HX.out.lt;simp only [List.getElem_cons_zero,List.getElem_cons_succ] at x0 x00;clear hb1 hN))
  all_goals (go_wp2;go_meet)
  all_goals (case rel=>first
   | exact ⟨_,aT',cT',aK',cK',rfl,g_on HB1.out (g_alloc _ _),HB1.out.size,GBx.made w1 [.slice aT' o'.T.length cT',.slice aK' o'.K.length cK'] _,(HA.out.after (w:=w) HB0.out.size _)⟩
   | exact ⟨_,aT',cT',aK',cK',rfl,(HB1.out.setCell (p:=⟨w0.heap.size,0,none⟩) HB0.out.size _).setCell (p:=⟨w0.heap.size,1,none⟩) HB0.out.size _,HB0.out.size,((HX.out.set 0 _ (by simp)).set 1 _ (by simp)).ext (by simp),NewOd.down (HA2.out.before (w:=w0) (by simp) _ _) HB0.out.size⟩)
 case rest=>
 obtain ⟨B,aT',cT',aK',cK',rfl,HC⟩:=hcut
 obtain ⟨w2,hw2⟩:∃ w2,w2=wc:=⟨_,rfl⟩
 rw [← hw2] at HC ⊢
 clear hw2
 have y3:=(HS.out _ HC.out.1).1
 have yf:=(HE.out.below HC.out.1).f (4+I)
 have ylt:=(HE.out.below HC.out.1).lt
 obtain ⟨F1,hL⟩:=HE.out.order HC.out.1 (o:=o') hIx HC.out.2.2.1 HC.out.2.2.2.t HC.out.2.2.2.k HC.out.2.1 HC.out.2.2.2.nt HC.out.2.2.2.nk
 have HL:=Hid.m hL
 clear hL
 unfold ptr at HL
 go_wp2
 go_end0
 exact ⟨rfl,F1,HL.out⟩
set_option maxHeartbeats 4000000 in
theorem release_any {N:Nat}{A:Ad}{x:Ra}{F:Cp→Nat→Prop}{w:World}(h:Eg N w A x F){p i t c:Nat}(hp:p<x.kept.length)(hpl:x.kept.length≤1000000)(hi:p / 16=i)(hil:i<x.pages.length)(ht:x.pages[i].t=(t:Int))(hc:x.pages[i].c=(c:Int))(ht4:t<4)(hc5:c<5)(hok:(x.ord (t * 5+c)).ok)(hin:x.kept[p].2.key∈(x.ord (t * 5+c)).line)(hs:sOk x.pages=true)(hbit:x.pages[i].u.testBit (p % 16)=true):
  Calls Tryz.prog 95 #[ptr A.b,.int .i64 p] w fun e w'=>e=.returned (.tuple #[])∧∃ F',Lv N A { x with ord:=upn x.ord (t * 5+c) ((x.ord (t * 5+c)).del x.kept[p].2.key),pages:=freeR x.pages i (p % 16:Nat) } F w w' F':=by
 have HO:=Hid.m (orderAt_any h (p:=p) (by omega) hi hil ht hc ht4 hc5)
 obtain ⟨V,h⟩:=h
 have HE:=Hid.m h
 obtain ⟨ro,rc,hI⟩:=h.itm
 have hIx:t * 5+c<20:=by omega
 obtain ⟨aT,cT,aK,cK,hOd⟩:=h.imm.od _ hIx
 have HT:=Hid.m (fun W (hb:Below w.heap.size w W)=>ldel (hOd.t.below hb) (hOd.k.below hb) hok hin)
 have o0:=hOd.box.c 0 (by simp)
 have o1:=hOd.box.c 1 (by simp)
 have olt:=hOd.box.lt
 have c25:=h.c25
 have cor:=h.co hIx
 have hlt:=h.lt
 have p0:=hI.h0
 have plt:=hI.head.lt
 have k1:=(hI.at_ hp).2.1
 have klt:=hI.body.lt
 simp only [List.getElem_cons_zero,List.getElem_cons_succ] at o0 o1
 obtain ⟨key,hkey⟩:∃ key,key=x.kept[p].2.key:=⟨_,rfl⟩
 rw [← hkey] at HT k1 ⊢
 obtain ⟨K,hK⟩:∃ K,K=x.kept.length:=⟨_,rfl⟩
 rw [← hK] at p0 hp hpl
 obtain ⟨od,hod⟩:∃ od,od=x.ord (t * 5+c):=⟨_,rfl⟩
 rw [← hod] at HT o0 o1 ⊢
 obtain ⟨nT,hnT⟩:∃ n,n=od.T.length:=⟨_,rfl⟩
 obtain ⟨nK,hnK⟩:∃ n,n=od.K.length:=⟨_,rfl⟩
 rw [← hnT,← hnK] at HT
 rw [← hnT] at o0
 rw [← hnK] at o1
 obtain ⟨o',ho'⟩:∃ o',o'=od.del key:=⟨_,rfl⟩
 rw [← ho'] at HT ⊢
 obtain ⟨I,hIe⟩:∃ I,I=t * 5+c:=⟨_,rfl⟩
 rw [← hIe] at HO hIx cor o0 o1 olt ⊢
 obtain ⟨P,hP⟩:∃ P,P=V.po I:=⟨_,rfl⟩
 rw [← hP] at cor o0 o1 olt
 have HPP:=Hid.m hP
 have hp2:(p:Int)<(K:Int):=by omega
 unfold ptr at c25 cor HO ⊢
 have HS:Hid (∀ W,Below w.heap.size w W→W.cell? ⟨A.b,4+I,none⟩=some (.pointer (some ⟨P,0,none⟩))∧W.cell? ⟨P,0,none⟩=some (.slice aT nT cT)∧W.cell? ⟨P,1,none⟩=some (.slice aK nK cK)∧W.cell? ⟨A.b,25,none⟩=some (.pointer (some ⟨A.pi,0,none⟩))∧W.cell? ⟨A.pi,0,none⟩=some (.slice (some ⟨A.pk,0,none⟩) K K)∧W.cell? ⟨A.pk,p * 6+1,none⟩=some (.string key)):=fun W hb=>⟨(hb.cell (p:=⟨A.b,4+I,none⟩) hlt).trans cor,(hb.cell (p:=⟨P,0,none⟩) olt).trans o0,(hb.cell (p:=⟨P,1,none⟩) olt).trans o1,(hb.cell (p:=⟨A.b,25,none⟩) hlt).trans c25,(hb.cell (p:=⟨A.pi,0,none⟩) plt).trans p0,(hb.cell (p:=⟨A.pk,p * 6+1,none⟩) klt).trans k1⟩
 have HFREE:=Hid.m (fun (W:World) (ao:Option Addr) (cap:Nat) (hr:GRd EP W ao x.pages cap)=>sfree hr hs hil hbit)
 have HCH:=Hid.m (fun W=>echunkAt_any p (by omega) W)
 rw [hi] at HCH
 obtain ⟨R,hR⟩:∃ R,R=freeR x.pages i (p % 16:Nat):=⟨_,rfl⟩
 rw [← hR] at HFREE ⊢
 clear hR
 clear cor o0 o1 c25 p0 k1 hkey hK hod hnT hnK ho' hIe hP h hI hOd hi hil ht hc hok hin hs hbit
 go_enter Tryz.func95,Tryz.ntmps95
 go_upto_region 1 with (go_at_call 154;refine HO.out.mono ?_;rintro e w0 ⟨rfl,hb0⟩;have HB0:=Hid.m hb0;clear hb0)
 go_cut [5] from 11 (fun s5 wx=>∃ B aT' cT' aK' cK',s5=.pointer (some ⟨B,0,none⟩)∧Hid (Below w.heap.size w wx∧w.heap.size≤B∧GBx wx B [.slice aT' o'.T.length cT',.slice aK' o'.K.length cK']∧NewOd w wx o' aT' cT' aK' cK'))
 case first=>
  go_region_held3 (fun W=>W.cell? ⟨A.b,4+I,none⟩=some (.pointer (some ⟨P,0,none⟩))∧W.cell? ⟨P,0,none⟩=some (.slice aT nT cT)∧W.cell? ⟨P,1,none⟩=some (.slice aK nK cK)∧W.cell? ⟨A.b,25,none⟩=some (.pointer (some ⟨A.pi,0,none⟩))∧W.cell? ⟨A.pi,0,none⟩=some (.slice (some ⟨A.pk,0,none⟩) K K)∧W.cell? ⟨A.pk,p * 6+1,none⟩=some (.string key))
   (first | exact HS.out _ HB1.out | exact HS.out _ HB0.out | exact HS.out _ HB0.out.drew | exact HS.out _ (g_on HB0.out (g_alloc _ _)) | exact HS.out _ (g_on HB0.out (g_alloc _ _)).drew | exact HS.out _ (g_on HB1.out (g_alloc _ _)) | exact HS.out _ ((HB1.out.setCell (p:=⟨w0.heap.size,0,none⟩) HB0.out.size _).setCell (p:=⟨w0.heap.size,1,none⟩) HB0.out.size _))
   (first
   | (go_at_call 155;refine (HT.out w0.drew HB0.out.drew).mono ?_;rintro e w1 ⟨aT',cT',aK',cK',rfl,hN,hb1⟩;have HA:=Hid.m hN;have HB1:=Hid.m (g_on HB0.out (g_drew hb1));clear hb1 hN)
   | (go_at_call 155;refine (HT.out (w0.alloc (.cells #[.slice none 0 0,.slice none 0 0] 108)).drew (g_on HB0.out (g_alloc _ _)).drew).mono ?_;rintro e w1 ⟨aT',cT',aK',cK',rfl,hN,hb1⟩;have HX:=Hid.m ((GBx.made w0 [.slice none 0 0,.slice none 0 0] 108).below (g_drew hb1));have HA2:=Hid.m hN;have HB1:=Hid.m (g_on HB0.out (g_on (g_alloc w0 _) (g_drew hb1)));have x0:=HX.out.c 0 (by simp);have x00:=HX.out.c 1 (by simp);have x1:=HX.out.f 0;have x11:=HX.out.f 1;have x2:=HX.out.lt;simp only [List.getElem_cons_zero,List.getElem_cons_succ] at x0 x00;clear hb1 hN))
  all_goals (go_wp2;go_meet)
  all_goals (case rel=>first
   | exact ⟨_,aT',cT',aK',cK',rfl,g_on HB1.out (g_alloc _ _),HB1.out.size,GBx.made w1 [.slice aT' o'.T.length cT',.slice aK' o'.K.length cK'] _,(HA.out.after (w:=w) HB0.out.size _)⟩
   | exact ⟨_,aT',cT',aK',cK',rfl,(HB1.out.setCell (p:=⟨w0.heap.size,0,none⟩) HB0.out.size _).setCell (p:=⟨w0.heap.size,1,none⟩) HB0.out.size _,HB0.out.size,((HX.out.set 0 _ (by simp)).set 1 _ (by simp)).ext (by simp),NewOd.down (HA2.out.before (w:=w0) (by simp) _ _) HB0.out.size⟩)
 case rest=>
 obtain ⟨B,aT',cT',aK',cK',rfl,HC⟩:=hcut
 obtain ⟨w2,hw2⟩:∃ w2,w2=wc:=⟨_,rfl⟩
 rw [← hw2] at HC ⊢
 clear hw2
 have y3:=(HS.out _ HC.out.1).1
 have yf:=(HE.out.below HC.out.1).f (4+I)
 have ylt:=(HE.out.below HC.out.1).lt
 obtain ⟨F1,hL⟩:=HE.out.order HC.out.1 (o:=o') hIx HC.out.2.2.1 HC.out.2.2.2.t HC.out.2.2.2.k HC.out.2.1 HC.out.2.2.2.nt HC.out.2.2.2.nk
 have HL:=Hid.m hL
 clear hL
 unfold ptr at HL
 obtain ⟨w3,hw3⟩:∃ w3,w3=w2.setCell ⟨A.b,4+I,none⟩ (.pointer (some ⟨B,0,none⟩)):=⟨_,rfl⟩
 rw [← hw3] at HL
 obtain ⟨V1,h1⟩:=HL.out.eg
 have HE1:=Hid.m h1
 have d3:=h1.c3
 have df:=h1.f 3
 have dlt:=h1.lt
 obtain ⟨ao,cap,hPg⟩:=h1.imm.pg
 have g0:=hPg.box.c 0 (by simp)
 have glt:=hPg.box.lt
 have HFR:=Hid.m (HFREE.out w3 ao cap hPg.rd)
 simp only [List.getElem_cons_zero] at g0
 obtain ⟨n,hn⟩:∃ n,n=x.pages.length:=⟨_,rfl⟩
 rw [← hn] at HFR g0
 obtain ⟨M,hM⟩:∃ M,M=p % 16:=⟨_,rfl⟩
 rw [← hM] at HFR HCH
 clear hn h1 hPg HFREE hM
 unfold ptr at d3
 go_upto_region 3 with (fail)
 rw [← hw3]
 clear hw3
 go_upto_region 5 with (first
  | (go_at_call 156;refine (HCH.out _).mono ?_;rintro e w4 ⟨rfl,rfl⟩)
  | (go_at_call 157;refine HFR.out.mono ?_;rintro e w5 ⟨ro5,rc5,rfl,hN5,hb5⟩;have HN5:=Hid.m hN5;have HB5:=Hid.m hb5;clear hb5 hN5))
 have hAft:=(HN5.out.after (w:=w4) (Nat.le_refl _) (.cells #[.slice ro5 R.length rc5] 51))
 obtain ⟨F',hL2⟩:=HE1.out.pages (g_on HB5.out (g_alloc w5 (.cells #[.slice ro5 R.length rc5] 51))) (GBx.made w5 [.slice ro5 R.length rc5] _) hAft.1 HB5.out.size hAft.2
 have HL2:=Hid.m (HL.out.trans hL2)
 have e3:=(HE1.out.below (g_on HB5.out (g_alloc w5 (.cells #[.slice ro5 R.length rc5] 51)))).c3
 have ef:=(HE1.out.below (g_on HB5.out (g_alloc w5 (.cells #[.slice ro5 R.length rc5] 51)))).f 3
 have elt:=(HE1.out.below (g_on HB5.out (g_alloc w5 (.cells #[.slice ro5 R.length rc5] 51)))).lt
 unfold ptr at e3 HL2
 clear hAft hL2 d3 df dlt g0 glt
 go_wp2
 go_end0
 exact ⟨rfl,F',HL2.out⟩
end Go.Proofs.YtcdpiefflnaghaaGreatDoor.En
