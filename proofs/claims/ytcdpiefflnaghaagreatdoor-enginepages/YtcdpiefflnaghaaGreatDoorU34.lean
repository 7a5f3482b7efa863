/-
  Package engine and what stands beneath it, part 34: contracts of functions, and what they rest on.
-/
import Derived.Laws.IdiomCopy
import Derived.Laws.Rows
import Derived.Test.YtcdpiefflnaghaaGreatDoorU33
set_option linter.unusedSimpArgs false
set_option linter.unusedVariables false
set_option maxRecDepth 100000
namespace Go.Proofs.YtcdpiefflnaghaaGreatDoor.En
open Go.Proofs.YtcdpiefflnaghaaGreatDoor.It
open Go.Proofs.YtcdpiefflnaghaaGreatDoor.Lr
open Go.Proofs.YtcdpiefflnaghaaGreatDoor.Qt
open Go.Proofs.YtcdpiefflnaghaaGreatDoor.Sb
open Go.RowKit Go.Proofs.YtcdpiefflnaghaaGreatDoor
structure Tks (x:Ra)(t:Nat)(c:Nat)(q:Int):Prop where
 hs:sOk x.pages=true
 ht4:t<4
 hc5:c<5
 hq:x.quotas[t]? = some q
 hq16:0≤q∧q≤16
theorem Tks.isC {x:Ra}{t c:Nat}{q:Int}(H:Tks x t c q):isC (c:Int)=true:=by have:=H.hc5;simp [Sb.isC];omega
theorem take_l {N:Nat}{A:Ad}{x:Ra}{F:Cp→Nat→Prop}{w:World}(h:Eg N w A x F){t c:Nat}{q:Int}(H:Tks x t c q){i k:Nat}(hp:place x.pages t c q=some (i,k))(hi:i<x.pages.length)(hk16:k<16):
  Calls Tryz.prog 113 #[ptr A.b,.int .i64 t,.int .i64 c] w fun e w'=>e=.returned (.tuple #[.int .i64 (i * 16+k:Nat),.bool true])∧∃ F',Lv N A { x with pages:=x.pages.set i (taken x.pages t c i k) } F w w' F':=by
 obtain ⟨hl,hq⟩:=List.getElem?_eq_some_iff.1 H.hq
 subst hq
 have:=sOk_len H.hs
 exact take_ok h H.hs H.ht4 H.isC hl H.hq16 hp hi (by omega) hk16
theorem take_n {N:Nat}{A:Ad}{x:Ra}{F:Cp→Nat→Prop}{w:World}(h:Eg N w A x F){t c:Nat}{q:Int}(H:Tks x t c q)(hp:place x.pages t c q=none):
  Calls Tryz.prog 113 #[ptr A.b,.int .i64 t,.int .i64 c] w fun e w'=>e=.returned (.tuple #[.int .i64 0,.bool false])∧Below w.heap.size w w':=by
 obtain ⟨hl,hq⟩:=List.getElem?_eq_some_iff.1 H.hq
 subst hq
 exact take_no h H.hs H.ht4 H.isC hl H.hq16 hp
set_option maxHeartbeats 4000000 in
theorem room_now {N:Nat}{A:Ad}{x:Ra}{F:Cp→Nat→Prop}{w:World}(h:Eg N w A x F){t c:Nat}{q:Int}(H:Tks x t c q){i k:Nat}(hp:place x.pages t c q=some (i,k))(hi:i<x.pages.length)(hk16:k<16):
  Calls Tryz.prog 247 #[ptr A.b,.int .i64 t,.int .i64 c] w fun e w'=>e=.returned (.tuple #[.int .i64 (i * 16+k:Nat),.slice none 0 0,.bool true])∧∃ F',Lv N A { x with pages:=x.pages.set i (taken x.pages t c i k) } F w w' F':=by
 have HT:=Hid.m (take_l h H hp hi hk16)
 clear h H hp hi hk16
 unfold ptr at HT ⊢
 go_enter Tryz.func247,Tryz.ntmps247
 go_wp2
 go_loopw [6,7,8,9,10,11,12] (fun s6 s7 s8 _ _ _ _ wr=>s7=.slice none 0 0∧wr=w) (fun _ _ _ _ _ _ _ _=>0)
 case atStart=>exact ⟨rfl,rfl⟩
 case round=>
  obtain ⟨rfl,rfl⟩:=hrel
  go_wp2_with (go_at_call 113;refine HT.out.mono ?_;rintro e w1 ⟨rfl,F1,hL⟩;have HL:=Hid.m hL;clear hL)
  try simp only [Exit.inBlock,Exit.then]
  go_ret3
  exact ⟨rfl,F1,HL.out⟩
set_option maxHeartbeats 4000000 in
theorem room_none {N:Nat}{A:Ad}{x:Ra}{F:Cp→Nat→Prop}{w:World}(h:Eg N w A x F){t c:Nat}{q:Int}(H:Tks x t c q)(hp:place x.pages t c q=none)(hok:(x.ord (t * 5+c)).ok)(hl:(x.ord (t * 5+c)).line=[]):
  Calls Tryz.prog 247 #[ptr A.b,.int .i64 t,.int .i64 c] w fun e w'=>e=.returned (.tuple #[.int .i64 0,.slice none 0 0,.bool false])∧Below w.heap.size w w':=by
 have HT:=Hid.m (take_n h H hp)
 obtain ⟨V,h⟩:=h
 have ht4:=H.ht4
 have hc5:=H.hc5
 have hIx:t * 5+c<20:=by omega
 obtain ⟨aT,cT,aK,cK,hOd⟩:=h.imm.od _ hIx
 have HV:=Hid.m (fun W0 (hb:Below w.heap.size w W0)=>lvic (hOd.t.below hb) (hOd.k.below hb) hok)
 rw [hl] at HV
 simp only [List.getLast?_nil,Option.getD_none,if_pos] at HV
 have HS:Hid (∀ W0,Below w.heap.size w W0→W0.cell? ⟨A.b,4+t * 5+c,none⟩=some (.pointer (some ⟨V.po (t * 5+c),0,none⟩))∧W0.cell? ⟨V.po (t * 5+c),0,none⟩=some (.slice aT (x.ord (t * 5+c)).T.length cT)∧W0.cell? ⟨V.po (t * 5+c),1,none⟩=some (.slice aK (x.ord (t * 5+c)).K.length cK)∧A.b<W0.heap.size∧V.po (t * 5+c)<W0.heap.size):=fun W0 hb=>⟨by rw [Nat.add_assoc];exact (h.below hb).co hIx,(hOd.box.below hb).c 0 (by simp),(hOd.box.below hb).c 1 (by simp),(h.below hb).lt,(hOd.box.below hb).lt⟩
 obtain ⟨nT,hnT⟩:∃ n,n=(x.ord (t * 5+c)).T.length:=⟨_,rfl⟩
 obtain ⟨nK,hnK⟩:∃ n,n=(x.ord (t * 5+c)).K.length:=⟨_,rfl⟩
 obtain ⟨P,hP⟩:∃ P,P=V.po (t * 5+c):=⟨_,rfl⟩
 rw [← hnT,← hnK] at HV HS
 rw [← hP] at HS
 clear h H hp hok hl hOd hnT hnK hP hIx
 unfold ptr at HT ⊢
 have ht2:(t:Int)<4:=by omega
 have hc2:(c:Int)<5:=by omega
 go_enter Tryz.func247,Tryz.ntmps247
 go_wp2
 go_loopw [6,7,8,9,10,11,12] (fun s6 s7 s8 _ _ _ _ wr=>s7=.slice none 0 0∧wr=w) (fun _ _ _ _ _ _ _ _=>0)
 case atStart=>exact ⟨rfl,rfl⟩
 case round=>
  obtain ⟨rfl,rfl⟩:=hrel
  go_upto_region 4 with (go_at_call 113;refine HT.out.mono ?_;rintro e w1 ⟨rfl,hb1⟩;have HB1:=Hid.m hb1;clear hb1)
  obtain ⟨s0,s1,s2,s3,s4⟩:=HS.out w1 HB1.out
  go_wp2_with (go_at_call 275;refine (HV.out w1 HB1.out).mono ?_;rintro e w2 ⟨rfl,hb2⟩;have HB2:=Hid.m (g_on HB1.out hb2);clear hb2)
  try simp only [Exit.inBlock,Exit.then]
  go_ret3
  exact ⟨rfl,HB2.out⟩
set_option maxHeartbeats 4000000 in
theorem room_evict {N:Nat}{A:Ad}{x:Ra}{F:Cp→Nat→Prop}{w:World}(h:Eg N w A x F){t c:Nat}{q:Int}(H:Tks x t c q)(hp:place x.pages t c q=none)(hok:(x.ord (t * 5+c)).ok){v:ByteArray}(hl:(x.ord (t * 5+c)).line.getLast? = some v){pv:Nat}{z:Int × Im}(hlk:lkN x.T ((t:Int),v)=some (pv:Int))(hL:Lvs x pv t c z)(hz:z.2.key=v)(hz1:z.1=(t:Int))
  {i k:Nat} (hp2:place (x.release pv (t * 5+c) v).pages t c q=some (i,k)) (hi:i<(x.release pv (t * 5+c) v).pages.length) (hk16:k<16) (hs2:sOk (x.release pv (t * 5+c) v).pages=true):
  Calls Tryz.prog 247 #[ptr A.b,.int .i64 t,.int .i64 c] w fun e w'=>∃ vo vc,e=.returned (.tuple #[.int .i64 (i * 16+k:Nat),.slice vo 1 vc,.bool true])∧GRd EI w' vo [(pv:Int)] vc∧∃ F',Lv N A { x.release pv (t * 5+c) v with pages:=(x.release pv (t * 5+c) v).pages.set i (taken (x.release pv (t * 5+c) v).pages t c i k) } F w w' F'∧∀ a,vo=some a→¬ Un F' a.block∧w.heap.size≤a.block∧a.block<w'.heap.size:=by
 have HT:=Hid.m (take_n h H hp)
 have HUN:=Hid.m h.un
 have HFD:=Hid.m (fun W0 (hb:Below w.heap.size w W0)=>find_any (h.below hb) (n:=((t:Int),v)) (by have:=hL.hn;rw [hz,hz1] at this;exact this) hL.htl)
 rw [hlk] at HFD
 simp only [Option.getD_some,Option.isSome_some] at HFD
 have HRE:=Hid.m (fun (W0:World) (F0:Cp→Nat→Prop) (hE:Eg N W0 A x F0)=>release_l hE hL)
 rw [hz] at HRE
 obtain ⟨x1,hx1⟩:∃ x1,x1=x.release pv (t * 5+c) v:=⟨_,rfl⟩
 have H1:Tks x1 t c q:=⟨by rw [hx1];exact hs2,H.ht4,H.hc5,by rw [hx1];exact H.hq,H.hq16⟩
 rw [← hx1] at HRE hp2 hi ⊢
 have HT2:=Hid.m (fun (W0:World) (F0:Cp→Nat→Prop) (hE:Eg N W0 A x1 F0)=>take_l hE H1 hp2 hi hk16)
 obtain ⟨V,h⟩:=h
 have ht4:=H.ht4
 have hc5:=H.hc5
 have hIx:t * 5+c<20:=by omega
 obtain ⟨aT,cT,aK,cK,hOd⟩:=h.imm.od _ hIx
 have HV:=Hid.m (fun W0 (hb:Below w.heap.size w W0)=>lvic (hOd.t.below hb) (hOd.k.below hb) hok)
 have hne:¬ (x.ord (t * 5+c)).line=[]:=by intro e;rw [e] at hl;cases hl
 rw [hl,if_neg hne] at HV
 simp only [Option.getD_some] at HV
 have HS:Hid (∀ W0,Below w.heap.size w W0→W0.cell? ⟨A.b,4+t * 5+c,none⟩=some (.pointer (some ⟨V.po (t * 5+c),0,none⟩))∧W0.cell? ⟨V.po (t * 5+c),0,none⟩=some (.slice aT (x.ord (t * 5+c)).T.length cT)∧W0.cell? ⟨V.po (t * 5+c),1,none⟩=some (.slice aK (x.ord (t * 5+c)).K.length cK)∧A.b<W0.heap.size∧V.po (t * 5+c)<W0.heap.size):=fun W0 hb=>⟨by rw [Nat.add_assoc];exact (h.below hb).co hIx,(hOd.box.below hb).c 0 (by simp),(hOd.box.below hb).c 1 (by simp),(h.below hb).lt,(hOd.box.below hb).lt⟩
 obtain ⟨nT,hnT⟩:∃ n,n=(x.ord (t * 5+c)).T.length:=⟨_,rfl⟩
 obtain ⟨nK,hnK⟩:∃ n,n=(x.ord (t * 5+c)).K.length:=⟨_,rfl⟩
 obtain ⟨P,hP⟩:∃ P,P=V.po (t * 5+c):=⟨_,rfl⟩
 rw [← hnT,← hnK] at HV HS
 rw [← hP] at HS
 obtain ⟨x2,hx2⟩:∃ x2,x2={ x1 with pages:=x1.pages.set i (taken x1.pages t c i k) }:=⟨_,rfl⟩
 rw [← hx2] at HT2 ⊢
 have HE:=Hid.m (⟨V,h⟩:Eg N w A x F)
 clear h H hp hok hl hOd hnT hnK hP hIx hne hlk hL hz hz1 hp2 hi hs2 hx1 hx2 H1 hk16
 unfold ptr at HT HFD HRE HT2 ⊢
 have ht2:(t:Int)<4:=by omega
 have hc2:(c:Int)<5:=by omega
 go_enter Tryz.func247,Tryz.ntmps247
 go_wp2
 go_loopw [6,7,8,9,10,11,12] (fun s6 s7 s8 _ _ _ _ wr=>∃ vo vn vc F1,s7=.slice vo vn vc∧((vn=0∧vo=none∧vc=0∧wr=w∧F1=F)∨(vn=1∧Hid (GRd EI wr vo [(pv:Int)] vc∧Lv N A x1 F w wr F1∧∀ a,vo=some a→¬ Un F1 a.block∧w.heap.size≤a.block∧a.block<wr.heap.size)))) (fun _ s7 _ _ _ _ _ _=>match s7 with
  | .slice _ n _=>1 - n
  | _=>0)
 case atStart=>exact ⟨none,0,0,F,rfl,.inl ⟨rfl,rfl,rfl,rfl,rfl⟩⟩
 case round=>
  obtain ⟨vo,vn,vc,F1,rfl,hcase⟩:=hrel
  rcases hcase with ⟨rfl,rfl,rfl,rfl,rfl⟩ | ⟨rfl,HR⟩
  ·go_upto_region 4 with (go_at_call 113;refine HT.out.mono ?_;rintro e w1 ⟨rfl,hb1⟩;have HB1:=Hid.m hb1;clear hb1)
   obtain ⟨s0,s1,s2,s3,s4⟩:=HS.out w1 HB1.out
   go_upto_region 7 with (go_at_call 275;refine (HV.out w1 HB1.out).mono ?_;rintro e w2 ⟨rfl,hb2⟩;have HB2:=Hid.m (g_on HB1.out hb2);clear hb2)
   clear s0 s1 s2 s3 s4
   go_upto_region 9 with (first
    | (go_at_call 50;refine (HFD.out w2 HB2.out).mono ?_;rintro e w3 ⟨rfl,F3,hL3⟩;have HL3:=Hid.m (hL3.from HB2.out);clear hL3)
    | (go_at_call 95;refine (HRE.out w3 F3 HL3.out.eg).mono ?_;rintro e w4 ⟨rfl,F4,hL4⟩;have HL4:=Hid.m (HL3.out.trans hL4);clear hL4))
   have HN0:=Hid.m (GOwn.nil (E:=EI) w4 w4.heap.size)
   go_wp2_with (at_builtin;refine g_one (w0:=w4) Go.Proofs.YtcdpiefflnaghaaGreatDoor.okI rfl _ _ _ rfl rfl w4.heap.size _ [] HN0.out rfl (pv:Int) rfl _ rfl rfl (by simp) (Nat.le_refl _) ?_;intro v7 w7 hO7 hG7;have HO7:=Hid.m hO7;have HG7:=Hid.m hG7;obtain ⟨a7,cp7,hv7,hr7⟩:=hO7.rd Go.Proofs.YtcdpiefflnaghaaGreatDoor.okI;have HR7:=Hid.m hr7;subst hv7;clear hO7 hG7 hr7)
   go_roundw
   case rel=>
    have hb7:Below w4.heap.size w4 w7:=g_grown_below HG7.out.grown
    refine ⟨a7,1,cp7,F4,rfl,.inr ⟨rfl,HR7.out,HL4.out.below hb7,fun a ha=>?_⟩⟩
    subst ha
    have h1:=HO7.out.lt a.block rfl
    have h2:=HL4.out.kpt.size
    exact ⟨fun hu=>by have:=HL4.out.eg.un _ hu;omega,by omega,h1.2⟩
   case measure=>simp
  ·have HT3:=Hid.m (HT2.out wr F1 HR.out.2.1.eg)
   go_wp2_with (go_at_call 113;refine HT3.out.mono ?_;rintro e w1 ⟨rfl,F2,hL⟩;have HL:=Hid.m hL;clear hL)
   try simp only [Exit.inBlock,Exit.then]
   go_ret3
   refine ⟨vo,vc,rfl,?_,F2,HR.out.2.1.trans HL.out,fun a ha=>?_⟩
   ·exact HR.out.1.kpt HL.out.un (fun a ha=>(HR.out.2.2 a ha).1)
   ·obtain ⟨h1,h2,h3⟩:=HR.out.2.2 a ha
    have h4:=HL.out.kpt.size
    refine ⟨fun hu=>?_,h2,by omega⟩
    rcases HL.out.subU _ hu with h5 | h5
    ·exact h1 h5
    ·omega
end Go.Proofs.YtcdpiefflnaghaaGreatDoor.En
namespace Go.Proofs.YtcdpiefflnaghaaGreatDoor.En
open Go.Proofs.YtcdpiefflnaghaaGreatDoor.It
open Go.Proofs.YtcdpiefflnaghaaGreatDoor.Lr
open Go.Proofs.YtcdpiefflnaghaaGreatDoor.Qt
open Go.Proofs.YtcdpiefflnaghaaGreatDoor.Sb
open Go.RowKit Go.Proofs.YtcdpiefflnaghaaGreatDoor
theorem Lv.own {α:Type}{E:GEl α}{N:Nat}{A:Ad}{x:Ra}{F F':Cp→Nat→Prop}{w w':World}{base:Nat}{v:Value}{l:List α}(h:Lv N A x F w w' F')(ho:GOwn E w base v l)(hn:∀ k,v.ownBlock=some k→¬ Un F k):GOwn E w' base v l∧∀ k,v.ownBlock=some k→¬ Un F' k:=by
 refine ⟨ho.same fun k hk=>h.kpt.block k (ho.lt k hk).2 fun hm=>hn k hk (mu_un hm),fun k hk hu=>?_⟩
 rcases h.subU k hu with h1 | h1
 ·exact hn k hk h1
 ·have:=(ho.lt k hk).2;omega
theorem Lv.rd {α:Type}{E:GEl α}{N:Nat}{A:Ad}{x:Ra}{F F':Cp→Nat→Prop}{w w':World}{ao:Option Addr}{cap:Nat}{l:List α}(h:Lv N A x F w w' F')(ho:GRd E w ao l cap)(hn:∀ a,ao=some a→¬ Un F a.block∧a.block<w.heap.size):GRd E w' ao l cap∧∀ a,ao=some a→¬ Un F' a.block∧a.block<w'.heap.size:=by
 refine ⟨ho.kpt h.un fun a ha=>(hn a ha).1,fun a ha=>⟨fun hu=>?_,Nat.lt_of_lt_of_le (hn a ha).2 h.kpt.size⟩⟩
 rcases h.subU _ hu with h1 | h1
 ·exact (hn a ha).1 h1
 ·have:=(hn a ha).2;omega
theorem Egv.restore {N N':Nat}{A:Ad}{V:Va}{x:Ra}{F Fr:Cp→Nat→Prop}{w wr:World}{pg:List Pg}{od:Nat→Od}(h:Egv N w A V x F)(hL:Lv N' A { x with pages:=pg,ord:=od } F w wr Fr):∃ F',Lv N' A x F w (sets wr A.b 0 (cellsE A V x.quotas.length x.last)) F':=by
 obtain ⟨V1,h1⟩:=hL.eg
 have hlen:=cells_len A V x.quotas.length x.last
 have hlen1:=cells_len A V1 x.quotas.length x.last
 have hE1:EngP A V1 x.quotas.length x.last (Fr .eng) wr:=h1.eng
 have hk:=Kpt.grown (sets_grown A.b (cellsE A V x.quotas.length x.last) wr 0)
 have hsz:=sets_size A.b (cellsE A V x.quotas.length x.last) wr 0
 obtain ⟨W,hW⟩:∃ W,W=sets wr A.b 0 (cellsE A V x.quotas.length x.last):=⟨_,rfl⟩
 have hbox:GBx W A.b (cellsE A V x.quotas.length x.last):=by
  rw [hW]
  have:=sets_box A.b (cellsE A V x.quotas.length x.last) (cellsE A V1 x.quotas.length x.last) [] wr (by simpa using hE1.1) (by rw [hlen,hlen1])
  simpa using this
 rw [← hW] at hk hsz ⊢
 have hltr:=Parts.lt h1
 have himm:Part wr (F .imm) (PE N A V x F .imm):=(h.part .imm).kpt hL.kpt fun k hk' hm=>by
  obtain ⟨c,hc,hm⟩:=hm
  exact hc (h.apart c .imm k hm hk')
 have hsame:∀ c,c≠.eng→∀ k,Fr c k→W.heap[k]? = wr.heap[k]?:=fun c hc k hk'=>hk.block k ((h1.part c).lt k hk') fun e=>hc (h1.apart c .eng k hk' (e ▸ hE1.2))
 have himm2:∀ k,F .imm k→W.heap[k]? = wr.heap[k]?:=fun k hk'=>hk.block k (himm.lt k hk') fun e=>by
  rcases hL.sub .eng k (e ▸ hE1.2) with h3 | h3
  ·have:=h.apart .imm .eng k hk' h3
   cases this
  ·have:=(h.part .imm).lt k hk'
   omega
 refine ⟨upc Fr .imm (F .imm),⟨V,⟨fun c=>?_,fun c d k hc hd=>?_⟩⟩,?_,?_⟩
 ·cases c
  ·exact EngP.part ⟨hbox,hE1.2⟩ fun k hk'=>by have:=(h1.part .eng).lt k hk';omega
  ·exact (h1.part .whl).same (by omega) (hsame .whl (by decide))
  ·exact (h1.part .tab).same (by omega) (hsame .tab (by decide))
  ·exact (h1.part .itm).same (by omega) (hsame .itm (by decide))
  ·exact himm.same (by omega) himm2
 ·have key:∀ a,a≠.imm→Fr a k→F .imm k→False:=by
   intro a ha h3 h4
   rcases hL.sub a k h3 with h5 | h5
   ·exact ha (h.apart a .imm k h5 h4)
   ·have:=(h.part .imm).lt k h4
    omega
  by_cases e1:c=.imm
  ·by_cases e2:d=.imm
   ·rw [e1,e2]
   ·subst e1
    rw [upc_same] at hc
    rw [upc_other e2] at hd
    exact (key d e2 hd hc).elim
  ·by_cases e2:d=.imm
   ·subst e2
    rw [upc_same] at hd
    rw [upc_other e1] at hc
    exact (key c e1 hc hd).elim
   ·rw [upc_other e1] at hc
    rw [upc_other e2] at hd
    exact h1.apart c d k hc hd
 ·exact hL.kpt.trans (hk.mono (G:=Mu Fr) fun k e=>by subst e;exact ⟨.eng,by decide,hE1.2⟩) hL.subM
 ·intro c k hk'
  by_cases e:c=.imm
  ·subst e
   rw [upc_same] at hk'
   exact .inl hk'
  ·rw [upc_other e] at hk'
   exact hL.sub c k hk'
theorem sets_eq (b:Nat):∀ (vs:List Value) (w:World) (j:Nat),w.setCells b j vs=sets w b j vs
 | [],_,_=>rfl
 | v::vs,w,j=>by unfold sets World.setCells;exact sets_eq b vs _ _
theorem wpl_load {ops:Array Oper}{rest:List Oper}{o:Oper}{a:Act}{w:World}{Q:Exit→Act→World→Prop}(hgd:o.guard=none)(ty:TypeId)(s:Operand)(ho:o.op=.load ty s)(b:Nat)(hx:a.eval s=.pointer (some ⟨b,0,none⟩))(cs:List Value)(hc:∀ j v,cs[j]? = some v→w.cell? ⟨b,j,none⟩=some v)(d:TypeDesc)
  (hu:Tryz.prog.underlying ty=some d) (hd:(match d with | .struct _ | .array _ _=>true | _=>false)=true) (hi:(Tryz.prog.info? ty).map (·.size)=some cs.length) (h:wpList Tryz.prog ops Q rest (a.put o.dst (.agg cs.toArray)) w):wpList Tryz.prog ops Q (o::rest) a w:=by
 refine wpList_plain hgd fun K hK=>?_
 have hl:(loadCells ⟨b,0,none⟩ cs.length).run Tryz.prog w=.ok cs.toArray w:=
  run_loadCells_list (P:=Tryz.prog) w ⟨b,0,none⟩ cs (fun j v hv=>by rw [g_add,Nat.zero_add];exact hc j v hv)
 have hlv:(loadVar ty ⟨b,0,none⟩).run Tryz.prog w=.ok (.agg cs.toArray) w:=by
  cases hq:Tryz.prog.info? ty with
  | none=>simp [hq] at hi
  | some i=>
   have hs:i.size=cs.length:=by simpa [hq] using hi
   have hagg:(isAgg ty).run Tryz.prog w=.ok true w:=by
    unfold isAgg
    rw [Sem.run_bind,run_underlying hu w]
    cases d <;> simp_all
   simp [loadVar,Sem.run_bind,hagg,sizeOf,typeInfo,hq,hs,hl]
 unfold Oper.wp execOp
 simp only [ho,hx,Instr.loadAt,Instr.sureAddr,Sem.run_bind,Sem.run_pure,Result.andThen_ok,hlv]
 exact hK _ _ h
theorem wpl_store {ops:Array Oper}{rest:List Oper}{o:Oper}{a:Act}{w:World}{Q:Exit→Act→World→Prop}(hgd:o.guard=none)(ty:TypeId)(s y:Operand)(ho:o.op=.store ty s y)(b:Nat)(cs:List Value)(hx:a.eval s=.pointer (some ⟨b,0,none⟩))(hy:a.eval y=.agg cs.toArray)(hi:(Tryz.prog.info? ty).map (·.size)=some cs.length)
  (hc:∀ j,j<cs.length→(w.cell? ⟨b,j,none⟩).isSome=true) (hf:∀ j,j<cs.length→w.frozen? ⟨b,j,none⟩=false) (h1:∀ v∈cs,v.oneCell'=true) (h:wpList Tryz.prog ops Q rest (a.put o.dst undef) (sets w b 0 cs)):wpList Tryz.prog ops Q (o::rest) a w:=by
 refine wpList_plain hgd fun K hK=>?_
 have hst:=run_storeCells_cells (P:=Tryz.prog) b 0 cs 0 w (by simpa using hc) (by simpa using hf) h1
 rw [Nat.zero_add,sets_eq] at hst
 have hsv:(storeVar ty ⟨b,0,none⟩ (.agg cs.toArray)).run Tryz.prog w=.ok () (sets w b 0 cs):=by
  cases hq:Tryz.prog.info? ty with
  | none=>simp [hq] at hi
  | some i=>
   have hs:cs.length=i.size:=by simp [hq] at hi;omega
   simp [storeVar,sizeOf,typeInfo,hq,Value.cells,hs,hst]
 unfold Oper.wp execOp
 simp only [ho,hx,hy,Instr.storeAt,Instr.sureAddr,Sem.run_bind,Sem.run_pure,Result.andThen_ok,hsv]
 exact hK _ _ h
theorem cells_one (A:Ad)(V:Va)(q:Nat)(l:Int):∀ v∈cellsE A V q l,v.oneCell'=true:=by
 intro v hv
 unfold cellsE at hv
 simp only [List.mem_append,List.mem_cons,List.not_mem_nil,or_false,List.mem_map] at hv
 rcases hv with ((rfl | rfl | rfl | rfl) | ⟨i,_,rfl⟩) | rfl | rfl | rfl <;> rfl
theorem below_sets (b:Nat):∀ (vs:List Value) {B:Nat} {w W:World} (j:Nat),Below B w W→B≤b→Below B w (sets W b j vs)
 | [],_,_,_,_,h,_=>h
 | v::vs,_,_,_,j,h,hb=>by unfold sets;exact below_sets b vs (j+1) (h.setCell (p:=⟨b,j,none⟩) hb v) hb
end Go.Proofs.YtcdpiefflnaghaaGreatDoor.En
