/-
  Package engine and what stands upon it, part V03: contracts of functions, and what they rest on.
-/
import Derived.Test.YtpinkmndjabbjaaGreatDoorU09
import Derived.Test.YtpinkmndjabbjaaGreatDoorU44
import Derived.Test.YtpinkmndjabbjaaGreatDoorU11
set_option linter.unusedSimpArgs false
set_option linter.unusedVariables false
set_option maxRecDepth 100000
namespace Go.Proofs.YtpinkmndjabbjaaGreatDoor.En
open Go.Proofs.YtpinkmndjabbjaaGreatDoor.It
open Go.Proofs.YtpinkmndjabbjaaGreatDoor.Lr
open Go.Proofs.YtpinkmndjabbjaaGreatDoor.Qt
open Go.Proofs.YtpinkmndjabbjaaGreatDoor.Sb
open Go.RowKit Go.Proofs.YtpinkmndjabbjaaGreatDoor
structure Ap (R:Nat→World→Value→Sh→(Nat→Prop)→Prop)(n:Nat)(W wr:World)(e:Value)(s:Sh)(F:Nat→Prop):Prop where
 rep:R n wr e s F
 bel:Below W.heap.size W wr
 new:∀ k,F k→W.heap.size≤k
section
variable {Tb:World→Prop} {R:Nat→World→Value→Sh→(Nat→Prop)→Prop}
theorem Ap.left {n n1:Nat}{W wr w1:World}{e:Value}{s s1:Sh}{F F1:Nat→Prop}(h:Ap R n W wr e s F)(hr:R n1 w1 e s1 F1)(hk:Kpt F wr w1)(hs:∀ k,F1 k→F k∨wr.heap.size≤k):Ap R n1 W w1 e s1 F1:=by
 refine ⟨hr,h.bel.trans (hk.below h.new h.bel.size),?_⟩
 intro k hk1
 rcases hs k hk1 with h1 | h1
 ·exact h.new k h1
 ·exact Nat.le_trans h.bel.size h1
theorem Ap.below (E:Eng Tb R){n:Nat}{W wr w1:World}{e:Value}{s:Sh}{F:Nat→Prop}(h:Ap R n W wr e s F)(hb:Below wr.heap.size wr w1):Ap R n W w1 e s F:=
 h.left (E.on h.rep hb) (Kpt.of hb) (fun _ hk=>.inl hk)
theorem Ap.calm {n:Nat}{W wr:World}{e:Value}{s:Sh}{F:Nat→Prop}(h:Ap R n W wr e s F)(hT:∀ w',Below W.heap.size W w'→Tb w'):Calm Tb wr F:=⟨W.heap.size,h.bel.size,h.new,fun w' hb=>hT w' (h.bel.trans hb)⟩
theorem Ap.offs {n:Nat}{W wr:World}{e:Value}{s:Sh}{F:Nat→Prop}(h:Ap R n W wr e s F){lo:Option Addr}{l:List Opr}{lc:Nat}(hO:Ops W lo l lc){o:Opr}(ho:o∈l):o.d.c.keys≠[]→Off F o.d.so:=by
 intro hne a2 ha hf
 obtain ⟨b2,off2,e2,hb2,_⟩:=(hO.keys o ho).lies hne
 rw [ha] at e2
 have e3:a2=⟨b2,off2,none⟩:=Option.some.inj e2
 have:=h.new _ hf
 rw [e3] at this
 simp at this
 omega
structure Grt (l:List Opr):Prop where
 len:l.length≤120
 keys:∀ o∈l,o.d.c.keys.length≤40
theorem grt_not {l:List Opr}{n:Nat}(hg:grt l n=false):Grt l:=by
 unfold grt at hg
 simp only [Bool.or_eq_false_iff,decide_eq_false_iff_not] at hg
 refine ⟨by omega,fun o ho=>?_⟩
 have h1:=List.any_eq_false.1 hg.2 o ho
 unfold lgC at h1
 simp only [Bool.or_eq_true,decide_eq_true_eq,not_or] at h1
 omega
end
end Go.Proofs.YtpinkmndjabbjaaGreatDoor.En
namespace Go.Proofs.YtpinkmndjabbjaaGreatDoor.En
open Go.Proofs.YtpinkmndjabbjaaGreatDoor.It
open Go.Proofs.YtpinkmndjabbjaaGreatDoor.Lr
open Go.Proofs.YtpinkmndjabbjaaGreatDoor.Qt
open Go.Proofs.YtpinkmndjabbjaaGreatDoor.Sb
open Go.RowKit Go.Proofs.YtpinkmndjabbjaaGreatDoor
def dig:ByteArray:=⟨#[48,49,50,51,52,53,54,55,56,57]⟩
def dig9:ByteArray:=⟨#[48,49,50,51,52,53,54,55,56,57,48,49,50,51,52,53,54,55,56]⟩
def lg:Nat→ByteArray
 | 0=>⟨#[]⟩
 | k+1=>lg k++dig
theorem lg_size:∀ k,(lg k).size=10 * k
 | 0=>rfl
 | k+1=>by
  show (lg k++dig).size=_
  rw [ByteArray.size_append,lg_size k]
  show 10 * k+10=_
  omega
def setC (t:Int)(k v:ByteArray):Cm:=⟨2,t,[k],v,0,0,0,0⟩
noncomputable def ex2:Sh:=(ex1.op (.cmd (setC 2 ⟨#[107]⟩ ⟨#[118]⟩))).1
noncomputable def ex3:Sh:=(ex2.op (.cmd (setC 0 ⟨#[97]⟩ (lg 23)))).1
theorem exC_r:(ex1.op (.cmd (setC 2 ⟨#[107]⟩ ⟨#[118]⟩))).2=(⟨7,[],0⟩,[],true):=by kernel_rfl
theorem exD_r:(ex2.op (.cmd (setC 0 ⟨#[97]⟩ (lg 23)))).2=(⟨5,[],0⟩,[],true):=by kernel_rfl
theorem exE_r:(ex3.op (.cmd (setC 1 ⟨#[97]⟩ (lg 23++dig9)))).2=(⟨4,[],0⟩,[],true):=by kernel_rfl
noncomputable def ex4:Sh:=(ex3.op (.cmd (setC 1 ⟨#[97]⟩ (lg 23++dig9)))).1
theorem exF_now:ex4.now=0:=by kernel_rfl
theorem exG:chkE 2 [1]=0:=by kernel_rfl
theorem exH:(80:Int)=chkE 2 [2,1]:=by kernel_rfl
theorem exI:¬ (ex4.now≤-1∧momI (-1)=true):=by rw [exF_now];omega
section
variable {Tb:World→Prop} {R:Nat→World→Value→Sh→(Nat→Prop)→Prop}
theorem doS (E:Eng Tb R){n:Nat}(hn:n<1000){w:World}{e:Value}{s:Sh}{F:Nat→Prop}{b:Nat}{t rk:Int}{k v:ByteArray}(hc:Calm Tb w F)(h:R n w e s F)(hs:GRd ES w (some ⟨b,0,none⟩) [k] 1)(hb:¬ F b)(hr:(s.op (.cmd (setC t k v))).2=(⟨rk,[],0⟩,[],true)):
  Calls Tryz.prog 12 #[e,.agg #[.int .u8 2,.int .i64 t,.slice (some ⟨b,0,none⟩) 1 1,.string v,.int .u32 0,.int .i64 0,.int .u64 0,.int .u64 0]] w fun x w'=>∃ io ic lo lc F',x=.returned (.tuple #[.agg #[.int .u8 rk,.slice io 0 ic,.int .u64 0],.slice lo 0 lc,.int .i64 0])∧Leaves R (n+1) e (s.op (.cmd (setC t k v))).1 F w w' lo [] lc F':=by
 have h1:=E.cmd ⟨setC t k v,some ⟨b,0,none⟩,1⟩ hn hc h hs (by intro _ a ha;cases ha;exact hb) ⟨Int.le_refl _,by show (0:Int)≤18446744073709551615;decide⟩
 dsimp only at h1
 rw [hr] at h1
 dsimp only at h1
 refine Calls.mono h1 ?_
 rintro x w' ⟨io,ic,lo,lc,f,F',rfl,hf,_,_,_,hL⟩
 have hf0:f=0:=by simpa using hf
 subst hf0
 exact ⟨io,ic,lo,lc,F',rfl,hL⟩
end
theorem new_ckE (n:Int)(q:List Int)(now:Int)(qo:Option Addr)(qc:Nat)(w:World){f:Int}(hf:f=chkE n q)(hc:¬ f=0)(hR:GRd EI w qo q qc):
  Calls Tryz.prog 11 #[.int .i64 n,.slice qo q.length qc,.int .i64 now] w fun e w'=>e=.returned (.tuple #[.pointer none,.int .i64 f])∧w'=w:=by
 have HCK:=Hid.m (Qt.qcheck_any n w qo q qc (il_of hR))
 obtain ⟨ql,hql⟩:∃ ql,ql=q.length:=⟨_,rfl⟩
 have hf1:(f != 0)=true:=by simpa using hc
 have hf2:(f==0)=false:=by simpa using hc
 rw [← hf] at HCK
 rw [← hql] at HCK ⊢
 clear hc hR hql hf
 go_enter Tryz.func11,Tryz.ntmps11
 go_wp2_with (go_at_call 37;refine HCK.out.mono ?_;rintro e w0 ⟨rfl,h0⟩;replace h0:=h0.symm;subst h0)
 try simp only [Exit.inBlock,Exit.then]
 go_ret2
 exact ⟨rfl,rfl⟩
theorem new_now (n:Int)(q:List Int)(now:Int)(qo:Option Addr)(qc:Nat)(w:World)(hc:chkE n q=0)(hm:now<0∨1099511627776<now)(hR:GRd EI w qo q qc):
  Calls Tryz.prog 11 #[.int .i64 n,.slice qo q.length qc,.int .i64 now] w fun e w'=>e=.returned (.tuple #[.pointer none,.int .i64 2])∧w'=w:=by
 have HCK:=Hid.m (Qt.qcheck_any n w qo q qc (il_of hR))
 obtain ⟨ql,hql⟩:∃ ql,ql=q.length:=⟨_,rfl⟩
 have HWN:=Hid.m (Wh.new_bad w now hm)
 rw [hc] at HCK
 rw [← hql] at HCK ⊢
 clear hc hm hR hql
 go_enter Tryz.func11,Tryz.ntmps11
 go_wp2_with (first
  | (go_at_call 37;refine HCK.out.mono ?_;rintro e w0 ⟨rfl,h0⟩;replace h0:=h0.symm;subst h0)
  | (go_at_call 38;refine HWN.out.mono ?_;rintro e w0 ⟨rfl,h0⟩;replace h0:=h0.symm;subst h0))
 try simp only [Exit.inBlock,Exit.then]
 go_ret2
 exact ⟨rfl,rfl⟩
theorem made_nil (w:World):Calls Tryz.prog 43 #[.pointer none] w fun e w'=>e=.returned (.bool false)∧w'=w:=by
 go_enter Tryz.func43,Tryz.ntmps43
 go_wp2
 go_ret
 exact ⟨rfl,rfl⟩
set_option maxHeartbeats 1000000 in
theorem image_nil (w:World):Calls Tryz.prog 14 #[.pointer none] w fun e w'=>e=.returned (.tuple #[.agg #[.int .i64 0,.slice none 0 0,.slice none 0 0,.int .i64 0,.int .i64 0,.bool false],.int .i64 1])∧Below w.heap.size w w':=by
 obtain ⟨W,hW⟩:∃ W,W=w.alloc (.cells #[.int .i64 0,.slice none 0 0,.slice none 0 0,.int .i64 0,.int .i64 0,.bool false] 41):=⟨_,rfl⟩
 have hBW:Below w.heap.size w W:=by rw [hW];exact g_alloc _ _
 have hBX:GBx W w.heap.size [.int .i64 0,.slice none 0 0,.slice none 0 0,.int .i64 0,.int .i64 0,.bool false]:=by rw [hW];exact GBx.made w _ _
 have hX:GBx (sets W w.heap.size 0 [.int .i64 0,.slice none 0 0,.slice none 0 0,.int .i64 0,.int .i64 0,.bool false]) w.heap.size [.int .i64 0,.slice none 0 0,.slice none 0 0,.int .i64 0,.int .i64 0,.bool false]:=sets_box w.heap.size _ _ [] W hBX rfl
 have HBS:Hid (Below w.heap.size w (sets W w.heap.size 0 [.int .i64 0,.slice none 0 0,.slice none 0 0,.int .i64 0,.int .i64 0,.bool false])):=below_sets w.heap.size _ 0 hBW (Nat.le_refl _)
 have HIM:=Hid.m (made_nil W)
 have Z0:=Hid.m (hX.c 0 (by simp))
 have Z1:=Hid.m (hX.c 1 (by simp))
 have Z2:=Hid.m (hX.c 2 (by simp))
 have Z3:=Hid.m (hX.c 3 (by simp))
 have Z4:=Hid.m (hX.c 4 (by simp))
 have Z5:=Hid.m (hX.c 5 (by simp))
 simp only [List.getElem_cons_zero,List.getElem_cons_succ] at Z0 Z1 Z2 Z3 Z4 Z5
 have y0:=hBX.c 0 (by simp)
 have y1:=hBX.c 1 (by simp)
 have y2:=hBX.c 2 (by simp)
 have y3:=hBX.c 3 (by simp)
 have y4:=hBX.c 4 (by simp)
 have y5:=hBX.c 5 (by simp)
 simp only [List.getElem_cons_zero,List.getElem_cons_succ] at y0 y1 y2 y3 y4 y5
 have f0:=hBX.f 0
 have f1:=hBX.f 1
 have f2:=hBX.f 2
 have f3:=hBX.f 3
 have f4:=hBX.f 4
 have f5:=hBX.f 5
 have yl:=hBX.lt
 obtain ⟨B,hB⟩:∃ B,B=w.heap.size:=⟨_,rfl⟩
 rw [← hB] at Z0 Z1 Z2 Z3 Z4 Z5 y0 y1 y2 y3 y4 y5 f0 f1 f2 f3 f4 f5 yl
 have HBB:=Hid.m hB
 clear hBX hX hBW
 unfold sets sets sets sets sets sets sets at Z0 Z1 Z2 Z3 Z4 Z5
 go_enter Tryz.func14,Tryz.ntmps14
 go_upto_region 1 with (fail)
 rw [← hW,← hB]
 clear hW hB
 go_wp2_with (go_at_call 43;refine HIM.out.mono ?_;rintro e w0 ⟨rfl,h0⟩;replace h0:=h0.symm;subst h0)
 try simp only [Exit.inBlock,Exit.then]
 refine bodyPost_ret (v:=.tuple #[.agg #[.int .i64 0,.slice none 0 0,.slice none 0 0,.int .i64 0,.int .i64 0,.bool false],.int .i64 1]) (by simp [results,Tryz.results14,go_sem,Z0.out,Z1.out,Z2.out,Z3.out,Z4.out,Z5.out]) rfl ⟨rfl,?_⟩
 have h9:=HBS.out
 rw [← HBB.out] at h9 ⊢
 exact h9
theorem tick_r {n:Nat}{w:World}{a:Addr}{s:Sh}{F:Nat→Prop}(h:Rr n w (.pointer (some a)) s F){m:Int}(hm:¬ (s.now≤m∧momI m=true)):Calls Tryz.prog 15 #[.pointer (some a),.int .i64 m] w fun e w'=>e=.returned (.tuple #[.slice none 0 0,.int .i64 2])∧w'=w:=by
 obtain ⟨A,x,Fc,he,hE,RA,_⟩:=h
 rw [he]
 exact tick_no hE RA hm
structure Nms (n:Nat)(W wr:World)(e:Value)(s:Sh)(F:Nat→Prop)(B:Nat)(rs:List Value):Prop where
 ap:Ap Rr n W wr e s F
 box:GBx wr B rs
 nb:¬ F B
 bw:W.heap.size≤B
theorem Nms.left {n n1:Nat}{W wr w1:World}{e:Value}{s s1:Sh}{F F1:Nat→Prop}{B:Nat}{rs:List Value}(h:Nms n W wr e s F B rs)(hr:Rr n1 w1 e s1 F1)(hk:Kpt F wr w1)(hs:∀ k,F1 k→F k∨wr.heap.size≤k):Nms n1 W w1 e s1 F1 B rs:=
 ⟨h.ap.left hr hk hs,h.box.kpt hk h.nb,fun hf=>by
  rcases hs _ hf with h1 | h1
  ·exact h.nb h1
  ·have:=h.box.lt;omega,h.bw⟩
theorem Nms.below {n:Nat}{W wr w1:World}{e:Value}{s:Sh}{F:Nat→Prop}{B:Nat}{rs:List Value}(h:Nms n W wr e s F B rs)(hb:Below wr.heap.size wr w1):Nms n W w1 e s F B rs:=
 ⟨h.ap.below eng_is hb,h.box.below hb,h.nb,h.bw⟩
theorem Nms.store {n:Nat}{W wr:World}{e:Value}{s:Sh}{F:Nat→Prop}{B:Nat}{a b c:Value}(h:Nms n W wr e s F B [a,b,c])(x y z:Value):Nms n W (((wr.setCell ⟨B,0,none⟩ x).setCell ⟨B,1,none⟩ y).setCell ⟨B,2,none⟩ z) e s F B [x,y,z]:=by
 have hk:=Kpt.grown (sets_grown B [x,y,z] wr 0)
 have hb:GBx (sets wr B 0 [x,y,z]) B [x,y,z]:=sets_box B _ _ [] wr h.box rfl
 unfold sets sets sets sets at hk hb
 refine ⟨⟨eng_is.stab h.ap.rep hk.size fun k hf=>hk.block k (eng_is.lt h.ap.rep k hf) fun e=>h.nb (e ▸ hf),?_,h.ap.new⟩,hb,h.nb,h.bw⟩
 exact ((h.ap.bel.setCell (p:=⟨B,0,none⟩) h.bw _).setCell (p:=⟨B,1,none⟩) h.bw _).setCell (p:=⟨B,2,none⟩) h.bw _
theorem row_new {w:World}(l:List Int)(hl:l.length≤4):GRd EI (w.alloc (.cells ((l.map fun n=>Value.int .i64 n).toArray) 3)) (some ⟨w.heap.size,0,none⟩) l l.length:=by
 refine ⟨Nat.le_refl _,by omega,(by intro e;cases e),.inr ⟨w.heap.size,0,rfl,by simp,fun i hi j hj=>?_⟩⟩
 have hj0:j=0:=by have:j<1:=hj;omega
 subst hj0
 simp [EI]
set_option maxHeartbeats 16000000 in
theorem names_go (W:World)(hT:∀ w',Below W.heap.size W w'→It.Tab w'):Calls Tryz.prog 3 #[] W fun x w'=>x=.returned (.bool true)∧Below W.heap.size W w':=by
 have HTB:=Hid.m hT
 clear hT
 obtain ⟨V0,hV0⟩:∃ V0,V0=W.alloc (.cells #[.int .i64 1,.int .i64 1] 3):=⟨_,rfl⟩
 have HB0:Hid (Below W.heap.size W V0):=by rw [hV0];exact g_alloc _ _
 have hq:GRd EI V0 (some ⟨W.heap.size,0,none⟩) [1,1] 2:=by rw [hV0];exact row_new [1,1] (by decide)
 have HM:=Hid.m (eng_is.make 2 [1,1] 0 _ 2 V0 ex_chk (by kernel_rfl) hq)
 clear hq
 go_enter Tryz.func3,Tryz.ntmps3
 go_upto_region 2 with (first | (rw [← hV0];fail) | (go_at_call 11;rw [← hV0];refine HM.out.mono ?_;rintro x w1 ⟨e,F,rfl,hR,hF,hb1⟩;have HT1:Hid (Ap Rr 0 W w1 e ex0 F):=⟨hR,g_on HB0.out hb1,fun k hk=>Nat.le_trans HB0.out.size (hF k hk)⟩;clear hR hF hb1))
 obtain ⟨a,rfl⟩:=eng_is.ptr HT1.out.rep
 clear hV0 HM
 go_upto_region 5 with (first
  | (go_at_call 13;refine (set_any 0 ⟨#[107]⟩ ⟨#[118]⟩ w1).mono ?_;rintro x w2 ⟨b,rfl,hS,hb,hb2⟩;have HS:=Hid.m hS;have HBL:=Hid.m hb;have HB2:=Hid.m hb2;have HT2:=Hid.m (HT1.out.below eng_is hb2);clear hS hb hb2)
  | (go_at_call 12;refine (doA eng_is (by decide:(0:Nat)<1000) (HT2.out.calm HTB.out) HT2.out.rep HS.out (fun hf=>by have:=eng_is.lt HT1.out.rep _ hf;have:=HBL.out;omega)).mono ?_;rintro x w3 ⟨io,ic,lo,lc,F3,rfl,hL⟩;have HT3:=Hid.m (HT2.out.left hL.rep hL.kpt hL.sub);clear hL))
 clear HT1 HT2 HS HBL HB2
 go_upto_region 6 with (first
  | (go_at_call 13;refine (set_any 2 ⟨#[107]⟩ ⟨#[118]⟩ w3).mono ?_;rintro x w4 ⟨b4,rfl,hS,hb,hb2⟩;have HS:=Hid.m hS;have HBL:=Hid.m hb;have HT4:=Hid.m (HT3.out.below eng_is hb2);clear hS hb hb2)
  | (go_at_call 12;refine (doS eng_is (by decide:(1:Nat)<1000) (HT4.out.calm HTB.out) HT4.out.rep HS.out (fun hf=>by have:=eng_is.lt HT3.out.rep _ hf;have:=HBL.out;omega) exC_r).mono ?_;rintro x w5 ⟨io5,ic5,lo5,lc5,F5,rfl,hL⟩;have HT5:=Hid.m (HT4.out.left hL.rep hL.kpt hL.sub);clear hL))
 clear HT3 HT4 HS HBL
 have HN6:Hid (Nms 2 W (w5.alloc (.cells #[.int .u8 7,.slice io5 0 ic5,.int .u64 0] 30)) (.pointer (some a)) ex2 F5 w5.heap.size [.int .u8 7,.slice io5 0 ic5,.int .u64 0]):=⟨HT5.out.below eng_is (g_alloc _ _),GBx.made w5 [.int .u8 7,.slice io5 0 ic5,.int .u64 0] _,fun hf=>by have:=eng_is.lt HT5.out.rep _ hf;omega,HT5.out.bel.size⟩
 generalize w5.alloc (.cells #[.int .u8 7,.slice io5 0 ic5,.int .u64 0] 30)=w6 at HN6 ⊢
 generalize w5.heap.size=B at HN6 ⊢
 clear HT5
 have z0:=HN6.out.box.c 0 (by simp)
 have zl:=HN6.out.box.lt
 simp only [List.getElem_cons_zero] at z0
 go_wp2
 clear z0 zl
 go_loopw [7,8] (fun s7 i wr=>∃ k:Nat,k≤23∧i=.int .i64 k∧s7=.string (lg k)∧Hid (Nms 2 W wr (.pointer (some a)) ex2 F5 B [.int .u8 7,.slice io5 0 ic5,.int .u64 0])) (fun _ i _=>23 - (intOf i).toNat)
 case atStart=>exact ⟨0,by omega,rfl,rfl,HN6⟩
 case round=>
  clear HN6
  obtain ⟨k,hk,rfl,rfl,HN⟩:=hrel
  by_cases hk23:k<23
  ·have hk2:(k:Int)<23:=by omega
   have hsz:¬ 9223372036854775807<(lg k).size+10:=by rw [lg_size];omega
   go_wp2
   go_roundw
   case rel=>exact ⟨k+1,by omega,by go_num,rfl,HN⟩
   case measure=>simp [intOf];omega
  ·have hke:k=23:=by omega
   subst hke
   clear hk hk23
   go_upto_region 13 with (first
    | (go_at_call 13;refine (set_any 0 ⟨#[97]⟩ (lg 23) wr).mono ?_;rintro x w7 ⟨b7,rfl,hS,hb,hb2⟩;have HS:=Hid.m hS;have HBL:=Hid.m hb;have HN7:=Hid.m (HN.out.below hb2);clear hS hb hb2)
    | (go_at_call 12;refine (doS eng_is (by decide:(2:Nat)<1000) (HN7.out.ap.calm HTB.out) HN7.out.ap.rep HS.out (fun hf=>by have:=eng_is.lt HN.out.ap.rep _ hf;have:=HBL.out;omega) exD_r).mono ?_;rintro x w8 ⟨io8,ic8,lo8,lc8,F8,rfl,hL⟩;have HN8:=Hid.m (HN7.out.left hL.rep hL.kpt hL.sub);clear hL;have z0:=HN8.out.box.c 0 (by simp);have z1:=HN8.out.box.c 1 (by simp);have z2:=HN8.out.box.c 2 (by simp);have f0:=HN8.out.box.f 0;have f1:=HN8.out.box.f 1;have f2:=HN8.out.box.f 2;have zl:=HN8.out.box.lt;simp only [List.getElem_cons_zero,List.getElem_cons_succ] at z0 z1 z2))
   have HN9:=Hid.m (HN8.out.store (.int .u8 5) (.slice io8 0 ic8) (.int .u64 0))
   clear HN HN7 HN8 HS HBL z0 z1 z2 f0 f1 f2 zl
   generalize ((w8.setCell ⟨B,0,none⟩ (.int .u8 5)).setCell ⟨B,1,none⟩ (.slice io8 0 ic8)).setCell ⟨B,2,none⟩ (.int .u64 0)=w9 at HN9 ⊢
   have z0:=HN9.out.box.c 0 (by simp)
   have zl:=HN9.out.box.lt
   simp only [List.getElem_cons_zero] at z0
   go_upto_region 14 with (fail)
   clear z0 zl
   have hsz:¬ 9223372036854775807<(lg 23).size+19:=by rw [lg_size];omega
   go_upto_region 15 with (first
    | (go_at_call 13;refine (set_any 1 ⟨#[97]⟩ (lg 23++dig9) w9).mono ?_;rintro x w10 ⟨b10,rfl,hS,hb,hb2⟩;have HS:=Hid.m hS;have HBL:=Hid.m hb;have HN10:=Hid.m (HN9.out.below hb2);clear hS hb hb2)
    | (go_at_call 12;refine (doS eng_is (by decide:(3:Nat)<1000) (HN10.out.ap.calm HTB.out) HN10.out.ap.rep HS.out (fun hf=>by have:=eng_is.lt HN9.out.ap.rep _ hf;have:=HBL.out;omega) exE_r).mono ?_;rintro x w11 ⟨io11,ic11,lo11,lc11,F11,rfl,hL⟩;have HN11:=Hid.m (HN10.out.left hL.rep hL.kpt hL.sub);clear hL;have z0:=HN11.out.box.c 0 (by simp);have z1:=HN11.out.box.c 1 (by simp);have z2:=HN11.out.box.c 2 (by simp);have f0:=HN11.out.box.f 0;have f1:=HN11.out.box.f 1;have f2:=HN11.out.box.f 2;have zl:=HN11.out.box.lt;simp only [List.getElem_cons_zero,List.getElem_cons_succ] at z0 z1 z2))
   have HN12:Hid (Nms 4 W (((w11.setCell ⟨B,0,none⟩ (.int .u8 4)).setCell ⟨B,1,none⟩ (.slice io11 0 ic11)).setCell ⟨B,2,none⟩ (.int .u64 0)) (.pointer (some a)) ex4 F11 B [.int .u8 4,.slice io11 0 ic11,.int .u64 0]):=HN11.out.store (.int .u8 4) (.slice io11 0 ic11) (.int .u64 0)
   clear HN9 HN10 HN11 HS HBL z0 z1 z2 f0 f1 f2 zl
   generalize ((w11.setCell ⟨B,0,none⟩ (.int .u8 4)).setCell ⟨B,1,none⟩ (.slice io11 0 ic11)).setCell ⟨B,2,none⟩ (.int .u64 0)=w12 at HN12 ⊢
   have z0:=HN12.out.box.c 0 (by simp)
   have zl:=HN12.out.box.lt
   simp only [List.getElem_cons_zero] at z0
   go_upto_region 16 with (fail)
   clear z0 zl
   have HA12:=Hid.m HN12.out.ap
   clear HN12
   go_upto_region 17 with (go_at_call 11;refine (new_ckE 2 [2,1] 0 _ 2 _ exH (by decide) (row_new [2,1] (by decide))).mono ?_;rintro x w13 ⟨rfl,h0⟩;have HA13:=Hid.m (HA12.out.below eng_is (w1:=w13) (by rw [h0];exact g_alloc _ _));clear h0)
   go_upto_region 18 with (go_at_call 11;refine (new_now 2 [1] (-1) _ 1 _ exG (.inl (by decide)) (row_new [1] (by decide))).mono ?_;rintro x w14 ⟨rfl,h0⟩;have HA14:=Hid.m (HA13.out.below eng_is (w1:=w14) (by rw [h0];exact g_alloc _ _));clear h0)
   go_upto_region 20 with (go_at_call 14;refine (image_nil w14).mono ?_;rintro x w15 ⟨rfl,hb⟩;have HA15:=Hid.m (HA14.out.below eng_is hb);clear hb)
   clear HA12 HA13 HA14
   have HA16:=Hid.m (HA15.out.below eng_is (w1:=w15.alloc (.cells #[.int .i64 0,.slice none 0 0,.slice none 0 0,.int .i64 0,.int .i64 0,.bool false] 41)) (g_alloc _ _))
   clear HA15
   generalize w15.alloc (.cells #[.int .i64 0,.slice none 0 0,.slice none 0 0,.int .i64 0,.int .i64 0,.bool false] 41)=w18 at HA16 ⊢
   go_wp2_with (first
    | (go_at_call 15;refine (tick_r HA16.out.rep exI).mono ?_;rintro x w16 ⟨rfl,h0⟩;replace h0:=h0.symm;subst h0)
    | (go_at_call 16;refine (alive_any eng_is w18 (fun w' hb'=>HTB.out w' (g_on HA16.out.bel hb'))).mono ?_;rintro x w17 ⟨rfl,hb⟩;have HB17:=Hid.m (g_on HA16.out.bel hb);clear hb))
   try simp only [Exit.inBlock,Exit.then]
   go_ret
   exact ⟨rfl,HB17.out⟩
end Go.Proofs.YtpinkmndjabbjaaGreatDoor.En
