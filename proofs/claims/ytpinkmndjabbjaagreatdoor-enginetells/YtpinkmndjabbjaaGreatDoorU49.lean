/-
  Package engine and what stands beneath it, part 49: contracts of functions, and what they rest on.
-/
import Derived.Test.YtpinkmndjabbjaaGreatDoorU45
import Derived.Test.YtpinkmndjabbjaaGreatDoorU46
import Derived.Test.YtpinkmndjabbjaaGreatDoorU47
import Derived.Test.YtpinkmndjabbjaaGreatDoorU48
import Derived.Test.YtpinkmndjabbjaaGreatDoorU11
set_option linter.unusedSimpArgs false
set_option linter.unusedVariables false
set_option maxRecDepth 100000
namespace Go.Proofs.YtpinkmndjabbjaaGreatDoor.En
open Go.Proofs.YtpinkmndjabbjaaGreatDoor.It
open Go.Proofs.YtpinkmndjabbjaaGreatDoor.Lr
open Go.Proofs.YtpinkmndjabbjaaGreatDoor.Qt
open Go.Proofs.YtpinkmndjabbjaaGreatDoor.Sb
open Go.RowKit Go.Proofs.YtpinkmndjabbjaaGreatDoor
theorem opn_cmd {o:Opr}{c:Cm}(h:o.opn=.cmd c):c=o.d.c:=by
 unfold Opr.opn at h
 split at h
 ·injection h with h1
  exact h1.symm
 ·split at h <;> cases h
theorem gets_op {w:World}{s s1:Sh}(I:Inv s){c:Cm}(hk:c.kind=1){rk rn:Int}{rI:List Im}{C:List Ch}{ok:Bool}(ht:(s1,(⟨rk,rI,rn⟩:Rs),C,ok)=s.op (.cmd c))(ko so io:Option Addr)(kc sc ic:Nat)(h:GRd EK w ko s.kept kc)(hs:GRd ES w so c.keys sc)(hi:GRd EJ w io rI ic):
  Calls Tryz.prog 26 #[.agg #[.int .i64 s.now,.slice ko s.kept.length kc],.agg (c.arr (.slice so c.keys.length sc)),.agg #[.int .u8 rk,.slice io rI.length ic,.int .u64 rn]] w fun e w'=>e=.returned (.bool true)∧Below w.heap.size w w':=by
 have hr:(⟨rk,rI,rn⟩:Rs)=(s.op (.cmd c)).2.1:=by rw [← ht]
 cases hm:c.may
 ·have e:(s.op (.cmd c)).2.1=⟨0,[],0⟩:=by unfold Sh.op;simp [hm]
  rw [e] at hr
  injection hr with h1 h2 h3
  subst h1 h2 h3
  exact gets_else s.now 0 0 (by decide) c s.kept ko so kc sc ic io w h hs
 ·rw [op_gets I hm hk] at hr
  split at hr
  ·injection hr with h1 h2 h3
   subst h1 h3
   exact gets_done s.now 0 c s.kept rI h2 ko so io kc sc ic w h hs hi
  ·injection hr with h1 h2 h3
   subst h1 h2 h3
   exact gets_else s.now 0 7 (by decide) c s.kept ko so kc sc ic io w h hs
end Go.Proofs.YtpinkmndjabbjaaGreatDoor.En
