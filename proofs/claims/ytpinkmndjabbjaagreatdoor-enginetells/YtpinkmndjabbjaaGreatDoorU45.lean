/-
  Package engine and what stands beneath it, part 45: contracts of functions, and what they rest on.
-/
import Derived.Test.YtpinkmndjabbjaaGreatDoorU09
set_option linter.unusedSimpArgs false
set_option linter.unusedVariables false
set_option maxRecDepth 100000
namespace Go.Proofs.YtpinkmndjabbjaaGreatDoor.En
open Go.Proofs.YtpinkmndjabbjaaGreatDoor.It
open Go.Proofs.YtpinkmndjabbjaaGreatDoor.Lr
open Go.Proofs.YtpinkmndjabbjaaGreatDoor.Qt
open Go.Proofs.YtpinkmndjabbjaaGreatDoor.Sb
open Go.RowKit Go.Proofs.YtpinkmndjabbjaaGreatDoor
section
variable {Tb:World→Prop} {R:Nat→World→Value→Sh→(Nat→Prop)→Prop}
structure Tel (R:Nat→World→Value→Sh→(Nat→Prop)→Prop)(n:Nat)(W wr:World)(e:Value)(s:Sh)(F:Nat→Prop)(b:Nat)(p:Pl)(ko:Option Addr)(kc:Nat):Prop where
 rep:R n wr e s F
 bel:Below W.heap.size W wr
 new:∀ k,F k→W.heap.size≤k
 box:GBx wr b [.int .i64 p.now,.slice ko p.kept.length kc]
 nb:¬ F b
 bw:W.heap.size≤b
 row:GRd EK wr ko p.kept kc
 rl:∀ a,ko=some a→a.block<wr.heap.size∧¬ F a.block∧a.block≠b
theorem Tel.left {n n1:Nat}{W wr w1:World}{e:Value}{s s1:Sh}{F F1:Nat→Prop}{b:Nat}{p:Pl}{ko:Option Addr}{kc:Nat}(h:Tel R n W wr e s F b p ko kc)(hr:R n1 w1 e s1 F1)(hk:Kpt F wr w1)(hs:∀ k,F1 k→F k∨wr.heap.size≤k):Tel R n1 W w1 e s1 F1 b p ko kc:=by
 have hb:=h.box.lt
 refine ⟨hr,h.bel.trans (hk.below h.new h.bel.size),?_,h.box.kpt hk h.nb,?_,h.bw,h.row.kpt hk (fun a ha=>(h.rl a ha).2.1),?_⟩
 ·intro k hk1
  rcases hs k hk1 with h1 | h1
  ·exact h.new k h1
  ·exact Nat.le_trans h.bel.size h1
 ·intro hf
  rcases hs b hf with h1 | h1
  ·exact h.nb h1
  ·omega
 ·intro a ha
  obtain ⟨h1,h2,h3⟩:=h.rl a ha
  refine ⟨Nat.lt_of_lt_of_le h1 hk.size,fun hf=>?_,h3⟩
  rcases hs _ hf with h4 | h4
  ·exact h2 h4
  ·omega
theorem Tel.below (E:Eng Tb R){n:Nat}{W wr w1:World}{e:Value}{s:Sh}{F:Nat→Prop}{b:Nat}{p:Pl}{ko:Option Addr}{kc:Nat}(h:Tel R n W wr e s F b p ko kc)(hb:Below wr.heap.size wr w1):Tel R n W w1 e s F b p ko kc:=
 h.left (E.on h.rep hb) (Kpt.of hb) (fun _ hk=>.inl hk)
theorem Tel.store (E:Eng Tb R){n:Nat}{W wr w1:World}{e:Value}{s:Sh}{F:Nat→Prop}{b:Nat}{p p1:Pl}{ko k1:Option Addr}{kc c1:Nat}(h:Tel R n W wr e s F b p ko kc)(hb:Below wr.heap.size wr w1)(ho:GOwn EK w1 wr.heap.size (.slice k1 p1.kept.length c1) p1.kept):
  Tel R n W ((w1.setCell ⟨b,0,none⟩ (.int .i64 p1.now)).setCell ⟨b,1,none⟩ (.slice k1 p1.kept.length c1)) e s F b p1 k1 c1:=by
 have h1:=h.below E hb
 have hbl:=h.box.lt
 have hown:∀ a,k1=some a→wr.heap.size≤a.block∧a.block<w1.heap.size:=by
  intro a ha
  subst ha
  exact ho.lt a.block rfl
 obtain ⟨k2,c2,e2,hrd⟩:=ho.rd okK
 obtain ⟨rfl,rfl⟩:k1=k2∧c1=c2:=by injection e2 with q1 q2 q3;exact ⟨q1,q3⟩
 have hg:w1.grownBy ((w1.setCell ⟨b,0,none⟩ (.int .i64 p1.now)).setCell ⟨b,1,none⟩ (.slice k1 p1.kept.length c1)) (some b):=by
  have q1:w1.grownBy (w1.setCell ⟨b,0,none⟩ (.int .i64 p1.now)) (some b):=g_set w1 ⟨b,0,none⟩ (.int .i64 p1.now)
  generalize w1.setCell ⟨b,0,none⟩ (.int .i64 p1.now)=V1 at q1 ⊢
  exact q1.trans (g_set V1 ⟨b,1,none⟩ (.slice k1 p1.kept.length c1))
 have hK:=Kpt.grown hg
 refine ⟨E.stab h1.rep hK.size (fun k hk=>hK.block k (E.lt h1.rep k hk) (fun x=>h.nb (x ▸ hk))),?_,h.new,?_,h.nb,h.bw,hrd.kpt hK ?_,?_⟩
 ·exact (h1.bel.setCell (p:=⟨b,0,none⟩) h.bw _).setCell (p:=⟨b,1,none⟩) h.bw _
 ·exact ((h1.box.set 0 (.int .i64 p1.now) (by simp)).set 1 (.slice k1 p1.kept.length c1) (by simp)).ext (by simp)
 ·intro a ha x
  have:=(hown a ha).1
  omega
 ·intro a ha
  obtain ⟨h2,h3⟩:=hown a ha
  refine ⟨Nat.lt_of_lt_of_le h3 hK.size,fun hf=>?_,by omega⟩
  have:=E.lt h.rep _ hf
  omega
end
end Go.Proofs.YtpinkmndjabbjaaGreatDoor.En
