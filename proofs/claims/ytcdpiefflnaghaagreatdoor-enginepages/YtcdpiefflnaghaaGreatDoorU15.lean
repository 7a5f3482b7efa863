/-
  Package engine and what stands beneath it, part 15: contracts of functions, and what they rest on.
-/
import Derived.Test.YtcdpiefflnaghaaGreatDoorU09
set_option linter.unusedSimpArgs false
set_option linter.unusedVariables false
set_option maxRecDepth 100000
namespace Go.Proofs.YtcdpiefflnaghaaGreatDoor.En
open Go.Proofs.YtcdpiefflnaghaaGreatDoor.It
open Go.Proofs.YtcdpiefflnaghaaGreatDoor.Lr
open Go.Proofs.YtcdpiefflnaghaaGreatDoor.Qt
open Go.Proofs.YtcdpiefflnaghaaGreatDoor.Sb
open Go.RowKit Go.Proofs.YtcdpiefflnaghaaGreatDoor
structure Part (w:World)(F:Nat→Prop)(P:World→Prop):Prop where
 lt:∀ k,F k→k<w.heap.size
 stab:∀ w',w.heap.size≤w'.heap.size→(∀ k,F k→w'.heap[k]? = w.heap[k]?)→P w'
theorem Part.holds {w:World}{F:Nat→Prop}{P:World→Prop}(h:Part w F P):P w:=h.stab w (Nat.le_refl _) (fun _ _=>rfl)
theorem Part.same {w w':World}{F:Nat→Prop}{P:World→Prop}(h:Part w F P)(hs:w.heap.size≤w'.heap.size)(he:∀ k,F k→w'.heap[k]? = w.heap[k]?):Part w' F P:=
 ⟨fun k hk=>Nat.lt_of_lt_of_le (h.lt k hk) hs,fun w2 h1 h2=>h.stab w2 (Nat.le_trans hs h1) (fun k hk=>(h2 k hk).trans (he k hk))⟩
theorem Part.below {w w':World}{F:Nat→Prop}{P:World→Prop}(h:Part w F P)(hb:Below w.heap.size w w'):Part w' F P:=
 h.same hb.size fun k hk=>hb.block k (h.lt k hk)
theorem Part.kpt {w w':World}{F G:Nat→Prop}{P:World→Prop}(h:Part w F P)(hk:Kpt G w w')(hG:∀ k,F k→¬ G k):Part w' F P:=
 h.same hk.size fun k hf=>hk.block k (h.lt k hf) (hG k hf)
inductive Cp where
 | eng | whl | tab | itm | imm
deriving DecidableEq
def upc {α:Type}(f:Cp→α)(c:Cp)(x:α):Cp→α:=fun d=>if d=c then x else f d
theorem upc_same {α:Type}(f:Cp→α)(c:Cp)(x:α):upc f c x c=x:=by simp [upc]
theorem upc_other {α:Type}{f:Cp→α}{c d:Cp}{x:α}(h:d≠c):upc f c x d=f d:=by simp [upc,h]
structure Parts (w:World)(F:Cp→Nat→Prop)(P:Cp→World→Prop):Prop where
 part:∀ c,Part w (F c) (P c)
 apart:∀ c d k,F c k→F d k→c=d
def Un (F:Cp→Nat→Prop)(k:Nat):Prop:=∃ c,F c k
section
variable {w w':World} {F:Cp→Nat→Prop} {P:Cp→World→Prop}
theorem Parts.lt (h:Parts w F P):∀ k,Un F k→k<w.heap.size:=fun k ⟨c,hk⟩=>(h.part c).lt k hk
theorem Parts.same (h:Parts w F P)(hs:w.heap.size≤w'.heap.size)(he:∀ k,Un F k→w'.heap[k]? = w.heap[k]?):Parts w' F P:=
 ⟨fun c=>(h.part c).same hs fun k hk=>he k ⟨c,hk⟩,h.apart⟩
theorem Parts.below (h:Parts w F P)(hb:Below w.heap.size w w'):Parts w' F P:=h.same hb.size fun k hk=>hb.block k (h.lt k hk)
theorem Parts.turn (h:Parts w F P)(c:Cp){F':Nat→Prop}{P':World→Prop}(hk:Kpt (F c) w w')(hp:Part w' F' P')(hs:∀ k,F' k→F c k∨w.heap.size≤k):Parts w' (upc F c F') (upc P c P'):=by
 refine ⟨fun d=>?_,fun d e k h1 h2=>?_⟩
 ·by_cases e:d=c
  ·subst e
   rw [upc_same,upc_same]
   exact hp
  ·rw [upc_other e,upc_other e]
   exact (h.part d).kpt hk fun k hd hc=>e (h.apart d c k hd hc)
 ·have key:∀ a b,a=c→b≠c→upc F c F' a k→upc F c F' b k→a=b:=by
   intro a b ha hb h3 h4
   subst ha
   rw [upc_same] at h3
   rw [upc_other hb] at h4
   rcases hs k h3 with h5 | h5
   ·exact h.apart _ _ k h5 h4
   ·have:=(h.part b).lt k h4
    omega
  by_cases e1:d=c
  ·by_cases e2:e=c
   ·rw [e1,e2]
   ·exact key d e e1 e2 h1 h2
  ·by_cases e2:e=c
   ·exact (key e d e2 e1 h2 h1).symm
   ·rw [upc_other e1] at h1
    rw [upc_other e2] at h2
    exact h.apart d e k h1 h2
end
theorem Part.imp {w:World}{F:Nat→Prop}{P Q:World→Prop}(h:Part w F P)(hi:∀ w',P w'→Q w'):Part w F Q:=⟨h.lt,fun w' hs he=>hi w' (h.stab w' hs he)⟩
def Bk (ao:Option Addr)(k:Nat):Prop:=∃ a,ao=some a∧k=a.block
end Go.Proofs.YtcdpiefflnaghaaGreatDoor.En
