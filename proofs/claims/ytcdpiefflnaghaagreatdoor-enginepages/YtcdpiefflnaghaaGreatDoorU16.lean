/-
  Package engine and what stands beneath it, part 16: contracts of functions, and what they rest on.
-/
import Derived.Test.YtcdpiefflnaghaaGreatDoorU00
set_option linter.unusedSimpArgs false
set_option linter.unusedVariables false
set_option maxRecDepth 100000
namespace Go.Proofs.YtcdpiefflnaghaaGreatDoor.Wh
open Go.RowKit
def ringD (d:Nat):Nat:=if h:d / 64=0 then 0 else ringD (d / 64)+1
termination_by d
decreasing_by omega
theorem ringD_zero {d:Nat}(h:d / 64=0):ringD d=0:=by rw [ringD];simp [h]
theorem ringD_succ {d:Nat}(h:¬ d / 64=0):ringD d=ringD (d / 64)+1:=by rw [ringD];simp [h]
theorem ringD_top:∀ (d:Nat),d / 64 ^ (ringD d+1)=0∧(ringD d=0∨¬ d / 64 ^ ringD d=0):=by
 intro d
 induction d using Nat.strongRecOn with
 | _ d ih=>
  by_cases h:d / 64=0
  ·rw [ringD_zero h]
   exact ⟨by simpa using h,.inl rfl⟩
  ·rw [ringD_succ h]
   obtain ⟨h1,h2⟩:=ih (d / 64) (by omega)
   refine ⟨?_,.inr ?_⟩
   ·rw [Nat.pow_succ,Nat.mul_comm,← Nat.div_div_eq_div_mul]
    exact h1
   ·rw [Nat.pow_succ,Nat.mul_comm,← Nat.div_div_eq_div_mul]
    rcases h2 with h2 | h2
    ·rw [h2];simpa using h
    ·exact h2
theorem pow64 (k:Nat):64 ^ k=2 ^ (6 * k):=by rw [Nat.pow_mul]
theorem xor_div (a b k:Nat):(a ^^^ b) / 64 ^ k=0↔a / 64 ^ k=b / 64 ^ k:=by
 rw [pow64,← Nat.shiftRight_eq_div_pow,← Nat.shiftRight_eq_div_pow,← Nat.shiftRight_eq_div_pow,Nat.shiftRight_xor_distrib]
 constructor
 ·intro h
  have h2:=congrArg (· ^^^ (b >>> (6 * k))) h
  simpa [Nat.xor_assoc] using h2
 ·intro h
  rw [h]
  exact Nat.xor_self _
def ring (a b:Nat):Nat:=ringD (a ^^^ b)
def slot (a b:Nat):Nat:=b / 64 ^ ring a b % 64
theorem ring_top (a b:Nat):a / 64 ^ (ring a b+1)=b / 64 ^ (ring a b+1)∧(ring a b=0∨¬ a / 64 ^ ring a b=b / 64 ^ ring a b):=by
 obtain ⟨h1,h2⟩:=ringD_top (a ^^^ b)
 exact ⟨(xor_div _ _ _).1 h1,h2.imp id (fun h e=>h ((xor_div _ _ _).2 e))⟩
theorem same_up {a b k j:Nat}(h:a / 64 ^ k=b / 64 ^ k)(hk:k≤j):a / 64 ^ j=b / 64 ^ j:=by
 obtain ⟨i,rfl⟩:∃ i,j=k+i:=⟨j - k,by omega⟩
 rw [Nat.pow_add,← Nat.div_div_eq_div_mul,← Nat.div_div_eq_div_mul,h]
theorem ring_is {a b r:Nat}(h1:a / 64 ^ (r+1)=b / 64 ^ (r+1))(h2:r=0∨¬ a / 64 ^ r=b / 64 ^ r):ring a b=r:=by
 obtain ⟨g1,g2⟩:=ring_top a b
 rcases Nat.lt_trichotomy (ring a b) r with h | h | h
 ·rcases h2 with h2 | h2
  ·omega
  ·exact absurd (same_up g1 h) h2
 ·exact h
 ·rcases g2 with g2 | g2
  ·omega
  ·exact absurd (same_up h1 h) g2
theorem lt_of_div {a b k:Nat}(h:a / 64 ^ k<b / 64 ^ k):a<b:=by
 refine Classical.byContradiction fun hn=>?_
 have:b / 64 ^ k≤a / 64 ^ k:=Nat.div_le_div_right (by omega)
 omega
theorem stay {a b c:Nat}(hab:a<b)(h:ring a c<ring a b∨(ring a c=ring a b∧slot a c<slot a b)):
  c<b∧ring c b=ring a b∧slot c b=slot a b:=by
 obtain ⟨b1,b2⟩:=ring_top a b
 obtain ⟨c1,c2⟩:=ring_top a c
 have key:c<b∧ring c b=ring a b:=by
  rcases h with h | ⟨h,hs⟩
  ·have hne:¬ a / 64 ^ ring a b=b / 64 ^ ring a b:=by
    rcases b2 with b2 | b2
    ·omega
    ·exact b2
   have hac:a / 64 ^ ring a b=c / 64 ^ ring a b:=same_up c1 h
   have hac1:a / 64 ^ (ring a b+1)=c / 64 ^ (ring a b+1):=same_up c1 (by omega)
   have hlt:a / 64 ^ ring a b<b / 64 ^ ring a b:=by
    have:a / 64 ^ ring a b≤b / 64 ^ ring a b:=Nat.div_le_div_right (by omega)
    omega
   exact ⟨lt_of_div (k:=ring a b) (by omega),ring_is (by omega) (.inr (by omega))⟩
  ·rw [h] at c1
   unfold slot at hs
   rw [h] at hs
   have e1:∀ x:Nat,x / 64 ^ (ring a b+1)=x / 64 ^ ring a b / 64:=fun x=>by rw [Nat.pow_succ,Nat.div_div_eq_div_mul]
   have hcb:c / 64 ^ ring a b<b / 64 ^ ring a b:=by
    have:=e1 c
    have:=e1 b
    omega
   exact ⟨lt_of_div hcb,ring_is (by omega) (.inr (by omega))⟩
 refine ⟨key.1,key.2,?_⟩
 unfold slot
 rw [key.2]
theorem ring_le {a b:Nat}(ha:a≤1099511627776)(hb:b≤1099511627776):ring a b≤6:=by
 obtain ⟨g1,g2⟩:=ring_top a b
 refine Classical.byContradiction fun hn=>?_
 rcases g2 with g2 | g2
 ·omega
 ·refine g2 (same_up (k:=7) ?_ (by omega))
  rw [Nat.div_eq_of_lt (Nat.lt_of_le_of_lt ha (by decide)),Nat.div_eq_of_lt (Nat.lt_of_le_of_lt hb (by decide))]
theorem slot_lt (a b:Nat):slot a b<64:=Nat.mod_lt _ (by omega)
end Go.Proofs.YtcdpiefflnaghaaGreatDoor.Wh
