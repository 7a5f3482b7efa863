/-
  Package engine and what stands beneath it, part 46: contracts of functions, and what they rest on.
-/
import Derived.Test.YtpinkmndjabbjaaGreatDoorU08
set_option linter.unusedSimpArgs false
set_option linter.unusedVariables false
set_option maxRecDepth 100000
namespace Go.Proofs.YtpinkmndjabbjaaGreatDoor.En
open Go.Proofs.YtpinkmndjabbjaaGreatDoor.It
open Go.Proofs.YtpinkmndjabbjaaGreatDoor.Lr
open Go.Proofs.YtpinkmndjabbjaaGreatDoor.Qt
open Go.Proofs.YtpinkmndjabbjaaGreatDoor.Sb
open Go.Proofs.YtpinkmndjabbjaaGreatDoor
theorem dels_len (t:Int):∀ (ks:List ByteArray) (s:Sh),(s.dels t ks).2.length≤ks.length
 | [],s=>by simp [Sh.dels]
 | k::ks,s=>by
  unfold Sh.dels
  cases s.at t k with
  | none=>have:=dels_len t ks s;simp only [List.length_cons];omega
  | some i=>have:=dels_len t ks (s.leave i);simp only [List.length_cons];omega
theorem put_len (s:Sh)(t:Int)(x:Im):(s.put t x).2.2.length≤2:=by
 unfold Sh.put
 repeat' split
 all_goals simp
theorem one_len (s:Sh)(c:Cm):(s.one c).2.2.length≤2:=by
 unfold Sh.one
 repeat' split
 all_goals first | (unfold Sh.putR;exact put_len _ _ _) | simp
theorem done_len (s:Sh)(c:Cm):(s.done c).2.2.length≤c.keys.length+2:=by
 unfold Sh.done
 repeat' split
 all_goals first
  | (have:=dels_len c.tenant c.keys s;simp only;omega)
  | (have:=one_len s c;omega)
  | simp
theorem evs_len (t:Int)(P:Nat):∀ (l:List Nat) (s:Sh),(s.evs t P l).2.length≤l.length
 | [],s=>by simp [Sh.evs]
 | k::ks,s=>by
  unfold Sh.evs
  cases s.held.findIdx? fun h=>decide (h.page=P∧h.chunk=k) with
  | none=>have:=evs_len t P ks s;simp only [List.length_cons];omega
  | some i=>
   simp only
   cases s.held[i]? with
   | none=>have:=evs_len t P ks s;simp only [List.length_cons];omega
   | some h=>have:=evs_len t P ks (s.leave i);simp only [List.length_cons];omega
theorem evict_len (t p:Int):∀ (n:Nat) (s:Sh),(s.evict t p n).2.length≤16 * n
 | 0,s=>by simp [Sh.evict]
 | n+1,s=>by
  unfold Sh.evict
  split
  ·simp
  ·have h1:=evs_len t (lastI s.pages t).toNat (List.range 16) s
   have h2:=evict_len t p n (s.evs t (lastI s.pages t).toNat (List.range 16)).1
   simp only [List.length_append,List.length_range] at *
   omega
theorem op_len (s:Sh)(o:Opn)(h:∀ c,o=.cmd c→c.keys.length≤40):(s.op o).2.2.1.length≤300:=by
 cases o with
 | cmd c=>
  have h1:=h c rfl
  have h2:=done_len s c
  unfold Sh.op
  simp only
  split
  ·simp only;omega
  ·simp
 | clock m=>
  unfold Sh.op
  simp only
  split <;> simp
 | quota t p=>
  unfold Sh.op
  simp only
  split
  ·unfold Sh.setQ
   have:=evict_len t p 16 s
   simp only [List.length_append,List.length_cons,List.length_nil]
   omega
  ·simp
theorem after_len (p:Pl)(c:Ch):(after p c).kept.length≤p.kept.length+1:=by
 unfold after
 have h1:=List.length_filter_le (fun z=>!(c.hits z || dueI z.2 (c.now p.now))) p.kept
 have h2:c.news.length≤1:=by unfold Ch.news;split <;> simp
 simp only [List.length_append]
 omega
theorem afters_len:∀ (l:List Ch) (p:Pl),(l.foldl after p).kept.length≤p.kept.length+l.length
 | [],p=>by simp
 | c::l,p=>by
  have h1:=afters_len l (after p c)
  have h2:=after_len p c
  simp only [List.foldl_cons,List.length_cons]
  omega
end Go.Proofs.YtpinkmndjabbjaaGreatDoor.En
