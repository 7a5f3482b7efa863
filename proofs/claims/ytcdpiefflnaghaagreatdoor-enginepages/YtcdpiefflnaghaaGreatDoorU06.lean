/-
  Package engine and what stands beneath it, part 06: contracts of functions, and what they rest on.
-/
import Derived.Test.YtcdpiefflnaghaaGreatDoorU04
import Derived.Test.YtcdpiefflnaghaaGreatDoorU05
set_option linter.unusedSimpArgs false
set_option linter.unusedVariables false
set_option maxRecDepth 100000
namespace Go.Proofs.YtcdpiefflnaghaaGreatDoor.En
open Go.Proofs.YtcdpiefflnaghaaGreatDoor.Lr
open Go.Proofs.YtcdpiefflnaghaaGreatDoor.Qt
open Go.Proofs.YtcdpiefflnaghaaGreatDoor.Sb
open Go.RowKit Go.Proofs.YtcdpiefflnaghaaGreatDoor
def EJ:GEl Im:=⟨76,27,5,56,.agg #[.string ⟨#[]⟩,.string ⟨#[]⟩,.int .u32 0,.int .i64 0,.int .u64 0],Im.cl⟩
theorem okJ:GOk EJ:=⟨Tryz.underlying27,by kernel_rfl,rfl,by decide,by decide,fun _=>rfl,fun a u h=>by simp [EJ,Im.cl] at h;rcases h with rfl | rfl | rfl | rfl | rfl <;> rfl⟩
theorem _root_.Go.Proofs.YtcdpiefflnaghaaGreatDoor.GRd.ij {w:World}{ao:Option Addr}{l:List Im}{cap:Nat}(h:GRd EJ w ao l cap)(hne:l≠[]):∃ b off,ao=some ⟨b,off,none⟩∧b<w.heap.size∧∀ i x,l[i]? = some x→w.cell? ⟨b,off+i * 5,none⟩=some (.string x.key)∧w.cell? ⟨b,off+i * 5+1,none⟩=some (.string x.value)∧w.cell? ⟨b,off+i * 5+2,none⟩=some (.int .u32 x.flags)∧w.cell? ⟨b,off+i * 5+3,none⟩=some (.int .i64 x.till)∧w.cell? ⟨b,off+i * 5+4,none⟩=some (.int .u64 x.unique):=by
 obtain ⟨b,off,e,hb,hc⟩:=h.lies hne
 refine ⟨b,off,e,hb,fun i x hx=>?_⟩
 obtain ⟨hi,rfl⟩:=List.getElem?_eq_some_iff.1 hx
 have h0:=hc i hi 0 (by decide)
 have h1:=hc i hi 1 (by decide)
 have h2:=hc i hi 2 (by decide)
 have h3:=hc i hi 3 (by decide)
 have h4:=hc i hi 4 (by decide)
 exact ⟨by simpa [EJ,Im.cl] using h0,by simpa [EJ,Im.cl] using h1,by simpa [EJ,Im.cl] using h2,by simpa [EJ,Im.cl] using h3,by simpa [EJ,Im.cl] using h4⟩
end Go.Proofs.YtcdpiefflnaghaaGreatDoor.En
