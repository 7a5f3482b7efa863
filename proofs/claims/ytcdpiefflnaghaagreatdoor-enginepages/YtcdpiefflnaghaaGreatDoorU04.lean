/-
  Package engine and what stands beneath it, part 04: contracts of functions, and what they rest on.
-/
import Derived.Test.YtcdpiefflnaghaaGreatDoorU00
import Derived.Test.YtcdpiefflnaghaaGreatDoorU02
import Derived.Test.YtcdpiefflnaghaaGreatDoorU03
set_option linter.unusedSimpArgs false
set_option linter.unusedVariables false
set_option maxRecDepth 100000
namespace Go.Proofs.YtcdpiefflnaghaaGreatDoor.En
open Go.Proofs.YtcdpiefflnaghaaGreatDoor.Lr
open Go.Proofs.YtcdpiefflnaghaaGreatDoor.Qt
open Go.Proofs.YtcdpiefflnaghaaGreatDoor.Sb
open Go.RowKit Go.Proofs.YtcdpiefflnaghaaGreatDoor
def Im.cl (x:Im):List Value:=[.string x.key,.string x.value,.int .u32 x.flags,.int .i64 x.till,.int .u64 x.unique]
def Im.v (x:Im):Value:=.agg #[.string x.key,.string x.value,.int .u32 x.flags,.int .i64 x.till,.int .u64 x.unique]
def Im.none:Im:=⟨⟨#[]⟩,⟨#[]⟩,0,0,0⟩
def EK:GEl (Int × Im):=⟨141,39,6,64,.agg #[.int .i64 0,.string ⟨#[]⟩,.string ⟨#[]⟩,.int .u32 0,.int .i64 0,.int .u64 0],fun z=>[.int .i64 z.1,.string z.2.key,.string z.2.value,.int .u32 z.2.flags,.int .i64 z.2.till,.int .u64 z.2.unique]⟩
theorem okK:GOk EK:=⟨Tryz.underlying39,by kernel_rfl,rfl,by decide,by decide,fun _=>rfl,fun a u h=>by simp [EK] at h;rcases h with rfl | rfl | rfl | rfl | rfl | rfl <;> rfl⟩
theorem _root_.Go.Proofs.YtcdpiefflnaghaaGreatDoor.GRd.kp {w:World}{ao:Option Addr}{l:List (Int × Im)}{cap:Nat}(h:GRd EK w ao l cap)(hne:l≠[]):∃ b off,ao=some ⟨b,off,none⟩∧b<w.heap.size∧∀ i (hi:i<l.length),w.cell? ⟨b,off+i * 6,none⟩=some (.int .i64 l[i].1)∧w.cell? ⟨b,off+i * 6+1,none⟩=some (.string l[i].2.key)∧w.cell? ⟨b,off+i * 6+2,none⟩=some (.string l[i].2.value)∧w.cell? ⟨b,off+i * 6+3,none⟩=some (.int .u32 l[i].2.flags)∧w.cell? ⟨b,off+i * 6+4,none⟩=some (.int .i64 l[i].2.till)∧w.cell? ⟨b,off+i * 6+5,none⟩=some (.int .u64 l[i].2.unique):=by
 obtain ⟨b,off,e,hb,hc⟩:=h.lies hne
 refine ⟨b,off,e,hb,fun i hi=>?_⟩
 have h0:=hc i hi 0 (by decide)
 have h1:=hc i hi 1 (by decide)
 have h2:=hc i hi 2 (by decide)
 have h3:=hc i hi 3 (by decide)
 have h4:=hc i hi 4 (by decide)
 have h5:=hc i hi 5 (by decide)
 exact ⟨by simpa [EK] using h0,by simpa [EK] using h1,by simpa [EK] using h2,by simpa [EK] using h3,by simpa [EK] using h4,by simpa [EK] using h5⟩
def Ch.kd:Ch→Int
 | .put _ _=>1
 | .drop _ _ _=>2
 | .clear _=>3
 | .clock _=>4
 | .quota _ _=>5
def Ch.tn:Ch→Int
 | .put t _=>t
 | .drop t _ _=>t
 | .clear t=>t
 | .clock _=>0
 | .quota t _=>t
def Ch.im:Ch→Im
 | .put _ x=>x
 | _=>Im.none
def Ch.key:Ch→ByteArray
 | .drop _ k _=>k
 | _=>⟨#[]⟩
def Ch.why:Ch→Int
 | .drop _ _ y=>y
 | _=>0
def Ch.to:Ch→Int
 | .clock n=>n
 | .quota _ n=>n
 | _=>0
def Ch.cl (c:Ch):List Value:=[.int .u8 c.kd,.int .i64 c.tn,.string c.im.key,.string c.im.value,.int .u32 c.im.flags,.int .i64 c.im.till,.int .u64 c.im.unique,.string c.key,.int .u8 c.why,.int .i64 c.to,.bool false]
def Ch.v (c:Ch):Value:=.agg #[.int .u8 c.kd,.int .i64 c.tn,.string c.im.key,.string c.im.value,.int .u32 c.im.flags,.int .i64 c.im.till,.int .u64 c.im.unique,.string c.key,.int .u8 c.why,.int .i64 c.to,.bool false]
def EC:GEl Ch:=⟨78,31,11,112,.agg #[.int .u8 0,.int .i64 0,.string ⟨#[]⟩,.string ⟨#[]⟩,.int .u32 0,.int .i64 0,.int .u64 0,.string ⟨#[]⟩,.int .u8 0,.int .i64 0,.bool false],Ch.cl⟩
theorem okC:GOk EC:=⟨Tryz.underlying31,by kernel_rfl,rfl,by decide,by decide,fun _=>rfl,fun a u h=>by simp [EC,Ch.cl] at h;rcases h with rfl | rfl | rfl | rfl | rfl | rfl | rfl | rfl | rfl | rfl | rfl <;> rfl⟩
theorem due_any (x:Im)(now:Int)(w:World):
  Calls Tryz.prog 72 #[x.v,.int .i64 now] w fun e w'=>e=.returned (.bool (dueI x now))∧Below w.heap.size w w':=by
 obtain ⟨key,value,flags,till,unique⟩:=x
 unfold dueI Im.v
 dsimp only
 by_cases h:till=0
 ·subst h
  go_enter Tryz.func72,Tryz.ntmps72
  go_wp2
  go_ret
  exact ⟨by simp,g_alloc _ _⟩
 ·have h':(till==0)=false:=by simpa using h
  have h'':(till != 0)=true:=by simpa using h
  go_enter Tryz.func72,Tryz.ntmps72
  go_wp2
  go_ret
  exact ⟨by simp [h],g_alloc _ _⟩
set_option maxHeartbeats 4000000 in
theorem has_any (now epoch number:Int)(prim:Bool)(qv:Value)(L:List (Int × Im))(ka kb:Option Addr)(ca cb:Nat)(w:World)(ha:GRd EK w ka L ca)(hb:GRd EK w kb L cb):
  Calls Tryz.prog 28 #[.agg #[.int .i64 now,.slice ka L.length ca],.agg #[.int .i64 now,qv,.slice kb L.length cb,.int .i64 epoch,.int .i64 number,.bool prim]] w fun e w'=>e=.returned (.bool true)∧Below w.heap.size w w':=by
 obtain ⟨W,hW⟩:∃ W,W=(w.alloc (.cells #[.int .i64 now,.slice ka L.length ca] 70)).alloc (.cells #[.int .i64 now,qv,.slice kb L.length cb,.int .i64 epoch,.int .i64 number,.bool prim] 41):=⟨_,rfl⟩
 have HB:Hid (Below w.heap.size w W):=by rw [hW];exact g_on (g_alloc _ _) (g_alloc _ _)
 have HX:Hid (GBx W w.heap.size [.int .i64 now,.slice ka L.length ca]):=by rw [hW];exact (GBx.made w [.int .i64 now,.slice ka L.length ca] _).alloc _
 have HY:Hid (GBx W (w.heap.size+1) [.int .i64 now,qv,.slice kb L.length cb,.int .i64 epoch,.int .i64 number,.bool prim]):=by
  rw [hW]
  have:=GBx.made (w.alloc (.cells #[.int .i64 now,.slice ka L.length ca] 70)) [.int .i64 now,qv,.slice kb L.length cb,.int .i64 epoch,.int .i64 number,.bool prim] 41
  rw [show (w.alloc (.cells #[.int .i64 now,.slice ka L.length ca] 70)).heap.size=w.heap.size+1 by simp] at this
  exact this
 have HA:=Hid.m (ha.below HB.out)
 have HC:=Hid.m (hb.below HB.out)
 have hlen:=ha.len
 clear ha hb
 have x0:=HX.out.c 0 (by simp)
 have x1:=HX.out.c 1 (by simp)
 have y0:=HY.out.c 0 (by simp)
 have y2:=HY.out.c 2 (by simp)
 simp only [List.getElem_cons_zero,List.getElem_cons_succ] at x0 x1 y0 y2
 have hlt:=HX.out.lt
 have hlt1:=HY.out.lt
 clear HX HY
 go_enter Tryz.func28,Tryz.ntmps28
 go_upto_region 1 with (fail)
 rw [← hW]
 clear hW
 go_wp2
 go_loopw [5] (fun i wr=>∃ k n:Nat,k≤L.length∧i=.int .i64 k∧wr=W.drewN n) (fun i _=>L.length - (intOf i).toNat)
 case atStart=>exact ⟨0,0,Nat.zero_le _,rfl,rfl⟩
 case round=>
  obtain ⟨k,n,hk,rfl,rfl⟩:=hrel
  by_cases hkl:k<L.length
  ·have hkl2:(k:Int)<(L.length:Int):=by omega
   have hne:L≠[]:=by intro e;rw [e] at hkl;simp at hkl
   obtain ⟨b,off,rfl,hbl,hcs⟩:=HA.out.kp hne
   obtain ⟨b',off',rfl,hbl',hcs'⟩:=HC.out.kp hne
   obtain ⟨r0,r1,r2,r3,r4,r5⟩:=hcs k hkl
   obtain ⟨s0,s1,s2,s3,s4,s5⟩:=hcs' k hkl
   obtain ⟨p,hpe⟩:∃ p,p=L[k]:=⟨_,rfl⟩
   rw [← hpe] at r0 r1 r2 r3 r4 r5 s0 s1 s2 s3 s4 s5
   clear hcs hcs' hne hpe
   go_wp2
   go_quiet (fail)
   go_wp2
   go_roundw
   case rel=>exact ⟨k+1,_,by omega,by go_num,by first | rfl | exact World.drewN_drewN _ _ _⟩
   case measure=>simp [intOf];omega
  ·have hkl2:¬ ((k:Int)<(L.length:Int)):=by omega
   go_wp2
   go_ret
   exact ⟨rfl,g_quiet_on n HB.out⟩
end Go.Proofs.YtcdpiefflnaghaaGreatDoor.En
namespace Go.Proofs.YtcdpiefflnaghaaGreatDoor.En
open Go.Proofs.YtcdpiefflnaghaaGreatDoor.Lr
open Go.Proofs.YtcdpiefflnaghaaGreatDoor.Qt
open Go.Proofs.YtcdpiefflnaghaaGreatDoor.Sb
open Go.RowKit Go.Proofs.YtcdpiefflnaghaaGreatDoor
def imB (clock:Int)(qv iv:Value)(epoch number:Int)(prim:Bool):List Value:=[.int .i64 clock,qv,iv,.int .i64 epoch,.int .i64 number,.bool prim]
end Go.Proofs.YtcdpiefflnaghaaGreatDoor.En
