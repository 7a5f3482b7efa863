/-
  Package engine and what stands beneath it, part 24: contracts of functions, and what they rest on.
-/
import Derived.Test.YtcdpiefflnaghaaGreatDoorU23
set_option linter.unusedSimpArgs false
set_option linter.unusedVariables false
set_option maxRecDepth 100000
namespace Go.Proofs.YtcdpiefflnaghaaGreatDoor.Tb
open Go.Proofs.YtcdpiefflnaghaaGreatDoor.Me
open Go.RowKit
theorem new_any (w:World):
  Calls Tryz.prog 40 #[] w fun e w'=>∃ p,e=.returned (.pointer (some ⟨p,0,none⟩))∧(∃ F,TB w' w.heap.size p [] 0 0 F)∧Below w.heap.size w w':=by
 have hmk:(Instr.makeSlice 163 (.int .i64 8) (.int .i64 8)).run Tryz.prog w=.ok (.slice (some ⟨w.heap.size,0,none⟩) 8 8) (w.alloc (.cells (madeCells #[Value.slice none 0 0] 8) 241)):=run_rows 8 (by omega) w
 go_enter Tryz.func40,Tryz.ntmps40
 go_upto_region 2 with (fail)
 obtain ⟨wa,hwa⟩:∃ x,x=w.alloc (.cells (madeCells #[Value.slice none 0 0] 8) 241):=⟨_,rfl⟩
 obtain ⟨w1,hw1⟩:∃ x,x=wa.alloc (Obj.cells #[.pointer none,.slice (some ⟨w.heap.size,0,none⟩) 8 8,.slice none 0 0,.int .i64 0,.int .i64 0,.int .i64 0] 165):=⟨_,rfl⟩
 rw [← hwa,← hw1]
 have hsa:wa.heap.size=w.heap.size+1:=by rw [hwa];simp
 have hs1:w1.heap.size=w.heap.size+1+1:=by rw [hw1];simp [hsa]
 have hba:Below w.heap.size w wa:=by rw [hwa];exact (Below.refl _ _).alloc (Nat.le_refl _) _
 have hb1:Below wa.heap.size wa w1:=by rw [hw1];exact (Below.refl _ _).alloc (Nat.le_refl _) _
 have hna:wa.heap[w.heap.size]? = some (.cells (madeCells #[Value.slice none 0 0] 8) 241 (0,0)):=by
  rw [hwa];unfold World.alloc;exact Array.getElem?_push_size
 have hn1:w1.heap[w.heap.size]? = some (.cells (madeCells #[Value.slice none 0 0] 8) 241 (0,0)):=(hb1.block _ (by omega)).trans hna
 have hp1:w1.heap[w.heap.size+1]? = some (.cells #[.pointer none,.slice (some ⟨w.heap.size,0,none⟩) 8 8,.slice none 0 0,.int .i64 0,.int .i64 0,.int .i64 0] 165 (0,0)):=by
  rw [hw1,← hsa];unfold World.alloc;exact Array.getElem?_push_size
 have c0:w1.cell? ⟨w.heap.size+1,0,none⟩=some (.pointer none):=by rw [cell_of_heap hp1];rfl
 have f0:w1.frozen? ⟨w.heap.size+1,0,none⟩=false:=frozen_of_heap hp1 0
 have HB1:Hid (Below w.heap.size w w1):=hba.trans (hb1.mono (by omega))
 have hset:=heap_set (o:=0) (v:=.pointer (some ⟨w.heap.size+1,0,none⟩)) hp1
 have hn2:(w1.setCell ⟨w.heap.size+1,0,none⟩ (.pointer (some ⟨w.heap.size+1,0,none⟩))).heap[w.heap.size]? = some (.cells (madeCells #[Value.slice none 0 0] 8) 241 (0,0)):=(Below.heap_setCell w1 ⟨w.heap.size+1,0,none⟩ _ w.heap.size (by show w.heap.size≠w.heap.size+1;omega)).trans hn1
 have HTM:Hid (Tm (w1.setCell ⟨w.heap.size+1,0,none⟩ (.pointer (some ⟨w.heap.size+1,0,none⟩))) w.heap.size (w.heap.size+1) (fun _=>w.heap.size) (two 8 0) (fun _ _=>.slice none 0 0) (fun _ _=>[]) 0 0 0):=by
  have nb:∀ b,0<two 8 0 b→b=false:=fun b hb=>by
   cases b
   ·rfl
   ·exact absurd hb (by show ¬ 0<0;omega)
  refine ⟨?_,?_,?_,?_,?_,?_,fun i=>frozen_of_heap hset i,⟨(by omega),(by simp [hs1])⟩,fun b i hi=>?_,fun b hb i=>frozen_of_heap hn2 i,fun b i hi=>OwnR.nil _ _,fun b hb=>⟨(by show w.heap.size≠w.heap.size+1;omega),Nat.le_refl _,(by simp [hs1];try omega)⟩,fun hb=>absurd hb (by show ¬ 0<0;omega),fun b i b' i' g hi hi' g1 g2=>(by cases g1),fun b i g hi hg=>(by cases hg),(by show 1≤8;omega)⟩
  ·rw [cell_of_heap hset];rfl
  ·rw [cell_of_heap hset];rfl
  ·rw [cell_of_heap hset];rfl
  ·rw [cell_of_heap hset];rfl
  ·rw [cell_of_heap hset];rfl
  ·rw [cell_of_heap hset];rfl
  ·obtain rfl:=nb b (by omega)
   show World.cell? _ ⟨w.heap.size,i,none⟩=_
   rw [cell_of_heap hn2]
   exact made_cell 8 i hi
 have HIV:Hid (flat (two 8 0) (fun _ _=>[])=[]∧Iv (two 8 0) (fun _ _=>[]) 0 0):=by
  have hf:flat (two 8 0) (fun _ _=>[])=[]:=by
   unfold flat rowsOf
   simp
  exact ⟨hf,⟨fun b i hi q hq=>(by cases hq),fun b i hi q hq=>(by cases hq),(by rw [hf];exact List.Pairwise.nil),Nat.zero_le _,fun i hi=>rfl,(by rw [hf];rfl)⟩⟩
 clear hwa hw1 hba hb1 hna hn1 hp1 hset hn2 hmk
 go_wp2
 go_ret
 refine ⟨w.heap.size+1,rfl,⟨Ft (w.heap.size+1) (fun _=>w.heap.size) (two 8 0) (fun _ _=>.slice none 0 0),(fun _=>w.heap.size),two 8 0,(fun _ _=>.slice none 0 0),(fun _ _=>[]),0,HTM.out,HIV.out.2,by rw [HIV.out.1],fun b=>?_,rfl⟩,HB1.out.setCell (p:=⟨w.heap.size+1,0,none⟩) (by show w.heap.size≤w.heap.size+1;omega) _⟩
 cases b
 ·show 8≤_;omega
 ·show 0≤_;omega
end Go.Proofs.YtcdpiefflnaghaaGreatDoor.Tb
