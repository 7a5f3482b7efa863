/-
  Package engine and what stands beneath it, part 22: contracts of functions, and what they rest on.
-/
import Derived.Deep.OwnRows
import Derived.Test.YtcdpiefflnaghaaGreatDoorU21
set_option linter.unusedSimpArgs false
set_option linter.unusedVariables false
set_option maxRecDepth 100000
namespace Go.Proofs.YtcdpiefflnaghaaGreatDoor.Tb
open Go.Proofs.YtcdpiefflnaghaaGreatDoor.Me
open Go.RowKit
def rowsOf (n:Nat)(f:Nat→List NU):List NU:=(List.range n).flatMap f
def flat (num:Bool→Nat)(ents:Bool→Nat→List NU):List NU:=rowsOf (num true) (ents true)++rowsOf (num false) (ents false)
theorem mem_rowsOf {n:Nat}{f:Nat→List NU}{q:NU}:q∈rowsOf n f↔∃ i,i<n∧q∈f i:=by
 unfold rowsOf
 simp [List.mem_flatMap]
theorem mem_flat {num:Bool→Nat}{ents:Bool→Nat→List NU}{q:NU}:q∈flat num ents↔∃ b i,i<num b∧q∈ents b i:=by
 unfold flat
 rw [List.mem_append,mem_rowsOf,mem_rowsOf]
 constructor
 ·rintro (⟨i,h1,h2⟩ | ⟨i,h1,h2⟩)
  ·exact ⟨true,i,h1,h2⟩
  ·exact ⟨false,i,h1,h2⟩
 ·rintro ⟨b,i,h1,h2⟩
  cases b
  ·exact .inr ⟨i,h1,h2⟩
  ·exact .inl ⟨i,h1,h2⟩
theorem flatMap_one {f:Nat→List NU}{i:Nat}:∀ {l:List Nat},l.Nodup→i∈l→∃ rest,∀ x,(l.flatMap (fun j=>if j=i then x else f j)).Perm (x++rest)
 | [],_,h=>by cases h
 | a::l,hn,h=>by
  obtain ⟨h1,h2⟩:=List.nodup_cons.1 hn
  by_cases e:a=i
  ·subst e
   refine ⟨l.flatMap f,fun x=>?_⟩
   have e2:l.flatMap (fun j=>if j=a then x else f j)=l.flatMap f:=by
    rw [List.flatMap_def,List.flatMap_def]
    refine congrArg List.flatten (List.map_congr_left fun j hj=>?_)
    rw [if_neg (fun (e:j=a)=>h1 (by rw [← e];exact hj))]
   rw [List.flatMap_cons,if_pos rfl,e2]
  ·obtain ⟨rest,hr⟩:=flatMap_one (f:=f) (i:=i) h2 ((List.mem_cons.1 h).resolve_left (fun e2=>e e2.symm))
   refine ⟨f a++rest,fun x=>?_⟩
   rw [List.flatMap_cons,if_neg e]
   refine ((hr x).append_left (f a)).trans ?_
   rw [← List.append_assoc,← List.append_assoc]
   exact List.perm_append_comm.append_right rest
theorem rowsOf_one (n:Nat)(f:Nat→List NU){i:Nat}(hi:i<n):∃ rest,∀ x,(rowsOf n (fun j=>if j=i then x else f j)).Perm (x++rest):=
 flatMap_one List.nodup_range (List.mem_range.2 hi)
theorem up2_row (ents:Bool→Nat→List NU)(b:Bool)(i:Nat)(x:List NU):up2 ents b i x b=fun j=>if j=i then x else ents b j:=by
 funext j
 simp [up2]
theorem up2_far (ents:Bool→Nat→List NU){b b':Bool}(i:Nat)(x:List NU)(h:b'≠b):up2 ents b i x b'=ents b':=by
 funext j
 simp [up2,h]
theorem flat_one (num:Bool→Nat)(ents:Bool→Nat→List NU)(b:Bool){i:Nat}(hi:i<num b):∃ rest,∀ x,(flat num (up2 ents b i x)).Perm (x++rest):=by
 obtain ⟨r,hr⟩:=rowsOf_one (num b) (ents b) hi
 cases b
 ·refine ⟨rowsOf (num true) (ents true)++r,fun x=>?_⟩
  unfold flat
  rw [up2_row,up2_far _ _ _ (by simp)]
  refine ((hr x).append_left _).trans ?_
  rw [← List.append_assoc,← List.append_assoc]
  exact List.perm_append_comm.append_right r
 ·refine ⟨r++rowsOf (num false) (ents false),fun x=>?_⟩
  unfold flat
  rw [up2_row,up2_far _ _ _ (by simp)]
  refine ((hr x).append_right _).trans ?_
  rw [List.append_assoc]
theorem up2_id (ents:Bool→Nat→List NU)(b:Bool)(i:Nat):up2 ents b i (ents b i)=ents:=by
 funext b' i'
 unfold up2
 split
 ·rename_i h
  rw [h.1,h.2]
 ·rfl
theorem flat_split (num:Bool→Nat)(ents:Bool→Nat→List NU)(b:Bool){i:Nat}(hi:i<num b):∃ rest,(flat num ents).Perm (ents b i++rest)∧∀ x,(flat num (up2 ents b i x)).Perm (x++rest):=by
 obtain ⟨rest,hr⟩:=flat_one num ents b hi
 refine ⟨rest,?_,hr⟩
 have:=hr (ents b i)
 rwa [up2_id] at this
theorem row_le (num:Bool→Nat)(ents:Bool→Nat→List NU)(b:Bool){i:Nat}(hi:i<num b):(ents b i).length≤(flat num ents).length:=by
 obtain ⟨rest,h,_⟩:=flat_split num ents b hi
 rw [h.length_eq,List.length_append]
 omega
structure Iv (num:Bool→Nat)(ents:Bool→Nat→List NU)(next many:Nat):Prop where
 home:∀ b i,i<num b→∀ q∈ents b i,rix q.1 (num b)=i
 ok:∀ b i,i<num b→∀ q∈ents b i,q.1.ok
 apart:(flat num ents).Pairwise (fun p q=>p.1≠q.1)
 nx:next≤num true
 done:∀ i,i<next→ents true i=[]
 cnt:many=(flat num ents).length
theorem apart_perm {A B:List NU}(h:A.Perm B)(ha:B.Pairwise (fun p q=>p.1≠q.1)):A.Pairwise (fun p q=>p.1≠q.1):=(h.pairwise_iff (fun h=>h.symm)).2 ha
theorem Iv.absent {num:Bool→Nat}{ents:Bool→Nat→List NU}{next many:Nat}(h:Iv num ents next many){y:Nm}(hr:∀ b,0<num b→ixOf (ents b (rix y (num b))) y=-1):∀ q∈flat num ents,q.1≠y:=by
 intro q hq e
 obtain ⟨b,i,hi,hm⟩:=mem_flat.1 hq
 have h1:=h.home b i hi q hm
 rw [e] at h1
 have h2:=hr b (by omega)
 rw [h1] at h2
 rcases ixOf_ge (ents b i) y with h3 | ⟨k,h3,_⟩
 ·have:∀ q∈ents b i,q.1≠y:=by
   unfold ixOf at h3
   cases e2:(ents b i).findIdx? (fun q=>decide (q.1=y)) with
   | none=>
    intro q hq
    have:=List.findIdx?_eq_none_iff.1 e2 q hq
    simpa using this
   | some k=>rw [e2] at h3;simp at h3
  exact this q hm e
 ·rw [h3] at h2;omega
def standAll (n:Nat)(ents:Bool→Nat→List NU):List NU→(Bool→Nat→List NU)
 | []=>ents
 | x::xs=>standAll n (up2 ents false (rix x.1 n) (ents false (rix x.1 n)++[x])) xs
theorem standAll_snoc (n:Nat)(x:NU):∀ (xs:List NU) (ents:Bool→Nat→List NU),standAll n ents (xs++[x])=up2 (standAll n ents xs) false (rix x.1 n) (standAll n ents xs false (rix x.1 n)++[x])
 | [],ents=>rfl
 | z::xs,ents=>by
  show standAll n _ (xs++[x])=_
  rw [standAll_snoc n x xs]
  rfl
theorem standAll_old (n:Nat):∀ (xs:List NU) (ents:Bool→Nat→List NU),standAll n ents xs true=ents true
 | [],ents=>rfl
 | x::xs,ents=>by
  show standAll n _ xs true=_
  rw [standAll_old n xs,up2_far _ _ _ (by simp)]
theorem standAll_flat (num:Bool→Nat)(hp:1≤num false):∀ (xs:List NU) (ents:Bool→Nat→List NU),(flat num (standAll (num false) ents xs)).Perm (flat num ents++xs)
 | [],ents=>by show (flat num ents).Perm _;rw [List.append_nil]
 | x::xs,ents=>by
  refine (standAll_flat num hp xs _).trans ?_
  obtain ⟨rest,h1,h2⟩:=flat_split num ents false (rix_lt x.1 hp)
  refine ((h2 _).append_right xs).trans ?_
  refine List.Perm.trans ?_ (h1.symm.append_right (x::xs))
  rw [List.append_assoc,List.append_assoc,List.append_assoc]
  refine List.Perm.append_left _ ?_
  rw [← List.append_assoc]
  refine List.Perm.trans ?_ (List.perm_middle.symm)
  exact (List.perm_append_comm (l₁:=[x]) (l₂:=rest)).append_right xs |>.trans (by rw [List.append_assoc];exact List.perm_middle)
theorem standAll_home (num:Bool→Nat):∀ (xs:List NU) (ents:Bool→Nat→List NU),(∀ b i,i<num b→∀ q∈ents b i,rix q.1 (num b)=i∧q.1.ok)→(∀ x∈xs,x.1.ok)→∀ b i,i<num b→∀ q∈standAll (num false) ents xs b i,rix q.1 (num b)=i∧q.1.ok
 | [],ents,h,_=>h
 | x::xs,ents,h,hx=>by
  refine standAll_home num xs _ (fun b i hi q hq=>?_) (fun z hz=>hx z (List.mem_cons_of_mem _ hz))
  by_cases e:b=false∧i=rix x.1 (num false)
  ·obtain ⟨rfl,rfl⟩:=e
   rw [up2_same] at hq
   rcases List.mem_append.1 hq with hm | hm
   ·exact h false _ hi q hm
   ·rw [List.mem_singleton.1 hm]
    exact ⟨rfl,hx x List.mem_cons_self⟩
  ·rw [up2_other e] at hq
   exact h b i hi q hq
end Go.Proofs.YtcdpiefflnaghaaGreatDoor.Tb
namespace Go.Proofs.YtcdpiefflnaghaaGreatDoor.Tb
open Go.Proofs.YtcdpiefflnaghaaGreatDoor.Me
open Go.RowKit
theorem delete_any (w:World)(base:Nat)(v:Value)(T:List NU)(h:OwnR w base v T)(i j:Nat)(hij:i≤j)(hj:j≤T.length):
  Calls Tryz.prog 217 #[v,.int .i64 i,.int .i64 j] w fun e w'=>∃ ao cap,e=.returned (.slice ao (T.take i++T.drop j).length cap)∧OwnR w' base (.slice ao (T.take i++T.drop j).length cap) (T.take i++T.drop j)∧w.grownBy w' v.ownBlock∧(Value.slice ao (T.take i++T.drop j).length cap).ownBlock=v.ownBlock:=by
 rcases h.2 with ⟨rfl,hn⟩ | ⟨g,cap,cur,rfl,_⟩
 ·have hT:T=[]:=List.eq_nil_of_length_eq_zero hn
  subst hT
  have hj0:j=0:=by simpa using hj
  have hi0:i=0:=by omega
  subst hj0 hi0
  refine (delete_none w).mono ?_
  rintro e w' ⟨rfl,rfl⟩
  exact ⟨none,0,rfl,h,World.grownBy.refl _ _,rfl⟩
 ·by_cases e:i=j
  ·subst e
   obtain ⟨cur,_,_,_,h1,h2,_⟩:=h.parts
   refine (delete_same w g T.length cap i hj h1 h2).mono ?_
   rintro e w' ⟨rfl,rfl⟩
   have e:T.take i++T.drop i=T:=List.take_append_drop i T
   rw [e]
   exact ⟨_,_,rfl,h,World.grownBy.refl _ _,rfl⟩
  ·refine (delete_some w base g cap T h i j (by omega) hj).mono ?_
   rintro e w' ⟨rfl,hO,hg⟩
   exact ⟨_,_,rfl,hO,hg,rfl⟩
section
variable {w:World} {base p:Nat} {blk num:Bool→Nat} {val:Bool→Nat→Value} {ents:Bool→Nat→List NU} {next many moved:Nat}
theorem Tm.setP (h:Tm w base p blk num val ents next many moved)(next' many' moved':Nat)(o:Nat)(v:Value)(ho:3≤o)
  (h3:(w.setCell ⟨p,o,none⟩ v).cell? ⟨p,3,none⟩=some (.int .i64 next')) (h4:(w.setCell ⟨p,o,none⟩ v).cell? ⟨p,4,none⟩=some (.int .i64 many')) (h5:(w.setCell ⟨p,o,none⟩ v).cell? ⟨p,5,none⟩=some (.int .i64 moved')):
  Tm (w.setCell ⟨p,o,none⟩ v) base p blk num val ents next' many' moved':=by
 have eb:∀ k,k≠p→(w.setCell ⟨p,o,none⟩ v).heap[k]? = w.heap[k]?:=fun k hk=>Below.heap_setCell w ⟨p,o,none⟩ v k hk
 refine ⟨?_,?_,?_,h3,h4,h5,fun i=>by simpa using h.pfree i,⟨h.plt.1,by simpa using h.plt.2⟩,fun b i hi=>(World.cell?_of_block (eb _ (h.pblk b (by omega)).1)).trans (h.cell b i hi),fun b hb i=>(World.frozen?_of_block (eb _ (h.pblk b hb).1)).trans (h.free b hb i),fun b i hi=>(h.own b i hi).same (fun g hg=>eb g (h.far b i g hi hg).1),fun b hb=>⟨(h.pblk b hb).1,(h.pblk b hb).2.1,by simpa using (h.pblk b hb).2.2⟩,h.bdiff,h.sep,h.far,h.pos⟩
 ·rw [World.cell?_setCell_other _ _ _ _ (by first | (simp;done) | (simp;omega))];exact h.self
 ·rw [World.cell?_setCell_other _ _ _ _ (by first | (simp;done) | (simp;omega))];exact h.rowsc
 ·rw [World.cell?_setCell_other _ _ _ _ (by first | (simp;done) | (simp;omega))];exact h.oldc
theorem Tm.setMoved (h:Tm w base p blk num val ents next many moved)(m:Nat):Tm (w.setCell ⟨p,5,none⟩ (.int .i64 m)) base p blk num val ents next many m:=
 h.setP next many m 5 _ (by omega) (by rw [World.cell?_setCell_other _ _ _ _ (by simp)];exact h.nextc) (by rw [World.cell?_setCell_other _ _ _ _ (by simp)];exact h.manyc) (World.cell?_setCell_same _ _ _ h.movedc)
theorem Tm.setMany (h:Tm w base p blk num val ents next many moved)(m:Nat):Tm (w.setCell ⟨p,4,none⟩ (.int .i64 m)) base p blk num val ents next m moved:=
 h.setP next m moved 4 _ (by omega) (by rw [World.cell?_setCell_other _ _ _ _ (by simp)];exact h.nextc) (World.cell?_setCell_same _ _ _ h.manyc) (by rw [World.cell?_setCell_other _ _ _ _ (by simp)];exact h.movedc)
theorem Tm.setNext (h:Tm w base p blk num val ents next many moved)(m:Nat):Tm (w.setCell ⟨p,3,none⟩ (.int .i64 m)) base p blk num val ents m many moved:=
 h.setP m many moved 3 _ (by omega) (World.cell?_setCell_same _ _ _ h.nextc) (by rw [World.cell?_setCell_other _ _ _ _ (by simp)];exact h.manyc) (by rw [World.cell?_setCell_other _ _ _ _ (by simp)];exact h.movedc)
end
theorem below_drewR {B:Nat}{w w':World}(h:Below B w w')(n:Nat):Below B w (w'.drewN n):=⟨h.os,h.tape,h.output,h.size,h.block⟩
theorem TAt.drop {w:World}{g off:Nat}{T:List NU}(h:TAt w (some ⟨g,off,none⟩) T)(j:Nat):TAt w (some ⟨g,off+j * 3,none⟩) (T.drop j):=by
 rcases h with rfl | ⟨b,off',e,hb,hc⟩
 ·exact .inl (by simp)
 ·cases e
  refine .inr ⟨g,off+j * 3,rfl,hb,fun i hi=>?_⟩
  have hi2:j+i<T.length:=by simp at hi;omega
  have:=hc (j+i) hi2
  rw [show off+(j+i) * 3=off+j * 3+i * 3 by omega] at this
  simpa using this
theorem OwnR.row {w:World}{base:Nat}{v:Value}{T:List NU}(h:OwnR w base v T):(v=.slice none 0 0∧T=[])∨∃ g cap,v=.slice (some ⟨g,0,none⟩) T.length cap∧T.length≤cap∧cap≤maxLen∧TAt w (some ⟨g,0,none⟩) T:=by
 obtain ⟨ao,cap',e',h1,h2,h3⟩:=h.at
 rcases h.2 with ⟨e,hn⟩ | ⟨g,cap,cur,e,_⟩
 ·exact .inl ⟨e,List.eq_nil_of_length_eq_zero hn⟩
 ·rw [e] at e'
  cases e'
  exact .inr ⟨g,_,e,h1,h2,h3⟩
set_option maxHeartbeats 2000000 in
theorem empty_any (w:World)(base p:Nat)(blk num:Bool→Nat)(val:Bool→Nat→Value)(ents:Bool→Nat→List NU)(next many moved:Nat)(h:Tm w base p blk num val ents next many moved)(hn:∀ b,num b≤1000000)(hnx:next<num true)(hmv:moved≤4)(hok:∀ x∈ents true next,x.1.ok)(hfl:(flat num ents).length≤400000):
  Calls Tryz.prog 256 #[.pointer (some ⟨p,0,none⟩)] w fun e w'=>e=.returned (.tuple #[])∧
   ∃ val' left,left=(ents true next).length - (4 - moved)∧Tm w' base p blk num val' (up2 (standAll (num false) ents ((ents true next).drop left)) true next ((ents true next).take left)) next many (moved+((ents true next).length - left))∧Kept (Ft p blk num val) w w'∧∀ k,Ft p blk num val' k→Ft p blk num val k∨w.heap.size≤k:=by
 have hrl:=row_le num ents true hnx
 obtain ⟨T,hT⟩:∃ T,T=ents true next:=⟨_,rfl⟩
 rw [← hT] at hok hrl ⊢
 have hO:=h.own true next hnx
 rw [← hT] at hO
 obtain ⟨left,hleft⟩:∃ left,left=T.length - (4 - moved):=⟨_,rfl⟩
 have hll:left≤T.length:=by omega
 have HH:=Hid.m h
 have HT:=Hid.m hT
 have HOK:=Hid.m hok
 have HFL:=Hid.m hfl
 have HNN:=Hid.m hn
 have HLF:=Hid.m hleft
 have nx2:(next:Int)<(num true:Int):=by omega
 obtain ⟨V,hV⟩:∃ V,V=val true next:=⟨_,rfl⟩
 rw [← hV] at hO
 have c1:=h.oldc
 unfold osl at c1
 rw [if_neg (by omega)] at c1
 have c2:=h.nextc
 have c3:=h.cell true next hnx
 rw [← hV] at c3
 have c4:=h.movedc
 have HO:=Hid.m hO
 have HV:=Hid.m hV
 have hpl:=h.plt.2
 clear h hT hok hfl hn hV hO
 obtain ⟨ao,cap,hVe,hc1,hc2,-⟩:=HO.out.at
 subst hVe
 unfold maxLen at hc2
 go_enter Tryz.func256,Tryz.ntmps256
 go_upto_region 0 with (fail)
 go_cut [2] from 6 (fun s2 wx=>s2=.slice ao T.length cap∧Hid (Below w.heap.size w wx))
 case first=>
  go_quiet (fail)
  go_wp2
  go_meet
  case rel=>exact ⟨rfl,below_drewR (Below.refl _ _) _⟩
 case rest=>
 obtain ⟨rfl,HB1⟩:=hcut
 obtain ⟨w1,hw1⟩:∃ x,x=wc:=⟨_,rfl⟩
 rw [← hw1] at HB1 ⊢
 have d4:=(bcl HB1.out _ _ hpl).trans c4
 clear hw1 c1 c2 c3 c4
 go_upto_region 1 with (fail)
 go_cut [3] from 6 (fun s3 wx=>s3=.int .i64 left∧wx=w1)
 case first=>
  by_cases hc:4 - moved<T.length
  ·have g1:(0:Int)<(T.length:Int) - (4 - (moved:Int)):=by omega
   go_wp2
   go_meet
   case rel=>exact ⟨by first | rfl | (congr 1;omega) | (simp;omega),rfl⟩
  ·have g1:¬ (0:Int)<(T.length:Int) - (4 - (moved:Int)):=by omega
   go_wp2
   go_meet
   case rel=>exact ⟨by first | rfl | (congr 1;omega) | (simp;omega),rfl⟩
 case rest=>
 obtain ⟨rfl,hwc⟩:=hcut
 obtain ⟨D,hD⟩:∃ D,D=T.drop left:=⟨_,rfl⟩
 have hDl:D.length=T.length - left:=by rw [hD];simp
 have HD:=Hid.m hD
 have HDL:=Hid.m hDl
 have hDT:D.length≤T.length:=by omega
 clear hD d4 hDl
 subst hwc
 clear hleft
 obtain ⟨w1,hw1⟩:∃ x,x=wc:=⟨_,rfl⟩
 rw [← hw1] at HB1 ⊢
 clear hw1
 go_upto_region 2 with (fail)
 go_cut [27,28,29] from 6 (fun s27 s28 s29 wx=>∃ A c,s27=.slice A D.length c∧s28=.int .i64 D.length∧s29=.int .i64 0∧wx=w1∧D.length≤c∧Hid (∀ W,OwnR W base (.slice ao T.length cap) T→TAt W A D))
 case first=>
  rcases HO.out.row with ⟨e1,e2⟩ | ⟨g,cap',e1,-,-,-⟩
  ·obtain ⟨rfl,e3,rfl⟩:=Value.slice.inj e1
   subst e2
   obtain rfl:left=0:=by simpa using hll
   have hd0:D.length=0:=by have:=HDL.out;simpa using this
   have hdn:D=[]:=List.eq_nil_of_length_eq_zero hd0
   subst hdn
   go_wp2
   go_meet
   case rel=>exact ⟨none,0,rfl,rfl,rfl,rfl,Nat.le_refl _,fun W _=>.inl rfl⟩
  ·obtain ⟨rfl,-,rfl⟩:=Value.slice.inj e1
   by_cases hcl:cap=left
   ·have hd0:D.length=0:=by have:=HDL.out;omega
    have hdn:D=[]:=List.eq_nil_of_length_eq_zero hd0
    have hTl:T.length=left:=by omega
    go_wp2
    go_meet
    case rel=>
     refine ⟨some ⟨g,0,none⟩,cap - left,?_,?_,rfl,rfl,(by have:=HDL.out;omega),fun W _=>.inl hdn⟩
     ·first | rfl | (rw [hd0,show cap - left=0 by omega];done) | (rw [hd0,show cap - left=0 by omega];rfl)
     ·first | rfl | (rw [hd0];done) | (rw [hd0];rfl) | (rw [hd0];simp;omega)
   ·have hcl2:¬ left=cap:=fun e=>hcl e.symm
    go_wp2
    go_meet
    case rel=>
     refine ⟨some ⟨g,left * 3,none⟩,cap - left,?_,?_,rfl,rfl,(by have:=HDL.out;omega),fun W hO=>?_⟩
     ·first | rfl | (rw [HDL.out];done) | (rw [HDL.out];rfl)
     ·first | rfl | (rw [HDL.out];done) | (rw [HDL.out];rfl) | (rw [HDL.out];simp;done) | (rw [HDL.out];congr 1;omega)
     ·obtain ⟨ao',cap',e,_,_,h3⟩:=hO.at
      cases e
      have h4:=h3.drop left
      rw [Nat.zero_add,← HD.out] at h4
      exact h4
 case rest=>
 obtain ⟨A,c,rfl,rfl,rfl,hwc2,hcD,HAT⟩:=hcut
 subst hwc2
 have hTn:T.length≤400000:=Nat.le_trans hrl HFL.out
 go_wp2
 go_loopw [29] (fun s29 wr=>∃ (i:Nat) (val':Bool→Nat→Value),i≤D.length∧s29=.int .i64 i∧Hid (Tm wr base p blk num val' (standAll (num false) ents (D.take i)) next many moved)∧Hid (val' true=val true)∧Hid (Kept (Ft p blk num val) w wr)∧Hid (∀ k,Ft p blk num val' k→Ft p blk num val k∨w.heap.size≤k)) (fun s29 _=>D.length - (intOf s29).toNat)
 case atStart=>exact ⟨0,val,Nat.zero_le _,rfl,HH.out.below HB1.out,rfl,Kept.below HB1.out,fun k hk=>.inl hk⟩
 case round=>
  obtain ⟨i,val',hi,rfl,HTm,HVT,HK,HF⟩:=hrel
  have HOw:Hid (OwnR wr base (.slice ao T.length cap) T):=by
   have h1:=HTm.out.own true next hnx
   rw [HVT.out,standAll_old,← HV.out,← HT.out] at h1
   exact h1
  by_cases hlt:i<D.length
  ·have hlt2:(i:Int)<(D.length:Int):=by omega
   rcases HAT.out wr HOw.out with h0 | ⟨b,off,rfl,hbb,hcs⟩
   ·rw [h0] at hlt;simp at hlt
   obtain ⟨c0,c1,c2⟩:=hcs i hlt
   obtain ⟨z,hz⟩:∃ z,z=D[i]:=⟨_,rfl⟩
   rw [← hz] at c0 c1 c2
   have HZ:=Hid.m hz
   clear hz hcs
   go_upto_region 5 with (fail)
   obtain ⟨w5,hw5⟩:∃ x,x=wr.alloc (Obj.cells #[.int .i64 z.1.tenant,.string z.1.key,.int .i64 z.2] 240):=⟨_,rfl⟩
   obtain ⟨X,hX⟩:∃ x,x=wr.heap.size:=⟨_,rfl⟩
   rw [← hw5,← hX]
   have a0:w5.cell? ⟨X,0,none⟩=some (.int .i64 z.1.tenant):=by rw [hw5,hX];simp
   have a1:w5.cell? ⟨X,1,none⟩=some (.string z.1.key):=by rw [hw5,hX];simp
   have a2:w5.cell? ⟨X,2,none⟩=some (.int .i64 z.2):=by rw [hw5,hX];simp
   have HB5:Hid (Below wr.heap.size wr w5):=by rw [hw5];exact (Below.refl _ _).alloc (Nat.le_refl _) _
   clear hw5 hX c0 c1 c2
   have HLB:Hid ((standAll (num false) ents (D.take i) false (rix z.1 (num false))).length+1≤1000000):=by
    have h1:=row_le num (standAll (num false) ents (D.take i)) false (rix_lt z.1 HH.out.pos)
    have h2:=(standAll_flat num HH.out.pos (D.take i) ents).length_eq
    rw [List.length_append] at h2
    have h3:=HFL.out
    have h4:(D.take i).length≤D.length:=by simp;omega
    show _≤_
    omega
   have HZK:Hid (z.1.ok):=HOK.out z (List.mem_of_mem_drop (i:=left) (by rw [← HD.out,HZ.out];exact List.getElem_mem hlt))
   have HST:=Hid.m (stand_any w5 base p blk num val' _ next many moved (HTm.out.below HB5.out) (HNN.out false) z HZK.out HLB.out)
   go_wp2_with (go_at_call 239;refine HST.out.mono ?_;rintro e w6 ⟨rfl,v,hT6,hK6,hF6⟩)
   go_roundw
   case rel=>
    refine ⟨i+1,up2 val' false (rix z.1 (num false)) v,by omega,by go_num,?_,?_,?_,?_⟩
    ·show Tm _ _ _ _ _ _ _ _ _ _
     rw [List.take_succ_eq_append_getElem hlt,← HZ.out,standAll_snoc]
     exact hT6
    ·show _=_
     rw [← HVT.out]
     funext j
     simp [up2]
    ·exact (HK.out.trans (Kept.below (F:=Ft p blk num val) HB5.out) (fun k hk=>.inl hk)).trans hK6 HF.out
    ·intro k hk
     rcases hF6 k hk with g | g
     ·exact HF.out k g
     ·exact .inr (Nat.le_trans HK.out.size (Nat.le_trans HB5.out.size g))
   case measure=>simp [intOf];omega
  ·have hlt2:¬ (i:Int)<(D.length:Int):=by omega
   have hkt:D.take i=D:=List.take_of_length_le (by omega)
   rw [hkt] at HTm
   have c4:=HTm.out.movedc
   have f4:=HTm.out.pfree 5
   have hpr:=HTm.out.plt.2
   clear hkt
   go_upto_region 8 with (fail)
   have em:((moved:Int)+((T.length:Int) - (left:Int)))=((moved+(T.length - left):Nat):Int):=by omega
   rw [em]
   obtain ⟨w8,hw8⟩:∃ x,x=wr.setCell ⟨p,5,none⟩ (.int .i64 ((moved+(T.length - left):Nat):Int)):=⟨_,rfl⟩
   rw [← hw8]
   have HT8:Hid (Tm w8 base p blk num val' (standAll (num false) ents D) next many (moved+(T.length - left))):=by rw [hw8];exact HTm.out.setMoved _
   have HK8:Hid (Kept (Ft p blk num val) w w8):=by rw [hw8];exact HK.out.trans (Kept.set (F:=Ft p blk num val) wr (.inl rfl) 5 _) (fun k hk=>.inl hk)
   clear hw8 em c4 f4 hpr HTm HK HOw HAT
   obtain ⟨MV,hMV⟩:∃ MV,MV=moved+(T.length - left):=⟨_,rfl⟩
   rw [← hMV] at HT8
   have HMV:=Hid.m hMV
   clear hMV
   have HO8:Hid (∀ W,Below w8.heap.size w8 W→OwnR W base (.slice ao T.length cap) T):=by
    intro W hb
    have h1:=(HT8.out.below hb).own true next hnx
    rw [HVT.out,standAll_old,← HV.out,← HT.out] at h1
    exact h1
   have HC8:Hid (∀ W,Below w8.heap.size w8 W→W.cell? ⟨p,2,none⟩=some (.slice (some ⟨blk true,0,none⟩) (num true) (num true))∧W.cell? ⟨p,3,none⟩=some (.int .i64 next)):=by
    intro W hb
    have h1:=(HT8.out.below hb).oldc
    unfold osl at h1
    rw [if_neg (by omega)] at h1
    exact ⟨h1,(HT8.out.below hb).nextc⟩
   have HDE:=Hid.m (fun W (hb:Below w8.heap.size w8 W)=>delete_any W base _ T (HO8.out W hb) left T.length hll (Nat.le_refl _))
   rw [List.drop_length,List.append_nil] at HDE
   obtain ⟨q2,q3⟩:=HC8.out _ (Below.refl _ _)
   have HVX:Hid (val' true next=.slice ao T.length cap):=by show _=_;rw [HVT.out,← HV.out]
   go_region_with (go_at_call 217;refine (HDE.out _ (by first | exact Below.refl _ _ | exact (Below.refl _ _).drew)).mono ?_;rintro e w9 ⟨ro,rcp,rfl,hO9,hg9,hb9⟩;have HG9:Hid (w8.grownBy w9 (val' true next).ownBlock):=(by rw [HVX.out];first | exact hg9 | exact (show w8.grownBy w9 _ from ⟨hg9.os,hg9.tape,hg9.output,hg9.size,hg9.block⟩));have ep:w9.heap[p]? = w8.heap[p]?:=HG9.out.block p HT8.out.plt.2 (fun e=>(HT8.out.far true next p hnx e.symm).1 rfl);have ebk:w9.heap[blk true]? = w8.heap[blk true]?:=HG9.out.block _ (HT8.out.pblk true (by omega)).2.2 (fun e=>(HT8.out.far true next _ hnx e.symm).2 true (by omega) rfl);clear q2 q3;obtain ⟨r2,r3⟩:=HC8.out _ (Below.refl _ _);have q2:=(World.cell?_of_block (a:=⟨p,2,none⟩) ep).trans r2;have q3:=(World.cell?_of_block (a:=⟨p,3,none⟩) ep).trans r3;have qc:=(World.cell?_of_block (a:=⟨blk true,next,none⟩) ebk).trans (HT8.out.cell true next hnx);have qf:=(World.frozen?_of_block (a:=⟨blk true,next,none⟩) ebk).trans (HT8.out.free true (by omega) next);clear r2 r3)
   all_goals
    go_end0
    have hlv:∀ g,(Value.slice ro (T.take left).length rcp).ownBlock=some g→(val' true next).ownBlock=some g∨w8.heap.size≤g:=fun g hg=>.inl (by rw [HVX.out,← hb9];exact hg)
    have htl:(T.take left).length=left:=by simp;omega
    refine ⟨rfl,up2 val' true next (Value.slice ro (T.take left).length rcp),left,HLF.out,?_,?_,?_⟩
    ·have:=HT8.out.slotSet hnx HG9.out _ _ hO9 hlv
     rw [← HMV.out,← HD.out]
     first
      | exact this
      | exact this.below ((Below.refl _ _).drew)
      | (rw [htl] at this ⊢;exact this)
    ·have hk1:Kept (Ft p blk num val) w w9:=HK8.out.trans (Kept.grown (F:=Ft p blk num val') HG9.out (fun j hj=>.inl (.inr (.inr ⟨true,next,hnx,hj⟩)))) HF.out
     have:=hk1.trans (Kept.set (F:=Ft p blk num val) w9 (g:=blk true) (.inr (.inl ⟨true,by omega,rfl⟩)) next (Value.slice ro (T.take left).length rcp)) (fun k hk=>.inl hk)
     first | exact this | (rw [htl] at this;exact this) | (rw [htl] at this ⊢;exact this)
    ·intro k hk
     rcases Ft.slot (w:=w8) hnx hlv k hk with g | g
     ·exact HF.out k g
     ·exact .inr (Nat.le_trans HK8.out.size g)
end Go.Proofs.YtcdpiefflnaghaaGreatDoor.Tb
namespace Go.Proofs.YtcdpiefflnaghaaGreatDoor.Tb
open Go.Proofs.YtcdpiefflnaghaaGreatDoor.Me
open Go.RowKit
theorem Tryz.infoRow:(Tryz.prog.info? 241).map (fun i=>(i.zero,i.size,i.bytes))=some (some (.slice none 0 0),1,24):=by kernel_rfl
theorem made_cell (n j:Nat)(h:j<n):(madeCells #[Value.slice none 0 0] n)[j]? = some (Value.slice none 0 0):=by
 unfold madeCells
 simp [h,Nat.mod_one]
theorem run_rows (n:Nat)(h:n≤2000000)(W:World):
  (Instr.makeSlice 163 (.int .i64 (n:Int)) (.int .i64 (n:Int))).run Tryz.prog W=.ok (.slice (some ⟨W.heap.size,0,none⟩) n n) (W.alloc (.cells (madeCells #[Value.slice none 0 0] n) 241)):=
 run_make_row' 163 241 (.slice none 0 0) 24 Tryz.underlying163 Tryz.infoRow rfl .i64 .i64 n (by omega) (by omega) W
def two {α:Type}(a b:α):Bool→α:=fun c=>if c then b else a
theorem Tm.fresh {w:World}{base p:Nat}{blk num:Bool→Nat}{val:Bool→Nat→Value}{ents:Bool→Nat→List NU}{next many moved:Nat}(h:Tm w base p blk num val ents next many moved)(m:Nat)(hm:1≤m):
  Tm (((w.setCell ⟨p,2,none⟩ (.slice (some ⟨blk false,0,none⟩) (num false) (num false))).setCell ⟨p,1,none⟩ (.slice (some ⟨w.heap.size,0,none⟩) m m)).alloc (.cells (madeCells #[Value.slice none 0 0] m) 241)) base p (two w.heap.size (blk false)) (two m (num false)) (two (fun _=>.slice none 0 0) (val false)) (two (fun _=>[]) (ents false)) next many moved:=by
 have hpos:=h.pos
 obtain ⟨hb1,hb2,hb3⟩:=h.pblk false (by omega)
 obtain ⟨w1,hw1⟩:∃ x,x=(w.setCell ⟨p,2,none⟩ (.slice (some ⟨blk false,0,none⟩) (num false) (num false))).setCell ⟨p,1,none⟩ (.slice (some ⟨w.heap.size,0,none⟩) m m):=⟨_,rfl⟩
 rw [← hw1]
 have hs1:w1.heap.size=w.heap.size:=by rw [hw1];simp
 have e1:∀ k,k≠p→w1.heap[k]? = w.heap[k]?:=fun k hk=>by
  rw [hw1]
  exact (Below.heap_setCell _ ⟨p,1,none⟩ _ k hk).trans (Below.heap_setCell w ⟨p,2,none⟩ _ k hk)
 have c2:w1.cell? ⟨p,2,none⟩=some (.slice (some ⟨blk false,0,none⟩) (num false) (num false)):=by
  rw [hw1,World.cell?_setCell_other _ _ _ _ (by simp)]
  exact World.cell?_setCell_same _ _ _ h.oldc
 have c1:w1.cell? ⟨p,1,none⟩=some (.slice (some ⟨w.heap.size,0,none⟩) m m):=by
  rw [hw1]
  refine World.cell?_setCell_same _ _ _ (u:=.slice (some ⟨blk false,0,none⟩) (num false) (num false)) ?_
  rw [World.cell?_setCell_other _ _ _ _ (by simp)]
  exact h.rowsc
 have co:∀ o,o≠1→o≠2→w1.cell? ⟨p,o,none⟩=w.cell? ⟨p,o,none⟩:=fun o h1 h2=>by
  rw [hw1,World.cell?_setCell_other _ _ _ _ (by first | (simp;done) | (simp;omega)),World.cell?_setCell_other _ _ _ _ (by first | (simp;done) | (simp;omega))]
 have f1:∀ o,w1.frozen? ⟨p,o,none⟩=false:=fun o=>by rw [hw1];simpa using h.pfree o
 clear hw1
 obtain ⟨w2,hw2⟩:∃ x,x=w1.alloc (.cells (madeCells #[Value.slice none 0 0] m) 241):=⟨_,rfl⟩
 rw [← hw2]
 have hb:Below w1.heap.size w1 w2:=by rw [hw2];exact (Below.refl _ _).alloc (Nat.le_refl _) _
 have hs2:w2.heap.size=w.heap.size+1:=by rw [hw2];simp [hs1]
 have hnew:w2.heap[w.heap.size]? = some (.cells (madeCells #[Value.slice none 0 0] m) 241 (0,0)):=by
  rw [hw2,← hs1]
  unfold World.alloc
  exact Array.getElem?_push_size
 clear hw2
 have hpl:=h.plt.2
 have ep:∀ o,w2.cell? ⟨p,o,none⟩=w1.cell? ⟨p,o,none⟩:=fun o=>bcl hb _ _ (by omega)
 have ek:∀ k,k≠p→k<w.heap.size→w2.heap[k]? = w.heap[k]?:=fun k h1 h2=>(hb.block k (by omega)).trans (e1 k h1)
 have nT:two m (num false) true=num false:=rfl
 have nF:two m (num false) false=m:=rfl
 refine ⟨(ep 0).trans ((co 0 (by omega) (by omega)).trans h.self),(ep 1).trans c1,(ep 2).trans (c2.trans ?_),(ep 3).trans ((co 3 (by omega) (by omega)).trans h.nextc),(ep 4).trans ((co 4 (by omega) (by omega)).trans h.manyc),(ep 5).trans ((co 5 (by omega) (by omega)).trans h.movedc),fun i=>(bfr hb _ _ (by omega)).trans (f1 i),⟨h.plt.1,by omega⟩,fun b i hi=>?_,fun b hb' i=>?_,fun b i hi=>?_,fun b hb'=>?_,fun _=>?_,fun b i b' i' g hi hi' g1 g2=>?_,fun b i g hi hg=>?_,hm⟩
 ·unfold osl
  rw [nT,if_neg (by omega)]
  rfl
 ·cases b
  ·show w2.cell? ⟨w.heap.size,i,none⟩=some (.slice none 0 0)
   rw [cell_of_heap hnew]
   exact made_cell m i hi
  ·show w2.cell? ⟨blk false,i,none⟩=some (val false i)
   exact (World.cell?_of_block (ek _ hb1 hb3)).trans (h.cell false i hi)
 ·cases b
  ·show w2.frozen? ⟨w.heap.size,i,none⟩=false
   exact frozen_of_heap hnew i
  ·show w2.frozen? ⟨blk false,i,none⟩=false
   exact (World.frozen?_of_block (ek _ hb1 hb3)).trans (h.free false (by omega) i)
 ·cases b
  ·exact OwnR.nil _ _
  ·exact (h.own false i hi).same (fun g hg=>ek g (h.far false i g hi hg).1 ((h.own false i hi).lt g hg).2)
 ·cases b
  ·exact ⟨by show w.heap.size≠p;omega,by show base≤w.heap.size;have:=h.plt.1;omega,by show w.heap.size<_;omega⟩
  ·exact ⟨hb1,hb2,by show blk false<_;omega⟩
 ·show blk false≠w.heap.size
  omega
 ·cases b
  ·cases g1
  ·cases b'
   ·cases g2
   ·exact ⟨rfl,(h.sep false i false i' g hi hi' g1 g2).2⟩
 ·cases b
  ·cases hg
  ·have h1:=h.far false i g hi hg
   have h2:=((h.own false i hi).lt g hg).2
   refine ⟨h1.1,fun b' hb'=>?_⟩
   cases b'
   ·show g≠w.heap.size
    omega
   ·exact h1.2 false (by omega)
theorem Ft.fresh {w:World}{p:Nat}{blk num:Bool→Nat}{val:Bool→Nat→Value}{m:Nat}(hpos:1≤num false):∀ k,Ft p (two w.heap.size (blk false)) (two m (num false)) (two (fun _=>.slice none 0 0) (val false)) k→Ft p blk num val k∨w.heap.size≤k:=by
 rintro k (rfl | ⟨b,hb,rfl⟩ | ⟨b,i,hi,hg⟩)
 ·exact .inl (.inl rfl)
 ·cases b
  ·exact .inr (Nat.le_refl _)
  ·exact .inl (.inr (.inl ⟨false,by omega,rfl⟩))
 ·cases b
  ·cases hg
  ·exact .inl (.inr (.inr ⟨false,i,hi,hg⟩))
theorem flat_fresh (num:Bool→Nat)(ents:Bool→Nat→List NU)(h0:num true=0)(m:Nat):flat (two m (num false)) (two (fun _=>[]) (ents false))=flat num ents:=by
 unfold flat rowsOf
 rw [h0]
 show (List.range (num false)).flatMap (ents false)++(List.range m).flatMap (fun _=>[])=_
 simp
theorem Iv.fresh {num:Bool→Nat}{ents:Bool→Nat→List NU}{next many:Nat}(h:Iv num ents next many)(h0:num true=0)(m:Nat):Iv (two m (num false)) (two (fun _=>[]) (ents false)) next many:=by
 refine ⟨fun b i hi q hq=>?_,fun b i hi q hq=>?_,?_,?_,fun i hi=>by have:=h.nx;omega,?_⟩
 ·cases b
  ·cases hq
  ·exact h.home false i hi q hq
 ·cases b
  ·cases hq
  ·exact h.ok false i hi q hq
 ·rw [flat_fresh num ents h0];exact h.apart
 ·have:=h.nx;show next≤num false;omega
 ·rw [flat_fresh num ents h0];exact h.cnt
set_option maxHeartbeats 1000000 in
theorem resize_up (w:World)(base p:Nat)(blk num:Bool→Nat)(val:Bool→Nat→Value)(ents:Bool→Nat→List NU)(next many moved:Nat)(h:Tm w base p blk num val ents next many moved)(hn:num false≤500000)(hmn:many≤500000)(hA:num false<many):
  Calls Tryz.prog 255 #[.pointer (some ⟨p,0,none⟩)] w fun e w'=>e=.returned (.tuple #[])∧∃ m,1≤m∧(m≤num false∨m<2 * many)∧Tm w' base p (two w.heap.size (blk false)) (two m (num false)) (two (fun _=>.slice none 0 0) (val false)) (two (fun _=>[]) (ents false)) next many moved∧Kept (Ft p blk num val) w w':=by
 have hpos:=h.pos
 have HF:=Hid.m (h.fresh (num false * 2) (by omega))
 have hmk:∀ W,(Instr.makeSlice 163 (.int .i64 ((num false:Int) * 2)) (.int .i64 ((num false:Int) * 2))).run Tryz.prog W=.ok (.slice (some ⟨W.heap.size,0,none⟩) (num false * 2) (num false * 2)) (W.alloc (.cells (madeCells #[Value.slice none 0 0] (num false * 2)) 241)):=fun W=>by
  have:=run_rows (num false * 2) (by omega) W
  rwa [show (((num false * 2):Nat):Int)=((num false:Int) * 2) by simp] at this
 have c1:=h.rowsc
 have c2:=h.oldc
 have c4:=h.manyc
 have f1:=h.pfree 1
 have f2:=h.pfree 2
 have hpl:=h.plt.2
 have hne:w.heap.size≠p:=by omega
 have g1:decide ((num false:Int)<(many:Int))=true:=by simp;omega
 have g1n:num false<many:=hA
 clear h
 go_enter Tryz.func255,Tryz.ntmps255
 go_upto_region 5 with (fail)
 go_region
 all_goals
  go_end0
  refine ⟨rfl,num false * 2,by omega,by omega,?_,?_⟩
  ·first
    | exact HF.out
    | exact HF.out.below ((Below.refl _ _).drew)
    | exact HF.out.below (below_drewR (Below.refl _ _) 1)
  ·refine ⟨rfl,rfl,rfl,by simp,fun k hk hnf=>?_⟩
   have hkp:k≠p:=fun e=>hnf (.inl e)
   have e1:∀ (W:World) (o:Nat) (v:Value),(W.setCell ⟨p,o,none⟩ v).heap[k]? = W.heap[k]?:=fun W o v=>Below.heap_setCell W ⟨p,o,none⟩ v k hkp
   have e2:∀ (W:World) (o:Obj),k<W.heap.size→(W.alloc o).heap[k]? = W.heap[k]?:=fun W o hW=>Below.heap_alloc _ _ _ hW
   first
    | (show (World.alloc _ _).heap[k]? = _;rw [e2 _ _ (by simpa using hk),e1,e1])
    | (show (World.setCell _ _ _).heap[k]? = _;rw [e1,e1,e2 _ _ hk])
set_option maxHeartbeats 1000000 in
theorem resize_down (w:World)(base p:Nat)(blk num:Bool→Nat)(val:Bool→Nat→Value)(ents:Bool→Nat→List NU)(next many moved:Nat)(h:Tm w base p blk num val ents next many moved)(hn:num false≤500000)(hmn:many≤500000)(hA:¬ num false<many)(hB:8<num false)(hC:many * 8<num false):
  Calls Tryz.prog 255 #[.pointer (some ⟨p,0,none⟩)] w fun e w'=>e=.returned (.tuple #[])∧∃ m,1≤m∧(m≤num false∨m<2 * many)∧Tm w' base p (two w.heap.size (blk false)) (two m (num false)) (two (fun _=>.slice none 0 0) (val false)) (two (fun _=>[]) (ents false)) next many moved∧Kept (Ft p blk num val) w w':=by
 have hpos:=h.pos
 have HF:=Hid.m (h.fresh (num false / 2) (by omega))
 have hmk:∀ W,(Instr.makeSlice 163 (.int .i64 ((num false:Int) / 2)) (.int .i64 ((num false:Int) / 2))).run Tryz.prog W=.ok (.slice (some ⟨W.heap.size,0,none⟩) (num false / 2) (num false / 2)) (W.alloc (.cells (madeCells #[Value.slice none 0 0] (num false / 2)) 241)):=fun W=>by
  have:=run_rows (num false / 2) (by omega) W
  rwa [show (((num false / 2):Nat):Int)=((num false:Int) / 2) by simp] at this
 have c1:=h.rowsc
 have c2:=h.oldc
 have c4:=h.manyc
 have f1:=h.pfree 1
 have f2:=h.pfree 2
 have hpl:=h.plt.2
 have hne:w.heap.size≠p:=by omega
 have g1:decide ((num false:Int)<(many:Int))=false:=by simp;omega
 have g1n:¬ num false<many:=hA
 have g2:decide ((8:Int)<(num false:Int))=true:=by simp;omega
 have g2n:8<num false:=hB
 have g3:decide ((many:Int) * 8<(num false:Int))=true:=by simp;omega
 have g3n:many * 8<num false:=hC
 clear h
 go_enter Tryz.func255,Tryz.ntmps255
 go_upto_region 5 with (fail)
 go_region
 all_goals
  go_end0
  refine ⟨rfl,num false / 2,by omega,by omega,?_,?_⟩
  ·first
    | exact HF.out
    | exact HF.out.below ((Below.refl _ _).drew)
    | exact HF.out.below (below_drewR (Below.refl _ _) 1)
  ·refine ⟨rfl,rfl,rfl,by simp,fun k hk hnf=>?_⟩
   have hkp:k≠p:=fun e=>hnf (.inl e)
   have e1:∀ (W:World) (o:Nat) (v:Value),(W.setCell ⟨p,o,none⟩ v).heap[k]? = W.heap[k]?:=fun W o v=>Below.heap_setCell W ⟨p,o,none⟩ v k hkp
   have e2:∀ (W:World) (o:Obj),k<W.heap.size→(W.alloc o).heap[k]? = W.heap[k]?:=fun W o hW=>Below.heap_alloc _ _ _ hW
   first
    | (show (World.alloc _ _).heap[k]? = _;rw [e2 _ _ (by simpa using hk),e1,e1])
    | (show (World.setCell _ _ _).heap[k]? = _;rw [e1,e1,e2 _ _ hk])
set_option maxHeartbeats 1000000 in
theorem resize_not (w:World)(base p:Nat)(blk num:Bool→Nat)(val:Bool→Nat→Value)(ents:Bool→Nat→List NU)(next many moved:Nat)(h:Tm w base p blk num val ents next many moved)(hn:num false≤500000)(hmn:many≤500000)(hA:¬ num false<many)(hB:¬ (8<num false∧many * 8<num false)):
  Calls Tryz.prog 255 #[.pointer (some ⟨p,0,none⟩)] w fun e w'=>e=.returned (.tuple #[])∧w'=w:=by
 have c1:=h.rowsc
 have c4:=h.manyc
 have g1:decide ((num false:Int)<(many:Int))=false:=by simp;omega
 have g1n:¬ num false<many:=hA
 clear h
 by_cases h8:8<num false
 ·have g2:decide ((8:Int)<(num false:Int))=true:=by simp;omega
  have g3:decide ((many:Int) * 8<(num false:Int))=false:=by simp;omega
  have g3n:¬ many * 8<num false:=fun e=>hB ⟨h8,e⟩
  go_enter Tryz.func255,Tryz.ntmps255
  go_wp2
  try simp only [Exit.inBlock,Exit.then]
  refine bodyPost_ret (results_none rfl _ _ _) rfl ?_
  exact ⟨rfl,rfl⟩
 ·have g2:decide ((8:Int)<(num false:Int))=false:=by simp;omega
  go_enter Tryz.func255,Tryz.ntmps255
  go_wp2
  try simp only [Exit.inBlock,Exit.then]
  refine bodyPost_ret (results_none rfl _ _ _) rfl ?_
  exact ⟨rfl,rfl⟩
end Go.Proofs.YtcdpiefflnaghaaGreatDoor.Tb
