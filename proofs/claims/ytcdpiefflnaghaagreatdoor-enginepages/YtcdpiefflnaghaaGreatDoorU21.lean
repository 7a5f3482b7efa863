/-
  Package engine and what stands beneath it, part 21: contracts of functions, and what they rest on.
-/
import Derived.Deep.Cut
import Derived.Deep.CutRange
import Derived.Deep.QuietTactic
import Derived.BigQuiet
import Derived.Deep.RegionLaw
import Derived.Deep.RegionHeld3
import Derived.Deep.RegionWith
import Derived.Deep.AppendLies
import Derived.Laws.Bits64b
import Derived.Laws.IdiomCopy
import Derived.Deep.Upon
import Derived.Test.YtcdpiefflnaghaaGreatDoorU17
set_option linter.unusedSimpArgs false
set_option linter.unusedVariables false
set_option maxRecDepth 100000
namespace Go.Proofs.YtcdpiefflnaghaaGreatDoor.Tb
open Go.Proofs.YtcdpiefflnaghaaGreatDoor.Me
open Go.RowKit
theorem Hid.m {p:Prop}(h:p):Hid p:=h
structure Nm where
 tenant:Int
 key:ByteArray
deriving DecidableEq
def Nm.ok (x:Nm):Prop:=0≤x.tenant∧x.tenant<4∧1≤x.key.size∧x.key.size≤32
instance (x:Nm):Decidable x.ok:=by unfold Nm.ok;exact inferInstance
abbrev NU:=Nm × Int
def strike (x:Nm)(M:List NU):List NU:=M.filter (fun p=>decide (p.1≠x))
theorem strike_none {x:Nm}{M:List NU}(h:∀ p∈M,p.1≠x):strike x M=M:=List.filter_eq_self.2 (fun p hp=>by simpa using h p hp)
def tcells (q:NU):List Value:=[.int .i64 q.1.tenant,.string q.1.key,.int .i64 q.2]
theorem tcells_len (q:NU):(tcells q).length=3:=rfl
theorem tcells_one (q:NU):∀ u∈tcells q,u.oneCell'=true:=by
 intro u hu
 simp only [tcells,List.mem_cons,List.not_mem_nil,or_false] at hu
 rcases hu with rfl | rfl | rfl <;> rfl
theorem flatT_get (T:List NU)(i j:Nat)(hi:i<T.length)(hj:j<3):(T.flatMap tcells)[i * 3+j]? = some ((tcells T[i])[j]'(by rw [tcells_len];exact hj)):=by
 induction T generalizing i with
 | nil=>simp at hi
 | cons c T ih=>
  rw [List.flatMap_cons]
  cases i with
  | zero=>
   rw [List.getElem?_append_left (by rw [tcells_len];omega)]
   simp [tcells_len,hj]
  | succ i=>
   rw [List.getElem?_append_right (by rw [tcells_len];omega),tcells_len,show (i+1) * 3+j - 3=i * 3+j by omega]
   exact ih i (by simpa using hi)
def TAt (w:World)(ao:Option Addr)(T:List NU):Prop:=
 T=[]∨∃ b off,ao=some ⟨b,off,none⟩∧b<w.heap.size∧∀ i (hi:i<T.length),w.cell? ⟨b,off+i * 3,none⟩=some (.int .i64 T[i].1.tenant)∧w.cell? ⟨b,off+i * 3+1,none⟩=some (.string T[i].1.key)∧w.cell? ⟨b,off+i * 3+2,none⟩=some (.int .i64 T[i].2)
theorem Tryz.infoEntry:(Tryz.prog.info? 240).map (fun i=>(i.zero,i.size,i.bytes))=some (some (.agg #[.int .i64 0,.string ⟨#[]⟩,.int .i64 0]),3,32):=by kernel_rfl
def OwnR (w:World)(base:Nat)(v:Value)(T:List NU):Prop:=w.ownsRow base 240 3 v T.length (T.flatMap tcells)
theorem OwnR.nil (w:World)(base:Nat):OwnR w base (.slice none 0 0) []:=World.ownsRow_nil w base _ 3
theorem OwnR.at {w:World}{base:Nat}{v:Value}{T:List NU}(h:OwnR w base v T):
  ∃ ao cap,v=.slice ao T.length cap∧T.length≤cap∧cap≤maxLen∧TAt w ao T:=by
 rcases h.2 with ⟨rfl,hn⟩ | ⟨g,cap,cur,rfl,hb,hg,hnc,hcm,hcs,htake⟩
 ·have:T=[]:=List.eq_nil_of_length_eq_zero hn
  subst this
  exact ⟨none,0,rfl,by simp,by simp [maxLen],.inl rfl⟩
 ·refine ⟨_,cap,rfl,hnc,hcm,.inr ⟨g,0,rfl,(Array.getElem?_eq_some_iff.1 hg).1,fun i hi=>?_⟩⟩
  have key:∀ j (hj:j<3),w.cell? ⟨g,0+i * 3+j,none⟩=some ((tcells T[i])[j]'(by rw [tcells_len];exact hj)):=fun j hj=>by
   have:=World.ownsRow.cells h (g:=g) rfl (i * 3+j) _ (flatT_get T i j hi hj)
   rw [Me.addr_add] at this
   rw [Nat.zero_add] at this ⊢
   exact this
  exact ⟨key 0 (by omega),key 1 (by omega),key 2 (by omega)⟩
theorem OwnR.same {w w':World}{base:Nat}{v:Value}{T:List NU}(h:OwnR w base v T)(e:∀ g,v.ownBlock=some g→w'.heap[g]? = w.heap[g]?):OwnR w' base v T:=⟨h.1,by
 rcases h.2 with h1 | ⟨g,cap,cur,h1,h2,h3,h4⟩
 ·exact .inl h1
 ·exact .inr ⟨g,cap,cur,h1,h2,(e g (by rw [h1];rfl)).trans h3,h4⟩⟩
theorem tcells_all (T:List NU):∀ u∈T.flatMap tcells,u.oneCell'=true:=by
 intro u hu
 obtain ⟨p,_,hp⟩:=List.mem_flatMap.1 hu
 exact tcells_one p u hp
theorem flatT_len (T:List NU):(T.flatMap tcells).length=T.length * 3:=by
 induction T with
 | nil=>rfl
 | cons p T ih=>simp [tcells,ih];omega
theorem ba_same {a b:ByteArray}(h:a.toList=b.toList):a=b:=by
 rw [ByteArray.toList_eq,ByteArray.toList_eq] at h
 cases a;cases b
 simp at h
 rw [ByteArray.mk.injEq]
 exact Array.toList_inj.1 (by simpa using h)
theorem nm_eql (a b:Nm)(W:World):(binOp .eql 119 (.agg #[.int .i64 a.tenant,.string a.key]) (.agg #[.int .i64 b.tenant,.string b.key])).run Tryz.prog W=.ok (.bool (decide (a=b))) W:=by
 obtain ⟨t,k⟩:=a
 obtain ⟨t',k'⟩:=b
 go_simp
 have hk:k.toList=k'.toList↔k=k':=⟨fun h=>ba_same h,fun h=>by rw [h]⟩
 by_cases h1:t=t'
 ·by_cases h2:k=k'
  ·simp [h1,h2]
  ·have h3:¬ k.toList=k'.toList:=fun h=>h2 (hk.1 h)
   simp [h1,h2,h3]
 ·simp [h1]
theorem hashOn_any (h:Int)(s:ByteArray)(w:World)(hs:s.size≤maxLen):
  Calls Tryz.prog 280 #[.int .u64 h,.string s] w fun e w'=>e=.returned (.int .u64 (hashL h s.data.toList))∧w=w':=by
 unfold maxLen at hs
 go_enter Tryz.func280,Tryz.ntmps280
 go_wp2
 go_loop [0,8] (fun t i=>∃ k:Nat,k≤s.size∧i=.int .i64 k∧t=.int .u64 (hashL h (s.data.toList.take k))) (fun _ i=>s.size - (intOf i).toNat)
 case atStart=>exact ⟨0,Nat.zero_le _,rfl,rfl⟩
 case round=>
  obtain ⟨k,hk,rfl,rfl⟩:=hrel
  by_cases hlt:k<s.size
  ·have HS:Hid (hashL h (s.data.toList.take (k+1))=hstep (hashL h (s.data.toList.take k)) s[k]):=by rw [take_snoc s k hlt,hashL_snoc];exact rfl
   go_wp2
   go_round
   case rel=>exact ⟨k+1,by omega,by go_num,by rw [HS.out];rfl⟩
   case measure=>simp [intOf];omega
  ·go_wp2
   go_ret
   exact ⟨ret_int (by rw [take_all s k (by omega)]),rfl⟩
theorem hash_any (s:ByteArray)(w:World)(hs:s.size≤maxLen):
  Calls Tryz.prog 257 #[.string s] w fun e w'=>e=.returned (.int .u64 (hash0 s.data.toList))∧w=w':=by
 go_enter Tryz.func257,Tryz.ntmps257
 go_wp2_with (go_at_call 280;refine (hashOn_any _ _ _ hs).mono ?_;rintro e w' ⟨rfl,rfl⟩)
 go_ret
 exact ⟨rfl,rfl⟩
theorem conv_one (t:Int)(w:World):(convert 315 9 (.slice (some ⟨w.heap.size,0,none⟩) 1 1)).run Tryz.prog (w.alloc (.cells #[.int .u8 t] 5)) =
  .ok (.string (tenantText t)) (w.alloc (.cells #[.int .u8 t] 5)):=by
 have h:=run_convert_bytes_arg (P:=Tryz.prog) (w.alloc (.cells #[.int .u8 t] 5)) 315 5 Tryz.underlying315 Tryz.underlying5 w.heap.size 0 1 1 [t] rfl
  (fun i hi=>by
   have:i=0:=by omega
   subst this
   simp) 9 Tryz.underlying9
 exact h
theorem bcl {W w1:World}(hb:Below W.heap.size W w1):∀ b o,b<W.heap.size→w1.cell? ⟨b,o,none⟩=W.cell? ⟨b,o,none⟩:=fun b o h=>hb.cell (p:=⟨b,o,none⟩) h
theorem bfr {W w1:World}(hb:Below W.heap.size W w1):∀ b o,b<W.heap.size→w1.frozen? ⟨b,o,none⟩=W.frozen? ⟨b,o,none⟩:=fun b o h=>hb.frozen (p:=⟨b,o,none⟩) h
theorem OwnR.lt {w:World}{base:Nat}{v:Value}{T:List NU}(h:OwnR w base v T)(g:Nat)(hg:v.ownBlock=some g):base≤g∧g<w.heap.size:=World.ownsRow.lt h g hg
end Go.Proofs.YtcdpiefflnaghaaGreatDoor.Tb
namespace Go.Proofs.YtcdpiefflnaghaaGreatDoor.Tb
open Go.Proofs.YtcdpiefflnaghaaGreatDoor.Me
open Go.RowKit
def mixN (y:Nm):Nat:=(hash0 ((tenantText y.tenant).data.toList++y.key.data.toList)).toNat ^^^ (hash0 ((tenantText y.tenant).data.toList++y.key.data.toList)).toNat / 4294967296
def rix (y:Nm)(n:Nat):Nat:=mixN y &&& (n - 1)
theorem rix_lt (y:Nm){n:Nat}(h:1≤n):rix y n<n:=by
 have:rix y n≤n - 1:=Nat.and_le_right
 omega
theorem rix_val (y:Nm)(n:Nat)(hn:1≤n)(hn2:n≤1000000):
  wrap64 (bits BinOp.and IntKind.u64 (bits BinOp.xor IntKind.u64 (hash0 ((tenantText y.tenant).data.toList++y.key.data.toList)) (hash0 ((tenantText y.tenant).data.toList++y.key.data.toList) / 4294967296)) ((n:Int) - 1))=(rix y n:Int):=by
 have hlt:=rix_lt y hn
 unfold rix mixN at *
 obtain ⟨hb0,hb1⟩:=hash0_bounds ((tenantText y.tenant).data.toList++y.key.data.toList)
 obtain ⟨h,hh⟩:∃ h:Nat,hash0 ((tenantText y.tenant).data.toList++y.key.data.toList)=(h:Int):=⟨(hash0 ((tenantText y.tenant).data.toList++y.key.data.toList)).toNat,by omega⟩
 rw [hh] at hb1 hlt ⊢
 rw [Int.toNat_natCast] at hlt ⊢
 have h1:h<18446744073709551616:=by omega
 rw [show ((h:Int) / 4294967296)=((h / 4294967296:Nat):Int) by simp,bits_xor_u64_nat _ _ h1 (by omega),show ((n:Int) - 1)=((n - 1:Nat):Int) by omega,bits_and_u64_nat _ _ (Nat.xor_lt_two_pow (n:=64) h1 (by omega)) (by omega)]
 obtain ⟨x,hx⟩:∃ x,x=(h ^^^ h / 4294967296) &&& (n - 1):=⟨_,rfl⟩
 rw [← hx] at hlt ⊢
 unfold wrap64
 omega
theorem rowOf_any (w:World)(y:Nm)(hy:y.ok)(n:Nat)(hn:1≤n)(hn2:n≤1000000):
  Calls Tryz.prog 210 #[.agg #[.int .i64 y.tenant,.string y.key],.int .i64 n] w fun e w'=>e=.returned (.int .i64 (rix y n))∧Below w.heap.size w w':=by
 have HV:=Hid.m (rix_val y n hn hn2)
 obtain ⟨t,k⟩:=y
 obtain ⟨h0,h1,h2,h3⟩:=hy
 simp only [] at h0 h1 h2 h3 HV ⊢
 have hcv:=conv_one t (w.alloc (Obj.cells #[.int .i64 t,.string k] 119))
 rw [show (w.alloc (Obj.cells #[.int .i64 t,.string k] 119)).heap.size=w.heap.size+1 by simp] at hcv
 have hsz:(tenantText t++k).size≤maxLen:=by rw [ByteArray.size_append,tenantText_size];unfold maxLen;omega
 have hs2:¬ 9223372036854775807<(tenantText t).size+k.size:=by rw [tenantText_size];omega
 go_enter Tryz.func210,Tryz.ntmps210
 go_wp2_with (go_at_call 257;refine (hash_any _ _ hsz).mono ?_;rintro e w' ⟨rfl,rfl⟩)
 go_ret
 exact ⟨by rw [← HV.out];rfl,((Below.refl _ _).alloc (Nat.le_refl _) _).alloc (by simp) _⟩
end Go.Proofs.YtcdpiefflnaghaaGreatDoor.Tb
namespace Go.Proofs.YtcdpiefflnaghaaGreatDoor.Tb
open Go.Proofs.YtcdpiefflnaghaaGreatDoor.Me
open Go.RowKit
theorem TAt.below {w w':World}{ao:Option Addr}{T:List NU}(h:TAt w ao T)(hb:Below w.heap.size w w'):TAt w' ao T:=by
 rcases h with rfl | ⟨b,off,rfl,hlt,hc⟩
 ·exact .inl rfl
 ·refine .inr ⟨b,off,rfl,Nat.lt_of_lt_of_le hlt hb.size,fun i hi=>?_⟩
  obtain ⟨c0,c1,c2⟩:=hc i hi
  exact ⟨(bcl hb _ _ hlt).trans c0,(bcl hb _ _ hlt).trans c1,(bcl hb _ _ hlt).trans c2⟩
theorem same_name (w:World)(q:NU)(B:Nat)(y:Nm)(h0:w.cell? ⟨B,0,none⟩=some (.int .i64 y.tenant))(h1:w.cell? ⟨B,1,none⟩=some (.string y.key))(hB:B<w.heap.size):
  Calls Tryz.prog 259 #[.agg #[.int .i64 q.1.tenant,.string q.1.key,.int .i64 q.2],.pointer (some ⟨B,0,none⟩)] w fun e w'=>e=.returned (.bool (decide (q.1=y)))∧Below w.heap.size w w':=by
 have hne:=nm_eql q.1 y
 obtain ⟨b,hb⟩:∃ b,b=decide (q.1=y):=⟨_,rfl⟩
 rw [← hb] at hne ⊢
 clear hb
 go_enter Tryz.func259,Tryz.ntmps259
 go_wp2
 go_ret
 exact ⟨rfl,(Below.refl _ _).alloc (Nat.le_refl _) _⟩
def ixOf (T:List NU)(y:Nm):Int:=match T.findIdx? (fun q=>decide (q.1=y)) with
 | some i=>(i:Int)
 | none=>-1
theorem ixOf_some {T:List NU}{y:Nm}{k:Nat}(hk:k<T.length)(h:T[k].1=y)(hb:∀ q∈T.take k,q.1≠y):ixOf T y=k:=by
 have:T.findIdx? (fun q=>decide (q.1=y))=some k:=by
  rw [List.findIdx?_eq_some_iff_getElem]
  refine ⟨hk,by simp [h],fun j hj=>?_⟩
  have:=hb T[j] (by rw [List.mem_take_iff_getElem];exact ⟨j,by omega,rfl⟩)
  simpa using this
 unfold ixOf
 rw [this]
theorem ixOf_none {T:List NU}{y:Nm}(hb:∀ q∈T,q.1≠y):ixOf T y=-1:=by
 have:T.findIdx? (fun q=>decide (q.1=y))=none:=by
  rw [List.findIdx?_eq_none_iff]
  intro q hq
  simpa using hb q hq
 unfold ixOf
 rw [this]
theorem indexFunc_any (w:World)(ao:Option Addr)(T:List NU)(cap:Nat)(h:TAt w ao T)(hl:T.length≤1000000)(hcap:T.length≤cap)(B:Nat)(y:Nm)(h0:w.cell? ⟨B,0,none⟩=some (.int .i64 y.tenant))(h1:w.cell? ⟨B,1,none⟩=some (.string y.key))(hB:B<w.heap.size):
  Calls Tryz.prog 258 #[.slice ao T.length cap,.func (.func 259) #[] #[.pointer (some ⟨B,0,none⟩)]] w fun e w'=>e=.returned (.int .i64 (ixOf T y))∧Below w.heap.size w w':=by
 have HT:=Hid.m h
 have HC:=Hid.m (fun W (hb:Below w.heap.size w W) q=>same_name W q B y ((bcl hb _ _ hB).trans h0) ((bcl hb _ _ hB).trans h1) (Nat.lt_of_lt_of_le hB hb.size))
 clear h h0 h1
 go_enter Tryz.func258,Tryz.ntmps258
 go_wp2
 go_loopw [8] (fun s8 wr=>∃ k:Nat,k≤T.length∧s8=.int .i64 k∧Hid (∀ q∈T.take k,q.1≠y)∧Hid (Below w.heap.size w wr)) (fun s8 _=>T.length - (intOf s8).toNat)
 case atStart=>exact ⟨0,Nat.zero_le _,rfl,by intro q hq;simp at hq,Below.refl _ _⟩
 case round=>
  obtain ⟨k,hk,rfl,HN,HB⟩:=hrel
  by_cases hlt:k<T.length
  ·have hlt2:(k:Int)<(T.length:Int):=by omega
   rcases HT.out.below HB.out with hz | ⟨b,off,rfl,hbb,hcs⟩
   ·rw [hz] at hlt;simp at hlt
   obtain ⟨c0,c1,c2⟩:=hcs k hlt
   obtain ⟨z,hz⟩:∃ z,z=T[k]:=⟨_,rfl⟩
   rw [← hz] at c0 c1 c2
   have HZ:=Hid.m hz
   have HQ:=Hid.m (HC.out _ HB.out z)
   clear hz hcs
   by_cases e:z.1=y
   ·rw [decide_eq_true e] at HQ
    have HV:Hid (ixOf T y=k):=ixOf_some hlt (by rw [← HZ.out];exact e) HN.out
    clear e
    go_wp2_with (go_at_call 259;refine HQ.out.mono ?_;rintro e w2 ⟨rfl,hb2⟩)
    go_ret
    exact ⟨by rw [HV.out];rfl,HB.out.trans (hb2.mono HB.out.size)⟩
   ·rw [decide_eq_false e] at HQ
    have HE:=Hid.m e
    clear e
    go_wp2_with (go_at_call 259;refine HQ.out.mono ?_;rintro e w2 ⟨rfl,hb2⟩)
    go_roundw
    case rel=>
     refine ⟨k+1,by omega,by go_num,?_,HB.out.trans (hb2.mono HB.out.size)⟩
     intro q hq
     rw [List.take_succ_eq_append_getElem hlt] at hq
     rcases List.mem_append.1 hq with hm | hm
     ·exact HN.out q hm
     ·rw [List.mem_singleton.1 hm,← HZ.out];exact HE.out
    case measure=>simp [intOf];omega
  ·have hlt2:¬ (k:Int)<(T.length:Int):=by omega
   have hkt:T.take k=T:=List.take_of_length_le (by omega)
   rw [hkt] at HN
   have HV:Hid (ixOf T y=-1):=ixOf_none HN.out
   clear hkt
   go_wp2
   go_ret
   exact ⟨by rw [HV.out];rfl,HB.out⟩
theorem indexOf_any (w:World)(ao:Option Addr)(T:List NU)(cap:Nat)(h:TAt w ao T)(hl:T.length≤1000000)(hcap:T.length≤cap)(y:Nm):
  Calls Tryz.prog 211 #[.slice ao T.length cap,.agg #[.int .i64 y.tenant,.string y.key]] w fun e w'=>e=.returned (.int .i64 (ixOf T y))∧Below w.heap.size w w':=by
 have hb:Below w.heap.size w (w.alloc (Obj.cells #[.int .i64 y.tenant,.string y.key] 119)):=(Below.refl _ _).alloc (Nat.le_refl _) _
 have HI:=Hid.m (indexFunc_any (w.alloc (Obj.cells #[.int .i64 y.tenant,.string y.key] 119)) ao T cap (h.below hb) hl hcap w.heap.size y (by simp) (by simp) (by simp))
 clear h hb
 have hmf:∀ (fn:Fn) (first cap:Array Value) (w:World),(Instr.makeFunc fn first cap).run Tryz.prog w=.ok (.func fn first cap) w:=fun _ _ _ _=>rfl
 go_enter Tryz.func211,Tryz.ntmps211
 go_wp2_with (go_at_call 258;refine HI.out.mono ?_;rintro e w2 ⟨rfl,hb2⟩)
 go_ret
 exact ⟨rfl,below_alloc hb2⟩
end Go.Proofs.YtcdpiefflnaghaaGreatDoor.Tb
namespace Go.Proofs.YtcdpiefflnaghaaGreatDoor.Tb
open Go.Proofs.YtcdpiefflnaghaaGreatDoor.Me
open Go.RowKit
theorem heap_set {w:World}{g o:Nat}{v:Value}{cur:Array Value}{t:TypeId}{m:Nat × Nat}(h:w.heap[g]? = some (.cells cur t m)):(w.setCell ⟨g,o,none⟩ v).heap[g]? = some (.cells (cur.setIfInBounds o v) t m):=by
 unfold World.setCell
 simp [Array.getElem?_modify,h]
theorem heap_sets {g:Nat}{t:TypeId}{m:Nat × Nat}:∀ (vs:List Value) (o:Nat) {w:World} {cur:Array Value},w.heap[g]? = some (.cells cur t m)→∃ cur',(w.setCells g o vs).heap[g]? = some (.cells cur' t m)∧cur'.size=cur.size
 | [],o,w,cur,h=>⟨cur,h,rfl⟩
 | v::vs,o,w,cur,h=>by
  obtain ⟨cur',h1,h2⟩:=heap_sets vs (o+1) (heap_set (o:=o) (v:=v) h)
  exact ⟨cur',h1,by rw [h2];simp⟩
theorem tape_sets (g:Nat):∀ (vs:List Value) (o:Nat) (w:World),(w.setCells g o vs).tape=w.tape
 | [],o,w=>rfl
 | v::vs,o,w=>(tape_sets g vs (o+1) _).trans rfl
theorem size_sets (g:Nat):∀ (vs:List Value) (o:Nat) (w:World),(w.setCells g o vs).heap.size=w.heap.size
 | [],o,w=>rfl
 | v::vs,o,w=>(size_sets g vs (o+1) _).trans (by simp)
theorem cell_of_heap {w:World}{g:Nat}{cur:Array Value}{t:TypeId}{m:Nat × Nat}(h:w.heap[g]? = some (.cells cur t m))(j:Nat):w.cell? ⟨g,j,none⟩=cur[j]?:=by
 unfold World.cell?
 simp [h]
theorem frozen_of_heap {w:World}{g:Nat}{cur:Array Value}{t:TypeId}(h:w.heap[g]? = some (.cells cur t (0,0)))(j:Nat):w.frozen? ⟨g,j,none⟩=false:=by
 unfold World.frozen?
 simp [h]
theorem OwnR.mk' {w:World}{base g cap:Nat}{cur:Array Value}{T:List NU}(hb:base≤g)(hg:w.heap[g]? = some (.cells cur 240 (0,0)))(hsz:cur.size=cap * 3)(hn:T.length≤cap)(hm:cap≤maxLen)
  (hc:∀ j u,(T.flatMap tcells)[j]? = some u→w.cell? ⟨g,j,none⟩=some u):OwnR w base (.slice (some ⟨g,0,none⟩) T.length cap) T:=by
 refine ⟨flatT_len T,.inr ⟨g,cap,cur,rfl,hb,hg,hn,hm,hsz,?_⟩⟩
 refine List.ext_getElem? fun j=>?_
 by_cases hj:j<T.length * 3
 ·have hj2:j<(T.flatMap tcells).length:=by rw [flatT_len];exact hj
  have h1:=hc j _ (List.getElem?_eq_getElem hj2)
  rw [cell_of_heap hg] at h1
  rw [List.getElem?_take_of_lt hj,List.getElem?_eq_getElem hj2,Array.getElem?_toList]
  exact h1
 ·rw [List.getElem?_eq_none (by simp;omega),List.getElem?_eq_none (by rw [flatT_len];omega)]
theorem OwnR.parts {w:World}{base g cap:Nat}{T:List NU}(h:OwnR w base (.slice (some ⟨g,0,none⟩) T.length cap) T):∃ cur,base≤g∧w.heap[g]? = some (.cells cur 240 (0,0))∧cur.size=cap * 3∧T.length≤cap∧cap≤maxLen∧∀ j u,(T.flatMap tcells)[j]? = some u→w.cell? ⟨g,j,none⟩=some u:=by
 have hcl:=World.ownsRow.cells h (g:=g) rfl
 rcases h.2 with ⟨e,_⟩ | ⟨g',cap',cur,e,hb,hg,hn,hm,hs,ht⟩
 ·cases e
 ·cases e
  refine ⟨cur,hb,hg,hs,hn,hm,fun j u hu=>?_⟩
  have:=hcl j u hu
  rwa [Me.addr_add,Nat.zero_add] at this
theorem flat_drop (T:List NU)(j:Nat):(T.drop j).flatMap tcells=(T.flatMap tcells).drop (j * 3):=by
 induction T generalizing j with
 | nil=>simp
 | cons q T ih=>
  cases j with
  | zero=>simp
  | succ j=>
   rw [List.drop_succ_cons,ih,List.flatMap_cons,show (j+1) * 3=(tcells q).length+j * 3 by rw [tcells_len];omega,List.drop_append]
   simp [tcells_len]
theorem flat_take (T:List NU)(j:Nat):(T.take j).flatMap tcells=(T.flatMap tcells).take (j * 3):=by
 induction T generalizing j with
 | nil=>simp
 | cons q T ih=>
  cases j with
  | zero=>simp
  | succ j=>
   rw [List.take_succ_cons,List.flatMap_cons,ih,List.flatMap_cons,show (j+1) * 3=(tcells q).length+j * 3 by rw [tcells_len];omega,List.take_append]
   simp [tcells_len]
   exact (List.take_of_length_le (by rw [tcells_len];omega)).symm
def zEnt:Value:=.agg #[.int .i64 0,.string ⟨#[]⟩,.int .i64 0]
theorem zeroEnt (w:World):(zeroValue 240).run Tryz.prog w=.ok zEnt w:=by kernel_rfl
theorem zs_len (n:Nat):(Builtin.zeroCells zEnt.cells n).toList.length=n * 3:=by
 have:zEnt.cells.size=3:=rfl
 unfold Builtin.zeroCells
 rw [this]
 simp
theorem zs_one (n:Nat):∀ v∈(Builtin.zeroCells zEnt.cells n).toList,v.oneCell'=true:=by
 intro v hv
 have e:zEnt.cells=#[.int .i64 0,.string ⟨#[]⟩,.int .i64 0]:=rfl
 unfold Builtin.zeroCells at hv
 rw [e] at hv
 simp only [Array.toList_map,List.mem_map] at hv
 obtain ⟨i,_,rfl⟩:=hv
 have h3:i % 3=0∨i % 3=1∨i % 3=2:=by omega
 rw [show (#[Value.int .i64 0,.string ⟨#[]⟩,.int .i64 0]:Array Value).size=3 from rfl]
 rcases h3 with h | h | h <;> rw [h] <;> rfl
theorem run_clear3 (w:World)(ty:TypeId)(b o n c:Nat)(hn:0<n)(hc:∀ j,j<n * 3→(w.cell? ⟨b,o+j,none⟩).isSome=true)(hf:∀ j,j<n * 3→w.frozen? ⟨b,o+j,none⟩=false):
  (Builtin.clear_ #[241] ty #[.slice (some ⟨b,o,none⟩) n c]).run Tryz.prog w=.ok (.tuple #[]) (w.setCells b o (Builtin.zeroCells zEnt.cells n).toList):=by
 have hst:=run_storeCells_cells (P:=Tryz.prog) b o (Builtin.zeroCells zEnt.cells n).toList 0 w (by rw [zs_len];simpa using hc) (by rw [zs_len];simpa using hf) (zs_one n)
 simp only [Nat.add_zero] at hst
 obtain ⟨m,rfl⟩:∃ m,n=m+1:=⟨n - 1,by omega⟩
 have h0:=zeroEnt w
 unfold zEnt at hst h0 ⊢
 simp [Builtin.clear_,run_underlying Tryz.underlying241,h0,hst]
theorem delete_none (w:World):
  Calls Tryz.prog 217 #[.slice none 0 0,.int .i64 0,.int .i64 0] w fun e w'=>e=.returned (.slice none 0 0)∧w'=w:=by
 go_enter Tryz.func217,Tryz.ntmps217
 go_wp2
 go_ret
 exact ⟨rfl,rfl⟩
theorem delete_same (w:World)(g n cap i:Nat)(hi:i≤n)(hn:n≤cap)(hc:cap≤maxLen):
  Calls Tryz.prog 217 #[.slice (some ⟨g,0,none⟩) n cap,.int .i64 i,.int .i64 i] w fun e w'=>e=.returned (.slice (some ⟨g,0,none⟩) n cap)∧w'=w:=by
 unfold maxLen at hc
 go_enter Tryz.func217,Tryz.ntmps217
 go_wp2
 all_goals (go_ret;exact ⟨rfl,rfl⟩)
set_option maxHeartbeats 1000000 in
theorem delete_some (w:World)(base g cap:Nat)(T:List NU)(h:OwnR w base (.slice (some ⟨g,0,none⟩) T.length cap) T)(i j:Nat)(hij:i<j)(hj:j≤T.length):
  Calls Tryz.prog 217 #[.slice (some ⟨g,0,none⟩) T.length cap,.int .i64 i,.int .i64 j] w fun e w'=>e=.returned (.slice (some ⟨g,0,none⟩) (T.take i++T.drop j).length cap)∧OwnR w' base (.slice (some ⟨g,0,none⟩) (T.take i++T.drop j).length cap) (T.take i++T.drop j)∧w.grownBy w' (some g):=by
 obtain ⟨i0,hi0,hz0,hz1,hz2⟩:=info_parts Tryz.infoEntry
 obtain ⟨cur,hb,hg,hsz,hn,hm,hcl⟩:=h.parts
 have hgd:w.drew.heap[g]? = some (.cells cur 240 (0,0)):=hg
 have hsome:∀ k,k<cap * 3→(w.drew.cell? ⟨g,k,none⟩).isSome=true:=fun k hk=>by
  rw [cell_of_heap hgd,Array.getElem?_eq_getElem (by omega)];rfl
 obtain ⟨news,hnews⟩:∃ news,news=(T.drop j).flatMap tcells:=⟨_,rfl⟩
 have hlen:news.length=(T.length - j) * 3:=by rw [hnews,flatT_len];simp
 have hget:∀ t u,news[t]? = some u→w.cell? ⟨g,j * 3+t,none⟩=some u:=fun t u hu=>by
  refine hcl _ _ ?_
  rw [hnews,flat_drop,List.getElem?_drop] at hu
  exact hu
 obtain ⟨A,hA,hsrc⟩:∃ A:Addr,(if cap=j then some (⟨g,0,none⟩:Addr) else some ⟨g,j * 3,none⟩)=some A∧Hid (∀ t u,news[t]? = some u→w.drew.cell? (A.add t)=some u):=by
  by_cases h:cap=j
  ·refine ⟨⟨g,0,none⟩,by simp [h],fun t u hu=>?_⟩
   have h0:news.length=0:=by rw [hlen];omega
   rw [List.length_eq_zero_iff.1 h0] at hu
   simp at hu
  ·refine ⟨⟨g,j * 3,none⟩,by simp [h],fun t u hu=>?_⟩
   rw [Me.addr_add]
   exact hget t u hu
 have s1:Hid (news.length=(T.length - j) * 3):=hlen
 have s2:Hid (∀ u∈news,u.oneCell'=true):=by intro u hu;rw [hnews] at hu;exact tcells_all _ u hu
 have s3:Hid (∀ t,t<news.length→(w.drew.cell? ⟨g,0+i * 3+t,none⟩).isSome=true∧w.drew.frozen? ⟨g,0+i * 3+t,none⟩=false):=by
  intro t ht
  rw [hlen] at ht
  exact ⟨hsome _ (by omega),frozen_of_heap hgd _⟩
 obtain ⟨W1,hW1⟩:∃ W1,W1=w.drew.setCells g (0+i * 3) news:=⟨_,rfl⟩
 obtain ⟨cur1,hg1,hsz1⟩:=heap_sets news (0+i * 3) hgd
 rw [← hW1] at hg1
 obtain ⟨zs,hzs⟩:∃ zs,zs=(Builtin.zeroCells zEnt.cells (T.length - (i+(T.length - j)))).toList:=⟨_,rfl⟩
 have hcl1:∀ ty,(Builtin.clear_ #[241] ty #[.slice (some ⟨g,(i+(T.length - j)) * 3,none⟩) (T.length - (i+(T.length - j))) (cap - (i+(T.length - j)))]).run Tryz.prog W1=.ok (.tuple #[]) (W1.setCells g ((i+(T.length - j)) * 3) zs):=fun ty=>by
  rw [hzs]
  exact run_clear3 W1 ty g _ _ _ (by omega) (fun t ht=>by rw [cell_of_heap hg1,Array.getElem?_eq_getElem (by omega)];rfl) (fun t ht=>frozen_of_heap hg1 _)
 obtain ⟨cur2,hg2,hsz2⟩:=heap_sets zs ((i+(T.length - j)) * 3) hg1
 have hL:(T.take i++T.drop j).length=i+(T.length - j):=by simp;omega
 have HO:Hid (OwnR (W1.setCells g ((i+(T.length - j)) * 3) zs) base (.slice (some ⟨g,0,none⟩) (T.take i++T.drop j).length cap) (T.take i++T.drop j)):=by
  refine OwnR.mk' hb hg2 (by rw [hsz2,hsz1,hsz]) (by omega) hm ?_
  intro k u hu
  have hk:k<(i+(T.length - j)) * 3:=by
   have:=(List.getElem?_eq_some_iff.1 hu).1
   rw [flatT_len,hL] at this
   exact this
  rw [World.cell?_setCells_out g zs _ _ ⟨g,k,none⟩ (fun _ _=>.inl hk),hW1]
  rw [List.flatMap_append,← hnews] at hu
  have hti:((T.take i).flatMap tcells).length=i * 3:=by rw [flatT_len];simp;omega
  by_cases hki:k<i * 3
  ·rw [World.cell?_setCells_out g news _ _ ⟨g,k,none⟩ (fun _ _=>.inl (by show k<_;omega))]
   rw [List.getElem?_append_left (by omega),flat_take,List.getElem?_take_of_lt hki] at hu
   exact hcl k u hu
  ·rw [List.getElem?_append_right (by omega),hti] at hu
   have h3:=World.cell?_setCells_in g news (0+i * 3) w.drew (fun t ht=>(s3.out t ht).1) (k - i * 3) (List.getElem?_eq_some_iff.1 hu).1
   rw [show 0+i * 3+(k - i * 3)=k by omega] at h3
   rw [h3,(List.getElem?_eq_some_iff.1 hu).2]
 have HG:Hid (w.grownBy (W1.setCells g ((i+(T.length - j)) * 3) zs) (some g)):=by
  have h1:w.grownBy W1 (some g):=by
   rw [hW1]
   refine ⟨(World.os_setCells _ _ _ _).trans rfl,?_,(World.output_setCells _ _ _ _).trans rfl,?_,fun k hk hne=>(World.heap_setCells_other w.drew g _ news (by exact hk) (fun e=>hne (by rw [e]))).trans rfl⟩
   ·exact tape_sets g news _ _
   ·rw [size_sets];exact Nat.le_refl _
  refine h1.trans ⟨World.os_setCells _ _ _ _,tape_sets g zs _ _,World.output_setCells _ _ _ _,by rw [size_sets];exact Nat.le_refl _,fun k hk hne=>World.heap_setCells_other W1 g _ zs hk (fun e=>hne (by rw [e]))⟩
 have HW:Hid (W1=w.drew.setCells g (0+i * 3) news):=hW1
 rw [hL] at HO ⊢
 have hic:i≤cap:=by omega
 have hjc:j≤cap:=by omega
 have hne:¬ cap=i+(T.length - j):=by omega
 unfold maxLen at hm
 clear hW1 hg1 hsz1 hg2 hsz2 hzs hcl hget hnews hlen hsome hgd hg hsz h hL
 go_enter Tryz.func217,Tryz.ntmps217
 go_wp2_with fail
 go_region_law (refine step_append_room rfl (.tmp 22) (.tmp 25) 241 rfl 240 i0 3 Tryz.underlying241 hi0 hz1 g 0 i cap (by simp [Act.eval,Act.put]) A (T.length - j) (cap - j) news (by simp [Act.eval,Act.put,hA]) s1.out hsrc.out s2.out (by omega) s3.out ?_;rw [← HW.out])
 all_goals
  go_wp2
  go_ret
  exact ⟨rfl,HO.out,HG.out⟩
end Go.Proofs.YtcdpiefflnaghaaGreatDoor.Tb
namespace Go.Proofs.YtcdpiefflnaghaaGreatDoor.Tb
open Go.Proofs.YtcdpiefflnaghaaGreatDoor.Me
open Go.RowKit
structure Kept (F:Nat→Prop)(w w':World):Prop where
 os:w'.os=w.os
 tape:w'.tape=w.tape
 output:w'.output=w.output
 size:w.heap.size≤w'.heap.size
 block:∀ k,k<w.heap.size→¬ F k→w'.heap[k]? = w.heap[k]?
theorem Kept.refl (F:Nat→Prop)(w:World):Kept F w w:=⟨rfl,rfl,rfl,Nat.le_refl _,fun _ _ _=>rfl⟩
theorem Kept.trans {F F':Nat→Prop}{a b c:World}(h:Kept F a b)(k:Kept F' b c)(hF:∀ k,F' k→F k∨a.heap.size≤k):Kept F a c:=
 ⟨k.os.trans h.os,k.tape.trans h.tape,k.output.trans h.output,Nat.le_trans h.size k.size,fun i hi hn=>(k.block i (Nat.lt_of_lt_of_le hi h.size) (fun hf=>by
  rcases hF i hf with g | g
  ·exact hn g
  ·omega)).trans (h.block i hi hn)⟩
theorem Kept.below {F:Nat→Prop}{w w':World}(h:Below w.heap.size w w'):Kept F w w':=⟨h.os,h.tape,h.output,h.size,fun k hk _=>h.block k hk⟩
theorem Kept.grown {F:Nat→Prop}{w w':World}{row:Option Nat}(h:w.grownBy w' row)(hr:∀ k,row=some k→F k∨w.heap.size≤k):Kept F w w':=
 ⟨h.os,h.tape,h.output,h.size,fun k hk hn=>h.block k hk (fun e=>by
  rcases hr k e.symm with g | g
  ·exact hn g
  ·omega)⟩
theorem Kept.set {F:Nat→Prop}(w:World){g:Nat}(hg:F g)(o:Nat)(v:Value):Kept F w (w.setCell ⟨g,o,none⟩ v):=
 ⟨rfl,rfl,rfl,by simp,fun k hk hn=>Below.heap_setCell w ⟨g,o,none⟩ v k (fun e=>hn (by rw [show k=g from e];exact hg))⟩
def up2 {α:Type}(f:Bool→Nat→α)(b:Bool)(i:Nat)(x:α):Bool→Nat→α:=fun b' i'=>if b'=b∧i'=i then x else f b' i'
theorem up2_same {α:Type}(f:Bool→Nat→α)(b:Bool)(i:Nat)(x:α):up2 f b i x b i=x:=by simp [up2]
theorem up2_other {α:Type}{f:Bool→Nat→α}{b b':Bool}{i i':Nat}{x:α}(h:¬ (b'=b∧i'=i)):up2 f b i x b' i'=f b' i':=by simp [up2,h]
def osl (blk num:Bool→Nat):Value:=if num true=0 then .slice none 0 0 else .slice (some ⟨blk true,0,none⟩) (num true) (num true)
structure Tm (w:World)(base p:Nat)(blk num:Bool→Nat)(val:Bool→Nat→Value)(ents:Bool→Nat→List NU)(next many moved:Nat):Prop where
 self:w.cell? ⟨p,0,none⟩=some (.pointer (some ⟨p,0,none⟩))
 rowsc:w.cell? ⟨p,1,none⟩=some (.slice (some ⟨blk false,0,none⟩) (num false) (num false))
 oldc:w.cell? ⟨p,2,none⟩=some (osl blk num)
 nextc:w.cell? ⟨p,3,none⟩=some (.int .i64 next)
 manyc:w.cell? ⟨p,4,none⟩=some (.int .i64 many)
 movedc:w.cell? ⟨p,5,none⟩=some (.int .i64 moved)
 pfree:∀ i,w.frozen? ⟨p,i,none⟩=false
 plt:base≤p∧p<w.heap.size
 cell:∀ b i,i<num b→w.cell? ⟨blk b,i,none⟩=some (val b i)
 free:∀ b,0<num b→∀ i,w.frozen? ⟨blk b,i,none⟩=false
 own:∀ b i,i<num b→OwnR w base (val b i) (ents b i)
 pblk:∀ b,0<num b→blk b≠p∧base≤blk b∧blk b<w.heap.size
 bdiff:0<num true→blk true≠blk false
 sep:∀ b i b' i' g,i<num b→i'<num b'→(val b i).ownBlock=some g→(val b' i').ownBlock=some g→b=b'∧i=i'
 far:∀ b i g,i<num b→(val b i).ownBlock=some g→g≠p∧∀ b',0<num b'→g≠blk b'
 pos:1≤num false
def Ft (p:Nat)(blk num:Bool→Nat)(val:Bool→Nat→Value)(k:Nat):Prop:=k=p∨(∃ b,0<num b∧k=blk b)∨∃ b i,i<num b∧(val b i).ownBlock=some k
section
variable {w w':World} {base p:Nat} {blk num:Bool→Nat} {val:Bool→Nat→Value} {ents:Bool→Nat→List NU} {next many moved:Nat}
theorem Tm.lt (h:Tm w base p blk num val ents next many moved){k:Nat}(hk:Ft p blk num val k):base≤k∧k<w.heap.size:=by
 rcases hk with rfl | ⟨b,hb,rfl⟩ | ⟨b,i,hi,hg⟩
 ·exact h.plt
 ·exact (h.pblk b hb).2
 ·exact (h.own b i hi).lt k hg
theorem Tm.same (h:Tm w base p blk num val ents next many moved)(hs:w.heap.size≤w'.heap.size)(e:∀ k,Ft p blk num val k→w'.heap[k]? = w.heap[k]?):Tm w' base p blk num val ents next many moved:=by
 have ep:=e p (.inl rfl)
 have eb:∀ b,0<num b→w'.heap[blk b]? = w.heap[blk b]?:=fun b hb=>e _ (.inr (.inl ⟨b,hb,rfl⟩))
 exact ⟨(World.cell?_of_block ep).trans h.self,(World.cell?_of_block ep).trans h.rowsc,(World.cell?_of_block ep).trans h.oldc,(World.cell?_of_block ep).trans h.nextc,(World.cell?_of_block ep).trans h.manyc,(World.cell?_of_block ep).trans h.movedc,fun i=>(World.frozen?_of_block ep).trans (h.pfree i),⟨h.plt.1,Nat.lt_of_lt_of_le h.plt.2 hs⟩,
  fun b i hi=>(World.cell?_of_block (eb b (by omega))).trans (h.cell b i hi),fun b hb i=>(World.frozen?_of_block (eb b hb)).trans (h.free b hb i),fun b i hi=>(h.own b i hi).same (fun g hg=>e g (.inr (.inr ⟨b,i,hi,hg⟩))),fun b hb=>⟨(h.pblk b hb).1,(h.pblk b hb).2.1,Nat.lt_of_lt_of_le (h.pblk b hb).2.2 hs⟩,h.bdiff,h.sep,h.far,h.pos⟩
theorem Tm.kept {F:Nat→Prop}(h:Tm w base p blk num val ents next many moved)(hk:Kept F w w')(hF:∀ k,Ft p blk num val k→¬ F k):Tm w' base p blk num val ents next many moved:=
 h.same hk.size (fun k hf=>hk.block k (h.lt hf).2 (hF k hf))
theorem Tm.below (h:Tm w base p blk num val ents next many moved)(hb:Below w.heap.size w w'):Tm w' base p blk num val ents next many moved:=
 h.same hb.size (fun k hf=>hb.block k (h.lt hf).2)
theorem Tm.slotIn (h:Tm w base p blk num val ents next many moved){b:Bool}{i:Nat}(hi:i<num b)(hg:w.grownBy w' (val b i).ownBlock)(L:List NU)(hO:OwnR w' base (val b i) L):Tm w' base p blk num val (up2 ents b i L) next many moved:=by
 have ep:w'.heap[p]? = w.heap[p]?:=hg.block p h.plt.2 (fun e=>(h.far b i p hi e.symm).1 rfl)
 have eb:∀ b',0<num b'→w'.heap[blk b']? = w.heap[blk b']?:=fun b' hb'=>hg.block _ (h.pblk b' hb').2.2 (fun e=>(h.far b i _ hi e.symm).2 b' hb' rfl)
 have hs:=hg.size
 refine ⟨(World.cell?_of_block ep).trans h.self,(World.cell?_of_block ep).trans h.rowsc,(World.cell?_of_block ep).trans h.oldc,(World.cell?_of_block ep).trans h.nextc,(World.cell?_of_block ep).trans h.manyc,(World.cell?_of_block ep).trans h.movedc,fun i=>(World.frozen?_of_block ep).trans (h.pfree i),⟨h.plt.1,Nat.lt_of_lt_of_le h.plt.2 hs⟩,
  fun b i hi=>(World.cell?_of_block (eb b (by omega))).trans (h.cell b i hi),fun b hb i=>(World.frozen?_of_block (eb b hb)).trans (h.free b hb i),fun b' i' hi'=>?_,fun b hb=>⟨(h.pblk b hb).1,(h.pblk b hb).2.1,Nat.lt_of_lt_of_le (h.pblk b hb).2.2 hs⟩,h.bdiff,h.sep,h.far,h.pos⟩
 by_cases e:b'=b∧i'=i
 ·obtain ⟨rfl,rfl⟩:=e
  rw [up2_same];exact hO
 ·rw [up2_other e]
  exact (h.own b' i' hi').same (fun g hg'=>hg.block g ((h.own b' i' hi').lt g hg').2 (fun e2=>e (h.sep b' i' b i g hi' hi hg' e2.symm)))
theorem Tm.slotSet (h:Tm w base p blk num val ents next many moved){b:Bool}{i:Nat}(hi:i<num b)(hg:w.grownBy w' (val b i).ownBlock)(v:Value)(L:List NU)(hO:OwnR w' base v L)(hv:∀ g,v.ownBlock=some g→(val b i).ownBlock=some g∨w.heap.size≤g):
  Tm (w'.setCell ⟨blk b,i,none⟩ v) base p blk num (up2 val b i v) (up2 ents b i L) next many moved:=by
 have hb0:0<num b:=by omega
 have ep0:w'.heap[p]? = w.heap[p]?:=hg.block p h.plt.2 (fun e=>(h.far b i p hi e.symm).1 rfl)
 have eb:∀ b',0<num b'→w'.heap[blk b']? = w.heap[blk b']?:=fun b' hb'=>hg.block _ (h.pblk b' hb').2.2 (fun e=>(h.far b i _ hi e.symm).2 b' hb' rfl)
 have hs:=hg.size
 have hset:∀ k,k≠blk b→(w'.setCell ⟨blk b,i,none⟩ v).heap[k]? = w'.heap[k]?:=fun k hk=>Below.heap_setCell w' ⟨blk b,i,none⟩ v k hk
 have ep:(w'.setCell ⟨blk b,i,none⟩ v).heap[p]? = w.heap[p]?:=(hset p (fun e=>(h.pblk b hb0).1 e.symm)).trans ep0
 have hvb:∀ g,v.ownBlock=some g→g≠p∧∀ b',0<num b'→g≠blk b':=fun g hg'=>by
  rcases hv g hg' with e | e
  ·exact h.far b i g hi e
  ·exact ⟨by have:=h.plt.2;omega,fun b' hb'=>by have:=(h.pblk b' hb').2.2;omega⟩
 have hvs:∀ b' i' g,i'<num b'→¬ (b'=b∧i'=i)→(val b' i').ownBlock=some g→v.ownBlock≠some g:=fun b' i' g hi' hne hg' e=>by
  rcases hv g e with e2 | e2
  ·exact hne (h.sep b' i' b i g hi' hi hg' e2)
  ·have:=((h.own b' i' hi').lt g hg').2;omega
 refine ⟨(World.cell?_of_block ep).trans h.self,(World.cell?_of_block ep).trans h.rowsc,(World.cell?_of_block ep).trans h.oldc,(World.cell?_of_block ep).trans h.nextc,(World.cell?_of_block ep).trans h.manyc,(World.cell?_of_block ep).trans h.movedc,fun i=>(World.frozen?_of_block ep).trans (h.pfree i),⟨h.plt.1,by simpa using Nat.lt_of_lt_of_le h.plt.2 hs⟩,
  fun b' i' hi'=>?_,fun b' hb' j=>?_,fun b' i' hi'=>?_,fun b' hb'=>⟨(h.pblk b' hb').1,(h.pblk b' hb').2.1,by simpa using Nat.lt_of_lt_of_le (h.pblk b' hb').2.2 hs⟩,h.bdiff,fun b1 i1 b2 i2 g h1 h2 g1 g2=>?_,fun b' i' g hi' hg'=>?_,h.pos⟩
 ·have hc:w'.cell? ⟨blk b',i',none⟩=some (val b' i'):=(World.cell?_of_block (eb b' (by omega))).trans (h.cell b' i' hi')
  by_cases e:b'=b∧i'=i
  ·obtain ⟨rfl,rfl⟩:=e
   rw [up2_same]
   exact World.cell?_setCell_same _ _ _ hc
  ·rw [up2_other e,World.cell?_setCell_other _ _ _ _ ?_]
   ·exact hc
   ·intro e2
    have e3:blk b=blk b'∧i=i':=by simpa using e2
    refine e ⟨?_,e3.2.symm⟩
    cases b <;> cases b'
    ·rfl
    ·exact absurd e3.1.symm (h.bdiff (by omega))
    ·exact absurd e3.1 (h.bdiff hb0)
    ·rfl
 ·simp only [World.frozen?_setCell]
  exact (World.frozen?_of_block (eb b' hb')).trans (h.free b' hb' j)
 ·by_cases e:b'=b∧i'=i
  ·obtain ⟨rfl,rfl⟩:=e
   rw [up2_same,up2_same]
   exact hO.same (fun g hg'=>hset g ((hvb g hg').2 _ hb0))
  ·rw [up2_other e,up2_other e]
   have h1:=(h.own b' i' hi').same (w':=w') (fun g hg'=>hg.block g ((h.own b' i' hi').lt g hg').2 (fun e2=>e (h.sep b' i' b i g hi' hi hg' e2.symm)))
   exact h1.same (fun g hg'=>hset g ((h.far b' i' g hi' hg').2 b hb0))
 ·by_cases e1:b1=b∧i1=i
  ·by_cases e2:b2=b∧i2=i
   ·exact ⟨e1.1.trans e2.1.symm,e1.2.trans e2.2.symm⟩
   ·rw [up2_other e2] at g2
    obtain ⟨rfl,rfl⟩:=e1
    rw [up2_same] at g1
    exact absurd g1 (hvs b2 i2 g h2 e2 g2)
  ·rw [up2_other e1] at g1
   by_cases e2:b2=b∧i2=i
   ·obtain ⟨rfl,rfl⟩:=e2
    rw [up2_same] at g2
    exact absurd g2 (hvs b1 i1 g h1 e1 g1)
   ·rw [up2_other e2] at g2
    exact h.sep b1 i1 b2 i2 g h1 h2 g1 g2
 ·by_cases e:b'=b∧i'=i
  ·obtain ⟨rfl,rfl⟩:=e
   rw [up2_same] at hg'
   exact hvb g hg'
  ·rw [up2_other e] at hg'
   exact h.far b' i' g hi' hg'
theorem Ft.slot {b:Bool}{i:Nat}{v:Value}(hi:i<num b)(hv:∀ g,v.ownBlock=some g→(val b i).ownBlock=some g∨w.heap.size≤g):∀ k,Ft p blk num (up2 val b i v) k→Ft p blk num val k∨w.heap.size≤k:=by
 rintro k (rfl | ⟨b',hb',rfl⟩ | ⟨b',i',hi',hg'⟩)
 ·exact .inl (.inl rfl)
 ·exact .inl (.inr (.inl ⟨b',hb',rfl⟩))
 ·by_cases e:b'=b∧i'=i
  ·obtain ⟨rfl,rfl⟩:=e
   rw [up2_same] at hg'
   rcases hv k hg' with g | g
   ·exact .inl (.inr (.inr ⟨b',i',hi',g⟩))
   ·exact .inr g
  ·rw [up2_other e] at hg'
   exact .inl (.inr (.inr ⟨b',i',hi',hg'⟩))
end
end Go.Proofs.YtcdpiefflnaghaaGreatDoor.Tb
namespace Go.Proofs.YtcdpiefflnaghaaGreatDoor.Tb
open Go.Proofs.YtcdpiefflnaghaaGreatDoor.Me
open Go.RowKit
theorem run_app_r (w0:World)(ty:TypeId)(base:Nat)(v:Value)(T:List NU)(hown:OwnR w0 base v T)(q:NU)(hlen:T.length+1≤1000000)(hbase:base≤w0.heap.size):
  ∃ v' w',(Builtin.append_ #[241,241] ty #[v,.slice (some ⟨w0.heap.size,0,none⟩) 1 1]).run Tryz.prog (w0.alloc (.cells (tcells q).toArray 240))=.ok v' w'∧OwnR w' base v' (T++[q])∧Grew w0 w' v v':=by
 obtain ⟨i0,hi,hz0,hz1,hz2⟩:=info_parts Tryz.infoEntry
 have hm:maxLen=9223372036854775807:=rfl
 obtain ⟨v',w',hr,ho,hg,_,hat⟩:=run_append_own_at (P:=Tryz.prog) (w0.alloc (.cells (tcells q).toArray 240)) base 241 ty 240 i0 (.agg #[.int .i64 0,.string ⟨#[]⟩,.int .i64 0]) 3 32 Tryz.underlying241 hi hz0 hz1 hz2 rfl (by decide) v T.length (T.flatMap tcells) (World.ownsRow.alloc hown _) ⟨w0.heap.size,0,none⟩ 1 1 (tcells q) (by rw [tcells_len])
  (by
   intro j u hu
   rw [Me.addr_add]
   simp only [Nat.zero_add]
   have hj:=(List.getElem?_eq_some_iff.1 hu).1
   have:u=(tcells q)[j]:=by simpa [hj] using hu.symm
   subst this
   simp [hj]) (tcells_one q) (by omega) (by omega) (by simp;omega)
 refine ⟨v',w',hr,?_,⟨(World.grownBy_alloc w0 _ _).trans hg,fun k hk=>?_⟩⟩
 ·have e:(T++[q]).length=T.length+1:=by simp
  unfold OwnR
  rw [e,List.flatMap_append,List.flatMap_singleton]
  exact ho
 ·rcases hat with h | h
  ·exact .inl (h ▸ hk)
  ·rw [h] at hk;cases hk;exact .inr (by simp)
section
variable {w:World} {ops:Array Oper} {o:Oper} {a:Act} {K:Act→World→Prop} {Q:Exit→Act→World→Prop} {E:Prop}
theorem step_app_r {w0:World}(hgd:o.guard=none)(s x:Operand)(ho:o.op=.call { callee:=.builtin .append,args:=#[s,x],argTypes:=#[241,241] })
  (base:Nat) (v:Value) (T:List NU) (hown:OwnR w0 base v T) (hs:a.eval s=v) (q:NU) (hw:w=w0.alloc (.cells (tcells q).toArray 240)) (hx:a.eval x=.slice (some ⟨w0.heap.size,0,none⟩) 1 1)
  (hlen:T.length+1≤1000000) (hbase:base≤w0.heap.size)
  (h:∀ v' w',OwnR w' base v' (T++[q])→Grew w0 w' v v'→K (a.put o.dst v') w'):if Region.wanted o (yielded ops a.tmps)=true then Oper.wp Tryz.prog o a w K Q else E:=by
 have hw1:Region.wanted o (yielded ops a.tmps)=true:=by simp [Region.wanted,hgd]
 rw [if_pos hw1]
 subst hw
 obtain ⟨v',w',hr,h2,h3⟩:=run_app_r w0 o.type base v T hown q hlen hbase
 unfold Oper.wp execOp
 simp only [ho,resolve,invoke,builtin,Sem.run_bind,Sem.run_pure,Result.andThen_ok,List.map_toArray,List.map_cons,List.map_nil,hs,hx,hr]
 exact h v' w' h2 h3
end
set_option maxHeartbeats 1000000 in
theorem stand_any (w:World)(base p:Nat)(blk num:Bool→Nat)(val:Bool→Nat→Value)(ents:Bool→Nat→List NU)(next many moved:Nat)(h:Tm w base p blk num val ents next many moved)(hn:num false≤1000000)(x:NU)(hx:x.1.ok)(hl:(ents false (rix x.1 (num false))).length+1≤1000000):
  Calls Tryz.prog 239 #[.pointer (some ⟨p,0,none⟩),.agg #[.int .i64 x.1.tenant,.string x.1.key,.int .i64 x.2]] w fun e w'=>e=.returned (.tuple #[])∧
   ∃ v,Tm w' base p blk num (up2 val false (rix x.1 (num false)) v) (up2 ents false (rix x.1 (num false)) (ents false (rix x.1 (num false))++[x])) next many moved∧Kept (Ft p blk num val) w w'∧∀ k,Ft p blk num (up2 val false (rix x.1 (num false)) v) k→Ft p blk num val k∨w.heap.size≤k:=by
 have hk:=rix_lt x.1 h.pos
 have HRO:=Hid.m (fun W=>rowOf_any W x.1 hx (num false) h.pos hn)
 obtain ⟨k,hkk⟩:∃ k,k=rix x.1 (num false):=⟨_,rfl⟩
 rw [← hkk] at HRO hk hl ⊢
 have HH:=Hid.m h
 have HRB:=Hid.m (h.pblk false (by omega))
 clear hkk hx h
 have hk2:(k:Int)<(num false:Int):=by omega
 go_enter Tryz.func239,Tryz.ntmps239
 go_upto_region 1 with (fail)
 obtain ⟨w0,hw0⟩:∃ w0,w0=w.alloc (Obj.cells #[.int .i64 x.1.tenant,.string x.1.key,.int .i64 x.2] 240):=⟨_,rfl⟩
 rw [← hw0]
 have HB0:Hid (Below w.heap.size w w0):=by rw [hw0];exact (Below.refl _ _).alloc (Nat.le_refl _) _
 have a0:w0.cell? ⟨w.heap.size,0,none⟩=some (.int .i64 x.1.tenant):=by rw [hw0];simp
 have a1:w0.cell? ⟨w.heap.size,1,none⟩=some (.string x.1.key):=by rw [hw0];simp
 have a2:w0.cell? ⟨w.heap.size,2,none⟩=some (.int .i64 x.2):=by rw [hw0];simp
 have y0:w.heap.size<w0.heap.size:=by rw [hw0];simp
 clear hw0
 have HH0:=Hid.m (HH.out.below HB0.out)
 have HP:Hid (∀ W,Below w0.heap.size w0 W→W.cell? ⟨p,1,none⟩=some (.slice (some ⟨blk false,0,none⟩) (num false) (num false))∧W.cell? ⟨w.heap.size,0,none⟩=some (.int .i64 x.1.tenant)∧W.cell? ⟨w.heap.size,1,none⟩=some (.string x.1.key)∧W.cell? ⟨w.heap.size,2,none⟩=some (.int .i64 x.2)):=fun W hb=>⟨(HH0.out.below hb).rowsc,(bcl hb _ _ y0).trans a0,(bcl hb _ _ y0).trans a1,(bcl hb _ _ y0).trans a2⟩
 go_cut [4] from 5 (fun s4 wx=>s4=.pointer (some ⟨blk false,k,none⟩)∧Hid (Below w0.heap.size w0 wx))
 case first=>
  go_region_held3 (fun W=>W.cell? ⟨p,1,none⟩=some (.slice (some ⟨blk false,0,none⟩) (num false) (num false))∧W.cell? ⟨w.heap.size,0,none⟩=some (.int .i64 x.1.tenant)∧W.cell? ⟨w.heap.size,1,none⟩=some (.string x.1.key)∧W.cell? ⟨w.heap.size,2,none⟩=some (.int .i64 x.2))
   (first | exact HP.out _ HB1.out | exact HP.out _ (Below.refl _ _) | exact HP.out _ ((Below.refl _ _).drew))
   (first | (go_at_call 210;refine (HRO.out _).mono ?_;rintro e w1 ⟨rfl,hb1⟩;have HB1:Hid (Below w0.heap.size w0 w1):=(by first | exact hb1 | exact ((Below.refl _ _).drew).trans hb1)))
  all_goals
   go_wp2
   go_meet
   case rel=>exact ⟨rfl,HB1⟩
 case rest=>
  obtain ⟨rfl,HB2⟩:=hcut
  obtain ⟨w2,hw2⟩:∃ x,x=wc:=⟨_,rfl⟩
  rw [← hw2] at HB2 ⊢
  clear hw2
  have HBd:Hid (Below w0.heap.size w0 w2.drew):=HB2.out.drew
  have HHd:=Hid.m (HH0.out.below HBd.out)
  obtain ⟨-,b0,b1,b2⟩:=HP.out _ HBd.out
  have c0:=HHd.out.cell false k hk
  have f0:=HHd.out.free false (by omega) k
  have yd:w.heap.size<w2.drew.heap.size:=Nat.lt_of_lt_of_le y0 HBd.out.size
  have rbl:=(HHd.out.pblk false (by omega)).2.2
  have z0:∀ o,(w2.drew.alloc o).cell? ⟨blk false,k,none⟩=some (val false k):=fun o=>(World.cell?_alloc_past o _ _ rbl).trans c0
  have z1:∀ o,(w2.drew.alloc o).cell? ⟨w.heap.size,0,none⟩=some (.int .i64 x.1.tenant):=fun o=>(World.cell?_alloc_past o _ _ yd).trans b0
  have z2:∀ o,(w2.drew.alloc o).cell? ⟨w.heap.size,1,none⟩=some (.string x.1.key):=fun o=>(World.cell?_alloc_past o _ _ yd).trans b1
  have z3:∀ o,(w2.drew.alloc o).cell? ⟨w.heap.size,2,none⟩=some (.int .i64 x.2):=fun o=>(World.cell?_alloc_past o _ _ yd).trans b2
  have z0':∀ o,(w2.alloc o).cell? ⟨blk false,k,none⟩=some (val false k):=fun o=>z0 o
  have z1':∀ o,(w2.alloc o).cell? ⟨w.heap.size,0,none⟩=some (.int .i64 x.1.tenant):=fun o=>z1 o
  have z2':∀ o,(w2.alloc o).cell? ⟨w.heap.size,1,none⟩=some (.string x.1.key):=fun o=>z2 o
  have z3':∀ o,(w2.alloc o).cell? ⟨w.heap.size,2,none⟩=some (.int .i64 x.2):=fun o=>z3 o
  have d0:w2.cell? ⟨blk false,k,none⟩=some (val false k):=c0
  have d1:w2.cell? ⟨w.heap.size,0,none⟩=some (.int .i64 x.1.tenant):=b0
  have d2:w2.cell? ⟨w.heap.size,1,none⟩=some (.string x.1.key):=b1
  have d3:w2.cell? ⟨w.heap.size,2,none⟩=some (.int .i64 x.2):=b2
  have hO:=HHd.out.own false k hk
  have hbs:base≤w2.drew.heap.size:=Nat.le_trans HHd.out.plt.1 (Nat.le_of_lt HHd.out.plt.2)
  have HBW:Hid (Below w.heap.size w w2.drew):=HB0.out.trans (HBd.out.mono (Nat.le_of_lt y0))
  clear HP HRO a0 a1 a2
  go_wp2
  go_region_law
   (refine step_app_r (w0:=w2.drew) (by rfl) (.tmp 21) (.tmp 23) (by rfl) base _ _ hO (by rfl) x (by rfl) (by rfl) hl hbs ?_;intro v7 w7 ho7 hg7;obtain ⟨vo7,vc7,hv7,-⟩:=ho7.at;rw [List.length_append,List.length_singleton] at hv7;subst hv7;have hrb:w7.heap[blk false]? = w2.drew.heap[blk false]?:=hg7.grown.block _ rbl (fun e=>(HHd.out.far false k _ hk e.symm).2 false (by omega) rfl);have x7:w7.cell? ⟨blk false,k,none⟩=some (val false k):=(World.cell?_of_block hrb).trans c0;have xf7:w7.frozen? ⟨blk false,k,none⟩=false:=(World.frozen?_of_block hrb).trans f0)
  all_goals
   go_end0
   refine ⟨rfl,_,HHd.out.slotSet hk hg7.grown _ _ ho7 hg7.lies,?_,?_⟩
   ·refine ((Kept.below (F:=Ft p blk num val) HBW.out).trans (Kept.grown (F:=Ft p blk num val) hg7.grown (fun j hj=>.inl (.inr (.inr ⟨false,k,hk,hj⟩)))) (fun j hj=>.inl hj)).trans (Kept.set (F:=Ft p blk num val) w7 (.inr (.inl ⟨false,by omega,rfl⟩)) k _) (fun j hj=>.inl hj)
   ·intro j hj
    rcases Ft.slot (w:=w2.drew) hk hg7.lies j hj with g | g
    ·exact .inl g
    ·exact .inr (Nat.le_trans HBW.out.size g)
end Go.Proofs.YtcdpiefflnaghaaGreatDoor.Tb
namespace Go.Proofs.YtcdpiefflnaghaaGreatDoor.Tb
open Go.Proofs.YtcdpiefflnaghaaGreatDoor.Me
open Go.RowKit
def Found (blk num:Bool→Nat)(ents:Bool→Nat→List NU)(y:Nm)(e:Ending):Prop:=
 ∃ (b:Bool) (k:Int),e=.returned (.tuple #[.pointer (some ⟨blk b,rix y (num b),none⟩),.int .i64 k])∧rix y (num b)<num b∧k=ixOf (ents b (rix y (num b))) y∧(b=false→0<num true→ixOf (ents true (rix y (num true))) y=-1)∧(b=true→0≤k)
theorem ixOf_ge (T:List NU)(y:Nm):ixOf T y=-1∨∃ k:Nat,ixOf T y=k∧∃ h:k<T.length,T[k].1=y:=by
 unfold ixOf
 cases e:T.findIdx? (fun q=>decide (q.1=y)) with
 | none=>exact .inl rfl
 | some k=>
  obtain ⟨h,h1,_⟩:=List.findIdx?_eq_some_iff_getElem.1 e
  exact .inr ⟨k,rfl,h,by simpa using h1⟩
set_option maxHeartbeats 1000000 in
theorem find_rows (w:World)(base p:Nat)(blk num:Bool→Nat)(val:Bool→Nat→Value)(ents:Bool→Nat→List NU)(next many moved:Nat)(h:Tm w base p blk num val ents next many moved)(hn:∀ b,num b≤1000000)(y:Nm)(hy:y.ok)(hl:∀ b i,i<num b→(ents b i).length≤1000000)(h0:num true=0):
  Calls Tryz.prog 153 #[.pointer (some ⟨p,0,none⟩),.agg #[.int .i64 y.tenant,.string y.key]] w fun e w'=>Found blk num ents y e∧Below w.heap.size w w':=by
 have hk_false:=rix_lt y (n:=num false) h.pos
 have HRO_false:=Hid.m (fun W=>rowOf_any W y hy (num false) h.pos (hn false))
 obtain ⟨k_false,hkk_false⟩:∃ k,k=rix y (num false):=⟨_,rfl⟩
 rw [← hkk_false] at HRO_false hk_false
 have HKK_false:=Hid.m hkk_false
 have hk2_false:(k_false:Int)<(num false:Int):=by omega
 obtain ⟨ao_false,cap_false,hv_false,hlc_false,-,hat_false⟩:=(h.own false k_false hk_false).at
 have hll_false:=hl false k_false hk_false
 obtain ⟨T_false,hT_false⟩:∃ T,T=ents false k_false:=⟨_,rfl⟩
 rw [← hT_false] at hv_false hlc_false hat_false hll_false
 have HIX_false:=Hid.m (fun W (hb:Below w.heap.size w W)=>indexOf_any W ao_false T_false cap_false (hat_false.below hb) hll_false hlc_false y)
 obtain ⟨I_false,hI_false⟩:∃ I,I=ixOf T_false y:=⟨_,rfl⟩
 rw [← hI_false] at HIX_false
 have HII_false:Hid (I_false=ixOf (ents false (rix y (num false))) y):=by rw [← hkk_false,← hT_false];exact hI_false
 have hc_false:=h.cell false k_false hk_false
 rw [hv_false] at hc_false
 have HCC_false:=Hid.m hc_false
 have HBL_false:=Hid.m (h.pblk false (by omega))
 clear hkk_false hv_false hlc_false hat_false hll_false hT_false hI_false hc_false
 have HH:=Hid.m h
 clear h hy hn hl
 go_enter Tryz.func153,Tryz.ntmps153
 go_upto_region 1 with (fail)
 obtain ⟨w0,hw0⟩:∃ w0,w0=w.alloc (Obj.cells #[.int .i64 y.tenant,.string y.key] 119):=⟨_,rfl⟩
 rw [← hw0]
 have HB0:Hid (Below w.heap.size w w0):=by rw [hw0];exact (Below.refl _ _).alloc (Nat.le_refl _) _
 have a0:w0.cell? ⟨w.heap.size,0,none⟩=some (.int .i64 y.tenant):=by rw [hw0];simp
 have a1:w0.cell? ⟨w.heap.size,1,none⟩=some (.string y.key):=by rw [hw0];simp
 have y0:w.heap.size<w0.heap.size:=by rw [hw0];simp
 clear hw0
 have HN:Hid (∀ W,Below w0.heap.size w0 W→W.cell? ⟨w.heap.size,0,none⟩=some (.int .i64 y.tenant)∧W.cell? ⟨w.heap.size,1,none⟩=some (.string y.key)):=fun W hb=>⟨(bcl hb _ _ y0).trans a0,(bcl hb _ _ y0).trans a1⟩
 have HW:Hid (∀ W,Below w0.heap.size w0 W→Below w.heap.size w W):=fun W hb=>HB0.out.trans (hb.mono (Nat.le_of_lt y0))
 have ob:=(HH.out.below HB0.out).oldc
 clear a0 a1
 have ob2:w0.cell? ⟨p,2,none⟩=some (.slice none 0 0):=by rw [ob];unfold osl;rw [if_pos h0]
 have HBz:Hid (Below w0.heap.size w0 w0):=Below.refl _ _
 have HP0:=Hid.m h0
 clear ob h0
 have HP_F:Hid (∀ W,Below w0.heap.size w0 W→W.cell? ⟨p,1,none⟩=some (.slice (some ⟨blk false,0,none⟩) (num false) (num false))∧W.cell? ⟨w.heap.size,0,none⟩=some (.int .i64 y.tenant)∧W.cell? ⟨w.heap.size,1,none⟩=some (.string y.key)):=fun W hb=>⟨(HH.out.below (HW.out W hb)).rowsc,HN.out W hb⟩
 have HQ_F:Hid (∀ W,Below w0.heap.size w0 W→W.cell? ⟨blk false,k_false,none⟩=some (.slice ao_false T_false.length cap_false)∧W.cell? ⟨w.heap.size,0,none⟩=some (.int .i64 y.tenant)∧W.cell? ⟨w.heap.size,1,none⟩=some (.string y.key)):=fun W hb=>⟨(bcl (HW.out W hb) _ _ HBL_false.out.2.2).trans HCC_false.out,HN.out W hb⟩
 go_upto_region 6 with (fail)
 go_cut [8] from 9 (fun s1 wx=>s1=.pointer (some ⟨blk false,k_false,none⟩)∧Hid (Below w0.heap.size w0 wx))
 case first=>
  go_region_held3 (fun W=>W.cell? ⟨p,1,none⟩=some (.slice (some ⟨blk false,0,none⟩) (num false) (num false))∧W.cell? ⟨w.heap.size,0,none⟩=some (.int .i64 y.tenant)∧W.cell? ⟨w.heap.size,1,none⟩=some (.string y.key))
   (first | exact HP_F.out _ HB1.out | exact HP_F.out _ HBz.out | exact HP_F.out _ (HBz.out.drew))
   (first | (go_at_call 210;refine (HRO_false.out _).mono ?_;rintro e w1 ⟨rfl,hb1⟩;have HB1:Hid (Below w0.heap.size w0 w1):=(by first | exact HBz.out.trans (hb1.mono HBz.out.size) | exact HBz.out.drew.trans (hb1.mono HBz.out.size))))
  all_goals
   go_wp2
   go_meet
   case rel=>exact ⟨rfl,HB1⟩
 case rest=>
 obtain ⟨rfl,HB2F⟩:=hcut
 obtain ⟨w2F,hw2⟩:∃ x,x=wc:=⟨_,rfl⟩
 rw [← hw2] at HB2F ⊢
 clear hw2
 go_upto_region 7 with (fail)
 go_cut [4,5] from 9 (fun s4 s5 wx=>s4=.pointer (some ⟨blk false,k_false,none⟩)∧s5=.int .i64 I_false∧Hid (Below w0.heap.size w0 wx))
 case first=>
  go_region_held3 (fun W=>W.cell? ⟨blk false,k_false,none⟩=some (.slice ao_false T_false.length cap_false)∧W.cell? ⟨w.heap.size,0,none⟩=some (.int .i64 y.tenant)∧W.cell? ⟨w.heap.size,1,none⟩=some (.string y.key))
   (first | exact HQ_F.out _ HB3.out | exact HQ_F.out _ HB2F.out | exact HQ_F.out _ (HB2F.out.drew))
   (first | (go_at_call 211;refine (HIX_false.out _ (by first | exact HW.out _ HB2F.out | exact HW.out _ HB2F.out.drew)).mono ?_;rintro e w3 ⟨rfl,hb3⟩;have HB3:Hid (Below w0.heap.size w0 w3):=(by first | exact HB2F.out.trans (hb3.mono HB2F.out.size) | exact HB2F.out.drew.trans (hb3.mono HB2F.out.size))))
  all_goals
   go_wp2
   go_meet
   case rel=>exact ⟨rfl,rfl,HB3⟩
 case rest=>
 obtain ⟨rfl,rfl,HB4⟩:=hcut
 go_wp2
 go_ret2
 exact ⟨⟨false,I_false,by rw [← HKK_false.out];rfl,by rw [← HKK_false.out];exact hk_false,HII_false.out,fun _ hp=>by have:=HP0.out;omega,fun e=>by cases e⟩,HW.out _ HB4.out⟩
set_option maxHeartbeats 1000000 in
theorem find_old (w:World)(base p:Nat)(blk num:Bool→Nat)(val:Bool→Nat→Value)(ents:Bool→Nat→List NU)(next many moved:Nat)(h:Tm w base p blk num val ents next many moved)(hn:∀ b,num b≤1000000)(y:Nm)(hy:y.ok)(hl:∀ b i,i<num b→(ents b i).length≤1000000)(hpos:1≤num true):
  Calls Tryz.prog 153 #[.pointer (some ⟨p,0,none⟩),.agg #[.int .i64 y.tenant,.string y.key]] w fun e w'=>Found blk num ents y e∧Below w.heap.size w w':=by
 have hk_true:=rix_lt y (n:=num true) hpos
 have HRO_true:=Hid.m (fun W=>rowOf_any W y hy (num true) hpos (hn true))
 obtain ⟨k_true,hkk_true⟩:∃ k,k=rix y (num true):=⟨_,rfl⟩
 rw [← hkk_true] at HRO_true hk_true
 have HKK_true:=Hid.m hkk_true
 have hk2_true:(k_true:Int)<(num true:Int):=by omega
 obtain ⟨ao_true,cap_true,hv_true,hlc_true,-,hat_true⟩:=(h.own true k_true hk_true).at
 have hll_true:=hl true k_true hk_true
 obtain ⟨T_true,hT_true⟩:∃ T,T=ents true k_true:=⟨_,rfl⟩
 rw [← hT_true] at hv_true hlc_true hat_true hll_true
 have HIX_true:=Hid.m (fun W (hb:Below w.heap.size w W)=>indexOf_any W ao_true T_true cap_true (hat_true.below hb) hll_true hlc_true y)
 obtain ⟨I_true,hI_true⟩:∃ I,I=ixOf T_true y:=⟨_,rfl⟩
 rw [← hI_true] at HIX_true
 have HII_true:Hid (I_true=ixOf (ents true (rix y (num true))) y):=by rw [← hkk_true,← hT_true];exact hI_true
 have hc_true:=h.cell true k_true hk_true
 rw [hv_true] at hc_true
 have HCC_true:=Hid.m hc_true
 have HBL_true:=Hid.m (h.pblk true (by omega))
 clear hkk_true hv_true hlc_true hat_true hll_true hT_true hI_true hc_true
 have hk_false:=rix_lt y (n:=num false) h.pos
 have HRO_false:=Hid.m (fun W=>rowOf_any W y hy (num false) h.pos (hn false))
 obtain ⟨k_false,hkk_false⟩:∃ k,k=rix y (num false):=⟨_,rfl⟩
 rw [← hkk_false] at HRO_false hk_false
 have HKK_false:=Hid.m hkk_false
 have hk2_false:(k_false:Int)<(num false:Int):=by omega
 obtain ⟨ao_false,cap_false,hv_false,hlc_false,-,hat_false⟩:=(h.own false k_false hk_false).at
 have hll_false:=hl false k_false hk_false
 obtain ⟨T_false,hT_false⟩:∃ T,T=ents false k_false:=⟨_,rfl⟩
 rw [← hT_false] at hv_false hlc_false hat_false hll_false
 have HIX_false:=Hid.m (fun W (hb:Below w.heap.size w W)=>indexOf_any W ao_false T_false cap_false (hat_false.below hb) hll_false hlc_false y)
 obtain ⟨I_false,hI_false⟩:∃ I,I=ixOf T_false y:=⟨_,rfl⟩
 rw [← hI_false] at HIX_false
 have HII_false:Hid (I_false=ixOf (ents false (rix y (num false))) y):=by rw [← hkk_false,← hT_false];exact hI_false
 have hc_false:=h.cell false k_false hk_false
 rw [hv_false] at hc_false
 have HCC_false:=Hid.m hc_false
 have HBL_false:=Hid.m (h.pblk false (by omega))
 clear hkk_false hv_false hlc_false hat_false hll_false hT_false hI_false hc_false
 have HH:=Hid.m h
 clear h hy hn hl
 go_enter Tryz.func153,Tryz.ntmps153
 go_upto_region 1 with (fail)
 obtain ⟨w0,hw0⟩:∃ w0,w0=w.alloc (Obj.cells #[.int .i64 y.tenant,.string y.key] 119):=⟨_,rfl⟩
 rw [← hw0]
 have HB0:Hid (Below w.heap.size w w0):=by rw [hw0];exact (Below.refl _ _).alloc (Nat.le_refl _) _
 have a0:w0.cell? ⟨w.heap.size,0,none⟩=some (.int .i64 y.tenant):=by rw [hw0];simp
 have a1:w0.cell? ⟨w.heap.size,1,none⟩=some (.string y.key):=by rw [hw0];simp
 have y0:w.heap.size<w0.heap.size:=by rw [hw0];simp
 clear hw0
 have HN:Hid (∀ W,Below w0.heap.size w0 W→W.cell? ⟨w.heap.size,0,none⟩=some (.int .i64 y.tenant)∧W.cell? ⟨w.heap.size,1,none⟩=some (.string y.key)):=fun W hb=>⟨(bcl hb _ _ y0).trans a0,(bcl hb _ _ y0).trans a1⟩
 have HW:Hid (∀ W,Below w0.heap.size w0 W→Below w.heap.size w W):=fun W hb=>HB0.out.trans (hb.mono (Nat.le_of_lt y0))
 have ob:=(HH.out.below HB0.out).oldc
 clear a0 a1
 have ob2:w0.cell? ⟨p,2,none⟩=some (.slice (some ⟨blk true,0,none⟩) (num true) (num true)):=by rw [ob];unfold osl;rw [if_neg (by omega)]
 have HBz:Hid (Below w0.heap.size w0 w0):=Below.refl _ _
 have hp2:(0:Int)<(num true:Int):=by omega
 have hp3:0<num true:=hpos
 clear ob
 have HP_O:Hid (∀ W,Below w0.heap.size w0 W→W.cell? ⟨p,2,none⟩=some (.slice (some ⟨blk true,0,none⟩) (num true) (num true))∧W.cell? ⟨w.heap.size,0,none⟩=some (.int .i64 y.tenant)∧W.cell? ⟨w.heap.size,1,none⟩=some (.string y.key)):=fun W hb=>⟨((HH.out.below (HW.out W hb)).oldc).trans (by unfold osl;rw [if_neg (by omega)]),HN.out W hb⟩
 have HQ_O:Hid (∀ W,Below w0.heap.size w0 W→W.cell? ⟨blk true,k_true,none⟩=some (.slice ao_true T_true.length cap_true)∧W.cell? ⟨w.heap.size,0,none⟩=some (.int .i64 y.tenant)∧W.cell? ⟨w.heap.size,1,none⟩=some (.string y.key)):=fun W hb=>⟨(bcl (HW.out W hb) _ _ HBL_true.out.2.2).trans HCC_true.out,HN.out W hb⟩
 go_upto_region 2 with (fail)
 go_cut [6] from 9 (fun s1 wx=>s1=.pointer (some ⟨blk true,k_true,none⟩)∧Hid (Below w0.heap.size w0 wx))
 case first=>
  go_region_held3 (fun W=>W.cell? ⟨p,2,none⟩=some (.slice (some ⟨blk true,0,none⟩) (num true) (num true))∧W.cell? ⟨w.heap.size,0,none⟩=some (.int .i64 y.tenant)∧W.cell? ⟨w.heap.size,1,none⟩=some (.string y.key))
   (first | exact HP_O.out _ HB1.out | exact HP_O.out _ HBz.out | exact HP_O.out _ (HBz.out.drew))
   (first | (go_at_call 210;refine (HRO_true.out _).mono ?_;rintro e w1 ⟨rfl,hb1⟩;have HB1:Hid (Below w0.heap.size w0 w1):=(by first | exact HBz.out.trans (hb1.mono HBz.out.size) | exact HBz.out.drew.trans (hb1.mono HBz.out.size))))
  all_goals
   go_wp2
   go_meet
   case rel=>exact ⟨rfl,HB1⟩
 case rest=>
 obtain ⟨rfl,HB2O⟩:=hcut
 obtain ⟨w2O,hw2⟩:∃ x,x=wc:=⟨_,rfl⟩
 rw [← hw2] at HB2O ⊢
 clear hw2
 go_upto_region 3 with (fail)
 go_cut [7] from 9 (fun s7 wx=>s7=.int .i64 I_true∧Hid (Below w0.heap.size w0 wx))
 case first=>
  go_region_held3 (fun W=>W.cell? ⟨blk true,k_true,none⟩=some (.slice ao_true T_true.length cap_true)∧W.cell? ⟨w.heap.size,0,none⟩=some (.int .i64 y.tenant)∧W.cell? ⟨w.heap.size,1,none⟩=some (.string y.key))
   (first | exact HQ_O.out _ HB3.out | exact HQ_O.out _ HB2O.out | exact HQ_O.out _ (HB2O.out.drew))
   (first | (go_at_call 211;refine (HIX_true.out _ (by first | exact HW.out _ HB2O.out | exact HW.out _ HB2O.out.drew)).mono ?_;rintro e w3 ⟨rfl,hb3⟩;have HB3:Hid (Below w0.heap.size w0 w3):=(by first | exact HB2O.out.trans (hb3.mono HB2O.out.size) | exact HB2O.out.drew.trans (hb3.mono HB2O.out.size))))
  all_goals
   go_wp2
   go_meet
   case rel=>exact ⟨rfl,HB3⟩
 case rest=>
 obtain ⟨rfl,HB4o⟩:=hcut
 obtain ⟨w4o,hw4⟩:∃ x,x=wc:=⟨_,rfl⟩
 rw [← hw4] at HB4o ⊢
 clear hw4
 rcases ixOf_ge (ents true (rix y (num true))) y with e | ⟨k,e,_⟩
 ·have hI:I_true=-1:=HII_true.out.trans e
  subst hI
  have HE:=Hid.m e
  clear e
  have HP_F:Hid (∀ W,Below w0.heap.size w0 W→W.cell? ⟨p,1,none⟩=some (.slice (some ⟨blk false,0,none⟩) (num false) (num false))∧W.cell? ⟨w.heap.size,0,none⟩=some (.int .i64 y.tenant)∧W.cell? ⟨w.heap.size,1,none⟩=some (.string y.key)):=fun W hb=>⟨(HH.out.below (HW.out W hb)).rowsc,HN.out W hb⟩
  have HQ_F:Hid (∀ W,Below w0.heap.size w0 W→W.cell? ⟨blk false,k_false,none⟩=some (.slice ao_false T_false.length cap_false)∧W.cell? ⟨w.heap.size,0,none⟩=some (.int .i64 y.tenant)∧W.cell? ⟨w.heap.size,1,none⟩=some (.string y.key)):=fun W hb=>⟨(bcl (HW.out W hb) _ _ HBL_false.out.2.2).trans HCC_false.out,HN.out W hb⟩
  go_upto_region 6 with (fail)
  go_cut [8] from 9 (fun s1 wx=>s1=.pointer (some ⟨blk false,k_false,none⟩)∧Hid (Below w0.heap.size w0 wx))
  case first=>
   go_region_held3 (fun W=>W.cell? ⟨p,1,none⟩=some (.slice (some ⟨blk false,0,none⟩) (num false) (num false))∧W.cell? ⟨w.heap.size,0,none⟩=some (.int .i64 y.tenant)∧W.cell? ⟨w.heap.size,1,none⟩=some (.string y.key))
    (first | exact HP_F.out _ HB1.out | exact HP_F.out _ HB4o.out | exact HP_F.out _ (HB4o.out.drew))
    (first | (go_at_call 210;refine (HRO_false.out _).mono ?_;rintro e w1 ⟨rfl,hb1⟩;have HB1:Hid (Below w0.heap.size w0 w1):=(by first | exact HB4o.out.trans (hb1.mono HB4o.out.size) | exact HB4o.out.drew.trans (hb1.mono HB4o.out.size))))
   all_goals
    go_wp2
    go_meet
    case rel=>exact ⟨rfl,HB1⟩
  case rest=>
  obtain ⟨rfl,HB2F⟩:=hcut
  obtain ⟨w2F,hw2⟩:∃ x,x=wc:=⟨_,rfl⟩
  rw [← hw2] at HB2F ⊢
  clear hw2
  go_upto_region 7 with (fail)
  go_cut [4,5] from 9 (fun s4 s5 wx=>s4=.pointer (some ⟨blk false,k_false,none⟩)∧s5=.int .i64 I_false∧Hid (Below w0.heap.size w0 wx))
  case first=>
   go_region_held3 (fun W=>W.cell? ⟨blk false,k_false,none⟩=some (.slice ao_false T_false.length cap_false)∧W.cell? ⟨w.heap.size,0,none⟩=some (.int .i64 y.tenant)∧W.cell? ⟨w.heap.size,1,none⟩=some (.string y.key))
    (first | exact HQ_F.out _ HB3.out | exact HQ_F.out _ HB2F.out | exact HQ_F.out _ (HB2F.out.drew))
    (first | (go_at_call 211;refine (HIX_false.out _ (by first | exact HW.out _ HB2F.out | exact HW.out _ HB2F.out.drew)).mono ?_;rintro e w3 ⟨rfl,hb3⟩;have HB3:Hid (Below w0.heap.size w0 w3):=(by first | exact HB2F.out.trans (hb3.mono HB2F.out.size) | exact HB2F.out.drew.trans (hb3.mono HB2F.out.size))))
   all_goals
    go_wp2
    go_meet
    case rel=>exact ⟨rfl,rfl,HB3⟩
  case rest=>
  obtain ⟨rfl,rfl,HB4⟩:=hcut
  go_wp2
  go_ret2
  exact ⟨⟨false,I_false,by rw [← HKK_false.out];rfl,by rw [← HKK_false.out];exact hk_false,HII_false.out,fun _ hp=>HE.out,fun e=>by cases e⟩,HW.out _ HB4.out⟩
 ·have hI:I_true=(k:Int):=HII_true.out.trans e
  subst hI
  have HE:=Hid.m e
  clear e
  go_wp2
  go_ret2
  exact ⟨⟨true,k,by rw [← HKK_true.out];rfl,by rw [← HKK_true.out];exact hk_true,HE.out.symm,(fun e=>by cases e),fun _=>by omega⟩,HW.out _ HB4o.out⟩
theorem find_any (w:World)(base p:Nat)(blk num:Bool→Nat)(val:Bool→Nat→Value)(ents:Bool→Nat→List NU)(next many moved:Nat)(h:Tm w base p blk num val ents next many moved)(hn:∀ b,num b≤1000000)(y:Nm)(hy:y.ok)(hl:∀ b i,i<num b→(ents b i).length≤1000000):
  Calls Tryz.prog 153 #[.pointer (some ⟨p,0,none⟩),.agg #[.int .i64 y.tenant,.string y.key]] w fun e w'=>Found blk num ents y e∧Below w.heap.size w w':=by
 by_cases h0:num true=0
 ·exact find_rows w base p blk num val ents next many moved h hn y hy hl h0
 ·exact find_old w base p blk num val ents next many moved h hn y hy hl (by omega)
end Go.Proofs.YtcdpiefflnaghaaGreatDoor.Tb
