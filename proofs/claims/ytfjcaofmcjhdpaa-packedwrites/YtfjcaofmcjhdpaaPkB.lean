/-
  put of package packed: parts put behind bytes; what code.Small and code.Text answer, as rows that are read.
-/
import Derived.Test.YtfjcaofmcjhdpaaPkA
import Derived.Test.YtfjcaofmcjhdpaaBnR
import Derived.Test.YtfjcaofmcjhdpaaCut
import Derived.Deep.RegionHeld3
namespace Go.Proofs.Ytfjcaofmcjhdpaa
open Go.Proofs.Ytfjcaofmcjhdpaa.It
open Go.RowKit
set_option linter.unusedSimpArgs false
set_option linter.unusedVariables false
set_option maxRecDepth 100000

theorem flat_yb : ∀ l : List UInt8, l.flatMap EY.cells = l.map bcell
  | [] => rfl
  | a :: t => by rw [List.flatMap_cons, flat_yb t]; rfl
theorem own_ofb {w : World} {base : Nat} {v : Value} {l : List UInt8} (h : Own w base v l) : GOwn EY w base v l := by
  unfold GOwn
  rw [flat_yb]
  exact h
theorem ggrew_trans {a b c : World} {u v x : Value} (h : GGrew a b u v) (k : GGrew b c v x) : GGrew a c u x := by
  refine ⟨⟨k.grown.os.trans h.grown.os, k.grown.tape.trans h.grown.tape, k.grown.output.trans h.grown.output, Nat.le_trans h.grown.size k.grown.size, fun i hi hne => ?_⟩, fun i hi => ?_⟩
  · have h1 := h.grown.block i hi hne
    have h2 := k.grown.block i (Nat.lt_of_lt_of_le hi h.grown.size) (fun e => by
      rcases h.lies i e.symm with g | g
      · exact hne g.symm
      · omega)
    exact h2.trans h1
  · rcases k.lies i hi with g | g
    · exact h.lies i g
    · exact .inr (Nat.le_trans h.grown.size g)
theorem grd_grown {α : Type} {E : GEl α} {w w' : World} {ao : Option Addr} {l : List α} {cap : Nat} {row : Option Nat} (h : GRd E w ao l cap) (hg : w.grownBy w' row) (hne : ∀ g off, ao = some ⟨g, off, none⟩ → l ≠ [] → row ≠ some g) : GRd E w' ao l cap := by
  refine ⟨h.hl, h.hc, h.hn, ?_⟩
  rcases h.at_ with e | ⟨b, off, e, hb, hc⟩
  · exact .inl e
  · by_cases hl : l = []
    · exact .inl hl
    refine .inr ⟨b, off, e, Nat.lt_of_lt_of_le hb hg.size, fun i hi j hj => ?_⟩
    have hbk : w'.heap[b]? = w.heap[b]? := hg.block b hb (fun e2 => hne b off e hl e2.symm)
    exact (World.cell?_of_block (a := ⟨b, off + i * E.sz + j, none⟩) hbk).trans (hc i hi j hj)
theorem gown_rd2 {w : World} {base : Nat} {v : Value} {l : List UInt8} (h : GOwn EY w base v l) : ∃ ao cap, v = .slice ao l.length cap ∧ GRd EY w ao l cap ∧ ∀ g off, ao = some ⟨g, off, none⟩ → base ≤ g := by
  obtain ⟨ao, cap, e, hr⟩ := h.rd okY
  refine ⟨ao, cap, e, hr, fun g off ha => ?_⟩
  subst ha
  have := h.lt g (by rw [e]; rfl)
  exact this.1
/-- bytes that lie somewhere, with their length -/
structure Pt where
  o : Option Addr
  l : List UInt8
  c : Nat
def Pt.v (p : Pt) : Value := .slice p.o p.l.length p.c
theorem pk_small (n : Nat) (w : World) (hn : Fits n) : Calls Try.prog 42 #[.int .u64 n] w fun e w' => ∃ o l c, e = .returned (.slice o l.length c) ∧ l = small n ∧ GRd EY w' o l c ∧ (∀ g off, o = some ⟨g, off, none⟩ → w.heap.size ≤ g) ∧ Below w.heap.size w w' := by
  refine (small_any n w hn).mono ?_
  rintro e w' ⟨v, rfl, ho, hb⟩
  obtain ⟨ao, cap, rfl, hr, hl⟩ := gown_rd2 (own_ofb ho)
  exact ⟨ao, small n, cap, rfl, rfl, hr, hl, hb⟩
theorem pk_text (s : ByteArray) (w : World) (hs : s.size ≤ 100000000) : Calls Try.prog 43 #[.string s] w fun e w' => ∃ o l c, e = .returned (.slice o l.length c) ∧ l = text (bl1 s) ∧ GRd EY w' o l c ∧ (∀ g off, o = some ⟨g, off, none⟩ → w.heap.size ≤ g) ∧ Below w.heap.size w w' := by
  refine (text_any s w hs).mono ?_
  rintro e w' ⟨v, rfl, ho, hb⟩
  obtain ⟨ao, cap, rfl, hr, hl⟩ := gown_rd2 (own_ofb ho)
  exact ⟨ao, text (bl1 s), cap, rfl, rfl, hr, hl, hb⟩

/-- parts that put may put behind v: they lie where v does not -/
def PtOk (w : World) (v : Value) (ps : List Pt) : Prop := ∀ p ∈ ps, GRd EY w p.o p.l p.c ∧ ∀ g off, p.o = some ⟨g, off, none⟩ → v.ownBlock ≠ some g
set_option maxHeartbeats 2000000 in
theorem put_any (w : World) (base : Nat) (v : Value) (l : List UInt8) (hO : GOwn EY w base v l) (hb : base ≤ w.heap.size) (pb : Nat) (ps : List Pt) (hp : GBx w pb (ps.map Pt.v)) (hpn : v.ownBlock ≠ some pb) (hps : PtOk w v ps) (hlen : l.length + (ps.flatMap Pt.l).length ≤ 500000) (np : Nat) (hnp : np = ps.length) (hn1 : 1 ≤ np) (hn5 : np ≤ 5) :
    Calls Try.prog 41 #[v, .slice (some ⟨pb, 0, none⟩) np np] w fun e w' => ∃ v', e = .returned v' ∧ GOwn EY w' base v' (l ++ ps.flatMap Pt.l) ∧ GGrew w w' v v' := by
  have HP := Hid.mk2 hp
  have HPN := Hid.mk2 hpn
  have HPS := Hid.mk2 hps
  have HO := Hid.mk2 hO
  have HB := Hid.mk2 hb
  have HLN := Hid.mk2 hlen
  have HNP := Hid.mk2 hnp
  have hni : (np : Int) ≤ 5 := by omega
  clear hp hpn hps hO hb hlen hnp
  go_enter Try.func41, Try.ntmps41
  go_wp2
  go_loopw [0, 9] (fun u i wr => ∃ k : Nat, k ≤ np ∧ i = .int .i64 k ∧ GOwn EY wr base u (l ++ (ps.take k).flatMap Pt.l) ∧ GGrew w wr v u) (fun _ i _ => np - (intOf i).toNat)
  case atStart => exact ⟨0, Nat.zero_le _, rfl, by simpa using HO.out, GGrew.refl _ _⟩
  case round =>
    obtain ⟨k, hk, rfl, ho, hg⟩ := hrel
    by_cases hkn : k < np
    · have hkl : k < ps.length := by rw [← HNP.out]; exact hkn
      have hki : (k : Int) < (np : Int) := by omega
      obtain ⟨h1, h2⟩ := HPS.out ps[k] (List.getElem_mem hkl)
      have HR := Hid.mk2 (grd_grown h1 hg.grown (fun g off e _ => h2 g off e))
      have HX := Hid.mk2 (HP.out.grown hg.grown HPN.out)
      have c0 := HX.out.c k (by simpa using hkl)
      rw [List.getElem_map] at c0
      have HF : Hid ((ps.take (k + 1)).flatMap Pt.l = (ps.take k).flatMap Pt.l ++ ps[k].l) := by
        show _ = _
        rw [← List.take_append_getElem hkl, List.flatMap_append, List.flatMap_cons, List.flatMap_nil, List.append_nil]
      have HLE : Hid ((l ++ (ps.take k).flatMap Pt.l).length + ps[k].l.length ≤ 1000000) := by
        show _ ≤ _
        have h3 : ((ps.take (k + 1)).flatMap Pt.l).length ≤ (ps.flatMap Pt.l).length := by
          conv => rhs; rw [← List.take_append_drop (k + 1) ps, List.flatMap_append, List.length_append]
          omega
        rw [HF.out, List.length_append] at h3
        rw [List.length_append]
        have := HLN.out
        omega
      have HBR : Hid (base ≤ wr.heap.size) := Nat.le_trans HB.out hg.grown.size
      have HO1 := Hid.mk2 ho
      have HG1 := Hid.mk2 hg
      obtain ⟨p, hpe⟩ : ∃ p, p = ps[k] := ⟨_, rfl⟩
      rw [← hpe] at c0 HR HF HLE
      obtain ⟨po, pl, pc⟩ := p
      unfold Pt.v at c0
      dsimp only at c0 HR HF HLE
      obtain ⟨m, hm⟩ : ∃ m, m = pl.length := ⟨_, rfl⟩
      rw [← hm] at c0
      have HM := Hid.mk2 hm
      clear h1 h2 ho hg hpe hkl hm
      go_wp2_with (at_builtin; refine g_app okY rfl _ _ _ rfl rfl base _ _ HO1.out rfl po pc pl m HM.out rfl HR.out HLE.out HBR.out ?_; intro v2 w2 hO2 hG2; have HO2 := Hid.mk2 hO2; have HG2 := Hid.mk2 (ggrew_trans HG1.out hG2); clear hO2 hG2)
      exact ⟨⟨k + 1, by omega, by go_num, by rw [HF.out, ← List.append_assoc]; exact HO2.out, HG2.out⟩, by simp [intOf]; omega⟩
    · have hki : ¬ (k : Int) < (np : Int) := by omega
      have HO1 := Hid.mk2 ho
      have HG1 := Hid.mk2 hg
      have HE : Hid ((ps.take k).flatMap Pt.l = ps.flatMap Pt.l) := by
        show _ = _
        rw [List.take_of_length_le (by rw [← HNP.out]; omega)]
      clear ho hg
      go_wp2
      go_ret
      exact ⟨_, rfl, by rw [← HE.out]; exact HO1.out, HG1.out⟩
/-- put behind nothing, of parts whose row was laid last -/
theorem put_new3 (Y : World) (T : TypeId) (o1 : Option Addr) (l1 : List UInt8) (c1 : Nat) (o2 : Option Addr) (l2 : List UInt8) (c2 : Nat) (o3 : Option Addr) (l3 : List UInt8) (c3 : Nat) (n1 n2 n3 : Nat) (e1 : n1 = l1.length) (e2 : n2 = l2.length) (e3 : n3 = l3.length)
    (h1 : GRd EY Y o1 l1 c1) (h2 : GRd EY Y o2 l2 c2) (h3 : GRd EY Y o3 l3 c3) (hlen : l1.length + l2.length + l3.length ≤ 500000) (Z : World) (A : Nat) (hZ : Z = Y.alloc (.cells #[.slice o1 n1 c1, .slice o2 n2 c2, .slice o3 n3 c3] T)) (hA : A = Y.heap.size) :
    Calls Try.prog 41 #[.slice none 0 0, .slice (some ⟨A, 0, none⟩) 3 3] Z fun e w' => ∃ v', e = .returned v' ∧ GOwn EY w' Y.heap.size v' (l1 ++ (l2 ++ l3)) ∧ Below Y.heap.size Y w' := by
  subst e1 e2 e3 hZ hA
  refine (put_any (Y.alloc (.cells #[.slice o1 l1.length c1, .slice o2 l2.length c2, .slice o3 l3.length c3] T)) Y.heap.size (.slice none 0 0) [] (GOwn.nil _ _) (g_alloc Y (.cells #[.slice o1 l1.length c1, .slice o2 l2.length c2, .slice o3 l3.length c3] T)).size Y.heap.size [⟨o1, l1, c1⟩, ⟨o2, l2, c2⟩, ⟨o3, l3, c3⟩] (GBx.made Y [.slice o1 l1.length c1, .slice o2 l2.length c2, .slice o3 l3.length c3] T) (by simp [Value.ownBlock]) ?_ (by simp; omega) 3 rfl (by decide) (by decide)).mono ?_
  · intro p hp
    simp only [List.mem_cons, List.not_mem_nil, or_false] at hp
    rcases hp with rfl | rfl | rfl
    · exact ⟨h1.alloc _, fun g off _ => by simp [Value.ownBlock]⟩
    · exact ⟨h2.alloc _, fun g off _ => by simp [Value.ownBlock]⟩
    · exact ⟨h3.alloc _, fun g off _ => by simp [Value.ownBlock]⟩
  · rintro e w' ⟨v, rfl, hO, hG⟩
    refine ⟨v, rfl, by simpa using hO, g_on (g_alloc Y _) (hG.below (GOwn.nil (E := EY) _ _) (Nat.le_refl _))⟩
/-- put behind a row of its own, of five parts that were made since -/
theorem put_new5 (Y : World) (T : TypeId) (base : Nat) (v : Value) (l : List UInt8) (hO : GOwn EY Y base v l) (hb : base ≤ Y.heap.size) (m : Nat) (hm : ∀ k, v.ownBlock = some k → k < m) (hmY : m ≤ Y.heap.size)
    (o1 : Option Addr) (l1 : List UInt8) (c1 : Nat) (o2 : Option Addr) (l2 : List UInt8) (c2 : Nat) (o3 : Option Addr) (l3 : List UInt8) (c3 : Nat) (o4 : Option Addr) (l4 : List UInt8) (c4 : Nat) (o5 : Option Addr) (l5 : List UInt8) (c5 : Nat) (n1 n2 n3 n4 n5 : Nat) (e1 : n1 = l1.length) (e2 : n2 = l2.length) (e3 : n3 = l3.length) (e4 : n4 = l4.length) (e5 : n5 = l5.length)
    (h1 : GRd EY Y o1 l1 c1) (h2 : GRd EY Y o2 l2 c2) (h3 : GRd EY Y o3 l3 c3) (h4 : GRd EY Y o4 l4 c4) (h5 : GRd EY Y o5 l5 c5)
    (x1 : ∀ g off, o1 = some ⟨g, off, none⟩ → m ≤ g) (x2 : ∀ g off, o2 = some ⟨g, off, none⟩ → m ≤ g) (x3 : ∀ g off, o3 = some ⟨g, off, none⟩ → m ≤ g) (x4 : ∀ g off, o4 = some ⟨g, off, none⟩ → m ≤ g) (x5 : ∀ g off, o5 = some ⟨g, off, none⟩ → m ≤ g)
    (hlen : l.length + (l1.length + l2.length + l3.length + l4.length + l5.length) ≤ 500000) (Z : World) (A : Nat) (hZ : Z = Y.alloc (.cells #[.slice o1 n1 c1, .slice o2 n2 c2, .slice o3 n3 c3, .slice o4 n4 c4, .slice o5 n5 c5] T)) (hA : A = Y.heap.size) :
    Calls Try.prog 41 #[v, .slice (some ⟨A, 0, none⟩) 5 5] Z fun e w' => ∃ v', e = .returned v' ∧ GOwn EY w' base v' (l ++ (l1 ++ (l2 ++ (l3 ++ (l4 ++ l5))))) ∧ Below base Y w' ∧ ∀ g, m ≤ g → g < Y.heap.size → w'.heap[g]? = Y.heap[g]? := by
  subst e1 e2 e3 e4 e5 hZ hA
  have hne : ∀ g, m ≤ g → v.ownBlock ≠ some g := fun g hg e => by have := hm g e; omega
  refine (put_any (Y.alloc (.cells #[.slice o1 l1.length c1, .slice o2 l2.length c2, .slice o3 l3.length c3, .slice o4 l4.length c4, .slice o5 l5.length c5] T)) base v l (hO.alloc _) (Nat.le_trans hb (g_alloc Y _).size) Y.heap.size [⟨o1, l1, c1⟩, ⟨o2, l2, c2⟩, ⟨o3, l3, c3⟩, ⟨o4, l4, c4⟩, ⟨o5, l5, c5⟩] (GBx.made Y [.slice o1 l1.length c1, .slice o2 l2.length c2, .slice o3 l3.length c3, .slice o4 l4.length c4, .slice o5 l5.length c5] T) (hne _ hmY) ?_ (by simp; omega) 5 rfl (by decide) (by decide)).mono ?_
  · intro p hp
    simp only [List.mem_cons, List.not_mem_nil, or_false] at hp
    rcases hp with rfl | rfl | rfl | rfl | rfl
    · exact ⟨h1.alloc _, fun g off e => hne g (x1 g off e)⟩
    · exact ⟨h2.alloc _, fun g off e => hne g (x2 g off e)⟩
    · exact ⟨h3.alloc _, fun g off e => hne g (x3 g off e)⟩
    · exact ⟨h4.alloc _, fun g off e => hne g (x4 g off e)⟩
    · exact ⟨h5.alloc _, fun g off e => hne g (x5 g off e)⟩
  · rintro e w' ⟨v', rfl, hO', hG⟩
    refine ⟨v', rfl, by simpa using hO', ((g_alloc Y _).mono hb).trans (hG.below (hO.alloc _) (Nat.le_trans hb (g_alloc Y _).size)), fun g hg hlt => ?_⟩
    exact (hG.grown.block g (Nat.lt_of_lt_of_le hlt (g_alloc Y _).size) (fun e => hne g hg e.symm)).trans ((g_alloc Y _).block g hlt)
end Go.Proofs.Ytfjcaofmcjhdpaa
