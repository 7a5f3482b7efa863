/-
  Bytes that are read, cut; the library's Index at a line's end; cutLine of package words.
-/
import Derived.Test.YtihcnjbnlcgcoaaDoorWoF
import Derived.Test.YtihcnjbnlcgcoaaDoorWoG
import Derived.Lib.SlBytesConst
namespace Go.Proofs.YtihcnjbnlcgcoaaDoor
open Go.Proofs.YtihcnjbnlcgcoaaDoor.It
open Go.RowKit
set_option linter.unusedSimpArgs false
set_option linter.unusedVariables false
set_option maxRecDepth 100000

/-- the library's variable that reading asks -/
structure Gw (V : World) : Prop where
  ml : ∃ m, V.cell? ⟨0, 0, none⟩ = some (.int .i64 m)
theorem Gw.below {V V' : World} (h : Gw V) (hb : Below V.heap.size V V') : Gw V' := by
  obtain ⟨m, hm⟩ := h.ml
  exact ⟨m, (hb.cell (p := ⟨0, 0, none⟩) (World.block_lt_of_cell? _ _ hm)).trans hm⟩
def numsB (l : List UInt8) : List Int := l.map fun c => (c.toNat : Int)
theorem bytes_nums (l : List UInt8) : Lib.bytesOf (numsB l) = l := by
  unfold Lib.bytesOf numsB
  rw [List.map_map]
  have : ((fun n : Int => UInt8.ofNat n.toNat) ∘ fun c : UInt8 => (c.toNat : Int)) = id := by
    funext c
    simp
  rw [this, List.map_id]
theorem nums_len (l : List UInt8) : (numsB l).length = l.length := by simp [numsB]
theorem nums_in (l : List UInt8) : ∀ x ∈ numsB l, 0 ≤ x ∧ x < 256 := by
  intro x hx
  obtain ⟨c, _, rfl⟩ := List.mem_map.1 hx
  have := c.toNat_lt
  omega
theorem nums_get (l : List UInt8) (i : Nat) (h : i < l.length) : (numsB l).getD i 0 = (l[i].toNat : Int) := by
  simp [numsB, h]
theorem rd_nums {V : World} {b off cap : Nat} {l : List UInt8} (h : GRd EY V (some ⟨b, off, none⟩) l cap) : ∀ i, i < l.length → V.cell? ((⟨b, off, none⟩ : Addr).add i) = some (.int .u8 ((numsB l).getD i 0)) := by
  intro i hi
  have hne : l ≠ [] := by intro e; rw [e] at hi; simp at hi
  obtain ⟨b', off', e, _, hc⟩ := h.uy hne
  cases e
  rw [g_add, hc i hi, nums_get l i hi]

theorem idx_eol : ∀ l : List UInt8, Lib.index l [13, 10] = match eol l with | none => -1 | some e => (e : Int)
  | [] => rfl
  | [a] => by
    have hp : ([13, 10] : List UInt8).isPrefixOf [a] = false := by simp [List.isPrefixOf]
    simp [Lib.index, hp, eol]
  | a :: b :: l => by
    have ih := idx_eol (b :: l)
    by_cases hc : a = 13 ∧ b = 10
    · obtain ⟨rfl, rfl⟩ := hc
      simp [Lib.index, eol]
    · have hp : ([13, 10] : List UInt8).isPrefixOf (a :: b :: l) = false := by
        simp [List.isPrefixOf]
        intro h1 h2
        exact hc ⟨h1.symm, h2.symm⟩
      have hU : eol (a :: b :: l) = (eol (b :: l)).map (· + 1) := by rw [eol, if_neg hc]
      rw [hU, Lib.index, hp, ih]
      cases he : eol (b :: l) with
      | none => simp
      | some e =>
        have : ((e : Int) == -1) = false := by simp
        simp [this]
theorem y_drewN {B : Nat} {a w : World} (h : Below B a w) (n : Nat) : Below B a (w.drewN n) := h.trans ⟨rfl, rfl, rfl, Nat.le_refl _, fun _ _ => rfl⟩
theorem index_any (V : World) (b off cap : Nat) (l : List UInt8) (hr : GRd EY V (some ⟨b, off, none⟩) l cap) (hl : l.length ≤ 600) (g c2 : Nat) (hs : V.cell? ⟨g, 0, none⟩ = some (.int .u8 13)) (hs2 : V.cell? ⟨g, 1, none⟩ = some (.int .u8 10)) (hg : Gw V) (m : Nat) (hm : m = l.length) :
    Calls Tryd.prog 38 #[.slice (some ⟨b, off, none⟩) m cap, .slice (some ⟨g, 0, none⟩) 2 c2] V fun e V' => e = .returned (.int .i64 (match eol l with | none => -1 | some e => (e : Int))) ∧ Below V.heap.size V V' := by
  subst hm
  obtain ⟨mx, hmx⟩ := hg.ml
  refine (Any.bytes_Index_at Tryd.layIndex ⟨b, off, none⟩ ⟨g, 0, none⟩ l.length cap 2 c2 (numsB l) [13, 10] mx V (nums_len l) rfl (nums_in l) (by intro y hy; simp at hy; rcases hy with rfl | rfl <;> decide) (rd_nums hr) (by
    intro i hi
    have : i = 0 ∨ i = 1 := by omega
    rcases this with rfl | rfl
    · rw [g_add]; exact hs
    · rw [g_add]; exact hs2) hr.hl (by omega) (by decide) hmx).mono ?_
  rintro e V' ⟨rfl, q, rfl⟩
  have e32 : Lib.bytesOf [13, 10] = [13, 10] := rfl
  rw [bytes_nums, e32, idx_eol]
  exact ⟨rfl, y_drewN (Below.refl _ _) q⟩
def eolI (l : List UInt8) : Int := match eol l with | none => -1 | some e => (e : Int)
theorem eol_short : ∀ l : List UInt8, l.length < 2 → eol l = none
  | [], _ => rfl
  | [_], _ => rfl
  | _ :: _ :: _, h => by simp at h; omega
def restA (ao : Option Addr) (k cap : Nat) : Option Addr := if cap = k then ao else ao.map (·.add k)
theorem rest_rd {V : World} {ao : Option Addr} {L : List UInt8} {cap : Nat} (h : GRd EY V ao L cap) (k : Nat) (hk : k ≤ L.length) : GRd EY V (restA ao k cap) (L.drop k) (cap - k) := by
  have hl := h.hl
  refine ⟨by rw [List.length_drop]; omega, Nat.le_trans (Nat.sub_le _ _) h.hc, fun e => ?_, ?_⟩
  · unfold restA at e
    split at e
    · omega
    · cases ao with
      | none => have := h.hn rfl; omega
      | some a => cases e
  · by_cases hne : L.drop k = []
    · exact .inl hne
    · have hlt : k < L.length := by
        rcases Nat.lt_or_ge k L.length with h1 | h1
        · exact h1
        · exact absurd (List.drop_of_length_le h1) hne
      obtain ⟨b, off, rfl, hb, hc⟩ := h.lies (by intro e; rw [e] at hlt; simp at hlt)
      refine .inr ⟨b, off + k, ?_, hb, fun i hi j hj => ?_⟩
      · unfold restA
        rw [if_neg (by omega)]
        simp [g_add]
      · rw [List.length_drop] at hi
        have h2 := hc (k + i) (by omega) j hj
        have e : off + k + i * EY.sz + j = off + (k + i) * EY.sz + j := by show off + k + i * 1 + j = off + (k + i) * 1 + j; omega
        rw [e, h2, List.getElem_drop]
theorem sliced_l (ao : Option Addr) (k m cap : Nat) : sliced ao k m cap 1 = .slice (restA ao k cap) (m - k) (cap - k) := by
  unfold sliced restA
  rw [Nat.mul_one]
theorem wpl_slice_l {ops : Array Oper} {rest : List Oper} {o : Oper} {a : Act} {w : World} {Q : Exit → Act → World → Prop} (hgd : o.guard = none) (s x : Operand) (ho : o.op = .slice 31 s (some x) none none) (ao : Option Addr) (k m cap : Nat) (hs : a.eval s = .slice ao m cap) (hx : a.eval x = .int .i64 (k : Int)) (hk : k ≤ m)
    (h : wpList Tryd.prog ops Q rest (a.put o.dst (.slice (restA ao k cap) (m - k) (cap - k))) w) : wpList Tryd.prog ops Q (o :: rest) a w := by
  refine wpList_plain hgd fun K hK => ?_
  have he : Tryd.prog.elem 31 = 5 := by kernel_rfl
  have hu : Tryd.prog.underlying 31 = some (.slice (Tryd.prog.elem 31)) := by rw [he]; exact Tryd.underlying31
  have h1 : (Instr.sliceAt 31 (.slice ao m cap) (some (.int .i64 (k : Int))) none none).run Tryd.prog w = .ok (.slice (restA ao k cap) (m - k) (cap - k)) w := by
    rw [run_sliceAt_slice w 31 _ _ _ _ hu, run_slice_l w 31 ao m cap hu .i64 (k : Int) (by omega) (by omega), he, Tryd.sizeOf5]
    show Result.ok (sliced ao (k : Int).toNat m cap 1) w = _
    rw [Int.toNat_natCast, sliced_l]
  unfold Oper.wp execOp
  simp only [ho, hs, hx, Option.map_some, Option.map_none, Sem.run_bind, Sem.run_pure, Result.andThen_ok, h1]
  exact hK _ _ h
def headA (ao : Option Addr) (cap : Nat) : Option Addr := if cap = 0 then ao else ao.map (·.add 0)
theorem head_rd {V : World} {ao : Option Addr} {L : List UInt8} {cap : Nat} (h : GRd EY V ao L cap) (k : Nat) (hk : k ≤ L.length) : GRd EY V (headA ao cap) (L.take k) cap := by
  have hl := h.hl
  refine ⟨by rw [List.length_take]; omega, h.hc, fun e => ?_, ?_⟩
  · unfold headA at e
    split at e
    · assumption
    · cases ao with
      | none => exact h.hn rfl
      | some a => cases e
  · by_cases hne : L.take k = []
    · exact .inl hne
    · have hL : L ≠ [] := by intro e; subst e; simp at hne
      obtain ⟨b, off, rfl, hb, hc⟩ := h.lies hL
      have hL2 : 0 < L.length := (by cases L with | nil => exact absurd rfl hL | cons a t => simp)
      refine .inr ⟨b, off, ?_, hb, fun i hi j hj => ?_⟩
      · unfold headA
        rw [if_neg (by omega)]
        simp [g_add]
      · rw [List.length_take] at hi
        rw [hc i (by omega) j hj, List.getElem_take]
theorem sliced_h (ao : Option Addr) (k cap : Nat) : sliced ao 0 k cap 1 = .slice (headA ao cap) k cap := by
  unfold sliced headA
  rfl
theorem wpl_slice_h {ops : Array Oper} {rest : List Oper} {o : Oper} {a : Act} {w : World} {Q : Exit → Act → World → Prop} (hgd : o.guard = none) (s x : Operand) (ho : o.op = .slice 31 s none (some x) none) (ao : Option Addr) (k m cap : Nat) (hs : a.eval s = .slice ao m cap) (hx : a.eval x = .int .i64 (k : Int)) (hk : k ≤ cap)
    (h : wpList Tryd.prog ops Q rest (a.put o.dst (.slice (headA ao cap) k cap)) w) : wpList Tryd.prog ops Q (o :: rest) a w := by
  refine wpList_plain hgd fun K hK => ?_
  have he : Tryd.prog.elem 31 = 5 := by kernel_rfl
  have hu : Tryd.prog.underlying 31 = some (.slice (Tryd.prog.elem 31)) := by rw [he]; exact Tryd.underlying31
  have h1 : (Instr.sliceAt 31 (.slice ao m cap) none (some (.int .i64 (k : Int))) none).run Tryd.prog w = .ok (.slice (headA ao cap) k cap) w := by
    rw [run_sliceAt_slice w 31 _ _ _ _ hu, run_slice_h w 31 ao m cap hu .i64 (k : Int) (by omega) (by omega), he, Tryd.sizeOf5]
    show Result.ok (sliced ao 0 (k : Int).toNat cap 1) w = _
    rw [Int.toNat_natCast, sliced_h]
  unfold Oper.wp execOp
  simp only [ho, hs, hx, Option.map_some, Option.map_none, Sem.run_bind, Sem.run_pure, Result.andThen_ok, h1]
  exact hK _ _ h

theorem take_rd {V : World} {ao : Option Addr} {L : List UInt8} {cap : Nat} (h : GRd EY V ao L cap) (k : Nat) : GRd EY V ao (L.take k) cap := by
  have hl := h.hl
  refine ⟨by rw [List.length_take]; omega, h.hc, h.hn, ?_⟩
  by_cases hne : L.take k = []
  · exact .inl hne
  · have hL : L ≠ [] := by intro e; subst e; simp at hne
    obtain ⟨b, off, rfl, hb, hc⟩ := h.lies hL
    refine .inr ⟨b, off, rfl, hb, fun i hi j hj => ?_⟩
    rw [List.length_take] at hi
    rw [hc i (by omega) j hj, List.getElem_take]

set_option maxHeartbeats 1000000 in
theorem cutLine_any (V : World) (ao : Option Addr) (L : List UInt8) (cap : Nat) (hr : GRd EY V ao L cap) (hL : L.length ≤ 20000) (hg : Gw V) (m : Nat) (hm : m = L.length) :
    Calls Tryd.prog 18 #[.slice ao m cap] V fun e V' => e = .returned (.tuple #[.string (mkB (cutL L).1), .int .i64 ((cutL L).2.1 : Int), .int .i64 (cutL L).2.2]) ∧ Below V.heap.size V V' := by
  obtain ⟨k, hk⟩ : ∃ k, k = (L.take 514).length := ⟨_, rfl⟩
  have hkm : k = min m 514 := by rw [hk, List.length_take, hm]; omega
  have hmi : (m : Int) ≤ 20000 := by omega
  have hmc : m ≤ cap := by rw [hm]; exact hr.hl
  have hkc : k ≤ cap := by omega
  have hcp := hr.hc
  obtain ⟨w1, hw1⟩ : ∃ w1, w1 = V.alloc (.cells #[.int .u8 13, .int .u8 10] 5 (2, 3)) := ⟨_, rfl⟩
  have hcc : (convert 31 31 (.slice (some ⟨V.heap.size, 0, none⟩) 2 2)).run Tryd.prog (V.alloc (.cells #[.int .u8 13, .int .u8 10] 5)) = .ok (.slice (some ⟨V.heap.size, 0, none⟩) 2 2) w1 := by
    have h := Lib.run_convert_bytes_const (P := Tryd.prog) V 31 5 #[.int .u8 13, .int .u8 10] 2 2 Tryd.underlying31 Tryd.underlying5
    rw [hw1]
    simpa using h
  have hB1 : Below V.heap.size V w1 := by rw [hw1]; exact g_alloc _ _
  have hc1 : w1.cell? ⟨V.heap.size, 0, none⟩ = some (.int .u8 13) := by
    rw [hw1]
    have h := World.cell?_alloc_mark V #[.int .u8 13, .int .u8 10] 5 (2, 3) 0
    simpa using h
  have hc2 : w1.cell? ⟨V.heap.size, 1, none⟩ = some (.int .u8 10) := by
    rw [hw1]
    have h := World.cell?_alloc_mark V #[.int .u8 13, .int .u8 10] 5 (2, 3) 1
    simpa using h
  have hh := take_rd hr 514
  have HIX : Hid (Calls Tryd.prog 38 #[.slice ao (min (m : Int) 514).toNat cap, .slice (some ⟨V.heap.size, 0, none⟩) 2 2] w1 fun e w' => e = .returned (.int .i64 (eolI (L.take 514))) ∧ Below w1.heap.size w1 w') := by
    show Calls _ _ _ _ _
    rw [show (min (m : Int) 514).toNat = k by omega]
    by_cases h2 : k < 2
    · have e0 : eolI (L.take 514) = -1 := by unfold eolI; rw [eol_short _ (by omega)]
      rw [e0]
      refine (Any.bytes_Index_longer Tryd.layIndex ao (some ⟨V.heap.size, 0, none⟩) k cap 2 2 w1 (by decide) (by omega) (by decide)).mono ?_
      rintro e w' ⟨rfl, rfl⟩
      exact ⟨rfl, Below.refl _ _⟩
    · obtain ⟨b, off, rfl, _, _⟩ := hh.uy (by intro e; rw [e] at hk; simp at hk; omega)
      exact index_any w1 b off cap (L.take 514) (hh.below hB1) (by rw [List.length_take]; omega) V.heap.size 2 hc1 hc2 (hg.below hB1) _ hk
  have HB1 := Hid.mk2 hB1
  have HR := Hid.mk2 hr
  have HM := Hid.mk2 hm
  obtain ⟨E, hE⟩ : ∃ E, E = eolI (L.take 514) := ⟨_, rfl⟩
  rw [← hE] at HIX
  have HE := Hid.mk2 hE
  clear hr hL hg hm hk hkm hkc hw1 hB1 hc1 hc2 hh hE
  go_enter Tryd.func18, Tryd.ntmps18
  go_upto_region 1 with (fail)
  go_cut [5] from 5 (fun s5 wx => s5 = .int .i64 E ∧ Hid (Below V.heap.size V wx))
  case first =>
    go_wp2_with (first
      | (go_at_call 38; refine HIX.out.mono ?_; rintro e w2 ⟨rfl, hB⟩; have HB2 := Hid.mk2 (g_on HB1.out hB); clear hB))
    go_meet
    case rel => exact ⟨rfl, HB2.out⟩
  case rest =>
  clear HIX hcc HB1
  obtain ⟨rfl, HB2⟩ := hcut
  have hE := HE.out
  have hmci : (m : Int) ≤ (cap : Int) := by omega
  cases hq : eol (L.take 514) with
  | none =>
    have e1 : E = -1 := by rw [hE]; unfold eolI; rw [hq]
    subst e1
    by_cases hlt : m < 514
    · have hlti : (m : Int) < 514 := by omega
      have HY : Hid (cutL L = ([], 0, 0)) := by
        show _ = _
        unfold cutL
        rw [hq]
        dsimp only
        rw [if_pos (by rw [← HM.out]; exact hlt)]
      clear hq hE HE
      go_wp2
      refine bodyPost_ret (results_tmp3 rfl _ _ _) rfl ?_
      exact ⟨by rw [HY.out]; rfl, HB2.out⟩
    · have hlti : ¬ (m : Int) < 514 := by omega
      have HY : Hid (cutL L = ([], 0, 8)) := by
        show _ = _
        unfold cutL
        rw [hq]
        dsimp only
        rw [if_neg (by rw [← HM.out]; exact hlt)]
      clear hq hE HE
      go_wp2
      refine bodyPost_ret (results_tmp3 rfl _ _ _) rfl ?_
      exact ⟨by rw [HY.out]; rfl, HB2.out⟩
  | some e =>
    have e1 : E = (e : Int) := by rw [hE]; unfold eolI; rw [hq]
    subst e1
    obtain ⟨he1, he2⟩ := eol_some _ _ hq
    rw [List.length_take] at he1
    have hml := HM.out
    have he5 : e ≤ 512 := by omega
    have hem : e ≤ m := by omega
    have HY : Hid (cutL L = (L.take e, e + 2, 0)) := by
      show _ = _
      unfold cutL
      rw [hq]
    have he0 : ¬ (e : Int) < 0 := by omega
    have hei3 : (e : Int) ≤ 512 := by omega
    have hei : (e : Int) ≤ (cap : Int) := by omega
    have HCV : Hid (∀ W, Below V.heap.size V W → (convert 31 9 (.slice ao e cap)).run Tryd.prog W = .ok (.string (mkB (L.take e))) W) := by
      intro W hW
      have h := conv_rd ((take_rd HR.out e).below hW)
      rw [List.length_take, show min e L.length = e by omega] at h
      exact h
    have hcv := HCV.out wc HB2.out
    obtain ⟨X, hX⟩ : ∃ X, X = mkB (L.take e) := ⟨_, rfl⟩
    rw [← hX] at hcv
    have HX := Hid.mk2 hX
    clear hq hE HE he1 he2 hml hX HCV
    go_wp2
    refine bodyPost_ret (results_tmp3 rfl _ _ _) rfl ?_
    exact ⟨by rw [HY.out, ← HX.out]; rfl, HB2.out⟩
end Go.Proofs.YtihcnjbnlcgcoaaDoor
