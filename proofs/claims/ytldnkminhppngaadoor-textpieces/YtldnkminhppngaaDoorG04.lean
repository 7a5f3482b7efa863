/-
  Several texts in one: TyR, TyS, TyT, TyX, Gq.
-/
import Derived.Test.YtldnkminhppngaaDoorG03
import Derived.Test.YtldnkminhppngaaDoorOrRefX
import Derived.Test.YtldnkminhppngaaDoorGr
import Derived.Deep.QuietTactic
import Derived.BigQuiet
/-
  first: the first request of bytes.
-/
namespace Go.Proofs.YtldnkminhppngaaDoor
open Go.Proofs.YtldnkminhppngaaDoor.It
open Go.RowKit
set_option linter.unusedSimpArgs false
set_option linter.unusedVariables false
set_option maxRecDepth 100000

/-- nothing was turned; the room for the answer is there -/
structure Fs (V w : World) (R : Nat) : Prop where
  below : Below V.heap.size V w
  res : GBx w R (rz.cl (.slice none 0 0))
  lr : V.heap.size ≤ R
theorem Fs.on {V w w' : World} {R : Nat} (h : Fs V w R) (hb : Below w.heap.size w w') : Fs V w' R := ⟨g_on h.below hb, h.res.below hb, h.lr⟩
def eolI (l : List UInt8) : Int := match eol l with | none => -1 | some e => (e : Int)
theorem rqcl_one (r : Rq) (ko : Option Addr) (n kc : Nat) : ∀ v ∈ r.cl (.slice ko n kc), v.oneCell' = true := by
  intro v hv
  simp [Rq.cl] at hv
  rcases hv with rfl | rfl | rfl | rfl | rfl | rfl | rfl | rfl | rfl | rfl | rfl | rfl | rfl <;> rfl
theorem eol_short : ∀ l : List UInt8, l.length < 2 → eol l = none
  | [], _ => rfl
  | [_], _ => rfl
  | _ :: _ :: _, h => by simp at h; omega
theorem GRd.tk2 {V : World} {b o cap : Nat} {l : List UInt8} (h : GRd EY V (some ⟨b, o, none⟩) l cap) (k : Nat) : GRd EY V (some ⟨b, o, none⟩) (l.take k) cap := by
  by_cases hk : k ≤ l.length
  · exact h.tk k hk
  · rw [List.take_of_length_le (by omega)]; exact h
theorem first_nil : firstW [] = (rz, 0) := rfl
/-- an answer is stored where it belongs -/
theorem Fs.done {V w : World} {R : Nat} (h : Fs V w R) {x : Rq} {k : Nat} {ko : Option Addr} {kc : Nat} (hk : GRd ES w ko x.cmd.keys kc) (hR : ∀ g o, ko = some ⟨g, o, none⟩ → x.cmd.keys ≠ [] → R < g) {fn : Func} {s t : Tmp} {a : Act}
    (h1 : fn.results = #[.cell s 28, .tmp t]) (hs : a.tmps.getD s undef = .pointer (some ⟨R, 0, none⟩)) (ht : a.tmps.getD t undef = .int .i64 (k : Int)) (hd : a.defers = []) :
    bodyPost Tryd.prog fn (fun e V' => EndR V.heap.size V V' (x, k) e) .ret a (ysets w R 0 (x.cl (.slice ko x.cmd.keys.length kc))) := by
  have hg := ysets_grown R (x.cl (.slice ko x.cmd.keys.length kc)) w 0
  exact end_post h1 hs ht hd (ybox h.res _ rfl) (hk.grownr hg (fun g o e hne e2 => by have h1 := hR g o e hne; have h2 := Option.some.inj e2; omega)) (fun g o e hne => Nat.le_trans h.lr (Nat.le_of_lt (hR g o e hne))) (h.below.grown hg h.below.size (fun k hk => by cases hk; exact h.lr))
theorem GBx.pre {w : World} {b : Nat} {xs ys : List Value} (h : GBx w b (xs ++ ys)) : GBx w b xs :=
  ⟨h.lt, h.f, fun j hj => by rw [h.c j (by rw [List.length_append]; omega), List.getElem_append_left hj]⟩
theorem TellR.no {V V' : World} {l : List UInt8} {e : Ending} {d : Dr} {ko : Option Addr} {kc : Nat} {wv ev : Value} {ok : Bool} (h : TellR V V' l e d ko kc wv ev ok) (ht : tellW (lw l) = none) : ∃ CS : List Value, e = .returned (.tuple #[.agg CS.toArray, .bool false]) ∧ CS.length = 15 ∧ (∀ v ∈ CS, v.oneCell' = true) ∧ Below V.heap.size V V' := by
  rcases h.is with ⟨_, h2⟩ | ⟨rfl, _⟩
  · rw [ht] at h2; cases h2
  · obtain ⟨wo, n, wc, rfl⟩ := h.wv
    exact ⟨_, h.e, rfl, cl_one _ _ _ _ _ _ _ _ (h.ev V'.heap.size (Nat.le_refl _)).one, h.below⟩
theorem TellR.yes {V V' : World} {l : List UInt8} {e : Ending} {d d0 : Dr} {ko : Option Addr} {kc : Nat} {wv ev : Value} {ok : Bool} (h : TellR V V' l e d ko kc wv ev ok) (ht : tellW (lw l) = some d0) : d = d0 ∧ e = .returned (.tuple #[.agg (d0.cl (.slice ko d0.r.cmd.keys.length kc) wv ev).toArray, .bool true]) ∧ (∀ v ∈ d0.cl (.slice ko d0.r.cmd.keys.length kc) wv ev, v.oneCell' = true) ∧ TellR V V' l e d0 ko kc wv ev ok := by
  rcases h.is with ⟨rfl, h2⟩ | ⟨_, h2⟩
  · rw [ht] at h2
    cases h2
    obtain ⟨wo, n, wc, e9⟩ := h.wv
    refine ⟨rfl, h.e, ?_, h⟩
    rw [e9]
    exact cl_one _ _ _ _ _ _ _ _ (h.ev V'.heap.size (Nat.le_refl _)).one
  · rw [ht] at h2; cases h2
theorem dr_info (CS : List Value) (h : CS.length = 15) : (Tryd.prog.info? 75).map (·.size) = some CS.length := by rw [h]; kernel_rfl
/-- a draft that was told lies in its variable -/
theorem Fs.var {V w : World} {R : Nat} (h : Fs V w R) (hR : R < w.heap.size) (CS : List Value) (hl : CS.length = 15) (w5 : World) (h5 : w5 = ysets (w.alloc (.cells (zd.cl (.slice none 0 0) (.slice none 0 0) .nilFunc).toArray 75)) w.heap.size 0 CS) : Fs V w5 R ∧ GBx w5 w.heap.size CS ∧ Below w.heap.size w w5 := by
  subst h5
  have h1 := ysets_grown w.heap.size CS (w.alloc (.cells (zd.cl (.slice none 0 0) (.slice none 0 0) .nilFunc).toArray 75)) 0
  have hb : Below w.heap.size w (ysets (w.alloc (.cells (zd.cl (.slice none 0 0) (.slice none 0 0) .nilFunc).toArray 75)) w.heap.size 0 CS) := (g_alloc w _).grown h1 (by simp) (fun k hk => by cases hk; exact Nat.le_refl _)
  exact ⟨h.on hb, ybox (GBx.made w _ _) CS (by rw [Dr.cl_len, hl]), hb⟩
theorem Fs.var2 {V w : World} {R : Nat} (h : Fs V w R) (x : Rq) (ko : Option Addr) (n kc : Nat) (w5 : World) (h5 : w5 = ysets (w.alloc (.cells (rz.cl (.slice none 0 0)).toArray 28)) w.heap.size 0 (x.cl (.slice ko n kc))) : Fs V w5 R ∧ GBx w5 w.heap.size (x.cl (.slice ko n kc)) ∧ Below w.heap.size w w5 := by
  subst h5
  have h1 := ysets_grown w.heap.size (x.cl (.slice ko n kc)) (w.alloc (.cells (rz.cl (.slice none 0 0)).toArray 28)) 0
  have hb : Below w.heap.size w (ysets (w.alloc (.cells (rz.cl (.slice none 0 0)).toArray 28)) w.heap.size 0 (x.cl (.slice ko n kc))) := (g_alloc w _).grown h1 (by simp) (fun k hk => by cases hk; exact Nat.le_refl _)
  exact ⟨h.on hb, ybox (GBx.made w _ _) _ rfl, hb⟩
theorem Ev.parts {V : World} {b : Nat} {v : Value} {n : Nat} (h : Ev V b v (some n)) : ∃ p q, v = .func (.func 62) #[] #[.pointer (some ⟨p, 0, none⟩), .pointer (some ⟨q, 0, none⟩)] ∧ n ≤ 512 ∧ V.cell? ⟨p, 0, none⟩ = some (.int .i64 (n + 2 : Nat)) ∧ V.cell? ⟨q, 0, none⟩ = some (.int .i64 (n : Nat)) := by
  cases h with
  | is n p q hn hp hq np nq cp cq => exact ⟨p, q, rfl, hn, cp, cq⟩
theorem endW_le (r : Rq) (n : Nat) (l : List UInt8) : (endW r n l).2 ≤ l.length := by
  unfold endW
  split
  · exact Nat.zero_le _
  · split <;> (dsimp only; omega)
theorem Ev.nil {V : World} {b : Nat} {v : Value} (h : Ev V b v none) : v = .nilFunc := by cases h; rfl
theorem cell_below {V V' : World} {p : Nat} {u : Value} (hb : Below V.heap.size V V') (h : V.cell? ⟨p, 0, none⟩ = some u) : V'.cell? ⟨p, 0, none⟩ = some u := (hb.cell (p := ⟨p, 0, none⟩) (Lib.lt_of_cell h)).trans h

set_option maxHeartbeats 1000000 in
theorem first_any (V : World) (ao : Option Addr) (L : List UInt8) (cap : Nat) (hr : GRd EY V ao L cap) (hL : L.length ≤ 20000) (hg : Gl V) (r : Nat) (M : List Lne) (hK : Kn V r M) (m : Nat) (hm : m = L.length) :
    Calls Tryd.prog 19 #[.slice ao m cap, .map (some r)] V fun e V' => EndR V.heap.size V V' (firstW L) e := by
  obtain ⟨w1, hw1⟩ : ∃ w1, w1 = (V.alloc (.cells #[.int .u8 0, .int .u8 0, .int .i64 0, .slice none 0 0, .string ⟨#[]⟩, .int .u32 0, .int .i64 0, .int .u64 0, .int .u64 0, .int .i64 0, .string ⟨#[]⟩, .bool false, .bool false] 28)).alloc (.cells #[.int .u8 13, .int .u8 10] 5 (2, 3)) := ⟨_, rfl⟩
  have hcc : (convert 34 34 (.slice (some ⟨V.heap.size + 1, 0, none⟩) 2 2)).run Tryd.prog ((V.alloc (.cells #[.int .u8 0, .int .u8 0, .int .i64 0, .slice none 0 0, .string ⟨#[]⟩, .int .u32 0, .int .i64 0, .int .u64 0, .int .u64 0, .int .i64 0, .string ⟨#[]⟩, .bool false, .bool false] 28)).alloc (.cells #[.int .u8 13, .int .u8 10] 5)) = .ok (.slice (some ⟨V.heap.size + 1, 0, none⟩) 2 2) w1 := by
    have h := Lib.run_convert_bytes_const (P := Tryd.prog) (V.alloc (.cells #[.int .u8 0, .int .u8 0, .int .i64 0, .slice none 0 0, .string ⟨#[]⟩, .int .u32 0, .int .i64 0, .int .u64 0, .int .u64 0, .int .i64 0, .string ⟨#[]⟩, .bool false, .bool false] 28)) 34 5 #[.int .u8 13, .int .u8 10] 2 2 Tryd.underlying34 Tryd.underlying5
    rw [hw1]
    simpa using h
  have hB1 : Below V.heap.size V w1 := by rw [hw1]; exact ((Below.refl _ _).alloc (Nat.le_refl _) _).alloc (by simp) _
  have hs1 : w1.heap.size = V.heap.size + 2 := by rw [hw1]; simp
  have hc1 : w1.cell? ⟨V.heap.size + 1, 0, none⟩ = some (.int .u8 13) := by
    rw [hw1]
    have h := World.cell?_alloc_mark (V.alloc (.cells #[.int .u8 0, .int .u8 0, .int .i64 0, .slice none 0 0, .string ⟨#[]⟩, .int .u32 0, .int .i64 0, .int .u64 0, .int .u64 0, .int .i64 0, .string ⟨#[]⟩, .bool false, .bool false] 28)) #[.int .u8 13, .int .u8 10] 5 (2, 3) 0
    simpa using h
  have hc2 : w1.cell? ⟨V.heap.size + 1, 1, none⟩ = some (.int .u8 10) := by
    rw [hw1]
    have h := World.cell?_alloc_mark (V.alloc (.cells #[.int .u8 0, .int .u8 0, .int .i64 0, .slice none 0 0, .string ⟨#[]⟩, .int .u32 0, .int .i64 0, .int .u64 0, .int .u64 0, .int .i64 0, .string ⟨#[]⟩, .bool false, .bool false] 28)) #[.int .u8 13, .int .u8 10] 5 (2, 3) 1
    simpa using h
  have HF1 : Hid (Fs V w1 V.heap.size) := by
    refine ⟨hB1, ?_, Nat.le_refl _⟩
    rw [hw1]
    exact (GBx.made V (rz.cl (.slice none 0 0)) 28).alloc _
  have HIX : Hid (Calls Tryd.prog 44 #[.slice ao (min (m : Int) 514).toNat cap, .slice (some ⟨V.heap.size + 1, 0, none⟩) 2 2] w1 fun e w' => e = .returned (.int .i64 (eolI (L.take 514))) ∧ Below w1.heap.size w1 w') := by
    show Calls _ _ _ _ _
    have hk : (min (m : Int) 514).toNat = (L.take 514).length := by rw [List.length_take, hm]; omega
    by_cases h2 : m < 2
    · have e0 : eolI (L.take 514) = -1 := by unfold eolI; rw [eol_short _ (by rw [← hk]; omega)]
      rw [e0]
      refine (Any.bytes_Index_longer Tryd.layIndex ao (some ⟨V.heap.size + 1, 0, none⟩) (min (m : Int) 514).toNat cap 2 2 w1 (by decide) (by omega) (by decide)).mono ?_
      rintro e w' ⟨rfl, rfl⟩
      exact ⟨rfl, Below.refl _ _⟩
    · obtain ⟨b, off, rfl, _, _⟩ := hr.uy (by intro e; rw [e] at hm; simp at hm; omega)
      exact index_any w1 b off cap (L.take 514) ((hr.tk2 514).below hB1) (by rw [List.length_take]; omega) (V.heap.size + 1) 2 hc1 hc2 (hg.below hB1) _ hk
  have HGL := Hid.mk2 (fun W (h : Below V.heap.size V W) => hg.below h)
  have HKN := Hid.mk2 (fun W (h : Below V.heap.size V W) => hK.below h)
  have hmi : (m : Int) ≤ 20000 := by omega
  have hmc : m ≤ cap := by rw [hm]; exact hr.hl
  have hmci : (m : Int) ≤ (cap : Int) := by omega
  have hcp := hr.hc
  have hcpi : (cap : Int) ≤ 9223372036854775807 := by omega
  have HMM := Hid.mk2 hm
  have HRR := Hid.mk2 hr
  by_cases h0 : L = []
  · have hm0 : m = 0 := by rw [hm, h0]; rfl
    subst hm0
    rw [h0, first_nil]
    have e0 : eolI (L.take 514) = -1 := by rw [h0]; rfl
    rw [e0] at HIX
    have HIX2 : Hid (Calls Tryd.prog 44 #[.slice ao 0 cap, .slice (some ⟨V.heap.size + 1, 0, none⟩) 2 2] w1 fun e w' => e = .returned (.int .i64 (-1)) ∧ Below w1.heap.size w1 w') := HIX.out
    have hn0 := hr.hn
    clear hm hr hw1 hB1 hs1 hc1 hc2 hg hK h0 e0 HIX hL
    cases ao with
    | none =>
      have hcap0 := hn0 rfl
      subst hcap0
      clear hn0
      go_enter Tryd.func19, Tryd.ntmps19
      go_wp2_with (first
        | (go_at_call 44; refine HIX2.out.mono ?_; rintro e w2 ⟨rfl, hB⟩; have HF2 := Hid.mk2 (HF1.out.on hB); clear hB)
        | (refine ywpl_store rfl 28 _ _ rfl V.heap.size (rz.cl (.slice none 0 0)) (rz.cl (.slice none 0 0)) rfl rfl (req_info _ _) HF2.out.res rfl (rqcl_one _ _ _ _) ?_))
      (try simp only [Exit.inBlock, Exit.then])
      exact HF2.out.done (x := rz) (k := 0) (ko := none) (kc := 0) (GRd.nil _) (fun g o e => by (cases e)) rfl rfl rfl rfl
    | some a =>
      clear hn0
      go_enter Tryd.func19, Tryd.ntmps19
      go_wp2_with (first
        | (go_at_call 44; refine HIX2.out.mono ?_; rintro e w2 ⟨rfl, hB⟩; have HF2 := Hid.mk2 (HF1.out.on hB); clear hB)
        | (refine ywpl_store rfl 28 _ _ rfl V.heap.size (rz.cl (.slice none 0 0)) (rz.cl (.slice none 0 0)) rfl rfl (req_info _ _) HF2.out.res rfl (rqcl_one _ _ _ _) ?_))
      (try simp only [Exit.inBlock, Exit.then])
      exact HF2.out.done (x := rz) (k := 0) (ko := none) (kc := 0) (GRd.nil _) (fun g o e => by (cases e)) rfl rfl rfl rfl
  · obtain ⟨b, off, hao, _, _⟩ := hr.uy h0
    subst hao
    obtain ⟨E, hE⟩ : ∃ E, E = eolI (L.take 514) := ⟨_, rfl⟩
    rw [← hE] at HIX
    have HE := Hid.mk2 hE
    obtain ⟨Y, hY⟩ : ∃ Y, Y = firstW L := ⟨_, rfl⟩
    rw [← hY]
    have HY := Hid.mk2 hY
    clear hm hr hw1 hB1 hs1 hc1 hc2 hg hK h0 hL hE hY
    go_enter Tryd.func19, Tryd.ntmps19
    go_upto_region 1 with (fail)
    go_cut [6] from 6 (fun s6 wx => s6 = .int .i64 E ∧ Hid (Fs V wx V.heap.size))
    case first =>
      have hmn : min (m : Int) 514 ≤ (cap : Int) := by omega
      have hmn0 : 0 ≤ min (m : Int) 514 := by omega
      go_wp2_with (go_at_call 44; refine HIX.out.mono ?_; rintro e w2 ⟨rfl, hB⟩; have HF2 := Hid.mk2 (HF1.out.on hB); clear hB)
      go_meet
      case rel => exact ⟨rfl, HF2.out⟩
    case rest =>
    clear HIX hcc HF1
    obtain ⟨rfl, HF2⟩ := hcut
    have hE := HE.out
    cases hq : eol (L.take 514) with
    | none =>
      have e1 : E = -1 := by rw [hE]; unfold eolI; rw [hq]
      subst e1
      by_cases hlt : m < 514
      · have hlti : (m : Int) < 514 := by omega
        have HYY : Hid (Y = (rz, 0)) := by
          show _ = _
          rw [HY.out]
          unfold firstW
          rw [hq]
          dsimp only
          rw [if_pos (by rw [← HMM.out]; exact hlt)]
        clear hq hE HE
        go_wp2_with (refine ywpl_store rfl 28 _ _ rfl V.heap.size (rz.cl (.slice none 0 0)) (rz.cl (.slice none 0 0)) rfl rfl (req_info _ _) HF2.out.res rfl (rqcl_one _ _ _ _) ?_)
        (try simp only [Exit.inBlock, Exit.then])
        rw [HYY.out]
        exact HF2.out.done (x := rz) (k := 0) (ko := none) (kc := 0) (GRd.nil _) (fun g o e => by (cases e)) rfl rfl rfl rfl
      · have hlti : ¬ (m : Int) < 514 := by omega
        have HYY : Hid (Y = (bad true, m)) := by
          show _ = _
          rw [HY.out]
          unfold firstW
          rw [hq]
          dsimp only
          rw [if_neg (by rw [← HMM.out]; exact hlt), ← HMM.out]
        clear hq hE HE
        go_wp2_with (refine ywpl_store rfl 28 _ _ rfl V.heap.size ((bad true).cl (.slice none 0 0)) (rz.cl (.slice none 0 0)) rfl rfl (req_info _ _) HF2.out.res rfl (rqcl_one _ _ _ _) ?_)
        (try simp only [Exit.inBlock, Exit.then])
        rw [HYY.out]
        exact HF2.out.done (x := bad true) (k := m) (ko := none) (kc := 0) (GRd.nil _) (fun g o e => by (cases e)) rfl rfl rfl rfl
    | some e =>
      have e1 : E = (e : Int) := by rw [hE]; unfold eolI; rw [hq]
      subst e1
      obtain ⟨he1, he2⟩ := eol_some _ _ hq
      rw [List.length_take] at he1
      have hml := HMM.out
      have heL : e + 2 ≤ L.length := by omega
      have he5 : e ≤ 512 := by omega
      have hem : e + 2 ≤ m := by omega
      have HYQ : Hid (Y = match tellW (lw (L.take e)) with
          | none => (bad false, e + 2)
          | some d => match d.vl with
            | none => (d.r, e + 2)
            | some n => if (endW d.r n (L.drop (e + 2))).2 = 0 then (rz, 0) else ((endW d.r n (L.drop (e + 2))).1, e + 2 + (endW d.r n (L.drop (e + 2))).2)) := by
        show _ = _
        rw [HY.out]
        unfold firstW
        rw [hq]
        rfl
      have hei : (e : Int) ≤ (cap : Int) := by omega
      have hei2 : (e : Int) + 2 ≤ (m : Int) := by omega
      have he0 : ¬ (e : Int) < 0 := by omega
      have hei3 : (e : Int) ≤ 512 := by omega
      clear hq hE HE he1 he2 hml
      go_upto_region 6 with (fail)
      go_cut [7, 8] from 7 (fun s7 s8 wx => s7 = .slice (some ⟨b, off, none⟩) e cap ∧ ∃ bo bc, s8 = .slice (some ⟨b, bo, none⟩) (m - (e + 2)) bc ∧ Hid (GRd EY V (some ⟨b, bo, none⟩) (L.drop (e + 2)) bc) ∧ Hid (Fs V wx V.heap.size))
      case first =>
        by_cases hce : cap = e + 2
        · subst hce
          go_region
          all_goals go_wp2
          go_meet
          case rel =>
            have hnil : L.drop (e + 2) = [] := List.eq_nil_of_length_eq_zero (by have := HMM.out; rw [List.length_drop]; omega)
            exact ⟨rfl, off, 0, (by first | rfl | rw [show m - (e + 2) = 0 by omega]), ⟨by rw [hnil]; simp, by decide, (fun e => by cases e), .inl hnil⟩, HF2.out.on ((Below.refl _ _).drew)⟩
        · have hce2 : ¬ cap - (e + 2) = 0 := by omega
          go_region
          all_goals go_wp2
          go_meet
          case rel =>
            refine ⟨rfl, off + (e + 2), cap - (e + 2), rfl, ?_, HF2.out.on ((Below.refl _ _).drew)⟩
            have h9 := HRR.out.sub (e + 2) (L.length - (e + 2)) (by omega)
            rw [List.take_of_length_le (by rw [List.length_drop]; omega)] at h9
            exact h9
      case rest =>
      clear HF2
      obtain ⟨rfl, bo, bc, rfl, HBH, HF3⟩ := hcut
      have HTELL := Hid.mk2 (tell_any wc b off cap (L.take e) ((HRR.out.tk2 e).below HF3.out.below) (by rw [List.length_take]; omega) (HGL.out wc HF3.out.below) r M (HKN.out wc HF3.out.below) e (by rw [List.length_take]; have := HMM.out; omega))
      have hRl := HF3.out.res.lt
      have HRW := Hid.mk2 hRl
      clear hRl
      cases hq : tellW (lw (L.take e)) with
      | none =>
        rw [hq] at HYQ
        have HYY : Hid (Y = (bad false, e + 2)) := HYQ.out
        have HTQ := Hid.mk2 hq
        clear hq HYQ
        go_wp2_with (first
          | (go_at_call 45; refine HTELL.out.mono ?_; rintro e9 w4 ⟨d, ko, kc, wv, ev, ok, hT⟩; obtain ⟨CS, he9, hCL, hone, hB4⟩ := hT.no HTQ.out; subst he9; have HCL := Hid.mk2 hCL; have HONE := Hid.mk2 hone; have HF4 := Hid.mk2 (HF3.out.on hB4); have HRL : Hid (V.heap.size < w4.heap.size) := Nat.lt_of_lt_of_le HRW.out hB4.size; clear hT hCL hone hB4)
          | (refine ywpl_store rfl 75 _ _ rfl w4.heap.size CS (zd.cl (.slice none 0 0) (.slice none 0 0) .nilFunc) rfl rfl (dr_info CS HCL.out) (GBx.made w4 _ _) (by rw [Dr.cl_len, HCL.out]) HONE.out ?_; obtain ⟨w5, hw5⟩ : ∃ w5, w5 = ysets (w4.alloc (.cells (zd.cl (.slice none 0 0) (.slice none 0 0) .nilFunc).toArray 75)) w4.heap.size 0 CS := ⟨_, rfl⟩; (first | rw [← hw5] | (change wpList _ _ _ _ _ (ysets (w4.alloc (.cells (zd.cl (.slice none 0 0) (.slice none 0 0) .nilFunc).toArray 75)) w4.heap.size 0 CS); rw [← hw5])); obtain ⟨hf5, hd5, hb5⟩ := HF4.out.var HRL.out CS HCL.out w5 hw5; have HF5 := Hid.mk2 hf5; have HD5 := Hid.mk2 hd5; have HB5 := Hid.mk2 hb5; clear hw5 hf5 hd5 hb5)
          | (refine ywpl_store rfl 28 _ _ rfl V.heap.size ((bad false).cl (.slice none 0 0)) (rz.cl (.slice none 0 0)) rfl rfl (req_info _ _) HF5.out.res rfl (rqcl_one _ _ _ _) ?_))
        (try simp only [Exit.inBlock, Exit.then])
        rw [HYY.out]
        exact HF5.out.done (x := bad false) (k := e + 2) (ko := none) (kc := 0) (GRd.nil _) (fun g o e => by (cases e)) rfl rfl (by first | rfl | (simp; done) | (simp; omega)) rfl
      | some d0 =>
        rw [hq] at HYQ
        have HTQ := Hid.mk2 hq
        clear hq
        obtain ⟨rr, ws, vl⟩ := d0
        cases vl with
        | none =>
          have HYY : Hid (Y = (rr, e + 2)) := HYQ.out
          have heq : ∀ w : World, (binOp .eql 73 .nilFunc .nilFunc).run Tryd.prog w = .ok (.bool true) w := fun w => by kernel_rfl
          clear HYQ
          go_wp2_with (first
            | (go_at_call 45; refine HTELL.out.mono ?_; rintro e9 w4 ⟨d, ko, kc, wv, ev, ok, hT⟩; obtain ⟨hdd, he9, hone, hT2⟩ := hT.yes HTQ.out; obtain hev := (hT2.ev w4.heap.size (Nat.le_refl _)).nil; subst hev; have hB4 := hT2.below; have HKY := Hid.mk2 hT2.keys; have HKB := Hid.mk2 hT2.kb; obtain ⟨CS, hCS⟩ : ∃ CS : List Value, CS = rr.cl (.slice ko rr.cmd.keys.length kc) ++ [wv, .nilFunc] := ⟨_, rfl⟩; have he8 : e9 = .returned (.tuple #[.agg CS.toArray, .bool true]) := (by rw [hCS]; exact he9); have HONE : Hid (∀ v ∈ CS, v.oneCell' = true) := (by rw [hCS]; exact hone); have HCL : Hid (CS.length = 15) := (by show _ = _; rw [hCS]; rfl); have HCS := Hid.mk2 hCS; clear he9 hone hCS hT hT2; subst he8; have HF4 := Hid.mk2 (HF3.out.on hB4); have HB4 := Hid.mk2 hB4; have HRL : Hid (V.heap.size < w4.heap.size) := Nat.lt_of_lt_of_le HRW.out hB4.size; clear hB4 hdd)
            | (refine ywpl_store rfl 75 _ _ rfl w4.heap.size CS (zd.cl (.slice none 0 0) (.slice none 0 0) .nilFunc) rfl rfl (dr_info CS HCL.out) (GBx.made w4 _ _) (by rw [Dr.cl_len, HCL.out]) HONE.out ?_; obtain ⟨w5, hw5⟩ : ∃ w5, w5 = ysets (w4.alloc (.cells (zd.cl (.slice none 0 0) (.slice none 0 0) .nilFunc).toArray 75)) w4.heap.size 0 CS := ⟨_, rfl⟩; (first | rw [← hw5] | (change wpList _ _ _ _ _ (ysets (w4.alloc (.cells (zd.cl (.slice none 0 0) (.slice none 0 0) .nilFunc).toArray 75)) w4.heap.size 0 CS); rw [← hw5])); obtain ⟨hf5, hd5, hb5⟩ := HF4.out.var HRL.out CS HCL.out w5 hw5; have HF5 := Hid.mk2 hf5; have HB5 := Hid.mk2 hb5; have HPRE : Hid (GBx w5 w4.heap.size (rr.cl (.slice ko rr.cmd.keys.length kc))) := (by rw [HCS.out] at hd5; exact hd5.pre); have c14 : w5.cell? ⟨w4.heap.size, 14, none⟩ = some (.nilFunc) := hd5.get 14 _ (by rw [HCS.out]; rfl); clear hw5 hf5 hd5 hb5)
            | (refine ywpl_load rfl 28 _ rfl w4.heap.size rfl (rr.cl (.slice ko rr.cmd.keys.length kc)) HPRE.out _ Tryd.underlying28 rfl (req_info _ _) ?_)
            | (refine ywpl_store rfl 28 _ _ rfl V.heap.size (rr.cl (.slice ko rr.cmd.keys.length kc)) (rz.cl (.slice none 0 0)) rfl rfl (req_info _ _) HF5.out.res rfl (rqcl_one _ _ _ _) ?_))
          (try simp only [Exit.inBlock, Exit.then])
          rw [HYY.out]
          exact HF5.out.done (x := rr) (k := e + 2) (ko := ko) (kc := kc) (HKY.out.below HB5.out) (fun g o e1 hne => by have h1 := HKB.out g o e1 hne; have h2 := HRW.out; omega) rfl rfl (by first | rfl | (simp; done) | (simp; omega)) rfl
        | some n =>
          obtain ⟨⟨xr, xk⟩, hXX⟩ : ∃ x, x = endW rr n (L.drop (e + 2)) := ⟨_, rfl⟩
          have HYX : Hid (Y = if xk = 0 then (rz, 0) else (xr, e + 2 + xk)) := by
            have h9 := HYQ.out
            dsimp only at h9
            rw [← hXX] at h9
            exact h9
          have hxk : xk ≤ 20000 := by
            have h9 := endW_le rr n (L.drop (e + 2))
            rw [← hXX, List.length_drop] at h9
            have := HMM.out
            dsimp only at h9
            omega
          have HXX := Hid.mk2 hXX
          have HDL : Hid ((L.drop (e + 2)).length ≤ 20000) := by show _ ≤ _; rw [List.length_drop]; have := HMM.out; omega
          have HML : Hid (m - (e + 2) = (L.drop (e + 2)).length) := by show _ = _; rw [List.length_drop, HMM.out]
          have hxki : (xk : Int) ≤ 20000 := by omega
          clear HYQ hXX
          by_cases hx0 : xk = 0
          · subst hx0
            have HYY : Hid (Y = (rz, 0)) := HYX.out
            clear HYX hxk hxki
            go_wp2_with (first
              | (go_at_call 45; refine HTELL.out.mono ?_; rintro e9 w4 ⟨d, ko, kc, wv, ev, ok, hT⟩; obtain ⟨hdd, he9, hone, hT2⟩ := hT.yes HTQ.out; obtain ⟨p, q, hev, hn5, hcp, hcq⟩ := (hT2.ev w4.heap.size (Nat.le_refl _)).parts; subst hev; have HN5 := Hid.mk2 hn5; have HCP := Hid.mk2 hcp; have HCQ := Hid.mk2 hcq; clear hn5 hcp hcq; have heq : ∀ w : World, (binOp .eql 73 (.func (.func 62) #[] #[.pointer (some ⟨p, 0, none⟩), .pointer (some ⟨q, 0, none⟩)]) .nilFunc).run Tryd.prog w = .ok (.bool false) w := (fun w => by kernel_rfl); have hB4 := hT2.below; have HKY := Hid.mk2 hT2.keys; have HKB := Hid.mk2 hT2.kb; obtain ⟨CS, hCS⟩ : ∃ CS : List Value, CS = rr.cl (.slice ko rr.cmd.keys.length kc) ++ [wv, .func (.func 62) #[] #[.pointer (some ⟨p, 0, none⟩), .pointer (some ⟨q, 0, none⟩)]] := ⟨_, rfl⟩; have he8 : e9 = .returned (.tuple #[.agg CS.toArray, .bool true]) := (by rw [hCS]; exact he9); have HONE : Hid (∀ v ∈ CS, v.oneCell' = true) := (by rw [hCS]; exact hone); have HCL : Hid (CS.length = 15) := (by show _ = _; rw [hCS]; rfl); have HCS := Hid.mk2 hCS; clear he9 hone hCS hT hT2; subst he8; have HF4 := Hid.mk2 (HF3.out.on hB4); have HB4 := Hid.mk2 hB4; have HRL : Hid (V.heap.size < w4.heap.size) := Nat.lt_of_lt_of_le HRW.out hB4.size; clear hB4 hdd)
              | (refine ywpl_store rfl 75 _ _ rfl w4.heap.size CS (zd.cl (.slice none 0 0) (.slice none 0 0) .nilFunc) rfl rfl (dr_info CS HCL.out) (GBx.made w4 _ _) (by rw [Dr.cl_len, HCL.out]) HONE.out ?_; obtain ⟨w5, hw5⟩ : ∃ w5, w5 = ysets (w4.alloc (.cells (zd.cl (.slice none 0 0) (.slice none 0 0) .nilFunc).toArray 75)) w4.heap.size 0 CS := ⟨_, rfl⟩; (first | rw [← hw5] | (change wpList _ _ _ _ _ (ysets (w4.alloc (.cells (zd.cl (.slice none 0 0) (.slice none 0 0) .nilFunc).toArray 75)) w4.heap.size 0 CS); rw [← hw5])); obtain ⟨hf5, hd5, hb5⟩ := HF4.out.var HRL.out CS HCL.out w5 hw5; have HF5 := Hid.mk2 hf5; have HB5 := Hid.mk2 hb5; have HPRE : Hid (GBx w5 w4.heap.size (rr.cl (.slice ko rr.cmd.keys.length kc))) := (by rw [HCS.out] at hd5; exact hd5.pre); have c14 : w5.cell? ⟨w4.heap.size, 14, none⟩ = some (.func (.func 62) #[] #[.pointer (some ⟨p, 0, none⟩), .pointer (some ⟨q, 0, none⟩)]) := hd5.get 14 _ (by rw [HCS.out]; rfl); clear hw5 hf5 hd5 hb5)
              | (refine ywpl_load rfl 28 _ rfl w4.heap.size rfl (rr.cl (.slice ko rr.cmd.keys.length kc)) HPRE.out _ Tryd.underlying28 rfl (req_info _ _) ?_)
              | (go_at_call 62; refine (value1_any (V.heap.size + 1) w5 rr ko kc (HKY.out.below HB5.out) (fun g o e1 hne => by have h1 := HKB.out g o e1 hne; have h2 := HRW.out; omega) b bo bc (L.drop (e + 2)) (HBH.out.below HF5.out.below) HDL.out n p q HN5.out (cell_below HB5.out HCP.out) (cell_below HB5.out HCQ.out) _ HML.out).mono ?_; rintro e8 w6 hE6; rw [← HXX.out] at hE6; obtain ⟨⟨ko2, kc2, he8, hk2, hkb2⟩, hB6⟩ := hE6; dsimp only at he8 hk2 hkb2; have he7 : e8 = .returned (.tuple #[.agg (xr.cl (.slice ko2 xr.cmd.keys.length kc2)).toArray, .int .i64 0]) := he8; clear he8; subst he7; have HK2 := Hid.mk2 hk2; have HKB2 := Hid.mk2 hkb2; have HF6 := Hid.mk2 (HF5.out.on hB6); clear hk2 hkb2 hB6 c14)
              | (refine ywpl_store rfl 28 _ _ rfl w6.heap.size (xr.cl (.slice ko2 xr.cmd.keys.length kc2)) (rz.cl (.slice none 0 0)) rfl rfl (req_info _ _) (GBx.made w6 _ _) rfl (rqcl_one _ _ _ _) ?_; obtain ⟨w7, hw7⟩ : ∃ w7, w7 = ysets (w6.alloc (.cells (rz.cl (.slice none 0 0)).toArray 28)) w6.heap.size 0 (xr.cl (.slice ko2 xr.cmd.keys.length kc2)) := ⟨_, rfl⟩; (first | rw [← hw7] | (change wpList _ _ _ _ _ (ysets (w6.alloc (.cells (rz.cl (.slice none 0 0)).toArray 28)) w6.heap.size 0 (xr.cl (.slice ko2 xr.cmd.keys.length kc2))); rw [← hw7])); obtain ⟨hf7, hd7, hb7⟩ := HF6.out.var2 xr ko2 xr.cmd.keys.length kc2 w7 hw7; have HF7 := Hid.mk2 hf7; have HD7 := Hid.mk2 hd7; have HB7 := Hid.mk2 hb7; clear hw7 hf7 hd7 hb7)
              | (refine ywpl_store rfl 28 _ _ rfl V.heap.size (rz.cl (.slice none 0 0)) (rz.cl (.slice none 0 0)) rfl rfl (req_info _ _) HF7.out.res rfl (rqcl_one _ _ _ _) ?_))
            (try simp only [Exit.inBlock, Exit.then])
            rw [HYY.out]
            exact HF7.out.done (x := rz) (k := 0) (ko := none) (kc := 0) (GRd.nil _) (fun g o e => by (cases e)) rfl rfl rfl rfl
          · have HYY : Hid (Y = (xr, e + 2 + xk)) := by
              have h9 := HYX.out
              rw [if_neg hx0] at h9
              exact h9
            have hxb : ((xk : Int) == 0) = false := by simpa using hx0
            have hxn : ¬ (xk : Int) = 0 := by omega
            clear HYX
            go_wp2_with (first
              | (go_at_call 45; refine HTELL.out.mono ?_; rintro e9 w4 ⟨d, ko, kc, wv, ev, ok, hT⟩; obtain ⟨hdd, he9, hone, hT2⟩ := hT.yes HTQ.out; obtain ⟨p, q, hev, hn5, hcp, hcq⟩ := (hT2.ev w4.heap.size (Nat.le_refl _)).parts; subst hev; have HN5 := Hid.mk2 hn5; have HCP := Hid.mk2 hcp; have HCQ := Hid.mk2 hcq; clear hn5 hcp hcq; have heq : ∀ w : World, (binOp .eql 73 (.func (.func 62) #[] #[.pointer (some ⟨p, 0, none⟩), .pointer (some ⟨q, 0, none⟩)]) .nilFunc).run Tryd.prog w = .ok (.bool false) w := (fun w => by kernel_rfl); have hB4 := hT2.below; have HKY := Hid.mk2 hT2.keys; have HKB := Hid.mk2 hT2.kb; obtain ⟨CS, hCS⟩ : ∃ CS : List Value, CS = rr.cl (.slice ko rr.cmd.keys.length kc) ++ [wv, .func (.func 62) #[] #[.pointer (some ⟨p, 0, none⟩), .pointer (some ⟨q, 0, none⟩)]] := ⟨_, rfl⟩; have he8 : e9 = .returned (.tuple #[.agg CS.toArray, .bool true]) := (by rw [hCS]; exact he9); have HONE : Hid (∀ v ∈ CS, v.oneCell' = true) := (by rw [hCS]; exact hone); have HCL : Hid (CS.length = 15) := (by show _ = _; rw [hCS]; rfl); have HCS := Hid.mk2 hCS; clear he9 hone hCS hT hT2; subst he8; have HF4 := Hid.mk2 (HF3.out.on hB4); have HB4 := Hid.mk2 hB4; have HRL : Hid (V.heap.size < w4.heap.size) := Nat.lt_of_lt_of_le HRW.out hB4.size; clear hB4 hdd)
              | (refine ywpl_store rfl 75 _ _ rfl w4.heap.size CS (zd.cl (.slice none 0 0) (.slice none 0 0) .nilFunc) rfl rfl (dr_info CS HCL.out) (GBx.made w4 _ _) (by rw [Dr.cl_len, HCL.out]) HONE.out ?_; obtain ⟨w5, hw5⟩ : ∃ w5, w5 = ysets (w4.alloc (.cells (zd.cl (.slice none 0 0) (.slice none 0 0) .nilFunc).toArray 75)) w4.heap.size 0 CS := ⟨_, rfl⟩; (first | rw [← hw5] | (change wpList _ _ _ _ _ (ysets (w4.alloc (.cells (zd.cl (.slice none 0 0) (.slice none 0 0) .nilFunc).toArray 75)) w4.heap.size 0 CS); rw [← hw5])); obtain ⟨hf5, hd5, hb5⟩ := HF4.out.var HRL.out CS HCL.out w5 hw5; have HF5 := Hid.mk2 hf5; have HB5 := Hid.mk2 hb5; have HPRE : Hid (GBx w5 w4.heap.size (rr.cl (.slice ko rr.cmd.keys.length kc))) := (by rw [HCS.out] at hd5; exact hd5.pre); have c14 : w5.cell? ⟨w4.heap.size, 14, none⟩ = some (.func (.func 62) #[] #[.pointer (some ⟨p, 0, none⟩), .pointer (some ⟨q, 0, none⟩)]) := hd5.get 14 _ (by rw [HCS.out]; rfl); clear hw5 hf5 hd5 hb5)
              | (refine ywpl_load rfl 28 _ rfl w4.heap.size rfl (rr.cl (.slice ko rr.cmd.keys.length kc)) HPRE.out _ Tryd.underlying28 rfl (req_info _ _) ?_)
              | (go_at_call 62; refine (value1_any (V.heap.size + 1) w5 rr ko kc (HKY.out.below HB5.out) (fun g o e1 hne => by have h1 := HKB.out g o e1 hne; have h2 := HRW.out; omega) b bo bc (L.drop (e + 2)) (HBH.out.below HF5.out.below) HDL.out n p q HN5.out (cell_below HB5.out HCP.out) (cell_below HB5.out HCQ.out) _ HML.out).mono ?_; rintro e8 w6 hE6; rw [← HXX.out] at hE6; obtain ⟨⟨ko2, kc2, he8, hk2, hkb2⟩, hB6⟩ := hE6; dsimp only at he8 hk2 hkb2; have he7 : e8 = .returned (.tuple #[.agg (xr.cl (.slice ko2 xr.cmd.keys.length kc2)).toArray, .int .i64 (xk : Int)]) := he8; clear he8; subst he7; have HK2 := Hid.mk2 hk2; have HKB2 := Hid.mk2 hkb2; have HF6 := Hid.mk2 (HF5.out.on hB6); clear hk2 hkb2 hB6 c14)
              | (refine ywpl_store rfl 28 _ _ rfl w6.heap.size (xr.cl (.slice ko2 xr.cmd.keys.length kc2)) (rz.cl (.slice none 0 0)) rfl rfl (req_info _ _) (GBx.made w6 _ _) rfl (rqcl_one _ _ _ _) ?_; obtain ⟨w7, hw7⟩ : ∃ w7, w7 = ysets (w6.alloc (.cells (rz.cl (.slice none 0 0)).toArray 28)) w6.heap.size 0 (xr.cl (.slice ko2 xr.cmd.keys.length kc2)) := ⟨_, rfl⟩; (first | rw [← hw7] | (change wpList _ _ _ _ _ (ysets (w6.alloc (.cells (rz.cl (.slice none 0 0)).toArray 28)) w6.heap.size 0 (xr.cl (.slice ko2 xr.cmd.keys.length kc2))); rw [← hw7])); obtain ⟨hf7, hd7, hb7⟩ := HF6.out.var2 xr ko2 xr.cmd.keys.length kc2 w7 hw7; have HF7 := Hid.mk2 hf7; have HD7 := Hid.mk2 hd7; have HB7 := Hid.mk2 hb7; clear hw7 hf7 hd7 hb7)
              | (refine ywpl_load rfl 28 _ rfl w6.heap.size rfl (xr.cl (.slice ko2 xr.cmd.keys.length kc2)) HD7.out _ Tryd.underlying28 rfl (req_info _ _) ?_)
              | (refine ywpl_store rfl 28 _ _ rfl V.heap.size (xr.cl (.slice ko2 xr.cmd.keys.length kc2)) (rz.cl (.slice none 0 0)) rfl rfl (req_info _ _) HF7.out.res rfl (rqcl_one _ _ _ _) ?_))
            (try simp only [Exit.inBlock, Exit.then])
            rw [HYY.out]
            exact HF7.out.done (x := xr) (k := e + 2 + xk) (ko := ko2) (kc := kc2) (HK2.out.below HB7.out) (fun g o e1 hne => by have h1 := HKB2.out g o e1 hne; omega) rfl rfl (by first | rfl | (simp; done) | (simp; omega)) rfl
end Go.Proofs.YtldnkminhppngaaDoor
/-
  Next, whole.
-/
namespace Go.Proofs.YtldnkminhppngaaDoor
open Go.Proofs.YtldnkminhppngaaDoor.It
open Go.RowKit
set_option linter.unusedSimpArgs false
set_option linter.unusedVariables false
set_option maxRecDepth 100000

structure NextR (V V' : World) (x : Rq) (k : Nat) (er : Int) (e : Ending) : Prop where
  ex : ∃ ko kc, e = .returned (.tuple #[.agg (x.arr (.slice ko x.cmd.keys.length kc)), .int .i64 (k : Int), .int .i64 er]) ∧ GRd ES V' ko x.cmd.keys kc
  below : Below V.heap.size V V'
theorem next_post {V W : World} {R : Nat} (h : Fs V W R) {x : Rq} {k : Nat} {er : Int} {ko : Option Addr} {kc : Nat} (hk : GRd ES W ko x.cmd.keys kc) (hR : ∀ g o, ko = some ⟨g, o, none⟩ → x.cmd.keys ≠ [] → R < g) {fn : Func} {s t u : Tmp} {a : Act}
    (h1 : fn.results = #[.cell s 28, .tmp t, .tmp u]) (hs : a.tmps.getD s undef = .pointer (some ⟨R, 0, none⟩)) (ht : a.tmps.getD t undef = .int .i64 (k : Int)) (hu : a.tmps.getD u undef = .int .i64 er) (hd : a.defers = []) :
    bodyPost Tryd.prog fn (fun e V' => NextR V V' x k er e) .ret a (ysets W R 0 (x.cl (.slice ko x.cmd.keys.length kc))) := by
  have hg := ysets_grown R (x.cl (.slice ko x.cmd.keys.length kc)) W 0
  have h9 := res_cell2 (t := t) (u := u) h1 hs (load_var (ybox h.res (x.cl (.slice ko x.cmd.keys.length kc)) rfl) 28 _ Tryd.underlying28 rfl (req_info _ _))
  rw [ht, hu] at h9
  exact bodyPost_ret h9 hd ⟨⟨ko, kc, rfl, hk.grownr hg (fun g o e hne e2 => by have h1 := hR g o e hne; have h2 := Option.some.inj e2; omega)⟩, h.below.grown hg h.below.size (fun k hk => by cases hk; exact h.lr)⟩
set_option maxHeartbeats 1000000 in
theorem next14_any (V : World) (ao : Option Addr) (L : List UInt8) (cap : Nat) (hr : GRd EY V ao L cap) (hL : L.length ≤ 16384) (hg : Gl V) (m : Nat) (hm : m = L.length) :
    Calls Tryd.prog 9 #[.slice ao m cap] V fun e V' => NextR V V' (firstW L).1 (firstW L).2 0 e := by
  obtain ⟨⟨xr, xk⟩, hX⟩ : ∃ x, x = firstW L := ⟨_, rfl⟩
  rw [← hX]
  have HX := Hid.mk2 hX
  have HF0 : Hid (Fs V (V.alloc (.cells #[.int .u8 0, .int .u8 0, .int .i64 0, .slice none 0 0, .string ⟨#[]⟩, .int .u32 0, .int .i64 0, .int .u64 0, .int .u64 0, .int .i64 0, .string ⟨#[]⟩, .bool false, .bool false] 28)) V.heap.size) := ⟨g_alloc V _, GBx.made V (rz.cl (.slice none 0 0)) 28, Nat.le_refl _⟩
  have HLN := Hid.mk2 (lines_any (V.alloc (.cells #[.int .u8 0, .int .u8 0, .int .i64 0, .slice none 0 0, .string ⟨#[]⟩, .int .u32 0, .int .i64 0, .int .u64 0, .int .u64 0, .int .i64 0, .string ⟨#[]⟩, .bool false, .bool false] 28)))
  have HFI := Hid.mk2 (fun W (h : Below V.heap.size V W) (r : Nat) (M : List Lne) (hK : Kn W r M) => first_any W ao L cap (hr.below h) (by omega) (hg.below h) r M hK m hm)
  have hmi : ¬ (16384 : Int) < (m : Int) := by omega
  have HRR : Hid (V.heap.size < (V.alloc (.cells #[.int .u8 0, .int .u8 0, .int .i64 0, .slice none 0 0, .string ⟨#[]⟩, .int .u32 0, .int .i64 0, .int .u64 0, .int .u64 0, .int .i64 0, .string ⟨#[]⟩, .bool false, .bool false] 28)).heap.size) := by show _ < _; simp
  clear hr hg hm hX hL
  go_enter Tryd.func9, Tryd.ntmps9
  go_wp2_with (first
    | (go_at_call 18; refine HLN.out.mono ?_; rintro e1 w1 ⟨r, f0, f1, f2, f3, f4, f5, f6, f7, f8, f9, f10, f11, f12, f13, f14, rfl, hN⟩; have HF1 := Hid.mk2 (HF0.out.on hN.b0); have HKN : Hid (Kn w1 r (lineL f0 f1 f2 f3 f4 f5 f6 f7 f8 f9 f10 f11 f12 f13 f14)) := ⟨hN.mp, hN.fn, lineL_says _ _ _ _ _ _ _ _ _ _ _ _ _ _ _⟩; have HR1 : Hid (V.heap.size < w1.heap.size) := Nat.lt_of_lt_of_le HRR.out hN.b0.size; clear hN)
    | (go_at_call 19; refine (HFI.out w1 HF1.out.below r _ HKN.out).mono ?_; rintro e8 w6 hE6; rw [← HX.out] at hE6; obtain ⟨⟨ko2, kc2, he8, hk2, hkb2⟩, hB6⟩ := hE6; dsimp only at he8 hk2 hkb2; have he7 : e8 = .returned (.tuple #[.agg (xr.cl (.slice ko2 xr.cmd.keys.length kc2)).toArray, .int .i64 (xk : Int)]) := he8; clear he8; subst he7; have HK2 := Hid.mk2 hk2; have HKB2 := Hid.mk2 hkb2; have HF6 := Hid.mk2 (HF1.out.on hB6); clear hk2 hkb2 hB6)
    | (refine ywpl_store rfl 28 _ _ rfl w6.heap.size (xr.cl (.slice ko2 xr.cmd.keys.length kc2)) (rz.cl (.slice none 0 0)) rfl rfl (req_info _ _) (GBx.made w6 _ _) rfl (rqcl_one _ _ _ _) ?_; obtain ⟨w7, hw7⟩ : ∃ w7, w7 = ysets (w6.alloc (.cells (rz.cl (.slice none 0 0)).toArray 28)) w6.heap.size 0 (xr.cl (.slice ko2 xr.cmd.keys.length kc2)) := ⟨_, rfl⟩; (first | rw [← hw7] | (change wpList _ _ _ _ _ (ysets (w6.alloc (.cells (rz.cl (.slice none 0 0)).toArray 28)) w6.heap.size 0 (xr.cl (.slice ko2 xr.cmd.keys.length kc2))); rw [← hw7])); obtain ⟨hf7, hd7, hb7⟩ := HF6.out.var2 xr ko2 xr.cmd.keys.length kc2 w7 hw7; have HF7 := Hid.mk2 hf7; have HD7 := Hid.mk2 hd7; have HB7 := Hid.mk2 hb7; clear hw7 hf7 hd7 hb7)
    | (refine ywpl_load rfl 28 _ rfl w6.heap.size rfl (xr.cl (.slice ko2 xr.cmd.keys.length kc2)) HD7.out _ Tryd.underlying28 rfl (req_info _ _) ?_)
    | (refine ywpl_store rfl 28 _ _ rfl V.heap.size (xr.cl (.slice ko2 xr.cmd.keys.length kc2)) (rz.cl (.slice none 0 0)) rfl rfl (req_info _ _) HF7.out.res rfl (rqcl_one _ _ _ _) ?_))
  (try simp only [Exit.inBlock, Exit.then])
  exact next_post HF7.out (x := xr) (k := xk) (er := 0) (ko := ko2) (kc := kc2) (HK2.out.below HB7.out) (fun g o e1 hne => by have h1 := HKB2.out g o e1 hne; have h2 := HR1.out; omega) rfl rfl rfl rfl rfl
end Go.Proofs.YtldnkminhppngaaDoor
/-
  The document's Same of two requests that are one, wherever their keys lie; is, alive of the statements: the first request of a text.
-/
namespace Go.Proofs.YtldnkminhppngaaDoor
open Go.Proofs.YtldnkminhppngaaDoor.It
open Go.RowKit
set_option linter.unusedSimpArgs false
set_option linter.unusedVariables false
set_option maxRecDepth 100000

set_option maxHeartbeats 2000000 in
theorem rsame14_any (r : Rq) (ka kb : Option Addr) (ca cb : Nat) (w : World) (ha : GRd ES w ka r.cmd.keys ca) (hb : GRd ES w kb r.cmd.keys cb) :
    Calls Tryd.prog 13 #[.agg (r.arr (.slice ka r.cmd.keys.length ca)), .agg (r.arr (.slice kb r.cmd.keys.length cb))] w fun e w' => e = .returned (.bool true) ∧ Below w.heap.size w w' := by
  obtain ⟨W, hW⟩ : ∃ W, W = (w.alloc (.cells (r.arr (.slice ka r.cmd.keys.length ca)) 28)).alloc (.cells (r.arr (.slice kb r.cmd.keys.length cb)) 28) := ⟨_, rfl⟩
  have HB : Hid (Below w.heap.size w W) := by rw [hW]; exact g_on (g_alloc _ _) (g_alloc _ _)
  have HX : Hid (GBx W w.heap.size (r.cl (.slice ka r.cmd.keys.length ca))) := by rw [hW]; exact (GBx.made w (r.cl (.slice ka r.cmd.keys.length ca)) _).alloc _
  have HY : Hid (GBx W (w.heap.size + 1) (r.cl (.slice kb r.cmd.keys.length cb))) := by
    rw [hW]
    have := GBx.made (w.alloc (.cells (r.arr (.slice ka r.cmd.keys.length ca)) 28)) (r.cl (.slice kb r.cmd.keys.length cb)) 28
    rw [show (w.alloc (.cells (r.arr (.slice ka r.cmd.keys.length ca)) 28)).heap.size = w.heap.size + 1 by simp] at this
    exact this
  have HS := Hid.mk2 (samec_any r.cmd ka kb ca cb W (ha.below HB.out) (hb.below HB.out))
  clear ha hb
  obtain ⟨rk, ⟨kind, tenant, keys, value, flags, life, unique, by_⟩, rt, secret, on, close⟩ := r
  unfold Rq.arr at *
  unfold Rq.cl at HX HY
  unfold Cm.arr at HS
  dsimp only at *
  have x0 := HX.out.c 0 (by simp)
  have x1 := HX.out.c 1 (by simp)
  have x2 := HX.out.c 2 (by simp)
  have x3 := HX.out.c 3 (by simp)
  have x4 := HX.out.c 4 (by simp)
  have x5 := HX.out.c 5 (by simp)
  have x6 := HX.out.c 6 (by simp)
  have x7 := HX.out.c 7 (by simp)
  have x8 := HX.out.c 8 (by simp)
  have x9 := HX.out.c 9 (by simp)
  have x10 := HX.out.c 10 (by simp)
  have x11 := HX.out.c 11 (by simp)
  have x12 := HX.out.c 12 (by simp)
  simp only [List.getElem_cons_zero, List.getElem_cons_succ] at x0 x1 x2 x3 x4 x5 x6 x7 x8 x9 x10 x11 x12
  have y0 := HY.out.c 0 (by simp)
  have y1 := HY.out.c 1 (by simp)
  have y2 := HY.out.c 2 (by simp)
  have y3 := HY.out.c 3 (by simp)
  have y4 := HY.out.c 4 (by simp)
  have y5 := HY.out.c 5 (by simp)
  have y6 := HY.out.c 6 (by simp)
  have y7 := HY.out.c 7 (by simp)
  have y8 := HY.out.c 8 (by simp)
  have y9 := HY.out.c 9 (by simp)
  have y10 := HY.out.c 10 (by simp)
  have y11 := HY.out.c 11 (by simp)
  have y12 := HY.out.c 12 (by simp)
  simp only [List.getElem_cons_zero, List.getElem_cons_succ] at y0 y1 y2 y3 y4 y5 y6 y7 y8 y9 y10 y11 y12
  have hlt := HX.out.lt
  have hlt1 := HY.out.lt
  have q1 : (rk == rk) = true := by simp
  have q2 : (rt == rt) = true := by simp
  have q3 : (secret.toList == secret.toList) = true := by simp
  have q4 : (on == on) = true := by simp
  have q5 : (close == close) = true := by simp
  go_enter Tryd.func13, Tryd.ntmps13
  go_upto_region 1 with (fail)
  rw [← hW]
  clear hW
  go_wp2_with (go_at_call 21; refine HS.out.mono ?_; rintro e w5 ⟨rfl, hb5⟩; have HX5 := Hid.mk2 (HX.out.below hb5); have HY5 := Hid.mk2 (HY.out.below hb5); have HB5 := Hid.mk2 (g_on HB.out hb5); have d0 := HX5.out.c 0 (by simp); have d1 := HX5.out.c 1 (by simp); have d2 := HX5.out.c 2 (by simp); have d3 := HX5.out.c 3 (by simp); have d4 := HX5.out.c 4 (by simp); have d5 := HX5.out.c 5 (by simp); have d6 := HX5.out.c 6 (by simp); have d7 := HX5.out.c 7 (by simp); have d8 := HX5.out.c 8 (by simp); have d9 := HX5.out.c 9 (by simp); have d10 := HX5.out.c 10 (by simp); have d11 := HX5.out.c 11 (by simp); have d12 := HX5.out.c 12 (by simp); simp only [List.getElem_cons_zero, List.getElem_cons_succ] at d0 d1 d2 d3 d4 d5 d6 d7 d8 d9 d10 d11 d12; have f0 := HY5.out.c 0 (by simp); have f1 := HY5.out.c 1 (by simp); have f2 := HY5.out.c 2 (by simp); have f3 := HY5.out.c 3 (by simp); have f4 := HY5.out.c 4 (by simp); have f5 := HY5.out.c 5 (by simp); have f6 := HY5.out.c 6 (by simp); have f7 := HY5.out.c 7 (by simp); have f8 := HY5.out.c 8 (by simp); have f9 := HY5.out.c 9 (by simp); have f10 := HY5.out.c 10 (by simp); have f11 := HY5.out.c 11 (by simp); have f12 := HY5.out.c 12 (by simp); simp only [List.getElem_cons_zero, List.getElem_cons_succ] at f0 f1 f2 f3 f4 f5 f6 f7 f8 f9 f10 f11 f12; have hlt5 := HX5.out.lt; have hlt6 := HY5.out.lt; clear hb5)
  go_ret
  exact ⟨by first | rfl | simp, HB5.out⟩

/-- a struct that is loaded where the guard says yes -/
theorem ywpl_load_g {ops : Array Oper} {rest : List Oper} {o : Oper} {a : Act} {w : World} {Q : Exit → Act → World → Prop} (hw : Region.wanted o (yielded ops a.tmps) = true) (ty : TypeId) (s : Operand) (ho : o.op = .load ty s) (b : Nat) (hx : a.eval s = .pointer (some ⟨b, 0, none⟩)) (cs : List Value) (hc : GBx w b cs) (d : TypeDesc)
    (hu : Tryd.prog.underlying ty = some d) (hd : (match d with | .struct _ | .array _ _ => true | _ => false) = true) (hi : (Tryd.prog.info? ty).map (·.size) = some cs.length) (h : wpList Tryd.prog ops Q rest (a.put o.dst (.agg cs.toArray)) w) : wpList Tryd.prog ops Q (o :: rest) a w := by
  refine BigFrame.wpList_want hw fun K hK => ?_
  have hlv := load_var hc ty d hu hd hi
  unfold Oper.wp execOp
  simp only [ho, hx, Instr.loadAt, Instr.sureAddr, Sem.run_bind, Sem.run_pure, Result.andThen_ok, hlv]
  exact hK _ _ h
/-- is: the first request of a text -/
theorem is_any (s : ByteArray) (r : Rq) (n : Nat) (hf : firstW (bl s) = (r, n)) (hs : s.size ≤ 16384) (ko : Option Addr) (kc : Nat) (V : World) (hk : GRd ES V ko r.cmd.keys kc) (hg : Gl V) :
    Calls Tryd.prog 7 #[.string s, .agg (r.arr (.slice ko r.cmd.keys.length kc)), .int .i64 (n : Int)] V fun e V' => e = .returned (.bool true) ∧ Below V.heap.size V V' := by
  obtain ⟨W, hW⟩ : ∃ W, W = V.alloc (.cells (r.arr (.slice ko r.cmd.keys.length kc)) 28) := ⟨_, rfl⟩
  have HB : Hid (Below V.heap.size V W) := by rw [hW]; exact g_alloc _ _
  have HX : Hid (GBx W V.heap.size (r.cl (.slice ko r.cmd.keys.length kc))) := by rw [hW]; exact GBx.made V (r.cl _) _
  have HWS : Hid (W.heap.size = V.heap.size + 1) := by show _ = _; rw [hW]; simp
  have hsb : (bl s).length = s.size := bl_len s
  have hB1 := bsW_below W s
  have HN : Hid (Calls Tryd.prog 9 #[.slice (some ⟨W.heap.size, 0, none⟩) s.size (capS W s)] (bsW W s) fun e V' => NextR (bsW W s) V' r n 0 e) := by
    have h := next14_any (bsW W s) (some ⟨W.heap.size, 0, none⟩) (bl s) (capS W s) (bsW_rd W s (Nat.le_trans hs (by decide))) (by omega) ((hg.below HB.out).below hB1) s.size hsb.symm
    rw [hf] at h
    exact h
  have HK := Hid.mk2 (hk.below HB.out)
  have HSB := Hid.mk2 hB1
  have hcv := conv_str s
  have q1 : ((n : Int) == (n : Int)) = true := by simp
  have HRI := Hid.mk2 (fun v => req_info r v)
  obtain ⟨CX, hCX⟩ : ∃ CX, CX = r.cl (.slice ko r.cmd.keys.length kc) := ⟨_, rfl⟩
  have HCX := Hid.mk2 hCX
  have hAX : r.arr (.slice ko r.cmd.keys.length kc) = CX.toArray := by rw [hCX]; rfl
  have HCL : Hid (CX.length = 13) := by show _ = _; rw [hCX]; rfl
  rw [hAX] at hW
  rw [hAX]
  rw [← hCX] at HX
  have HAX := Hid.mk2 hAX
  clear hf hs hk hg hsb hB1 hCX hAX
  go_enter Tryd.func7, Tryd.ntmps7
  go_upto_region 1 with (fail)
  rw [← hW]
  clear hW
  go_wp2_with (first
    | (go_at_call 9; refine HN.out.mono ?_; rintro e w5 ⟨⟨k5, c5, rfl, hk5⟩, hb5⟩; have HK5 := Hid.mk2 hk5; have HB5 := Hid.mk2 (g_on HSB.out hb5); obtain ⟨CS, hCS⟩ : ∃ CS, CS = r.cl (.slice k5 r.cmd.keys.length c5) := ⟨_, rfl⟩; have hAS : r.arr (.slice k5 r.cmd.keys.length c5) = CS.toArray := (by rw [hCS]; rfl); rw [hAS]; have HAS := Hid.mk2 hAS; have HCS : Hid (CS.length = 13 ∧ ∀ v ∈ CS, v.oneCell' = true) := (by rw [hCS]; exact ⟨rfl, rqcl_one _ _ _ _⟩); clear hk5 hb5 hCS hAS)
    | (refine ywpl_store rfl 28 _ _ rfl w5.heap.size CS (rz.cl (.slice none 0 0)) rfl rfl (by rw [HCS.out.1]; kernel_rfl) (GBx.made w5 _ _) (by rw [HCS.out.1]; rfl) HCS.out.2 ?_; obtain ⟨w7, hw7⟩ : ∃ w7, w7 = ysets (w5.alloc (.cells (rz.cl (.slice none 0 0)).toArray 28)) w5.heap.size 0 CS := ⟨_, rfl⟩; (first | rw [← hw7] | (change wpList _ _ _ _ _ (ysets (w5.alloc (.cells (rz.cl (.slice none 0 0)).toArray 28)) w5.heap.size 0 CS); rw [← hw7])); have hb7 : Below w5.heap.size w5 w7 := (by rw [hw7]; exact (g_alloc w5 _).grown (ysets_grown _ _ _ _) (by simp) (fun k hk => by cases hk; exact Nat.le_refl _)); have HD7 : Hid (GBx w7 w5.heap.size CS) := (by rw [hw7]; exact ybox (GBx.made w5 _ _) _ (by rw [HCS.out.1]; rfl)); have HB7 := Hid.mk2 (g_on HB5.out hb7); have HK7 := Hid.mk2 (HK5.out.below hb7); have HX7 := Hid.mk2 (HX.out.below HB7.out); clear hw7 hb7)
    | (refine ywpl_load_g (by first | rfl | simp [Region.wanted, yielded]) 28 _ rfl w5.heap.size rfl CS HD7.out _ Tryd.underlying28 rfl (by rw [HCS.out.1]; kernel_rfl) ?_)
    | (refine ywpl_load_g (by first | rfl | simp [Region.wanted, yielded]) 28 _ rfl V.heap.size rfl CX HX7.out _ Tryd.underlying28 rfl (by rw [HCL.out]; kernel_rfl) ?_)
    | (go_at_call 13; rw [← HAS.out, ← HAX.out]; refine (rsame14_any r _ _ _ _ w7 HK7.out (HK.out.below HB7.out)).mono ?_; rintro e w9 ⟨rfl, hb9⟩; have HB9 := Hid.mk2 (g_on HB.out (g_on HB7.out hb9)); clear hb9))
  go_ret
  exact ⟨by first | rfl | simp, HB9.out⟩
def aliveA : Rq := ⟨1, ⟨1, 0, [⟨#[97]⟩, ⟨#[98]⟩], ⟨#[]⟩, 0, 0, 0, 0⟩, 0, ⟨#[]⟩, false, false⟩
def aliveB : Rq := ⟨1, ⟨2, 0, [⟨#[97]⟩], ⟨#[120, 121]⟩, 0, 5, 0, 0⟩, 0, ⟨#[]⟩, false, false⟩
theorem first_aliveA : firstW (bl ⟨#[103, 101, 116, 32, 97, 32, 98, 13, 10]⟩) = (aliveA, 9) := by kernel_rfl
theorem first_aliveB : firstW (bl ⟨#[115, 101, 116, 32, 97, 32, 48, 32, 53, 32, 50, 13, 10, 120, 121, 13, 10, 103, 101, 116]⟩) = (aliveB, 17) := by kernel_rfl
end Go.Proofs.YtldnkminhppngaaDoor
/-
  alive of the statements; how long what is written is.
-/
namespace Go.Proofs.YtldnkminhppngaaDoor
open Go.Proofs.YtldnkminhppngaaDoor.It
open Go.RowKit
set_option linter.unusedSimpArgs false
set_option linter.unusedVariables false
set_option maxRecDepth 100000

theorem wr_len {r : Rq} (hE : r.wrE = 0) (hf : r.Fit) : r.wr.length ≤ 1028 := by
  obtain ⟨h1, _, _⟩ := line_fine hE hf
  have h2 := val_small hE
  unfold Rq.wr Rq.wrL Rq.line
  rw [if_pos hE]
  split
  · rename_i h
    have := h2 h
    simp [bl_len]
    omega
  · simp
    omega
theorem wr_nil {r : Rq} (hE : ¬ r.wrE = 0) : r.wr = [] := by unfold Rq.wr; rw [if_neg hE]
theorem alive14_any (V : World) (hg : Gl V) : Calls Tryd.prog 10 #[] V fun e V' => e = .returned (.bool true) ∧ Below V.heap.size V V' := by
  have HA := Hid.mk2 (fun W (h : Below V.heap.size V W) ko kc (hk : GRd ES W ko aliveA.cmd.keys kc) => is_any _ aliveA 9 first_aliveA (by decide) ko kc W hk (hg.below h))
  have HB := Hid.mk2 (fun W (h : Below V.heap.size V W) ko kc (hk : GRd ES W ko aliveB.cmd.keys kc) => is_any _ aliveB 17 first_aliveB (by decide) ko kc W hk (hg.below h))
  clear hg
  go_enter Tryd.func10, Tryd.ntmps10
  go_upto_region 3 with (fail)
  have hs1 : (V.alloc (.cells #[.string ⟨#[97]⟩, .string ⟨#[98]⟩] 9)).heap.size = V.heap.size + 1 := by simp
  obtain ⟨V1, hV1⟩ : ∃ V1, V1 = V.alloc (.cells #[.string ⟨#[97]⟩, .string ⟨#[98]⟩] 9) := ⟨_, rfl⟩
  obtain ⟨V2, hV2⟩ : ∃ V2, V2 = V1.alloc (.cells #[.int .u8 1, .int .u8 1, .int .i64 0, .slice (some ⟨V.heap.size, 0, none⟩) 2 2, .string ⟨#[]⟩, .int .u32 0, .int .i64 0, .int .u64 0, .int .u64 0, .int .i64 0, .string ⟨#[]⟩, .bool false, .bool false] 28) := ⟨_, rfl⟩
  obtain ⟨V3, hV3⟩ : ∃ V3, V3 = V2.alloc (.cells #[.string ⟨#[97]⟩] 9) := ⟨_, rfl⟩
  obtain ⟨V4, hV4⟩ : ∃ V4, V4 = V3.alloc (.cells #[.int .u8 1, .int .u8 2, .int .i64 0, .slice (some ⟨V.heap.size + 1 + 1, 0, none⟩) 1 1, .string ⟨#[120, 121]⟩, .int .u32 0, .int .i64 5, .int .u64 0, .int .u64 0, .int .i64 0, .string ⟨#[]⟩, .bool false, .bool false] 28) := ⟨_, rfl⟩
  have z1 : V1.heap.size = V.heap.size + 1 := by rw [hV1]; simp
  have z2 : V2.heap.size = V.heap.size + 1 + 1 := by rw [hV2]; simp [z1]
  have z3 : V3.heap.size = V.heap.size + 1 + 1 + 1 := by rw [hV3]; simp [z2]
  have b1 : Below V.heap.size V V1 := by rw [hV1]; exact g_alloc _ _
  have b2 : Below V1.heap.size V1 V2 := by rw [hV2]; exact g_alloc _ _
  have b3 : Below V2.heap.size V2 V3 := by rw [hV3]; exact g_alloc _ _
  have b4 : Below V3.heap.size V3 V4 := by rw [hV4]; exact g_alloc _ _
  have K1 : Hid (GRd ES V4 (some ⟨V.heap.size, 0, none⟩) aliveA.cmd.keys 2) := by
    have h := g_news okS V [⟨#[97]⟩, ⟨#[98]⟩] [.string ⟨#[97]⟩, .string ⟨#[98]⟩] rfl (by decide)
    have h2 : GRd ES V1 (some ⟨V.heap.size, 0, none⟩) [⟨#[97]⟩, ⟨#[98]⟩] 2 := by rw [hV1]; exact h
    exact ((h2.below b2).below b3).below b4
  have K2 : Hid (GRd ES V4 (some ⟨V.heap.size + 1 + 1, 0, none⟩) aliveB.cmd.keys 1) := by
    have h := g_news okS V2 [⟨#[97]⟩] [.string ⟨#[97]⟩] rfl (by decide)
    have h2 : GRd ES V3 (some ⟨V2.heap.size, 0, none⟩) [⟨#[97]⟩] 1 := by rw [hV3]; exact h
    rw [z2] at h2
    exact h2.below b4
  have X1 : Hid (GBx V4 (V.heap.size + 1) (aliveA.cl (.slice (some ⟨V.heap.size, 0, none⟩) 2 2))) := by
    have h := GBx.made V1 (aliveA.cl (.slice (some ⟨V.heap.size, 0, none⟩) 2 2)) 28
    have h2 : GBx V2 V1.heap.size (aliveA.cl (.slice (some ⟨V.heap.size, 0, none⟩) 2 2)) := by rw [hV2]; exact h
    rw [z1] at h2
    exact (h2.below b3).below b4
  have X2 : Hid (GBx V4 (V.heap.size + 1 + 1 + 1) (aliveB.cl (.slice (some ⟨V.heap.size + 1 + 1, 0, none⟩) 1 1))) := by
    have h := GBx.made V3 (aliveB.cl (.slice (some ⟨V.heap.size + 1 + 1, 0, none⟩) 1 1)) 28
    have h2 : GBx V4 V3.heap.size (aliveB.cl (.slice (some ⟨V.heap.size + 1 + 1, 0, none⟩) 1 1)) := by rw [hV4]; exact h
    rw [z3] at h2
    exact h2
  have HB4 : Hid (Below V.heap.size V V4) := g_on (g_on (g_on b1 b2) b3) b4
  rw [← hV1, ← hV2, ← hV3, ← hV4]
  clear hV1 hV2 hV3 hV4 z1 z2 z3 b1 b2 b3 b4 hs1
  go_wp2_with (first
    | (go_at_call 7; refine (HA.out V4 HB4.out (some ⟨V.heap.size, 0, none⟩) 2 K1.out).mono ?_; rintro e w5 ⟨rfl, hb5⟩; have HB5 := Hid.mk2 (g_on HB4.out hb5); have X5 := Hid.mk2 (X2.out.below hb5); have K5 := Hid.mk2 (K2.out.below hb5); clear hb5 HA)
    | (refine ywpl_load rfl 28 _ rfl (V.heap.size + 1) rfl (aliveA.cl (.slice (some ⟨V.heap.size, 0, none⟩) 2 2)) X1.out _ Tryd.underlying28 rfl (req_info _ _) ?_)
    | (refine ywpl_load_g (by first | rfl | simp [Region.wanted, yielded]) 28 _ rfl (V.heap.size + 1 + 1 + 1) rfl (aliveB.cl (.slice (some ⟨V.heap.size + 1 + 1, 0, none⟩) 1 1)) X5.out _ Tryd.underlying28 rfl (req_info _ _) ?_)
    | (go_at_call 7; refine (HB.out w5 HB5.out (some ⟨V.heap.size + 1 + 1, 0, none⟩) 1 K5.out).mono ?_; rintro e w7 ⟨rfl, hb7⟩; have HB7 := Hid.mk2 (g_on HB5.out hb7); clear hb7))
  go_ret
  exact ⟨by first | rfl | simp, HB7.out⟩
end Go.Proofs.YtldnkminhppngaaDoor
/-
  (shaken)
-/
namespace Go.Proofs.YtldnkminhppngaaDoor
open Go.RowKit
set_option linter.unusedSimpArgs false
set_option linter.unusedVariables false
set_option maxRecDepth 100000

/-- a world behind w: nothing that lay is turned -/
structure Beh (w : World) where
  v : World
  ok : Below w.heap.size w v
instance (w : World) : Inhabited (Beh w) := ⟨⟨w, Below.refl _ _⟩⟩
theorem wp_region_quiet_beh {P : Program} {id : Nat} {Q : Exit → Act → World → Prop} {a : Act} {w : World} {l : List Oper} (hm : P.follows .mixedOrders = true) (hB : Region.lexB .any l.toArray = true)
    (h : wpQuiet P l.toArray (fun w' => ∃ p : Beh w, w' = p.v) (fun a' => ∀ w', (∃ p : Beh w, w' = p.v) → Q .normal a' w') l a) : (Code.region id l.toArray true).wp P Q a w :=
  wp_region_quiet (C := fun w' => ∃ p : Beh w, w' = p.v) hm hB ⟨⟨w.drew, (Below.refl _ _).drew⟩, rfl⟩ (by simpa using h)
theorem cell_beh {w : World} {a : Addr} {v : Value} (hb : a.block < w.heap.size) (h : w.cell? a = some v) (p : Beh w) : p.v.cell? a = some v := (p.ok.cell hb).trans h
theorem Calls.beh_of {P : Program} {f : FuncId} {args : Array Value} {w : World} {p : Beh w} {v : Value}
    (h : Calls P f args p.v fun e w' => e = .returned v ∧ Below p.v.heap.size p.v w') : Calls P f args p.v fun e w'' => e = .returned v ∧ ∃ q : Beh w, w'' = q.v :=
  h.mono fun _ w'' ⟨he, hb⟩ => ⟨he, ⟨w'', g_on p.ok hb⟩, rfl⟩
theorem Calls.beh_same {P : Program} {f : FuncId} {args : Array Value} {w : World} {p : Beh w} {v : Value}
    (h : Calls P f args p.v fun e w' => e = .returned v ∧ w' = p.v) : Calls P f args p.v fun e w'' => e = .returned v ∧ ∃ q : Beh w, w'' = q.v :=
  h.mono fun _ w'' ⟨he, hb⟩ => ⟨he, p, hb⟩
theorem GOwn.rdOf {α : Type} {E : GEl α} (K : GOk E) {w : World} {base : Nat} {a : Option Addr} {n cp : Nat} {l : List α} (h : GOwn E w base (.slice a n cp) l) : GRd E w a l cp := by
  obtain ⟨ao, cap, e, hr⟩ := h.rd K
  injection e with e1 e2 e3
  subst e1 e3
  exact hr
end Go.Proofs.YtldnkminhppngaaDoor
