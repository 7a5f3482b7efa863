/-
  The document's Change, of a change with fields that aren't its kind's, and of any.
-/
import Derived.Test.YtlhlleokehkolaaROk
import Derived.Test.YtlhlleokehkolaaRCmd2
import Derived.Test.YtlhlleokehkolaaRDChg
import Derived.Test.YtlhlleokehkolaaRCmd4
import Derived.Test.YtlhlleokehkolaaAlive
namespace Go.Proofs.Ytlhlleokehkolaa
open Go.RowKit
set_option linter.unusedSimpArgs false
set_option linter.unusedVariables false
set_option maxRecDepth 100000

set_option maxHeartbeats 1000000 in
theorem refChange_not (c : Chg) (w : World) (hb : ¬ bareC c = c) :
    Calls Try.prog 50 #[c.val] w fun e w' => e = .returned (.bool (chgOk c)) ∧ Below w.heap.size w w' := by
  have hok : chgOk c = false := by
    cases h : chgOk c with
    | false => rfl
    | true => exact absurd (bare_of_ok h).1 hb
  rw [hok]
  have hba := fun W => refBare_any c W
  obtain ⟨d, hd⟩ : ∃ d, d = bareC c := ⟨_, rfl⟩
  rw [← hd] at hba hb
  clear hd hok
  obtain ⟨kind, tenant, item, key, why, to, primary⟩ := c
  unfold Chg.val Chg.cells bcell at hba
  unfold Chg.val Chg.cells bcell
  simp only [] at hba hb ⊢
  have HBA : Hid (∀ W : World, Calls Try.prog 70 #[.agg #[.int .u8 (kind.toNat : Int), .int .i64 tenant, .string item.key, .string item.value, .int .u32 item.flags, .int .i64 item.til, .int .u64 item.unique, .string key, .int .u8 (why.toNat : Int), .int .i64 to, .bool primary]] W fun e w' => e = .returned (.agg #[.int .u8 (d.kind.toNat : Int), .int .i64 d.tenant, .string d.item.key, .string d.item.value, .int .u32 d.item.flags, .int .i64 d.item.til, .int .u64 d.item.unique, .string d.key, .int .u8 (d.why.toNat : Int), .int .i64 d.to, .bool d.primary]) ∧ Below W.heap.size W w') := hba
  have HNE : Hid ((d.kind.toNat : Int) = (kind.toNat : Int) → d.tenant = tenant → d.item.key.toList = item.key.toList → d.item.value.toList = item.value.toList → (d.item.flags : Int) = (item.flags : Int) → d.item.til = item.til → (d.item.unique : Int) = (item.unique : Int) → d.key.toList = key.toList → (d.why.toNat : Int) = (why.toNat : Int) → d.to = to → ¬ d.primary = primary) := by
    intro e1 e2 e3 e4 e5 e6 e7 e8 e9 e10 e11
    apply hb
    obtain ⟨k2, t2, ⟨a2, b2, f2, u2, x2⟩, c2, y2, o2, p2⟩ := d
    obtain ⟨a1, b1, f1, u1, x1⟩ := item
    simp only [] at e1 e2 e3 e4 e5 e6 e7 e8 e9 e10 e11
    have z1 : k2 = kind := UInt8.toNat_inj.1 (by omega)
    have z9 : y2 = why := UInt8.toNat_inj.1 (by omega)
    have z5 : f2 = f1 := by omega
    have z7 : x2 = x1 := by omega
    rw [z1, e2, ba_of e3, ba_of e4, z5, e6, z7, ba_of e8, z9, e10, e11]
  clear hba hb
  obtain ⟨X, hX⟩ : ∃ X, X = w.heap.size := ⟨_, rfl⟩
  obtain ⟨w1, hw1⟩ : ∃ w1, w1 = w.alloc (Obj.cells #[.int .u8 (kind.toNat : Int), .int .i64 tenant, .string item.key, .string item.value, .int .u32 item.flags, .int .i64 item.til, .int .u64 item.unique, .string key, .int .u8 (why.toNat : Int), .int .i64 to, .bool primary] 41) := ⟨_, rfl⟩
  have HBX : Hid (∀ V, Below w1.heap.size w1 V → V.cell? ⟨X, 0, none⟩ = some (.int .u8 (kind.toNat : Int)) ∧ V.cell? ⟨X, 1, none⟩ = some (.int .i64 tenant) ∧ V.cell? ⟨X, 2, none⟩ = some (.string item.key) ∧ V.cell? ⟨X, 3, none⟩ = some (.string item.value) ∧ V.cell? ⟨X, 4, none⟩ = some (.int .u32 item.flags) ∧ V.cell? ⟨X, 5, none⟩ = some (.int .i64 item.til) ∧ V.cell? ⟨X, 6, none⟩ = some (.int .u64 item.unique) ∧ V.cell? ⟨X, 7, none⟩ = some (.string key) ∧ V.cell? ⟨X, 8, none⟩ = some (.int .u8 (why.toNat : Int)) ∧ V.cell? ⟨X, 9, none⟩ = some (.int .i64 to) ∧ V.cell? ⟨X, 10, none⟩ = some (.bool primary)) := by
    intro V hV
    rw [hw1] at hV
    have hc := box_late hX hV
    exact ⟨hc 0 _ rfl, hc 1 _ rfl, hc 2 _ rfl, hc 3 _ rfl, hc 4 _ rfl, hc 5 _ rfl, hc 6 _ rfl, hc 7 _ rfl, hc 8 _ rfl, hc 9 _ rfl, hc 10 _ rfl⟩
  have hb01 : Below w.heap.size w w1 := by rw [hw1]; exact alb _ _
  go_enter Try.func50, Try.ntmps50
  go_upto_region 1 with fail
  rw [← hw1, ← hX]
  clear hw1 hX
  have hbD : Below w1.heap.size w1 w1.drew := (Below.refl _ _).drew
  obtain ⟨k0, k1, k2, k3, k4, k5, k6, k7, k8, k9, k10⟩ := HBX.out w1.drew hbD
  refine wp_region_noPanic ?_
  refine wp_region_held_drew (S := fun W => W.cell? ⟨X, 0, none⟩ = some (.int .u8 (kind.toNat : Int)) ∧ W.cell? ⟨X, 1, none⟩ = some (.int .i64 tenant) ∧ W.cell? ⟨X, 2, none⟩ = some (.string item.key) ∧ W.cell? ⟨X, 3, none⟩ = some (.string item.value) ∧ W.cell? ⟨X, 4, none⟩ = some (.int .u32 item.flags) ∧ W.cell? ⟨X, 5, none⟩ = some (.int .i64 item.til) ∧ W.cell? ⟨X, 6, none⟩ = some (.int .u64 item.unique) ∧ W.cell? ⟨X, 7, none⟩ = some (.string key) ∧ W.cell? ⟨X, 8, none⟩ = some (.int .u8 (why.toNat : Int)) ∧ W.cell? ⟨X, 9, none⟩ = some (.int .i64 to) ∧ W.cell? ⟨X, 10, none⟩ = some (.bool primary)) (by kernel_rfl) ⟨k0, k1, k2, k3, k4, k5, k6, k7, k8, k9, k10⟩ (fun _ => ?_)
  refine wpAnyH_take (i := 0) (v := .agg #[.int .u8 (kind.toNat : Int), .int .i64 tenant, .string item.key, .string item.value, .int .u32 item.flags, .int .i64 item.til, .int .u64 item.unique, .string key, .int .u8 (why.toNat : Int), .int .i64 to, .bool primary]) rfl (by kernel_rfl) (by kernel_rfl) (by kernel_rfl) (fun _ _ _ h => h) (Or.inl ⟨by kernel_rfl, fun W hW => by obtain ⟨m0, m1, m2, m3, m4, m5, m6, m7, m8, m9, m10⟩ := hW; go_simp⟩) ⟨k0, k1, k2, k3, k4, k5, k6, k7, k8, k9, k10⟩ ?_
  try simp only [List.getElem_toArray, List.getElem_cons_zero, List.getElem_cons_succ, Act.put, List.setIfInBounds_toArray, List.set_cons_zero, List.set_cons_succ, List.append_eq, List.cons_append, List.nil_append]
  refine wpAnyH_take (i := 2) (v := .agg #[.int .u8 (kind.toNat : Int), .int .i64 tenant, .string item.key, .string item.value, .int .u32 item.flags, .int .i64 item.til, .int .u64 item.unique, .string key, .int .u8 (why.toNat : Int), .int .i64 to, .bool primary]) rfl (by kernel_rfl) (by kernel_rfl) (by kernel_rfl) (fun _ _ _ h => h) (Or.inl ⟨by kernel_rfl, fun W hW => by obtain ⟨m0, m1, m2, m3, m4, m5, m6, m7, m8, m9, m10⟩ := hW; go_simp⟩) ⟨k0, k1, k2, k3, k4, k5, k6, k7, k8, k9, k10⟩ ?_
  try simp only [List.getElem_toArray, List.getElem_cons_zero, List.getElem_cons_succ, Act.put, List.setIfInBounds_toArray, List.set_cons_zero, List.set_cons_succ, List.append_eq, List.cons_append, List.nil_append]
  refine wpAnyH_ready (rs := [1]) (by kernel_rfl) (by simp) ?_
  refine AllReadyH.cons rfl (fun K hK => ?_) AllReadyH.nil
  simp only [List.getElem_toArray, List.getElem_cons_zero, List.getElem_cons_succ]
  go_simp
  go_at_call 70
  refine (HBA.out w1.drew).mono ?_
  rintro e w2 ⟨rfl, hb2⟩
  have hb12 : Below w1.heap.size w1 w2 := hbD.trans hb2
  have hm := HBX.out w2 hb12
  refine hK.out _ _ hm (fun _ => ?_)
  clear hK K
  try simp only [List.getElem_toArray, List.getElem_cons_zero, List.getElem_cons_succ, Act.put, List.setIfInBounds_toArray, List.set_cons_zero, List.set_cons_succ, List.append_eq, List.cons_append, List.nil_append]
  refine wpAnyH_take (i := 3) (v := .bool true) rfl (by kernel_rfl) (by kernel_rfl) (by kernel_rfl) (fun _ _ _ h => h) (Or.inl ⟨by kernel_rfl, fun W hW => by go_simp; exact HNE.out⟩) hm ?_
  try simp only [List.getElem_toArray, List.getElem_cons_zero, List.getElem_cons_succ, Act.put, List.setIfInBounds_toArray, List.set_cons_zero, List.set_cons_succ, List.append_eq, List.cons_append, List.nil_append]
  refine wpAnyH_take (i := 4) (v := .bool true) rfl (by kernel_rfl) (by kernel_rfl) (by kernel_rfl) (fun _ _ _ h => h) (Or.inl ⟨by kernel_rfl, fun W hW => by kernel_rfl⟩) hm ?_
  try simp only [List.getElem_toArray, List.getElem_cons_zero, List.getElem_cons_succ, Act.put, List.setIfInBounds_toArray, List.set_cons_zero, List.set_cons_succ, List.append_eq, List.cons_append, List.nil_append]
  refine wpAnyH_take (i := 5) (v := undef) rfl (by kernel_rfl) (by kernel_rfl) (by kernel_rfl) (fun _ _ _ h => h) (Or.inr ⟨by kernel_rfl, rfl⟩) hm ?_
  try simp only [List.getElem_toArray, List.getElem_cons_zero, List.getElem_cons_succ, Act.put, List.setIfInBounds_toArray, List.set_cons_zero, List.set_cons_succ, List.append_eq, List.cons_append, List.nil_append]
  refine wpAnyH_take (i := 6) (v := undef) rfl (by kernel_rfl) (by kernel_rfl) (by kernel_rfl) (fun _ _ _ h => h) (Or.inr ⟨by kernel_rfl, rfl⟩) hm ?_
  try simp only [List.getElem_toArray, List.getElem_cons_zero, List.getElem_cons_succ, Act.put, List.setIfInBounds_toArray, List.set_cons_zero, List.set_cons_succ, List.append_eq, List.cons_append, List.nil_append]
  refine wpAnyH_take (i := 7) (v := undef) rfl (by kernel_rfl) (by kernel_rfl) (by kernel_rfl) (fun _ _ _ h => h) (Or.inr ⟨by kernel_rfl, rfl⟩) hm ?_
  try simp only [List.getElem_toArray, List.getElem_cons_zero, List.getElem_cons_succ, Act.put, List.setIfInBounds_toArray, List.set_cons_zero, List.set_cons_succ, List.append_eq, List.cons_append, List.nil_append]
  refine wpAnyH_take (i := 8) (v := undef) rfl (by kernel_rfl) (by kernel_rfl) (by kernel_rfl) (fun _ _ _ h => h) (Or.inr ⟨by kernel_rfl, rfl⟩) hm ?_
  try simp only [List.getElem_toArray, List.getElem_cons_zero, List.getElem_cons_succ, Act.put, List.setIfInBounds_toArray, List.set_cons_zero, List.set_cons_succ, List.append_eq, List.cons_append, List.nil_append]
  refine wpAnyH_take (i := 9) (v := .bool true) rfl (by kernel_rfl) (by kernel_rfl) (by kernel_rfl) (fun _ _ _ h => h) (Or.inl ⟨by kernel_rfl, fun W hW => by kernel_rfl⟩) hm ?_
  try simp only [List.getElem_toArray, List.getElem_cons_zero, List.getElem_cons_succ, Act.put, List.setIfInBounds_toArray, List.set_cons_zero, List.set_cons_succ, List.append_eq, List.cons_append, List.nil_append]
  refine wpAnyH_done (by kernel_rfl) ?_ _
  refine NoPanic.normal ?_
  go_wp2
  go_ret
  exact ⟨rfl, hb01.trans (hb12.mono hb01.size)⟩

theorem refChange_any (c : Chg) (w : World) :
    Calls Try.prog 50 #[c.val] w fun e w' => e = .returned (.bool (chgOk c)) ∧ Below w.heap.size w w' := by
  by_cases hb : bareC c = c
  · by_cases ht : tenOk c.tenant = true
    · by_cases h1 : c.kind.toNat = 1
      · exact refChange1 c w hb ht h1
      by_cases h2 : c.kind.toNat = 2
      · exact refChange2 c w hb ht h2
      by_cases h3 : c.kind.toNat = 3
      · exact refChange3 c w hb ht h3
      by_cases h4 : c.kind.toNat = 4
      · exact refChange4 c w hb ht h4
      by_cases h5 : c.kind.toNat = 5
      · exact refChange5 c w hb ht h5
      by_cases h6 : c.kind.toNat = 6
      · exact refChange6 c w hb ht h6
      by_cases h7 : c.kind.toNat = 7
      · exact refChange7 c w hb ht h7
      exact refChange0 c w hb ht (fun i a b => by omega)
    · exact refChange_ten c w hb (by simpa using ht)
  · exact refChange_not c w hb


theorem refChange_row (c : Chg) (w : World) : Calls Try.prog 50 #[.agg #[.int .u8 (c.kind.toNat : Int), .int .i64 c.tenant, .string c.item.key, .string c.item.value, .int .u32 c.item.flags, .int .i64 c.item.til, .int .u64 c.item.unique, .string c.key, .int .u8 (c.why.toNat : Int), .int .i64 c.to, .bool c.primary]] w fun e w' => e = .returned (.bool (chgOk c)) ∧ Below w.heap.size w w' := refChange_any c w
theorem refOne_row (c : Chg) (w : World) (hok : chgOk c = true) (hg : c.Good) : Calls Try.prog 51 #[.agg #[.int .u8 (c.kind.toNat : Int), .int .i64 c.tenant, .string c.item.key, .string c.item.value, .int .u32 c.item.flags, .int .i64 c.item.til, .int .u64 c.item.unique, .string c.key, .int .u8 (c.why.toNat : Int), .int .i64 c.to, .bool c.primary]] w fun e w' => ∃ v', e = .returned v' ∧ Own w' w.heap.size v' (chgB c) ∧ Below w.heap.size w w' := refOne_any c w hok hg
theorem own_down {w : World} {b b' : Nat} {v : Value} {l : List UInt8} (h : Own w b v l) (hb : b' ≤ b) : Own w b' v l := ⟨h.1, by
  rcases h.2 with h | ⟨g, cap, cur, h1, h2, h3⟩
  · exact .inl h
  · exact .inr ⟨g, cap, cur, h1, Nat.le_trans hb h2, h3⟩⟩

set_option maxHeartbeats 1000000 in
theorem refChanges_row (w : World) (b off : Nat) (cs : List Chg) (cap : Nat) (hlen : cs.length ≤ 4096) (hbl : b < w.heap.size) (hc : ∀ i (hi : i < cs.length) j (hj : j < 11), w.cell? ⟨b, off + i * 11 + j, none⟩ = some (cs[i].cells[j]'(by simp [Chg.cells]; omega))) (hgood : ∀ c ∈ cs, c.Good) :
    Calls Try.prog 27 #[.slice (some ⟨b, off, none⟩) cs.length cap] w fun e w' => ∃ v', e = .returned (.tuple #[v', .int .i64 (chsE cs)]) ∧ Own w' w.heap.size v' (chsB cs) ∧ Below w.heap.size w w' := by
  have HC : Hid (∀ i (hi : i < cs.length) j (hj : j < 11), w.cell? ⟨b, off + i * 11 + j, none⟩ = some (cs[i].cells[j]'(by simp [Chg.cells]; omega))) := hc
  have HG : Hid (∀ c ∈ cs, c.Good) := hgood
  clear hc hgood
  have hl1 : (cs.length : Int) ≤ 4096 := by omega
  have h4 : ¬ 4096 < cs.length := by omega
  have e1 := small_len cs.length
  go_enter Try.func27, Try.ntmps27
  go_wp2_with (go_at_call 49; refine (refSmall1 w cs.length (by omega)).mono ?_; rintro e w2 ⟨v2, rfl, ho2, hb02⟩)
  go_loopw [5] (fun i wr => ∃ k : Nat, k ≤ cs.length ∧ i = .int .i64 k ∧ Below w.heap.size w wr ∧ Own wr w.heap.size v2 (small cs.length) ∧ (∀ i (hi : i < cs.length), i < k → chgOk cs[i] = true)) (fun i _ => cs.length - (intOf i).toNat)
  case atStart => exact ⟨0, Nat.zero_le _, rfl, hb02, ho2, fun _ _ h => absurd h (by omega)⟩
  case round =>
    obtain ⟨k, hk, rfl, hb, ho, hoks⟩ := hrel
    have HOK : Hid (∀ i (hi : i < cs.length), i < k → chgOk cs[i] = true) := hoks
    clear hoks ho2 hb02
    by_cases hlt : k < cs.length
    · have hlt2 : (k : Int) < (cs.length : Int) := by omega
      obtain ⟨c, hce⟩ : ∃ c, c = cs[k] := ⟨_, rfl⟩
      have hL := lies_of HC.out k hlt
      rw [← hce] at hL
      have HCE : Hid (c = cs[k]) := hce
      clear hce
      have hbl2 : b < wr.heap.size := Nat.lt_of_lt_of_le hbl hb.size
      have hm := fun o => hb.cell (p := ⟨b, o, none⟩) hbl
      obtain ⟨q0, q1, q2, q3, q4, q5, q6, q7, q8, q9, q10⟩ := hL
      rw [← hm] at q0 q1 q2 q3 q4 q5 q6 q7 q8 q9 q10
      clear hm
      by_cases hok : chgOk c = true
      · go_wp2_with (go_at_call 50; refine (refChange_row c _).mono ?_; rintro e w1 ⟨rfl, hb1⟩)
        go_roundw
        case rel => exact ⟨k + 1, by omega, by go_num, hb.trans (hb1.mono hb.size), ho.kept hb1, fun i hi h => by
          by_cases e : i = k
          · subst e; rw [← HCE.out]; exact hok
          · exact HOK.out i hi (by omega)⟩
        case measure => simp [intOf]; omega
      · have hok2 : chgOk c = false := by simpa using hok
        clear hok
        have HAF : Hid (allOk cs = false) := allOk_false hlt (by rw [← HCE.out]; exact hok2)
        go_wp2_with (go_at_call 50; refine (refChange_row c _).mono ?_; rintro e w1 ⟨rfl, hb1⟩)
        go_ret2
        have e1 : chsB cs = [] := by unfold chsB; rw [if_neg h4, if_pos HAF.out]
        have e2 : chsE cs = 8 := by unfold chsE; rw [if_neg h4, if_pos HAF.out]
        rw [e1, e2]
        exact ⟨_, rfl, Own.nil _ _, hb.trans (hb1.mono hb.size)⟩
    · have HAT : Hid (allOk cs = true) := allOk_true (fun i hi => HOK.out i hi (by omega))
      have HALL : Hid (∀ c ∈ cs, chgOk c = true) := by
        intro c hc
        obtain ⟨i, hi, rfl⟩ := List.mem_iff_getElem.1 hc
        exact HOK.out i hi (by omega)
      go_wp2
      go_loopw [4, 6] (fun u i wq => ∃ m : Nat, m ≤ cs.length ∧ i = .int .i64 m ∧ Below w.heap.size w wq ∧ Own wq w.heap.size u (small cs.length ++ (cs.take m).flatMap chgB)) (fun _ i _ => cs.length - (intOf i).toNat)
      case atStart => exact ⟨0, Nat.zero_le _, rfl, hb, by simpa using ho⟩
      case round =>
        obtain ⟨m, hmle, rfl, hbq, hoq⟩ := hrel
        have hfl := flat_len (cs.take m) (fun c hc => HALL.out c (List.mem_of_mem_take hc))
        have hfl2 : (small cs.length ++ (cs.take m).flatMap chgB).length ≤ 3000000 := by
          rw [List.length_take] at hfl
          simp only [List.length_append]
          have : min m cs.length ≤ 4096 := by omega
          omega
        clear hfl ho hb
        have HTOT : Hid ((small cs.length ++ (cs.take m).flatMap chgB).length ≤ (chsBytes cs).length) := by
          show _ ≤ _
          unfold chsBytes
          have : cs.flatMap chgB = (cs.take m).flatMap chgB ++ (cs.drop m).flatMap chgB := by rw [← List.flatMap_append, List.take_append_drop]
          rw [this]
          simp only [List.length_append]
          omega
        obtain ⟨ao, cp, hv, h1, h2, h3, h5⟩ := hoq.at
        have hsz := hbq.size
        by_cases hml : m < cs.length
        · have hml2 : (m : Int) < (cs.length : Int) := by omega
          by_cases hbig : 65536 < (small cs.length ++ (cs.take m).flatMap chgB).length
          · have HBIG : Hid (65536 < (chsBytes cs).length) := Nat.lt_of_lt_of_le hbig HTOT.out
            obtain ⟨bl, hbl'⟩ : ∃ bl, bl = (small cs.length ++ (cs.take m).flatMap chgB).length := ⟨_, rfl⟩
            rw [← hbl'] at hv hbig
            clear hbl' hfl2 h1
            have hbig2 : ¬ (bl : Int) ≤ 65536 := by omega
            have hbig3 : (65536 : Int) < (bl : Int) := by omega
            have hd : decide ((bl : Int) ≤ 65536) = false := by simpa using hbig3
            clear hoq
            subst hv
            go_wp2
            go_ret2
            have e1 : chsB cs = [] := by unfold chsB; rw [if_neg h4, if_neg (by rw [HAT.out]; decide), if_pos HBIG.out]
            have e2 : chsE cs = 3 := by unfold chsE; rw [if_neg h4, if_neg (by rw [HAT.out]; decide), if_pos HBIG.out]
            rw [e1, e2]
            exact ⟨_, rfl, Own.nil _ _, hbq⟩
          · obtain ⟨c, hce⟩ : ∃ c, c = cs[m] := ⟨_, rfl⟩
            have hL := lies_of HC.out m hml
            rw [← hce] at hL
            have hok : chgOk c = true := by rw [hce]; exact HALL.out _ (List.getElem_mem hml)
            have hgd : c.Good := by rw [hce]; exact HG.out _ (List.getElem_mem hml)
            have hcl : (chgB c).length ≤ 605 := by have := flat_len [c] (by simpa using hok); simpa using this
            have HCE : Hid (c = cs[m]) := hce
            clear hce
            have hbl2 : b < wr.heap.size := Nat.lt_of_lt_of_le hbl hbq.size
            have hm := fun o => hbq.cell (p := ⟨b, o, none⟩) hbl
            obtain ⟨q0, q1, q2, q3, q4, q5, q6, q7, q8, q9, q10⟩ := hL
            rw [← hm] at q0 q1 q2 q3 q4 q5 q6 q7 q8 q9 q10
            clear hm
            obtain ⟨P, hP⟩ : ∃ P, P = small cs.length ++ (cs.take m).flatMap chgB := ⟨_, rfl⟩
            have HP : Hid (P ++ chgB c = small cs.length ++ (cs.take (m + 1)).flatMap chgB) := by
              show _ = _
              rw [take_flat hml, ← HCE.out, ← List.append_assoc, hP]
            rw [← hP] at hoq hv hfl2 hbig h1
            clear hP
            have hbig2 : (P.length : Int) ≤ 65536 := by omega
            have hone := refOne_row c wr hok hgd
            subst hv
            go_wp2_with (first
              | (go_at_call 51; refine hone.mono ?_; rintro e w3 ⟨v3, rfl, ho3, hb3⟩; have hoq3 := hoq.kept hb3; have hs3 := hb3.size)
              | (at_builtin; refine app_own rfl (.tmp 37) (.tmp 42) rfl w.heap.size _ _ hoq3 rfl _ _ _ ho3 rfl (by omega) (by omega) ?_; intro v4 w4 ho4 hg4))
            go_roundw
            case rel => exact ⟨m + 1, by omega, by go_num, (hbq.trans (hb3.mono hsz)).trans (hg4.below hoq3 (by omega)), by rw [← HP.out]; exact ho4⟩
            case measure => simp [intOf]; omega
        · have hmm : m = cs.length := by omega
          have HB : Hid (small cs.length ++ (cs.take m).flatMap chgB = chsBytes cs) := by
            show _ = _
            rw [hmm, List.take_length]; rfl
          clear hmm
          obtain ⟨bs, hbs⟩ : ∃ bs, bs = small cs.length ++ (cs.take m).flatMap chgB := ⟨_, rfl⟩
          rw [← hbs] at hoq hfl2 hv
          have HBS : Hid (bs = chsBytes cs) := hbs.trans HB.out
          clear hbs h1
          by_cases hbig : 65536 < bs.length
          · have hbig2 : (65536 : Int) < (bs.length : Int) := by omega
            rw [hv] at hoq ⊢
            go_wp2
            go_ret2
            have e1 : chsB cs = [] := by unfold chsB; rw [if_neg h4, if_neg (by rw [HAT.out]; decide), ← HBS.out, if_pos hbig]
            have e2 : chsE cs = 3 := by unfold chsE; rw [if_neg h4, if_neg (by rw [HAT.out]; decide), ← HBS.out, if_pos hbig]
            rw [e1, e2]
            exact ⟨_, rfl, Own.nil _ _, hbq⟩
          · have hbig2 : (bs.length : Int) ≤ 65536 := by omega
            rw [hv] at hoq ⊢
            go_wp2
            go_ret2
            have e1 : chsB cs = bs := by unfold chsB; rw [if_neg h4, if_neg (by rw [HAT.out]; decide), ← HBS.out, if_neg hbig]
            have e2 : chsE cs = 0 := by unfold chsE; rw [if_neg h4, if_neg (by rw [HAT.out]; decide), ← HBS.out, if_neg hbig]
            rw [e1, e2]
            exact ⟨_, rfl, hoq, hbq⟩


theorem Rd.made3 (w : World) (B : Nat) (ao : Option Addr) (l : List UInt8) (cap : Nat) (hb : BsAt w B ao l) (h1 : l.length ≤ cap) (h2 : cap ≤ maxLen) (h3 : ao = none → cap = 0) (hB : B ≤ w.heap.size) (t : TypeId) :
    Rd (w.alloc (.cells #[.slice ao l.length cap, .bool false] t)) B w.heap.size ⟨l, false⟩ := by
  refine ⟨⟨ao, cap, by simp, hb.below ((Below.refl B w).alloc hB _) (Nat.le_refl _), h1, h2, h3⟩, by simp, World.frozen?_alloc_new _ _ _ _, World.frozen?_alloc_new _ _ _ _, hB, by simp⟩
theorem refChanges_many (w : World) (ao : Option Addr) (cs : List Chg) (cap : Nat) (hlen : 4096 < cs.length) (hm : cs.length ≤ maxLen) :
    Calls Try.prog 27 #[.slice ao cs.length cap] w fun e w' => ∃ v', e = .returned (.tuple #[v', .int .i64 (chsE cs)]) ∧ Own w' w.heap.size v' (chsB cs) ∧ Below w.heap.size w w' := by
  have hl1 : (4096 : Int) < (cs.length : Int) := by omega
  unfold maxLen at hm
  have e1 : chsB cs = [] := by unfold chsB; rw [if_pos hlen]
  have e2 : chsE cs = 4 := by unfold chsE; rw [if_pos hlen]
  rw [e1, e2]
  clear e1 e2
  go_enter Try.func27, Try.ntmps27
  go_wp2
  go_ret2
  exact ⟨_, rfl, Own.nil _ _, Below.refl _ _⟩
theorem refChanges_none (w : World) (ao : Option Addr) (cap : Nat) :
    Calls Try.prog 27 #[.slice ao 0 cap] w fun e w' => ∃ v', e = .returned (.tuple #[v', .int .i64 (chsE [])]) ∧ Own w' w.heap.size v' (chsB []) ∧ Below w.heap.size w w' := by
  have e1 : chsB [] = small 0 := by decide
  have e2 : chsE [] = 0 := by decide
  rw [e1, e2]
  clear e1 e2
  have hc0 := refSmall1 w 0 (by omega)
  have hl0 : (small 0).length = 1 := by decide
  go_enter Try.func27, Try.ntmps27
  go_wp2_with (go_at_call 49; refine hc0.mono ?_; rintro e w2 ⟨v2, rfl, ho2, hb2⟩)
  refine wp_loop_rounds 1 ?_
  rw [rounds_succ]
  obtain ⟨ao2, cap2, hv2, _, _, _, _⟩ := ho2.at
  rw [hl0] at hv2
  rw [hv2] at ho2 ⊢
  go_wp2
  refine wp_loop_rounds 1 ?_
  rw [rounds_succ]
  go_wp2
  go_ret2
  exact ⟨_, rfl, ho2, hb2⟩
theorem refChanges_any (w : World) (B : Nat) (ao : Option Addr) (cs : List Chg) (cap : Nat) (h : ChAt w B ao cs) (hB : B ≤ w.heap.size) (hm : cs.length ≤ maxLen) (hgood : ∀ c ∈ cs, c.Good) :
    Calls Try.prog 27 #[.slice ao cs.length cap] w fun e w' => ∃ v', e = .returned (.tuple #[v', .int .i64 (chsE cs)]) ∧ Own w' w.heap.size v' (chsB cs) ∧ Below w.heap.size w w' := by
  by_cases hlen : 4096 < cs.length
  · exact refChanges_many w ao cs cap hlen hm
  · rcases h with rfl | ⟨b, off, rfl, hb, hc⟩
    · exact refChanges_none w ao cap
    · exact refChanges_row w b off cs cap (by omega) (by omega) hc hgood

theorem refRChg_any (w : World) (B rb : Nat) (s : St) (h : Rd w B rb s) :
    Calls Try.prog 53 #[.pointer (some ⟨rb, 0, none⟩)] w fun e w' => e = .returned (dChg s).1.val ∧ Rd w' B rb (dChg s).2 ∧ w.grownBy w' (some rb) := by
  unfold dChg
  by_cases h1 : (dByte s).1.toNat = 1
  · rw [if_pos h1]; exact refRChg1 w B rb s h h1
  rw [if_neg h1]
  by_cases h2 : (dByte s).1.toNat = 2
  · rw [if_pos h2]; exact refRChg2 w B rb s h h2
  rw [if_neg h2]
  by_cases h3 : (dByte s).1.toNat = 3
  · rw [if_pos h3]; exact refRChg3 w B rb s h h3
  rw [if_neg h3]
  by_cases h4 : (dByte s).1.toNat = 4
  · rw [if_pos h4]; exact refRChg4 w B rb s h h4
  rw [if_neg h4]
  by_cases h5 : (dByte s).1.toNat = 5
  · rw [if_pos h5]; exact refRChg5 w B rb s h h5
  rw [if_neg h5]
  by_cases h6 : (dByte s).1.toNat = 6
  · rw [if_pos h6]; exact refRChg6 w B rb s h h6
  rw [if_neg h6]
  by_cases h7 : (dByte s).1.toNat = 7
  · rw [if_pos h7]; exact refRChg7 w B rb s h h7
  rw [if_neg h7]
  exact refRChg0 w B rb s h (fun i a b => by omega)
theorem refRChg_row (w : World) (B rb : Nat) (s : St) (h : Rd w B rb s) (c : Chg) (st : St) (hp : (c, st) = dChg s) :
    Calls Try.prog 53 #[.pointer (some ⟨rb, 0, none⟩)] w fun e w' => e = .returned (.agg #[.int .u8 (c.kind.toNat : Int), .int .i64 c.tenant, .string c.item.key, .string c.item.value, .int .u32 c.item.flags, .int .i64 c.item.til, .int .u64 c.item.unique, .string c.key, .int .u8 (c.why.toNat : Int), .int .i64 c.to, .bool c.primary]) ∧ Rd w' B rb st ∧ w.grownBy w' (some rb) := by
  have := refRChg_any w B rb s h
  rw [← hp] at this
  exact this
theorem OwnC.down {w : World} {b b' : Nat} {v : Value} {cs : List Chg} (h : OwnC w b v cs) (hb : b' ≤ b) : OwnC w b' v cs := ⟨h.1, by
  rcases h.2 with h | ⟨g, cap, cur, h1, h2, h3⟩
  · exact .inl h
  · exact .inr ⟨g, cap, cur, h1, Nat.le_trans hb h2, h3⟩⟩

set_option maxHeartbeats 1000000 in
theorem refOfChanges_any (w : World) (B : Nat) (ao : Option Addr) (l : List UInt8) (cap : Nat) (hb : BsAt w B ao l) (h1 : l.length ≤ cap) (h2 : cap ≤ maxLen) (h3 : ao = none → cap = 0) (hB : B ≤ w.heap.size) :
    Calls Try.prog 28 #[.slice ao l.length cap] w fun e w' => ∃ v', e = .returned (.tuple #[v', .int .i64 (ofChs l).2]) ∧ OwnC w' w.heap.size v' (ofChs l).1 ∧ Below w.heap.size w w' := by
  rw [← doc_chs l]
  have hlm : l.length ≤ maxLen := by omega
  unfold maxLen at hlm
  by_cases hbig : 65536 < l.length
  · have hbi : (65536 : Int) < (l.length : Int) := by omega
    have e : docChs l = ([], 3) := by unfold docChs; rw [if_pos hbig]
    rw [e]
    clear hb h1 h2 h3
    go_enter Try.func28, Try.ntmps28
    go_wp2
    go_ret2
    exact ⟨_, rfl, OwnC.nil _ _, Below.refl _ _⟩
  · have hbi : (l.length : Int) ≤ 65536 := by omega
    have e : docChs l = docEnd l (dMany (dNum 4096 ⟨l, false⟩).1 (dNum 4096 ⟨l, false⟩).2) := by unfold docChs; rw [if_neg hbig]
    rw [e]
    clear e
    have hrd := Rd.made3 w B ao l cap hb h1 h2 h3 hB 90
    have HBS : Hid (BsAt w B ao l) := hb
    clear hb h1 h2 h3
    have hc := refNumber_any _ B w.heap.size ⟨l, false⟩ 4096 hrd
    have hle := dNum_le 4096 ⟨l, false⟩
    have HGM : Hid (∀ n s, ∀ c ∈ (dMany n s).1, c.Good) := dMany_good
    obtain ⟨p, hp⟩ : ∃ p, p = dNum 4096 ⟨l, false⟩ := ⟨_, rfl⟩
    rw [← hp] at hc hle ⊢
    clear hp hrd
    obtain ⟨N, st0⟩ := p
    simp only [] at hc hle ⊢
    go_enter Try.func28, Try.ntmps28
    go_wp2_with (go_at_call 52; refine hc.mono ?_; rintro e w1 ⟨rfl, hr1, hg1⟩)
    have hsz1 : w.heap.size < w1.heap.size := size_alloc_lt hg1.size
    have hbe1 : Below w.heap.size w w1 := ((Below.refl _ _).alloc (Nat.le_refl _) _).grown hg1 (by simp) (fun k hk => by cases hk; exact Nat.le_refl _)
    clear hc hg1
    go_loopw [6, 7] (fun u i wr => ∃ (k : Nat) (cs : List Chg) (st : St), k ≤ N ∧ i = .int .u64 k ∧ cs.length = k ∧ dMany N st0 = (cs ++ (dMany (N - k) st).1, (dMany (N - k) st).2) ∧ OwnC wr (w.heap.size + 1) u cs ∧ Rd wr B w.heap.size st ∧ Below w.heap.size w wr) (fun _ i _ => N - (intOf i).toNat)
    case atStart => exact ⟨0, [], st0, Nat.zero_le _, rfl, rfl, by simp, OwnC.nil _ _, hr1, hbe1⟩
    case round =>
      obtain ⟨k, cs, st, hk, rfl, hcl, hrm, ho, hr, hbe⟩ := hrel
      have HRM : Hid (dMany N st0 = (cs ++ (dMany (N - k) st).1, (dMany (N - k) st).2)) := hrm
      have HCL : Hid (cs.length = k) := hcl
      clear hrm hcl hr1 hbe1 hsz1
      have hszr : w.heap.size < wr.heap.size := hr.lt
      have hfl := hr.flag
      have hex : (k < N ∧ st.bad = false) ∨ ((decide ((k : Int) < (N : Int)) = false ∧ ¬ (k : Int) < (N : Int)) ∨ ((k : Int) < (N : Int) ∧ st.bad = true)) ∧ dMany (N - k) st = ([], st) := by
        by_cases hlt : k < N
        · cases hbd : st.bad with
          | false => exact .inl ⟨hlt, rfl⟩
          | true => exact .inr ⟨.inr ⟨by omega, rfl⟩, dMany_bad _ _ hbd⟩
        · refine .inr ⟨.inl ⟨by simp; omega, by omega⟩, ?_⟩
          rw [show N - k = 0 by omega]
          rfl
      rcases hex with ⟨hlt, hbd⟩ | ⟨hex, hT0⟩
      · have hlt2 : (k : Int) < (N : Int) := by omega
        have HST : Hid (dMany N st0 = ((cs ++ [(dChg st).1]) ++ (dMany (N - (k + 1)) (dChg st).2).1, (dMany (N - (k + 1)) (dChg st).2).2)) := dMany_step HRM.out hlt hbd
        obtain ⟨⟨c, st'⟩, hp⟩ : ∃ p, p = dChg st := ⟨_, rfl⟩
        have hcc := refRChg_row wr B w.heap.size st hr c st' hp
        rw [← hp] at HST
        clear hp HRM
        rw [hbd] at hfl
        clear hbd
        go_wp2_with (first
          | (at_builtin; refine app_chg rfl (.tmp 30) (.tmp 33) rfl (w.heap.size + 1) _ cs ho2 rfl c rfl _ rfl (by simp) (by have := HCL.out; omega) (by omega) ?_; intro v4 w4 ho4 hg4)
          | (go_at_call 53; refine hcc.mono ?_; rintro e w2 ⟨rfl, hr2, hg2⟩; have hrb := hr2.lt; have ho2 := (ho.grown hg2 (fun k hk e => by have := (ho.lt k hk).1; cases e; omega))))
        have hs2 := hg2.size
        have hne : ∀ j, u6.ownBlock = some j → w.heap.size + 1 ≤ j := fun j hj => (ho.lt j hj).1
        have hr4 : Rd w4 B w.heap.size st' := hr2.grown hg4.grown (fun e => by have := hne _ e.symm; omega) (fun j hj => by have := hne j hj; omega)
        have hbe2 : Below w.heap.size w w2 := hbe.grown hg2 (by omega) (fun k hk => by cases hk; exact Nat.le_refl _)
        have hbe4 : Below w.heap.size w w4 := hbe2.grown hg4.grown (by omega) (fun j hj => by have := hne j hj; omega)
        go_roundw
        case rel => exact ⟨k + 1, cs ++ [c], st', by omega, by go_num, by simp [HCL.out], HST.out, ho4, hr4, hbe4⟩
        case measure => simp [intOf]; omega
      · have HDM : Hid (dMany N st0 = (cs, st)) := by
          show _ = _
          rw [HRM.out, hT0]; simp
        have hgd : ∀ c ∈ cs, c.Good := by have := HGM.out N st0; rw [HDM.out] at this; exact this
        clear hT0 HRM
        obtain ⟨uo, uc, hu, hu1, hu2, hch⟩ := ho.at
        have hcm : cs.length ≤ maxLen := Nat.le_trans hu1 hu2
        have hchg := refChanges_any wr wr.heap.size uo cs uc hch (Nat.le_refl _) hcm hgd
        have hof := chsE_cases cs
        have hlu : (cs.length : Int) ≤ 4096 := by have := HCL.out; omega
        subst hu
        obtain ⟨E, hE⟩ : ∃ E, E = chsE cs := ⟨_, rfl⟩
        obtain ⟨P, hP⟩ : ∃ P, P = chsB cs := ⟨_, rfl⟩
        have HEND : Hid (docEnd l (dMany N st0) = if st.bad = true then ([], 8) else if E = 0 ∧ P = l then (cs, 0) else ([], 8)) := by
          show _ = _
          rw [HDM.out, hE, hP]
          rfl
        have hHC : Hid (Calls Try.prog 27 #[.slice uo cs.length uc] wr fun e w' => ∃ v', e = .returned (.tuple #[v', .int .i64 E]) ∧ Own w' wr.heap.size v' P ∧ Below wr.heap.size wr w') := by rw [hE, hP]; exact hchg
        rw [← hE, ← hP] at hof
        clear hE hP hchg HDM hgd hch hu1 hu2 hcm
        have hfx : ∀ q : Prop, (st.bad = true → (decide ((k : Int) < (N : Int)) = false ∧ ¬ (k : Int) < (N : Int) ∨ (k : Int) < (N : Int)) → q) → (st.bad = false → decide ((k : Int) < (N : Int)) = false → ¬ (k : Int) < (N : Int) → q) → q := by
          intro q q1 q2
          rcases hex with ⟨a, b⟩ | ⟨a, b⟩
          · cases hbb : st.bad with
            | true => exact q1 hbb (.inl ⟨a, b⟩)
            | false => exact q2 hbb a b
          · exact q1 b (.inr a)
        clear hex
        refine hfx _ (fun hbd hx => ?_) (fun hbd hx1 hx2 => ?_)
        · have HE8 : Hid (docEnd l (dMany N st0) = ([], 8)) := by
            show _ = _
            rw [HEND.out, if_pos hbd]
          rw [hbd] at hfl
          clear HEND hHC hfx hof hbd
          rcases hx with ⟨a, b⟩ | a
          all_goals
            go_wp2
            go_ret2
            rw [HE8.out]
            exact ⟨_, rfl, OwnC.nil _ _, hbe⟩
        · rw [hbd] at hfl
          have HBD : Hid (st.bad = false) := hbd
          clear hfx hbd
          rcases hof with h0 | ⟨h0, h00⟩
          · subst h0
            by_cases hPl : P = l
            · subst hPl
              have HE0 : Hid (docEnd P (dMany N st0) = (cs, 0)) := by
                show _ = _
                rw [HEND.out, if_neg (by rw [HBD.out]; decide), if_pos ⟨rfl, rfl⟩]
              clear HEND
              go_wp2_with (go_at_call 27; refine hHC.out.mono ?_; rintro e w5 ⟨v5, rfl, ho5, hb5⟩; have hcv1 := ho5.conv _ (Below.refl _ _); have hcv2 := conv_bytes w5 w.heap.size ao P cap (((HBS.out.below (Below.mono hbe hB) hB)).below (hb5.mono hbe.size) (Nat.le_refl _)))
              go_ret2
              rw [HE0.out]
              exact ⟨_, rfl, (ho.below hb5).down (by omega), hbe.trans (hb5.mono hbe.size)⟩
            · have HE8 : Hid (docEnd l (dMany N st0) = ([], 8)) := by
                show _ = _
                rw [HEND.out, if_neg (by rw [HBD.out]; decide), if_neg (fun h => hPl h.2)]
              obtain ⟨X, hX⟩ : ∃ X : ByteArray, X = ⟨P.toArray⟩ := ⟨_, rfl⟩
              obtain ⟨Y, hY⟩ : ∃ Y : ByteArray, Y = ⟨l.toArray⟩ := ⟨_, rfl⟩
              have hx3 : (X.toList == Y.toList) = false := by rw [hX, hY, ByteArray.toList_mk, ByteArray.toList_mk]; simpa using hPl
              have HX : Hid (X = ⟨P.toArray⟩) := hX
              have HY : Hid (Y = ⟨l.toArray⟩) := hY
              clear hX hY HEND hPl
              go_wp2_with (go_at_call 27; refine hHC.out.mono ?_; rintro e w5 ⟨v5, rfl, ho5, hb5⟩; have hcv1 := ho5.conv _ (Below.refl _ _); have hcv2 := conv_bytes w5 w.heap.size ao l cap (((HBS.out.below (Below.mono hbe hB) hB)).below (hb5.mono hbe.size) (Nat.le_refl _)); rw [← HX.out] at hcv1; rw [← HY.out] at hcv2)
              go_ret2
              rw [HE8.out]
              exact ⟨_, rfl, OwnC.nil _ _, hbe.trans (hb5.mono hbe.size)⟩
          · have HE8 : Hid (docEnd l (dMany N st0) = ([], 8)) := by
              show _ = _
              rw [HEND.out, if_neg (by rw [HBD.out]; decide), if_neg (fun h => h0 h.1)]
            have h0' : (E != 0) = true := by simpa using h0
            clear HEND h00
            go_wp2_with (go_at_call 27; refine hHC.out.mono ?_; rintro e w5 ⟨v5, rfl, ho5, hb5⟩)
            go_ret2
            rw [HE8.out]
            exact ⟨_, rfl, OwnC.nil _ _, hbe.trans (hb5.mono hbe.size)⟩

end Go.Proofs.Ytlhlleokehkolaa
