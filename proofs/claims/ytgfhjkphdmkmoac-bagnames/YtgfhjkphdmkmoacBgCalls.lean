/-
  Contracts of the bag's small functions: copied, piece, arePlaces, appendCopies.
-/
import Derived.Test.YtgfhjkphdmkmoacBgMem
import Derived.Test.YtgfhjkphdmkmoacBgPure
namespace Go.Proofs.Ytgfhjkphdmkmoac
open Go.RowKit
set_option linter.unusedSimpArgs false
set_option linter.unusedVariables false
set_option maxRecDepth 100000

theorem made_row {w1 : World} {B g n : Nat} (ho : w1.ownsRow B 5 1 (.slice (some ⟨g, 0, none⟩) n n) n (madeCells (Value.int .u8 0).cells (n * 1)).toList) :
    w1.heap[g]? = some (.cells ((List.replicate n (0 : UInt8)).map bcell).toArray 5 (0, 0)) := by
  rw [made_zero] at ho
  rcases ho.2 with ⟨h, _⟩ | ⟨g', cap, cur, h, hb, hg, hnc, hcm, hcs, htake⟩
  · cases h
  · cases h
    have e : cur.toList = (List.replicate n (0 : UInt8)).map bcell := by
      rw [← htake, List.take_of_length_le]
      simp [hcs]
    rw [hg]
    congr 1
    rw [← e]
theorem splice_all (l : List UInt8) : splice ((List.replicate l.length (0 : UInt8)).map bcell) 0 (l.map bcell) = l.map bcell := by
  unfold splice
  rw [List.take_zero, List.nil_append, List.drop_of_length_le (by simp), List.append_nil]

theorem bcopied_any (w : World) (ao : Option Addr) (l : List UInt8) (cap : Nat) (hb : BsAt w w.heap.size ao l) (hl : l.length ≤ 140737488355328) :
    Calls Try.prog 41 #[.slice ao l.length cap] w fun e w' => ∃ v', e = .returned v' ∧ Fresh w' w.heap.size v' l ∧ Below w.heap.size w w' := by
  obtain ⟨i0, hi, hz0, hz1, hz2⟩ := info_parts Try.infoByte
  have HB : Hid (BsAt w w.heap.size ao l) := hb
  clear hb
  go_enter Try.func41, Try.ntmps41
  go_wp2_with (first
    | (refine wpList_make_full _ rfl (.tmp 5) (.tmp 5) 22 rfl w.heap.size 5 i0 _ 1 Try.underlying22 hi hz0 hz1 .i64 .i64 _ _ l.length rfl rfl (by rfl) (by rfl) (by rw [hz2]; omega) (by unfold maxLen; omega) (Nat.le_refl _) ?_; intro w1 ho1 hg1; have HR : Hid (w1.heap[w.heap.size]? = some (.cells ((List.replicate l.length (0 : UInt8)).map bcell).toArray 5 (0, 0))) := made_row ho1; have hb1 : Below w.heap.size w w1 := (Below.refl _ _).grown hg1 (Nat.le_refl _) (fun k hk => by cases hk); clear ho1 hg1)
    | (refine wpList_copy_splice rfl (.tmp 7) (.tmp 8) 22 22 rfl 5 Try.underlying22 (by rw [hi]; simp [hz1]) (some ⟨w.heap.size, 0, none⟩) ao l.length l.length l.length cap rfl rfl w.heap.size 0 _ 5 HR.out (l.map bcell) (by simp) (by
        intro hp
        refine ⟨rfl, ?_⟩
        rcases HB.out with h | ⟨b, off, rfl, hlt, hc⟩
        · rw [h] at hp; simp at hp
        · exact ⟨_, rfl, bs_news (B := w.heap.size) (fun j hj => (hb1.cell (p := ⟨b, off + j, none⟩) hlt).trans (hc j hj))⟩) (by simp) (bcell_one l) w.heap.size w hb1 (Nat.le_refl _) ?_; intro w2 HR2 hb2; rw [splice_all] at HR2))
  go_ret
  refine ⟨_, rfl, ⟨some ⟨w.heap.size, 0, none⟩, l.length, rfl, Nat.le_refl _, by unfold maxLen; omega, (by intro e; cases e), .inr ⟨w.heap.size, _, rfl, Nat.le_refl _, HR2.out, by simp, by rw [List.take_of_length_le (by simp)]⟩⟩, hb2⟩

/-- b[from:to:to], copied -/
theorem piece_any (w : World) (ao : Option Addr) (b : List UInt8) (cap : Nat) (hb : Sl w ao b cap) (hl : b.length ≤ 16384) (f t : Nat) (hft : f ≤ t) (htl : t ≤ b.length) :
    Calls Try.prog 40 #[.slice ao b.length cap, .int .i64 f, .int .i64 t] w fun e w' => ∃ v', e = .returned v' ∧ Fresh w' w.heap.size v' ((b.take t).drop f) ∧ Below w.heap.size w w' := by
  have hll : ((b.take t).drop f).length = t - f := by simp; omega
  have hcl := hb.hl
  have hcm := hb.hc
  rcases hb.at_ with rfl | ⟨bk, off, rfl, hlt, hcells⟩
  · have ht : t = 0 := by simpa using htl
    have hf : f = 0 := by omega
    subst ht hf
    have h0 := fun ao' cp => bcopied_any w ao' [] cp (.inl rfl) (by simp)
    have HN : Hid (ao = none → cap = 0) := hb.hn
    clear hb
    cases ao with
    | none =>
      have hc0 : cap = 0 := HN.out rfl
      subst hc0
      go_enter Try.func40, Try.ntmps40
      go_wp2_with (go_at_call 41; refine (h0 _ _).mono ?_; rintro e w1 ⟨v1, rfl, hf1, hb1⟩)
      go_ret
      exact ⟨_, rfl, by simpa using hf1, hb1⟩
    | some a =>
      go_enter Try.func40, Try.ntmps40
      go_wp2_with (go_at_call 41; refine (h0 _ _).mono ?_; rintro e w1 ⟨v1, rfl, hf1, hb1⟩)
      go_ret
      exact ⟨_, rfl, by simpa using hf1, hb1⟩
  · have h1 : BsAt w w.heap.size (if t = f then some ⟨bk, off, none⟩ else some ⟨bk, off + f, none⟩) ((b.take t).drop f) := by
      by_cases htf : t = f
      · exact .inl (List.eq_nil_of_length_eq_zero (by omega))
      · rw [if_neg htf]
        have := (hb.at_.take t).drop f
        simpa [addr_add] using this
    have h0 := fun cp => bcopied_any w _ ((b.take t).drop f) cp h1 (by omega)
    rw [hll] at h0
    clear hcells hb h1
    obtain ⟨R, hR⟩ : ∃ R, R = (b.take t).drop f := ⟨_, rfl⟩
    rw [← hR] at h0 ⊢
    clear hR hll
    go_enter Try.func40, Try.ntmps40
    go_wp2_with (go_at_call 41; refine (h0 _).mono ?_; rintro e w1 ⟨v1, rfl, hf1, hb1⟩)
    all_goals
      go_ret
      exact ⟨_, rfl, hf1, hb1⟩

/-- are these places? -/
theorem arePlaces_any (w : World) (ao : Option Addr) (l : List Int) (cap : Nat) (h : Il w ao l cap) (n : Nat) :
    Calls Try.prog 39 #[.slice ao l.length cap, .int .i64 n] w fun e w' => e = .returned (.bool (plOk n 0 l)) ∧ w = w' := by
  have hcl := h.hl
  have hcm := h.hc
  rcases h.at_ with rfl | ⟨b, off, rfl, hlt, hc⟩
  · clear h
    go_enter Try.func39, Try.ntmps39
    go_wp2
    refine wp_loop_rounds 1 ?_
    rw [rounds_succ]
    go_wp2
    go_ret
    exact ⟨rfl, rfl⟩
  · have HC : Hid (∀ j (hj : j < l.length), w.cell? ⟨b, off + j, none⟩ = some (.int .i64 l[j])) := hc
    clear hc h
    go_enter Try.func39, Try.ntmps39
    go_wp2
    go_loop [5, 10] (fun f i => ∃ (k : Nat) (F : Int), k ≤ l.length ∧ i = .int .i64 k ∧ f = .int .i64 F ∧ Hid (plOk n 0 l = plOk n F (l.drop k))) (fun _ i => l.length - (intOf i).toNat)
    case atStart => exact ⟨0, 0, by omega, rfl, rfl, rfl⟩
    case round =>
      obtain ⟨k, F, hk, rfl, rfl, HP⟩ := hrel
      by_cases hlt2 : k < l.length
      · have hlt3 : (k : Int) < (l.length : Int) := by omega
        have hx := HC.out k hlt2
        have hdr : l.drop k = l[k] :: l.drop (k + 1) := List.drop_eq_getElem_cons hlt2
        obtain ⟨x, hxe⟩ : ∃ x, x = l[k] := ⟨_, rfl⟩
        rw [← hxe] at hx hdr
        have HD : Hid (l.drop k = x :: l.drop (k + 1)) := hdr
        clear hxe hdr
        by_cases h1 : x < F
        · have HE : Hid (plOk n 0 l = false) := by rw [HP.out, HD.out]; exact plOk_bad (.inl h1)
          go_wp2
          go_ret
          exact ⟨by rw [HE.out]; rfl, rfl⟩
        · have h1' : decide (x < F) = false := by simp; omega
          by_cases h2 : (n : Int) < x
          · have HE : Hid (plOk n 0 l = false) := by rw [HP.out, HD.out]; exact plOk_bad (.inr h2)
            go_wp2
            go_ret
            exact ⟨by rw [HE.out]; rfl, rfl⟩
          · have h2' : decide ((n : Int) < x) = false := by simp; omega
            have HE : Hid (plOk n 0 l = plOk n x (l.drop (k + 1))) := by rw [HP.out, HD.out]; exact plOk_good (by omega) (by omega)
            go_wp2
            go_round
            case rel => exact ⟨k + 1, x, by omega, by go_num, rfl, HE⟩
            case measure => simp [intOf]; omega
      · have hlt3 : decide ((k : Int) < (l.length : Int)) = false := by simp; omega
        have HE : Hid (plOk n 0 l = true) := by rw [HP.out, List.drop_of_length_le (by omega)]; rfl
        go_wp2
        go_ret
        exact ⟨by rw [HE.out]; rfl, rfl⟩

theorem Fresh.val {w : World} {base : Nat} {v : Value} {l : List UInt8} (h : Fresh w base v l) : ∃ ao cap, v = .slice ao l.length cap := by
  obtain ⟨ao, cap, rfl, _⟩ := h; exact ⟨ao, cap, rfl⟩
theorem DtAt.sl {w : World} {B : Nat} {v : Value} {l : List UInt8} (h : DtAt w B v l) (hB : B ≤ w.heap.size) : ∃ ao cap, v = .slice ao l.length cap ∧ Sl w ao l cap := by
  obtain ⟨a, cap, rfl, h1, h2, h3, h4⟩ := h
  refine ⟨a, cap, rfl, h1, h2, h3, ?_⟩
  rcases h4 with h | ⟨b, off, e, hb, hc⟩
  · exact .inl h
  · exact .inr ⟨b, off, e, by omega, hc⟩

set_option maxHeartbeats 2000000 in
/-- each of ms is copied behind ls -/
theorem appendCopies_any (w : World) (base : Nat) (hbase : base ≤ w.heap.size) (v : Value) (ls : List (List UInt8)) (ho : OwnLs w base v ls) (ao : Option Addr) (ms : List (List UInt8)) (cap : Nat) (hm : LsAt w base ao ms)
    (hroom : ∀ p ∈ ms, p.length ≤ 140737488355328) (hmany : ls.length + ms.length ≤ 100000) (hcap : ms.length ≤ cap) (hcm : cap ≤ 9223372036854775807) :
    Calls Try.prog 42 #[v, .slice ao ms.length cap] w fun e w' => ∃ v', e = .returned v' ∧ OwnLs w' base v' (ls ++ ms) ∧ Below base w w' := by
  rcases hm with rfl | ⟨b, off, rfl, hlt, hc⟩
  · go_enter Try.func42, Try.ntmps42
    go_wp2
    refine wp_loop_rounds 1 ?_
    rw [rounds_succ]
    go_wp2
    go_ret
    exact ⟨_, rfl, by simpa using ho, Below.refl _ _⟩
  · have HC : Hid (∀ i (hi : i < ms.length), ∃ v, w.cell? ⟨b, off + i, none⟩ = some v ∧ DtAt w base v ms[i]) := hc
    have HR : Hid (∀ p ∈ ms, p.length ≤ 140737488355328) := hroom
    clear hc hroom
    go_enter Try.func42, Try.ntmps42
    go_wp2
    go_loopw [0, 9] (fun u i wr => ∃ k : Nat, k ≤ ms.length ∧ i = .int .i64 k ∧ OwnLs wr base u (ls ++ ms.take k) ∧ Below base w wr) (fun _ i _ => ms.length - (intOf i).toNat)
    case atStart => exact ⟨0, Nat.zero_le _, rfl, by simpa using ho, Below.refl _ _⟩
    case round =>
      obtain ⟨k, hk, rfl, how, hbr⟩ := hrel
      have hsr := hbr.size
      have hsr' : base ≤ wr.heap.size := by omega
      by_cases hlt2 : k < ms.length
      · have hlt3 : (k : Int) < (ms.length : Int) := by omega
        obtain ⟨v1, hv1, hd1⟩ := HC.out k hlt2
        have hroom := HR.out ms[k] (List.getElem_mem hlt2)
        have hsn : ls ++ ms.take (k + 1) = (ls ++ ms.take k) ++ [ms[k]] := by rw [List.take_succ_eq_append_getElem hlt2, List.append_assoc]
        obtain ⟨p, hpe⟩ : ∃ p, p = ms[k] := ⟨_, rfl⟩
        rw [← hpe] at hd1 hroom hsn
        have HSN : Hid (ls ++ ms.take (k + 1) = (ls ++ ms.take k) ++ [p]) := hsn
        clear hpe hsn
        have hv2 : wr.cell? ⟨b, off + k, none⟩ = some v1 := (hbr.cell (p := ⟨b, off + k, none⟩) hlt).trans hv1
        obtain ⟨a1, c1, rfl, hsl⟩ := (hd1.below hbr (Nat.le_refl _)).sl (by omega)
        have hcall := bcopied_any wr a1 p c1 hsl.at_ hroom
        have hln : (ls ++ ms.take k).length + 1 ≤ 1000000 := by simp; omega
        have hlo : ∀ j, u0.ownBlock = some j → j < wr.heap.size := fun j hj => (how.lt j hj).2
        obtain ⟨LL, hLL⟩ : ∃ LL, LL = ls ++ ms.take k := ⟨_, rfl⟩
        rw [← hLL] at how hln HSN
        have HLO : Hid (∀ j, u0.ownBlock = some j → j < wr.heap.size) := hlo
        clear hlo hsl hd1 hv1 hLL
        go_wp2_with (first
          | (go_at_call 41; refine hcall.mono ?_; rintro e w5 ⟨v5, rfl, hf5, hb5⟩; obtain ⟨ao5, c5, hv5⟩ := hf5.val; subst hv5; have how5 := how.below hb5; have hfb : FreshBut w5 base u0.ownBlock _ p := (hf5.but HLO.out).mono hsr'; have hs5 := hb5.size)
          | (at_builtin; refine app_ls (w0 := w5) rfl (.tmp 13) (.tmp 16) rfl base _ _ how5 rfl p _ hfb rfl rfl hln (by omega) ?_; intro v7 w7 ho7 hg7))
        have hb7 : Below base w w7 := (hbr.trans (hb5.mono hsr')).trans (hg7.below_ls how5 (by omega))
        rw [← HSN.out] at ho7
        go_roundw
        case rel => exact ⟨k + 1, by omega, by go_num, ho7, hb7⟩
        case measure => simp [intOf]; omega
      · have hlt3 : decide ((k : Int) < (ms.length : Int)) = false := by simp; omega
        have hqe : ms.take k = ms := List.take_of_length_le (by omega)
        rw [hqe] at how
        clear hqe
        go_wp2
        go_ret
        exact ⟨_, rfl, how, hbr⟩
end Go.Proofs.Ytgfhjkphdmkmoac
