/-
  (shaken)
-/
import Derived.Test.YtjmcgpdimhgegaaCmd
import Derived.Test.YtjmcgpdimhgegaaAddItem
import Derived.Deep.Cut
namespace Go.Proofs.Ytjmcgpdimhgegaa
open Go.RowKit
set_option linter.unusedSimpArgs false
set_option linter.unusedVariables false
set_option maxRecDepth 100000

theorem Own.mono {w : World} {base base' : Nat} {v : Value} {l : List UInt8} (h : Own w base v l) (hb : base' ≤ base) : Own w base' v l := by
  refine ⟨h.1, ?_⟩
  rcases h.2 with h | ⟨g, cap, cur, e, hb1, rest⟩
  · exact .inl h
  · exact .inr ⟨g, cap, cur, e, by omega, rest⟩
theorem keysB_take {ks : List ByteArray} {k : Nat} (hk : k < ks.length) : keysB (ks.take (k + 1)) = keysB (ks.take k) ++ text ks[k].data.toList := by
  unfold keysB; rw [List.take_succ_eq_append_getElem hk, List.flatMap_append]; simp
theorem keysB_len : ∀ (ks : List ByteArray), (∀ k ∈ ks, keyOk k = true) → (keysB ks).length ≤ 42 * ks.length
  | [], _ => by simp [keysB]
  | k :: ks, h => by
    have ih := keysB_len ks (fun x hx => h x (List.mem_cons_of_mem _ hx))
    have h1 : k.size ≤ 32 := by have := h k (by simp); simp [keyOk] at this; exact this.2
    have h2 := small_len k.size
    have e : keysB (k :: ks) = text k.data.toList ++ keysB ks := rfl
    rw [e, List.length_append, List.length_cons]
    have h3 : (text k.data.toList).length = (small k.size).length + k.size := by simp [text]
    omega

set_option maxHeartbeats 1000000 in
theorem command_good (c : Cmd) (w : World) (ko : Option Addr) (kc : Nat) (hk : Tl w ko c.keys kc) (hok : cmdOk c = true) (hg : c.Good) :
    Calls Try.prog 24 #[.agg (c.cells (.slice ko c.keys.length kc)).toArray] w fun e w' => ∃ v', e = .returned (.tuple #[v', .int .i64 0]) ∧ Own w' w.heap.size v' (cmdB c) ∧ Below w.heap.size w w' := by
  have hsh := fun W (h : Below w.heap.size w W) => hasShape_any c W ko kc (hk.below h)
  rw [hok] at hsh
  have hft := cmdOk_fit hok
  obtain ⟨kind, tenant, keys, value, flags, dur, unique, by_⟩ := c
  unfold Cmd.cells bcell at hsh ⊢
  obtain ⟨k1, k2, t0, t1, many, hkeys, hvalue, d0, d1⟩ := hft
  obtain ⟨gf, gu, gb⟩ := hg
  simp only [] at hk hsh k1 k2 t0 t1 many hkeys hvalue d0 d1 gf gu gb ⊢
  obtain ⟨t, rfl⟩ : ∃ t : Nat, tenant = (t : Int) := ⟨tenant.toNat, by omega⟩
  obtain ⟨u, rfl⟩ : ∃ u : Nat, dur = (u : Int) := ⟨dur.toNat, by omega⟩
  have ft : Fits t := by unfold Fits; omega
  have fu : Fits u := by unfold Fits; omega
  have fk : Fits keys.length := by unfold Fits; omega
  have ff : Fits flags := by unfold Fits; omega
  have hkl := hk.hl
  have hkm := hk.hc
  have HT : Hid (TsAt w w.heap.size ko keys) := hk.at_
  have HKS : Hid (∀ k ∈ keys, keyOk k = true) := hkeys
  have HSH : Hid (∀ W, Below w.heap.size w W → Calls Try.prog 31 #[.agg #[.int .u8 (kind.toNat : Int), .int .i64 t, .slice ko keys.length kc, .string value, .int .u32 flags, .int .i64 u, .int .u64 unique, .int .u64 by_]] W fun e w' => e = .returned (.bool true) ∧ Below W.heap.size W w') := hsh
  clear hk hsh hkeys hok
  have ww1 : IntKind.u64.wrap (t : Int) = (t : Int) := by rw [u64_wrap_eq]; omega
  have ww2 : IntKind.u64.wrap (u : Int) = (u : Int) := by rw [u64_wrap_eq]; omega
  have ww3 : IntKind.u64.wrap (keys.length : Int) = (keys.length : Int) := by rw [u64_wrap_eq]; omega
  have ww4 : IntKind.u64.wrap (flags : Int) = (flags : Int) := by rw [u64_wrap_eq]; omega
  go_enter Try.func24, Try.ntmps24
  go_upto_region 3 with (go_at_call 31; refine (HSH.out _ ((Below.refl _ _).alloc (Nat.le_refl _) _)).mono ?_; rintro e w1 ⟨rfl, hb1⟩)
  have hs1 := hb1.size
  simp at hs1
  have hb01 : Below w.heap.size w w1 := below_alloc hb1
  obtain ⟨X, hX⟩ : ∃ X, X = w.heap.size := ⟨_, rfl⟩
  have HBX : Hid (∀ W, Below w1.heap.size w1 W → W.cell? ⟨X, 0, none⟩ = some (.int .u8 (kind.toNat : Int)) ∧ W.cell? ⟨X, 1, none⟩ = some (.int .i64 t) ∧ W.cell? ⟨X, 2, none⟩ = some (.slice ko keys.length kc) ∧ W.cell? ⟨X, 3, none⟩ = some (.string value) ∧ W.cell? ⟨X, 4, none⟩ = some (.int .u32 flags) ∧ W.cell? ⟨X, 5, none⟩ = some (.int .i64 u) ∧ W.cell? ⟨X, 6, none⟩ = some (.int .u64 unique) ∧ W.cell? ⟨X, 7, none⟩ = some (.int .u64 by_)) := by
    intro W hW
    have hc : ∀ j v, (#[Value.int IntKind.u8 ↑kind.toNat, Value.int IntKind.i64 ↑t, Value.slice ko keys.length kc, Value.string value, Value.int IntKind.u32 ↑flags, Value.int IntKind.i64 ↑u, Value.int IntKind.u64 ↑unique, Value.int IntKind.u64 ↑by_] : Array Value)[j]? = some v → W.cell? ⟨X, j, none⟩ = some v := by
      intro j v hv
      rw [hX]
      refine (hW.cell (p := ⟨w.heap.size, j, none⟩) (by show w.heap.size < _; omega)).trans ((hb1.cell (p := ⟨w.heap.size, j, none⟩) (by simp)).trans ?_)
      rw [World.cell?_alloc_at _ _ _ _ rfl]
      exact hv
    exact ⟨hc 0 _ rfl, hc 1 _ rfl, hc 2 _ rfl, hc 3 _ rfl, hc 4 _ rfl, hc 5 _ rfl, hc 6 _ rfl, hc 7 _ rfl⟩
  rw [← hX]
  have hXlt : X < w1.heap.size := by omega
  clear hb1 hX hs1 HSH
  obtain ⟨a0, a1, -⟩ := HBX.out w1 (Below.refl _ _)
  have hO1 : Own (w1.alloc (Obj.cells #[Value.int IntKind.u8 ↑kind.toNat] 5)) w1.heap.size (.slice (some ⟨w1.heap.size, 0, none⟩) 1 1) [kind] := World.ownsRow_lit w1 _ 1 (by omega) (by unfold maxLen; omega) rfl
  have hbA : Below w1.heap.size w1 (w1.alloc (Obj.cells #[Value.int IntKind.u8 ↑kind.toNat] 5)) := (Below.refl _ _).alloc (Nat.le_refl _) _
  obtain ⟨-, b1, -⟩ := HBX.out _ hbA
  have HL1 := small_len t
  have HL2 := small_len keys.length
  have HL3 := keysB_len keys HKS.out
  have HL4 := small_len value.size
  have HL5 := small_len flags
  have HL6 := small_len u
  have HL7 := small_len unique
  go_wp2_with (first
    | (go_at_call 32; refine (addSmall_any w1.heap.size _ _ keys.length w3 ho3 hb13.size fk (by simp; omega)).mono ?_; rintro e w4 ⟨v4, rfl, ho4, hg4⟩; have hb14 := hb13.trans (hg4.below ho3 hb13.size); obtain ⟨-, -, d2, -⟩ := HBX.out w4 hb14)
    | (go_at_call 32; refine (addSmall_any w1.heap.size _ _ t _ hO1 hbA.size ft (by simp)).mono ?_; rintro e w3 ⟨v3, rfl, ho3, hg3⟩; have hb13 := hbA.trans (hg3.below hO1 hbA.size); obtain ⟨-, -, c2, -⟩ := HBX.out w3 hb13))
  obtain ⟨P4, hP4⟩ : ∃ P4, P4 = [kind] ++ small t ++ small keys.length := ⟨_, rfl⟩
  have hlP4 : P4.length ≤ 21 := by rw [hP4]; simp; omega
  rw [← hP4] at ho4
  go_loopw [4, 26] (fun v i wr => ∃ k : Nat, k ≤ keys.length ∧ i = .int .i64 k ∧ Own wr w1.heap.size v (P4 ++ keysB (keys.take k)) ∧ Below w1.heap.size w1 wr) (fun _ i _ => keys.length - (intOf i).toNat)
  case atStart => exact ⟨0, Nat.zero_le _, rfl, by simpa [keysB] using ho4, hb14⟩
  case round =>
    obtain ⟨k, hk, rfl, how, hbr⟩ := hrel
    clear ho4 hb14 d2 c2 hg4 hg3 ho3 hb13 a0 a1 b1 hO1 hbA
    have hsr := hbr.size
    have hlk : (keysB (keys.take k)).length ≤ 400 := by
      have h1 := keysB_len (keys.take k) (fun x hx => HKS.out x (List.mem_of_mem_take hx))
      have h2 : (keys.take k).length ≤ 8 := by simp; omega
      omega
    by_cases hlt : k < keys.length
    · have hlt2 : (k : Int) < (keys.length : Int) := by omega
      rcases HT.out with h | ⟨b, off, rfl, hb, hc⟩
      · rw [h] at hlt; simp at hlt
      have hb0r := hb01.trans (hbr.mono hb01.size)
      have hx := (hb0r.cell (p := ⟨b, off + k, none⟩) hb).trans (hc k hlt)
      have hsz : keys[k].size ≤ 32 := by have := HKS.out _ (List.getElem_mem hlt); simp [keyOk] at this; exact this.2
      have hsn := keysB_take hlt
      obtain ⟨s, hs⟩ : ∃ s, s = keys[k] := ⟨_, rfl⟩
      rw [← hs] at hx hsz hsn
      obtain ⟨Q, hQ⟩ : ∃ Q, Q = P4 ++ keysB (keys.take k) := ⟨_, rfl⟩
      have HQ : Hid (Q ++ text s.data.toList = P4 ++ keysB (keys.take (k + 1))) := by rw [hsn, hQ, List.append_assoc]; exact rfl
      have hlQ : Q.length ≤ 500 := by rw [hQ]; simp; omega
      rw [← hQ] at how
      clear hs hc hsn hQ hlk
      go_wp2_with (go_at_call 33; refine (addText_any w1.heap.size _ Q s wr how hsr (by omega) (by omega)).mono ?_; rintro e w5 ⟨v5, rfl, ho5, hg5⟩)
      have hb15 := hbr.trans (hg5.below how hsr)
      rw [HQ.out] at ho5
      go_roundw
      case rel => exact ⟨k + 1, by omega, by go_num, ho5, hb15⟩
      case measure => simp [intOf]; omega
    · have hlt2 : decide ((k : Int) < (keys.length : Int)) = false := by simp; omega
      have e0 : keys.take k = keys := List.take_of_length_le (by omega)
      rw [e0] at how
      obtain ⟨-, -, -, r3, -⟩ := HBX.out wr hbr
      obtain ⟨Q, hQ⟩ : ∃ Q, Q = P4 ++ keysB keys := ⟨_, rfl⟩
      have HQ : Hid (Q = [kind] ++ small t ++ small keys.length ++ keysB keys) := by rw [hQ, hP4]; exact rfl
      have hlQ : Q.length ≤ 500 := by rw [e0] at hlk; rw [hQ]; simp; omega
      rw [← hQ] at how
      clear e0 hQ hlk hP4
      go_wp2_with (first
        | (go_at_call 32; refine (addSmall_any w1.heap.size _ _ by_ w9 ho9 hb19.size gb (by simp; omega)).mono ?_; rintro e w10 ⟨v10, rfl, ho10, hg10⟩; have hb110 := hb19.trans (hg10.below ho9 hb19.size))
        | (go_at_call 32; refine (addSmall_any w1.heap.size _ _ unique w8 ho8 hb18.size gu (by simp; omega)).mono ?_; rintro e w9 ⟨v9, rfl, ho9, hg9⟩; have hb19 := hb18.trans (hg9.below ho8 hb18.size); obtain ⟨-, -, -, -, -, -, -, q7⟩ := HBX.out w9 hb19)
        | (go_at_call 32; refine (addSmall_any w1.heap.size _ _ u w7 ho7 hb17.size fu (by simp; omega)).mono ?_; rintro e w8 ⟨v8, rfl, ho8, hg8⟩; have hb18 := hb17.trans (hg8.below ho7 hb17.size); obtain ⟨-, -, -, -, -, -, p6, -⟩ := HBX.out w8 hb18)
        | (go_at_call 32; refine (addSmall_any w1.heap.size _ _ flags w6 ho6 hb16.size ff (by simp; omega)).mono ?_; rintro e w7 ⟨v7, rfl, ho7, hg7⟩; have hb17 := hb16.trans (hg7.below ho6 hb16.size); obtain ⟨-, -, -, -, -, o5, -⟩ := HBX.out w7 hb17)
        | (go_at_call 33; refine (addText_any w1.heap.size _ Q value wr how hsr (by omega) (by omega)).mono ?_; rintro e w6 ⟨v6, rfl, ho6, hg6⟩; have hb16 := hbr.trans (hg6.below how hsr); have hlt6 : (text value.data.toList).length ≤ 522 := (by simp [text]; omega); obtain ⟨-, -, -, -, n4, -⟩ := HBX.out w6 hb16))
      go_ret2
      refine ⟨_, rfl, ?_, hb01.trans (hb110.mono hb01.size)⟩
      rw [HQ.out] at ho10
      have hm := ho10.mono hb01.size
      unfold cmdB
      simpa using hm
end Go.Proofs.Ytjmcgpdimhgegaa
