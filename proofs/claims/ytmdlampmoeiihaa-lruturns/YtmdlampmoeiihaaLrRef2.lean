/-
  The document's orders: Check, asked, Twin, Same.
-/
import Derived.Test.YtmdlampmoeiihaaLrRef
namespace Go.Proofs.Ytmdlampmoeiihaa
open Go.RowKit Go.Shelf Go.Lib Go.Sort
set_option linter.unusedSimpArgs false
set_option linter.unusedVariables false
set_option maxRecDepth 100000

theorem Tl.take {w : World} {ao : Option Addr} {ks : List ByteArray} {cap : Nat} (h : Tl w ao ks cap) (k : Nat) : Tl w ao (ks.take k) cap := by
  refine ⟨Nat.le_trans (by simp; omega) h.hl, h.hc, h.hn, ?_⟩
  rcases h.at_ with rfl | ⟨b, off, rfl, hb, hc⟩
  · exact .inl (by simp)
  · exact .inr ⟨b, off, rfl, hb, fun j hj => by
      have hj2 : j < ks.length := by simp at hj; omega
      rw [hc j hj2, List.getElem_take]⟩
theorem nodup_of_takes {L : List ByteArray} (h : ∀ j (hj : j < L.length), L[j] ∉ L.take j) : L.Nodup := by
  rw [List.nodup_iff_pairwise_ne, List.pairwise_iff_getElem]
  intro i j hi hj hij e
  refine h j hj ?_
  rw [← e, List.mem_take_iff_getElem]
  exact ⟨i, by omega, rfl⟩
theorem takes_of_nodup {L : List ByteArray} (h : L.Nodup) (j : Nat) (hj : j < L.length) : L[j] ∉ L.take j := by
  intro hm
  rw [List.mem_take_iff_getElem] at hm
  obtain ⟨i, hi, e⟩ := hm
  exact List.pairwise_iff_getElem.1 (List.nodup_iff_pairwise_ne.1 h) i j (by omega) hj (by omega) e
theorem ok_comm {T K : List ByteArray} : Ok T K ↔ (T.length + K.length ≤ 256 ∧ K.length ≤ (T.length + K.length + 1) / 2 ∧ (∀ k ∈ T ++ K, kOk k = true) ∧ (T ++ K).Nodup) := by
  have hp : (T ++ K).Perm (K ++ T) := List.perm_append_comm
  constructor
  · intro h
    have h1 := h.many
    have h2 := h.half
    rw [Nat.add_comm K.length] at h1 h2
    exact ⟨h1, h2, fun x hx => h.keys x (hp.mem_iff.1 hx), hp.nodup_iff.2 h.nodup⟩
  · rintro ⟨a, b, c, d⟩
    rw [Nat.add_comm T.length] at a b
    exact ⟨a, b, fun x hx => c x (hp.mem_iff.2 hx), hp.nodup_iff.1 d⟩
theorem calls_still {f : FuncId} {args : Array Value} {w : World} {v : Value} (h : Calls Try.prog f args w fun e w' => e = .returned v ∧ w' = w) : Calls Try.prog f args w fun e w' => e = .returned v ∧ ∃ q os', w' = grow (w.drewN q) os' :=
  h.mono fun _ _ ⟨he, hw⟩ => ⟨he, 0, #[], by rw [hw, grow_none]; rfl⟩
set_option maxHeartbeats 4000000 in
theorem rcheck_any (T K : List ByteArray) (aT aK : Option Addr) (cT cK : Nat) (w : World) (hTl : Tl w aT T cT) (hKl : Tl w aK K cK) (hT : T.length ≤ 300) (hK : K.length ≤ 300) :
    Calls Try.prog 27 #[.agg #[.slice aT T.length cT, .slice aK K.length cK]] w fun e w' => e = .returned (.int .i64 (chk T K)) ∧ Below w.heap.size w w' := by
  have mixed := Try.layInsert.mixed
  obtain ⟨L, hL⟩ : ∃ L, L = T ++ K := ⟨_, rfl⟩
  have hLL : L.length = T.length + K.length := by rw [hL]; simp
  obtain ⟨W, hW⟩ : ∃ W, W = w.alloc (Obj.cells #[.slice aT T.length cT, .slice aK K.length cK] 24) := ⟨_, rfl⟩
  have HB : Hid (Below w.heap.size w W) := by rw [hW]; exact (Below.refl _ _).alloc (Nat.le_refl _) _
  have HOB : Hid (OB W w.heap.size (.slice aT T.length cT) (.slice aK K.length cK)) := by rw [hW]; exact OB.made _ _ _
  have HAL := Hid.mk2 (rall_any T K L hL aT aK cT cK W (hTl.below HB.out) (hKl.below HB.out) hT hK)
  have HOKI : Hid (Ok T K ↔ (L.length ≤ 256 ∧ K.length ≤ (L.length + 1) / 2 ∧ (∀ k ∈ L, kOk k = true) ∧ L.Nodup)) := by
    show _ ↔ _
    rw [ok_comm, hLL, hL]
  have hL6 : (L.length : Int) ≤ 600 := by omega
  have HLL := Hid.mk2 hLL
  obtain ⟨R, hR⟩ : ∃ R, R = chk T K := ⟨_, rfl⟩
  rw [← hR]
  have HR0 : Hid (Ok T K → R = 0) := fun h => by rw [hR, chk_ok h]
  have HR8 : Hid (¬ Ok T K → R = 8) := fun h => by rw [hR, chk_bad h]
  clear hTl hKl hL hLL hR
  by_cases h1 : 256 < L.length
  · have g1 : decide ((256 : Int) < (L.length : Int)) = true := by simp; omega
    obtain rfl := HR8.out (fun h => by have := (HOKI.out.1 h).1; omega)
    clear HOKI HR0 HR8
    go_enter Try.func27, Try.ntmps27
    go_upto_region 1 with (fail)
    rw [← hW]
    clear hW
    obtain ⟨c0, c1, f0, f1, l0⟩ := HOB.out
    go_wp2_with (go_at_call 45; refine HAL.out.mono ?_; rintro e w1 ⟨ao, cap, rfl, hT1, hb1⟩; have HB1 := Hid.mk2 hb1; clear hT1; clear c0 c1 f0 f1 l0; obtain ⟨c0, c1, f0, f1, l0⟩ := HOB.out.below hb1; clear hb1)
    go_ret
    exact ⟨rfl, HB.out.trans (HB1.out.mono HB.out.size)⟩
  · have g1 : decide ((256 : Int) < (L.length : Int)) = false := by simp; omega
    by_cases h2 : (L.length + 1) / 2 < K.length
    · have g2 : ((L.length : Int) + 1) / 2 < (K.length : Int) := by omega
      obtain rfl := HR8.out (fun h => by have := (HOKI.out.1 h).2.1; omega)
      clear HOKI HR0 HR8
      go_enter Try.func27, Try.ntmps27
      go_upto_region 1 with (fail)
      rw [← hW]
      clear hW
      obtain ⟨c0, c1, f0, f1, l0⟩ := HOB.out
      go_wp2_with (go_at_call 45; refine HAL.out.mono ?_; rintro e w1 ⟨ao, cap, rfl, hT1, hb1⟩; have HB1 := Hid.mk2 hb1; clear hT1; clear c0 c1 f0 f1 l0; obtain ⟨c0, c1, f0, f1, l0⟩ := HOB.out.below hb1; clear hb1)
      go_ret
      exact ⟨rfl, HB.out.trans (HB1.out.mono HB.out.size)⟩
    · have g2 : ¬ ((L.length : Int) + 1) / 2 < (K.length : Int) := by omega
      go_enter Try.func27, Try.ntmps27
      go_upto_region 1 with (fail)
      rw [← hW]
      clear hW
      obtain ⟨c0, c1, f0, f1, l0⟩ := HOB.out
      go_wp2_with (go_at_call 45; refine HAL.out.mono ?_; rintro e w1 ⟨ao, cap, rfl, hT1, hb1⟩; have HB1 := Hid.mk2 hb1; have HT1 := Hid.mk2 hT1; clear hT1; clear c0 c1 f0 f1 l0; obtain ⟨c0, c1, f0, f1, l0⟩ := HOB.out.below hb1; clear hb1)
      clear c0 c1 f0 f1 l0
      go_loopw [4] (fun i wr => ∃ k : Nat, k ≤ L.length ∧ i = .int .i64 k ∧ Hid (Below w1.heap.size w1 wr) ∧ Hid (∀ j (hj : j < L.length), j < k → kOk L[j] = true ∧ L[j] ∉ L.take j)) (fun i _ => L.length - (intOf i).toNat)
      case atStart => exact ⟨0, Nat.zero_le _, rfl, Below.refl _ _, fun j hj h => by omega⟩
      case round =>
        obtain ⟨k, hk, rfl, HBr, HA⟩ := hrel
        by_cases hlt : k < L.length
        · have hlt2 : (k : Int) < (L.length : Int) := by omega
          obtain ⟨b, off, rfl, hb, hc⟩ := at_of (HT1.out.below HBr.out) hlt
          have hkc : k ≤ cap := by have := HT1.out.hl; omega
          have hcm := HT1.out.hc
          have hlen : (L.take k).length = k := by simp; omega
          have hbad1 : kOk L[k] = false → R = 8 := fun h => HR8.out fun hok => by
            have := (HOKI.out.1 hok).2.2.1 L[k] (List.getElem_mem hlt)
            rw [h] at this
            cases this
          have hbad2 : L[k] ∈ L.take k → R = 8 := fun h => HR8.out fun hok => takes_of_nodup (HOKI.out.1 hok).2.2.2 k hlt h
          have hstep : kOk L[k] = true → L[k] ∉ L.take k → ∀ j (hj : j < L.length), j < k + 1 → kOk L[j] = true ∧ L[j] ∉ L.take j := fun ha hb' j hj hjk => by
            by_cases e : j = k
            · subst e; exact ⟨ha, hb'⟩
            · exact HA.out j hj (by omega)
          have HFI := Hid.mk2 (fun V (hV : Below w1.heap.size w1 V) => rfind_any (some ⟨b, off, none⟩) (L.take k) k cap L[k] V ((HT1.out.take k).below hV) hlen.symm)
          have HKE := Hid.mk2 (fun W' => rkey_any L[k] W')
          obtain ⟨s, hs⟩ : ∃ s, s = L[k] := ⟨_, rfl⟩
          rw [← hs] at hc hbad1 hbad2 hstep HFI HKE
          clear hs hlen
          have dc : ∀ n os, (grow (wr.drewN n) os).cell? ⟨b, off + k, none⟩ = some (.string s) := cell_grown hb hc
          have HBG : Hid (∀ n os, Below w1.heap.size w1 (grow (wr.drewN n) os)) := fun n os => HBr.out.trans ((below_grow wr n os).mono HBr.out.size)
          clear hc
          by_cases hko : kOk s = true
          · rw [hko] at HKE
            by_cases hin : s ∈ L.take k
            · have hi := ixf_in hin
              obtain ⟨I, hI⟩ : ∃ I, I = ixf (L.take k) s := ⟨_, rfl⟩
              rw [← hI] at HFI hi
              have HR := Hid.mk2 (hbad2 hin)
              clear hI hin hbad1 hbad2 hstep HA HOKI HR0 HR8 hko
              go_wp2
              go_quiet_grown (first | (go_at_call 49; exact Calls.grown_of (calls_still (HKE.out _))) | (go_at_call 44; exact Calls.grown_of (calls_still (HFI.out _ (HBG.out _ _)))))
              go_wp2
              go_ret
              exact ⟨by rw [HR.out]; rfl, (HB.out.trans (HB1.out.mono HB.out.size)).trans ((HBG.out _ _).mono (Nat.le_trans HB.out.size HB1.out.size))⟩
            · rw [ixf_no hin] at HFI
              have HST := Hid.mk2 (hstep hko hin)
              clear hin hbad1 hbad2 hstep HA hko
              go_wp2
              go_quiet_grown (first | (go_at_call 49; exact Calls.grown_of (calls_still (HKE.out _))) | (go_at_call 44; exact Calls.grown_of (calls_still (HFI.out _ (HBG.out _ _)))))
              go_wp2
              go_roundw
              case rel => exact ⟨k + 1, by omega, by go_num, HBG.out _ _, HST⟩
              case measure => simp [intOf]; omega
          · have hko2 : kOk s = false := by simpa using hko
            rw [hko2] at HKE
            have HR := Hid.mk2 (hbad1 hko2)
            clear hbad1 hbad2 hstep HA HOKI HR0 HR8 hko hko2
            go_wp2
            refine wp_region_quiet_grown mixed (by kernel_rfl) ?_
            iterate 6 (quiet_step ((go_at_call 49; exact Calls.grown_of (calls_still (HKE.out _)))))
            repeat (go_big_quiet_step (fail))
            refine wpQuiet_nil ?_
            intro _ hw'
            obtain ⟨⟨nq, osq⟩, hw''⟩ := hw'
            subst hw''
            go_wp2
            go_ret
            exact ⟨by rw [HR.out]; rfl, (HB.out.trans (HB1.out.mono HB.out.size)).trans ((HBG.out _ _).mono (Nat.le_trans HB.out.size HB1.out.size))⟩
        · have hlt2 : ¬ (k : Int) < (L.length : Int) := by omega
          have HR : Hid (R = 0) := HR0.out (HOKI.out.2 ⟨by omega, by omega, fun x hx => by
            obtain ⟨j, hj, rfl⟩ := List.getElem_of_mem hx
            exact (HA.out j hj (by omega)).1, nodup_of_takes fun j hj => (HA.out j hj (by omega)).2⟩)
          clear HA HOKI HR0 HR8
          go_wp2
          go_ret
          exact ⟨by rw [HR.out]; rfl, (HB.out.trans (HB1.out.mono HB.out.size)).trans (HBr.out.mono (Nat.le_trans HB.out.size HB1.out.size))⟩
theorem asked_any (T K : List ByteArray) (aT aK : Option Addr) (cT cK : Nat) (key : ByteArray) (w : World) (hTl : Tl w aT T cT) (hKl : Tl w aK K cK) (hT : T.length ≤ 300) (hK : K.length ≤ 300) :
    Calls Try.prog 43 #[.agg #[.slice aT T.length cT, .slice aK K.length cK], .string key] w fun e w' => e = .returned (.int .i64 (ckw T K key)) ∧ Below w.heap.size w w' := by
  have HB : Hid (Below w.heap.size w (w.alloc (Obj.cells #[.slice aT T.length cT, .slice aK K.length cK] 24))) := (Below.refl _ _).alloc (Nat.le_refl _) _
  have HC := Hid.mk2 (rcheck_any T K aT aK cT cK _ (hTl.below HB.out) (hKl.below HB.out) hT hK)
  clear hTl hKl hT hK
  unfold ckw
  by_cases h : Ok T K
  · rw [if_pos (okO_iff.2 h)]
    rw [chk_ok h] at HC
    cases hk : kOk key with
    | true =>
      rw [if_pos rfl]
      have HK := Hid.mk2 (fun W => rkey_any key W)
      rw [hk] at HK
      clear h
      go_enter Try.func43, Try.ntmps43
      go_wp2_with (first
        | (go_at_call 27; refine HC.out.mono ?_; rintro e w1 ⟨rfl, hb1⟩; have HB1 := Hid.mk2 hb1; clear hb1)
        | (go_at_call 49; refine (HK.out _).mono ?_; rintro e w2 ⟨rfl, rfl⟩))
      go_ret
      exact ⟨rfl, below_alloc HB1.out⟩
    | false =>
      rw [if_neg (by simp)]
      have HK := Hid.mk2 (fun W => rkey_any key W)
      rw [hk] at HK
      clear h
      go_enter Try.func43, Try.ntmps43
      go_wp2_with (first
        | (go_at_call 27; refine HC.out.mono ?_; rintro e w1 ⟨rfl, hb1⟩; have HB1 := Hid.mk2 hb1; clear hb1)
        | (go_at_call 49; refine (HK.out _).mono ?_; rintro e w2 ⟨rfl, rfl⟩))
      go_ret
      exact ⟨rfl, below_alloc HB1.out⟩
  · rw [if_neg (fun e => h (okO_iff.1 e))]
    rw [chk_bad h] at HC
    clear h
    go_enter Try.func43, Try.ntmps43
    go_wp2_with (go_at_call 27; refine HC.out.mono ?_; rintro e w1 ⟨rfl, hb1⟩; have HB1 := Hid.mk2 hb1; clear hb1)
    go_ret
    exact ⟨rfl, below_alloc HB1.out⟩
theorem same_any (T K : List ByteArray) (aT aK aX aY : Option Addr) (cT cK cX cY : Nat) (w : World) (hTl : Tl w aT T cT) (hKl : Tl w aK K cK) (hXl : Tl w aX T cX) (hYl : Tl w aY K cY) :
    Calls Try.prog 26 #[.agg #[.slice aT T.length cT, .slice aK K.length cK], .agg #[.slice aX T.length cX, .slice aY K.length cY]] w fun e w' => e = .returned (.bool true) ∧ Below w.heap.size w w' := by
  obtain ⟨W, hW⟩ : ∃ W, W = (w.alloc (Obj.cells #[.slice aT T.length cT, .slice aK K.length cK] 24)).alloc (Obj.cells #[.slice aX T.length cX, .slice aY K.length cY] 24) := ⟨_, rfl⟩
  have HB : Hid (Below w.heap.size w W) := by rw [hW]; exact ((Below.refl _ _).alloc (Nat.le_refl _) _).alloc (by simp) _
  have HA : Hid (OB W w.heap.size (.slice aT T.length cT) (.slice aK K.length cK)) := by rw [hW]; exact (OB.made _ _ _).alloc _
  have HX : Hid (OB W (w.heap.size + 1) (.slice aX T.length cX) (.slice aY K.length cY)) := by
    rw [hW]
    have := OB.made (w.alloc (Obj.cells #[.slice aT T.length cT, .slice aK K.length cK] 24)) (.slice aX T.length cX) (.slice aY K.length cY)
    rw [show (w.alloc (Obj.cells #[.slice aT T.length cT, .slice aK K.length cK] 24)).heap.size = w.heap.size + 1 by simp] at this
    exact this
  have HS1 := Hid.mk2 (sameTexts_tl W aT aX T cT cX (hTl.below HB.out) (hXl.below HB.out))
  have HS2 := Hid.mk2 (fun V (hb : Below W.heap.size W V) => sameTexts_tl V aK aY K cK cY ((hKl.below HB.out).below hb) ((hYl.below HB.out).below hb))
  clear hTl hKl hXl hYl
  go_enter Try.func26, Try.ntmps26
  go_upto_region 1 with (fail)
  rw [← hW]
  clear hW
  obtain ⟨c0, c1, f0, f1, l0⟩ := HA.out
  obtain ⟨x0, x1, y0, y1, xl⟩ := HX.out
  go_wp2_with (first
    | (go_at_call 16; refine (HS2.out _ HB1.out).mono ?_; rintro e w2 ⟨rfl, hb2⟩; have HB2 := Hid.mk2 hb2; clear hb2)
    | (go_at_call 16; refine HS1.out.mono ?_; rintro e w1 ⟨rfl, hb1⟩; have HB1 := Hid.mk2 hb1; clear c0 c1 f0 f1 l0 x0 x1 y0 y1 xl; obtain ⟨c0, c1, f0, f1, l0⟩ := HA.out.below hb1; obtain ⟨x0, x1, y0, y1, xl⟩ := HX.out.below hb1; clear hb1))
  go_ret
  have x3 := HB.out.trans (HB1.out.mono HB.out.size)
  exact ⟨rfl, x3.trans (HB2.out.mono x3.size)⟩
end Go.Proofs.Ytmdlampmoeiihaa
