/-
  The statements' helpers over orders, on: of, rows, alive.
-/
import Derived.Test.YtmdlampmoeiihaaLrHas
namespace Go.Proofs.Ytmdlampmoeiihaa
open Go.RowKit Go.Shelf Go.Lib Go.Sort
set_option linter.unusedSimpArgs false
set_option linter.unusedVariables false
set_option maxRecDepth 100000

/-- the keys that came, the newest first -/
def cam (l : List ByteArray) (j : Nat) : List ByteArray := (l.take j).reverse
theorem cam_zero (l : List ByteArray) : cam l 0 = [] := by simp [cam]
theorem cam_succ (l : List ByteArray) (j : Nat) (h : j < l.length) : cam l (j + 1) = l[j] :: cam l j := by
  unfold cam
  rw [List.take_succ_eq_append_getElem h, List.reverse_append]
  rfl
theorem cam_all (l : List ByteArray) : cam l l.length = l.reverse := by simp [cam]
theorem cam_len (l : List ByteArray) (j : Nat) (h : j ≤ l.length) : (cam l j).length = j := by simp [cam]; omega
/-- what of leaves: all came, or one was refused -/
structure OfE (w' : World) (l : List ByteArray) (e : Ending) : Prop where
  is : ∃ (b : Bool) (T : List ByteArray) (aT : Option Addr) (cT : Nat) (aK : Option Addr) (cK : Nat), e = .returned (.tuple #[.agg #[.slice aT T.length cT, .slice aK 0 cK], .bool b]) ∧ Tl w' aT T cT ∧ Tl w' aK [] cK ∧ (b = true → T = l.reverse ∧ ∀ j (hj : j < l.length), adE (cam l j) [] l[j] = 0) ∧ (b = false → ∃ j, ∃ hj : j < l.length, adE (cam l j) [] l[j] ≠ 0)
/-- what the loop keeps -/
structure OfW (w wr : World) (l : List ByteArray) (j : Nat) (aT : Option Addr) (cT : Nat) (aK : Option Addr) (cK : Nat) : Prop where
  rs : OB wr w.heap.size (.slice none 0 0) (.slice none 0 0)
  ob : OB wr (w.heap.size + 1) (.slice aT (cam l j).length cT) (.slice aK 0 cK)
  t : Tl wr aT (cam l j) cT
  k : Tl wr aK [] cK
  be : Below w.heap.size w wr
  all : ∀ i (hi : i < l.length), i < j → adE (cam l i) [] l[i] = 0
  far : ∀ g off, aT = some ⟨g, off, none⟩ → g ≠ w.heap.size
theorem OfW.step {w wr w' : World} {l : List ByteArray} {j : Nat} {aT : Option Addr} {cT : Nat} {aK : Option Addr} {cK : Nat} (h : OfW w wr l j aT cT aK cK) (hb : Below wr.heap.size wr w') : OfW w w' l j aT cT aK cK :=
  ⟨h.rs.below hb, h.ob.below hb, h.t.below hb, h.k.below hb, h.be.trans (hb.mono h.be.size), h.all, h.far⟩
theorem Tl.setc {w : World} {ao : Option Addr} {ks : List ByteArray} {cap : Nat} (h : Tl w ao ks cap) (p : Addr) (v : Value) (hp : ∀ g off, ao = some ⟨g, off, none⟩ → ks ≠ [] → g ≠ p.block) : Tl (w.setCell p v) ao ks cap := by
  refine ⟨h.hl, h.hc, h.hn, ?_⟩
  rcases h.at_ with rfl | ⟨b, off, rfl, hb, hc⟩
  · exact .inl rfl
  · by_cases hk : ks = []
    · exact .inl hk
    · refine .inr ⟨b, off, rfl, by simpa using hb, fun j hj => ?_⟩
      rw [World.cell?_setCell_other _ _ _ _ (fun e => hp b off rfl hk (by have := congrArg Addr.block e; simpa using this.symm))]
      exact hc j hj
theorem Rw.farT {w : World} {base : Nat} {aT : Option Addr} {cT : Nat} {aK : Option Addr} {cK : Nat} {T K : List ByteArray} (h : Rw w base aT cT aK cK T K) : ∀ g off, aT = some ⟨g, off, none⟩ → base ≤ g := fun g off e => (h.t.lt g (by rw [e]; rfl)).1
theorem Rw.farK {w : World} {base : Nat} {aT : Option Addr} {cT : Nat} {aK : Option Addr} {cK : Nat} {T K : List ByteArray} (h : Rw w base aT cT aK cK T K) : ∀ g off, aK = some ⟨g, off, none⟩ → base ≤ g := fun g off e => (h.k.lt g (by rw [e]; rfl)).1
set_option maxHeartbeats 2000000 in
theorem of_any (l : List ByteArray) (ao : Option Addr) (cap : Nat) (w : World) (hl : Tl w ao l cap) (hn : l.length ≤ 256) :
    Calls Try.prog 9 #[.slice ao l.length cap] w fun e w' => OfE w' l e ∧ Below w.heap.size w w' := by
  obtain ⟨w2, hw2⟩ : ∃ w2, w2 = (w.alloc (Obj.cells #[.slice none 0 0, .slice none 0 0] 24)).alloc (Obj.cells #[.slice none 0 0, .slice none 0 0] 24) := ⟨_, rfl⟩
  have HB2 : Hid (Below w.heap.size w w2) := by rw [hw2]; exact ((Below.refl _ _).alloc (Nat.le_refl _) _).alloc (by simp) _
  have HW0 : Hid (OfW w w2 l 0 none 0 none 0) := by
    have o1 : OB w2 w.heap.size (.slice none 0 0) (.slice none 0 0) := by rw [hw2]; exact (OB.made _ _ _).alloc _
    have o2 : OB w2 (w.heap.size + 1) (.slice none 0 0) (.slice none 0 0) := by
      rw [hw2]
      have := OB.made (w.alloc (Obj.cells #[.slice none 0 0, .slice none 0 0] 24)) (.slice none 0 0) (.slice none 0 0)
      rw [show (w.alloc (Obj.cells #[.slice none 0 0, .slice none 0 0] 24)).heap.size = w.heap.size + 1 by simp] at this
      exact this
    refine ⟨o1, ?_, ?_, Tl.nil _, HB2.out, fun i hi h => by omega, by intro g off e; cases e⟩
    · rw [cam_zero]; exact o2
    · rw [cam_zero]; exact Tl.nil _
  have HLl := Hid.mk2 hl
  have HN := Hid.mk2 hn
  clear hl hn HB2
  go_enter Try.func9, Try.ntmps9
  go_upto_region 2 with (fail)
  rw [← hw2]
  clear hw2
  go_wp2
  go_loopw [5, 6] (fun i s6 wr => ∃ (k : Nat) (aT : Option Addr) (cT : Nat) (aK : Option Addr) (cK : Nat), k ≤ l.length ∧ i = .int .i64 k ∧ Hid (OfW w wr l k aT cT aK cK)) (fun i _ _ => l.length - (intOf i).toNat)
  case atStart => exact ⟨0, none, 0, none, 0, Nat.zero_le _, rfl, HW0⟩
  case round =>
    obtain ⟨k, aT, cT, aK, cK, hk, rfl, HW⟩ := hrel
    obtain ⟨T, hT⟩ : ∃ T, T = cam l k := ⟨_, rfl⟩
    have hTL : Hid (T.length ≤ 256) := by show _ ≤ _; rw [hT, cam_len l k hk]; exact Nat.le_trans hk HN.out
    obtain ⟨r0, r1, s0, s1, l1⟩ := HW.out.rs
    have hob := HW.out.ob
    have hTw := HW.out.t
    rw [← hT] at hob hTw
    obtain ⟨c0, c1, f0, f1, l0⟩ := hob
    have HOB : Hid (OB wr (w.heap.size + 1) (.slice aT T.length cT) (.slice aK 0 cK)) := ⟨c0, c1, f0, f1, l0⟩
    have HTW := Hid.mk2 hTw
    have HT := Hid.mk2 hT
    clear hT hTw
    have hkb : (k : Int) ≤ 256 := by have := HN.out; omega
    by_cases hlt : k < l.length
    · have hlt2 : (k : Int) < (l.length : Int) := by omega
      have HLr := Hid.mk2 (HLl.out.below HW.out.be)
      obtain ⟨b, off, rfl, hb, hc⟩ := at_of HLr.out hlt
      obtain ⟨s, hs⟩ : ∃ s, s = l[k] := ⟨_, rfl⟩
      rw [← hs] at hc
      have HS := Hid.mk2 hs
      clear hs
      by_cases hE : adE T [] s = 0
      · have HAD := Hid.mk2 (fun W (hbw : Below wr.heap.size wr W) => add_ok T [] aT aK cT cK s W (HTW.out.below hbw) (HW.out.k.below hbw) hE)
        obtain ⟨T', hT'⟩ : ∃ T', T' = s :: T := ⟨_, rfl⟩
        simp only [List.length_nil] at HAD
        rw [← hT'] at HAD
        have HT' := Hid.mk2 hT'
        have HE := Hid.mk2 hE
        clear hE hT'
        go_upto_region 5 with (fail)
        go_cut [6, 7] from 16 to 27 (fun s6 s7 wx => ∃ (C : Nat) (aX : Option Addr) (cX : Nat) (aY : Option Addr) (cY : Nat), s6 = .pointer (some ⟨C, 0, none⟩) ∧ s7 = .int .i64 0 ∧ Hid (Below wr.heap.size wr wx) ∧ Hid (OB wx C (.slice aX T'.length cX) (.slice aY 0 cY)) ∧ Hid (Rw wx wr.heap.size aX cX aY cY T' []))
        case first =>
          go_region_with (go_at_call 14; refine (HAD.out _ (by first | exact Below.refl _ _ | exact (Below.refl _ _).drew | exact ((Below.refl _ _).alloc (Nat.le_refl _) _).drew | exact (Below.refl _ _).alloc (Nat.le_refl _) _ | exact (Below.refl _ _).drew.alloc (Nat.le_refl _) _)).mono ?_; rintro e w5 ⟨aX, cX, aY, cY, rfl, hRw, hb5⟩; have HB5 : Hid (Below wr.heap.size wr w5) := (by first | exact hb5 | exact below_drew0 hb5 | exact below_alloc (below_drew0 hb5) | exact below_alloc hb5 | exact below_drew0 (below_alloc hb5)); (try (have HN5 := Hid.mk2 ((OB.made wr (.slice none 0 0) (.slice none 0 0)).below (by first | exact hb5 | exact below_drew0 hb5)); obtain ⟨n0, n1, m0, m1, nl⟩ := HN5.out)); have HR5 := Hid.mk2 hRw; clear hRw hb5)
          all_goals
            go_wp2
            go_meet
            case rel =>
              first
                | exact ⟨w5.heap.size, aX, cX, aY, cY, rfl, rfl, HB5.out.alloc HB5.out.size _, OB.made _ _ _, HR5.out.below ((Below.refl _ _).alloc (Nat.le_refl _) _)⟩
                | (have hR6 : Rw w5 (wr.heap.size + 1) aX cX aY cY T' [] := HR5.out.base (by first | (simp; done) | (show _ ≤ (wr.alloc _).heap.size; simp))
                   have far : ∀ g, (Value.slice aX T'.length cX).ownBlock = some g ∨ (Value.slice aY ([] : List ByteArray).length cY).ownBlock = some g → g ≠ wr.heap.size := fun g hg => by
                     rcases hg with hg | hg
                     · have := (hR6.t.lt g hg).1
                       omega
                     · have := (hR6.k.lt g hg).1
                       omega
                   exact ⟨wr.heap.size, aX, cX, aY, cY, rfl, rfl, (HB5.out.setCell (Nat.le_refl _) _).setCell (Nat.le_refl _) _, (HN5.out.set0 _).set1 _, ((hR6.set ⟨wr.heap.size, 0, none⟩ _ far).set ⟨wr.heap.size, 1, none⟩ _ far).base (by omega)⟩)
        case rest =>
          obtain ⟨C, aX, cX, aY, cY, rfl, rfl, HB6, HO6, HR6⟩ := hcut
          obtain ⟨w6, hw6⟩ : ∃ x, x = wc := ⟨_, rfl⟩
          rw [← hw6] at HB6 HO6 HR6 ⊢
          clear hw6 c0 c1 f0 f1 l0 r0 r1 s0 s1 l1
          have HOB6 := Hid.mk2 (HOB.out.below HB6.out)
          obtain ⟨c0, c1, f0, f1, l0⟩ := HOB6.out
          obtain ⟨x0, x1, y0, y1, xl⟩ := HO6.out
          go_wp2
          go_roundw
          case rel =>
            have hsz : w.heap.size + 1 < wr.heap.size := HOB.out.lt
            have hstep := HW.out.step HB6.out
            refine ⟨k + 1, aX, cX, aY, cY, by omega, by go_num, ?_⟩
            have e1 : cam l (k + 1) = T' := by rw [cam_succ l k hlt, ← HS.out, ← HT.out, HT'.out]
            have hset := (HOB6.out.set0 (.slice aX T'.length cX)).set1 (.slice aY 0 cY)
            refine ⟨(hstep.rs.other _ _ (by show w.heap.size + 1 ≠ w.heap.size; omega)).other _ _ (by show w.heap.size + 1 ≠ w.heap.size; omega), by rw [e1]; exact hset, ?_, ?_, (hstep.be.setCell (by show w.heap.size ≤ w.heap.size + 1; omega) _).setCell (by show w.heap.size ≤ w.heap.size + 1; omega) _, fun i hi hik => ?_, fun g off e => by have := HR6.out.farT g off e; omega⟩
            · rw [e1]
              have hf : ∀ g off, aX = some ⟨g, off, none⟩ → T' ≠ [] → g ≠ w.heap.size + 1 := fun g off e _ => by have := HR6.out.farT g off e; omega
              exact (HR6.out.tlT.setc _ _ hf).setc _ _ hf
            · have hf : ∀ g off, aY = some ⟨g, off, none⟩ → ([] : List ByteArray) ≠ [] → g ≠ w.heap.size + 1 := fun g off e h => absurd rfl h
              exact (HR6.out.tlK.setc _ _ hf).setc _ _ hf
            · by_cases e : i = k
              · subst e
                rw [← HS.out, ← HT.out]
                exact HE.out
              · exact HW.out.all i hi (by omega)
          case measure => simp [intOf]; omega
      · have HAD := Hid.mk2 (fun W (hbw : Below wr.heap.size wr W) => add_bad T [] aT aK cT cK s W (HTW.out.below hbw) (HW.out.k.below hbw) (by have := hTL.out; omega) (by simp) hE)
        obtain ⟨E, hEE⟩ : ∃ E, E = adE T [] s := ⟨_, rfl⟩
        simp only [List.length_nil] at HAD
        rw [← hEE] at HAD hE
        have hE2 : (E != 0) = true := by simpa using hE
        have hE3 : (E == 0) = false := by simpa using hE
        have HE : Hid (adE (cam l k) [] l[k] ≠ 0) := by show _ ≠ _; rw [← HT.out, ← HS.out, ← hEE]; exact hE
        clear hE hEE
        go_upto_region 5 with (fail)
        go_cut [6, 7] from 16 to 27 (fun s6 s7 wx => s7 = .int .i64 E ∧ Hid (Below wr.heap.size wr wx))
        case first =>
          go_region_with (go_at_call 14; refine (HAD.out _ (by first | exact Below.refl _ _ | exact (Below.refl _ _).drew | exact ((Below.refl _ _).alloc (Nat.le_refl _) _).drew | exact (Below.refl _ _).alloc (Nat.le_refl _) _ | exact (Below.refl _ _).drew.alloc (Nat.le_refl _) _)).mono ?_; rintro e w5 ⟨rfl, hb5⟩; have HB5 : Hid (Below wr.heap.size wr w5) := (by first | exact hb5 | exact below_drew0 hb5 | exact below_alloc (below_drew0 hb5) | exact below_alloc hb5 | exact below_drew0 (below_alloc hb5)); (try (have HN5 := Hid.mk2 ((OB.made wr (.slice none 0 0) (.slice none 0 0)).below (by first | exact hb5 | exact below_drew0 hb5)); obtain ⟨n0, n1, m0, m1, nl⟩ := HN5.out)); clear hb5)
          all_goals
            go_wp2
            go_meet
            case rel =>
              first
                | exact ⟨rfl, HB5.out.alloc HB5.out.size _⟩
                | exact ⟨rfl, (HB5.out.setCell (Nat.le_refl _) _).setCell (Nat.le_refl _) _⟩
        case rest =>
          obtain ⟨rfl, HB6⟩ := hcut
          obtain ⟨w6, hw6⟩ : ∃ x, x = wc := ⟨_, rfl⟩
          rw [← hw6] at HB6 ⊢
          clear hw6 c0 c1 f0 f1 l0 r0 r1 s0 s1 l1
          have HW6 := Hid.mk2 (HW.out.step HB6.out)
          obtain ⟨c0, c1, f0, f1, l0⟩ := HOB.out.below HB6.out
          obtain ⟨r0, r1, s0, s1, l1⟩ := HW6.out.rs
          go_wp2
          have HFT : Hid (∀ g off, aT = some ⟨g, off, none⟩ → T ≠ [] → g ≠ w.heap.size) := fun g off e _ => HW.out.far g off e
          obtain ⟨q0, q1, _, _, _⟩ := (HW6.out.rs.set0 (.slice aT T.length cT)).set1 (.slice aK 0 cK)
          try simp only [Exit.inBlock, Exit.then]
          refine bodyPost_ret (v := .tuple #[.agg #[.slice aT T.length cT, .slice aK 0 cK], .bool false]) (by simp [results, Try.results9, go_sem, q0, q1]) rfl ⟨⟨false, T, aT, cT, aK, cK, rfl, ?_, ?_, (by intro e; cases e), fun _ => ⟨k, hlt, HE.out⟩⟩, ?_⟩
          · exact ((HTW.out.below HB6.out).setc _ _ HFT.out).setc _ _ HFT.out
          · exact (HW6.out.k.setc _ _ (fun g off e h => absurd rfl h)).setc _ _ (fun g off e h => absurd rfl h)
          · exact (HW6.out.be.setCell (Nat.le_refl _) _).setCell (Nat.le_refl _) _
    · have hlt2 : ¬ (k : Int) < (l.length : Int) := by omega
      have hkl : k = l.length := by omega
      have HKL := Hid.mk2 hkl
      clear hkl
      go_wp2
      have HFT : Hid (∀ g off, aT = some ⟨g, off, none⟩ → T ≠ [] → g ≠ w.heap.size) := fun g off e _ => HW.out.far g off e
      obtain ⟨q0, q1, _, _, _⟩ := (HW.out.rs.set0 (.slice aT T.length cT)).set1 (.slice aK 0 cK)
      try simp only [Exit.inBlock, Exit.then]
      refine bodyPost_ret (v := .tuple #[.agg #[.slice aT T.length cT, .slice aK 0 cK], .bool true]) (by simp [results, Try.results9, go_sem, q0, q1]) rfl ⟨⟨true, T, aT, cT, aK, cK, rfl, ?_, ?_, fun _ => ⟨?_, fun j hj => ?_⟩, (by intro e; cases e)⟩, ?_⟩
      · exact (HTW.out.setc _ _ HFT.out).setc _ _ HFT.out
      · exact (HW.out.k.setc _ _ (fun g off e h => absurd rfl h)).setc _ _ (fun g off e h => absurd rfl h)
      · rw [HT.out, HKL.out, cam_all]
      · exact HW.out.all j hj (by rw [HKL.out]; exact hj)
      · exact (HW.out.be.setCell (Nat.le_refl _) _).setCell (Nat.le_refl _) _
end Go.Proofs.Ytmdlampmoeiihaa
