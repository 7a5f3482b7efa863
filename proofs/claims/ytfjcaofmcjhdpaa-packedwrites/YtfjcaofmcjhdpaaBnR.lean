/-
  Package binary: Packet, Cut.
-/
import Derived.Test.YtfjcaofmcjhdpaaBnQ
namespace Go.Proofs.Ytfjcaofmcjhdpaa
open Go.Proofs.Ytfjcaofmcjhdpaa.It
open Go.RowKit
set_option linter.unusedSimpArgs false
set_option linter.unusedVariables false
set_option maxRecDepth 100000

def pkE (L : List UInt8) : Int := if 4096 < L.length then 3 else 0
def pkL (f k : UInt8) (L : List UInt8) : List UInt8 := if 4096 < L.length then [] else pkt f k L
theorem head_own (V : World) (f k : UInt8) (m : Nat) (hm : m < 4294967296) (a b c d : Int) (ha : a = ((UInt8.ofNat (m / 16777216)).toNat : Int)) (hb : b = ((UInt8.ofNat (m / 65536)).toNat : Int)) (hc : c = ((UInt8.ofNat (m / 256)).toNat : Int)) (hd : d = ((UInt8.ofNat m).toNat : Int)) :
    GOwn EY (V.alloc (.cells #[.int .u8 (f.toNat : Int), .int .u8 (k.toNat : Int), .int .u8 a, .int .u8 b, .int .u8 c, .int .u8 d] 5)) V.heap.size (.slice (some ⟨V.heap.size, 0, none⟩) 6 6) (f :: k :: be4 m) := by
  subst ha hb hc hd
  exact GOwn.fresh okY V (f :: k :: be4 m) _ rfl (by simp [be4])
set_option maxHeartbeats 1000000 in
theorem packet_any (f k : UInt8) (V : World) (ao : Option Addr) (L : List UInt8) (cap : Nat) (hr : GRd EY V ao L cap) (m : Nat) (hm : m = L.length) (hL : L.length ≤ 20000) :
    Calls Try.prog 16 #[.int .u8 (f.toNat : Int), .int .u8 (k.toNat : Int), .slice ao m cap] V fun e V' => ∃ v, e = .returned (.tuple #[v, .int .i64 (pkE L)]) ∧ GOwn EY V' V.heap.size v (pkL f k L) ∧ Below V.heap.size V V' := by
  have hmm : m ≤ 20000 := by omega
  have hmi : (m : Int) ≤ 20000 := by omega
  by_cases h0 : 4096 < L.length
  · have e1 : pkE L = 3 := if_pos h0
    have e2 : pkL f k L = [] := if_pos h0
    rw [e1, e2]
    have hmi2 : (4096 : Int) < (m : Int) := by omega
    clear hr hm hL h0 e1 e2
    go_enter Try.func16, Try.ntmps16
    go_wp2
    go_ret2
    exact ⟨_, rfl, GOwn.nil _ _, Below.refl _ _⟩
  have e1 : pkE L = 0 := if_neg h0
  have e2 : pkL f k L = (f :: k :: be4 m) ++ L := by unfold pkL pkt; rw [if_neg h0, ← hm]; rfl
  rw [e1, e2]
  have hmi2 : ¬ (4096 : Int) < (m : Int) := by omega
  have hm4 : m ≤ 4096 := by omega
  have hm4i : (m : Int) ≤ 4096 := by omega
  have HH := Hid.mk2 (head_own V f k m (by omega) ((m : Int) / 16777216) ((m : Int) / 65536) ((m : Int) / 256) ((m : Int) % 256) (by rw [UInt8.toNat_ofNat']; omega) (by rw [UInt8.toNat_ofNat']; omega) (by rw [UInt8.toNat_ofNat']; omega) (by rw [UInt8.toNat_ofNat']; omega))
  have HR := Hid.mk2 hr
  have HM := Hid.mk2 hm
  clear hr hm hL h0 e1 e2
  go_enter Try.func16, Try.ntmps16
  go_wp2_with (at_builtin; refine g_app okY rfl _ _ _ rfl rfl V.heap.size _ (f :: k :: be4 m) HH.out rfl ao cap L m HM.out rfl (HR.out.alloc _) (by have := HM.out; simp [be4]; omega) (by simp) ?_; intro v2 w2 hO2 hG2; have HO2 := Hid.mk2 hO2; have HG2 := Hid.mk2 (hG2.below HH.out (by simp)); clear hO2 hG2)
  go_ret2
  exact ⟨_, rfl, HO2.out, (g_alloc V _).trans HG2.out⟩

/-- an append to nil: a copy in memory of its own -/
theorem cutE_pos (f : UInt8) (L : List UInt8) : (cutP f L).b.length ≤ 4096 := by
  by_cases h : (cutP f L).n = 0
  · unfold cutP at h ⊢
    cases L with
    | nil => simp
    | cons x l =>
      dsimp only at h ⊢
      split at h
      · rename_i h1; rw [if_pos h1]; simp
      · rename_i h1
        rw [if_neg h1]
        split at h
        · rename_i h2; rw [if_pos h2]; simp
        · rename_i h2
          rw [if_neg h2]
          split at h
          · rename_i h3; rw [if_pos h3]; simp
          · rename_i h3
            rw [if_neg h3]
            split at h
            · rename_i h4; rw [if_pos h4]; simp
            · simp at h
  · exact (cut_only rfl h).2.2.2.1
def cutQ (f : UInt8) (L : List UInt8) : Ct := if 16384 < L.length then ⟨0, [], 0, 3⟩ else cutP f L
structure CopyR (V V' : World) (c : Ct) (e : Ending) : Prop where
  ex : ∃ v, e = .returned (.tuple #[.int .u8 (c.k.toNat : Int), v, .int .i64 (c.n : Int), .int .i64 c.e]) ∧ GOwn EY V' V.heap.size v c.b
  below : Below V.heap.size V V'
set_option maxHeartbeats 1000000 in
theorem cutc_any (f : UInt8) (V : World) (ao : Option Addr) (L : List UInt8) (cap : Nat) (hr : GRd EY V ao L cap) (m : Nat) (hm : m = L.length) (hL : L.length ≤ 20000) :
    Calls Try.prog 18 #[.int .u8 (f.toNat : Int), .slice ao m cap] V fun e V' => CopyR V V' (cutQ f L) e := by
  have hmi : (m : Int) ≤ 20000 := by omega
  by_cases h0 : 16384 < L.length
  · have e1 : cutQ f L = ⟨0, [], 0, 3⟩ := if_pos h0
    rw [e1]
    have hmi2 : (16384 : Int) < (m : Int) := by omega
    clear hr hm hL h0 e1
    go_enter Try.func18, Try.ntmps18
    go_wp2
    (try simp only [Exit.inBlock, Exit.then])
    refine bodyPost_ret (results_tmp4 rfl _ _ _) rfl ?_
    exact ⟨⟨_, rfl, GOwn.nil _ _⟩, Below.refl _ _⟩
  have e1 : cutQ f L = cutP f L := if_neg h0
  rw [e1]
  have hmi2 : ¬ (16384 : Int) < (m : Int) := by omega
  have HC := Hid.mk2 (bcut_any f V ao L cap hr m hm hL)
  have hbl := cutE_pos f L
  obtain ⟨c, hc⟩ : ∃ c, c = cutP f L := ⟨_, rfl⟩
  rw [← hc] at HC hbl ⊢
  clear hr hm hL h0 e1 hc
  obtain ⟨ck, cb, cn, ce⟩ := c
  dsimp only at hbl
  have HBL := Hid.mk2 hbl
  clear hbl
  go_enter Try.func18, Try.ntmps18
  go_wp2_with (first
    | (go_at_call 28; refine HC.out.mono ?_; rintro e w1 ⟨⟨vo, vc, rfl, hv⟩, hb1⟩; dsimp only at hv; have HV := Hid.mk2 (hv.below hb1); have HB1 := Hid.mk2 hb1; obtain ⟨cl, hcl⟩ : ∃ cl, cl = cb.length := ⟨_, rfl⟩; rw [← hcl]; have HCL := Hid.mk2 hcl; clear hv hb1 hcl)
    | (at_builtin; refine g_app okY rfl _ _ _ rfl rfl V.heap.size _ [] (GOwn.nil _ _) rfl vo vc cb cl HCL.out rfl HV.out (by have := HBL.out; simp; omega) HB1.out.size ?_; intro v2 w2 hO2 hG2; have HO2 := Hid.mk2 hO2; have HG2 := Hid.mk2 (hG2.below (GOwn.nil (E := EY) _ _) HB1.out.size); clear hO2 hG2))
  (try simp only [Exit.inBlock, Exit.then])
  refine bodyPost_ret (results_tmp4 rfl _ _ _) rfl ?_
  exact ⟨⟨_, rfl, HO2.out⟩, HB1.out.trans HG2.out⟩
end Go.Proofs.Ytfjcaofmcjhdpaa
