/-
  (shaken)
-/
import Derived.Test.YtjmcgpdimhgegaaCmd5
import Derived.Test.YtjmcgpdimhgegaaRec
import Derived.Test.YtjmcgpdimhgegaaQuiet
namespace Go.Proofs.Ytjmcgpdimhgegaa
open Go.RowKit
set_option linter.unusedSimpArgs false
set_option linter.unusedVariables false
set_option maxRecDepth 100000

theorem ba_eta (s : ByteArray) : (⟨s.data.toList.toArray⟩ : ByteArray) = s := by cases s; simp
theorem sTexts_back : ∀ (ks : List ByteArray) (r : List UInt8) (b : Bool), (∀ k ∈ ks, keyOk k = true) → sTexts ks.length ⟨keysB ks ++ r, b⟩ = (ks, ⟨r, b⟩)
  | [], r, b, _ => by simp [sTexts, keysB]
  | k :: ks, r, b, h => by
    have h1 : k.size ≤ 32 := by have := h k (by simp); simp [keyOk] at this; exact this.2
    have hf : Fits k.data.toList.length := by unfold Fits; simp; omega
    have e : keysB (k :: ks) ++ r = text k.data.toList ++ (keysB ks ++ r) := by simp [keysB]
    have ih := sTexts_back ks r b (fun x hx => h x (List.mem_cons_of_mem _ hx))
    simp only [List.length_cons, sTexts]
    rw [e, sText_back _ _ _ hf]
    simp only [ih, ba_eta]
theorem sTexts_inv : ∀ (n : Nat) (s : St), (sTexts n s).2.bad = false → s.bad = false ∧ s.l = keysB (sTexts n s).1 ++ (sTexts n s).2.l
  | 0, s, h => ⟨h, by simp [sTexts, keysB]⟩
  | n + 1, s, h => by
    simp only [sTexts] at h ⊢
    obtain ⟨h1, h2⟩ := sTexts_inv n (sText s).2 h
    obtain ⟨h3, h4⟩ := sText_inv h1
    refine ⟨h3, ?_⟩
    rw [h4, h2]
    simp [keysB]
/-- a command is read again as it was written -/
theorem sCmd_back (c : Cmd) (hok : cmdOk c = true) (hg : c.Good) : sCmd ⟨cmdB c, false⟩ = (c, ⟨[], false⟩) := by
  have hf := cmdOk_fit hok
  obtain ⟨kind, tenant, keys, value, flags, dur, unique, by_⟩ := c
  obtain ⟨k1, k2, t0, t1, many, hkeys, hvalue, d0, d1⟩ := hf
  obtain ⟨gf, gu, gb⟩ := hg
  simp only [] at k1 k2 t0 t1 many hkeys hvalue d0 d1 gf gu gb
  obtain ⟨t, rfl⟩ : ∃ t : Nat, tenant = (t : Int) := ⟨tenant.toNat, by omega⟩
  obtain ⟨u, rfl⟩ : ∃ u : Nat, dur = (u : Int) := ⟨dur.toNat, by omega⟩
  have ft : Fits t := by unfold Fits; omega
  have fu : Fits u := by unfold Fits; omega
  have fk : Fits keys.length := by unfold Fits; omega
  have ff : Fits flags := by unfold Fits; omega
  have fv : Fits value.data.toList.length := by unfold Fits; simp; omega
  have e : cmdB ⟨kind, t, keys, value, flags, u, unique, by_⟩ = kind :: (small t ++ (small keys.length ++ (keysB keys ++ (text value.data.toList ++ (small flags ++ (small u ++ (small unique ++ (small by_ ++ [])))))))) := by
    simp [cmdB]
  rw [e]
  unfold sCmd
  have a0 : sSingle ⟨kind :: (small t ++ (small keys.length ++ (keysB keys ++ (text value.data.toList ++ (small flags ++ (small u ++ (small unique ++ (small by_ ++ [])))))))), false⟩ = (kind, ⟨small t ++ (small keys.length ++ (keysB keys ++ (text value.data.toList ++ (small flags ++ (small u ++ (small unique ++ (small by_ ++ []))))))), false⟩) := rfl
  simp only [a0, sSmall_back _ _ ft (show t ≤ 9223372036854775807 by omega), sSmall_back _ _ fk (show keys.length ≤ 8 by omega), sTexts_back _ _ _ hkeys, sText_back _ _ _ fv, sSmall_back _ _ ff (show flags ≤ 4294967295 by omega), sSmall_back _ _ fu (show u ≤ 9223372036854775807 by omega), sSmall_back _ _ gu (show unique ≤ 18446744073709551615 by unfold Fits at gu; omega), sSmall_back _ _ gb (show by_ ≤ 18446744073709551615 by unfold Fits at gb; omega), ba_eta]
/-- what is read as a command was written so -/
theorem sCmd_inv {l : List UInt8} (hb : (sCmd ⟨l, false⟩).2.bad = false) (he : (sCmd ⟨l, false⟩).2.l = []) : l = cmdB (sCmd ⟨l, false⟩).1 ∧ (sCmd ⟨l, false⟩).1.Good := by
  obtain ⟨p0, hp0⟩ : ∃ p, p = sSingle ⟨l, false⟩ := ⟨_, rfl⟩
  obtain ⟨p1, hp1⟩ : ∃ p, p = sSmall 9223372036854775807 p0.2 := ⟨_, rfl⟩
  obtain ⟨pn, hpn⟩ : ∃ p, p = sSmall 8 p1.2 := ⟨_, rfl⟩
  obtain ⟨p2, hp2⟩ : ∃ p, p = sTexts pn.1 pn.2 := ⟨_, rfl⟩
  obtain ⟨p3, hp3⟩ : ∃ p, p = sText p2.2 := ⟨_, rfl⟩
  obtain ⟨p4, hp4⟩ : ∃ p, p = sSmall 4294967295 p3.2 := ⟨_, rfl⟩
  obtain ⟨p5, hp5⟩ : ∃ p, p = sSmall 9223372036854775807 p4.2 := ⟨_, rfl⟩
  obtain ⟨p6, hp6⟩ : ∃ p, p = sSmall 18446744073709551615 p5.2 := ⟨_, rfl⟩
  obtain ⟨p7, hp7⟩ : ∃ p, p = sSmall 18446744073709551615 p6.2 := ⟨_, rfl⟩
  have hc : sCmd ⟨l, false⟩ = (⟨p0.1, p1.1, p2.1, ⟨p3.1.toArray⟩, p4.1, p5.1, p6.1, p7.1⟩, p7.2) := by
    unfold sCmd
    simp only [← hp0, ← hp1, ← hpn, ← hp2, ← hp3, ← hp4, ← hp5, ← hp6, ← hp7]
  rw [hc] at hb he ⊢
  simp only [] at hb he ⊢
  rw [hp7] at hb
  obtain ⟨b6, e6, f7, _⟩ := sSmall_inv hb
  rw [hp6] at b6
  obtain ⟨b5, e5, f6, _⟩ := sSmall_inv b6
  rw [hp5] at b5
  obtain ⟨b4, e4, f5, _⟩ := sSmall_inv b5
  rw [hp4] at b4
  obtain ⟨b3, e3, f4, l4⟩ := sSmall_inv b4
  rw [hp3] at b3
  obtain ⟨b2, e2⟩ := sText_inv b3
  rw [hp2] at b2
  obtain ⟨bn, en⟩ := sTexts_inv _ _ b2
  rw [hpn] at bn
  obtain ⟨b1, e1, fn, _⟩ := sSmall_inv bn
  rw [hp1] at b1
  obtain ⟨b0, e0, f1, _⟩ := sSmall_inv b1
  rw [hp0] at b0
  obtain ⟨_, es⟩ := sSingle_inv b0
  rw [← hp0] at es
  rw [← hp1] at e0 f1
  rw [← hpn] at e1 fn
  rw [← hp2] at en
  rw [← hp3] at e2
  rw [← hp4] at e3 f4 l4
  rw [← hp5] at e4 f5
  rw [← hp6] at e5 f6
  rw [← hp7] at e6 f7
  have hl2 : p2.1.length = pn.1 := by rw [hp2]; exact sTexts_len _ _
  refine ⟨?_, ⟨l4, f6, f7⟩⟩
  have es' : l = p0.1 :: p0.2.l := es
  rw [es', e0, e1, en, e2, e3, e4, e5, e6, he]
  simp [cmdB, hl2]
theorem cmdRead_of {l : List UInt8} {q : Cmd × St} (h : sCmd ⟨l, false⟩ = q) : cmdRead l = (!q.2.bad && q.2.l.isEmpty && cmdOk q.1) := by unfold cmdRead; rw [h]
theorem ofCmdE_pos {l : List UInt8} (h : cmdRead l = true) : ofCmdE l = 0 := by unfold ofCmdE; exact if_pos h
theorem ofCmd_pos {l : List UInt8} (h : cmdRead l = true) : ofCmd l = (sCmd ⟨l, false⟩).1 := by unfold ofCmd; exact if_pos h
theorem ask_back {c : Cmd} (hok : cmdOk c = true) (hg : c.Good) : ofCmdE (cmdB c) = 0 ∧ ofCmd (cmdB c) = c := by
  have h := sCmd_back c hok hg
  obtain ⟨l, hl⟩ : ∃ l, l = cmdB c := ⟨_, rfl⟩
  rw [← hl] at h ⊢
  clear hl
  have hr : cmdRead l = true := by rw [cmdRead_of h, hok]; rfl
  exact ⟨ofCmdE_pos hr, by rw [ofCmd_pos hr, h]⟩
theorem ask_inv {l : List UInt8} (h : ofCmdE l = 0) : cmdOk (ofCmd l) = true ∧ cmdB (ofCmd l) = l ∧ (ofCmd l).Good := by
  have hr : cmdRead l = true := by
    cases hh : cmdRead l with
    | true => rfl
    | false => unfold ofCmdE at h; rw [if_neg (by rw [hh]; decide)] at h; cases h
  have hof := ofCmd_pos hr
  have hr2 := hr
  rw [cmdRead_of rfl] at hr2
  obtain ⟨q, hq⟩ : ∃ q, q = sCmd ⟨l, false⟩ := ⟨_, rfl⟩
  have hi := @sCmd_inv l
  rw [← hq] at hr2 hof hi
  simp only [Bool.and_eq_true, Bool.not_eq_true', List.isEmpty_iff] at hr2
  obtain ⟨⟨h1, h2⟩, h3⟩ := hr2
  obtain ⟨g1, g2⟩ := hi h1 h2
  rw [hof]
  exact ⟨h3, g1.symm, g2⟩
theorem zero_good : zeroC.Good := ⟨by simp [zeroC], by unfold Fits; simp [zeroC], by unfold Fits; simp [zeroC]⟩
theorem ofCmd_good (l : List UInt8) : (ofCmd l).Good := by
  cases hh : cmdRead l with
  | true => exact (ask_inv (ofCmdE_pos hh)).2.2
  | false =>
    have : ofCmd l = zeroC := by unfold ofCmd; exact if_neg (by rw [hh]; decide)
    rw [this]
    exact zero_good
end Go.Proofs.Ytjmcgpdimhgegaa
