/-
  The document's Reader: Number, Byte, Text; what it reads as a command, and that this is what the code reads.
-/
import Derived.Test.YtlhlleokehkolaaCmd6
import Derived.Test.YtlhlleokehkolaaRefCut
namespace Go.Proofs.Ytlhlleokehkolaa
open Go.RowKit
set_option linter.unusedSimpArgs false
set_option linter.unusedVariables false
set_option maxRecDepth 100000

def dNum (most : Nat) (s : St) : Nat × St :=
  match readL s.l with
  | some (n, k) => if n ≤ most then (n, ⟨s.l.drop k, s.bad⟩) else (0, ⟨s.l, true⟩)
  | none => (0, ⟨s.l, true⟩)
theorem dNum_ok {most : Nat} {s : St} {n k : Nat} (h : readL s.l = some (n, k)) (hn : n ≤ most) : dNum most s = (n, ⟨s.l.drop k, s.bad⟩) := by simp [dNum, h, hn]
theorem dNum_much {most : Nat} {s : St} {n k : Nat} (h : readL s.l = some (n, k)) (hn : ¬ n ≤ most) : dNum most s = (0, ⟨s.l, true⟩) := by simp [dNum, h, hn]
theorem dNum_none {most : Nat} {s : St} (h : readL s.l = none) : dNum most s = (0, ⟨s.l, true⟩) := by simp [dNum, h]
theorem dNum_le (most : Nat) (s : St) : (dNum most s).1 ≤ most := by
  rcases h : readL s.l with _ | ⟨n, k⟩
  · rw [dNum_none h]; exact Nat.zero_le _
  · by_cases hn : n ≤ most
    · rw [dNum_ok h hn]; exact hn
    · rw [dNum_much h hn]; exact Nat.zero_le _
theorem dNum_back (most n : Nat) (hn : Fits n) (hm : n ≤ most) (r : List UInt8) (b : Bool) : dNum most ⟨small n ++ r, b⟩ = (n, ⟨r, b⟩) := by
  rw [dNum_ok (s := ⟨small n ++ r, b⟩) (read_small n hn r) hm]
  simp
def dByte (s : St) : UInt8 × St :=
  match s.l with
  | [] => (0, ⟨[], true⟩)
  | x :: r => (x, ⟨r, s.bad⟩)
def dText (s : St) : List UInt8 × St :=
  match readL s.l with
  | some (n, k) => if s.l.length - k < n then ([], ⟨s.l, true⟩) else ((s.l.drop k).take n, ⟨s.l.drop (k + n), s.bad⟩)
  | none => ([], ⟨s.l, true⟩)
theorem dText_ok {s : St} {n k : Nat} (h : readL s.l = some (n, k)) (hn : ¬ s.l.length - k < n) : dText s = ((s.l.drop k).take n, ⟨s.l.drop (k + n), s.bad⟩) := by simp only [dText, h, if_neg hn]
theorem dText_short {s : St} {n k : Nat} (h : readL s.l = some (n, k)) (hn : s.l.length - k < n) : dText s = ([], ⟨s.l, true⟩) := by simp only [dText, h, if_pos hn]
theorem dText_none {s : St} (h : readL s.l = none) : dText s = ([], ⟨s.l, true⟩) := by simp only [dText, h]
theorem dText_back (t r : List UInt8) (b : Bool) (ht : Fits t.length) : dText ⟨text t ++ r, b⟩ = (t, ⟨r, b⟩) := by
  have e : text t ++ r = small t.length ++ (t ++ r) := by simp [text]
  have hr := read_small t.length ht (t ++ r)
  rw [e]
  rw [dText_ok (s := ⟨small t.length ++ (t ++ r), b⟩) hr (by simp)]
  simp [List.drop_append, List.take_append]
def dTexts : Nat → St → List ByteArray × St
  | 0, s => ([], s)
  | n + 1, s => if s.bad = true then ([], s) else (⟨(dText s).1.toArray⟩ :: (dTexts n (dText s).2).1, (dTexts n (dText s).2).2)
theorem dTexts_bad (n : Nat) (s : St) (h : s.bad = true) : dTexts n s = ([], s) := by
  cases n with
  | zero => rfl
  | succ n => simp [dTexts, h]
theorem dTexts_back : ∀ (ks : List ByteArray) (r : List UInt8), (∀ k ∈ ks, keyOk k = true) → dTexts ks.length ⟨keysB ks ++ r, false⟩ = (ks, ⟨r, false⟩)
  | [], r, _ => by simp [dTexts, keysB]
  | k :: ks, r, h => by
    have h1 : k.size ≤ 32 := by have := h k (by simp); simp [keyOk] at this; exact this.2
    have hf : Fits k.data.toList.length := by unfold Fits; simp; omega
    have e : keysB (k :: ks) ++ r = text k.data.toList ++ (keysB ks ++ r) := by simp [keysB]
    have ih := dTexts_back ks r (fun x hx => h x (List.mem_cons_of_mem _ hx))
    simp only [List.length_cons, dTexts]
    rw [e, dText_back _ _ _ hf]
    simp [ih, ba_eta]
theorem dTexts_step {n k : Nat} {s st : St} {ks : List ByteArray} (h : dTexts n s = (ks ++ (dTexts (n - k) st).1, (dTexts (n - k) st).2)) (hk : k < n) (hb : st.bad = false) :
    dTexts n s = ((ks ++ [⟨(dText st).1.toArray⟩]) ++ (dTexts (n - (k + 1)) (dText st).2).1, (dTexts (n - (k + 1)) (dText st).2).2) := by
  rw [h]
  have e : n - k = (n - (k + 1)) + 1 := by omega
  rw [e]
  simp [dTexts, hb]
def dCmd (s : St) : Cmd × St :=
  let p0 := dByte s
  let p1 := dNum 4 p0.2
  let pn := dNum 8 p1.2
  let p2 := dTexts pn.1 pn.2
  let p3 := dText p2.2
  let p4 := dNum 4294967295 p3.2
  let p5 := dNum 1099511627776 p4.2
  let p6 := dNum 18446744073709551615 p5.2
  let p7 := dNum 18446744073709551615 p6.2
  (⟨p0.1, p1.1, p2.1, ⟨p3.1.toArray⟩, p4.1, p5.1, p6.1, p7.1⟩, p7.2)
theorem dNum_fits (s : St) : Fits (dNum 18446744073709551615 s).1 := by
  have := dNum_le 18446744073709551615 s
  unfold Fits
  omega
theorem dCmd_good (s : St) : (dCmd s).1.Good := by
  refine ⟨?_, ?_, ?_⟩
  · simp only [dCmd]; apply dNum_le
  · simp only [dCmd]; apply dNum_fits
  · simp only [dCmd]; apply dNum_fits
theorem dCmd_back (c : Cmd) (hok : cmdOk c = true) (hg : c.Good) : dCmd ⟨cmdB c, false⟩ = (c, ⟨[], false⟩) := by
  have hf := cmdOk_fit hok
  obtain ⟨kind, tenant, keys, value, flags, dur, unique, by_⟩ := c
  obtain ⟨k1, k2, t0, t1, many, hkeys, hvalue, d0, d1⟩ := hf
  obtain ⟨gf, gu, gb⟩ := hg
  simp only [] at k1 k2 t0 t1 many hkeys hvalue d0 d1 gf gu gb
  obtain ⟨t, rfl⟩ : ∃ t : Nat, tenant = (t : Int) := ⟨tenant.toNat, by omega⟩
  obtain ⟨u, rfl⟩ : ∃ u : Nat, dur = (u : Int) := ⟨dur.toNat, by omega⟩
  have ft : Fits t := by unfold Fits; omega
  have fu : Fits u := by unfold Fits; omega
  have fk : Fits keys.length := by unfold Fits; omega
  have ff : Fits flags := by unfold Fits; omega
  have fv : Fits value.data.toList.length := by unfold Fits; simp; omega
  have e : cmdB ⟨kind, t, keys, value, flags, u, unique, by_⟩ = kind :: (small t ++ (small keys.length ++ (keysB keys ++ (text value.data.toList ++ (small flags ++ (small u ++ (small unique ++ (small by_ ++ [])))))))) := by
    simp [cmdB]
  rw [e]
  unfold dCmd
  have a0 : dByte ⟨kind :: (small t ++ (small keys.length ++ (keysB keys ++ (text value.data.toList ++ (small flags ++ (small u ++ (small unique ++ (small by_ ++ [])))))))), false⟩ = (kind, ⟨small t ++ (small keys.length ++ (keysB keys ++ (text value.data.toList ++ (small flags ++ (small u ++ (small unique ++ (small by_ ++ []))))))), false⟩) := rfl
  simp only [a0, dNum_back _ _ ft (show t ≤ 4 by omega), dNum_back _ _ fk (show keys.length ≤ 8 by omega), dTexts_back _ _ hkeys, dText_back _ _ _ fv, dNum_back _ _ ff (show flags ≤ 4294967295 by omega), dNum_back _ _ fu (show u ≤ 1099511627776 by omega), dNum_back _ _ gu (show unique ≤ 18446744073709551615 by unfold Fits at gu; omega), dNum_back _ _ gb (show by_ ≤ 18446744073709551615 by unfold Fits at gb; omega), ba_eta]
/-- what the document takes for a command's bytes -/
def docRead (l : List UInt8) : Bool := !(dCmd ⟨l, false⟩).2.bad && cmdOk (dCmd ⟨l, false⟩).1 && decide (cmdB (dCmd ⟨l, false⟩).1 = l)
theorem doc_pos {l : List UInt8} (h : docRead l = true) : ofCmdE l = 0 ∧ ofCmd l = (dCmd ⟨l, false⟩).1 := by
  unfold docRead at h
  rw [Bool.and_eq_true, Bool.and_eq_true] at h
  obtain ⟨⟨h1, h2⟩, h3⟩ := h
  have h3 := of_decide_eq_true h3
  have := ask_back h2 (dCmd_good _)
  rw [h3] at this
  exact this
theorem doc_neg {l : List UInt8} (h : docRead l = false) : ofCmdE l = 8 ∧ ofCmd l = zeroC := by
  cases hr : cmdRead l with
  | false =>
    unfold ofCmdE ofCmd
    rw [if_neg (by rw [hr]; decide), if_neg (by rw [hr]; decide)]
    exact ⟨rfl, rfl⟩
  | true =>
    exfalso
    obtain ⟨h1, h2, h3⟩ := ask_inv (ofCmdE_pos hr)
    have hb := dCmd_back (ofCmd l) h1 h3
    rw [h2] at hb
    unfold docRead at h
    rw [hb] at h
    simp [h1, h2] at h

theorem refNumber_any (w : World) (B rb : Nat) (s : St) (most : Nat) (h : Rd w B rb s) :
    Calls Try.prog 52 #[.pointer (some ⟨rb, 0, none⟩), .int .u64 most] w fun e w' => e = .returned (.int .u64 (dNum most s).1) ∧ Rd w' B rb (dNum most s).2 ∧ w.grownBy w' (some rb) := by
  have HR : Hid (Rd w B rb s) := h
  obtain ⟨⟨ao, cap, c0, hb, hc1, hc2, hc3⟩, c1, f0, f1, hle, hlt⟩ := h
  have hm : s.l.length ≤ maxLen := by omega
  have HM : Hid (cap ≤ maxLen) := hc2
  have H3 : Hid (ao = none → cap = 0) := hc3
  unfold maxLen at hc2
  clear hc3
  rcases hr : readL s.l with _ | ⟨n, k⟩
  · have HE := dNum_none (most := most) hr
    obtain ⟨e1, e2, e3⟩ := read_none hr
    have hrd := refRead_any w B ao s.l cap hm hb
    rw [e1, e2, e3] at hrd
    rw [HE]
    clear HE e1 e2 e3 hr
    go_enter Try.func52, Try.ntmps52
    go_wp2_with (go_at_call 20; refine hrd.mono ?_; rintro e w' ⟨rfl, rfl⟩)
    go_ret
    exact ⟨rfl, HR.out.mark true, grown_set w rb 1 _⟩
  · obtain ⟨e1, e2, e3⟩ := read_some hr
    obtain ⟨hkl, hk0, _⟩ := readL_le hr
    have hrd := refRead_any w B ao s.l cap hm hb
    rw [e1, e2, e3] at hrd
    by_cases hmo : n ≤ most
    · have HE := dNum_ok (most := most) hr hmo
      have hmo1 : ¬ (most : Int) < (n : Int) := by omega
      have hd : decide ((most : Int) < (n : Int)) = false := by simpa using hmo1
      rw [HE]
      clear HE e1 e2 e3 hr
      go_enter Try.func52, Try.ntmps52
      go_wp2_with (go_at_call 20; refine hrd.mono ?_; rintro e w' ⟨rfl, rfl⟩)
      · have hck : cap = k := by assumption
        go_ret
        exact ⟨rfl, HR.out.set ao (s.l.drop k) _ 0 (by simp) (BsAt.drop_all (by omega)) (by simp; omega) (by simp [maxLen]) (fun _ => rfl), grown_set w rb 0 _⟩
      · go_ret
        exact ⟨rfl, HR.out.set _ (s.l.drop k) _ (cap - k) (by simp) (hb.drop k) (by simp; omega) (by have := HM.out; omega) (fun e => by have := H3.out (by simpa using e); omega), grown_set w rb 0 _⟩
    · have HE := dNum_much (most := most) hr hmo
      have hd : (most : Int) < (n : Int) := by omega
      rw [HE]
      clear HE e1 e2 e3 hr
      go_enter Try.func52, Try.ntmps52
      go_wp2_with (go_at_call 20; refine hrd.mono ?_; rintro e w' ⟨rfl, rfl⟩)
      go_ret
      exact ⟨rfl, HR.out.mark true, grown_set w rb 1 _⟩
theorem refByte_any (w : World) (B rb : Nat) (s : St) (h : Rd w B rb s) :
    Calls Try.prog 55 #[.pointer (some ⟨rb, 0, none⟩)] w fun e w' => e = .returned (bcell (dByte s).1) ∧ Rd w' B rb (dByte s).2 ∧ w.grownBy w' (some rb) := by
  have HR : Hid (Rd w B rb s) := h
  obtain ⟨⟨ao, cap, c0, hb, hc1, hc2, hc3⟩, c1, f0, f1, hle, hlt⟩ := h
  have HM : Hid (cap ≤ maxLen) := hc2
  have H3 : Hid (ao = none → cap = 0) := hc3
  unfold maxLen at hc2
  clear hc3
  obtain ⟨l, bad⟩ := s
  cases l with
  | nil =>
    simp only [List.length_nil] at c0 hc1
    go_enter Try.func55, Try.ntmps55
    go_wp2
    go_ret
    exact ⟨rfl, HR.out.mark true, grown_set w rb 1 _⟩
  | cons x r =>
    have HB : Hid (BsAt w B ao (x :: r)) := hb
    rcases hb with hn | ⟨b, off, rfl, hbB, hc⟩
    · cases hn
    · have hx := hc 0 (by simp)
      simp only [List.getElem_cons_zero, Nat.add_zero, bcell] at hx
      simp only [List.length_cons] at c0 hc1
      have hne : (((r.length + 1 : Nat) : Int) == 0) = false := by simp; omega
      have h01 : (0 : Int) < ((r.length + 1 : Nat) : Int) := by omega
      clear hc
      go_enter Try.func55, Try.ntmps55
      have HD : BsAt w B (some ⟨b, off + 1, none⟩) r := by
        have := HB.out.drop 1
        simpa [addr_add] using this
      have HD2 : Hid (BsAt w B (some ⟨b, off + 1, none⟩) r) := HD
      clear HD
      go_wp2
      · have hck : cap = 1 := by assumption
        go_ret
        exact ⟨rfl, HR.out.set _ r _ 0 (by first | rfl | (simp; done) | omega) (.inl (List.eq_nil_of_length_eq_zero (by omega))) (by omega) (by simp [maxLen]) (fun _ => rfl), grown_set w rb 0 _⟩
      · go_ret
        exact ⟨rfl, HR.out.set _ r _ _ (by first | rfl | (simp; done) | omega) HD2.out (by omega) (by have := HM.out; omega) (fun e => by cases e), grown_set w rb 0 _⟩
end Go.Proofs.Ytlhlleokehkolaa
