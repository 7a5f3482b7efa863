/-
  The first request of bytes, as data; what is written is read back, whatever comes behind; what is read was written so.
-/
import Derived.Test.YtldnkminhppngaaDoorTxR
namespace Go.Proofs.YtldnkminhppngaaDoor
open Go.Proofs.YtldnkminhppngaaDoor.It
open Go.RowKit
set_option linter.unusedSimpArgs false
set_option linter.unusedVariables false
set_option maxRecDepth 100000

/-- rubbish -/
def bad (c : Bool) : Rq := { rz with kind := 6, close := c }
/-- what belongs to a request behind its line's end, and how many bytes that has -/
def endW (r : Rq) (n : Nat) (l : List UInt8) : Rq × Nat :=
  if l.length < n + 2 then (rz, 0) else if (l.drop n).take 2 = [13, 10] then (withV r (mkB (l.take n)), n + 2) else (bad true, n + 2)
/-- the first request of bytes, and how many of them it has -/
def firstW (b : List UInt8) : Rq × Nat := match eol (b.take 514) with
  | none => if b.length < 514 then (rz, 0) else (bad true, b.length)
  | some e => match tellW (lw (b.take e)) with
    | none => (bad false, e + 2)
    | some d => match d.vl with
      | none => (d.r, e + 2)
      | some n => if (endW d.r n (b.drop (e + 2))).2 = 0 then (rz, 0) else ((endW d.r n (b.drop (e + 2))).1, e + 2 + (endW d.r n (b.drop (e + 2))).2)
theorem word_bytes {s : ByteArray} (h : seen s = true) : ∀ c ∈ bl s, c ≠ 32 ∧ c ≠ 13 := by
  intro c hc
  unfold seen at h
  rw [List.all_eq_true] at h
  have h1 := h c hc
  unfold seenB at h1
  simp at h1
  constructor <;> intro e <;> subst e <;> simp at h1
theorem dec_bytes {n : Int} : ∀ c ∈ bl (dec n), c ≠ 32 ∧ c ≠ 13 := by
  intro c hc
  have e : bl (dec n) = decL n.toNat := by unfold dec; rw [bl_mk]
  rw [e] at hc
  have h1 := List.all_eq_true.1 (decL_all n.toNat) c hc
  unfold isD at h1
  simp at h1
  constructor <;> intro e <;> subst e <;> simp at h1
theorem kw_bytes (k : Int) : ∀ c ∈ bl (kw k), c ≠ 32 ∧ c ≠ 13 := by
  have h : ∀ x : ByteArray, x ∈ ([⟨#[103, 101, 116]⟩, ⟨#[115, 101, 116]⟩, ⟨#[97, 100, 100]⟩, ⟨#[114, 101, 112, 108, 97, 99, 101]⟩, ⟨#[99, 97, 115]⟩, ⟨#[105, 110, 99, 114]⟩, ⟨#[100, 101, 99, 114]⟩, ⟨#[97, 112, 112, 101, 110, 100]⟩, ⟨#[116, 111, 117, 99, 104]⟩, ⟨#[100, 101, 108, 101, 116, 101]⟩, ⟨#[102, 108, 117, 115, 104]⟩, ⟨#[]⟩] : List ByteArray) → ∀ c ∈ bl x, c ≠ 32 ∧ c ≠ 13 := by
    intro x hx
    simp only [List.mem_cons, List.not_mem_nil, or_false] at hx
    rcases hx with rfl | rfl | rfl | rfl | rfl | rfl | rfl | rfl | rfl | rfl | rfl | rfl <;> decide
  apply h
  unfold kw
  repeat' split
  all_goals simp
theorem args_of (c : Cm) : c.args.length ≤ 4 ∧ ∀ x ∈ c.args, ∃ n : Int, x = dec n ∧ (n = c.flags ∨ n = c.life ∨ n = c.value.size ∨ n = c.unique ∨ n = c.by_) := by
  unfold Cm.args
  repeat' split
  all_goals (refine ⟨by simp, fun x hx => ?_⟩; simp at hx)
  · rcases hx with rfl | rfl | rfl <;> exact ⟨_, rfl, by simp⟩
  · rcases hx with rfl | rfl | rfl | rfl <;> exact ⟨_, rfl, by simp⟩
  · subst hx; exact ⟨_, rfl, by simp⟩
  · subst hx; exact ⟨_, rfl, by simp⟩
  · subst hx; exact ⟨_, rfl, by simp⟩
/-- a request's words: how many, how long, of which bytes -/
theorem words_fine {r : Rq} (hE : r.wrE = 0) (hf : r.Fit) : r.words ≠ [] ∧ r.words.length ≤ 13 ∧ ∀ x ∈ r.words, x.size ≤ 32 ∧ ∀ c ∈ bl x, c ≠ 32 ∧ c ≠ 13 := by
  obtain ⟨hline, hcmd⟩ := wrE_zero hE
  have hks := hasLine_kinds hline
  obtain ⟨rk, c, rt, secret, on, close⟩ := r
  unfold Rq.words
  dsimp only at *
  rcases hks with rfl | ⟨rfl, t0, t4, hs16⟩ | rfl | rfl | rfl
  · rw [if_neg (by decide), if_neg (by decide), if_neg (by decide), if_neg (by decide)]
    obtain ⟨hm, _, hs⟩ := hcmd rfl
    obtain ⟨p1, p2, p3, p4, p5, p6, p7⟩ := Cm.may_parts14 hm
    rw [List.all_eq_true] at hs
    obtain ⟨a1, a2⟩ := args_of c
    obtain ⟨f0, f1, u0, u1, b0, b1⟩ := hf
    dsimp only at *
    unfold Cm.words
    refine ⟨by simp, by simp; omega, fun x hx => ?_⟩
    rcases List.mem_cons.1 hx with rfl | hx
    · exact ⟨Nat.le_trans (kw_size _) (by decide), kw_bytes _⟩
    · rcases List.mem_append.1 hx with hx | hx
      · exact ⟨p7 x hx, word_bytes (hs x hx)⟩
      · obtain ⟨n, rfl, hn⟩ := a2 x hx
        exact ⟨Nat.le_trans (dec_size' (by omega) (by omega)) (by decide), dec_bytes⟩
  · rw [if_pos rfl]
    have hw : wordOk secret 16 = true := by
      unfold Rq.hasLine at hline
      rw [if_neg (by show ¬ (2 : Int) = 1; decide), if_pos rfl] at hline
      simp only [Bool.and_eq_true] at hline
      exact hline.1.1.1.2
    refine ⟨by simp, by simp, fun x hx => ?_⟩
    simp at hx
    rcases hx with rfl | rfl | rfl
    · exact ⟨by decide, by decide⟩
    · exact ⟨Nat.le_trans (dec_size' t0 (by omega)) (by decide), dec_bytes⟩
    · exact ⟨by omega, word_bytes (wordOk_parts hw).2.2⟩
  · rw [if_neg (by decide), if_pos rfl]
    refine ⟨by simp, by simp, fun x hx => ?_⟩
    simp at hx
    rcases hx with rfl | rfl
    · exact ⟨by decide, by decide⟩
    · have h : ∀ b : Bool, (if b = true then (⟨#[111, 110]⟩ : ByteArray) else ⟨#[111, 102, 102]⟩).size ≤ 32 ∧ ∀ c ∈ bl (if b = true then (⟨#[111, 110]⟩ : ByteArray) else ⟨#[111, 102, 102]⟩), c ≠ 32 ∧ c ≠ 13 := by decide
      exact h on
  · rw [if_neg (by decide), if_neg (by decide), if_pos rfl]
    refine ⟨by simp, by simp, fun x hx => ?_⟩
    simp at hx
    subst hx
    exact ⟨by decide, by decide⟩
  · rw [if_neg (by decide), if_neg (by decide), if_neg (by decide), if_pos rfl]
    refine ⟨by simp, by simp, fun x hx => ?_⟩
    simp at hx
    subst hx
    exact ⟨by decide, by decide⟩
theorem line_fine {r : Rq} (hE : r.wrE = 0) (hf : r.Fit) : (joinW r.words).length ≤ 512 ∧ (∀ c ∈ joinW r.words, c ≠ 13) ∧ lw (joinW r.words) = r.words := by
  obtain ⟨h1, h2, h3⟩ := words_fine hE hf
  refine ⟨?_, ?_, lw_joinW _ h1 (fun x hx c hc => ((h3 x hx).2 c hc).1)⟩
  · cases hL : r.words with
    | nil => exact absurd hL h1
    | cons a L =>
      rw [hL] at h2 h3
      rw [joinW_cons, List.length_append, bl_len]
      have h4 := (h3 a (by simp)).1
      have h5 := joinW_len 32 L (fun x hx => (h3 x (by simp [hx])).1)
      have h6 : L.length * 33 ≤ 12 * 33 := Nat.mul_le_mul_right _ (by simp at h2; omega)
      omega
  · cases hL : r.words with
    | nil => exact absurd hL h1
    | cons a L =>
      rw [hL] at h3
      rw [joinW_cons]
      intro c hc
      rcases List.mem_append.1 hc with hc | hc
      · exact ((h3 a (by simp)).2 c hc).2
      · obtain ⟨x, hx, hc⟩ := List.mem_flatMap.1 hc
        rcases List.mem_cons.1 hc with rfl | hc
        · decide
        · exact ((h3 x (by simp [hx])).2 c hc).2
theorem value_none {r : Rq} (hE : r.wrE = 0) (hv : hasVal r.cmd.kind = false) : withV r ⟨#[]⟩ = r := by
  obtain ⟨hline, hcmd⟩ := wrE_zero hE
  have : r.cmd.value = ⟨#[]⟩ := by
    by_cases hk : r.kind = 1
    · have hm := (hcmd hk).1
      unfold Cm.may at hm
      simp only [Bool.and_eq_true, decide_eq_true_eq] at hm
      have m4 := hm.1.1.1.2
      unfold Cm.vOk Cm.puts at m4
      simp only [Bool.and_eq_true, Bool.or_eq_true, decide_eq_true_eq] at m4
      unfold hasVal at hv
      simp at hv
      exact size_zero (by omega)
    · have hn : r.cmd.isNone = true := by
        unfold Rq.hasLine at hline
        rw [if_neg hk] at hline
        split at hline
        · simp only [Bool.and_eq_true] at hline; exact hline.1.1.2
        split at hline
        · simp only [Bool.and_eq_true] at hline; exact hline.1.1.1
        split at hline
        · simp only [Bool.and_eq_true] at hline; exact hline.1.1.1.1
        · cases hline
      rw [isNone_eq hn]
      rfl
  obtain ⟨rk, ⟨k, t, ks, v, f, l, u, b⟩, rt, s, on, cl⟩ := r
  dsimp only at this
  subst this
  rfl
/-- P14.5: what is written is read back, alone, whatever comes behind -/
theorem first_wr {r : Rq} (hE : r.wrE = 0) (hf : r.Fit) (more : List UInt8) : firstW (r.wr ++ more) = (r, r.wr.length) := by
  obtain ⟨h1, h2, h3⟩ := line_fine hE hf
  have ht := tell_words hE hf
  have hw : r.wr = joinW r.words ++ 13 :: 10 :: (if hasVal r.cmd.kind = true then bl r.cmd.value ++ [13, 10] else []) := by
    unfold Rq.wr Rq.wrL Rq.line
    rw [if_pos hE]
    simp
  obtain ⟨L, hL⟩ : ∃ L, L = joinW r.words := ⟨_, rfl⟩
  rw [← hL] at h1 h2 h3 hw
  obtain ⟨V, hV⟩ : ∃ V : List UInt8, V = (if hasVal r.cmd.kind = true then bl r.cmd.value ++ [13, 10] else []) := ⟨_, rfl⟩
  rw [← hV] at hw
  have hb : r.wr ++ more = L ++ 13 :: 10 :: (V ++ more) := by rw [hw]; simp
  have htk : (r.wr ++ more).take 514 = L ++ 13 :: 10 :: ((V ++ more).take (512 - L.length)) := by
    rw [hb, List.take_append, List.take_of_length_le (by omega), show 514 - L.length = (512 - L.length) + 2 by omega]
    rfl
  have htl : (r.wr ++ more).take L.length = L := by rw [hb, List.take_left]
  have hdr : (r.wr ++ more).drop (L.length + 2) = V ++ more := by
    rw [hb, List.drop_append, List.drop_of_length_le (by omega), List.nil_append, show L.length + 2 - L.length = 2 by omega]
    rfl
  have hlen : r.wr.length = L.length + 2 + V.length := by rw [hw]; simp; omega
  unfold firstW
  rw [htk, eol_app L _ h2]
  dsimp only
  rw [htl, h3, ht]
  cases hh : hasVal r.cmd.kind with
  | false =>
    rw [hh] at hV
    simp only [Bool.false_eq_true, if_false] at hV ⊢
    rw [hlen, hV, value_none hE hh]
    rfl
  | true =>
    rw [hh] at hV
    simp only [if_true] at hV ⊢
    rw [hdr]
    have hl : (bl r.cmd.value).length = r.cmd.value.size := bl_len _
    have he : endW (withV r ⟨#[]⟩) r.cmd.value.size (V ++ more) = (r, r.cmd.value.size + 2) := by
      unfold endW
      have e1 : V ++ more = bl r.cmd.value ++ (13 :: 10 :: more) := by rw [hV]; simp
      have d1 : (bl r.cmd.value ++ 13 :: 10 :: more).drop r.cmd.value.size = 13 :: 10 :: more := by rw [← hl, List.drop_left]
      have d2 : (bl r.cmd.value ++ 13 :: 10 :: more).take r.cmd.value.size = bl r.cmd.value := by rw [← hl, List.take_left]
      rw [e1, if_neg (by simp; omega), d1, d2, if_pos (by rfl), mkB_bl]
      rfl
    rw [he]
    dsimp only
    rw [if_neg (by omega), hlen, hV]
    simp
    omega
/-- what is read, and is not rubbish, was written so -/
theorem first_only {b : List UInt8} {r : Rq} {n : Nat} (h : firstW b = (r, n)) : n ≤ b.length ∧ (n = 0 → r = rz) ∧ (n ≠ 0 → (∃ c, r = bad c) ∨ (r.kind ≠ 6 ∧ r.wrE = 0 ∧ r.Fit ∧ r.wr = b.take n)) := by
  unfold firstW at h
  cases he : eol (b.take 514) with
  | none =>
    rw [he] at h
    dsimp only at h
    by_cases hl : b.length < 514
    · rw [if_pos hl] at h
      simp only [Prod.mk.injEq] at h
      obtain ⟨rfl, rfl⟩ := h
      exact ⟨Nat.zero_le _, fun _ => rfl, fun h0 => absurd rfl h0⟩
    · rw [if_neg hl] at h
      simp only [Prod.mk.injEq] at h
      obtain ⟨rfl, rfl⟩ := h
      exact ⟨Nat.le_refl _, fun h0 => by omega, fun _ => .inl ⟨true, rfl⟩⟩
  | some e =>
    rw [he] at h
    dsimp only at h
    obtain ⟨e1, e2⟩ := eol_some _ _ he
    have hbl : (b.take 514).length ≤ b.length := by simp; omega
    have he2 : e + 2 ≤ b.length := by omega
    have h514 : e + 2 ≤ 514 := by have : (b.take 514).length ≤ 514 := List.length_take_le _ _; omega
    have hb : b = b.take e ++ 13 :: 10 :: b.drop (e + 2) := by
      have e3 := congrArg (· ++ b.drop 514) e2
      simp only [List.take_append_drop] at e3
      rw [List.take_take, Nat.min_eq_left (by omega)] at e3
      have e4 : (b.take 514).drop (e + 2) ++ b.drop 514 = b.drop (e + 2) := by
        have := congrArg (·.drop (e + 2)) (List.take_append_drop 514 b)
        (try simp only at this)
        rw [List.drop_append_of_le_length (by omega)] at this
        exact this
      rw [List.append_assoc, List.cons_append, List.cons_append, e4] at e3
      exact e3
    have hA : (b.take e).length = e := by simp; omega
    have htk : ∀ k, b.take (e + k) = b.take e ++ (13 :: 10 :: b.drop (e + 2)).take k := by
      intro k
      have e5 := congrArg (fun x => List.take (e + k) x) hb
      rw [e5, List.take_append, hA, Nat.add_sub_cancel_left, List.take_of_length_le (l := b.take e) (by omega)]
    cases ht : tellW (lw (b.take e)) with
    | none =>
      rw [ht] at h
      simp only [Prod.mk.injEq] at h
      obtain ⟨rfl, rfl⟩ := h
      exact ⟨he2, fun h0 => by omega, fun _ => .inl ⟨false, rfl⟩⟩
    | some d =>
      rw [ht] at h
      dsimp only at h
      have hwr : ∀ (v : ByteArray), v.size = d.vl.getD 0 → (withV d.r v).kind ≠ 6 ∧ (withV d.r v).wrE = 0 ∧ (withV d.r v).Fit ∧ (withV d.r v).wr = b.take e ++ 13 :: 10 :: (if d.vl.isSome = true then bl v ++ [13, 10] else []) := by
        intro v hv
        obtain ⟨q1, q2, q3, q4, q5, q6, q7⟩ := words_tell ht v hv
        refine ⟨q7, q2, q3, ?_⟩
        unfold Rq.wr Rq.wrL Rq.line
        rw [if_pos q2, q4, joinW_lw]
        have q5' : hasVal (withV d.r v).cmd.kind = d.vl.isSome := q5
        rw [q5']
        simp [withV]
      cases hv : d.vl with
      | none =>
        rw [hv] at h
        simp only [Prod.mk.injEq] at h
        obtain ⟨rfl, rfl⟩ := h
        obtain ⟨w1, w2, w3, w4⟩ := hwr ⟨#[]⟩ (by rw [hv]; rfl)
        have q6 := (words_tell ht ⟨#[]⟩ (by rw [hv]; rfl)).2.2.2.2.2.1
        have er : withV d.r ⟨#[]⟩ = d.r := by
          obtain ⟨⟨rk, ⟨k, t, ks, v, f, l, u, b⟩, rt, s, on, cl⟩, ws, vl⟩ := d
          dsimp only at q6
          subst q6
          rfl
        rw [er] at w1 w2 w3 w4
        refine ⟨he2, fun h0 => by omega, fun _ => .inr ⟨w1, w2, w3, ?_⟩⟩
        rw [w4, hv]
        rw [htk 2]
        rfl
      | some m =>
        rw [hv] at h
        dsimp only at h
        by_cases hz : (endW d.r m (b.drop (e + 2))).2 = 0
        · rw [if_pos hz] at h
          simp only [Prod.mk.injEq] at h
          obtain ⟨rfl, rfl⟩ := h
          exact ⟨Nat.zero_le _, fun _ => rfl, fun h0 => absurd rfl h0⟩
        · rw [if_neg hz] at h
          simp only [Prod.mk.injEq] at h
          obtain ⟨rfl, rfl⟩ := h
          have hl : ¬ (b.drop (e + 2)).length < m + 2 := by
            intro hl
            unfold endW at hz
            rw [if_pos hl] at hz
            exact hz rfl
          have hlb : (b.drop (e + 2)).length = b.length - (e + 2) := by simp
          by_cases hc : ((b.drop (e + 2)).drop m).take 2 = [13, 10]
          · have ee : endW d.r m (b.drop (e + 2)) = (withV d.r (mkB ((b.drop (e + 2)).take m)), m + 2) := by
              unfold endW
              rw [if_neg hl, if_pos hc]
            rw [ee]
            dsimp only
            have hs : (mkB ((b.drop (e + 2)).take m)).size = m := by rw [← bl_len, bl_mkB, List.length_take]; omega
            obtain ⟨w1, w2, w3, w4⟩ := hwr (mkB ((b.drop (e + 2)).take m)) (by rw [hs, hv]; rfl)
            refine ⟨by omega, fun h0 => by omega, fun _ => .inr ⟨w1, w2, w3, ?_⟩⟩
            rw [w4, hv, bl_mkB]
            simp only [Option.isSome_some, if_true]
            rw [show e + 2 + (m + 2) = e + ((m + 2) + 2) by omega, htk]
            congr 1
            show 13 :: 10 :: _ = 13 :: 10 :: (b.drop (e + 2)).take (m + 2)
            rw [← hc, ← List.take_add]
          · have ee : endW d.r m (b.drop (e + 2)) = (bad true, m + 2) := by
              unfold endW
              rw [if_neg hl, if_neg hc]
            rw [ee]
            dsimp only
            exact ⟨by omega, fun h0 => by omega, fun _ => .inl ⟨true, rfl⟩⟩
end Go.Proofs.YtldnkminhppngaaDoor
