/-
  Inboxes that may be, as data: without tickets; with a ticket more; the examples' inboxes.
-/
import Derived.Test.YtpnmokmadbapoaaTkQ
namespace Go.Proofs.Ytpnmokmadbapoaa
set_option linter.unusedSimpArgs false
set_option linter.unusedVariables false
set_option maxRecDepth 100000

theorem bxs_mem {q : List (List Tk)} {i : Nat} (hi : i < q.length) : bxs q i ∈ q := by
  unfold bxs
  rw [List.getD_eq_getElem?_getD, List.getElem?_eq_getElem hi]
  exact List.getElem_mem hi
theorem mem_bxs {q : List (List Tk)} {l : List Tk} (h : l ∈ q) : ∃ i, i < q.length ∧ bxs q i = l := by
  obtain ⟨i, hi, rfl⟩ := List.getElem_of_mem h
  exact ⟨i, hi, by unfold bxs; rw [List.getD_eq_getElem?_getD, List.getElem?_eq_getElem hi]; rfl⟩
theorem QOk.new {n : Nat} (h0 : 1 ≤ n) (h1 : n ≤ 4) : QOk (List.replicate n []) 0 := by
  have hb : ∀ i, bxs (List.replicate n []) i = [] := by
    intro i
    unfold bxs
    rw [List.getD_eq_getElem?_getD]
    by_cases h : i < n
    · rw [List.getElem?_replicate_of_lt h]; rfl
    · rw [List.getElem?_eq_none (by simp; omega)]; rfl
  refine ⟨by simpa using h0, by simpa using h1, Int.le_refl _, by decide, fun l hl => ?_, Tk.Fit.empty fun i _ => hb i⟩
  rw [(List.mem_replicate.1 hl).2]
  exact ⟨by simp, by simp, by simp, by simp, List.Pairwise.nil⟩
theorem fullIn_no {q : List (List Tk)} {l : List Nat} (h : fullIn q l = false) : ∀ i ∈ l, ¬ (bxs q i).length = 256 := by
  intro i hi e
  unfold fullIn at h
  rw [List.any_eq_false] at h
  exact h i hi (by simpa using e)
theorem QOk.put {q : List (List Tk)} {next : Int} (h : QOk q next) {t : Tk} (hm : t.may = true) (hn : t.num = next) (hx : next < 1099511627776) (hf : fullIn q (t.nd q.length) = false) : QOk (putQ q t) (next + 1) := by
  have hx0 := h.x0
  refine ⟨by rw [putQ_len]; exact h.n0, by rw [putQ_len]; exact h.n1, by omega, by omega, fun l hl => ?_, ?_⟩
  · obtain ⟨i, hi, rfl⟩ := mem_bxs hl
    rw [putQ_len] at hi
    rw [putQ_bxs i hi]
    have hb := h.box (bxs q i) (bxs_mem hi)
    unfold ptd
    split
    · rename_i hin
      have h256 := fullIn_no hf i hin
      refine ⟨by have := hb.len; simp; omega, ?_, ?_, ?_, ?_⟩
      · intro u hu
        rcases List.mem_append.1 hu with g | g
        · exact hb.may u g
        · rw [List.mem_singleton.1 g]; exact hm
      · intro u hu
        rcases List.mem_append.1 hu with g | g
        · exact hb.lo u g
        · rw [List.mem_singleton.1 g, hn]; exact hx0
      · intro u hu
        rcases List.mem_append.1 hu with g | g
        · have := hb.hi u g; omega
        · rw [List.mem_singleton.1 g, hn]; omega
      · refine List.pairwise_append.2 ⟨hb.rise, List.pairwise_singleton _ _, fun a ha b hb' => ?_⟩
        rw [List.mem_singleton.1 hb', hn]
        exact hb.hi a ha
    · exact ⟨hb.len, hb.may, hb.lo, fun u hu => by have := hb.hi u hu; omega, hb.rise⟩
  · rw [putQ_len]
    have hF := h.fit.put (t := t) Tk.nd_lt (fun i hi u hu => by rw [hn]; exact (h.box _ (bxs_mem hi)).hi u hu)
    refine (Tk.Fit.congr fun i hi => ?_).1 hF
    rw [putQ_bxs i hi]
    rfl
theorem fullIn_few {q : List (List Tk)} {m : Nat} (h : ∀ i, (bxs q i).length ≤ m) (hm : m < 256) (l : List Nat) : fullIn q l = false := by
  unfold fullIn
  rw [List.any_eq_false]
  intro i _
  have := h i
  simp
  omega
theorem putQ_few {q : List (List Tk)} {m : Nat} (h : ∀ i, (bxs q i).length ≤ m) (t : Tk) : ∀ i, (bxs (putQ q t) i).length ≤ m + 1 := by
  intro i
  by_cases hi : i < q.length
  · rw [putQ_bxs i hi]
    unfold ptd
    have := h i
    split <;> simp <;> omega
  · rw [bxs_none (by rw [putQ_len]; omega)]
    simp
/-- the examples -/
def exA : Tk := getT [ka]
def exB : Tk := getT [ka, kb]
def exC : Tk := getT [kb]
def q0 : List (List Tk) := List.replicate 2 []
def q1 : List (List Tk) := putQ q0 { exA with num := 0 }
def q2 : List (List Tk) := putQ q1 { exB with num := 1 }
def q3 : List (List Tk) := putQ q2 { exC with num := 2 }
theorem may_A : exA.may = true := by decide
theorem may_B : exB.may = true := by decide
theorem may_C : exC.may = true := by decide
theorem few0 : ∀ i, (bxs q0 i).length ≤ 0 := by
  intro i
  unfold q0 bxs
  rw [List.getD_eq_getElem?_getD]
  by_cases h : i < 2
  · rw [List.getElem?_replicate_of_lt h]; simp
  · rw [List.getElem?_eq_none (by simp; omega)]; simp
theorem few1 : ∀ i, (bxs q1 i).length ≤ 1 := putQ_few few0 _
theorem few2 : ∀ i, (bxs q2 i).length ≤ 2 := putQ_few few1 _
theorem ok0 : QOk q0 0 := QOk.new (by decide) (by decide)
theorem ok1 : QOk q1 1 := ok0.put (t := { exA with num := 0 }) may_A rfl (by decide) (fullIn_few few0 (by decide) _)
theorem ok2 : QOk q2 2 := ok1.put (t := { exB with num := 1 }) may_B rfl (by decide) (fullIn_few few1 (by decide) _)
theorem ok3 : QOk q3 3 := ok2.put (t := { exC with num := 2 }) may_C rfl (by decide) (fullIn_few few2 (by decide) _)
theorem rdy3 : rdyL q3 = [0] := by decide
end Go.Proofs.Ytpnmokmadbapoaa
