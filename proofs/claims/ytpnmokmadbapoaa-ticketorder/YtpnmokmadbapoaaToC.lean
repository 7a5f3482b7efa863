/-
  Tickets that are put one behind another and taken by whoever is ready: each once, and of two that need one shard the first one first. Pure.
-/
import Derived.Test.YtpnmokmadbapoaaTkZ
namespace Go.Proofs.Ytpnmokmadbapoaa
set_option linter.unusedSimpArgs false
set_option linter.unusedVariables false
set_option maxRecDepth 100000
open Go.RowKit

/-- the inboxes of one line of tickets -/
def lineQ (n : Nat) (L : List Tk) : List (List Tk) := (List.range n).map fun j => Tk.ofLine (Tk.nd n) L j
theorem lineQ_len (n : Nat) (L : List Tk) : (lineQ n L).length = n := by simp [lineQ]
theorem lineQ_bxs {n : Nat} {L : List Tk} {j : Nat} (hj : j < n) : bxs (lineQ n L) j = Tk.ofLine (Tk.nd n) L j := by
  unfold lineQ
  rw [show bxs ((List.range n).map fun j => Tk.ofLine (Tk.nd n) L j) j = Tk.ofLine (Tk.nd n) L j from ?_]
  unfold bxs
  rw [List.getD_eq_getElem?_getD, List.getElem?_map, List.getElem?_range hj]
  rfl
theorem lineQ_nil (n : Nat) : lineQ n [] = List.replicate n [] := by
  apply List.ext_getElem (by simp [lineQ])
  intro j h1 h2
  simp [lineQ, Tk.ofLine]
theorem lineQ_put (n : Nat) (L : List Tk) (t : Tk) : putQ (lineQ n L) t = lineQ n (L ++ [t]) := by
  refine dat_of_bxs (by rw [putQ_len, lineQ_len, lineQ_len]) fun j => ?_
  by_cases hj : j < n
  · rw [putQ_bxs j (by rw [lineQ_len]; exact hj), lineQ_len, lineQ_bxs hj]
    unfold ptd
    rw [lineQ_bxs hj]
    unfold Tk.ofLine
    rw [List.filter_append]
    split
    · rename_i h; simp [h]
    · rename_i h; simp [h]
  · rw [bxs_none (by rw [putQ_len, lineQ_len]; omega), bxs_none (by rw [lineQ_len]; omega)]
theorem lineQ_few {n : Nat} {L : List Tk} : ∀ i, (bxs (lineQ n L) i).length ≤ L.length := by
  intro i
  by_cases hi : i < n
  · rw [lineQ_bxs hi]; exact List.length_filter_le _ _
  · rw [bxs_none (by rw [lineQ_len]; omega)]; simp
/-- numbers rise along the line -/
abbrev Up (L : List Tk) : Prop := Tk.Rise Tk.num L
theorem Up.inj {L : List Tk} (h : Up L) {a b : Tk} (ha : a ∈ L) (hb : b ∈ L) (e : a.num = b.num) : a = b := by
  obtain ⟨i, hi, rfl⟩ := List.getElem_of_mem ha
  obtain ⟨j, hj, rfl⟩ := List.getElem_of_mem hb
  have hp := List.pairwise_iff_getElem.1 h
  have : i = j := by
    rcases Nat.lt_trichotomy i j with g | g | g
    · have := hp i j hi hj g; omega
    · exact g
    · have := hp j i hj hi g; omega
  subst this
  rfl
/-- what is not t -/
def rest (U : List Tk) (t : Tk) : List Tk := U.filter fun u => decide (u ≠ t)
theorem mem_rest {U : List Tk} {t u : Tk} : u ∈ rest U t ↔ u ∈ U ∧ u ≠ t := by unfold rest; simp
theorem Up.rest {U : List Tk} (h : Up U) (t : Tk) : Up (rest U t) := List.Pairwise.sublist List.filter_sublist h
theorem rest_len {U : List Tk} (h : Up U) {t : Tk} (ht : t ∈ U) : (rest U t).length + 1 = U.length := by
  induction U with
  | nil => cases ht
  | cons a U ih =>
    have hU : Up U := (List.pairwise_cons.1 h).2
    have ha := (List.pairwise_cons.1 h).1
    unfold rest
    rw [List.filter_cons]
    by_cases e : a = t
    · subst e
      have hno : U.filter (fun u => decide (u ≠ a)) = U := by
        rw [List.filter_eq_self]
        intro u hu
        have := ha u hu
        simp
        intro e
        rw [e] at this
        omega
      simp only [ne_eq, decide_not, decide_true, Bool.not_true, Bool.false_eq_true, ↓reduceIte]
      have h9 := congrArg List.length hno
      simp only [ne_eq, decide_not] at h9
      rw [h9]
      rfl
    · rw [if_pos (by simpa using e)]
      have ht2 : t ∈ U := by
        rcases List.mem_cons.1 ht with g | g
        · exact absurd g.symm e
        · exact g
      have h9 := ih hU ht2
      unfold rest at h9
      simp only [List.length_cons]
      omega
theorem lineQ_take {n : Nat} {U : List Tk} (h : Up U) {i : Nat} (hi : i < n) {t : Tk} {l : List Tk} (e : bxs (lineQ n U) i = t :: l) (hr : rdy (lineQ n U) i = true) : takeQ (lineQ n U) t = lineQ n (rest U t) := by
  have hh := rdy_heads e hr
  rw [lineQ_len] at hh
  refine dat_of_bxs (by rw [takeQ_len, lineQ_len, lineQ_len]) fun j => ?_
  by_cases hj : j < n
  · rw [takeQ_bxs j (by rw [lineQ_len]; exact hj), lineQ_len, lineQ_bxs hj]
    have hcomm : Tk.ofLine (Tk.nd n) (rest U t) j = (Tk.ofLine (Tk.nd n) U j).filter fun u => decide (u ≠ t) := by
      unfold Tk.ofLine rest
      rw [List.filter_filter, List.filter_filter]
      congr 1
      funext u
      exact Bool.and_comm _ _
    rw [hcomm]
    unfold Tk.taken
    rw [lineQ_bxs hj]
    have hup : Tk.Rise Tk.num (Tk.ofLine (Tk.nd n) U j) := List.Pairwise.sublist List.filter_sublist h
    by_cases hm : j ∈ t.nd n
    · rw [if_pos hm]
      obtain ⟨l', e'⟩ := (hh j hj).1 hm
      rw [lineQ_bxs hj] at e'
      rw [e'] at hup ⊢
      have hno : l'.filter (fun u => decide (u ≠ t)) = l' := by
        rw [List.filter_eq_self]
        intro u hu
        have := (List.pairwise_cons.1 hup).1 u hu
        simp
        intro e
        rw [e] at this
        omega
      rw [List.filter_cons, if_neg (by simp)]
      exact hno.symm
    · rw [if_neg hm]
      symm
      rw [List.filter_eq_self]
      intro u hu
      simp
      intro e
      subst e
      have := (List.mem_filter.1 hu).2
      simp at this
      exact hm this
  · rw [bxs_none (by rw [takeQ_len, lineQ_len]; omega), bxs_none (by rw [lineQ_len]; omega)]
/-- some are taken, some are not -/
structure Going (n : Nat) (P T U : List Tk) : Prop where
  up : Up U
  upP : Up P
  uP : ∀ u ∈ U, u ∈ P
  tP : ∀ t ∈ T, t ∈ P
  all : ∀ x ∈ P, x ∈ T ∨ x ∈ U
  off : ∀ t ∈ T, t ∉ U
  nodup : T.Nodup
  len : T.length + U.length = P.length
  ahead : ∀ t ∈ T, ∀ u ∈ U, ∀ r, r ∈ t.nd n → r ∈ u.nd n → t.num < u.num
  order : ∀ i k (hi : i < T.length) (hk : k < T.length), i < k → T[k].num < T[i].num → ∀ r, r ∈ T[i].nd n → r ∉ T[k].nd n
theorem Going.start {n : Nat} {P : List Tk} (h : Up P) : Going n P [] P :=
  ⟨h, h, fun _ h => h, fun _ h => (by cases h), fun x h => Or.inr h, fun _ h => (by cases h), List.nodup_nil, (by simp), fun _ h => (by cases h), fun i _ hi => (by simp at hi)⟩
theorem Going.step {n : Nat} {P T U : List Tk} (h : Going n P T U) {i : Nat} (hi : i < n) {t : Tk} {l : List Tk} (e : bxs (lineQ n U) i = t :: l) (hr : rdy (lineQ n U) i = true) : Going n P (T ++ [t]) (rest U t) := by
  have hh := rdy_heads e hr
  rw [lineQ_len] at hh
  have ht : t ∈ U := by
    rw [lineQ_bxs hi] at e
    have : t ∈ Tk.ofLine (Tk.nd n) U i := by rw [e]; simp
    exact (List.mem_filter.1 this).1
  refine ⟨h.up.rest t, h.upP, fun u hu => h.uP u (mem_rest.1 hu).1, fun u hu => ?_, fun x hx => ?_, fun u hu hu2 => ?_, ?_, ?_, fun a ha u hu r hra hru => ?_, fun a k ha hk hak hlt r hra hrk => ?_⟩
  · rcases List.mem_append.1 hu with g | g
    · exact h.tP u g
    · rw [List.mem_singleton.1 g]; exact h.uP t ht
  · rcases h.all x hx with g | g
    · exact .inl (List.mem_append.2 (.inl g))
    · by_cases ex : x = t
      · exact .inl (List.mem_append.2 (.inr (by rw [ex]; simp)))
      · exact .inr (mem_rest.2 ⟨g, ex⟩)
  · obtain ⟨g1, g2⟩ := mem_rest.1 hu2
    rcases List.mem_append.1 hu with g | g
    · exact h.off u g g1
    · exact g2 (List.mem_singleton.1 g)
  · rw [List.nodup_append]
    refine ⟨h.nodup, by simp, fun a ha b hb e9 => ?_⟩
    rw [List.mem_singleton.1 hb] at e9
    subst e9
    exact h.off a ha ht
  · have h1 := rest_len h.up ht
    have h2 := h.len
    simp
    omega
  · obtain ⟨g1, g2⟩ := mem_rest.1 hu
    rcases List.mem_append.1 ha with g | g
    · exact h.ahead a g u g1 r hra hru
    · rw [List.mem_singleton.1 g] at hra ⊢
      have hrn := Tk.nd_lt r hra
      obtain ⟨l', e'⟩ := (hh r hrn).1 hra
      rw [lineQ_bxs hrn] at e'
      exact Tk.line_ahead h.up e' g1 hru g2
  · have hkT : k ≤ T.length := by simp at hk; omega
    have ha2 : a < T.length := by omega
    rw [List.getElem_append_left ha2] at hlt hra
    by_cases hk2 : k < T.length
    · rw [List.getElem_append_left hk2] at hlt hrk
      exact h.order a k ha2 hk2 hak hlt r hra hrk
    · have hk3 : k = T.length := by omega
      subst hk3
      rw [List.getElem_append_right (Nat.le_refl _)] at hlt hrk
      simp at hlt hrk
      have := h.ahead T[a] (List.getElem_mem ha2) t ht r hra hrk
      omega
/-- as long as one waits, a shard is ready -/
theorem Going.calm {n : Nat} {U : List Tk} (h : Up U) (hm : ∀ u ∈ U, u.may = true) (hn0 : 1 ≤ n) (hn1 : n ≤ 4) (hne : U ≠ []) : rdyL (lineQ n U) ≠ [] := by
  obtain ⟨t, U', rfl⟩ := List.exists_cons_of_ne_nil hne
  have hpos := Tk.nd_pos (hm t (by simp)) hn0 hn1
  obtain ⟨r, rs, hr⟩ := List.exists_cons_of_ne_nil hpos
  have hrm : r ∈ t.nd n := by rw [hr]; simp
  have hrn := Tk.nd_lt r hrm
  have head : ∀ j, j < n → j ∈ t.nd n → ∃ l', bxs (lineQ n (t :: U')) j = t :: l' := by
    intro j hj hm
    rw [lineQ_bxs hj]
    unfold Tk.ofLine
    rw [List.filter_cons, if_pos (by simpa using hm)]
    exact ⟨_, rfl⟩
  have hrdy : rdy (lineQ n (t :: U')) r = true := by
    obtain ⟨l', e⟩ := head r hrn hrm
    unfold rdy
    rw [e, decide_eq_true_iff]
    refine hld_eq.2 fun j hj => ?_
    rw [lineQ_len] at hj ⊢
    rw [lft_zero]
    refine ⟨fun hm => head j hj hm, ?_⟩
    rintro ⟨l2, e2⟩
    rw [lineQ_bxs hj] at e2
    have : t ∈ Tk.ofLine (Tk.nd n) (t :: U') j := by rw [e2]; simp
    simpa using (List.mem_filter.1 this).2
  intro e
  have : (r : Int) ∈ rdyL (lineQ n (t :: U')) := by
    unfold rdyL rdyTo
    exact List.mem_map.2 ⟨r, List.mem_filter.2 ⟨List.mem_range.2 (by rw [lineQ_len]; exact hrn), hrdy⟩, rfl⟩
  rw [e] at this
  cases this
theorem rdyL_nil (n : Nat) : rdyL (lineQ n []) = [] := by
  unfold rdyL rdyTo
  rw [List.map_eq_nil_iff, List.filter_eq_nil_iff]
  intro j hj
  have hj2 : j < n := by rw [← lineQ_len n []]; exact List.mem_range.1 hj
  unfold rdy
  rw [lineQ_bxs hj2]
  simp [Tk.ofLine]
/-- the end: all is in order -/
theorem Going.inOrder {n : Nat} {P T : List Td} (h : Going n (P.map Td.t) (T.map Td.t) []) (hm : ∀ d ∈ P, d.t.may = true) : InOrder n P T := by
  have hT : ∀ d ∈ T, d.t ∈ P.map Td.t := fun d hd => h.tP d.t (List.mem_map.2 ⟨d, hd, rfl⟩)
  refine ⟨fun i hi => ?_, fun d hd => ?_, fun i k hi hk hik hlt x hx hx2 => ?_⟩
  · have hx : P[i].t ∈ P.map Td.t := List.mem_map.2 ⟨P[i], List.getElem_mem hi, rfl⟩
    have h1 := (h.all _ hx).resolve_right (by simp)
    obtain ⟨k, hk, e⟩ := List.getElem_of_mem h1
    have hk2 : k < T.length := by simpa using hk
    rw [List.getElem_map] at e
    refine ⟨k, hk2, e, fun k' hk' e2 => ?_⟩
    have e3 : T[k'].t = P[i].t := h.upP.inj (hT _ (List.getElem_mem hk')) hx e2
    have hnd := List.pairwise_iff_getElem.1 (List.nodup_iff_pairwise_ne.1 h.nodup)
    rcases Nat.lt_trichotomy k' k with g | g | g
    · exact absurd (by rw [List.getElem_map, List.getElem_map, e3, e]) (hnd k' k (by simpa using hk') (by simpa using hk2) g)
    · exact g
    · exact absurd (by rw [List.getElem_map, List.getElem_map, e3, e]) (hnd k k' (by simpa using hk2) (by simpa using hk') g)
  · obtain ⟨d2, hd2, e⟩ := List.mem_map.1 (hT d hd)
    rw [← e]
    exact hm d2 hd2
  · have h1 := h.order i k (by simpa using hi) (by simpa using hk) hik (by rw [List.getElem_map, List.getElem_map]; exact hlt)
    rw [List.getElem_map, List.getElem_map] at h1
    unfold Tk.needs at hx hx2
    obtain ⟨r, hr, rfl⟩ := List.mem_map.1 hx
    obtain ⟨r2, hr2, e2⟩ := List.mem_map.1 hx2
    have : r2 = r := by omega
    subst this
    exact h1 r2 hr hr2


theorem Qo.grown {w w' : World} {base g : Nat} {B : List Bx} {row : Option Nat} (h : Qo w base g B) (hg : w.grownBy w' row) (hr : ∀ k, row = some k → k < base) (hb : base ≤ g) : Qo w' base g B := by
  have hne : ∀ x, base ≤ x → row ≠ some x := fun x hx e => by have := hr x e; omega
  exact ⟨h.row.grown hg (hne g hb), fun i hi => (h.box i hi).grown hg (fun k hk => hne k ((h.box i hi).lt k hk).1), fun i hi d hd => (h.keys i hi d hd).grown hg (fun k hk => hne k ((h.keys i hi d hd).lt k hk).1), h.sep, h.sepk, h.sepg⟩
/-- the variable that holds the inboxes -/
structure Vq (w wx : World) (n Qb g : Nat) (next : Int) (B : List Bx) (U : List Tk) : Prop where
  bel : Below w.heap.size w wx
  qb : GBx wx Qb [.int .i64 next, .slice (some ⟨g, 0, none⟩) n n]
  rd : Qr wx (some ⟨g, 0, none⟩) B n
  len : B.length = n
  dt : dat B = lineQ n U
  ok : QOk (dat B) next
  q0 : w.heap.size ≤ Qb
theorem Vq.on {w wx w' : World} {n Qb g : Nat} {next : Int} {B : List Bx} {U : List Tk} (h : Vq w wx n Qb g next B U) (hb : Below wx.heap.size wx w') : Vq w w' n Qb g next B U :=
  ⟨g_on h.bel hb, h.qb.below hb, h.rd.below hb, h.len, h.dt, h.ok, h.q0⟩
/-- it is set anew, behind an append to a row that lay there ahead of the inboxes -/
theorem Vq.set {w wx wb wd we : World} {n Qb g g6 : Nat} {next next' : Int} {B B6 : List Bx} {U U6 : List Tk} {row : Option Nat} (h : Vq w wx n Qb g next B U) (h4 : n ≤ 4) (hb : Below wx.heap.size wx wb) (hd : Below wb.heap.size wb wd) (hq : Qo wd wb.heap.size g6 B6) (hg : wb.heap.size ≤ g6) (he : wd.grownBy we row) (hr : ∀ k, row = some k → k < wb.heap.size ∧ w.heap.size ≤ k ∧ k ≠ Qb)
    (hdt : dat B6 = lineQ n U6) (hok : QOk (dat B6) next') : Vq w ((we.setCell ⟨Qb, 0, none⟩ (.int .i64 next')).setCell ⟨Qb, 1, none⟩ (.slice (some ⟨g6, 0, none⟩) n n)) n Qb g6 next' B6 U6 := by
  have hQ := h.qb.lt
  have z0 := h.q0
  have zb := hb.size
  have zd := hd.size
  have ze := he.size
  have hB : B6.length = n := by have := congrArg List.length hdt; rw [dat_len, lineQ_len] at this; exact this
  have hbel : Below w.heap.size w we := (g_on (g_on h.bel hb) hd).grown he (by omega) (fun k hk => (hr k hk).2.1)
  have hbx : GBx we Qb [.int .i64 next, .slice (some ⟨g, 0, none⟩) n n] := ((h.qb.below hb).below hd).grown he (fun e => (hr Qb e).2.2 rfl)
  have hq1 := hq.grown he (fun k hk => (hr k hk).1) hg
  have hq2 := ((hq1.other Qb 0 (.int .i64 next') (by omega) (by omega)).other Qb 1 (.slice (some ⟨g6, 0, none⟩) n n) (by omega) (by omega)).rd (by omega)
  rw [hB] at hq2
  exact ⟨sets_below (b := Qb) hbel [.int .i64 next', .slice (some ⟨g6, 0, none⟩) n n] 0 z0 (by omega), GBx.sets [.int .i64 next', .slice (some ⟨g6, 0, none⟩) n n] hbx rfl, hq2, hB, hdt, hok, z0⟩
/-- a row of tickets of the call's own, which is not the variable -/
structure Vr (w wx : World) (Qb : Nat) (v : Value) (l : List Td) : Prop where
  own : GOwn ET wx w.heap.size v l
  off : v.ownBlock ≠ some Qb
theorem Vr.nil (w wx : World) (Qb : Nat) : Vr w wx Qb (.slice none 0 0) [] := ⟨GOwn.nil _ _, by intro e; cases e⟩
theorem Vr.on {w wx w' : World} {Qb : Nat} {v : Value} {l : List Td} (h : Vr w wx Qb v l) (hb : Below wx.heap.size wx w') : Vr w w' Qb v l := ⟨h.own.below hb, h.off⟩
theorem Vr.set {w wx : World} {Qb : Nat} {v : Value} {l : List Td} (h : Vr w wx Qb v l) (j : Nat) (u : Value) : Vr w (wx.setCell ⟨Qb, j, none⟩ u) Qb v l :=
  ⟨h.own.grown (g_set _ _ _) (by intro k hk e; cases e; exact h.off hk), h.off⟩
/-- it is appended to -/
theorem Vr.app {w wd we : World} {Qb : Nat} {v v' : Value} {l : List Td} {d : Td} (h : Vr w wd Qb v l) (ho : GOwn ET we w.heap.size v' (l ++ [d])) (hg : GGrew wd we v v') (hQ : Qb < wd.heap.size) : Vr w we Qb v' (l ++ [d]) := by
  refine ⟨ho, fun e => ?_⟩
  rcases hg.lies Qb e with g | g
  · exact h.off g
  · omega
/-- another row beside it -/
theorem Vr.beside {w wd we : World} {Qb : Nat} {v p : Value} {l : List Td} (h : Vr w wd Qb p l) {row : Option Nat} (hg : wd.grownBy we row) (hs : ∀ k, p.ownBlock = some k → row ≠ some k) : Vr w we Qb p l := ⟨h.own.grown hg hs, h.off⟩
/-- the keys of what was taken -/
structure Vk (w wx : World) (Qb : Nat) (v : Value) (l : List Td) : Prop where
  own : ∀ d ∈ l, GOwn ES wx w.heap.size d.v d.t.c.keys
  off : ∀ d ∈ l, ∀ k, d.v.ownBlock = some k → v.ownBlock ≠ some k ∧ k ≠ Qb
theorem Vk.nil (w wx : World) (Qb : Nat) (v : Value) : Vk w wx Qb v [] := ⟨fun d hd => (by cases hd), fun d hd => (by cases hd)⟩
theorem Vk.on {w wx w' : World} {Qb : Nat} {v : Value} {l : List Td} (h : Vk w wx Qb v l) (hb : Below wx.heap.size wx w') : Vk w w' Qb v l := ⟨fun d hd => (h.own d hd).below hb, h.off⟩
theorem Vk.set {w wx : World} {Qb : Nat} {v : Value} {l : List Td} (h : Vk w wx Qb v l) (j : Nat) (u : Value) : Vk w (wx.setCell ⟨Qb, j, none⟩ u) Qb v l :=
  ⟨fun d hd => (h.own d hd).grown (g_set _ _ _) (by intro k hk e; cases e; exact (h.off d hd _ hk).2 rfl), h.off⟩
theorem Vk.app {w wd we : World} {Qb : Nat} {v v' : Value} {l : List Td} {d : Td} (h : Vk w wd Qb v l) (hk : GOwn ES wd w.heap.size d.v d.t.c.keys) (ho : ∀ k, d.v.ownBlock = some k → v.ownBlock ≠ some k ∧ k ≠ Qb) (hg : GGrew wd we v v') : Vk w we Qb v' (l ++ [d]) := by
  have one : ∀ e : Td, GOwn ES wd w.heap.size e.v e.t.c.keys → (∀ k, e.v.ownBlock = some k → v.ownBlock ≠ some k ∧ k ≠ Qb) → GOwn ES we w.heap.size e.v e.t.c.keys ∧ ∀ k, e.v.ownBlock = some k → v'.ownBlock ≠ some k ∧ k ≠ Qb := by
    intro e h1 h2
    refine ⟨h1.grown hg.grown (fun k hk' => (h2 k hk').1), fun k hk' => ⟨fun e9 => ?_, (h2 k hk').2⟩⟩
    rcases hg.lies k e9 with g | g
    · exact (h2 k hk').1 g
    · have := (h1.lt k hk').2; omega
  have all : ∀ e ∈ l ++ [d], GOwn ES we w.heap.size e.v e.t.c.keys ∧ ∀ k, e.v.ownBlock = some k → v'.ownBlock ≠ some k ∧ k ≠ Qb := by
    intro e he
    rcases List.mem_append.1 he with g | g
    · exact one e (h.own e g) (h.off e g)
    · rw [List.mem_singleton.1 g]; exact one d hk ho
  exact ⟨fun e he => (all e he).1, fun e he => (all e he).2⟩


/-- what the first loop keeps -/
structure L1 (w wr : World) (n Qb g : Nat) (B : List Bx) (pv : Value) (P : List Td) : Prop where
  vq : Vq w wr n Qb g (P.length : Int) B (P.map Td.t)
  vr : Vr w wr Qb pv P
  keys : ∀ d ∈ P, GRd ES w d.so d.t.c.keys d.sc
  may : ∀ d ∈ P, d.t.may = true
  up : Up (P.map Td.t)
  lt : ∀ d ∈ P, d.t.num < (P.length : Int)
theorem L1.on {w wr w' : World} {n Qb g : Nat} {B : List Bx} {pv : Value} {P : List Td} (h : L1 w wr n Qb g B pv P) (hb : Below wr.heap.size wr w') : L1 w w' n Qb g B pv P := ⟨h.vq.on hb, h.vr.on hb, h.keys, h.may, h.up, h.lt⟩
theorem L1.put {w wr wb wd we : World} {n Qb g g6 : Nat} {B B6 : List Bx} {pv pv' : Value} {P : List Td} (h : L1 w wr n Qb g B pv P) (h4 : n ≤ 4) (d : Td) (hk : GRd ES w d.so d.t.c.keys d.sc) (hm : d.t.may = true) (hn : d.t.num = (P.length : Int)) (h60 : P.length < 100) (hb : Below wr.heap.size wr wb) (hd : Below wb.heap.size wb wd) (hq : Qo wd wb.heap.size g6 B6) (hg : wb.heap.size ≤ g6) (hdt : dat B6 = putQ (dat B) d.t) (hO : GOwn ET we w.heap.size pv' (P ++ [d])) (hG : GGrew wd we pv pv') :
    L1 w ((we.setCell ⟨Qb, 0, none⟩ (.int .i64 ((P.length : Int) + 1))).setCell ⟨Qb, 1, none⟩ (.slice (some ⟨g6, 0, none⟩) n n)) n Qb g6 B6 pv' (P ++ [d]) := by
  have e1 : ((P ++ [d]).length : Int) = (P.length : Int) + 1 := by simp
  have hfull : fullIn (dat B) (d.t.nd (dat B).length) = false := fullIn_few (m := P.length) (by rw [h.vq.dt]; intro i; have := lineQ_few (n := n) (L := P.map Td.t) i; simpa using this) (by omega) _
  have hok := h.vq.ok.put hm hn (by omega) hfull
  have hdt2 : dat B6 = lineQ n ((P ++ [d]).map Td.t) := by rw [hdt, h.vq.dt, lineQ_put]; simp
  have hrow : ∀ k, pv.ownBlock = some k → k < wb.heap.size ∧ w.heap.size ≤ k ∧ k ≠ Qb := fun k hk' => by
    have h9 := h.vr.own.lt k hk'
    exact ⟨Nat.lt_of_lt_of_le h9.2 hb.size, h9.1, fun e => h.vr.off (by rw [← e]; exact hk')⟩
  have hv := h.vq.set h4 hb hd hq hg hG.grown hrow hdt2 (by rw [hdt]; exact hok)
  refine ⟨by rw [e1]; exact hv, (((h.vr.on hb).on hd).app hO hG (by have := h.vq.qb.lt; have := hb.size; have := hd.size; omega)).set 0 _ |>.set 1 _, fun x hx => ?_, fun x hx => ?_, ?_, fun x hx => ?_⟩
  · rcases List.mem_append.1 hx with q | q
    · exact h.keys x q
    · rw [List.mem_singleton.1 q]; exact hk
  · rcases List.mem_append.1 hx with q | q
    · exact h.may x q
    · rw [List.mem_singleton.1 q]; exact hm
  · rw [List.map_append]
    refine List.pairwise_append.2 ⟨h.up, List.pairwise_singleton _ _, fun a ha b hb' => ?_⟩
    obtain ⟨x, hx, rfl⟩ := List.mem_map.1 ha
    have hb2 : b = d.t := by simpa using hb'
    rw [hb2, hn]
    exact h.lt x hx
  · rw [e1]
    rcases List.mem_append.1 hx with q | q
    · have := h.lt x q; omega
    · rw [List.mem_singleton.1 q, hn]; omega

/-- what the second loop keeps -/
structure L2 (w wr : World) (n Qb g : Nat) (B : List Bx) (pv : Value) (P : List Td) (tv : Value) (T : List Td) (U : List Tk) : Prop where
  vq : Vq w wr n Qb g (P.length : Int) B U
  vp : Vr w wr Qb pv P
  vt : Vr w wr Qb tv T
  vk : Vk w wr Qb tv T
  ne : ∀ k, pv.ownBlock = some k → tv.ownBlock ≠ some k
  go : Going n (P.map Td.t) (T.map Td.t) U
theorem L2.on {w wr w' : World} {n Qb g : Nat} {B : List Bx} {pv tv : Value} {P T : List Td} {U : List Tk} (h : L2 w wr n Qb g B pv P tv T U) (hb : Below wr.heap.size wr w') : L2 w w' n Qb g B pv P tv T U := ⟨h.vq.on hb, h.vp.on hb, h.vt.on hb, h.vk.on hb, h.ne, h.go⟩
theorem L1.start {w wr : World} {n Qb g : Nat} {B : List Bx} {pv : Value} {P : List Td} (h : L1 w wr n Qb g B pv P) : L2 w wr n Qb g B pv P (.slice none 0 0) [] (P.map Td.t) :=
  ⟨h.vq, h.vr, Vr.nil _ _ _, Vk.nil _ _ _ _, fun k _ e => (by cases e), Going.start h.up⟩
theorem L2.step {w wr wb wd we : World} {n Qb g g6 : Nat} {B B6 : List Bx} {pv tv tv' : Value} {P T : List Td} {U : List Tk} (h : L2 w wr n Qb g B pv P tv T U) (h4 : n ≤ 4) (d : Td) {i : Nat} (hi : i < n) {l : List Tk} (hbx : bxs (dat B) i = d.t :: l) (hr : rdy (dat B) i = true) (hb : Below wr.heap.size wr wb) (hd : Below wb.heap.size wb wd) (hq : Qo wd wb.heap.size g6 B6) (hg : wb.heap.size ≤ g6) (hdt : dat B6 = takeQ (dat B) d.t) (hk : GOwn ES wd wb.heap.size d.v d.t.c.keys) (hO : GOwn ET we w.heap.size tv' (T ++ [d])) (hG : GGrew wd we tv tv') :
    L2 w ((we.setCell ⟨Qb, 0, none⟩ (.int .i64 (P.length : Int))).setCell ⟨Qb, 1, none⟩ (.slice (some ⟨g6, 0, none⟩) n n)) n Qb g6 B6 pv P tv' (T ++ [d]) (rest U d.t) := by
  have zb := hb.size
  have zd := hd.size
  have zw := h.vq.bel.size
  have hQ := h.vq.qb.lt
  have hbx2 : bxs (lineQ n U) i = d.t :: l := by rw [← h.vq.dt]; exact hbx
  have hr2 : rdy (lineQ n U) i = true := by rw [← h.vq.dt]; exact hr
  have hdt2 : dat B6 = lineQ n (rest U d.t) := by rw [hdt, h.vq.dt]; exact lineQ_take h.go.up hi hbx2 hr2
  have hok : QOk (dat B6) (P.length : Int) := by rw [hdt]; exact h.vq.ok.take (by rw [dat_len, h.vq.len]; exact hi) hbx hr
  have htv : ∀ k, tv.ownBlock = some k → k < wr.heap.size ∧ w.heap.size ≤ k ∧ k ≠ Qb := fun k hk' => by
    have h9 := h.vt.own.lt k hk'
    exact ⟨h9.2, h9.1, fun e => h.vt.off (by rw [← e]; exact hk')⟩
  have hv := h.vq.set h4 hb hd hq hg hG.grown (fun k hk' => ⟨Nat.lt_of_lt_of_le (htv k hk').1 zb, (htv k hk').2⟩) hdt2 hok
  refine ⟨hv, ((((h.vp.on hb).on hd).beside (v := tv) hG.grown h.ne).set 0 _).set 1 _, ((((h.vt.on hb).on hd).app hO hG (by omega)).set 0 _).set 1 _, ((((h.vk.on hb).on hd).app (hk.down (by omega)) (fun k hk' => ?_) hG).set 0 _).set 1 _, fun k hk' e => ?_, ?_⟩
  · have h9 := (hk.lt k hk').1
    exact ⟨fun e => by have := (htv k e).1; omega, by omega⟩
  · rcases hG.lies k e with q | q
    · exact h.ne k hk' q
    · have := (h.vp.own.lt k hk').2; omega
  · rw [List.map_append]
    exact h.go.step hi hbx2 hr2
/-- a shard that is told as ready -/
theorem rdyL_at {n : Nat} {q : List (List Tk)} (hn : q.length = n) {a : Nat} (ha : a < (rdyL q).length) : ∃ i : Nat, (rdyL q)[a] = (i : Int) ∧ i < n ∧ rdy q i = true := by
  have h1 : (rdyL q)[a] ∈ rdyL q := List.getElem_mem ha
  unfold rdyL rdyTo at h1
  obtain ⟨i, hi, e⟩ := List.mem_map.1 h1
  obtain ⟨h2, h3⟩ := List.mem_filter.1 hi
  exact ⟨i, e.symm, by rw [← hn]; exact List.mem_range.1 h2, h3⟩
theorem rdyL_len (q : List (List Tk)) : (rdyL q).length ≤ q.length := rdyTo_len q _
theorem rdy_cons {q : List (List Tk)} {i : Nat} (h : rdy q i = true) : ∃ t l, bxs q i = t :: l := by
  cases e : bxs q i with
  | nil => unfold rdy at h; rw [e] at h; cases h
  | cons t l => exact ⟨t, l, rfl⟩
theorem sets_size {b : Nat} : ∀ (us : List Value) (w : World) (j : Nat), (sets w b j us).heap.size = w.heap.size
  | [], _, _ => rfl
  | u :: us, w, j => by show (sets (w.setCell ⟨b, j, none⟩ u) b (j + 1) us).heap.size = _; rw [sets_size us]; simp
/-- what a Take gave, laid into two variables -/
structure Tkn (wc wx : World) (Pb Ub g6 : Nat) (B6 : List Bx) (us vs : List Value) (kv : Value) (ks : List ByteArray) : Prop where
  bel : Below wc.heap.size wc wx
  q : Qo wx wc.heap.size g6 B6
  g0 : wc.heap.size ≤ g6
  keys : GOwn ES wx wc.heap.size kv ks
  pb : GBx wx Pb us
  ub : GBx wx Ub vs
  p0 : wc.heap.size ≤ Pb
  u0 : wc.heap.size ≤ Ub
section
variable {wc w6 : World} {N g6 b b2 : Nat} {B6 : List Bx} {us vs us0 vs0 : List Value} {kv : Value} {ks : List ByteArray} (hb : Below wc.heap.size wc w6) (hN : wc.heap.size ≤ N) (hq : Qo w6 N g6 B6) (hg : N ≤ g6) (hk : GOwn ES w6 N kv ks)
include hb hN hq hg hk
theorem Tkn.late (us vs : List Value) (tq tt : TypeId) : Tkn wc ((w6.alloc (.cells us.toArray tq)).alloc (.cells vs.toArray tt)) w6.heap.size (w6.heap.size + 1) g6 B6 us vs kv ks := by
  have h1 := g_on (g_alloc w6 (.cells us.toArray tq)) (g_alloc (w6.alloc (.cells us.toArray tq)) (.cells vs.toArray tt))
  have h2 := GBx.made (w6.alloc (.cells us.toArray tq)) vs tt
  rw [show (w6.alloc (.cells us.toArray tq)).heap.size = w6.heap.size + 1 by simp] at h2
  have := hb.size
  exact ⟨g_on hb h1, (hq.down hN).below h1, by omega, (hk.down hN).below h1, (GBx.made w6 us tq).alloc _, h2, by omega, by omega⟩
theorem Tkn.late2 (us vs : List Value) (tq tt : TypeId) : Tkn wc ((w6.alloc (.cells vs.toArray tt)).alloc (.cells us.toArray tq)) (w6.heap.size + 1) w6.heap.size g6 B6 us vs kv ks := by
  have h1 := Tkn.late hb hN hq hg hk vs us tt tq
  exact ⟨h1.bel, h1.q, h1.g0, h1.keys, h1.ub, h1.pb, h1.u0, h1.p0⟩
theorem Tkn.mid (hx : GBx w6 b us0) (hb0 : wc.heap.size ≤ b) (hbN : b < N) (us vs : List Value) (hl : us0.length = us.length) (tt : TypeId) : Tkn wc ((sets w6 b 0 us).alloc (.cells vs.toArray tt)) b w6.heap.size g6 B6 us vs kv ks := by
  have h1 := g_alloc (sets w6 b 0 us) (.cells vs.toArray tt)
  have h2 := GBx.made (sets w6 b 0 us) vs tt
  rw [sets_size] at h2
  have := hb.size
  exact ⟨g_on (sets_below hb us 0 hb0 this) h1, ((Qo.sets hbN (by omega) us 0 hq).down hN).below h1, by omega, ((hk.sets us 0 hbN).down hN).below h1, (GBx.sets us hx hl).alloc _, h2, hb0, by omega⟩
theorem Tkn.mid2 (hx : GBx w6 b vs0) (hb0 : wc.heap.size ≤ b) (hbN : b < N) (us vs : List Value) (hl : vs0.length = vs.length) (tq : TypeId) : Tkn wc ((sets w6 b 0 vs).alloc (.cells us.toArray tq)) w6.heap.size b g6 B6 us vs kv ks := by
  have h1 := Tkn.mid hb hN hq hg hk hx hb0 hbN vs us hl tq
  exact ⟨h1.bel, h1.q, h1.g0, h1.keys, h1.ub, h1.pb, h1.u0, h1.p0⟩
theorem Tkn.early (hx : GBx w6 b us0) (hy : GBx w6 b2 vs0) (hne : b ≠ b2) (hb0 : wc.heap.size ≤ b) (hb1 : wc.heap.size ≤ b2) (hbN : b < N) (hbM : b2 < N) (us vs : List Value) (hl : us0.length = us.length) (hl2 : vs0.length = vs.length) : Tkn wc (sets (sets w6 b 0 us) b2 0 vs) b b2 g6 B6 us vs kv ks := by
  have := hb.size
  exact ⟨sets_below (sets_below hb us 0 hb0 this) vs 0 hb1 (by rw [sets_size]; exact this), (Qo.sets hbM (by omega) vs 0 (Qo.sets hbN (by omega) us 0 hq)).down hN, by omega, ((hk.sets us 0 hbN).sets vs 0 hbM).down hN, (GBx.sets us hx hl).grown (sets_grown vs _ 0) (by intro e; exact hne (Option.some.inj e).symm), GBx.sets vs (hy.grown (sets_grown us _ 0) (by intro e; exact hne (Option.some.inj e))) hl2, hb0, hb1⟩
end

end Go.Proofs.Ytpnmokmadbapoaa
