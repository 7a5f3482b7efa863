/-
  The reader of package packed: result.
-/
import Derived.Test.YtfjcaofmcjhdpaaPkF
namespace Go.Proofs.Ytfjcaofmcjhdpaa
open Go.Proofs.Ytfjcaofmcjhdpaa.It
open Go.RowKit
set_option linter.unusedSimpArgs false
set_option linter.unusedVariables false
set_option maxRecDepth 100000

theorem gop_one {α : Type} {E : GEl α} {w w0 : World} {o : Oper} {a : Act} {Q : Exit → Act → World → Prop} {P : Act → World → Prop} (K : GOk E) (s x : Operand) (T : TypeId) (ho : o.op = .call { callee := .builtin .append, args := #[s, x], argTypes := #[T, T] }) (hT : T = E.st)
    (base : Nat) (v : Value) (l : List α) (hown : GOwn E w0 base v l) (hs : a.eval s = v) (q : α) (hw : w = w0.alloc (.cells (E.cells q).toArray E.e)) (H : Nat) (hx : a.eval x = .slice (some ⟨H, 0, none⟩) 1 1) (hH : H = w0.heap.size)
    (hlen : l.length + 1 ≤ 1000000) (hbase : base ≤ w0.heap.size)
    (h : ∀ v' w', GOwn E w' base v' (l ++ [q]) → GGrew w0 w' v v' → P (a.put o.dst v') w') : Oper.wp Try.prog o a w P Q := by
  subst hw hH hT
  obtain ⟨v', w', hr, h2, h3⟩ := g_run K (w0.alloc (.cells (E.cells q).toArray E.e)) o.type base v l (hown.alloc _) _ 1 [q] (g_new K w0 q) (by simpa using hlen) (by simp; omega)
  unfold Oper.wp execOp
  simp only [ho, resolve, invoke, builtin, Sem.run_bind, Sem.run_pure, Result.andThen_ok, List.map_toArray, List.map_cons, List.map_nil, hs, hx]
  simp only [List.length_cons, List.length_nil, Nat.zero_add] at hr
  rw [hr]
  exact h v' w' h2 h3.alloc
/-- a row of another's has grown -/
theorem Rdr.own {w w' : World} {R : Nat} {K : Nat → Prop} {s : Ps} {ao : Option Addr} {m cap : Nat} {v v' : Value} (h : Rdr w R K s ao m cap) (hg : GGrew w w' v v') (h1 : ∀ b, v.ownBlock = some b → K b ∧ b ≠ R) (h2 : ∀ b, v'.ownBlock = some b → b < w'.heap.size) : Rdr w' R (fun b => K b ∨ v'.ownBlock = some b) s ao m cap := by
  have h3 := h.grown hg.grown (fun e => (h1 R e).2 rfl) (fun b e => .inl (h1 b e).1)
  refine ⟨h3.len, h3.box, h3.rd, fun a e hk => ?_, h3.lt, .inl h3.kR, fun b hk => ?_, h3.few⟩
  · rcases hk with hk | hk
    · exact h.ne a e hk
    · rcases hg.lies _ hk with h4 | h4
      · exact h.ne a e (h1 _ h4).1
      · have := h.lt a e; omega
  · rcases hk with hk | hk
    · exact h3.kl b hk
    · exact h2 b hk
theorem pItems_succ (n : Nat) (s : Ps) : pItems (n + 1) s = ((pItem s).1 :: (pItems n (pItem s).2).1, (pItems n (pItem s).2).2) := rfl
/-- what stands in a result's place -/
def pRes (s : Ps) : (UInt8 × Nat × List Im) × Ps :=
  let s1 := pSingle s
  let s2 := pSmall 18446744073709551615 s1.2
  let s3 := pSmall 8 s2.2
  let s4 := pItems s3.1 s3.2
  ((s1.1, s2.1, s4.1), s4.2)
/-- what result's loop keeps -/
structure Rl7 (w : World) (R P X base n : Nat) (kb num : Int) (K : Nat → Prop) (all : List Im × Ps) (wr : World) (k : Nat) (L : List Im) (v : Value) (s : Ps) (K2 : Nat → Prop) (ao : Option Addr) (m cap : Nat) : Prop where
  go : all = (L ++ (pItems (n - k) s).1, (pItems (n - k) s).2)
  len : L.length = k
  own : GOwn EM wr base v L
  x : GBx wr X [.int .u8 kb, v, .int .u64 num]
  p : GBx wr P [.int .u8 0, .slice none 0 0, .int .u64 0]
  rdr : Rdr wr R K2 s ao m cap
  k1 : ∀ b, K b → K2 b
  kP : K2 P
  kX : K2 X
  kv : ∀ b, v.ownBlock = some b → K2 b
  gr : w.grownBy wr (some R)
  base : base ≤ wr.heap.size
theorem Rl7.next {w : World} {R P X base n : Nat} {kb num : Int} {K : Nat → Prop} {all : List Im × Ps} {wr : World} {k : Nat} {L : List Im} {v : Value} {s : Ps} {K2 : Nat → Prop} {ao : Option Addr} {m cap : Nat} (h : Rl7 w R P X base n kb num K all wr k L v s K2 ao m cap) (hk : k < n) (hlt : R < w.heap.size ∧ w.heap.size ≤ P ∧ P < X ∧ X < base)
    {x : Im} {s2 : Ps} (hx : pItem s = (x, s2)) (w4 w7 : World) (v7 : Value) (a4 : Option Addr) (m4 c4 : Nat) (hr4 : Rdr w4 R K2 s2 a4 m4 c4) (hg4 : wr.grownBy w4 (some R)) (hx4 : GBx w4 X [.int .u8 kb, v, .int .u64 num]) (ho4 : GOwn EM w4 base v L) (ho7 : GOwn EM w7 base v7 (L ++ [x])) (hg7 : GGrew w4 w7 v v7) :
    Rl7 w R P X base n kb num K all (w7.setCell ⟨X, 1, none⟩ v7) (k + 1) (L ++ [x]) v7 s2 (fun b => K2 b ∨ v7.ownBlock = some b) a4 m4 c4 := by
  have hvb : ∀ b, v.ownBlock = some b → base ≤ b := fun b e => (ho4.lt b e).1
  have hs : w7.grownBy (w7.setCell ⟨X, 1, none⟩ v7) (some X) := g_set w7 ⟨X, 1, none⟩ v7
  have hne : ∀ b, b < base → v.ownBlock ≠ some b := fun b hb e => by have := hvb b e; omega
  have h7 := hr4.own hg7 (fun b e => ⟨h.kv b e, by have := hvb b e; omega⟩) (fun b e => (ho7.lt b e).2)
  have hp4 := h.p.grown hg4 (fun e => by have := Option.some.inj e; omega)
  have hz4 : w.heap.size ≤ w4.heap.size := Nat.le_trans h.gr.size hg4.size
  refine ⟨?_, by rw [List.length_append, h.len]; rfl, ?_, ?_, ?_, ?_, fun b hb => .inl (h.k1 b hb), .inl h.kP, .inl h.kX, fun b hb => .inr hb, ?_, ?_⟩
  · have e : pItems (n - k) s = (x :: (pItems (n - (k + 1)) s2).1, (pItems (n - (k + 1)) s2).2) := by
      rw [show n - k = (n - (k + 1)) + 1 by omega, pItems_succ, hx]
    rw [h.go, e]
    dsimp only
    rw [List.append_assoc]
    rfl
  · exact ho7.other X 1 v7 hlt.2.2.2
  · have := (hx4.grown hg7.grown (hne X hlt.2.2.2)).set 1 v7 (by simp)
    exact this
  · exact (hp4.grown hg7.grown (hne P (by omega))).other 1 v7 (by omega)
  · exact h7.grown hs (fun e => by have := Option.some.inj e; omega) (fun b e => .inl (.inl (by rw [← Option.some.inj e]; exact h.kX)))
  · have g1 : w.grownBy w4 (some R) := h.gr.trans hg4
    have g2 : w.grownBy w7 (some R) := ⟨hg7.grown.os.trans g1.os, hg7.grown.tape.trans g1.tape, hg7.grown.output.trans g1.output, Nat.le_trans g1.size hg7.grown.size, fun i hi he => (hg7.grown.block i (Nat.lt_of_lt_of_le hi g1.size) (fun e => by have := hvb i e.symm; omega)).trans (g1.block i hi he)⟩
    exact gr_new g2 hs (by omega)
  · exact Nat.le_trans h.base (Nat.le_trans hg4.size (Nat.le_trans hg7.grown.size hs.size))
set_option maxHeartbeats 4000000 in
theorem presult_any (w : World) (R : Nat) (K : Nat → Prop) (s : Ps) (ao : Option Addr) (m cap : Nat) (h : Rdr w R K s ao m cap) :
    Calls Try.prog 30 #[.pointer (some ⟨R, 0, none⟩)] w fun e w' => (∃ lo lc, e = .returned (.agg #[.int .u8 ((pRes s).1.1.toNat : Int), .slice lo (pRes s).1.2.2.length lc, .int .u64 ((pRes s).1.2.1 : Int)]) ∧ GRd EM w' lo (pRes s).1.2.2 lc ∧ ∀ a, lo = some a → w.heap.size < a.block ∧ a.block < w'.heap.size) ∧ RdX w w' R K (pRes s).2 := by
  obtain ⟨W, hW⟩ : ∃ W, W = w.alloc (.cells #[.int .u8 0, .slice none 0 0, .int .u64 0] 29) := ⟨_, rfl⟩
  have hb0 : Below w.heap.size w W := by rw [hW]; exact g_alloc _ _
  have hws : W.heap.size = w.heap.size + 1 := by rw [hW]; simp
  have HX0 : Hid (GBx W w.heap.size [.int .u8 0, .slice none 0 0, .int .u64 0]) := by rw [hW]; exact GBx.made w [.int .u8 0, .slice none 0 0, .int .u64 0] _
  have HR0 := Hid.mk2 (h.more hb0 w.heap.size (Nat.le_refl _) (by omega))
  have HRP : Hid (R < w.heap.size ∧ K R) := ⟨h.box.lt, h.kR⟩
  have HG0 := Hid.mk2 (g_grown hb0 (some R))
  have HWS := Hid.mk2 hws
  obtain ⟨P, hP⟩ : ∃ P, P = w.heap.size := ⟨_, rfl⟩
  have HP := Hid.mk2 hP
  rw [← hP] at HX0 HR0
  obtain ⟨K2, hK2⟩ : ∃ K2, K2 = fun b => K b ∨ b = P := ⟨_, rfl⟩
  rw [← hK2] at HR0
  have HK2 : Hid (K2 P ∧ ∀ b, K b → K2 b) := by rw [hK2]; exact ⟨.inr rfl, fun b hb => .inl hb⟩
  have HC1 := Hid.mk2 (fun w ao m cap (h : Rdr w R K2 s ao m cap) => psingle_any w R K2 s ao m cap h)
  obtain ⟨⟨kc, s1⟩, e1⟩ : ∃ q, q = pSingle s := ⟨_, rfl⟩
  rw [← e1] at HC1
  have HC2 := Hid.mk2 (fun w ao m cap (h : Rdr w R K2 s1 ao m cap) => psmall_any w R K2 s1 ao m cap h 18446744073709551615)
  obtain ⟨⟨n2, s2⟩, e2⟩ : ∃ q, q = pSmall 18446744073709551615 s1 := ⟨_, rfl⟩
  rw [← e2] at HC2
  obtain ⟨⟨n3, s3⟩, e3⟩ : ∃ q, q = pSmall 8 s2 := ⟨_, rfl⟩
  have b3 := pSmall_le 8 s2
  rw [← e3] at b3
  obtain ⟨all, e4⟩ : ∃ q, q = pItems n3 s3 := ⟨_, rfl⟩
  have HE : Hid (pRes s = ((kc, n2, all.1), all.2)) := by
    show _ = _
    unfold pRes
    rw [← e1]
    dsimp only
    rw [← e2]
    dsimp only
    rw [← e3]
    dsimp only
    rw [← e4]
  rw [HE.out]
  dsimp only at b3 ⊢
  obtain ⟨kb, hkb⟩ : ∃ k : Int, k = (kc.toNat : Int) := ⟨_, rfl⟩
  have D1 : Hid (∀ w ao m cap, Rdr w R K2 s ao m cap → Calls Try.prog 29 #[.pointer (some ⟨R, 0, none⟩)] w fun e w' => e = .returned (.int .u8 kb) ∧ RdX w w' R K2 s1) := by rw [hkb]; exact HC1.out
  rw [← hkb]
  have D2 : Hid (∀ w ao m cap, Rdr w R K2 s1 ao m cap → Calls Try.prog 44 #[.pointer (some ⟨R, 0, none⟩), .int .u64 18446744073709551615] w fun e w' => e = .returned (.int .u64 (n2 : Int)) ∧ RdX w w' R K2 s2) := HC2.out
  have D3 : Hid (∀ w K ao m cap, Rdr w R K s2 ao m cap → Calls Try.prog 44 #[.pointer (some ⟨R, 0, none⟩), .int .u64 8] w fun e w' => e = .returned (.int .u64 (n3 : Int)) ∧ RdX w w' R K s3) := by
    intro w K ao m cap h
    have := psmall_any w R K s2 ao m cap h 8
    rw [← e3] at this
    exact this
  have HALL := Hid.mk2 e4
  have i3 : (n3 : Int) ≤ 8 := by omega
  clear HC1 HC2 e1 e2 e3 e4 HE b3 hkb h hb0 hws hK2
  go_enter Try.func30, Try.ntmps30
  go_upto_region 1 with (fail)
  rw [← hW, ← hP]
  clear hW hP
  go_upto_region 3 with (first
    | (have h9 := HR1; go_at_call 44; refine (D2.out _ _ _ _ HR1.out).mono ?_; rintro e w2 ⟨rfl, ⟨a2, m2, c2, hr2⟩, hg2⟩; have HR2 := Hid.mk2 hr2; have HG2 := Hid.mk2 (HG1.out.trans hg2); have HX2 := Hid.mk2 (HX1.out.grown hg2 (by have := HRP.out.1; have := HP.out; intro e; have := Option.some.inj e; omega)); clear hr2 hg2)
    | (go_at_call 29; refine (D1.out _ _ _ _ HR0.out).mono ?_; rintro e w1 ⟨rfl, ⟨a1, m1, c1, hr1⟩, hg1⟩; have HR1 := Hid.mk2 hr1; have HG1 := Hid.mk2 (HG0.out.trans hg1); have HX1 := Hid.mk2 (HX0.out.grown hg1 (by have := HRP.out.1; have := HP.out; intro e; have := Option.some.inj e; omega)); clear hr1 hg1)
    | (refine ywpl_store rfl 29 _ _ rfl w2.heap.size [.int .u8 kb, .slice none 0 0, .int .u64 (n2 : Int)] [.int .u8 0, .slice none 0 0, .int .u64 0] rfl (by first | rfl | simp) (by kernel_rfl) (GBx.made w2 [.int .u8 0, .slice none 0 0, .int .u64 0] _) rfl (by intro v hv; simp at hv; rcases hv with rfl | rfl | rfl <;> rfl) ?_))
  obtain ⟨W3, hW3⟩ : ∃ W3, W3 = ysets (w2.alloc (.cells #[.int .u8 0, .slice none 0 0, .int .u64 0] 29)) w2.heap.size 0 [.int .u8 kb, .slice none 0 0, .int .u64 (n2 : Int)] := ⟨_, rfl⟩
  have hA : Below w2.heap.size w2 (w2.alloc (.cells #[.int .u8 0, .slice none 0 0, .int .u64 0] 29)) := g_alloc _ _
  have hAs : (w2.alloc (.cells #[.int .u8 0, .slice none 0 0, .int .u64 0] 29)).heap.size = w2.heap.size + 1 := by simp
  have hY := ysets_grown w2.heap.size [.int .u8 kb, .slice none 0 0, .int .u64 (n2 : Int)] (w2.alloc (.cells #[.int .u8 0, .slice none 0 0, .int .u64 0] 29)) 0
  rw [← hW3] at hY
  have hP2 := HX2.out.lt
  have HLT : Hid (R < w.heap.size ∧ w.heap.size ≤ P ∧ P < w2.heap.size ∧ w2.heap.size < W3.heap.size) := ⟨HRP.out.1, Nat.le_of_eq HP.out.symm, hP2, by have := hY.size; omega⟩
  have HXX : Hid (GBx W3 w2.heap.size [.int .u8 kb, .slice none 0 0, .int .u64 (n2 : Int)]) := by rw [hW3]; exact ybox (GBx.made w2 [.int .u8 0, .slice none 0 0, .int .u64 0] _) _ rfl
  have HPP : Hid (GBx W3 P [.int .u8 0, .slice none 0 0, .int .u64 0]) := (HX2.out.below hA).grown hY (fun e => by have := Option.some.inj e; omega)
  have HRR := Hid.mk2 ((HR2.out.more hA w2.heap.size (Nat.le_refl _) (by omega)).grown hY (fun e => by have := HR2.out.box.lt; have := Option.some.inj e; omega) (fun b e => .inl (.inr (Option.some.inj e).symm)))
  have HGG : Hid (w.grownBy W3 (some R)) := gr_new (HG2.out.trans (g_grown hA (some R))) hY (Nat.le_trans (Nat.le_of_eq HP.out.symm) (Nat.le_of_lt hP2))
  obtain ⟨K3, hK3⟩ : ∃ K3, K3 = fun b => K2 b ∨ b = w2.heap.size := ⟨_, rfl⟩
  rw [← hK3] at HRR
  have HK3 : Hid ((∀ b, K b → K3 b) ∧ K3 P ∧ K3 w2.heap.size) := by rw [hK3]; exact ⟨fun b hb => .inl (HK2.out.2 b hb), .inl HK2.out.1, .inr rfl⟩
  first
    | rw [← hW3]
    | (change Code.wp _ _ _ _ (ysets (w2.alloc (.cells #[.int .u8 0, .slice none 0 0, .int .u64 0] 29)) w2.heap.size 0 [.int .u8 kb, .slice none 0 0, .int .u64 (n2 : Int)]); rw [← hW3])
  obtain ⟨X, hX⟩ : ∃ X, X = w2.heap.size := ⟨_, rfl⟩
  rw [← hX] at HLT HXX HK3 ⊢
  obtain ⟨base, hbase⟩ : ∃ b, b = W3.heap.size := ⟨_, rfl⟩
  have HBS := Hid.mk2 hbase
  rw [← hbase] at HLT
  clear hW3 hA hAs hY hP2 hX hK3 hbase HR2 HX2 HR1 HX1 HR0 HX0 D1 D2
  go_wp2_with (go_at_call 44; refine (D3.out _ _ _ _ _ HRR.out).mono ?_; rintro e w3 ⟨rfl, ⟨a3, m3, c3, hr3⟩, hg3⟩; have HR3 := Hid.mk2 hr3; have HG3 := Hid.mk2 (HGG.out.trans hg3); have HX3 := Hid.mk2 (HXX.out.grown hg3 (by have := HLT.out; intro e; have := Option.some.inj e; omega)); have HP3 := Hid.mk2 (HPP.out.grown hg3 (by have := HLT.out; intro e; have := Option.some.inj e; omega)); have HB3 : Hid (base ≤ w3.heap.size) := (by have h9 : base = W3.heap.size := HBS.out; rw [h9]; exact hg3.size); clear hr3 hg3)
  have HL0 : Hid (Rl7 w R P X base n3 kb (n2 : Int) K all w3 0 [] (.slice none 0 0) s3 K3 a3 m3 c3) := ⟨HALL.out, rfl, GOwn.nil _ _, HX3.out, HP3.out, HR3.out, HK3.out.1, HK3.out.2.1, HK3.out.2.2, fun b e => (by cases e), HG3.out, HB3.out⟩
  clear HR3 HG3 HX3 HP3 HB3 HRR HGG HXX HPP D3 HALL HK3 HK2 HG0 HG1 HG2
  go_loopw [14] (fun i wr => ∃ (k : Nat) (L : List Im) (v : Value) (s : Ps) (K2 : Nat → Prop) (ao : Option Addr) (m cap : Nat), k ≤ n3 ∧ i = .int .u64 k ∧ Hid (Rl7 w R P X base n3 kb (n2 : Int) K all wr k L v s K2 ao m cap)) (fun i _ => n3 - (intOf i).toNat)
  case atStart => exact ⟨0, [], _, s3, K3, a3, m3, c3, Nat.zero_le _, rfl, HL0.out⟩
  case round =>
    obtain ⟨k, L, v, s, K2, ao, m, cap, hk, rfl, HL⟩ := hrel
    by_cases hkn : k < n3
    · have hki : (k : Int) < (n3 : Int) := by omega
      obtain ⟨⟨⟨xk, xv, xf, xt, xu⟩, s4⟩, hx⟩ : ∃ q, q = pItem s := ⟨_, rfl⟩
      have HNX := Hid.mk2 (fun w4 w7 v7 a4 m4 c4 => HL.out.next hkn HLT.out hx.symm w4 w7 v7 a4 m4 c4)
      have HIT : Hid (Calls Try.prog 45 #[.pointer (some ⟨R, 0, none⟩)] wr.drew fun e w' => e = .returned (.agg #[.string xk, .string xv, .int .u32 xf, .int .i64 xt, .int .u64 xu]) ∧ RdX wr.drew w' R K2 s4) := by
        have h9 := pitem_any wr.drew R K2 s ao m cap (HL.out.rdr.below ((Below.refl _ _).drew))
        rw [← hx] at h9
        exact h9
      obtain ⟨lo, lc, hv, -⟩ := HL.out.own.rd okM
      obtain ⟨n0, hn0⟩ : ∃ n0, n0 = L.length := ⟨_, rfl⟩
      rw [← hn0] at hv
      subst hv
      have HX := Hid.mk2 HL.out.x
      have HO := Hid.mk2 HL.out.own
      have HB := Hid.mk2 HL.out.base
      have HLL : Hid (L.length ≤ 8) := Nat.le_trans (Nat.le_of_eq HL.out.len) (by omega)
      have HFIN : Hid (∀ w4 w7 v7 a4 m4 c4, Rdr w4 R K2 s4 a4 m4 c4 → wr.grownBy w4 (some R) → GBx w4 X [.int .u8 kb, .slice lo n0 lc, .int .u64 (n2 : Int)] → GOwn EM w4 base (.slice lo n0 lc) L → GOwn EM w7 base v7 (L ++ [⟨xk, xv, xf, xt, xu⟩]) → GGrew w4 w7 (.slice lo n0 lc) v7 →
          (∃ (j : Nat) (L : List Im) (v : Value) (s : Ps) (K2 : Nat → Prop) (ao : Option Addr) (m cap : Nat), j ≤ n3 ∧ (Value.int .u64 ((k : Int) + 1)) = .int .u64 j ∧ Hid (Rl7 w R P X base n3 kb (n2 : Int) K all (w7.setCell ⟨X, 1, none⟩ v7) j L v s K2 ao m cap)) ∧ n3 - (intOf (Value.int .u64 ((k : Int) + 1))).toNat < n3 - (intOf (Value.int .u64 (k : Int))).toNat) := by
        intro w4 w7 v7 a4 m4 c4 h1 h2 h3 h4 h5 h6
        exact ⟨⟨k + 1, _, _, _, _, a4, m4, c4, by omega, by go_num, HNX.out w4 w7 v7 a4 m4 c4 h1 h2 h3 h4 h5 h6⟩, by simp [intOf]; omega⟩
      have x1 := HX.out.c 1 (by simp)
      simp only [List.getElem_cons_zero, List.getElem_cons_succ] at x1
      clear hx hn0 hk hkn HNX HL0 HL
      go_upto_region 5 with (fail)
      refine wp_region_noPanic ?_
      refine wp_region_held_drew (S := (fun _ : World => True)) (by kernel_rfl) trivial (fun _ => ?_)
      refine wpAnyH_take (i := 0) (v := .pointer (some ⟨X, 1, none⟩)) rfl (by kernel_rfl) (by kernel_rfl) (by kernel_rfl) (fun _ _ _ h => h) (Or.inl ⟨by kernel_rfl, fun W hW => by go_simp⟩) trivial ?_
      try simp only [List.getElem_toArray, List.getElem_cons_zero, List.getElem_cons_succ, Act.put, List.setIfInBounds_toArray, List.set_cons_zero, List.set_cons_succ, List.append_eq, List.cons_append, List.nil_append]
      refine wpAnyH_take (i := 2) (v := .pointer (some ⟨R, 0, none⟩)) rfl (by kernel_rfl) (by kernel_rfl) (by kernel_rfl) (fun _ _ _ h => h) (Or.inl ⟨by kernel_rfl, fun W hW => by kernel_rfl⟩) trivial ?_
      try simp only [List.getElem_toArray, List.getElem_cons_zero, List.getElem_cons_succ, Act.put, List.setIfInBounds_toArray, List.set_cons_zero, List.set_cons_succ, List.append_eq, List.cons_append, List.nil_append]
      refine wpAnyH_ready (rs := [1, 3]) (by kernel_rfl) (by simp) ?_
      refine AllReadyH.cons rfl (fun K hK => ?_) ?_
      · try simp only [List.getElem_toArray, List.getElem_cons_zero, List.getElem_cons_succ]
        go_simp
        refine hK.out _ _ trivial (fun _ => ?_)
        clear hK K
        try simp only [List.getElem_toArray, List.getElem_cons_zero, List.getElem_cons_succ, Act.put, List.setIfInBounds_toArray, List.set_cons_zero, List.set_cons_succ, List.append_eq, List.cons_append, List.nil_append]
        refine wpAnyH_ready (rs := [3]) (by kernel_rfl) (by simp) ?_
        refine AllReadyH.cons rfl (fun K hK => ?_) AllReadyH.nil
        try simp only [List.getElem_toArray, List.getElem_cons_zero, List.getElem_cons_succ]
        go_simp
        go_at_call 45
        refine HIT.out.mono ?_
        rintro e w4 ⟨rfl, ⟨a4, m4, c4, hr4⟩, hg4⟩
        have HR4 := Hid.mk2 hr4
        have hg4' : wr.grownBy w4 (some R) := (g_grown ((Below.refl wr.heap.size wr).drew) (some R)).trans hg4
        have HG4 := Hid.mk2 hg4'
        have HX4 := Hid.mk2 (HX.out.grown hg4' (by have := HLT.out; intro e; have := Option.some.inj e; omega))
        have HO4 := Hid.mk2 (HO.out.grown hg4' (fun q hq e => by have := HLT.out; have := Option.some.inj e; have := (HO.out.lt q hq).1; omega))
        have HZ4 : Hid (base ≤ w4.heap.size) := Nat.le_trans HB.out hg4'.size
        have y1 := HX4.out.c 1 (by simp)
        have y2 := (HX4.out.alloc (.cells #[.string xk, .string xv, .int .u32 xf, .int .i64 xt, .int .u64 xu] 34)).c 1 (by simp)
        simp only [List.getElem_cons_zero, List.getElem_cons_succ] at y1 y2
        clear hr4 hg4 hg4'
        refine hK.out _ _ trivial (fun _ => ?_)
        clear hK K
        try simp only [List.getElem_toArray, List.getElem_cons_zero, List.getElem_cons_succ, Act.put, List.setIfInBounds_toArray, List.set_cons_zero, List.set_cons_succ, List.append_eq, List.cons_append, List.nil_append]
        refine wpAnyH_ready (rs := [4]) (by kernel_rfl) (by simp) ?_
        refine AllReadyH.cons rfl (fun K hK => ?_) AllReadyH.nil
        try simp only [List.getElem_toArray, List.getElem_cons_zero, List.getElem_cons_succ]
        go_simp
        refine hK.out _ _ trivial (fun _ => ?_)
        clear hK K
        try simp only [List.getElem_toArray, List.getElem_cons_zero, List.getElem_cons_succ, Act.put, List.setIfInBounds_toArray, List.set_cons_zero, List.set_cons_succ, List.append_eq, List.cons_append, List.nil_append]
        refine wpAnyH_ready (rs := [5]) (by kernel_rfl) (by simp) ?_
        refine AllReadyH.cons rfl (fun K hK => ?_) AllReadyH.nil
        try simp only [List.getElem_toArray, List.getElem_cons_zero, List.getElem_cons_succ]
        rw [if_pos (by rfl)]
        refine gop_one (w0 := w4) okM (.tmp 17) (.tmp 20) _ (by rfl) (by rfl) base (.slice lo n0 lc) L HO4.out (by rfl) ⟨xk, xv, xf, xt, xu⟩ (by rfl) _ (by rfl) (by rfl) (by have := HLL.out; omega) HZ4.out ?_
        intro v7 w7 hO7 hG7
        obtain ⟨a7, cp7, hv7, -⟩ := hO7.rd okM
        obtain ⟨n7, hn7⟩ : ∃ n7, n7 = (L ++ [Im.mk xk xv xf xt xu]).length := ⟨_, rfl⟩
        rw [← hn7] at hv7
        subst hv7
        have HO7 := Hid.mk2 hO7
        have HG7 := Hid.mk2 hG7
        have HX7 := Hid.mk2 (HX4.out.grown hG7.grown (fun e => by have h9 := (HO4.out.lt X e).1; have := HLT.out; omega))
        have z1 := HX7.out.c 1 (by simp)
        have zf := HX7.out.f 1
        clear hO7 hG7 hn7
        refine hK.out _ _ trivial (fun _ => ?_)
        clear hK K
        try simp only [List.getElem_toArray, List.getElem_cons_zero, List.getElem_cons_succ, Act.put, List.setIfInBounds_toArray, List.set_cons_zero, List.set_cons_succ, List.append_eq, List.cons_append, List.nil_append]
        refine wpAnyH_ready (rs := [6]) (by kernel_rfl) (by simp) ?_
        refine AllReadyH.cons rfl (fun K hK => ?_) AllReadyH.nil
        try simp only [List.getElem_toArray, List.getElem_cons_zero, List.getElem_cons_succ]
        go_simp
        refine hK.out _ _ trivial (fun _ => ?_)
        clear hK K
        try simp only [List.getElem_toArray, List.getElem_cons_zero, List.getElem_cons_succ, Act.put, List.setIfInBounds_toArray, List.set_cons_zero, List.set_cons_succ, List.append_eq, List.cons_append, List.nil_append]
        refine wpAnyH_ready (rs := [7]) (by kernel_rfl) (by simp) ?_
        refine AllReadyH.cons rfl (fun K hK => ?_) AllReadyH.nil
        try simp only [List.getElem_toArray, List.getElem_cons_zero, List.getElem_cons_succ]
        go_simp
        refine hK.out _ _ trivial (fun _ => ?_)
        clear hK K
        try simp only [List.getElem_toArray, List.getElem_cons_zero, List.getElem_cons_succ, Act.put, List.setIfInBounds_toArray, List.set_cons_zero, List.set_cons_succ, List.append_eq, List.cons_append, List.nil_append]
        refine wpAnyH_done (by kernel_rfl) ?_ _
        refine NoPanic.normal ?_
        clear x1
        go_wp2
        exact HFIN.out w4 w7 _ a4 m4 c4 HR4.out HG4.out HX4.out HO4.out HO7.out HG7.out
      refine AllReadyH.cons rfl (fun K hK => ?_) AllReadyH.nil
      try simp only [List.getElem_toArray, List.getElem_cons_zero, List.getElem_cons_succ]
      go_simp
      go_at_call 45
      refine HIT.out.mono ?_
      rintro e w4 ⟨rfl, ⟨a4, m4, c4, hr4⟩, hg4⟩
      have HR4 := Hid.mk2 hr4
      have hg4' : wr.grownBy w4 (some R) := (g_grown ((Below.refl wr.heap.size wr).drew) (some R)).trans hg4
      have HG4 := Hid.mk2 hg4'
      have HX4 := Hid.mk2 (HX.out.grown hg4' (by have := HLT.out; intro e; have := Option.some.inj e; omega))
      have HO4 := Hid.mk2 (HO.out.grown hg4' (fun q hq e => by have := HLT.out; have := Option.some.inj e; have := (HO.out.lt q hq).1; omega))
      have HZ4 : Hid (base ≤ w4.heap.size) := Nat.le_trans HB.out hg4'.size
      have y1 := HX4.out.c 1 (by simp)
      have y2 := (HX4.out.alloc (.cells #[.string xk, .string xv, .int .u32 xf, .int .i64 xt, .int .u64 xu] 34)).c 1 (by simp)
      simp only [List.getElem_cons_zero, List.getElem_cons_succ] at y1 y2
      clear hr4 hg4 hg4'
      refine hK.out _ _ trivial (fun _ => ?_)
      clear hK K
      try simp only [List.getElem_toArray, List.getElem_cons_zero, List.getElem_cons_succ, Act.put, List.setIfInBounds_toArray, List.set_cons_zero, List.set_cons_succ, List.append_eq, List.cons_append, List.nil_append]
      refine wpAnyH_ready (rs := [1, 4]) (by kernel_rfl) (by simp) ?_
      refine AllReadyH.cons rfl (fun K hK => ?_) ?_
      · try simp only [List.getElem_toArray, List.getElem_cons_zero, List.getElem_cons_succ]
        go_simp
        refine hK.out _ _ trivial (fun _ => ?_)
        clear hK K
        try simp only [List.getElem_toArray, List.getElem_cons_zero, List.getElem_cons_succ, Act.put, List.setIfInBounds_toArray, List.set_cons_zero, List.set_cons_succ, List.append_eq, List.cons_append, List.nil_append]
        refine wpAnyH_ready (rs := [4]) (by kernel_rfl) (by simp) ?_
        refine AllReadyH.cons rfl (fun K hK => ?_) AllReadyH.nil
        try simp only [List.getElem_toArray, List.getElem_cons_zero, List.getElem_cons_succ]
        go_simp
        refine hK.out _ _ trivial (fun _ => ?_)
        clear hK K
        try simp only [List.getElem_toArray, List.getElem_cons_zero, List.getElem_cons_succ, Act.put, List.setIfInBounds_toArray, List.set_cons_zero, List.set_cons_succ, List.append_eq, List.cons_append, List.nil_append]
        refine wpAnyH_ready (rs := [5]) (by kernel_rfl) (by simp) ?_
        refine AllReadyH.cons rfl (fun K hK => ?_) AllReadyH.nil
        try simp only [List.getElem_toArray, List.getElem_cons_zero, List.getElem_cons_succ]
        rw [if_pos (by rfl)]
        refine gop_one (w0 := w4) okM (.tmp 17) (.tmp 20) _ (by rfl) (by rfl) base (.slice lo n0 lc) L HO4.out (by rfl) ⟨xk, xv, xf, xt, xu⟩ (by rfl) _ (by rfl) (by rfl) (by have := HLL.out; omega) HZ4.out ?_
        intro v7 w7 hO7 hG7
        obtain ⟨a7, cp7, hv7, -⟩ := hO7.rd okM
        obtain ⟨n7, hn7⟩ : ∃ n7, n7 = (L ++ [Im.mk xk xv xf xt xu]).length := ⟨_, rfl⟩
        rw [← hn7] at hv7
        subst hv7
        have HO7 := Hid.mk2 hO7
        have HG7 := Hid.mk2 hG7
        have HX7 := Hid.mk2 (HX4.out.grown hG7.grown (fun e => by have h9 := (HO4.out.lt X e).1; have := HLT.out; omega))
        have z1 := HX7.out.c 1 (by simp)
        have zf := HX7.out.f 1
        clear hO7 hG7 hn7
        refine hK.out _ _ trivial (fun _ => ?_)
        clear hK K
        try simp only [List.getElem_toArray, List.getElem_cons_zero, List.getElem_cons_succ, Act.put, List.setIfInBounds_toArray, List.set_cons_zero, List.set_cons_succ, List.append_eq, List.cons_append, List.nil_append]
        refine wpAnyH_ready (rs := [6]) (by kernel_rfl) (by simp) ?_
        refine AllReadyH.cons rfl (fun K hK => ?_) AllReadyH.nil
        try simp only [List.getElem_toArray, List.getElem_cons_zero, List.getElem_cons_succ]
        go_simp
        refine hK.out _ _ trivial (fun _ => ?_)
        clear hK K
        try simp only [List.getElem_toArray, List.getElem_cons_zero, List.getElem_cons_succ, Act.put, List.setIfInBounds_toArray, List.set_cons_zero, List.set_cons_succ, List.append_eq, List.cons_append, List.nil_append]
        refine wpAnyH_ready (rs := [7]) (by kernel_rfl) (by simp) ?_
        refine AllReadyH.cons rfl (fun K hK => ?_) AllReadyH.nil
        try simp only [List.getElem_toArray, List.getElem_cons_zero, List.getElem_cons_succ]
        go_simp
        refine hK.out _ _ trivial (fun _ => ?_)
        clear hK K
        try simp only [List.getElem_toArray, List.getElem_cons_zero, List.getElem_cons_succ, Act.put, List.setIfInBounds_toArray, List.set_cons_zero, List.set_cons_succ, List.append_eq, List.cons_append, List.nil_append]
        refine wpAnyH_done (by kernel_rfl) ?_ _
        refine NoPanic.normal ?_
        clear x1
        go_wp2
        exact HFIN.out w4 w7 _ a4 m4 c4 HR4.out HG4.out HX4.out HO4.out HO7.out HG7.out
      refine AllReadyH.cons rfl (fun K hK => ?_) AllReadyH.nil
      try simp only [List.getElem_toArray, List.getElem_cons_zero, List.getElem_cons_succ]
      go_simp
      refine hK.out _ _ trivial (fun _ => ?_)
      clear hK K
      try simp only [List.getElem_toArray, List.getElem_cons_zero, List.getElem_cons_succ, Act.put, List.setIfInBounds_toArray, List.set_cons_zero, List.set_cons_succ, List.append_eq, List.cons_append, List.nil_append]
      refine wpAnyH_ready (rs := [1]) (by kernel_rfl) (by simp) ?_
      refine AllReadyH.cons rfl (fun K hK => ?_) AllReadyH.nil
      try simp only [List.getElem_toArray, List.getElem_cons_zero, List.getElem_cons_succ]
      go_simp
      refine hK.out _ _ trivial (fun _ => ?_)
      clear hK K
      try simp only [List.getElem_toArray, List.getElem_cons_zero, List.getElem_cons_succ, Act.put, List.setIfInBounds_toArray, List.set_cons_zero, List.set_cons_succ, List.append_eq, List.cons_append, List.nil_append]
      refine wpAnyH_ready (rs := [5]) (by kernel_rfl) (by simp) ?_
      refine AllReadyH.cons rfl (fun K hK => ?_) AllReadyH.nil
      try simp only [List.getElem_toArray, List.getElem_cons_zero, List.getElem_cons_succ]
      rw [if_pos (by rfl)]
      refine gop_one (w0 := w4) okM (.tmp 17) (.tmp 20) _ (by rfl) (by rfl) base (.slice lo n0 lc) L HO4.out (by rfl) ⟨xk, xv, xf, xt, xu⟩ (by rfl) _ (by rfl) (by rfl) (by have := HLL.out; omega) HZ4.out ?_
      intro v7 w7 hO7 hG7
      obtain ⟨a7, cp7, hv7, -⟩ := hO7.rd okM
      obtain ⟨n7, hn7⟩ : ∃ n7, n7 = (L ++ [Im.mk xk xv xf xt xu]).length := ⟨_, rfl⟩
      rw [← hn7] at hv7
      subst hv7
      have HO7 := Hid.mk2 hO7
      have HG7 := Hid.mk2 hG7
      have HX7 := Hid.mk2 (HX4.out.grown hG7.grown (fun e => by have h9 := (HO4.out.lt X e).1; have := HLT.out; omega))
      have z1 := HX7.out.c 1 (by simp)
      have zf := HX7.out.f 1
      clear hO7 hG7 hn7
      refine hK.out _ _ trivial (fun _ => ?_)
      clear hK K
      try simp only [List.getElem_toArray, List.getElem_cons_zero, List.getElem_cons_succ, Act.put, List.setIfInBounds_toArray, List.set_cons_zero, List.set_cons_succ, List.append_eq, List.cons_append, List.nil_append]
      refine wpAnyH_ready (rs := [6]) (by kernel_rfl) (by simp) ?_
      refine AllReadyH.cons rfl (fun K hK => ?_) AllReadyH.nil
      try simp only [List.getElem_toArray, List.getElem_cons_zero, List.getElem_cons_succ]
      go_simp
      refine hK.out _ _ trivial (fun _ => ?_)
      clear hK K
      try simp only [List.getElem_toArray, List.getElem_cons_zero, List.getElem_cons_succ, Act.put, List.setIfInBounds_toArray, List.set_cons_zero, List.set_cons_succ, List.append_eq, List.cons_append, List.nil_append]
      refine wpAnyH_ready (rs := [7]) (by kernel_rfl) (by simp) ?_
      refine AllReadyH.cons rfl (fun K hK => ?_) AllReadyH.nil
      try simp only [List.getElem_toArray, List.getElem_cons_zero, List.getElem_cons_succ]
      go_simp
      refine hK.out _ _ trivial (fun _ => ?_)
      clear hK K
      try simp only [List.getElem_toArray, List.getElem_cons_zero, List.getElem_cons_succ, Act.put, List.setIfInBounds_toArray, List.set_cons_zero, List.set_cons_succ, List.append_eq, List.cons_append, List.nil_append]
      refine wpAnyH_done (by kernel_rfl) ?_ _
      refine NoPanic.normal ?_
      clear x1
      go_wp2
      exact HFIN.out w4 w7 _ a4 m4 c4 HR4.out HG4.out HX4.out HO4.out HO7.out HG7.out

    · have hki : ¬ (k : Int) < (n3 : Int) := by omega
      have hkn2 : k = n3 := by omega
      subst hkn2
      have HX := Hid.mk2 HL.out.x
      have HPZ := Hid.mk2 HL.out.p
      have hgo := HL.out.go
      rw [Nat.sub_self] at hgo
      have hga : all = (L, s) := by rw [hgo]; show (L ++ [], s) = _; rw [List.append_nil]
      subst hga
      obtain ⟨lo, lc, hv, hrd⟩ := HL.out.own.rd okM
      have HOL := Hid.mk2 HL.out.own.lt
      have HLE : Hid (∀ (wz : World), wr.grownBy wz (some P) → GRd EM wz lo L lc ∧ (∀ a, lo = some a → w.heap.size < a.block ∧ a.block < wz.heap.size) ∧ RdX w wz R K s) := by
        intro wz hz
        have hlt := HLT.out
        have h9 := HL.out.own.lt
        refine ⟨grd_grown hrd hz (fun g off e _ e2 => ?_), fun a e => ?_, ⟨ao, m, cap, (HL.out.rdr.grown hz (fun e => by have := Option.some.inj e; omega) (fun b e => .inl (by rw [← Option.some.inj e]; exact HL.out.kP))).less HL.out.k1 HRP.out.2⟩, gr_new HL.out.gr hz (by omega)⟩
        · have := (h9 g (by rw [hv, e]; rfl)).1
          have := Option.some.inj e2
          omega
        · have h8 := h9 a.block (by rw [hv, e]; rfl)
          have := hz.size
          exact ⟨by omega, by omega⟩
      subst hv
      have HXC := Hid.mk2 HX.out
      clear HL HL0 hgo hrd HX
      go_wp2_with (first
        | (refine ywpl_load_g (by first | rfl | simp [Region.wanted, yielded]) 29 _ rfl X rfl [.int .u8 kb, .slice lo L.length lc, .int .u64 (n2 : Int)] HXC.out _ Try.underlying29 rfl (by kernel_rfl) ?_)
        | (refine ywpl_store rfl 29 _ _ rfl P [.int .u8 kb, .slice lo L.length lc, .int .u64 (n2 : Int)] [.int .u8 0, .slice none 0 0, .int .u64 0] rfl rfl (by kernel_rfl) HPZ.out rfl (by intro v hv; simp at hv; rcases hv with rfl | rfl | rfl <;> rfl) ?_))
      refine bodyPost_ret (zres_cell1 rfl rfl (load_var (ybox HPZ.out [.int .u8 kb, .slice lo L.length lc, .int .u64 (n2 : Int)] rfl) 29 _ Try.underlying29 rfl (by kernel_rfl))) rfl ?_
      obtain ⟨q1, q2, q3⟩ := HLE.out _ (ysets_grown P [.int .u8 kb, .slice lo L.length lc, .int .u64 (n2 : Int)] wr 0)
      exact ⟨⟨lo, lc, rfl, q1, q2⟩, q3⟩
end Go.Proofs.Ytfjcaofmcjhdpaa
