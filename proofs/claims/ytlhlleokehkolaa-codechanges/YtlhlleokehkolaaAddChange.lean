/-
  Contract of addChange.
-/
import Derived.Test.YtlhlleokehkolaaChgOk
import Derived.Test.YtlhlleokehkolaaAddItem
namespace Go.Proofs.Ytlhlleokehkolaa
open Go.RowKit
set_option linter.unusedSimpArgs false
set_option linter.unusedVariables false
set_option maxRecDepth 100000

section
variable {w : World} {ops : Array Oper} {o : Oper} {a : Act} {K : Act → World → Prop} {Q : Exit → Act → World → Prop} {E : Prop}
/-- append(v, src...) at a step of a region that draws its order -/
theorem step_app_bytes (hgd : o.guard = none) (s x : Operand) (ho : o.op = .call { callee := .builtin .append, args := #[s, x], argTypes := #[26, 26] })
    (base : Nat) (v : Value) (l : List UInt8) (hown : Own w base v l) (hs : a.eval s = v) (ao : Option Addr) (c : Nat) (src : List UInt8) (m : Nat) (hm : m = src.length) (hx : a.eval x = .slice ao m c) (B : Nat) (hnil : ao = none → c = 0) (hsrc : BsAt w B ao src)
    (hlen : l.length + src.length ≤ 140737488355328) (hbase : base ≤ w.heap.size)
    (h : ∀ v' w', Own w' base v' (l ++ src) → Grew w w' v v' → K (a.put o.dst v') w') : if Region.wanted o (yielded ops a.tmps) = true then Oper.wp Try.prog o a w K Q else E := by
  have hw : Region.wanted o (yielded ops a.tmps) = true := by simp [Region.wanted, hgd]
  rw [if_pos hw]
  subst hm
  obtain ⟨v', w', hr, h2, h3⟩ := run_app_bytes w o.type base v l hown ao c src B hnil hsrc hlen hbase
  unfold Oper.wp execOp
  simp only [ho, resolve, invoke, builtin, Sem.run_bind, Sem.run_pure, Result.andThen_ok, List.map_toArray, List.map_cons, List.map_nil, hs, hx, hr]
  exact h v' w' h2 h3
theorem step_app_one {w0 : World} (hgd : o.guard = none) (s x : Operand) (ho : o.op = .call { callee := .builtin .append, args := #[s, x], argTypes := #[26, 26] })
    (base : Nat) (v : Value) (l : List UInt8) (hown : Own w0 base v l) (hs : a.eval s = v) (n : Int) (c : UInt8) (hc : n = (c.toNat : Int)) (hw : w = w0.alloc (.cells #[.int .u8 n] 5)) (hx : a.eval x = .slice (some ⟨w0.heap.size, 0, none⟩) 1 1)
    (hlen : l.length + 1 ≤ 140737488355328) (hbase : base ≤ w0.heap.size)
    (h : ∀ v' w', Own w' base v' (l ++ [c]) → Grew w0 w' v v' → K (a.put o.dst v') w') : if Region.wanted o (yielded ops a.tmps) = true then Oper.wp Try.prog o a w K Q else E := by
  subst hw hc
  refine step_app_bytes hgd s x ho base v l (hown.alloc _) hs (some ⟨w0.heap.size, 0, none⟩) 1 [c] 1 rfl hx (w0.heap.size + 1) (by intro e; cases e) (.inr ⟨w0.heap.size, 0, rfl, by omega, fun j hj => ?_⟩) (by simpa using hlen) (by simp; omega) (fun v' w' h1 h2 => h v' w' h1 h2.alloc)
  have : j = 0 := by simp at hj; omega
  subst this
  simp [bcell]
theorem app_oneH {rest : List Oper} {w0 : World} (hgd : o.guard = none) (s x : Operand) (ho : o.op = .call { callee := .builtin .append, args := #[s, x], argTypes := #[26, 26] })
    (base : Nat) (v : Value) (l : List UInt8) (hown : Own w0 base v l) (hs : a.eval s = v) (n : Int) (c : UInt8) (hc : n = (c.toNat : Int)) (hw : w = w0.alloc (.cells #[.int .u8 n] 5)) (H : Nat) (hx : a.eval x = .slice (some ⟨H, 0, none⟩) 1 1) (hH : H = w0.heap.size)
    (hlen : l.length + 1 ≤ 140737488355328) (hbase : base ≤ w0.heap.size)
    (h : ∀ v' w', Own w' base v' (l ++ [c]) → Grew w0 w' v v' → wpList Try.prog ops Q rest (a.put o.dst v') w') : wpList Try.prog ops Q (o :: rest) a w := by
  subst hH
  exact app_one hgd s x ho base v l hown hs n c hc hw hx hlen hbase h
end
/-- a box of one byte that was built aside is there still -/
theorem Boxed.byte {w : World} {b : Nat} {v : Value} {c : UInt8} (h : Boxed w b v [.int .u8 (c.toNat : Int)]) : BsAt w w.heap.size (some ⟨b, 0, none⟩) [c] :=
  .inr ⟨b, 0, rfl, h.lt, fun j hj => by
    have : j = 0 := by simp at hj; omega
    subst this
    exact h.cells 0 (by simp)⟩

/-- P1.3: a change's bytes -/
def chgB (c : Chg) : List UInt8 :=
  [c.kind] ++ (if hasTen c.kind.toNat then small c.tenant.toNat else []) ++
    (if c.kind.toNat = 1 then itmB c.item
     else if c.kind.toNat = 2 then text c.key.data.toList ++ [c.why]
     else if c.kind.toNat = 4 ∨ c.kind.toNat = 5 ∨ c.kind.toNat = 7 then small c.to.toNat
     else if c.kind.toNat = 6 then small c.to.toNat ++ [truthB c.primary]
     else [])
/-- what any change's fields fit -/
structure Chg.Good (c : Chg) : Prop where
  flags : c.item.flags ≤ 4294967295
  unique : Fits c.item.unique

/-- the beginning: the box, the kind, the tenant -/
theorem kind_byte (kind : UInt8) : ((kind.toNat : Nat) : Int) = (kind.toNat : Int) := rfl

theorem addChange1 (base : Nat) (v : Value) (l : List UInt8) (kind why : UInt8) (t : Nat) (item : Itm) (key : ByteArray) (to : Int) (primary : Bool) (w : World) (hown : Own w base v l) (hbase : base ≤ w.heap.size) (hl : l.length ≤ 80000000)
    (hkind : kind.toNat = 1) (ht : t < 4) (hk : item.key.size ≤ 32) (hv : item.value.size ≤ 512) (hf : item.flags ≤ 4294967295) (ht0 : 0 ≤ item.til) (ht1 : item.til ≤ 1099511627776) (hu : Fits item.unique) :
    Calls Try.prog 41 #[v, .agg #[.int .u8 kind.toNat, .int .i64 t, .string item.key, .string item.value, .int .u32 item.flags, .int .i64 item.til, .int .u64 item.unique, .string key, .int .u8 why.toNat, .int .i64 to, .bool primary]] w
      fun e w' => ∃ v', e = .returned v' ∧ Own w' base v' (l ++ ([kind] ++ small t ++ itmB item)) ∧ Grew w w' v v' := by
  have hbox := Boxed.made hown [.int .u8 kind.toNat, .int .i64 t, .string item.key, .string item.value, .int .u32 item.flags, .int .i64 item.til, .int .u64 item.unique, .string key, .int .u8 why.toNat, .int .i64 to, .bool primary] 41
  have hownB := hown.alloc (.cells #[.int .u8 kind.toNat, .int .i64 t, .string item.key, .string item.value, .int .u32 item.flags, .int .i64 item.til, .int .u64 item.unique, .string key, .int .u8 why.toNat, .int .i64 to, .bool primary] 41)
  have hgB := grew_alloc (w := w) v (.cells #[.int .u8 kind.toNat, .int .i64 t, .string item.key, .string item.value, .int .u32 item.flags, .int .i64 item.til, .int .u64 item.unique, .string key, .int .u8 why.toNat, .int .i64 to, .bool primary] 41)
  have e1 := small_len t
  have hft : Fits t := by unfold Fits; omega
  have hkd : ((kind.toNat : Int) == 1) = true := by simp [hkind]
  have hten : hasTen kind.toNat = true := by simp [hkind, hasTen]
  obtain ⟨k, hke⟩ : ∃ k : Nat, k = kind.toNat := ⟨_, rfl⟩
  have HKE : Hid (k = kind.toNat) := hke
  have hko : (k : Int) = (kind.toNat : Int) := by omega
  have HKO : Hid ((k : Int) = (kind.toNat : Int)) := hko
  rw [← hke] at hbox hownB hgB hkd hten ⊢
  clear hke hko hkind
  go_enter Try.func41, Try.ntmps41
  go_wp2_with (first
    | (at_builtin; refine app_oneH rfl (.tmp 5) (.tmp 8) rfl base _ _ hownB rfl _ _ HKO.out rfl _ rfl (by simp) (by omega) (by simp; omega) ?_; intro v1 w1 ho1 hg1; have hbox1 := hbox.grew hg1; have d0 : w1.cell? ⟨w.heap.size, 0, none⟩ = some (.int .u8 k) := hbox1.cells 0 (by simp); have d1 : w1.cell? ⟨w.heap.size, 1, none⟩ = some (.int .i64 t) := hbox1.cells 1 (by simp); have hg01 := hgB.trans hg1; have hs1 : base ≤ w1.heap.size := Nat.le_trans hbase hg01.grown.size)
    | (go_at_call 60; refine (hasTenant_any k _).mono ?_; rintro e w' ⟨rfl, rfl⟩)
    | (go_at_call 38; refine (addSmall_any base v1 _ t w1 ho1 hs1 hft (by simp; omega)).mono ?_; rintro e w2 ⟨v2, rfl, ho2, hg2⟩; have hbox2 := hbox1.grew hg2; have f0 : w2.cell? ⟨w.heap.size, 0, none⟩ = some (.int .u8 k) := hbox2.cells 0 (by simp); have f2 : w2.cell? ⟨w.heap.size, 2, none⟩ = some (.string item.key) := hbox2.cells 2 (by simp); have f3 : w2.cell? ⟨w.heap.size, 3, none⟩ = some (.string item.value) := hbox2.cells 3 (by simp); have f4 : w2.cell? ⟨w.heap.size, 4, none⟩ = some (.int .u32 item.flags) := hbox2.cells 4 (by simp); have f5 : w2.cell? ⟨w.heap.size, 5, none⟩ = some (.int .i64 item.til) := hbox2.cells 5 (by simp); have f6 : w2.cell? ⟨w.heap.size, 6, none⟩ = some (.int .u64 item.unique) := hbox2.cells 6 (by simp); have hg02 := hg01.trans hg2; have hs2 : base ≤ w2.heap.size := Nat.le_trans hbase hg02.grown.size)
    | (go_at_call 63; refine (addItem_any base v2 _ item w2 ho2 hs2 (by simp; omega) hk hv hf ht0 ht1 hu).mono ?_; rintro e w3 ⟨v3, rfl, ho3, hg3⟩))
  go_ret
  exact ⟨_, rfl, by simpa using ho3, hg02.trans hg3⟩
end Go.Proofs.Ytlhlleokehkolaa
