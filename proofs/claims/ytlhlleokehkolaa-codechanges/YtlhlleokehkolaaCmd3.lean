/-
  Commands, read: the contract of the reader's command.
-/
import Derived.Test.YtlhlleokehkolaaCmd
import Derived.Test.YtlhlleokehkolaaRItem
import Derived.Deep.Cut
import Derived.Deep.RegionHeld3
namespace Go.Proofs.Ytlhlleokehkolaa
open Go.RowKit
set_option linter.unusedSimpArgs false
set_option linter.unusedVariables false
set_option maxRecDepth 100000

theorem Try.infoStr : (Try.prog.info? 9).map (fun i => (i.zero, i.size, i.bytes)) = some (some (.string ⟨#[]⟩), 1, 16) := by kernel_rfl
/-- the slice v owns the texts ks, in a block from base on -/
def OwnTs (w : World) (base : Nat) (v : Value) (ks : List ByteArray) : Prop := w.ownsRow base 9 1 v ks.length (ks.map Value.string)
theorem OwnTs.nil (w : World) (base : Nat) : OwnTs w base (.slice none 0 0) [] := World.ownsRow_nil w base _ 1
theorem OwnTs.grown {w w' : World} {base : Nat} {v : Value} {ks : List ByteArray} {row : Option Nat} (h : OwnTs w base v ks) (hg : w.grownBy w' row) (hne : ∀ k, v.ownBlock = some k → row ≠ some k) : OwnTs w' base v ks := by
  refine World.ownsRow.kept h hg ?_
  cases hv : v.ownBlock with
  | none => exact .inl rfl
  | some k => exact .inr (fun e => hne k hv e.symm)
theorem OwnTs.lt {w : World} {base : Nat} {v : Value} {ks : List ByteArray} (h : OwnTs w base v ks) : ∀ k, v.ownBlock = some k → base ≤ k ∧ k < w.heap.size := World.ownsRow.lt h
theorem OwnTs.tl {w : World} {base : Nat} {v : Value} {ks : List ByteArray} (h : OwnTs w base v ks) : ∃ ao cap, v = .slice ao ks.length cap ∧ Tl w ao ks cap := by
  rcases h.2 with ⟨rfl, hn⟩ | ⟨g, cap, cur, rfl, hb, hg, hnc, hcm, hcs, htake⟩
  · have : ks = [] := List.eq_nil_of_length_eq_zero hn
    subst this
    exact ⟨none, 0, rfl, by simp, by omega, fun _ => rfl, .inl rfl⟩
  · refine ⟨_, cap, rfl, hnc, hcm, (by intro e; cases e), .inr ⟨g, 0, rfl, (Array.getElem?_eq_some_iff.1 hg).1, fun j hj => ?_⟩⟩
    have := World.ownsRow.cells h (g := g) rfl j (.string ks[j]) (by simp [hj])
    rw [addr_add] at this
    simpa using this
theorem run_app_ts (w0 : World) (ty : TypeId) (base : Nat) (v : Value) (ks : List ByteArray) (hown : OwnTs w0 base v ks) (s : ByteArray) (hlen : ks.length + 1 ≤ 1000000) (hbase : base ≤ w0.heap.size) :
    ∃ v' w', (Builtin.append_ #[33, 33] ty #[v, .slice (some ⟨w0.heap.size, 0, none⟩) 1 1]).run Try.prog (w0.alloc (.cells #[.string s] 9)) = .ok v' w' ∧ OwnTs w' base v' (ks ++ [s]) ∧ Grew w0 w' v v' := by
  obtain ⟨i0, hi, hz0, hz1, hz2⟩ := info_parts Try.infoStr
  have hm : maxLen = 9223372036854775807 := rfl
  obtain ⟨v', w', hr, ho, hg, _, hat⟩ := run_append_own_at (P := Try.prog) (w0.alloc (.cells #[.string s] 9)) base 33 ty 9 i0 (.string ⟨#[]⟩) 1 16 Try.underlying33 hi hz0 hz1 hz2 rfl (by decide) v ks.length (ks.map Value.string) (World.ownsRow.alloc hown _) ⟨w0.heap.size, 0, none⟩ 1 1 [.string s] (by simp)
    (by
      intro j x hx
      rw [addr_add]
      simp only [Nat.zero_add]
      match j, hx with
      | 0, hx => simp at hx; subst hx; simp
      | j + 1, hx => simp at hx)
    (by
      intro x hx
      simp at hx
      subst hx
      rfl) (by omega) (by omega) (by simp; omega)
  refine ⟨v', w', hr, ?_, ⟨(World.grownBy_alloc w0 _ _).trans hg, fun k hk => ?_⟩⟩
  · unfold OwnTs
    simpa using ho
  · rcases hat with h | h
    · exact .inl (h ▸ hk)
    · rw [h] at hk; cases hk; exact .inr (by simp)
section
variable {w : World} {ops : Array Oper} {o : Oper} {a : Act} {K : Act → World → Prop} {Q : Exit → Act → World → Prop} {E : Prop}
theorem step_app_ts {w0 : World} (hgd : o.guard = none) (s x : Operand) (ho : o.op = .call { callee := .builtin .append, args := #[s, x], argTypes := #[33, 33] })
    (base : Nat) (v : Value) (ks : List ByteArray) (hown : OwnTs w0 base v ks) (hs : a.eval s = v) (t : ByteArray) (hw : w = w0.alloc (.cells #[.string t] 9)) (hx : a.eval x = .slice (some ⟨w0.heap.size, 0, none⟩) 1 1)
    (hlen : ks.length + 1 ≤ 1000000) (hbase : base ≤ w0.heap.size)
    (h : ∀ v' w', OwnTs w' base v' (ks ++ [t]) → Grew w0 w' v v' → K (a.put o.dst v') w') : if Region.wanted o (yielded ops a.tmps) = true then Oper.wp Try.prog o a w K Q else E := by
  have hw1 : Region.wanted o (yielded ops a.tmps) = true := by simp [Region.wanted, hgd]
  rw [if_pos hw1]
  subst hw
  obtain ⟨v', w', hr, h2, h3⟩ := run_app_ts w0 o.type base v ks hown t hlen hbase
  unfold Oper.wp execOp
  simp only [ho, resolve, invoke, builtin, Sem.run_bind, Sem.run_pure, Result.andThen_ok, List.map_toArray, List.map_cons, List.map_nil, hs, hx, hr]
  exact h v' w' h2 h3
end

/-- so many texts, read -/
def sTexts : Nat → St → List ByteArray × St
  | 0, s => ([], s)
  | n + 1, s => (⟨(sText s).1.toArray⟩ :: (sTexts n (sText s).2).1, (sTexts n (sText s).2).2)
theorem sTexts_len : ∀ (n : Nat) (s : St), (sTexts n s).1.length = n
  | 0, _ => rfl
  | n + 1, s => by simp [sTexts, sTexts_len n]
/-- a command, read -/
def sCmd (s : St) : Cmd × St :=
  let p0 := sSingle s
  let p1 := sSmall 9223372036854775807 p0.2
  let pn := sSmall 8 p1.2
  let p2 := sTexts pn.1 pn.2
  let p3 := sText p2.2
  let p4 := sSmall 4294967295 p3.2
  let p5 := sSmall 9223372036854775807 p4.2
  let p6 := sSmall 18446744073709551615 p5.2
  let p7 := sSmall 18446744073709551615 p6.2
  (⟨p0.1, p1.1, p2.1, ⟨p3.1.toArray⟩, p4.1, p5.1, p6.1, p7.1⟩, p7.2)

def zeroCmd : List Value := [.int .u8 0, .int .i64 0, .slice none 0 0, .string ⟨#[]⟩, .int .u32 0, .int .i64 0, .int .u64 0, .int .u64 0]
/-- what the walk keeps: the reader in block rb, the answer's cells in block R, the command's in block C -/
structure CmdAt (w0 w : World) (B rb R C : Nat) (s : St) (cs : List Value) : Prop where
  rd : Rd w B rb s
  r : WB w R zeroCmd
  c : WB w C cs
  g : w0.grownBy w (some rb)
theorem CmdAt.call {w0 w w' : World} {B rb R C : Nat} {s s' : St} {cs : List Value} (h : CmdAt w0 w B rb R C s cs) (hR : R ≠ rb) (hC : C ≠ rb) (hg : w.grownBy w' (some rb)) (hr : Rd w' B rb s') : CmdAt w0 w' B rb R C s' cs :=
  ⟨hr, h.r.grown hg (by simpa using hR), h.c.grown hg (by simpa using hC), h.g.trans hg⟩
theorem CmdAt.set {w0 w : World} {B rb R C : Nat} {s : St} {cs : List Value} (h : CmdAt w0 w B rb R C s cs) (hC : C ≠ rb) (hRC : R ≠ C) (hB : B ≤ C) (h0 : w0.heap.size ≤ C) (j : Nat) (v : Value) (hj : j < cs.length) : CmdAt w0 (w.setCell ⟨C, j, none⟩ v) B rb R C s (cs.set j v) :=
  ⟨h.rd.other (Ne.symm hC) hB j v, h.r.other hRC j v, h.c.set j v hj, grown_new h.g h0 j v⟩
end Go.Proofs.Ytlhlleokehkolaa
