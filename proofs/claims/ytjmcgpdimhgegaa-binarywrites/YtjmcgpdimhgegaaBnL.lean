/-
  From the rows' readings to the walks' words: a request that came in.
-/
import Derived.Test.YtjmcgpdimhgegaaBnI
import Derived.Test.YtjmcgpdimhgegaaG01
namespace Go.Proofs.Ytjmcgpdimhgegaa
open Go.Proofs.Ytjmcgpdimhgegaa.It
open Go.ChangeShapes Go.WideShapes Go.ChangeAt Go.RowKit
open Go.ChangeMaps (open_string shut_string)
set_option linter.unusedSimpArgs false
set_option linter.unusedVariables false
set_option maxRecDepth 100000

theorem Try.k64 : Try.prog.cellsOf 3 = 1 := by kernel_rfl
theorem Try.kstr : Try.prog.cellsOf 9 = 1 := by kernel_rfl
theorem Try.ku32 : Try.prog.cellsOf 23 = 1 := by kernel_rfl
theorem Try.ku64 : Try.prog.cellsOf 24 = 1 := by kernel_rfl
theorem Try.kbool : Try.prog.cellsOf 4 = 1 := by kernel_rfl
theorem Try.kstrs : Try.prog.cellsOf 22 = 1 := by kernel_rfl
theorem Try.kcmd : Try.prog.cellsOf 26 = 8 := by kernel_rfl
theorem Try.kreq : Try.prog.cellsOf 28 = 13 := by kernel_rfl
instance : Inhabited ByteArray := ⟨⟨#[]⟩⟩
theorem okS2 : GOk ES := ⟨Try.underlying22, by kernel_rfl, rfl, by decide, by decide, fun _ => rfl, fun a u h => by simp [ES] at h; subst h; rfl⟩
/-- a request whose numbers are of their kinds -/
structure Rq.Fit (r : Rq) : Prop where
  f0 : 0 ≤ r.cmd.flags
  f1 : r.cmd.flags < 4294967296
  u0 : 0 ≤ r.cmd.unique
  u1 : r.cmd.unique < 18446744073709551616
  b0 : 0 ≤ r.cmd.by_
  b1 : r.cmd.by_ < 18446744073709551616
variable {H : Type} {enc : TypeId × Value → H} {W : World} {base : Nat} {sp : Nat → Bool} {bb : Bool}
theorem str_of_cells {fuel : Nat} {cs : List Value} {x : DataW H × List MemPlace} (h : DataW.trod enc Try.prog W base sp bb fuel 9 cs = some x) : ∃ s : ByteArray, cs = ES.cells s ∧ s.size ≤ maxLen := by
  obtain ⟨s, e, _, hs⟩ := DataW.trod_string Try.underlying9 h
  exact ⟨s, e, hs⟩
/-- a request that came in -/
structure RqIn (W : World) (r : Rq) (ko : Option Addr) (kc : Nat) : Prop where
  rd : GRd ES W ko r.cmd.keys kc
  keys : ∀ k ∈ r.cmd.keys, k.size ≤ maxLen
  sec : r.secret.size ≤ maxLen
  val : r.cmd.value.size ≤ maxLen
  fit : r.Fit
  kind : 0 ≤ r.kind ∧ r.kind ≤ 255
  ckind : 0 ≤ r.cmd.kind ∧ r.cmd.kind ≤ 255
theorem inReq_of {v : Value} {r : Reach} {b0 : Nat} {d : DataW H} {p : List MemPlace} (hsp : ∀ b, sp b = true) (hv : Value.okWide Try.prog W r b0 28 v)
    (hf : DataW.Trod enc Try.prog W base sp bb 28 v d p) : ∃ (c : Rq) (ko : Option Addr) (kc : Nat), v = .agg (c.arr (.slice ko c.cmd.keys.length kc)) ∧ RqIn W c ko kc := by
  obtain ⟨cs, rfl, hs⟩ := okWide_struct Try.underlying28 hv
  obtain ⟨fuel, hf⟩ := hf
  obtain ⟨xs, n, _, hx, hlen, hxl, hfs⟩ := DataW.trod_struct Try.underlying28 hf
  rw [Try.kreq] at hs hlen
  obtain ⟨z0, u0, u1, u2, u3, u4, u5, u6, u7, z2, z3, z4, z5, rfl⟩ : ∃ z0 u0 u1 u2 u3 u4 u5 u6 u7 z2 z3 z4 z5, cs = #[z0, u0, u1, u2, u3, u4, u5, u6, u7, z2, z3, z4, z5] := by
    cases cs with | mk l =>
    match l, hs with
    | [z0, u0, u1, u2, u3, u4, u5, u6, u7, z2, z3, z4, z5], _ => exact ⟨z0, u0, u1, u2, u3, u4, u5, u6, u7, z2, z3, z4, z5, rfl⟩
  match xs, hxl with
  | [y0, y1, y2, y3, y4, y5], _ =>
    have f0 := hfs 0 _ rfl
    have f1 := hfs 1 _ rfl
    have f2 := hfs 2 _ rfl
    have f3 := hfs 3 _ rfl
    have f4 := hfs 4 _ rfl
    have f5 := hfs 5 _ rfl
    simp [Try.k8, Try.k64, Try.kstr, Try.kbool, Try.kcmd, Value.cells] at f0 f1 f2 f3 f4 f5
    obtain ⟨m0, e0, _, g0⟩ := DataW.trod_int Try.underlying5 f0
    obtain ⟨m2, e2, _, g2⟩ := DataW.trod_int Try.underlying3 f2
    obtain ⟨m3, e3, _, g3⟩ := DataW.trod_string Try.underlying9 f3
    obtain ⟨m4, e4, _⟩ := DataW.trod_bool Try.underlying4 f4
    obtain ⟨m5, e5, _⟩ := DataW.trod_bool Try.underlying4 f5
    obtain ⟨xs1, n1, _, hx1, hlen1, hxl1, hfs1⟩ := DataW.trod_struct Try.underlying26 f1
    match xs1, hxl1 with
    | [t0, t1, t2, t3, t4, t5, t6, t7], _ =>
      have a0 := hfs1 0 _ rfl
      have a1 := hfs1 1 _ rfl
      have a2 := hfs1 2 _ rfl
      have a3 := hfs1 3 _ rfl
      have a4 := hfs1 4 _ rfl
      have a5 := hfs1 5 _ rfl
      have a6 := hfs1 6 _ rfl
      have a7 := hfs1 7 _ rfl
      simp [Try.k8, Try.k64, Try.kstrs, Try.kstr, Try.ku32, Try.ku64, Value.cells] at a0 a1 a2 a3 a4 a5 a6 a7
      obtain ⟨n0, b0, _, q0⟩ := DataW.trod_int Try.underlying5 a0
      obtain ⟨n1, b1, _, q1⟩ := DataW.trod_int Try.underlying3 a1
      obtain ⟨s3, b3, _, q3⟩ := DataW.trod_string Try.underlying9 a3
      obtain ⟨n4, b4, _, q4⟩ := DataW.trod_int Try.underlying23 a4
      obtain ⟨n5, b5, _, q5⟩ := DataW.trod_int Try.underlying3 a5
      obtain ⟨n6, b6, _, q6⟩ := DataW.trod_int Try.underlying24 a6
      obtain ⟨n7, b7, _, q7⟩ := DataW.trod_int Try.underlying24 a7
      obtain ⟨ko, l, kc, b2, hg, hp⟩ := g_open okS2 Try.kstr (fun (s : ByteArray) => s.size ≤ maxLen) hsp (fun _ _ _ hx => str_of_cells hx) a2
      simp at e0 e2 e3 e4 e5 b0 b1 b3 b4 b5 b6 b7
      subst e0 e2 e3 e4 e5 b0 b1 b2 b3 b4 b5 b6 b7
      have c0 := bounds_u8 g0
      have c1 := bounds_u8 q0
      have c4 := bounds_u32 q4
      have c6 := bounds_u64 q6
      have c7 := bounds_u64 q7
      exact ⟨⟨m0, ⟨n0, n1, l, s3, n4, n5, n6, n7⟩, m2, m3, m4, m5⟩, ko, kc, rfl, ⟨hg, (fun k hk => by obtain ⟨i, hi, rfl⟩ := List.getElem_of_mem hk; exact hp i hi), g3, q3, ⟨c4.1, by dsimp only; omega, c6.1, by dsimp only; omega, c7.1, by dsimp only; omega⟩, by dsimp only; omega, by dsimp only; omega⟩⟩
end Go.Proofs.Ytjmcgpdimhgegaa
