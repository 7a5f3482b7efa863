/-
  alive of the statements of package packed.
-/
import Derived.Test.YtfjcaofmcjhdpaaPkX
import Derived.Test.YtfjcaofmcjhdpaaWoW
import Derived.Test.YtfjcaofmcjhdpaaGq
namespace Go.Proofs.Ytfjcaofmcjhdpaa
open Go.Proofs.Ytfjcaofmcjhdpaa.It
open Go.RowKit
set_option linter.unusedSimpArgs false
set_option linter.unusedVariables false
set_option maxRecDepth 100000

def al17 : An := ⟨1, 6, 1, [], 300, false, ⟨#[]⟩⟩
theorem pem0 : (⟨#[]⟩ : ByteArray).toList.isEmpty = true := by rw [ByteArray.toList_eq]; rfl
theorem al17_may : al17.may = true := by
  unfold An.may al17
  rw [if_pos rfl]
  dsimp only
  rw [pem0]
  rfl
theorem al17_body : al17.body = [6, 1, 172, 2, 0] := by
  unfold An.body al17
  rw [if_pos rfl]
  rfl
theorem al17_wp : al17.wpE = 0 ∧ al17.wp = [178, 1, 0, 0, 0, 5, 6, 1, 172, 2, 0] := by
  have hE : al17.wpE = 0 := by
    unfold An.wpE
    rw [if_pos al17_may, al17_body]
    rfl
  refine ⟨hE, ?_⟩
  unfold An.wp
  rw [if_pos hE, al17_body]
  rfl
theorem al17_pf : al17.Pf := ⟨by decide, by decide, by decide, by decide, fun x hx => by cases hx⟩
theorem gbx_get {w : World} {b : Nat} {vs : List Value} (h : GBx w b vs) : ∀ j v, vs[j]? = some v → w.cell? ⟨b, j, none⟩ = some v := by
  intro j v hv
  obtain ⟨hj, e⟩ := List.getElem?_eq_some_iff.1 hv
  rw [h.c j hj, e]
theorem gr_take {α : Type} {E : GEl α} {w : World} {ao : Option Addr} {l : List α} {cap : Nat} (h : GRd E w ao l cap) (k : Nat) : GRd E w ao (l.take k) cap := by
  refine ⟨by have := h.hl; simp; omega, h.hc, h.hn, ?_⟩
  rcases h.at_ with rfl | ⟨b, off, e, hb, hc⟩
  · exact .inl (by simp)
  · refine .inr ⟨b, off, e, hb, fun i hi j hj => ?_⟩
    rw [List.length_take] at hi
    simpa [List.getElem_take] using hc i (by omega) j (by simpa [List.getElem_take] using hj)
theorem seven {l : List Value} (h : l.length = 7) : ∃ a b c d e f g, l = [a, b, c, d, e, f, g] := by
  match l, h with
  | [a, b, c, d, e, f, g], _ => exact ⟨a, b, c, d, e, f, g, rfl⟩
theorem zan_arr : zan.arr (.slice none zan.items.length 0) = #[.int .u8 0, .int .u8 0, .int .u8 0, .slice none 0 0, .int .u64 0, .bool false, .string ⟨#[]⟩] := rfl
theorem pmay_short {a : An} (h : a.may = true) (hf : a.Pf) : a.key.size ≤ maxLen := Nat.le_trans (may_parts h hf).2.2.2 (by decide)
set_option maxHeartbeats 2000000 in
theorem alive17_any (V : World) : Calls Try.prog 10 #[] V fun e w' => e = .returned (.bool true) ∧ Below V.heap.size V w' := by
  have HW : Hid (Calls Try.prog 8 #[.agg #[.int .u8 1, .int .u8 6, .int .u8 1, .slice none 0 0, .int .u64 300, .bool false, .string ⟨#[]⟩]] V fun e w' => (∃ ao cap, e = .returned (.tuple #[.slice ao 11 cap, .int .i64 0]) ∧ GRd EY w' ao [178, 1, 0, 0, 0, 5, 6, 1, 172, 2, 0] cap) ∧ Below V.heap.size V w') := by
    refine (pwrite_any al17 none 0 V (GRd.nil V) (by decide) al17_pf).mono ?_
    rintro e w' ⟨⟨ao, cap, h1, h2⟩, h3⟩
    rw [al17_wp.1, al17_wp.2] at h1
    rw [al17_wp.2] at h2
    exact ⟨⟨ao, cap, h1, h2⟩, h3⟩
  go_enter Try.func10, Try.ntmps10
  go_upto_region 2 with (go_at_call 8; refine HW.out.mono ?_; rintro e w2 ⟨⟨ao, cap, rfl, hr2⟩, hb2⟩; have HB2 := Hid.mk2 hb2; have HR2 := Hid.mk2 hr2; clear hb2 hr2)
  have hcv : (convert 22 9 (.slice ao 11 cap)).run Try.prog w2 = .ok (.string ⟨#[178, 1, 0, 0, 0, 5, 6, 1, 172, 2, 0]⟩) w2 := conv_rd HR2.out
  have hcv2 : (convert 22 9 (.slice (some ⟨w2.heap.size, 0, none⟩) 11 11)).run Try.prog (w2.alloc (.cells #[.int .u8 178, .int .u8 1, .int .u8 0, .int .u8 0, .int .u8 0, .int .u8 5, .int .u8 6, .int .u8 1, .int .u8 172, .int .u8 2, .int .u8 0] 5)) = .ok (.string ⟨#[178, 1, 0, 0, 0, 5, 6, 1, 172, 2, 0]⟩) (w2.alloc (.cells #[.int .u8 178, .int .u8 1, .int .u8 0, .int .u8 0, .int .u8 0, .int .u8 5, .int .u8 6, .int .u8 1, .int .u8 172, .int .u8 2, .int .u8 0] 5)) := conv_rd (g_news okY w2 [178, 1, 0, 0, 0, 5, 6, 1, 172, 2, 0] [.int .u8 178, .int .u8 1, .int .u8 0, .int .u8 0, .int .u8 0, .int .u8 5, .int .u8 6, .int .u8 1, .int .u8 172, .int .u8 2, .int .u8 0] rfl (by decide))
  have hxx : ((⟨#[178, 1, 0, 0, 0, 5, 6, 1, 172, 2, 0]⟩ : ByteArray).toList == (⟨#[178, 1, 0, 0, 0, 5, 6, 1, 172, 2, 0]⟩ : ByteArray).toList) = true := by simp
  have HBE : Hid (∀ o, Below V.heap.size V (w2.alloc o)) := fun o => g_on HB2.out (g_alloc _ _)
  go_wp2
  go_ret
  exact ⟨by first | rfl | simp, HBE.out _⟩
end Go.Proofs.Ytfjcaofmcjhdpaa
