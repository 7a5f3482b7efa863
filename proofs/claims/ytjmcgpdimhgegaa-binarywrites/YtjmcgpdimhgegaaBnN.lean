/-
  The document's SameCommand of a command and none (as text TxB has it, over fewer imports).
-/
import Derived.Test.YtjmcgpdimhgegaaTxA
namespace Go.Proofs.Ytjmcgpdimhgegaa
open Go.Proofs.Ytjmcgpdimhgegaa.It
open Go.RowKit
set_option linter.unusedSimpArgs false
set_option linter.unusedVariables false
set_option maxRecDepth 100000

theorem em0 : (⟨#[]⟩ : ByteArray).toList.isEmpty = true := by rw [ByteArray.toList_eq]; rfl
theorem isEmpty_eq {s : ByteArray} (h : s.toList.isEmpty = true) : s = ⟨#[]⟩ := by
  rw [ByteArray.toList_eq] at h
  apply bl_inj
  have h2 : (bl s).isEmpty = true := h
  cases e : bl s with
  | nil => rfl
  | cons a l => rw [e] at h2; simp at h2
set_option maxHeartbeats 4000000 in
theorem samez_any (c : Cm) (ko : Option Addr) (kc : Nat) (w : World) (hlen : c.keys.length ≤ 9223372036854775807) :
    Calls Try.prog 14 #[.agg (c.arr (.slice ko c.keys.length kc)), .agg (cz.arr (.slice none 0 0))] w fun e w' => e = .returned (.bool c.isNone) ∧ Below w.heap.size w w' := by
  have HB := Hid.mk2 (g_on (g_alloc w (.cells (c.arr (.slice ko c.keys.length kc)) 26)) (g_alloc _ (.cells (cz.arr (.slice none 0 0)) 26)))
  obtain ⟨kind, tenant, keys, value, flags, life, unique, by_⟩ := c
  unfold Cm.isNone
  unfold Cm.arr cz at *
  dsimp only at *
  by_cases h0 : kind = 0
  case neg =>
    have n0 := h0
    clear h0
    go_enter Try.func14, Try.ntmps14
    go_wp2
    go_ret
    exact ⟨by simp [n0], HB.out⟩
  case pos =>
  subst h0
  by_cases h1 : tenant = 0
  case neg =>
    have n1 := h1
    clear h1
    go_enter Try.func14, Try.ntmps14
    go_wp2
    go_ret
    exact ⟨by simp [n1], HB.out⟩
  case pos =>
  subst h1
  by_cases h3 : value = ⟨#[]⟩
  case neg =>
    have n3 : value.toList.isEmpty = false := by cases e : value.toList.isEmpty; rfl; exact absurd (isEmpty_eq e) h3
    clear h3
    go_enter Try.func14, Try.ntmps14
    go_wp2
    go_ret
    exact ⟨by simp [n3], HB.out⟩
  case pos =>
  subst h3
  by_cases h4 : flags = 0
  case neg =>
    have n4 := h4
    clear h4
    go_enter Try.func14, Try.ntmps14
    go_wp2
    go_ret
    exact ⟨by simp [n4], HB.out⟩
  case pos =>
  subst h4
  by_cases h5 : life = 0
  case neg =>
    have n5 := h5
    clear h5
    go_enter Try.func14, Try.ntmps14
    go_wp2
    go_ret
    exact ⟨by simp [n5], HB.out⟩
  case pos =>
  subst h5
  by_cases h6 : unique = 0
  case neg =>
    have n6 := h6
    clear h6
    go_enter Try.func14, Try.ntmps14
    go_wp2
    go_ret
    exact ⟨by simp [n6], HB.out⟩
  case pos =>
  subst h6
  by_cases h7 : by_ = 0
  case neg =>
    have n7 := h7
    clear h7
    go_enter Try.func14, Try.ntmps14
    go_wp2
    go_ret
    exact ⟨by simp [n7], HB.out⟩
  case pos =>
  subst h7
  by_cases h2 : keys = []
  case neg =>
    have n2 := h2
    have m2 : ((keys.length : Int) != 0) = true := by simp [h2]
    clear h2
    go_enter Try.func14, Try.ntmps14
    go_wp2
    go_ret
    exact ⟨by simp [n2], HB.out⟩
  case pos =>
  subst h2
  go_enter Try.func14, Try.ntmps14
  go_wp2
  go_loopw [5] (fun i wr => i = .int .i64 0 ∧ wr = (w.alloc (.cells #[.int .u8 0, .int .i64 0, .slice ko 0 kc, .string ⟨#[]⟩, .int .u32 0, .int .i64 0, .int .u64 0, .int .u64 0] 26)).alloc (.cells #[.int .u8 0, .int .i64 0, .slice none 0 0, .string ⟨#[]⟩, .int .u32 0, .int .i64 0, .int .u64 0, .int .u64 0] 26)) (fun i _ => 0)
  case atStart => exact ⟨rfl, rfl⟩
  case round =>
    obtain ⟨rfl, rfl⟩ := hrel
    go_wp2
    go_ret
    exact ⟨by simp [em0], HB.out⟩
end Go.Proofs.Ytjmcgpdimhgegaa
