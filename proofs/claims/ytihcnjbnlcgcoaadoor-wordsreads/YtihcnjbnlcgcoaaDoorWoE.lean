/-
  Answers' lines as data: how they are written, how they are read; what is written is read back, whatever comes behind.
-/
import Derived.Test.YtihcnjbnlcgcoaaDoorWoP
namespace Go.Proofs.YtihcnjbnlcgcoaaDoor
open Go.Proofs.YtihcnjbnlcgcoaaDoor.It
open Go.RowKit
set_option linter.unusedSimpArgs false
set_option linter.unusedVariables false
set_option maxRecDepth 100000

def sVALUE : ByteArray := ⟨#[86, 65, 76, 85, 69]⟩
def sEND : ByteArray := ⟨#[69, 78, 68]⟩
def sWELCOME : ByteArray := ⟨#[87, 69, 76, 67, 79, 77, 69]⟩
def sUNKNOWN : ByteArray := ⟨#[85, 78, 75, 78, 79, 87, 78]⟩
def sTRACKED : ByteArray := ⟨#[84, 82, 65, 67, 75, 69, 68]⟩
def sUNTRACKED : ByteArray := ⟨#[85, 78, 84, 82, 65, 67, 75, 69, 68]⟩
def sPONG : ByteArray := ⟨#[80, 79, 78, 71]⟩
def sBYE : ByteArray := ⟨#[66, 89, 69]⟩
def sERROR : ByteArray := ⟨#[69, 82, 82, 79, 82]⟩
def sPUSH : ByteArray := ⟨#[80, 85, 83, 72]⟩
def sSTORED : ByteArray := ⟨#[83, 84, 79, 82, 69, 68]⟩
def sNUMBER : ByteArray := ⟨#[78, 85, 77, 66, 69, 82]⟩
def sTOUCHED : ByteArray := ⟨#[84, 79, 85, 67, 72, 69, 68]⟩
def sFLUSHED : ByteArray := ⟨#[70, 76, 85, 83, 72, 69, 68]⟩
def sDELETED : ByteArray := ⟨#[68, 69, 76, 69, 84, 69, 68]⟩
def sNOTFOUND : ByteArray := ⟨#[78, 79, 84, 95, 70, 79, 85, 78, 68]⟩
def sEXISTS : ByteArray := ⟨#[69, 88, 73, 83, 84, 83]⟩
def sTOOLARGE : ByteArray := ⟨#[84, 79, 79, 95, 76, 65, 82, 71, 69]⟩
def sNOMEMORY : ByteArray := ⟨#[78, 79, 95, 77, 69, 77, 79, 82, 89]⟩
def sNOTNUMBER : ByteArray := ⟨#[78, 79, 84, 95, 78, 85, 77, 66, 69, 82]⟩
def sDENIED : ByteArray := ⟨#[68, 69, 78, 73, 69, 68]⟩

def doneW (k : Int) : ByteArray := if k = 2 ∨ k = 3 ∨ k = 4 ∨ k = 5 ∨ k = 8 then sSTORED else if k = 6 ∨ k = 7 then sNUMBER else if k = 9 then sTOUCHED else if k = 11 then sFLUSHED else if k = 10 then sDELETED else sEND
def resW (k : Int) : ByteArray := if k = 2 then sNOTFOUND else if k = 3 then sEXISTS else if k = 4 then sTOOLARGE else if k = 5 then sNOMEMORY else if k = 6 then sNOTNUMBER else if k = 7 then sDENIED else ⟨#[]⟩
/-- the words of the line that ends an answer -/
def An.last (a : An) : List ByteArray :=
  if a.kind = 2 then [if a.yes = true then sWELCOME else sUNKNOWN] else if a.kind = 3 then [if a.yes = true then sTRACKED else sUNTRACKED]
  else if a.kind = 4 then [sPONG] else if a.kind = 5 then [sBYE] else if a.kind = 6 then [sERROR] else if a.kind = 7 then [sPUSH, a.key]
  else if a.rk = 1 then (if 0 < mostN a.of_ then [doneW a.of_, dec a.num] else [doneW a.of_]) else [resW a.rk]
def Im.words (x : Im) : List ByteArray := [sVALUE, x.key, dec x.flags, dec x.till, dec x.unique, dec (x.value.size : Int)]
def Im.lines (x : Im) : List UInt8 := joinW x.words ++ 13 :: 10 :: (bl x.value ++ [13, 10])
def An.lines (a : An) : List UInt8 := a.items.flatMap Im.lines ++ (joinW a.last ++ [13, 10])
def An.hasL (a : An) : Bool := seen a.key && a.items.all fun x => seen x.key
def An.wrE (a : An) : Int := if a.may = true ∧ a.hasL = true then 0 else 8
def An.wr (a : An) : List UInt8 := if a.wrE = 0 then a.lines else []
/-- numbers as their types have them -/
structure An.Fit (a : An) : Prop where
  n0 : 0 ≤ a.num
  n1 : a.num < 18446744073709551616
  it : ∀ x ∈ a.items, 0 ≤ x.flags ∧ x.flags < 4294967296 ∧ 0 ≤ x.unique ∧ x.unique < 18446744073709551616

def imz : Im := ⟨⟨#[]⟩, ⟨#[]⟩, 0, 0, 0⟩
def az : An := ⟨0, 0, 0, [], 0, false, ⟨#[]⟩⟩
/-- the first line, how many bytes it has with its end, the error -/
def cutL (b : List UInt8) : List UInt8 × Nat × Int := match eol (b.take 514) with
  | none => ([], 0, if b.length < 514 then 0 else 8)
  | some e => (b.take e, e + 2, 0)
/-- an item as far as its line's words behind the first tell, and how many bytes its value has -/
def itemW : List ByteArray → Option (Im × Nat)
  | [k, f, t, u, v] => if wordOk k 32 = true ∧ numU 4294967295 f = true ∧ numU 1099511627776 t = true ∧ numU 18446744073709551615 u = true ∧ numU 512 v = true then some (⟨k, ⟨#[]⟩, (numV (bl f) : Int), (numV (bl t) : Int), (numV (bl u) : Int)⟩, numV (bl v)) else none
  | _ => none
def cutI (line behind : List UInt8) : Im × Nat × Int := match itemW (lw line).tail with
  | none => (imz, 0, 8)
  | some (x, n) => if behind.length < n + 2 then (imz, 0, 0) else if (behind.drop n).take 2 = [13, 10] then ({ x with value := mkB (behind.take n) }, n + 2, 0) else (imz, 0, 8)
def isVal (line : List UInt8) : Bool := decide (line.take 6 = bl sVALUE ++ [32])
/-- what a command that was done tells in its line -/
def doneOf (of_ : Int) (s : ByteArray) : Option (Int × Int) :=
  if mostN of_ = 0 then (if s = doneW of_ then some (1, 0) else none)
  else if (bl s).take ((bl (doneW of_)).length + 1) = bl (doneW of_) ++ [32] ∧ numU (mostN of_).toNat (mkB ((bl s).drop ((bl (doneW of_)).length + 1))) = true then some (1, (numV ((bl s).drop ((bl (doneW of_)).length + 1)) : Int)) else none
def resOf (of_ : Int) (s : ByteArray) : Option (Int × Int) :=
  if isCmd of_ = false then none else if s = sNOTFOUND then some (2, 0) else if s = sEXISTS then some (3, 0) else if s = sTOOLARGE then some (4, 0) else if s = sNOMEMORY then some (5, 0) else if s = sNOTNUMBER then some (6, 0) else if s = sDENIED then some (7, 0) else doneOf of_ s
/-- what a line tells by itself -/
def ansOf (of_ : Int) (s : ByteArray) : Option An :=
  if s = sWELCOME then some { az with kind := 2, yes := true } else if s = sUNKNOWN then some { az with kind := 2 } else if s = sTRACKED then some { az with kind := 3, yes := true } else if s = sUNTRACKED then some { az with kind := 3 }
  else if s = sPONG then some { az with kind := 4 } else if s = sBYE then some { az with kind := 5 } else if s = sERROR then some { az with kind := 6 }
  else if (bl s).take 5 = bl sPUSH ++ [32] then (if wordOk (mkB ((bl s).drop 5)) 32 = true then some { az with kind := 7, key := mkB ((bl s).drop 5) } else none)
  else match resOf of_ s with | none => none | some (rk, n) => some ⟨1, of_, rk, [], n, false, ⟨#[]⟩⟩
def lastOf (line : List UInt8) (of_ : Int) (L : List Im) : Option An := match ansOf of_ (mkB line) with
  | none => none
  | some a => if L ≠ [] ∧ mkB line ≠ sEND then none else some { a with items := L }
def readN : Nat → List Im → List UInt8 → Nat → Int → An × Nat × Int
  | 0, _, _, _, _ => (az, 0, 0)
  | f + 1, L, b, rd, of_ => if (cutL b).2.1 = 0 then (az, 0, (cutL b).2.2)
    else if (L.length : Int) = mostI of_ ∨ isVal (cutL b).1 = false then (match lastOf (cutL b).1 of_ L with | none => (az, 0, 8) | some a => (a, rd + (cutL b).2.1, 0))
    else if (cutI (cutL b).1 (b.drop (cutL b).2.1)).2.1 = 0 then (az, 0, (cutI (cutL b).1 (b.drop (cutL b).2.1)).2.2)
    else readN f (L ++ [(cutI (cutL b).1 (b.drop (cutL b).2.1)).1]) (b.drop ((cutL b).2.1 + (cutI (cutL b).1 (b.drop (cutL b).2.1)).2.1)) (rd + (cutL b).2.1 + (cutI (cutL b).1 (b.drop (cutL b).2.1)).2.1) of_
/-- the answer that bytes begin with, how many of them it has, the error -/
def readW (b : List UInt8) (of_ : Int) : An × Nat × Int := readN (b.length + 1) [] b 0 of_

/-- words that a line may have -/
structure Wl (ws : List ByteArray) : Prop where
  ne : ws ≠ []
  many : ws.length ≤ 13
  each : ∀ x ∈ ws, x.size ≤ 32 ∧ ∀ c ∈ bl x, c ≠ 32 ∧ c ≠ 13
theorem Wl.fine {ws : List ByteArray} (h : Wl ws) : (joinW ws).length ≤ 512 ∧ (∀ c ∈ joinW ws, c ≠ 13) ∧ lw (joinW ws) = ws := by
  obtain ⟨h1, h2, h3⟩ := h
  refine ⟨?_, ?_, lw_joinW _ h1 (fun x hx c hc => ((h3 x hx).2 c hc).1)⟩
  · cases hL : ws with
    | nil => exact absurd hL h1
    | cons a L =>
      rw [hL] at h2 h3
      rw [joinW_cons, List.length_append, bl_len]
      have h4 := (h3 a (by simp)).1
      have h5 := joinW_len 32 L (fun x hx => (h3 x (by simp [hx])).1)
      have h6 : L.length * 33 ≤ 12 * 33 := Nat.mul_le_mul_right _ (by simp at h2; omega)
      omega
  · cases hL : ws with
    | nil => exact absurd hL h1
    | cons a L =>
      rw [hL] at h3
      rw [joinW_cons]
      intro c hc
      rcases List.mem_append.1 hc with hc | hc
      · exact ((h3 a (by simp)).2 c hc).2
      · obtain ⟨x, hx, hc⟩ := List.mem_flatMap.1 hc
        rcases List.mem_cons.1 hc with rfl | hc
        · decide
        · exact ((h3 x (by simp [hx])).2 c hc).2
theorem cutL_app {ws : List ByteArray} (h : Wl ws) (l : List UInt8) : cutL (joinW ws ++ 13 :: 10 :: l) = (joinW ws, (joinW ws).length + 2, 0) := by
  obtain ⟨h1, h2, _⟩ := h.fine
  have htk : (joinW ws ++ 13 :: 10 :: l).take 514 = joinW ws ++ 13 :: 10 :: (l.take (512 - (joinW ws).length)) := by
    rw [List.take_append, List.take_of_length_le (by omega), show 514 - (joinW ws).length = (512 - (joinW ws).length) + 2 by omega]
    rfl
  unfold cutL
  rw [htk, eol_app _ _ h2]
  dsimp only
  rw [List.take_left]
theorem drop_line (L l : List UInt8) : (L ++ 13 :: 10 :: l).drop (L.length + 2) = l := by
  rw [List.drop_append, List.drop_of_length_le (by omega), List.nil_append, show L.length + 2 - L.length = 2 by omega]
  rfl
theorem numU_dec {m n : Nat} (h : n ≤ m) (hn : n < 18446744073709551616) : numU m (dec (n : Int)) = true ∧ numV (bl (dec (n : Int))) = n := by
  have e : bl (dec (n : Int)) = decL n := by unfold dec; rw [bl_mk]; simp
  unfold numU
  rw [e, isNum_decL hn, numV_decL hn]
  exact ⟨by simpa using h, rfl⟩
/-- an item that may be, and has a line -/
structure Im.ok (x : Im) : Prop where
  key : wordOk x.key 32 = true
  val : x.value.size ≤ 512
  till : 0 ≤ x.till ∧ x.till ≤ 1099511627776
  flags : 0 ≤ x.flags ∧ x.flags < 4294967296
  uniq : 0 ≤ x.unique ∧ x.unique < 18446744073709551616
theorem Im.ok_of {x : Im} (h : badI x = false) (hs : seen x.key = true) (hf : 0 ≤ x.flags ∧ x.flags < 4294967296 ∧ 0 ≤ x.unique ∧ x.unique < 18446744073709551616) : x.ok := by
  unfold badI ckE at h
  simp only [Bool.not_eq_false', beq_iff_eq] at h
  have e : x.it.key = x.key ∧ x.it.value = x.value ∧ x.it.till = x.till := ⟨rfl, rfl, rfl⟩
  rw [e.1, e.2.1, e.2.2] at h
  split at h
  · cases h
  · rename_i h1
    split at h
    · rename_i h2
      unfold mom at h2
      simp only [Bool.and_eq_true, decide_eq_true_eq] at h2
      refine ⟨?_, by omega, h2, ⟨hf.1, hf.2.1⟩, hf.2.2⟩
      unfold wordOk
      rw [hs]
      simp
      omega
    · cases h
theorem Im.ok.wl {x : Im} (h : x.ok) : Wl x.words := by
  have hk := h.key
  unfold wordOk at hk
  simp only [Bool.and_eq_true, decide_eq_true_eq] at hk
  refine ⟨by simp [Im.words], by simp [Im.words], fun y hy => ?_⟩
  simp only [Im.words, List.mem_cons, List.not_mem_nil, or_false] at hy
  have h1 := h.val
  have h2 := h.till
  have h3 := h.flags
  have h4 := h.uniq
  rcases hy with rfl | rfl | rfl | rfl | rfl | rfl
  · exact ⟨by decide, by decide⟩
  · exact ⟨hk.1.2, word_bytes hk.2⟩
  · exact ⟨Nat.le_trans (dec_size' (by omega) (by omega)) (by decide), dec_bytes⟩
  · exact ⟨Nat.le_trans (dec_size' (by omega) (by omega)) (by decide), dec_bytes⟩
  · exact ⟨Nat.le_trans (dec_size' (by omega) (by omega)) (by decide), dec_bytes⟩
  · exact ⟨Nat.le_trans (dec_size' (by omega) (by omega)) (by decide), dec_bytes⟩
theorem numU_decI {m : Nat} {n : Int} (h0 : 0 ≤ n) (h : n ≤ (m : Int)) (hn : n < 18446744073709551616) : numU m (dec n) = true ∧ (numV (bl (dec n)) : Int) = n := by
  obtain ⟨k, rfl⟩ : ∃ k : Nat, n = (k : Int) := ⟨n.toNat, by omega⟩
  obtain ⟨h1, h2⟩ := numU_dec (m := m) (n := k) (by omega) (by omega)
  exact ⟨h1, by rw [h2]⟩
theorem itemW_ok {x : Im} (h : x.ok) : itemW x.words.tail = some ({ x with value := ⟨#[]⟩ }, x.value.size) := by
  have h1 := h.val
  have h2 := h.till
  have h3 := h.flags
  have h4 := h.uniq
  obtain ⟨f1, f2⟩ := numU_decI (m := 4294967295) h3.1 (by omega) (by omega)
  obtain ⟨t1, t2⟩ := numU_decI (m := 1099511627776) h2.1 (by omega) (by omega)
  obtain ⟨u1, u2⟩ := numU_decI (m := 18446744073709551615) h4.1 (by omega) (by omega)
  obtain ⟨v1, v2⟩ := numU_dec (m := 512) (n := x.value.size) (by omega) (by omega)
  show itemW [x.key, dec x.flags, dec x.till, dec x.unique, dec (x.value.size : Int)] = _
  unfold itemW
  dsimp only
  rw [if_pos ⟨h.key, f1, t1, u1, v1⟩, f2, t2, u2, v2]
theorem cutI_app {x : Im} (h : x.ok) (l : List UInt8) : cutI (joinW x.words) (bl x.value ++ 13 :: 10 :: l) = (x, x.value.size + 2, 0) := by
  have hl : (bl x.value).length = x.value.size := bl_len _
  unfold cutI
  rw [h.wl.fine.2.2, itemW_ok h]
  dsimp only
  have d1 : (bl x.value ++ 13 :: 10 :: l).drop x.value.size = 13 :: 10 :: l := by rw [← hl, List.drop_left]
  have d2 : (bl x.value ++ 13 :: 10 :: l).take x.value.size = bl x.value := by rw [← hl, List.take_left]
  rw [if_neg (by simp; omega), d1, d2, if_pos (show List.take 2 (13 :: 10 :: l) = [13, 10] from rfl), mkB_bl]
theorem isVal_item {x : Im} : isVal (joinW x.words) = true := by
  unfold isVal Im.words
  rw [joinW_cons, List.flatMap_cons]
  simp [sVALUE, bl]
end Go.Proofs.YtihcnjbnlcgcoaaDoor
