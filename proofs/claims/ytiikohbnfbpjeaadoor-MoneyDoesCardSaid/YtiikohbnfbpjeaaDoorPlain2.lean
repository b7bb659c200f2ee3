/- Plain facts for layer 2: digits and what they tell. No program in sight. -/
import Derived.Test.YtiikohbnfbpjeaaDoorPlain
import Derived.Lib.Strings
namespace Go.Proofs.YtiikohbnfbpjeaaDoor
open Go.RowKit

/-- The byte at a place; 0 behind the end. -/
def byt (s : ByteArray) (i : Nat) : Int := if h : i < s.size then (s[i].toNat : Int) else 0
theorem byt_range (s : ByteArray) (i : Nat) : 0 ≤ byt s i ∧ byt s i < 256 := by
  unfold byt; split
  · have := UInt8.toNat_lt s[i]; omega
  · omega
theorem byt_eq (s : ByteArray) (i : Nat) (h : i < s.size) : (s[i].toNat : Int) = byt s i := by simp [byt, h]
/-- Are the first k bytes digits? -/
def allD (s : ByteArray) : Nat → Bool
  | 0 => true
  | k + 1 => allD s k && decide (48 ≤ byt s k ∧ byt s k ≤ 57)
/-- Are they 0, or digits the first of which is not 0? -/
def areD (s : ByteArray) : Bool := decide (0 < s.size) && !(decide (byt s 0 = 48) && decide (s.size ≠ 1)) && allD s s.size
/-- What the first k digits tell. -/
def valD (s : ByteArray) : Nat → Int
  | 0 => 0
  | k + 1 => valD s k * 10 + (byt s k - 48)
theorem allD_mono (s : ByteArray) : ∀ k j, j ≤ k → allD s k = true → allD s j = true := by
  intro k
  induction k with
  | zero => intro j hj h; rw [Nat.le_zero.1 hj]; exact h
  | succ k ih =>
    intro j hj h
    by_cases e : j = k + 1
    · rw [e]; exact h
    · simp only [allD, Bool.and_eq_true] at h
      exact ih j (by omega) h.1
theorem allD_byte (s : ByteArray) (k j : Nat) (hj : j < k) (h : allD s k = true) : 48 ≤ byt s j ∧ byt s j ≤ 57 := by
  have := allD_mono s k (j + 1) hj h
  simp only [allD, Bool.and_eq_true, decide_eq_true_eq] at this
  exact this.2
theorem valD_nonneg (s : ByteArray) : ∀ k, allD s k = true → 0 ≤ valD s k := by
  intro k
  induction k with
  | zero => intro _; exact Int.le_refl _
  | succ k ih =>
    intro h
    simp only [allD, Bool.and_eq_true, decide_eq_true_eq] at h
    have := ih h.1
    simp only [valD]; omega
theorem valD_mono (s : ByteArray) : ∀ k j, j ≤ k → allD s k = true → valD s j ≤ valD s k := by
  intro k
  induction k with
  | zero => intro j hj _; rw [Nat.le_zero.1 hj]; exact Int.le_refl _
  | succ k ih =>
    intro j hj h
    by_cases e : j = k + 1
    · rw [e]; exact Int.le_refl _
    · have h' := h
      simp only [allD, Bool.and_eq_true, decide_eq_true_eq] at h'
      have h1 := ih j (by omega) h'.1
      have h2 := valD_nonneg s k h'.1
      simp only [valD]; omega
theorem areD_parts {s : ByteArray} (h : areD s = true) : 0 < s.size ∧ (byt s 0 = 48 → s.size = 1) ∧ allD s s.size = true := by
  simp only [areD, Bool.and_eq_true, decide_eq_true_eq, Bool.not_eq_true', Bool.and_eq_false_iff, decide_eq_false_iff_not] at h
  refine ⟨h.1.1, fun hb => ?_, h.2⟩
  rcases h.1.2 with g | g
  · exact absurd hb g
  · exact Classical.not_not.1 g
theorem list_one (s : ByteArray) (h0 : 0 < s.size) (hb : byt s 0 = 48) : (s.toList == [48]) = decide (s.size = 1) := by
  rw [Lib.toList_data, Bool.eq_iff_iff, beq_iff_eq, decide_eq_true_eq, Lib.size_eq]
  constructor
  · intro h; rw [h]; rfl
  · intro h
    have h1 : 0 < s.data.toList.length := by omega
    obtain ⟨x, hx⟩ := List.length_eq_one_iff.1 h
    have e0 : s[0]'h0 = x := by
      have : s.data.toList[0]'h1 = x := by simp [hx]
      rw [← this]; rfl
    rw [hx]
    have := byt_eq s 0 h0
    rw [hb, e0] at this
    have hx : x = 48 := UInt8.toNat_inj.1 (by have h48 : (48 : UInt8).toNat = 48 := rfl; omega)
    rw [hx]
theorem list_empty (s : ByteArray) : s.toList.isEmpty = decide (s.size = 0) := by
  rw [Lib.toList_data, Bool.eq_iff_iff, decide_eq_true_eq, Lib.size_eq, List.isEmpty_iff, List.length_eq_zero_iff]
/-- The text without a leading '-', and whether it has one. -/
def isNeg (s : ByteArray) : Bool := decide (0 < s.size) && decide (byt s 0 = 45)
def bare (s : ByteArray) : ByteArray := if isNeg s then s.extract 1 s.size else s
def sgn (s : ByteArray) : Int := if isNeg s then 0 else 1
/-- What Read tells: a number, and an error. -/
def rdZ (s : ByteArray) : Int := sv (sgn s) (valD (bare s) (bare s).size)
def rdV (s : ByteArray) : Int := if areD (bare s) then val (rdZ s) else 0
def rdE (s : ByteArray) : Int := if areD (bare s) then err (rdZ s) else 21
end Go.Proofs.YtiikohbnfbpjeaaDoor
