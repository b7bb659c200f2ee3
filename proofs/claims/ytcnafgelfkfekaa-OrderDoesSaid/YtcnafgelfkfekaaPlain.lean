/- Plain facts for layer 5: the order of bytes is one. No program in sight. -/
import Derived.WalkKit
import Derived.Lib.Bytealg
namespace Go.Proofs.Ytcnafgelfkfekaa
open Go.RowKit

theorem cb_range : ∀ a b : List UInt8, -1 ≤ Lib.compareBytes a b ∧ Lib.compareBytes a b ≤ 1
  | [], [] => by simp [Lib.compareBytes]
  | [], _ :: _ => by simp [Lib.compareBytes]
  | _ :: _, [] => by simp [Lib.compareBytes]
  | x :: a, y :: b => by
    simp only [Lib.compareBytes]
    have := cb_range a b
    (repeat' split) <;> omega
theorem u8_tri (x y : UInt8) : (x < y ∧ ¬ y < x ∧ x ≠ y) ∨ (¬ x < y ∧ y < x ∧ x ≠ y) ∨ (¬ x < y ∧ ¬ y < x ∧ x = y) := by
  simp only [UInt8.lt_iff_toNat_lt, ne_eq, ← UInt8.toNat_inj]; omega
theorem cb_swap : ∀ a b : List UInt8, Lib.compareBytes b a = - Lib.compareBytes a b
  | [], [] => by simp [Lib.compareBytes]
  | [], _ :: _ => by simp [Lib.compareBytes]
  | _ :: _, [] => by simp [Lib.compareBytes]
  | x :: a, y :: b => by
    simp only [Lib.compareBytes]
    have := cb_swap a b
    rcases u8_tri x y with ⟨h1, h2, _⟩ | ⟨h1, h2, _⟩ | ⟨h1, h2, _⟩ <;> simp [h1, h2, this]
theorem cb_zero : ∀ a b : List UInt8, Lib.compareBytes a b = 0 ↔ a = b
  | [], [] => by simp [Lib.compareBytes]
  | [], _ :: _ => by simp [Lib.compareBytes]
  | _ :: _, [] => by simp [Lib.compareBytes]
  | x :: a, y :: b => by
    simp only [Lib.compareBytes]
    have := cb_zero a b
    rcases u8_tri x y with ⟨h1, h2, h3⟩ | ⟨h1, h2, h3⟩ | ⟨h1, h2, h3⟩ <;> simp [h1, h2, h3, this]
theorem cb_trans : ∀ a b c : List UInt8, Lib.compareBytes a b ≤ 0 → Lib.compareBytes b c ≤ 0 → Lib.compareBytes a c = min (Lib.compareBytes a b) (Lib.compareBytes b c) := by
  intro a
  induction a with
  | nil =>
    intro b c h1 h2
    cases b with
    | nil =>
      cases c with
      | nil => rfl
      | cons z c => rfl
    | cons y b =>
      cases c with
      | nil => simp [Lib.compareBytes] at h2
      | cons z c =>
        have r := cb_range (y :: b) (z :: c)
        have e1 : Lib.compareBytes [] (y :: b) = -1 := rfl
        have e2 : Lib.compareBytes [] (z :: c) = -1 := rfl
        rw [e1, e2]; omega
  | cons x a ih =>
    intro b c h1 h2
    cases b with
    | nil => simp [Lib.compareBytes] at h1
    | cons y b =>
      cases c with
      | nil => simp [Lib.compareBytes] at h2
      | cons z c =>
        simp only [Lib.compareBytes] at h1 h2 ⊢
        have r1 := cb_range a b
        have r2 := cb_range b c
        have := ih b c
        rcases u8_tri x y with ⟨p1, p2, p3⟩ | ⟨p1, p2, p3⟩ | ⟨p1, p2, p3⟩
        · rcases u8_tri y z with ⟨q1, q2, q3⟩ | ⟨q1, q2, q3⟩ | ⟨q1, q2, q3⟩
          · have hxz : x < z := by simp only [UInt8.lt_iff_toNat_lt] at *; omega
            simp [p1, q1, hxz]
          · simp [q1, q2] at h2
          · subst q3
            simp [p1, q1] at h2 ⊢
            omega
        · simp [p1, p2] at h1
        · subst p3
          rcases u8_tri x z with ⟨q1, q2, q3⟩ | ⟨q1, q2, q3⟩ | ⟨q1, q2, q3⟩
          · simp [p1, q1] at h1 ⊢
            omega
          · simp [q1, q2] at h2
          · subst q3
            simp [p1] at h1 h2 ⊢
            exact this h1 h2
theorem cb_prefix : ∀ p a b : List UInt8, Lib.compareBytes (p ++ a) (p ++ b) = Lib.compareBytes a b
  | [], _, _ => rfl
  | x :: p, a, b => by
    have h : ¬ x < x := by simp
    simp only [List.cons_append, Lib.compareBytes, h, if_false]
    exact cb_prefix p a b

/-- The order of two strings. -/
def cmpB (a b : ByteArray) : Int := Lib.compareBytes a.data.toList b.data.toList
theorem cmp_range (a b : ByteArray) : -1 ≤ cmpB a b ∧ cmpB a b ≤ 1 := cb_range _ _
theorem cmp_swap (a b : ByteArray) : cmpB b a = - cmpB a b := cb_swap _ _
theorem cmp_zero (a b : ByteArray) : cmpB a b = 0 ↔ a = b := by
  unfold cmpB
  rw [cb_zero]
  constructor
  · intro h; exact ByteArray.ext (Array.toList_inj.1 h)
  · intro h; rw [h]
theorem cmp_trans (a b c : ByteArray) (h1 : cmpB a b ≤ 0) (h2 : cmpB b c ≤ 0) : cmpB a c = min (cmpB a b) (cmpB b c) := cb_trans _ _ _ h1 h2
theorem cmp_prefix (p a b : ByteArray) : cmpB (p ++ a) (p ++ b) = cmpB a b := by
  unfold cmpB
  simp only [ByteArray.data_append, Array.toList_append]
  exact cb_prefix _ _ _

def nth (L : List ByteArray) (k : Nat) : ByteArray := L.getD k ⟨#[]⟩
/-- Do the first k + 1 strings rise? -/
def rises (L : List ByteArray) : Nat → Bool
  | 0 => true
  | k + 1 => rises L k && decide (cmpB (nth L k) (nth L (k + 1)) < 0)
def chE (L : List ByteArray) : Int := if 4096 < L.length then 8 else if rises L (L.length - 1) then 0 else 8
theorem rises_le {L : List ByteArray} {j k : Nat} (hjk : j ≤ k) (h : rises L k = true) : rises L j = true := by
  induction k with
  | zero => obtain rfl : j = 0 := by omega
            exact h
  | succ k ih =>
    by_cases e : j = k + 1
    · subst e; exact h
    · simp only [rises, Bool.and_eq_true] at h
      exact ih (by omega) h.1
theorem rises_lt {L : List ByteArray} {j : Nat} : ∀ k, j < k → rises L k = true → cmpB (nth L j) (nth L k) < 0 := by
  intro k
  induction k with
  | zero => intro h; omega
  | succ k ih =>
    intro h hr
    simp only [rises, Bool.and_eq_true, decide_eq_true_eq] at hr
    by_cases e : j = k
    · subst e; exact hr.2
    · have := ih (by omega) hr.1
      rw [cmp_trans (nth L j) (nth L k) (nth L (k + 1)) (by omega) (by omega)]
      omega
/-- Where a string is, or would be. -/
def At (L : List ByteArray) (s : ByteArray) (at_ : Nat) (is : Bool) : Prop :=
  at_ ≤ L.length ∧ (∀ j, j < at_ → cmpB (nth L j) s < 0) ∧ (is = true → at_ < L.length ∧ nth L at_ = s) ∧ (is = false → ∀ j, at_ ≤ j → j < L.length → 0 < cmpB (nth L j) s)
theorem low_step {L : List ByteArray} {s : ByteArray} {m : Nat} (hr : rises L (L.length - 1) = true) (hm : m < L.length) (h : cmpB (nth L m) s ≤ 0) : ∀ j, j < m → cmpB (nth L j) s < 0 := by
  intro j hj
  have := rises_lt m hj (rises_le (by omega) hr)
  rw [cmp_trans (nth L j) (nth L m) s (by omega) h]; omega
theorem high_step {L : List ByteArray} {s : ByteArray} {m : Nat} (hr : rises L (L.length - 1) = true) (h : 0 < cmpB (nth L m) s) : ∀ j, m ≤ j → j < L.length → 0 < cmpB (nth L j) s := by
  intro j hj hl
  by_cases e : j = m
  · subst e; exact h
  · have h1 := rises_lt j (show m < j by omega) (rises_le (by omega) hr)
    have s1 := cmp_swap (nth L m) s
    have s2 := cmp_swap (nth L j) s
    have s3 := cmp_trans s (nth L m) (nth L j) (by omega) (by omega)
    omega
end Go.Proofs.Ytcnafgelfkfekaa
