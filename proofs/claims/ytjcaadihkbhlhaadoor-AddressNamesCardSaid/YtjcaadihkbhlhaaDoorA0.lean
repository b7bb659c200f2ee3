/- Plain facts for layer 15: sets of bytes as four words of bits. No program in sight. -/
import Derived.WalkKit
import Derived.Lib.Strings
import Derived.Laws.Bits64b
namespace Go.Proofs.YtjcaadihkbhlhaaDoor
open Go.RowKit
/-- A set's word. -/
def wd (L : List UInt8) (k : Nat) : Nat := L.foldl (fun a c => if c.toNat / 64 = k then a ||| 2 ^ (c.toNat % 64) else a) 0
theorem wd_nil (k : Nat) : wd [] k = 0 := rfl
theorem wd_snoc (L : List UInt8) (c : UInt8) (k : Nat) : wd (L ++ [c]) k = if c.toNat / 64 = k then wd L k ||| 2 ^ (c.toNat % 64) else wd L k := by unfold wd; rw [List.foldl_append]; rfl
theorem snoc_ind {P : List UInt8 → Prop} (h0 : P []) (h1 : ∀ l c, P l → P (l ++ [c])) : ∀ l, P l := by
  intro l
  have : ∀ n (l : List UInt8), l.length = n → P l := by
    intro n
    induction n with
    | zero => intro l hl; rw [List.length_eq_zero_iff.1 hl]; exact h0
    | succ n ih =>
      intro l hl
      rw [(List.dropLast_concat_getLast (by intro h; rw [h] at hl; simp at hl) : l.dropLast ++ [l.getLast _] = l).symm]
      exact h1 _ _ (ih _ (by simp [hl]))
  exact this _ l rfl
theorem wd_lt (L : List UInt8) (k : Nat) : wd L k < 2 ^ 64 := by
  induction L using snoc_ind with
  | h0 => rw [wd_nil]; decide
  | h1 l c ih =>
    rw [wd_snoc]
    split
    · exact Nat.or_lt_two_pow ih (Nat.pow_lt_pow_right (by decide) (Nat.mod_lt _ (by decide)))
    · exact ih
theorem wd_bit (L : List UInt8) (b : UInt8) : (wd L (b.toNat / 64)).testBit (b.toNat % 64) = L.contains b := by
  induction L using snoc_ind with
  | h0 => rw [wd_nil]; simp
  | h1 l c ih =>
    rw [wd_snoc]
    have hc : (l ++ [c]).contains b = (l.contains b || b == c) := by
      simp only [List.contains_eq_mem, List.mem_append, List.mem_singleton, Bool.decide_or]
      congr 1
    rw [hc]
    by_cases h : c.toNat / 64 = b.toNat / 64
    · rw [if_pos h, Nat.testBit_or, ih, Nat.testBit_two_pow]
      congr 1
      rw [Bool.eq_iff_iff, decide_eq_true_eq, beq_iff_eq]
      constructor
      · intro e; exact UInt8.toNat_inj.1 (by omega)
      · intro e; rw [e]
    · rw [if_neg h, ih]
      have : (b == c) = false := beq_eq_false_iff_ne.2 (fun e => h (by rw [e]))
      rw [this, Bool.or_false]
/-- The bit as the code asks for it. -/
theorem wd_ask (L : List UInt8) (b : UInt8) : wd L (b.toNat / 64) / 2 ^ (b.toNat % 64) % 2 = if L.contains b then 1 else 0 := by
  have h := wd_bit L b
  rw [Nat.testBit_eq_decide_div_mod_eq] at h
  cases hc : L.contains b
  · rw [hc] at h
    have := of_decide_eq_false h
    simp; omega
  · rw [hc] at h
    have := of_decide_eq_true h
    simp; omega
end Go.Proofs.YtjcaadihkbhlhaaDoor
