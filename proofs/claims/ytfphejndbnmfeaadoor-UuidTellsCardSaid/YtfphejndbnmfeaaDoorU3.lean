import Derived.Test.YtfphejndbnmfeaaDoorU2
namespace Go.Proofs.YtfphejndbnmfeaaDoor
open Go.RowKit

theorem get_byt (s : ByteArray) (i : Nat) : ((s.get! i).toNat : Int) = byt s i := by
  unfold byt
  by_cases h : i < s.size
  · rw [dif_pos h]
    have e : s.get! i = s[i] := by
      simp [ByteArray.get!, getElem!_pos, h]
      rfl
    rw [e]
  · rw [dif_neg h]
    have e : s.get! i = default := by
      simp only [ByteArray.get!]
      exact getElem!_neg s.data i (by simpa using h)
    rw [e]; rfl
def decB (n i b0 b1 b2 b3 : Nat) : Nat × Nat :=
  if b0 < 0x80 then (b0, 1)
  else if (b0 / 32 == 6 && (decide (i + 1 < n) && b1 / 64 == 2)) = true then
    if b0 % 32 * 64 + b1 % 64 ≥ 0x80 then (b0 % 32 * 64 + b1 % 64, 2) else (Utf8.runeError, 1)
  else if (b0 / 16 == 14 && (decide (i + 1 < n) && b1 / 64 == 2) && (decide (i + 2 < n) && b2 / 64 == 2)) = true then
    if (decide (b0 % 16 * 4096 + b1 % 64 * 64 + b2 % 64 ≥ 0x800) && Utf8.valid (b0 % 16 * 4096 + b1 % 64 * 64 + b2 % 64 : Nat)) = true then (b0 % 16 * 4096 + b1 % 64 * 64 + b2 % 64, 3) else (Utf8.runeError, 1)
  else if (b0 / 8 == 30 && (decide (i + 1 < n) && b1 / 64 == 2) && (decide (i + 2 < n) && b2 / 64 == 2) && (decide (i + 3 < n) && b3 / 64 == 2)) = true then
    if (decide (b0 % 8 * 262144 + b1 % 64 * 4096 + b2 % 64 * 64 + b3 % 64 ≥ 0x10000) && Utf8.valid (b0 % 8 * 262144 + b1 % 64 * 4096 + b2 % 64 * 64 + b3 % 64 : Nat)) = true then (b0 % 8 * 262144 + b1 % 64 * 4096 + b2 % 64 * 64 + b3 % 64, 4) else (Utf8.runeError, 1)
  else (Utf8.runeError, 1)
theorem decode_decB (s : ByteArray) (i : Nat) : Utf8.decode s i = decB s.size i (s.get! i).toNat (s.get! (i + 1)).toNat (s.get! (i + 2)).toNat (s.get! (i + 3)).toNat := rfl
theorem decB_big (n i b0 b1 b2 b3 : Nat) (h : 128 ≤ b0) : 128 ≤ (decB n i b0 b1 b2 b3).1 ∧ (decB n i b0 b1 b2 b3).1 ≤ 1114111 + 983041 := by
  have hr : Utf8.runeError = 65533 := rfl
  unfold decB
  rw [if_neg (by omega)]
  split
  · split
    · simp only; omega
    · rw [hr]; simp only; omega
  · split
    · split
      · rename_i hh; simp only [Bool.and_eq_true, decide_eq_true_eq] at hh; simp only; omega
      · rw [hr]; simp only; omega
    · split
      · split
        · rename_i hh; simp only [Bool.and_eq_true, decide_eq_true_eq] at hh; simp only; omega
        · rw [hr]; simp only; omega
      · rw [hr]; simp only; omega
/-- What a range over a text hands out, as far as it counts here. -/
theorem next_rune (s : ByteArray) (k : Nat) : ∃ r n : Nat, Utf8.decode s k = (r, n) ∧ (r : Int) ≤ 2097152 ∧ ((r : Int) = byt s k ∧ n = 1 ∨ 128 ≤ byt s k ∧ 128 ≤ r) := by
  by_cases h : byt s k < 128
  · have hb := get_byt s k
    refine ⟨(s.get! k).toNat, 1, ?_, by omega, .inl ⟨hb, rfl⟩⟩
    rw [decode_decB]; unfold decB; rw [if_pos (by omega)]
  · have hb := get_byt s k
    have := decB_big s.size k (s.get! k).toNat (s.get! (k + 1)).toNat (s.get! (k + 2)).toNat (s.get! (k + 3)).toNat (by omega)
    refine ⟨(Utf8.decode s k).1, (Utf8.decode s k).2, rfl, ?_, .inr ⟨by omega, ?_⟩⟩
    · rw [decode_decB]; omega
    · rw [decode_decB]; exact this.1
theorem hx_big {c : Int} (h : 128 ≤ c) : hx c = -1 := by unfold hx; (repeat' split) <;> omega

theorem z16_at (i : Nat) : z16.getD i 0 = 0 := by
  by_cases h : i < 16
  · rcases (show i = 0 ∨ i = 1 ∨ i = 2 ∨ i = 3 ∨ i = 4 ∨ i = 5 ∨ i = 6 ∨ i = 7 ∨ i = 8 ∨ i = 9 ∨ i = 10 ∨ i = 11 ∨ i = 12 ∨ i = 13 ∨ i = 14 ∨ i = 15 by omega) with rfl | rfl | rfl | rfl | rfl | rfl | rfl | rfl | rfl | rfl | rfl | rfl | rfl | rfl | rfl | rfl <;> rfl
  · simp [List.getD, List.getElem?_eq_none (show z16.length ≤ i by simp [z16]; omega)]
theorem z16_set (i : Nat) : z16.set i 0 = z16 := by
  refine list16 (by rw [List.length_set]; rfl) rfl (fun j hj => ?_)
  rw [z16_at j]
  have := z16_at j
  simp only [List.getD, List.getElem?_set] at this ⊢
  split
  · split <;> simp
  · exact this
/-- What is stored, one by one. -/
def pre (g : Nat → Int) : Nat → List Int
  | 0 => z16
  | j + 1 => (pre g j).set j (g j)
theorem pre_length (g : Nat → Int) : ∀ j, (pre g j).length = 16
  | 0 => rfl
  | j + 1 => by simp only [pre, List.length_set]; exact pre_length g j
theorem pre_at (g : Nat → Int) : ∀ j i, i < j → j ≤ 16 → (pre g j).getD i 0 = g i := by
  intro j
  induction j with
  | zero => intro i h _; omega
  | succ j ih =>
    intro i hi hj
    have hl := pre_length g j
    simp only [pre, List.getD, List.getElem?_set]
    by_cases e : j = i
    · subst e; rw [if_pos rfl, if_pos (by omega)]; rfl
    · rw [if_neg e]
      have := ih i (by omega) (by omega)
      simpa [List.getD] using this
theorem pre_all {L : List Int} (h : L.length = 16) : pre (fun i => L.getD i 0) 16 = L :=
  list16 (pre_length _ _) h (fun i hi => pre_at _ 16 i hi (Nat.le_refl _))
end Go.Proofs.YtfphejndbnmfeaaDoor
