import Derived.Lib.ItoaNum
import Derived.Lib.Repeat
import Derived.Lib.TrimByte
namespace Go.Proofs.YtfphejndbnmfeaaDoor

/-- A number by so many digits. -/
def dgs : Nat → Nat → List UInt8
  | 0, _ => []
  | k + 1, n => dgs k (n / 10) ++ [UInt8.ofNat (48 + n % 10)]
theorem dgs_length (k n : Nat) : (dgs k n).length = k := by
  induction k generalizing n with
  | zero => rfl
  | succ k ih => simp [dgs, ih]
theorem dgs_zero (k : Nat) : dgs k 0 = List.replicate k 48 := by
  induction k with
  | zero => rfl
  | succ k ih =>
    show dgs k (0 / 10) ++ [UInt8.ofNat (48 + 0 % 10)] = _
    rw [Nat.zero_div, ih, List.replicate_succ']; rfl
theorem itoa_dgs (k n : Nat) (h : n < 10 ^ (k + 1)) : (Lib.decDigits n).length ≤ k + 1 ∧ List.replicate (k + 1 - (Lib.decDigits n).length) 48 ++ Lib.decDigits n = dgs (k + 1) n := by
  induction k generalizing n with
  | zero =>
    have h : n < 10 := by simpa using h
    rw [Lib.decDigits_one h]
    refine ⟨by simp, ?_⟩
    show [] ++ [UInt8.ofNat (48 + n)] = [] ++ [UInt8.ofNat (48 + n % 10)]
    rw [Nat.mod_eq_of_lt h]
  | succ k ih =>
    by_cases h10 : n < 10
    · rw [Lib.decDigits_one h10]
      refine ⟨by simp, ?_⟩
      show List.replicate (k + 1 + 1 - 1) 48 ++ _ = dgs (k + 1) (n / 10) ++ [UInt8.ofNat (48 + n % 10)]
      rw [Nat.div_eq_of_lt h10, Nat.mod_eq_of_lt h10, dgs_zero]; rfl
    · have e : Lib.decDigits n = Lib.decDigits (n / 10) ++ [UInt8.ofNat (48 + n % 10)] := by
        rw [Lib.decDigits, dif_neg h10]
      have h2 : n / 10 < 10 ^ (k + 1) := by
        rw [Nat.pow_succ] at h; omega
      obtain ⟨i1, i2⟩ := ih (n / 10) h2
      rw [e]
      refine ⟨by simp; omega, ?_⟩
      rw [List.length_append, List.length_singleton, ← List.append_assoc]
      rw [show k + 1 + 1 - ((Lib.decDigits (n / 10)).length + 1) = k + 1 - (Lib.decDigits (n / 10)).length by omega, i2]
      rfl
theorem repeat_zero (c : Nat) : Lib.repeatL [48] c = List.replicate c 48 := by
  have := Lib.repeatL_replicate 48 1 c
  simpa using this
/-- The fraction of a DateTime's text: nothing, or a point and its digits without the last noughts. -/
def frac (n : Nat) : List UInt8 := if n = 0 then [] else [46] ++ Lib.trimRightB (dgs 9 n) 48
/-- A DateTime's text. -/
def dtext (y m d t n : Nat) : List UInt8 :=
  dgs 4 y ++ [45] ++ dgs 2 m ++ [45] ++ dgs 2 d ++ [84] ++ dgs 2 (t / 3600) ++ [58] ++ dgs 2 (t / 60 % 60) ++ [58] ++ dgs 2 (t % 60) ++ frac n ++ [90]
theorem drop_all {p : UInt8 → Bool} : ∀ {l : List UInt8}, (∀ b ∈ l, p b = true) → l.dropWhile p = []
  | [], _ => rfl
  | a :: l, h => by
    rw [List.dropWhile_cons_of_pos (h a (List.mem_cons_self ..))]
    exact drop_all fun b hb => h b (List.mem_cons_of_mem _ hb)
theorem trim_nil {l : List UInt8} (h : ∀ b ∈ l, b = 48) : Lib.trimRightB l 48 = [] := by
  unfold Lib.trimRightB
  rw [drop_all (fun x hx => by simp [h x (by simpa using hx)])]; rfl
theorem trim_zero : Lib.trimRightB (dgs 9 0) 48 = [] := by
  rw [dgs_zero]; exact trim_nil (fun b hb => List.eq_of_mem_replicate hb)
/-- Trimmed digits are nothing just where the number is 0. -/
theorem trim_dgs_ne (k n : Nat) (h0 : n ≠ 0) (h : n < 10 ^ k) : Lib.trimRightB (dgs k n) 48 ≠ [] := by
  induction k generalizing n with
  | zero => simp at h; omega
  | succ k ih =>
    unfold Lib.trimRightB
    show (List.dropWhile (· == 48) (dgs k (n / 10) ++ [UInt8.ofNat (48 + n % 10)]).reverse).reverse ≠ []
    rw [List.reverse_append, List.reverse_singleton, List.singleton_append]
    by_cases hm : n % 10 = 0
    · rw [hm, List.dropWhile_cons_of_pos (by decide)]
      have := ih (n / 10) (by omega) (by rw [Nat.pow_succ] at h; omega)
      exact this
    · rw [List.dropWhile_cons_of_neg]
      · simp
      · have : n % 10 < 10 := Nat.mod_lt _ (by decide)
        have : n % 10 = 1 ∨ n % 10 = 2 ∨ n % 10 = 3 ∨ n % 10 = 4 ∨ n % 10 = 5 ∨ n % 10 = 6 ∨ n % 10 = 7 ∨ n % 10 = 8 ∨ n % 10 = 9 := by omega
        rcases this with e | e | e | e | e | e | e | e | e <;> rw [e] <;> decide
end Go.Proofs.YtfphejndbnmfeaaDoor
