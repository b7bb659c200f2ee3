import Derived.Test.YtiikohbnfbpjeaaDoorM0
namespace Go.Proofs.YtiikohbnfbpjeaaDoor
/-- Tens off a number, at most so many. -/
def norm : Int → Nat → Int × Nat
  | v, 0 => (v, 0)
  | v, s + 1 => if v % 10 = 0 then norm (v / 10) s else (v, s + 1)
theorem norm_zero (v : Int) : norm v 0 = (v, 0) := rfl
theorem norm_more (v : Int) (s : Nat) (h : v % 10 = 0) : norm v (s + 1) = norm (v / 10) s := by show (if v % 10 = 0 then _ else _) = _; rw [if_pos h]
theorem norm_stop (v : Int) (s : Nat) (h : v % 10 ≠ 0) : norm v (s + 1) = (v, s + 1) := by show (if v % 10 = 0 then _ else _) = _; rw [if_neg h]
theorem norm_ten (v : Int) (s : Nat) : norm (v * 10) (s + 1) = norm v s := by
  rw [norm_more _ _ (by omega), show v * 10 / 10 = v by omega]
theorem norm_pow (v : Int) (s : Nat) : ∀ j, norm (v * 10 ^ j) (s + j) = norm v s
  | 0 => by rw [Int.pow_zero, Int.mul_one]; rfl
  | j + 1 => by rw [Int.pow_succ, ← Int.mul_assoc, ← Nat.add_assoc, norm_ten, norm_pow v s j]
theorem norm_le : ∀ (s : Nat) (v : Int), (norm v s).2 ≤ s
  | 0, _ => Nat.le_refl _
  | s + 1, v => by
    by_cases h : v % 10 = 0
    · rw [norm_more v s h]; exact Nat.le_succ_of_le (norm_le s _)
    · rw [norm_stop v s h]; exact Nat.le_refl _
theorem norm_val : ∀ (s : Nat) (v : Int), (norm v s).1 * 10 ^ (s - (norm v s).2) = v
  | 0, v => by rw [norm_zero]; simp
  | s + 1, v => by
    by_cases h : v % 10 = 0
    · rw [norm_more v s h]
      have h1 := norm_val s (v / 10)
      have h2 := norm_le s (v / 10)
      rw [show s + 1 - (norm (v / 10) s).2 = (s - (norm (v / 10) s).2) + 1 by omega, Int.pow_succ, ← Int.mul_assoc, h1]
      omega
    · rw [norm_stop v s h]; simp
theorem tmod_emod (m : Int) : m.tmod 10 = 0 ↔ m % 10 = 0 := by
  constructor
  · intro h; exact Int.emod_eq_zero_of_dvd (Int.dvd_of_tmod_eq_zero h)
  · intro h; exact Int.tmod_eq_zero_of_dvd (Int.dvd_of_emod_eq_zero h)
theorem norm_may : ∀ (s : Nat) (v : Int), s ≤ 18 → may (norm v s).1 (norm v s).2 = true
  | 0, v, _ => by rw [norm_zero]; unfold may; simp
  | s + 1, v, hs => by
    by_cases h : v % 10 = 0
    · rw [norm_more v s h]; exact norm_may s _ (by omega)
    · rw [norm_stop v s h]
      unfold may
      rw [decide_eq_true_eq]
      exact ⟨by omega, by simp only []; omega, Or.inr (fun q => h ((tmod_emod v).1 q))⟩
theorem may_parts {m p : Int} (h : may m p = true) : 0 ≤ p ∧ p ≤ 18 ∧ (p = 0 ∨ m % 10 ≠ 0) := by
  unfold may at h
  rw [decide_eq_true_eq] at h
  exact ⟨h.1, h.2.1, h.2.2.imp id (fun q r => q ((tmod_emod m).2 r))⟩
theorem norm_self {m : Int} {p : Nat} (h : may m p = true) : norm m p = (m, p) := by
  obtain ⟨-, -, h3⟩ := may_parts h
  cases p with
  | zero => rfl
  | succ s => exact norm_stop m s (h3.resolve_left (by omega))
theorem norm_neg : ∀ (s : Nat) (v : Int), norm (-v) s = (-(norm v s).1, (norm v s).2)
  | 0, v => rfl
  | s + 1, v => by
    by_cases h : v % 10 = 0
    · rw [norm_more v s h, norm_more (-v) s (by omega), show -v / 10 = -(v / 10) by omega, norm_neg s]
    · rw [norm_stop v s h, norm_stop (-v) s (by omega)]
/-- A Decimal's value, by 10 eighteen times. -/
def vM (m p : Int) : Int := m * 10 ^ (18 - p.toNat)
theorem norm_vM {m p : Int} (h : may m p = true) : norm (vM m p) 18 = (m, p.toNat) := by
  obtain ⟨h1, h2, -⟩ := may_parts h
  obtain ⟨k, rfl⟩ : ∃ k : Nat, p = k := ⟨p.toNat, by omega⟩
  have e : (18 : Nat) = k + (18 - k) := by omega
  have := norm_pow m k (18 - k)
  rw [← e, norm_self h] at this
  exact this
theorem vM_norm (v : Int) : vM (norm v 18).1 (norm v 18).2 = v := norm_val 18 v
theorem vM_inj {m p n q : Int} (h : may m p = true) (g : may n q = true) (e : vM m p = vM n q) : m = n ∧ p = q := by
  have a := norm_vM h
  have b := norm_vM g
  rw [e, b] at a
  obtain ⟨h1, -, -⟩ := may_parts h
  obtain ⟨g1, -, -⟩ := may_parts g
  have a1 := congrArg Prod.fst a
  have a2 := congrArg Prod.snd a
  simp only [] at a1 a2
  exact ⟨a1.symm, by omega⟩
theorem vM_neg (m p : Int) : vM (-m) p = -vM m p := by unfold vM; exact Int.neg_mul _ _
theorem may_neg {m p : Int} : may (-m) p = may m p := by
  unfold may
  rw [decide_eq_decide]
  constructor
  · rintro ⟨a, b, c⟩; exact ⟨a, b, c.imp id (fun q r => q (by rw [Int.neg_tmod, r]; rfl))⟩
  · rintro ⟨a, b, c⟩; exact ⟨a, b, c.imp id (fun q r => q (by rw [Int.neg_tmod] at r; omega))⟩
theorem vM_bound {m p : Int} (h1 : -9223372036854775808 ≤ m) (h2 : m ≤ 9223372036854775808) : (vM m p).natAbs ≤ 9223372036854775808 * 10 ^ 18 := by
  unfold vM
  rw [Int.natAbs_mul]
  refine Nat.mul_le_mul (by omega) ?_
  rw [Int.natAbs_pow]
  exact Nat.pow_le_pow_right (by decide) (by omega)
/-- In 64 bits? -/
def in64 (v : Int) : Bool := decide (-9223372036854775808 ≤ v ∧ v < 9223372036854775808)
/-- The order of two. -/
def cmpI (a b : Int) : Int := if a = b then 0 else if a < b then -1 else 1
/-- What 'Compare' answers: a number, and an error. -/
def cmV (m p n q : Int) : Int := if may m p && may n q then cmpI (vM m p) (vM n q) else 0
def cmE (m p n q : Int) : Int := if may m p && may n q then 0 else 140
/-- What 'Add' answers: a mantissa, a scale, and an error. -/
def adM (m p n q : Int) : Int := if may m p && may n q then (if in64 (norm (vM m p + vM n q) 18).1 then (norm (vM m p + vM n q) 18).1 else 0) else 0
def adS (m p n q : Int) : Int := if may m p && may n q then (if in64 (norm (vM m p + vM n q) 18).1 then ((norm (vM m p + vM n q) 18).2 : Nat) else 0) else 0
def adE (m p n q : Int) : Int := if may m p && may n q then (if in64 (norm (vM m p + vM n q) 18).1 then 0 else 20) else 140
theorem cm_two (m p n q : Int) : (may m p = true ∧ may n q = true ∧ cmV m p n q = cmpI (vM m p) (vM n q) ∧ cmE m p n q = 0) ∨ (¬ (may m p = true ∧ may n q = true) ∧ cmV m p n q = 0 ∧ cmE m p n q = 140) := by
  unfold cmV cmE
  cases may m p <;> cases may n q <;> simp
theorem ad_three (m p n q : Int) : (may m p = true ∧ may n q = true ∧ in64 (adM m p n q) = true ∧ norm (vM m p + vM n q) 18 = (adM m p n q, (adS m p n q).toNat) ∧ 0 ≤ adS m p n q ∧ adE m p n q = 0)
    ∨ (may m p = true ∧ may n q = true ∧ in64 (norm (vM m p + vM n q) 18).1 = false ∧ adM m p n q = 0 ∧ adS m p n q = 0 ∧ adE m p n q = 20) ∨ (¬ (may m p = true ∧ may n q = true) ∧ adM m p n q = 0 ∧ adS m p n q = 0 ∧ adE m p n q = 140) := by
  unfold adM adS adE
  cases may m p <;> cases may n q <;> simp
  cases h : in64 (norm (vM m p + vM n q) 18).1 <;> simp [h]
end Go.Proofs.YtiikohbnfbpjeaaDoor
