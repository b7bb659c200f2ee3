import Derived.Test.YtfphejndbnmfeaaDoorD1
namespace Go.Proofs.YtfphejndbnmfeaaDoor

/-- How many days a year has. -/
def ylen (y : Nat) : Nat := if leap y then 366 else 365
/-- How many days lie ahead of a year. -/
def cum : Nat → Nat
  | 0 => 0
  | y + 1 => cum y + ylen y
theorem leap_add (y : Nat) : leap (y + 400) = leap y := by
  unfold leap
  rw [show (y + 400) % 4 = y % 4 by omega, show (y + 400) % 100 = y % 100 by omega, show (y + 400) % 400 = y % 400 by omega]
theorem cum_add (y : Nat) : cum (y + 400) = cum y + 146097 := by
  induction y with
  | zero => decide +kernel
  | succ y ih =>
    rw [show y + 1 + 400 = (y + 400) + 1 by omega]
    show cum (y + 400) + ylen (y + 400) = cum y + ylen y + 146097
    rw [ih]
    unfold ylen
    rw [leap_add]; omega
theorem cum_mul (q : Nat) : cum (q * 400) = q * 146097 := by
  induction q with
  | zero => rfl
  | succ q ih => rw [Nat.succ_mul, cum_add, ih]; omega
theorem cum_mono {y z : Nat} (h : y ≤ z) : cum y ≤ cum z := by
  induction z with
  | zero => obtain rfl : y = 0 := by omega
            exact Nat.le_refl _
  | succ z ih =>
    by_cases e : y = z + 1
    · subst e; exact Nat.le_refl _
    · have := ih (by omega)
      show cum y ≤ cum z + ylen z
      omega
/-- The year of a day, and the day's number in it. -/
def OnYear (D y r : Nat) : Prop := cum y + r = D ∧ r < ylen y
theorem year_uniq {D y r z t : Nat} (h : OnYear D y r) (h' : OnYear D z t) : y = z ∧ r = t := by
  obtain ⟨h1, h2⟩ := h
  obtain ⟨g1, g2⟩ := h'
  have e : y = z := by
    by_cases l : y < z
    · have : cum (y + 1) ≤ cum z := cum_mono l
      have e : cum (y + 1) = cum y + ylen y := rfl
      omega
    by_cases l : z < y
    · have : cum (z + 1) ≤ cum y := cum_mono l
      have e : cum (z + 1) = cum z + ylen z := rfl
      omega
    · omega
  subst e
  exact ⟨rfl, by omega⟩
theorem year_lt {D y : Nat} (h : cum y ≤ D) (hD : D ≤ 3652424) : y < 10000 := by
  by_cases l : y < 10000
  · exact l
  · have := cum_mono (y := 25 * 400) (z := y) (by omega)
    rw [cum_mul] at this
    omega
/-- How many days the first m months of a year have. -/
def cumM (y : Nat) : Nat → Nat
  | 0 => 0
  | m + 1 => cumM y m + dim y (m + 1)
theorem cumM_12 (y : Nat) : cumM y 12 = ylen y := by
  have e : cumM y 12 = dim y 1 + dim y 2 + dim y 3 + dim y 4 + dim y 5 + dim y 6 + dim y 7 + dim y 8 + dim y 9 + dim y 10 + dim y 11 + dim y 12 := by
    simp [cumM]
  rw [e]
  unfold ylen dim
  cases leap y <;> rfl
theorem cumM_mono {y : Nat} {m k : Nat} (h : m ≤ k) : cumM y m ≤ cumM y k := by
  induction k with
  | zero => obtain rfl : m = 0 := by omega
            exact Nat.le_refl _
  | succ k ih =>
    by_cases e : m = k + 1
    · subst e; exact Nat.le_refl _
    · have := ih (by omega)
      show cumM y m ≤ cumM y k + dim y (k + 1)
      omega
/-- The month (less one) of a year's day, and the day's number in it. -/
def OnMonth (y r m d : Nat) : Prop := cumM y m + d = r ∧ d < dim y (m + 1)
theorem month_uniq {y r m d k c : Nat} (h : OnMonth y r m d) (h' : OnMonth y r k c) : m = k ∧ d = c := by
  obtain ⟨h1, h2⟩ := h
  obtain ⟨g1, g2⟩ := h'
  have e : m = k := by
    by_cases l : m < k
    · have : cumM y (m + 1) ≤ cumM y k := cumM_mono l
      have e : cumM y (m + 1) = cumM y m + dim y (m + 1) := rfl
      omega
    by_cases l : k < m
    · have : cumM y (k + 1) ≤ cumM y m := cumM_mono l
      have e : cumM y (k + 1) = cumM y k + dim y (k + 1) := rfl
      omega
    · omega
  subst e
  exact ⟨rfl, by omega⟩
/-- A month is left where a day is not past the year. -/
theorem month_lt {y r m : Nat} (hr : r < ylen y) (h : cumM y m ≤ r) : m < 12 := by
  by_cases l : m < 12
  · exact l
  · have := cumM_mono (y := y) (m := 12) (k := m) (by omega)
    rw [cumM_12] at this
    omega
end Go.Proofs.YtfphejndbnmfeaaDoor
