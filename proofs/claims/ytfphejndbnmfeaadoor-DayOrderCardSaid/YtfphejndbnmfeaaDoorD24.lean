import Derived.Test.YtfphejndbnmfeaaDoorD7
import Derived.Test.YtfphejndbnmfeaaDoorD3
namespace Go.Proofs.YtfphejndbnmfeaaDoor

theorem less_self : ∀ l : List UInt8, Op.bytesLess l l = false
  | [] => rfl
  | a :: l => by
    show (decide (a < a) || (a == a && Op.bytesLess l l)) = false
    rw [less_self l]; simp
theorem less_asym : ∀ {l m : List UInt8}, Op.bytesLess l m = true → Op.bytesLess m l = false
  | [], [], h => by cases h
  | [], b :: m, _ => rfl
  | a :: l, [], h => by cases h
  | a :: l, b :: m, h => by
    have h' : (decide (a < b) || (a == b && Op.bytesLess l m)) = true := h
    show (decide (b < a) || (b == a && Op.bytesLess m l)) = false
    rw [Bool.or_eq_true, Bool.and_eq_true] at h'
    rcases h' with h1 | ⟨h1, h2⟩
    · have h1 : a.toNat < b.toNat := UInt8.lt_iff_toNat_lt.1 (of_decide_eq_true h1)
      have e1 : decide (b < a) = false := decide_eq_false (fun h => by have := UInt8.lt_iff_toNat_lt.1 h; omega)
      have e2 : (b == a) = false := beq_eq_false_iff_ne.2 (fun h => by rw [h] at h1; omega)
      rw [e1, e2]; rfl
    · have h1 : a = b := by simpa using h1
      subst h1
      rw [less_asym h2]; simp
theorem less_ne {l m : List UInt8} (h : Op.bytesLess l m = true) : l ≠ m := fun e => by
  rw [e, less_self] at h; cases h
theorem less_pre : ∀ (A L M : List UInt8), Op.bytesLess (A ++ L) (A ++ M) = Op.bytesLess L M
  | [], _, _ => rfl
  | a :: A, L, M => by
    show (decide (a < a) || (a == a && Op.bytesLess (A ++ L) (A ++ M))) = _
    rw [less_pre A L M]; simp
theorem dgs_less (k : Nat) : ∀ (n m : Nat) (X Y : List UInt8), n < m → m < 10 ^ k → Op.bytesLess (dgs k n ++ X) (dgs k m ++ Y) = true := by
  induction k with
  | zero => intro n m X Y h1 h2; simp at h2; omega
  | succ k ih =>
    intro n m X Y h1 h2
    show Op.bytesLess ((dgs k (n / 10) ++ [UInt8.ofNat (48 + n % 10)]) ++ X) ((dgs k (m / 10) ++ [UInt8.ofNat (48 + m % 10)]) ++ Y) = true
    rw [List.append_assoc, List.append_assoc]
    by_cases h : n / 10 < m / 10
    · exact ih _ _ _ _ h (by rw [Nat.pow_succ] at h2; omega)
    · have e : n / 10 = m / 10 := by omega
      rw [e, less_pre]
      show (decide (UInt8.ofNat (48 + n % 10) < UInt8.ofNat (48 + m % 10)) || _) = true
      rw [decide_eq_true, Bool.true_or]
      rw [UInt8.lt_iff_toNat_lt, UInt8.toNat_ofNat', UInt8.toNat_ofNat']
      omega
theorem day_before {D D' y r m d y' r' m' d' : Nat} (h1 : OnYear D y r) (h2 : OnMonth y r m d) (g1 : OnYear D' y' r') (g2 : OnMonth y' r' m' d') (h : D < D') :
    y < y' ∨ (y = y' ∧ (m < m' ∨ (m = m' ∧ d < d'))) := by
  by_cases l : y < y'
  · exact .inl l
  · by_cases l2 : y' < y
    · exfalso
      have h3 : cum (y' + 1) ≤ cum y := cum_mono l2
      have e : cum (y' + 1) = cum y' + ylen y' := rfl
      have := g1.1; have := g1.2; have := h1.1; omega
    · obtain rfl : y = y' := by omega
      refine .inr ⟨rfl, ?_⟩
      have hr : r < r' := by have := g1.1; have := h1.1; omega
      by_cases k : m < m'
      · exact .inl k
      · by_cases k2 : m' < m
        · exfalso
          have h3 : cumM y (m' + 1) ≤ cumM y m := cumM_mono k2
          have e : cumM y (m' + 1) = cumM y m' + dim y (m' + 1) := rfl
          have := g2.1; have := g2.2; have := h2.1; omega
        · obtain rfl : m = m' := by omega
          exact .inr ⟨rfl, by have := g2.1; have := h2.1; omega⟩
theorem text_before {y m d t y' m' d' t' : Nat} (n n' : Nat) (hy : y' < 10000) (hm : m' + 1 < 100) (hd : d' + 1 < 100) (ht : t' < 86400) (ht0 : t < 86400)
    (h : y < y' ∨ (y = y' ∧ (m < m' ∨ (m = m' ∧ (d < d' ∨ (d = d' ∧ t < t')))))) :
    Op.bytesLess (dtext y (m + 1) (d + 1) t n) (dtext y' (m' + 1) (d' + 1) t' n') = true := by
  rw [dtext_eq, dtext_eq]
  unfold head19
  simp only [List.append_assoc]
  rcases h with h | ⟨rfl, h⟩
  · exact dgs_less 4 _ _ _ _ h (by omega)
  · rw [less_pre, less_pre]
    rcases h with h | ⟨rfl, h⟩
    · exact dgs_less 2 _ _ _ _ (by omega) (by omega)
    · rw [less_pre, less_pre]
      rcases h with h | ⟨rfl, h⟩
      · exact dgs_less 2 _ _ _ _ (by omega) (by omega)
      · rw [less_pre, less_pre]
        by_cases h1 : t / 3600 < t' / 3600
        · exact dgs_less 2 _ _ _ _ h1 (by omega)
        · rw [show t / 3600 = t' / 3600 by omega, less_pre, less_pre]
          by_cases h2 : t / 60 % 60 < t' / 60 % 60
          · exact dgs_less 2 _ _ _ _ h2 (by omega)
          · rw [show t / 60 % 60 = t' / 60 % 60 by omega, less_pre, less_pre]
            exact dgs_less 2 _ _ _ _ (by omega) (by omega)
theorem cmpI_neg (x y : Int) : cmpI y x = -cmpI x y := by unfold cmpI; (repeat' split) <;> omega
theorem cmpD_neg (s n t m : Int) : cmpD t m s n = -cmpD s n t m := by
  unfold cmpD
  rw [cmpI_neg s t, cmpI_neg n m]
  by_cases h : cmpI s t = 0
  · rw [h]; simp
  · rw [if_pos (by omega), if_pos h]
theorem cmpI_zero (x y : Int) : cmpI x y = 0 ↔ x = y := by unfold cmpI; (repeat' split) <;> constructor <;> intro h <;> omega
theorem cmpD_zero (s n t m : Int) : cmpD s n t m = 0 ↔ (s = t ∧ n = m) := by
  unfold cmpD
  by_cases h : cmpI s t = 0
  · rw [if_neg (by simpa using h), cmpI_zero]
    have := (cmpI_zero s t).1 h
    exact ⟨fun k => ⟨this, k⟩, fun k => k.2⟩
  · rw [if_pos h]
    exact ⟨fun k => absurd k h, fun k => absurd ((cmpI_zero s t).2 k.1) h⟩
theorem cmpD_range (s n t m : Int) : -1 ≤ cmpD s n t m ∧ cmpD s n t m ≤ 1 := by unfold cmpD cmpI; (repeat' split) <;> omega
theorem cmpD_same (s t : Int) : cmpD s 0 t 0 = cmpI s t := by
  unfold cmpD
  by_cases h : cmpI s t = 0
  · rw [if_neg (by simpa using h), h]; rfl
  · rw [if_pos h]
end Go.Proofs.YtfphejndbnmfeaaDoor
