import Derived.Test.YtiikohbnfbpjeaaDoorM6
namespace Go.Proofs.YtiikohbnfbpjeaaDoor
open Go.RowKit
/-- A signed number of 128 bits, as the code tells it. -/
def nv (v : Int) : Value := if v < 0 then .iface 65 (sz v.natAbs) else .iface 67 (sz v.natAbs)
theorem nv_pos {v : Int} (n : Nat) (h : v = n) : nv v = .iface 67 (sz n) := by
  subst h; unfold nv; rw [if_neg (by omega)]; simp
theorem nv_neg {v : Int} (n : Nat) (h : v = -(n : Int)) (h0 : 0 < n) : nv v = .iface 65 (sz n) := by
  subst h; unfold nv; rw [if_pos (by omega)]; simp
/-- One of the ways to tell it (0 has two). -/
def IsSg (v : Int) (x : Value) : Prop := (∃ n : Nat, v = n ∧ x = .iface 67 (sz n)) ∨ (∃ n : Nat, v = -(n : Int) ∧ x = .iface 65 (sz n))
theorem isSg_nv (v : Int) : IsSg v (nv v) := by
  by_cases h : v < 0
  · exact Or.inr ⟨v.natAbs, by omega, nv_neg _ (by omega) (by omega)⟩
  · exact Or.inl ⟨v.natAbs, by omega, nv_pos _ (by omega)⟩
theorem scaled_any (m : Int) (p k : Nat) (w : World) (hlo : -9223372036854775808 ≤ m) (hhi : m < 9223372036854775808) (hs : p + k ≤ 18) :
    Calls Tryd.prog 56 #[.agg #[.int .i64 m, .int .i64 p], .int .i64 ((p : Int) + k)] w fun e w' => e = .returned (nv (m * 10 ^ k)) ∧ Below w.heap.size w w' := by
  by_cases h : m < 0
  · obtain ⟨n, rfl⟩ : ∃ n : Nat, m = -(n : Int) := ⟨m.natAbs, by omega⟩
    rw [nv_neg (n * 10 ^ k) (by rw [Int.natCast_mul, Int.natCast_pow, Int.neg_mul]; rfl) (Nat.mul_pos (by omega) (Nat.pow_pos (by decide)))]
    exact scaled_neg n p k w (by omega) (by omega) hs
  · obtain ⟨n, rfl⟩ : ∃ n : Nat, m = (n : Int) := ⟨m.natAbs, by omega⟩
    rw [nv_pos (n * 10 ^ k) (by rw [Int.natCast_mul, Int.natCast_pow]; rfl)]
    exact scaled_pos n p k w (by omega) hs
theorem sum_any (u v : Int) (y : Value) (hy : IsSg v y) (w : World) (hu : u.natAbs < M64 * M64 / 2) (hv : v.natAbs < M64 * M64 / 2) :
    Calls Tryd.prog 29 #[nv u, y] w fun e w' => e = .returned (nv (u + v)) ∧ Below w.heap.size w w' := by
  have e2 : M64 * M64 / 2 + M64 * M64 / 2 = M64 * M64 := by decide
  obtain ⟨H, hH⟩ : ∃ H, H = M64 * M64 / 2 := ⟨_, rfl⟩
  rw [← hH] at hu hv e2
  have HX : ∀ n : Nat, n < H + H → n < M64 * M64 := fun n h => by rw [← e2]; exact h
  clear hH e2
  by_cases h : u < 0
  · obtain ⟨n, rfl⟩ : ∃ n : Nat, u = -(n : Int) := ⟨u.natAbs, by omega⟩
    rw [nv_neg n rfl (by omega)]
    rcases hy with ⟨m, rfl, rfl⟩ | ⟨m, rfl, rfl⟩
    · by_cases q : m < n
      · rw [nv_neg (n - m) (by omega) (by omega)]
        exact sum_mp_less n m w q (HX _ (by omega))
      · rw [nv_pos (m - n) (by omega)]
        exact sum_mp_more n m w (by omega) (HX _ (by omega))
    · rw [nv_neg (n + m) (by omega) (by omega)]
      exact sum_mm n m w (HX _ (by omega))
  · obtain ⟨n, rfl⟩ : ∃ n : Nat, u = (n : Int) := ⟨u.natAbs, by omega⟩
    rw [nv_pos n rfl]
    rcases hy with ⟨m, rfl, rfl⟩ | ⟨m, rfl, rfl⟩
    · rw [nv_pos (n + m) (by omega)]
      exact sum_pp n m w (HX _ (by omega))
    · by_cases q : n < m
      · rw [nv_neg (m - n) (by omega) (by omega)]
        exact sum_pm_less n m w q (HX _ (by omega))
      · rw [nv_pos (n - m) (by omega)]
        exact sum_pm_more n m w (by omega) (HX _ (by omega))
theorem opp_any (v : Int) (w : World) : Calls Tryd.prog 32 #[nv v] w fun e w' => (∃ y, e = .returned y ∧ IsSg (-v) y) ∧ Below w.heap.size w w' := by
  by_cases h : v < 0
  · rw [nv_neg v.natAbs (by omega) (by omega)]
    exact (opp_minus _ w).mono fun e w' hp => ⟨⟨_, hp.1, Or.inl ⟨_, by omega, rfl⟩⟩, hp.2⟩
  · rw [nv_pos v.natAbs (by omega)]
    exact (opp_plus _ w).mono fun e w' hp => ⟨⟨_, hp.1, Or.inr ⟨_, by omega, rfl⟩⟩, hp.2⟩
/-- What 'fit' answers: a number that fits, or no. -/
def FitPost (v : Int) (e : Ending) : Prop := (-9223372036854775808 ≤ v ∧ v < 9223372036854775808 ∧ e = .returned (.tuple #[.int .i64 v, .bool true])) ∨ (¬ (-9223372036854775808 ≤ v ∧ v < 9223372036854775808) ∧ ∃ z, e = .returned (.tuple #[.int .i64 z, .bool false]))
theorem fit_any (v : Int) (w : World) : Calls Tryd.prog 31 #[nv v] w fun e w' => FitPost v e ∧ Below w.heap.size w w' := by
  by_cases h : v < 0
  · obtain ⟨n, rfl⟩ : ∃ n : Nat, v = -(n : Int) := ⟨v.natAbs, by omega⟩
    rw [nv_neg n rfl (by omega)]
    by_cases h1 : n ≤ 9223372036854775808
    · exact (fit_minus n w h1).mono fun e w' hp => ⟨Or.inl ⟨by omega, by omega, hp.1⟩, hp.2⟩
    by_cases h2 : n < M64
    · exact (fit_minus_over n w (by omega) h2).mono fun e w' hp => ⟨Or.inr ⟨by omega, _, hp.1⟩, hp.2⟩
    · exact (fit_wide65 n w (by omega)).mono fun e w' hp => ⟨Or.inr ⟨by omega, _, hp.1⟩, hp.2⟩
  · obtain ⟨n, rfl⟩ : ∃ n : Nat, v = (n : Int) := ⟨v.natAbs, by omega⟩
    rw [nv_pos n rfl]
    by_cases h1 : n < 9223372036854775808
    · exact (fit_plus n w h1).mono fun e w' hp => ⟨Or.inl ⟨by omega, by omega, hp.1⟩, hp.2⟩
    by_cases h2 : n < M64
    · exact (fit_plus_over n w (by omega) h2).mono fun e w' hp => ⟨Or.inr ⟨by omega, _, hp.1⟩, hp.2⟩
    · exact (fit_wide67 n w (by omega)).mono fun e w' hp => ⟨Or.inr ⟨by omega, _, hp.1⟩, hp.2⟩
end Go.Proofs.YtiikohbnfbpjeaaDoor
