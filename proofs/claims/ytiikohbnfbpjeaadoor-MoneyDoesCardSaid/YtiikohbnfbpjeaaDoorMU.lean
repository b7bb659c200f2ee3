import Derived.Test.YtiikohbnfbpjeaaDoorMT
namespace Go.Proofs.YtiikohbnfbpjeaaDoor
open Go.Lib
theorem p_shape (l : List UInt8) : l.length = (if pNeg l then 1 else 0) + (pA l).length + (if pPt l then 1 + (pB l).length else 0) ∧ (pPt l = false → pB l = []) := by
  have h1 : l.length = (if pNeg l then 1 else 0) + (pBare l).length := by
    unfold pNeg pBare trimPrefix
    cases h : hasPrefix l [45]
    · simp
    · cases l with
      | nil => simp [hasPrefix] at h
      | cons c l => simp; omega
  unfold pA pB pPt
  rcases cut_ways (pBare l) 46 with ⟨-, c⟩ | ⟨a, b, e, -, c⟩
  · rw [c]; simp; exact h1
  · rw [c]; rw [e] at h1; simp at h1 ⊢; omega
theorem pOk_parts {l : List UInt8} (h : pOk l = true) : digs (pA l) = true ∧ pA l ≠ [] ∧ digs (pB l) = true ∧ (pB l).length ≤ 18 := by
  unfold pOk at h
  simp only [Bool.and_eq_true, Bool.or_eq_true, Bool.not_eq_true', decide_eq_true_eq] at h
  obtain ⟨a, b⟩ := areDi_parts h.1.1
  refine ⟨a, b, ?_⟩
  rcases h.2 with h | h
  · rw [(p_shape l).2 h]; exact ⟨rfl, by simp⟩
  · exact ⟨(areDi_parts h.1).1, h.2⟩
theorem dec_len : ∀ (k u : Nat), u < 10 ^ (k + 1) → (decDigits u).length ≤ k + 1
  | 0, u, h => by rw [decDigits, dif_pos (by omega)]; simp
  | k + 1, u, h => by
    by_cases h10 : u < 10
    · rw [decDigits, dif_pos h10]; simp
    · rw [decDigits, dif_neg h10, List.length_append, List.length_singleton]
      have := dec_len k (u / 10) (by rw [Nat.pow_succ] at h; omega)
      omega
theorem pNum_abs (l : List UInt8) (h : pOk l = true) : (pNum l).natAbs < 10 ^ ((pA l).length + (pB l).length) ∧ (pNum l < 0 → pNeg l = true) := by
  obtain ⟨a, -, b, -⟩ := pOk_parts h
  have hd : digs (pA l ++ pB l) = true := by rw [digs_app, a, b]; rfl
  have := num_bounds _ hd
  rw [List.length_append] at this
  have e : ((10 ^ ((pA l).length + (pB l).length) : Nat) : Int) = 10 ^ ((pA l).length + (pB l).length) := by rw [Int.natCast_pow]; rfl
  unfold pNum
  cases pNeg l
  · simp only [Bool.false_eq_true, if_false]; omega
  · simp only [if_true]; exact ⟨by omega, fun _ => trivial⟩
/-- The text of what a text tells is not longer. -/
theorem text_short (l : List UInt8) (h : pGood l = true) (p : Nat) (hp : pS l = p) : may (pM l) p = true ∧ in64 (pM l) = true ∧ (tText (pM l) p).length ≤ l.length := by
  have hg := h
  unfold pGood at hg
  simp only [Bool.and_eq_true] at hg
  obtain ⟨hok, h64⟩ := hg
  obtain ⟨dA, nA, dB, hB⟩ := pOk_parts hok
  obtain ⟨hn1, hn2⟩ := pNum_abs l hok
  have eM : pM l = (norm (pNum l) (pB l).length).1 := by unfold pM; rw [h]; rfl
  have eS : p = (norm (pNum l) (pB l).length).2 := by unfold pS at hp; rw [h] at hp; simp at hp; omega
  have m1 := norm_may _ (pNum l) hB
  have m2 := norm_small (pB l).length _ h64
  have m3 := norm_val (pB l).length (pNum l)
  have m4 := norm_le (pB l).length (pNum l)
  rw [← eM, ← eS] at m1 m3
  rw [← eM] at m2
  rw [← eS] at m4
  refine ⟨m1, m2, ?_⟩
  have sh := p_shape l
  have la : 1 ≤ (pA l).length := by
    cases hA : pA l with
    | nil => exact absurd hA nA
    | cons c t => simp
  have hlen : (decDigits (pM l).natAbs).length ≤ (pA l).length + p := by
    obtain ⟨k, hk⟩ : ∃ k, (pA l).length + p = k + 1 := ⟨(pA l).length + p - 1, by omega⟩
    rw [hk]
    apply dec_len
    rw [← hk]
    rw [← m3, Int.natAbs_mul, Int.natAbs_pow] at hn1
    rw [show (pA l).length + (pB l).length = (pA l).length + p + ((pB l).length - p) by omega, Nat.pow_add] at hn1
    exact Nat.lt_of_mul_lt_mul_right hn1
  have hz : (tZ (pM l) p).length ≤ (pA l).length + p := by
    unfold tZ; rw [List.length_append, List.length_replicate]; omega
  have hneg : pM l < 0 → pNeg l = true := by
    intro q
    apply hn2
    rw [← m3]
    exact Int.mul_neg_of_neg_of_pos q (Int.pow_pos (by decide))
  have ht : (tText (pM l) p).length = (if pM l < 0 then 1 else 0) + (tZ (pM l) p).length + (if p = 0 then 0 else 1) := by
    unfold tText sgL
    by_cases q : pM l < 0 <;> by_cases r : p = 0
    · simp [q, r]; omega
    · have := congrArg List.length (tAB (pM l) p); rw [List.length_append] at this; simp [q, r]; omega
    · simp [q, r]
    · have := congrArg List.length (tAB (pM l) p); rw [List.length_append] at this; simp [q, r]; omega
  rw [ht, sh.1]
  have e1 : (if pM l < 0 then 1 else 0) ≤ (if pNeg l = true then 1 else 0) := by
    by_cases q : pM l < 0
    · rw [if_pos q, if_pos (hneg q)]; exact Nat.le_refl _
    · rw [if_neg q]; exact Nat.zero_le _
  by_cases hpt : pPt l = true
  · rw [if_pos hpt]
    have e2 : (if p = 0 then 0 else 1) ≤ 1 := by split <;> omega
    omega
  · have := sh.2 (by simpa using hpt)
    rw [this] at m4
    rw [if_neg hpt]
    simp at m4
    rw [if_pos m4]; omega
/-- Noughts behind a fraction. -/
def tNought (m : Int) (p n : Nat) : List UInt8 := tText m p ++ (if p = 0 then [46] else []) ++ List.replicate n 48
theorem noughts (m : Int) (p n : Nat) (h : may m p = true) (h0 : 0 < n) (h18 : p + n ≤ 18) :
    (in64 (m * 10 ^ n) = true → pM (tNought m p n) = m ∧ pS (tNought m p n) = p ∧ pE (tNought m p n) = 0) ∧ (in64 (m * 10 ^ n) = false → pM (tNought m p n) = 0 ∧ pS (tNought m p n) = 0 ∧ pE (tNought m p n) = 140) := by
  have hA := tA_ok m p h
  have e : tNought m p n = sgL (decide (m < 0)) ++ (tA m p ++ 46 :: (tB m p ++ List.replicate n 48)) := by
    unfold tNought tText
    by_cases hp : p = 0
    · subst hp
      have hb : tB m 0 = [] := List.length_eq_zero_iff.1 (tB_len m 0)
      rw [hb, tA_zero]; simp
    · simp [hp]
  have hB : areDi (tB m p ++ List.replicate n 48) = true := by
    have := tZ_digs m p
    rw [← tAB m p, digs_app] at this
    simp only [Bool.and_eq_true] at this
    unfold areDi
    rw [digs_app, this.2, digs_zeros]
    simp; omega
  have hl : (tB m p ++ List.replicate n 48).length = p + n := by rw [List.length_append, tB_len, List.length_replicate]
  obtain ⟨a, b, c⟩ := p_point (decide (m < 0)) _ _ hA hB (by omega)
  rw [← e] at a b c
  have hn : pNum (tNought m p n) = m * 10 ^ n := by
    rw [b, ← List.append_assoc, tAB, num_behind, tZ_num]
    by_cases hm : m < 0
    · rw [if_pos (by simpa using hm), ← Int.neg_mul]; congr 1; omega
    · rw [if_neg (by simpa using hm)]; congr 1; omega
  have hg : pGood (tNought m p n) = in64 (m * 10 ^ n) := by unfold pGood; rw [a, hn]; rfl
  have hnorm : norm (m * 10 ^ n) (p + n) = (m, p) := by rw [norm_pow, norm_self h]
  constructor
  · intro q
    unfold pM pS pE
    rw [hg, q, hn, c, hl, hnorm]
    exact ⟨rfl, rfl, rfl⟩
  · intro q
    unfold pM pS pE
    rw [hg, q]
    exact ⟨rfl, rfl, rfl⟩
end Go.Proofs.YtiikohbnfbpjeaaDoor
