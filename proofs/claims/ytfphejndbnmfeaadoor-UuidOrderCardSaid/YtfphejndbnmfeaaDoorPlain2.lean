/- Plain facts for layer 13: the order of UUIDs is that of their texts. No program in sight. -/
import Derived.Test.YtfphejndbnmfeaaDoorU1b
namespace Go.Proofs.YtfphejndbnmfeaaDoor
open Go.RowKit

theorem cmp1_swap (x y : Int) : cmp1 y x = - cmp1 x y := by unfold cmp1; (repeat' split) <;> omega
theorem cmp1_range (x y : Int) : -1 ≤ cmp1 x y ∧ cmp1 x y ≤ 1 := by unfold cmp1; (repeat' split) <;> omega
theorem cmp1_zero {x y : Int} (h : x ≠ y) : cmp1 x y ≠ 0 := by unfold cmp1; (repeat' split) <;> omega
/-- Where two differ first. -/
theorem cmpF_spec (A B : List Int) : ∀ f k, (cmpF A B f k = 0 ∧ ∀ j, k ≤ j → j < k + f → A.getD j 0 = B.getD j 0) ∨
    ∃ j, k ≤ j ∧ j < k + f ∧ (∀ i, k ≤ i → i < j → A.getD i 0 = B.getD i 0) ∧ A.getD j 0 ≠ B.getD j 0 ∧ cmpF A B f k = cmp1 (A.getD j 0) (B.getD j 0) := by
  intro f
  induction f with
  | zero => intro k; left; exact ⟨rfl, fun j h1 h2 => by omega⟩
  | succ f ih =>
    intro k
    simp only [cmpF]
    by_cases h : A.getD k 0 = B.getD k 0
    · rw [if_pos h]
      rcases ih (k + 1) with ⟨h1, h2⟩ | ⟨j, h1, h2, h3, h4, h5⟩
      · left
        refine ⟨h1, fun j j1 j2 => ?_⟩
        by_cases e : j = k
        · subst e; exact h
        · exact h2 j (by omega) (by omega)
      · right
        refine ⟨j, by omega, by omega, fun i i1 i2 => ?_, h4, h5⟩
        by_cases e : i = k
        · subst e; exact h
        · exact h3 i (by omega) i2
    · rw [if_neg h]
      right
      exact ⟨k, Nat.le_refl _, by omega, fun i i1 i2 => by omega, h, rfl⟩
theorem cmp_cases (A B : List Int) : (cmpA A B = 0 ∧ ∀ j, j < 16 → A.getD j 0 = B.getD j 0) ∨
    ∃ j, j < 16 ∧ (∀ i, i < j → A.getD i 0 = B.getD i 0) ∧ A.getD j 0 ≠ B.getD j 0 ∧ cmpA A B = cmp1 (A.getD j 0) (B.getD j 0) := by
  rcases cmpF_spec A B 16 0 with ⟨h1, h2⟩ | ⟨j, h1, h2, h3, h4, h5⟩
  · left; exact ⟨h1, fun j hj => h2 j (by omega) (by omega)⟩
  · right; exact ⟨j, by omega, fun i hi => h3 i (by omega) hi, h4, h5⟩
theorem cmp_swap (A B : List Int) : cmpA B A = - cmpA A B := by
  have : ∀ f k, cmpF B A f k = - cmpF A B f k := by
    intro f
    induction f with
    | zero => intro k; rfl
    | succ f ih =>
      intro k
      simp only [cmpF]
      by_cases h : A.getD k 0 = B.getD k 0
      · rw [if_pos h, if_pos h.symm]; exact ih (k + 1)
      · rw [if_neg h, if_neg (fun e => h e.symm)]; exact cmp1_swap _ _
  exact this 16 0
theorem cmp_range (A B : List Int) : -1 ≤ cmpA A B ∧ cmpA A B ≤ 1 := by
  rcases cmp_cases A B with ⟨h, _⟩ | ⟨j, _, _, _, h⟩
  · rw [h]; omega
  · rw [h]; exact cmp1_range _ _
theorem cmp_zero (A B : List Int) : (cmpA A B == 0) = same16 (fun i => A.getD i 0) (fun i => B.getD i 0) := by
  rw [Bool.eq_iff_iff, same16_iff, beq_iff_eq]
  rcases cmp_cases A B with ⟨h, h2⟩ | ⟨j, hj, _, hne, h⟩
  · exact ⟨fun _ => h2, fun _ => h⟩
  · exact ⟨fun e => absurd (h ▸ e) (cmp1_zero hne), fun e => absurd (e j hj) hne⟩
/-- The order of bytes, by the first place that differs. -/
theorem less_at : ∀ (x y : List UInt8) (k : Nat) (a b : UInt8), (∀ i, i < k → x[i]? = y[i]?) → x[k]? = some a → y[k]? = some b → a ≠ b → Op.bytesLess x y = decide (a < b) := by
  intro x
  induction x with
  | nil => intro y k a b _ h; simp at h
  | cons c x ih =>
    intro y k a b heq ha hb hne
    cases y with
    | nil => simp at hb
    | cons d y =>
      cases k with
      | zero =>
        simp at ha hb
        subst ha; subst hb
        simp [Op.bytesLess, hne]
      | succ k =>
        have h0 := heq 0 (by omega)
        simp at h0
        subst h0
        have := ih y k a b (fun i hi => by have := heq (i + 1) (by omega); simpa using this) (by simpa using ha) (by simpa using hb) hne
        have hcc : ¬ c < c := by simp
        simp only [Op.bytesLess, this, hcc, decide_false, Bool.false_or, beq_self_eq_true, Bool.true_and]
theorem less_same : ∀ x : List UInt8, Op.bytesLess x x = false
  | [] => rfl
  | c :: x => by
    have hcc : ¬ c < c := by simp
    simp only [Op.bytesLess, less_same x, hcc, decide_false, Bool.false_or, Bool.and_false]
theorem mkB_at {L : List Int} {k : Nat} (h : k < L.length) : (mkB L).toList[k]? = some (UInt8.ofNat (L.getD k 0).toNat) := by
  rw [ByteArray.toList_eq]
  simp [mkB, h, List.getD]
theorem pos_mono : ∀ i, i < 16 → ∀ j, j < 16 → ((pos i < pos j → i < j) ∧ (pos i + 1 < pos j → i < j) ∧ (pos i < pos j + 1 → i ≤ j) ∧ (pos i + 1 < pos j + 1 → i < j)) := by decide
theorem u8_lt {x y : Int} (hx : 0 ≤ x ∧ x < 256) (hy : 0 ≤ y ∧ y < 256) : decide (UInt8.ofNat x.toNat < UInt8.ofNat y.toNat) = decide (x < y) := by
  rw [decide_eq_decide, UInt8.lt_iff_toNat_lt, UInt8.toNat_ofNat', UInt8.toNat_ofNat']; omega
theorem u8_ne {x y : Int} (hx : 0 ≤ x ∧ x < 256) (hy : 0 ≤ y ∧ y < 256) (h : x ≠ y) : UInt8.ofNat x.toNat ≠ UInt8.ofNat y.toNat := by
  intro e
  have := congrArg UInt8.toNat e
  rw [UInt8.toNat_ofNat', UInt8.toNat_ofNat'] at this; omega
theorem tx_first {A B : List Int} (hA : okB A) (hB : okB B) {k : Nat} (hk : k < 36) (heq : ∀ i, i < k → (txL A).getD i 0 = (txL B).getD i 0) (hne : (txL A).getD k 0 ≠ (txL B).getD k 0) :
    Op.bytesLess (txS A).toList (txS B).toList = decide ((txL A).getD k 0 < (txL B).getD k 0) := by
  have rA := txL_range hA k hk
  have rB := txL_range hB k hk
  rw [less_at (txS A).toList (txS B).toList k _ _ (fun i hi => by
    unfold txS
    rw [mkB_at (by rw [txL_length]; omega), mkB_at (by rw [txL_length]; omega), heq i hi]) (mkB_at (by rw [txL_length]; exact hk)) (mkB_at (by rw [txL_length]; exact hk)) (u8_ne rA rB hne), u8_lt rA rB]
theorem dg_inj {m n : Int} (h0 : 0 ≤ m) (h1 : m < 16) (h2 : 0 ≤ n) (h3 : n < 16) : (dg m = dg n ↔ m = n) ∧ (dg m < dg n ↔ m < n) := by
  unfold dg; (repeat' split) <;> omega
/-- The order of two is that of their texts. -/
theorem tx_less {A B : List Int} (hA : okB A) (hB : okB B) (lA : A.length = 16) (lB : B.length = 16) : Op.bytesLess (txS A).toList (txS B).toList = decide (cmpA A B < 0) := by
  rcases cmp_cases A B with ⟨h, h2⟩ | ⟨j, hj, heq, hne, h⟩
  · have : A = B := list16 lA lB h2
    subst this
    rw [less_same, h]; rfl
  · have bA := hA j
    have bB := hB j
    have pj := pos_le j hj
    have dA := txL_digit A j hj
    have dB := txL_digit B j hj
    have low : ∀ i, i < pos j → (txL A).getD i 0 = (txL B).getD i 0 := by
      intro i hi
      rcases pos_all i (by omega) with hm | ⟨q, hq, rfl | rfl⟩
      · rw [txL_mark A i (by omega) hm, txL_mark B i (by omega) hm]
      · rw [(txL_digit A q hq).1, (txL_digit B q hq).1, heq q ((pos_mono q hq j hj).1 hi)]
      · rw [(txL_digit A q hq).2, (txL_digit B q hq).2, heq q ((pos_mono q hq j hj).2.1 hi)]
    rw [h]
    by_cases hd : A.getD j 0 / 16 = B.getD j 0 / 16
    · have hdd := dg_inj (m := A.getD j 0 % 16) (n := B.getD j 0 % 16) (by omega) (by omega) (by omega) (by omega)
      rw [tx_first hA hB (k := pos j + 1) (by omega) (fun i hi => by
        by_cases e : i = pos j
        · rw [e, dA.1, dB.1, hd]
        · exact low i (by omega)) (by rw [dA.2, dB.2]; intro e; have := hdd.1.1 e; omega), dA.2, dB.2, decide_eq_decide, hdd.2]
      unfold cmp1
      (repeat' split) <;> omega
    · have hdd := dg_inj (m := A.getD j 0 / 16) (n := B.getD j 0 / 16) (by omega) (by omega) (by omega) (by omega)
      rw [tx_first hA hB (k := pos j) (by omega) low (by rw [dA.1, dB.1]; intro e; exact hd (hdd.1.1 e)), dA.1, dB.1, decide_eq_decide, hdd.2]
      unfold cmp1
      (repeat' split) <;> omega
/-- A byte more. -/
theorem cmp_more {A : List Int} (hl : A.length = 16) (k : Nat) (hk : k < 16) : cmpA A (A.set k (A.getD k 0 + 1)) = -1 := by
  have hs : ∀ i, (A.set k (A.getD k 0 + 1)).getD i 0 = if i = k then A.getD k 0 + 1 else A.getD i 0 := by
    intro i
    simp only [List.getD, List.getElem?_set]
    by_cases e : k = i
    · subst e; rw [if_pos rfl, if_pos (by omega), if_pos rfl]; rfl
    · rw [if_neg e, if_neg (fun e2 => e e2.symm)]
  rcases cmp_cases A (A.set k (A.getD k 0 + 1)) with ⟨_, h2⟩ | ⟨j, hj, heq, hne, h⟩
  · have := h2 k hk
    rw [hs k, if_pos rfl] at this; omega
  · rw [hs j] at hne h
    by_cases e : j = k
    · subst e
      rw [if_pos rfl] at h
      rw [h]; unfold cmp1; rw [if_pos (by omega)]
    · rw [if_neg e] at hne; exact absurd rfl hne
end Go.Proofs.YtfphejndbnmfeaaDoor
