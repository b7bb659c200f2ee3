/- Plain facts of layer 3: values in other cells. No program in sight. -/
import Derived.Test.YtfmgkndljppffaaP0
namespace Go.Proofs.Ytfmgkndljppffaa
open Go.RowKit
/-- From i to j two rows of cells read the same, but for the first one's name (b: that, too). -/
def Alk (b : Bool) (g1 : Nat → CR) (s1 : Nat) (g2 : Nat → CR) (s2 i j : Nat) : Prop :=
  ∀ t, i ≤ t → t < j → (g1 (t + s1)).k = (g2 (t + s2)).k ∧ (g1 (t + s1)).tx = (g2 (t + s2)).tx ∧ (g1 (t + s1)).n = (g2 (t + s2)).n ∧ (g1 (t + s1)).m = (g2 (t + s2)).m ∧ ((b = true ∨ i < t) → (g1 (t + s1)).nm = (g2 (t + s2)).nm)
theorem Alk.part {b : Bool} {g1 g2 : Nat → CR} {s1 s2 i j i' j' : Nat} (h : Alk b g1 s1 g2 s2 i j) (hi : b = true ∨ i < i') (hi' : i ≤ i') (hj : j' ≤ j) (c : Bool) : Alk c g1 s1 g2 s2 i' j' := fun t h1 h2 =>
  have q := h t (by omega) (by omega)
  ⟨q.1, q.2.1, q.2.2.1, q.2.2.2.1, fun _ => q.2.2.2.2 (by rcases hi with e | e; exact .inl e; exact .inr (by omega))⟩
theorem one_alk {c d : CR} (h1 : c.k = d.k) (h2 : c.tx = d.tx) (h3 : c.n = d.n) (h4 : c.m = d.m) : oneP c = oneP d := by
  unfold oneP; rw [h1, h2, h3, h4]
theorem kidsF_shift {g1 g2 : Nat → CR} {n1 n2 s1 s2 r : Nat} {obj : Bool} (ih : ∀ i j, wk g1 n1 r (i + s1) = some (j + s1) → Alk false g1 s1 g2 s2 i j → j + s2 ≤ n2 → wk g2 n2 r (i + s2) = some (j + s2)) :
    ∀ (m : Nat) (names : List ByteArray) (i j : Nat), i + s1 ≤ n1 → kidsF (wk g1 n1 r) g1 n1 obj m names (i + s1) = some (j + s1) → Alk true g1 s1 g2 s2 i j → j + s2 ≤ n2 → kidsF (wk g2 n2 r) g2 n2 obj m names (i + s2) = some (j + s2)
  | 0, _, i, j, _, h, _, _ => by
    simp only [kidsF, Option.some.injEq] at h ⊢
    omega
  | m + 1, names, i, j, hi, h, ha, hj => by
    rw [kidsF] at h
    split at h
    · cases h
    · rename_i h1
      split at h
      · rename_i h2
        cases hx : wk g1 n1 r (i + s1) with
        | none => rw [hx] at h; cases h
        | some a' =>
          rw [hx] at h
          have h3 := wk_lt _ _ _ hx
          obtain ⟨i', rfl⟩ : ∃ i', a' = i' + s1 := ⟨a' - s1, by omega⟩
          have h4 := kidsF_lt (wk_lt r) _ _ _ _ h3.2 h
          have hn := (ha i (Nat.le_refl _) (by omega)).2.2.2.2 (.inl rfl)
          have e := ih i i' hx (ha.part (.inl rfl) (Nat.le_refl _) (by omega) false) (by omega)
          rw [kidsF, if_neg (by have := wk_lt _ _ _ hx; omega), ← hn, if_pos h2, e]
          exact kidsF_shift ih m _ i' j h3.2 h (ha.part (.inl rfl) (by omega) (Nat.le_refl _) true) hj
      · cases h
theorem wk_shift {g1 g2 : Nat → CR} {n1 n2 s1 s2 : Nat} : ∀ (r i j : Nat), wk g1 n1 r (i + s1) = some (j + s1) → Alk false g1 s1 g2 s2 i j → j + s2 ≤ n2 → wk g2 n2 r (i + s2) = some (j + s2)
  | 0, i, j, h, ha, hj => by
    have hl := wk_lt _ _ _ h
    have q := ha i (Nat.le_refl _) (by omega)
    rw [wk_z] at h ⊢
    rw [if_neg (by omega)] at h ⊢
    rw [one_alk q.1 q.2.1 q.2.2.1 q.2.2.2.1, show headP (g1 (i + s1)) = headP (g2 (i + s2)) by unfold headP; rw [q.1]] at h
    split at h
    · rename_i h2
      rw [if_pos h2]
      simp only [Option.some.injEq] at h ⊢
      omega
    · cases h
  | r + 1, i, j, h, ha, hj => by
    have hl := wk_lt _ _ _ h
    have q := ha i (Nat.le_refl _) (by omega)
    rw [wk_s] at h ⊢
    rw [if_neg (by omega)] at h ⊢
    rw [one_alk q.1 q.2.1 q.2.2.1 q.2.2.2.1, show headP (g1 (i + s1)) = headP (g2 (i + s2)) by unfold headP; rw [q.1], q.1, q.2.2.2.1] at h
    split at h
    · rename_i h2
      rw [if_pos h2]
      split at h
      · rename_i h3
        rw [if_pos h3]
        rw [show i + s1 + 1 = (i + 1) + s1 by omega] at h
        rw [show i + s2 + 1 = (i + 1) + s2 by omega]
        exact kidsF_shift (wk_shift r) _ _ _ _ (by omega) h (ha.part (.inr (by omega)) (by omega) (Nat.le_refl _) true) hj
      · rename_i h3
        rw [if_neg h3]
        simp only [Option.some.injEq] at h ⊢
        omega
    · cases h
/-- The names of an object's members are apart, and none is empty; those of items are empty. -/
theorem kidsF_names {g : Nat → CR} {n r : Nat} {obj : Bool} : ∀ (m : Nat) (names : List ByteArray) (b : Nat → Nat), kidsF (wk g n r) g n obj m names (b 0) ≠ none → (∀ i, i < m → wk g n r (b i) = some (b (i + 1))) →
    ∀ i, i < m → namedP obj [] (g (b i)).nm = true ∧ (obj = true → (∀ s ∈ names, s ≠ (g (b i)).nm) ∧ ∀ j, j < i → (g (b j)).nm ≠ (g (b i)).nm)
  | 0, _, _, _, _, i, hi => by omega
  | m + 1, names, b, h, hb, i, hi => by
    rw [kidsF] at h
    split at h
    · exact absurd rfl h
    · split at h
      · rename_i h2
        rw [hb 0 (by omega)] at h
        simp only [] at h
        have h0 : namedP obj [] (g (b 0)).nm = true ∧ (obj = true → ∀ s ∈ names, s ≠ (g (b 0)).nm) := by
          unfold namedP at h2 ⊢
          cases obj with
          | false => exact ⟨h2, fun q => by cases q⟩
          | true =>
            simp only [if_true, Bool.and_eq_true, Bool.not_eq_true', List.any_eq_false, decide_eq_true_eq] at h2
            simp only [if_true, Bool.and_eq_true, Bool.not_eq_true', List.any_nil]
            exact ⟨⟨⟨by trivial, h2.1.2⟩, h2.2⟩, fun _ s hs => h2.1.1 s hs⟩
        cases i with
        | zero => exact ⟨h0.1, fun q => ⟨h0.2 q, fun j hj => by omega⟩⟩
        | succ i =>
          have k := kidsF_names m _ (fun t => b (t + 1)) h (fun t ht => hb (t + 1) (by omega)) i (by omega)
          refine ⟨k.1, fun q => ?_⟩
          obtain ⟨k1, k2⟩ := k.2 q
          subst q
          simp only [if_true, List.mem_cons, forall_eq_or_imp] at k1
          refine ⟨k1.2, fun j hj => ?_⟩
          cases j with
          | zero => exact k1.1
          | succ j => exact k2 j (by omega)
      · exact absurd rfl h
end Go.Proofs.Ytfmgkndljppffaa
