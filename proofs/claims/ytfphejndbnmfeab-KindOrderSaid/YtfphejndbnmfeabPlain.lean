/- Plain facts for layer 22: which type fits which, by their wrappers. -/
import Derived.Test.YtfphejndbnmfeabK1
namespace Go.Proofs.Ytfphejndbnmfeab
open Go.RowKit

theorem bad_nil : bad [] = false := rfl
theorem non_nil : non [] = false := rfl
theorem lst_nil : lst [] = false := rfl
theorem bad_cons (x : Int) (A : List Int) : bad (x :: A) = (x != 1 && x != 2) := by simp [bad]
theorem non_cons (x : Int) (A : List Int) : non (x :: A) = (x == 1) := by simp [non]
theorem lst_cons (x : Int) (A : List Int) : lst (x :: A) = (x == 2) := by simp [lst]
theorem fitsF_s (same : Bool) (f : Nat) (A B : List Int) : fitsF same (f + 1) A B = if bad B || bad A then false else if non B then (if non A then fitsF same f A.tail B.tail else false) else if lst B && lst A then fitsF same f A.tail B.tail else if decide (B.length = 0) && decide (A.length = 0) then same else if non A then fitsF same f A.tail B else false := rfl
theorem fitsF_nn (same : Bool) (f : Nat) : fitsF same (f + 1) [] [] = same := rfl
theorem fitsF_nc (same : Bool) (f : Nat) (y : Int) (B : List Int) : fitsF same (f + 1) [] (y :: B) = false := by
  rw [fitsF_s, bad_nil, non_nil, lst_nil]; simp
theorem fitsF_cn (same : Bool) (f : Nat) (x : Int) (A : List Int) : fitsF same (f + 1) (x :: A) [] = if x = 1 then fitsF same f A [] else false := by
  rw [fitsF_s, bad_nil, non_nil, lst_nil, bad_cons, non_cons, lst_cons]
  by_cases h1 : x = 1
  · subst h1; simp
  · by_cases h2 : x = 2 <;> simp [h1, h2]
theorem fitsF_cc (s : Bool) (f : Nat) (x y : Int) (A B : List Int) : fitsF s (f + 1) (x :: A) (y :: B) = if y = 1 then (if x = 1 then fitsF s f A B else false) else if y = 2 then (if x = 2 then fitsF s f A B else if x = 1 then fitsF s f A (y :: B) else false) else false := by
  rw [fitsF_s, bad_cons, non_cons, lst_cons, bad_cons, non_cons, lst_cons]
  simp only [List.tail_cons]
  by_cases y1 : y = 1
  · subst y1
    by_cases x1 : x = 1
    · subst x1; simp
    · by_cases x2 : x = 2 <;> simp [x1, x2]
  · by_cases y2 : y = 2
    · subst y2
      by_cases x1 : x = 1
      · subst x1; simp
      · by_cases x2 : x = 2 <;> simp [x1, x2]
    · simp [y1, y2]
theorem fitsF_more (same : Bool) : ∀ (f : Nat) (A B : List Int) (d : Nat), A.length + B.length < f → fitsF same (f + d) A B = fitsF same f A B := by
  intro f
  induction f with
  | zero => intro A B d h; omega
  | succ f ih =>
    intro A B d h
    rw [show f + 1 + d = (f + d) + 1 by omega]
    cases A with
    | nil =>
      cases B with
      | nil => rfl
      | cons y B => rw [fitsF_nc, fitsF_nc]
    | cons x A =>
      simp only [List.length_cons] at h
      cases B with
      | nil => rw [fitsF_cn, fitsF_cn, ih A [] d (by simp; omega)]
      | cons y B =>
        simp only [List.length_cons] at h
        rw [fitsF_cc, fitsF_cc, ih A B d (by omega), ih A (y :: B) d (by simp; omega)]
theorem fitsF_enough {same : Bool} {f g : Nat} {A B : List Int} (hf : A.length + B.length < f) (hg : A.length + B.length < g) : fitsF same f A B = fitsF same g A B := by
  rcases Nat.le_total f g with h | h
  · obtain ⟨d, rfl⟩ := Nat.exists_eq_add_of_le h
    exact (fitsF_more same f A B d hf).symm
  · obtain ⟨d, rfl⟩ := Nat.exists_eq_add_of_le h
    exact fitsF_more same g A B d hg
/-- As above, with the names the same, and fuel enough. -/
def fit (same : Bool) (A B : List Int) : Bool := fitsF same (A.length + B.length + 1) A B
theorem fits_eq (n1 : ByteArray) (A : List Int) (n2 : ByteArray) (B : List Int) : fits n1 A n2 B = fit (n1.toList == n2.toList) A B := rfl
theorem fit_nn (s : Bool) : fit s [] [] = s := rfl
theorem fit_nc (s : Bool) (y : Int) (B : List Int) : fit s [] (y :: B) = false := fitsF_nc _ _ _ _
theorem fit_cn (s : Bool) (x : Int) (A : List Int) : fit s (x :: A) [] = if x = 1 then fit s A [] else false := by
  have h := fitsF_cn s ((x :: A).length + ([] : List Int).length) x A
  rw [show fitsF s ((x :: A).length + ([] : List Int).length) A [] = fit s A [] from fitsF_enough (by simp) (by simp)] at h
  exact h
theorem fit_cc (s : Bool) (x y : Int) (A B : List Int) : fit s (x :: A) (y :: B) = if y = 1 then (if x = 1 then fit s A B else false) else if y = 2 then (if x = 2 then fit s A B else if x = 1 then fit s A (y :: B) else false) else false := by
  have h := fitsF_cc s ((x :: A).length + (y :: B).length) x y A B
  rw [show fitsF s ((x :: A).length + (y :: B).length) A B = fit s A B from fitsF_enough (by simp only [List.length_cons]; omega) (Nat.lt_succ_self _), show fitsF s ((x :: A).length + (y :: B).length) A (y :: B) = fit s A (y :: B) from fitsF_enough (by simp only [List.length_cons]; omega) (Nat.lt_succ_self _)] at h
  exact h
theorem fit_same {s : Bool} {A B : List Int} (h : fit s A B = true) : s = true ∧ fit true A B = true := by
  induction A generalizing B with
  | nil =>
    cases B with
    | nil => rw [fit_nn] at h; exact ⟨h, rfl⟩
    | cons y B => rw [fit_nc] at h; cases h
  | cons x A ih =>
    cases B with
    | nil =>
      rw [fit_cn] at h ⊢
      split at h
      · rename_i hx; rw [if_pos hx]; exact ih h
      · cases h
    | cons y B =>
      rw [fit_cc] at h ⊢
      repeat' split at h
      all_goals first | cases h; done | skip
      all_goals (have := ih h; simp_all)
theorem fit_trans (A : List Int) : ∀ (B C : List Int), fit true A B = true → fit true B C = true → fit true A C = true := by
  intro B
  induction B generalizing A with
  | nil =>
    intro C h1 h2
    cases C with
    | nil => exact h1
    | cons z C => rw [fit_nc] at h2; cases h2
  | cons y B ih =>
    intro C h1 h2
    induction A with
    | nil => rw [fit_nc] at h1; cases h1
    | cons x A iha =>
      rw [fit_cc] at h1
      cases C with
      | nil =>
        rw [fit_cn] at h2 ⊢
        split at h2
        · rename_i hy
          subst hy
          rw [if_pos rfl] at h1
          split at h1
          · rename_i hx; rw [if_pos hx]; exact ih A [] h1 h2
          · cases h1
        · cases h2
      | cons z C =>
        have h2' := h2
        rw [fit_cc] at h2 ⊢
        by_cases hz1 : z = 1
        · subst hz1
          rw [if_pos rfl] at h2 ⊢
          split at h2
          · rename_i hy; subst hy
            rw [if_pos rfl] at h1
            split at h1
            · rename_i hx; rw [if_pos hx]; exact ih A C h1 h2
            · cases h1
          · cases h2
        · rw [if_neg hz1] at h2 ⊢
          by_cases hz2 : z = 2
          · rw [if_pos hz2] at h2 ⊢
            by_cases hy2 : y = 2
            · rw [if_pos hy2] at h2
              rw [if_neg (by omega), if_pos hy2] at h1
              by_cases hx2 : x = 2
              · rw [if_pos hx2] at h1 ⊢; exact ih A C h1 h2
              · rw [if_neg hx2] at h1 ⊢
                split at h1
                · rename_i hx; rw [if_pos hx]; exact iha h1
                · cases h1
            · rw [if_neg hy2] at h2
              split at h2
              · rename_i hy; subst hy
                rw [if_pos rfl] at h1
                split at h1
                · rename_i hx
                  rw [if_neg (by omega), if_pos hx]; exact ih A (z :: C) h1 h2
                · cases h1
              · cases h2
          · rw [if_neg hz2] at h2; cases h2
theorem fit_anti (A : List Int) : ∀ B, fit true A B = true → fit true B A = true → A = B := by
  induction A with
  | nil =>
    intro B h1 h2
    cases B with
    | nil => rfl
    | cons y B => rw [fit_nc] at h1; cases h1
  | cons x A ih =>
    intro B h1 h2
    cases B with
    | nil => rw [fit_nc] at h2; cases h2
    | cons y B =>
      rw [fit_cc] at h1 h2
      by_cases y1 : y = 1
      · rw [if_pos y1] at h1
        split at h1
        · rename_i x1
          rw [if_pos x1, if_pos y1] at h2
          rw [ih B h1 h2, x1, y1]
        · cases h1
      · rw [if_neg y1] at h1 h2
        by_cases x1 : x = 1
        · rw [if_pos x1] at h2; cases h2
        · rw [if_neg x1] at h1 h2
          by_cases y2 : y = 2
          · rw [if_pos y2] at h1 h2
            by_cases x2 : x = 2
            · rw [if_pos x2] at h1 h2
              rw [ih B h1 h2, x2, y2]
            · rw [if_neg x2] at h1; cases h1
          · rw [if_neg y2] at h1; cases h1
theorem fit_refl (A : List Int) (h : ∀ x ∈ A, x = 1 ∨ x = 2) : fit true A A = true := by
  induction A with
  | nil => rfl
  | cons x A ih =>
    rw [fit_cc]
    have := ih (fun y hy => h y (List.mem_cons_of_mem _ hy))
    rcases h x (List.mem_cons_self) with rfl | rfl
    · simpa using this
    · simpa using this
theorem fit_two (s : Bool) (A B : List Int) : fit s (2 :: A) (2 :: B) = fit s A B := by rw [fit_cc]; simp
theorem fit_one (s : Bool) (A B : List Int) : fit s (1 :: A) (1 :: B) = fit s A B := by rw [fit_cc]; simp
theorem fit_bare (A : List Int) (h : fit true A A = true) : fit true (1 :: A) A = true := by
  induction A with
  | nil => rw [fit_cn]; simpa using h
  | cons x A ih =>
    have h' := h
    rw [fit_cc] at h ⊢
    by_cases x1 : x = 1
    · rw [if_pos x1] at h ⊢
      rw [if_pos x1] at h
      rw [if_pos rfl, x1]; exact ih h
    · rw [if_neg x1] at h ⊢
      by_cases x2 : x = 2
      · rw [if_pos x2, if_neg (by omega), if_pos rfl]; exact h'
      · rw [if_neg x2] at h; cases h
end Go.Proofs.Ytfphejndbnmfeab
