/- Layer 4: what is read of a beginning is read of all (plain). -/
import Derived.Test.YtoicmcjpaodgpaaDoorBG
namespace Go.Proofs.YtoicmcjpaodgpaaDoor
open Go.RowKit
/-- A text begins with another one. -/
structure Ex (s' s : ByteArray) : Prop where
  le : s'.size ≤ s.size
  eq : ∀ k, k < s'.size → byt s k = byt s' k
theorem Ex.at_ {s' s : ByteArray} (h : Ex s' s) {i : Nat} (hn : byt s' i ≠ 0) : byt s i = byt s' i := h.eq i (byt_in hn)
theorem ext_word {s' s : ByteArray} (h : Ex s' s) : ∀ (l : List Int) (i j : Nat), (∀ c ∈ l, c ≠ 0) → wordM s' l i = .ok j → wordM s l i = .ok j
  | [], _, _, _, e => e
  | c :: r, i, j, hc, e => by
    unfold wordM at e ⊢
    split at e
    · rename_i hb
      rw [h.at_ (by rw [hb]; exact hc c (by simp)), if_pos hb]
      exact ext_word h r (i + 1) j (fun x hx => hc x (by simp [hx])) e
    · cases e
theorem ext_bl {s' s : ByteArray} (h : Ex s' s) : ∀ (f i j : Nat), s'.size - i ≤ f → bl s' i = j → j < s'.size → bl s i = j
  | 0, i, j, hf, e, hj => by
    have := bl_ge s' i
    omega
  | f + 1, i, j, hf, e, hj => by
    cases hb : isBl (byt s' i) with
    | true =>
      have hi : i < s'.size := byt_in (by intro e'; rw [e'] at hb; cases hb)
      rw [bl_step hb] at e
      rw [bl_step (by rw [h.eq i hi]; exact hb)]
      exact ext_bl h f (i + 1) j (by omega) e hj
    | false =>
      rw [bl_stop hb] at e
      subst e
      exact bl_stop (by rw [h.eq i hj]; exact hb)
theorem ext_dg {s' s : ByteArray} (h : Ex s' s) : ∀ (f i j : Nat), s'.size - i ≤ f → dg s' i = j → j < s'.size → dg s i = j
  | 0, i, j, hf, e, hj => by
    have := dg_ge s' i
    omega
  | f + 1, i, j, hf, e, hj => by
    cases hb : isDg (byt s' i) with
    | true =>
      have hi : i < s'.size := byt_in (by intro e'; rw [e'] at hb; cases hb)
      rw [dg_step hb] at e
      rw [dg_step (by rw [h.eq i hi]; exact hb)]
      exact ext_dg h f (i + 1) j (by omega) e hj
    | false =>
      rw [dg_stop hb] at e
      subst e
      exact dg_stop (by rw [h.eq i hj]; exact hb)
theorem hex_in {b : Int} (h : ¬ hexV b < 0) : b ≠ 0 := by
  intro e
  rw [e] at h
  exact h (by decide)
theorem ext_four {s' s : ByteArray} (h : Ex s' s) : ∀ (k i : Nat) (n : Int) (x : Int × Nat), fourF s' k i n = .ok x → fourF s k i n = .ok x
  | 0, _, _, _, e => e
  | k + 1, i, n, x, e => by
    unfold fourF at e ⊢
    split at e
    · cases e
    · rename_i hh
      rw [h.at_ (hex_in hh), if_neg hh]
      exact ext_four h k _ _ _ e
theorem ext_point {s' s : ByteArray} (h : Ex s' s) {i : Nat} {x : Int × Nat} (e : pointM s' i = .ok x) : pointM s i = .ok x := by
  unfold pointM at e ⊢
  cases h1 : fourF s' 4 i 0 with
  | bad m => rw [h1] at e; cases e
  | ok y =>
    rw [h1] at e
    rw [ext_four h _ _ _ _ h1]
    simp only [Rs.bind_ok] at e ⊢
    split at e
    · rename_i hh
      rw [if_pos hh]
      cases h2 : wordM s' [92, 117] y.2 with
      | bad m => rw [h2] at e; cases e
      | ok j =>
        rw [h2] at e
        rw [ext_word h _ _ _ (by decide) h2]
        simp only [Rs.bind_ok] at e ⊢
        cases h3 : fourF s' 4 j 0 with
        | bad m => rw [h3] at e; cases e
        | ok z =>
          rw [h3] at e
          rw [ext_four h _ _ _ _ h3]
          exact e
    · rename_i hh
      rw [if_neg hh]
      exact e
theorem ext_esc {s' s : ByteArray} (h : Ex s' s) {i : Nat} {x : List Int × Nat} (e : escM s' i = .ok x) : escM s i = .ok x := by
  have hin : i < s'.size := by
    by_cases hh : i < s'.size
    · exact hh
    · unfold escM at e
      rw [byt_end (by omega)] at e
      cases e
  unfold escM at e ⊢
  rw [h.eq i hin]
  dsimp only at e ⊢
  (repeat' split at e) <;> first | (cases e; done) | skip
  all_goals simp_all only [if_true, if_false, or_true, true_or, or_false, false_or, ↓reduceIte, not_or]
  all_goals first
    | rfl
    | (cases hp : pointM s' (i + 1) with
       | bad m => rw [hp] at e; cases e
       | ok y =>
         rw [hp] at e
         rw [ext_point h hp]
         exact e)
theorem ext_strF {s' s : ByteArray} (h : Ex s' s) : ∀ (f f' j : Nat) (l : List Int) (x : List Int × Nat), f ≤ f' → strF s' f j l = .ok x → strF s f' j l = .ok x
  | 0, _, _, _, _, _, e => by cases e
  | f + 1, f', j, l, x, hf, e => by
    obtain ⟨f2, rfl⟩ : ∃ f2, f' = f2 + 1 := ⟨f' - 1, by omega⟩
    unfold strF at e ⊢
    split at e
    · rename_i hb
      rw [h.at_ (by omega), if_pos hb]
      exact e
    split at e
    · rename_i hb0 hb
      rw [h.at_ (by omega), if_neg hb0, if_pos hb]
      cases he : escM s' (j + 1) with
      | bad m => rw [he] at e; cases e
      | ok y =>
        rw [he] at e
        rw [ext_esc h he]
        exact ext_strF h f f2 _ _ _ (by omega) e
    split at e
    · cases e
    · rename_i hb0 hb1 hb
      rw [h.at_ (by omega), if_neg hb0, if_neg hb1, if_neg hb]
      exact ext_strF h f f2 _ _ _ (by omega) e
theorem ext_str {s' s : ByteArray} (h : Ex s' s) {i : Nat} {x : List Int × Nat} (e : strM s' i = .ok x) : strM s i = .ok x := by
  unfold strM at e ⊢
  cases hw : wordM s' [34] i with
  | bad m => rw [hw] at e; cases e
  | ok j =>
    rw [hw] at e
    rw [ext_word h _ _ _ (by decide) hw]
    exact ext_strF h _ _ _ _ _ (by have := h.le; omega) e
/-- What may stand behind a value that is whole. -/
def Cl (b : Int) : Prop := b = 44 ∨ b = 93 ∨ b = 125 ∨ isBl b = true
theorem cl_not {b : Int} (h : Cl b) : b ≠ 0 ∧ isDg b = false ∧ b ≠ 46 ∧ b ≠ 101 ∧ b ≠ 69 := by
  unfold Cl isBl at h
  simp only [Bool.or_eq_true, decide_eq_true_eq] at h
  unfold isDg
  simp only [Bool.and_eq_false_iff, decide_eq_false_iff_not]
  omega
theorem ext_extract {s' s : ByteArray} (h : Ex s' s) {i d : Nat} (hd : d ≤ s'.size) : s.extract i d = s'.extract i d := by
  apply bI_inj
  rw [bI_extract, bI_extract]
  congr 1
  apply List.ext_getElem?
  intro k
  rw [List.getElem?_take, List.getElem?_take]
  split
  · rw [bI_at s k (by have := h.le; omega), bI_at s' k (by omega), h.eq k (by omega)]
  · rfl
theorem ext_num {s' s : ByteArray} (h : Ex s' s) {i d : Nat} {n : Int} (hi : i ≤ s'.size) (e : numM s' i = .ok (n, d)) (hc : Cl (byt s' d)) : numM s i = .ok (n, d) := by
  obtain ⟨c0, c1, c2, c3, c4⟩ := cl_not hc
  have hd : d < s'.size := byt_in c0
  unfold numM at e ⊢
  cases hb : intM s' i with
  | bad m => rw [hb] at e; cases e
  | ok b =>
    rw [hb] at e
    simp only [Rs.bind_ok] at e
    obtain ⟨b1, b2⟩ := intM_ok hi hb
    obtain ⟨f1, f2⟩ := fracM_ok b2
    obtain ⟨g1, g2⟩ := expoM_ok f2
    have hde : expoM s' (fracM s' b) = d := by
      split at e
      · cases e; rfl
      · cases e
    have hib : intM s i = .ok b := by
      unfold intM at hb ⊢
      have e0 := h.eq i (by omega)
      rw [e0]
      obtain ⟨a, ha⟩ : ∃ a, a = if byt s' i = 45 then i + 1 else i := ⟨_, rfl⟩
      simp only [← ha] at hb ⊢
      have hab : a < b := by
        split at hb
        · cases hb; omega
        · split at hb
          · cases hb
          · have := dg_ge s' a
            cases hb
            omega
      rw [h.eq a (by omega)]
      split at hb
      · rename_i h48
        rw [if_pos h48]
        exact hb
      · rename_i h48
        split at hb
        · cases hb
        · rename_i hne
          cases hb
          have hx := ext_dg h _ a _ (Nat.le_refl _) rfl (show dg s' a < s'.size by omega)
          rw [if_neg h48, hx, if_neg hne]
    have hfr : fracM s b = fracM s' b := by
      unfold fracM
      rw [h.eq b (by omega)]
      split
      · rename_i h46
        by_cases hz : dg s' (b + 1) = b + 1
        · exfalso
          have e1 : fracM s' b = b := by unfold fracM; rw [if_pos h46, if_pos hz]
          rw [e1] at hde
          unfold expoM at hde
          rw [if_neg (by omega)] at hde
          rw [← hde] at c2
          exact c2 h46
        · have e1 : fracM s' b = dg s' (b + 1) := by unfold fracM; rw [if_pos h46, if_neg hz]
          have hx := ext_dg h _ (b + 1) _ (Nat.le_refl _) rfl (show dg s' (b + 1) < s'.size by omega)
          rw [hx]
      · rfl
    have hex : expoM s (fracM s' b) = d := by
      obtain ⟨c, hcc⟩ : ∃ c, c = fracM s' b := ⟨_, rfl⟩
      rw [← hcc] at hde g1 ⊢
      have hcd : c < s'.size := by omega
      unfold expoM at hde ⊢
      rw [h.eq c hcd]
      by_cases hE : byt s' c = 101 ∨ byt s' c = 69
      · rw [if_pos hE] at hde ⊢
        have hc1 : c + 1 < s'.size := by
          by_cases k : c + 1 < s'.size
          · exact k
          · exfalso
            have e3 : byt s' (c + 1) = 0 := byt_end (by omega)
            rw [e3] at hde
            dsimp only at hde
            rw [if_neg (show ¬ ((0 : Int) = 43 ∨ (0 : Int) = 45) by decide), dg_stop (by rw [e3]; decide), if_pos rfl] at hde
            rw [hde] at hE
            omega
        rw [h.eq (c + 1) hc1]
        obtain ⟨c5, hc5⟩ : ∃ c5, c5 = if byt s' (c + 1) = 43 ∨ byt s' (c + 1) = 45 then c + 2 else c + 1 := ⟨_, rfl⟩
        dsimp only at hde ⊢
        rw [← hc5] at hde ⊢
        by_cases hz : dg s' c5 = c5
        · rw [if_pos hz] at hde
          exfalso
          rw [hde] at hE
          omega
        · rw [if_neg hz] at hde
          have hx := ext_dg h _ c5 _ (Nat.le_refl _) rfl (show dg s' c5 < s'.size by omega)
          rw [hx, if_neg hz]
          exact hde
      · rw [if_neg hE] at hde ⊢
        exact hde
    rw [hib, Rs.bind_ok]
    dsimp only
    rw [hfr, hex, ext_extract h (by omega)]
    rw [hde] at e
    exact e
end Go.Proofs.YtoicmcjpaodgpaaDoor
