/- Plain facts for layer 5: sorted, each once. No program in sight. -/
import Derived.Test.YtcnafgelfkfekaaPlain2
namespace Go.Proofs.Ytcnafgelfkfekaa
open Go.RowKit

def inL (L : List ByteArray) (s : ByteArray) : Prop := ∃ j, j < L.length ∧ nth L j = s
theorem inL_mem {L : List ByteArray} {s : ByteArray} : inL L s ↔ s ∈ L := by
  constructor
  · rintro ⟨j, hj, rfl⟩
    unfold nth
    rw [List.getD, List.getElem?_eq_getElem hj]
    exact List.getElem_mem hj
  · intro h
    obtain ⟨j, hj, rfl⟩ := List.getElem_of_mem h
    exact ⟨j, hj, by unfold nth; rw [List.getD, List.getElem?_eq_getElem hj]; rfl⟩
theorem rises_mono {L : List ByteArray} (h : rises L (L.length - 1) = true) {i j : Nat} (hij : i < j) (hj : j < L.length) : cmpB (nth L i) (nth L j) < 0 :=
  rises_lt j hij (rises_le (by omega) h)
theorem cmp_asymm {a b : ByteArray} (h : cmpB a b < 0) : ¬ cmpB b a < 0 := by
  rw [cmp_swap]; omega
theorem cmp_lt_le {a b c : ByteArray} (h1 : cmpB a b < 0) (h2 : cmpB b c ≤ 0) : cmpB a c < 0 := by
  have := cmp_trans a b c (by omega) h2
  omega
theorem cmp_le_lt {a b c : ByteArray} (h1 : cmpB a b ≤ 0) (h2 : cmpB b c < 0) : cmpB a c < 0 := by
  have := cmp_trans a b c h1 (by omega)
  omega
/-- Two rising lists of the same strings are one. -/
theorem rises_uniq {L M : List ByteArray} (hL : rises L (L.length - 1) = true) (hM : rises M (M.length - 1) = true) (h : ∀ s, inL L s ↔ inL M s) : L = M := by
  have key : ∀ (L M : List ByteArray), rises L (L.length - 1) = true → rises M (M.length - 1) = true → (∀ s, inL L s ↔ inL M s) → ∀ k, k < L.length → k < M.length ∧ nth L k = nth M k := by
    intro L M hL hM h k
    induction k using Nat.strongRecOn with
    | ind k ih =>
      intro hk
      obtain ⟨j, hj, hjk⟩ := (h (nth L k)).1 ⟨k, hk, rfl⟩
      -- j is at least k
      have h1 : k ≤ j := by
        apply Nat.le_of_not_lt
        intro hlt
        have := (ih j hlt (by omega)).2
        rw [hjk] at this
        have h2 := rises_mono hL hlt hk
        rw [this] at h2
        have := (cmp_zero (nth L k) (nth L k)).2 rfl
        omega
      refine ⟨by omega, ?_⟩
      by_cases e : j = k
      · rw [← e, hjk, e]
      · exfalso
        have hlt : k < j := by omega
        obtain ⟨i, hi, hik⟩ := (h (nth M k)).2 ⟨k, by omega, rfl⟩
        have hm := rises_mono hM hlt hj
        rw [hjk, ← hik] at hm
        -- nth L i < nth L k, so i < k
        have hi2 : i < k := by
          apply Nat.lt_of_not_le
          intro hle
          by_cases e2 : i = k
          · rw [e2] at hm
            have := (cmp_zero (nth L k) (nth L k)).2 rfl
            omega
          · have := rises_mono hL (show k < i by omega) hi
            exact cmp_asymm hm this
        have h3 := (ih i hi2 hi)
        have h4 := rises_mono hM hi2 (by omega)
        rw [← h3.2, hik] at h4
        have := (cmp_zero (nth M k) (nth M k)).2 rfl
        omega
  have hl : L.length = M.length := by
    apply Nat.le_antisymm
    · by_cases h0 : L.length = 0
      · omega
      · have := (key L M hL hM h (L.length - 1) (by omega)).1; omega
    · by_cases h0 : M.length = 0
      · omega
      · have := (key M L hM hL (fun s => (h s).symm) (M.length - 1) (by omega)).1; omega
  apply List.ext_getElem hl
  intro k h1 h2
  have := (key L M hL hM h k h1).2
  unfold nth at this
  rw [List.getD, List.getD, List.getElem?_eq_getElem h1, List.getElem?_eq_getElem h2] at this
  exact this
/-- What the walk keeps of a sorted list: each string once. -/
def ddk (S : List ByteArray) : Nat → List ByteArray
  | 0 => []
  | k + 1 => if k = 0 ∨ nth S k ≠ nth S (k - 1) then ddk S k ++ [nth S k] else ddk S k
theorem ddk_len (S : List ByteArray) : ∀ k, (ddk S k).length ≤ k
  | 0 => Nat.le_refl _
  | k + 1 => by
    have := ddk_len S k
    simp only [ddk]
    split
    · simp; omega
    · omega
theorem nth_append_last (A : List ByteArray) (x : ByteArray) : nth (A ++ [x]) A.length = x := by
  unfold nth; simp
theorem nth_append_lt (A : List ByteArray) (x : ByteArray) {j : Nat} (h : j < A.length) : nth (A ++ [x]) j = nth A j := by
  unfold nth; simp [List.getD, List.getElem?_append_left h]
theorem ddk_inv {S : List ByteArray} (hs : ∀ i j, i ≤ j → j < S.length → cmpB (nth S i) (nth S j) ≤ 0) : ∀ k, k ≤ S.length →
    rises (ddk S k) ((ddk S k).length - 1) = true ∧ (∀ s, inL (ddk S k) s ↔ ∃ j, j < k ∧ nth S j = s) ∧ (0 < k → 0 < (ddk S k).length ∧ nth (ddk S k) ((ddk S k).length - 1) = nth S (k - 1)) := by
  intro k
  induction k with
  | zero =>
    intro _
    refine ⟨rfl, fun s => ⟨?_, ?_⟩, fun h => absurd h (Nat.lt_irrefl 0)⟩
    · rintro ⟨j, hj, _⟩; simp [ddk] at hj
    · rintro ⟨j, hj, _⟩; omega
  | succ k ih =>
    intro hk
    obtain ⟨h1, h2, h3⟩ := ih (by omega)
    simp only [ddk]
    by_cases hc : k = 0 ∨ nth S k ≠ nth S (k - 1)
    · rw [if_pos hc]
      refine ⟨?_, ?_, fun _ => ?_⟩
      · apply rises_of
        intro j hj
        simp only [List.length_append, List.length_singleton] at hj
        by_cases e : j + 1 = (ddk S k).length
        · rw [e, nth_append_last, nth_append_lt _ _ (by omega)]
          have k0 : 0 < k := by
            apply Nat.pos_of_ne_zero
            intro hz; subst hz; simp [ddk] at e
          have h4 := (h3 k0).2
          rw [show (ddk S k).length - 1 = j by omega] at h4
          rw [h4]
          have hle := hs (k - 1) k (by omega) (by omega)
          have hne : nth S k ≠ nth S (k - 1) := by
            rcases hc with hz | hne
            · omega
            · exact hne
          have : cmpB (nth S (k - 1)) (nth S k) ≠ 0 := fun e0 => hne ((cmp_zero _ _).1 e0).symm
          omega
        · rw [nth_append_lt _ _ (by omega), nth_append_lt _ _ (by omega)]
          exact rises_at h1 (by omega)
      · intro s
        rw [inL_mem, List.mem_append, List.mem_singleton, ← inL_mem, h2 s]
        constructor
        · rintro (⟨j, hj, e⟩ | e)
          · exact ⟨j, by omega, e⟩
          · exact ⟨k, by omega, e.symm⟩
        · rintro ⟨j, hj, e⟩
          by_cases ejk : j = k
          · right; rw [← e, ejk]
          · left; exact ⟨j, by omega, e⟩
      · refine ⟨by simp, ?_⟩
        rw [show (ddk S k ++ [nth S k]).length - 1 = (ddk S k).length by simp, nth_append_last, Nat.add_sub_cancel]
    · rw [if_neg hc]
      have hk0 : k ≠ 0 := fun e => hc (.inl e)
      have heq : nth S k = nth S (k - 1) := Classical.byContradiction fun e => hc (.inr e)
      refine ⟨h1, fun s => ?_, fun _ => ?_⟩
      · rw [h2 s]
        constructor
        · rintro ⟨j, hj, e⟩; exact ⟨j, by omega, e⟩
        · rintro ⟨j, hj, e⟩
          by_cases ejk : j = k
          · exact ⟨k - 1, by omega, by rw [← heq, ← ejk]; exact e⟩
          · exact ⟨j, by omega, e⟩
      · have := h3 (by omega)
        exact ⟨this.1, by rw [this.2, Nat.add_sub_cancel, heq]⟩
def leB (x y : ByteArray) : Bool := decide (cmpB x y ≤ 0)
def srt (L : List ByteArray) : List ByteArray := L.mergeSort leB
theorem leB_trans (a b c : ByteArray) (h1 : leB a b = true) (h2 : leB b c = true) : leB a c = true := by
  unfold leB at *
  simp only [decide_eq_true_eq] at *
  have := cmp_trans a b c h1 h2
  omega
theorem leB_total (a b : ByteArray) : (leB a b || leB b a) = true := by
  unfold leB
  have := cmp_swap a b
  simp only [Bool.or_eq_true, decide_eq_true_eq]
  omega
theorem srt_len (L : List ByteArray) : (srt L).length = L.length := List.length_mergeSort L
theorem srt_sorted (L : List ByteArray) : ∀ i j, i ≤ j → j < (srt L).length → cmpB (nth (srt L) i) (nth (srt L) j) ≤ 0 := by
  have h := List.pairwise_mergeSort leB_trans leB_total L
  intro i j hij hj
  by_cases e : i = j
  · subst e
    have := (cmp_zero (nth (srt L) i) (nth (srt L) i)).2 rfl
    omega
  · have := List.pairwise_iff_getElem.1 h i j (by unfold srt at hj; omega) hj (by omega)
    unfold leB at this
    simp only [decide_eq_true_eq] at this
    unfold nth
    rw [List.getD, List.getD, List.getElem?_eq_getElem (show i < (srt L).length by omega), List.getElem?_eq_getElem hj]
    exact this
def sortL (L : List ByteArray) : List ByteArray := ddk (srt L) (srt L).length
theorem sort_len (L : List ByteArray) : (sortL L).length ≤ L.length := by
  have := ddk_len (srt L) (srt L).length
  rw [srt_len] at this
  unfold sortL; rw [srt_len]; exact this
theorem sort_ok (L : List ByteArray) (h : L.length ≤ 4096) : chE (sortL L) = 0 := by
  have h1 := (ddk_inv (srt_sorted L) _ (Nat.le_refl _)).1
  have h2 := sort_len L
  unfold chE
  rw [if_neg (by omega)]
  unfold sortL
  rw [if_pos h1]
theorem sort_in (L : List ByteArray) (s : ByteArray) : inL (sortL L) s ↔ inL L s := by
  have h2 := (ddk_inv (srt_sorted L) _ (Nat.le_refl _)).2.1 s
  unfold sortL
  rw [h2]
  have : (∃ j, j < (srt L).length ∧ nth (srt L) j = s) ↔ inL (srt L) s := Iff.rfl
  rw [this, inL_mem, inL_mem]
  exact List.mem_mergeSort
theorem sort_uniq {L M : List ByteArray} (hL : L.length ≤ 4096) (hM : chE M = 0) (h : ∀ s, inL M s ↔ inL L s) : M = sortL L :=
  rises_uniq (chOk hM).2 (chOk (sort_ok L hL)).2 (fun s => (h s).trans (sort_in L s).symm)
theorem sort_idem (L : List ByteArray) (h : L.length ≤ 4096) : sortL (sortL L) = sortL L :=
  (sort_uniq (by have := sort_len L; omega) (sort_ok L h) (fun _ => Iff.rfl)).symm
end Go.Proofs.Ytcnafgelfkfekaa
