/- Layer 6: numbers sorted and each once are the document's turns. -/
import Derived.Test.YtlngdohkoeognaaBB
namespace Go.Proofs.Ytlngdohkoeognaa
open Go.RowKit Go.Maps
theorem arr_gI (zs : List Int) (j : Nat) : zs.toArray[j]! = gI zs j := by
  unfold gI
  rw [List.getElem!_toArray, List.getElem!_eq_getElem?_getD, List.getD_eq_getElem?_getD]
  rfl
theorem keeps_iff (zs : List Int) (j : Nat) : Lib.keeps zs.toArray j = true ↔ (j = 0 ∨ gI zs j ≠ gI zs (j - 1)) := by
  unfold Lib.keeps
  rw [decide_eq_true_eq, arr_gI, arr_gI]
theorem compact_mem {zs : List Int} {x : Int} : x ∈ Lib.compact zs ↔ x ∈ zs := by
  unfold Lib.compact Lib.compactUpTo
  rw [List.mem_map]
  constructor
  · rintro ⟨j, hj, rfl⟩
    have h1 := List.mem_range.1 (List.mem_filter.1 hj).1
    rw [arr_gI]
    exact gI_mem h1
  · intro hx
    obtain ⟨j, hj, rfl⟩ := List.mem_iff_getElem.1 hx
    have key : ∀ k, k < zs.length → ∃ i, i ∈ (List.range zs.length).filter (Lib.keeps zs.toArray) ∧ gI zs i = gI zs k := by
      intro k
      induction k with
      | zero => intro hk; exact ⟨0, List.mem_filter.2 ⟨List.mem_range.2 hk, (keeps_iff zs 0).2 (.inl rfl)⟩, rfl⟩
      | succ k ih =>
        intro hk
        by_cases he : gI zs (k + 1) = gI zs k
        · obtain ⟨i, h1, h2⟩ := ih (by omega)
          exact ⟨i, h1, by rw [h2, he]⟩
        · exact ⟨k + 1, List.mem_filter.2 ⟨List.mem_range.2 hk, (keeps_iff zs (k + 1)).2 (.inr he)⟩, rfl⟩
    obtain ⟨i, h1, h2⟩ := key j hj
    refine ⟨i, h1, ?_⟩
    rw [arr_gI, h2]
    have g := gI_get hj
    rw [List.getElem?_eq_getElem hj] at g
    simp only [Option.some.injEq] at g
    exact g.symm
theorem sorted_le {zs : List Int} (h : zs.Pairwise (· ≤ ·)) {i j : Nat} (hij : i ≤ j) (hj : j < zs.length) : gI zs i ≤ gI zs j := by
  rcases Nat.lt_or_eq_of_le hij with h1 | h1
  · have := (List.pairwise_iff_getElem.1 h) i j (by omega) hj h1
    have a := gI_get (L := zs) (i := i) (by omega)
    have b := gI_get hj
    rw [List.getElem?_eq_getElem (by omega)] at a
    rw [List.getElem?_eq_getElem hj] at b
    simp only [Option.some.injEq] at a b
    rw [← a, ← b]
    exact this
  · rw [h1]; exact Int.le_refl _
theorem compact_up {zs : List Int} (h : zs.Pairwise (· ≤ ·)) : (Lib.compact zs).Pairwise (· < ·) := by
  unfold Lib.compact Lib.compactUpTo
  rw [List.pairwise_map, List.pairwise_filter]
  refine List.Pairwise.imp_of_mem ?_ (List.pairwise_lt_range (n := zs.length))
  intro i j _ hj hij _ hk
  rw [arr_gI, arr_gI]
  have hj' := List.mem_range.1 hj
  have h1 := sorted_le h (i := i) (j := j - 1) (by omega) (by omega)
  have h2 := sorted_le h (i := j - 1) (j := j) (by omega) hj'
  rcases (keeps_iff zs j).1 hk with h3 | h3
  · omega
  · omega
theorem cut_same (S : List (List Rg)) : cutR S = cutD S := by
  unfold cutR cutD
  by_cases h1 : 256 < S.length
  · rw [if_pos h1, if_pos h1]
  · rw [if_neg h1, if_neg h1]
    by_cases h2 : S.all ckL = true
    · rw [if_pos h2, if_pos h2]
      have hc : ∀ L ∈ S, Cn 0 L := fun L hL => (ck_cn (List.all_eq_true.1 h2 L hL)).2
      obtain ⟨t1, t2⟩ := trn_ok S hc
      congr 1
      refine up_one (compact_up ?_) t1 (fun x => ?_)
      · have := List.pairwise_mergeSort (le := fun x y : Int => decide (x ≤ y)) (fun a b c h1 h2 => by simp at *; omega) (fun a b => by simp; omega) (cutE S)
        exact this.imp (fun h => by simpa using h)
      · rw [compact_mem, List.mem_mergeSort, cutE_mem S hc, t2]
    · rw [if_neg h2, if_neg h2]
end Go.Proofs.Ytlngdohkoeognaa
