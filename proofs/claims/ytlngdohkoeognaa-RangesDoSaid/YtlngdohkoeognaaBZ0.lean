/- Layer 6: how long sets of sets are. -/
import Derived.Test.YtlngdohkoeognaaBN
namespace Go.Proofs.Ytlngdohkoeognaa
open Go.RowKit Go.Maps
theorem uniC_len {L : List Rg} (hok : ∀ r ∈ L, okR r = true) : (uniC L).length ≤ L.length := by
  have hp : (L.mergeSort fun a b => decide (a.1 ≤ b.1)).Perm L := List.mergeSort_perm _ _
  have hs' : (L.mergeSort fun a b => decide (a.1 ≤ b.1)).Pairwise (fun a b => a.1 ≤ b.1) := by
    have := List.pairwise_mergeSort (le := fun a b : Rg => decide (a.1 ≤ b.1)) (fun a b c => by simp; omega) (fun a b => by simp; omega) L
    exact this.imp (fun h => by simpa using h)
  have hok' : ∀ r ∈ L.mergeSort fun a b => decide (a.1 ≤ b.1), okR r = true := fun r hr => hok r (hp.mem_iff.1 hr)
  obtain ⟨k1, k2⟩ := uni_ok hok' hs'
  have e := cn_uniC hok k1 (fun n => by rw [k2, hs_perm hp])
  rw [← e]
  have := uni_len (L.mergeSort fun a b => decide (a.1 ≤ b.1))
  rw [hp.length_eq] at this
  exact this
theorem orC_len {A B : List Rg} (ha : ∀ r ∈ A, okR r = true) (hb : ∀ r ∈ B, okR r = true) : (orC A B).length ≤ A.length + B.length := by
  obtain ⟨u1, u2⟩ := uniC_ok (app_ok ha hb)
  rw [← cn_orC ha hb u1 u2]
  have := uniC_len (app_ok ha hb)
  rw [List.length_append] at this
  exact this
theorem notC_len {A : List Rg} (hA : Cn 0 A) : (notC A).length ≤ A.length + 1 := by rw [← gap_notC hA]; exact gap_len hA
theorem andC_len {A B : List Rg} (hA : Cn 0 A) (hB : Cn 0 B) : (andC A B).length ≤ A.length + B.length + 3 := by
  have g1 := (gap_ok A 0 0 hA (Int.le_refl _) (by omega)).1
  have g2 := (gap_ok B 0 0 hB (Int.le_refl _) (by omega)).1
  have o1 := cn_ok (Int.le_refl _) g1
  have o2 := cn_ok (Int.le_refl _) g2
  obtain ⟨u1, u2⟩ := uniC_ok (app_ok o1 o2)
  rw [← cn_andC hA hB u1 u2]
  have h1 := gap_len u1
  have h2 := uniC_len (app_ok o1 o2)
  rw [List.length_append] at h2
  have h3 := gap_len hA
  have h4 := gap_len hB
  omega
end Go.Proofs.Ytlngdohkoeognaa
