/- Plain facts for layer 14: what 'whole' reads of a Decimal's digits; digits byte by byte. -/
import Derived.Test.YtiikohbnfbpjeaaDoorMU
namespace Go.Proofs.YtiikohbnfbpjeaaDoor
open Go.Lib
theorem byt_head {l : List UInt8} (h : byt ⟨l.toArray⟩ 0 = 48) : l.head? = some 48 := by
  rw [byt_mk] at h
  cases l with
  | nil => simp at h
  | cons c l =>
    simp at h
    rw [List.head?_cons]
    congr 1
    exact UInt8.toNat_inj.1 (by have h48 : (48 : UInt8).toNat = 48 := rfl; omega)
theorem bare_plain (l : List UInt8) (h : digs l = true) (h0 : l ≠ []) : bare ⟨l.toArray⟩ = ⟨l.toArray⟩ ∧ sgn ⟨l.toArray⟩ = 1 := by
  have hn : isNeg ⟨l.toArray⟩ = false := by
    unfold isNeg
    cases l with
    | nil => exact absurd rfl h0
    | cons c l =>
      unfold digs at h
      have := List.all_eq_true.1 h c List.mem_cons_self
      rw [byt_mk]
      have : ¬ ((c.toNat : Int) = 45) := by unfold isD at this; simp at this; omega
      simp [this]
  unfold bare sgn
  rw [hn]
  exact ⟨rfl, rfl⟩
theorem areD_digs (l : List UInt8) (h : digs l = true) (h0 : l ≠ []) (h1 : l.head? ≠ some 48) : areD ⟨l.toArray⟩ = true :=
  areD_list l (List.length_pos_iff.2 h0) (fun q => absurd (byt_head q) h1) (by rw [allL_digs]; exact h)
/-- What 'whole' reads of digits without noughts ahead. -/
theorem read_sg (b : Bool) (T : List UInt8) (h : digs T = true) (h0 : T ≠ []) (h1 : T.head? ≠ some 48) (z : Int) (hz : z = if b then -num T else num T) :
    (in64 z = true → rdV ⟨(sgL b ++ T).toArray⟩ = z ∧ rdE ⟨(sgL b ++ T).toArray⟩ = 0) ∧ (in64 z = false → rdE ⟨(sgL b ++ T).toArray⟩ = 20) := by
  have hA := areD_digs T h h0 h1
  have hv : valD ⟨T.toArray⟩ (⟨T.toArray⟩ : ByteArray).size = num T := valL_num T
  have key : areD (bare ⟨(sgL b ++ T).toArray⟩) = true ∧ rdZ ⟨(sgL b ++ T).toArray⟩ = z := by
    cases b
    · obtain ⟨e1, e2⟩ := bare_plain T h h0
      have e : sgL false ++ T = T := rfl
      rw [e, e1]
      refine ⟨hA, ?_⟩
      unfold rdZ
      rw [e1, e2, hv, hz]; rfl
    · obtain ⟨e1, e2⟩ := bare_minus T
      have e : sgL true ++ T = 45 :: T := rfl
      rw [e, e1]
      refine ⟨hA, ?_⟩
      unfold rdZ
      rw [e1, e2, hv, hz]; rfl
  unfold rdV rdE
  rw [key.1, key.2]
  constructor
  · intro k
    rw [in64_iff] at k
    exact ⟨val_yes k.1 (by omega), err_yes k.1 (by omega)⟩
  · intro k
    refine err_no ?_
    have : ¬ (in64 z = true) := by rw [k]; decide
    rw [in64_iff] at this
    omega
theorem digs_take_succ (s : ByteArray) (k : Nat) (h : k < s.size) : digs (s.data.toList.take (k + 1)) = (digs (s.data.toList.take k) && isD s[k]) := by
  have : s.data.toList.take (k + 1) = s.data.toList.take k ++ [s[k]] := by
    rw [List.take_succ_eq_append_getElem (by simpa using h)]; rfl
  rw [this, digs_app]
  simp [digs]
theorem digs_no (s : ByteArray) (k : Nat) (h : k < s.size) (h0 : isD s[k] = false) : digs s.data.toList = false := by
  have e : s.data.toList = s.data.toList.take (k + 1) ++ s.data.toList.drop (k + 1) := (List.take_append_drop _ _).symm
  rw [e, digs_app, digs_take_succ s k h, h0]; simp
theorem areDi_no {l : List UInt8} (h : digs l = false) : areDi l = false := by unfold areDi; rw [h]; rfl
theorem isD_int (c : UInt8) (x : Int) (h : (c.toNat : Int) = x) : isD c = (decide (48 ≤ x) && decide (x ≤ 57)) := by
  subst h
  unfold isD
  congr 1 <;> (rw [decide_eq_decide]; omega)
theorem empty_size (s : ByteArray) : s.data.toList.isEmpty = decide (s.size = 0) := by
  rw [Bool.eq_iff_iff, decide_eq_true_eq, Lib.size_eq, List.isEmpty_iff, List.length_eq_zero_iff]
/-- The way of 'Parse' behind the digits. -/
theorem pOk_first (l : List UInt8) (h : pOk l = true) : trimLeftB (pA l ++ pB l) 48 = [] → pNum l = 0 ∧ pGood l = true ∧ pM l = 0 ∧ pS l = 0 ∧ pE l = 0 := by
  intro ht
  have hn : num (pA l ++ pB l) = 0 := trim_nil _ ht
  have hp : pNum l = 0 := by unfold pNum; rw [hn]; split <;> rfl
  have hg : pGood l = true := by unfold pGood; rw [h, hp]; rfl
  refine ⟨hp, hg, ?_, ?_, ?_⟩
  · unfold pM; rw [hg, hp, norm_nought]; rfl
  · unfold pS; rw [hg, hp, norm_nought]; rfl
  · unfold pE; rw [hg]; rfl
theorem pOk_read (l : List UInt8) (h : pOk l = true) (ht : trimLeftB (pA l ++ pB l) 48 ≠ []) :
    (in64 (pNum l) = true → rdV ⟨(sgL (pNeg l) ++ trimLeftB (pA l ++ pB l) 48).toArray⟩ = pNum l ∧ rdE ⟨(sgL (pNeg l) ++ trimLeftB (pA l ++ pB l) 48).toArray⟩ = 0) ∧ (in64 (pNum l) = false → rdE ⟨(sgL (pNeg l) ++ trimLeftB (pA l ++ pB l) 48).toArray⟩ = 20) := by
  obtain ⟨d1, -, d2, -⟩ := pOk_parts h
  refine read_sg (pNeg l) _ (trim_digs _ (by rw [digs_app, d1, d2]; rfl)) ht (trim_first _) _ ?_
  rw [num_trim]; rfl
theorem p_bad {l : List UInt8} (h : pGood l = false) : pM l = 0 ∧ pS l = 0 ∧ pE l = 140 := by
  unfold pM pS pE; rw [h]; exact ⟨rfl, rfl, rfl⟩
theorem p_fine {l : List UInt8} (h : pGood l = true) : pM l = (norm (pNum l) (pB l).length).1 ∧ pS l = ((norm (pNum l) (pB l).length).2 : Nat) ∧ pE l = 0 := by
  unfold pM pS pE; rw [h]; exact ⟨rfl, rfl, rfl⟩
end Go.Proofs.YtiikohbnfbpjeaaDoor
