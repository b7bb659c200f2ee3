/- Plain facts for layer 14: how the document's own answer takes a text apart. -/
import Derived.Test.YtiikohbnfbpjeaaDoorMV
namespace Go.Proofs.YtiikohbnfbpjeaaDoor
open Go.Lib
/-- Where the first point stands; the length, if there is none. -/
def fp : List UInt8 → Nat
  | [] => 0
  | c :: l => if c = 46 then 0 else fp l + 1
theorem fp_none : ∀ l : List UInt8, (46 : UInt8) ∉ l → fp l = l.length
  | [], _ => rfl
  | c :: l, h => by
    unfold fp
    rw [if_neg (fun e => h (by rw [e]; exact List.mem_cons_self)), fp_none l (fun e => h (List.mem_cons_of_mem _ e))]; rfl
theorem fp_at : ∀ a b : List UInt8, (46 : UInt8) ∉ a → fp (a ++ 46 :: b) = a.length
  | [], _, _ => by simp [fp]
  | c :: a, b, h => by
    rw [List.cons_append]
    unfold fp
    rw [if_neg (fun e => h (by rw [e]; exact List.mem_cons_self)), fp_at a b (fun e => h (List.mem_cons_of_mem _ e))]; rfl
theorem bare_sg (l : List UInt8) : l = sgL (pNeg l) ++ pBare l := by
  unfold pNeg pBare trimPrefix
  cases h : hasPrefix l [45]
  · simp [sgL]
  · cases l with
    | nil => simp [hasPrefix, List.isPrefixOf] at h
    | cons c l =>
      simp [hasPrefix, List.isPrefixOf] at h
      subst h
      simp [sgL]
theorem sg_no_point (b : Bool) : (46 : UInt8) ∉ sgL b := by cases b <;> simp [sgL]
/-- The text in its parts. -/
theorem rp_parts (l : List UInt8) : (pPt l = false ∧ fp l = l.length ∧ l = sgL (pNeg l) ++ pA l ∧ pB l = []) ∨ (pPt l = true ∧ fp l < l.length ∧ l.take (fp l) = sgL (pNeg l) ++ pA l ∧ l.drop (fp l + 1) = pB l ∧ l.length - fp l - 1 = (pB l).length) := by
  have hb := bare_sg l
  obtain ⟨d, hd⟩ : ∃ d, d = pBare l := ⟨_, rfl⟩
  rw [← hd] at hb
  have eA : pA l = (cut d [46]).1 := by rw [hd]; rfl
  have eB : pB l = (cut d [46]).2.1 := by rw [hd]; rfl
  have eP : pPt l = (cut d [46]).2.2 := by rw [hd]; rfl
  rcases cut_ways d 46 with ⟨h, c⟩ | ⟨a, b, h, h1, c⟩
  · left
    rw [c] at eA eB eP
    refine ⟨eP, ?_, by rw [eA]; exact hb, eB⟩
    refine fp_none l ?_
    rw [hb]
    intro q
    exact (List.mem_append.1 q).elim (sg_no_point _) h
  · right
    rw [c] at eA eB eP
    have e : l = (sgL (pNeg l) ++ a) ++ 46 :: b := by rw [List.append_assoc, ← h]; exact hb
    obtain ⟨x, hx⟩ : ∃ x, x = sgL (pNeg l) ++ a := ⟨_, rfl⟩
    have hn : (46 : UInt8) ∉ x := by
      rw [hx]; intro q
      exact (List.mem_append.1 q).elim (sg_no_point _) h1
    rw [← hx] at e
    have hf : fp l = x.length := by rw [e]; exact fp_at _ _ hn
    have hl : l.length = x.length + (b.length + 1) := by rw [e, List.length_append, List.length_cons]
    have e1 : l.take x.length = x := (congrArg (List.take x.length) e).trans (by simp)
    have e2 : l.drop (x.length + 1) = b := (congrArg (List.drop (x.length + 1)) e).trans (by simp)
    refine ⟨eP, by omega, ?_, ?_, ?_⟩
    · rw [hf, e1, hx, eA]
    · rw [hf, e2, eB]
    · rw [eB, hf, hl]
      show _ = b.length
      omega
/-- What 'Read' looks at ahead of the point. -/
theorem okA_areD (l : List UInt8) : areD ⟨l.toArray⟩ = okA l := by
  rw [Bool.eq_iff_iff]
  constructor
  · intro h
    obtain ⟨h1, h2, h3⟩ := areD_parts h
    have hsz : (⟨l.toArray⟩ : ByteArray).size = l.length := rfl
    rw [hsz] at h1 h2 h3
    have hd : digs l = true := by rw [← allL_digs]; exact h3
    have hne : l ≠ [] := List.length_pos_iff.1 h1
    unfold okA areDi
    rw [hd]
    simp only [Bool.true_and, Bool.and_eq_true, Bool.not_eq_true', List.isEmpty_eq_false_iff]
    refine ⟨hne, ?_⟩
    by_cases h48 : l.head? = some 48
    · have hl := h2 (head_byt l h48)
      obtain ⟨c, rfl⟩ := List.length_eq_one_iff.1 hl
      simp at h48
      subst h48
      rfl
    · simp [h48]
  · intro h
    obtain ⟨hd, hne⟩ := okA_parts h
    refine areD_list l (List.length_pos_iff.2 hne) (fun q => ?_) (by rw [allL_digs]; exact hd)
    have h48 := byt_head q
    unfold okA at h
    simp only [Bool.and_eq_true] at h
    have h2 := h.2
    rw [h48] at h2
    simp at h2
    rw [h2]; rfl
theorem bare_of_A (l : List UInt8) : bare ⟨(sgL (pNeg l) ++ pA l).toArray⟩ = ⟨(pA l).toArray⟩ := by
  cases h : pNeg l
  · have e : sgL false ++ pA l = pA l := rfl
    rw [e]
    have hn : isNeg ⟨(pA l).toArray⟩ = false := by
      unfold isNeg
      rw [byt_mk]
      cases ha : pA l with
      | nil => rfl
      | cons c r =>
        have hc : c ≠ 45 := by
          intro q
          subst q
          have hb : pBare l = l := by unfold pBare trimPrefix; unfold pNeg at h; rw [h]; rfl
          rcases rp_parts l with ⟨-, -, g, -⟩ | ⟨-, -, g, -, -⟩
          · rw [h, e, ha] at g
            unfold pNeg at h
            rw [g] at h
            simp [hasPrefix, List.isPrefixOf] at h
          · rw [h, e, ha] at g
            unfold pNeg at h
            cases l with
            | nil => simp at g
            | cons x l =>
              cases hf : fp (x :: l) with
              | zero => rw [hf] at g; simp at g
              | succ n =>
                rw [hf, List.take_succ_cons] at g
                have := (List.cons.inj g).1
                subst this
                simp [hasPrefix, List.isPrefixOf] at h
        have : ¬ ((c.toNat : Int) = 45) := fun q => hc (UInt8.toNat_inj.1 (by have h45 : (45 : UInt8).toNat = 45 := rfl; omega))
        simp [this]
    unfold bare
    rw [hn]; rfl
  · exact (bare_minus (pA l)).1
theorem rdE_A (l : List UInt8) : rdE ⟨(sgL (pNeg l) ++ pA l).toArray⟩ = 21 ↔ okA (pA l) = false := by
  unfold rdE
  rw [bare_of_A, okA_areD]
  cases okA (pA l)
  · simp
  · simp only [if_true]
    rcases err_two (rdZ ⟨(sgL (pNeg l) ++ pA l).toArray⟩) with h | h <;> rw [h] <;> simp
/-- Noughts ahead taken off, but the last byte. -/
def stz : List UInt8 → List UInt8
  | [] => []
  | [c] => [c]
  | c :: d :: l => if c = 48 then stz (d :: l) else c :: d :: l
theorem stz_more (c d : UInt8) (l : List UInt8) (h : c = 48) : stz (c :: d :: l) = stz (d :: l) := by rw [stz, if_pos h]
theorem stz_stop (c d : UInt8) (l : List UInt8) (h : c ≠ 48) : stz (c :: d :: l) = c :: d :: l := by rw [stz, if_neg h]
theorem stz_trim : ∀ l : List UInt8, digs l = true → l ≠ [] → stz l = if trimLeftB l 48 = [] then [48] else trimLeftB l 48
  | [], _, h => absurd rfl h
  | [c], _, _ => by
    unfold trimLeftB
    by_cases h : c = 48
    · subst h; rfl
    · rw [List.dropWhile_cons_of_neg (by simpa using h)]; rfl
  | c :: d :: l, hd, _ => by
    by_cases h : c = 48
    · rw [stz_more c d l h]
      have e : trimLeftB (c :: d :: l) 48 = trimLeftB (d :: l) 48 := by unfold trimLeftB; rw [List.dropWhile_cons_of_pos (by simpa using h)]
      rw [e]
      have hd2 : digs (d :: l) = true := by
        unfold digs at hd ⊢
        rw [List.all_cons] at hd
        simp only [Bool.and_eq_true] at hd
        exact hd.2
      exact stz_trim (d :: l) hd2 (by simp)
    · rw [stz_stop c d l h]
      have e : trimLeftB (c :: d :: l) 48 = c :: d :: l := by unfold trimLeftB; rw [List.dropWhile_cons_of_neg (by simpa using h)]
      rw [e]; simp
/-- What the document's own answer reads in the end. -/
theorem stz_read (l : List UInt8) (h : pOk l = true) :
    (in64 (pNum l) = true → rdV ⟨(sgL (pNeg l) ++ stz (pA l ++ pB l)).toArray⟩ = pNum l ∧ rdE ⟨(sgL (pNeg l) ++ stz (pA l ++ pB l)).toArray⟩ = 0) ∧ (in64 (pNum l) = false → rdE ⟨(sgL (pNeg l) ++ stz (pA l ++ pB l)).toArray⟩ = 20) := by
  obtain ⟨d1, d2, d3, -⟩ := pOk_parts h
  have hd : digs (pA l ++ pB l) = true := by rw [digs_app, d1, d3]; rfl
  have hne : pA l ++ pB l ≠ [] := by simp [d2]
  rw [stz_trim _ hd hne]
  by_cases ht : trimLeftB (pA l ++ pB l) 48 = []
  · rw [if_pos ht]
    have hp := (pOk_first l h ht).1
    rw [hp]
    refine ⟨fun _ => ?_, fun q => by simp [in64] at q⟩
    cases pNeg l <;> exact ⟨by decide +kernel, by decide +kernel⟩
  · rw [if_neg ht]
    exact pOk_read l h ht
end Go.Proofs.YtiikohbnfbpjeaaDoor
