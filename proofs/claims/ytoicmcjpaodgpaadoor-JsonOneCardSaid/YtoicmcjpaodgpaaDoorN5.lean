/- Layer 2: a number's digits tell it (as in whole's Plain3). -/
import Derived.Test.YtoicmcjpaodgpaaDoorK6
import Derived.Lib.ItoaMem
namespace Go.Proofs.YtoicmcjpaodgpaaDoor.Nm
open Go.RowKit Go.Lib
theorem byt_mk (l : List UInt8) (k : Nat) : byt ⟨l.toArray⟩ k = ((l.getD k 0).toNat : Int) := by
  unfold byt
  have hsz : (⟨l.toArray⟩ : ByteArray).size = l.length := rfl
  by_cases h : k < l.length
  · rw [dif_pos (by rw [hsz]; exact h)]
    have : (⟨l.toArray⟩ : ByteArray)[k]'(by rw [hsz]; exact h) = l[k] := rfl
    rw [this]; simp [List.getD, h]
  · rw [dif_neg (by rw [hsz]; exact h)]; simp [List.getD, h]
theorem byt_app (l m : List UInt8) (k : Nat) (h : k < l.length) : byt ⟨(l ++ m).toArray⟩ k = byt ⟨l.toArray⟩ k := by
  rw [byt_mk, byt_mk]; simp [List.getD, List.getElem?_append_left h]
theorem byt_last (l : List UInt8) (c : UInt8) : byt ⟨(l ++ [c]).toArray⟩ l.length = (c.toNat : Int) := by
  rw [byt_mk]; simp [List.getD]
theorem allD_app (l m : List UInt8) : ∀ k, k ≤ l.length → allD ⟨(l ++ m).toArray⟩ k = allD ⟨l.toArray⟩ k := by
  intro k
  induction k with
  | zero => intro _; rfl
  | succ k ih => intro h; simp only [allD]; rw [ih (by omega), byt_app l m k (by omega)]
theorem valD_app (l m : List UInt8) : ∀ k, k ≤ l.length → valD ⟨(l ++ m).toArray⟩ k = valD ⟨l.toArray⟩ k := by
  intro k
  induction k with
  | zero => intro _; rfl
  | succ k ih => intro h; simp only [valD]; rw [ih (by omega), byt_app l m k (by omega)]
/-- What digits tell, as a list. -/
def valL (l : List UInt8) : Int := valD ⟨l.toArray⟩ l.length
def allL (l : List UInt8) : Bool := allD ⟨l.toArray⟩ l.length
theorem valL_snoc (l : List UInt8) (c : UInt8) : valL (l ++ [c]) = valL l * 10 + ((c.toNat : Int) - 48) := by
  unfold valL
  rw [List.length_append, List.length_singleton]
  simp only [valD]
  rw [valD_app l [c] l.length (Nat.le_refl _), byt_last]
theorem allL_snoc (l : List UInt8) (c : UInt8) : allL (l ++ [c]) = (allL l && decide (48 ≤ (c.toNat : Int) ∧ (c.toNat : Int) ≤ 57)) := by
  unfold allL
  rw [List.length_append, List.length_singleton]
  simp only [allD]
  rw [allD_app l [c] l.length (Nat.le_refl _), byt_last]
theorem digit_toNat (d : Nat) (h : d < 10) : (UInt8.ofNat (48 + d)).toNat = 48 + d := by simp; omega
theorem dec_all (u : Nat) : allL (decDigits u) = true ∧ valL (decDigits u) = u ∧ (byt ⟨(decDigits u).toArray⟩ 0 = 48 → u = 0) ∧ 0 < (decDigits u).length := by
  induction u using Nat.strongRecOn with
  | _ u ih =>
    by_cases h : u < 10
    · rw [decDigits, dif_pos h]
      have hd := digit_toNat u h
      have e : [UInt8.ofNat (48 + u)] = [] ++ [UInt8.ofNat (48 + u)] := rfl
      refine ⟨?_, ?_, ?_, by simp⟩
      · rw [e, allL_snoc, hd]; simp [allL, allD]; omega
      · rw [e, valL_snoc, hd]; simp [valL, valD]; omega
      · intro hb; rw [byt_mk] at hb; simp only [List.getD_cons_zero] at hb; rw [hd] at hb; omega
    · obtain ⟨i1, i2, i3, i4⟩ := ih (u / 10) (by omega)
      rw [decDigits, dif_neg h]
      have hd := digit_toNat (u % 10) (by omega)
      refine ⟨?_, ?_, ?_, by simp⟩
      · rw [allL_snoc, hd, i1]; simp; omega
      · rw [valL_snoc, hd, i2]; omega
      · intro hb; rw [byt_app _ _ 0 i4] at hb; have := i3 hb; omega
theorem valL_pos (l : List UInt8) (h : allL l = true) (h0 : 0 < l.length) (h1 : byt ⟨l.toArray⟩ 0 ≠ 48) : 1 ≤ valL l := by
  have hb := allD_byte _ _ 0 h0 h
  have hm := valD_mono _ _ 1 h0 h
  have e : valD ⟨l.toArray⟩ 1 = 0 * 10 + (byt ⟨l.toArray⟩ 0 - 48) := rfl
  unfold valL; omega
/-- Digits are those of what they tell. -/
theorem dec_back : ∀ (n : Nat) (l : List UInt8), l.length = n + 1 → allL l = true → (byt ⟨l.toArray⟩ 0 = 48 → l.length = 1) → decDigits (valL l).toNat = l := by
  intro n
  induction n with
  | zero =>
    intro l hl ha _
    obtain ⟨c, rfl⟩ := List.length_eq_one_iff.1 hl
    have e : [c] = [] ++ [c] := rfl
    rw [e, allL_snoc] at ha
    simp only [Bool.and_eq_true, decide_eq_true_eq] at ha
    rw [e, valL_snoc]
    have e0 : valL [] = 0 := rfl
    rw [e0, decDigits, dif_pos (by omega)]
    simp only [List.nil_append, List.cons.injEq, and_true]
    apply UInt8.toNat_inj.1
    rw [digit_toNat _ (by omega)]; omega
  | succ n ih =>
    intro l hl ha h0
    obtain ⟨m, c, rfl⟩ : ∃ m c, l = m ++ [c] := ⟨l.dropLast, l.getLast (by intro h; rw [h] at hl; simp at hl), (List.dropLast_concat_getLast _).symm⟩
    have hm : m.length = n + 1 := by simp at hl; omega
    rw [allL_snoc] at ha
    simp only [Bool.and_eq_true, decide_eq_true_eq] at ha
    rw [byt_app m [c] 0 (by omega)] at h0
    have h48 : byt ⟨m.toArray⟩ 0 ≠ 48 := fun h => by have := h0 h; simp at this; omega
    have hp := valL_pos m ha.1 (by omega) h48
    have i := ih m hm ha.1 (fun h => absurd h h48)
    rw [valL_snoc, decDigits, dif_neg (by omega)]
    rw [show (valL m * 10 + ((c.toNat : Int) - 48)).toNat / 10 = (valL m).toNat from by omega, i]
    congr 1
    simp only [List.cons.injEq, and_true]
    apply UInt8.toNat_inj.1
    rw [digit_toNat _ (by omega)]; omega
/-- A text by its list. -/
theorem mk_list (s : ByteArray) : (⟨s.data.toList.toArray⟩ : ByteArray) = s := rfl
theorem areD_list (l : List UInt8) (h0 : 0 < l.length) (h1 : byt ⟨l.toArray⟩ 0 = 48 → l.length = 1) (ha : allL l = true) : areD ⟨l.toArray⟩ = true := by
  have hsz : (⟨l.toArray⟩ : ByteArray).size = l.length := rfl
  unfold areD
  rw [hsz]
  have : allD ⟨l.toArray⟩ l.length = true := ha
  by_cases hb : byt ⟨l.toArray⟩ 0 = 48
  · simp [hb, h1 hb, ← this]
  · simp [h0, hb, this]
theorem dec_first (u : Nat) : byt ⟨(decDigits u).toArray⟩ 0 = 48 → (decDigits u).length = 1 := by
  intro h
  have := (dec_all u).2.2.1 h
  subst this; rw [decDigits, dif_pos (by decide)]; rfl
theorem bare_minus (l : List UInt8) : bare ⟨(45 :: l).toArray⟩ = ⟨l.toArray⟩ ∧ sgn ⟨(45 :: l).toArray⟩ = 0 := by
  have hn : isNeg ⟨(45 :: l).toArray⟩ = true := by
    unfold isNeg
    have hsz : (⟨(45 :: l).toArray⟩ : ByteArray).size = l.length + 1 := rfl
    rw [hsz, byt_mk]; simp
  unfold bare sgn
  rw [hn]
  refine ⟨?_, rfl⟩
  simp only [if_true]
  rw [Lib.extract_eq]
  have hsz : (⟨(45 :: l).toArray⟩ : ByteArray).size = l.length + 1 := rfl
  rw [hsz]
  simp
/-- What is written is read. -/
theorem read_itoa (n : Int) (h0 : -9223372036854775808 ≤ n) (h1 : n ≤ 9223372036854775807) : rdV ⟨(itoa n).toArray⟩ = n ∧ rdE ⟨(itoa n).toArray⟩ = 0 := by
  by_cases hn : n < 0
  · have e : itoa n = 45 :: decDigits n.natAbs := by unfold itoa; rw [if_pos hn]
    obtain ⟨d1, d2, _, d4⟩ := dec_all n.natAbs
    have ha := areD_list _ d4 (dec_first n.natAbs) d1
    have hz : rdZ ⟨(itoa n).toArray⟩ = n := by
      unfold rdZ
      rw [e, (bare_minus _).1, (bare_minus _).2]
      have : valD ⟨(decDigits n.natAbs).toArray⟩ (⟨(decDigits n.natAbs).toArray⟩ : ByteArray).size = n.natAbs := d2
      rw [this]; simp [sv]; omega
    unfold rdV rdE
    rw [hz]
    rw [e, (bare_minus _).1, ha]
    exact ⟨val_yes h0 h1, err_yes h0 h1⟩
  · have e : itoa n = decDigits n.toNat := by unfold itoa; rw [if_neg hn]
    obtain ⟨d1, d2, _, d4⟩ := dec_all n.toNat
    have ha := areD_list _ d4 (dec_first n.toNat) d1
    have hf : isNeg ⟨(decDigits n.toNat).toArray⟩ = false := by
      unfold isNeg
      have hb := allD_byte _ _ 0 d4 d1
      have : ¬ byt ⟨(decDigits n.toNat).toArray⟩ 0 = 45 := by omega
      simp [this]
    have hb : bare ⟨(decDigits n.toNat).toArray⟩ = ⟨(decDigits n.toNat).toArray⟩ := by unfold bare; rw [hf]; rfl
    have hs : sgn ⟨(decDigits n.toNat).toArray⟩ = 1 := by unfold sgn; rw [hf]; rfl
    have hz : rdZ ⟨(itoa n).toArray⟩ = n := by
      unfold rdZ
      rw [e, hb, hs]
      have : valD ⟨(decDigits n.toNat).toArray⟩ (⟨(decDigits n.toNat).toArray⟩ : ByteArray).size = n.toNat := d2
      rw [this]; simp [sv]; omega
    unfold rdV rdE
    rw [hz]
    rw [e, hb, ha]
    exact ⟨val_yes h0 h1, err_yes h0 h1⟩
end Go.Proofs.YtoicmcjpaodgpaaDoor.Nm
