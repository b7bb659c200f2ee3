/- Plain facts for layer 1: so many bytes at a place are a code point's just where one begins that has so many. No program in sight. -/
import Derived.Test.YtepjehneembakaaPlain4
namespace Go.Proofs.Ytepjehneembakaa
open Go.RowKit

def m0 (b : Int) (z : Nat) : Int := if z = 2 then b % 32 else if z = 3 then b % 16 else if z = 4 then b % 8 else b
def numN (s : ByteArray) (a z : Nat) : Int := acc s (a + 1) (m0 (byt s a) z) (z - 1)
def oneB (s : ByteArray) (a z : Nat) : Bool := isPt (numN s a z) && decide (mkB (enc (numN s a z)) = s.extract a (a + z))

theorem byt_ext {s t : ByteArray} (hs : s.size = t.size) (h : ∀ i, i < s.size → byt s i = byt t i) : s = t := by
  apply ByteArray.ext
  apply Array.ext
  · exact hs
  · intro i h1 h2
    have h1' : i < s.size := h1
    have h2' : i < t.size := h2
    have := h i h1'
    unfold byt at this
    rw [dif_pos h1', dif_pos h2'] at this
    have e : s[i].toNat = t[i].toNat := by omega
    exact UInt8.toNat_inj.1 e
theorem byt_extract {s : ByteArray} {a z : Nat} (h : a + z ≤ s.size) (j : Nat) (hj : j < z) : byt (s.extract a (a + z)) j = byt s (a + j) := by
  have hs : (s.extract a (a + z)).size = z := by simp; omega
  unfold byt
  rw [dif_pos (by omega), dif_pos (by omega)]
  simp [ByteArray.getElem_extract]
/-- The bytes where a code point begins are that code point's. -/
theorem enc_dec {s : ByteArray} {a : Nat} (h : decIs s a = true) : (enc (decP s a)).length = leadN (byt s a) ∧ ∀ j, j < leadN (byt s a) → byt s (a + j) = (enc (decP s a)).getD j 0 := by
  have hd := h
  have hP : decP s a = acc s (a + 1) (leadB (byt s a)) (leadN (byt s a) - 1) := by unfold decP; rw [if_pos h]
  simp only [decIs, Bool.and_eq_true, decide_eq_true_eq] at hd
  obtain ⟨⟨⟨h0, hc⟩, hp⟩, hz⟩ := hd
  rw [← hP] at hp hz
  have hr := isPt_range hp
  have hb := byt_range s a
  rcases lead_cases (byt s a) h0 with ⟨e1, e2, e3⟩ | ⟨e1, e2, e3, e4⟩ | ⟨e1, e2, e3, e4⟩ | ⟨e1, e2, e3, e4⟩
  · rw [e1] at hz hP ⊢
    simp only [acc, e2, Nat.sub_self] at hP
    have : enc (decP s a) = [decP s a] := by unfold enc; rw [if_pos (by omega)]
    rw [this]
    refine ⟨rfl, fun j hj => ?_⟩
    obtain rfl : j = 0 := by omega
    simp [hP]
  · rw [e1] at hz hP hc ⊢
    simp only [acc, e2, Nat.add_zero, show 2 - 1 = 1 from rfl] at hP
    simp only [conts, Nat.add_zero, show 2 - 1 = 1 from rfl, Bool.true_and, decide_eq_true_eq] at hc
    have lo := (szOf_lo (p := decP s a)).1 hz
    have hi : decP s a < 2048 := by unfold szOf at hz; (repeat' split at hz) <;> omega
    have : enc (decP s a) = [192 + decP s a / 64, 128 + decP s a % 64] := by unfold enc; rw [if_neg (by omega), if_pos hi]
    rw [this]
    refine ⟨rfl, fun j hj => ?_⟩
    match j, hj with
    | 0, _ => simp; omega
    | 1, _ => simp; omega
  · rw [e1] at hz hP hc ⊢
    simp only [acc, e2, Nat.add_zero, show 3 - 1 = 2 from rfl] at hP
    simp only [conts, Nat.add_zero, show 3 - 1 = 2 from rfl, Bool.true_and, Bool.and_eq_true, decide_eq_true_eq] at hc
    have lo := (szOf_lo (p := decP s a)).2.1 hz
    have hi : decP s a < 65536 := by unfold szOf at hz; (repeat' split at hz) <;> omega
    have : enc (decP s a) = [224 + decP s a / 4096, 128 + decP s a / 64 % 64, 128 + decP s a % 64] := by unfold enc; rw [if_neg (by omega), if_neg (by omega), if_pos hi]
    rw [this]
    refine ⟨rfl, fun j hj => ?_⟩
    match j, hj with
    | 0, _ => simp; omega
    | 1, _ => simp; omega
    | 2, _ => simp only [show a + 2 = a + 1 + 1 from rfl]; simp; omega
  · rw [e1] at hz hP hc ⊢
    simp only [acc, e2, Nat.add_zero, show 4 - 1 = 3 from rfl] at hP
    simp only [conts, Nat.add_zero, show 4 - 1 = 3 from rfl, Bool.true_and, Bool.and_eq_true, decide_eq_true_eq] at hc
    have lo := (szOf_lo (p := decP s a)).2.2 hz
    have : enc (decP s a) = [240 + decP s a / 262144, 128 + decP s a / 4096 % 64, 128 + decP s a / 64 % 64, 128 + decP s a % 64] := by unfold enc; rw [if_neg (by omega), if_neg (by omega), if_neg (by omega)]
    rw [this]
    refine ⟨rfl, fun j hj => ?_⟩
    match j, hj with
    | 0, _ => simp; omega
    | 1, _ => simp; omega
    | 2, _ => simp only [show a + 2 = a + 1 + 1 from rfl]; simp; omega
    | 3, _ => simp only [show a + 3 = a + 1 + 2 from rfl]; simp; omega
theorem m0_lead {s : ByteArray} {a : Nat} (h : decIs s a = true) : numN s a (leadN (byt s a)) = decP s a := by
  have hP : decP s a = acc s (a + 1) (leadB (byt s a)) (leadN (byt s a) - 1) := by unfold decP; rw [if_pos h]
  rw [hP]
  unfold numN
  congr 1
  rcases lead_cases (byt s a) (decIs_lead h).1 with ⟨e1, e2, e3⟩ | ⟨e1, e2, e3, e4⟩ | ⟨e1, e2, e3, e4⟩ | ⟨e1, e2, e3, e4⟩ <;> rw [e1, e2] <;> simp [m0]
/-- So many bytes are a code point's just where one begins that has so many. -/
theorem one_iff {s : ByteArray} {a z : Nat} (hz1 : 1 ≤ z) (hs : a + z ≤ s.size) : oneB s a z = (decIs s a && decide (leadN (byt s a) = z)) := by
  rw [Bool.eq_iff_iff]
  simp only [oneB, Bool.and_eq_true, decide_eq_true_eq]
  constructor
  · rintro ⟨hp, he⟩
    have hl : (enc (numN s a z)).length = z := by
      have := congrArg ByteArray.size he
      rw [mkB_size] at this
      rw [this]; simp; omega
    have hr := isPt_range hp
    have := dec_enc (s := s) (a := a) hp (by omega) (fun j hj => by
      have h1 := byt_extract hs j (by omega)
      rw [← he, mkB_byt _ _ hj (by
        have hm : (enc (numN s a z)).getD j 0 ∈ enc (numN s a z) := by
          simp only [List.getD, List.getElem?_eq_getElem hj, Option.getD_some]; exact List.getElem_mem hj
        exact enc_range hr.1 hr.2 _ hm)] at h1
      exact h1.symm)
    exact ⟨this.1, by rw [this.2.2, hl]⟩
  · rintro ⟨hd, hz⟩
    subst hz
    rw [m0_lead hd]
    have hp : isPt (decP s a) = true := by
      have hP : decP s a = acc s (a + 1) (leadB (byt s a)) (leadN (byt s a) - 1) := by unfold decP; rw [if_pos hd]
      have hd' := hd
      simp only [decIs, Bool.and_eq_true, decide_eq_true_eq] at hd'
      rw [hP]; exact hd'.1.2
    have hr := isPt_range hp
    have he := enc_dec hd
    refine ⟨hp, byt_ext ?_ (fun i hi => ?_)⟩
    · rw [mkB_size, he.1]; simp; omega
    · rw [mkB_size] at hi
      have hm : (enc (decP s a)).getD i 0 ∈ enc (decP s a) := by
        simp only [List.getD, List.getElem?_eq_getElem hi, Option.getD_some]; exact List.getElem_mem hi
      rw [mkB_byt _ _ hi (enc_range hr.1 hr.2 _ hm), byt_extract hs i (by rw [← he.1]; exact hi), he.2 i (by rw [← he.1]; exact hi)]
end Go.Proofs.Ytepjehneembakaa
