/- Plain facts of texts: the document's search for a code point (as in layer 1). -/
import Derived.Test.YtfmgkndljppffaaT1
namespace Go.Proofs.Ytfmgkndljppffaa
open Go.RowKit
/-- Next, as numbers. -/
def nxE (s : ByteArray) (i : Int) : Int := if 0 ≤ i ∧ i < s.size then (if decIs s i.toNat then 0 else 10) else 2
def nxP (s : ByteArray) (i : Int) : Int := if 0 ≤ i ∧ i < s.size then decP s i.toNat else 0
def nxN (s : ByteArray) (i : Int) : Int := if 0 ≤ i ∧ i < s.size then decN s i.toNat else 0
theorem lead_cases (b : Int) (h0 : leadN b ≠ 0) : leadN b = 1 ∧ leadB b = b ∧ b < 128 ∨ leadN b = 2 ∧ leadB b = b % 32 ∧ 192 ≤ b ∧ b < 224 ∨ leadN b = 3 ∧ leadB b = b % 16 ∧ 224 ≤ b ∧ b < 240 ∨ leadN b = 4 ∧ leadB b = b % 8 ∧ 240 ≤ b ∧ b < 248 := by
  unfold leadN leadB at *
  by_cases h1 : b < 128
  · simp [h1]
  by_cases h2 : b < 192
  · simp [h1, h2] at h0
  by_cases h3 : b < 224
  · simp [h1, h2, h3]; omega
  by_cases h4 : b < 240
  · simp [h1, h2, h3, h4]; omega
  by_cases h5 : b < 248
  · simp [h1, h2, h3, h4, h5]; omega
  · simp [h1, h2, h3, h4, h5] at h0
theorem szOf_lo {p : Int} : (szOf p = 2 → 128 ≤ p) ∧ (szOf p = 3 → 2048 ≤ p) ∧ (szOf p = 4 → 65536 ≤ p) := by
  unfold szOf
  refine ⟨fun h => ?_, fun h => ?_, fun h => ?_⟩
  all_goals (split at h <;> first | omega | (split at h <;> first | omega | (split at h <;> omega)))
/-- The bytes of a code point. -/
def enc (p : Int) : List Int :=
  if p < 128 then [p] else if p < 2048 then [192 + p / 64, 128 + p % 64] else if p < 65536 then [224 + p / 4096, 128 + p / 64 % 64, 128 + p % 64]
  else [240 + p / 262144, 128 + p / 4096 % 64, 128 + p / 64 % 64, 128 + p % 64]
/-- Numbers as bytes. -/
def mkB (L : List Int) : ByteArray := ⟨(L.map (fun x => UInt8.ofNat x.toNat)).toArray⟩
theorem isPt_range {p : Int} (h : isPt p = true) : 0 ≤ p ∧ p < 1114112 := by
  simp only [isPt, decide_eq_true_eq] at h; omega
theorem enc_range {p : Int} (h0 : 0 ≤ p) (h1 : p < 1114112) : ∀ x ∈ enc p, 0 ≤ x ∧ x < 256 := by
  intro x hx
  unfold enc at hx
  split at hx
  · simp at hx; omega
  split at hx
  · simp at hx; omega
  split at hx
  · simp at hx; omega
  · simp at hx; omega
theorem enc_len (p : Int) : 1 ≤ (enc p).length ∧ (enc p).length ≤ 4 := by
  unfold enc; (repeat' split) <;> simp
theorem mkB_size (L : List Int) : (mkB L).size = L.length := by simp [mkB, ByteArray.size]
theorem mkB_byt (L : List Int) (i : Nat) (h : i < L.length) (hr : 0 ≤ L.getD i 0 ∧ L.getD i 0 < 256) : byt (mkB L) i = L.getD i 0 := by
  unfold byt
  rw [dif_pos (by rw [mkB_size]; exact h)]
  have e : (mkB L)[i]'(by rw [mkB_size]; exact h) = UInt8.ofNat (L.getD i 0).toNat := by
    show (mkB L).data[i]'_ = _
    simp [mkB, List.getD, h]
  rw [e, UInt8.toNat_ofNat']; omega

/-- The bytes of a code point are read as it. -/
theorem dec_enc {s : ByteArray} {a : Nat} {p : Int} (hp : isPt p = true) (hs : a + (enc p).length ≤ s.size) (hb : ∀ j, j < (enc p).length → byt s (a + j) = (enc p).getD j 0) :
    decIs s a = true ∧ decP s a = p ∧ leadN (byt s a) = (enc p).length := by
  have hr := isPt_range hp
  have key : leadN (byt s a) = (enc p).length ∧ conts s (a + 1) ((enc p).length - 1) = true ∧ acc s (a + 1) (leadB (byt s a)) ((enc p).length - 1) = p ∧ szOf p = (enc p).length := by
    by_cases c1 : p < 128
    · have e : enc p = [p] := by unfold enc; rw [if_pos c1]
      rw [e] at hb hs ⊢
      have b0 : byt s a = p := by simpa using hb 0 (by simp)
      rw [b0]
      exact ⟨by unfold leadN; rw [if_pos c1]; rfl, rfl, by unfold leadB; rw [if_pos c1]; rfl, by unfold szOf; rw [if_pos c1]; rfl⟩
    by_cases c2 : p < 2048
    · have e : enc p = [192 + p / 64, 128 + p % 64] := by unfold enc; rw [if_neg c1, if_pos c2]
      rw [e] at hb hs ⊢
      simp only [List.length_cons, List.length_nil] at hs hb ⊢
      have b0 : byt s a = 192 + p / 64 := by simpa using hb 0 (by simp)
      have b1 : byt s (a + 1) = 128 + p % 64 := by simpa using hb 1 (by simp)
      refine ⟨?_, ?_, ?_, ?_⟩
      · unfold leadN; rw [b0]; (repeat' split) <;> omega
      · simp only [conts, Nat.add_zero, b1, Bool.true_and, decide_eq_true_eq]; omega
      · simp only [acc, Nat.add_zero, b1, b0, leadB]; (repeat' split) <;> omega
      · unfold szOf; (repeat' split) <;> omega
    by_cases c3 : p < 65536
    · have e : enc p = [224 + p / 4096, 128 + p / 64 % 64, 128 + p % 64] := by unfold enc; rw [if_neg c1, if_neg c2, if_pos c3]
      rw [e] at hb hs ⊢
      simp only [List.length_cons, List.length_nil] at hs hb ⊢
      have b0 : byt s a = 224 + p / 4096 := by simpa using hb 0 (by simp)
      have b1 : byt s (a + 1) = 128 + p / 64 % 64 := by simpa using hb 1 (by simp)
      have b2 : byt s (a + 1 + 1) = 128 + p % 64 := by simpa using hb 2 (by simp)
      refine ⟨?_, ?_, ?_, ?_⟩
      · unfold leadN; rw [b0]; (repeat' split) <;> omega
      · simp only [conts, Nat.add_zero, b1, b2, Bool.true_and, Bool.and_eq_true, decide_eq_true_eq]; omega
      · simp only [acc, Nat.add_zero, b1, b2, b0, leadB]; (repeat' split) <;> omega
      · unfold szOf; (repeat' split) <;> omega
    · have e : enc p = [240 + p / 262144, 128 + p / 4096 % 64, 128 + p / 64 % 64, 128 + p % 64] := by unfold enc; rw [if_neg c1, if_neg c2, if_neg c3]
      rw [e] at hb hs ⊢
      simp only [List.length_cons, List.length_nil] at hs hb ⊢
      have b0 : byt s a = 240 + p / 262144 := by simpa using hb 0 (by simp)
      have b1 : byt s (a + 1) = 128 + p / 4096 % 64 := by simpa using hb 1 (by simp)
      have b2 : byt s (a + 1 + 1) = 128 + p / 64 % 64 := by simpa using hb 2 (by simp)
      have b3 : byt s (a + 1 + 2) = 128 + p % 64 := by simpa using hb 3 (by simp)
      refine ⟨?_, ?_, ?_, ?_⟩
      · unfold leadN; rw [b0]; (repeat' split) <;> omega
      · simp only [conts, Nat.add_zero, b1, b2, b3, Bool.true_and, Bool.and_eq_true, decide_eq_true_eq]; omega
      · simp only [acc, Nat.add_zero, b1, b2, b3, b0, leadB]; (repeat' split) <;> omega
      · unfold szOf; (repeat' split) <;> omega
  obtain ⟨k1, k2, k3, k4⟩ := key
  have hl := enc_len p
  have hd : decIs s a = true := by
    simp only [decIs, k1, k2, k3, hp, k4, Bool.and_eq_true, decide_eq_true_eq, and_true]
    omega
  exact ⟨hd, by unfold decP; rw [if_pos hd, k1, k3], k1⟩
def m0 (b : Int) (z : Nat) : Int := if z = 2 then b % 32 else if z = 3 then b % 16 else if z = 4 then b % 8 else b
def numN (s : ByteArray) (a z : Nat) : Int := acc s (a + 1) (m0 (byt s a) z) (z - 1)
def tpB (s : ByteArray) (a z : Nat) : Bool := isPt (numN s a z) && decide (mkB (enc (numN s a z)) = s.extract a (a + z))

theorem byt_ext {s t : ByteArray} (hs : s.size = t.size) (h : ∀ i, i < s.size → byt s i = byt t i) : s = t := by
  apply ByteArray.ext
  apply Array.ext
  · exact hs
  · intro i h1 h2
    have h1' : i < s.size := h1
    have h2' : i < t.size := h2
    have := h i h1'
    unfold byt at this
    rw [dif_pos h1', dif_pos h2'] at this
    have e : s[i].toNat = t[i].toNat := by omega
    exact UInt8.toNat_inj.1 e
theorem byt_extract {s : ByteArray} {a z : Nat} (h : a + z ≤ s.size) (j : Nat) (hj : j < z) : byt (s.extract a (a + z)) j = byt s (a + j) := by
  have hs : (s.extract a (a + z)).size = z := by simp; omega
  unfold byt
  rw [dif_pos (by omega), dif_pos (by omega)]
  simp [ByteArray.getElem_extract]
/-- The bytes where a code point begins are that code point's. -/
theorem enc_dec {s : ByteArray} {a : Nat} (h : decIs s a = true) : (enc (decP s a)).length = leadN (byt s a) ∧ ∀ j, j < leadN (byt s a) → byt s (a + j) = (enc (decP s a)).getD j 0 := by
  have hd := h
  have hP : decP s a = acc s (a + 1) (leadB (byt s a)) (leadN (byt s a) - 1) := by unfold decP; rw [if_pos h]
  simp only [decIs, Bool.and_eq_true, decide_eq_true_eq] at hd
  obtain ⟨⟨⟨h0, hc⟩, hp⟩, hz⟩ := hd
  rw [← hP] at hp hz
  have hr := isPt_range hp
  have hb := byt_range s a
  rcases lead_cases (byt s a) h0 with ⟨e1, e2, e3⟩ | ⟨e1, e2, e3, e4⟩ | ⟨e1, e2, e3, e4⟩ | ⟨e1, e2, e3, e4⟩
  · rw [e1] at hz hP ⊢
    simp only [acc, e2, Nat.sub_self] at hP
    have : enc (decP s a) = [decP s a] := by unfold enc; rw [if_pos (by omega)]
    rw [this]
    refine ⟨rfl, fun j hj => ?_⟩
    obtain rfl : j = 0 := by omega
    simp [hP]
  · rw [e1] at hz hP hc ⊢
    simp only [acc, e2, Nat.add_zero, show 2 - 1 = 1 from rfl] at hP
    simp only [conts, Nat.add_zero, show 2 - 1 = 1 from rfl, Bool.true_and, decide_eq_true_eq] at hc
    have lo := (szOf_lo (p := decP s a)).1 hz
    have hi : decP s a < 2048 := by unfold szOf at hz; (repeat' split at hz) <;> omega
    have : enc (decP s a) = [192 + decP s a / 64, 128 + decP s a % 64] := by unfold enc; rw [if_neg (by omega), if_pos hi]
    rw [this]
    refine ⟨rfl, fun j hj => ?_⟩
    match j, hj with
    | 0, _ => simp; omega
    | 1, _ => simp; omega
  · rw [e1] at hz hP hc ⊢
    simp only [acc, e2, Nat.add_zero, show 3 - 1 = 2 from rfl] at hP
    simp only [conts, Nat.add_zero, show 3 - 1 = 2 from rfl, Bool.true_and, Bool.and_eq_true, decide_eq_true_eq] at hc
    have lo := (szOf_lo (p := decP s a)).2.1 hz
    have hi : decP s a < 65536 := by unfold szOf at hz; (repeat' split at hz) <;> omega
    have : enc (decP s a) = [224 + decP s a / 4096, 128 + decP s a / 64 % 64, 128 + decP s a % 64] := by unfold enc; rw [if_neg (by omega), if_neg (by omega), if_pos hi]
    rw [this]
    refine ⟨rfl, fun j hj => ?_⟩
    match j, hj with
    | 0, _ => simp; omega
    | 1, _ => simp; omega
    | 2, _ => simp only [show a + 2 = a + 1 + 1 from rfl]; simp; omega
  · rw [e1] at hz hP hc ⊢
    simp only [acc, e2, Nat.add_zero, show 4 - 1 = 3 from rfl] at hP
    simp only [conts, Nat.add_zero, show 4 - 1 = 3 from rfl, Bool.true_and, Bool.and_eq_true, decide_eq_true_eq] at hc
    have lo := (szOf_lo (p := decP s a)).2.2 hz
    have : enc (decP s a) = [240 + decP s a / 262144, 128 + decP s a / 4096 % 64, 128 + decP s a / 64 % 64, 128 + decP s a % 64] := by unfold enc; rw [if_neg (by omega), if_neg (by omega), if_neg (by omega)]
    rw [this]
    refine ⟨rfl, fun j hj => ?_⟩
    match j, hj with
    | 0, _ => simp; omega
    | 1, _ => simp; omega
    | 2, _ => simp only [show a + 2 = a + 1 + 1 from rfl]; simp; omega
    | 3, _ => simp only [show a + 3 = a + 1 + 2 from rfl]; simp; omega
theorem m0_lead {s : ByteArray} {a : Nat} (h : decIs s a = true) : numN s a (leadN (byt s a)) = decP s a := by
  have hP : decP s a = acc s (a + 1) (leadB (byt s a)) (leadN (byt s a) - 1) := by unfold decP; rw [if_pos h]
  rw [hP]
  unfold numN
  congr 1
  rcases lead_cases (byt s a) (decIs_lead h).1 with ⟨e1, e2, e3⟩ | ⟨e1, e2, e3, e4⟩ | ⟨e1, e2, e3, e4⟩ | ⟨e1, e2, e3, e4⟩ <;> rw [e1, e2] <;> simp [m0]
/-- So many bytes are a code point's just where one begins that has so many. -/
theorem one_iff {s : ByteArray} {a z : Nat} (hz1 : 1 ≤ z) (hs : a + z ≤ s.size) : tpB s a z = (decIs s a && decide (leadN (byt s a) = z)) := by
  rw [Bool.eq_iff_iff]
  simp only [tpB, Bool.and_eq_true, decide_eq_true_eq]
  constructor
  · rintro ⟨hp, he⟩
    have hl : (enc (numN s a z)).length = z := by
      have := congrArg ByteArray.size he
      rw [mkB_size] at this
      rw [this]; simp; omega
    have hr := isPt_range hp
    have := dec_enc (s := s) (a := a) hp (by omega) (fun j hj => by
      have h1 := byt_extract hs j (by omega)
      rw [← he, mkB_byt _ _ hj (by
        have hm : (enc (numN s a z)).getD j 0 ∈ enc (numN s a z) := by
          simp only [List.getD, List.getElem?_eq_getElem hj, Option.getD_some]; exact List.getElem_mem hj
        exact enc_range hr.1 hr.2 _ hm)] at h1
      exact h1.symm)
    exact ⟨this.1, by rw [this.2.2, hl]⟩
  · rintro ⟨hd, hz⟩
    subst hz
    rw [m0_lead hd]
    have hp : isPt (decP s a) = true := by
      have hP : decP s a = acc s (a + 1) (leadB (byt s a)) (leadN (byt s a) - 1) := by unfold decP; rw [if_pos hd]
      have hd' := hd
      simp only [decIs, Bool.and_eq_true, decide_eq_true_eq] at hd'
      rw [hP]; exact hd'.1.2
    have hr := isPt_range hp
    have he := enc_dec hd
    refine ⟨hp, byt_ext ?_ (fun i hi => ?_)⟩
    · rw [mkB_size, he.1]; simp; omega
    · rw [mkB_size] at hi
      have hm : (enc (decP s a)).getD i 0 ∈ enc (decP s a) := by
        simp only [List.getD, List.getElem?_eq_getElem hi, Option.getD_some]; exact List.getElem_mem hi
      rw [mkB_byt _ _ hi (enc_range hr.1 hr.2 _ hm), byt_extract hs i (by rw [← he.1]; exact hi), he.2 i (by rw [← he.1]; exact hi)]
def tpP (s : ByteArray) (i : Int) (z : Nat) : Int := if 0 ≤ i ∧ i + z ≤ s.size then numN s i.toNat z else 0
def tpI (s : ByteArray) (i : Int) (z : Nat) : Bool := if 0 ≤ i ∧ i + z ≤ s.size then tpB s i.toNat z else false
theorem oneI_at {s : ByteArray} {a z : Nat} (ha : a < s.size) (hz : 1 ≤ z) : tpI s (a : Int) z = (decIs s a && decide (leadN (byt s a) = z)) := by
  unfold tpI
  by_cases h : a + z ≤ s.size
  · rw [if_pos (by omega), Int.toNat_natCast, one_iff hz h]
  · rw [if_neg (by omega)]
    cases hd : decIs s a
    · rfl
    · have := dec_in ha hd
      have : leadN (byt s a) ≠ z := by omega
      simp [this]
theorem oneP_at {s : ByteArray} {a z : Nat} (ha : a < s.size) (hz : 1 ≤ z) (h : tpI s (a : Int) z = true) : tpP s (a : Int) z = decP s a ∧ decIs s a = true ∧ leadN (byt s a) = z := by
  have h2 := h
  rw [oneI_at ha hz, Bool.and_eq_true, decide_eq_true_eq] at h2
  obtain ⟨hd, rfl⟩ := h2
  have := dec_in ha hd
  refine ⟨?_, hd, rfl⟩
  unfold tpP
  rw [if_pos (by omega), Int.toNat_natCast, m0_lead hd]
/-- What the search answers where one begins, and where none does. -/
theorem nx_found {s : ByteArray} {a z : Nat} (ha : a < s.size) (hz : 1 ≤ z) (h : tpI s (a : Int) z = true) : nxP s a = tpP s a z ∧ nxN s a = z ∧ nxE s a = 0 := by
  have := oneP_at ha hz h
  have hN := decN_eq s a
  rw [this.2.1] at hN
  simp at hN
  unfold nxP nxN nxE
  rw [if_pos (by omega), if_pos (by omega), if_pos (by omega), Int.toNat_natCast, this.2.1, this.1, hN.1, this.2.2]
  exact ⟨rfl, rfl, rfl⟩
theorem nx_lost {s : ByteArray} {a : Nat} (ha : a < s.size) (h : ∀ z, 1 ≤ z → z ≤ 4 → tpI s (a : Int) z = false) : nxP s a = 0 ∧ nxN s a = 0 ∧ nxE s a = 10 := by
  have hd : decIs s a = false := by
    cases hd : decIs s a
    · rfl
    · have h0 := (decIs_lead hd).1
      have h4 := leadN_le (byt s a)
      have := h (leadN (byt s a)) (by omega) h4
      rw [oneI_at ha (by omega), hd] at this
      simp at this
  have hn := dec_no hd
  unfold nxP nxN nxE
  rw [if_pos (by omega), if_pos (by omega), if_pos (by omega), Int.toNat_natCast, hd, hn.1, hn.2]
  exact ⟨rfl, rfl, rfl⟩
end Go.Proofs.Ytfmgkndljppffaa
