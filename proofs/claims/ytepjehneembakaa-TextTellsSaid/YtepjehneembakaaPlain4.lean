/- Plain facts for layer 1: the bytes of code points are read as those code points; how many a text has. No program in sight. -/
import Derived.Test.YtepjehneembakaaPlain3
namespace Go.Proofs.Ytepjehneembakaa
open Go.RowKit

/-- The bytes of a code point. -/
def enc (p : Int) : List Int :=
  if p < 128 then [p] else if p < 2048 then [192 + p / 64, 128 + p % 64] else if p < 65536 then [224 + p / 4096, 128 + p / 64 % 64, 128 + p % 64]
  else [240 + p / 262144, 128 + p / 4096 % 64, 128 + p / 64 % 64, 128 + p % 64]
/-- Numbers as bytes. -/
def mkB (L : List Int) : ByteArray := ⟨(L.map (fun x => UInt8.ofNat x.toNat)).toArray⟩
/-- The bytes of the first k code points. -/
def encs (L : List Int) : Nat → List Int
  | 0 => []
  | k + 1 => encs L k ++ enc (L.getD k 0)
/-- Are the first k numbers code points? -/
def allPt (L : List Int) : Nat → Bool
  | 0 => true
  | k + 1 => allPt L k && isPt (L.getD k 0)
def putE (L : List Int) : Int := if 16384 < L.length then 4 else if allPt L L.length then 0 else 10
def putS (L : List Int) : ByteArray := if putE L = 0 then mkB (encs L L.length) else ⟨#[]⟩

theorem isPt_range {p : Int} (h : isPt p = true) : 0 ≤ p ∧ p < 1114112 := by
  simp only [isPt, decide_eq_true_eq] at h; omega
theorem enc_range {p : Int} (h0 : 0 ≤ p) (h1 : p < 1114112) : ∀ x ∈ enc p, 0 ≤ x ∧ x < 256 := by
  intro x hx
  unfold enc at hx
  split at hx
  · simp at hx; omega
  split at hx
  · simp at hx; omega
  split at hx
  · simp at hx; omega
  · simp at hx; omega
theorem enc_len (p : Int) : 1 ≤ (enc p).length ∧ (enc p).length ≤ 4 := by
  unfold enc; (repeat' split) <;> simp
theorem encs_len (L : List Int) : ∀ k, (encs L k).length ≤ 4 * k := by
  intro k
  induction k with
  | zero => simp [encs]
  | succ k ih => simp only [encs, List.length_append]; have := enc_len (L.getD k 0); omega
theorem encs_range (L : List Int) : ∀ k, allPt L k = true → ∀ x ∈ encs L k, 0 ≤ x ∧ x < 256 := by
  intro k
  induction k with
  | zero => intro _ x hx; simp [encs] at hx
  | succ k ih =>
    intro h x hx
    simp only [allPt, Bool.and_eq_true] at h
    simp only [encs, List.mem_append] at hx
    rcases hx with hx | hx
    · exact ih h.1 x hx
    · have := isPt_range h.2
      exact enc_range this.1 this.2 x hx
theorem allPt_le {L : List Int} {j k : Nat} (hjk : j ≤ k) (h : allPt L k = true) : allPt L j = true := by
  induction k with
  | zero => obtain rfl : j = 0 := by omega
            exact h
  | succ k ih =>
    by_cases e : j = k + 1
    · subst e; exact h
    · simp only [allPt, Bool.and_eq_true] at h
      exact ih (by omega) h.1

theorem put_many {L : List Int} (h : 16384 < L.length) : putE L = 4 ∧ putS L = ⟨#[]⟩ := by
  have : putE L = 4 := by unfold putE; rw [if_pos h]
  exact ⟨this, by unfold putS; rw [this]; rfl⟩
theorem put_bad {L : List Int} (h : ¬ 16384 < L.length) (hb : allPt L L.length = false) : putE L = 10 ∧ putS L = ⟨#[]⟩ := by
  have : putE L = 10 := by unfold putE; rw [if_neg h, hb]; rfl
  exact ⟨this, by unfold putS; rw [this]; rfl⟩
theorem put_good {L : List Int} (h : ¬ 16384 < L.length) (hb : allPt L L.length = true) : putE L = 0 ∧ putS L = mkB (encs L L.length) := by
  have : putE L = 0 := by unfold putE; rw [if_neg h, hb]; rfl
  exact ⟨this, by unfold putS; rw [if_pos this]⟩

theorem mkB_size (L : List Int) : (mkB L).size = L.length := by simp [mkB, ByteArray.size]
theorem mkB_byt (L : List Int) (i : Nat) (h : i < L.length) (hr : 0 ≤ L.getD i 0 ∧ L.getD i 0 < 256) : byt (mkB L) i = L.getD i 0 := by
  unfold byt
  rw [dif_pos (by rw [mkB_size]; exact h)]
  have e : (mkB L)[i]'(by rw [mkB_size]; exact h) = UInt8.ofNat (L.getD i 0).toNat := by
    show (mkB L).data[i]'_ = _
    simp [mkB, List.getD, h]
  rw [e, UInt8.toNat_ofNat']; omega

/-- The bytes of a code point are read as it. -/
theorem dec_enc {s : ByteArray} {a : Nat} {p : Int} (hp : isPt p = true) (hs : a + (enc p).length ≤ s.size) (hb : ∀ j, j < (enc p).length → byt s (a + j) = (enc p).getD j 0) :
    decIs s a = true ∧ decP s a = p ∧ leadN (byt s a) = (enc p).length := by
  have hr := isPt_range hp
  have key : leadN (byt s a) = (enc p).length ∧ conts s (a + 1) ((enc p).length - 1) = true ∧ acc s (a + 1) (leadB (byt s a)) ((enc p).length - 1) = p ∧ szOf p = (enc p).length := by
    by_cases c1 : p < 128
    · have e : enc p = [p] := by unfold enc; rw [if_pos c1]
      rw [e] at hb hs ⊢
      have b0 : byt s a = p := by simpa using hb 0 (by simp)
      rw [b0]
      exact ⟨by unfold leadN; rw [if_pos c1]; rfl, rfl, by unfold leadB; rw [if_pos c1]; rfl, by unfold szOf; rw [if_pos c1]; rfl⟩
    by_cases c2 : p < 2048
    · have e : enc p = [192 + p / 64, 128 + p % 64] := by unfold enc; rw [if_neg c1, if_pos c2]
      rw [e] at hb hs ⊢
      simp only [List.length_cons, List.length_nil] at hs hb ⊢
      have b0 : byt s a = 192 + p / 64 := by simpa using hb 0 (by simp)
      have b1 : byt s (a + 1) = 128 + p % 64 := by simpa using hb 1 (by simp)
      refine ⟨?_, ?_, ?_, ?_⟩
      · unfold leadN; rw [b0]; (repeat' split) <;> omega
      · simp only [conts, Nat.add_zero, b1, Bool.true_and, decide_eq_true_eq]; omega
      · simp only [acc, Nat.add_zero, b1, b0, leadB]; (repeat' split) <;> omega
      · unfold szOf; (repeat' split) <;> omega
    by_cases c3 : p < 65536
    · have e : enc p = [224 + p / 4096, 128 + p / 64 % 64, 128 + p % 64] := by unfold enc; rw [if_neg c1, if_neg c2, if_pos c3]
      rw [e] at hb hs ⊢
      simp only [List.length_cons, List.length_nil] at hs hb ⊢
      have b0 : byt s a = 224 + p / 4096 := by simpa using hb 0 (by simp)
      have b1 : byt s (a + 1) = 128 + p / 64 % 64 := by simpa using hb 1 (by simp)
      have b2 : byt s (a + 1 + 1) = 128 + p % 64 := by simpa using hb 2 (by simp)
      refine ⟨?_, ?_, ?_, ?_⟩
      · unfold leadN; rw [b0]; (repeat' split) <;> omega
      · simp only [conts, Nat.add_zero, b1, b2, Bool.true_and, Bool.and_eq_true, decide_eq_true_eq]; omega
      · simp only [acc, Nat.add_zero, b1, b2, b0, leadB]; (repeat' split) <;> omega
      · unfold szOf; (repeat' split) <;> omega
    · have e : enc p = [240 + p / 262144, 128 + p / 4096 % 64, 128 + p / 64 % 64, 128 + p % 64] := by unfold enc; rw [if_neg c1, if_neg c2, if_neg c3]
      rw [e] at hb hs ⊢
      simp only [List.length_cons, List.length_nil] at hs hb ⊢
      have b0 : byt s a = 240 + p / 262144 := by simpa using hb 0 (by simp)
      have b1 : byt s (a + 1) = 128 + p / 4096 % 64 := by simpa using hb 1 (by simp)
      have b2 : byt s (a + 1 + 1) = 128 + p / 64 % 64 := by simpa using hb 2 (by simp)
      have b3 : byt s (a + 1 + 2) = 128 + p % 64 := by simpa using hb 3 (by simp)
      refine ⟨?_, ?_, ?_, ?_⟩
      · unfold leadN; rw [b0]; (repeat' split) <;> omega
      · simp only [conts, Nat.add_zero, b1, b2, b3, Bool.true_and, Bool.and_eq_true, decide_eq_true_eq]; omega
      · simp only [acc, Nat.add_zero, b1, b2, b3, b0, leadB]; (repeat' split) <;> omega
      · unfold szOf; (repeat' split) <;> omega
  obtain ⟨k1, k2, k3, k4⟩ := key
  have hl := enc_len p
  have hd : decIs s a = true := by
    simp only [decIs, k1, k2, k3, hp, k4, Bool.and_eq_true, decide_eq_true_eq, and_true]
    omega
  exact ⟨hd, by unfold decP; rw [if_pos hd, k1, k3], k1⟩

theorem encs_split (L : List Int) (k : Nat) : ∀ n, k < n → ∃ r, encs L n = encs L k ++ (enc (L.getD k 0) ++ r) := by
  intro n
  induction n with
  | zero => intro h; omega
  | succ n ih =>
    intro h
    by_cases e : k = n
    · subst e; exact ⟨[], by simp [encs]⟩
    · obtain ⟨r, hr⟩ := ih (by omega)
      exact ⟨r ++ enc (L.getD n 0), by simp only [encs, hr, List.append_assoc]⟩
theorem allPt_at {L : List Int} {k n : Nat} (hk : k < n) (h : allPt L n = true) : isPt (L.getD k 0) = true := by
  have := allPt_le (j := k + 1) (by omega) h
  simp only [allPt, Bool.and_eq_true] at this
  exact this.2
/-- Each code point is read at its place. -/
theorem dec_encs {L : List Int} {n k : Nat} (h : allPt L n = true) (hk : k < n) :
    decIs (mkB (encs L n)) (encs L k).length = true ∧ decP (mkB (encs L n)) (encs L k).length = L.getD k 0 ∧ leadN (byt (mkB (encs L n)) (encs L k).length) = (enc (L.getD k 0)).length ∧ (encs L k).length < (mkB (encs L n)).size ∧
      (encs L k).length + (enc (L.getD k 0)).length = (encs L (k + 1)).length ∧ (encs L (k + 1)).length ≤ (mkB (encs L n)).size := by
  obtain ⟨r, hr⟩ := encs_split L k n hk
  have hl := enc_len (L.getD k 0)
  have hsz : (mkB (encs L n)).size = (encs L k).length + ((enc (L.getD k 0)).length + r.length) := by rw [mkB_size, hr]; simp
  have hlen : (encs L n).length = (encs L k).length + ((enc (L.getD k 0)).length + r.length) := by rw [hr]; simp
  have := dec_enc (s := mkB (encs L n)) (a := (encs L k).length) (allPt_at hk h) (by omega) (fun j hj => by
    have e : (encs L n).getD ((encs L k).length + j) 0 = (enc (L.getD k 0)).getD j 0 := by
      generalize enc (L.getD k 0) = E at hr hj ⊢
      rw [hr]
      simp only [List.getD, List.getElem?_append_right (Nat.le_add_right _ _), Nat.add_sub_cancel_left, List.getElem?_append_left hj]
    rw [mkB_byt _ _ (by omega), e]
    have hm : (encs L n).getD ((encs L k).length + j) 0 ∈ encs L n := by
      have hlt : (encs L k).length + j < (encs L n).length := by omega
      simp only [List.getD, List.getElem?_eq_getElem hlt, Option.getD_some]
      exact List.getElem_mem hlt
    exact encs_range L n h _ hm)
  refine ⟨this.1, this.2.1, this.2.2, by omega, by simp [encs], by simp only [encs, List.length_append]; omega⟩

/-- How many code points a text has from a place on. -/
def cntF (s : ByteArray) : Nat → Nat → Nat
  | 0, _ => 0
  | f + 1, a => if a < s.size then cntF s f (a + leadN (byt s a)) + 1 else 0
def cntN (s : ByteArray) : Int := if ckE s = 0 then cntF s s.size 0 else 0
theorem cntF_step {s : ByteArray} {f a : Nat} (h : a < s.size) (hf : s.size - a ≤ f) : cntF s f a = cntF s (f - 1) (a + leadN (byt s a)) + 1 := by
  match f, hf with
  | 0, hf => omega
  | f + 1, _ => simp only [cntF, if_pos h, Nat.add_sub_cancel]
theorem cntF_end {s : ByteArray} {f a : Nat} (h : s.size ≤ a) : cntF s f a = 0 := by
  match f with
  | 0 => rfl
  | f + 1 => simp only [cntF]; rw [if_neg (by omega)]

theorem tx_encs {L : List Int} {n : Nat} (h : allPt L n = true) : ∀ m k f, k + m = n → (mkB (encs L n)).size - (encs L k).length ≤ f →
    txF (mkB (encs L n)) f (encs L k).length = true ∧ cntF (mkB (encs L n)) f (encs L k).length = m := by
  intro m
  induction m with
  | zero =>
    intro k f hk hf
    obtain rfl : k = n := by omega
    exact ⟨txF_end (by rw [mkB_size]; omega), cntF_end (by rw [mkB_size]; omega)⟩
  | succ m ih =>
    intro k f hk hf
    obtain ⟨d1, d2, d3, d4, d5, d6⟩ := dec_encs h (k := k) (by omega)
    have hl := enc_len (L.getD k 0)
    rw [txF_step d4 hf, cntF_step d4 hf, d1, d3, d5, Bool.true_and]
    have := ih (k + 1) (f - 1) (by omega) (by omega)
    exact ⟨this.1, by rw [this.2]⟩
/-- What is put is a text of as many code points. -/
theorem ck_encs {L : List Int} (h : allPt L L.length = true) (hn : L.length ≤ 1000) : ckE (mkB (encs L L.length)) = 0 ∧ cntN (mkB (encs L L.length)) = L.length := by
  have hl := encs_len L L.length
  have hs := mkB_size (encs L L.length)
  have := tx_encs h L.length 0 (mkB (encs L L.length)).size (by omega) (by omega)
  have hck : ckE (mkB (encs L L.length)) = 0 := by
    unfold ckE isTx
    rw [if_neg (by omega)]
    have h1 := this.1
    simp only [encs, List.length_nil] at h1
    rw [h1]; rfl
  refine ⟨hck, ?_⟩
  unfold cntN
  rw [if_pos hck]
  have h2 := this.2
  simp only [encs, List.length_nil] at h2
  rw [h2]
/-- Each is gone through forth and back. -/
theorem there_at {L : List Int} {k : Nat} (h : allPt L L.length = true) (hk : k < L.length) :
    nxE (mkB (encs L L.length)) ((encs L k).length : Nat) = 0 ∧ nxP (mkB (encs L L.length)) ((encs L k).length : Nat) = L.getD k 0 ∧ ((encs L k).length : Int) + nxN (mkB (encs L L.length)) ((encs L k).length : Nat) = ((encs L (k + 1)).length : Nat) ∧
    bkE (mkB (encs L L.length)) ((encs L (k + 1)).length : Nat) = 0 ∧ bkP (mkB (encs L L.length)) ((encs L (k + 1)).length : Nat) = L.getD k 0 ∧ bkN (mkB (encs L L.length)) ((encs L (k + 1)).length : Nat) = nxN (mkB (encs L L.length)) ((encs L k).length : Nat) := by
  obtain ⟨d1, d2, d3, d4, d5, d6⟩ := dec_encs h hk
  have e1 : nxE (mkB (encs L L.length)) ((encs L k).length : Nat) = 0 := by
    unfold nxE; rw [if_pos (by omega), Int.toNat_natCast, d1]; rfl
  obtain ⟨_, _, _, q1, q2, _⟩ := nx_ok e1
  rw [Int.toNat_natCast] at q1 q2
  have b := both_forth e1
  have e2 : ((encs L k).length : Int) + nxN (mkB (encs L L.length)) ((encs L k).length : Nat) = ((encs L (k + 1)).length : Nat) := by rw [q2, d3]; omega
  rw [e2] at b
  exact ⟨e1, by rw [q1, d2], e2, b.2.2, by rw [b.1, q1, d2], b.2.1⟩
end Go.Proofs.Ytepjehneembakaa
