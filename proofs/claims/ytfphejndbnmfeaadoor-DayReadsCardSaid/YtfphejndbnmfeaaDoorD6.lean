import Derived.Test.YtfphejndbnmfeaaDoorD2
import Derived.Test.YtfphejndbnmfeaaDoorD5
namespace Go.Proofs.YtfphejndbnmfeaaDoor

/-- The byte at a place; 0 behind the end. -/
def bt (s : ByteArray) (i : Nat) : Int := if h : i < s.size then (s[i].toNat : Int) else 0
def isDg (c : Int) : Bool := decide (48 ≤ c ∧ c ≤ 57)
/-- Do so many digits stand at a place? -/
def digs (s : ByteArray) (p : Nat) : Nat → Bool
  | 0 => true
  | k + 1 => digs s p k && isDg (bt s (p + k))
/-- The number that they tell. -/
def numv (s : ByteArray) (p : Nat) : Nat → Nat
  | 0 => 0
  | k + 1 => 10 * numv s p k + (bt s (p + k) - 48).toNat
/-- Does a number of so many digits, from lo to hi, stand at a place? -/
def okN (s : ByteArray) (p k lo hi : Nat) : Bool := digs s p k && decide (lo ≤ numv s p k ∧ numv s p k ≤ hi)
def okDate (s : ByteArray) : Bool :=
  okN s 0 4 0 9999 && (bt s 4 == 45) && okN s 5 2 1 12 && (bt s 7 == 45) && okN s 8 2 1 (dim (numv s 0 4) (numv s 5 2))
def okTime (s : ByteArray) : Bool :=
  okN s 11 2 0 23 && (bt s 13 == 58) && okN s 14 2 0 59 && (bt s 16 == 58) && okN s 17 2 0 59
/-- How many digits stand at a place, up to so many. -/
def fcount (s : ByteArray) (p : Nat) : Nat → Nat
  | 0 => 0
  | f + 1 => if isDg (bt s p) then fcount s (p + 1) f + 1 else 0
/-- The days ahead of a date. -/
def aheadD (y m d : Nat) : Nat := cum y + cumM y (m - 1) + (d - 1)
def fracOk (s : ByteArray) (p : Nat) : Bool := !(bt s p == 46) || decide (0 < fcount s (p + 1) 9)
def fracE (s : ByteArray) (p : Nat) : Nat := if bt s p = 46 then p + 1 + fcount s (p + 1) 9 else p
def fracV (s : ByteArray) (p : Nat) : Nat := if bt s p = 46 then numv s (p + 1) (fcount s (p + 1) 9) * 10 ^ (9 - fcount s (p + 1) 9) else 0
def isZ (c : Int) : Bool := c == 90 || c == 122
def offOk (s : ByteArray) (e : Nat) : Bool :=
  isZ (bt s e) || ((bt s e == 43 || bt s e == 45) && okN s (e + 1) 2 0 23 && (bt s (e + 3) == 58) && okN s (e + 4) 2 0 59)
def offL (s : ByteArray) (e : Nat) : Nat := if isZ (bt s e) then 1 else 6
def offV (s : ByteArray) (e : Nat) : Int :=
  if isZ (bt s e) then 0 else if bt s e = 45 then -(3600 * (numv s (e + 1) 2 : Int) + 60 * (numv s (e + 4) 2 : Int)) else 3600 * (numv s (e + 1) 2 : Int) + 60 * (numv s (e + 4) 2 : Int)
def aheadS (s : ByteArray) : Nat := aheadD (numv s 0 4) (numv s 5 2) (numv s 8 2)
def timeS (s : ByteArray) : Nat := 3600 * numv s 11 2 + 60 * numv s 14 2 + numv s 17 2
def secS (s : ByteArray) : Int := 86400 * (aheadS s : Int) + timeS s - offV s (fracE s 19)
def okMark (s : ByteArray) : Bool := bt s 10 == 84 || bt s 10 == 116
/-- Does a text tell a DateTime? -/
def pOk (s : ByteArray) : Bool :=
  okDate s && okMark s && okTime s && fracOk s 19 && offOk s (fracE s 19) && decide (s.size = fracE s 19 + offL s (fracE s 19)) && may (secS s) (fracV s 19)
/-- What a text tells: seconds, nanoseconds, the error. -/
def pS (s : ByteArray) : Int := if pOk s then secS s else 0
def pN (s : ByteArray) : Int := if pOk s then fracV s 19 else 0
def pE (s : ByteArray) : Int := if pOk s then 0 else 120

theorem bt_range (s : ByteArray) (i : Nat) : 0 ≤ bt s i ∧ bt s i < 256 := by
  unfold bt; split
  · have := (s[i]).toNat_lt; omega
  · omega
theorem bt_eq (s : ByteArray) (i : Nat) (h : i < s.size) : (s[i].toNat : Int) = bt s i := by unfold bt; rw [dif_pos h]
theorem bt_out (s : ByteArray) (i : Nat) (h : ¬ i < s.size) : bt s i = 0 := by unfold bt; rw [dif_neg h]
theorem bt_in (s : ByteArray) (i : Nat) (h : bt s i ≠ 0) : i < s.size := by
  by_cases l : i < s.size
  · exact l
  · exact absurd (bt_out s i l) h
theorem numv_lt (s : ByteArray) (p k : Nat) (h : digs s p k = true) : numv s p k < 10 ^ k := by
  induction k with
  | zero => simp [numv]
  | succ k ih =>
    simp only [digs, Bool.and_eq_true] at h
    have := ih h.1
    have hd : 48 ≤ bt s (p + k) ∧ bt s (p + k) ≤ 57 := by simpa [isDg] using h.2
    rw [Nat.pow_succ]
    show 10 * numv s p k + (bt s (p + k) - 48).toNat < _
    omega
theorem digs_in (s : ByteArray) (p k : Nat) (h : digs s p k = true) (h0 : 0 < k) : p + k ≤ s.size := by
  cases k with
  | zero => omega
  | succ k =>
    simp only [digs, Bool.and_eq_true] at h
    have hd : 48 ≤ bt s (p + k) ∧ bt s (p + k) ≤ 57 := by simpa [isDg] using h.2
    have := bt_in s (p + k) (by omega)
    omega
theorem okN_lt {s : ByteArray} {p k lo hi : Nat} (h : okN s p k lo hi = true) : digs s p k = true ∧ lo ≤ numv s p k ∧ numv s p k ≤ hi := by
  unfold okN at h; rw [Bool.and_eq_true, decide_eq_true_iff] at h; exact h
theorem fcount_le (s : ByteArray) (f : Nat) : ∀ p, fcount s p f ≤ f := by
  induction f with
  | zero => intro p; simp [fcount]
  | succ f ih =>
    intro p
    unfold fcount
    split
    · have := ih (p + 1); omega
    · omega

/-! ### Texts that are put together -/
theorem bt_drop {s : ByteArray} {p : Nat} {c : UInt8} {R : List UInt8} (h : s.data.toList.drop p = c :: R) : bt s p = (c.toNat : Int) ∧ s.data.toList.drop (p + 1) = R ∧ p < s.size := by
  have h1 : s.data.toList[p]? = some c := by
    have := List.getElem?_drop (xs := s.data.toList) (i := p) (j := 0)
    rw [h, Nat.add_zero] at this; exact this.symm
  obtain ⟨hl, he⟩ := List.getElem?_eq_some_iff.1 h1
  have hp : p < s.size := hl
  refine ⟨?_, ?_, hp⟩
  · rw [← bt_eq s p hp]
    have : s[p] = c := by rw [← he]; simp [ByteArray.getElem_eq_getElem_data]
    rw [this]
  · rw [← List.drop_drop, h]; rfl
theorem bt_end {s : ByteArray} {p : Nat} (h : s.data.toList.drop p = []) : bt s p = 0 := by
  have : s.data.toList.length ≤ p := List.drop_eq_nil_iff.1 h
  exact bt_out s p (fun h => by have : p < s.data.toList.length := h; omega)
def allDg (l : List UInt8) : Prop := ∀ c ∈ l, isDg (c.toNat : Int) = true
/-- The number that digits tell. -/
def val (l : List UInt8) : Nat := l.foldl (fun a c => 10 * a + ((c.toNat : Int) - 48).toNat) 0
theorem val_snoc (l : List UInt8) (c : UInt8) : val (l ++ [c]) = 10 * val l + ((c.toNat : Int) - 48).toNat := by unfold val; rw [List.foldl_append]; rfl
theorem snoc_ind {P : List UInt8 → Prop} (h0 : P []) (h1 : ∀ l c, P l → P (l ++ [c])) (l : List UInt8) : P l := by
  have : ∀ n (l : List UInt8), l.length = n → P l := by
    intro n
    induction n with
    | zero => intro l hl; rw [List.length_eq_zero_iff.1 hl]; exact h0
    | succ n ih =>
      intro l hl
      have hne : l ≠ [] := by intro e; rw [e] at hl; simp at hl
      rw [← List.dropLast_concat_getLast hne]
      exact h1 _ _ (ih _ (by simp [hl]))
  exact this _ l rfl
theorem digs_list {s : ByteArray} {p : Nat} (l : List UInt8) : ∀ R, s.data.toList.drop p = l ++ R → allDg l → digs s p l.length = true ∧ numv s p l.length = val l ∧ s.data.toList.drop (p + l.length) = R := by
  induction l using snoc_ind with
  | h0 => intro R h _; exact ⟨rfl, rfl, by simpa using h⟩
  | h1 l c ih =>
    intro R h ha
    obtain ⟨i1, i2, i3⟩ := ih (c :: R) (by rw [h]; simp) (fun x hx => ha x (by simp [hx]))
    obtain ⟨b1, b2, _⟩ := bt_drop i3
    rw [List.length_append, List.length_singleton]
    refine ⟨?_, ?_, b2⟩
    · simp only [digs, i1, Bool.true_and, b1]
      exact ha c (by simp)
    · rw [val_snoc]
      show 10 * numv s p l.length + (bt s (p + l.length) - 48).toNat = _
      rw [i2, b1]
theorem dg_dgs (n : Nat) : isDg ((UInt8.ofNat (48 + n % 10)).toNat : Int) = true ∧ (((UInt8.ofNat (48 + n % 10)).toNat : Int) - 48).toNat = n % 10 := by
  have : n % 10 = 0 ∨ n % 10 = 1 ∨ n % 10 = 2 ∨ n % 10 = 3 ∨ n % 10 = 4 ∨ n % 10 = 5 ∨ n % 10 = 6 ∨ n % 10 = 7 ∨ n % 10 = 8 ∨ n % 10 = 9 := by omega
  rcases this with e | e | e | e | e | e | e | e | e | e <;> rw [e] <;> decide
theorem all_dgs (k n : Nat) : allDg (dgs k n) := by
  induction k generalizing n with
  | zero => intro c hc; cases hc
  | succ k ih =>
    intro c hc
    simp only [dgs, List.mem_append, List.mem_singleton] at hc
    rcases hc with hc | hc
    · exact ih _ c hc
    · rw [hc]; exact (dg_dgs n).1
theorem val_dgs (k n : Nat) (h : n < 10 ^ k) : val (dgs k n) = n := by
  induction k generalizing n with
  | zero => simp at h; subst h; rfl
  | succ k ih =>
    show val (dgs k (n / 10) ++ [UInt8.ofNat (48 + n % 10)]) = n
    rw [val_snoc, (dg_dgs n).2, ih (n / 10) (by rw [Nat.pow_succ] at h; omega)]
    omega
theorem num_dgs {s : ByteArray} {p k n : Nat} {R : List UInt8} (hn : n < 10 ^ k) (h : s.data.toList.drop p = dgs k n ++ R) : digs s p k = true ∧ numv s p k = n ∧ s.data.toList.drop (p + k) = R := by
  have := digs_list (dgs k n) R h (all_dgs k n)
  rwa [dgs_length, val_dgs k n hn] at this
theorem val_zeros (l : List UInt8) (j : Nat) : val (l ++ List.replicate j 48) = val l * 10 ^ j := by
  induction j with
  | zero => simp
  | succ j ih =>
    rw [List.replicate_succ', ← List.append_assoc, val_snoc, ih, Nat.pow_succ]
    have : (((48 : UInt8).toNat : Int) - 48).toNat = 0 := by decide
    rw [this, Nat.add_zero, Nat.mul_left_comm, Nat.mul_comm 10]
theorem take_all {p : UInt8 → Bool} : ∀ (l : List UInt8), ∀ b ∈ l.takeWhile p, p b = true
  | [], b, hb => by simp at hb
  | a :: l, b, hb => by
    by_cases h : p a = true
    · rw [List.takeWhile_cons_of_pos h] at hb
      rcases List.mem_cons.1 hb with e | e
      · rw [e]; exact h
      · exact take_all l b e
    · rw [List.takeWhile_cons_of_neg h] at hb; cases hb
theorem trim_split (l : List UInt8) : ∃ j, l = Lib.trimRightB l 48 ++ List.replicate j 48 := by
  refine ⟨(l.reverse.takeWhile (· == 48)).length, ?_⟩
  have h1 := List.takeWhile_append_dropWhile (p := (· == (48 : UInt8))) (l := l.reverse)
  have h2 : l.reverse.takeWhile (· == 48) = List.replicate (l.reverse.takeWhile (· == 48)).length 48 :=
    List.eq_replicate_iff.2 ⟨rfl, fun b hb => by simpa using take_all l.reverse b hb⟩
  unfold Lib.trimRightB
  have h3 := congrArg List.reverse h1
  rw [List.reverse_append, List.reverse_reverse] at h3
  conv => lhs; rw [← h3]
  congr 1
  conv => lhs; rw [h2]
  exact List.reverse_replicate ..
theorem fcount_list {s : ByteArray} (l : List UInt8) : ∀ (p f : Nat) (R : List UInt8), s.data.toList.drop p = l ++ R → allDg l → l.length ≤ f → isDg (bt s (p + l.length)) = false → fcount s p f = l.length := by
  induction l with
  | nil =>
    intro p f R h _ _ hb
    cases f with
    | zero => rfl
    | succ f =>
      unfold fcount
      simp only [List.length_nil, Nat.add_zero] at hb
      rw [hb]; rfl
  | cons c l ih =>
    intro p f R h ha hf hb
    cases f with
    | zero => simp at hf
    | succ f =>
      obtain ⟨b1, b2, _⟩ := bt_drop (R := l ++ R) (by rw [h]; rfl)
      have hc : isDg (bt s p) = true := by rw [b1]; exact ha c (by simp)
      unfold fcount
      rw [hc, if_pos rfl, ih (p + 1) f R b2 (fun x hx => ha x (by simp [hx])) (by simpa using hf) (by rw [← hb]; congr 2; simp; omega)]
      rfl
/-- A fraction that stands at a place is told. -/
theorem frac_read {s : ByteArray} {p n : Nat} {R : List UInt8} (hn : n < 1000000000) (h : s.data.toList.drop p = frac n ++ R) (h46 : ∀ c R', R = c :: R' → c ≠ 46 ∧ isDg (c.toNat : Int) = false) (hR : R ≠ []) :
    fracOk s p = true ∧ fracV s p = n ∧ fracE s p = p + (frac n).length ∧ s.data.toList.drop (fracE s p) = R := by
  unfold frac at h ⊢
  by_cases h0 : n = 0
  · rw [if_pos h0] at h ⊢
    rw [List.nil_append] at h
    cases R with
    | nil => exact absurd rfl hR
    | cons c R =>
      obtain ⟨g1, g2⟩ := h46 c R rfl
      obtain ⟨b1, b2, _⟩ := bt_drop h
      have hb : ¬ bt s p = 46 := by
        rw [b1]; intro e; apply g1
        exact UInt8.toNat_inj.1 (by have : c.toNat = 46 := by omega
                                    simpa using this)
      have hb2 : (bt s p == 46) = false := by simpa using hb
      refine ⟨by unfold fracOk; rw [hb2]; rfl, by unfold fracV; rw [if_neg hb, h0], by unfold fracE; rw [if_neg hb]; rfl, by unfold fracE; rw [if_neg hb]; exact h⟩
  · rw [if_neg h0] at h ⊢
    obtain ⟨b1, b2, _⟩ := bt_drop (c := 46) (R := Lib.trimRightB (dgs 9 n) 48 ++ R) (by rw [h]; simp)
    have hb : bt s p = 46 := b1
    obtain ⟨j, hj⟩ := trim_split (dgs 9 n)
    obtain ⟨l, hl⟩ : ∃ l, l = Lib.trimRightB (dgs 9 n) 48 := ⟨_, rfl⟩
    have hne : l ≠ [] := by rw [hl]; exact trim_dgs_ne 9 n h0 hn
    rw [← hl] at hj b2 ⊢
    have hal : allDg l := fun c hc => all_dgs 9 n c (by rw [hj]; simp [hc])
    have hlen : l.length + j = 9 := by
      have := congrArg List.length hj
      rw [dgs_length] at this; simp at this; omega
    obtain ⟨d1, d2, d3⟩ := digs_list l R b2 hal
    have hnd : isDg (bt s (p + 1 + l.length)) = false := by
      cases R with
      | nil => exact absurd rfl hR
      | cons c R => rw [(bt_drop d3).1]; exact (h46 c R rfl).2
    have hfc := fcount_list l (p + 1) 9 R b2 hal (by omega) hnd
    have hv : val l * 10 ^ j = n := by rw [← val_zeros, ← hj, val_dgs 9 n hn]
    refine ⟨?_, ?_, ?_, ?_⟩
    · unfold fracOk
      rw [hfc]
      have : 0 < l.length := List.length_pos_iff.2 hne
      simp [this]
    · unfold fracV; rw [if_pos hb, hfc, d2, show 9 - l.length = j by omega, hv]
    · unfold fracE; rw [if_pos hb, hfc]; simp; omega
    · unfold fracE; rw [if_pos hb, hfc]; exact d3
end Go.Proofs.YtfphejndbnmfeaaDoor
