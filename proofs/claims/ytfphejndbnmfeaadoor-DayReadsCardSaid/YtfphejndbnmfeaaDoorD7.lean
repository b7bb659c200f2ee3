import Derived.Test.YtfphejndbnmfeaaDoorD6
namespace Go.Proofs.YtfphejndbnmfeaaDoor

/-- A date's and a time's text, ahead of the fraction. -/
def head19 (y m d t : Nat) : List UInt8 :=
  dgs 4 y ++ ([45] ++ (dgs 2 m ++ ([45] ++ (dgs 2 d ++ ([84] ++ (dgs 2 (t / 3600) ++ ([58] ++ (dgs 2 (t / 60 % 60) ++ ([58] ++ dgs 2 (t % 60))))))))))
theorem dtext_eq (y m d t n : Nat) : dtext y m d t n = head19 y m d t ++ (frac n ++ [90]) := by
  unfold dtext head19; simp only [List.append_assoc]
theorem head19_length (y m d t : Nat) : (head19 y m d t).length = 19 := by
  unfold head19; simp [dgs_length]
theorem read_text {s : ByteArray} {y m d t n : Nat} {O : List UInt8} (h : s.data.toList = head19 y m d t ++ (frac n ++ O)) (hy : y < 10000) (hm1 : 1 ≤ m) (hm2 : m ≤ 12) (hd1 : 1 ≤ d) (hd2 : d ≤ dim y m) (hd3 : d ≤ 31) (ht : t < 86400) (hn : n < 1000000000)
    (h46 : ∀ c R', O = c :: R' → c ≠ 46 ∧ isDg (c.toNat : Int) = false) (hO : O ≠ []) :
    okDate s = true ∧ okMark s = true ∧ okTime s = true ∧ fracOk s 19 = true ∧ fracV s 19 = n ∧ fracE s 19 = 19 + (frac n).length ∧ s.data.toList.drop (fracE s 19) = O ∧ aheadS s = aheadD y m d ∧ timeS s = t := by
  unfold head19 at h
  simp only [List.append_assoc] at h
  have h0 := (List.drop_zero (l := s.data.toList)).trans h
  obtain ⟨a1, a2, a3⟩ := num_dgs (by omega) h0
  obtain ⟨b1, b2, _⟩ := bt_drop a3
  obtain ⟨c1, c2, c3⟩ := num_dgs (n := m) (k := 2) (by omega) b2
  obtain ⟨d1, d2, _⟩ := bt_drop c3
  obtain ⟨e1, e2, e3⟩ := num_dgs (n := d) (k := 2) (by omega) d2
  obtain ⟨f1, f2, _⟩ := bt_drop e3
  obtain ⟨g1, g2, g3⟩ := num_dgs (n := t / 3600) (k := 2) (by omega) f2
  obtain ⟨i1, i2, _⟩ := bt_drop g3
  obtain ⟨j1, j2, j3⟩ := num_dgs (n := t / 60 % 60) (k := 2) (by omega) i2
  obtain ⟨k1, k2, _⟩ := bt_drop j3
  obtain ⟨l1, l2, l3⟩ := num_dgs (n := t % 60) (k := 2) (by omega) k2
  obtain ⟨r1, r2, r3, r4⟩ := frac_read hn l3 h46 hO
  refine ⟨?_, ?_, ?_, r1, r2, r3, r4, ?_, ?_⟩
  · unfold okDate okN
    rw [a1, a2, b1, c1, c2, d1, e1, e2]
    have q1 : decide (0 ≤ y ∧ y ≤ 9999) = true := by simp; omega
    have q2 : decide (1 ≤ m ∧ m ≤ 12) = true := by simp; omega
    have q3 : decide (1 ≤ d ∧ d ≤ dim y m) = true := by simp; omega
    rw [q1, q2, q3]; rfl
  · unfold okMark; rw [f1]; rfl
  · unfold okTime okN
    rw [g1, g2, i1, j1, j2, k1, l1, l2]
    have q1 : decide (0 ≤ t / 3600 ∧ t / 3600 ≤ 23) = true := by simp; omega
    have q2 : decide (0 ≤ t / 60 % 60 ∧ t / 60 % 60 ≤ 59) = true := by simp; omega
    have q3 : decide (0 ≤ t % 60 ∧ t % 60 ≤ 59) = true := by simp; omega
    rw [q1, q2, q3]; rfl
  · unfold aheadS; rw [a2, c2, e2]
  · unfold timeS; rw [g2, j2, l2]; omega
theorem off_z {s : ByteArray} {e : Nat} (h : s.data.toList.drop e = [90]) : offOk s e = true ∧ offL s e = 1 ∧ offV s e = 0 ∧ s.size = e + 1 := by
  obtain ⟨b1, b2, b3⟩ := bt_drop h
  have hz : isZ (bt s e) = true := by rw [b1]; rfl
  refine ⟨by unfold offOk; rw [hz]; rfl, by unfold offL; rw [hz]; rfl, by unfold offV; rw [hz]; rfl, ?_⟩
  have := congrArg List.length h
  rw [List.length_drop] at this
  have h2 : s.data.toList.length = s.size := rfl
  simp at this; omega
/-- The end of a text that tells an offset. -/
def offT (back : Bool) (h m : Nat) : List UInt8 := [if back then 45 else 43] ++ (dgs 2 h ++ ([58] ++ (dgs 2 m ++ [])))
theorem off_t {s : ByteArray} {e : Nat} {back : Bool} {h m : Nat} (h1 : h ≤ 23) (h2 : m ≤ 59) (hs : s.data.toList.drop e = offT back h m) :
    offOk s e = true ∧ offL s e = 6 ∧ offV s e = (if back then -(3600 * (h : Int) + 60 * m) else 3600 * (h : Int) + 60 * m) ∧ s.size = e + 6 := by
  unfold offT at hs
  obtain ⟨b1, b2, b3⟩ := bt_drop hs
  obtain ⟨c1, c2, c3⟩ := num_dgs (n := h) (k := 2) (by omega) b2
  obtain ⟨d1, d2, _⟩ := bt_drop c3
  obtain ⟨e1, e2, e3⟩ := num_dgs (n := m) (k := 2) (by omega) d2
  have hz : isZ (bt s e) = false := by rw [b1]; cases back <;> rfl
  have q1 : decide (0 ≤ h ∧ h ≤ 23) = true := by simp; omega
  have q2 : decide (0 ≤ m ∧ m ≤ 59) = true := by simp; omega
  have hsz : s.size = e + 6 := by
    have := congrArg List.length hs
    rw [List.length_drop] at this
    have h2 : s.data.toList.length = s.size := rfl
    simp [dgs_length] at this; omega
  refine ⟨?_, by unfold offL; rw [hz]; rfl, ?_, hsz⟩
  · unfold offOk okN
    rw [hz]
    have q3 : bt s (e + 3) = ((58 : UInt8).toNat : Int) := d1
    have q4 : digs s (e + 4) 2 = true := e1
    have q5 : numv s (e + 4) 2 = m := e2
    rw [c1, c2, q3, q4, q5, q1, q2, b1]
    cases back <;> rfl
  · unfold offV
    rw [hz, c2, show numv s (e + 4) 2 = m from e2, b1]
    cases back
    · rw [if_neg (by simp), if_neg (by decide), if_neg (by simp)]
    · rw [if_neg (by simp), if_pos (by decide), if_pos rfl]
theorem may_iff (s n : Int) : may s n = true ↔ (0 ≤ s ∧ s ≤ 315569519999 ∧ 0 ≤ n ∧ n ≤ 999999999) := by unfold may; exact decide_eq_true_iff
/-- What a DateTime's text tells, where it ends as one may. -/
theorem p_text {s : ByteArray} {y r m d n t : Nat} {D : Nat} (hy : OnYear D y r) (hm : OnMonth y r m d) (hD : D ≤ 3652424) (ht : t < 86400) (hn : n < 1000000000)
    (O : List UInt8) (h : s.data.toList = head19 y (m + 1) (d + 1) t ++ (frac n ++ O)) (h46 : ∀ c R', O = c :: R' → c ≠ 46 ∧ isDg (c.toNat : Int) = false) (hO : O ≠ [])
    (hok : ∀ e, s.data.toList.drop e = O → offOk s e = true ∧ s.size = e + offL s e) :
    pOk s = may (86400 * (D : Int) + t - offV s (fracE s 19)) n ∧ secS s = 86400 * (D : Int) + t - offV s (fracE s 19) ∧ fracV s 19 = n ∧ s.data.toList.drop (fracE s 19) = O := by
  have hy' : y < 10000 := year_lt (by have := hy.1; omega) hD
  have hm' : m < 12 := month_lt hy.2 (by have := hm.1; omega)
  have hdd : dim y (m + 1) ≤ 31 := by
    unfold dim
    have : ∀ k, k < 12 → mdays k ≤ 31 := by decide
    have := this m hm'
    split
    · omega
    · simpa using this
  obtain ⟨a1, a2, a3, a4, a5, a6, a7, a8, a9⟩ := read_text h hy' (by omega) (by omega) (by omega) hm.2 (by have := hm.2; omega) ht hn h46 hO
  obtain ⟨o1, o2⟩ := hok _ a7
  have hA : aheadS s = D := by
    rw [a8]; unfold aheadD
    have := hy.1; have := hm.1
    simp; omega
  have hS : secS s = 86400 * (D : Int) + t - offV s (fracE s 19) := by unfold secS; rw [hA, a9]
  refine ⟨?_, hS, a5, a7⟩
  unfold pOk
  rw [a1, a2, a3, a4, o1, decide_eq_true o2, hS, a5]; rfl
theorem h46_z : ∀ (c : UInt8) R', [(90 : UInt8)] = c :: R' → c ≠ 46 ∧ isDg (c.toNat : Int) = false := by
  intro c R' h
  injection h with h1 _
  subst h1; decide
theorem h46_t (back : Bool) (hh mm : Nat) : ∀ (c : UInt8) R', offT back hh mm = c :: R' → c ≠ 46 ∧ isDg (c.toNat : Int) = false := by
  intro c R' h
  unfold offT at h
  injection h with h1 _
  subst h1; cases back <;> decide
/-- A DateTime's text tells it. -/
theorem p_back {s : ByteArray} {y r m d : Nat} {S n : Nat} (hy : OnYear (S / 86400) y r) (hm : OnMonth y r m d) (hmay : may S n = true) (h : s.data.toList = dtext y (m + 1) (d + 1) (S % 86400) n) :
    pS s = S ∧ pN s = n ∧ pE s = 0 := by
  have hb := (may_iff _ _).1 hmay
  rw [dtext_eq] at h
  obtain ⟨p1, p2, p3, p4⟩ := p_text hy hm (by omega) (Nat.mod_lt _ (by decide)) (by omega) [90] h h46_z (by simp) (fun e he => ⟨(off_z he).1, by rw [(off_z he).2.1]; exact (off_z he).2.2.2⟩)
  rw [(off_z p4).2.2.1] at p1 p2
  have e : 86400 * ((S / 86400 : Nat) : Int) + ((S % 86400 : Nat) : Int) - 0 = S := by omega
  rw [e] at p1 p2
  rw [hmay] at p1
  unfold pS pN pE
  rw [p1, p2, p3]
  exact ⟨rfl, rfl, rfl⟩
/-- What is told with another offset. -/
theorem p_off {s : ByteArray} {y r m d : Nat} {S n : Nat} {back : Bool} {hh mm : Nat} (hy : OnYear (S / 86400) y r) (hm : OnMonth y r m d) (hmay : may S n = true) (h1 : hh ≤ 23) (h2 : mm ≤ 59)
    (h : s.data.toList = head19 y (m + 1) (d + 1) (S % 86400) ++ (frac n ++ offT back hh mm)) :
    pOk s = may ((S : Int) - (if back then -(3600 * (hh : Int) + 60 * mm) else 3600 * (hh : Int) + 60 * mm)) n ∧ secS s = (S : Int) - (if back then -(3600 * (hh : Int) + 60 * mm) else 3600 * (hh : Int) + 60 * mm) ∧ fracV s 19 = n := by
  have hb := (may_iff _ _).1 hmay
  obtain ⟨p1, p2, p3, p4⟩ := p_text hy hm (by omega) (Nat.mod_lt _ (by decide)) (by omega) (offT back hh mm) h (h46_t back hh mm) (by simp [offT]) (fun e he => ⟨(off_t h1 h2 he).1, by rw [(off_t h1 h2 he).2.1]; exact (off_t h1 h2 he).2.2.2⟩)
  rw [(off_t h1 h2 p4).2.2.1] at p1 p2
  obtain ⟨v, hv⟩ : ∃ v : Int, v = (if back then -(3600 * (hh : Int) + 60 * mm) else 3600 * (hh : Int) + 60 * mm) := ⟨_, rfl⟩
  rw [← hv] at p1 p2 ⊢
  have e : 86400 * ((S / 86400 : Nat) : Int) + ((S % 86400 : Nat) : Int) - v = S - v := by omega
  rw [e] at p1 p2
  exact ⟨p1, p2, p3⟩
/-- Digits of a fraction, trimmed, are no more than those that told it. -/
theorem trim_short (l : List UInt8) (j : Nat) : (Lib.trimRightB (l ++ List.replicate j 48) 48).length ≤ l.length := by
  unfold Lib.trimRightB
  rw [List.reverse_append, List.reverse_replicate]
  have : ∀ (j : Nat) (L : List UInt8), (List.dropWhile (· == 48) (List.replicate j 48 ++ L)).length ≤ L.length := by
    intro j L
    induction j with
    | zero => simpa using (List.dropWhile_sublist _).length_le
    | succ j ih =>
      rw [List.replicate_succ, List.cons_append, List.dropWhile_cons_of_pos (by decide)]; exact ih
  simpa using this j l.reverse
theorem dgs_mul (v j : Nat) : ∀ k, v < 10 ^ k → dgs (k + j) (v * 10 ^ j) = dgs k v ++ List.replicate j 48 := by
  induction j with
  | zero => intro k _; simp
  | succ j ih =>
    intro k hk
    show dgs (k + j) (v * 10 ^ (j + 1) / 10) ++ [UInt8.ofNat (48 + v * 10 ^ (j + 1) % 10)] = _
    have e : v * 10 ^ (j + 1) = v * 10 ^ j * 10 := by rw [Nat.pow_succ, Nat.mul_assoc]
    rw [e, Nat.mul_div_cancel _ (by decide), Nat.mul_mod_left, ih k hk, List.replicate_succ', List.append_assoc]; rfl
theorem frac_short {s : ByteArray} {p : Nat} : (frac (fracV s p)).length + p ≤ fracE s p := by
  unfold frac fracV fracE
  by_cases h : bt s p = 46
  · rw [if_pos h, if_pos h]
    split
    · simp; omega
    · obtain ⟨k, hk⟩ : ∃ k, k = fcount s (p + 1) 9 := ⟨_, rfl⟩
      rw [← hk]
      have hk9 : k ≤ 9 := by rw [hk]; exact fcount_le _ _ _
      have hd : digs s (p + 1) k = true := by
        have : ∀ f q, digs s q (fcount s q f) = true := by
          intro f
          induction f with
          | zero => intro q; rfl
          | succ f ih =>
            intro q
            unfold fcount
            by_cases hq : isDg (bt s q) = true
            · rw [if_pos hq]
              have h1 := ih (q + 1)
              have : ∀ a, digs s (q + 1) a = true → digs s q (a + 1) = true := by
                intro a
                induction a with
                | zero => intro _; simp [digs, hq]
                | succ a iha =>
                  intro ha
                  simp only [digs, Bool.and_eq_true] at ha
                  have := iha ha.1
                  unfold digs
                  rw [this, Bool.true_and, show q + (a + 1) = q + 1 + a by omega]
                  exact ha.2
              exact this _ h1
            · rw [if_neg hq]; rfl
        rw [hk]; exact this 9 (p + 1)
      have hlt := numv_lt s (p + 1) k hd
      have e := dgs_mul (numv s (p + 1) k) (9 - k) k hlt
      rw [show k + (9 - k) = 9 by omega] at e
      rw [e, List.length_append]
      have := trim_short (dgs k (numv s (p + 1) k)) (9 - k)
      rw [dgs_length] at this
      simp; omega
  · rw [if_neg h, if_neg h]; simp
/-- What is told may be, and its text is no longer. -/
theorem p_may {s : ByteArray} (h : pE s = 0) : pOk s = true ∧ may (pS s) (pN s) = true ∧ 20 + (frac (pN s).toNat).length ≤ s.size := by
  have ho : pOk s = true := by
    unfold pE at h
    cases hp : pOk s with
    | true => rfl
    | false => rw [hp] at h; simp at h
  refine ⟨ho, ?_, ?_⟩
  · unfold pS pN; rw [ho, if_pos rfl, if_pos rfl]
    unfold pOk at ho; rw [Bool.and_eq_true] at ho; exact ho.2
  · have hz : s.size = fracE s 19 + offL s (fracE s 19) := by
      unfold pOk at ho; simp only [Bool.and_eq_true, decide_eq_true_iff] at ho; exact ho.1.2
    have h1 : 1 ≤ offL s (fracE s 19) := by unfold offL; split <;> omega
    have h2 := frac_short (s := s) (p := 19)
    unfold pN; rw [ho, if_pos rfl]
    simp only [Int.toNat_natCast]; omega
theorem dtext_length (y m d t n : Nat) : (dtext y m d t n).length = 20 + (frac n).length := by
  rw [dtext_eq]; simp [head19_length]; omega
end Go.Proofs.YtfphejndbnmfeaaDoor
