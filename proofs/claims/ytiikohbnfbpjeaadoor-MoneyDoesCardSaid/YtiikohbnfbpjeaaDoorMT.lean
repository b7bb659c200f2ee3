import Derived.Test.YtiikohbnfbpjeaaDoorMP
import Derived.Test.YtiikohbnfbpjeaaDoorPlain3
import Derived.Lib.IndexMore
import Derived.Lib.TrimByte
import Derived.Lib.Repeat
namespace Go.Proofs.YtiikohbnfbpjeaaDoor
open Go.Lib
/-- A digit? -/
def isD (c : UInt8) : Bool := decide (48 ≤ c.toNat) && decide (c.toNat ≤ 57)
def digs (l : List UInt8) : Bool := l.all isD
/-- What digits tell. -/
def num (l : List UInt8) : Int := l.foldl (fun a c => a * 10 + ((c.toNat : Int) - 48)) 0
theorem num_nil : num [] = 0 := rfl
theorem num_snoc (l : List UInt8) (c : UInt8) : num (l ++ [c]) = num l * 10 + ((c.toNat : Int) - 48) := by simp [num]
theorem snoc_ind {P : List UInt8 → Prop} (h0 : P []) (h1 : ∀ l c, P l → P (l ++ [c])) : ∀ l, P l := by
  intro l
  have : ∀ n (l : List UInt8), l.length = n → P l := by
    intro n
    induction n with
    | zero => intro l hl; rw [List.length_eq_zero_iff.1 hl]; exact h0
    | succ n ih =>
      intro l hl
      rw [(List.dropLast_concat_getLast (by intro h; rw [h] at hl; simp at hl) : l.dropLast ++ [l.getLast _] = l).symm]
      exact h1 _ _ (ih _ (by simp [hl]))
  exact this _ l rfl
theorem valL_num (l : List UInt8) : valL l = num l := by
  induction l using snoc_ind with
  | h0 => rfl
  | h1 l c ih => rw [valL_snoc, num_snoc, ih]
theorem digs_app (a b : List UInt8) : digs (a ++ b) = (digs a && digs b) := by unfold digs; exact List.all_append
theorem allL_digs (l : List UInt8) : allL l = digs l := by
  induction l using snoc_ind with
  | h0 => rfl
  | h1 l c ih =>
    rw [allL_snoc, digs_app, ih]
    congr 1
    unfold digs isD
    simp only [List.all_cons, List.all_nil, Bool.and_true]
    rw [← Bool.decide_and, decide_eq_decide]; omega
theorem num_app (a b : List UInt8) : num (a ++ b) = num a * 10 ^ b.length + num b := by
  induction b using snoc_ind with
  | h0 => simp [num_nil]
  | h1 b c ih =>
    rw [← List.append_assoc, num_snoc, num_snoc, ih, List.length_append, List.length_singleton, Int.pow_succ, ← Int.mul_assoc]
    omega
theorem num_bounds (l : List UInt8) (h : digs l = true) : 0 ≤ num l ∧ num l < 10 ^ l.length := by
  induction l using snoc_ind with
  | h0 => exact ⟨Int.le_refl _, by decide⟩
  | h1 l c ih =>
    rw [digs_app] at h
    simp only [Bool.and_eq_true] at h
    have i := ih h.1
    have hc : 48 ≤ c.toNat ∧ c.toNat ≤ 57 := by
      have := h.2
      unfold digs isD at this
      simpa using this
    rw [num_snoc, List.length_append, List.length_singleton, Int.pow_succ]
    omega
theorem num_zero_cons (l : List UInt8) : num (48 :: l) = num l := rfl
theorem num_trim (l : List UInt8) : num (trimLeftB l 48) = num l := by
  induction l with
  | nil => rfl
  | cons c l ih =>
    unfold trimLeftB at ih ⊢
    by_cases h : c = 48
    · subst h
      rw [List.dropWhile_cons_of_pos (by simp), ih, num_zero_cons]
    · rw [List.dropWhile_cons_of_neg (by simpa using h)]
theorem num_zeros (n : Nat) (l : List UInt8) : num (List.replicate n 48 ++ l) = num l := by
  induction n with
  | zero => rfl
  | succ n ih => rw [List.replicate_succ, List.cons_append, num_zero_cons, ih]
theorem digs_zeros (n : Nat) : digs (List.replicate n 48) = true := by
  unfold digs
  rw [List.all_replicate]
  simp [isD]
theorem num_behind (l : List UInt8) (n : Nat) : num (l ++ List.replicate n 48) = num l * 10 ^ n := by
  rw [num_app, List.length_replicate]
  have := num_zeros n []
  rw [List.append_nil] at this
  rw [this]; simp [num_nil]
theorem trim_digs (l : List UInt8) (h : digs l = true) : digs (trimLeftB l 48) = true := by
  unfold digs trimLeftB at *
  rw [List.all_eq_true] at h ⊢
  intro x hx
  exact h x ((List.dropWhile_sublist _).subset hx)
theorem trim_first (l : List UInt8) : (trimLeftB l 48).head? ≠ some 48 := by
  unfold trimLeftB
  intro h
  induction l with
  | nil => simp at h
  | cons c l ih =>
    by_cases hc : c = 48
    · subst hc; rw [List.dropWhile_cons_of_pos (by simp)] at h; exact ih h
    · rw [List.dropWhile_cons_of_neg (by simpa using hc)] at h
      simp at h; exact hc h
theorem trim_nil (l : List UInt8) (h : trimLeftB l 48 = []) : num l = 0 := by rw [← num_trim, h]; rfl
/-- What lies ahead of the point and behind it. -/
theorem index_none (l : List UInt8) (c : UInt8) (h : c ∉ l) : index l [c] = -1 := by
  induction l with
  | nil => rfl
  | cons b l ih =>
    unfold index
    have hb : b ≠ c := fun e => h (by rw [e]; exact List.mem_cons_self)
    have hl : c ∉ l := fun e => h (List.mem_cons_of_mem _ e)
    rw [ih hl]
    simp [List.isPrefixOf, Ne.symm hb]
theorem index_at (a b : List UInt8) (c : UInt8) (h : c ∉ a) : index (a ++ c :: b) [c] = a.length := by
  induction a with
  | nil => simp [index, List.isPrefixOf]
  | cons x a ih =>
    rw [List.cons_append]
    unfold index
    have hb : x ≠ c := fun e => h (by rw [e]; exact List.mem_cons_self)
    have hl : c ∉ a := fun e => h (List.mem_cons_of_mem _ e)
    rw [ih hl]
    have : ((a.length : Int) == -1) = false := by simp
    simp [List.isPrefixOf, Ne.symm hb]
theorem cut_none (l : List UInt8) (c : UInt8) (h : c ∉ l) : cut l [c] = (l, [], false) := by
  unfold cut; rw [index_none l c h]; rfl
theorem cut_at (a b : List UInt8) (c : UInt8) (h : c ∉ a) : cut (a ++ c :: b) [c] = (a, b, true) := by
  unfold cut
  rw [index_at a b c h, if_pos (by omega), Int.toNat_natCast]
  simp
/-- A text is cut at a byte, or it has none. -/
theorem cut_ways (l : List UInt8) (c : UInt8) : (c ∉ l ∧ cut l [c] = (l, [], false)) ∨ (∃ a b, l = a ++ c :: b ∧ c ∉ a ∧ cut l [c] = (a, b, true)) := by
  by_cases h : c ∈ l
  · right
    obtain ⟨a, b, e, h1⟩ : ∃ a b, l = a ++ c :: b ∧ c ∉ a := by
      induction l with
      | nil => simp at h
      | cons x l ih =>
        by_cases hx : x = c
        · exact ⟨[], l, by rw [hx]; rfl, by simp⟩
        · obtain ⟨a, b, e, h1⟩ := ih ((List.mem_cons.1 h).resolve_left (fun q => hx q.symm))
          exact ⟨x :: a, b, by rw [e]; rfl, fun q => (List.mem_cons.1 q).elim (fun q => hx q.symm) h1⟩
    exact ⟨a, b, e, h1, by rw [e]; exact cut_at a b c h1⟩
  · exact Or.inl ⟨h, cut_none l c h⟩
/-- What 'Parse' looks at. -/
def pNeg (l : List UInt8) : Bool := hasPrefix l [45]
def pBare (l : List UInt8) : List UInt8 := trimPrefix l [45]
def pA (l : List UInt8) : List UInt8 := (cut (pBare l) [46]).1
def pB (l : List UInt8) : List UInt8 := (cut (pBare l) [46]).2.1
def pPt (l : List UInt8) : Bool := (cut (pBare l) [46]).2.2
def areDi (l : List UInt8) : Bool := digs l && !l.isEmpty
def pOk (l : List UInt8) : Bool := areDi (pA l) && !((pA l).head? == some 48 && !(pA l == [48])) && (!(pPt l) || (areDi (pB l) && decide ((pB l).length ≤ 18)))
def pNum (l : List UInt8) : Int := if pNeg l then -num (pA l ++ pB l) else num (pA l ++ pB l)
def pGood (l : List UInt8) : Bool := pOk l && in64 (pNum l)
def pM (l : List UInt8) : Int := if pGood l then (norm (pNum l) (pB l).length).1 else 0
def pS (l : List UInt8) : Int := if pGood l then ((norm (pNum l) (pB l).length).2 : Nat) else 0
def pE (l : List UInt8) : Int := if pGood l then 0 else 140
theorem p_two (l : List UInt8) : (pGood l = true ∧ pE l = 0 ∧ norm (pNum l) (pB l).length = (pM l, (pS l).toNat) ∧ 0 ≤ pS l) ∨ (pGood l = false ∧ pE l = 140 ∧ pM l = 0 ∧ pS l = 0) := by
  unfold pE pM pS
  cases h : pGood l <;> simp
theorem norm_nought : ∀ s, norm 0 s = (0, 0)
  | 0 => rfl
  | s + 1 => by rw [norm_more 0 s rfl]; exact norm_nought s
theorem in64_iff (v : Int) : in64 v = true ↔ (-9223372036854775808 ≤ v ∧ v < 9223372036854775808) := by unfold in64; exact decide_eq_true_iff
theorem norm_small (s : Nat) (v : Int) (h : in64 v = true) : in64 (norm v s).1 = true := by
  induction s generalizing v with
  | zero => exact h
  | succ s ih =>
    by_cases h0 : v % 10 = 0
    · rw [norm_more v s h0]; apply ih; rw [in64_iff] at h ⊢; omega
    · rw [norm_stop v s h0]; exact h
theorem no_point {a : List UInt8} (h : digs a = true) : (46 : UInt8) ∉ a := by
  intro q
  unfold digs at h
  have := List.all_eq_true.1 h _ q
  revert this; decide
theorem no_minus {a : List UInt8} (h : digs a = true) (h0 : a ≠ []) (r : List UInt8) : hasPrefix (a ++ r) [45] = false := by
  cases a with
  | nil => exact absurd rfl h0
  | cons c a =>
    unfold digs at h
    have := List.all_eq_true.1 h c List.mem_cons_self
    have hc : c ≠ 45 := by intro q; subst q; revert this; decide
    simp [hasPrefix, List.isPrefixOf, Ne.symm hc]
/-- A sign. -/
def sgL (b : Bool) : List UInt8 := if b then [45] else []
theorem p_sign (b : Bool) (a r : List UInt8) (h : digs a = true) (h0 : a ≠ []) : pNeg (sgL b ++ (a ++ r)) = b ∧ pBare (sgL b ++ (a ++ r)) = a ++ r := by
  unfold pNeg pBare
  cases b
  · have := no_minus h h0 r
    unfold trimPrefix
    unfold sgL
    simp only [Bool.false_eq_true, if_false, List.nil_append]
    rw [this]
    exact ⟨rfl, by simp⟩
  · unfold trimPrefix sgL
    simp [hasPrefix, List.isPrefixOf]
/-- Digits may stand ahead of a point. -/
def okA (a : List UInt8) : Bool := areDi a && !(a.head? == some 48 && !(a == [48]))
theorem areDi_parts {a : List UInt8} (h : areDi a = true) : digs a = true ∧ a ≠ [] := by
  unfold areDi at h
  simp only [Bool.and_eq_true, Bool.not_eq_true', List.isEmpty_eq_false_iff] at h
  exact h
theorem okA_parts {a : List UInt8} (h : okA a = true) : digs a = true ∧ a ≠ [] := by
  unfold okA at h
  simp only [Bool.and_eq_true] at h
  exact areDi_parts h.1
/-- A text with a point. -/
theorem p_point (s : Bool) (a b : List UInt8) (ha : okA a = true) (hb : areDi b = true) (hl : b.length ≤ 18) :
    pOk (sgL s ++ (a ++ 46 :: b)) = true ∧ pNum (sgL s ++ (a ++ 46 :: b)) = (if s then -num (a ++ b) else num (a ++ b)) ∧ pB (sgL s ++ (a ++ 46 :: b)) = b := by
  obtain ⟨d, n⟩ := okA_parts ha
  obtain ⟨e1, e2⟩ := p_sign s a (46 :: b) d n
  have c := cut_at a b 46 (no_point d)
  have hA : pA (sgL s ++ (a ++ 46 :: b)) = a := by unfold pA; rw [e2, c]
  have hB : pB (sgL s ++ (a ++ 46 :: b)) = b := by unfold pB; rw [e2, c]
  refine ⟨?_, ?_, hB⟩
  · unfold pOk; rw [hA, hB]; unfold okA at ha; rw [ha, hb]; simp [hl]
  · unfold pNum; rw [e1, hA, hB]
/-- A text without one. -/
theorem p_none (s : Bool) (a : List UInt8) (ha : okA a = true) :
    pOk (sgL s ++ a) = true ∧ pNum (sgL s ++ a) = (if s then -num a else num a) ∧ pB (sgL s ++ a) = [] := by
  obtain ⟨d, n⟩ := okA_parts ha
  obtain ⟨e1, e2⟩ := p_sign s a [] d n
  rw [List.append_nil] at e1 e2
  have c := cut_none a 46 (no_point d)
  have hA : pA (sgL s ++ a) = a := by unfold pA; rw [e2, c]
  have hB : pB (sgL s ++ a) = [] := by unfold pB; rw [e2, c]
  have hP : pPt (sgL s ++ a) = false := by unfold pPt; rw [e2, c]
  refine ⟨?_, ?_, hB⟩
  · unfold pOk; rw [hA, hB, hP]; unfold okA at ha; rw [ha]; rfl
  · unfold pNum; rw [e1, hA, hB, List.append_nil]
/-- The digits of a Decimal's text. -/
def tZ (m : Int) (p : Nat) : List UInt8 := List.replicate (p + 1 - (decDigits m.natAbs).length) 48 ++ decDigits m.natAbs
def tA (m : Int) (p : Nat) : List UInt8 := (tZ m p).take ((tZ m p).length - p)
def tB (m : Int) (p : Nat) : List UInt8 := (tZ m p).drop ((tZ m p).length - p)
/-- A Decimal's text. -/
def tText (m : Int) (p : Nat) : List UInt8 := sgL (decide (m < 0)) ++ (if p = 0 then tZ m p else tA m p ++ 46 :: tB m p)
theorem dec_digs (u : Nat) : digs (decDigits u) = true ∧ num (decDigits u) = u ∧ decDigits u ≠ [] := by
  obtain ⟨a, b, -, d⟩ := dec_all u
  exact ⟨by rw [← allL_digs]; exact a, by rw [← valL_num]; exact b, fun h => by rw [h] at d; simp at d⟩
theorem tZ_len (m : Int) (p : Nat) : p + 1 ≤ (tZ m p).length := by unfold tZ; simp; omega
theorem tZ_digs (m : Int) (p : Nat) : digs (tZ m p) = true := by unfold tZ; rw [digs_app, digs_zeros, (dec_digs _).1]; rfl
theorem tZ_num (m : Int) (p : Nat) : num (tZ m p) = m.natAbs := by unfold tZ; rw [num_zeros]; exact (dec_digs _).2.1
theorem tAB (m : Int) (p : Nat) : tA m p ++ tB m p = tZ m p := List.take_append_drop _ _
theorem tB_len (m : Int) (p : Nat) : (tB m p).length = p := by have := tZ_len m p; unfold tB; rw [List.length_drop]; omega
theorem tA_len (m : Int) (p : Nat) : (tA m p).length = (tZ m p).length - p := by have := tZ_len m p; unfold tA; rw [List.length_take]; omega
theorem head_byt (l : List UInt8) (h : l.head? = some 48) : byt ⟨l.toArray⟩ 0 = 48 := by
  rw [byt_mk]
  cases l with
  | nil => simp at h
  | cons c l => simp at h; subst h; rfl
theorem tA_ok (m : Int) (p : Nat) (h : may m p = true) : okA (tA m p) = true := by
  have h1 := tZ_len m p
  have h2 := tA_len m p
  have hd : digs (tA m p) = true := by
    have := tZ_digs m p
    rw [← tAB m p, digs_app] at this
    simp only [Bool.and_eq_true] at this
    exact this.1
  have hne : tA m p ≠ [] := fun e => by rw [e] at h2; simp at h2; omega
  unfold okA areDi
  rw [hd]
  simp only [Bool.true_and, Bool.and_eq_true, Bool.not_eq_true', List.isEmpty_eq_false_iff]
  refine ⟨hne, ?_⟩
  by_cases h48 : (tA m p).head? = some 48
  · have : tA m p = [48] := by
      by_cases hs : (tZ m p).length = p + 1
      · obtain ⟨c, hc⟩ := List.length_eq_one_iff.1 (by omega : (tA m p).length = 1)
        rw [hc] at h48 ⊢
        simp at h48; rw [h48]
      · have hz : tZ m p = decDigits m.natAbs := by
          unfold tZ at hs ⊢
          rw [List.length_append, List.length_replicate] at hs
          rw [show p + 1 - (decDigits m.natAbs).length = 0 by omega]; rfl
        have hh : (decDigits m.natAbs).head? = some 48 := by
          unfold tA at h48
          rw [hz] at h48
          rw [List.head?_take] at h48
          split at h48 <;> simp_all
        have hl1 := dec_first _ (head_byt _ hh)
        have h0 := (dec_all m.natAbs).2.2.1 (head_byt _ hh)
        obtain rfl : m = 0 := by omega
        obtain ⟨-, -, r⟩ := may_parts h
        have hp : p = 0 := by omega
        subst hp
        rw [hz, hl1] at hs
        exact absurd rfl hs
    rw [this]; rfl
  · simp [h48]
theorem tA_zero (m : Int) : tA m 0 = tZ m 0 := by unfold tA; simp
theorem sg_num (m : Int) (n : Int) (h : n = m.natAbs) : (if decide (m < 0) = true then -n else n) = m := by
  subst h
  by_cases hm : m < 0
  · rw [if_pos (by simpa using hm)]; omega
  · rw [if_neg (by simpa using hm)]; omega
/-- A Decimal's text tells it. -/
theorem text_back (m : Int) (p : Nat) (h : may m p = true) (h64 : in64 m = true) : pM (tText m p) = m ∧ pS (tText m p) = p ∧ pE (tText m p) = 0 := by
  obtain ⟨-, h18, -⟩ := may_parts h
  have hA := tA_ok m p h
  have key : pOk (tText m p) = true ∧ pNum (tText m p) = m ∧ (pB (tText m p)).length = p := by
    by_cases hp : p = 0
    · subst hp
      rw [tA_zero] at hA
      obtain ⟨a, b, c⟩ := p_none (decide (m < 0)) _ hA
      have e : tText m 0 = sgL (decide (m < 0)) ++ tZ m 0 := by unfold tText; rw [if_pos rfl]
      rw [e]
      exact ⟨a, b.trans (sg_num m _ (tZ_num m 0)), by rw [c]; rfl⟩
    · have hB : areDi (tB m p) = true := by
        have := tZ_digs m p
        rw [← tAB m p, digs_app] at this
        simp only [Bool.and_eq_true] at this
        unfold areDi
        rw [this.2]
        simp only [Bool.true_and, Bool.not_eq_true', List.isEmpty_eq_false_iff]
        intro e
        have := tB_len m p
        rw [e] at this
        exact hp this.symm
      obtain ⟨a, b, c⟩ := p_point (decide (m < 0)) _ _ hA hB (by rw [tB_len]; omega)
      have e : tText m p = sgL (decide (m < 0)) ++ (tA m p ++ 46 :: tB m p) := by unfold tText; rw [if_neg hp]
      rw [e]
      rw [tAB] at b
      exact ⟨a, b.trans (sg_num m _ (tZ_num m p)), by rw [c]; exact tB_len m p⟩
  have hg : pGood (tText m p) = true := by unfold pGood; rw [key.1, key.2.1, h64]; rfl
  unfold pM pS pE
  rw [hg, key.2.1, key.2.2]
  have := norm_self h
  rw [this]
  exact ⟨rfl, rfl, rfl⟩
end Go.Proofs.YtiikohbnfbpjeaaDoor
