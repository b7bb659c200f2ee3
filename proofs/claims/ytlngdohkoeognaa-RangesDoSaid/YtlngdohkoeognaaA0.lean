/- Plain facts of layer 6: sets of numbers as ranges; a set is told by its numbers. No program in sight. -/
import Derived.WalkKit
namespace Go.Proofs.Ytlngdohkoeognaa
open Go.RowKit
abbrev Rg := Int × Int
def okR (r : Rg) : Bool := decide (0 ≤ r.1) && decide (r.1 ≤ r.2) && decide (r.2 ≤ 1114111)
theorem okR_iff {r : Rg} : okR r = true ↔ 0 ≤ r.1 ∧ r.1 ≤ r.2 ∧ r.2 ≤ 1114111 := by
  unfold okR
  simp only [Bool.and_eq_true, decide_eq_true_eq]
  exact ⟨fun h => ⟨h.1.1, h.1.2, h.2⟩, fun h => ⟨⟨h.1, h.2.1⟩, h.2.2⟩⟩
def inR (r : Rg) (n : Int) : Bool := decide (r.1 ≤ n) && decide (n ≤ r.2)
theorem inR_iff {r : Rg} {n : Int} : inR r n = true ↔ r.1 ≤ n ∧ n ≤ r.2 := by
  unfold inR; simp only [Bool.and_eq_true, decide_eq_true_eq]
/-- Does one of the ranges have a number? -/
def hs (L : List Rg) (n : Int) : Bool := L.any fun r => inR r n
theorem hs_iff {L : List Rg} {n : Int} : hs L n = true ↔ ∃ r ∈ L, r.1 ≤ n ∧ n ≤ r.2 := by
  unfold hs
  rw [List.any_eq_true]
  exact ⟨fun ⟨r, h1, h2⟩ => ⟨r, h1, inR_iff.1 h2⟩, fun ⟨r, h1, h2⟩ => ⟨r, h1, inR_iff.2 h2⟩⟩
theorem hs_cons (r : Rg) (L : List Rg) (n : Int) : hs (r :: L) n = (inR r n || hs L n) := rfl
theorem hs_app (L M : List Rg) (n : Int) : hs (L ++ M) n = (hs L n || hs M n) := by unfold hs; rw [List.any_append]
/-- A set, its numbers from a bound on. -/
def Cn : Int → List Rg → Prop
  | _, [] => True
  | lo, r :: L => lo ≤ r.1 ∧ r.1 ≤ r.2 ∧ r.2 ≤ 1114111 ∧ Cn (r.2 + 2) L
theorem Cn.low : ∀ {L : List Rg} {lo : Int}, Cn lo L → ∀ n, hs L n = true → lo ≤ n ∧ n ≤ 1114111
  | [], _, _, n, h => by simp [hs] at h
  | r :: L, lo, hc, n, h => by
    obtain ⟨h1, h2, h3, h4⟩ := hc
    rw [hs_cons, Bool.or_eq_true] at h
    rcases h with h | h
    · have := inR_iff.1 h; omega
    · have := Cn.low h4 n h; omega
theorem Cn.down {lo lo' : Int} {L : List Rg} (h : Cn lo L) (hl : lo' ≤ lo) : Cn lo' L := by
  cases L with
  | nil => trivial
  | cons r L => exact ⟨by have := h.1; omega, h.2⟩
/-- A set is told by its numbers. -/
theorem Cn.one : ∀ {L M : List Rg} {lo : Int}, Cn lo L → Cn lo M → (∀ n, hs L n = hs M n) → L = M
  | [], [], _, _, _, _ => rfl
  | [], s :: M, _, _, hm, h => by
    have := h s.1
    rw [hs_cons, inR_iff.2 ⟨Int.le_refl _, hm.2.1⟩] at this
    simp [hs] at this
  | r :: L, [], _, hl, _, h => by
    have := h r.1
    rw [hs_cons, inR_iff.2 ⟨Int.le_refl _, hl.2.1⟩] at this
    simp [hs] at this
  | r :: L, s :: M, lo, hl, hm, h => by
    obtain ⟨l1, l2, l3, l4⟩ := hl
    obtain ⟨m1, m2, m3, m4⟩ := hm
    have e1 : r.1 = s.1 := by
      have a := h r.1
      have b := h s.1
      rw [hs_cons, hs_cons, inR_iff.2 ⟨Int.le_refl _, l2⟩, Bool.true_or] at a
      rw [hs_cons, hs_cons, (inR_iff (r := s)).2 ⟨Int.le_refl _, m2⟩, Bool.true_or] at b
      have a1 : s.1 ≤ r.1 := by
        rcases Bool.or_eq_true _ _ ▸ a.symm with x | x
        · exact (inR_iff.1 x).1
        · have := (Cn.low m4 _ x).1; omega
      have b1 : r.1 ≤ s.1 := by
        rcases Bool.or_eq_true _ _ ▸ b with x | x
        · exact (inR_iff.1 x).1
        · have := (Cn.low l4 _ x).1; omega
      omega
    have e2 : r.2 = s.2 := by
      rcases Int.lt_trichotomy r.2 s.2 with hlt | heq | hgt
      · exfalso
        have a := h (r.2 + 1)
        rw [hs_cons, hs_cons, (inR_iff (r := s)).2 ⟨by omega, by omega⟩, Bool.true_or] at a
        rcases Bool.or_eq_true _ _ ▸ a with x | x
        · have := inR_iff.1 x; omega
        · have := (Cn.low l4 _ x).1; omega
      · exact heq
      · exfalso
        have a := h (s.2 + 1)
        rw [hs_cons, hs_cons, (inR_iff (r := r)).2 ⟨by omega, by omega⟩, Bool.true_or] at a
        rcases Bool.or_eq_true _ _ ▸ a.symm with x | x
        · have := inR_iff.1 x; omega
        · have := (Cn.low m4 _ x).1; omega
    have er : r = s := Prod.ext e1 e2
    subst er
    have e3 : L = M := Cn.one (lo := r.2 + 2) l4 m4 fun n => by
      have a := h n
      rw [hs_cons, hs_cons] at a
      cases hi : inR r n with
      | false => rw [hi, Bool.false_or, Bool.false_or] at a; exact a
      | true =>
        have hn := inR_iff.1 hi
        have x : hs L n = false := by
          cases hx : hs L n with
          | false => rfl
          | true => have := (Cn.low l4 _ hx).1; omega
        have y : hs M n = false := by
          cases hy : hs M n with
          | false => rfl
          | true => have := (Cn.low m4 _ hy).1; omega
        rw [x, y]
    rw [e3]
/-- How a range is put behind others, the last one first. -/
def tch (acc : List Rg) (r : Rg) : List Rg :=
  match acc with
  | [] => [r]
  | m :: t => if m.2 + 1 < r.1 then r :: m :: t else (m.1, max m.2 r.2) :: t
/-- A set, the last range first. -/
def CnR : List Rg → Prop
  | [] => True
  | r :: t => 0 ≤ r.1 ∧ r.1 ≤ r.2 ∧ r.2 ≤ 1114111 ∧ (∀ m, t.head? = some m → m.2 + 2 ≤ r.1) ∧ CnR t
theorem tch_ok {acc : List Rg} {r : Rg} (ha : CnR acc) (hr : okR r = true) (hle : ∀ m, acc.head? = some m → m.1 ≤ r.1) : CnR (tch acc r) ∧ (∀ m, (tch acc r).head? = some m → m.1 ≤ r.1) ∧ ∀ n, hs (tch acc r) n = (hs acc n || inR r n) := by
  have hr' := okR_iff.1 hr
  cases acc with
  | nil => exact ⟨⟨hr'.1, hr'.2.1, hr'.2.2, (fun m h => by cases h), trivial⟩, (fun m h => by cases h; exact Int.le_refl _), fun n => by simp [tch, hs]⟩
  | cons m t =>
    obtain ⟨a1, a2, a3, a4, a5⟩ := ha
    have hm := hle m rfl
    have ht : tch (m :: t) r = if m.2 + 1 < r.1 then r :: m :: t else (m.1, max m.2 r.2) :: t := rfl
    rw [ht]
    split
    · rename_i h1
      refine ⟨⟨hr'.1, hr'.2.1, hr'.2.2, (fun x h => by cases h; omega), a1, a2, a3, a4, a5⟩, (fun x h => by cases h; exact Int.le_refl _), fun n => ?_⟩
      rw [hs_cons, Bool.or_comm]
    · rename_i h1
      refine ⟨⟨a1, by show m.1 ≤ max m.2 r.2; omega, by show max m.2 r.2 ≤ 1114111; omega, a4, a5⟩, (fun x h => by cases h; exact hm), fun n => ?_⟩
      rw [hs_cons, hs_cons]
      have e : inR (m.1, max m.2 r.2) n = (inR m n || inR r n) := by
        rw [Bool.eq_iff_iff, Bool.or_eq_true, inR_iff, inR_iff, inR_iff]
        show (m.1 ≤ n ∧ n ≤ max m.2 r.2) ↔ _
        omega
      rw [e]
      cases inR m n <;> cases inR r n <;> cases hs t n <;> rfl
theorem cnR_rev : ∀ (t : List Rg) (L : List Rg) (lo : Int), CnR t → (∀ m, t.head? = some m → m.2 + 2 ≤ lo) → 0 ≤ lo → Cn lo L → Cn 0 (t.reverse ++ L)
  | [], L, lo, _, _, h0, hl => hl.down h0
  | r :: t, L, lo, hc, hh, h0, hl => by
    obtain ⟨a1, a2, a3, a4, a5⟩ := hc
    rw [List.reverse_cons, List.append_assoc]
    exact cnR_rev t (r :: L) r.1 a5 (fun m h => a4 m h) a1 ⟨Int.le_refl _, a2, a3, hl.down (hh r rfl)⟩
/-- Sorted ranges put one behind the other. -/
theorem fold_ok : ∀ (L acc : List Rg), CnR acc → (∀ r ∈ L, okR r = true) → (∀ m r, acc.head? = some m → L.head? = some r → m.1 ≤ r.1) → L.Pairwise (fun a b => a.1 ≤ b.1) →
    CnR (L.foldl tch acc) ∧ ∀ n, hs (L.foldl tch acc) n = (hs acc n || hs L n)
  | [], acc, ha, _, _, _ => ⟨ha, fun n => by simp [hs]⟩
  | r :: L, acc, ha, hok, hle, hp => by
    have hr := hok r (by simp)
    obtain ⟨t1, t2, t3⟩ := tch_ok ha hr (fun m h => hle m r h rfl)
    have hp' := List.pairwise_cons.1 hp
    obtain ⟨k1, k2⟩ := fold_ok L (tch acc r) t1 (fun x hx => hok x (by simp [hx])) (fun m x hm hx => by
      have := t2 m hm
      have hxr := hp'.1 x (List.mem_of_mem_head? (by rw [hx]; rfl))
      omega) hp'.2
    refine ⟨k1, fun n => ?_⟩
    rw [List.foldl_cons, k2, t3, hs_cons, Bool.or_assoc]
/-- The union of ranges, sorted by their beginnings. -/
def uniL (S : List Rg) : List Rg := (S.foldl tch []).reverse
theorem hs_rev (L : List Rg) (n : Int) : hs L.reverse n = hs L n := by unfold hs; rw [List.any_reverse]
theorem uni_ok {S : List Rg} (hok : ∀ r ∈ S, okR r = true) (hp : S.Pairwise (fun a b => a.1 ≤ b.1)) : Cn 0 (uniL S) ∧ ∀ n, hs (uniL S) n = hs S n := by
  obtain ⟨k1, k2⟩ := fold_ok S [] trivial hok (fun m r h => by cases h) hp
  refine ⟨?_, fun n => ?_⟩
  · have := cnR_rev (S.foldl tch []) [] 2000000 k1 (fun m hm => ?_) (by omega) trivial
    · rw [List.append_nil] at this; exact this
    · cases h : S.foldl tch [] with
      | nil => rw [h] at hm; cases hm
      | cons x t => rw [h] at hm k1; cases hm; have := k1.2.2.1; omega
  · unfold uniL
    rw [hs_rev, k2]
    simp [hs]
theorem hs_perm {S T : List Rg} (h : S.Perm T) (n : Int) : hs S n = hs T n := by
  rw [Bool.eq_iff_iff, hs_iff, hs_iff]
  exact ⟨fun ⟨r, a, b⟩ => ⟨r, h.mem_iff.1 a, b⟩, fun ⟨r, a, b⟩ => ⟨r, h.mem_iff.2 a, b⟩⟩
theorem tch_len (acc : List Rg) (r : Rg) : (tch acc r).length ≤ acc.length + 1 := by
  cases acc with
  | nil => simp [tch]
  | cons m t =>
    have ht : tch (m :: t) r = if m.2 + 1 < r.1 then r :: m :: t else (m.1, max m.2 r.2) :: t := rfl
    rw [ht]
    split <;> simp
theorem fold_len : ∀ (L acc : List Rg), (L.foldl tch acc).length ≤ acc.length + L.length
  | [], acc => by simp
  | r :: L, acc => by
    have h1 := fold_len L (tch acc r)
    have h2 := tch_len acc r
    rw [List.foldl_cons, List.length_cons]
    omega
theorem uni_len (S : List Rg) : (uniL S).length ≤ S.length := by
  unfold uniL
  rw [List.length_reverse]
  have := fold_len S []
  simpa using this
/-- What lies between the ranges of a set, from a number on. -/
def gapL : Int → List Rg → List Rg
  | lo, [] => if lo ≤ 1114111 then [(lo, 1114111)] else []
  | lo, r :: L => if lo < r.1 then (lo, r.1 - 1) :: gapL (r.2 + 1) L else gapL (r.2 + 1) L
theorem gap_ok : ∀ (L : List Rg) (lo lo' : Int), Cn lo' L → lo ≤ lo' → (lo' ≤ lo + 1 ∧ 0 ≤ lo) → Cn lo (gapL lo L) ∧ (∀ n, hs (gapL lo L) n = (decide (lo ≤ n) && decide (n ≤ 1114111) && !hs L n)) ∧ (gapL lo L).length ≤ L.length + 1
  | [], lo, lo', _, _, _ => by
    unfold gapL
    split
    · rename_i h
      refine ⟨⟨Int.le_refl _, h, Int.le_refl _, trivial⟩, fun n => ?_, by simp⟩
      simp [hs, inR]
    · rename_i h
      refine ⟨trivial, fun n => ?_, by simp⟩
      simp only [hs, List.any_nil, Bool.not_false, Bool.and_true]
      symm
      rw [Bool.and_eq_false_iff, decide_eq_false_iff_not, decide_eq_false_iff_not]
      omega
  | r :: L, lo, lo', hc, h1, h2 => by
    obtain ⟨c1, c2, c3, c4⟩ := hc
    obtain ⟨k1, k2, k3⟩ := gap_ok L (r.2 + 1) (r.2 + 2) c4 (by omega) (by omega)
    have hlow : ∀ n, n < r.2 + 2 → hs L n = false := fun n hn => by
      cases h : hs L n with
      | false => rfl
      | true => have := (Cn.low c4 n h).1; omega
    unfold gapL
    split
    · rename_i h
      refine ⟨⟨Int.le_refl _, by show lo ≤ r.1 - 1; omega, by show r.1 - 1 ≤ 1114111; omega, k1.down (by show r.1 - 1 + 2 ≤ r.2 + 1; omega)⟩, fun n => ?_, by rw [List.length_cons, List.length_cons]; omega⟩
      rw [hs_cons, hs_cons, k2]
      rw [Bool.eq_iff_iff]
      simp only [Bool.or_eq_true, Bool.and_eq_true, decide_eq_true_eq, Bool.not_eq_true', Bool.or_eq_false_iff, inR, Bool.and_eq_false_iff, decide_eq_false_iff_not]
      by_cases hn : n < r.2 + 2
      · rw [hlow n hn]; simp; omega
      · constructor
        · rintro (h3 | h3)
          · omega
          · exact ⟨⟨by omega, h3.1.2⟩, by omega, h3.2⟩
        · rintro ⟨h3, h4, h5⟩
          exact .inr ⟨⟨by omega, h3.2⟩, h5⟩
    · rename_i h
      refine ⟨k1.down (by omega), fun n => ?_, by rw [List.length_cons]; omega⟩
      rw [hs_cons, k2]
      rw [Bool.eq_iff_iff]
      simp only [Bool.and_eq_true, decide_eq_true_eq, Bool.not_eq_true', Bool.or_eq_false_iff, inR, Bool.and_eq_false_iff, decide_eq_false_iff_not]
      by_cases hn : n < r.2 + 2
      · rw [hlow n hn]; simp; omega
      · constructor
        · rintro ⟨⟨h3, h4⟩, h5⟩
          exact ⟨⟨by omega, h4⟩, by omega, h5⟩
        · rintro ⟨⟨h3, h4⟩, h5, h6⟩
          exact ⟨⟨by omega, h4⟩, h6⟩
end Go.Proofs.Ytlngdohkoeognaa
