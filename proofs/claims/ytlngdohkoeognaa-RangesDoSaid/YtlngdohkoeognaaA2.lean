/- Plain facts of layer 6: what the document's algebra and the code's tell alike; cuts. No program in sight. -/
import Derived.Test.YtlngdohkoeognaaA1
namespace Go.Proofs.Ytlngdohkoeognaa
open Go.RowKit
/-- Lists that rise and have the same numbers are the same. -/
theorem up_one : ∀ {l m : List Int}, l.Pairwise (· < ·) → m.Pairwise (· < ·) → (∀ x, x ∈ l ↔ x ∈ m) → l = m
  | [], [], _, _, _ => rfl
  | [], y :: m, _, _, h => by have := (h y).2 (by simp); simp at this
  | x :: l, [], _, _, h => by have := (h x).1 (by simp); simp at this
  | x :: l, y :: m, hl, hm, h => by
    have hl' := List.pairwise_cons.1 hl
    have hm' := List.pairwise_cons.1 hm
    have e : x = y := by
      rcases List.mem_cons.1 ((h x).1 (by simp)) with h1 | h1
      · exact h1
      · rcases List.mem_cons.1 ((h y).2 (by simp)) with h2 | h2
        · exact h2.symm
        · have := hl'.1 y h2; have := hm'.1 x h1; omega
    subst e
    rw [up_one hl'.2 hm'.2 fun z => by
      constructor
      · intro hz
        rcases List.mem_cons.1 ((h z).1 (by simp [hz])) with h1 | h1
        · subst h1; have := hl'.1 z hz; omega
        · exact h1
      · intro hz
        rcases List.mem_cons.1 ((h z).2 (by simp [hz])) with h1 | h1
        · subst h1; have := hm'.1 z hz; omega
        · exact h1]
/-- Where a set may not turn, it does not. -/
theorem hs_still {R : List Rg} {x y : Int} (hxy : x ≤ y) (h : ∀ r ∈ R, ¬ (x < r.1 ∧ r.1 ≤ y) ∧ ¬ (x < r.2 + 1 ∧ r.2 + 1 ≤ y)) : hs R y = hs R x := by
  rw [Bool.eq_iff_iff, hs_iff, hs_iff]
  constructor
  · rintro ⟨r, hr, h1, h2⟩; have := h r hr; exact ⟨r, hr, by omega, by omega⟩
  · rintro ⟨r, hr, h1, h2⟩; have := h r hr; exact ⟨r, hr, by omega, by omega⟩
/-- The document's sets of sets. -/
def madeL (R : List Rg) (f : Int → Bool) : List Rg := (setF f [] (plcL R)).reverse
theorem plc_zero (R : List Rg) (hok : ∀ r ∈ R, okR r = true) : ∃ l, plcL R = 0 :: l := by
  obtain ⟨k1, k2, _⟩ := plc_ok R hok
  have h0 : (0 : Int) ∈ plcL R := (k2 0).2 (.inl rfl)
  cases h : plcL R with
  | nil => rw [h] at h0; cases h0
  | cons x l =>
    rw [h] at h0 k1
    have hx : 0 ≤ x := by
      rcases (k2 x).1 (by rw [h]; simp) with h1 | ⟨r, hr, h1⟩
      · omega
      · have := okR_iff.1 (hok r hr); omega
    rcases List.mem_cons.1 h0 with h1 | h1
    · exact ⟨l, by rw [h1]⟩
    · have := (List.pairwise_cons.1 k1).1 0 h1; omega
theorem made_ok (R : List Rg) (hok : ∀ r ∈ R, okR r = true) (f : Int → Bool) (hf : ∀ x y, x ≤ y → (∀ r ∈ R, ¬ (x < r.1 ∧ r.1 ≤ y) ∧ ¬ (x < r.2 + 1 ∧ r.2 + 1 ≤ y)) → f y = f x) :
    Cn 0 (madeL R f) ∧ ∀ n, hs (madeL R f) n = (decide (0 ≤ n) && decide (n ≤ 1114111) && f n) := by
  obtain ⟨k1, k2, _⟩ := plc_ok R hok
  obtain ⟨l, hl⟩ := plc_zero R hok
  have hm : ∀ x ∈ plcL R, x ≤ 1114111 := fun x hx => by
    rcases (k2 x).1 hx with h1 | ⟨r, hr, h1⟩
    · omega
    · have := okR_iff.1 (hok r hr); omega
  rw [hl] at k1
  obtain ⟨j1, j2⟩ := set_ok f l [] 0 trivial k1 (Int.le_refl _) (fun x hx => hm x (by rw [hl]; exact hx)) (fun m h => by cases h) (fun x y hx hxy hz hy => hf x y hxy (fun r hr => by
    have hr' := okR_iff.1 (hok r hr)
    refine ⟨fun h1 => ?_, fun h1 => ?_⟩
    · have := hz r.1 (by rw [← hl]; exact (k2 _).2 (.inr ⟨r, hr, .inl rfl⟩)) h1.2
      omega
    · have := hz (r.2 + 1) (by rw [← hl]; exact (k2 _).2 (.inr ⟨r, hr, .inr ⟨rfl, by omega⟩⟩)) h1.2
      omega))
  unfold madeL
  rw [hl]
  refine ⟨?_, fun n => ?_⟩
  · have := cnR_rev (setF f [] (0 :: l)) [] 2000000 j1 (fun m hm => ?_) (by omega) trivial
    · rw [List.append_nil] at this; exact this
    · cases h : setF f [] (0 :: l) with
      | nil => rw [h] at hm; cases hm
      | cons x t => rw [h] at hm j1; cases hm; have := j1.2.2.1; omega
  · rw [hs_rev, j2]
    simp [hs]
/-- May ranges be a set? -/
def mayL : List Rg → Bool
  | [] => true
  | [r] => okR r
  | r :: s :: L => okR r && decide (r.2 + 2 ≤ s.1) && mayL (s :: L)
theorem may_cn : ∀ (L : List Rg), mayL L = true ↔ Cn 0 L
  | [] => by simp [mayL, Cn]
  | [r] => by
    show okR r = true ↔ _
    rw [okR_iff]
    simp [Cn]
  | r :: s :: L => by
    have ih := may_cn (s :: L)
    show (okR r && decide (r.2 + 2 ≤ s.1) && mayL (s :: L)) = true ↔ _
    rw [Bool.and_eq_true, Bool.and_eq_true, ih, okR_iff, decide_eq_true_eq]
    simp only [Cn]
    constructor
    · rintro ⟨⟨h1, h2⟩, h3⟩; exact ⟨h1.1, h1.2.1, h1.2.2, h2, h3.2⟩
    · rintro ⟨h1, h2, h3, h4, h5⟩; exact ⟨⟨⟨h1, h2, h3⟩, h4⟩, by omega, h5⟩
theorem cn_ok : ∀ {L : List Rg} {lo : Int}, 0 ≤ lo → Cn lo L → ∀ r ∈ L, okR r = true
  | [], _, _, _, r, hr => by cases hr
  | s :: L, lo, h0, h, r, hr => by
    obtain ⟨h1, h2, h3, h4⟩ := h
    rcases List.mem_cons.1 hr with rfl | hr
    · exact okR_iff.2 ⟨by omega, h2, h3⟩
    · exact cn_ok (lo := s.2 + 2) (by omega) h4 r hr
/-- The code's cuts: where the ranges of a set begin, and have ended. -/
def edgR (r : Rg) : List Int := if r.2 < 1114111 then [r.1, r.2 + 1] else [r.1]
def cutE (S : List (List Rg)) : List Int := 0 :: S.flatMap fun L => L.flatMap edgR
/-- The document's: those places where a set turns. -/
def trnB (S : List (List Rg)) (x : Int) : Bool := S.any fun L => hs L x != hs L (x - 1)
def trnL (S : List (List Rg)) : List Int := match plcL S.flatten with
  | [] => []
  | p :: l => p :: l.filter (trnB S)
/-- A set turns where one of its ranges begins (but at 0), and behind its end. -/
theorem cn_turn : ∀ {L : List Rg} {lo : Int}, 0 ≤ lo → Cn lo L → ∀ x, lo ≤ x → 0 < x → x ≤ 1114111 → ((hs L x != hs L (x - 1)) = true ↔ ∃ r ∈ L, x = r.1 ∨ x = r.2 + 1)
  | [], _, _, _, x, _, _, _ => by simp [hs]
  | r :: L, lo, h0, hc, x, hx, hx0, hx1 => by
    obtain ⟨h1, h2, h3, h4⟩ := hc
    have hlow : ∀ n, n < r.2 + 2 → hs L n = false := fun n hn => by
      cases h : hs L n with
      | false => rfl
      | true => have := (Cn.low h4 n h).1; omega
    by_cases hb : x < r.2 + 2
    · have a := hlow x hb
      have b := hlow (x - 1) (by omega)
      rw [hs_cons, hs_cons, a, b, Bool.or_false, Bool.or_false]
      have e : (inR r x != inR r (x - 1)) = true ↔ x = r.1 ∨ x = r.2 + 1 := by
        have i1 := inR_iff (r := r) (n := x)
        have i2 := inR_iff (r := r) (n := x - 1)
        cases p : inR r x <;> cases q : inR r (x - 1) <;> rw [p] at i1 <;> rw [q] at i2 <;> simp at i1 i2 ⊢ <;> omega
      rw [e]
      constructor
      · exact fun h => ⟨r, by simp, h⟩
      · rintro ⟨s, hs', h⟩
        rcases List.mem_cons.1 hs' with rfl | hs'
        · exact h
        · exfalso
          have := okR_iff.1 (cn_ok (lo := r.2 + 2) (by omega) h4 s hs')
          have hin : hs L s.1 = true := hs_iff.2 ⟨s, hs', Int.le_refl _, this.2.1⟩
          have := (Cn.low h4 _ hin).1
          omega
    · have ih := cn_turn (lo := r.2 + 2) (by omega) h4 x (by omega) hx0 hx1
      have p : inR r x = false := by
        cases p : inR r x with
        | false => rfl
        | true => have := inR_iff.1 p; omega
      have q : inR r (x - 1) = false := by
        cases q : inR r (x - 1) with
        | false => rfl
        | true => have := inR_iff.1 q; omega
      rw [hs_cons, hs_cons, p, q, Bool.false_or, Bool.false_or, ih]
      constructor
      · rintro ⟨s, h5, h6⟩; exact ⟨s, by simp [h5], h6⟩
      · rintro ⟨s, h5, h6⟩
        rcases List.mem_cons.1 h5 with rfl | h5
        · omega
        · exact ⟨s, h5, h6⟩
theorem trn_ok (S : List (List Rg)) (hc : ∀ L ∈ S, Cn 0 L) : (trnL S).Pairwise (· < ·) ∧ ∀ x, x ∈ trnL S ↔ x = 0 ∨ ∃ L ∈ S, ∃ r ∈ L, x = r.1 ∨ (x = r.2 + 1 ∧ r.2 + 1 ≤ 1114111) := by
  have hok : ∀ r ∈ S.flatten, okR r = true := fun r hr => by
    obtain ⟨L, hL, hr⟩ := List.mem_flatten.1 hr
    exact cn_ok (Int.le_refl _) (hc L hL) r hr
  obtain ⟨k1, k2, _⟩ := plc_ok S.flatten hok
  obtain ⟨l, hl⟩ := plc_zero S.flatten hok
  unfold trnL
  rw [hl]
  rw [hl] at k1 k2
  have k1' := List.pairwise_cons.1 k1
  refine ⟨List.pairwise_cons.2 ⟨fun x hx => k1'.1 x (List.mem_filter.1 hx).1, k1'.2.filter _⟩, fun x => ?_⟩
  have hmem : x ∈ 0 :: l ↔ x = 0 ∨ ∃ L ∈ S, ∃ r ∈ L, x = r.1 ∨ (x = r.2 + 1 ∧ r.2 + 1 ≤ 1114111) := by
    rw [k2]
    constructor
    · rintro (h | ⟨r, hr, h⟩)
      · exact .inl h
      · obtain ⟨L, hL, hr⟩ := List.mem_flatten.1 hr
        exact .inr ⟨L, hL, r, hr, h⟩
    · rintro (h | ⟨L, hL, r, hr, h⟩)
      · exact .inl h
      · exact .inr ⟨r, List.mem_flatten.2 ⟨L, hL, hr⟩, h⟩
  rw [← hmem]
  constructor
  · intro h
    rcases List.mem_cons.1 h with h | h
    · rw [h]; simp
    · exact List.mem_cons_of_mem _ (List.mem_filter.1 h).1
  · intro h
    rcases List.mem_cons.1 h with h1 | h1
    · rw [h1]; simp
    · refine List.mem_cons_of_mem _ (List.mem_filter.2 ⟨h1, ?_⟩)
      have hx0 := k1'.1 x h1
      rcases hmem.1 h with h2 | ⟨L, hL, r, hr, h2⟩
      · omega
      · have hr' := okR_iff.1 (cn_ok (Int.le_refl _) (hc L hL) r hr)
        exact List.any_eq_true.2 ⟨L, hL, (cn_turn (Int.le_refl _) (hc L hL) x (by omega) (by omega) (by omega)).2 ⟨r, hr, h2.imp id (fun h => h.1)⟩⟩
theorem cutE_mem (S : List (List Rg)) (hc : ∀ L ∈ S, Cn 0 L) (x : Int) : x ∈ cutE S ↔ x = 0 ∨ ∃ L ∈ S, ∃ r ∈ L, x = r.1 ∨ (x = r.2 + 1 ∧ r.2 + 1 ≤ 1114111) := by
  unfold cutE
  rw [List.mem_cons, List.mem_flatMap]
  have e : ∀ r : Rg, x ∈ edgR r ↔ x = r.1 ∨ (x = r.2 + 1 ∧ r.2 + 1 ≤ 1114111) := fun r => by
    unfold edgR
    split
    · simp; omega
    · simp; omega
  constructor
  · rintro (h | ⟨L, hL, h⟩)
    · exact .inl h
    · obtain ⟨r, hr, h⟩ := List.mem_flatMap.1 h
      exact .inr ⟨L, hL, r, hr, (e r).1 h⟩
  · rintro (h | ⟨L, hL, r, hr, h⟩)
    · exact .inl h
    · exact .inr ⟨L, hL, List.mem_flatMap.2 ⟨r, hr, (e r).2 h⟩⟩
end Go.Proofs.Ytlngdohkoeognaa
