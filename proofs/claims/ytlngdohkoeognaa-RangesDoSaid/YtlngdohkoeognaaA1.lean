/- Plain facts of layer 6: the document's sets, by the places where something may turn. No program in sight. -/
import Derived.Test.YtlngdohkoeognaaA0
namespace Go.Proofs.Ytlngdohkoeognaa
open Go.RowKit
/-- Numbers that rise, with one more. -/
def insL : List Int → Int → List Int
  | [], n => if 1114111 < n then [] else [n]
  | x :: l, n => if x < n then x :: insL l n else if 1114111 < n ∨ x = n then x :: l else n :: x :: l
theorem ins_mem {l : List Int} {n x : Int} : x ∈ insL l n ↔ x ∈ l ∨ (x = n ∧ n ≤ 1114111) := by
  induction l with
  | nil =>
    unfold insL
    split
    · simp; omega
    · simp; omega
  | cons y l ih =>
    unfold insL
    split
    · rw [List.mem_cons, ih, List.mem_cons, or_assoc]
    · rename_i h1
      split
      · rename_i h2
        rcases h2 with h2 | h2
        · simp; omega
        · subst h2
          constructor
          · exact fun h => .inl h
          · rintro (h | h)
            · exact h
            · rw [h.1]; simp
      · rename_i h2
        have hn : n ≤ 1114111 := by omega
        rw [List.mem_cons, List.mem_cons]
        constructor
        · rintro (h | h)
          · exact .inr ⟨h, hn⟩
          · exact .inl h
        · rintro (h | ⟨h, _⟩)
          · exact .inr h
          · exact .inl h
theorem ins_up {l : List Int} {n : Int} (h : l.Pairwise (· < ·)) : (insL l n).Pairwise (· < ·) := by
  induction l with
  | nil => unfold insL; split <;> simp
  | cons y l ih =>
    have hp := List.pairwise_cons.1 h
    unfold insL
    split
    · rename_i h1
      refine List.pairwise_cons.2 ⟨fun x hx => ?_, ih hp.2⟩
      rcases ins_mem.1 hx with h2 | h2
      · exact hp.1 x h2
      · omega
    · split
      · exact h
      · refine List.pairwise_cons.2 ⟨fun x hx => ?_, h⟩
        rcases List.mem_cons.1 hx with rfl | h2
        · omega
        · have := hp.1 x h2; omega
theorem ins_len (l : List Int) (n : Int) : (insL l n).length ≤ l.length + 1 := by
  induction l with
  | nil => unfold insL; split <;> simp
  | cons y l ih =>
    unfold insL
    split
    · simp; exact ih
    · split <;> simp
/-- 0, and where the ranges may turn. -/
def plcL (R : List Rg) : List Int := R.foldl (fun l r => insL (insL l r.1) (r.2 + 1)) [0]
theorem plc_fold : ∀ (R : List Rg) (l : List Int), l.Pairwise (· < ·) → (R.foldl (fun l r => insL (insL l r.1) (r.2 + 1)) l).Pairwise (· < ·) ∧ (∀ x, x ∈ R.foldl (fun l r => insL (insL l r.1) (r.2 + 1)) l ↔ x ∈ l ∨ ∃ r ∈ R, (x = r.1 ∧ r.1 ≤ 1114111) ∨ (x = r.2 + 1 ∧ r.2 + 1 ≤ 1114111)) ∧ (R.foldl (fun l r => insL (insL l r.1) (r.2 + 1)) l).length ≤ l.length + 2 * R.length
  | [], l, h => ⟨h, fun x => by simp, by simp⟩
  | r :: R, l, h => by
    obtain ⟨k1, k2, k3⟩ := plc_fold R (insL (insL l r.1) (r.2 + 1)) (ins_up (ins_up h))
    refine ⟨k1, fun x => ?_, ?_⟩
    · rw [List.foldl_cons, k2, ins_mem, ins_mem]
      constructor
      · rintro (((h1 | h1) | h1) | ⟨q, hq, h1⟩)
        · exact .inl h1
        · exact .inr ⟨r, by simp, .inl h1⟩
        · exact .inr ⟨r, by simp, .inr h1⟩
        · exact .inr ⟨q, by simp [hq], h1⟩
      · rintro (h1 | ⟨q, hq, h1⟩)
        · exact .inl (.inl (.inl h1))
        · rcases List.mem_cons.1 hq with rfl | hq
          · rcases h1 with h1 | h1
            · exact .inl (.inl (.inr h1))
            · exact .inl (.inr h1)
          · exact .inr ⟨q, hq, h1⟩
    · rw [List.foldl_cons]
      have a := ins_len l r.1
      have b := ins_len (insL l r.1) (r.2 + 1)
      rw [List.length_cons]
      omega
theorem plc_ok (R : List Rg) (hok : ∀ r ∈ R, okR r = true) : (plcL R).Pairwise (· < ·) ∧ (∀ x, x ∈ plcL R ↔ x = 0 ∨ ∃ r ∈ R, x = r.1 ∨ (x = r.2 + 1 ∧ r.2 + 1 ≤ 1114111)) ∧ (plcL R).length ≤ 1 + 2 * R.length := by
  obtain ⟨k1, k2, k3⟩ := plc_fold R [0] (by simp)
  refine ⟨k1, fun x => ?_, k3⟩
  unfold plcL
  rw [k2]
  constructor
  · rintro (h | ⟨r, hr, h⟩)
    · exact .inl (by simpa using h)
    · exact .inr ⟨r, hr, h.imp (fun h => h.1) id⟩
  · rintro (h | ⟨r, hr, h⟩)
    · exact .inl (by simpa using h)
    · have := okR_iff.1 (hok r hr)
      exact .inr ⟨r, hr, h.imp (fun h => ⟨h, by omega⟩) id⟩
/-- One class more. -/
def clsP (acc : List Rg) (p e : Int) (b : Bool) : List Rg :=
  if b then match acc with
    | [] => [(p, e)]
    | m :: t => if m.2 = p - 1 then (m.1, e) :: t else (p, e) :: m :: t
  else acc
/-- Classes, one behind the other; the last range first. -/
def setF (f : Int → Bool) : List Rg → List Int → List Rg
  | acc, [] => acc
  | acc, [p] => clsP acc p 1114111 (f p)
  | acc, p :: q :: l => setF f (clsP acc p (q - 1) (f p)) (q :: l)
theorem cls_ok {acc : List Rg} {p e : Int} (b : Bool) (ha : CnR acc) (h0 : 0 ≤ p) (hpe : p ≤ e) (he : e ≤ 1114111) (hh : ∀ m, acc.head? = some m → m.2 < p) : CnR (clsP acc p e b) ∧ (∀ m, (clsP acc p e b).head? = some m → m.2 < e + 1) ∧ ∀ n, hs (clsP acc p e b) n = (hs acc n || (b && decide (p ≤ n) && decide (n ≤ e))) := by
  cases b with
  | false =>
    refine ⟨ha, fun m h => by have := hh m h; omega, fun n => ?_⟩
    show hs acc n = _
    simp
  | true =>
    cases acc with
    | nil => exact ⟨⟨h0, hpe, he, (fun m h => by cases h), trivial⟩, (fun m h => by cases h; show e < e + 1; omega), fun n => by simp [clsP, hs, inR]⟩
    | cons m t =>
      have hm := hh m rfl
      obtain ⟨a1, a2, a3, a4, a5⟩ := ha
      have hc : clsP (m :: t) p e true = if m.2 = p - 1 then (m.1, e) :: t else (p, e) :: m :: t := rfl
      rw [hc]
      split
      · rename_i h1
        refine ⟨⟨a1, by show m.1 ≤ e; omega, he, a4, a5⟩, (fun x h => by cases h; show e < e + 1; omega), fun n => ?_⟩
        rw [hs_cons, hs_cons]
        have e1 : inR (m.1, e) n = (inR m n || (decide (p ≤ n) && decide (n ≤ e))) := by
          rw [Bool.eq_iff_iff, Bool.or_eq_true, inR_iff, inR_iff, Bool.and_eq_true, decide_eq_true_eq, decide_eq_true_eq]
          show (m.1 ≤ n ∧ n ≤ e) ↔ _
          omega
        rw [e1, Bool.true_and]
        cases inR m n <;> cases hs t n <;> simp
      · rename_i h1
        refine ⟨⟨h0, hpe, he, (fun x h => by cases h; show m.2 + 2 ≤ p; omega), a1, a2, a3, a4, a5⟩, (fun x h => by cases h; show e < e + 1; omega), fun n => ?_⟩
        rw [hs_cons, Bool.true_and, Bool.or_comm]
        rfl
theorem set_ok (f : Int → Bool) : ∀ (l : List Int) (acc : List Rg) (p : Int), CnR acc → (p :: l).Pairwise (· < ·) → 0 ≤ p → (∀ x ∈ p :: l, x ≤ 1114111) → (∀ m, acc.head? = some m → m.2 < p) →
    (∀ x y, x ∈ p :: l → x ≤ y → (∀ z ∈ p :: l, z ≤ y → z ≤ x) → y ≤ 1114111 → f y = f x) →
    CnR (setF f acc (p :: l)) ∧ ∀ n, hs (setF f acc (p :: l)) n = (hs acc n || (decide (p ≤ n) && decide (n ≤ 1114111) && f n))
  | [], acc, p, ha, _, h0, hm, hh, hf => by
    obtain ⟨k1, _, k3⟩ := cls_ok (f p) ha h0 (hm p (by simp)) (Int.le_refl _) hh
    refine ⟨k1, fun n => ?_⟩
    show hs (clsP acc p 1114111 (f p)) n = _
    rw [k3]
    congr 1
    by_cases h1 : p ≤ n ∧ n ≤ 1114111
    · rw [hf p n (by simp) h1.1 (fun z hz _ => by simp at hz; omega) h1.2, decide_eq_true h1.1, decide_eq_true h1.2]; simp
    · cases h2 : decide (p ≤ n) <;> cases h3 : decide (n ≤ 1114111) <;> simp_all
  | q :: l, acc, p, ha, hp, h0, hm, hh, hf => by
    have hp' := List.pairwise_cons.1 hp
    have hpq := hp'.1 q (by simp)
    have hq := hm q (by simp)
    obtain ⟨k1, k2, k3⟩ := cls_ok (p := p) (e := q - 1) (f p) ha h0 (by omega) (by omega) hh
    obtain ⟨j1, j2⟩ := set_ok f l (clsP acc p (q - 1) (f p)) q k1 hp'.2 (by omega) (fun x hx => hm x (by simp at hx; simp [hx])) (fun m h => by have := k2 m h; omega)
      (fun x y hx hxy hz hy => hf x y (List.mem_cons_of_mem _ hx) hxy (fun z hz1 hz2 => by
        rcases List.mem_cons.1 hz1 with rfl | hz1
        · have := hp'.1 x hx; omega
        · exact hz z hz1 hz2) hy)
    refine ⟨j1, fun n => ?_⟩
    show hs (setF f (clsP acc p (q - 1) (f p)) (q :: l)) n = _
    rw [j2, k3, Bool.or_assoc]
    congr 1
    by_cases h1 : p ≤ n ∧ n < q
    · have e := hf p n (by simp) h1.1 (fun z hz hzn => by
        rcases List.mem_cons.1 hz with rfl | hz
        · omega
        · rcases List.mem_cons.1 hz with rfl | hz
          · omega
          · have := (List.pairwise_cons.1 hp'.2).1 z hz; omega) (by omega)
      rw [← e, decide_eq_true h1.1, decide_eq_true (show n ≤ q - 1 by omega), decide_eq_false (show ¬ q ≤ n by omega), decide_eq_true (show n ≤ 1114111 by omega)]
      simp
    · by_cases h2 : n < p
      · rw [decide_eq_false (show ¬ p ≤ n by omega), decide_eq_false (show ¬ q ≤ n by omega)]; simp
      · rw [decide_eq_false (show ¬ n ≤ q - 1 by omega), decide_eq_true (show q ≤ n by omega), decide_eq_true (show p ≤ n by omega)]; simp
end Go.Proofs.Ytlngdohkoeognaa
