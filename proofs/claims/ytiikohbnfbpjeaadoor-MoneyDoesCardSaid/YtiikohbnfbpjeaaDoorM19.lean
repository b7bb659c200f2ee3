import Derived.Test.YtiikohbnfbpjeaaDoorM16
namespace Go.Proofs.YtiikohbnfbpjeaaDoor
open Go.RowKit
theorem ad_swap (m p n q : Int) : adM n q m p = adM m p n q ∧ adS n q m p = adS m p n q ∧ adE n q m p = adE m p n q := by
  unfold adM adS adE
  rw [Int.add_comm (vM n q) (vM m p), Bool.and_comm (may n q) (may m p)]
  exact ⟨rfl, rfl, rfl⟩
theorem ad_err (m p n q : Int) : adE m p n q = 0 ∨ adE m p n q = 20 ∨ adE m p n q = 140 := by
  rcases ad_three m p n q with h | h | h
  · exact .inl h.2.2.2.2.2
  · exact .inr (.inl h.2.2.2.2.2)
  · exact .inr (.inr h.2.2.2)
theorem ad_in64 (m p n q : Int) : -9223372036854775808 ≤ adM m p n q ∧ adM m p n q < 9223372036854775808 := by
  rcases ad_three m p n q with h | h | h
  · exact (in64_iff _).1 h.2.2.1
  · rw [h.2.2.2.1]; omega
  · rw [h.2.1]; omega
/-- What a sum is, where there is one. -/
theorem ad_ok {m p n q : Int} (h : adE m p n q = 0) : may m p = true ∧ may n q = true ∧ norm (vM m p + vM n q) 18 = (adM m p n q, (adS m p n q).toNat) ∧ 0 ≤ adS m p n q := by
  rcases ad_three m p n q with g | g | g
  · exact ⟨g.1, g.2.1, g.2.2.2.1, g.2.2.2.2.1⟩
  · rw [g.2.2.2.2.2] at h; omega
  · rw [g.2.2.2] at h; omega
theorem ad_may {m p n q : Int} (h : adE m p n q = 0) : may (adM m p n q) (adS m p n q) = true ∧ vM (adM m p n q) (adS m p n q) = vM m p + vM n q := by
  obtain ⟨-, -, e, h0⟩ := ad_ok h
  obtain ⟨k, hk⟩ := Int.eq_ofNat_of_zero_le h0
  rw [hk] at e ⊢
  have e' : norm (vM m p + vM n q) 18 = (adM m p n q, k) := e
  have h1 := norm_may 18 (vM m p + vM n q) (Nat.le_refl _)
  have h2 := vM_norm (vM m p + vM n q)
  rw [e'] at h1 h2
  exact ⟨h1, h2⟩
theorem vM_zero : vM 0 0 = 0 := by unfold vM; simp
theorem ad_nought (m p : Int) (h1 : -9223372036854775808 ≤ m) (h2 : m < 9223372036854775808) : adE m p 0 0 = chM m p ∧ (adE m p 0 0 = 0 → adM m p 0 0 = m ∧ adS m p 0 0 = p) := by
  have hz : may 0 0 = true := by decide
  cases h : may m p with
  | false =>
    obtain ⟨-, -, e⟩ := ad_no (m := m) (p := p) (n := 0) (q := 0) (by rw [h]; rfl)
    refine ⟨by rw [e, chM_no h], fun g => ?_⟩
    rw [e] at g; omega
  | true =>
    have hv : norm (vM m p + vM 0 0) 18 = (m, p.toNat) := by rw [vM_zero, Int.add_zero]; exact norm_vM h
    obtain ⟨e1, e2, e3⟩ := ad_yes h hz (by rw [hv]; exact (in64_iff m).2 ⟨h1, h2⟩)
    rw [hv] at e1 e2
    have := (may_parts h).1
    exact ⟨by rw [e3, chM_yes h], fun _ => ⟨e1, by rw [e2]; omega⟩⟩
theorem cmpI_add (x y z : Int) : cmpI (x + z) (y + z) = cmpI x y := by unfold cmpI; (repeat' split) <;> omega
theorem ad_keeps {m p n q r s : Int} (h : adE m p n q = 0) (g : cmE m p r s = 0) (i : adE r s n q = 0) :
    cmE (adM m p n q) (adS m p n q) (adM r s n q) (adS r s n q) = 0 ∧ cmV (adM m p n q) (adS m p n q) (adM r s n q) (adS r s n q) = cmV m p r s := by
  obtain ⟨a1, a2⟩ := ad_may h
  obtain ⟨b1, b2⟩ := ad_may i
  obtain ⟨c1, c2, c3⟩ := cm_ok g
  obtain ⟨d1, d2⟩ := cm_yes a1 b1
  exact ⟨d2, by rw [d1, c3, a2, b2, cmpI_add]⟩
theorem ad_turn {m p n q : Int} (h : adE m p n q = 0) (h1 : adM m p n q ≠ -9223372036854775808) : adM (-m) p (-n) q = -adM m p n q ∧ adS (-m) p (-n) q = adS m p n q ∧ adE (-m) p (-n) q = 0 := by
  obtain ⟨a, b, c, d⟩ := ad_ok h
  have hin := ad_in64 m p n q
  have hn : norm (vM (-m) p + vM (-n) q) 18 = (-adM m p n q, (adS m p n q).toNat) := by
    rw [vM_neg, vM_neg, ← Int.neg_add, norm_neg, c]
  obtain ⟨e1, e2, e3⟩ := ad_yes (m := -m) (p := p) (n := -n) (q := q) (by rw [may_neg]; exact a) (by rw [may_neg]; exact b) (by rw [hn]; exact (in64_iff _).2 ⟨by show -9223372036854775808 ≤ -adM m p n q; omega, by show -adM m p n q < _; omega⟩)
  rw [hn] at e1 e2
  exact ⟨e1, by rw [e2]; show ((adS m p n q).toNat : Int) = _; omega, e3⟩
/-- Three Decimals, and a sum in a block behind them. -/
def Quad (w W : World) (B : Nat) (a c b f d g s t : Int) : Prop := Tri w W a c b f d g ∧ FBox W B s t ∧ w.heap.size + 1 + 1 < B
theorem Quad.up {w W W' : World} {B : Nat} {a c b f d g s t : Int} (h : Quad w W B a c b f d g s t) (hb : Below W.heap.size W W') : Quad w W' B a c b f d g s t := ⟨h.1.up hb, h.2.1.up hb, h.2.2⟩
theorem Quad.drew {w W : World} {B : Nat} {a c b f d g s t : Int} (h : Quad w W B a c b f d g s t) : Quad w W.drew B a c b f d g s t := h.up ((Below.refl _ _).drew)
theorem Quad.new {w W : World} {a c b f d g : Int} (h : Tri w W a c b f d g) (s t : Int) : Quad w (W.alloc (.cells #[.int .i64 s, .int .i64 t] 26)) W.heap.size a c b f d g s t :=
  ⟨h.up ((Below.refl _ _).alloc (Nat.le_refl _) _), FBox.new W s t, h.2.2.1.1.2.2⟩
theorem Quad.turn {w W : World} {B : Nat} {a c b f d g s t : Int} (h : Quad w W B a c b f d g s t) (x y : Int) : Quad w ((W.setCell ⟨w.heap.size, 0, none⟩ (.int .i64 x)).setCell ⟨w.heap.size + 1, 0, none⟩ (.int .i64 y)) B x c y f d g s t := by
  obtain ⟨⟨h1, h2, h3, h4⟩, h5, h6⟩ := h
  exact ⟨⟨(h1.set0 x).other _ (by simp) _, (h2.other _ (by simp) _).set0 y, (h3.other _ (by simp; omega) _).other _ (by simp) _, (h4.setCell (by simp) _).setCell (by simp) _⟩, (h5.other _ (by simp; omega) _).other _ (by simp; omega) _, h6⟩
end Go.Proofs.YtiikohbnfbpjeaaDoor
