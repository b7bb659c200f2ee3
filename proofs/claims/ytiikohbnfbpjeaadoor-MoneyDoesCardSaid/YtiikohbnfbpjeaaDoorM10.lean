import Derived.Test.YtiikohbnfbpjeaaDoorM9
import Derived.Test.YtiikohbnfbpjeaaDoorMP
namespace Go.Proofs.YtiikohbnfbpjeaaDoor
open Go.RowKit
/-- Two Decimals lie in new blocks. -/
def TwoM (B : Nat) (w W : World) (a c b f : Int) : Prop := MBox W B a c ∧ MBox W (B + 1) b f ∧ Below B w W
theorem TwoM.up {B : Nat} {w W W' : World} {a c b f : Int} (h : TwoM B w W a c b f) (hb : Below W.heap.size W W') : TwoM B w W' a c b f :=
  ⟨h.1.up hb, h.2.1.up hb, h.2.2.trans (hb.mono (Nat.le_of_lt h.1.2.2))⟩
theorem TwoM.dr {B : Nat} {w W : World} {a c b f : Int} (h : TwoM B w W a c b f) : TwoM B w W.drew a c b f := ⟨h.1, h.2.1, h.2.2.drew⟩
theorem TwoM.new (w : World) (a c b f : Int) : TwoM w.heap.size w ((w.alloc (.cells #[.int .i64 a, .int .i64 c] 26)).alloc (.cells #[.int .i64 b, .int .i64 f] 26)) a c b f := by
  have z : (w.alloc (.cells #[.int .i64 a, .int .i64 c] 26)).heap.size = w.heap.size + 1 := by simp
  refine ⟨(MBox.new w a c).up ((Below.refl _ _).alloc (Nat.le_refl _) _), ?_, ((Below.refl _ w).alloc (Nat.le_refl _) _).alloc (by simp) _⟩
  rw [← z]
  exact MBox.new _ b f
/-- A mantissa that may come in. -/
def InK (k : Nat) (m p : Int) : Prop := -9223372036854775808 ≤ m ∧ m < 9223372036854775808 ∧ 0 ≤ p ∧ p ≤ k
/-- A mantissa by 10 so many times. -/
def up10 (k : Nat) (m p : Int) : Value := nv (m * 10 ^ (k - p.toNat))
theorem scaled_two (k : Nat) (k' : Int) (hk' : k' = k) (hk : k ≤ 18) {B : Nat} {w : World} {a c b f : Int} (m p : Int) (W : World) (hm : InK k m p) (h : TwoM B w W a c b f) :
    Calls Tryd.prog 56 #[.agg #[.int .i64 m, .int .i64 p], .int .i64 k'] W fun e w' => e = .returned (up10 k m p) ∧ TwoM B w w' a c b f := by
  obtain ⟨h1, h2, h3, h4⟩ := hm
  obtain ⟨p, rfl⟩ := Int.eq_ofNat_of_zero_le h3
  subst hk'
  have := scaled_any m p (k - p) W h1 h2 (by omega)
  rw [show (p : Int) + (k - p : Nat) = k by omega] at this
  exact this.mono fun e w' q => ⟨q.1, h.up q.2⟩
set_option maxRecDepth 20000 in
set_option maxHeartbeats 4000000 in
theorem both_any (m n p q : Int) (k : Nat) (k' : Int) (hk' : k' = k) (w : World) (h1 : InK k m p) (h2 : InK k n q) (hm : max p q = k') (h18 : k ≤ 18) :
    Calls Tryd.prog 28 #[.agg #[.int .i64 m, .int .i64 p], .agg #[.int .i64 n, .int .i64 q]] w fun e w' => e = .returned (.tuple #[up10 k m p, up10 k n q, .int .i64 k']) ∧ Below w.heap.size w w' := by
  have S := Lib.hid (fun M P W hI h => scaled_two k k' hk' h18 (B := w.heap.size) (w := w) (a := m) (c := p) (b := n) (f := q) M P W hI h)
  have P0 := Lib.hid (TwoM.new w m p n q)
  clear hk' h18
  go_enter Tryd.func28, Tryd.ntmps28
  go_wp2_with fail
  obtain ⟨w0, hw0⟩ : ∃ w0, w0 = (w.alloc (.cells #[.int .i64 m, .int .i64 p] 26)).alloc (.cells #[.int .i64 n, .int .i64 q] 26) := ⟨_, rfl⟩
  rw [← hw0] at P0
  rw [← hw0]
  clear hw0 hm
  have hSS := P0.out.dr
  unfold TwoM MBox at hSS
  go_region_held3 (fun w' => (w'.cell? ⟨w.heap.size, 0, none⟩ = some (.int .i64 m) ∧ w'.cell? ⟨w.heap.size, 1, none⟩ = some (.int .i64 p) ∧ w.heap.size < w'.heap.size) ∧ (w'.cell? ⟨w.heap.size + 1, 0, none⟩ = some (.int .i64 n) ∧ w'.cell? ⟨w.heap.size + 1, 1, none⟩ = some (.int .i64 q) ∧ w.heap.size + 1 < w'.heap.size) ∧ Below w.heap.size w w')
    ((first | exact hSS | assumption))
    (first | (go_at_call 56; refine (S.out _ _ _ (by assumption) (by assumption)).mono ?_; rintro e w' ⟨rfl, hS2⟩; unfold TwoM MBox at hS2))
  go_wp2_with fail
  go_ret3
  exact ⟨rfl, hS2.2.2⟩
theorem up_vM (k : Nat) (m p : Int) (h0 : 0 ≤ p) (h1 : p ≤ k) (hk : k ≤ 18) : vM m p = m * 10 ^ (k - p.toNat) * 10 ^ (18 - k) := by
  unfold vM
  rw [Int.mul_assoc, ← Int.pow_add]
  congr 2
  omega
theorem up_bound (k : Nat) (m p : Int) (h : InK k m p) (hk : k ≤ 18) : (m * 10 ^ (k - p.toNat)).natAbs < M64 * M64 / 2 := by
  obtain ⟨h1, h2, h3, h4⟩ := h
  have e : (m * 10 ^ (k - p.toNat)).natAbs ≤ 9223372036854775808 * 10 ^ 18 := by
    rw [Int.natAbs_mul]
    refine Nat.mul_le_mul (by omega) ?_
    rw [Int.natAbs_pow]
    exact Nat.pow_le_pow_right (by decide) (by omega)
  exact Nat.lt_of_le_of_lt e (by decide)
theorem cmpI_scale (x y : Int) (c : Int) (hc : 0 < c) : cmpI (x * c) (y * c) = cmpI x y := by
  have e1 : x * c = y * c ↔ x = y := ⟨fun h => Int.eq_of_mul_eq_mul_right (by omega) h, fun h => by rw [h]⟩
  have e2 : x * c < y * c ↔ x < y := ⟨fun h => Int.lt_of_mul_lt_mul_right h (by omega), fun h => Int.mul_lt_mul_of_pos_right h hc⟩
  unfold cmpI
  simp only [e1, e2]
/-- Two Decimals that may be, of one scale. -/
theorem scale_both {m p n q : Int} (h : may m p = true) (g : may n q = true) (a1 : -9223372036854775808 ≤ m) (a2 : m < 9223372036854775808) (b1 : -9223372036854775808 ≤ n) (b2 : n < 9223372036854775808) :
    ∃ k : Nat, max p q = k ∧ k ≤ 18 ∧ InK k m p ∧ InK k n q ∧ vM m p = m * 10 ^ (k - p.toNat) * 10 ^ (18 - k) ∧ vM n q = n * 10 ^ (k - q.toNat) * 10 ^ (18 - k) := by
  obtain ⟨h1, h2, -⟩ := may_parts h
  obtain ⟨g1, g2, -⟩ := may_parts g
  refine ⟨(max p q).toNat, by omega, by omega, ⟨a1, a2, h1, by omega⟩, ⟨b1, b2, g1, by omega⟩, up_vM _ _ _ h1 (by omega) (by omega), up_vM _ _ _ g1 (by omega) (by omega)⟩
end Go.Proofs.YtiikohbnfbpjeaaDoor
