import Derived.Test.YtiikohbnfbpjeaaDoorM7
import Derived.Laws.Bits64b
namespace Go.Proofs.YtiikohbnfbpjeaaDoor
open Go.RowKit
theorem ret_two {k l : IntKind} {a b c d : Int} (h : a = b) (g : c = d) : Ending.returned (.tuple #[.int k a, .int l c]) = .returned (.tuple #[.int k b, .int l d]) := by rw [h, g]
set_option maxRecDepth 20000 in
theorem div10_low (lo : Nat) (w : World) (hl : lo < M64) : Calls Tryd.prog 59 #[.int .u64 0, .int .u64 lo, .int .u64 10] w fun e w' => e = .returned (.tuple #[.int .u64 ((lo / 10 : Nat) : Int), .int .u64 ((lo % 10 : Nat) : Int)]) ∧ Below w.heap.size w w' := by
  obtain ⟨q, hq⟩ : ∃ q : Int, q = (lo / 10 : Nat) := ⟨_, rfl⟩
  obtain ⟨r, hr⟩ : ∃ q : Int, q = (lo % 10 : Nat) := ⟨_, rfl⟩
  rw [← hq, ← hr]
  have e1 : (lo : Int).tdiv 10 = q := by rw [hq, Int.tdiv_eq_ediv_of_nonneg (by omega)]; omega
  have e2 : (lo : Int).tmod 10 = r := by rw [hr, Int.tmod_eq_emod_of_nonneg (by omega)]; omega
  have e3 : IntKind.u64.wrap q = q := by rw [IntKind.wrap_u64]; unfold M64 at hl; omega
  have e4 : IntKind.u64.wrap r = r := by rw [IntKind.wrap_u64]; unfold M64 at hl; omega
  clear hq hr hl
  go_enter Tryd.func59, Tryd.ntmps59
  go_wp2_with fail
  go_quiet (fail)
  go_wp2_with fail
  go_ret2
  exact ⟨rfl, below_dr (Below.refl _ _) _⟩
theorem lo_or (hi lo : Nat) (h : hi < 16) (hl : lo < M64) : bits BinOp.or IntKind.u64 ((hi : Int) * 1152921504606846976) ((lo : Int) / 16) = ((hi * 1152921504606846976 + lo / 16 : Nat) : Int) := by
  unfold M64 at hl
  have e1 : ((hi : Int) * 1152921504606846976) = ((hi * 1152921504606846976 : Nat) : Int) := by omega
  have e2 : ((lo : Int) / 16) = ((lo / 16 : Nat) : Int) := by omega
  rw [e1, e2, bits_or_u64_nat _ _ (by omega) (by omega)]
  have : (hi * 1152921504606846976) ||| (lo / 16) = hi * 1152921504606846976 + lo / 16 := by
    rw [show (1152921504606846976 : Nat) = 2 ^ 60 by decide, ← Nat.shiftLeft_eq, ← Nat.shiftLeft_add_eq_or_of_lt (by omega)]
  rw [this]
theorem and_low (n : Nat) (h : n < M64) (h0 : n % 4294967296 = 0) : bits BinOp.and IntKind.u64 (n : Int) 4294967295 = 0 := by
  unfold M64 at h
  have := bits_and_u64_nat n 4294967295 h (by decide)
  rw [show (4294967295 : Nat) = 2 ^ 32 - 1 by decide, Nat.and_two_pow_sub_one_eq_mod, show (2 : Nat) ^ 32 = 4294967296 by decide, h0] at this
  exact this
theorem wrap_in (x : Int) (h0 : 0 ≤ x) (h1 : x < 18446744073709551616) : IntKind.u64.wrap x = x := by rw [IntKind.wrap_u64]; exact Int.emod_eq_of_lt h0 h1
theorem wrap_rest (U q r : Nat) (K : Nat) (h : U = K * q + r) (hU : U < 18446744073709551616) : IntKind.u64.wrap ((U : Int) - IntKind.u64.wrap ((q : Int) * (K : Nat))) = r := by
  have e : (q : Int) * (K : Nat) = ((K * q : Nat) : Int) := by rw [Int.natCast_mul, Int.mul_comm]
  have i := wrap_in ((K * q : Nat) : Int) (by omega) (by omega)
  rw [e, i, wrap_in _ (by omega) (by omega)]
  omega
theorem wrap_zero_mul (a : Int) : IntKind.u64.wrap (a * 0) = 0 := by rw [Int.mul_zero]; rfl
theorem ten_parts (N X r : Nat) (h : N * 268435456 = 2684354560 * X + r) (hr : r < 2684354560) : X = N / 10 ∧ r / 268435456 = N % 10 := by
  obtain ⟨t, rfl⟩ : ∃ t, N = 10 * X + t := ⟨N - 10 * X, by omega⟩
  have e : r = 268435456 * t := by omega
  have ht : t < 10 := by omega
  subst e
  rw [Nat.mul_div_cancel_left _ (by decide)]
  clear h hr
  omega
theorem shift_part (r : Nat) : ((r * 4294967296 : Nat) : Int) / 1152921504606846976 = ((r / 268435456 : Nat) : Int) := by
  have : r * 4294967296 / 1152921504606846976 = r / 268435456 := by
    rw [show (1152921504606846976 : Nat) = 268435456 * 4294967296 by decide]
    exact Nat.mul_div_mul_right _ _ (by decide)
  rw [← this]
  exact (Int.natCast_ediv _ _).symm
/-- What 'Div64' works out by halves. -/
theorem div_facts (hi lo U S q1 r1 T q0 r0 : Nat) (h : hi < 10) (hl : lo < 18446744073709551616) (hU : U = hi * 1152921504606846976 + lo / 16) (hS : S = lo % 16 * 268435456)
    (h1 : U = 2684354560 * q1 + r1) (h2 : r1 < 2684354560) (hT : T = r1 * 4294967296 + S) (h3 : T = 2684354560 * q0 + r0) (h4 : r0 < 2684354560) :
    q1 * 4294967296 + q0 = (hi * 18446744073709551616 + lo) / 10 ∧ r0 / 268435456 = (hi * 18446744073709551616 + lo) % 10 ∧ U < 18446744073709551616 ∧ q1 < 4294967296 ∧ T < 18446744073709551616 ∧ q0 < 4294967296 := by
  have a : U * 4294967296 + S = (hi * 18446744073709551616 + lo) * 268435456 := by omega
  have b : U * 4294967296 + S = 2684354560 * (q1 * 4294967296 + q0) + r0 := by omega
  have c : U < 11529215046068469760 := by omega
  have d : T < 11529215046068469760 := by omega
  obtain ⟨e1, e2⟩ := ten_parts _ _ _ (a.symm.trans b) h4
  clear a b hU hS hT
  exact ⟨e1, e2, by omega, by omega, by omega, by omega⟩
theorem t_fact (U S q1 r1 T : Nat) (h1 : U = 2684354560 * q1 + r1) (hT : T = r1 * 4294967296 + S) (h : T < 18446744073709551616) :
    IntKind.u64.wrap ((U : Int) * 4294967296 + S - (q1 : Int) * 11529215046068469760) = T := by
  have : ((U : Int) * 4294967296 + S - (q1 : Int) * 11529215046068469760) = T := by omega
  rw [this]; exact wrap_in _ (by omega) (by omega)
theorem z_fact (T q0 r0 : Nat) (h : T = 2684354560 * q0 + r0) (h4 : r0 < 2684354560) : IntKind.u64.wrap ((T : Int) * 4294967296 - (q0 : Int) * 11529215046068469760) = ((r0 * 4294967296 : Nat) : Int) := by
  have : ((T : Int) * 4294967296 - (q0 : Int) * 11529215046068469760) = ((r0 * 4294967296 : Nat) : Int) := by omega
  rw [this]; exact wrap_in _ (by omega) (by omega)
theorem wrap_nat (n : Nat) (h : n < 18446744073709551616) : IntKind.u64.wrap (n : Int) = n := wrap_in _ (by omega) (by omega)
theorem x_fact (q1 q0 : Nat) (h1 : q1 < 4294967296) (h0 : q0 < 4294967296) : IntKind.u64.wrap ((q1 : Int) * 4294967296 + q0) = ((q1 * 4294967296 + q0 : Nat) : Int) := by
  have : ((q1 : Int) * 4294967296 + q0) = ((q1 * 4294967296 + q0 : Nat) : Int) := by omega
  rw [this]; exact wrap_nat _ (by omega)
theorem rest_fact (U q r : Nat) (h : U = 2684354560 * q + r) (hr : r < 2684354560) : IntKind.u64.wrap ((U : Int) - (q : Int) * 2684354560) = r := by
  rw [show (U : Int) - (q : Int) * 2684354560 = (r : Nat) by omega]; exact wrap_nat _ (by omega)
theorem t2_fact (r S T : Nat) (h : T = r * 4294967296 + S) (hT : T < 18446744073709551616) : IntKind.u64.wrap (4294967296 * (r : Int) + S) = T := by
  rw [show 4294967296 * (r : Int) + S = (T : Nat) by omega]; exact wrap_nat _ hT
theorem z1_fact (r Z : Nat) (h : Z = r * 4294967296) (hr : r < 2684354560) : IntKind.u64.wrap (4294967296 * (r : Int)) = Z := by
  rw [show 4294967296 * (r : Int) = (Z : Nat) by omega]; exact wrap_nat _ (by omega)
theorem l0w (r : Nat) (h : r < 2684354560) : r * 4294967296 < 18446744073709551616 := by omega
theorem small4 (q : Nat) (h : q < 4294967296) : ¬ (4294967296 ≤ (q : Int)) := by omega
theorem small4w (q : Nat) (h : q < 4294967296) : q < 18446744073709551616 := by omega
theorem nonneg3 (q : Nat) : ¬ ((q : Int) < 0) := by omega
theorem tdivK (U q : Nat) (h : q = U / 2684354560) : (U : Int).tdiv 2684354560 = q := by
  rw [Int.tdiv_eq_ediv_of_nonneg (Int.natCast_nonneg _), h]; exact (Int.natCast_ediv _ _).symm
theorem emod_three (a b c : Int) : IntKind.u64.wrap (IntKind.u64.wrap (IntKind.u64.wrap a + b) - IntKind.u64.wrap c) = IntKind.u64.wrap (a + b - c) := by
  simp only [IntKind.wrap_u64]
  omega
theorem emod_two (a c : Int) : IntKind.u64.wrap (IntKind.u64.wrap a - IntKind.u64.wrap c) = IntKind.u64.wrap (a - c) := by
  simp only [IntKind.wrap_u64, Int.emod_sub_emod, Int.sub_emod_emod]
set_option maxRecDepth 20000 in
theorem div10_high (hi lo : Nat) (w : World) (h0 : 0 < hi) (h : hi < 10) (hl : lo < M64) : Calls Tryd.prog 59 #[.int .u64 hi, .int .u64 lo, .int .u64 10] w fun e w' => e = .returned (.tuple #[.int .u64 (((hi * M64 + lo) / 10 : Nat) : Int), .int .u64 (((hi * M64 + lo) % 10 : Nat) : Int)]) ∧ Below w.heap.size w w' := by
  have k1 : ¬ (10 ≤ (hi : Int)) := by omega
  have k2 : ((hi : Int) == 0) = false := by simp; omega
  have k3 : decide (10 ≤ (hi : Int)) = false := decide_eq_false k1
  have a1 : bits BinOp.and IntKind.u64 11529215046068469760 4294967295 = 0 := and_low 11529215046068469760 (by decide) (by decide)
  obtain ⟨U, hU⟩ : ∃ U : Nat, U = hi * 1152921504606846976 + lo / 16 := ⟨_, rfl⟩
  have u1 : bits BinOp.or IntKind.u64 ((hi : Int) * 1152921504606846976) ((lo : Int) / 16) = (U : Int) := by rw [lo_or hi lo (by omega) hl, hU]
  obtain ⟨V, hV⟩ : ∃ V : Nat, V = lo % 16 * 1152921504606846976 := ⟨_, rfl⟩
  have v1 : IntKind.u64.wrap ((lo : Int) * 1152921504606846976) = (V : Int) := by rw [IntKind.wrap_u64, hV]; omega
  have v2 : bits BinOp.and IntKind.u64 (V : Int) 4294967295 = 0 := and_low V (by rw [hV]; unfold M64; omega) (by rw [hV]; omega)
  obtain ⟨S, hS⟩ : ∃ S : Nat, S = lo % 16 * 268435456 := ⟨_, rfl⟩
  have s1 : (V : Int) / 4294967296 = (S : Int) := by omega
  obtain ⟨q1, hq1⟩ : ∃ q : Nat, q = U / 2684354560 := ⟨_, rfl⟩
  obtain ⟨r1, hr1⟩ : ∃ q : Nat, q = U % 2684354560 := ⟨_, rfl⟩
  obtain ⟨T, hT⟩ : ∃ T : Nat, T = r1 * 4294967296 + S := ⟨_, rfl⟩
  obtain ⟨q0, hq0⟩ : ∃ q : Nat, q = T / 2684354560 := ⟨_, rfl⟩
  obtain ⟨r0, hr0⟩ : ∃ q : Nat, q = T % 2684354560 := ⟨_, rfl⟩
  have d1 : U = 2684354560 * q1 + r1 := by rw [hq1, hr1]; exact (Nat.div_add_mod _ _).symm
  have d2 : T = 2684354560 * q0 + r0 := by rw [hq0, hr0]; exact (Nat.div_add_mod _ _).symm
  have l1 : r1 < 2684354560 := by rw [hr1]; exact Nat.mod_lt _ (by decide)
  have l0 : r0 < 2684354560 := by rw [hr0]; exact Nat.mod_lt _ (by decide)
  obtain ⟨f1, f2, f3, f4, f5, f6⟩ := div_facts hi lo U S q1 r1 T q0 r0 h hl hU hS d1 l1 hT d2 l0
  have q2 := tdivK U q1 hq1
  have q3 := wrap_nat q1 (small4w q1 f4)
  have q4 := small4 q1 f4
  have q5 : decide (4294967296 ≤ (q1 : Int)) = false := decide_eq_false q4
  have r2 := rest_fact U q1 r1 d1 l1
  have t1 := t_fact U S q1 r1 T d1 hT f5
  have t2 := t2_fact r1 S T hT f5
  obtain ⟨P, hP⟩ : ∃ P : Nat, P = r1 * 4294967296 := ⟨_, rfl⟩
  have t5 := z1_fact r1 P hP l1
  have t6 : IntKind.u64.wrap ((P : Int) + S) = T := by rw [show (P : Int) + S = (T : Nat) by rw [hT, hP]; rfl]; exact wrap_nat _ f5
  obtain ⟨A, hA⟩ : ∃ A : Int, IntKind.u64.wrap ((U : Int) * 4294967296) = A := ⟨_, rfl⟩
  obtain ⟨B, hB⟩ : ∃ B : Int, IntKind.u64.wrap (A + S) = B := ⟨_, rfl⟩
  obtain ⟨C, hC⟩ : ∃ C : Int, IntKind.u64.wrap ((q1 : Int) * 11529215046068469760) = C := ⟨_, rfl⟩
  have t7 : IntKind.u64.wrap (B - C) = T := by rw [← hB, ← hA, ← hC, emod_three]; exact t1
  have t3 := nonneg3 T
  have t4 : decide ((T : Int) < 0) = false := decide_eq_false t3
  have p2 := tdivK T q0 hq0
  have p3 := wrap_nat q0 (small4w q0 f6)
  have p4 := small4 q0 f6
  have p5 : decide (4294967296 ≤ (q0 : Int)) = false := decide_eq_false p4
  have p6 := rest_fact T q0 r0 d2 l0
  obtain ⟨Z, hZ⟩ : ∃ Z : Nat, Z = r0 * 4294967296 := ⟨_, rfl⟩
  have z1 := z1_fact r0 Z hZ l0
  have z2 := z_fact T q0 r0 d2 l0
  rw [← hZ] at z2
  obtain ⟨D, hD⟩ : ∃ A : Int, IntKind.u64.wrap ((T : Int) * 4294967296) = A := ⟨_, rfl⟩
  obtain ⟨E, hE⟩ : ∃ C : Int, IntKind.u64.wrap ((q0 : Int) * 11529215046068469760) = C := ⟨_, rfl⟩
  have t8 : IntKind.u64.wrap (D - E) = Z := by rw [← hD, ← hE, emod_two]; exact z2
  have z5 : IntKind.u64.wrap (Z : Int) = Z := wrap_nat Z (by rw [hZ]; exact l0w r0 l0)
  have z6 : IntKind.u64.wrap D = D := by rw [← hD]; simp only [IntKind.wrap_u64, Int.emod_emod]
  have z3 := nonneg3 Z
  have z4 : decide ((Z : Int) < 0) = false := decide_eq_false z3
  obtain ⟨X, hX⟩ : ∃ X : Int, X = (((hi * M64 + lo) / 10 : Nat) : Int) := ⟨_, rfl⟩
  obtain ⟨Y, hY⟩ : ∃ X : Int, X = (((hi * M64 + lo) % 10 : Nat) : Int) := ⟨_, rfl⟩
  rw [← hX, ← hY]
  have x1 := x_fact q1 q0 f4 f6
  rw [f1] at x1
  unfold M64 at hX hY
  rw [← hX] at x1
  have y1 : (Z : Int) / 1152921504606846976 = Y := by rw [hY, hZ, ← f2]; exact shift_part r0
  clear hP hU hV hS hq1 hr1 hq0 hr0 hT hZ hX hY d1 d2 l1 l0 f1 f2 f3 f4 f5 f6 h0 h hl
  go_enter Tryd.func59, Tryd.ntmps59
  go_wp2_with fail
  refine (Tryd.bits_LeadingZeros64 10 _ (by decide) (by decide)).mono ?_
  rintro e w1 ⟨rfl, rfl⟩
  have eb : (64 - (Lib.bitLen (10 : Int).toNat : Int)) = 60 := by decide
  rw [eb]
  go_wp2_with fail
  go_loopw [15, 16] (fun a b wr => a = .int .u64 q1 ∧ b = .int .u64 r1 ∧ w1 = wr) (fun _ _ _ => 0)
  case atStart => exact ⟨rfl, rfl, rfl⟩
  case round =>
    obtain ⟨rfl, rfl, rfl⟩ := hrel
    go_wp2_with fail
    go_loopw [18, 16] (fun a b wr => a = .int .u64 q0 ∧ b = .int .u64 r0 ∧ w1 = wr) (fun _ _ _ => 0)
    case atStart => exact ⟨rfl, rfl, rfl⟩
    case round =>
      obtain ⟨rfl, rfl, rfl⟩ := hrel
      go_wp2_with fail
      go_ret2
      exact ⟨rfl, Below.refl _ _⟩
end Go.Proofs.YtiikohbnfbpjeaaDoor
