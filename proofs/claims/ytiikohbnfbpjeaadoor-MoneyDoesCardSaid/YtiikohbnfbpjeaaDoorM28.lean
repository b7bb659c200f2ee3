import Derived.Test.YtiikohbnfbpjeaaDoorM27
namespace Go.Proofs.YtiikohbnfbpjeaaDoor
open Go.RowKit
set_option maxRecDepth 20000 in
theorem rtext_bad (m p : Int) (w : World) (h : may m p = false) : Calls Tryd.prog 19 #[.agg #[.int .i64 m, .int .i64 p]] w fun e w' => e = .returned (.tuple #[.string ⟨#[]⟩, .int .i64 140]) ∧ Below w.heap.size w w' := by
  have C1 := Lib.hid (fun W => rmay_any m p W)
  rw [h] at C1
  have P0 := Lib.hid (TX.new w m p)
  clear h
  go_enter Tryd.func19, Tryd.ntmps19
  go_wp2_with fail
  refine (C1.out _).mono ?_
  rintro e w1 ⟨rfl, b⟩
  have P1 := Lib.hid (P0.out.up b)
  clear b
  go_wp2_with fail
  go_ret2
  exact ⟨rfl, P1.out.2⟩
set_option maxRecDepth 20000 in
theorem rtext_ok (m : Int) (p : Nat) (w : World) (h : may m p = true) (h0 : -9223372036854775808 ≤ m) (h1 : m ≤ 9223372036854775807) : Calls Tryd.prog 19 #[.agg #[.int .i64 m, .int .i64 p]] w fun e w' => e = .returned (.tuple #[.string ⟨(tText m p).toArray⟩, .int .i64 0]) ∧ Below w.heap.size w w' := by
  have C1 := Lib.hid (fun W => rmay_any m p W)
  rw [h] at C1
  have T1 := Lib.hid (fun W => rtell_any m p W (by have := (may_parts h).2.1; omega) h0 h1)
  obtain ⟨t, ht⟩ : ∃ t : ByteArray, t = ⟨(tText m p).toArray⟩ := ⟨_, rfl⟩
  rw [← ht] at T1 ⊢
  have P0 := Lib.hid (TX.new w m p)
  clear h h0 h1 ht
  go_enter Tryd.func19, Tryd.ntmps19
  go_wp2_with fail
  refine (C1.out _).mono ?_
  rintro e w1 ⟨rfl, b⟩
  have P1 := Lib.hid (P0.out.up b)
  obtain ⟨⟨c0, c1, -⟩, -⟩ := P1.out
  clear b
  go_wp2_with fail
  clear c0 c1
  refine (T1.out _).mono ?_
  rintro e w2 ⟨rfl, b⟩
  have P2 := Lib.hid (P1.out.up b)
  clear b
  go_wp2_with fail
  go_ret2
  exact ⟨rfl, P2.out.2⟩
set_option maxRecDepth 20000 in
theorem radd_bad1 (m p n q : Int) (w : World) (h : may m p = false) :
    Calls Tryd.prog 20 #[.agg #[.int .i64 m, .int .i64 p], .agg #[.int .i64 n, .int .i64 q]] w fun e w' => e = .returned (.tuple #[.agg #[.int .i64 0, .int .i64 0], .int .i64 140]) ∧ Below w.heap.size w w' := by
  have C1 := Lib.hid (fun W => rmay_any m p W)
  rw [h] at C1
  have P0 := Lib.hid (TA.new w m p n q)
  clear h
  go_enter Tryd.func20, Tryd.ntmps20
  go_wp2_with fail
  refine (C1.out _).mono ?_
  rintro e w1 ⟨rfl, b⟩
  have P1 := Lib.hid (P0.out.up b)
  have P2 := Lib.hid (P1.out.2.set 0 0)
  obtain ⟨-, ⟨⟨c0, c1, -⟩, f0, f1⟩, -⟩ := P1.out
  clear b
  go_wp2_with fail
  exact ret_mt (N := w.heap.size + 1 + 1) (a := 0) (b := 0) Tryd.results20 (by rfl) (by rfl) P2.out.1.1.1 P2.out.1.1.2.1 ⟨rfl, P2.out.2⟩
set_option maxRecDepth 20000 in
theorem radd_bad2 (m p n q : Int) (w : World) (h : may m p = true) (g : may n q = false) :
    Calls Tryd.prog 20 #[.agg #[.int .i64 m, .int .i64 p], .agg #[.int .i64 n, .int .i64 q]] w fun e w' => e = .returned (.tuple #[.agg #[.int .i64 0, .int .i64 0], .int .i64 140]) ∧ Below w.heap.size w w' := by
  have C1 := Lib.hid (fun W => rmay_any m p W)
  rw [h] at C1
  have C2 := Lib.hid (fun W => rmay_any n q W)
  rw [g] at C2
  have P0 := Lib.hid (TA.new w m p n q)
  clear h g
  go_enter Tryd.func20, Tryd.ntmps20
  go_wp2_with fail
  refine (C1.out _).mono ?_
  rintro e w1 ⟨rfl, b⟩
  have P1 := Lib.hid (P0.out.up b)
  obtain ⟨⟨⟨d0, d1, -⟩, ⟨d2, d3, -⟩, -⟩, -⟩ := P1.out
  clear b
  go_wp2_with fail
  clear d0 d1 d2 d3
  refine (C2.out _).mono ?_
  rintro e w2 ⟨rfl, b⟩
  have P2 := Lib.hid (P1.out.up b)
  have P3 := Lib.hid (P2.out.2.set 0 0)
  obtain ⟨-, ⟨⟨c0, c1, -⟩, f0, f1⟩, -⟩ := P2.out
  clear b
  go_wp2_with fail
  exact ret_mt (N := w.heap.size + 1 + 1) (a := 0) (b := 0) Tryd.results20 (by rfl) (by rfl) P3.out.1.1.1 P3.out.1.1.2.1 ⟨rfl, P3.out.2⟩
/-- A sign, and a size. -/
def sgI (s : Bool) (k : Nat) : Int := if s then -(k : Int) else k
theorem sgI_div (s : Bool) (k : Nat) (h : k % 10 = 0) : sgI s k / 10 = sgI s (k / 10) ∧ sgI s k % 10 = 0 := by
  unfold sgI
  cases s
  · simp only [Bool.false_eq_true, if_false]; omega
  · simp only [if_true]; omega
theorem sgI_mod (s : Bool) (k : Nat) (h : k % 10 ≠ 0) : sgI s k % 10 ≠ 0 := by
  unfold sgI
  cases s
  · simp only [Bool.false_eq_true, if_false]; omega
  · simp only [if_true]; omega
theorem sgI_step (s : Bool) (K i : Nat) : sgI s (K / 10 ^ i) = 10 * sgI s (K / 10 ^ (i + 1)) + sgI s (D10 K i) := by
  have := div_step K i
  unfold sgI
  cases s
  · simp only [Bool.false_eq_true, if_false]; omega
  · simp only [if_true]; omega
/-- The greater size, the lesser one, their signs, and the sum. -/
theorem sum_parts (x y : Int) : ∃ (hi lo : Nat) (sH sL : Bool), lo ≤ hi ∧ (if x.natAbs < y.natAbs then hi = y.natAbs ∧ lo = x.natAbs ∧ sH = decide (y < 0) ∧ sL = decide (x < 0) else hi = x.natAbs ∧ lo = y.natAbs ∧ sH = decide (x < 0) ∧ sL = decide (y < 0)) ∧ x + y = sgI sH (if sH = sL then hi + lo else hi - lo) := by
  by_cases h : x.natAbs < y.natAbs
  · refine ⟨y.natAbs, x.natAbs, decide (y < 0), decide (x < 0), by omega, by rw [if_pos h]; exact ⟨rfl, rfl, rfl, rfl⟩, ?_⟩
    unfold sgI
    by_cases a : y < 0 <;> by_cases b : x < 0 <;> simp [a, b] <;> omega
  · refine ⟨x.natAbs, y.natAbs, decide (x < 0), decide (y < 0), by omega, by rw [if_neg h]; exact ⟨rfl, rfl, rfl, rfl⟩, ?_⟩
    unfold sgI
    by_cases a : x < 0 <;> by_cases b : y < 0 <;> simp [a, b] <;> omega
theorem out_mono (s : Bool) (k l : Nat) (h : k ≤ l) (ho : in64 (sgI s k) = false) : in64 (sgI s l) = false := by
  have h1 : ¬ (in64 (sgI s k) = true) := by rw [ho]; decide
  apply Bool.eq_false_iff.2
  intro q
  rw [in64_iff] at h1 q
  unfold sgI at h1 q
  cases s
  · simp only [Bool.false_eq_true, if_false] at h1 q; omega
  · simp only [if_true] at h1 q; omega
theorem fits_in64 (z : Int) : fits z = in64 z := by
  rw [Bool.eq_iff_iff, in64_iff]
  unfold fits
  rw [decide_eq_true_eq]
  omega
theorem div_anti (K i j : Nat) (h : j ≤ i) : K / 10 ^ i ≤ K / 10 ^ j := by
  obtain ⟨d, rfl⟩ : ∃ d, i = j + d := ⟨i - j, by omega⟩
  rw [Nat.pow_add, ← Nat.div_div_eq_div_mul]
  exact Nat.div_le_self _ _
/-- Two rows, and where the sum is answered. -/
def AS (w W : World) (B C : Nat) (f g : Nat → Int) : Prop := Arr W B f ∧ Arr W C g ∧ B ≠ C ∧ w.heap.size + 1 + 1 < B ∧ w.heap.size + 1 + 1 < C ∧ SA w W 0 0
theorem AS.up {w W W' : World} {B C : Nat} {f g : Nat → Int} (h : AS w W B C f g) (hb : Below W.heap.size W W') : AS w W' B C f g := ⟨h.1.up hb, h.2.1.up hb, h.2.2.1, h.2.2.2.1, h.2.2.2.2.1, h.2.2.2.2.2.up hb⟩
theorem sa_cells {w W : World} {a b : Int} (h : SA w W a b) (B : Nat) (hB : w.heap.size + 1 + 1 < B) (vs : List Value) : SA w (W.setCells B 0 vs) a b :=
  ⟨⟨box_cells h.1.1 (by omega) vs, (frozen_cells _ _ _ _ _).trans h.1.2.1, (frozen_cells _ _ _ _ _).trans h.1.2.2⟩, below_cells B (by omega) vs 0 W h.2⟩
theorem AS.swap {w W : World} {B C : Nat} {f g : Nat → Int} (h : AS w W B C f g) : AS w ((W.setCells B 0 (arrL g)).setCells C 0 (arrL f)) B C g f := by
  obtain ⟨h1, h2, h3, h4, h5, h6⟩ := h
  exact ⟨arr_cells_other (arr_cells h1 g) h3 _, arr_cells (arr_cells_other h2 (Ne.symm h3) _) f, h3, h4, h5, sa_cells (sa_cells h6 B h4 _) C h5 _⟩
/-- The sum's row, and where it is answered. -/
def RS (w W : World) (B K : Nat) : Prop := Arr W B (fun i => (D10 K i : Nat)) ∧ w.heap.size + 1 + 1 < B ∧ SA w W 0 0
/-- Where the loop that takes tens off stands. -/
def L1 (V : Int) (s : Bool) (K : Nat) (f : Nat) (s11 s12 : Value) : Prop := ∃ j : Nat, f + j = 18 ∧ s11 = .int .i64 (f : Nat) ∧ s12 = .int .i64 (j : Nat) ∧ norm V 18 = norm (sgI s (K / 10 ^ j)) f
/-- Where the loop that puts digits together stands. -/
def L2 (s : Bool) (K J : Nat) (s13 s14 : Value) : Prop := ∃ i : Nat, J ≤ i ∧ i ≤ 40 ∧ s14 = .int .i64 ((i : Int) - 1) ∧ s13 = .int .i64 (sgI s (K / 10 ^ i)) ∧ in64 (sgI s (K / 10 ^ i)) = true
set_option maxRecDepth 20000 in
set_option maxHeartbeats 4000000 in
theorem radd_ok (m p n q : Int) (w : World) (h : may m p = true) (g : may n q = true) (a1 : -9223372036854775808 ≤ m) (a2 : m < 9223372036854775808) (b1 : -9223372036854775808 ≤ n) (b2 : n < 9223372036854775808) :
    Calls Tryd.prog 20 #[.agg #[.int .i64 m, .int .i64 p], .agg #[.int .i64 n, .int .i64 q]] w fun e w' => e = .returned (.tuple #[.agg #[.int .i64 (adM m p n q), .int .i64 (adS m p n q)], .int .i64 (adE m p n q)]) ∧ Below w.heap.size w w' := by
  have C1 := Lib.hid (fun W => rmay_any m p W)
  rw [h] at C1
  have C2 := Lib.hid (fun W => rmay_any n q W)
  rw [g] at C2
  have R1 := Lib.hid (fun W => row_any m p W h a1 a2)
  have R2 := Lib.hid (fun W => row_any n q W g b1 b2)
  have LE := Lib.hid (fun W => less_any (vM m p).natAbs (vM n q).natAbs W (row_in m p a1 a2) (row_in n q b1 b2))
  have hb1 := vM_bound (p := p) a1 (by omega)
  have hb2 := vM_bound (p := q) b1 (by omega)
  have hs1 := vM_neg_iff m p
  have hs2 := vM_neg_iff n q
  obtain ⟨u, hu⟩ : ∃ u, u = (norm (vM m p + vM n q) 18).1 := ⟨_, rfl⟩
  obtain ⟨j0, hj0⟩ : ∃ j, j = (norm (vM m p + vM n q) 18).2 := ⟨_, rfl⟩
  have hn0 : norm (vM m p + vM n q) 18 = (u, j0) := by rw [hu, hj0]
  have HAD := Lib.hid (ad_fit ⟨h, g⟩ hn0)
  obtain ⟨r1, hr1⟩ : ∃ r, r = adM m p n q := ⟨_, rfl⟩
  obtain ⟨r2, hr2⟩ : ∃ r, r = adS m p n q := ⟨_, rfl⟩
  obtain ⟨r3, hr3⟩ : ∃ r, r = adE m p n q := ⟨_, rfl⟩
  rw [← hr1, ← hr2, ← hr3] at HAD ⊢
  obtain ⟨x, hx⟩ : ∃ x, x = vM m p := ⟨_, rfl⟩
  obtain ⟨y, hy⟩ : ∃ x, x = vM n q := ⟨_, rfl⟩
  rw [← hx] at R1 LE hb1 hs1 hn0
  rw [← hy] at R2 LE hb2 hs2 hn0
  rw [show decide (m < 0) = decide (x < 0) from (decide_eq_decide.2 hs1).symm] at R1
  rw [show decide (n < 0) = decide (y < 0) from (decide_eq_decide.2 hs2).symm] at R2
  obtain ⟨hi, lo, sH, sL, hlh, hw', hsum⟩ := sum_parts x y
  have HWAY := Lib.hid hw'
  obtain ⟨K, hK⟩ : ∃ K, K = (if sH = sL then hi + lo else hi - lo) := ⟨_, rfl⟩
  rw [← hK] at hsum
  rw [hsum] at hn0
  have HN0 := Lib.hid hn0
  have HKK := Lib.hid hK
  have hK40 : K / 10 ^ 40 = 0 := by
    refine Nat.div_eq_of_lt ?_
    have : hi + lo ≤ 9223372036854775808 * 10 ^ 18 + 9223372036854775808 * 10 ^ 18 := by
      by_cases hl : x.natAbs < y.natAbs
      · rw [if_pos hl] at hw'; omega
      · rw [if_neg hl] at hw'; omega
    have hK2 : K ≤ hi + lo := by rw [hK]; split <;> omega
    exact Nat.lt_of_le_of_lt (Nat.le_trans hK2 this) (by decide)
  have HK40 := Lib.hid hK40
  have BP := Lib.hid (fun W => both_plus hi lo W)
  have BN := Lib.hid (fun W => both_minus hi lo W hlh)
  have MU := Lib.hid muls_any
  have AD := Lib.hid adds_any
  obtain ⟨F, hF⟩ : ∃ F : Nat → Int, F = fun i => ((D10 x.natAbs i : Nat) : Int) := ⟨_, rfl⟩
  obtain ⟨G, hG⟩ : ∃ F : Nat → Int, F = fun i => ((D10 y.natAbs i : Nat) : Int) := ⟨_, rfl⟩
  obtain ⟨FH, hFH⟩ : ∃ F : Nat → Int, F = fun i => ((D10 hi i : Nat) : Int) := ⟨_, rfl⟩
  obtain ⟨FL, hFL⟩ : ∃ F : Nat → Int, F = fun i => ((D10 lo i : Nat) : Int) := ⟨_, rfl⟩
  obtain ⟨FP, hFP⟩ : ∃ F : Nat → Int, F = fun i => ((D10 (hi + lo) i : Nat) : Int) := ⟨_, rfl⟩
  obtain ⟨FM, hFM⟩ : ∃ F : Nat → Int, F = fun i => ((D10 (hi - lo) i : Nat) : Int) := ⟨_, rfl⟩
  rw [show rowV x.natAbs = arrV F by rw [hF]; rfl] at R1 LE
  rw [show rowV y.natAbs = arrV G by rw [hG]; rfl] at R2 LE
  rw [show rowV hi = arrV FH by rw [hFH]; rfl, show rowV lo = arrV FL by rw [hFL]; rfl] at BP BN
  rw [show rowV (hi + lo) = arrV FP by rw [hFP]; rfl] at BP
  rw [show rowV (hi - lo) = arrV FM by rw [hFM]; rfl] at BN
  unfold arrV at R1 R2 LE BP BN
  have HFW : Hid (if x.natAbs < y.natAbs then FH = G ∧ FL = F else FH = F ∧ FL = G) := Lib.hid (by
    by_cases hl : x.natAbs < y.natAbs
    · rw [if_pos hl] at hw' ⊢; rw [hFH, hFL, hF, hG, hw'.1, hw'.2.1]; exact ⟨rfl, rfl⟩
    · rw [if_neg hl] at hw' ⊢; rw [hFH, hFL, hF, hG, hw'.1, hw'.2.1]; exact ⟨rfl, rfl⟩)
  have HFK : Hid ((sH = sL → FP = fun i => ((D10 K i : Nat) : Int)) ∧ (sH ≠ sL → FM = fun i => ((D10 K i : Nat) : Int))) := Lib.hid ⟨fun e => by rw [hFP, hK, if_pos e], fun e => by rw [hFM, hK, if_neg e]⟩
  have hst := store_new
  have sF := arrC_size F
  have sG := arrC_size G
  have sP := arrC_size FP
  have sM := arrC_size FM
  obtain ⟨nx, hnx⟩ : ∃ b, b = decide (x < 0) := ⟨_, rfl⟩
  obtain ⟨ny, hny⟩ : ∃ b, b = decide (y < 0) := ⟨_, rfl⟩
  rw [← hnx] at R1
  rw [← hny] at R2
  have HNX := Lib.hid hnx
  have HNY := Lib.hid hny
  obtain ⟨l, hl⟩ : ∃ l, l = decide (x.natAbs < y.natAbs) := ⟨_, rfl⟩
  rw [← hl] at LE
  have HL := Lib.hid hl
  have P0 := Lib.hid (TA.new w m p n q)
  clear h g a1 a2 b1 b2 hb1 hb2 hs1 hs2 hu hj0 hn0 hr1 hr2 hr3 hx hy hw' hsum hK hK40 hF hG hFH hFL hFP hFM hnx hny hl hlh
  go_enter Tryd.func20, Tryd.ntmps20
  go_wp2_with fail
  refine (C1.out _).mono ?_
  rintro e w1 ⟨rfl, b⟩
  have P1 := Lib.hid (P0.out.up b)
  obtain ⟨⟨⟨d0, d1, -⟩, ⟨d2, d3, -⟩, -⟩, -⟩ := P1.out
  clear b
  go_wp2_with fail
  clear d0 d1 d2 d3
  refine (C2.out _).mono ?_
  rintro e w2 ⟨rfl, b⟩
  have P2 := Lib.hid (P1.out.up b)
  obtain ⟨⟨⟨d0, d1, -⟩, ⟨d2, d3, -⟩, -⟩, -⟩ := P2.out
  clear b
  go_wp2_with fail
  clear d0 d1 d2 d3
  refine (R1.out _).mono ?_
  rintro e w3 ⟨rfl, b⟩
  have P3 := Lib.hid (And.intro ((P2.out.up b).up ((Below.refl _ w3).alloc (Nat.le_refl _) (.cells (arrC F) 81))) (And.intro (Arr.new w3 F) (show w.heap.size + 1 + 1 < w3.heap.size from (P2.out.up b).2.1.1.2.2)))
  clear b
  go_upto_region 4 with fail
  obtain ⟨w4, hw4⟩ : ∃ w4, w4 = w3.alloc (.cells (arrC F) 81) := ⟨_, rfl⟩
  obtain ⟨B6, hB6⟩ : ∃ B, B = w3.heap.size := ⟨_, rfl⟩
  rw [← hw4, ← hB6] at P3 ⊢
  clear hw4 hB6
  obtain ⟨⟨⟨⟨d0, d1, -⟩, ⟨d2, d3, -⟩, -⟩, -⟩, -, -⟩ := P3.out
  go_wp2_with fail
  clear d0 d1 d2 d3
  refine (R2.out _).mono ?_
  rintro e w5 ⟨rfl, b⟩
  have P5 : Hid (AS w (w5.alloc (.cells (arrC G) 81)) B6 w5.heap.size F G) := Lib.hid (by
    obtain ⟨t1, t2, t3⟩ := P3.out
    have t4 := t2.up b
    exact ⟨t4.up ((Below.refl _ _).alloc (Nat.le_refl _) _), Arr.new w5 G, Nat.ne_of_lt t4.2, t3, Nat.lt_trans t3 t4.2, ((t1.up b).2).up ((Below.refl _ _).alloc (Nat.le_refl _) _)⟩)
  clear b P3
  go_upto_region 5 with fail
  obtain ⟨w6, hw6⟩ : ∃ w6, w6 = w5.alloc (.cells (arrC G) 81) := ⟨_, rfl⟩
  obtain ⟨B8, hB8⟩ : ∃ B, B = w5.heap.size := ⟨_, rfl⟩
  rw [← hw6, ← hB8] at P5 ⊢
  clear hw6 hB8
  refine wp_region_lit ?_
  refine wpList_load_mid rfl 81 (.tmp 6) rfl B6 0 rfl (arrL F) _ P5.out.1.range t81 rfl (by rw [arrL_length]; exact s81) ?_
  refine wpList_load_mid rfl 81 (.tmp 8) rfl B8 0 rfl (arrL G) _ P5.out.2.1.range t81 rfl (by rw [arrL_length]; exact s81) ?_
  go_wp2_with fail
  refine (LE.out _).mono ?_
  rintro e w7 ⟨rfl, b⟩
  have P7 := Lib.hid (P5.out.up b)
  clear b
  go_upto_if 37 with fail
  go_cut [7, 9] (fun s7 s9 wx => s7 = .bool sH ∧ s9 = .bool sL ∧ AS w wx B6 B8 FH FL)
  case first =>
    cases l with
    | false =>
      have hl := of_decide_eq_false HL.out.symm
      have h1 := HWAY.out
      rw [if_neg hl] at h1
      have h2 := HFW.out
      rw [if_neg hl] at h2
      have HH := Lib.hid h1
      have HG := Lib.hid h2
      clear h1 h2 hl
      go_wp2_with fail
      go_meet
      exact ⟨by rw [HH.out.2.2.1, ← HNX.out], by rw [HH.out.2.2.2, ← HNY.out], by rw [HG.out.1, HG.out.2]; exact P7.out⟩
    | true =>
      have hl := of_decide_eq_true HL.out.symm
      have h1 := HWAY.out
      rw [if_pos hl] at h1
      have h2 := HFW.out
      rw [if_pos hl] at h2
      have HH := Lib.hid h1
      have HG := Lib.hid h2
      clear h1 h2 hl
      go_upto_region 6 with fail
      refine wp_region_lit ?_
      refine wpList_load_mid rfl 81 (.tmp 8) rfl B8 0 rfl (arrL G) _ P7.out.2.1.range t81 rfl (by rw [arrL_length]; exact s81) ?_
      refine wpList_load_mid rfl 81 (.tmp 6) rfl B6 0 rfl (arrL F) _ P7.out.1.range t81 rfl (by rw [arrL_length]; exact s81) ?_
      refine wpList_store_mid rfl 81 (.tmp 6) (.tmp 38) rfl B6 0 (arrL G).toArray rfl rfl (by rw [arrL_size]; exact P7.out.1.there) (by rw [arrL_size]; exact s81) (all_oneCell_toArray (arrL_one G)) ?_
      refine wpList_store_mid rfl 81 (.tmp 8) (.tmp 39) rfl B8 0 (arrL F).toArray rfl rfl (by rw [arrL_size]; exact (arr_cells_other P7.out.2.1 (Ne.symm P7.out.2.2.1) _).there) (by rw [arrL_size]; exact s81) (all_oneCell_toArray (arrL_one F)) ?_
      have P8 := Lib.hid P7.out.swap
      go_wp2_with fail
      go_meet
      exact ⟨by rw [HH.out.2.2.1, ← HNY.out], by rw [HH.out.2.2.2, ← HNX.out], by rw [HG.out.1, HG.out.2]; exact P8.out⟩
  case rest =>
    obtain ⟨rfl, rfl, hx⟩ := hcut
    have P8 := Lib.hid hx
    clear hx P7 P5
    go_upto_region 8 with fail
    go_cut [10] (fun s10 wx => ∃ B, s10 = .pointer (some ⟨B, 0, none⟩) ∧ RS w wx B K)
    case first =>
      refine wp_region_lit ?_
      refine wpList_load_mid rfl 81 (.tmp 6) rfl B6 0 rfl (arrL FH) _ P8.out.1.range t81 rfl (by rw [arrL_length]; exact s81) ?_
      refine wpList_load_mid rfl 81 (.tmp 8) rfl B8 0 rfl (arrL FL) _ P8.out.2.1.range t81 rfl (by rw [arrL_length]; exact s81) ?_
      by_cases hs : sH = sL
      · have HE := Lib.hid (HFK.out.1 hs)
        subst hs
        go_wp2_with fail
        refine (BP.out _).mono ?_
        rintro e w9 ⟨rfl, b⟩
        have P9 := Lib.hid (P8.out.up b)
        clear b
        go_wp2_with fail
        go_meet
        refine ⟨_, rfl, ?_, Nat.lt_trans P9.out.2.2.2.1 P9.out.1.2, P9.out.2.2.2.2.2.up ((Below.refl _ _).alloc (Nat.le_refl _) _)⟩
        rw [← HE.out]; exact Arr.new w9 FP
      · have HE := Lib.hid (HFK.out.2 hs)
        have HS := Lib.hid hs
        clear hs
        cases sH with
        | true =>
          obtain rfl : sL = false := by cases sL; rfl; exact absurd rfl HS.out
          go_wp2_with fail
          refine (BN.out _).mono ?_
          rintro e w9 ⟨rfl, b⟩
          have P9 := Lib.hid (P8.out.up b)
          clear b
          go_wp2_with fail
          go_meet
          refine ⟨_, rfl, ?_, Nat.lt_trans P9.out.2.2.2.1 P9.out.1.2, P9.out.2.2.2.2.2.up ((Below.refl _ _).alloc (Nat.le_refl _) _)⟩
          rw [← HE.out]; exact Arr.new w9 FM
        | false =>
          obtain rfl : sL = true := by cases sL; exact absurd rfl HS.out; rfl
          go_wp2_with fail
          refine (BN.out _).mono ?_
          rintro e w9 ⟨rfl, b⟩
          have P9 := Lib.hid (P8.out.up b)
          clear b
          go_wp2_with fail
          go_meet
          refine ⟨_, rfl, ?_, Nat.lt_trans P9.out.2.2.2.1 P9.out.1.2, P9.out.2.2.2.2.2.up ((Below.refl _ _).alloc (Nat.le_refl _) _)⟩
          rw [← HE.out]; exact Arr.new w9 FM
    case rest =>
      obtain ⟨B, rfl, hx⟩ := hcut
      have PA := Lib.hid hx
      clear hx P8 hst sF sG sP sM
      go_upto_block 0 with fail
      go_cut [11, 12] (fun s11 s12 wx => s11 = .int .i64 (j0 : Int) ∧ (∃ J : Nat, s12 = .int .i64 (J : Int) ∧ J ≤ 18 ∧ sgI sH (K / 10 ^ J) = u) ∧ RS w wx B K)
      case first =>
        go_wp2_with fail
        go_loopg [11, 12] 18 (fun f s11 s12 wr => L1 (sgI sH K) sH K f s11 s12 ∧ RS w wr B K)
        case atStart => exact ⟨⟨0, rfl, rfl, rfl, by simp⟩, PA.out⟩
        case round =>
          obtain ⟨⟨j, hf, rfl, rfl, hnn⟩, hr⟩ := hrel
          have HNN := Lib.hid (hnn.symm.trans HN0.out)
          have HR := Lib.hid hr
          have HF := Lib.hid hf
          clear hnn hr
          have hj40 : j < 40 := by omega
          have hj : (j : Int) < 40 := by omega
          have c1 := (HR.out.1.1 j hj40).1
          dsimp only at c1
          obtain ⟨c, hc⟩ : ∃ c, c = D10 K j := ⟨_, rfl⟩
          rw [← hc] at c1
          have HC : Hid (K / 10 ^ j % 10 = c) := Lib.hid (by rw [hc]; rfl)
          clear hc
          cases gk with
          | zero =>
            have HE := Lib.hid (Prod.mk.inj HNN.out)
            have h18 : j ≤ 18 := by omega
            have HJ18 := Lib.hid h18
            clear hf
            go_wp2_with fail
            go_meet
            exact ⟨by rw [← HE.out.2], ⟨j, rfl, HJ18.out, HE.out.1⟩, HR.out⟩
          | succ g =>
            have hg : (g : Int) ≤ 18 := by omega
            by_cases h0 : c = 0
            · have HM : Hid (norm (sgI sH (K / 10 ^ (j + 1))) g = (u, j0)) := Lib.hid (by
                have h1 := HNN.out
                have h2 := sgI_div sH (K / 10 ^ j) (by rw [HC.out]; exact h0)
                rw [norm_more _ _ h2.2, h2.1] at h1
                rw [Nat.pow_succ, ← Nat.div_div_eq_div_mul]
                exact h1)
              subst h0
              clear hf
              go_wp2_with fail
              go_roundg g
              case rel => exact ⟨⟨j + 1, by have := HF.out; omega, by go_num, by go_num, by rw [HM.out]; exact HN0.out⟩, HR.out⟩
              case measure => omega
            · have HE : Hid (sgI sH (K / 10 ^ j) = u ∧ g + 1 = j0) := Lib.hid (by
                have h1 := HNN.out
                rw [norm_stop _ _ (sgI_mod sH (K / 10 ^ j) (by rw [HC.out]; exact h0))] at h1
                exact Prod.mk.inj h1)
              have gc : ((c : Int) == 0) = false := beq_eq_false_iff_ne.2 (by omega)
              have HJ18 : Hid (j ≤ 18) := Lib.hid (by omega)
              clear h0 hf
              go_wp2_with fail
              go_meet
              exact ⟨by rw [← HE.out.2], ⟨j, rfl, HJ18.out, HE.out.1⟩, HR.out⟩
      case rest =>
        obtain ⟨rfl, ⟨J, rfl, hJ18, hJu⟩, hr⟩ := hcut
        have PR := Lib.hid hr
        have HJU := Lib.hid hJu
        have HJ18 := Lib.hid hJ18
        clear hr hJu PA
        go_wp2_with fail
        go_loopw [13, 14] (fun s13 s14 wr => L2 sH K J s13 s14 ∧ RS w wr B K) (fun _ s14 _ => (intOf s14 + 1).toNat)
        case atStart => exact ⟨⟨40, by omega, Nat.le_refl _, rfl, by rw [HK40.out]; cases sH <;> rfl, by rw [HK40.out]; cases sH <;> decide⟩, PR.out⟩
        case round =>
          obtain ⟨⟨i, hi1, hi2, rfl, rfl, hin⟩, hr⟩ := hrel
          have HR := Lib.hid hr
          clear hr
          by_cases hlt : J < i
          · obtain ⟨k, rfl⟩ : ∃ k, i = k + 1 := ⟨i - 1, by omega⟩
            have ek : ((k + 1 : Nat) : Int) - 1 = (k : Int) := by omega
            rw [ek]
            have hk40 : k < 40 := by omega
            have hk : (k : Int) < 40 := by omega
            have hJk : (J : Int) ≤ k := by omega
            have c1 := (HR.out.1.1 k hk40).1
            dsimp only at c1
            have hc10 := D10_lt K k
            have hstep := sgI_step sH K k
            have hten : sgI sH (K / 10 ^ (k + 1) * 10) = sgI sH (K / 10 ^ (k + 1)) * 10 := by
              unfold sgI; cases sH
              · simp only [Bool.false_eq_true, if_false]; omega
              · simp only [if_true]; omega
            have hle10 : K / 10 ^ (k + 1) * 10 ≤ K / 10 ^ k := by have := div_step K k; omega
            have hleJ : K / 10 ^ k ≤ K / 10 ^ J := div_anti K k J (by omega)
            have HO1 : Hid (in64 (sgI sH (K / 10 ^ (k + 1)) * 10) = false → in64 u = false) := Lib.hid (fun h => by rw [← HJU.out]; exact out_mono sH _ _ (Nat.le_trans hle10 hleJ) (by rw [hten]; exact h))
            have HO2 : Hid (in64 (sgI sH (K / 10 ^ k)) = false → in64 u = false) := Lib.hid (fun h => by rw [← HJU.out]; exact out_mono sH _ _ hleJ h)
            obtain ⟨v, hv⟩ : ∃ v, v = sgI sH (K / 10 ^ (k + 1)) := ⟨_, rfl⟩
            obtain ⟨z, hz⟩ : ∃ v, v = sgI sH (K / 10 ^ k) := ⟨_, rfl⟩
            obtain ⟨c, hc⟩ : ∃ c, c = D10 K k := ⟨_, rfl⟩
            rw [← hc] at c1 hc10 hstep
            rw [← hv] at hstep HO1 hin ⊢
            rw [← hz] at hstep HO2
            obtain ⟨sd, hsd⟩ : ∃ d, d = sgI sH c := ⟨_, rfl⟩
            rw [← hsd] at hstep
            have hsdb : -9 ≤ sd ∧ sd ≤ 9 := by
              rw [hsd]; unfold sgI; cases sH
              · simp only [Bool.false_eq_true, if_false]; omega
              · simp only [if_true]; omega
            have HSD := Lib.hid hsd
            have HZ := Lib.hid hz
            have HIN := Lib.hid hin
            have hv64 := (in64_iff v).1 hin
            obtain ⟨v1, v2⟩ := hv64
            have v2' : v ≤ 9223372036854775807 := by omega
            have HI1 := Lib.hid hi1
            have HI2 := Lib.hid hi2
            have HST := Lib.hid hstep
            obtain ⟨s1, s2⟩ := hsdb
            clear ek hi1 hi2 hten hle10 hleJ hv hz hc hsd hin hstep hlt
            go_upto_if 68 with fail
            go_cut [15] (fun s15 wx => s15 = .int .i64 sd ∧ RS w wx B K)
            case first =>
              cases sH with
              | true =>
                have HS1 : Hid (sd = -(c : Int)) := Lib.hid (by rw [HSD.out]; rfl)
                go_wp2_with fail
                go_meet
                exact ⟨by rw [HS1.out], HR.out⟩
              | false =>
                have HS1 : Hid (sd = (c : Int)) := Lib.hid (by rw [HSD.out]; rfl)
                go_wp2_with fail
                go_meet
                exact ⟨by rw [HS1.out], HR.out⟩
            case rest =>
              obtain ⟨rfl, hr⟩ := hcut
              have HR2 := Lib.hid hr
              clear hr c1
              obtain ⟨⟨⟨d0, d1, -⟩, g0, g1⟩, -⟩ := HR2.out.2.2
              have P5 := Lib.hid (HR2.out.2.2.set 0 0)
              go_wp2_with fail
              refine (MU.out v 10 _ v1 v2' (by decide) (by decide)).mono ?_
              rintro e wa ⟨rfl, rfl⟩
              rw [fits_in64]
              cases h10 : in64 (v * 10) with
              | false =>
                have HQ := Lib.hid (HAD.out.2 (HO1.out h10))
                clear h10
                go_wp2_with fail
                refine ret_mt (N := w.heap.size + 1 + 1) (a := 0) (b := 0) (v := .int .i64 20) Tryd.results20 (by rfl) (by rfl) P5.out.1.1.1 P5.out.1.1.2.1 ⟨?_, P5.out.2⟩
                rw [HQ.out.1, HQ.out.2.1, HQ.out.2.2]
              | true =>
                have h10' := (in64_iff _).1 h10
                obtain ⟨t1, t2⟩ := h10'
                have t1' : -9223372036854775808 ≤ 10 * v := by omega
                have t2' : 10 * v ≤ 9223372036854775807 := by omega
                clear h10 t1 t2
                go_wp2_with fail
                refine (AD.out (10 * v) sd _ t1' t2' (by omega) (by omega)).mono ?_
                rintro e wb ⟨rfl, rfl⟩
                rw [fits_in64]
                cases h11 : in64 (10 * v + sd) with
                | false =>
                  have HQ := Lib.hid (HAD.out.2 (HO2.out (by rw [HST.out]; exact h11)))
                  clear h11
                  go_wp2_with fail
                  refine ret_mt (N := w.heap.size + 1 + 1) (a := 0) (b := 0) (v := .int .i64 20) Tryd.results20 (by rfl) (by rfl) P5.out.1.1.1 P5.out.1.1.2.1 ⟨?_, P5.out.2⟩
                  rw [HQ.out.1, HQ.out.2.1, HQ.out.2.2]
                | true =>
                  have HQ := Lib.hid h11
                  have h11' := (in64_iff _).1 h11
                  obtain ⟨t3, t4⟩ := h11'
                  clear h11
                  go_wp2_with fail
                  go_roundw
                  case rel => exact ⟨⟨k, by omega, by omega, by go_num, by rw [← HZ.out, HST.out], by rw [← HZ.out, HST.out]; exact HQ.out⟩, HR2.out⟩
                  case measure => simp [intOf]
          · obtain rfl : i = J := by omega
            rw [HJU.out] at hin ⊢
            have HQ := Lib.hid (HAD.out.1 hin)
            have hnl : ¬ ((i : Int) ≤ (i : Int) - 1) := by omega
            obtain ⟨⟨⟨d0, d1, -⟩, g0, g1⟩, -⟩ := HR.out.2.2
            have P5 := Lib.hid (HR.out.2.2.set u j0)
            clear hlt hin hi1
            go_wp2_with fail
            refine ret_mt (N := w.heap.size + 1 + 1) (a := u) (b := j0) (v := .int .i64 0) Tryd.results20 (by rfl) (by rfl) P5.out.1.1.1 P5.out.1.1.2.1 ⟨?_, P5.out.2⟩
            rw [HQ.out.1, HQ.out.2.1, HQ.out.2.2]
theorem radd_any (m p n q : Int) (w : World) (a1 : -9223372036854775808 ≤ m) (a2 : m < 9223372036854775808) (b1 : -9223372036854775808 ≤ n) (b2 : n < 9223372036854775808) :
    Calls Tryd.prog 20 #[.agg #[.int .i64 m, .int .i64 p], .agg #[.int .i64 n, .int .i64 q]] w fun e w' => e = .returned (.tuple #[.agg #[.int .i64 (adM m p n q), .int .i64 (adS m p n q)], .int .i64 (adE m p n q)]) ∧ Below w.heap.size w w' := by
  cases h : may m p with
  | false => obtain ⟨e1, e2, e3⟩ := ad_no (m := m) (p := p) (n := n) (q := q) (by rw [h]; rfl); rw [e1, e2, e3]; exact radd_bad1 m p n q w h
  | true =>
    cases g : may n q with
    | false => obtain ⟨e1, e2, e3⟩ := ad_no (m := m) (p := p) (n := n) (q := q) (by rw [h, g]; rfl); rw [e1, e2, e3]; exact radd_bad2 m p n q w h g
    | true => exact radd_ok m p n q w h g a1 a2 b1 b2
/-- A Decimal's text, and its error; the code's and the document's. -/
theorem text_both (a c : Int) (a1 : -9223372036854775808 ≤ a) (a2 : a ≤ 9223372036854775807) : ∃ (t : ByteArray) (f : Int), (∀ W, PW W → Calls Tryd.prog 10 #[.agg #[.int .i64 a, .int .i64 c]] W fun e w' => e = .returned (.tuple #[.string t, .int .i64 f]) ∧ Below W.heap.size W w') ∧
    (∀ W, Calls Tryd.prog 19 #[.agg #[.int .i64 a, .int .i64 c]] W fun e w' => e = .returned (.tuple #[.string t, .int .i64 f]) ∧ Below W.heap.size W w') := by
  cases hm : may a c with
  | false => exact ⟨⟨#[]⟩, 140, fun W _ => text_bad a c W hm, fun W => rtext_bad a c W hm⟩
  | true =>
    obtain ⟨k, rfl⟩ : ∃ k : Nat, c = k := Int.eq_ofNat_of_zero_le (may_parts hm).1
    exact ⟨⟨(tText a k).toArray⟩, 0, fun W h => text_ok a k W h hm a1 a2, fun W => rtext_ok a k W hm a1 a2⟩
/-- What is held while the last line is worked out. -/
def HZ (w W : World) (m p n q s t : Int) (B C : Nat) : Prop := TwoM w.heap.size w W m p n q ∧ MBox W B s t ∧ MBox W C s t
theorem HZ.up {w W W' : World} {m p n q s t : Int} {B C : Nat} (h : HZ w W m p n q s t B C) (hb : Below W.heap.size W W') : HZ w W' m p n q s t B C := ⟨h.1.up hb, h.2.1.up hb, h.2.2.up hb⟩
set_option maxRecDepth 20000 in
set_option maxHeartbeats 4000000 in
theorem does_law (a p b q n : Int) (w : World) (hT : PW w) (a1 : -9223372036854775808 ≤ a) (a2 : a ≤ 9223372036854775807) (_ : -9223372036854775808 ≤ p) (_ : p ≤ 9223372036854775807) (b1 : -9223372036854775808 ≤ b) (b2 : b ≤ 9223372036854775807) (_ : -9223372036854775808 ≤ q) (_ : q ≤ 9223372036854775807) (_ : -9223372036854775808 ≤ n) (_ : n ≤ 9223372036854775807) :
    Calls Tryd.prog 5 #[.agg #[.int .i64 a, .int .i64 p], .agg #[.int .i64 b, .int .i64 q], .int .i64 n] w fun e w' => e = .returned (.bool true) ∧ Below w.heap.size w w' := by
  have HP := Lib.hid (fun W (hb : Below w.heap.size w W) => hT.on hb)
  obtain ⟨t, f, x1, x2⟩ := text_both a p a1 a2
  have T1 := Lib.hid x1
  have T2 := Lib.hid x2
  clear x1 x2
  have A1 := Lib.hid (fun W => add_any a p b q W a1 (by omega) b1 (by omega))
  have A2 := Lib.hid (fun W => radd_any a p b q W a1 (by omega) b1 (by omega))
  have K1 := Lib.hid (fun W => compare_any a p b q W a1 (by omega) b1 (by omega))
  have K2 := Lib.hid (fun W => rcompare_any a p b q W a1 (by omega) b1 (by omega))
  obtain ⟨s1, hs1⟩ : ∃ x, x = adM a p b q := ⟨_, rfl⟩
  obtain ⟨s2, hs2⟩ : ∃ x, x = adS a p b q := ⟨_, rfl⟩
  obtain ⟨s3, hs3⟩ : ∃ x, x = adE a p b q := ⟨_, rfl⟩
  rw [← hs1, ← hs2, ← hs3] at A1 A2
  obtain ⟨v1, hv1⟩ : ∃ x, x = cmV a p b q := ⟨_, rfl⟩
  obtain ⟨v2, hv2⟩ : ∃ x, x = cmE a p b q := ⟨_, rfl⟩
  rw [← hv1, ← hv2] at K1 K2
  obtain ⟨ch, hch⟩ : ∃ x, x = chM a p := ⟨_, rfl⟩
  have HCH := Lib.hid hch
  have P0 := Lib.hid (TwoM.new w a p b q)
  clear hT a1 a2 b1 b2 hs1 hs2 hs3 hv1 hv2 hch
  go_enter Tryd.func5, Tryd.ntmps5
  go_wp2_with fail
  obtain ⟨w0, hw0⟩ : ∃ w0, w0 = (w.alloc (.cells #[.int .i64 a, .int .i64 p] 26)).alloc (.cells #[.int .i64 b, .int .i64 q] 26) := ⟨_, rfl⟩
  rw [← hw0] at P0 ⊢
  clear hw0
  refine (T1.out _ (HP.out _ P0.out.2.2)).mono ?_
  rintro e w1 ⟨rfl, x⟩
  have P1 := Lib.hid (P0.out.up x)
  obtain ⟨⟨c0, c1, -⟩, ⟨c2, c3, -⟩, -⟩ := P1.out
  clear x
  go_wp2_with fail
  clear c0 c1 c2 c3
  refine (T2.out _).mono ?_
  rintro e w2 ⟨rfl, x⟩
  have P2 := Lib.hid (P1.out.up x)
  obtain ⟨⟨c0, c1, -⟩, ⟨c2, c3, -⟩, -⟩ := P2.out
  clear x
  go_wp2_with fail
  clear c0 c1 c2 c3
  refine (A1.out _).mono ?_
  rintro e w3 ⟨rfl, x⟩
  have P3 := Lib.hid ((P2.out.up x).up ((Below.refl _ w3).alloc (Nat.le_refl _) (.cells #[.int .i64 s1, .int .i64 s2] 26)))
  have D3 := Lib.hid (MBox.new w3 s1 s2)
  clear x
  go_upto_region 4 with fail
  obtain ⟨w4, hw4⟩ : ∃ w4, w4 = w3.alloc (.cells #[.int .i64 s1, .int .i64 s2] 26) := ⟨_, rfl⟩
  obtain ⟨B, hB⟩ : ∃ B, B = w3.heap.size := ⟨_, rfl⟩
  rw [← hw4] at P3 D3 ⊢
  rw [← hB] at D3 ⊢
  clear hw4 hB
  obtain ⟨⟨c0, c1, -⟩, ⟨c2, c3, -⟩, -⟩ := P3.out
  go_wp2_with fail
  clear c0 c1 c2 c3
  refine (A2.out _).mono ?_
  rintro e w5 ⟨rfl, x⟩
  have P5 := Lib.hid (show HZ w (w5.alloc (.cells #[.int .i64 s1, .int .i64 s2] 26)) a p b q s1 s2 B w5.heap.size from ⟨(P3.out.up x).up ((Below.refl _ w5).alloc (Nat.le_refl _) _), (D3.out.up x).up ((Below.refl _ w5).alloc (Nat.le_refl _) _), MBox.new w5 s1 s2⟩)
  clear x P3 D3
  go_upto_region 5 with fail
  obtain ⟨w6, hw6⟩ : ∃ w6, w6 = w5.alloc (.cells #[.int .i64 s1, .int .i64 s2] 26) := ⟨_, rfl⟩
  obtain ⟨C, hC⟩ : ∃ B, B = w5.heap.size := ⟨_, rfl⟩
  rw [← hw6, ← hC] at P5 ⊢
  clear hw6 hC
  obtain ⟨⟨⟨c0, c1, -⟩, ⟨c2, c3, -⟩, -⟩, -⟩ := P5.out
  go_wp2_with fail
  clear c0 c1 c2 c3
  refine (K1.out _).mono ?_
  rintro e w7 ⟨rfl, x⟩
  have P7 := Lib.hid (P5.out.up x)
  obtain ⟨⟨⟨c0, c1, -⟩, ⟨c2, c3, -⟩, -⟩, -⟩ := P7.out
  clear x
  go_wp2_with fail
  clear c0 c1 c2 c3
  refine (K2.out _).mono ?_
  rintro e w8 ⟨rfl, x⟩
  have P8 := Lib.hid (P7.out.up x)
  clear x
  go_upto_region 7 with fail
  have C1 : Hid (∀ W, HZ w W a p b q s1 s2 B C → Calls Tryd.prog 22 #[.agg #[.int .i64 a, .int .i64 p]] W fun e w' => e = .returned (.int .i64 ch) ∧ HZ w w' a p b q s1 s2 B C) := Lib.hid (fun W h => by rw [HCH.out]; exact (check_any a p W).mono fun _ _ z => ⟨z.1, h.up z.2⟩)
  have C2 : Hid (∀ W, HZ w W a p b q s1 s2 B C → Calls Tryd.prog 23 #[.agg #[.int .i64 a, .int .i64 p]] W fun e w' => e = .returned (.int .i64 ch) ∧ HZ w w' a p b q s1 s2 B C) := Lib.hid (fun W h => by rw [HCH.out]; exact (rcheck_any a p W).mono fun _ _ z => ⟨z.1, h.up z.2⟩)
  have O1 : Hid (∀ W, HZ w W a p b q s1 s2 B C → Calls Tryd.prog 11 #[.int .i64 n] W fun e w' => e = .returned (.agg #[.int .i64 n, .int .i64 0]) ∧ HZ w w' a p b q s1 s2 B C) := Lib.hid (fun W h => (of_any n W).mono fun _ _ z => ⟨z.1, h.up z.2⟩)
  have O2 : Hid (∀ W, HZ w W a p b q s1 s2 B C → Calls Tryd.prog 24 #[.int .i64 n] W fun e w' => e = .returned (.agg #[.int .i64 n, .int .i64 0]) ∧ HZ w w' a p b q s1 s2 B C) := Lib.hid (fun W h => (rof_any n W).mono fun _ _ z => ⟨z.1, h.up z.2⟩)
  have hSS : HZ w w8.drew a p b q s1 s2 B C := P8.out.up ((Below.refl _ _).drew)
  unfold HZ TwoM MBox at hSS
  go_region_held3 (fun w' => ((w'.cell? ⟨w.heap.size, 0, none⟩ = some (.int .i64 a) ∧ w'.cell? ⟨w.heap.size, 1, none⟩ = some (.int .i64 p) ∧ w.heap.size < w'.heap.size) ∧ (w'.cell? ⟨w.heap.size + 1, 0, none⟩ = some (.int .i64 b) ∧ w'.cell? ⟨w.heap.size + 1, 1, none⟩ = some (.int .i64 q) ∧ w.heap.size + 1 < w'.heap.size) ∧ Below w.heap.size w w') ∧ (w'.cell? ⟨B, 0, none⟩ = some (.int .i64 s1) ∧ w'.cell? ⟨B, 1, none⟩ = some (.int .i64 s2) ∧ B < w'.heap.size) ∧ (w'.cell? ⟨C, 0, none⟩ = some (.int .i64 s1) ∧ w'.cell? ⟨C, 1, none⟩ = some (.int .i64 s2) ∧ C < w'.heap.size))
    ((first | exact hSS | assumption))
    (first | (go_at_call 22; refine (C1.out _ (by assumption)).mono ?_; rintro e w' ⟨rfl, hS2⟩; unfold HZ TwoM MBox at hS2)
           | (go_at_call 23; refine (C2.out _ (by assumption)).mono ?_; rintro e w' ⟨rfl, hS2⟩; unfold HZ TwoM MBox at hS2)
           | (go_at_call 11; refine (O1.out _ (by assumption)).mono ?_; rintro e w' ⟨rfl, hS2⟩; unfold HZ TwoM MBox at hS2)
           | (go_at_call 24; refine (O2.out _ (by assumption)).mono ?_; rintro e w' ⟨rfl, hS2⟩; unfold HZ TwoM MBox at hS2))
  all_goals
    go_wp2_with fail
    go_ret
    exact ⟨rfl, hS2.1.2.2⟩
end Go.Proofs.YtiikohbnfbpjeaaDoor
