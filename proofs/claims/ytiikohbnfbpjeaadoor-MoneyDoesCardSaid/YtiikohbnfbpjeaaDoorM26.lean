import Derived.Test.YtiikohbnfbpjeaaDoorM25
import Derived.Test.YtiikohbnfbpjeaaDoorM16
import Derived.Test.YtiikohbnfbpjeaaDoorM19
import Derived.Deep.WholeRow
namespace Go.Proofs.YtiikohbnfbpjeaaDoor
open Go.RowKit
set_option maxRecDepth 20000 in
theorem rmay_any (m p : Int) (w : World) : Calls Tryd.prog 40 #[.agg #[.int .i64 m, .int .i64 p]] w fun e w' => e = .returned (.bool (may m p)) ∧ Below w.heap.size w w' := by
  have HB : Hid (Below w.heap.size w (w.alloc (.cells #[.int .i64 m, .int .i64 p] 26))) := Lib.hid ((Below.refl _ w).alloc (Nat.le_refl _) _)
  by_cases h1 : p < 0
  · have hr := Lib.hid (show may m p = false by unfold may; simp; omega)
    go_enter Tryd.func40, Tryd.ntmps40
    go_wp2_with fail
    go_ret
    exact ⟨rbool hr.out.symm, HB.out⟩
  by_cases h2 : 18 < p
  · have hr := Lib.hid (show may m p = false by unfold may; simp; omega)
    have k1 : decide (0 ≤ p) = true := decide_eq_true (by omega)
    have k2 : decide (p ≤ 18) = false := decide_eq_false (by omega)
    go_enter Tryd.func40, Tryd.ntmps40
    go_wp2_with fail
    go_ret
    exact ⟨rbool hr.out.symm, HB.out⟩
  have k1 : decide (0 ≤ p) = true := decide_eq_true (by omega)
  have k2 : decide (p ≤ 18) = true := decide_eq_true (by omega)
  by_cases h3 : p = 0
  · have hr := Lib.hid (show may m p = true by unfold may; simp; omega)
    have k3 : (p == 0) = true := by simp [h3]
    clear h3
    go_enter Tryd.func40, Tryd.ntmps40
    go_wp2_with fail
    go_ret
    exact ⟨rbool hr.out.symm, HB.out⟩
  · have k3 : (p == 0) = false := beq_eq_false_iff_ne.2 h3
    obtain ⟨r, hrr⟩ : ∃ r, r = m.tmod 10 := ⟨_, rfl⟩
    have hmr : m.tmod 10 = r := hrr.symm
    by_cases h4 : r = 0
    · have hr := Lib.hid (show may m p = false by unfold may; rw [hmr, h4]; simp; omega)
      have k4 : (r == 0) = true := by simp [h4]
      have k5 : (r != 0) = false := by simp [h4]
      clear h4 hrr h3
      go_enter Tryd.func40, Tryd.ntmps40
      go_wp2_with fail
      go_ret
      exact ⟨rbool hr.out.symm, HB.out⟩
    · have hr := Lib.hid (show may m p = true by unfold may; rw [hmr]; simp; omega)
      have k4 : (r == 0) = false := beq_eq_false_iff_ne.2 h4
      have k5 : (r != 0) = true := by simp [h4]
      clear h4 hrr h3
      go_enter Tryd.func40, Tryd.ntmps40
      go_wp2_with fail
      go_ret
      exact ⟨rbool hr.out.symm, HB.out⟩
set_option maxRecDepth 20000 in
theorem rcheck_any (m p : Int) (w : World) : Calls Tryd.prog 23 #[.agg #[.int .i64 m, .int .i64 p]] w fun e w' => e = .returned (.int .i64 (chM m p)) ∧ Below w.heap.size w w' := by
  have K := Lib.hid (fun W => rmay_any m p W)
  have B0 := Lib.hid ((Below.refl _ w).alloc (Nat.le_refl _) (.cells #[.int .i64 m, .int .i64 p] 26))
  unfold chM
  cases h : may m p with
  | false =>
    rw [h] at K
    clear h
    go_enter Tryd.func23, Tryd.ntmps23
    go_wp2_with fail
    refine (K.out _).mono ?_
    rintro e w1 ⟨rfl, q⟩
    have B1 := Lib.hid (B0.out.trans (q.mono B0.out.size))
    clear q
    go_wp2_with fail
    go_ret
    exact ⟨rfl, B1.out⟩
  | true =>
    rw [h] at K
    clear h
    go_enter Tryd.func23, Tryd.ntmps23
    go_wp2_with fail
    refine (K.out _).mono ?_
    rintro e w1 ⟨rfl, q⟩
    have B1 := Lib.hid (B0.out.trans (q.mono B0.out.size))
    clear q
    go_wp2_with fail
    go_ret
    exact ⟨rfl, B1.out⟩
theorem rof_any (n : Int) (w : World) : Calls Tryd.prog 24 #[.int .i64 n] w fun e w' => e = .returned (.agg #[.int .i64 n, .int .i64 0]) ∧ Below w.heap.size w w' := by
  go_enter Tryd.func24, Tryd.ntmps24
  go_wp2_with fail
  refine ret_m (N := w.heap.size) (a := n) (b := 0) Tryd.results24 (by rfl) (World.cell?_alloc_mark w _ 26 _ 0) (World.cell?_alloc_mark w _ 26 _ 1) ⟨rfl, (Below.refl _ w).alloc (Nat.le_refl _) _⟩
theorem arrC_size (f : Nat → Int) : (arrC f).size = 40 := arrL_size f
theorem store_new (w : World) (f : Nat → Int) :
    (storeCells ⟨w.heap.size, 0, none⟩ (arrC f).toList 0).run Tryd.prog (w.alloc (.cells #[.int .i64 0, .int .i64 0, .int .i64 0, .int .i64 0, .int .i64 0, .int .i64 0, .int .i64 0, .int .i64 0, .int .i64 0, .int .i64 0, .int .i64 0, .int .i64 0, .int .i64 0, .int .i64 0, .int .i64 0, .int .i64 0, .int .i64 0, .int .i64 0, .int .i64 0, .int .i64 0, .int .i64 0, .int .i64 0, .int .i64 0, .int .i64 0, .int .i64 0, .int .i64 0, .int .i64 0, .int .i64 0, .int .i64 0, .int .i64 0, .int .i64 0, .int .i64 0, .int .i64 0, .int .i64 0, .int .i64 0, .int .i64 0, .int .i64 0, .int .i64 0, .int .i64 0, .int .i64 0] 81)) = .ok () (w.alloc (.cells (arrC f) 81)) := by
  refine run_storeCells_new (P := Tryd.prog) w 81 _ (arrC f) ?_ ?_ ?_
  · rw [arrC_size]; exact s81
  · rw [arrC_size]; rfl
  · exact all_oneCell_toArray (arrL_one f)
theorem row_in (m p : Int) (h1 : -9223372036854775808 ≤ m) (h2 : m < 9223372036854775808) : (vM m p).natAbs < 10 ^ 40 := Nat.lt_of_le_of_lt (vM_bound h1 (by omega)) (by decide)
theorem vM_neg_iff (m p : Int) : vM m p < 0 ↔ m < 0 := by
  unfold vM
  have : (0 : Int) < 10 ^ (18 - p.toNat) := Int.pow_pos (by decide)
  constructor
  · intro h
    apply Classical.byContradiction
    intro q
    have := Int.mul_nonneg (show 0 ≤ m by omega) (Int.le_of_lt this)
    omega
  · intro h
    exact Int.mul_neg_of_neg_of_pos h this
set_option maxRecDepth 20000 in
set_option maxHeartbeats 4000000 in
theorem order_any (m p n q : Int) (w : World) (h : may m p = true) (g : may n q = true) (a1 : -9223372036854775808 ≤ m) (a2 : m < 9223372036854775808) (b1 : -9223372036854775808 ≤ n) (b2 : n < 9223372036854775808) :
    Calls Tryd.prog 47 #[.agg #[.int .i64 m, .int .i64 p], .agg #[.int .i64 n, .int .i64 q]] w fun e w' => e = .returned (.int .i64 (cmpI (vM m p) (vM n q))) ∧ Below w.heap.size w w' := by
  have R1 := Lib.hid (fun W => row_any m p W h a1 a2)
  have R2 := Lib.hid (fun W => row_any n q W g b1 b2)
  have LE := Lib.hid (fun W => less_any (vM m p).natAbs (vM n q).natAbs W (row_in m p a1 a2) (row_in n q b1 b2))
  have HS1 := Lib.hid (vM_neg_iff m p)
  have HS2 := Lib.hid (vM_neg_iff n q)
  have HEQ : Hid (vM m p = vM n q → m = n ∧ p = q) := Lib.hid (vM_inj h g)
  obtain ⟨x, hx⟩ : ∃ x, x = vM m p := ⟨_, rfl⟩
  obtain ⟨y, hy⟩ : ∃ x, x = vM n q := ⟨_, rfl⟩
  rw [← hx] at R1 LE HS1 HEQ ⊢
  rw [← hy] at R2 LE HS2 HEQ ⊢
  obtain ⟨z, hz⟩ : ∃ z, z = cmpI x y := ⟨_, rfl⟩
  have HZ := Lib.hid hz
  rw [← hz]
  have HX := Lib.hid hx
  have HY := Lib.hid hy
  obtain ⟨F, hF⟩ : ∃ F : Nat → Int, F = fun i => ((D10 x.natAbs i : Nat) : Int) := ⟨_, rfl⟩
  obtain ⟨G, hG⟩ : ∃ F : Nat → Int, F = fun i => ((D10 y.natAbs i : Nat) : Int) := ⟨_, rfl⟩
  rw [show rowV x.natAbs = arrV F by rw [hF]; rfl] at R1 LE
  rw [show rowV y.natAbs = arrV G by rw [hG]; rfl] at R2 LE
  unfold arrV at R1 R2 LE
  have hst := store_new
  have sF := arrC_size F
  have sG := arrC_size G
  obtain ⟨l, hl⟩ : ∃ l, l = decide (x.natAbs < y.natAbs) := ⟨_, rfl⟩
  rw [← hl] at LE
  have HL := Lib.hid hl
  have P0 := Lib.hid (TwoM.new w m p n q)
  clear h g a1 a2 b1 b2 hx hy hz hF hG hl
  go_enter Tryd.func47, Tryd.ntmps47
  go_wp2_with fail
  refine (R1.out _).mono ?_
  rintro e w1 ⟨rfl, b⟩
  have P1 := Lib.hid ((P0.out.up b).up ((Below.refl _ w1).alloc (Nat.le_refl _) (.cells (arrC F) 81)))
  have F1 := Lib.hid (Arr.new w1 F)
  clear b
  go_upto_region 2 with fail
  obtain ⟨w2, hw2⟩ : ∃ w2, w2 = w1.alloc (.cells (arrC F) 81) := ⟨_, rfl⟩
  obtain ⟨B5, hB5⟩ : ∃ B, B = w1.heap.size := ⟨_, rfl⟩
  rw [← hw2] at P1 F1 ⊢
  rw [← hB5] at F1 ⊢
  clear hw2 hB5
  obtain ⟨⟨c0, c1, -⟩, ⟨c2, c3, -⟩, -⟩ := P1.out
  go_wp2_with fail
  clear c0 c1 c2 c3
  refine (R2.out _).mono ?_
  rintro e w3 ⟨rfl, b⟩
  have P4 := Lib.hid (And.intro ((P1.out.up b).up ((Below.refl _ w3).alloc (Nat.le_refl _) (.cells (arrC G) 81))) (And.intro ((F1.out.up b).up ((Below.refl _ w3).alloc (Nat.le_refl _) (.cells (arrC G) 81))) (Arr.new w3 G)))
  clear b P1 F1
  go_upto_region 3 with fail
  obtain ⟨w4, hw4⟩ : ∃ w4, w4 = w3.alloc (.cells (arrC G) 81) := ⟨_, rfl⟩
  obtain ⟨B7, hB7⟩ : ∃ B, B = w3.heap.size := ⟨_, rfl⟩
  rw [← hw4, ← hB7] at P4 ⊢
  clear hw4 hB7
  obtain ⟨⟨⟨c0, c1, -⟩, ⟨c2, c3, -⟩, -⟩, -, -⟩ := P4.out
  by_cases he : m = n ∧ p = q
  · obtain ⟨rfl, rfl⟩ := he
    have HZ0 : Hid (z = 0) := Lib.hid (by rw [HZ.out, cmpI_zero, HX.out, HY.out])
    go_wp2_with fail
    go_ret
    exact ⟨rint HZ0.out.symm, P4.out.1.2.2⟩
  · have hxy : ¬ (x = y) := fun q => he (HEQ.out q)
    have HXY := Lib.hid hxy
    have HE := Lib.hid he
    clear he hxy
    go_cut [21] (fun v wx => v = .bool false ∧ wx = w4)
    case first =>
      by_cases h1 : m = n
      · have gp : (p == q) = false := beq_eq_false_iff_ne.2 (fun h2 => HE.out ⟨h1, h2⟩)
        subst h1
        go_wp2_with fail
        go_meet
        exact ⟨rfl, rfl⟩
      · have gm : (m == n) = false := beq_eq_false_iff_ne.2 h1
        clear h1
        go_wp2_with fail
        go_meet
        exact ⟨rfl, rfl⟩
    obtain ⟨rfl, rfl⟩ := hcut
    clear c0 c1 c2 c3
    by_cases s1 : m < 0
    · by_cases s2 : n < 0
      · cases l with
        | true =>
          have HZ0 : Hid (z = 1) := Lib.hid (by
            have := HS1.out; have := HS2.out; have := HXY.out
            have hl := of_decide_eq_true HL.out.symm
            rw [HZ.out]; unfold cmpI; rw [if_neg (by omega), if_neg (by omega)])
          go_upto_region 9 with fail
          refine wp_region_lit ?_
          refine wpList_load_mid rfl 81 (.tmp 5) rfl B5 0 rfl (arrL F) _ P4.out.2.1.range t81 rfl (by rw [arrL_length]; exact s81) ?_
          refine wpList_load_mid rfl 81 (.tmp 7) rfl B7 0 rfl (arrL G) _ P4.out.2.2.range t81 rfl (by rw [arrL_length]; exact s81) ?_
          go_wp2_with fail
          refine (LE.out _).mono ?_
          rintro e w5 ⟨rfl, b⟩
          have P5 := Lib.hid (P4.out.1.up b)
          clear b
          go_wp2_with fail
          go_ret
          exact ⟨rint HZ0.out.symm, P5.out.2.2⟩
        | false =>
          have HZ0 : Hid (z = -1) := Lib.hid (by
            have := HS1.out; have := HS2.out; have := HXY.out
            have hl := of_decide_eq_false HL.out.symm
            rw [HZ.out]; unfold cmpI; rw [if_neg (by omega), if_pos (by omega)])
          go_upto_region 9 with fail
          refine wp_region_lit ?_
          refine wpList_load_mid rfl 81 (.tmp 5) rfl B5 0 rfl (arrL F) _ P4.out.2.1.range t81 rfl (by rw [arrL_length]; exact s81) ?_
          refine wpList_load_mid rfl 81 (.tmp 7) rfl B7 0 rfl (arrL G) _ P4.out.2.2.range t81 rfl (by rw [arrL_length]; exact s81) ?_
          go_wp2_with fail
          refine (LE.out _).mono ?_
          rintro e w5 ⟨rfl, b⟩
          have P5 := Lib.hid (P4.out.1.up b)
          clear b
          go_wp2_with fail
          go_ret
          exact ⟨rint HZ0.out.symm, P5.out.2.2⟩
      · have HZ0 : Hid (z = -1) := Lib.hid (by
          have := HS1.out; have := HS2.out; have := HXY.out
          rw [HZ.out]; unfold cmpI; rw [if_neg (by omega), if_pos (by omega)])
        go_wp2_with fail
        go_ret
        exact ⟨rint HZ0.out.symm, P4.out.1.2.2⟩
    · by_cases s2 : n < 0
      · have HZ0 : Hid (z = 1) := Lib.hid (by
          have := HS1.out; have := HS2.out; have := HXY.out
          rw [HZ.out]; unfold cmpI; rw [if_neg (by omega), if_neg (by omega)])
        go_wp2_with fail
        go_ret
        exact ⟨rint HZ0.out.symm, P4.out.1.2.2⟩
      · cases l with
        | true =>
          have HZ0 : Hid (z = -1) := Lib.hid (by
            have := HS1.out; have := HS2.out; have := HXY.out
            have hl := of_decide_eq_true HL.out.symm
            rw [HZ.out]; unfold cmpI; rw [if_neg (by omega), if_pos (by omega)])
          go_upto_region 9 with fail
          refine wp_region_lit ?_
          refine wpList_load_mid rfl 81 (.tmp 5) rfl B5 0 rfl (arrL F) _ P4.out.2.1.range t81 rfl (by rw [arrL_length]; exact s81) ?_
          refine wpList_load_mid rfl 81 (.tmp 7) rfl B7 0 rfl (arrL G) _ P4.out.2.2.range t81 rfl (by rw [arrL_length]; exact s81) ?_
          go_wp2_with fail
          refine (LE.out _).mono ?_
          rintro e w5 ⟨rfl, b⟩
          have P5 := Lib.hid (P4.out.1.up b)
          clear b
          go_wp2_with fail
          go_ret
          exact ⟨rint HZ0.out.symm, P5.out.2.2⟩
        | false =>
          have HZ0 : Hid (z = 1) := Lib.hid (by
            have := HS1.out; have := HS2.out; have := HXY.out
            have hl := of_decide_eq_false HL.out.symm
            rw [HZ.out]; unfold cmpI; rw [if_neg (by omega), if_neg (by omega)])
          go_upto_region 9 with fail
          refine wp_region_lit ?_
          refine wpList_load_mid rfl 81 (.tmp 5) rfl B5 0 rfl (arrL F) _ P4.out.2.1.range t81 rfl (by rw [arrL_length]; exact s81) ?_
          refine wpList_load_mid rfl 81 (.tmp 7) rfl B7 0 rfl (arrL G) _ P4.out.2.2.range t81 rfl (by rw [arrL_length]; exact s81) ?_
          go_wp2_with fail
          refine (LE.out _).mono ?_
          rintro e w5 ⟨rfl, b⟩
          have P5 := Lib.hid (P4.out.1.up b)
          clear b
          go_wp2_with fail
          go_ret
          exact ⟨rint HZ0.out.symm, P5.out.2.2⟩
end Go.Proofs.YtiikohbnfbpjeaaDoor
