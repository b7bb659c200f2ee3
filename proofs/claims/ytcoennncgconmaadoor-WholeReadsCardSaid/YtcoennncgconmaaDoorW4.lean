import Derived.Test.YtcoennncgconmaaDoorW3
namespace Go.Proofs.YtcoennncgconmaaDoor
open Go.RowKit

/-! ### The document's own answers of layer 2 -/
theorem fits_iff {z : Int} {p : Prop} [Decidable p] (h : p ↔ (-9223372036854775808 ≤ z ∧ z ≤ 9223372036854775807)) : decide p = fits z := by
  unfold fits; simp only [h]

theorem adds_pos (a b : Int) (w : World) (ha : -9223372036854775808 ≤ a) (ha' : a ≤ 9223372036854775807) (hb : 0 ≤ b) (hb' : b ≤ 9223372036854775807) :
    Calls Tryd.prog 31 #[.int .i64 a, .int .i64 b] w fun e w' => e = .returned (.bool (fits (a + b))) ∧ w = w' := by
  go_enter Tryd.func31, Tryd.ntmps31
  go_wp2_with fail
  go_ret
  exact ⟨ret_bool (fits_iff (by omega)), rfl⟩
theorem adds_neg (a b : Int) (w : World) (ha : -9223372036854775808 ≤ a) (ha' : a ≤ 9223372036854775807) (hb : -9223372036854775808 ≤ b) (hb' : b < 0) :
    Calls Tryd.prog 31 #[.int .i64 a, .int .i64 b] w fun e w' => e = .returned (.bool (fits (a + b))) ∧ w = w' := by
  go_enter Tryd.func31, Tryd.ntmps31
  go_wp2_with fail
  go_ret
  exact ⟨ret_bool (fits_iff (by omega)), rfl⟩
theorem adds_any (a b : Int) (w : World) (ha : -9223372036854775808 ≤ a) (ha' : a ≤ 9223372036854775807) (hb : -9223372036854775808 ≤ b) (hb' : b ≤ 9223372036854775807) :
    Calls Tryd.prog 31 #[.int .i64 a, .int .i64 b] w fun e w' => e = .returned (.bool (fits (a + b))) ∧ w = w' := by
  by_cases h : 0 ≤ b
  · exact adds_pos a b w ha ha' h hb'
  · exact adds_neg a b w ha ha' hb (by omega)

theorem radd_any (a b : Int) (w : World) (ha : -9223372036854775808 ≤ a) (ha' : a ≤ 9223372036854775807) (hb : -9223372036854775808 ≤ b) (hb' : b ≤ 9223372036854775807) :
    Calls Tryd.prog 16 #[.int .i64 a, .int .i64 b] w fun e w' => e = .returned (.tuple #[.int .i64 (val (a + b)), .int .i64 (err (a + b))]) ∧ w = w' := by
  by_cases h : -9223372036854775808 ≤ a + b ∧ a + b ≤ 9223372036854775807
  · have h0 := h.1
    have h1 := h.2
    have hf := Lib.hid (fits_yes h0 h1)
    clear h
    go_enter Tryd.func16, Tryd.ntmps16
    go_wp2_with fail
    refine (adds_any a b _ ha ha' hb hb').mono ?_
    rintro e w' ⟨rfl, rfl⟩
    rw [hf.out]
    go_wp2_with fail
    go_ret2
    exact ⟨ret2 (val_yes h0 h1).symm (err_yes h0 h1).symm, rfl⟩
  · have h' : a + b < -9223372036854775808 ∨ 9223372036854775807 < a + b := by omega
    have hf := Lib.hid (fits_no h')
    clear h
    go_enter Tryd.func16, Tryd.ntmps16
    go_wp2_with fail
    refine (adds_any a b _ ha ha' hb hb').mono ?_
    rintro e w' ⟨rfl, rfl⟩
    rw [hf.out]
    go_wp2_with fail
    go_ret2
    exact ⟨ret2 (val_no h').symm (err_no h').symm, rfl⟩

theorem rsub_any (a b : Int) (w : World) (ha : -9223372036854775808 ≤ a) (ha' : a ≤ 9223372036854775807) (hb : -9223372036854775808 ≤ b) (hb' : b ≤ 9223372036854775807) :
    Calls Tryd.prog 18 #[.int .i64 a, .int .i64 b] w fun e w' => e = .returned (.tuple #[.int .i64 (val (a - b)), .int .i64 (err (a - b))]) ∧ w = w' := by
  by_cases hp : 0 < b
  · by_cases h : -9223372036854775808 ≤ a - b
    · go_enter Tryd.func18, Tryd.ntmps18
      go_wp2_with fail
      go_ret2
      exact ⟨ret2 (val_yes (by omega) (by omega)).symm (err_yes (by omega) (by omega)).symm, rfl⟩
    · go_enter Tryd.func18, Tryd.ntmps18
      go_wp2_with fail
      go_ret2
      exact ⟨ret2 (val_no (by omega)).symm (err_no (by omega)).symm, rfl⟩
  · by_cases hn : b < 0
    · by_cases h : a - b ≤ 9223372036854775807
      · go_enter Tryd.func18, Tryd.ntmps18
        go_wp2_with fail
        go_ret2
        exact ⟨ret2 (val_yes (by omega) (by omega)).symm (err_yes (by omega) (by omega)).symm, rfl⟩
      · go_enter Tryd.func18, Tryd.ntmps18
        go_wp2_with fail
        go_ret2
        exact ⟨ret2 (val_no (by omega)).symm (err_no (by omega)).symm, rfl⟩
    · go_enter Tryd.func18, Tryd.ntmps18
      go_wp2_with fail
      go_ret2
      exact ⟨ret2 (val_yes (by omega) (by omega)).symm (err_yes (by omega) (by omega)).symm, rfl⟩

theorem rneg_any (a : Int) (w : World) (ha : -9223372036854775808 ≤ a) (ha' : a ≤ 9223372036854775807) :
    Calls Tryd.prog 20 #[.int .i64 a] w fun e w' => e = .returned (.tuple #[.int .i64 (val (-a)), .int .i64 (err (-a))]) ∧ w = w' := by
  go_enter Tryd.func20, Tryd.ntmps20
  go_wp2_with fail
  refine (rsub_any 0 a _ (by omega) (by omega) ha ha').mono ?_
  rintro e w' ⟨rfl, rfl⟩
  go_wp2_with fail
  go_ret2
  exact ⟨rfl, rfl⟩

theorem muls_pp (a b : Int) (w : World) (ha : 0 < a) (ha' : a ≤ 9223372036854775807) (hb : 0 < b) (hb' : b ≤ 9223372036854775807) :
    Calls Tryd.prog 32 #[.int .i64 a, .int .i64 b] w fun e w' => e = .returned (.bool (fits (a * b))) ∧ w = w' := by
  have hk : a ≤ 9223372036854775807 / b ↔ a * b ≤ 9223372036854775807 := Int.le_ediv_iff_mul_le hb
  have hpos : 0 < a * b := Int.mul_pos ha hb
  have HK := Lib.hid hk
  have HP := Lib.hid hpos
  clear hk hpos
  have z1 : (a == 0) = false := by simp; omega
  have z2 : (b == 0) = false := by simp; omega
  go_enter Tryd.func32, Tryd.ntmps32
  go_wp2_with fail
  go_ret
  exact ⟨ret_bool (fits_iff (by rw [HK.out]; have := HP.out; omega)), rfl⟩
theorem muls_zero (a b : Int) (w : World) (h : a = 0 ∨ b = 0) :
    Calls Tryd.prog 32 #[.int .i64 a, .int .i64 b] w fun e w' => e = .returned (.bool (fits (a * b))) ∧ w = w' := by
  have hz : fits (a * b) = true := by rcases h with rfl | rfl <;> simp <;> decide
  rw [hz]; clear hz
  rcases h with rfl | rfl
  · go_enter Tryd.func32, Tryd.ntmps32
    go_wp2_with fail
    go_ret
    exact ⟨rfl, rfl⟩
  · by_cases ha : a = 0
    · subst ha
      go_enter Tryd.func32, Tryd.ntmps32
      go_wp2_with fail
      go_ret
      exact ⟨rfl, rfl⟩
    · go_enter Tryd.func32, Tryd.ntmps32
      go_wp2_with fail
      go_ret
      exact ⟨rfl, rfl⟩
theorem pn_close (a b z : Int) (ha : 0 < a) (hk : -b ≤ 9223372036854775808 / a ↔ -z ≤ 9223372036854775808) (hz : 0 < -z) :
    decide (wrap64 (-Int.tdiv 9223372036854775808 a) ≤ b) = fits z := by
  rw [Int.tdiv_eq_ediv_of_nonneg (by omega)]
  have q0 : 0 ≤ 9223372036854775808 / a := Int.ediv_nonneg (by omega) (by omega)
  have q1 : 9223372036854775808 / a ≤ 9223372036854775808 := Int.ediv_le_self _ (by omega)
  generalize 9223372036854775808 / a = q at *
  rw [IntWalk.wrap64_in _ (by omega)]
  exact fits_iff (by omega)
theorem nn_close (a b z : Int) (ha : -9223372036854775808 < a) (hb : -9223372036854775808 < b) (hb' : b < 0) (hk : -a ≤ 9223372036854775807 / -b ↔ z ≤ 9223372036854775807) (hz : 0 < z) :
    (a != -9223372036854775808 && b != -9223372036854775808 && decide (-a ≤ wrap64 (-Int.tdiv 9223372036854775807 b))) = fits z := by
  have e : -Int.tdiv 9223372036854775807 b = 9223372036854775807 / -b := by
    rw [← Int.tdiv_neg, Int.tdiv_eq_ediv_of_nonneg (by omega)]
  have q0 : 0 ≤ 9223372036854775807 / -b := Int.ediv_nonneg (by omega) (by omega)
  have q1 : 9223372036854775807 / -b ≤ 9223372036854775807 := Int.ediv_le_self _ (by omega)
  rw [e]
  generalize 9223372036854775807 / -b = q at *
  rw [IntWalk.wrap64_in _ (by omega)]
  have n1 : (a != -9223372036854775808) = true := by simp; omega
  have n2 : (b != -9223372036854775808) = true := by simp; omega
  rw [n1, n2, Bool.true_and, Bool.true_and]
  exact fits_iff (by omega)
theorem muls_pn (a b : Int) (w : World) (ha : 0 < a) (ha' : a ≤ 9223372036854775807) (hb : -9223372036854775808 ≤ b) (hb' : b < 0) :
    Calls Tryd.prog 32 #[.int .i64 a, .int .i64 b] w fun e w' => e = .returned (.bool (fits (a * b))) ∧ w = w' := by
  have hk : -b ≤ 9223372036854775808 / a ↔ -b * a ≤ 9223372036854775808 := Int.le_ediv_iff_mul_le ha
  have hpos : 0 < -b * a := Int.mul_pos (by omega) ha
  have hm : -b * a = -(a * b) := by rw [Int.neg_mul, Int.mul_comm]
  rw [hm] at hk hpos
  have HK := Lib.hid hk
  have HP := Lib.hid hpos
  clear hk hpos hm
  have z1 : (a == 0) = false := by simp; omega
  have z2 : (b == 0) = false := by simp; omega
  go_enter Tryd.func32, Tryd.ntmps32
  go_wp2_with fail
  go_ret
  exact ⟨ret_bool (pn_close a b _ ha HK.out HP.out), rfl⟩
theorem muls_np (a b : Int) (w : World) (ha : -9223372036854775808 ≤ a) (ha' : a < 0) (hb : 0 < b) (hb' : b ≤ 9223372036854775807) :
    Calls Tryd.prog 32 #[.int .i64 a, .int .i64 b] w fun e w' => e = .returned (.bool (fits (a * b))) ∧ w = w' := by
  have hk : -a ≤ 9223372036854775808 / b ↔ -a * b ≤ 9223372036854775808 := Int.le_ediv_iff_mul_le hb
  have hpos : 0 < -a * b := Int.mul_pos (by omega) hb
  have hm : -a * b = -(a * b) := by rw [Int.neg_mul]
  rw [hm] at hk hpos
  have HK := Lib.hid hk
  have HP := Lib.hid hpos
  clear hk hpos hm
  have z1 : (a == 0) = false := by simp; omega
  have z2 : (b == 0) = false := by simp; omega
  go_enter Tryd.func32, Tryd.ntmps32
  go_wp2_with fail
  go_ret
  exact ⟨ret_bool (pn_close b a _ hb HK.out HP.out), rfl⟩
theorem muls_nn (a b : Int) (w : World) (ha : -9223372036854775808 < a) (ha' : a < 0) (hb : -9223372036854775808 < b) (hb' : b < 0) :
    Calls Tryd.prog 32 #[.int .i64 a, .int .i64 b] w fun e w' => e = .returned (.bool (fits (a * b))) ∧ w = w' := by
  have hk : -a ≤ 9223372036854775807 / -b ↔ -a * -b ≤ 9223372036854775807 := Int.le_ediv_iff_mul_le (by omega)
  have hpos : 0 < -a * -b := Int.mul_pos (by omega) (by omega)
  have hm : -a * -b = a * b := by rw [Int.neg_mul_neg]
  rw [hm] at hk hpos
  have HK := Lib.hid hk
  have HP := Lib.hid hpos
  clear hk hpos hm
  have z1 : (a == 0) = false := by simp; omega
  have z2 : (b == 0) = false := by simp; omega
  go_enter Tryd.func32, Tryd.ntmps32
  go_wp2_with fail
  go_ret
  exact ⟨ret_bool (nn_close a b _ ha hb hb' HK.out HP.out), rfl⟩
theorem least_no (a b : Int) (ha : a ≤ -9223372036854775808) (hb : b < 0) : fits (a * b) = false := by
  have h : 9223372036854775808 * 1 ≤ -a * -b := Int.mul_le_mul (by omega) (by omega) (by omega) (by omega)
  rw [Int.neg_mul_neg] at h
  exact fits_no (by omega)
theorem muls_least (a b : Int) (w : World) (ha : -9223372036854775808 ≤ a) (ha' : a < 0) (hb : -9223372036854775808 ≤ b) (hb' : b < 0) (h : a ≤ -9223372036854775808 ∨ b ≤ -9223372036854775808) :
    Calls Tryd.prog 32 #[.int .i64 a, .int .i64 b] w fun e w' => e = .returned (.bool (fits (a * b))) ∧ w = w' := by
  have hz : fits (a * b) = false := by
    rcases h with h | h
    · exact least_no a b h hb'
    · rw [Int.mul_comm]; exact least_no b a h ha'
  rw [hz]; clear hz
  have z1 : (a == 0) = false := by simp; omega
  have z2 : (b == 0) = false := by simp; omega
  by_cases hal : a ≤ -9223372036854775808
  · have z3 : (a != -9223372036854775808) = false := by simp; omega
    clear h
    go_enter Tryd.func32, Tryd.ntmps32
    go_wp2_with fail
    go_ret
    exact ⟨rfl, rfl⟩
  · have z3 : (a != -9223372036854775808) = true := by simp; omega
    have hb2 : b ≤ -9223372036854775808 := by omega
    have z4 : (b != -9223372036854775808) = false := by simp; omega
    clear h
    go_enter Tryd.func32, Tryd.ntmps32
    go_wp2_with fail
    go_ret
    exact ⟨rfl, rfl⟩
theorem muls_any (a b : Int) (w : World) (ha : -9223372036854775808 ≤ a) (ha' : a ≤ 9223372036854775807) (hb : -9223372036854775808 ≤ b) (hb' : b ≤ 9223372036854775807) :
    Calls Tryd.prog 32 #[.int .i64 a, .int .i64 b] w fun e w' => e = .returned (.bool (fits (a * b))) ∧ w = w' := by
  by_cases h0 : a = 0 ∨ b = 0
  · exact muls_zero a b w h0
  · by_cases h1 : 0 < a
    · by_cases h2 : 0 < b
      · exact muls_pp a b w h1 ha' h2 hb'
      · exact muls_pn a b w h1 ha' hb (by omega)
    · by_cases h2 : 0 < b
      · exact muls_np a b w ha (by omega) h2 hb'
      · by_cases h3 : a ≤ -9223372036854775808 ∨ b ≤ -9223372036854775808
        · exact muls_least a b w ha (by omega) hb (by omega) h3
        · exact muls_nn a b w (by omega) (by omega) (by omega) (by omega)
theorem rmul_any (a b : Int) (w : World) (ha : -9223372036854775808 ≤ a) (ha' : a ≤ 9223372036854775807) (hb : -9223372036854775808 ≤ b) (hb' : b ≤ 9223372036854775807) :
    Calls Tryd.prog 19 #[.int .i64 a, .int .i64 b] w fun e w' => e = .returned (.tuple #[.int .i64 (val (a * b)), .int .i64 (err (a * b))]) ∧ w = w' := by
  rcases fits_cases (a * b) with ⟨h0, h1, h2, h3⟩ | ⟨h0, h2, h3⟩
  · have hf := Lib.hid (fits_yes h0 h1)
    have H2 := Lib.hid h2
    have H3 := Lib.hid h3
    clear h2 h3
    go_enter Tryd.func19, Tryd.ntmps19
    go_wp2_with fail
    refine (muls_any a b _ ha ha' hb hb').mono ?_
    rintro e w' ⟨rfl, rfl⟩
    rw [hf.out]
    go_wp2_with fail
    go_ret2
    exact ⟨ret2 H2.out.symm H3.out.symm, rfl⟩
  · have hf := Lib.hid (fits_no h0)
    have H2 := Lib.hid h2
    have H3 := Lib.hid h3
    clear h2 h3
    go_enter Tryd.func19, Tryd.ntmps19
    go_wp2_with fail
    refine (muls_any a b _ ha ha' hb hb').mono ?_
    rintro e w' ⟨rfl, rfl⟩
    rw [hf.out]
    go_wp2_with fail
    go_ret2
    exact ⟨ret2 H2.out.symm H3.out.symm, rfl⟩

theorem does_walk (a b : Int) (w : World) (l : Lim w) (ha : -9223372036854775808 ≤ a) (ha' : a ≤ 9223372036854775807) (hb : -9223372036854775808 ≤ b) (hb' : b ≤ 9223372036854775807) :
    Calls Tryd.prog 4 #[.int .i64 a, .int .i64 b] w fun e w' => e = .returned (.bool true) ∧ w = w' := by
  go_enter Tryd.func4, Tryd.ntmps4
  go_wp2_with fail
  refine (add_any a b _ l ha ha' hb hb').mono ?_
  rintro e w' ⟨rfl, rfl⟩
  go_wp2_with fail
  refine (radd_any a b _ ha ha' hb hb').mono ?_
  rintro e w' ⟨rfl, rfl⟩
  go_wp2_with fail
  refine (sub_any a b _ l ha ha' hb hb').mono ?_
  rintro e w' ⟨rfl, rfl⟩
  go_wp2_with fail
  refine (rsub_any a b _ ha ha' hb hb').mono ?_
  rintro e w' ⟨rfl, rfl⟩
  go_wp2_with fail
  refine (mul_any a b _ l ha ha' hb hb').mono ?_
  rintro e w' ⟨rfl, rfl⟩
  go_wp2_with fail
  refine (rmul_any a b _ ha ha' hb hb').mono ?_
  rintro e w' ⟨rfl, rfl⟩
  go_wp2_with fail
  refine (neg_any a _ l ha ha').mono ?_
  rintro e w' ⟨rfl, rfl⟩
  go_wp2_with fail
  refine (rneg_any a _ ha ha').mono ?_
  rintro e w' ⟨rfl, rfl⟩
  go_wp2_with fail
  go_ret
  exact ⟨rfl, rfl⟩
end Go.Proofs.YtcoennncgconmaaDoor
