import Derived.Test.YtiikohbnfbpjeaaDoorMW
namespace Go.Proofs.YtiikohbnfbpjeaaDoor
open Go.RowKit
theorem fits_iff {z : Int} {p : Prop} [Decidable p] (h : p ↔ (-9223372036854775808 ≤ z ∧ z ≤ 9223372036854775807)) : decide p = fits z := by
  unfold fits; simp only [h]
theorem adds_pos (a b : Int) (w : World) (ha : -9223372036854775808 ≤ a) (ha' : a ≤ 9223372036854775807) (hb : 0 ≤ b) (hb' : b ≤ 9223372036854775807) :
    Calls Tryd.prog 46 #[.int .i64 a, .int .i64 b] w fun e w' => e = .returned (.bool (fits (a + b))) ∧ w = w' := by
  go_enter Tryd.func46, Tryd.ntmps46
  go_wp2_with fail
  go_ret
  exact ⟨ret_bool (fits_iff (by omega)), rfl⟩
theorem adds_neg (a b : Int) (w : World) (ha : -9223372036854775808 ≤ a) (ha' : a ≤ 9223372036854775807) (hb : -9223372036854775808 ≤ b) (hb' : b < 0) :
    Calls Tryd.prog 46 #[.int .i64 a, .int .i64 b] w fun e w' => e = .returned (.bool (fits (a + b))) ∧ w = w' := by
  go_enter Tryd.func46, Tryd.ntmps46
  go_wp2_with fail
  go_ret
  exact ⟨ret_bool (fits_iff (by omega)), rfl⟩
theorem adds_any (a b : Int) (w : World) (ha : -9223372036854775808 ≤ a) (ha' : a ≤ 9223372036854775807) (hb : -9223372036854775808 ≤ b) (hb' : b ≤ 9223372036854775807) :
    Calls Tryd.prog 46 #[.int .i64 a, .int .i64 b] w fun e w' => e = .returned (.bool (fits (a + b))) ∧ w = w' := by
  by_cases h : 0 ≤ b
  · exact adds_pos a b w ha ha' h hb'
  · exact adds_neg a b w ha ha' hb (by omega)
theorem muls_pp (a b : Int) (w : World) (ha : 0 < a) (ha' : a ≤ 9223372036854775807) (hb : 0 < b) (hb' : b ≤ 9223372036854775807) :
    Calls Tryd.prog 45 #[.int .i64 a, .int .i64 b] w fun e w' => e = .returned (.bool (fits (a * b))) ∧ w = w' := by
  have hk : a ≤ 9223372036854775807 / b ↔ a * b ≤ 9223372036854775807 := Int.le_ediv_iff_mul_le hb
  have hpos : 0 < a * b := Int.mul_pos ha hb
  have HK := Lib.hid hk
  have HP := Lib.hid hpos
  clear hk hpos
  have z1 : (a == 0) = false := by simp; omega
  have z2 : (b == 0) = false := by simp; omega
  go_enter Tryd.func45, Tryd.ntmps45
  go_wp2_with fail
  go_ret
  exact ⟨ret_bool (fits_iff (by rw [HK.out]; have := HP.out; omega)), rfl⟩
theorem muls_zero (a b : Int) (w : World) (h : a = 0 ∨ b = 0) :
    Calls Tryd.prog 45 #[.int .i64 a, .int .i64 b] w fun e w' => e = .returned (.bool (fits (a * b))) ∧ w = w' := by
  have hz : fits (a * b) = true := by rcases h with rfl | rfl <;> simp <;> decide
  rw [hz]; clear hz
  rcases h with rfl | rfl
  · go_enter Tryd.func45, Tryd.ntmps45
    go_wp2_with fail
    go_ret
    exact ⟨rfl, rfl⟩
  · by_cases ha : a = 0
    · subst ha
      go_enter Tryd.func45, Tryd.ntmps45
      go_wp2_with fail
      go_ret
      exact ⟨rfl, rfl⟩
    · go_enter Tryd.func45, Tryd.ntmps45
      go_wp2_with fail
      go_ret
      exact ⟨rfl, rfl⟩
theorem pn_close (a b z : Int) (ha : 0 < a) (hk : -b ≤ 9223372036854775808 / a ↔ -z ≤ 9223372036854775808) (hz : 0 < -z) :
    decide (wrap64 (-Int.tdiv 9223372036854775808 a) ≤ b) = fits z := by
  rw [Int.tdiv_eq_ediv_of_nonneg (by omega)]
  have q0 : 0 ≤ 9223372036854775808 / a := Int.ediv_nonneg (by omega) (by omega)
  have q1 : 9223372036854775808 / a ≤ 9223372036854775808 := Int.ediv_le_self _ (by omega)
  generalize 9223372036854775808 / a = q at *
  rw [IntWalk.wrap64_in _ (by omega)]
  exact fits_iff (by omega)
theorem nn_close (a b z : Int) (ha : -9223372036854775808 < a) (hb : -9223372036854775808 < b) (hb' : b < 0) (hk : -a ≤ 9223372036854775807 / -b ↔ z ≤ 9223372036854775807) (hz : 0 < z) :
    (a != -9223372036854775808 && b != -9223372036854775808 && decide (-a ≤ wrap64 (-Int.tdiv 9223372036854775807 b))) = fits z := by
  have e : -Int.tdiv 9223372036854775807 b = 9223372036854775807 / -b := by
    rw [← Int.tdiv_neg, Int.tdiv_eq_ediv_of_nonneg (by omega)]
  have q0 : 0 ≤ 9223372036854775807 / -b := Int.ediv_nonneg (by omega) (by omega)
  have q1 : 9223372036854775807 / -b ≤ 9223372036854775807 := Int.ediv_le_self _ (by omega)
  rw [e]
  generalize 9223372036854775807 / -b = q at *
  rw [IntWalk.wrap64_in _ (by omega)]
  have n1 : (a != -9223372036854775808) = true := by simp; omega
  have n2 : (b != -9223372036854775808) = true := by simp; omega
  rw [n1, n2, Bool.true_and, Bool.true_and]
  exact fits_iff (by omega)
theorem muls_pn (a b : Int) (w : World) (ha : 0 < a) (ha' : a ≤ 9223372036854775807) (hb : -9223372036854775808 ≤ b) (hb' : b < 0) :
    Calls Tryd.prog 45 #[.int .i64 a, .int .i64 b] w fun e w' => e = .returned (.bool (fits (a * b))) ∧ w = w' := by
  have hk : -b ≤ 9223372036854775808 / a ↔ -b * a ≤ 9223372036854775808 := Int.le_ediv_iff_mul_le ha
  have hpos : 0 < -b * a := Int.mul_pos (by omega) ha
  have hm : -b * a = -(a * b) := by rw [Int.neg_mul, Int.mul_comm]
  rw [hm] at hk hpos
  have HK := Lib.hid hk
  have HP := Lib.hid hpos
  clear hk hpos hm
  have z1 : (a == 0) = false := by simp; omega
  have z2 : (b == 0) = false := by simp; omega
  go_enter Tryd.func45, Tryd.ntmps45
  go_wp2_with fail
  go_ret
  exact ⟨ret_bool (pn_close a b _ ha HK.out HP.out), rfl⟩
theorem muls_np (a b : Int) (w : World) (ha : -9223372036854775808 ≤ a) (ha' : a < 0) (hb : 0 < b) (hb' : b ≤ 9223372036854775807) :
    Calls Tryd.prog 45 #[.int .i64 a, .int .i64 b] w fun e w' => e = .returned (.bool (fits (a * b))) ∧ w = w' := by
  have hk : -a ≤ 9223372036854775808 / b ↔ -a * b ≤ 9223372036854775808 := Int.le_ediv_iff_mul_le hb
  have hpos : 0 < -a * b := Int.mul_pos (by omega) hb
  have hm : -a * b = -(a * b) := by rw [Int.neg_mul]
  rw [hm] at hk hpos
  have HK := Lib.hid hk
  have HP := Lib.hid hpos
  clear hk hpos hm
  have z1 : (a == 0) = false := by simp; omega
  have z2 : (b == 0) = false := by simp; omega
  go_enter Tryd.func45, Tryd.ntmps45
  go_wp2_with fail
  go_ret
  exact ⟨ret_bool (pn_close b a _ hb HK.out HP.out), rfl⟩
theorem muls_nn (a b : Int) (w : World) (ha : -9223372036854775808 < a) (ha' : a < 0) (hb : -9223372036854775808 < b) (hb' : b < 0) :
    Calls Tryd.prog 45 #[.int .i64 a, .int .i64 b] w fun e w' => e = .returned (.bool (fits (a * b))) ∧ w = w' := by
  have hk : -a ≤ 9223372036854775807 / -b ↔ -a * -b ≤ 9223372036854775807 := Int.le_ediv_iff_mul_le (by omega)
  have hpos : 0 < -a * -b := Int.mul_pos (by omega) (by omega)
  have hm : -a * -b = a * b := by rw [Int.neg_mul_neg]
  rw [hm] at hk hpos
  have HK := Lib.hid hk
  have HP := Lib.hid hpos
  clear hk hpos hm
  have z1 : (a == 0) = false := by simp; omega
  have z2 : (b == 0) = false := by simp; omega
  go_enter Tryd.func45, Tryd.ntmps45
  go_wp2_with fail
  go_ret
  exact ⟨ret_bool (nn_close a b _ ha hb hb' HK.out HP.out), rfl⟩
theorem least_no (a b : Int) (ha : a ≤ -9223372036854775808) (hb : b < 0) : fits (a * b) = false := by
  have h : 9223372036854775808 * 1 ≤ -a * -b := Int.mul_le_mul (by omega) (by omega) (by omega) (by omega)
  rw [Int.neg_mul_neg] at h
  exact fits_no (by omega)
theorem muls_least (a b : Int) (w : World) (ha : -9223372036854775808 ≤ a) (ha' : a < 0) (hb : -9223372036854775808 ≤ b) (hb' : b < 0) (h : a ≤ -9223372036854775808 ∨ b ≤ -9223372036854775808) :
    Calls Tryd.prog 45 #[.int .i64 a, .int .i64 b] w fun e w' => e = .returned (.bool (fits (a * b))) ∧ w = w' := by
  have hz : fits (a * b) = false := by
    rcases h with h | h
    · exact least_no a b h hb'
    · rw [Int.mul_comm]; exact least_no b a h ha'
  rw [hz]; clear hz
  have z1 : (a == 0) = false := by simp; omega
  have z2 : (b == 0) = false := by simp; omega
  by_cases hal : a ≤ -9223372036854775808
  · have z3 : (a != -9223372036854775808) = false := by simp; omega
    clear h
    go_enter Tryd.func45, Tryd.ntmps45
    go_wp2_with fail
    go_ret
    exact ⟨rfl, rfl⟩
  · have z3 : (a != -9223372036854775808) = true := by simp; omega
    have hb2 : b ≤ -9223372036854775808 := by omega
    have z4 : (b != -9223372036854775808) = false := by simp; omega
    clear h
    go_enter Tryd.func45, Tryd.ntmps45
    go_wp2_with fail
    go_ret
    exact ⟨rfl, rfl⟩
theorem muls_any (a b : Int) (w : World) (ha : -9223372036854775808 ≤ a) (ha' : a ≤ 9223372036854775807) (hb : -9223372036854775808 ≤ b) (hb' : b ≤ 9223372036854775807) :
    Calls Tryd.prog 45 #[.int .i64 a, .int .i64 b] w fun e w' => e = .returned (.bool (fits (a * b))) ∧ w = w' := by
  by_cases h0 : a = 0 ∨ b = 0
  · exact muls_zero a b w h0
  · by_cases h1 : 0 < a
    · by_cases h2 : 0 < b
      · exact muls_pp a b w h1 ha' h2 hb'
      · exact muls_pn a b w h1 ha' hb (by omega)
    · by_cases h2 : 0 < b
      · exact muls_np a b w ha (by omega) h2 hb'
      · by_cases h3 : a ≤ -9223372036854775808 ∨ b ≤ -9223372036854775808
        · exact muls_least a b w ha (by omega) hb (by omega) h3
        · exact muls_nn a b w (by omega) (by omega) (by omega) (by omega)
theorem rdigits_any (s : ByteArray) (w : World) (hs : s.size ≤ maxLen) :
    Calls Tryd.prog 38 #[.string s] w fun e w' => e = .returned (.bool (allD s s.size && decide (0 < s.size))) ∧ w = w' := by
  unfold maxLen at hs
  go_enter Tryd.func38, Tryd.ntmps38
  go_wp2_with fail
  go_loopw [2, 3] (fun b i wr => ∃ k : Nat, k ≤ s.size ∧ i = .int .i64 k ∧ b = .bool false ∧ allD s k = true ∧ w = wr) (fun _ i _ => s.size - (intOf i).toNat)
  case atStart => exact ⟨0, by omega, rfl, rfl, rfl, rfl⟩
  case round =>
    obtain ⟨k, hk, rfl, rfl, ha, rfl⟩ := hrel
    by_cases hlt : k < s.size
    · have hbk := byt_eq s k hlt
      by_cases h1 : byt s k < 48
      · have hf : Hid (allD s s.size = false) := Lib.hid (by
          cases hh : allD s s.size
          · rfl
          · have := allD_byte s _ k hlt hh; omega)
        have ht1 : (s[k].toNat : Int) < 48 := by omega
        clear ha hbk h1
        go_wp2_with fail
        go_ret
        exact ⟨ret_bool (by rw [hf.out]; rfl), rfl⟩
      · by_cases h2 : 57 < byt s k
        · have hf : Hid (allD s s.size = false) := Lib.hid (by
            cases hh : allD s s.size
            · rfl
            · have := allD_byte s _ k hlt hh; omega)
          have ht1 : ¬ (s[k].toNat : Int) < 48 := by omega
          have ht2 : 57 < (s[k].toNat : Int) := by omega
          clear ha hbk h1 h2
          go_wp2_with fail
          go_ret
          exact ⟨ret_bool (by rw [hf.out]; rfl), rfl⟩
        · have hf : Hid (allD s (k + 1) = true) := Lib.hid (by simp only [allD, ha, Bool.true_and, decide_eq_true_eq]; omega)
          have ht1 : ¬ (s[k].toNat : Int) < 48 := by omega
          have ht2 : ¬ 57 < (s[k].toNat : Int) := by omega
          clear ha hbk h1 h2
          go_wp2_with fail
          go_roundw
          case rel => exact ⟨k + 1, by omega, by go_num, rfl, hf.out, trivial⟩
          case measure => simp [intOf]; omega
    · obtain rfl : k = s.size := by omega
      have HA := Lib.hid ha
      clear ha
      go_wp2_with fail
      go_ret
      exact ⟨ret_bool (by rw [HA.out]; simp), rfl⟩
theorem digit_slice : ∀ d : Nat, d < 10 → (⟨#[48, 49, 50, 51, 52, 53, 54, 55, 56, 57]⟩ : ByteArray).extract d (d + 1) = ⟨(Lib.itoa (d : Int)).toArray⟩ := by
  intro d hd
  have e : Lib.itoa (d : Int) = [UInt8.ofNat (48 + d)] := by
    rw [Lib.itoa_nonneg, Lib.decDigits_one hd]
  rw [e]
  match d, hd with
  | 0, _ => rfl
  | 1, _ => rfl
  | 2, _ => rfl
  | 3, _ => rfl
  | 4, _ => rfl
  | 5, _ => rfl
  | 6, _ => rfl
  | 7, _ => rfl
  | 8, _ => rfl
  | 9, _ => rfl
theorem cat_mk (a b : List UInt8) : (⟨a.toArray⟩ : ByteArray) ++ ⟨b.toArray⟩ = ⟨(a ++ b).toArray⟩ := by
  apply ByteArray.ext
  simp [ByteArray.data_append]
theorem itoa_pos (n : Int) (h : 10 ≤ n) : Lib.itoa n = Lib.itoa (n / 10) ++ Lib.itoa (n % 10) := by
  obtain ⟨u, rfl⟩ := Int.eq_ofNat_of_zero_le (by omega : 0 ≤ n)
  rw [show ((u : Int) / 10) = ((u / 10 : Nat) : Int) from by omega, show ((u : Int) % 10) = ((u % 10 : Nat) : Int) from by omega, Lib.itoa_nonneg, Lib.itoa_nonneg, Lib.itoa_nonneg, Lib.decDigits_one (by omega : u % 10 < 10)]
  rw [Lib.decDigits, dif_neg (by omega)]
theorem itoa_neg10 (n : Int) (h : n ≤ -10) : Lib.itoa n = Lib.itoa (n.tdiv 10) ++ Lib.itoa (-(n.tmod 10)) := by
  obtain ⟨u, rfl⟩ : ∃ u : Nat, n = -(u : Int) := ⟨n.natAbs, by omega⟩
  rw [Int.neg_tdiv, Int.neg_tmod, Int.neg_neg, Int.tdiv_eq_ediv_of_nonneg (by omega), Int.tmod_eq_emod_of_nonneg (by omega)]
  rw [show ((u : Int) / 10) = ((u / 10 : Nat) : Int) from by omega, show ((u : Int) % 10) = ((u % 10 : Nat) : Int) from by omega]
  rw [Lib.itoa_neg u (by omega), Lib.itoa_neg (u / 10) (by omega), Lib.itoa_nonneg, Lib.decDigits_one (by omega : u % 10 < 10)]
  rw [Lib.decDigits, dif_neg (by omega)]; rfl
theorem itoa_neg1 (n : Int) (h : n < 0) : Lib.itoa n = [45] ++ Lib.itoa (-n) := by
  obtain ⟨u, rfl⟩ : ∃ u : Nat, n = -(u : Int) := ⟨n.natAbs, by omega⟩
  rw [Int.neg_neg, Lib.itoa_neg u (by omega), Lib.itoa_nonneg]; rfl
theorem ret_str {a b : ByteArray} (h : a = b) : Ending.returned (.string a) = .returned (.string b) := by rw [h]
theorem rwrite_digit (n : Int) (w : World) (h0 : 0 ≤ n) (h1 : n < 10) :
    Calls Tryd.prog 69 #[.int .i64 n] w fun e w' => e = .returned (.string ⟨(Lib.itoa n).toArray⟩) ∧ Below w.heap.size w w' := by
  obtain ⟨d, rfl⟩ := Int.eq_ofNat_of_zero_le h0
  have hd := Lib.hid (digit_slice d (by omega))
  go_enter Tryd.func69, Tryd.ntmps69
  go_wp2_with fail
  go_ret
  exact ⟨ret_str hd.out, Below.refl _ _⟩
theorem tmod_neg (n : Int) (h : n < 0) : -10 < n.tmod 10 ∧ n.tmod 10 ≤ 0 := by
  have e : (-n).tmod 10 = -(n.tmod 10) := Int.neg_tmod n 10
  have h1 := Int.tmod_lt_of_pos (-n) (by omega : (0 : Int) < 10)
  have h2 := Int.tmod_nonneg 10 (by omega : 0 ≤ -n)
  omega
theorem rwrite_any (k : Nat) : ∀ (n : Int) (w : World), n.natAbs ≤ k → -9223372036854775808 ≤ n → n ≤ 9223372036854775807 →
    Calls Tryd.prog 69 #[.int .i64 n] w fun e w' => e = .returned (.string ⟨(Lib.itoa n).toArray⟩) ∧ Below w.heap.size w w' := by
  induction k with
  | zero =>
    intro n w hk _ _
    exact rwrite_digit n w (by omega) (by omega)
  | succ k ih =>
    intro n w hk hlo hhi
    by_cases hd : 0 ≤ n ∧ n < 10
    · exact rwrite_digit n w hd.1 hd.2
    by_cases hp : 10 ≤ n
    · have he := Lib.hid (itoa_pos n hp)
      have IH := Lib.hid ih
      have l1 := Lib.itoa_length_le (n / 10) (by omega) (by omega)
      have l2 := Lib.itoa_length_le (n % 10) (by omega) (by omega)
      clear ih hd
      go_enter Tryd.func69, Tryd.ntmps69
      go_wp2_with fail
      refine (IH.out (n / 10) _ (by omega) (by omega) (by omega)).mono ?_
      rintro e w1 ⟨rfl, b1⟩
      go_wp2_with fail
      refine (rwrite_digit (n % 10) _ (by omega) (by omega)).mono ?_
      rintro e w2 ⟨rfl, b2⟩
      go_wp2_with fail
      go_ret
      exact ⟨ret_str (by rw [cat_mk, he.out]), b1.trans (b2.mono b1.size)⟩
    by_cases hs : -10 < n
    · have hn : n < 0 := by omega
      have he := Lib.hid (itoa_neg1 n hn)
      have l1 := Lib.itoa_length_le (-n) (by omega) (by omega)
      clear ih hd hp
      go_enter Tryd.func69, Tryd.ntmps69
      go_wp2_with fail
      refine (rwrite_digit (-n) _ (by omega) (by omega)).mono ?_
      rintro e w1 ⟨rfl, b1⟩
      go_wp2_with fail
      go_ret
      exact ⟨ret_str (by rw [cat_mk [45], he.out]), b1⟩
    · have hn : n ≤ -10 := by omega
      have hm := tmod_neg n (by omega)
      have m0 := hm.1
      have m1 := hm.2
      have hsum := Int.mul_tdiv_add_tmod n 10
      have hq : (n.tdiv 10).natAbs ≤ k ∧ -9223372036854775808 ≤ n.tdiv 10 ∧ n.tdiv 10 ≤ 9223372036854775807 := by omega
      have q0 := hq.1
      have q1 := hq.2.1
      have q2 := hq.2.2
      have he := Lib.hid (itoa_neg10 n hn)
      have IH := Lib.hid ih
      have l1 := Lib.itoa_length_le (n.tdiv 10) q1 q2
      clear ih hd hp hs hm hq hsum
      by_cases hz : n.tmod 10 < 0
      · have l2 := Lib.itoa_length_le (-(n.tmod 10)) (by omega) (by omega)
        go_enter Tryd.func69, Tryd.ntmps69
        go_wp2_with fail
        refine (IH.out (n.tdiv 10) _ q0 q1 q2).mono ?_
        rintro e w1 ⟨rfl, b1⟩
        go_wp2_with fail
        refine (rwrite_digit (-(n.tmod 10)) _ (by omega) (by omega)).mono ?_
        rintro e w2 ⟨rfl, b2⟩
        go_wp2_with fail
        go_ret
        exact ⟨ret_str (by rw [cat_mk, he.out]), b1.trans (b2.mono b1.size)⟩
      · have hz0 : n.tmod 10 = 0 := by omega
        have HZ := Lib.hid hz0
        have l2 := Lib.itoa_length_le (n.tmod 10) (by omega) (by omega)
        clear hz0
        go_enter Tryd.func69, Tryd.ntmps69
        go_wp2_with fail
        refine (IH.out (n.tdiv 10) _ q0 q1 q2).mono ?_
        rintro e w1 ⟨rfl, b1⟩
        go_wp2_with fail
        refine (rwrite_digit (n.tmod 10) _ (by omega) (by omega)).mono ?_
        rintro e w2 ⟨rfl, b2⟩
        go_wp2_with fail
        go_ret
        exact ⟨ret_str (by rw [cat_mk, he.out, HZ.out]; rfl), b1.trans (b2.mono b1.size)⟩
theorem fits_range {z : Int} (h : fits z = true) : -9223372036854775808 ≤ z ∧ z ≤ 9223372036854775807 := by simpa [fits] using h
theorem fits_out {z : Int} (h : fits z = false) : z < -9223372036854775808 ∨ 9223372036854775807 < z := by
  unfold fits at h; simp only [decide_eq_false_iff_not] at h; omega
set_option maxHeartbeats 2000000 in
theorem rread_any (s : ByteArray) (w : World) (hs : s.size ≤ maxLen) :
    Calls Tryd.prog 37 #[.string s] w fun e w' => e = .returned (.tuple #[.int .i64 (rdV s), .int .i64 (rdE s)]) ∧ Below w.heap.size w w' := by
  have hm := hs
  unfold maxLen at hm
  cases hn : isNeg s
  · have ht : bare s = s := by unfold bare; rw [hn]; rfl
    have hsg : sgn s = 1 := by unfold sgn; rw [hn]; rfl
    have HT := Lib.hid ht
    have HS := Lib.hid hsg
    have hfirst : s.size = 0 ∨ ∃ hpos : 0 < s.size, ((s[0].toNat : Int) == 45) = false := by
      by_cases h0 : s.size = 0
      · exact .inl h0
      · have hpos : 0 < s.size := by omega
        refine .inr ⟨hpos, ?_⟩
        rw [byt_eq s 0 hpos]
        unfold isNeg at hn
        simp only [hpos, decide_true, Bool.true_and, decide_eq_false_iff_not] at hn
        simp [hn]
    clear hn ht hsg
    rcases hfirst with h0 | ⟨hpos, h45⟩
    · have hD : Hid (areD s = false) := Lib.hid (by unfold areD; simp [h0])
      have hq : Hid ((allD s s.size && decide (0 < s.size)) = false) := Lib.hid (by simp [h0])
      have hle : s.size ≤ 0 := by omega
      clear h0
      go_enter Tryd.func37, Tryd.ntmps37
      go_wp2_with fail
      refine (rdigits_any s _ hs).mono ?_
      rintro e w' ⟨rfl, rfl⟩
      rw [hq.out]
      go_wp2_with fail
      go_ret2
      exact ⟨ret2 (by unfold rdV; rw [HT.out, hD.out]; rfl) (by unfold rdE; rw [HT.out, hD.out]; rfl), Below.refl _ _⟩
    · go_enter Tryd.func37, Tryd.ntmps37
      go_wp2_with fail
      refine (rdigits_any s _ hs).mono ?_
      rintro e w' ⟨rfl, rfl⟩
      cases hd : (allD s (s).size && decide (0 < (s).size))
      · have hR : rdV s = 0 ∧ rdE s = 21 := by
          have : areD s = false := by
            unfold areD
            cases ha : allD s (s).size
            · simp
            · rw [ha] at hd; simp at hd; simp [hd]
          unfold rdV rdE; rw [HT.out, this]; exact ⟨rfl, rfl⟩
        have HR := Lib.hid hR
        clear hd hR
        go_wp2_with fail
        go_ret2
        exact ⟨ret2 HR.out.1.symm HR.out.2.symm, Below.refl _ _⟩
      · have hpt : 0 < (s).size := by simp only [Bool.and_eq_true, decide_eq_true_eq] at hd; exact hd.2
        have hall : allD s (s).size = true := by simp only [Bool.and_eq_true, decide_eq_true_eq] at hd; exact hd.1
        have HA := Lib.hid hall
        have hb0t := byt_eq s 0 hpt
        clear hd hall
        by_cases hlead : byt s 0 = 48 ∧ 1 < (s).size
        · have hR : rdV s = 0 ∧ rdE s = 21 := by
            have hne : ¬ (s).size = 1 := by omega
            have : areD s = false := by unfold areD; simp [hlead.1, hne]
            unfold rdV rdE; rw [HT.out, this]; exact ⟨rfl, rfl⟩
          have HR := Lib.hid hR
          have h48 : (((s)[0].toNat : Int) == 48) = true := by rw [hb0t, hlead.1]; rfl
          have hl1 := hlead.2
          clear hR hlead hb0t
          go_wp2_with fail
          go_ret2
          exact ⟨ret2 HR.out.1.symm HR.out.2.symm, Below.refl _ _⟩
        · have hD : areD s = true := by
            unfold areD
            by_cases hb : byt s 0 = 48
            · have : (s).size = 1 := by omega
              simp [this, ← HA.out]
            · simp [hb, hpt, HA.out]
          have hV : rdV s = val (sv 1 (valD s (s).size)) := by unfold rdV rdZ; rw [HT.out, HS.out, hD]; rfl
          have hE : rdE s = err (sv 1 (valD s (s).size)) := by unfold rdE rdZ; rw [HT.out, HS.out, hD]; rfl
          have HV := Lib.hid hV
          have HE := Lib.hid hE
          have htest : (((s)[0].toNat : Int) == 48) = false ∨ ((((s)[0].toNat : Int) == 48) = true ∧ (s).size ≤ 1) := by
            rw [hb0t]
            by_cases hb : byt s 0 = 48
            · right; rw [hb]; exact ⟨rfl, by omega⟩
            · left; simp [hb]
          clear hlead hb0t hD hV hE
          rcases htest with h48 | ⟨h48, hone⟩
          all_goals
            go_wp2_with fail
            go_loopw [5, 6] (fun z i wr => ∃ k : Nat, k ≤ (s).size ∧ i = .int .i64 k ∧ z = .int .i64 (sv 1 (valD s k)) ∧ fits (sv 1 (valD s k)) = true ∧ w = wr) (fun _ i _ => (s).size - (intOf i).toNat)
            case atStart => exact ⟨0, Nat.zero_le _, rfl, rfl, (by decide : fits 0 = true), rfl⟩
            case round =>
              obtain ⟨k, hk, rfl, rfl, hf, rfl⟩ := hrel
              have hfr := fits_range hf
              have f0 := hfr.1
              have f1 := hfr.2
              clear hf hfr
              by_cases hlt : k < (s).size
              · have hby := allD_byte _ _ k hlt HA.out
                have hbe := byt_eq _ k hlt
                have hnn : 0 ≤ valD s k := valD_nonneg _ k (allD_mono _ _ k hk HA.out)
                have hmo := valD_mono _ _ (k + 1) hlt HA.out
                have hst : valD s (k + 1) = valD s k * 10 + (byt s k - 48) := rfl
                rw [hst] at hmo
                rw [← hbe] at hby hmo hst
                have b0 := hby.1
                have b1 := hby.2
                have hsv : sv 1 (valD s (k + 1)) = sv 1 (valD s k) * 10 + ((s[k].toNat : Int) - 48) := by rw [hst]; simp [sv]
                have hfin : fits (sv 1 (valD s (k + 1))) = false → val (sv 1 (valD s (s).size)) = 0 ∧ err (sv 1 (valD s (s).size)) = 20 := by
                  intro h
                  have h2 := fits_out h
                  have : sv 1 (valD s (s).size) < -9223372036854775808 ∨ 9223372036854775807 < sv 1 (valD s (s).size) := by
                    rw [hst] at h2; simp [sv] at h2 ⊢; omega
                  exact ⟨val_no this, err_no this⟩
                have h10 : fits (sv 1 (valD s k) * 10) = false → fits (sv 1 (valD s (k + 1))) = false := by
                  intro h
                  have h2 := fits_out h
                  apply fits_no
                  rw [hst]; simp [sv] at h2 ⊢; omega
                have HFIN := Lib.hid hfin
                have H10 := Lib.hid h10
                have HSV := Lib.hid hsv
                clear hst hbe hby hmo hfin h10 hsv hnn
                generalize hp : sv 1 (valD s k) = p at *
                have HP := Lib.hid hp
                clear hp
                cases hm10 : fits (p * 10)
                · have hz := Lib.hid (HFIN.out (H10.out hm10))
                  have HM := Lib.hid hm10
                  clear hm10
                  go_wp2_with fail
                  refine (muls_any p 10 _ f0 f1 (by omega) (by omega)).mono ?_
                  rintro e w' ⟨rfl, rfl⟩
                  rw [HM.out]
                  go_wp2_with fail
                  go_ret2
                  exact ⟨ret2 (by rw [HV.out, hz.out.1]) (by rw [HE.out, hz.out.2]), Below.refl _ _⟩
                · have hmr := fits_range hm10
                  have m0 := hmr.1
                  have m1 := hmr.2
                  have HM := Lib.hid hm10
                  clear hm10 hmr
                  cases hadd : fits (p * 10 + ((s[k].toNat : Int) - 48))
                  · have hz := Lib.hid (HFIN.out (by rw [HSV.out]; exact hadd))
                    have HADD := Lib.hid hadd
                    clear hadd
                    go_wp2_with fail
                    refine (muls_any p 10 _ f0 f1 (by omega) (by omega)).mono ?_
                    rintro e w' ⟨rfl, rfl⟩
                    rw [HM.out]
                    go_wp2_with fail
                    refine (adds_any (p * 10) (((s[k].toNat : Int) - 48)) _ m0 m1 (by omega) (by omega)).mono ?_
                    rintro e w' ⟨rfl, rfl⟩
                    rw [HADD.out]
                    go_wp2_with fail
                    go_ret2
                    exact ⟨ret2 (by rw [HV.out, hz.out.1]) (by rw [HE.out, hz.out.2]), Below.refl _ _⟩
                  · have har := fits_range hadd
                    have a0 := har.1
                    have a1 := har.2
                    have HADD := Lib.hid hadd
                    clear hadd har
                    go_wp2_with fail
                    refine (muls_any p 10 _ f0 f1 (by omega) (by omega)).mono ?_
                    rintro e w' ⟨rfl, rfl⟩
                    rw [HM.out]
                    go_wp2_with fail
                    refine (adds_any (p * 10) (((s[k].toNat : Int) - 48)) _ m0 m1 (by omega) (by omega)).mono ?_
                    rintro e w' ⟨rfl, rfl⟩
                    rw [HADD.out]
                    go_wp2_with fail
                    go_roundw
                    case rel => exact ⟨k + 1, hlt, by go_num, by rw [HSV.out], by rw [HSV.out]; exact HADD.out, trivial⟩
                    case measure => simp [intOf]; omega
              · obtain rfl : k = (s).size := by omega
                have HV2 := Lib.hid (val_yes f0 f1)
                have HE2 := Lib.hid (err_yes f0 f1)
                go_wp2_with fail
                go_ret2
                exact ⟨ret2 (by rw [HV.out, HV2.out]) (by rw [HE.out, HE2.out]), Below.refl _ _⟩
  · have ht : bare s = s.extract 1 s.size := by unfold bare; rw [hn]; rfl
    have hsg : sgn s = 0 := by unfold sgn; rw [hn]; rfl
    have hpos : 0 < s.size := by
      unfold isNeg at hn
      simp only [Bool.and_eq_true, decide_eq_true_eq] at hn
      exact hn.1
    have hb0 := byt_eq s 0 hpos
    have h45 : ((s[0].toNat : Int) == 45) = true := by
      rw [hb0]
      unfold isNeg at hn
      simp only [Bool.and_eq_true, decide_eq_true_eq] at hn
      rw [hn.2]; rfl
    have HT := Lib.hid ht
    have HS := Lib.hid hsg
    clear hn ht hsg hb0
    have hts : (s.extract 1 s.size).size ≤ maxLen := by rw [size_tail s hpos]; omega
    have htm : (s.extract 1 s.size).size ≤ 9223372036854775807 := by rw [size_tail s hpos]; omega
    go_enter Tryd.func37, Tryd.ntmps37
    go_wp2_with fail
    generalize s.extract 1 s.size = t at *
    refine (rdigits_any t _ hts).mono ?_
    rintro e w' ⟨rfl, rfl⟩
    cases hd : (allD t (t).size && decide (0 < (t).size))
    · have hR : rdV s = 0 ∧ rdE s = 21 := by
        have : areD t = false := by
          unfold areD
          cases ha : allD t (t).size
          · simp
          · rw [ha] at hd; simp at hd; simp [hd]
        unfold rdV rdE; rw [HT.out, this]; exact ⟨rfl, rfl⟩
      have HR := Lib.hid hR
      clear hd hR
      go_wp2_with fail
      go_ret2
      exact ⟨ret2 HR.out.1.symm HR.out.2.symm, Below.refl _ _⟩
    · have hpt : 0 < (t).size := by simp only [Bool.and_eq_true, decide_eq_true_eq] at hd; exact hd.2
      have hall : allD t (t).size = true := by simp only [Bool.and_eq_true, decide_eq_true_eq] at hd; exact hd.1
      have HA := Lib.hid hall
      have hb0t := byt_eq t 0 hpt
      clear hd hall
      by_cases hlead : byt t 0 = 48 ∧ 1 < (t).size
      · have hR : rdV s = 0 ∧ rdE s = 21 := by
          have hne : ¬ (t).size = 1 := by omega
          have : areD t = false := by unfold areD; simp [hlead.1, hne]
          unfold rdV rdE; rw [HT.out, this]; exact ⟨rfl, rfl⟩
        have HR := Lib.hid hR
        have h48 : (((t)[0].toNat : Int) == 48) = true := by rw [hb0t, hlead.1]; rfl
        have hl1 := hlead.2
        clear hR hlead hb0t
        go_wp2_with fail
        go_ret2
        exact ⟨ret2 HR.out.1.symm HR.out.2.symm, Below.refl _ _⟩
      · have hD : areD t = true := by
          unfold areD
          by_cases hb : byt t 0 = 48
          · have : (t).size = 1 := by omega
            simp [this, ← HA.out]
          · simp [hb, hpt, HA.out]
        have hV : rdV s = val (sv 0 (valD t (t).size)) := by unfold rdV rdZ; rw [HT.out, HS.out, hD]; rfl
        have hE : rdE s = err (sv 0 (valD t (t).size)) := by unfold rdE rdZ; rw [HT.out, HS.out, hD]; rfl
        have HV := Lib.hid hV
        have HE := Lib.hid hE
        have htest : (((t)[0].toNat : Int) == 48) = false ∨ ((((t)[0].toNat : Int) == 48) = true ∧ (t).size ≤ 1) := by
          rw [hb0t]
          by_cases hb : byt t 0 = 48
          · right; rw [hb]; exact ⟨rfl, by omega⟩
          · left; simp [hb]
        clear hlead hb0t hD hV hE
        rcases htest with h48 | ⟨h48, hone⟩
        all_goals
          go_wp2_with fail
          go_loopw [5, 6] (fun z i wr => ∃ k : Nat, k ≤ (t).size ∧ i = .int .i64 k ∧ z = .int .i64 (sv 0 (valD t k)) ∧ fits (sv 0 (valD t k)) = true ∧ w = wr) (fun _ i _ => (t).size - (intOf i).toNat)
          case atStart => exact ⟨0, Nat.zero_le _, rfl, rfl, (by decide : fits 0 = true), rfl⟩
          case round =>
            obtain ⟨k, hk, rfl, rfl, hf, rfl⟩ := hrel
            have hfr := fits_range hf
            have f0 := hfr.1
            have f1 := hfr.2
            clear hf hfr
            by_cases hlt : k < (t).size
            · have hby := allD_byte _ _ k hlt HA.out
              have hbe := byt_eq _ k hlt
              have hnn : 0 ≤ valD t k := valD_nonneg _ k (allD_mono _ _ k hk HA.out)
              have hmo := valD_mono _ _ (k + 1) hlt HA.out
              have hst : valD t (k + 1) = valD t k * 10 + (byt t k - 48) := rfl
              rw [hst] at hmo
              rw [← hbe] at hby hmo hst
              have b0 := hby.1
              have b1 := hby.2
              have hsv : sv 0 (valD t (k + 1)) = sv 0 (valD t k) * 10 + -((t[k].toNat : Int) - 48) := by rw [hst]; simp [sv]; omega
              have hfin : fits (sv 0 (valD t (k + 1))) = false → val (sv 0 (valD t (t).size)) = 0 ∧ err (sv 0 (valD t (t).size)) = 20 := by
                intro h
                have h2 := fits_out h
                have : sv 0 (valD t (t).size) < -9223372036854775808 ∨ 9223372036854775807 < sv 0 (valD t (t).size) := by
                  rw [hst] at h2; simp [sv] at h2 ⊢; omega
                exact ⟨val_no this, err_no this⟩
              have h10 : fits (sv 0 (valD t k) * 10) = false → fits (sv 0 (valD t (k + 1))) = false := by
                intro h
                have h2 := fits_out h
                apply fits_no
                rw [hst]; simp [sv] at h2 ⊢; omega
              have HFIN := Lib.hid hfin
              have H10 := Lib.hid h10
              have HSV := Lib.hid hsv
              clear hst hbe hby hmo hfin h10 hsv hnn
              generalize hp : sv 0 (valD t k) = p at *
              have HP := Lib.hid hp
              clear hp
              cases hm10 : fits (p * 10)
              · have hz := Lib.hid (HFIN.out (H10.out hm10))
                have HM := Lib.hid hm10
                clear hm10
                go_wp2_with fail
                refine (muls_any p 10 _ f0 f1 (by omega) (by omega)).mono ?_
                rintro e w' ⟨rfl, rfl⟩
                rw [HM.out]
                go_wp2_with fail
                go_ret2
                exact ⟨ret2 (by rw [HV.out, hz.out.1]) (by rw [HE.out, hz.out.2]), Below.refl _ _⟩
              · have hmr := fits_range hm10
                have m0 := hmr.1
                have m1 := hmr.2
                have HM := Lib.hid hm10
                clear hm10 hmr
                cases hadd : fits (p * 10 + -((t[k].toNat : Int) - 48))
                · have hz := Lib.hid (HFIN.out (by rw [HSV.out]; exact hadd))
                  have HADD := Lib.hid hadd
                  clear hadd
                  go_wp2_with fail
                  refine (muls_any p 10 _ f0 f1 (by omega) (by omega)).mono ?_
                  rintro e w' ⟨rfl, rfl⟩
                  rw [HM.out]
                  go_wp2_with fail
                  refine (adds_any (p * 10) (-((t[k].toNat : Int) - 48)) _ m0 m1 (by omega) (by omega)).mono ?_
                  rintro e w' ⟨rfl, rfl⟩
                  rw [HADD.out]
                  go_wp2_with fail
                  go_ret2
                  exact ⟨ret2 (by rw [HV.out, hz.out.1]) (by rw [HE.out, hz.out.2]), Below.refl _ _⟩
                · have har := fits_range hadd
                  have a0 := har.1
                  have a1 := har.2
                  have HADD := Lib.hid hadd
                  clear hadd har
                  go_wp2_with fail
                  refine (muls_any p 10 _ f0 f1 (by omega) (by omega)).mono ?_
                  rintro e w' ⟨rfl, rfl⟩
                  rw [HM.out]
                  go_wp2_with fail
                  refine (adds_any (p * 10) (-((t[k].toNat : Int) - 48)) _ m0 m1 (by omega) (by omega)).mono ?_
                  rintro e w' ⟨rfl, rfl⟩
                  rw [HADD.out]
                  go_wp2_with fail
                  go_roundw
                  case rel => exact ⟨k + 1, hlt, by go_num, by rw [HSV.out], by rw [HSV.out]; exact HADD.out, trivial⟩
                  case measure => simp [intOf]; omega
            · obtain rfl : k = (t).size := by omega
              have HV2 := Lib.hid (val_yes f0 f1)
              have HE2 := Lib.hid (err_yes f0 f1)
              go_wp2_with fail
              go_ret2
              exact ⟨ret2 (by rw [HV.out, HV2.out]) (by rw [HE.out, HE2.out]), Below.refl _ _⟩
theorem rwrite_int (n : Int) (w : World) (h0 : -9223372036854775808 ≤ n) (h1 : n ≤ 9223372036854775807) :
    Calls Tryd.prog 69 #[.int .i64 n] w fun e w' => e = .returned (.string ⟨(Lib.itoa n).toArray⟩) ∧ Below w.heap.size w w' :=
  rwrite_any n.natAbs n w (Nat.le_refl _) h0 h1
end Go.Proofs.YtiikohbnfbpjeaaDoor
