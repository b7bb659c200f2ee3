import Derived.Test.YtcoennncgconmaaDoorW8
namespace Go.Proofs.YtcoennncgconmaaDoor
open Go.RowKit

theorem rsmall_any (n : Int) (w : World) :
    Calls Tryd.prog 25 #[.int .i64 n] w fun e w' => e = .returned (.bool (decide (-2147483648 ≤ n ∧ n ≤ 2147483647))) ∧ w = w' := by
  by_cases h1 : -2147483648 ≤ n
  · by_cases h2 : n ≤ 2147483647
    · go_enter Tryd.func25, Tryd.ntmps25
      go_wp2
      go_ret
      exact ⟨ret_bool (by simp; omega), rfl⟩
    · go_enter Tryd.func25, Tryd.ntmps25
      go_wp2
      go_ret
      exact ⟨ret_bool (by simp; omega), rfl⟩
  · go_enter Tryd.func25, Tryd.ntmps25
    go_wp2
    go_ret
    exact ⟨ret_bool (by simp; omega), rfl⟩

theorem rdigits_any (s : ByteArray) (w : World) (hs : s.size ≤ maxLen) :
    Calls Tryd.prog 35 #[.string s] w fun e w' => e = .returned (.bool (allD s s.size && decide (0 < s.size))) ∧ w = w' := by
  unfold maxLen at hs
  go_enter Tryd.func35, Tryd.ntmps35
  go_wp2_with fail
  go_loopw [2, 3] (fun b i wr => ∃ k : Nat, k ≤ s.size ∧ i = .int .i64 k ∧ b = .bool false ∧ allD s k = true ∧ w = wr) (fun _ i _ => s.size - (intOf i).toNat)
  case atStart => exact ⟨0, by omega, rfl, rfl, rfl, rfl⟩
  case round =>
    obtain ⟨k, hk, rfl, rfl, ha, rfl⟩ := hrel
    by_cases hlt : k < s.size
    · have hbk := byt_eq s k hlt
      by_cases h1 : byt s k < 48
      · have hf : Hid (allD s s.size = false) := Lib.hid (by
          cases hh : allD s s.size
          · rfl
          · have := allD_byte s _ k hlt hh; omega)
        have ht1 : (s[k].toNat : Int) < 48 := by omega
        clear ha hbk h1
        go_wp2_with fail
        go_ret
        exact ⟨ret_bool (by rw [hf.out]; rfl), rfl⟩
      · by_cases h2 : 57 < byt s k
        · have hf : Hid (allD s s.size = false) := Lib.hid (by
            cases hh : allD s s.size
            · rfl
            · have := allD_byte s _ k hlt hh; omega)
          have ht1 : ¬ (s[k].toNat : Int) < 48 := by omega
          have ht2 : 57 < (s[k].toNat : Int) := by omega
          clear ha hbk h1 h2
          go_wp2_with fail
          go_ret
          exact ⟨ret_bool (by rw [hf.out]; rfl), rfl⟩
        · have hf : Hid (allD s (k + 1) = true) := Lib.hid (by simp only [allD, ha, Bool.true_and, decide_eq_true_eq]; omega)
          have ht1 : ¬ (s[k].toNat : Int) < 48 := by omega
          have ht2 : ¬ 57 < (s[k].toNat : Int) := by omega
          clear ha hbk h1 h2
          go_wp2_with fail
          go_roundw
          case rel => exact ⟨k + 1, by omega, by go_num, rfl, hf.out, trivial⟩
          case measure => simp [intOf]; omega
    · obtain rfl : k = s.size := by omega
      have HA := Lib.hid ha
      clear ha
      go_wp2_with fail
      go_ret
      exact ⟨ret_bool (by rw [HA.out]; simp), rfl⟩

/-! ### The digits of a number, one by one -/
theorem digit_slice : ∀ d : Nat, d < 10 → (⟨#[48, 49, 50, 51, 52, 53, 54, 55, 56, 57]⟩ : ByteArray).extract d (d + 1) = ⟨(Lib.itoa (d : Int)).toArray⟩ := by
  intro d hd
  have e : Lib.itoa (d : Int) = [UInt8.ofNat (48 + d)] := by
    rw [Lib.itoa_nonneg, Lib.decDigits_one hd]
  rw [e]
  match d, hd with
  | 0, _ => rfl
  | 1, _ => rfl
  | 2, _ => rfl
  | 3, _ => rfl
  | 4, _ => rfl
  | 5, _ => rfl
  | 6, _ => rfl
  | 7, _ => rfl
  | 8, _ => rfl
  | 9, _ => rfl
theorem cat_mk (a b : List UInt8) : (⟨a.toArray⟩ : ByteArray) ++ ⟨b.toArray⟩ = ⟨(a ++ b).toArray⟩ := by
  apply ByteArray.ext
  simp [ByteArray.data_append]
theorem itoa_pos (n : Int) (h : 10 ≤ n) : Lib.itoa n = Lib.itoa (n / 10) ++ Lib.itoa (n % 10) := by
  obtain ⟨u, rfl⟩ := Int.eq_ofNat_of_zero_le (by omega : 0 ≤ n)
  rw [show ((u : Int) / 10) = ((u / 10 : Nat) : Int) from by omega, show ((u : Int) % 10) = ((u % 10 : Nat) : Int) from by omega, Lib.itoa_nonneg, Lib.itoa_nonneg, Lib.itoa_nonneg, Lib.decDigits_one (by omega : u % 10 < 10)]
  rw [Lib.decDigits, dif_neg (by omega)]
theorem itoa_neg10 (n : Int) (h : n ≤ -10) : Lib.itoa n = Lib.itoa (n.tdiv 10) ++ Lib.itoa (-(n.tmod 10)) := by
  obtain ⟨u, rfl⟩ : ∃ u : Nat, n = -(u : Int) := ⟨n.natAbs, by omega⟩
  rw [Int.neg_tdiv, Int.neg_tmod, Int.neg_neg, Int.tdiv_eq_ediv_of_nonneg (by omega), Int.tmod_eq_emod_of_nonneg (by omega)]
  rw [show ((u : Int) / 10) = ((u / 10 : Nat) : Int) from by omega, show ((u : Int) % 10) = ((u % 10 : Nat) : Int) from by omega]
  rw [Lib.itoa_neg u (by omega), Lib.itoa_neg (u / 10) (by omega), Lib.itoa_nonneg, Lib.decDigits_one (by omega : u % 10 < 10)]
  rw [Lib.decDigits, dif_neg (by omega)]; rfl
theorem itoa_neg1 (n : Int) (h : n < 0) : Lib.itoa n = [45] ++ Lib.itoa (-n) := by
  obtain ⟨u, rfl⟩ : ∃ u : Nat, n = -(u : Int) := ⟨n.natAbs, by omega⟩
  rw [Int.neg_neg, Lib.itoa_neg u (by omega), Lib.itoa_nonneg]; rfl

theorem ret_str {a b : ByteArray} (h : a = b) : Ending.returned (.string a) = .returned (.string b) := by rw [h]
theorem rwrite_digit (n : Int) (w : World) (h0 : 0 ≤ n) (h1 : n < 10) :
    Calls Tryd.prog 24 #[.int .i64 n] w fun e w' => e = .returned (.string ⟨(Lib.itoa n).toArray⟩) ∧ Below w.heap.size w w' := by
  obtain ⟨d, rfl⟩ := Int.eq_ofNat_of_zero_le h0
  have hd := Lib.hid (digit_slice d (by omega))
  go_enter Tryd.func24, Tryd.ntmps24
  go_wp2_with fail
  go_ret
  exact ⟨ret_str hd.out, Below.refl _ _⟩

theorem tmod_neg (n : Int) (h : n < 0) : -10 < n.tmod 10 ∧ n.tmod 10 ≤ 0 := by
  have e : (-n).tmod 10 = -(n.tmod 10) := Int.neg_tmod n 10
  have h1 := Int.tmod_lt_of_pos (-n) (by omega : (0 : Int) < 10)
  have h2 := Int.tmod_nonneg 10 (by omega : 0 ≤ -n)
  omega
theorem rwrite_any (k : Nat) : ∀ (n : Int) (w : World), n.natAbs ≤ k → -9223372036854775808 ≤ n → n ≤ 9223372036854775807 →
    Calls Tryd.prog 24 #[.int .i64 n] w fun e w' => e = .returned (.string ⟨(Lib.itoa n).toArray⟩) ∧ Below w.heap.size w w' := by
  induction k with
  | zero =>
    intro n w hk _ _
    exact rwrite_digit n w (by omega) (by omega)
  | succ k ih =>
    intro n w hk hlo hhi
    by_cases hd : 0 ≤ n ∧ n < 10
    · exact rwrite_digit n w hd.1 hd.2
    by_cases hp : 10 ≤ n
    · have he := Lib.hid (itoa_pos n hp)
      have IH := Lib.hid ih
      have l1 := Lib.itoa_length_le (n / 10) (by omega) (by omega)
      have l2 := Lib.itoa_length_le (n % 10) (by omega) (by omega)
      clear ih hd
      go_enter Tryd.func24, Tryd.ntmps24
      go_wp2_with fail
      refine (IH.out (n / 10) _ (by omega) (by omega) (by omega)).mono ?_
      rintro e w1 ⟨rfl, b1⟩
      go_wp2_with fail
      refine (rwrite_digit (n % 10) _ (by omega) (by omega)).mono ?_
      rintro e w2 ⟨rfl, b2⟩
      go_wp2_with fail
      go_ret
      exact ⟨ret_str (by rw [cat_mk, he.out]), b1.trans (b2.mono b1.size)⟩
    by_cases hs : -10 < n
    · have hn : n < 0 := by omega
      have he := Lib.hid (itoa_neg1 n hn)
      have l1 := Lib.itoa_length_le (-n) (by omega) (by omega)
      clear ih hd hp
      go_enter Tryd.func24, Tryd.ntmps24
      go_wp2_with fail
      refine (rwrite_digit (-n) _ (by omega) (by omega)).mono ?_
      rintro e w1 ⟨rfl, b1⟩
      go_wp2_with fail
      go_ret
      exact ⟨ret_str (by rw [cat_mk [45], he.out]), b1⟩
    · have hn : n ≤ -10 := by omega
      have hm := tmod_neg n (by omega)
      have m0 := hm.1
      have m1 := hm.2
      have hsum := Int.mul_tdiv_add_tmod n 10
      have hq : (n.tdiv 10).natAbs ≤ k ∧ -9223372036854775808 ≤ n.tdiv 10 ∧ n.tdiv 10 ≤ 9223372036854775807 := by omega
      have q0 := hq.1
      have q1 := hq.2.1
      have q2 := hq.2.2
      have he := Lib.hid (itoa_neg10 n hn)
      have IH := Lib.hid ih
      have l1 := Lib.itoa_length_le (n.tdiv 10) q1 q2
      clear ih hd hp hs hm hq hsum
      by_cases hz : n.tmod 10 < 0
      · have l2 := Lib.itoa_length_le (-(n.tmod 10)) (by omega) (by omega)
        go_enter Tryd.func24, Tryd.ntmps24
        go_wp2_with fail
        refine (IH.out (n.tdiv 10) _ q0 q1 q2).mono ?_
        rintro e w1 ⟨rfl, b1⟩
        go_wp2_with fail
        refine (rwrite_digit (-(n.tmod 10)) _ (by omega) (by omega)).mono ?_
        rintro e w2 ⟨rfl, b2⟩
        go_wp2_with fail
        go_ret
        exact ⟨ret_str (by rw [cat_mk, he.out]), b1.trans (b2.mono b1.size)⟩
      · have hz0 : n.tmod 10 = 0 := by omega
        have HZ := Lib.hid hz0
        have l2 := Lib.itoa_length_le (n.tmod 10) (by omega) (by omega)
        clear hz0
        go_enter Tryd.func24, Tryd.ntmps24
        go_wp2_with fail
        refine (IH.out (n.tdiv 10) _ q0 q1 q2).mono ?_
        rintro e w1 ⟨rfl, b1⟩
        go_wp2_with fail
        refine (rwrite_digit (n.tmod 10) _ (by omega) (by omega)).mono ?_
        rintro e w2 ⟨rfl, b2⟩
        go_wp2_with fail
        go_ret
        exact ⟨ret_str (by rw [cat_mk, he.out, HZ.out]; rfl), b1.trans (b2.mono b1.size)⟩
end Go.Proofs.YtcoennncgconmaaDoor
