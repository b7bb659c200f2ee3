import Derived.Test.YtiikohbnfbpjeaaDoorM7
import Derived.Test.YtiikohbnfbpjeaaDoorMU
import Derived.Outline
import Derived.Laws.Externs
import Derived.Lib.ItoaLen
namespace Go.Proofs.YtiikohbnfbpjeaaDoor
open Go.RowKit

/-- What the table of limits holds. -/
def Lim (w : World) : Prop := w.cell? ⟨3, 0, none⟩ = some (.int .u64 9223372036854775808) ∧ w.cell? ⟨3, 1, none⟩ = some (.int .u64 9223372036854775807)

theorem limit0 (w : World) (l : Lim w) : Calls Tryd.prog 83 #[.int .u8 0] w fun e w' => e = .returned (.int .u64 9223372036854775808) ∧ w = w' := by
  obtain ⟨l0, _⟩ := l
  go_enter Tryd.func83, Tryd.ntmps83
  go_wp2
  go_ret
  exact ⟨rfl, rfl⟩
theorem limit1 (w : World) (l : Lim w) : Calls Tryd.prog 83 #[.int .u8 1] w fun e w' => e = .returned (.int .u64 9223372036854775807) ∧ w = w' := by
  obtain ⟨_, l1⟩ := l
  go_enter Tryd.func83, Tryd.ntmps83
  go_wp2
  go_ret
  exact ⟨rfl, rfl⟩
theorem add64_run (x y : Int) (hx : 0 ≤ x) (hy : 0 ≤ y) (w : World) : (callFunc 67 #[.int .u64 x, .int .u64 y, .int .u64 0]).run Tryd.prog w = .ok (.value (.tuple #[.int .u64 ((x + y) % 18446744073709551616), .int .u64 ((x + y) / 18446744073709551616)])) w := by
  obtain ⟨n, rfl⟩ := Int.eq_ofNat_of_zero_le hx
  obtain ⟨m, rfl⟩ := Int.eq_ofNat_of_zero_le hy
  have := add64 n m 0 (by decide) w
  rw [Nat.add_zero] at this
  have e1 : (((n + m) % M64 : Nat) : Int) = ((n : Int) + m) % 18446744073709551616 := by unfold M64; omega
  have e2 : (((n + m) / M64 : Nat) : Int) = ((n : Int) + m) / 18446744073709551616 := by unfold M64; omega
  rw [e1, e2] at this
  exact this

theorem join_any (s m : Int) (w : World) (l : Lim w) (hs : s = 0 ∨ s = 1) (h0 : 0 ≤ m) (h1 : m < 18446744073709551616) :
    Calls Tryd.prog 68 #[.int .u8 s, .int .u64 m] w fun e w' => e = .returned (.tuple #[.int .i64 (val (sv s m)), .int .i64 (err (sv s m))]) ∧ w = w' := by
  rcases hs with rfl | rfl
  · by_cases h : m ≤ 9223372036854775808
    · go_enter Tryd.func68, Tryd.ntmps68
      go_wp2_with (go_at_call 83; refine (limit0 _ l).mono ?_; rintro e w' ⟨rfl, rfl⟩)
      go_ret2
      have hz : sv 0 m = -m := by simp [sv]
      exact ⟨ret2 (by rw [hz, back_wrap m h0 h, val_yes (by omega) (by omega)]) (by rw [hz, err_yes (by omega) (by omega)]), rfl⟩
    · go_enter Tryd.func68, Tryd.ntmps68
      go_wp2_with (go_at_call 83; refine (limit0 _ l).mono ?_; rintro e w' ⟨rfl, rfl⟩)
      go_ret2
      have hz : sv 0 m = -m := by simp [sv]
      exact ⟨ret2 (by rw [hz, val_no (by omega)]) (by rw [hz, err_no (by omega)]), rfl⟩
  · by_cases h : m ≤ 9223372036854775807
    · go_enter Tryd.func68, Tryd.ntmps68
      go_wp2_with (go_at_call 83; refine (limit1 _ l).mono ?_; rintro e w' ⟨rfl, rfl⟩)
      go_ret2
      have hz : sv 1 m = m := by simp [sv]
      exact ⟨ret2 (by rw [hz, val_yes (by omega) (by omega)]) (by rw [hz, err_yes (by omega) (by omega)]), rfl⟩
    · go_enter Tryd.func68, Tryd.ntmps68
      go_wp2_with (go_at_call 83; refine (limit1 _ l).mono ?_; rintro e w' ⟨rfl, rfl⟩)
      go_ret2
      have hz : sv 1 m = m := by simp [sv]
      exact ⟨ret2 (by rw [hz, val_no (by omega)]) (by rw [hz, err_no (by omega)]), rfl⟩


theorem digits_any (s : ByteArray) (w : World) (hs : s.size ≤ maxLen) :
    Calls Tryd.prog 65 #[.string s] w fun e w' => e = .returned (.bool (areD s)) ∧ w = w' := by
  unfold maxLen at hs
  by_cases h0 : s.size = 0
  · have he : s.toList.isEmpty = true := by rw [list_empty]; simp [h0]
    have hr : Hid (areD s = false) := Lib.hid (by unfold areD; simp [h0])
    clear h0
    go_enter Tryd.func65, Tryd.ntmps65
    go_wp2_with fail
    go_ret
    exact ⟨ret_bool hr.out.symm, rfl⟩
  · have he : s.toList.isEmpty = false := by rw [list_empty]; simp [h0]
    have hpos : 0 < s.size := by omega
    have hb0 := byt_eq s 0 hpos
    by_cases hz : byt s 0 = 48 ∧ s.size ≠ 1
    · have hr : Hid (areD s = false) := Lib.hid (by unfold areD; simp [hz.1, hz.2])
      have hl : (s.toList == [48]) = false := by rw [list_one s hpos hz.1]; simp [hz.2]
      have ht : ((s[0].toNat : Int) == 48) = true := by rw [hb0, hz.1]; rfl
      clear h0 hz hb0
      go_enter Tryd.func65, Tryd.ntmps65
      go_wp2_with fail
      go_ret
      exact ⟨ret_bool hr.out.symm, rfl⟩
    · have hr : areD s = allD s s.size := by
        unfold areD
        by_cases hb : byt s 0 = 48
        · have : s.size = 1 := by omega
          simp [hb, this]
        · simp [hb, hpos]
      have HR := Lib.hid hr
      clear hr
      have htest : ((s[0].toNat : Int) == 48) = false ∨ ((s[0].toNat : Int) == 48) = true ∧ (s.toList == [48]) = true := by
        rw [hb0]
        by_cases hb : byt s 0 = 48
        · right; rw [list_one s hpos hb, hb]; simp; omega
        · left; simp [hb]
      clear h0 hz hb0
      rcases htest with ht | ⟨ht, hl⟩
      all_goals
        go_enter Tryd.func65, Tryd.ntmps65
        go_wp2_with fail
        go_loopw [2, 3] (fun b i wr => ∃ k : Nat, k ≤ s.size ∧ i = .int .i64 k ∧ b = .bool false ∧ allD s k = true ∧ w = wr) (fun _ i _ => s.size - (intOf i).toNat)
        case atStart => exact ⟨0, by omega, rfl, rfl, rfl, rfl⟩
        case round =>
          obtain ⟨k, hk, rfl, rfl, ha, rfl⟩ := hrel
          by_cases hlt : k < s.size
          · have hbk := byt_eq s k hlt
            by_cases h1 : byt s k < 48
            · have hf : Hid (allD s s.size = false) := Lib.hid (by
                cases hh : allD s s.size
                · rfl
                · have := allD_byte s _ k hlt hh; omega)
              have ht1 : (s[k].toNat : Int) < 48 := by omega
              clear ha hbk h1
              go_wp2_with fail
              go_ret
              exact ⟨ret_bool (by rw [HR.out, hf.out]), rfl⟩
            · by_cases h2 : 57 < byt s k
              · have hf : Hid (allD s s.size = false) := Lib.hid (by
                  cases hh : allD s s.size
                  · rfl
                  · have := allD_byte s _ k hlt hh; omega)
                have ht1 : ¬ (s[k].toNat : Int) < 48 := by omega
                have ht2 : 57 < (s[k].toNat : Int) := by omega
                clear ha hbk h1 h2
                go_wp2_with fail
                go_ret
                exact ⟨ret_bool (by rw [HR.out, hf.out]), rfl⟩
              · have hf : Hid (allD s (k + 1) = true) := Lib.hid (by simp only [allD, ha, Bool.true_and, decide_eq_true_eq]; omega)
                have ht1 : ¬ (s[k].toNat : Int) < 48 := by omega
                have ht2 : ¬ 57 < (s[k].toNat : Int) := by omega
                clear ha hbk h1 h2
                go_wp2_with fail
                go_roundw
                case rel => exact ⟨k + 1, by omega, by go_num, rfl, hf.out, trivial⟩
                case measure => simp [intOf]; omega
          · obtain rfl : k = s.size := by omega
            have HA := Lib.hid ha
            clear ha
            go_wp2_with fail
            go_ret
            exact ⟨ret_bool (by rw [HR.out, HA.out]), rfl⟩

theorem mul10 (n : Int) (w : World) (h0 : 0 ≤ n) (h1 : n < 18446744073709551616) :
    Calls Tryd.prog 66 #[.int .u64 n, .int .u64 10] w fun e w' => e = .returned (.tuple #[.int .u64 (n * 10 / 18446744073709551616), .int .u64 (n * 10 % 18446744073709551616)]) ∧ w = w' := by
  obtain ⟨m, rfl⟩ := Int.eq_ofNat_of_zero_le h0
  refine (Tryd.bits_Mul64 m 10 (by omega) (by omega) w).mono ?_
  rintro e w' ⟨rfl, rfl⟩
  exact ⟨ret2 (by omega) (by omega), rfl⟩

theorem size_tail (s : ByteArray) (_h : 0 < s.size) : (s.extract 1 s.size).size = s.size - 1 := by simp

set_option maxHeartbeats 1000000 in
/-- From the digits on: what stands behind a sign. -/
theorem read_rest (s : ByteArray) (w : World) (l : Lim w) (hs : s.size ≤ maxLen) :
    Calls Tryd.prog 36 #[.string s] w fun e w' => e = .returned (.tuple #[.int .i64 (rdV s), .int .i64 (rdE s)]) ∧ Below w.heap.size w w' := by
  have hm := hs
  unfold maxLen at hm
  cases hn : isNeg s
  · have ht : bare s = s := by unfold bare; rw [hn]; rfl
    have hsg : sgn s = 1 := by unfold sgn; rw [hn]; rfl
    have HT := Lib.hid ht
    have HS := Lib.hid hsg
    by_cases h0 : s.size = 0
    · have he : s.toList.isEmpty = true := by rw [list_empty]; simp [h0]
      have hD : Hid (areD s = false) := Lib.hid (by unfold areD; simp [h0])
      clear h0 hn ht hsg
      go_enter Tryd.func36, Tryd.ntmps36
      go_wp2_with fail
      refine (digits_any s _ hs).mono ?_
      rintro e w' ⟨rfl, rfl⟩
      rw [hD.out]
      go_wp2_with fail
      go_ret2
      exact ⟨ret2 (by unfold rdV; rw [HT.out, hD.out]; rfl) (by unfold rdE; rw [HT.out, hD.out]; rfl), Below.refl _ _⟩
    · have he : s.toList.isEmpty = false := by rw [list_empty]; simp [h0]
      have hpos : 0 < s.size := by omega
      have hb0 := byt_eq s 0 hpos
      have h45 : ((s[0].toNat : Int) == 45) = false := by
        rw [hb0]
        unfold isNeg at hn
        simp only [hpos, decide_true, Bool.true_and, decide_eq_false_iff_not] at hn
        simp [hn]
      clear h0 hn ht hsg hb0
      go_enter Tryd.func36, Tryd.ntmps36
      go_wp2_with fail
      refine (digits_any s _ hs).mono ?_
      rintro e w' ⟨rfl, rfl⟩
      cases hd : areD s
      · have hD := Lib.hid hd
        clear hd
        go_wp2_with fail
        go_ret2
        exact ⟨ret2 (by unfold rdV; rw [HT.out, hD.out]; rfl) (by unfold rdE; rw [HT.out, hD.out]; rfl), Below.refl _ _⟩
      · have hD := Lib.hid hd
        have hall := (areD_parts hd).2.2
        have hV : rdV s = val (sv 1 (valD s (s).size)) := by unfold rdV rdZ; rw [HT.out, HS.out, hd]; rfl
        have hE : rdE s = err (sv 1 (valD s (s).size)) := by unfold rdE rdZ; rw [HT.out, HS.out, hd]; rfl
        have HV := Lib.hid hV
        have HE := Lib.hid hE
        have HA := Lib.hid hall
        clear hd hall hV hE
        go_wp2_with fail
        go_loopw [6, 7] (fun z i wr => ∃ k : Nat, k ≤ (s).size ∧ i = .int .i64 k ∧ z = .int .u64 (valD s k) ∧ valD s k < 18446744073709551616 ∧ w = wr) (fun _ i _ => (s).size - (intOf i).toNat)
        case atStart => exact ⟨0, Nat.zero_le _, rfl, rfl, (by decide : (0 : Int) < 18446744073709551616), rfl⟩
        case round =>
          obtain ⟨k, hk, rfl, rfl, hb, rfl⟩ := hrel
          have hnn : 0 ≤ valD s k := valD_nonneg _ k (allD_mono _ _ k hk HA.out)
          by_cases hlt : k < (s).size
          · have hby := allD_byte _ _ k hlt HA.out
            have hbe := byt_eq _ k hlt
            have hmo := valD_mono _ _ (k + 1) hlt HA.out
            have hst : valD s (k + 1) = valD s k * 10 + (byt s k - 48) := rfl
            rw [hst] at hmo
            rw [← hbe] at hby hmo hst
            have hbig : 9223372036854775808 < valD s (s).size → val (sv 1 (valD s (s).size)) = 0 ∧ err (sv 1 (valD s (s).size)) = 20 := by
              intro h
              have : sv 1 (valD s (s).size) < -9223372036854775808 ∨ 9223372036854775807 < sv 1 (valD s (s).size) := by simp [sv]; omega
              exact ⟨val_no this, err_no this⟩
            have HB := Lib.hid hbig
            have HST := Lib.hid hst
            have hw : IntKind.u8.wrap (((s)[k].toNat : Int) - 48) = ((s)[k].toNat : Int) - 48 := by rw [IntKind.wrap_u8]; omega
            have b0 := hby.1
            have b1 := hby.2
            clear hst hbe hbig hby hw
            by_cases hc1 : valD s k * 10 < 18446744073709551616
            · have ha := add64_run (valD s k * 10) (((s)[k].toNat : Int) - 48) (by omega) (by omega) w
              by_cases hc2 : valD s k * 10 + (((s)[k].toNat : Int) - 48) < 18446744073709551616
              · rw [Int.emod_eq_of_lt (by omega) hc2, Int.ediv_eq_zero_of_lt (by omega) hc2] at ha
                go_wp2_with fail
                refine (mul10 _ _ hnn hb).mono ?_
                rintro e w' ⟨rfl, rfl⟩
                rw [Int.emod_eq_of_lt (by omega) hc1, Int.ediv_eq_zero_of_lt (by omega) hc1]
                go_wp2_with fail
                go_roundw
                case rel => exact ⟨k + 1, hlt, by go_num, by rw [HST.out], by rw [HST.out]; exact hc2, trivial⟩
                case measure => simp [intOf]; omega
              · have e1 : (valD s k * 10 + (((s)[k].toNat : Int) - 48)) / 18446744073709551616 = 1 := by omega
                rw [e1] at ha
                have hz := Lib.hid (HB.out (by omega))
                clear e1
                go_wp2_with fail
                refine (mul10 _ _ hnn hb).mono ?_
                rintro e w' ⟨rfl, rfl⟩
                rw [Int.emod_eq_of_lt (by omega) hc1, Int.ediv_eq_zero_of_lt (by omega) hc1]
                go_wp2_with fail
                go_ret2
                exact ⟨ret2 (by rw [HV.out, hz.out.1]) (by rw [HE.out, hz.out.2]), Below.refl _ _⟩
            · have hz := Lib.hid (HB.out (by omega))
              have hq : ((valD s k * 10 / 18446744073709551616) != 0) = true := by simp; omega
              have r0 : 0 ≤ valD s k * 10 % 18446744073709551616 := by omega
              have ha := add64_run (valD s k * 10 % 18446744073709551616) (((s)[k].toNat : Int) - 48) r0 (by omega) w
              go_wp2_with fail
              refine (mul10 _ _ hnn hb).mono ?_
              rintro e w' ⟨rfl, rfl⟩
              go_wp2_with fail
              go_ret2
              exact ⟨ret2 (by rw [HV.out, hz.out.1]) (by rw [HE.out, hz.out.2]), Below.refl _ _⟩
          · obtain rfl : k = (s).size := by omega
            go_wp2_with fail
            refine (join_any 1 _ _ l (by omega) hnn hb).mono ?_
            rintro e w' ⟨rfl, rfl⟩
            go_wp2_with fail
            go_ret2
            exact ⟨ret2 HV.out.symm HE.out.symm, Below.refl _ _⟩
  · have ht : bare s = s.extract 1 s.size := by unfold bare; rw [hn]; rfl
    have hsg : sgn s = 0 := by unfold sgn; rw [hn]; rfl
    have hpos : 0 < s.size := by
      unfold isNeg at hn
      simp only [Bool.and_eq_true, decide_eq_true_eq] at hn
      exact hn.1
    have hb0 := byt_eq s 0 hpos
    have h45 : ((s[0].toNat : Int) == 45) = true := by
      rw [hb0]
      unfold isNeg at hn
      simp only [Bool.and_eq_true, decide_eq_true_eq] at hn
      rw [hn.2]; rfl
    have he : s.toList.isEmpty = false := by rw [list_empty, decide_eq_false_iff_not]; omega
    have HT := Lib.hid ht
    have HS := Lib.hid hsg
    clear hn ht hsg hb0
    go_enter Tryd.func36, Tryd.ntmps36
    go_wp2_with fail
    go_quiet (fail)
    go_wp2_with fail
    have ld : Lim (w.drewN nq) := by obtain ⟨l0, l1⟩ := l; exact ⟨by simpa using l0, by simpa using l1⟩
    have hts : (s.extract 1 s.size).size ≤ maxLen := by rw [size_tail s hpos]; omega
    have htm : (s.extract 1 s.size).size ≤ 9223372036854775807 := by rw [size_tail s hpos]; omega
    generalize s.extract 1 s.size = t at *
    refine (digits_any t _ hts).mono ?_
    rintro e w' ⟨rfl, rfl⟩
    cases hd : areD t
    · have hD := Lib.hid hd
      clear hd
      go_wp2_with fail
      go_ret2
      exact ⟨ret2 (by unfold rdV; rw [HT.out, hD.out]; rfl) (by unfold rdE; rw [HT.out, hD.out]; rfl), below_drewN (Below.refl _ _) _⟩
    · have hD := Lib.hid hd
      have hall := (areD_parts hd).2.2
      have hV : rdV s = val (sv 0 (valD t (t).size)) := by unfold rdV rdZ; rw [HT.out, HS.out, hd]; rfl
      have hE : rdE s = err (sv 0 (valD t (t).size)) := by unfold rdE rdZ; rw [HT.out, HS.out, hd]; rfl
      have HV := Lib.hid hV
      have HE := Lib.hid hE
      have HA := Lib.hid hall
      clear hd hall hV hE
      go_wp2_with fail
      go_loopw [6, 7] (fun z i wr => ∃ k : Nat, k ≤ (t).size ∧ i = .int .i64 k ∧ z = .int .u64 (valD t k) ∧ valD t k < 18446744073709551616 ∧ (w.drewN nq) = wr) (fun _ i _ => (t).size - (intOf i).toNat)
      case atStart => exact ⟨0, Nat.zero_le _, rfl, rfl, (by decide : (0 : Int) < 18446744073709551616), rfl⟩
      case round =>
        obtain ⟨k, hk, rfl, rfl, hb, rfl⟩ := hrel
        have hnn : 0 ≤ valD t k := valD_nonneg _ k (allD_mono _ _ k hk HA.out)
        by_cases hlt : k < (t).size
        · have hby := allD_byte _ _ k hlt HA.out
          have hbe := byt_eq _ k hlt
          have hmo := valD_mono _ _ (k + 1) hlt HA.out
          have hst : valD t (k + 1) = valD t k * 10 + (byt t k - 48) := rfl
          rw [hst] at hmo
          rw [← hbe] at hby hmo hst
          have hbig : 9223372036854775808 < valD t (t).size → val (sv 0 (valD t (t).size)) = 0 ∧ err (sv 0 (valD t (t).size)) = 20 := by
            intro h
            have : sv 0 (valD t (t).size) < -9223372036854775808 ∨ 9223372036854775807 < sv 0 (valD t (t).size) := by simp [sv]; omega
            exact ⟨val_no this, err_no this⟩
          have HB := Lib.hid hbig
          have HST := Lib.hid hst
          have hw : IntKind.u8.wrap (((t)[k].toNat : Int) - 48) = ((t)[k].toNat : Int) - 48 := by rw [IntKind.wrap_u8]; omega
          have b0 := hby.1
          have b1 := hby.2
          clear hst hbe hbig hby hw
          by_cases hc1 : valD t k * 10 < 18446744073709551616
          · have ha := add64_run (valD t k * 10) (((t)[k].toNat : Int) - 48) (by omega) (by omega) (w.drewN nq)
            by_cases hc2 : valD t k * 10 + (((t)[k].toNat : Int) - 48) < 18446744073709551616
            · rw [Int.emod_eq_of_lt (by omega) hc2, Int.ediv_eq_zero_of_lt (by omega) hc2] at ha
              go_wp2_with fail
              refine (mul10 _ _ hnn hb).mono ?_
              rintro e w' ⟨rfl, rfl⟩
              rw [Int.emod_eq_of_lt (by omega) hc1, Int.ediv_eq_zero_of_lt (by omega) hc1]
              go_wp2_with fail
              go_roundw
              case rel => exact ⟨k + 1, hlt, by go_num, by rw [HST.out], by rw [HST.out]; exact hc2, trivial⟩
              case measure => simp [intOf]; omega
            · have e1 : (valD t k * 10 + (((t)[k].toNat : Int) - 48)) / 18446744073709551616 = 1 := by omega
              rw [e1] at ha
              have hz := Lib.hid (HB.out (by omega))
              clear e1
              go_wp2_with fail
              refine (mul10 _ _ hnn hb).mono ?_
              rintro e w' ⟨rfl, rfl⟩
              rw [Int.emod_eq_of_lt (by omega) hc1, Int.ediv_eq_zero_of_lt (by omega) hc1]
              go_wp2_with fail
              go_ret2
              exact ⟨ret2 (by rw [HV.out, hz.out.1]) (by rw [HE.out, hz.out.2]), below_drewN (Below.refl _ _) _⟩
          · have hz := Lib.hid (HB.out (by omega))
            have hq : ((valD t k * 10 / 18446744073709551616) != 0) = true := by simp; omega
            have r0 : 0 ≤ valD t k * 10 % 18446744073709551616 := by omega
            have ha := add64_run (valD t k * 10 % 18446744073709551616) (((t)[k].toNat : Int) - 48) r0 (by omega) (w.drewN nq)
            go_wp2_with fail
            refine (mul10 _ _ hnn hb).mono ?_
            rintro e w' ⟨rfl, rfl⟩
            go_wp2_with fail
            go_ret2
            exact ⟨ret2 (by rw [HV.out, hz.out.1]) (by rw [HE.out, hz.out.2]), below_drewN (Below.refl _ _) _⟩
        · obtain rfl : k = (t).size := by omega
          go_wp2_with fail
          refine (join_any 0 _ _ ld (by omega) hnn hb).mono ?_
          rintro e w' ⟨rfl, rfl⟩
          go_wp2_with fail
          go_ret2
          exact ⟨ret2 HV.out.symm HE.out.symm, below_drewN (Below.refl _ _) _⟩

theorem lim_later {w w' : World} (h : Below w.heap.size w w') (l : Lim w) : Lim w' := ⟨cell_later h l.1, cell_later h l.2⟩


/-- What the tables hold: the limits, and the powers of ten. -/
structure Tabs (w : World) : Prop where
  lim : Lim w
  pow : Lib.TabIs Tryd.prog w "internal/strconv.uint64pow10" .u64 Lib.pow10Tab
theorem gPow : Tryd.prog.globalNamed "internal/strconv.uint64pow10" = some 4 := by kernel_rfl
theorem tabs_later {w w' : World} (h : Below w.heap.size w w') (t : Tabs w) : Tabs w' :=
  ⟨lim_later h t.lim, var?_below h gPow (World.block_lt_of_cell? w ⟨4, 0, none⟩ (t.pow.cell gPow 0 (by decide +kernel))) t.pow⟩

/-- Blocks laid behind, and draws, leave what was there. -/
theorem below_new (w : World) (k : Nat) (os : Array Obj) : Below w.heap.size w (Sort.grow (w.drewN k) os) := by
  refine ⟨rfl, rfl, rfl, by simp [Sort.grow], fun i hi => ?_⟩
  show ((w.drewN k).heap ++ os)[i]? = _
  rw [Array.getElem?_append_left (by exact hi)]
  rfl

theorem write_any (n : Int) (w : World) (t : Tabs w) (h0 : -9223372036854775808 ≤ n) (h1 : n ≤ 9223372036854775807) :
    Calls Tryd.prog 26 #[.int .i64 n] w fun e w' => e = .returned (.string ⟨(Lib.itoa n).toArray⟩) ∧ Below w.heap.size w w' := by
  go_enter Tryd.func26, Tryd.ntmps26
  go_wp2_with fail
  refine (Tryd.strconv_FormatInt_10 n h0 h1 _ t.pow).mono ?_
  rintro e w1 ⟨rfl, k, os, hw⟩
  have b1 : Below w.heap.size w w1 := by rw [hw]; exact below_new _ _ _
  clear hw
  go_wp2_with fail
  go_ret
  exact ⟨rfl, b1⟩

theorem itoa_small (n : Int) (h0 : -9223372036854775808 ≤ n) (h1 : n ≤ 9223372036854775807) : (⟨(Lib.itoa n).toArray⟩ : ByteArray).size ≤ maxLen := by
  have := Lib.itoa_length_le n h0 h1
  have e : (⟨(Lib.itoa n).toArray⟩ : ByteArray).size = (Lib.itoa n).length := rfl
  rw [e]; unfold maxLen; omega

end Go.Proofs.YtiikohbnfbpjeaaDoor
