import Derived.Test.YtiikohbnfbpjeaaDoorM12
import Derived.Test.YtiikohbnfbpjeaaDoorMV
import Derived.Test.YtiikohbnfbpjeaaDoorMW
namespace Go.Proofs.YtiikohbnfbpjeaaDoor
open Go.RowKit
set_option maxRecDepth 20000 in
theorem areDi_any (s : ByteArray) (w : World) (hs : s.size ≤ maxLen) : Calls Tryd.prog 34 #[.string s] w fun e w' => e = .returned (.bool (areDi s.data.toList)) ∧ w = w' := by
  unfold maxLen at hs
  obtain ⟨v, hv⟩ : ∃ v, v = areDi s.data.toList := ⟨_, rfl⟩
  have HV := Lib.hid hv
  rw [← hv]
  clear hv
  go_enter Tryd.func34, Tryd.ntmps34
  go_wp2_with fail
  go_loop [3] (fun i => ∃ k : Nat, k ≤ s.size ∧ i = .int .i64 k ∧ digs (s.data.toList.take k) = true) (fun i => s.size - (intOf i).toNat)
  case atStart => exact ⟨0, Nat.zero_le _, rfl, rfl⟩
  case round =>
    obtain ⟨k, hk, rfl, hd⟩ := hrel
    have HD := Lib.hid hd
    clear hd
    by_cases hlt : k < s.size
    · obtain ⟨x, hx⟩ : ∃ x : Int, (s[k].toNat : Int) = x := ⟨_, rfl⟩
      have HX := Lib.hid (isD_int s[k] x hx)
      by_cases c1 : x < 48
      · have HF := Lib.hid (areDi_no (digs_no s k hlt (by rw [HX.out, decide_eq_false (by omega)]; rfl)))
        go_wp2_with fail
        go_ret
        exact ⟨ret_bool (HV.out.trans HF.out).symm, rfl⟩
      · have q1 : decide (x < 48) = false := decide_eq_false c1
        by_cases c2 : 57 < x
        · have HF := Lib.hid (areDi_no (digs_no s k hlt (by rw [HX.out, decide_eq_false (by omega : ¬ x ≤ 57)]; simp)))
          go_wp2_with fail
          go_ret
          exact ⟨ret_bool (HV.out.trans HF.out).symm, rfl⟩
        · have q2 : decide (57 < x) = false := decide_eq_false c2
          have HT := Lib.hid (digs_take_succ s k hlt)
          have HY : Hid (isD s[k] = true) := Lib.hid (by rw [HX.out, decide_eq_true (by omega), decide_eq_true (by omega)]; rfl)
          go_wp2_with fail
          go_round
          case rel => exact ⟨k + 1, by omega, by go_num, by rw [HT.out, HD.out, HY.out]; rfl⟩
          case measure => simp [intOf]; omega
    · obtain rfl : k = s.size := by omega
      have HT : Hid (digs s.data.toList = true) := Lib.hid (by have := HD.out; rwa [List.take_of_length_le (by simp)] at this)
      by_cases h0 : s.size = 0
      · have he : s.toList.isEmpty = true := by rw [list_empty]; simp [h0]
        have HF : Hid (areDi s.data.toList = false) := Lib.hid (by unfold areDi; rw [empty_size, decide_eq_true h0]; simp)
        clear h0
        go_wp2_with fail
        go_ret
        exact ⟨ret_bool (HV.out.trans HF.out).symm, rfl⟩
      · have he : s.toList.isEmpty = false := by rw [list_empty]; simp [h0]
        have HF : Hid (areDi s.data.toList = true) := Lib.hid (by unfold areDi; rw [HT.out, empty_size, decide_eq_false h0]; rfl)
        clear h0
        go_wp2_with fail
        go_ret
        exact ⟨ret_bool (HV.out.trans HF.out).symm, rfl⟩
end Go.Proofs.YtiikohbnfbpjeaaDoor
