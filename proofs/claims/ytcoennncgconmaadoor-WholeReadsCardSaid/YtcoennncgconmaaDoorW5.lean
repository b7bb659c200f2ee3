import Derived.Test.YtcoennncgconmaaDoorW4
import Derived.Test.YtcoennncgconmaaDoorPlain2
import Derived.Below
namespace Go.Proofs.YtcoennncgconmaaDoor
open Go.RowKit

theorem digits_any (s : ByteArray) (w : World) (hs : s.size ≤ maxLen) :
    Calls Tryd.prog 33 #[.string s] w fun e w' => e = .returned (.bool (areD s)) ∧ w = w' := by
  unfold maxLen at hs
  by_cases h0 : s.size = 0
  · have he : s.toList.isEmpty = true := by rw [list_empty]; simp [h0]
    have hr : Hid (areD s = false) := Lib.hid (by unfold areD; simp [h0])
    clear h0
    go_enter Tryd.func33, Tryd.ntmps33
    go_wp2_with fail
    go_ret
    exact ⟨ret_bool hr.out.symm, rfl⟩
  · have he : s.toList.isEmpty = false := by rw [list_empty]; simp [h0]
    have hpos : 0 < s.size := by omega
    have hb0 := byt_eq s 0 hpos
    by_cases hz : byt s 0 = 48 ∧ s.size ≠ 1
    · have hr : Hid (areD s = false) := Lib.hid (by unfold areD; simp [hz.1, hz.2])
      have hl : (s.toList == [48]) = false := by rw [list_one s hpos hz.1]; simp [hz.2]
      have ht : ((s[0].toNat : Int) == 48) = true := by rw [hb0, hz.1]; rfl
      clear h0 hz hb0
      go_enter Tryd.func33, Tryd.ntmps33
      go_wp2_with fail
      go_ret
      exact ⟨ret_bool hr.out.symm, rfl⟩
    · have hr : areD s = allD s s.size := by
        unfold areD
        by_cases hb : byt s 0 = 48
        · have : s.size = 1 := by omega
          simp [hb, this]
        · simp [hb, hpos]
      have HR := Lib.hid hr
      clear hr
      have htest : ((s[0].toNat : Int) == 48) = false ∨ ((s[0].toNat : Int) == 48) = true ∧ (s.toList == [48]) = true := by
        rw [hb0]
        by_cases hb : byt s 0 = 48
        · right; rw [list_one s hpos hb, hb]; simp; omega
        · left; simp [hb]
      clear h0 hz hb0
      rcases htest with ht | ⟨ht, hl⟩
      all_goals
        go_enter Tryd.func33, Tryd.ntmps33
        go_wp2_with fail
        go_loopw [2, 3] (fun b i wr => ∃ k : Nat, k ≤ s.size ∧ i = .int .i64 k ∧ b = .bool false ∧ allD s k = true ∧ w = wr) (fun _ i _ => s.size - (intOf i).toNat)
        case atStart => exact ⟨0, by omega, rfl, rfl, rfl, rfl⟩
        case round =>
          obtain ⟨k, hk, rfl, rfl, ha, rfl⟩ := hrel
          by_cases hlt : k < s.size
          · have hbk := byt_eq s k hlt
            by_cases h1 : byt s k < 48
            · have hf : Hid (allD s s.size = false) := Lib.hid (by
                cases hh : allD s s.size
                · rfl
                · have := allD_byte s _ k hlt hh; omega)
              have ht1 : (s[k].toNat : Int) < 48 := by omega
              clear ha hbk h1
              go_wp2_with fail
              go_ret
              exact ⟨ret_bool (by rw [HR.out, hf.out]), rfl⟩
            · by_cases h2 : 57 < byt s k
              · have hf : Hid (allD s s.size = false) := Lib.hid (by
                  cases hh : allD s s.size
                  · rfl
                  · have := allD_byte s _ k hlt hh; omega)
                have ht1 : ¬ (s[k].toNat : Int) < 48 := by omega
                have ht2 : 57 < (s[k].toNat : Int) := by omega
                clear ha hbk h1 h2
                go_wp2_with fail
                go_ret
                exact ⟨ret_bool (by rw [HR.out, hf.out]), rfl⟩
              · have hf : Hid (allD s (k + 1) = true) := Lib.hid (by simp only [allD, ha, Bool.true_and, decide_eq_true_eq]; omega)
                have ht1 : ¬ (s[k].toNat : Int) < 48 := by omega
                have ht2 : ¬ 57 < (s[k].toNat : Int) := by omega
                clear ha hbk h1 h2
                go_wp2_with fail
                go_roundw
                case rel => exact ⟨k + 1, by omega, by go_num, rfl, hf.out, trivial⟩
                case measure => simp [intOf]; omega
          · obtain rfl : k = s.size := by omega
            have HA := Lib.hid ha
            clear ha
            go_wp2_with fail
            go_ret
            exact ⟨ret_bool (by rw [HR.out, HA.out]), rfl⟩
end Go.Proofs.YtcoennncgconmaaDoor
