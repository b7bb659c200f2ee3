import Derived.Test.YtjcaadihkbhlhaaDoorA3
import Derived.Test.YtjcaadihkbhlhaaDoorP
namespace Go.Proofs.YtjcaadihkbhlhaaDoor
open Go.RowKit
set_option maxRecDepth 20000 in
set_option maxHeartbeats 2000000 in
theorem hex_any (n : Nat) (h : n < 256) (w : World) : Calls Tryd.prog 66 #[.int .u8 (n : Nat)] w fun e w' => e = .returned (.int .i64 (hexV n)) ∧ w' = w := by
  rcases (by omega : (0 ≤ n ∧ n ≤ 47) ∨ (48 ≤ n ∧ n ≤ 57) ∨ (58 ≤ n ∧ n ≤ 64) ∨ (65 ≤ n ∧ n ≤ 70) ∨ (71 ≤ n ∧ n ≤ 96) ∨ (97 ≤ n ∧ n ≤ 102) ∨ (103 ≤ n ∧ n ≤ 255)) with ⟨r1, r2⟩ | ⟨r1, r2⟩ | ⟨r1, r2⟩ | ⟨r1, r2⟩ | ⟨r1, r2⟩ | ⟨r1, r2⟩ | ⟨r1, r2⟩
  · have hv : Hid (hexV n = -1) := Lib.hid (by
      unfold hexV
      repeat' split
      all_goals omega)
    have g48 : ¬ ((48 : Int) ≤ n) := by omega
    have g57 : ((n : Int) ≤ 57) := by omega
    have g97 : ¬ ((97 : Int) ≤ n) := by omega
    have g102 : ((n : Int) ≤ 102) := by omega
    have g65 : ¬ ((65 : Int) ≤ n) := by omega
    have g70 : ((n : Int) ≤ 70) := by omega
    clear r1 r2
    go_enter Tryd.func66, Tryd.ntmps66
    go_wp2_with fail
    go_ret
    exact ⟨rint (by have := hv.out; omega), rfl⟩
  · have hv : Hid (hexV n = (n : Int) - 48) := Lib.hid (by
      unfold hexV
      repeat' split
      all_goals omega)
    have g48 : ((48 : Int) ≤ n) := by omega
    have g57 : ((n : Int) ≤ 57) := by omega
    have g97 : ¬ ((97 : Int) ≤ n) := by omega
    have g102 : ((n : Int) ≤ 102) := by omega
    have g65 : ¬ ((65 : Int) ≤ n) := by omega
    have g70 : ((n : Int) ≤ 70) := by omega
    have q : IntKind.u8.wrap ((n : Int) - 48) = n - 48 := by rw [IntKind.wrap_u8]; omega
    clear r1 r2
    go_enter Tryd.func66, Tryd.ntmps66
    go_wp2_with fail
    go_ret
    exact ⟨rint (by have := hv.out; omega), rfl⟩
  · have hv : Hid (hexV n = -1) := Lib.hid (by
      unfold hexV
      repeat' split
      all_goals omega)
    have g48 : ((48 : Int) ≤ n) := by omega
    have g57 : ¬ ((n : Int) ≤ 57) := by omega
    have g97 : ¬ ((97 : Int) ≤ n) := by omega
    have g102 : ((n : Int) ≤ 102) := by omega
    have g65 : ¬ ((65 : Int) ≤ n) := by omega
    have g70 : ((n : Int) ≤ 70) := by omega
    clear r1 r2
    go_enter Tryd.func66, Tryd.ntmps66
    go_wp2_with fail
    go_ret
    exact ⟨rint (by have := hv.out; omega), rfl⟩
  · have hv : Hid (hexV n = (n : Int) - 55) := Lib.hid (by
      unfold hexV
      repeat' split
      all_goals omega)
    have g48 : ((48 : Int) ≤ n) := by omega
    have g57 : ¬ ((n : Int) ≤ 57) := by omega
    have g97 : ¬ ((97 : Int) ≤ n) := by omega
    have g102 : ((n : Int) ≤ 102) := by omega
    have g65 : ((65 : Int) ≤ n) := by omega
    have g70 : ((n : Int) ≤ 70) := by omega
    have q : IntKind.u8.wrap ((n : Int) - 65) = n - 65 := by rw [IntKind.wrap_u8]; omega
    clear r1 r2
    go_enter Tryd.func66, Tryd.ntmps66
    go_wp2_with fail
    go_ret
    exact ⟨rint (by have := hv.out; omega), rfl⟩
  · have hv : Hid (hexV n = -1) := Lib.hid (by
      unfold hexV
      repeat' split
      all_goals omega)
    have g48 : ((48 : Int) ≤ n) := by omega
    have g57 : ¬ ((n : Int) ≤ 57) := by omega
    have g97 : ¬ ((97 : Int) ≤ n) := by omega
    have g102 : ((n : Int) ≤ 102) := by omega
    have g65 : ((65 : Int) ≤ n) := by omega
    have g70 : ¬ ((n : Int) ≤ 70) := by omega
    clear r1 r2
    go_enter Tryd.func66, Tryd.ntmps66
    go_wp2_with fail
    go_ret
    exact ⟨rint (by have := hv.out; omega), rfl⟩
  · have hv : Hid (hexV n = (n : Int) - 87) := Lib.hid (by
      unfold hexV
      repeat' split
      all_goals omega)
    have g48 : ((48 : Int) ≤ n) := by omega
    have g57 : ¬ ((n : Int) ≤ 57) := by omega
    have g97 : ((97 : Int) ≤ n) := by omega
    have g102 : ((n : Int) ≤ 102) := by omega
    have g65 : ((65 : Int) ≤ n) := by omega
    have g70 : ¬ ((n : Int) ≤ 70) := by omega
    have q : IntKind.u8.wrap ((n : Int) - 97) = n - 97 := by rw [IntKind.wrap_u8]; omega
    clear r1 r2
    go_enter Tryd.func66, Tryd.ntmps66
    go_wp2_with fail
    go_ret
    exact ⟨rint (by have := hv.out; omega), rfl⟩
  · have hv : Hid (hexV n = -1) := Lib.hid (by
      unfold hexV
      repeat' split
      all_goals omega)
    have g48 : ((48 : Int) ≤ n) := by omega
    have g57 : ¬ ((n : Int) ≤ 57) := by omega
    have g97 : ((97 : Int) ≤ n) := by omega
    have g102 : ¬ ((n : Int) ≤ 102) := by omega
    have g65 : ((65 : Int) ≤ n) := by omega
    have g70 : ¬ ((n : Int) ≤ 70) := by omega
    clear r1 r2
    go_enter Tryd.func66, Tryd.ntmps66
    go_wp2_with fail
    go_ret
    exact ⟨rint (by have := hv.out; omega), rfl⟩
end Go.Proofs.YtjcaadihkbhlhaaDoor
