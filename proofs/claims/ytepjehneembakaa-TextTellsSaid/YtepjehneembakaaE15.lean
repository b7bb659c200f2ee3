import Derived.Test.YtepjehneembakaaE14
import Derived.Test.YtepjehneembakaaPlain5
import Derived.Deep.RegionWith
namespace Go.Proofs.Ytepjehneembakaa
open Go.RowKit

theorem m0_range (s : ByteArray) (a z : Nat) : 0 ≤ m0 (byt s a) z ∧ m0 (byt s a) z < 256 := by
  have := byt_range s a
  unfold m0; (repeat' split) <;> omega
theorem acc_lt (s : ByteArray) (a : Nat) (p : Int) (h0 : 0 ≤ p) (h1 : p < 256) : ∀ k, k ≤ 3 → 0 ≤ acc s a p k ∧ acc s a p k < 67108864 := by
  intro k hk
  match k, hk with
  | 0, _ => simp [acc]; omega
  | 1, _ => simp only [acc]; omega
  | 2, _ => simp only [acc]; omega
  | 3, _ => simp only [acc]; omega

theorem number_any (s : ByteArray) (a z : Nat) (av zv : Int) (w : World) (hav : av = a) (hzv : zv = z) (hz1 : 1 ≤ z) (hz4 : z ≤ 4) (hs : s.size ≤ maxLen) (ha : a + z ≤ s.size) :
    Calls Try.prog 36 #[.string s, .int .i64 av, .int .i64 zv] w fun e w' => e = .returned (.int .i64 (numN s a z)) ∧ w = w' := by
  subst hav
  unfold maxLen at hs
  have hlt : a < s.size := by omega
  have hbk := byt_eq s a hlt
  have hbr := byt_range s a
  have HM0 := Lib.hid (m0_range s a z)
  obtain ⟨b, hb⟩ : ∃ b, b = byt s a := ⟨_, rfl⟩
  rw [← hb] at hbk hbr
  have HB := Lib.hid hb
  have HN : Hid (numN s a z = acc s (a + 1) (m0 b z) (z - 1)) := Lib.hid (by rw [hb]; rfl)
  have hMB : m0 b z = if z = 2 then b % 32 else if z = 3 then b % 16 else if z = 4 then b % 8 else b := rfl
  obtain ⟨m, hm⟩ : ∃ m, m = m0 b z := ⟨_, rfl⟩
  rw [← hm] at HN hMB
  have HMR : Hid (0 ≤ m ∧ m < 256) := Lib.hid (by rw [hm, hb]; exact HM0.out)
  clear hm hb HM0
  rcases (show z = 1 ∨ z = 2 ∨ z = 3 ∨ z = 4 by omega) with rfl | rfl | rfl | rfl
  · simp at hMB
    obtain rfl : zv = 1 := by omega
    have HMB := Lib.hid hMB
    clear hMB hzv
    go_enter Try.func36, Try.ntmps36
    go_wp2_with fail
    rw [← HMB.out]
    go_loopw [7, 8] (fun n i wr => ∃ j : Nat, j + 1 ≤ 1 ∧ i = .int .i64 ((j : Int) + 1) ∧ n = .int .i64 (acc s (a + 1) m j) ∧ w = wr) (fun _ i _ => 1 - (intOf i).toNat)
    case atStart => exact ⟨0, by omega, rfl, rfl, rfl⟩
    case round =>
      obtain ⟨j, hj, rfl, rfl, rfl⟩ := hrel
      by_cases hlt : j + 1 < 1
      · omega
      · obtain rfl : j = 0 := by omega
        go_wp2_with fail
        go_ret
        exact ⟨ret_int HN.out.symm, rfl⟩
  · simp at hMB
    obtain rfl : zv = 2 := by omega
    have HMB := Lib.hid hMB
    clear hMB hzv
    go_enter Try.func36, Try.ntmps36
    go_wp2_with fail
    rw [← HMB.out]
    go_loopw [7, 8] (fun n i wr => ∃ j : Nat, j + 1 ≤ 2 ∧ i = .int .i64 ((j : Int) + 1) ∧ n = .int .i64 (acc s (a + 1) m j) ∧ w = wr) (fun _ i _ => 2 - (intOf i).toNat)
    case atStart => exact ⟨0, by omega, rfl, rfl, rfl⟩
    case round =>
      obtain ⟨j, hj, rfl, rfl, rfl⟩ := hrel
      by_cases hlt : j + 1 < 2
      · have hin : a + 1 + j < s.size := by omega
        have hbj := byt_eq s (a + 1 + j) hin
        have hrj := byt_range s (a + 1 + j)
        have hac := acc_lt s (a + 1) m HMR.out.1 HMR.out.2 j (by omega)
        have hstep : acc s (a + 1) m (j + 1) = acc s (a + 1) m j * 64 + byt s (a + 1 + j) % 64 := rfl
        obtain ⟨x, hx⟩ : ∃ x, x = byt s (a + 1 + j) := ⟨_, rfl⟩
        obtain ⟨y, hy⟩ : ∃ y, y = acc s (a + 1) m j := ⟨_, rfl⟩
        rw [← hx] at hbj hrj hstep
        rw [← hy] at hac hstep
        rw [← hy]
        have HST := Lib.hid hstep
        have hlt' : (j : Int) + 1 < 2 := by omega
        have hnat : a + (j + 1) = a + 1 + j := by omega
        clear hx hy hstep
        go_wp2_with fail
        go_roundw
        case rel => exact ⟨j + 1, by omega, by go_num, by rw [HST.out]; go_num, trivial⟩
        case measure => simp [intOf]; omega
      · obtain rfl : j = 1 := by omega
        go_wp2_with fail
        go_ret
        exact ⟨ret_int HN.out.symm, rfl⟩
  · simp at hMB
    obtain rfl : zv = 3 := by omega
    have HMB := Lib.hid hMB
    clear hMB hzv
    go_enter Try.func36, Try.ntmps36
    go_wp2_with fail
    rw [← HMB.out]
    go_loopw [7, 8] (fun n i wr => ∃ j : Nat, j + 1 ≤ 3 ∧ i = .int .i64 ((j : Int) + 1) ∧ n = .int .i64 (acc s (a + 1) m j) ∧ w = wr) (fun _ i _ => 3 - (intOf i).toNat)
    case atStart => exact ⟨0, by omega, rfl, rfl, rfl⟩
    case round =>
      obtain ⟨j, hj, rfl, rfl, rfl⟩ := hrel
      by_cases hlt : j + 1 < 3
      · have hin : a + 1 + j < s.size := by omega
        have hbj := byt_eq s (a + 1 + j) hin
        have hrj := byt_range s (a + 1 + j)
        have hac := acc_lt s (a + 1) m HMR.out.1 HMR.out.2 j (by omega)
        have hstep : acc s (a + 1) m (j + 1) = acc s (a + 1) m j * 64 + byt s (a + 1 + j) % 64 := rfl
        obtain ⟨x, hx⟩ : ∃ x, x = byt s (a + 1 + j) := ⟨_, rfl⟩
        obtain ⟨y, hy⟩ : ∃ y, y = acc s (a + 1) m j := ⟨_, rfl⟩
        rw [← hx] at hbj hrj hstep
        rw [← hy] at hac hstep
        rw [← hy]
        have HST := Lib.hid hstep
        have hlt' : (j : Int) + 1 < 3 := by omega
        have hnat : a + (j + 1) = a + 1 + j := by omega
        clear hx hy hstep
        go_wp2_with fail
        go_roundw
        case rel => exact ⟨j + 1, by omega, by go_num, by rw [HST.out]; go_num, trivial⟩
        case measure => simp [intOf]; omega
      · obtain rfl : j = 2 := by omega
        go_wp2_with fail
        go_ret
        exact ⟨ret_int HN.out.symm, rfl⟩
  · simp at hMB
    obtain rfl : zv = 4 := by omega
    have HMB := Lib.hid hMB
    clear hMB hzv
    go_enter Try.func36, Try.ntmps36
    go_wp2_with fail
    rw [← HMB.out]
    go_loopw [7, 8] (fun n i wr => ∃ j : Nat, j + 1 ≤ 4 ∧ i = .int .i64 ((j : Int) + 1) ∧ n = .int .i64 (acc s (a + 1) m j) ∧ w = wr) (fun _ i _ => 4 - (intOf i).toNat)
    case atStart => exact ⟨0, by omega, rfl, rfl, rfl⟩
    case round =>
      obtain ⟨j, hj, rfl, rfl, rfl⟩ := hrel
      by_cases hlt : j + 1 < 4
      · have hin : a + 1 + j < s.size := by omega
        have hbj := byt_eq s (a + 1 + j) hin
        have hrj := byt_range s (a + 1 + j)
        have hac := acc_lt s (a + 1) m HMR.out.1 HMR.out.2 j (by omega)
        have hstep : acc s (a + 1) m (j + 1) = acc s (a + 1) m j * 64 + byt s (a + 1 + j) % 64 := rfl
        obtain ⟨x, hx⟩ : ∃ x, x = byt s (a + 1 + j) := ⟨_, rfl⟩
        obtain ⟨y, hy⟩ : ∃ y, y = acc s (a + 1) m j := ⟨_, rfl⟩
        rw [← hx] at hbj hrj hstep
        rw [← hy] at hac hstep
        rw [← hy]
        have HST := Lib.hid hstep
        have hlt' : (j : Int) + 1 < 4 := by omega
        have hnat : a + (j + 1) = a + 1 + j := by omega
        clear hx hy hstep
        go_wp2_with fail
        go_roundw
        case rel => exact ⟨j + 1, by omega, by go_num, by rw [HST.out]; go_num, trivial⟩
        case measure => simp [intOf]; omega
      · obtain rfl : j = 3 := by omega
        go_wp2_with fail
        go_ret
        exact ⟨ret_int HN.out.symm, rfl⟩
end Go.Proofs.Ytepjehneembakaa
