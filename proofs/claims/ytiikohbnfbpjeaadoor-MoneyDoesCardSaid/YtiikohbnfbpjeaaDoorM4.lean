import Derived.Test.YtiikohbnfbpjeaaDoorM3
namespace Go.Proofs.YtiikohbnfbpjeaaDoor
open Go.RowKit
set_option maxRecDepth 20000 in
theorem sum_pp (n m : Nat) (w : World) (h : n + m < M64 * M64) : Calls Tryd.prog 29 #[.iface 67 (sz n), .iface 67 (sz m)] w fun e w' => e = .returned (.iface 67 (sz (n + m))) ∧ Below w.heap.size w w' := by
  have HC := Lib.hid (fun W => addS n m W h)
  unfold sz at HC ⊢
  obtain ⟨a, ha⟩ : ∃ a : Int, a = (hiW n : Nat) := ⟨_, rfl⟩
  obtain ⟨b, hb⟩ : ∃ a : Int, a = (loW n : Nat) := ⟨_, rfl⟩
  obtain ⟨c, hc⟩ : ∃ a : Int, a = (hiW m : Nat) := ⟨_, rfl⟩
  obtain ⟨d, hd⟩ : ∃ a : Int, a = (loW m : Nat) := ⟨_, rfl⟩
  rw [← ha, ← hb, ← hc, ← hd] at HC
  rw [← ha, ← hb, ← hc, ← hd]
  clear ha hb hc hd
  have t1 := as67_67
  have t2 := as67_65
  have t3 := as67_67
  have t4 := as67_65
  have HB0 := Lib.hid (((Below.refl _ w).alloc (Nat.le_refl _) (.cells #[.int .u64 a, .int .u64 b] 67)).alloc (by simp) (.cells #[.int .u64 c, .int .u64 d] 67))
  go_enter Tryd.func29, Tryd.ntmps29
  go_wp2_with fail
  refine (HC.out _).mono ?_
  rintro e w1 ⟨rfl, q⟩
  have HB2 := Lib.hid (HB0.out.trans (q.mono (by simp; omega)))
  clear q
  go_wp2_with fail
  go_ret
  exact ⟨rfl, HB2.out⟩
set_option maxRecDepth 20000 in
theorem sum_mm (n m : Nat) (w : World) (h : n + m < M64 * M64) : Calls Tryd.prog 29 #[.iface 65 (sz n), .iface 65 (sz m)] w fun e w' => e = .returned (.iface 65 (sz (n + m))) ∧ Below w.heap.size w w' := by
  have HC := Lib.hid (fun W => addS n m W h)
  unfold sz at HC ⊢
  obtain ⟨a, ha⟩ : ∃ a : Int, a = (hiW n : Nat) := ⟨_, rfl⟩
  obtain ⟨b, hb⟩ : ∃ a : Int, a = (loW n : Nat) := ⟨_, rfl⟩
  obtain ⟨c, hc⟩ : ∃ a : Int, a = (hiW m : Nat) := ⟨_, rfl⟩
  obtain ⟨d, hd⟩ : ∃ a : Int, a = (loW m : Nat) := ⟨_, rfl⟩
  rw [← ha, ← hb, ← hc, ← hd] at HC
  rw [← ha, ← hb, ← hc, ← hd]
  clear ha hb hc hd
  have t1 := as65_67
  have t2 := as65_65
  have t3 := as65_67
  have t4 := as65_65
  have HB0 := Lib.hid (((Below.refl _ w).alloc (Nat.le_refl _) (.cells #[.int .u64 a, .int .u64 b] 65)).alloc (by simp) (.cells #[.int .u64 c, .int .u64 d] 65))
  go_enter Tryd.func29, Tryd.ntmps29
  go_wp2_with fail
  refine (HC.out _).mono ?_
  rintro e w1 ⟨rfl, q⟩
  have HB2 := Lib.hid (HB0.out.trans (q.mono (by simp; omega)))
  clear q
  go_wp2_with fail
  go_ret
  exact ⟨rfl, HB2.out⟩
set_option maxRecDepth 20000 in
theorem sum_pm_less (n m : Nat) (w : World) (h : n < m) (hm : m < M64 * M64) : Calls Tryd.prog 29 #[.iface 67 (sz n), .iface 65 (sz m)] w fun e w' => e = .returned (.iface 65 (sz (m - n))) ∧ Below w.heap.size w w' := by
  have HC := Lib.hid (fun W => apart_less n m W h hm)
  unfold sz at HC ⊢
  obtain ⟨a, ha⟩ : ∃ a : Int, a = (hiW n : Nat) := ⟨_, rfl⟩
  obtain ⟨b, hb⟩ : ∃ a : Int, a = (loW n : Nat) := ⟨_, rfl⟩
  obtain ⟨c, hc⟩ : ∃ a : Int, a = (hiW m : Nat) := ⟨_, rfl⟩
  obtain ⟨d, hd⟩ : ∃ a : Int, a = (loW m : Nat) := ⟨_, rfl⟩
  rw [← ha, ← hb, ← hc, ← hd] at HC
  rw [← ha, ← hb, ← hc, ← hd]
  clear ha hb hc hd
  have t1 := as67_67
  have t2 := as67_65
  have t3 := as65_67
  have t4 := as65_65
  have HB0 := Lib.hid (((Below.refl _ w).alloc (Nat.le_refl _) (.cells #[.int .u64 a, .int .u64 b] 67)).alloc (by simp) (.cells #[.int .u64 c, .int .u64 d] 65))
  go_enter Tryd.func29, Tryd.ntmps29
  go_wp2_with fail
  refine (HC.out _).mono ?_
  rintro e w1 ⟨rfl, q⟩
  have HB2 := Lib.hid (HB0.out.trans (q.mono (by simp; omega)))
  clear q
  go_wp2_with fail
  go_ret
  exact ⟨rfl, HB2.out⟩
set_option maxRecDepth 20000 in
theorem sum_pm_more (n m : Nat) (w : World) (h : m ≤ n) (hn : n < M64 * M64) : Calls Tryd.prog 29 #[.iface 67 (sz n), .iface 65 (sz m)] w fun e w' => e = .returned (.iface 67 (sz (n - m))) ∧ Below w.heap.size w w' := by
  have HC := Lib.hid (fun W => apart_more n m W h hn)
  unfold sz at HC ⊢
  obtain ⟨a, ha⟩ : ∃ a : Int, a = (hiW n : Nat) := ⟨_, rfl⟩
  obtain ⟨b, hb⟩ : ∃ a : Int, a = (loW n : Nat) := ⟨_, rfl⟩
  obtain ⟨c, hc⟩ : ∃ a : Int, a = (hiW m : Nat) := ⟨_, rfl⟩
  obtain ⟨d, hd⟩ : ∃ a : Int, a = (loW m : Nat) := ⟨_, rfl⟩
  rw [← ha, ← hb, ← hc, ← hd] at HC
  rw [← ha, ← hb, ← hc, ← hd]
  clear ha hb hc hd
  have t1 := as67_67
  have t2 := as67_65
  have t3 := as65_67
  have t4 := as65_65
  have HB0 := Lib.hid (((Below.refl _ w).alloc (Nat.le_refl _) (.cells #[.int .u64 a, .int .u64 b] 67)).alloc (by simp) (.cells #[.int .u64 c, .int .u64 d] 65))
  go_enter Tryd.func29, Tryd.ntmps29
  go_wp2_with fail
  refine (HC.out _).mono ?_
  rintro e w1 ⟨rfl, q⟩
  have HB2 := Lib.hid (HB0.out.trans (q.mono (by simp; omega)))
  clear q
  go_wp2_with fail
  go_ret
  exact ⟨rfl, HB2.out⟩
set_option maxRecDepth 20000 in
theorem sum_mp_less (n m : Nat) (w : World) (h : m < n) (hn : n < M64 * M64) : Calls Tryd.prog 29 #[.iface 65 (sz n), .iface 67 (sz m)] w fun e w' => e = .returned (.iface 65 (sz (n - m))) ∧ Below w.heap.size w w' := by
  have HC := Lib.hid (fun W => apart_less m n W h hn)
  unfold sz at HC ⊢
  obtain ⟨a, ha⟩ : ∃ a : Int, a = (hiW n : Nat) := ⟨_, rfl⟩
  obtain ⟨b, hb⟩ : ∃ a : Int, a = (loW n : Nat) := ⟨_, rfl⟩
  obtain ⟨c, hc⟩ : ∃ a : Int, a = (hiW m : Nat) := ⟨_, rfl⟩
  obtain ⟨d, hd⟩ : ∃ a : Int, a = (loW m : Nat) := ⟨_, rfl⟩
  rw [← ha, ← hb, ← hc, ← hd] at HC
  rw [← ha, ← hb, ← hc, ← hd]
  clear ha hb hc hd
  have t1 := as65_67
  have t2 := as65_65
  have t3 := as67_67
  have t4 := as67_65
  have HB0 := Lib.hid (((Below.refl _ w).alloc (Nat.le_refl _) (.cells #[.int .u64 a, .int .u64 b] 65)).alloc (by simp) (.cells #[.int .u64 c, .int .u64 d] 67))
  go_enter Tryd.func29, Tryd.ntmps29
  go_wp2_with fail
  refine (HC.out _).mono ?_
  rintro e w1 ⟨rfl, q⟩
  have HB2 := Lib.hid (HB0.out.trans (q.mono (by simp; omega)))
  clear q
  go_wp2_with fail
  go_ret
  exact ⟨rfl, HB2.out⟩
set_option maxRecDepth 20000 in
theorem sum_mp_more (n m : Nat) (w : World) (h : n ≤ m) (hm : m < M64 * M64) : Calls Tryd.prog 29 #[.iface 65 (sz n), .iface 67 (sz m)] w fun e w' => e = .returned (.iface 67 (sz (m - n))) ∧ Below w.heap.size w w' := by
  have HC := Lib.hid (fun W => apart_more m n W h hm)
  unfold sz at HC ⊢
  obtain ⟨a, ha⟩ : ∃ a : Int, a = (hiW n : Nat) := ⟨_, rfl⟩
  obtain ⟨b, hb⟩ : ∃ a : Int, a = (loW n : Nat) := ⟨_, rfl⟩
  obtain ⟨c, hc⟩ : ∃ a : Int, a = (hiW m : Nat) := ⟨_, rfl⟩
  obtain ⟨d, hd⟩ : ∃ a : Int, a = (loW m : Nat) := ⟨_, rfl⟩
  rw [← ha, ← hb, ← hc, ← hd] at HC
  rw [← ha, ← hb, ← hc, ← hd]
  clear ha hb hc hd
  have t1 := as65_67
  have t2 := as65_65
  have t3 := as67_67
  have t4 := as67_65
  have HB0 := Lib.hid (((Below.refl _ w).alloc (Nat.le_refl _) (.cells #[.int .u64 a, .int .u64 b] 65)).alloc (by simp) (.cells #[.int .u64 c, .int .u64 d] 67))
  go_enter Tryd.func29, Tryd.ntmps29
  go_wp2_with fail
  refine (HC.out _).mono ?_
  rintro e w1 ⟨rfl, q⟩
  have HB2 := Lib.hid (HB0.out.trans (q.mono (by simp; omega)))
  clear q
  go_wp2_with fail
  go_ret
  exact ⟨rfl, HB2.out⟩
end Go.Proofs.YtiikohbnfbpjeaaDoor
