import Derived.Test.YtiikohbnfbpjeaaDoorM5
namespace Go.Proofs.YtiikohbnfbpjeaaDoor
open Go.RowKit
set_option maxRecDepth 20000 in
theorem fit_minus_over (n : Nat) (w : World) (h : 9223372036854775808 < n) (hh : n < M64) : Calls Tryd.prog 31 #[.iface 65 (sz n)] w fun e w' => e = .returned (.tuple #[.int .i64 (IntKind.i64.wrap (IntKind.u64.wrap (-(n : Int)))), .bool false]) ∧ Below w.heap.size w w' := by
  have SZ := Lib.hid (fun W => size_any (hiW n : Nat) (loW n : Nat) W)
  have t2 := as65_65
  have t3 := meth65
  unfold sz
  have e1 : ((hiW n : Nat) : Int) = 0 := by unfold hiW M64 at *; omega
  have e2 : ((loW n : Nat) : Int) = (n : Nat) := by unfold loW M64 at *; omega
  obtain ⟨z, e3⟩ : ∃ z, IntKind.i64.wrap (IntKind.u64.wrap (-(n : Int))) = z := ⟨_, rfl⟩
  rw [e3]
  have e4 : decide ((n : Int) ≤ 9223372036854775808) = false := decide_eq_false (by omega)
  have e5 : ¬ (n : Int) ≤ 9223372036854775808 := by omega
  rw [e1, e2] at SZ
  rw [e1, e2]
  clear e1 e2
  go_enter Tryd.func31, Tryd.ntmps31
  go_wp2_with fail
  refine (SZ.out _).mono ?_
  rintro e w1 ⟨rfl, q⟩
  have HB := Lib.hid q
  clear q
  go_wp2_with fail
  have HB5 := Lib.hid ((HB.out.alloc HB.out.size (.cells #[.int .u64 0, .int .u64 (n : Nat)] 60)).alloc (by have := HB.out.size; simp; omega) (.cells #[.int .u64 0, .int .u64 (n : Nat)] 65))
  go_quiet (fail)
  go_wp2_with fail
  go_ret2
  exact ⟨rfl, below_dr HB5.out _⟩
set_option maxRecDepth 20000 in
theorem fit_wide67 (n : Nat) (w : World) (h : M64 ≤ n) : Calls Tryd.prog 31 #[.iface 67 (sz n)] w fun e w' => e = .returned (.tuple #[.int .i64 0, .bool false]) ∧ Below w.heap.size w w' := by
  have SZ := Lib.hid (fun W => size_any (hiW n : Nat) (loW n : Nat) W)
  have t3 := meth67
  unfold sz
  have e1 : ((hiW n : Nat) : Int) ≠ 0 := by unfold hiW M64 at *; omega
  obtain ⟨a, ha⟩ : ∃ a : Int, a = (hiW n : Nat) := ⟨_, rfl⟩
  obtain ⟨b, hb⟩ : ∃ a : Int, a = (loW n : Nat) := ⟨_, rfl⟩
  rw [← ha, ← hb] at SZ
  rw [← ha] at e1
  rw [← ha, ← hb]
  have e4 : decide (a = 0) = false := decide_eq_false e1
  have e5 : (a == 0) = false := by simp [e1]
  clear ha hb
  go_enter Tryd.func31, Tryd.ntmps31
  go_wp2_with fail
  refine (SZ.out _).mono ?_
  rintro e w1 ⟨rfl, q⟩
  have HB := Lib.hid q
  clear q
  go_wp2_with fail
  have HB5 := Lib.hid (HB.out.alloc HB.out.size (.cells #[.int .u64 a, .int .u64 b] 60))
  go_ret2
  exact ⟨rfl, HB5.out⟩
set_option maxRecDepth 20000 in
theorem fit_wide65 (n : Nat) (w : World) (h : M64 ≤ n) : Calls Tryd.prog 31 #[.iface 65 (sz n)] w fun e w' => e = .returned (.tuple #[.int .i64 0, .bool false]) ∧ Below w.heap.size w w' := by
  have SZ := Lib.hid (fun W => size_any (hiW n : Nat) (loW n : Nat) W)
  have t3 := meth65
  unfold sz
  have e1 : ((hiW n : Nat) : Int) ≠ 0 := by unfold hiW M64 at *; omega
  obtain ⟨a, ha⟩ : ∃ a : Int, a = (hiW n : Nat) := ⟨_, rfl⟩
  obtain ⟨b, hb⟩ : ∃ a : Int, a = (loW n : Nat) := ⟨_, rfl⟩
  rw [← ha, ← hb] at SZ
  rw [← ha] at e1
  rw [← ha, ← hb]
  have e4 : decide (a = 0) = false := decide_eq_false e1
  have e5 : (a == 0) = false := by simp [e1]
  clear ha hb
  go_enter Tryd.func31, Tryd.ntmps31
  go_wp2_with fail
  refine (SZ.out _).mono ?_
  rintro e w1 ⟨rfl, q⟩
  have HB := Lib.hid q
  clear q
  go_wp2_with fail
  have HB5 := Lib.hid (HB.out.alloc HB.out.size (.cells #[.int .u64 a, .int .u64 b] 60))
  go_ret2
  exact ⟨rfl, HB5.out⟩
end Go.Proofs.YtiikohbnfbpjeaaDoor
