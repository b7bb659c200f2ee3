import Derived.Test.YtiikohbnfbpjeaaDoorM4
namespace Go.Proofs.YtiikohbnfbpjeaaDoor
open Go.RowKit
theorem below_dr {B : Nat} {w w1 : World} (h : Below B w w1) (n : Nat) : Below B w (w1.drewN n) := by
  induction n with
  | zero => exact h
  | succ n ih => exact ih.drew
set_option maxRecDepth 20000 in
theorem fit_plus (n : Nat) (w : World) (h : n < 9223372036854775808) : Calls Tryd.prog 31 #[.iface 67 (sz n)] w fun e w' => e = .returned (.tuple #[.int .i64 (n : Nat), .bool true]) ∧ Below w.heap.size w w' := by
  have SZ := Lib.hid (fun W => size_any (hiW n : Nat) (loW n : Nat) W)
  have t2 := as67_65
  have t3 := meth67
  unfold sz
  have e1 : ((hiW n : Nat) : Int) = 0 := by unfold hiW M64; omega
  have e2 : ((loW n : Nat) : Int) = (n : Nat) := by unfold loW M64; omega
  have e3 : IntKind.i64.wrap (n : Int) = n := by rw [IntKind.wrap_i64]; omega
  have e4 : decide ((n : Int) < 9223372036854775808) = true := decide_eq_true (by omega)
  have e5 : (n : Int) < 9223372036854775808 := by omega
  rw [e1, e2] at SZ
  rw [e1, e2]
  clear e1 e2
  go_enter Tryd.func31, Tryd.ntmps31
  go_wp2_with fail
  refine (SZ.out _).mono ?_
  rintro e w1 ⟨rfl, q⟩
  have HB := Lib.hid q
  clear q
  go_wp2_with fail
  have HB5 := Lib.hid ((HB.out.alloc HB.out.size (.cells #[.int .u64 0, .int .u64 (n : Nat)] 60)).alloc (by have := HB.out.size; simp; omega) (.cells #[.int .u64 0, .int .u64 0] 65))
  go_quiet (fail)
  go_wp2_with fail
  go_ret2
  exact ⟨rfl, below_dr HB5.out _⟩
set_option maxRecDepth 20000 in
theorem fit_minus (n : Nat) (w : World) (h : n ≤ 9223372036854775808) : Calls Tryd.prog 31 #[.iface 65 (sz n)] w fun e w' => e = .returned (.tuple #[.int .i64 (-(n : Int)), .bool true]) ∧ Below w.heap.size w w' := by
  have SZ := Lib.hid (fun W => size_any (hiW n : Nat) (loW n : Nat) W)
  have t2 := as65_65
  have t3 := meth65
  unfold sz
  have e1 : ((hiW n : Nat) : Int) = 0 := by unfold hiW M64; omega
  have e2 : ((loW n : Nat) : Int) = (n : Nat) := by unfold loW M64; omega
  have e3 : IntKind.i64.wrap (IntKind.u64.wrap (-(n : Int))) = -(n : Int) := by rw [IntKind.wrap_i64, IntKind.wrap_u64]; omega
  have e4 : decide ((n : Int) ≤ 9223372036854775808) = true := decide_eq_true (by omega)
  have e5 : (n : Int) ≤ 9223372036854775808 := by omega
  rw [e1, e2] at SZ
  rw [e1, e2]
  clear e1 e2
  go_enter Tryd.func31, Tryd.ntmps31
  go_wp2_with fail
  refine (SZ.out _).mono ?_
  rintro e w1 ⟨rfl, q⟩
  have HB := Lib.hid q
  clear q
  go_wp2_with fail
  have HB5 := Lib.hid ((HB.out.alloc HB.out.size (.cells #[.int .u64 0, .int .u64 (n : Nat)] 60)).alloc (by have := HB.out.size; simp; omega) (.cells #[.int .u64 0, .int .u64 (n : Nat)] 65))
  go_quiet (fail)
  go_wp2_with fail
  go_ret2
  exact ⟨rfl, below_dr HB5.out _⟩
set_option maxRecDepth 20000 in
theorem fit_plus_over (n : Nat) (w : World) (h : 9223372036854775808 ≤ n) (hh : n < M64) : Calls Tryd.prog 31 #[.iface 67 (sz n)] w fun e w' => e = .returned (.tuple #[.int .i64 (IntKind.i64.wrap (n : Nat)), .bool false]) ∧ Below w.heap.size w w' := by
  have SZ := Lib.hid (fun W => size_any (hiW n : Nat) (loW n : Nat) W)
  have t2 := as67_65
  have t3 := meth67
  unfold sz
  have e1 : ((hiW n : Nat) : Int) = 0 := by unfold hiW M64 at *; omega
  have e2 : ((loW n : Nat) : Int) = (n : Nat) := by unfold loW M64 at *; omega
  obtain ⟨z, e3⟩ : ∃ z, IntKind.i64.wrap (n : Int) = z := ⟨_, rfl⟩
  rw [e3]
  have e4 : decide ((n : Int) < 9223372036854775808) = false := decide_eq_false (by omega)
  have e5 : ¬ (n : Int) < 9223372036854775808 := by omega
  rw [e1, e2] at SZ
  rw [e1, e2]
  clear e1 e2
  go_enter Tryd.func31, Tryd.ntmps31
  go_wp2_with fail
  refine (SZ.out _).mono ?_
  rintro e w1 ⟨rfl, q⟩
  have HB := Lib.hid q
  clear q
  go_wp2_with fail
  have HB5 := Lib.hid ((HB.out.alloc HB.out.size (.cells #[.int .u64 0, .int .u64 (n : Nat)] 60)).alloc (by have := HB.out.size; simp; omega) (.cells #[.int .u64 0, .int .u64 0] 65))
  go_quiet (fail)
  go_wp2_with fail
  go_ret2
  exact ⟨rfl, below_dr HB5.out _⟩
end Go.Proofs.YtiikohbnfbpjeaaDoor
