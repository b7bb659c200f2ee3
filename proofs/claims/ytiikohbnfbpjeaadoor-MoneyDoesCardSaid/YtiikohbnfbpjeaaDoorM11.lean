import Derived.Test.YtiikohbnfbpjeaaDoorM10
namespace Go.Proofs.YtiikohbnfbpjeaaDoor
open Go.RowKit
theorem chM_yes {m p : Int} (h : may m p = true) : chM m p = 0 := by unfold chM; rw [if_pos h]
theorem chM_no {m p : Int} (h : may m p = false) : chM m p = 140 := by unfold chM; rw [if_neg (by simp [h])]
theorem cm_no {m p n q : Int} (h : (may m p && may n q) = false) : cmV m p n q = 0 ∧ cmE m p n q = 140 := by unfold cmV cmE; rw [h]; exact ⟨rfl, rfl⟩
theorem cm_yes {m p n q : Int} (h : may m p = true) (g : may n q = true) : cmV m p n q = cmpI (vM m p) (vM n q) ∧ cmE m p n q = 0 := by unfold cmV cmE; rw [h, g]; exact ⟨rfl, rfl⟩
set_option maxRecDepth 20000 in
theorem compare_bad1 (m p n q : Int) (w : World) (h : may m p = false) :
    Calls Tryd.prog 13 #[.agg #[.int .i64 m, .int .i64 p], .agg #[.int .i64 n, .int .i64 q]] w fun e w' => e = .returned (.tuple #[.int .i64 0, .int .i64 140]) ∧ Below w.heap.size w w' := by
  have C1 := Lib.hid (fun W => check_any m p W)
  rw [chM_no h] at C1
  have P0 := Lib.hid (TwoM.new w m p n q)
  clear h
  go_enter Tryd.func13, Tryd.ntmps13
  go_wp2_with fail
  refine (C1.out _).mono ?_
  rintro e w1 ⟨rfl, b⟩
  have P1 := Lib.hid (P0.out.up b)
  clear b
  go_wp2_with fail
  go_ret2
  exact ⟨rfl, P1.out.2.2⟩
set_option maxRecDepth 20000 in
theorem compare_bad2 (m p n q : Int) (w : World) (h : may m p = true) (g : may n q = false) :
    Calls Tryd.prog 13 #[.agg #[.int .i64 m, .int .i64 p], .agg #[.int .i64 n, .int .i64 q]] w fun e w' => e = .returned (.tuple #[.int .i64 0, .int .i64 140]) ∧ Below w.heap.size w w' := by
  have C1 := Lib.hid (fun W => check_any m p W)
  rw [chM_yes h] at C1
  have C2 := Lib.hid (fun W => check_any n q W)
  rw [chM_no g] at C2
  have P0 := Lib.hid (TwoM.new w m p n q)
  clear h g
  go_enter Tryd.func13, Tryd.ntmps13
  go_wp2_with fail
  refine (C1.out _).mono ?_
  rintro e w1 ⟨rfl, b⟩
  have P1 := Lib.hid (P0.out.up b)
  obtain ⟨⟨d0, d1, -⟩, ⟨d2, d3, -⟩, -⟩ := P1.out
  clear b
  go_wp2_with fail
  clear d0 d1 d2 d3
  refine (C2.out _).mono ?_
  rintro e w2 ⟨rfl, b⟩
  have P2 := Lib.hid (P1.out.up b)
  clear b
  go_wp2_with fail
  go_ret2
  exact ⟨rfl, P2.out.2.2⟩
theorem sz_parts (n : Nat) (h : 0 < n) : ((hiW n : Nat) : Int) ≠ 0 ∨ ((hiW n : Nat) : Int) = 0 ∧ ((loW n : Nat) : Int) ≠ 0 := by
  unfold hiW loW M64; omega
set_option maxRecDepth 20000 in
theorem compare_ok (m p n q : Int) (w : World) (h : may m p = true) (g : may n q = true) (a1 : -9223372036854775808 ≤ m) (a2 : m < 9223372036854775808) (b1 : -9223372036854775808 ≤ n) (b2 : n < 9223372036854775808) :
    Calls Tryd.prog 13 #[.agg #[.int .i64 m, .int .i64 p], .agg #[.int .i64 n, .int .i64 q]] w fun e w' => e = .returned (.tuple #[.int .i64 (cmpI (vM m p) (vM n q)), .int .i64 0]) ∧ Below w.heap.size w w' := by
  have C1 := Lib.hid (fun W => check_any m p W)
  rw [chM_yes h] at C1
  have C2 := Lib.hid (fun W => check_any n q W)
  rw [chM_yes g] at C2
  obtain ⟨k, hk, h18, i1, i2, v1, v2⟩ := scale_both h g a1 a2 b1 b2
  have BO := Lib.hid (fun W => both_any m n p q k k rfl W i1 i2 hk h18)
  have u1 := up_bound k m p i1 h18
  have u2 := up_bound k n q i2 h18
  unfold up10 at BO
  obtain ⟨x, hx⟩ : ∃ x, x = m * 10 ^ (k - p.toNat) := ⟨_, rfl⟩
  obtain ⟨y, hy⟩ : ∃ y, y = n * 10 ^ (k - q.toNat) := ⟨_, rfl⟩
  rw [← hx] at BO u1 v1
  rw [← hy] at BO u2 v2
  have HR := Lib.hid (show cmpI (vM m p) (vM n q) = cmpI x y by rw [v1, v2]; exact cmpI_scale _ _ _ (Int.pow_pos (by decide)))
  rw [HR.out]
  have OP := Lib.hid (fun W => opp_any y W)
  have SM := Lib.hid (fun Y hY W => sum_any x (-y) Y hY W u1 (by rw [Int.natAbs_neg]; exact u2))
  obtain ⟨v, hv⟩ : ∃ v, v = x + -y := ⟨_, rfl⟩
  rw [← hv] at SM
  have HV := Lib.hid hv
  have P0 := Lib.hid (TwoM.new w m p n q)
  have SZ := Lib.hid size_any
  obtain ⟨X, hX⟩ : ∃ X, X = nv x := ⟨_, rfl⟩
  obtain ⟨Y, hY⟩ : ∃ Y, Y = nv y := ⟨_, rfl⟩
  rw [← hX] at BO SM
  rw [← hY] at BO OP
  obtain ⟨k', hk'⟩ : ∃ k' : Int, k' = k := ⟨_, rfl⟩
  rw [← hk'] at BO
  clear h g a1 a2 b1 b2 hk h18 i1 i2 v1 v2 u1 u2 hx hy hX hY hv hk'
  go_enter Tryd.func13, Tryd.ntmps13
  go_wp2_with fail
  refine (C1.out _).mono ?_
  rintro e w1 ⟨rfl, b⟩
  have P1 := Lib.hid (P0.out.up b)
  obtain ⟨⟨d0, d1, -⟩, ⟨d2, d3, -⟩, -⟩ := P1.out
  clear b
  go_wp2_with fail
  clear d0 d1 d2 d3
  refine (C2.out _).mono ?_
  rintro e w2 ⟨rfl, b⟩
  have P2 := Lib.hid (P1.out.up b)
  obtain ⟨⟨d0, d1, -⟩, ⟨d2, d3, -⟩, -⟩ := P2.out
  clear b
  go_wp2_with fail
  clear d0 d1 d2 d3
  refine (BO.out _).mono ?_
  rintro e w3 ⟨rfl, b⟩
  have P3 := Lib.hid (P2.out.up b)
  clear b
  go_wp2_with fail
  refine (OP.out _).mono ?_
  rintro e w4 ⟨⟨Z, rfl, hZ⟩, b⟩
  have P4 := Lib.hid (P3.out.up b)
  have SM2 := Lib.hid (fun W => SM.out Z hZ W)
  clear b hZ
  go_wp2_with fail
  refine (SM2.out _).mono ?_
  rintro e w5 ⟨rfl, b⟩
  have P5 := Lib.hid (P4.out.up b)
  clear b
  by_cases hv0 : v = 0
  · have HY : Hid (cmpI x y = 0) := Lib.hid (by unfold cmpI; rw [if_pos (by have := HV.out; omega)])
    rw [nv_pos 0 hv0]
    have t3 := meth67
    unfold sz
    rw [show ((hiW 0 : Nat) : Int) = 0 by decide, show ((loW 0 : Nat) : Int) = 0 by decide]
    clear hv0
    go_wp2_with fail
    refine (SZ.out 0 0 _).mono ?_
    rintro e w6 ⟨rfl, b⟩
    have P6 := Lib.hid (P5.out.up b)
    clear b
    go_wp2_with fail
    go_ret2
    exact ⟨ret_two HY.out.symm rfl, P6.out.2.2⟩
  · by_cases hlt : v < 0
    · have HY : Hid (cmpI x y = -1) := Lib.hid (by unfold cmpI; have := HV.out; rw [if_neg (by omega), if_pos (by omega)])
      obtain ⟨N, hN, hN0⟩ : ∃ N : Nat, v = -(N : Int) ∧ 0 < N := ⟨v.natAbs, by omega, by omega⟩
      rw [nv_neg N hN hN0]
      have t3 := meth65
      have t4 := as65_65
      have hp := sz_parts N hN0
      unfold sz
      obtain ⟨a, ha⟩ : ∃ a : Int, a = (hiW N : Nat) := ⟨_, rfl⟩
      obtain ⟨c, hc⟩ : ∃ a : Int, a = (loW N : Nat) := ⟨_, rfl⟩
      rw [← ha, ← hc] at hp ⊢
      clear hv0 hlt ha hc hN hN0
      go_wp2_with fail
      refine (SZ.out a c _).mono ?_
      rintro e w6 ⟨rfl, b⟩
      have P6 := Lib.hid (P5.out.up b)
      clear b
      rcases hp with hp | ⟨hp, hp2⟩
      · have e5 : (a == 0) = false := by simp [hp]
        clear hp
        go_wp2_with fail
        go_ret2
        exact ⟨ret_two HY.out.symm rfl, P6.out.2.2.alloc P6.out.2.2.size _⟩
      · subst hp
        have e5 : (c == 0) = false := by simp [hp2]
        clear hp2
        go_wp2_with fail
        go_ret2
        exact ⟨ret_two HY.out.symm rfl, P6.out.2.2.alloc P6.out.2.2.size _⟩
    · have HY : Hid (cmpI x y = 1) := Lib.hid (by unfold cmpI; have := HV.out; rw [if_neg (by omega), if_neg (by omega)])
      obtain ⟨N, hN, hN0⟩ : ∃ N : Nat, v = (N : Int) ∧ 0 < N := ⟨v.natAbs, by omega, by omega⟩
      rw [nv_pos N hN]
      have t3 := meth67
      have t4 := as67_65
      have hp := sz_parts N hN0
      unfold sz
      obtain ⟨a, ha⟩ : ∃ a : Int, a = (hiW N : Nat) := ⟨_, rfl⟩
      obtain ⟨c, hc⟩ : ∃ a : Int, a = (loW N : Nat) := ⟨_, rfl⟩
      rw [← ha, ← hc] at hp ⊢
      clear hv0 hlt ha hc hN hN0
      go_wp2_with fail
      refine (SZ.out a c _).mono ?_
      rintro e w6 ⟨rfl, b⟩
      have P6 := Lib.hid (P5.out.up b)
      clear b
      rcases hp with hp | ⟨hp, hp2⟩
      · have e5 : (a == 0) = false := by simp [hp]
        clear hp
        go_wp2_with fail
        go_ret2
        exact ⟨ret_two HY.out.symm rfl, P6.out.2.2.alloc P6.out.2.2.size _⟩
      · subst hp
        have e5 : (c == 0) = false := by simp [hp2]
        clear hp2
        go_wp2_with fail
        go_ret2
        exact ⟨ret_two HY.out.symm rfl, P6.out.2.2.alloc P6.out.2.2.size _⟩
theorem compare_any (m p n q : Int) (w : World) (a1 : -9223372036854775808 ≤ m) (a2 : m < 9223372036854775808) (b1 : -9223372036854775808 ≤ n) (b2 : n < 9223372036854775808) :
    Calls Tryd.prog 13 #[.agg #[.int .i64 m, .int .i64 p], .agg #[.int .i64 n, .int .i64 q]] w fun e w' => e = .returned (.tuple #[.int .i64 (cmV m p n q), .int .i64 (cmE m p n q)]) ∧ Below w.heap.size w w' := by
  cases h : may m p with
  | false => obtain ⟨e1, e2⟩ := cm_no (m := m) (p := p) (n := n) (q := q) (by rw [h]; rfl); rw [e1, e2]; exact compare_bad1 m p n q w h
  | true =>
    cases g : may n q with
    | false => obtain ⟨e1, e2⟩ := cm_no (m := m) (p := p) (n := n) (q := q) (by rw [h, g]; rfl); rw [e1, e2]; exact compare_bad2 m p n q w h g
    | true => obtain ⟨e1, e2⟩ := cm_yes h g; rw [e1, e2]; exact compare_ok m p n q w h g a1 a2 b1 b2
end Go.Proofs.YtiikohbnfbpjeaaDoor
