import Derived.Test.YtepjehneembakaaE21
import Derived.Test.YtepjehneembakaaE18
namespace Go.Proofs.Ytepjehneembakaa
open Go.RowKit

set_option maxRecDepth 100000 in
set_option maxHeartbeats 8000000 in
theorem tells_walk (s : ByteArray) (t : Int) (w : World) (hs : s.size ≤ maxLen) (t0 : -9223372036854775808 ≤ t) (t1 : t ≤ 9223372036854775807) :
    Calls Try.prog 4 #[.string s, .int .i64 t] w fun e w' => e = .returned (.bool true) ∧ Below w.heap.size w w' := by
  by_cases h1 : 3000 < s.size ∧ s.size ≤ 16384 ∨ 17000 < s.size
  · unfold maxLen at hs
    rcases h1 with ⟨h1, h2⟩ | h1
    · go_enter Try.func4, Try.ntmps4
      go_wp2_with fail
      go_ret
      exact ⟨rfl, Below.refl _ _⟩
    · go_enter Try.func4, Try.ntmps4
      go_wp2_with fail
      go_ret
      exact ⟨rfl, Below.refl _ _⟩
  · have h17 : s.size ≤ 17000 := by omega
    have hor : s.size ≤ 3000 ∨ 16384 < s.size := by omega
    have HS := Lib.hid hs
    have HM : Hid (s.size ≤ 1000000) := Lib.hid (by omega)
    obtain ⟨x1, hx1⟩ : ∃ x, x = nxP s t := ⟨_, rfl⟩
    obtain ⟨x2, hx2⟩ : ∃ x, x = nxN s t := ⟨_, rfl⟩
    obtain ⟨x3, hx3⟩ : ∃ x, x = nxE s t := ⟨_, rfl⟩
    obtain ⟨y1, hy1⟩ : ∃ x, x = bkP s t := ⟨_, rfl⟩
    obtain ⟨y2, hy2⟩ : ∃ x, x = bkN s t := ⟨_, rfl⟩
    obtain ⟨y3, hy3⟩ : ∃ x, x = bkE s t := ⟨_, rfl⟩
    obtain ⟨z1, hz1⟩ : ∃ x, x = whL s t := ⟨_, rfl⟩
    obtain ⟨z2, hz2⟩ : ∃ x, x = whC s t := ⟨_, rfl⟩
    obtain ⟨z3, hz3⟩ : ∃ x, x = whE s t := ⟨_, rfl⟩
    obtain ⟨c1, hc1⟩ : ∃ x, x = cntN s := ⟨_, rfl⟩
    obtain ⟨c2, hc2⟩ : ∃ x, x = ckE s := ⟨_, rfl⟩
    have X1 := Lib.hid hx1
    have X2 := Lib.hid hx2
    have X3 := Lib.hid hx3
    have Y1 := Lib.hid hy1
    have Y2 := Lib.hid hy2
    have Y3 := Lib.hid hy3
    have Z1 := Lib.hid hz1
    have Z2 := Lib.hid hz2
    have Z3 := Lib.hid hz3
    have C1 := Lib.hid hc1
    have C2 := Lib.hid hc2
    clear hx1 hx2 hx3 hy1 hy2 hy3 hz1 hz2 hz3 hc1 hc2 h1 hs
    have HOR := Lib.hid hor
    go_enter Try.func4, Try.ntmps4
    rcases hor with h3 | h3
    all_goals
      go_wp2_with fail
      refine (next_any s t _ HS.out).mono ?_
      rintro e w1 ⟨rfl, b1⟩
      rw [← X1.out, ← X2.out, ← X3.out]
      have B1 := Lib.hid b1
      clear b1
      go_wp2_with fail
      refine (rnext_any s t _ HM.out).mono ?_
      rintro e w2 ⟨rfl, b2⟩
      rw [← X1.out, ← X2.out, ← X3.out]
      have B2 := Lib.hid (B1.out.trans (b2.mono B1.out.size))
      clear b2
      go_wp2_with fail
      refine (back_any s t _ HS.out).mono ?_
      rintro e w3 ⟨rfl, b3⟩
      rw [← Y1.out, ← Y2.out, ← Y3.out]
      have B3 := Lib.hid (B2.out.trans (b3.mono B2.out.size))
      clear b3
      go_wp2_with fail
      refine (rback_any s t _ HM.out).mono ?_
      rintro e w4 ⟨rfl, b4⟩
      rw [← Y1.out, ← Y2.out, ← Y3.out]
      have B4 := Lib.hid (B3.out.trans (b4.mono B3.out.size))
      clear b4
      go_wp2_with fail
      refine (where_any s t _ HS.out t0 t1).mono ?_
      rintro e w5 ⟨rfl, b5⟩
      rw [← Z1.out, ← Z2.out, ← Z3.out]
      have B5 := Lib.hid (B4.out.trans (b5.mono B4.out.size))
      clear b5
      go_wp2_with fail
      refine (rwhere_any s t _ HM.out t0 t1).mono ?_
      rintro e w6 ⟨rfl, b6⟩
      rw [← Z1.out, ← Z2.out, ← Z3.out]
      have B6 := Lib.hid (B5.out.trans (b6.mono B5.out.size))
      clear b6
      go_wp2_with fail
      refine (count_any s _ HS.out).mono ?_
      rintro e w7 ⟨rfl, b7⟩
      rw [← C1.out, ← C2.out]
      have B7 := Lib.hid (B6.out.trans (b7.mono B6.out.size))
      clear b7
      go_wp2_with fail
      refine (rcount_any s _ HM.out).mono ?_
      rintro e w8 ⟨rfl, b8⟩
      rw [← C1.out, ← C2.out]
      have B8 := Lib.hid (B7.out.trans (b8.mono B7.out.size))
      clear b8
      go_wp2_with fail
      refine (check_any s _ HS.out).mono ?_
      rintro e w9 ⟨rfl, b9⟩
      rw [← C2.out]
      have B9 := Lib.hid (B8.out.trans (b9.mono B8.out.size))
      clear b9
      go_wp2_with fail
      refine (rcheck_any s _ HM.out).mono ?_
      rintro e w10 ⟨rfl, b10⟩
      rw [← C2.out]
      have B10 := Lib.hid (B9.out.trans (b10.mono B9.out.size))
      clear b10
      go_wp2_with fail
      go_ret
      exact ⟨rfl, B10.out⟩
end Go.Proofs.Ytepjehneembakaa
