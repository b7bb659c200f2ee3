import Derived.Test.YtfphejndbnmfeaaDoorD28
import Derived.Test.YtfphejndbnmfeaaDoorD12
namespace Go.Proofs.YtfphejndbnmfeaaDoor
open Go.RowKit

theorem okN_numR (s : ByteArray) (p k lo hi : Nat) : okN s p k lo hi = decide ((lo : Int) ≤ numR s p k ∧ numR s p k ≤ hi) := by
  unfold okN numR
  cases h : digs s p k with
  | false =>
    rw [if_neg (by simp)]
    exact (decide_eq_false (by omega)).symm
  | true =>
    rw [if_pos rfl, Bool.true_and]
    by_cases g : lo ≤ numv s p k ∧ numv s p k ≤ hi
    · rw [decide_eq_true g, decide_eq_true (by omega)]
    · rw [decide_eq_false g, decide_eq_false (by omega)]
theorem numR_two (s : ByteArray) (p : Nat) : -1 ≤ numR s p 2 ∧ numR s p 2 ≤ 99 := by
  unfold numR
  split
  · have := numv_lt s p 2 (by assumption); omega
  · omega
/-- Does an end of a text tell an offset? -/
def offB (o : ByteArray) : Bool := (o.size == 1 && isZ (bt o 0)) || (o.size == 6 && (bt o 0 == 43 || bt o 0 == 45) && bt o 3 == 58 && okN o 1 2 0 23 && okN o 4 2 0 59)
theorem one_byte {o : ByteArray} {c : UInt8} (h : o.size = 1) (hb : bt o 0 = (c.toNat : Int)) : o = ⟨#[c]⟩ := by
  apply Go.WideShapes.bytes_inj
  have hl : o.data.toList.length = 1 := h
  match hL : o.data.toList, hl with
  | [x], _ =>
    have hx := (bt_drop (s := o) (p := 0) (c := x) (R := []) (by rw [List.drop_zero]; exact hL)).1
    have : x = c := UInt8.toNat_inj.1 (by omega)
    rw [this]
theorem two_off {v : Int} {x b : Bool} (h : x = b) : Ending.returned (.tuple #[.int .i64 v, .bool b]) = .returned (.tuple #[.int .i64 v, .bool x]) := by rw [h]
def OffR (o : ByteArray) (w : World) (e : Ending) (w' : World) : Prop := ∃ v : Int, e = .returned (.tuple #[.int .i64 v, .bool (offB o)]) ∧ -2000 ≤ v ∧ v ≤ 2000 ∧ (offB o = true → 60 * v = offV o 0) ∧ w = w'
set_option maxRecDepth 10000 in
theorem roff_z (o : ByteArray) (w : World) (h : o = ⟨#[90]⟩ ∨ o = ⟨#[122]⟩) : Calls Tryd.prog 47 #[.string o] w (OffR o w) := by
  rcases h with rfl | rfl
  · go_enter Tryd.func47, Tryd.ntmps47
    go_wp2_with fail
    go_ret2
    exact ⟨0, rfl, by omega, by omega, fun _ => by decide +kernel, rfl⟩
  · go_enter Tryd.func47, Tryd.ntmps47
    go_wp2_with fail
    go_ret2
    exact ⟨0, rfl, by omega, by omega, fun _ => by decide +kernel, rfl⟩
theorem str_lit {o : ByteArray} {c : UInt8} (h : o ≠ ⟨#[c]⟩) : (o.toList == [c]) = false := by
  have := str_eq o ⟨#[c]⟩
  rw [ByteArray.toList_eq, ByteArray.toList_eq] at this
  rw [ByteArray.toList_eq]
  rw [show ([c] : List UInt8) = (⟨#[c]⟩ : ByteArray).data.toList from rfl, this]
  exact decide_eq_false h
set_option maxRecDepth 10000 in
set_option maxHeartbeats 4000000 in
theorem roff_else (o : ByteArray) (w : World) (hs : o.size ≤ maxLen) (h1 : o ≠ ⟨#[90]⟩) (h2 : o ≠ ⟨#[122]⟩) : Calls Tryd.prog 47 #[.string o] w (OffR o w) := by
  have hs2 := hs
  unfold maxLen at hs2
  have k1 := str_lit h1
  have k2 := str_lit h2
  have hz1 : (o.size == 1 && isZ (bt o 0)) = false := by
    cases g : (o.size == 1) with
    | false => rfl
    | true =>
      cases gz : isZ (bt o 0) with
      | false => rfl
      | true =>
        exfalso
        unfold isZ at gz
        rw [Bool.or_eq_true, beq_iff_eq, beq_iff_eq] at gz
        have g1 : o.size = 1 := by simpa using g
        rcases gz with gz | gz
        · exact h1 (one_byte g1 gz)
        · exact h2 (one_byte g1 gz)
  have N1 := Lib.hid (rnum_any o 1 2 w hs (by omega) (by omega) (.inl (by omega)))
  have N2 := Lib.hid (rnum_any o 4 2 w hs (by omega) (by omega) (.inl (by omega)))
  have r1 := numR_two o 1
  have r2 := numR_two o 4
  have hB : offB o = (o.size == 6 && (bt o 0 == 43 || bt o 0 == 45) && bt o 3 == 58 && decide (0 ≤ numR o 1 2 ∧ numR o 1 2 ≤ 23) && decide (0 ≤ numR o 4 2 ∧ numR o 4 2 ≤ 59)) := by
    unfold offB; rw [hz1, Bool.false_or, okN_numR, okN_numR]; rfl
  have hV : ∀ (_ : 0 ≤ numR o 1 2) (_ : 0 ≤ numR o 4 2) (_ : bt o 0 = 43 ∨ bt o 0 = 45), offV o 0 = if bt o 0 = 45 then -(3600 * numR o 1 2 + 60 * numR o 4 2) else 3600 * numR o 1 2 + 60 * numR o 4 2 := by
    intro g1 g2 g3
    have e1 : numR o 1 2 = (numv o 1 2 : Int) := by unfold numR at g1 ⊢; split <;> simp_all
    have e2 : numR o 4 2 = (numv o 4 2 : Int) := by unfold numR at g2 ⊢; split <;> simp_all
    have gz : isZ (bt o 0) = false := by rcases g3 with e | e <;> rw [e] <;> rfl
    unfold offV
    rw [gz, e1, e2]; rfl
  obtain ⟨H, hH⟩ : ∃ H, H = numR o 1 2 := ⟨_, rfl⟩
  obtain ⟨M, hM⟩ : ∃ M, M = numR o 4 2 := ⟨_, rfl⟩
  obtain ⟨x0, hx0⟩ : ∃ x, x = bt o 0 := ⟨_, rfl⟩
  obtain ⟨x3, hx3⟩ : ∃ x, x = bt o 3 := ⟨_, rfl⟩
  have i0 : ∀ h : 0 < o.size, (o[0].toNat : Int) = x0 := fun h => (bt_eq o 0 h).trans hx0.symm
  have i3 : ∀ h : 3 < o.size, (o[3].toNat : Int) = x3 := fun h => (bt_eq o 3 h).trans hx3.symm
  rw [← hH] at N1 r1
  rw [← hM] at N2 r2
  rw [← hH, ← hM, ← hx0, ← hx3] at hB
  rw [← hH, ← hM, ← hx0] at hV
  obtain ⟨r11, r12⟩ := r1
  obtain ⟨r21, r22⟩ := r2
  have HB := Lib.hid hB
  have HV := Lib.hid hV
  clear hs h1 h2 hz1 hB hV hH hM hx0 hx3
  by_cases h6 : o.size = 6
  · by_cases c0 : x0 = 43 ∨ x0 = 45
    · by_cases c3 : x3 = 58
      · by_cases a1 : H < 0
        · have HR : Hid (offB o = false) := Lib.hid (by rw [HB.out, show decide (0 ≤ H ∧ H ≤ 23) = false from decide_eq_false (by omega)]; simp)
          subst c3
          rcases c0 with rfl | rfl
          · go_enter Tryd.func47, Tryd.ntmps47
            go_wp2_with fail
            refine N1.out.mono ?_
            rintro e w1 ⟨rfl, rfl⟩
            go_wp2_with fail
            refine N2.out.mono ?_
            rintro e w2 ⟨rfl, rfl⟩
            go_wp2_with fail
            go_ret2
            exact ⟨0, two_off HR.out, by omega, by omega, fun h => absurd h (by rw [HR.out]; simp), rfl⟩
          · go_enter Tryd.func47, Tryd.ntmps47
            go_wp2_with fail
            refine N1.out.mono ?_
            rintro e w1 ⟨rfl, rfl⟩
            go_wp2_with fail
            refine N2.out.mono ?_
            rintro e w2 ⟨rfl, rfl⟩
            go_wp2_with fail
            go_ret2
            exact ⟨0, two_off HR.out, by omega, by omega, fun h => absurd h (by rw [HR.out]; simp), rfl⟩
        · by_cases a2 : 23 < H
          · have HR : Hid (offB o = false) := Lib.hid (by rw [HB.out, show decide (0 ≤ H ∧ H ≤ 23) = false from decide_eq_false (by omega)]; simp)
            subst c3
            rcases c0 with rfl | rfl
            · go_enter Tryd.func47, Tryd.ntmps47
              go_wp2_with fail
              refine N1.out.mono ?_
              rintro e w1 ⟨rfl, rfl⟩
              go_wp2_with fail
              refine N2.out.mono ?_
              rintro e w2 ⟨rfl, rfl⟩
              go_wp2_with fail
              go_ret2
              exact ⟨0, two_off HR.out, by omega, by omega, fun h => absurd h (by rw [HR.out]; simp), rfl⟩
            · go_enter Tryd.func47, Tryd.ntmps47
              go_wp2_with fail
              refine N1.out.mono ?_
              rintro e w1 ⟨rfl, rfl⟩
              go_wp2_with fail
              refine N2.out.mono ?_
              rintro e w2 ⟨rfl, rfl⟩
              go_wp2_with fail
              go_ret2
              exact ⟨0, two_off HR.out, by omega, by omega, fun h => absurd h (by rw [HR.out]; simp), rfl⟩
          · by_cases a3 : M < 0
            · have HR : Hid (offB o = false) := Lib.hid (by rw [HB.out, show decide (0 ≤ M ∧ M ≤ 59) = false from decide_eq_false (by omega)]; simp)
              subst c3
              rcases c0 with rfl | rfl
              · go_enter Tryd.func47, Tryd.ntmps47
                go_wp2_with fail
                refine N1.out.mono ?_
                rintro e w1 ⟨rfl, rfl⟩
                go_wp2_with fail
                refine N2.out.mono ?_
                rintro e w2 ⟨rfl, rfl⟩
                go_wp2_with fail
                go_ret2
                exact ⟨0, two_off HR.out, by omega, by omega, fun h => absurd h (by rw [HR.out]; simp), rfl⟩
              · go_enter Tryd.func47, Tryd.ntmps47
                go_wp2_with fail
                refine N1.out.mono ?_
                rintro e w1 ⟨rfl, rfl⟩
                go_wp2_with fail
                refine N2.out.mono ?_
                rintro e w2 ⟨rfl, rfl⟩
                go_wp2_with fail
                go_ret2
                exact ⟨0, two_off HR.out, by omega, by omega, fun h => absurd h (by rw [HR.out]; simp), rfl⟩
            · by_cases a4 : 59 < M
              · have HR : Hid (offB o = false) := Lib.hid (by rw [HB.out, show decide (0 ≤ M ∧ M ≤ 59) = false from decide_eq_false (by omega)]; simp)
                subst c3
                rcases c0 with rfl | rfl
                · go_enter Tryd.func47, Tryd.ntmps47
                  go_wp2_with fail
                  refine N1.out.mono ?_
                  rintro e w1 ⟨rfl, rfl⟩
                  go_wp2_with fail
                  refine N2.out.mono ?_
                  rintro e w2 ⟨rfl, rfl⟩
                  go_wp2_with fail
                  go_ret2
                  exact ⟨0, two_off HR.out, by omega, by omega, fun h => absurd h (by rw [HR.out]; simp), rfl⟩
                · go_enter Tryd.func47, Tryd.ntmps47
                  go_wp2_with fail
                  refine N1.out.mono ?_
                  rintro e w1 ⟨rfl, rfl⟩
                  go_wp2_with fail
                  refine N2.out.mono ?_
                  rintro e w2 ⟨rfl, rfl⟩
                  go_wp2_with fail
                  go_ret2
                  exact ⟨0, two_off HR.out, by omega, by omega, fun h => absurd h (by rw [HR.out]; simp), rfl⟩
              · have HR : Hid (offB o = true) := Lib.hid (by
                  rw [HB.out, show decide (0 ≤ M ∧ M ≤ 59) = true from decide_eq_true (by omega), show decide (0 ≤ H ∧ H ≤ 23) = true from decide_eq_true (by omega), h6, c3]
                  rcases c0 with e | e <;> rw [e] <;> rfl)
                subst c3
                rcases c0 with rfl | rfl
                · have HVV : Hid (offV o 0 = 3600 * H + 60 * M) := Lib.hid (by rw [HV.out (by omega) (by omega) (.inl rfl), if_neg (by omega)])
                  go_enter Tryd.func47, Tryd.ntmps47
                  go_wp2_with fail
                  refine N1.out.mono ?_
                  rintro e w1 ⟨rfl, rfl⟩
                  go_wp2_with fail
                  refine N2.out.mono ?_
                  rintro e w2 ⟨rfl, rfl⟩
                  go_wp2_with fail
                  go_ret2
                  exact ⟨60 * H + M, two_off HR.out, by omega, by omega, fun _ => by rw [HVV.out]; omega, rfl⟩
                · have HVV : Hid (offV o 0 = -(3600 * H + 60 * M)) := Lib.hid (by rw [HV.out (by omega) (by omega) (.inr rfl), if_pos rfl])
                  go_enter Tryd.func47, Tryd.ntmps47
                  go_wp2_with fail
                  refine N1.out.mono ?_
                  rintro e w1 ⟨rfl, rfl⟩
                  go_wp2_with fail
                  refine N2.out.mono ?_
                  rintro e w2 ⟨rfl, rfl⟩
                  go_wp2_with fail
                  go_ret2
                  exact ⟨-60 * H - M, two_off HR.out, by omega, by omega, fun _ => by rw [HVV.out]; omega, rfl⟩
      · have HR : Hid (offB o = false) := Lib.hid (by rw [HB.out, show (x3 == 58) = false from beq_eq_false_iff_ne.2 c3]; simp)
        have q3 : (x3 == 58) = false := beq_eq_false_iff_ne.2 c3
        have q4 : (x3 != 58) = true := by rw [bne, q3]; rfl
        rcases c0 with rfl | rfl
        · go_enter Tryd.func47, Tryd.ntmps47
          go_wp2_with fail
          refine N1.out.mono ?_
          rintro e w1 ⟨rfl, rfl⟩
          go_wp2_with fail
          refine N2.out.mono ?_
          rintro e w2 ⟨rfl, rfl⟩
          go_wp2_with fail
          go_ret2
          exact ⟨0, two_off HR.out, by omega, by omega, fun h => absurd h (by rw [HR.out]; simp), rfl⟩
        · go_enter Tryd.func47, Tryd.ntmps47
          go_wp2_with fail
          refine N1.out.mono ?_
          rintro e w1 ⟨rfl, rfl⟩
          go_wp2_with fail
          refine N2.out.mono ?_
          rintro e w2 ⟨rfl, rfl⟩
          go_wp2_with fail
          go_ret2
          exact ⟨0, two_off HR.out, by omega, by omega, fun h => absurd h (by rw [HR.out]; simp), rfl⟩
    · have HR : Hid (offB o = false) := Lib.hid (by rw [HB.out, show (x0 == 43) = false from beq_eq_false_iff_ne.2 (by omega), show (x0 == 45) = false from beq_eq_false_iff_ne.2 (by omega)]; simp)
      have q1 : (x0 == 43) = false := beq_eq_false_iff_ne.2 (by omega)
      have q2 : (x0 == 45) = false := beq_eq_false_iff_ne.2 (by omega)
      have q3 : (x0 != 43) = true := by rw [bne, q1]; rfl
      have q4 : (x0 != 45) = true := by rw [bne, q2]; rfl
      clear c0
      go_enter Tryd.func47, Tryd.ntmps47
      go_wp2_with fail
      refine N1.out.mono ?_
      rintro e w1 ⟨rfl, rfl⟩
      go_wp2_with fail
      refine N2.out.mono ?_
      rintro e w2 ⟨rfl, rfl⟩
      go_wp2_with fail
      go_ret2
      exact ⟨0, two_off HR.out, by omega, by omega, fun h => absurd h (by rw [HR.out]; simp), rfl⟩
  · have HR : Hid (offB o = false) := Lib.hid (by rw [HB.out, show (o.size == 6) = false from beq_eq_false_iff_ne.2 h6]; rfl)
    have q1 : ((o.size : Int) == 6) = false := beq_eq_false_iff_ne.2 (by omega)
    have q2 : ((o.size : Int) != 6) = true := by rw [bne, q1]; rfl
    clear h6
    go_enter Tryd.func47, Tryd.ntmps47
    go_wp2_with fail
    refine N1.out.mono ?_
    rintro e w1 ⟨rfl, rfl⟩
    go_wp2_with fail
    refine N2.out.mono ?_
    rintro e w2 ⟨rfl, rfl⟩
    go_wp2_with fail
    go_ret2
    exact ⟨0, two_off HR.out, by omega, by omega, fun h => absurd h (by rw [HR.out]; simp), rfl⟩
end Go.Proofs.YtfphejndbnmfeaaDoor
