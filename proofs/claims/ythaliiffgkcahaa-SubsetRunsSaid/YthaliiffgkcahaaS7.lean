/- Layer 10: Class: the program's and the document's. -/
import Derived.Test.YthaliiffgkcahaaS5
import Derived.Test.YthaliiffgkcahaaS6
namespace Go.Proofs.Ythaliiffgkcahaa
open Go.RowKit Go.Maps
/-- What Class answers. -/
def clsR (g : Bool) (C : List Int) (n : Int) : Int × Int := if g = false then (0, 8) else if n < 0 ∨ 1114111 < n then (0, 2) else ((cls C n : Nat), 0)
set_option maxRecDepth 20000 in
theorem class2_any (a : DA) (d : DF) (g : Bool) (hg : g = true ↔ DfOk d) (n : Int) (w : World) (hv : DV w a d) : Calls Try.prog 6 #[dv a d, .int .i64 n] w fun r w' => r = .returned (.tuple #[.int .i64 (clsR g d.C n).1, .int .i64 (clsR g d.C n).2]) ∧ Below w.heap.size w w' := by
  have HM := Lib.hid (fun w1 (b : Below w.heap.size w w1) => check_any a d g hg w1 (hv.below b))
  have HK := Lib.hid (fun w1 (b : Below w.heap.size w w1) (e : g = true) (h : 0 ≤ n) => class_any a.a0 a.c0 d.C n w1 (hv.below b).iv (hg.1 e).1 h)
  obtain ⟨a0, a1, a2, c0, c1, c2⟩ := a
  obtain ⟨C, S, B⟩ := d
  unfold dv at HM ⊢
  try unfold dv at HK
  dsimp only at HM HK ⊢
  obtain ⟨R, hR⟩ : ∃ R, R = clsR g C n := ⟨_, rfl⟩
  rw [← hR]
  replace hR := Lib.hid hR
  obtain ⟨k, hk⟩ : ∃ k, k = cls C n := ⟨_, rfl⟩
  rw [← hk] at HK
  have HKK := Lib.hid hk
  clear hv hg hk
  obtain ⟨nC, hC⟩ : ∃ n, n = C.length := ⟨_, rfl⟩
  obtain ⟨nS, hS⟩ : ∃ n, n = S.length := ⟨_, rfl⟩
  obtain ⟨nB, hB⟩ : ∃ n, n = B.length := ⟨_, rfl⟩
  rw [← hC, ← hS, ← hB] at HM ⊢
  rw [← hC] at HK
  clear hC hS hB
  have HB0 : Hid (Lk w (w.alloc (.cells #[.slice a0 nC c0, .slice a1 nS c1, .slice a2 nB c2] 26)) (.slice a0 nC c0) (.slice a1 nS c1) (.slice a2 nB c2)) := Lib.hid (lk_new _ _ _ _ _)
  cases g with
  | false =>
    have HX : Hid (R = (0, 8)) := Lib.hid (by rw [hR.out]; rfl)
    rw [show ckE false = 8 from rfl] at HM
    go_enter Try.func6, Try.ntmps6
    go_wp2_with fail
    refine (HM.out _ HB0.out.1).mono ?_
    rintro e w1 ⟨rfl, b1⟩
    have HL := Lib.hid (HB0.out.below b1)
    obtain ⟨_, q0, q1, q2⟩ := HL.out.2
    clear b1 HM
    go_wp2_with fail
    go_ret2
    exact ⟨by first | (rw [HX.out]; done) | (rw [HX.out]; rfl), HL.out.1⟩
  | true =>
    rw [show ckE true = 0 from rfl] at HM
    by_cases hp : n < 0 ∨ 1114111 < n
    · have HX : Hid (R = (0, 2)) := Lib.hid (by rw [hR.out]; unfold clsR; rw [if_neg (by simp), if_pos hp])
      have hd : decide (0 ≤ n ∧ n ≤ 1114111) = false := decide_eq_false (by omega)
      go_enter Try.func6, Try.ntmps6
      go_wp2_with fail
      refine (HM.out _ HB0.out.1).mono ?_
      rintro e w1 ⟨rfl, b1⟩
      have HL := Lib.hid (HB0.out.below b1)
      obtain ⟨_, q0, q1, q2⟩ := HL.out.2
      clear b1 HM
      go_wp2_with fail
      refine (isPoint_any n _).mono ?_
      rintro e w2 ⟨rfl, b2⟩
      have HL2 := Lib.hid (HL.out.below b2)
      obtain ⟨_, p0, p1, p2⟩ := HL2.out.2
      clear b2 q0 q1 q2
      rw [hd]
      go_wp2_with fail
      go_ret2
      exact ⟨by first | (rw [HX.out]; done) | (rw [HX.out]; rfl), HL2.out.1⟩
    · have HX : Hid (R = (((k : Nat) : Int), 0)) := Lib.hid (by rw [hR.out, HKK.out]; unfold clsR; rw [if_neg (by simp), if_neg hp])
      have hp1 : ¬ n < 0 := by omega
      have hp2 : ¬ 1114111 < n := by omega
      go_enter Try.func6, Try.ntmps6
      go_wp2_with fail
      refine (HM.out _ HB0.out.1).mono ?_
      rintro e w1 ⟨rfl, b1⟩
      have HL := Lib.hid (HB0.out.below b1)
      obtain ⟨_, q0, q1, q2⟩ := HL.out.2
      clear b1 HM
      go_wp2_with fail
      refine (isPoint_any n _).mono ?_
      rintro e w2 ⟨rfl, b2⟩
      have HL2 := Lib.hid (HL.out.below b2)
      obtain ⟨_, p0, p1, p2⟩ := HL2.out.2
      clear b2 q0 q1 q2
      have hd : decide (0 ≤ n ∧ n ≤ 1114111) = true := decide_eq_true (by omega)
      rw [hd]
      go_wp2_with fail
      refine (HK.out _ HL2.out.1 (by first | rfl | trivial) (by omega)).mono ?_
      rintro e w3 ⟨rfl, b3⟩
      have HL3 := Lib.hid (HL2.out.below b3)
      clear b3
      go_wp2_with fail
      go_ret2
      exact ⟨by first | (rw [HX.out]; done) | (rw [HX.out]; rfl), HL3.out.1⟩
set_option maxRecDepth 20000 in
theorem rclass_any (a : DA) (d : DF) (g : Bool) (hg : g = true ↔ DfOk d) (n : Int) (w : World) (hv : DV w a d) : Calls Try.prog 7 #[dv a d, .int .i64 n] w fun r w' => r = .returned (.tuple #[.int .i64 (clsR g d.C n).1, .int .i64 (clsR g d.C n).2]) ∧ Below w.heap.size w w' := by
  have HM := Lib.hid (fun w1 (b : Below w.heap.size w w1) => may_any a d g hg w1 (hv.below b))
  have HK := Lib.hid (fun w1 (b : Below w.heap.size w w1) => of_any a d n w1 (hv.below b))
  obtain ⟨a0, a1, a2, c0, c1, c2⟩ := a
  obtain ⟨C, S, B⟩ := d
  unfold dv at HM ⊢
  try unfold dv at HK
  dsimp only at HM HK ⊢
  obtain ⟨R, hR⟩ : ∃ R, R = clsR g C n := ⟨_, rfl⟩
  rw [← hR]
  replace hR := Lib.hid hR
  obtain ⟨k, hk⟩ : ∃ k, k = cls C n := ⟨_, rfl⟩
  rw [← hk] at HK
  have HKK := Lib.hid hk
  clear hv hg hk
  obtain ⟨nC, hC⟩ : ∃ n, n = C.length := ⟨_, rfl⟩
  obtain ⟨nS, hS⟩ : ∃ n, n = S.length := ⟨_, rfl⟩
  obtain ⟨nB, hB⟩ : ∃ n, n = B.length := ⟨_, rfl⟩
  rw [← hC, ← hS, ← hB] at HM ⊢
  rw [← hC, ← hS, ← hB] at HK
  clear hC hS hB
  have HB0 : Hid (Lk w (w.alloc (.cells #[.slice a0 nC c0, .slice a1 nS c1, .slice a2 nB c2] 26)) (.slice a0 nC c0) (.slice a1 nS c1) (.slice a2 nB c2)) := Lib.hid (lk_new _ _ _ _ _)
  cases g with
  | false =>
    have HX : Hid (R = (0, 8)) := Lib.hid (by rw [hR.out]; rfl)
    go_enter Try.func7, Try.ntmps7
    go_wp2_with fail
    refine (HM.out _ HB0.out.1).mono ?_
    rintro e w1 ⟨rfl, b1⟩
    have HL := Lib.hid (HB0.out.below b1)
    obtain ⟨_, q0, q1, q2⟩ := HL.out.2
    clear b1 HM
    go_wp2_with fail
    go_ret2
    exact ⟨by first | (rw [HX.out]; done) | (rw [HX.out]; rfl), HL.out.1⟩
  | true =>
    by_cases hp : n < 0 ∨ 1114111 < n
    · have HX : Hid (R = (0, 2)) := Lib.hid (by rw [hR.out]; unfold clsR; rw [if_neg (by simp), if_pos hp])
      by_cases hp1 : n < 0
      · skip
        go_enter Try.func7, Try.ntmps7
        go_wp2_with fail
        refine (HM.out _ HB0.out.1).mono ?_
        rintro e w1 ⟨rfl, b1⟩
        have HL := Lib.hid (HB0.out.below b1)
        obtain ⟨_, q0, q1, q2⟩ := HL.out.2
        clear b1 HM
        go_wp2_with fail
        go_ret2
        exact ⟨by first | (rw [HX.out]; done) | (rw [HX.out]; rfl), HL.out.1⟩
      · have hp2 : 1114111 < n := by omega
        go_enter Try.func7, Try.ntmps7
        go_wp2_with fail
        refine (HM.out _ HB0.out.1).mono ?_
        rintro e w1 ⟨rfl, b1⟩
        have HL := Lib.hid (HB0.out.below b1)
        obtain ⟨_, q0, q1, q2⟩ := HL.out.2
        clear b1 HM
        go_wp2_with fail
        go_ret2
        exact ⟨by first | (rw [HX.out]; done) | (rw [HX.out]; rfl), HL.out.1⟩
    · have HX : Hid (R = (((k : Nat) : Int), 0)) := Lib.hid (by rw [hR.out, HKK.out]; unfold clsR; rw [if_neg (by simp), if_neg hp])
      have hp1 : ¬ n < 0 := by omega
      have hp2 : ¬ 1114111 < n := by omega
      go_enter Try.func7, Try.ntmps7
      go_wp2_with fail
      refine (HM.out _ HB0.out.1).mono ?_
      rintro e w1 ⟨rfl, b1⟩
      have HL := Lib.hid (HB0.out.below b1)
      obtain ⟨_, q0, q1, q2⟩ := HL.out.2
      clear b1 HM
      go_wp2_with fail
      refine (HK.out _ HL.out.1).mono ?_
      rintro e w3 ⟨rfl, b3⟩
      have HL3 := Lib.hid (HL.out.below b3)
      clear b3
      go_wp2_with fail
      go_ret2
      exact ⟨by first | (rw [HX.out]; done) | (rw [HX.out]; rfl), HL3.out.1⟩
end Go.Proofs.Ythaliiffgkcahaa
