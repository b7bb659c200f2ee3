/- Layer 10: may one be: the program's. -/
import Derived.Test.YthaliiffgkcahaaS4
namespace Go.Proofs.Ythaliiffgkcahaa
open Go.RowKit Go.Maps
def ckE (g : Bool) : Int := if g then 0 else 8
set_option maxRecDepth 20000 in
set_option maxHeartbeats 1000000 in
theorem check_any (a : DA) (d : DF) (g : Bool) (hg : g = true ↔ DfOk d) (w : World) (hv : DV w a d) : Calls Try.prog 12 #[dv a d] w fun r w' => r = .returned (.int .i64 (ckE g)) ∧ Below w.heap.size w w' := by
  obtain ⟨a0, a1, a2, c0, c1, c2⟩ := a
  obtain ⟨C, S, B⟩ := d
  have hm0 : C.length ≤ maxLen := Nat.le_trans hv.l0 hv.m0
  have hm1 : S.length ≤ maxLen := Nat.le_trans hv.l1 hv.m1
  have hm2 : B.length ≤ maxLen := Nat.le_trans hv.l2 hv.m2
  unfold maxLen at hm0 hm1 hm2
  have HV0 : Hid (IV w a0 C) := Lib.hid hv.iv
  have HV1 : Hid (SV w a1 S) := Lib.hid hv.sv
  clear hv
  have HG := Lib.hid hg
  clear hg
  obtain ⟨nC, hC⟩ : ∃ n, n = C.length := ⟨_, rfl⟩
  obtain ⟨nS, hS⟩ : ∃ n, n = S.length := ⟨_, rfl⟩
  obtain ⟨nB, hB⟩ : ∃ n, n = B.length := ⟨_, rfl⟩
  show Calls Try.prog 12 #[.agg #[.slice a0 C.length c0, .slice a1 S.length c1, .slice a2 B.length c2]] w fun r w' => r = .returned (.int .i64 (ckE g)) ∧ Below w.heap.size w w'
  rw [← hC, ← hS, ← hB]
  rw [← hC] at hm0
  rw [← hS] at hm1
  rw [← hB] at hm2
  have HG2 : Hid (g = true → CutsOk C ∧ 1 ≤ nS ∧ nS ≤ 64 ∧ nB = nS ∧ ∀ i, i < nS → (gS S i).length = nC ∧ ∀ j, j < (gS S i).length → 0 ≤ gI (gS S i) j ∧ gI (gS S i) j < nS) := Lib.hid (by
    intro e
    have := HG.out.1 e
    rw [hC, hS, hB]
    exact this)
  have HG3 : Hid ((CutsOk C ∧ 1 ≤ nS ∧ nS ≤ 64 ∧ nB = nS ∧ ∀ i, i < nS → (gS S i).length = nC ∧ ∀ j, j < (gS S i).length → 0 ≤ gI (gS S i) j ∧ gI (gS S i) j < nS) → g = true) := Lib.hid (by
    intro e
    rw [hC, hS, hB] at e
    exact HG.out.2 e)
  have HC := Lib.hid hC
  have HS := Lib.hid hS
  clear hC hS hB HG
  obtain ⟨R, hR⟩ : ∃ R, R = ckE g := ⟨_, rfl⟩
  rw [← hR]
  have HR0 : Hid (g = false → R = 8) := Lib.hid (fun e => by rw [hR, e]; rfl)
  have HR1 : Hid (g = true → R = 0) := Lib.hid (fun e => by rw [hR, e]; rfl)
  clear hR
  have HB0 : Hid (Lk w (w.alloc (.cells #[.slice a0 nC c0, .slice a1 nS c1, .slice a2 nB c2] 26)) (.slice a0 nC c0) (.slice a1 nS c1) (.slice a2 nB c2)) := Lib.hid (lk_new _ _ _ _ _)
  have HCC : Hid (∀ x : Bool, (x = true ↔ CutsOk C) → Calls Try.prog 22 #[.slice a0 nC c0] (w.alloc (.cells #[.slice a0 nC c0, .slice a1 nS c1, .slice a2 nB c2] 26)) fun r w' => r = .returned (.bool x) ∧ Below (w.alloc (.cells #[.slice a0 nC c0, .slice a1 nS c1, .slice a2 nB c2] 26)).heap.size (w.alloc (.cells #[.slice a0 nC c0, .slice a1 nS c1, .slice a2 nB c2] 26)) w') := Lib.hid (fun x hx => by
    have h := cuts_any a0 c0 C x hx (w.alloc (.cells #[.slice a0 nC c0, .slice a1 nS c1, .slice a2 nB c2] 26)) (HV0.out.below HB0.out.1) (by rw [← HC.out]; unfold maxLen; exact hm0)
    rwa [← HC.out] at h)
  by_cases kn : ¬ CutsOk C
  · have kc := kn
    have HX : Hid (R = 8) := Lib.hid (HR0.out (no_of HG2.out (fun e => kc e.1)))
    go_enter Try.func12, Try.ntmps12
    go_wp2_with fail
    refine (HCC.out false (by first | exact ⟨fun _ => kc, fun _ => rfl⟩ | exact ⟨fun e => Bool.noConfusion e, fun e => absurd e kc⟩)).mono ?_
    rintro e w1 ⟨rfl, b1⟩
    have HL := Lib.hid (HB0.out.below b1)
    obtain ⟨_, q0, q1, q2⟩ := HL.out.2
    clear b1
    go_wp2_with fail
    go_ret
    exact ⟨ret_int HX.out.symm, HL.out.1⟩
  have kc : CutsOk C := Classical.not_not.1 kn
  by_cases k4 : nS < 1
  · have k4' : (nS : Int) < 1 := by omega
    have HX : Hid (R = 8) := Lib.hid (HR0.out (no_of HG2.out (fun e => by have := e.2.1; omega)))
    go_enter Try.func12, Try.ntmps12
    go_wp2_with fail
    refine (HCC.out true (by first | exact ⟨fun _ => kc, fun _ => rfl⟩ | exact ⟨fun e => Bool.noConfusion e, fun e => absurd e kc⟩)).mono ?_
    rintro e w1 ⟨rfl, b1⟩
    have HL := Lib.hid (HB0.out.below b1)
    obtain ⟨_, q0, q1, q2⟩ := HL.out.2
    clear b1
    go_wp2_with fail
    go_ret
    exact ⟨ret_int HX.out.symm, HL.out.1⟩
  have k4' : ¬ (nS : Int) < 1 := by omega
  by_cases k5 : 64 < nS
  · have k5' : (64 : Int) < nS := by omega
    have HX : Hid (R = 8) := Lib.hid (HR0.out (no_of HG2.out (fun e => by have := e.2.2.1; omega)))
    go_enter Try.func12, Try.ntmps12
    go_wp2_with fail
    refine (HCC.out true (by first | exact ⟨fun _ => kc, fun _ => rfl⟩ | exact ⟨fun e => Bool.noConfusion e, fun e => absurd e kc⟩)).mono ?_
    rintro e w1 ⟨rfl, b1⟩
    have HL := Lib.hid (HB0.out.below b1)
    obtain ⟨_, q0, q1, q2⟩ := HL.out.2
    clear b1
    go_wp2_with fail
    go_ret
    exact ⟨ret_int HX.out.symm, HL.out.1⟩
  have k5' : ¬ (64 : Int) < nS := by omega
  by_cases k6 : nB ≠ nS
  · have k6' : ((nB : Int) != nS) = true := by simp; omega
    have HX : Hid (R = 8) := Lib.hid (HR0.out (no_of HG2.out (fun e => k6 e.2.2.2.1)))
    go_enter Try.func12, Try.ntmps12
    go_wp2_with fail
    refine (HCC.out true (by first | exact ⟨fun _ => kc, fun _ => rfl⟩ | exact ⟨fun e => Bool.noConfusion e, fun e => absurd e kc⟩)).mono ?_
    rintro e w1 ⟨rfl, b1⟩
    have HL := Lib.hid (HB0.out.below b1)
    obtain ⟨_, q0, q1, q2⟩ := HL.out.2
    clear b1
    go_wp2_with fail
    go_ret
    exact ⟨ret_int HX.out.symm, HL.out.1⟩
  have k6' : nB = nS := by omega
  subst k6'
  have k7 : ((nB : Int) != nB) = false := by simp
  go_enter Try.func12, Try.ntmps12
  go_wp2_with fail
  refine (HCC.out true (by first | exact ⟨fun _ => kc, fun _ => rfl⟩ | exact ⟨fun e => Bool.noConfusion e, fun e => absurd e kc⟩)).mono ?_
  rintro e w1 ⟨rfl, b1⟩
  have HL := Lib.hid (HB0.out.below b1)
  obtain ⟨_, q0, q1, q2⟩ := HL.out.2
  clear b1
  go_wp2_with fail
  clear k4 k5 k6 HCC HB0
  go_loopw [4, 6, 35] (fun _ _ v5 wr => ∃ i : Nat, i ≤ nB ∧ v5 = .int .i64 i ∧ Hid (∀ j, j < i → (gS S j).length = nC ∧ ∀ k, k < (gS S j).length → 0 ≤ gI (gS S j) k ∧ gI (gS S j) k < nB) ∧ Hid (Lk w wr (.slice a0 nC c0) (.slice a1 nB c1) (.slice a2 nB c2))) (fun _ _ v5 _ => nB - (intOf v5).toNat)
  case atStart => exact ⟨0, by omega, rfl, Lib.hid (fun j h1 => by omega), HL⟩
  case round =>
    clear q0 q1 q2 HL
    obtain ⟨i, hi, rfl, HI, HL⟩ := hrel
    obtain ⟨_, q0, q1, q2⟩ := HL.out.2
    by_cases h1 : i < nB
    · obtain ⟨b1, off1, rfl⟩ := HV1.out.addr (by rw [← HS.out]; omega)
      obtain ⟨_, ad, cp, d0, hle, hcm, hiv, _⟩ := (HV1.out.below HL.out.1).at_ (i := i) (by rw [← HS.out]; exact h1)
      obtain ⟨P, hP⟩ : ∃ P, P = gS S i := ⟨_, rfl⟩
      rw [← hP] at d0 hle hiv
      have HP := Lib.hid hP
      obtain ⟨l, hl⟩ : ∃ l, l = P.length := ⟨_, rfl⟩
      rw [← hl] at d0 hle
      have HLL := Lib.hid hl
      have HIV := Lib.hid hiv
      unfold maxLen at hcm
      clear hP hl hiv
      have hg1 : (i : Int) < nB := by omega
      have hg0 : (0 : Int) ≤ i := by omega
      by_cases cl : l ≠ nC
      · have HX : Hid (R = 8) := Lib.hid (HR0.out (no_of HG2.out (fun e => cl (by rw [HLL.out, HP.out]; exact (e.2.2.2.2 i h1).1))))
        have cl' : ((l : Int) != nC) = true := by simp; omega
        go_wp2_with fail
        go_ret
        exact ⟨ret_int HX.out.symm, HL.out.1⟩
      · have cl' : l = nC := by omega
        subst cl'
        have cl2 : ((l : Int) != l) = false := by simp
        go_wp2_with fail
        clear d0 cl cl2
        go_loopw [6, 47] (fun _ v6 wr1 => ∃ j : Nat, j ≤ l ∧ v6 = .int .i64 j ∧ Hid (∀ k, k < j → 0 ≤ gI P k ∧ gI P k < nB) ∧ wr1 = wr) (fun _ v6 _ => l - (intOf v6).toNat)
        case atStart => exact ⟨0, by omega, rfl, Lib.hid (fun j h1 => by omega), rfl⟩
        case round =>
          obtain ⟨j, hj, rfl, HJ, rfl⟩ := hrel
          by_cases h2 : j < l
          · obtain ⟨b2, off2, rfl⟩ := HIV.out.addr (by rw [← HLL.out]; omega)
            obtain ⟨_, f0⟩ := HIV.out.at_ (i := j) (by rw [← HLL.out]; exact h2)
            obtain ⟨p, hp⟩ : ∃ c, c = gI P j := ⟨_, rfl⟩
            rw [← hp] at f0
            have HPP := Lib.hid hp
            clear hp
            have hj1 : (j : Int) < l := by omega
            have hj0 : (0 : Int) ≤ j := by omega
            by_cases ca : p < 0
            · have HX : Hid (R = 8) := Lib.hid (HR0.out (no_of HG2.out (fun e => by
                have := ((e.2.2.2.2 i h1).2 j (by rw [← HP.out, ← HLL.out]; exact h2)).1
                rw [← HP.out, ← HPP.out] at this
                omega)))
              go_wp2_with fail
              go_ret
              exact ⟨ret_int HX.out.symm, HL.out.1⟩
            · by_cases cb : (nB : Int) ≤ p
              · have HX : Hid (R = 8) := Lib.hid (HR0.out (no_of HG2.out (fun e => by
                  have := ((e.2.2.2.2 i h1).2 j (by rw [← HP.out, ← HLL.out]; exact h2)).2
                  rw [← HP.out, ← HPP.out] at this
                  omega)))
                go_wp2_with fail
                go_ret
                exact ⟨ret_int HX.out.symm, HL.out.1⟩
              · have HJ2 : Hid (∀ k, k < j + 1 → 0 ≤ gI P k ∧ gI P k < nB) := Lib.hid (upto_next HJ.out (by have := HPP.out; omega))
                clear HJ
                go_wp2_with fail
                go_roundw
                case rel => exact ⟨j + 1, by omega, by go_num, HJ2, by first | rfl | trivial⟩
                case measure => simp [intOf]; omega
          · have HI2 : Hid (∀ j, j < i + 1 → (gS S j).length = l ∧ ∀ k, k < (gS S j).length → 0 ≤ gI (gS S j) k ∧ gI (gS S j) k < nB) := Lib.hid (upto_next HI.out (by
              rw [← HP.out, ← HLL.out]
              exact ⟨by first | rfl | trivial, fun k hk => HJ.out k (by omega)⟩))
            have hj1 : ¬ (j : Int) < l := by omega
            clear HJ HI
            go_wp2_with fail
            go_roundw
            case rel => exact ⟨i + 1, by omega, by go_num, HI2, HL⟩
            case measure => simp [intOf]; omega
    · have e2 : i = nB := by omega
      have HX : Hid (R = 0) := Lib.hid (HR1.out (HG3.out ⟨kc, by omega, by omega, (by first | rfl | trivial), fun j h => HI.out j (by omega)⟩))
      have hg1 : ¬ (i : Int) < nB := by omega
      clear HI
      go_wp2_with fail
      go_ret
      exact ⟨ret_int HX.out.symm, HL.out.1⟩
set_option maxRecDepth 20000 in
theorem rcheck_any (a : DA) (d : DF) (g : Bool) (hg : g = true ↔ DfOk d) (w : World) (hv : DV w a d) : Calls Try.prog 13 #[dv a d] w fun r w' => r = .returned (.int .i64 (ckE g)) ∧ Below w.heap.size w w' := by
  have H := Lib.hid (fun w1 (b : Below w.heap.size w w1) => may_any a d g hg w1 (hv.below b))
  obtain ⟨a0, a1, a2, c0, c1, c2⟩ := a
  obtain ⟨C, S, B⟩ := d
  unfold dv at H ⊢
  dsimp only at H ⊢
  clear hv hg
  obtain ⟨nC, hC⟩ : ∃ n, n = C.length := ⟨_, rfl⟩
  obtain ⟨nS, hS⟩ : ∃ n, n = S.length := ⟨_, rfl⟩
  obtain ⟨nB, hB⟩ : ∃ n, n = B.length := ⟨_, rfl⟩
  rw [← hC, ← hS, ← hB] at H ⊢
  clear hC hS hB
  go_enter Try.func13, Try.ntmps13
  go_wp2_with fail
  have b0 := Lib.hid ((Below.refl w.heap.size w).alloc (Nat.le_refl _) (.cells #[.slice a0 nC c0, .slice a1 nS c1, .slice a2 nB c2] 26))
  refine (H.out _ b0.out).mono ?_
  rintro e w1 ⟨rfl, b1⟩
  have B1 := Lib.hid (b0.out.trans (b1.mono b0.out.size))
  clear b1
  cases g
  · go_wp2_with fail
    go_ret
    exact ⟨rfl, B1.out⟩
  · go_wp2_with fail
    go_ret
    exact ⟨rfl, B1.out⟩
end Go.Proofs.Ythaliiffgkcahaa
