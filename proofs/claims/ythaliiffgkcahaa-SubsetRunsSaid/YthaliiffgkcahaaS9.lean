/- Layer 10: Walk: the program's and the document's. -/
import Derived.Test.YthaliiffgkcahaaS7
import Derived.Test.YthaliiffgkcahaaS8
namespace Go.Proofs.Ythaliiffgkcahaa
open Go.RowKit Go.Maps
def isP (n : Int) : Prop := 0 ≤ n ∧ n ≤ 1114111
/-- All numbers are such. -/
def allP (P : List Int) : Bool := P.all fun n => decide (0 ≤ n ∧ n ≤ 1114111)
theorem allP_no {P : List Int} {i : Nat} (h : i < P.length) (k : ¬ (0 ≤ gI P i ∧ gI P i ≤ 1114111)) : allP P = false := by
  cases e : allP P with
  | false => rfl
  | true => exact absurd (of_decide_eq_true (List.all_eq_true.1 e _ (gI_mem h))) k
theorem allP_yes {P : List Int} (h : ∀ i, i < P.length → 0 ≤ gI P i ∧ gI P i ≤ 1114111) : allP P = true := by
  refine List.all_eq_true.2 (fun x hx => ?_)
  obtain ⟨j, hj, rfl⟩ := List.mem_iff_getElem.1 hx
  have g := gI_get hj
  rw [List.getElem?_eq_getElem hj] at g
  simp only [Option.some.injEq] at g
  rw [g]
  exact decide_eq_true (h j hj)
/-- What Walk answers. -/
def wkR (g : Bool) (d : DF) (s : Int) (P : List Int) : Int × Int :=
  if g = false then (0, 8) else if 1024 < P.length then (0, 4) else if s < 0 ∨ (d.S.length : Int) ≤ s then (0, 2) else if allP P = true then (((toN d.C d.S s.toNat P : Nat) : Int), 0) else (0, 2)
theorem wk_bad (d : DF) (s : Int) (P : List Int) : wkR false d s P = (0, 8) := rfl
theorem wk_many {d : DF} {s : Int} {P : List Int} (h : 1024 < P.length) : wkR true d s P = (0, 4) := by unfold wkR; rw [if_neg (by simp), if_pos h]
theorem wk_arg {d : DF} {s : Int} {P : List Int} (h : ¬ 1024 < P.length) (k : s < 0 ∨ (d.S.length : Int) ≤ s) : wkR true d s P = (0, 2) := by unfold wkR; rw [if_neg (by simp), if_neg h, if_pos k]
theorem wk_no {d : DF} {s : Int} {P : List Int} (h : ¬ 1024 < P.length) (k : ¬ (s < 0 ∨ (d.S.length : Int) ≤ s)) (a : allP P = false) : wkR true d s P = (0, 2) := by unfold wkR; rw [if_neg (by simp), if_neg h, if_neg k, if_neg (by rw [a]; simp)]
theorem wk_yes {d : DF} {s : Nat} {P : List Int} (h : ¬ 1024 < P.length) (k : ¬ ((s : Int) < 0 ∨ (d.S.length : Int) ≤ s)) (a : allP P = true) : wkR true d s P = (((toN d.C d.S s P : Nat) : Int), 0) := by unfold wkR; rw [if_neg (by simp), if_neg h, if_neg k, if_pos a]; rfl
set_option maxRecDepth 20000 in
set_option maxHeartbeats 1000000 in
theorem rwalk_any (a : DA) (d : DF) (g : Bool) (hg : g = true ↔ DfOk d) (s : Int) (ap : Option Addr) (cp : Nat) (P : List Int) (w : World) (hv : DV w a d) (hp : IV w ap P) (hpm : P.length ≤ maxLen) : Calls Try.prog 9 #[dv a d, .int .i64 s, .slice ap P.length cp] w fun r w' => r = .returned (.tuple #[.int .i64 (wkR g d s P).1, .int .i64 (wkR g d s P).2]) ∧ Below w.heap.size w w' := by
  have HM := Lib.hid (fun w1 (b : Below w.heap.size w w1) => may_any a d g hg w1 (hv.below b))
  have HK := Lib.hid (fun (s : Nat) w1 (b : Below w.heap.size w w1) (e : g = true) (h : P.length ≤ 1024) (k : s < d.S.length) => to_any a d (hg.1 e) ap cp P s w1 (hv.below b) (hp.below b) h k)
  have hok := hg.1
  obtain ⟨a0, a1, a2, c0, c1, c2⟩ := a
  obtain ⟨C, S, B⟩ := d
  unfold dv at HM ⊢
  try unfold dv at HK
  dsimp only at HM HK ⊢
  obtain ⟨R, hR⟩ : ∃ R, R = wkR g ⟨C, S, B⟩ s P := ⟨_, rfl⟩
  rw [← hR]
  replace hR := Lib.hid hR
  have HP := Lib.hid hp
  clear hv hg hok hp
  unfold maxLen at hpm
  have hsm : ∀ x : Bool, x = true → True := fun _ _ => trivial
  obtain ⟨nC, hC⟩ : ∃ n, n = C.length := ⟨_, rfl⟩
  obtain ⟨nS, hS⟩ : ∃ n, n = S.length := ⟨_, rfl⟩
  obtain ⟨nB, hB⟩ : ∃ n, n = B.length := ⟨_, rfl⟩
  obtain ⟨nP, hN⟩ : ∃ n, n = P.length := ⟨_, rfl⟩
  rw [← hC, ← hS, ← hB] at HM
  rw [← hC, ← hS, ← hB, ← hN]
  rw [← hN] at hpm
  rw [← hC, ← hS, ← hB, ← hN] at HK
  have HC := Lib.hid hC
  have HS := Lib.hid hS
  have HN := Lib.hid hN
  clear hC hS hB hN
  have HB0 : Hid (Lk w (w.alloc (.cells #[.slice a0 nC c0, .slice a1 nS c1, .slice a2 nB c2] 26)) (.slice a0 nC c0) (.slice a1 nS c1) (.slice a2 nB c2)) := Lib.hid (lk_new _ _ _ _ _)
  cases g with
  | false =>
    have HX : Hid (R = (0, 8)) := Lib.hid (by rw [hR.out, wk_bad])
    go_enter Try.func9, Try.ntmps9
    go_wp2_with fail
    refine (HM.out _ HB0.out.1).mono ?_
    rintro e w1 ⟨rfl, b1⟩
    have HL := Lib.hid (HB0.out.below b1)
    obtain ⟨_, q0, q1, q2⟩ := HL.out.2
    clear b1 HM
    go_wp2_with fail
    go_ret2
    exact ⟨by first | (rw [HX.out]; done) | (rw [HX.out]; rfl), HL.out.1⟩
  | true =>
    by_cases k1 : 1024 < nP
    · have HX : Hid (R = (0, 4)) := Lib.hid (by rw [hR.out, wk_many (by rw [← HN.out]; exact k1)])
      have k1' : (1024 : Int) < nP := by omega
      go_enter Try.func9, Try.ntmps9
      go_wp2_with fail
      refine (HM.out _ HB0.out.1).mono ?_
      rintro e w1 ⟨rfl, b1⟩
      have HL := Lib.hid (HB0.out.below b1)
      obtain ⟨_, q0, q1, q2⟩ := HL.out.2
      clear b1 HM
      go_wp2_with fail
      go_ret2
      exact ⟨by first | (rw [HX.out]; done) | (rw [HX.out]; rfl), HL.out.1⟩
    have k1' : ¬ (1024 : Int) < nP := by omega
    have HNM : Hid (¬ 1024 < P.length) := Lib.hid (by rw [← HN.out]; exact k1)
    by_cases k2 : s < 0
    · have HX : Hid (R = (0, 2)) := Lib.hid (by rw [hR.out, wk_arg HNM.out (.inl k2)])
      go_enter Try.func9, Try.ntmps9
      go_wp2_with fail
      refine (HM.out _ HB0.out.1).mono ?_
      rintro e w1 ⟨rfl, b1⟩
      have HL := Lib.hid (HB0.out.below b1)
      obtain ⟨_, q0, q1, q2⟩ := HL.out.2
      clear b1 HM
      go_wp2_with fail
      go_ret2
      exact ⟨by first | (rw [HX.out]; done) | (rw [HX.out]; rfl), HL.out.1⟩
    by_cases k3 : (nS : Int) ≤ s
    · have HX : Hid (R = (0, 2)) := Lib.hid (by rw [hR.out, wk_arg HNM.out (.inr (by show (S.length : Int) ≤ s; rw [← HS.out]; exact k3))])
      go_enter Try.func9, Try.ntmps9
      go_wp2_with fail
      refine (HM.out _ HB0.out.1).mono ?_
      rintro e w1 ⟨rfl, b1⟩
      have HL := Lib.hid (HB0.out.below b1)
      obtain ⟨_, q0, q1, q2⟩ := HL.out.2
      clear b1 HM
      go_wp2_with fail
      go_ret2
      exact ⟨by first | (rw [HX.out]; done) | (rw [HX.out]; rfl), HL.out.1⟩
    obtain ⟨s0, hs0⟩ : ∃ s0 : Nat, s = s0 := ⟨s.toNat, by omega⟩
    subst hs0
    have k4 : s0 < nS := by omega
    have HNS : Hid (¬ ((s0 : Int) < 0 ∨ (((⟨C, S, B⟩ : DF).S.length : Nat) : Int) ≤ s0)) := Lib.hid (by show ¬ ((s0 : Int) < 0 ∨ (S.length : Int) ≤ s0); rw [← HS.out]; omega)
    have HXN : Hid (allP P = false → R = (0, 2)) := Lib.hid (fun e => by rw [hR.out, wk_no HNM.out HNS.out e])
    have HXY : Hid (allP P = true → R = (((toN C S s0 P : Nat) : Int), 0)) := Lib.hid (fun e => by rw [hR.out, wk_yes HNM.out HNS.out e])
    go_enter Try.func9, Try.ntmps9
    go_wp2_with fail
    refine (HM.out _ HB0.out.1).mono ?_
    rintro e w1 ⟨rfl, b1⟩
    have HL := Lib.hid (HB0.out.below b1)
    obtain ⟨_, q0, q1, q2⟩ := HL.out.2
    clear b1 HM
    go_wp2_with fail
    clear q0 q1 q2
    go_loopw [8] (fun v8 wr => ∃ i : Nat, i ≤ nP ∧ v8 = .int .i64 i ∧ Hid (∀ j, j < i → 0 ≤ gI P j ∧ gI P j ≤ 1114111) ∧ Hid (Lk w wr (.slice a0 nC c0) (.slice a1 nS c1) (.slice a2 nB c2))) (fun v8 _ => nP - (intOf v8).toNat)
    case atStart => exact ⟨0, by omega, rfl, Lib.hid (fun j h => by omega), HL⟩
    case round =>
      clear HL
      obtain ⟨i, hi, rfl, HI, HL⟩ := hrel
      by_cases h1 : i < nP
      · obtain ⟨b3, off3, rfl⟩ := HP.out.addr (by rw [← HN.out]; omega)
        obtain ⟨_, p0⟩ := (HP.out.below HL.out.1).at_ (i := i) (by rw [← HN.out]; exact h1)
        obtain ⟨n, hn⟩ : ∃ n, n = gI P i := ⟨_, rfl⟩
        rw [← hn] at p0
        have HNI := Lib.hid hn
        clear hn
        have hi1 : (i : Int) < nP := by omega
        have hi0 : (0 : Int) ≤ i := by omega
        by_cases ca : n < 0
        · have HX : Hid (R = (0, 2)) := Lib.hid (HXN.out (allP_no (i := i) (by rw [← HN.out]; exact h1) (by rw [← HNI.out]; omega)))
          go_wp2_with fail
          go_ret2
          exact ⟨by first | (rw [HX.out]; done) | (rw [HX.out]; rfl), HL.out.1⟩
        · by_cases cb : 1114111 < n
          · have HX : Hid (R = (0, 2)) := Lib.hid (HXN.out (allP_no (i := i) (by rw [← HN.out]; exact h1) (by rw [← HNI.out]; omega)))
            go_wp2_with fail
            go_ret2
            exact ⟨by first | (rw [HX.out]; done) | (rw [HX.out]; rfl), HL.out.1⟩
          · have HI2 : Hid (∀ j, j < i + 1 → 0 ≤ gI P j ∧ gI P j ≤ 1114111) := Lib.hid (upto_next HI.out (by rw [← HNI.out]; omega))
            clear HI
            go_wp2_with fail
            go_roundw
            case rel => exact ⟨i + 1, by omega, by go_num, HI2, HL⟩
            case measure => simp [intOf]; omega
      · have e1 : i = nP := by omega
        have HX : Hid (R = (((toN C S s0 P : Nat) : Int), 0)) := Lib.hid (HXY.out (allP_yes (fun j h => HI.out j (by rw [e1, HN.out]; exact h))))
        have hi1 : ¬ (i : Int) < nP := by omega
        obtain ⟨_, q0, q1, q2⟩ := HL.out.2
        clear HI
        go_wp2_with fail
        refine (HK.out s0 _ HL.out.1 (by first | rfl | trivial) (by omega) k4).mono ?_
        rintro e w2 ⟨rfl, _, b2⟩
        have HL2 := Lib.hid (HL.out.below b2)
        clear b2
        go_wp2_with fail
        go_ret2
        exact ⟨by first | (rw [HX.out]; done) | (rw [HX.out]; rfl), HL2.out.1⟩
set_option maxRecDepth 20000 in
set_option maxHeartbeats 1000000 in
theorem walk_any (a : DA) (d : DF) (g : Bool) (hg : g = true ↔ DfOk d) (s : Int) (ap : Option Addr) (cp : Nat) (P : List Int) (w : World) (hv : DV w a d) (hp : IV w ap P) (hpm : P.length ≤ maxLen) : Calls Try.prog 8 #[dv a d, .int .i64 s, .slice ap P.length cp] w fun r w' => r = .returned (.tuple #[.int .i64 (wkR g d s P).1, .int .i64 (wkR g d s P).2]) ∧ Below w.heap.size w w' := by
  have HM := Lib.hid (fun w1 (b : Below w.heap.size w w1) => check_any a d g hg w1 (hv.below b))
  have HK := Lib.hid (fun n w1 (b : Below w.heap.size w w1) (e : g = true) (h : 0 ≤ n) => class_any a.a0 a.c0 d.C n w1 (hv.below b).iv (hg.1 e).1 h)
  have hok := hg.1
  obtain ⟨a0, a1, a2, c0, c1, c2⟩ := a
  obtain ⟨C, S, B⟩ := d
  unfold dv at HM ⊢
  try unfold dv at HK
  dsimp only at HM HK ⊢
  obtain ⟨R, hR⟩ : ∃ R, R = wkR g ⟨C, S, B⟩ s P := ⟨_, rfl⟩
  rw [← hR]
  replace hR := Lib.hid hR
  have HV1 : Hid (SV w a1 S) := Lib.hid hv.sv
  have HP := Lib.hid hp
  have HOK := Lib.hid hok
  clear hv hg hok hp
  unfold maxLen at hpm
  have hsm : ∀ x : Bool, x = true → True := fun _ _ => trivial
  obtain ⟨nC, hC⟩ : ∃ n, n = C.length := ⟨_, rfl⟩
  obtain ⟨nS, hS⟩ : ∃ n, n = S.length := ⟨_, rfl⟩
  obtain ⟨nB, hB⟩ : ∃ n, n = B.length := ⟨_, rfl⟩
  obtain ⟨nP, hN⟩ : ∃ n, n = P.length := ⟨_, rfl⟩
  rw [← hC, ← hS, ← hB] at HM
  rw [← hC, ← hS, ← hB, ← hN]
  rw [← hN] at hpm
  rw [← hC] at HK
  have HC := Lib.hid hC
  have HS := Lib.hid hS
  have HN := Lib.hid hN
  clear hC hS hB hN
  have HB0 : Hid (Lk w (w.alloc (.cells #[.slice a0 nC c0, .slice a1 nS c1, .slice a2 nB c2] 26)) (.slice a0 nC c0) (.slice a1 nS c1) (.slice a2 nB c2)) := Lib.hid (lk_new _ _ _ _ _)
  cases g with
  | false =>
    have HX : Hid (R = (0, 8)) := Lib.hid (by rw [hR.out, wk_bad])
    rw [show ckE false = 8 from rfl] at HM
    go_enter Try.func8, Try.ntmps8
    go_wp2_with fail
    refine (HM.out _ HB0.out.1).mono ?_
    rintro e w1 ⟨rfl, b1⟩
    have HL := Lib.hid (HB0.out.below b1)
    obtain ⟨_, q0, q1, q2⟩ := HL.out.2
    clear b1 HM
    go_wp2_with fail
    go_ret2
    exact ⟨by first | (rw [HX.out]; done) | (rw [HX.out]; rfl), HL.out.1⟩
  | true =>
    rw [show ckE true = 0 from rfl] at HM
    by_cases k1 : 1024 < nP
    · have HX : Hid (R = (0, 4)) := Lib.hid (by rw [hR.out, wk_many (by rw [← HN.out]; exact k1)])
      have k1' : (1024 : Int) < nP := by omega
      go_enter Try.func8, Try.ntmps8
      go_wp2_with fail
      refine (HM.out _ HB0.out.1).mono ?_
      rintro e w1 ⟨rfl, b1⟩
      have HL := Lib.hid (HB0.out.below b1)
      obtain ⟨_, q0, q1, q2⟩ := HL.out.2
      clear b1 HM
      go_wp2_with fail
      go_ret2
      exact ⟨by first | (rw [HX.out]; done) | (rw [HX.out]; rfl), HL.out.1⟩
    have k1' : ¬ (1024 : Int) < nP := by omega
    have HNM : Hid (¬ 1024 < P.length) := Lib.hid (by rw [← HN.out]; exact k1)
    by_cases k2 : s < 0
    · have HX : Hid (R = (0, 2)) := Lib.hid (by rw [hR.out, wk_arg HNM.out (.inl k2)])
      go_enter Try.func8, Try.ntmps8
      go_wp2_with fail
      refine (HM.out _ HB0.out.1).mono ?_
      rintro e w1 ⟨rfl, b1⟩
      have HL := Lib.hid (HB0.out.below b1)
      obtain ⟨_, q0, q1, q2⟩ := HL.out.2
      clear b1 HM
      go_wp2_with fail
      go_ret2
      exact ⟨by first | (rw [HX.out]; done) | (rw [HX.out]; rfl), HL.out.1⟩
    by_cases k3 : (nS : Int) ≤ s
    · have HX : Hid (R = (0, 2)) := Lib.hid (by rw [hR.out, wk_arg HNM.out (.inr (by show (S.length : Int) ≤ s; rw [← HS.out]; exact k3))])
      go_enter Try.func8, Try.ntmps8
      go_wp2_with fail
      refine (HM.out _ HB0.out.1).mono ?_
      rintro e w1 ⟨rfl, b1⟩
      have HL := Lib.hid (HB0.out.below b1)
      obtain ⟨_, q0, q1, q2⟩ := HL.out.2
      clear b1 HM
      go_wp2_with fail
      go_ret2
      exact ⟨by first | (rw [HX.out]; done) | (rw [HX.out]; rfl), HL.out.1⟩
    obtain ⟨s0, hs0⟩ : ∃ s0 : Nat, s = s0 := ⟨s.toNat, by omega⟩
    subst hs0
    have k4 : s0 < nS := by omega
    have HNS : Hid (¬ ((s0 : Int) < 0 ∨ (((⟨C, S, B⟩ : DF).S.length : Nat) : Int) ≤ s0)) := Lib.hid (by show ¬ ((s0 : Int) < 0 ∨ (S.length : Int) ≤ s0); rw [← HS.out]; omega)
    have HXN : Hid (allP P = false → R = (0, 2)) := Lib.hid (fun e => by rw [hR.out, wk_no HNM.out HNS.out e])
    have HXY : Hid (allP P = true → R = (((toN C S s0 P : Nat) : Int), 0)) := Lib.hid (fun e => by rw [hR.out, wk_yes HNM.out HNS.out e])
    go_enter Try.func8, Try.ntmps8
    go_wp2_with fail
    refine (HM.out _ HB0.out.1).mono ?_
    rintro e w1 ⟨rfl, b1⟩
    have HL := Lib.hid (HB0.out.below b1)
    obtain ⟨_, q0, q1, q2⟩ := HL.out.2
    clear b1 HM
    go_wp2_with fail
    clear q0 q1 q2
    have hok := HOK.out (by first | rfl | trivial)
    have HRW : Hid (∀ i, i < S.length → (gS S i).length = C.length ∧ ∀ j, j < (gS S i).length → 0 ≤ gI (gS S i) j ∧ gI (gS S i) j < S.length) := Lib.hid hok.2.2.2.2
    have HC0 : Hid (0 < C.length) := Lib.hid hok.1.1
    have h256 : nC ≤ 256 := by rw [HC.out]; exact hok.1.2.1
    have h64 : nS ≤ 64 := by rw [HS.out]; exact hok.2.2.1
    clear hok
    have K4 := Lib.hid k4
    clear k4 k3 k2 k1'
    obtain ⟨z1, hz1⟩ : ∃ z, z = decide (nS ≤ s0) := ⟨_, rfl⟩
    rw [← hz1]
    clear hz1
    go_loopw [1, 10, 30] (fun v1 _ v30 wr => ∃ i m : Nat, i ≤ nP ∧ v30 = .int .i64 i ∧ v1 = .int .i64 m ∧ m < nS ∧ Hid (m = toN C S s0 (P.take i)) ∧ Hid (∀ j, j < i → 0 ≤ gI P j ∧ gI P j ≤ 1114111) ∧ Hid (Lk w wr (.slice a0 nC c0) (.slice a1 nS c1) (.slice a2 nB c2))) (fun _ _ v30 _ => nP - (intOf v30).toNat)
    case atStart => exact ⟨0, s0, by omega, rfl, rfl, K4.out, Lib.hid rfl, Lib.hid (fun j h => by omega), HL⟩
    case round =>
      clear HL
      obtain ⟨i, m, hi, rfl, rfl, hm, HM, HI, HL⟩ := hrel
      by_cases h1 : i < nP
      · obtain ⟨b1, off1, rfl⟩ := HV1.out.addr (by rw [← HS.out]; omega)
        obtain ⟨b3, off3, rfl⟩ := HP.out.addr (by rw [← HN.out]; omega)
        obtain ⟨_, p0⟩ := (HP.out.below HL.out.1).at_ (i := i) (by rw [← HN.out]; exact h1)
        obtain ⟨n, hn⟩ : ∃ n, n = gI P i := ⟨_, rfl⟩
        rw [← hn] at p0
        have HNI := Lib.hid hn
        clear hn
        have hi1 : (i : Int) < nP := by omega
        have hi0 : (0 : Int) ≤ i := by omega
        by_cases ca : 0 ≤ n ∧ n ≤ 1114111
        · obtain ⟨_, ad, cr, d0, _, _, hiv, _⟩ := (HV1.out.below HL.out.1).at_ (i := m) (by rw [← HS.out]; exact hm)
          obtain ⟨hl, hrow⟩ := HRW.out m (by rw [← HS.out]; exact hm)
          obtain ⟨k, hk⟩ : ∃ k, k = cls C n := ⟨_, rfl⟩
          have hkl : k < C.length := by rw [hk]; exact cls_lt HC0.out n
          obtain ⟨b2, off2, rfl⟩ := hiv.addr (by rw [hl]; omega)
          obtain ⟨_, f0⟩ := hiv.at_ (i := k) (by rw [hl]; exact hkl)
          rw [hl, ← HC.out] at d0
          obtain ⟨y, hy⟩ : ∃ y : Nat, gI (gS S m) k = y := ⟨(gI (gS S m) k).toNat, by have := (hrow k (by rw [hl]; exact hkl)).1; omega⟩
          have hys : y < nS := by have := (hrow k (by rw [hl]; exact hkl)).2; rw [hy, ← HS.out] at this; omega
          rw [hy] at f0
          have HM2 : Hid (y = toN C S s0 (P.take (i + 1))) := Lib.hid (by rw [toN_next (by rw [← HN.out]; exact h1), ← HM.out, ← HNI.out, ← hk, hy]; rfl)
          have HI2 : Hid (∀ j, j < i + 1 → 0 ≤ gI P j ∧ gI P j ≤ 1114111) := Lib.hid (upto_next HI.out (by rw [← HNI.out]; exact ca))
          have HOF : Hid (∀ W, Sx w w.heap.size (.slice a0 nC c0) (.slice (some ⟨b1, off1, none⟩) nS c1) (.slice a2 nB c2) b1 (off1 + m) (.slice (some ⟨b2, off2, none⟩) nC cr) b2 (off2 + k) (.int .i64 y) b3 (off3 + i) (.int .i64 n) W → Calls Try.prog 18 #[.slice a0 nC c0, .int .i64 n] W fun r w' => r = .returned (.int .i64 k) ∧ Sx w w.heap.size (.slice a0 nC c0) (.slice (some ⟨b1, off1, none⟩) nS c1) (.slice a2 nB c2) b1 (off1 + m) (.slice (some ⟨b2, off2, none⟩) nC cr) b2 (off2 + k) (.int .i64 y) b3 (off3 + i) (.int .i64 n) w') := Lib.hid (fun W hW => by
            refine (HK.out n W hW.2.2.2.2.2.2 (by first | rfl | trivial) ca.1).mono ?_
            rintro e w' ⟨rfl, b⟩
            exact ⟨by rw [← hk], hW.up b⟩)
          have hkn : (k : Int) < nC := by have := HC.out; omega
          have hk0 : (0 : Int) ≤ k := by omega
          have hm1 : (m : Int) < nS := by omega
          have hm0 : (0 : Int) ≤ m := by omega
          have hd : decide (0 ≤ n ∧ n ≤ 1114111) = true := decide_eq_true ca
          obtain ⟨_, q0, q1, q2⟩ := HL.out.2
          have HS1 : Hid (Sx w w.heap.size (.slice a0 nC c0) (.slice (some ⟨b1, off1, none⟩) nS c1) (.slice a2 nB c2) b1 (off1 + m) (.slice (some ⟨b2, off2, none⟩) nC cr) b2 (off2 + k) (.int .i64 y) b3 (off3 + i) (.int .i64 n) wr) := Lib.hid ⟨q0, q1, q2, d0, f0, p0, HL.out.1⟩
          clear hk hkl hl hrow hiv hy ca q0 q1 q2 d0 f0 HI
          go_wp2_with fail
          refine (isPoint_any n _).mono ?_
          rintro e w2 ⟨rfl, b2⟩
          rw [hd]
          have HS2 := Lib.hid (HS1.out.up b2)
          clear b2 p0
          go_wp2_with fail
          have hSS : Sx w w.heap.size (.slice a0 nC c0) (.slice (some ⟨b1, off1, none⟩) nS c1) (.slice a2 nB c2) b1 (off1 + m) (.slice (some ⟨b2, off2, none⟩) nC cr) b2 (off2 + k) (.int .i64 y) b3 (off3 + i) (.int .i64 n) w2.drew := HS2.out.up ((Below.refl w2.heap.size w2).drew)
          obtain ⟨q0, q1, q2, d0, f0, _, _⟩ := HS2.out
          go_region_held3 (fun w' => w'.cell? ⟨w.heap.size, 0, none⟩ = some (.slice a0 nC c0) ∧ w'.cell? ⟨w.heap.size, 1, none⟩ = some (.slice (some ⟨b1, off1, none⟩) nS c1) ∧ w'.cell? ⟨w.heap.size, 2, none⟩ = some (.slice a2 nB c2) ∧ w'.cell? ⟨b1, off1 + m, none⟩ = some (.slice (some ⟨b2, off2, none⟩) nC cr) ∧ w'.cell? ⟨b2, off2 + k, none⟩ = some (.int .i64 y) ∧ w'.cell? ⟨b3, off3 + i, none⟩ = some (.int .i64 n) ∧ Below w.heap.size w w')
            ((first | exact hSS | assumption))
            (first | (go_at_call 18; refine (HOF.out _ (by assumption)).mono ?_; rintro e w' ⟨rfl, hS2⟩; unfold Sx at hS2))
          go_wp2_with fail
          go_roundw
          case rel => exact ⟨i + 1, y, by omega, by go_num, rfl, hys, HM2, HI2, Lib.hid (Sx.lk (b1 := b1) (o1 := off1 + m) (row := .slice (some ⟨b2, off2, none⟩) nC cr) (b2 := b2) (o2 := off2 + k) (x := .int .i64 y) (b3 := b3) (o3 := off3 + i) (p := .int .i64 n) (by unfold Sx; assumption))⟩
          case measure => simp [intOf]; omega
        · have HX : Hid (R = (0, 2)) := Lib.hid (HXN.out (allP_no (i := i) (by rw [← HN.out]; exact h1) (by rw [← HNI.out]; exact ca)))
          have hd : decide (0 ≤ n ∧ n ≤ 1114111) = false := decide_eq_false ca
          clear ca
          go_wp2_with fail
          refine (isPoint_any n _).mono ?_
          rintro e w2 ⟨rfl, b2⟩
          have HL2 := Lib.hid (HL.out.below b2)
          clear b2
          rw [hd]
          go_wp2_with fail
          go_ret2
          exact ⟨by first | (rw [HX.out]; done) | (rw [HX.out]; rfl), HL2.out.1⟩
      · have e1 : i = nP := by omega
        have HX : Hid (R = (((m : Nat) : Int), 0)) := Lib.hid (by
          rw [HXY.out (allP_yes (fun j h => HI.out j (by rw [e1, HN.out]; exact h))), HM.out, e1, HN.out, List.take_length])
        have hi1 : ¬ (i : Int) < nP := by omega
        clear HI
        go_wp2_with fail
        go_ret2
        exact ⟨by first | (rw [HX.out]; done) | (rw [HX.out]; rfl), HL.out.1⟩
end Go.Proofs.Ythaliiffgkcahaa
