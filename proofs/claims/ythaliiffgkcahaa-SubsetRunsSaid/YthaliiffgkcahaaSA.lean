/- Layer 10: Run: the program's and the document's. -/
import Derived.Test.YthaliiffgkcahaaS9
namespace Go.Proofs.Ythaliiffgkcahaa
open Go.RowKit Go.Maps
theorem toN_lt {d : DF} (h : DfOk d) : ∀ (P : List Int) (s : Nat), s < d.S.length → toN d.C d.S s P < d.S.length
  | [], _, hs => hs
  | n :: P, s, hs => by
    rw [toN]
    refine toN_lt h P _ ?_
    obtain ⟨hl, hr⟩ := h.2.2.2.2 s hs
    have := hr (cls d.C n) (by rw [hl]; exact cls_lt h.1.1 n)
    omega
/-- What Run answers. -/
def rnR (g : Bool) (d : DF) (P : List Int) : Bool × Int := if (wkR g d 0 P).2 = 0 then (gB d.B (wkR g d 0 P).1.toNat, 0) else (false, (wkR g d 0 P).2)
theorem wk_ok {g : Bool} {d : DF} {P : List Int} (hok : g = true → DfOk d) (h : (wkR g d 0 P).2 = 0) : ∃ m : Nat, (wkR g d 0 P).1 = m ∧ m < d.B.length := by
  cases g with
  | false => rw [wk_bad] at h; exact absurd h (by decide)
  | true =>
    have k := hok rfl
    by_cases h1 : 1024 < P.length
    · rw [wk_many h1] at h; exact absurd h (by decide)
    · by_cases h2 : (0 : Int) < 0 ∨ (d.S.length : Int) ≤ 0
      · rw [wk_arg h1 h2] at h; exact absurd h (by decide)
      · cases h3 : allP P with
        | false => rw [wk_no h1 h2 h3] at h; exact absurd h (by decide)
        | true =>
          have := wk_yes (s := 0) h1 h2 h3
          refine ⟨toN d.C d.S 0 P, ?_, ?_⟩
          · rw [show ((0 : Nat) : Int) = 0 from rfl] at this
            rw [this]
          · rw [k.2.2.2.1]
            exact toN_lt k P 0 (by have := k.2.1; omega)
set_option maxRecDepth 20000 in
theorem run_any (a : DA) (d : DF) (g : Bool) (hg : g = true ↔ DfOk d) (ap : Option Addr) (cp : Nat) (P : List Int) (w : World) (hv : DV w a d) (hp : IV w ap P) (hpm : P.length ≤ maxLen) : Calls Try.prog 10 #[dv a d, .slice ap P.length cp] w fun r w' => r = .returned (.tuple #[.bool (rnR g d P).1, .int .i64 (rnR g d P).2]) ∧ Below w.heap.size w w' := by
  have HM := Lib.hid (fun w1 (b : Below w.heap.size w w1) => walk_any a d g hg 0 ap cp P w1 (hv.below b) (hp.below b) hpm)
  have HW := Lib.hid (wk_ok (P := P) hg.1)
  have HR := Lib.hid (show rnR g d P = if (wkR g d 0 P).2 = 0 then (gB d.B (wkR g d 0 P).1.toNat, 0) else (false, (wkR g d 0 P).2) from rfl)
  obtain ⟨R, hR⟩ : ∃ R, R = rnR g d P := ⟨_, rfl⟩
  rw [← hR] at HR ⊢
  obtain ⟨⟨x, e⟩, hx⟩ : ∃ R, R = wkR g d 0 P := ⟨_, rfl⟩
  rw [← hx] at HM HR HW
  dsimp only at HM HR HW
  have HV2 := Lib.hid hv.bv
  clear hv hg hp hpm hR hx
  obtain ⟨a0, a1, a2, c0, c1, c2⟩ := a
  obtain ⟨C, S, B⟩ := d
  unfold dv at HM ⊢
  dsimp only at HM HW HR HV2 ⊢
  obtain ⟨nC, hC⟩ : ∃ n, n = C.length := ⟨_, rfl⟩
  obtain ⟨nS, hS⟩ : ∃ n, n = S.length := ⟨_, rfl⟩
  obtain ⟨nB, hB⟩ : ∃ n, n = B.length := ⟨_, rfl⟩
  obtain ⟨nP, hN⟩ : ∃ n, n = P.length := ⟨_, rfl⟩
  rw [← hC, ← hS, ← hB, ← hN] at HM ⊢
  rw [← hB] at HW
  have HBB := Lib.hid hB
  clear hC hS hB hN
  have HB0 : Hid (Lk w (w.alloc (.cells #[.slice a0 nC c0, .slice a1 nS c1, .slice a2 nB c2] 26)) (.slice a0 nC c0) (.slice a1 nS c1) (.slice a2 nB c2)) := Lib.hid (lk_new _ _ _ _ _)
  by_cases he : e = 0
  · subst he
    obtain ⟨m, hm, hmB⟩ := HW.out rfl
    subst hm
    have HX : Hid (R = (gB B m, 0)) := Lib.hid (by rw [HR.out, if_pos rfl]; rfl)
    obtain ⟨y, hy⟩ : ∃ y, y = gB B m := ⟨_, rfl⟩
    rw [← hy] at HX
    have HY := Lib.hid hy
    clear hy HW HR
    obtain ⟨b2, off2, rfl⟩ := HV2.out.addr (by rw [← HBB.out]; omega)
    have hm1 : (m : Int) < nB := by omega
    have hm0 : (0 : Int) ≤ m := by omega
    go_enter Try.func10, Try.ntmps10
    go_wp2_with fail
    refine (HM.out _ HB0.out.1).mono ?_
    rintro e w1 ⟨rfl, b1⟩
    have HL := Lib.hid (HB0.out.below b1)
    obtain ⟨_, q0, q1, q2⟩ := HL.out.2
    obtain ⟨_, d0⟩ := (HV2.out.below HL.out.1).at_ (i := m) (by rw [← HBB.out]; exact hmB)
    rw [← HY.out] at d0
    clear b1 HM
    go_wp2_with fail
    go_ret2
    exact ⟨by first | (rw [HX.out]; done) | (rw [HX.out]; rfl), HL.out.1⟩
  · have HX : Hid (R = (false, e)) := Lib.hid (by rw [HR.out, if_neg he])
    have he2 : (e != 0) = true := by simpa using he
    have he3 : (e == 0) = false := by simpa using he
    clear HW HR
    go_enter Try.func10, Try.ntmps10
    go_wp2_with fail
    refine (HM.out _ HB0.out.1).mono ?_
    rintro e w1 ⟨rfl, b1⟩
    have HL := Lib.hid (HB0.out.below b1)
    clear b1 HM
    go_wp2_with fail
    go_ret2
    exact ⟨by first | (rw [HX.out]; done) | (rw [HX.out]; rfl), HL.out.1⟩
set_option maxRecDepth 20000 in
theorem rrun_any (a : DA) (d : DF) (g : Bool) (hg : g = true ↔ DfOk d) (ap : Option Addr) (cp : Nat) (P : List Int) (w : World) (hv : DV w a d) (hp : IV w ap P) (hpm : P.length ≤ maxLen) : Calls Try.prog 11 #[dv a d, .slice ap P.length cp] w fun r w' => r = .returned (.tuple #[.bool (rnR g d P).1, .int .i64 (rnR g d P).2]) ∧ Below w.heap.size w w' := by
  have HM := Lib.hid (fun w1 (b : Below w.heap.size w w1) => rwalk_any a d g hg 0 ap cp P w1 (hv.below b) (hp.below b) hpm)
  have HW := Lib.hid (wk_ok (P := P) hg.1)
  have HR := Lib.hid (show rnR g d P = if (wkR g d 0 P).2 = 0 then (gB d.B (wkR g d 0 P).1.toNat, 0) else (false, (wkR g d 0 P).2) from rfl)
  obtain ⟨R, hR⟩ : ∃ R, R = rnR g d P := ⟨_, rfl⟩
  rw [← hR] at HR ⊢
  obtain ⟨⟨x, e⟩, hx⟩ : ∃ R, R = wkR g d 0 P := ⟨_, rfl⟩
  rw [← hx] at HM HR HW
  dsimp only at HM HR HW
  have HV2 := Lib.hid hv.bv
  clear hv hg hp hpm hR hx
  obtain ⟨a0, a1, a2, c0, c1, c2⟩ := a
  obtain ⟨C, S, B⟩ := d
  unfold dv at HM ⊢
  dsimp only at HM HW HR HV2 ⊢
  obtain ⟨nC, hC⟩ : ∃ n, n = C.length := ⟨_, rfl⟩
  obtain ⟨nS, hS⟩ : ∃ n, n = S.length := ⟨_, rfl⟩
  obtain ⟨nB, hB⟩ : ∃ n, n = B.length := ⟨_, rfl⟩
  obtain ⟨nP, hN⟩ : ∃ n, n = P.length := ⟨_, rfl⟩
  rw [← hC, ← hS, ← hB, ← hN] at HM ⊢
  rw [← hB] at HW
  have HBB := Lib.hid hB
  clear hC hS hB hN
  have HB0 : Hid (Lk w (w.alloc (.cells #[.slice a0 nC c0, .slice a1 nS c1, .slice a2 nB c2] 26)) (.slice a0 nC c0) (.slice a1 nS c1) (.slice a2 nB c2)) := Lib.hid (lk_new _ _ _ _ _)
  by_cases he : e = 0
  · subst he
    obtain ⟨m, hm, hmB⟩ := HW.out rfl
    subst hm
    have HX : Hid (R = (gB B m, 0)) := Lib.hid (by rw [HR.out, if_pos rfl]; rfl)
    obtain ⟨y, hy⟩ : ∃ y, y = gB B m := ⟨_, rfl⟩
    rw [← hy] at HX
    have HY := Lib.hid hy
    clear hy HW HR
    obtain ⟨b2, off2, rfl⟩ := HV2.out.addr (by rw [← HBB.out]; omega)
    have hm1 : (m : Int) < nB := by omega
    have hm0 : (0 : Int) ≤ m := by omega
    go_enter Try.func11, Try.ntmps11
    go_wp2_with fail
    refine (HM.out _ HB0.out.1).mono ?_
    rintro e w1 ⟨rfl, b1⟩
    have HL := Lib.hid (HB0.out.below b1)
    obtain ⟨_, q0, q1, q2⟩ := HL.out.2
    obtain ⟨_, d0⟩ := (HV2.out.below HL.out.1).at_ (i := m) (by rw [← HBB.out]; exact hmB)
    rw [← HY.out] at d0
    clear b1 HM
    go_wp2_with fail
    go_ret2
    exact ⟨by first | (rw [HX.out]; done) | (rw [HX.out]; rfl), HL.out.1⟩
  · have HX : Hid (R = (false, e)) := Lib.hid (by rw [HR.out, if_neg he])
    have he2 : (e != 0) = true := by simpa using he
    have he3 : (e == 0) = false := by simpa using he
    clear HW HR
    go_enter Try.func11, Try.ntmps11
    go_wp2_with fail
    refine (HM.out _ HB0.out.1).mono ?_
    rintro e w1 ⟨rfl, b1⟩
    have HL := Lib.hid (HB0.out.below b1)
    clear b1 HM
    go_wp2_with fail
    go_ret2
    exact ⟨by first | (rw [HX.out]; done) | (rw [HX.out]; rfl), HL.out.1⟩
end Go.Proofs.Ythaliiffgkcahaa
