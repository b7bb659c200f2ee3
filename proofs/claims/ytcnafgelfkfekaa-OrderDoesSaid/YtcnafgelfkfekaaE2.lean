import Derived.Test.YtcnafgelfkfekaaE1
import Derived.ScopeJumps
import Derived.WalkMore
namespace Go.Proofs.Ytcnafgelfkfekaa
open Go.RowKit

set_option maxHeartbeats 1600000 in
theorem find_any (a : Option Addr) (len cap : Nat) (L : List ByteArray) (s : ByteArray) (w : World) (hv : SView w a len L) (hlen : len ≤ 4096) (hr : rises L (L.length - 1) = true) :
    Calls Try.prog 28 #[.slice a len cap, .string s] w fun e w' => (∃ (k : Nat) (is : Bool), e = .returned (.tuple #[.int .i64 (k : Int), .bool is]) ∧ At L s k is) ∧ w = w' := by
  obtain ⟨hL, hc⟩ := hv
  by_cases hz : len = 0
  · subst hz
    have HA : Hid (At L s 0 false) := Lib.hid ⟨by omega, fun j hj => by omega, fun h => by simp at h, fun _ j _ hj => by omega⟩
    clear hc hL hr
    go_enter Try.func28, Try.ntmps28
    go_wp2_with fail
    go_step3
    go_wp2_with fail
    go_step3
    go_wp2_with fail
    rw [Exit.noGoto_ret]
    go_ret2
    exact ⟨⟨0, false, rfl, HA.out⟩, rfl⟩
  · obtain ⟨b, off, rfl, hxb, _⟩ := hc 0 (by omega)
    have HC : Hid (∀ k, k < len → w.cell? ⟨b, off + k, none⟩ = some (.string (nth L k))) := Lib.hid (fun k hk => by
      obtain ⟨b', off', he, _, hx⟩ := hc k hk
      simp only [Option.some.injEq, Addr.mk.injEq, and_true] at he
      obtain ⟨rfl, rfl⟩ := he
      exact hx)
    have HR := Lib.hid hr
    have HL := Lib.hid hL
    clear hc hL hr
    go_enter Try.func28, Try.ntmps28
    go_wp2_with fail
    refine wp_scope_jumps 0 (fun a' w' => w' = w ∧ ∃ (f t : Nat) (u2 u3 u4 u5 u8 u9 u10 u11 u12 u13 u14 u15 u16 u17 u18 u19 u20 u21 u22 u23 u24 u25 u26 u27 u28 u29 u30 u31 u32 u33 u34 : Value), a' = { tmps := #[.slice (some ⟨b, off, none⟩) len cap, .string s, u2, u3, u4, u5, .int .i64 (f : Int), .int .i64 (t : Int), u8, u9, u10, u11, u12, u13, u14, u15, u16, u17, u18, u19, u20, u21, u22, u23, u24, u25, u26, u27, u28, u29, u30, u31, u32, u33, u34], defers := [] } ∧ f ≤ t ∧ t ≤ len ∧ (∀ j, j < f → cmpB (nth L j) s < 0) ∧ (∀ j, t ≤ j → j < len → 0 < cmpB (nth L j) s)) (fun a' _ => (intOf (a'.tmps.getD 7 undef)).toNat - (intOf (a'.tmps.getD 6 undef)).toNat) rfl ?_ ?_
    · skip
      obtain ⟨d, hd, hd2⟩ : ∃ d : Nat, ((len : Nat) : Int).tdiv 2 = (d : Int) ∧ d < len := ⟨len / 2, by rw [Int.tdiv_eq_ediv_of_nonneg (by omega)]; omega, by omega⟩
      have hx := HC.out d (by omega)
      obtain ⟨x, hxx⟩ : ∃ x, x = nth L d := ⟨_, rfl⟩
      rw [← hxx] at hx
      have HX : Hid (x = nth L d) := hxx
      clear hxx
      have hne : ((0 : Int) == (len : Int)) = false := by simp; omega
      rcases (show cmpB x s = -1 ∨ cmpB x s = 1 ∨ cmpB x s = 0 by have := cmp_range x s; omega) with hcmp | hcmp | hcmp
      · have HCM := Lib.hid hcmp
        clear hcmp
        go_wp2_with fail
        go_step3
        go_wp2_with fail
        refine (cmp_any _ _ _).mono ?_
        rintro e w1 ⟨rfl, rfl⟩
        rw [HCM.out]
        go_wp2_with fail
        go_step3
        have hlo := low_step (s := s) HR.out (by rw [HL.out]; exact hd2) (by rw [← HX.out, HCM.out]; decide)
        exact ⟨rfl, rfl, d + 1, len, _, _, _, _, _, _, _, _, _, _, _, _, _, _, _, _, _, _, _, _, _, _, _, _, _, _, _, _, _, _, _, rfl, by omega, by omega, fun j hj => (by by_cases e : j = d; (· rw [e, ← HX.out, HCM.out]; decide); (· exact hlo j (by omega))), fun j h1 h2 => by omega⟩
      · have HCM := Lib.hid hcmp
        clear hcmp
        go_wp2_with fail
        go_step3
        go_wp2_with fail
        refine (cmp_any _ _ _).mono ?_
        rintro e w1 ⟨rfl, rfl⟩
        rw [HCM.out]
        go_wp2_with fail
        go_step3
        have hhi := high_step (s := s) HR.out (m := d) (by rw [← HX.out, HCM.out]; decide)
        exact ⟨rfl, rfl, 0, d, _, _, _, _, _, _, _, _, _, _, _, _, _, _, _, _, _, _, _, _, _, _, _, _, _, _, _, _, _, _, _, rfl, by omega, by omega, fun j hj => by omega, fun j h1 h2 => hhi j h1 (by rw [HL.out]; exact h2)⟩
      · have HCM := Lib.hid hcmp
        clear hcmp
        go_wp2_with fail
        go_step3
        go_wp2_with fail
        refine (cmp_any _ _ _).mono ?_
        rintro e w1 ⟨rfl, rfl⟩
        rw [HCM.out]
        go_wp2_with fail
        simp only [Exit.jump]
        go_ret2
        have hlo := low_step (s := s) HR.out (by rw [HL.out]; exact hd2) (by rw [← HX.out, HCM.out]; decide)
        exact ⟨⟨d, true, rfl, by rw [HL.out]; omega, hlo, fun _ => ⟨by rw [HL.out]; exact hd2, by rw [← HX.out]; exact (cmp_zero _ _).1 HCM.out⟩, fun h => by simp at h⟩, rfl⟩
    · rintro a' w' ⟨rfl, f, t, u2, u3, u4, u5, u8, u9, u10, u11, u12, u13, u14, u15, u16, u17, u18, u19, u20, u21, u22, u23, u24, u25, u26, u27, u28, u29, u30, u31, u32, u33, u34, rfl, hft0, htl, hlo0, hhi0⟩
      have HLO := Lib.hid hlo0
      have HHI := Lib.hid hhi0
      clear hlo0 hhi0
      by_cases hft : f = t
      · subst hft
        have HA : Hid (At L s f false) := Lib.hid ⟨by rw [HL.out]; exact htl, HLO.out, fun h => by simp at h, fun _ j h1 h2 => HHI.out j h1 (by rw [← HL.out]; exact h2)⟩
        go_wp2_with fail
        simp only [Exit.jump]
        go_ret2
        exact ⟨⟨f, false, rfl, HA.out⟩, rfl⟩
      · obtain ⟨d, hd, hd2⟩ : ∃ d : Nat, ((t : Int) - (f : Int)).tdiv 2 = (d : Int) ∧ f + d < t := ⟨(t - f) / 2, by rw [Int.tdiv_eq_ediv_of_nonneg (by omega)]; omega, by omega⟩
        have hx := HC.out (f + d) (by omega)
        obtain ⟨x, hxx⟩ : ∃ x, x = nth L (f + d) := ⟨_, rfl⟩
        rw [← hxx] at hx
        have HX : Hid (x = nth L (f + d)) := hxx
        clear hxx
        have hne : ((f : Int) == (t : Int)) = false := by simp; omega
        have hin : f + d < len := by omega
        rcases (show cmpB x s = -1 ∨ cmpB x s = 1 ∨ cmpB x s = 0 by have := cmp_range x s; omega) with hcmp | hcmp | hcmp
        · have HCM := Lib.hid hcmp
          clear hcmp
          go_wp2_with fail
          refine (cmp_any _ _ _).mono ?_
          rintro e w1 ⟨rfl, rfl⟩
          rw [HCM.out]
          go_wp2_with fail
          go_step3
          have hlo := low_step (s := s) HR.out (by rw [HL.out]; exact hin) (by rw [← HX.out, HCM.out]; decide)
          exact ⟨rfl, ⟨rfl, f + d + 1, t, _, _, _, _, _, _, _, _, _, _, _, _, _, _, _, _, _, _, _, _, _, _, _, _, _, _, _, _, _, _, _, rfl, by omega, by omega, fun j hj => (by by_cases e : j = f + d; (· rw [e, ← HX.out, HCM.out]; decide); (· exact hlo j (by omega))), HHI.out⟩, by simp [intOf]; omega⟩
        · have HCM := Lib.hid hcmp
          clear hcmp
          go_wp2_with fail
          refine (cmp_any _ _ _).mono ?_
          rintro e w1 ⟨rfl, rfl⟩
          rw [HCM.out]
          go_wp2_with fail
          go_step3
          have hhi := high_step (s := s) HR.out (m := f + d) (by rw [← HX.out, HCM.out]; decide)
          exact ⟨rfl, ⟨rfl, f, f + d, _, _, _, _, _, _, _, _, _, _, _, _, _, _, _, _, _, _, _, _, _, _, _, _, _, _, _, _, _, _, _, rfl, by omega, by omega, HLO.out, fun j h1 h2 => hhi j h1 (by rw [HL.out]; exact h2)⟩, by simp [intOf]; omega⟩
        · have HCM := Lib.hid hcmp
          clear hcmp
          go_wp2_with fail
          refine (cmp_any _ _ _).mono ?_
          rintro e w1 ⟨rfl, rfl⟩
          rw [HCM.out]
          go_wp2_with fail
          simp only [Exit.jump]
          go_ret2
          have hlo := low_step (s := s) HR.out (by rw [HL.out]; exact hin) (by rw [← HX.out, HCM.out]; decide)
          exact ⟨⟨f + d, true, rfl, by rw [HL.out]; omega, hlo, fun _ => ⟨by rw [HL.out]; exact hin, by rw [← HX.out]; exact (cmp_zero _ _).1 HCM.out⟩, fun h => by simp at h⟩, rfl⟩
end Go.Proofs.Ytcnafgelfkfekaa
