/- Layer 3: Check. -/
import Derived.Test.YtfmgkndljppffaaC6
namespace Go.Proofs.Ytfmgkndljppffaa
open Go.RowKit Go.Maps
theorem cwalk_any {pa pv pr pw : Nat} {a : Option Addr} {n cap : Nat} {g : Nat → CR} (hcw : CW n g) (hm : n ≤ 2048) : ∀ (r : Nat) (d : Int) (_ : d = 16 - (r : Int)) (_ : r ≤ 16) (p : Nat) (W : World), Env W pa pv pr pw a n cap g → At W pa p → p ≤ n →
    Calls Try.prog 36 #[.int .i64 d, .pointer (some ⟨pa, 0, none⟩), .pointer (some ⟨pv, 0, none⟩), .pointer (some ⟨pr, 0, none⟩), .pointer (some ⟨pw, 0, none⟩)] W (WkPost W pa (wk g n r p)) := by
  intro r
  induction r with
  | zero =>
    intro d hd _ p W E A hp
    by_cases h : n ≤ p
    · exact walk_end d W E A h 0
    · by_cases h8 : 8 ≤ (g p).k
      · exact walk_bad8 d W E hcw A (by omega) hm 0 h8
      · cases ho : oneP (g p) with
        | false => exact walk_misfit d W E hcw A (by omega) hm 0 (by omega) ho
        | true =>
          cases hh : headP (g p) with
          | false => exact walk_leaf d W E hcw A (by omega) hm 0 (by omega) ho hh
          | true => exact walk_deep d W E hcw A (by omega) hm 0 (by omega) ho hh rfl (by simpa using hd)
  | succ r ih =>
    intro d hd hr p W E A hp
    by_cases h : n ≤ p
    · exact walk_end d W E A h _
    · by_cases h8 : 8 ≤ (g p).k
      · exact walk_bad8 d W E hcw A (by omega) hm _ h8
      · cases ho : oneP (g p) with
        | false => exact walk_misfit d W E hcw A (by omega) hm _ (by omega) ho
        | true =>
          cases hh : headP (g p) with
          | false => exact walk_leaf d W E hcw A (by omega) hm _ (by omega) ho hh
          | true => exact walk_kids d W E hcw A (by omega) hm _ (by omega) ho hh r rfl (by omega) (by omega) (fun p' W' E' A' hp' => ih (d + 1) (by omega) (by omega) p' W' E' A' hp')
/-- What Check tells. -/
def eC (b : Bool) : Int := if b then 0 else 8
set_option maxRecDepth 20000 in
theorem check_zero (a : Option Addr) (cap : Nat) (w : World) : Calls Try.prog 11 #[.slice a 0 cap] w fun e w' => e = .returned (.int .i64 8) ∧ Below w.heap.size w w' := by
  go_enter Try.func11, Try.ntmps11
  go_wp2_with fail
  go_ret
  exact ⟨rfl, (Below.refl _ _).alloc (Nat.le_refl _) _⟩
set_option maxRecDepth 20000 in
theorem check_great (a : Option Addr) (n cap : Nat) (w : World) (hn : 2048 < n) : Calls Try.prog 11 #[.slice a n cap] w fun e w' => e = .returned (.int .i64 8) ∧ Below w.heap.size w w' := by
  have h1 : (2048 : Int) < (n : Int) := by omega
  have h2 : ((n : Int) == 0) = false := by rw [beq_eq_false_iff_ne]; omega
  clear hn
  go_enter Try.func11, Try.ntmps11
  go_wp2_with fail
  go_ret
  exact ⟨rfl, (Below.refl _ _).alloc (Nat.le_refl _) _⟩
set_option maxRecDepth 20000 in
theorem check_named (a : Option Addr) (n cap : Nat) (g : Nat → CR) (w : World) (hv : CV w a n g) (h0 : 0 < n) (hn : n ≤ 2048) (he : em (g 0).nm = false) : Calls Try.prog 11 #[.slice a n cap] w fun e w' => e = .returned (.int .i64 8) ∧ Below w.heap.size w w' := by
  have h1 : ¬ (2048 : Int) < (n : Int) := by omega
  have h2 : ((n : Int) == 0) = false := by rw [beq_eq_false_iff_ne]; omega
  have h3 : (0 : Int) < n := by omega
  obtain ⟨b, off, rfl, hb, _, c1, _, _, _⟩ := hv 0 h0
  have hem := em_no he
  obtain ⟨nm, hnm⟩ : ∃ x, x = (g 0).nm := ⟨_, rfl⟩
  rw [← hnm] at c1 hem
  rw [Nat.zero_mul, Nat.add_zero] at c1
  clear hn hv he hnm h0
  go_enter Try.func11, Try.ntmps11
  go_wp2_with fail
  go_ret
  exact ⟨rfl, (Below.refl _ _).alloc (Nat.le_refl _) _⟩
end Go.Proofs.Ytfmgkndljppffaa
