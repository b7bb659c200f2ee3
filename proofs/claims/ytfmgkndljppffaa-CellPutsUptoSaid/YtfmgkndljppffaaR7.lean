/- Layer 3: the document's Behind and May, whole; Check, End, Kids, Member, Sub of values by it. -/
import Derived.Test.YtfmgkndljppffaaR6
namespace Go.Proofs.Ytfmgkndljppffaa
open Go.RowKit Go.Maps
theorem rbehind_any {a : Option Addr} {n cap : Nat} {g : Nat → CR} (hcw : CW n g) (hnz : ∀ i, i < n → (g i).nm.size ≤ 2000000) (hn : n ≤ 2048) : ∀ (r : Nat), r ≤ 16 → ∀ (dv : Int), dv = r → ∀ (p : Nat) (W : World), CV W a n g → p ≤ n →
    Calls Try.prog 42 #[.slice a n cap, .int .i64 (p : Nat), .int .i64 dv] W (BPost W (wk g n r p)) := by
  intro r
  induction r with
  | zero =>
    intro _ dv hd p W hv hp
    by_cases h : n ≤ p
    · exact beh_end a n cap g hcw hn 0 dv p W hv h (by omega)
    · cases ho : oneP (g p) with
      | false => exact beh_misfit a n cap g hcw hn 0 dv p W hv (by omega) ho
      | true =>
        cases hh : headP (g p) with
        | false => exact beh_leaf a n cap g hcw hn 0 dv p W hv (by omega) ho hh
        | true => exact beh_deep a n cap g hcw hn 0 dv p W hv (by omega) ho hh rfl hd
  | succ r ih =>
    intro hr dv hd p W hv hp
    by_cases h : n ≤ p
    · exact beh_end a n cap g hcw hn _ dv p W hv h (by omega)
    · cases ho : oneP (g p) with
      | false => exact beh_misfit a n cap g hcw hn _ dv p W hv (by omega) ho
      | true =>
        cases hh : headP (g p) with
        | false => exact beh_leaf a n cap g hcw hn _ dv p W hv (by omega) ho hh
        | true =>
          rcases (one_head ho hh).2.2.2 with hk | hk
          · exact beh_kids6 a n cap g hcw hn _ dv p W hv hnz (by omega) ho hk r rfl hd (by omega) (fun dv' hd' q W' hv' hq => ih (by omega) dv' hd' q W' hv' hq)
          · exact beh_kids7 a n cap g hcw hn _ dv p W hv hnz (by omega) ho hk r rfl hd (by omega) (fun dv' hd' q W' hv' hq => ih (by omega) dv' hd' q W' hv' hq)
theorem behind_top {a : Option Addr} {n cap : Nat} {g : Nat → CR} (hcw : CW n g) (hnz : ∀ i, i < n → (g i).nm.size ≤ 2000000) (hn : n ≤ 2048) (p : Nat) (W : World) (hv : CV W a n g) (hp : p ≤ n) :
    Calls Try.prog 42 #[.slice a n cap, .int .i64 (p : Nat), .int .i64 16] W fun e w' => e = .returned (.int .i64 (wkI (wk g n 16 p))) ∧ Below W.heap.size W w' :=
  rbehind_any hcw hnz hn 16 (Nat.le_refl _) 16 rfl p W hv hp
set_option maxRecDepth 20000 in
theorem rmay_any (a : Option Addr) (n cap : Nat) (g : Nat → CR) (w : World) (hv : CV w a n g) (hcw : CW n g) (hnz : ∀ i, i < n → (g i).nm.size ≤ 2000000) (hnm : n ≤ maxLen) : Calls Try.prog 46 #[.slice a n cap] w fun e w' => e = .returned (.bool (ckC g n)) ∧ Below w.heap.size w w' := by
  obtain ⟨z, hz⟩ : ∃ z, z = ckC g n := ⟨_, rfl⟩
  rw [← hz]
  unfold maxLen at hnm
  by_cases h0 : n = 0
  · have HZ : Hid (z = false) := Lib.hid (by rw [hz]; unfold ckC; simp [h0])
    subst h0
    clear hz hv hcw hnz hnm
    go_enter Try.func46, Try.ntmps46
    go_wp2_with fail
    go_ret
    exact ⟨ret_bool HZ.out.symm, Below.refl _ _⟩
  have g1 : (0 : Int) < (n : Int) := by omega
  by_cases h1 : 2048 < n
  · have HZ : Hid (z = false) := Lib.hid (by rw [hz]; unfold ckC; simp; omega)
    have g2 : ¬ (n : Int) ≤ 2048 := by omega
    clear hz hv hcw hnz h0 h1
    go_enter Try.func46, Try.ntmps46
    go_wp2_with fail
    go_ret
    exact ⟨ret_bool HZ.out.symm, Below.refl _ _⟩
  have g2 : (n : Int) ≤ 2048 := by omega
  obtain ⟨b, off, rfl, _, _, c1, _, _, _⟩ := hv 0 (by omega)
  rw [show off + 0 * 5 + 1 = off + 1 by omega] at c1
  cases he : em (g 0).nm with
  | false =>
    have HZ : Hid (z = false) := Lib.hid (by rw [hz]; unfold ckC; rw [he]; simp)
    have ge := em_no he
    obtain ⟨nm, hnme⟩ : ∃ nm, nm = (g 0).nm := ⟨_, rfl⟩
    rw [← hnme] at ge c1
    clear hz hv hcw hnz h0 h1 he hnme
    go_enter Try.func46, Try.ntmps46
    go_wp2_with fail
    go_ret
    exact ⟨ret_bool HZ.out.symm, Below.refl _ _⟩
  | true =>
    rw [em_yes he] at c1
    have HB : Hid (Calls Try.prog 42 #[.slice (some ⟨b, off, none⟩) n cap, .int .i64 0, .int .i64 16] w fun e w' => e = .returned (.int .i64 (wkI (wk g n 16 0))) ∧ Below w.heap.size w w') := Lib.hid (behind_top (cap := cap) hcw hnz (by omega) 0 w hv (Nat.zero_le _))
    cases hw : wk g n 16 0 with
    | none =>
      rw [hw] at HB
      have HZ : Hid (z = false) := Lib.hid (by rw [hz]; unfold ckC; rw [hw]; simp)
      have g3 : ((-1 : Int) == n) = false := by rw [beq_eq_false_iff_ne]; omega
      clear hz hv hcw hnz h0 h1 he hw
      go_enter Try.func46, Try.ntmps46
      go_wp2_with fail
      with_reducible refine HB.out.mono ?_
      rintro e w1 ⟨rfl, b1⟩
      unfold wkI
      have B1 := Lib.hid b1
      clear b1 HB
      go_wp2_with fail
      go_ret
      exact ⟨ret_bool HZ.out.symm, B1.out⟩
    | some e0 =>
      rw [hw] at HB
      by_cases hen : e0 = n
      · have HZ : Hid (z = true) := Lib.hid (by rw [hz]; exact ckC_mk (by omega) (by omega) he (by rw [hw, hen]))
        have g3 : ((n : Int) == n) = true := by simp
        subst hen
        clear hz hv hcw hnz h0 h1 he hw
        go_enter Try.func46, Try.ntmps46
        go_wp2_with fail
        with_reducible refine HB.out.mono ?_
        rintro e w1 ⟨rfl, b1⟩
        unfold wkI
        have B1 := Lib.hid b1
        clear b1 HB
        go_wp2_with fail
        go_ret
        exact ⟨ret_bool HZ.out.symm, B1.out⟩
      · have HZ : Hid (z = false) := Lib.hid (by rw [hz]; unfold ckC; rw [hw]; simp [hen])
        have g3 : ((e0 : Int) == n) = false := by rw [beq_eq_false_iff_ne]; omega
        clear hz hv hcw hnz h0 h1 he hw hen
        go_enter Try.func46, Try.ntmps46
        go_wp2_with fail
        with_reducible refine HB.out.mono ?_
        rintro e w1 ⟨rfl, b1⟩
        unfold wkI
        have B1 := Lib.hid b1
        clear b1 HB
        go_wp2_with fail
        go_ret
        exact ⟨ret_bool HZ.out.symm, B1.out⟩
end Go.Proofs.Ytfmgkndljppffaa
