import Derived.Test.YtjcaadihkbhlhaaDoorG1
import Derived.Scope
import Derived.ScopeJumps
namespace Go.Proofs.YtjcaadihkbhlhaaDoor
open Go.RowKit
set_option maxRecDepth 100000 in
set_option maxHeartbeats 2000000 in
theorem irune_wide (r : Int) (h1 : 128 ≤ r) (h2 : r ≤ 1114111) (hr : Lib.validRune r = true) (hne : r ≠ 65533) (w : World) : Calls Tryd.prog 30 #[.string twoM, .int .i32 r] w fun e w' => e = .returned (.int .i64 (-1)) ∧ Below w.heap.size w w' := by
  unfold twoM
  have g1 : ¬ r < 128 := by omega
  have g0 : (0 : Int) ≤ r := by omega
  have gn : (r == 65533) = false := by simpa using hne
  have VR := Lib.hid (fun W => Tryd.utf8_ValidRune r W)
  rw [hr] at VR
  have hE := enc_shape r h1
  obtain ⟨E, hEE⟩ : ∃ E, E = Utf8.encode r := ⟨_, rfl⟩
  rw [← hEE] at hE
  replace hEE := hEE.symm
  clear hr hne h1
  rcases hE with ⟨x0, x1, rfl, hx⟩ | ⟨x0, x1, x2, rfl⟩ | ⟨x0, x1, x2, x3, rfl⟩
  · have hneq : ((((⟨#[47, 63]⟩ : ByteArray)[1]'(by decide)).toNat : Int) != (((⟨#[x0, x1]⟩ : ByteArray)[1]'(by show 1 < 2; decide)).toNat : Int)) = true := by
      show ((63 : Int) != (x1.toNat : Int)) = true
      rw [bne_iff_ne]; omega
    have IB := Lib.hid (fun (s : ByteArray) (c : Int) W => Tryd.strings_IndexByte s c W)
    clear hx
    go_enter Tryd.func30, Tryd.ntmps30
    go_wp2_with (go_at_call 57; refine (VR.out _).mono ?_; rintro e w' ⟨rfl, rfl⟩)
    refine wp_scope_straight ?_
    go_wp2_with fail
    refine wp_loop_rounds 1 ?_
    rw [rounds_succ]
    go_wp2_with fail
    refine wp_scope_straight ?_
    go_wp2_with fail
    have B0 := Lib.hid (Below.refl w'.heap.size w')
    go_quiet (fail)
    obtain ⟨W1, hW1⟩ : ∃ W1, W1 = w'.drewN nq := ⟨_, rfl⟩
    have B1 : Hid (Below w'.heap.size w' W1) := Lib.hid (by rw [hW1]; exact below_dr B0.out _)
    rw [← hW1]
    clear hW1
    go_wp2_with fail
    go_quiet ((go_at_call 56; exact Calls.quiet_of_same (IB.out _ _ _)))
    go_wp2_with fail
    simp only [Exit.noGoto, Exit.inBlock, Exit.then]
    go_ret
    exact ⟨rfl, below_dr B1.out _⟩
  · go_enter Tryd.func30, Tryd.ntmps30
    go_wp2_with (go_at_call 57; refine (VR.out _).mono ?_; rintro e w' ⟨rfl, rfl⟩)
    refine wp_scope_straight ?_
    go_wp2_with fail
    refine wp_loop_rounds 1 ?_
    rw [rounds_succ]
    go_wp2_with fail
    simp only [Exit.noGoto]
    go_ret
    exact ⟨rfl, Below.refl _ _⟩
  · go_enter Tryd.func30, Tryd.ntmps30
    go_wp2_with (go_at_call 57; refine (VR.out _).mono ?_; rintro e w' ⟨rfl, rfl⟩)
    refine wp_scope_straight ?_
    go_wp2_with fail
    refine wp_loop_rounds 1 ?_
    rw [rounds_succ]
    go_wp2_with fail
    simp only [Exit.noGoto]
    go_ret
    exact ⟨rfl, Below.refl _ _⟩
end Go.Proofs.YtjcaadihkbhlhaaDoor
