import Derived.Test.YtjcaadihkbhlhaaDoorA9
namespace Go.Proofs.YtjcaadihkbhlhaaDoor
open Go.RowKit
set_option maxRecDepth 20000 in
set_option maxHeartbeats 1000000 in
theorem unr_nil (w : World) :
    Calls Tryd.prog 46 #[.slice none 0 0] w fun e w' => e = .returned (setV (flat base4)) ∧ Below w.heap.size w w' := by
  obtain ⟨L, hL⟩ : ∃ L, L = flat base4 := ⟨_, rfl⟩
  rw [← hL]
  have HLL := Lib.hid hL
  clear hL
  have zz : (w.alloc (.cells #[.int .u64 0, .int .u64 0, .int .u64 0, .int .u64 0] 60)).heap.size = w.heap.size + 1 := by simp
  have hbc := base_cells (w.alloc (.cells #[.int .u64 0, .int .u64 0, .int .u64 0, .int .u64 0] 60))
  rw [zz] at hbc
  have HB := Lib.hid hbc
  have hsb := SBox.new w []
  rw [set_nil] at hsb
  have B1 : Hid (Below w.heap.size w (w.alloc (.cells #[.int .u64 0, .int .u64 0, .int .u64 0, .int .u64 0] 60))) := Lib.hid ((Below.refl _ w).alloc (Nat.le_refl _) _)
  have B2 : Hid (Below w.heap.size w ((w.alloc (.cells #[.int .u64 0, .int .u64 0, .int .u64 0, .int .u64 0] 60)).alloc (.cells #[.string ⟨#[97, 98, 99, 100, 101, 102, 103, 104, 105, 106, 107, 108, 109, 110, 111, 112, 113, 114, 115, 116, 117, 118, 119, 120, 121, 122]⟩, .string ⟨#[65, 66, 67, 68, 69, 70, 71, 72, 73, 74, 75, 76, 77, 78, 79, 80, 81, 82, 83, 84, 85, 86, 87, 88, 89, 90]⟩, .string ⟨#[48, 49, 50, 51, 52, 53, 54, 55, 56, 57]⟩, .string ⟨#[45, 46, 95, 126]⟩] 9))) := Lib.hid (B1.out.alloc (by simp) _)
  have SB : Hid (SBox ((w.alloc (.cells #[.int .u64 0, .int .u64 0, .int .u64 0, .int .u64 0] 60)).alloc (.cells #[.string ⟨#[97, 98, 99, 100, 101, 102, 103, 104, 105, 106, 107, 108, 109, 110, 111, 112, 113, 114, 115, 116, 117, 118, 119, 120, 121, 122]⟩, .string ⟨#[65, 66, 67, 68, 69, 70, 71, 72, 73, 74, 75, 76, 77, 78, 79, 80, 81, 82, 83, 84, 85, 86, 87, 88, 89, 90]⟩, .string ⟨#[48, 49, 50, 51, 52, 53, 54, 55, 56, 57]⟩, .string ⟨#[45, 46, 95, 126]⟩] 9)) w.heap.size []) := Lib.hid (hsb.up ((Below.refl _ _).alloc (Nat.le_refl _) _))
  clear zz hbc hsb
  go_enter Tryd.func46, Tryd.ntmps46
  go_wp2_with fail
  have M := Lib.hid (marks_view base4 (w.heap.size + 1) 0 4 _ (by decide) (by decide) (by simp) HB.out (by decide) (by decide))
  rw [← HLL.out] at M
  unfold setV setC at M
  refine M.out.mono ?_
  rintro e w4 ⟨rfl, b4⟩
  have B4 := Lib.hid (B2.out.trans (b4.mono B2.out.size))
  have SB4 := Lib.hid (SB.out.up b4)
  have c0 := SB4.out.1 0 (by decide)
  have c1 := SB4.out.1 1 (by decide)
  have c2 := SB4.out.1 2 (by decide)
  have c3 := SB4.out.1 3 (by decide)
  clear b4
  obtain ⟨c0, f0⟩ := c0
  obtain ⟨c1, f1⟩ := c1
  obtain ⟨c2, f2⟩ := c2
  obtain ⟨c3, f3⟩ := c3
  go_wp2_with fail
  have hfin := set_cells SB4.out L
  exact ret_set (N := w.heap.size) (L := L) Tryd.results46 (by rfl) hfin ⟨rfl, below_cells w.heap.size (Nat.le_refl _) (setL L) 0 _ B4.out⟩
end Go.Proofs.YtjcaadihkbhlhaaDoor
