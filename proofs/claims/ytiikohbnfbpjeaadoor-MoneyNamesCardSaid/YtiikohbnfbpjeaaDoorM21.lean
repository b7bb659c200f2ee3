import Derived.Test.YtiikohbnfbpjeaaDoorM17
import Derived.Test.YtiikohbnfbpjeaaDoorM19
namespace Go.Proofs.YtiikohbnfbpjeaaDoor
open Go.RowKit
/-- A Decimal that is held while the last line is worked out. -/
def HX (B : Nat) (w W : World) : Prop := W.cell? ⟨B, 0, none⟩ = some (.int .i64 1) ∧ W.cell? ⟨B, 1, none⟩ = some (.int .i64 0) ∧ B < W.heap.size ∧ Below w.heap.size w W
theorem HX.up {B : Nat} {w W W' : World} (h : HX B w W) (hb : Below W.heap.size W W') : HX B w W' :=
  ⟨(hb.cell (p := ⟨B, 0, none⟩) h.2.2.1).trans h.1, (hb.cell (p := ⟨B, 1, none⟩) h.2.2.1).trans h.2.1, Nat.lt_of_lt_of_le h.2.2.1 hb.size, h.2.2.2.trans (hb.mono h.2.2.2.size)⟩
set_option maxRecDepth 20000 in
set_option maxHeartbeats 4000000 in
theorem names_law (w : World) (hT : TL w ∧ PW w) : Calls Tryd.prog 3 #[] w fun e w' => e = .returned (.bool true) ∧ Below w.heap.size w w' := by
  have HL := Lib.hid (fun W (hb : Below w.heap.size w W) => hT.1.on hb)
  have HP := Lib.hid (fun W (hb : Below w.heap.size w W) => hT.2.on hb)
  have B0 := Lib.hid (Below.refl w.heap.size w)
  have T1 := Lib.hid (fun W h => text_t (-5) 3 W h (by decide) (by decide))
  rw [show tText (-5) 3 = [45, 48, 46, 48, 48, 53] by decide +kernel] at T1
  have T2 := Lib.hid (fun W h => text_t 1200 0 W h (by decide) (by decide))
  rw [show tText 1200 0 = [49, 50, 48, 48] by decide +kernel] at T2
  have A1 := Lib.hid (fun W => add_any 1 1 9 1 W (by decide) (by decide) (by decide) (by decide))
  rw [show adM 1 1 9 1 = 1 by decide +kernel, show adS 1 1 9 1 = 0 by decide +kernel, show adE 1 1 9 1 = 0 by decide +kernel] at A1
  have A2 := Lib.hid (fun W => add_any 9223372036854775807 0 1 1 W (by decide) (by decide) (by decide) (by decide))
  rw [show adM 9223372036854775807 0 1 1 = 0 by decide +kernel, show adS 9223372036854775807 0 1 1 = 0 by decide +kernel, show adE 9223372036854775807 0 1 1 = 20 by decide +kernel] at A2
  have C1 := Lib.hid (fun W => compare_any 2 1 15 2 W (by decide) (by decide) (by decide) (by decide))
  rw [show cmV 2 1 15 2 = 1 by decide +kernel, show cmE 2 1 15 2 = 0 by decide +kernel] at C1
  have C2 := Lib.hid (fun W => compare_any 10 0 100 1 W (by decide) (by decide) (by decide) (by decide))
  rw [show cmV 10 0 100 1 = 0 by decide +kernel, show cmE 10 0 100 1 = 140 by decide +kernel] at C2
  have OF := Lib.hid of_any
  have R1 := Lib.hid (reads_c [57, 50, 50, 51, 51, 55, 50, 48, 51, 54, 56, 53, 52, 55, 55, 53, 56, 48, 55] 9223372036854775807 0 (by decide) (by decide +kernel) (by decide +kernel) (by decide +kernel))
  have N0 := Lib.hid (none_c [48, 46, 57, 50, 50, 51, 51, 55, 50, 48, 51, 54, 56, 53, 52, 55, 55, 53, 56, 48, 56] (by decide) (by decide +kernel))
  have N1 := Lib.hid (none_c [] (by decide) (by decide +kernel))
  have N2 := Lib.hid (none_c [45] (by decide) (by decide +kernel))
  have N3 := Lib.hid (none_c [46, 53] (by decide) (by decide +kernel))
  have N4 := Lib.hid (none_c [49, 46, 48, 48, 48, 48, 48, 48, 48, 48, 48, 48, 48, 48, 48, 48, 48, 48, 48, 48, 48] (by decide) (by decide +kernel))
  have N5 := Lib.hid (none_c [43, 49] (by decide) (by decide +kernel))
  have N6 := Lib.hid (none_c [45, 45, 49] (by decide) (by decide +kernel))
  clear hT
  go_enter Tryd.func3, Tryd.ntmps3
  go_wp2_with fail
  refine (T1.out _ (HP.out _ B0.out)).mono ?_
  rintro e w1 ⟨rfl, q⟩
  have B1 := Lib.hid (B0.out.trans (q.mono B0.out.size))
  clear q
  go_wp2_with fail
  refine (OF.out 1200 _).mono ?_
  rintro e w2 ⟨rfl, q⟩
  have B2 := Lib.hid (B1.out.trans (q.mono B1.out.size))
  clear q
  go_wp2_with fail
  refine (T2.out _ (HP.out _ B2.out)).mono ?_
  rintro e w3 ⟨rfl, q⟩
  have B3 := Lib.hid (B2.out.trans (q.mono B2.out.size))
  clear q
  go_wp2_with fail
  refine (A1.out _).mono ?_
  rintro e w4 ⟨rfl, q⟩
  have Bq := Lib.hid (B3.out.trans (q.mono B3.out.size))
  have D := Lib.hid (FBox.new w4 1 0)
  have B4 := Lib.hid (Bq.out.alloc Bq.out.size (.cells #[.int .i64 1, .int .i64 0] 26))
  clear q
  go_wp2_with fail
  obtain ⟨v, hv⟩ : ∃ v, v = w4.alloc (.cells #[.int .i64 1, .int .i64 0] 26) := ⟨_, rfl⟩
  obtain ⟨N, hN⟩ : ∃ N, N = w4.heap.size := ⟨_, rfl⟩
  rw [← hv] at B4 D ⊢
  rw [← hN] at D ⊢
  clear hv hN Bq
  have H4 := Lib.hid (show HX N w v from ⟨D.out.1.1, D.out.1.2.1, D.out.1.2.2, B4.out⟩)
  clear D B4
  refine (OF.out 9223372036854775807 _).mono ?_
  rintro e w5 ⟨rfl, q⟩
  have H5 := Lib.hid (H4.out.up q)
  clear q
  go_wp2_with fail
  refine (A2.out _).mono ?_
  rintro e w6 ⟨rfl, q⟩
  have H6 := Lib.hid (H5.out.up (q.alloc q.size (.cells #[.int .i64 0, .int .i64 0] 26)))
  clear q
  go_wp2_with fail
  refine (C1.out _).mono ?_
  rintro e w7 ⟨rfl, q⟩
  have H7 := Lib.hid (H6.out.up q)
  clear q
  go_wp2_with fail
  refine (OF.out 10 _).mono ?_
  rintro e w8 ⟨rfl, q⟩
  have H8 := Lib.hid (H7.out.up q)
  clear q
  go_wp2_with fail
  refine (C2.out _).mono ?_
  rintro e w9 ⟨rfl, q⟩
  have H9 := Lib.hid (H8.out.up q)
  clear q
  go_wp2_with fail
  refine (R1.out _ (HL.out _ H9.out.2.2.2)).mono ?_
  rintro e w10 ⟨rfl, q⟩
  have H10 := Lib.hid (H9.out.up q)
  clear q
  go_wp2_with fail
  refine (N0.out _ (HL.out _ H10.out.2.2.2)).mono ?_
  rintro e w11 ⟨rfl, q⟩
  have H11 := Lib.hid (H10.out.up q)
  clear q
  go_wp2_with fail
  refine (N1.out _ (HL.out _ H11.out.2.2.2)).mono ?_
  rintro e w12 ⟨rfl, q⟩
  have H12 := Lib.hid (H11.out.up q)
  clear q
  go_wp2_with fail
  refine (N2.out _ (HL.out _ H12.out.2.2.2)).mono ?_
  rintro e w13 ⟨rfl, q⟩
  have H13 := Lib.hid (H12.out.up q)
  clear q
  go_wp2_with fail
  refine (N3.out _ (HL.out _ H13.out.2.2.2)).mono ?_
  rintro e w14 ⟨rfl, q⟩
  have H14 := Lib.hid (H13.out.up q)
  clear q
  go_wp2_with fail
  refine (N4.out _ (HL.out _ H14.out.2.2.2)).mono ?_
  rintro e w15 ⟨rfl, q⟩
  have H15 := Lib.hid (H14.out.up q)
  clear q
  go_wp2_with fail
  refine (N5.out _ (HL.out _ H15.out.2.2.2)).mono ?_
  rintro e w16 ⟨rfl, q⟩
  have H16 := Lib.hid (H15.out.up q)
  clear q
  go_wp2_with fail
  refine (N6.out _ (HL.out _ H16.out.2.2.2)).mono ?_
  rintro e w17 ⟨rfl, q⟩
  have H17 := Lib.hid (H16.out.up q)
  clear q
  go_wp2_with fail
  have AL : Hid (∀ W, HX N w W → Calls Tryd.prog 16 #[] W fun e w' => e = .returned (.bool true) ∧ HX N w w') := Lib.hid (fun W h => (alive_any W (HL.out _ h.2.2.2)).mono fun _ _ q => ⟨q.1, h.up q.2⟩)
  have OH : Hid (∀ W, HX N w W → Calls Tryd.prog 11 #[.int .i64 1] W fun e w' => e = .returned (.agg #[.int .i64 1, .int .i64 0]) ∧ HX N w w') := Lib.hid (fun W h => (of_any 1 W).mono fun _ _ q => ⟨q.1, h.up q.2⟩)
  have hSS : HX N w w17.drew := H17.out.up ((Below.refl _ _).drew)
  unfold HX at hSS
  go_region_held3 (fun w' => w'.cell? ⟨N, 0, none⟩ = some (.int .i64 1) ∧ w'.cell? ⟨N, 1, none⟩ = some (.int .i64 0) ∧ N < w'.heap.size ∧ Below w.heap.size w w')
    ((first | exact hSS | assumption))
    (first | (go_at_call 16; refine (AL.out _ (by assumption)).mono ?_; rintro e w' ⟨rfl, hS2⟩; unfold HX at hS2)
           | (go_at_call 11; refine (OH.out _ (by assumption)).mono ?_; rintro e w' ⟨rfl, hS2⟩; unfold HX at hS2))
  all_goals
    go_wp2_with fail
    go_ret
    exact ⟨rfl, hS2.2.2.2⟩
end Go.Proofs.YtiikohbnfbpjeaaDoor
