import Derived.Test.YtepjehneembakaaE10
namespace Go.Proofs.Ytepjehneembakaa
open Go.RowKit

theorem make_many : ∃ C : Array Value, ∃ Z : ByteArray, ckE Z = 4 ∧ Z.size ≤ maxLen ∧
    (∀ w : World, (Instr.makeSlice 31 (.int .i64 16385) (.int .i64 16385)).run Try.prog w = .ok (.slice (some ⟨w.heap.size, 0, none⟩) 16385 16385) (w.alloc (.cells C 5))) ∧
    (∀ w : World, (convert 31 9 (.slice (some ⟨w.heap.size, 0, none⟩) 16385 16385)).run Try.prog (w.alloc (.cells C 5)) = .ok (.string Z) (w.alloc (.cells C 5))) := by
  obtain ⟨i0, hi, hz0, hz1, hz2⟩ := info_parts info5
  have hsz : (mkB (List.replicate 16385 0)).size = 16385 := by rw [mkB_size, List.length_replicate]
  refine ⟨madeCells (Value.int .u8 0).cells (16385 * 1), mkB (List.replicate 16385 0), ?_, ?_, fun w => ?_, fun w => ?_⟩
  · unfold ckE; rw [if_pos (by omega)]
  · unfold maxLen; omega
  · have h := run_make (P := Try.prog) w 31 5 i0 (.int .u8 0) Try.underlying31 hi hz0 .i64 .i64 16385 16385 (by omega) (by omega) (by rw [hz2]; omega) (by omega)
    rw [hz1] at h
    exact h
  · have ho := World.ownsRow_lit (base := 0) (e := 5) (size := 1) w (madeCells (Value.int .u8 0).cells (16385 * 1)) 16385 (Nat.zero_le _) (by unfold maxLen; omega) (by rw [size_madeCells])
    have hl : (madeCells (Value.int .u8 0).cells (16385 * 1)).toList = (List.replicate 16385 (0 : Int)).map (Value.int .u8) := by
      rw [List.map_replicate]; exact toList_madeCells_one (.int .u8 0) 16385
    rw [hl] at ho
    have := conv_own (L := List.replicate 16385 (0 : Int)) (w := w.alloc (.cells (madeCells (Value.int .u8 0).cells (16385 * 1)) 5)) (by rw [List.length_replicate]; exact ho) (fun x hx => by have := List.eq_of_mem_replicate hx; omega)
    exact this

theorem names_walk (w : World) :
    Calls Try.prog 3 #[] w fun e w' => e = .returned (.bool true) ∧ Below w.heap.size w w' := by
  obtain ⟨C, Z, hZ, hZm, hmk, hcv⟩ := make_many
  have HZ := Lib.hid hZ
  have HZM := Lib.hid hZm
  clear hZ hZm
  go_enter Try.func3, Try.ntmps3
  go_wp2_with fail
  refine (where_any ⟨#[97, 13, 10, 226, 130, 172, 98]⟩ 6 _ (by decide) (by decide) (by decide)).mono ?_
  rintro e w1 ⟨rfl, b1⟩
  rw [show whL ⟨#[97, 13, 10, 226, 130, 172, 98]⟩ 6 = 2 by decide +kernel, show whC ⟨#[97, 13, 10, 226, 130, 172, 98]⟩ 6 = 2 by decide +kernel, show whE ⟨#[97, 13, 10, 226, 130, 172, 98]⟩ 6 = 0 by decide +kernel]
  go_wp2_with fail
  have hv : View (w1.alloc (Obj.cells #[Value.int IntKind.i64 55296] 3)) (some ⟨w1.heap.size, 0, none⟩) 1 [55296] := ⟨rfl, fun k hk => by
    obtain rfl : k = 0 := by omega
    exact ⟨w1.heap.size, 0, rfl, by simp, (by simp)⟩⟩
  refine (put_any _ 1 1 [55296] _ hv (by decide)).mono ?_
  rintro e w2 ⟨rfl, b2⟩
  rw [show putE [55296] = 10 by decide, show putS [55296] = ⟨#[]⟩ from (put_bad (by decide) (by decide)).2]
  have b12 : Below w.heap.size w w2 := (b1.alloc b1.size _).trans (b2.mono (by have := b1.size; simp; omega))
  have B12 := Lib.hid b12
  clear b12 b1 b2 hv
  go_wp2_with fail
  refine (alive_true _).mono ?_
  rintro e w3 ⟨rfl, b3⟩
  have B3 := Lib.hid (B12.out.trans (b3.mono B12.out.size))
  clear b3
  go_wp2_with fail
  refine (lawnext_yes _ _ _ _ _ _ (by decide) (by decide +kernel) (by decide +kernel) (by decide +kernel)).mono ?_
  rintro e w4 ⟨rfl, b4⟩
  have B4 := Lib.hid (B3.out.trans (b4.mono B3.out.size))
  clear b4
  go_wp2_with fail
  refine (lawnext_yes _ _ _ _ _ _ (by decide) (by decide +kernel) (by decide +kernel) (by decide +kernel)).mono ?_
  rintro e w5 ⟨rfl, b5⟩
  have B5 := Lib.hid (B4.out.trans (b5.mono B4.out.size))
  clear b5
  go_wp2_with fail
  refine (lawnext_yes _ _ _ _ _ _ (by decide) (by decide +kernel) (by decide +kernel) (by decide +kernel)).mono ?_
  rintro e w6 ⟨rfl, b6⟩
  have B6 := Lib.hid (B5.out.trans (b6.mono B5.out.size))
  clear b6
  go_wp2_with fail
  refine (lawnext_yes _ _ _ _ _ _ (by decide) (by decide +kernel) (by decide +kernel) (by decide +kernel)).mono ?_
  rintro e w7 ⟨rfl, b7⟩
  have B7 := Lib.hid (B6.out.trans (b7.mono B6.out.size))
  clear b7
  go_wp2_with fail
  refine (check_any Z _ HZM.out).mono ?_
  rintro e w8 ⟨rfl, b8⟩
  rw [HZ.out]
  go_wp2_with fail
  go_ret
  exact ⟨rfl, (B7.out.alloc B7.out.size _).trans (b8.mono (by have := B7.out.size; simp; omega))⟩
end Go.Proofs.Ytepjehneembakaa
