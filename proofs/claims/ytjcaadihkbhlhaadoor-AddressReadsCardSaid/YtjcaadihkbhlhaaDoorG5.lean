import Derived.Test.YtjcaadihkbhlhaaDoorG4
namespace Go.Proofs.YtjcaadihkbhlhaaDoor
open Go.RowKit
set_option maxRecDepth 20000 in
set_option maxHeartbeats 1000000 in
theorem cutB_no1 (k : Nat) (R : ByteArray) (W : World) (hR : VB W k #[.string R] 9) (hs : R.size < 4294967281) (ha : atU R < 0) (he : -1 ≤ enU R) :
    Calls Tryd.prog 16 #[.string ⟨#[64]⟩, .string twoM, .pointer (some ⟨k, 0, none⟩)] W fun e w' => e = .returned (.tuple #[.string ⟨#[]⟩, .bool false]) ∧ VB w' k #[.string R] 9 ∧ Below k W w' := by
  have CI := Lib.hid (Tryd.strings_Index_one R 64 W)
  have e0 : atU R = Lib.indexByte R.data.toList 64 := rfl
  rw [← e0] at CI
  have CA := Lib.hid (iany_two R W hs)
  have e1 : enU R = Lib.indexAny R.data.toList [47, 63] := rfl
  rw [← e1] at CA
  obtain ⟨T2, hT2⟩ : ∃ T, T = twoM := ⟨_, rfl⟩
  rw [← hT2] at CA ⊢
  obtain ⟨en, hen⟩ : ∃ j, j = enU R := ⟨_, rfl⟩
  rw [← hen] at CA he
  obtain ⟨at0, hat⟩ : ∃ j, j = atU R := ⟨_, rfl⟩
  rw [← hat] at CI ha
  clear hat
  have c0 : W.cell? ⟨k, 0, none⟩ = some (.string R) := hR.cell 0
  have HR := Lib.hid hR
  have hk := hR.lt
  have h4 : (R.size : Int) ≤ 9223372036854775807 := by omega
  clear hs e0 e1 hT2 hen hR
  go_enter Tryd.func16, Tryd.ntmps16
  go_wp2_with (go_at_call 17; refine CI.out.mono ?_; rintro e w' ⟨rfl, rfl⟩)
  refine CA.out.mono ?_
  rintro e w1 ⟨rfl, b1⟩
  have HR1 := Lib.hid (HR.out.up b1)
  have HB := Lib.hid (b1.mono (Nat.le_of_lt hk))
  have c1 : w1.cell? ⟨k, 0, none⟩ = some (.string R) := HR1.out.cell 0
  have f1 : w1.frozen? ⟨k, 0, none⟩ = false := HR1.out.fz 0
  clear b1 c0 hk
  go_wp2_with fail
  go_ret2
  exact ⟨rfl, HR1.out, HB.out⟩
set_option maxRecDepth 20000 in
set_option maxHeartbeats 1000000 in
theorem cutB_no2 (k : Nat) (R : ByteArray) (W : World) (hR : VB W k #[.string R] 9) (hs : R.size < 4294967281) (ha : 0 ≤ atU R) (he : 0 ≤ enU R) (hl : enU R < atU R) :
    Calls Tryd.prog 16 #[.string ⟨#[64]⟩, .string twoM, .pointer (some ⟨k, 0, none⟩)] W fun e w' => e = .returned (.tuple #[.string ⟨#[]⟩, .bool false]) ∧ VB w' k #[.string R] 9 ∧ Below k W w' := by
  have CI := Lib.hid (Tryd.strings_Index_one R 64 W)
  have e0 : atU R = Lib.indexByte R.data.toList 64 := rfl
  rw [← e0] at CI
  have CA := Lib.hid (iany_two R W hs)
  have e1 : enU R = Lib.indexAny R.data.toList [47, 63] := rfl
  rw [← e1] at CA
  obtain ⟨T2, hT2⟩ : ∃ T, T = twoM := ⟨_, rfl⟩
  rw [← hT2] at CA ⊢
  obtain ⟨en, hen⟩ : ∃ j, j = enU R := ⟨_, rfl⟩
  rw [← hen] at CA he
  obtain ⟨at0, hat⟩ : ∃ j, j = atU R := ⟨_, rfl⟩
  rw [← hat] at CI ha hl
  clear hat
  rw [← hen] at hl
  have c0 : W.cell? ⟨k, 0, none⟩ = some (.string R) := hR.cell 0
  have HR := Lib.hid hR
  have hk := hR.lt
  have h4 : (R.size : Int) ≤ 9223372036854775807 := by omega
  clear hs e0 e1 hT2 hen hR
  go_enter Tryd.func16, Tryd.ntmps16
  go_wp2_with (go_at_call 17; refine CI.out.mono ?_; rintro e w' ⟨rfl, rfl⟩)
  refine CA.out.mono ?_
  rintro e w1 ⟨rfl, b1⟩
  have HR1 := Lib.hid (HR.out.up b1)
  have HB := Lib.hid (b1.mono (Nat.le_of_lt hk))
  have c1 : w1.cell? ⟨k, 0, none⟩ = some (.string R) := HR1.out.cell 0
  have f1 : w1.frozen? ⟨k, 0, none⟩ = false := HR1.out.fz 0
  clear b1 c0 hk
  go_wp2_with fail
  go_ret2
  exact ⟨rfl, HR1.out, HB.out⟩
set_option maxRecDepth 20000 in
set_option maxHeartbeats 1000000 in
theorem cutB_yes1 (k : Nat) (R : ByteArray) (W : World) (hR : VB W k #[.string R] 9) (hs : R.size < 4294967281) (i : Nat) (ha : atU R = i) (hr : i + 1 ≤ R.size) (he : enU R < 0) :
    Calls Tryd.prog 16 #[.string ⟨#[64]⟩, .string twoM, .pointer (some ⟨k, 0, none⟩)] W fun e w' => e = .returned (.tuple #[.string (R.extract 0 i), .bool true]) ∧ VB w' k #[.string (R.extract (i + 1) R.size)] 9 ∧ Below k W w' := by
  have CI := Lib.hid (Tryd.strings_Index_one R 64 W)
  have e0 : atU R = Lib.indexByte R.data.toList 64 := rfl
  rw [← e0] at CI
  have CA := Lib.hid (iany_two R W hs)
  have e1 : enU R = Lib.indexAny R.data.toList [47, 63] := rfl
  rw [← e1] at CA
  obtain ⟨T2, hT2⟩ : ∃ T, T = twoM := ⟨_, rfl⟩
  rw [← hT2] at CA ⊢
  obtain ⟨en, hen⟩ : ∃ j, j = enU R := ⟨_, rfl⟩
  rw [← hen] at CA he
  rw [ha] at CI
  have g0 : (0 : Int) ≤ (i : Int) := by omega
  have g1 : (i : Int) ≤ R.size := by omega
  have g2 : (i : Int) + 1 ≤ R.size := by omega
  clear ha hr
  have c0 : W.cell? ⟨k, 0, none⟩ = some (.string R) := hR.cell 0
  have HR := Lib.hid hR
  have hk := hR.lt
  have h4 : (R.size : Int) ≤ 9223372036854775807 := by omega
  clear hs e0 e1 hT2 hen hR
  go_enter Tryd.func16, Tryd.ntmps16
  go_wp2_with (go_at_call 17; refine CI.out.mono ?_; rintro e w' ⟨rfl, rfl⟩)
  refine CA.out.mono ?_
  rintro e w1 ⟨rfl, b1⟩
  have HR1 := Lib.hid (HR.out.up b1)
  have HB := Lib.hid (b1.mono (Nat.le_of_lt hk))
  have c1 : w1.cell? ⟨k, 0, none⟩ = some (.string R) := HR1.out.cell 0
  have f1 : w1.frozen? ⟨k, 0, none⟩ = false := HR1.out.fz 0
  clear b1 c0 hk
  go_wp2_with fail
  go_ret2
  exact ⟨rfl, HR1.out.set 0 _, HB.out.setCell (Nat.le_refl _) _⟩
set_option maxRecDepth 20000 in
set_option maxHeartbeats 1000000 in
theorem cutB_yes2 (k : Nat) (R : ByteArray) (W : World) (hR : VB W k #[.string R] 9) (hs : R.size < 4294967281) (i : Nat) (ha : atU R = i) (hr : i + 1 ≤ R.size) (he : 0 ≤ enU R) (hl : ¬ enU R < atU R) :
    Calls Tryd.prog 16 #[.string ⟨#[64]⟩, .string twoM, .pointer (some ⟨k, 0, none⟩)] W fun e w' => e = .returned (.tuple #[.string (R.extract 0 i), .bool true]) ∧ VB w' k #[.string (R.extract (i + 1) R.size)] 9 ∧ Below k W w' := by
  have CI := Lib.hid (Tryd.strings_Index_one R 64 W)
  have e0 : atU R = Lib.indexByte R.data.toList 64 := rfl
  rw [← e0] at CI
  have CA := Lib.hid (iany_two R W hs)
  have e1 : enU R = Lib.indexAny R.data.toList [47, 63] := rfl
  rw [← e1] at CA
  obtain ⟨T2, hT2⟩ : ∃ T, T = twoM := ⟨_, rfl⟩
  rw [← hT2] at CA ⊢
  obtain ⟨en, hen⟩ : ∃ j, j = enU R := ⟨_, rfl⟩
  rw [← hen] at CA he
  rw [ha] at CI hl
  have g0 : (0 : Int) ≤ (i : Int) := by omega
  have g1 : (i : Int) ≤ R.size := by omega
  have g2 : (i : Int) + 1 ≤ R.size := by omega
  clear ha hr
  rw [← hen] at hl
  have c0 : W.cell? ⟨k, 0, none⟩ = some (.string R) := hR.cell 0
  have HR := Lib.hid hR
  have hk := hR.lt
  have h4 : (R.size : Int) ≤ 9223372036854775807 := by omega
  clear hs e0 e1 hT2 hen hR
  go_enter Tryd.func16, Tryd.ntmps16
  go_wp2_with (go_at_call 17; refine CI.out.mono ?_; rintro e w' ⟨rfl, rfl⟩)
  refine CA.out.mono ?_
  rintro e w1 ⟨rfl, b1⟩
  have HR1 := Lib.hid (HR.out.up b1)
  have HB := Lib.hid (b1.mono (Nat.le_of_lt hk))
  have c1 : w1.cell? ⟨k, 0, none⟩ = some (.string R) := HR1.out.cell 0
  have f1 : w1.frozen? ⟨k, 0, none⟩ = false := HR1.out.fz 0
  clear b1 c0 hk
  go_wp2_with fail
  go_ret2
  exact ⟨rfl, HR1.out.set 0 _, HB.out.setCell (Nat.le_refl _) _⟩
end Go.Proofs.YtjcaadihkbhlhaaDoor
