import Derived.Test.YtepjehneembakaaE17
import Derived.Test.YtepjehneembakaaPlain7
namespace Go.Proofs.Ytepjehneembakaa
open Go.RowKit

theorem rback_any (s : ByteArray) (i : Int) (w : World) (hs : s.size ≤ 1000000) :
    Calls Try.prog 17 #[.string s, .int .i64 i] w fun e w' => e = .returned (.tuple #[.int .i64 (bkP s i), .int .i64 (bkN s i), .int .i64 (bkE s i)]) ∧ Below w.heap.size w w' := by
  have hm : s.size ≤ maxLen := by unfold maxLen; omega
  have HM := Lib.hid hm
  clear hm
  by_cases hin : 1 ≤ i ∧ i ≤ s.size
  · obtain ⟨a, rfl⟩ := Int.eq_ofNat_of_zero_le (show 0 ≤ i by omega)
    have ha1 : 1 ≤ a := by omega
    have ha : a ≤ s.size := by omega
    have HF := Lib.hid (fun z (h1 : 1 ≤ z) (h4 : z ≤ 4) (h : oneI s ((a : Int) - (z : Nat)) z = true) hno => bk_found ha1 ha h1 h4 h hno)
    have HX := Lib.hid (fun h => bk_lost ha1 ha h)
    have hge : ¬ (a : Int) < 1 := by omega
    have hgt : ¬ (s.size : Int) < (a : Int) := by omega
    clear hin
    go_enter Try.func17, Try.ntmps17
    go_wp2_with fail
    go_loopw [7] (fun zv wr => ∃ z : Nat, 1 ≤ z ∧ z ≤ 5 ∧ zv = .int .i64 z ∧ (∀ y : Nat, 1 ≤ y → y < z → oneI s ((a : Int) - y) y = false) ∧ Below w.heap.size w wr) (fun zv _ => 5 - (intOf zv).toNat)
    case atStart => exact ⟨1, by omega, by omega, rfl, fun y h1 h2 => by omega, Below.refl _ _⟩
    case round =>
      obtain ⟨z, hz1, hz5, rfl, hno, hb⟩ := hrel
      have HB := Lib.hid hb
      have HNO := Lib.hid hno
      clear hb hno
      by_cases hlt : z ≤ 4
      · have hlt' : (z : Int) ≤ 4 := by omega
        cases ho : oneI s ((a : Int) - z) z
        · have HO := Lib.hid ho
          have HN2 : Hid (∀ y : Nat, 1 ≤ y → y < z + 1 → oneI s ((a : Int) - y) y = false) := Lib.hid (fun y h1 h2 => by
            by_cases e : y = z
            · rw [e]; exact HO.out
            · exact HNO.out y h1 (by omega))
          clear ho
          go_wp2_with fail
          refine (one_any s ((a : Int) - z) z _ _ rfl hz1 hlt HM.out (by omega) (by omega)).mono ?_
          rintro e w1 ⟨rfl, b1⟩
          rw [HO.out]
          have HB1 := Lib.hid (HB.out.trans (b1.mono HB.out.size))
          clear b1
          go_wp2_with fail
          go_roundw
          case rel => exact ⟨z + 1, by omega, by omega, by go_num, HN2.out, HB1.out⟩
          case measure => simp [intOf]; omega
        · have HO := Lib.hid ho
          have HR := Lib.hid (HF.out z hz1 hlt ho HNO.out)
          clear ho
          go_wp2_with fail
          refine (one_any s ((a : Int) - z) z _ _ rfl hz1 hlt HM.out (by omega) (by omega)).mono ?_
          rintro e w1 ⟨rfl, b1⟩
          rw [HO.out]
          have HB1 := Lib.hid (HB.out.trans (b1.mono HB.out.size))
          clear b1
          go_wp2_with fail
          go_ret3
          exact ⟨ret3 HR.out.1.symm HR.out.2.1.symm HR.out.2.2.symm, HB1.out⟩
      · have HR := Lib.hid (HX.out (fun y h1 h2 => HNO.out y h1 (by omega)))
        have hlt' : ¬ (z : Int) ≤ 4 := by omega
        go_wp2_with fail
        go_ret3
        exact ⟨ret3 HR.out.1.symm HR.out.2.1.symm HR.out.2.2.symm, HB.out⟩
  · have HR : Hid (bkP s i = 0 ∧ bkN s i = 0 ∧ bkE s i = 2) := Lib.hid (by unfold bkP bkN bkE; rw [if_neg (by omega), if_neg hin, if_neg hin]; exact ⟨rfl, rfl, rfl⟩)
    by_cases h0 : i < 1
    · clear hin
      go_enter Try.func17, Try.ntmps17
      go_wp2_with fail
      go_ret3
      exact ⟨ret3 HR.out.1.symm HR.out.2.1.symm HR.out.2.2.symm, Below.refl _ _⟩
    · have h1 : (s.size : Int) < i := by omega
      clear hin
      go_enter Try.func17, Try.ntmps17
      go_wp2_with fail
      go_ret3
      exact ⟨ret3 HR.out.1.symm HR.out.2.1.symm HR.out.2.2.symm, Below.refl _ _⟩
end Go.Proofs.Ytepjehneembakaa
