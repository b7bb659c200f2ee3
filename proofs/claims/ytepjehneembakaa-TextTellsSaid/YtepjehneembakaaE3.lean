import Derived.Test.YtepjehneembakaaE2
namespace Go.Proofs.Ytepjehneembakaa
open Go.RowKit

theorem both_walk0 (s : ByteArray) (i : Int) (w : World) (hs : s.size ≤ maxLen) :
    Calls Try.prog 7 #[.string s, .int .i64 i] w fun e w' => e = .returned (.bool true) ∧ Below w.heap.size w w' := by
  have hm := hs
  unfold maxLen at hm
  by_cases hn : nxE s i = 0
  · have fo := both_forth hn
    have ok := nx_ok hn
    have F1 := Lib.hid fo
    have b1 := ok.1
    have b2 := ok.2.1
    have b3 := ok.2.2.2.2.2.1
    have b4 := ok.2.2.2.2.2.2.1
    have b5 := ok.2.2.2.2.2.2.2
    have HN := Lib.hid hn
    clear fo ok hn
    by_cases hk : bkE s i = 0
    · have ba := both_back hk
      have ok := bk_ok hk
      have B1 := Lib.hid ba
      have c1 := ba.2.2.2
      have c2 : 0 ≤ bkN s i := by rw [ok.2.2.2.1]; omega
      have HK := Lib.hid hk
      clear ba ok hk
      go_enter Try.func7, Try.ntmps7
      go_wp2_with fail
      refine (alive_true _).mono ?_
      rintro e w1 ⟨rfl, h1⟩
      go_wp2_with fail
      refine (next_any s i _ hs).mono ?_
      rintro e w2 ⟨rfl, h2⟩
      rw [HN.out]
      go_wp2_with fail
      refine (back_any s i _ hs).mono ?_
      rintro e w3 ⟨rfl, h3⟩
      rw [HK.out]
      go_wp2_with fail
      refine (lawback_yes s _ _ _ _ _ hs F1.out.1 F1.out.2.1 F1.out.2.2).mono ?_
      rintro e w4 ⟨rfl, h4⟩
      go_wp2_with fail
      refine (lawnext_yes s _ _ _ _ _ hs B1.out.1 B1.out.2.1 B1.out.2.2.1).mono ?_
      rintro e w5 ⟨rfl, h5⟩
      go_wp2_with fail
      go_ret
      exact ⟨rfl, (((h1.trans (h2.mono h1.size)).trans (h3.mono (Nat.le_trans h1.size h2.size))).trans (h4.mono (Nat.le_trans h1.size (Nat.le_trans h2.size h3.size)))).trans (h5.mono (Nat.le_trans h1.size (Nat.le_trans h2.size (Nat.le_trans h3.size h4.size))))⟩
    · have hk2 : (bkE s i == 0) = false := by simp [hk]
      clear hk
      go_enter Try.func7, Try.ntmps7
      go_wp2_with fail
      refine (alive_true _).mono ?_
      rintro e w1 ⟨rfl, h1⟩
      go_wp2_with fail
      refine (next_any s i _ hs).mono ?_
      rintro e w2 ⟨rfl, h2⟩
      rw [HN.out]
      go_wp2_with fail
      refine (back_any s i _ hs).mono ?_
      rintro e w3 ⟨rfl, h3⟩
      go_wp2_with fail
      refine (lawback_yes s _ _ _ _ _ hs F1.out.1 F1.out.2.1 F1.out.2.2).mono ?_
      rintro e w4 ⟨rfl, h4⟩
      go_wp2_with fail
      go_ret
      exact ⟨rfl, ((h1.trans (h2.mono h1.size)).trans (h3.mono (Nat.le_trans h1.size h2.size))).trans (h4.mono (Nat.le_trans h1.size (Nat.le_trans h2.size h3.size)))⟩
  · have hn2 : (nxE s i == 0) = false := by simp [hn]
    clear hn
    by_cases hk : bkE s i = 0
    · have ba := both_back hk
      have ok := bk_ok hk
      have B1 := Lib.hid ba
      have c1 := ba.2.2.2
      have c2 : 0 ≤ bkN s i := by rw [ok.2.2.2.1]; omega
      have c3 := ok.1
      have c4 := ok.2.1
      have HK := Lib.hid hk
      clear ba ok hk
      go_enter Try.func7, Try.ntmps7
      go_wp2_with fail
      refine (alive_true _).mono ?_
      rintro e w1 ⟨rfl, h1⟩
      go_wp2_with fail
      refine (next_any s i _ hs).mono ?_
      rintro e w2 ⟨rfl, h2⟩
      go_wp2_with fail
      refine (back_any s i _ hs).mono ?_
      rintro e w3 ⟨rfl, h3⟩
      rw [HK.out]
      go_wp2_with fail
      refine (lawnext_yes s _ _ _ _ _ hs B1.out.1 B1.out.2.1 B1.out.2.2.1).mono ?_
      rintro e w5 ⟨rfl, h5⟩
      go_wp2_with fail
      go_ret
      exact ⟨rfl, ((h1.trans (h2.mono h1.size)).trans (h3.mono (Nat.le_trans h1.size h2.size))).trans (h5.mono (Nat.le_trans h1.size (Nat.le_trans h2.size h3.size)))⟩
    · have hk2 : (bkE s i == 0) = false := by simp [hk]
      clear hk
      go_enter Try.func7, Try.ntmps7
      go_wp2_with fail
      refine (alive_true _).mono ?_
      rintro e w1 ⟨rfl, h1⟩
      go_wp2_with fail
      refine (next_any s i _ hs).mono ?_
      rintro e w2 ⟨rfl, h2⟩
      go_wp2_with fail
      refine (back_any s i _ hs).mono ?_
      rintro e w3 ⟨rfl, h3⟩
      go_wp2_with fail
      go_ret
      exact ⟨rfl, (h1.trans (h2.mono h1.size)).trans (h3.mono (Nat.le_trans h1.size h2.size))⟩
theorem both_walk (s : ByteArray) (i : Int) (w : World) (hs : s.size ≤ maxLen) (_h0 : -9223372036854775808 ≤ i) (_h1 : i ≤ 9223372036854775807) :
    Calls Try.prog 7 #[.string s, .int .i64 i] w fun e w' => e = .returned (.bool true) ∧ Below w.heap.size w w' := both_walk0 s i w hs
end Go.Proofs.Ytepjehneembakaa
