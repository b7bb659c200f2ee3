import Derived.Test.YtepjehneembakaaE1
import Derived.Test.YtepjehneembakaaPlain2
namespace Go.Proofs.Ytepjehneembakaa
open Go.RowKit

theorem ret3 {a b c d e f : Int} (h : a = b) (g : c = d) (k : e = f) : Ending.returned (.tuple #[.int .i64 a, .int .i64 c, .int .i64 e]) = .returned (.tuple #[.int .i64 b, .int .i64 d, .int .i64 f]) := by rw [h, g, k]

theorem decode_at (s : ByteArray) (a : Nat) (v : Int) (w : World) (hv : v = a) (hs : s.size ≤ maxLen) (ha : a < s.size) :
    Calls Try.prog 28 #[.string s, .int .i64 v] w fun e w' => e = .returned (.tuple #[.int .i64 (decP s a), .int .i64 (decN s a)]) ∧ Below w.heap.size w w' := by
  subst hv; exact decode_any s a w hs ha

theorem next_any (s : ByteArray) (i : Int) (w : World) (hs : s.size ≤ maxLen) :
    Calls Try.prog 14 #[.string s, .int .i64 i] w fun e w' => e = .returned (.tuple #[.int .i64 (nxP s i), .int .i64 (nxN s i), .int .i64 (nxE s i)]) ∧ Below w.heap.size w w' := by
  by_cases hi : 0 ≤ i ∧ i < s.size
  · obtain ⟨h0, h1⟩ := hi
    obtain ⟨a, rfl⟩ := Int.eq_ofNat_of_zero_le h0
    have ha : a < s.size := by omega
    have e1 : nxP s a = decP s a := by unfold nxP; rw [if_pos ⟨h0, h1⟩]; rfl
    have e2 : nxN s a = decN s a := by unfold nxN; rw [if_pos ⟨h0, h1⟩]; rfl
    rcases decN_eq s a with ⟨hd, hN, h0'⟩ | ⟨hd, hN, hP⟩
    · have E1 := Lib.hid e1
      have E2 := Lib.hid e2
      have E3 : Hid (nxE s a = 0) := Lib.hid (by unfold nxE; rw [if_pos ⟨h0, h1⟩]; simp [hd])
      have hz : (decN s a == 0) = false := by rw [hN]; simp; exact h0'
      clear e1 e2 hd hN h0'
      go_enter Try.func14, Try.ntmps14
      go_wp2_with fail
      refine (decode_any s a _ hs ha).mono ?_
      rintro e w' ⟨rfl, hb⟩
      go_wp2_with fail
      go_ret3
      exact ⟨ret3 E1.out.symm E2.out.symm E3.out.symm, hb⟩
    · have E1 : Hid (nxP s a = 0) := Lib.hid (by rw [e1, hP])
      have E2 : Hid (nxN s a = 0) := Lib.hid (by rw [e2, hN])
      have E3 : Hid (nxE s a = 10) := Lib.hid (by unfold nxE; rw [if_pos ⟨h0, h1⟩]; simp [hd])
      have hz : (decN s a == 0) = true := by rw [hN]; rfl
      clear e1 e2 hd hN hP
      go_enter Try.func14, Try.ntmps14
      go_wp2_with fail
      refine (decode_any s a _ hs ha).mono ?_
      rintro e w' ⟨rfl, hb⟩
      go_wp2_with fail
      go_ret3
      exact ⟨ret3 E1.out.symm E2.out.symm E3.out.symm, hb⟩
  · have E1 : Hid (nxP s i = 0) := Lib.hid (by unfold nxP; rw [if_neg hi])
    have E2 : Hid (nxN s i = 0) := Lib.hid (by unfold nxN; rw [if_neg hi])
    have E3 : Hid (nxE s i = 2) := Lib.hid (by unfold nxE; rw [if_neg hi])
    by_cases hn : i < 0
    · clear hi
      go_enter Try.func14, Try.ntmps14
      go_wp2_with fail
      go_ret3
      exact ⟨ret3 E1.out.symm E2.out.symm E3.out.symm, Below.refl _ _⟩
    · have hge : (s.size : Int) ≤ i := by omega
      clear hi
      go_enter Try.func14, Try.ntmps14
      go_wp2_with fail
      go_ret3
      exact ⟨ret3 E1.out.symm E2.out.symm E3.out.symm, Below.refl _ _⟩

set_option maxHeartbeats 400000 in
theorem back_any (s : ByteArray) (i : Int) (w : World) (hs : s.size ≤ maxLen) :
    Calls Try.prog 16 #[.string s, .int .i64 i] w fun e w' => e = .returned (.tuple #[.int .i64 (bkP s i), .int .i64 (bkN s i), .int .i64 (bkE s i)]) ∧ Below w.heap.size w w' := by
  by_cases hi : 1 ≤ i ∧ i ≤ s.size
  · obtain ⟨h0, h1⟩ := hi
    obtain ⟨a, rfl⟩ := Int.eq_ofNat_of_zero_le (by omega : 0 ≤ i)
    have ha : a ≤ s.size := by omega
    have hm := hs
    unfold maxLen at hm
    have ht := size_cut s a ha
    have hts : (s.extract 0 a).size ≤ maxLen := by rw [ht]; omega
    have HT := Lib.hid ht
    clear ht
    have z1 : decide (s.size < a) = false := by simp; omega
    have z2 : decide ((a : Int) < 1) = false := by simp; omega
    go_enter Try.func16, Try.ntmps16
    go_wp2_with fail
    go_loopw [4, 5, 7] (fun _ _ k wr => ∃ f j : Nat, f + j = 5 ∧ 1 ≤ j ∧ k = .int .i64 j ∧ bkF (s.extract 0 a) a f j = bkK s a ∧ Below w.heap.size w wr) (fun _ _ k _ => 5 - (intOf k).toNat)
    case atStart => exact ⟨4, 1, rfl, by omega, rfl, rfl, Below.refl _ _⟩
    case round =>
      obtain ⟨f, j, hfj, hj1, rfl, hk, hb⟩ := hrel
      have HK := Lib.hid hk
      clear hk
      by_cases h4 : j ≤ 4
      · obtain ⟨f, rfl⟩ : ∃ f', f = f' + 1 := ⟨f - 1, by omega⟩
        by_cases hja : j ≤ a
        · by_cases hd : decN (s.extract 0 a) (a - j) = (j : Int)
          · have hkj : bkK s a = j := by rw [← HK.out]; unfold bkF; rw [if_pos ⟨hja, hd⟩]
            have HKJ := Lib.hid hkj
            have HD := Lib.hid hd
            clear hd hkj
            go_wp2_with fail
            refine (decode_at (s.extract 0 a) (a - j) _ _ (by omega) hts (by rw [HT.out]; omega)).mono ?_
            rintro e w' ⟨rfl, hb'⟩
            rw [HD.out]
            go_wp2_with fail
            go_ret3
            refine ⟨ret3 ?_ ?_ ?_, hb.trans (hb'.mono hb.size)⟩
            · unfold bkP; rw [if_pos (by rw [Int.toNat_natCast, HKJ.out]; omega), Int.toNat_natCast, HKJ.out]
            · unfold bkN; rw [if_pos (by omega), Int.toNat_natCast, HKJ.out]
            · unfold bkE; rw [if_pos (by omega), Int.toNat_natCast, HKJ.out, if_neg (by omega)]
          · have hk2 : bkF (s.extract 0 a) a f (j + 1) = bkK s a := by rw [← HK.out]; rw [bkF, if_neg (fun hc => hd hc.2)]
            have HK2 := Lib.hid hk2
            have hdb : (decN (s.extract 0 a) (a - j) == (j : Int)) = false := by simp [hd]
            clear hd hk2
            go_wp2_with fail
            refine (decode_at (s.extract 0 a) (a - j) _ _ (by omega) hts (by rw [HT.out]; omega)).mono ?_
            rintro e w' ⟨rfl, hb'⟩
            go_wp2_with fail
            go_roundw
            case rel => exact ⟨f, j + 1, by omega, by omega, by go_num, HK2.out, hb.trans (hb'.mono hb.size)⟩
            case measure => simp [intOf]; omega
        · have hk0 : bkK s a = 0 := by
            rw [← HK.out]
            rcases bkF_spec (s.extract 0 a) a (f + 1) j with g | ⟨g1, _, g3, _⟩
            · exact g
            · omega
          have HK0 := Lib.hid hk0
          clear hk0
          go_wp2_with fail
          go_ret3
          refine ⟨ret3 ?_ ?_ ?_, hb⟩
          · unfold bkP; rw [if_neg (by rw [Int.toNat_natCast, HK0.out]; omega)]
          · unfold bkN; rw [if_pos (by omega), Int.toNat_natCast, HK0.out]; rfl
          · unfold bkE; rw [if_pos (by omega), Int.toNat_natCast, HK0.out, if_pos rfl]
      · have hk0 : bkK s a = 0 := by
          rw [← HK.out]
          rw [show f = 0 from by omega]; rfl
        have HK0 := Lib.hid hk0
        clear hk0
        go_wp2_with fail
        go_ret3
        refine ⟨ret3 ?_ ?_ ?_, hb⟩
        · unfold bkP; rw [if_neg (by rw [Int.toNat_natCast, HK0.out]; omega)]
        · unfold bkN; rw [if_pos (by omega), Int.toNat_natCast, HK0.out]; rfl
        · unfold bkE; rw [if_pos (by omega), Int.toNat_natCast, HK0.out, if_pos rfl]
  · have E1 : Hid (bkP s i = 0) := Lib.hid (by unfold bkP; rw [if_neg (by omega)])
    have E2 : Hid (bkN s i = 0) := Lib.hid (by unfold bkN; rw [if_neg hi])
    have E3 : Hid (bkE s i = 2) := Lib.hid (by unfold bkE; rw [if_neg hi])
    by_cases hn : i < 1
    · clear hi
      go_enter Try.func16, Try.ntmps16
      go_wp2_with fail
      go_ret3
      exact ⟨ret3 E1.out.symm E2.out.symm E3.out.symm, Below.refl _ _⟩
    · have hge : (s.size : Int) < i := by omega
      clear hi
      go_enter Try.func16, Try.ntmps16
      go_wp2_with fail
      go_ret3
      exact ⟨ret3 E1.out.symm E2.out.symm E3.out.symm, Below.refl _ _⟩

theorem lawnext_yes (s : ByteArray) (i p n z : Int) (w : World) (hs : s.size ≤ maxLen) (h1 : nxP s i = p) (h2 : nxN s i = n) (h3 : nxE s i = z) :
    Calls Try.prog 12 #[.string s, .int .i64 i, .int .i64 p, .int .i64 n, .int .i64 z] w fun e w' => e = .returned (.bool true) ∧ Below w.heap.size w w' := by
  have H1 := Lib.hid h1
  have H2 := Lib.hid h2
  have H3 := Lib.hid h3
  clear h1 h2 h3
  go_enter Try.func12, Try.ntmps12
  go_wp2_with fail
  refine (next_any s i _ hs).mono ?_
  rintro e w' ⟨rfl, hb⟩
  rw [H1.out, H2.out, H3.out]
  go_wp2_with fail
  go_ret
  exact ⟨rfl, hb⟩
theorem lawback_yes (s : ByteArray) (i p n z : Int) (w : World) (hs : s.size ≤ maxLen) (h1 : bkP s i = p) (h2 : bkN s i = n) (h3 : bkE s i = z) :
    Calls Try.prog 23 #[.string s, .int .i64 i, .int .i64 p, .int .i64 n, .int .i64 z] w fun e w' => e = .returned (.bool true) ∧ Below w.heap.size w w' := by
  have H1 := Lib.hid h1
  have H2 := Lib.hid h2
  have H3 := Lib.hid h3
  clear h1 h2 h3
  go_enter Try.func23, Try.ntmps23
  go_wp2_with fail
  refine (back_any s i _ hs).mono ?_
  rintro e w' ⟨rfl, hb⟩
  rw [H1.out, H2.out, H3.out]
  go_wp2_with fail
  go_ret
  exact ⟨rfl, hb⟩
theorem alive_true (w : World) :
    Calls Try.prog 11 #[] w fun e w' => e = .returned (.bool true) ∧ Below w.heap.size w w' := by
  go_enter Try.func11, Try.ntmps11
  go_wp2_with fail
  refine (lawnext_yes _ _ _ _ _ _ (by decide) (by decide +kernel) (by decide +kernel) (by decide +kernel)).mono ?_
  rintro e w1 ⟨rfl, hb1⟩
  go_wp2_with fail
  refine (lawback_yes _ _ _ _ _ _ (by decide) (by decide +kernel) (by decide +kernel) (by decide +kernel)).mono ?_
  rintro e w2 ⟨rfl, hb2⟩
  go_wp2_with fail
  refine (lawback_yes _ _ _ _ _ _ (by decide) (by decide +kernel) (by decide +kernel) (by decide +kernel)).mono ?_
  rintro e w3 ⟨rfl, hb3⟩
  go_wp2_with fail
  go_ret
  exact ⟨rfl, (hb1.trans (hb2.mono hb1.size)).trans (hb3.mono (Nat.le_trans hb1.size hb2.size))⟩
end Go.Proofs.Ytepjehneembakaa
