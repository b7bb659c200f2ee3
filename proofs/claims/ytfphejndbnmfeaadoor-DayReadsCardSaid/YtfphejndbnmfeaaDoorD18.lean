import Derived.Test.YtfphejndbnmfeaaDoorD17
namespace Go.Proofs.YtfphejndbnmfeaaDoor
open Go.RowKit

theorem okM_eq (s : ByteArray) (p : Nat) (c : Int) : okM s p [c] = (bt s p == c) := by
  unfold okM; simp [List.contains, List.elem]
  cases h : (bt s p == c) <;> simp_all
/-- What a date that is taken leaves behind. -/
def DatePost (B : Nat) (s : ByteArray) (w : World) (e : Ending) (w' : World) : Prop :=
  ∃ v p' : Nat, e = .returned (.int .i64 v) ∧ v ≤ 3660000 ∧ p' ≤ s.size ∧ R w' B s p' (!okDate s) ∧ (okDate s = true → p' = 10 ∧ v = aheadS s) ∧ Below B w w'
theorem ahead_le {y m d : Nat} (hy : y < 10000) (hm : m ≤ 12) (hd : d ≤ 31) : aheadD y m d ≤ 3660000 := by
  unfold aheadD
  have h1 := cum_top (y := y) (by omega)
  have h2 := cumM_top (y := y) (m := m - 1) (by omega)
  omega
theorem date_fin {s : ByteArray} {y m d p1 p2 p3 p4 p5 : Nat} {D : Nat} (e1 : okN s 0 4 0 9999 = true → p1 = 0 + 4 ∧ y = numv s 0 4) (e2 : p2 = if okM s p1 [45] then p1 + 1 else p1)
    (e3 : okN s p2 2 1 12 = true → p3 = p2 + 2 ∧ m = numv s p2 2) (e4 : p4 = if okM s p3 [45] then p3 + 1 else p3) (e5 : okN s p4 2 1 (dim y m) = true → p5 = p4 + 2 ∧ d = numv s p4 2) (hD : D = aheadD y m d) :
    (((((false || !okN s 0 4 0 9999) || !okM s p1 [45]) || !okN s p2 2 1 12) || !okM s p3 [45]) || !okN s p4 2 1 (dim y m)) = (!okDate s) ∧ (okDate s = true → p5 = 10 ∧ D = aheadS s) := by
  unfold okDate
  cases k1 : okN s 0 4 0 9999 with
  | false => simp
  | true =>
    obtain ⟨rfl, rfl⟩ := e1 k1
    have q1 := okM_eq s (0 + 4) 45
    simp only [Nat.zero_add] at q1 e2 ⊢
    rw [q1] at e2 ⊢
    cases m1 : (bt s 4 == 45) with
    | false => simp
    | true =>
      rw [m1, if_pos rfl] at e2
      subst e2
      cases k2 : okN s (4 + 1) 2 1 12 with
      | false => (try rw [show okN s 5 2 1 12 = false from k2]); simp
      | true =>
        obtain ⟨rfl, rfl⟩ := e3 k2
        have q2 := okM_eq s (4 + 1 + 2) 45
        rw [q2] at e4 ⊢
        (try rw [show okN s 5 2 1 12 = true from k2])
        cases m2 : (bt s (4 + 1 + 2) == 45) with
        | false => (try rw [show (bt s 7 == 45) = false from m2]); simp
        | true =>
          rw [m2, if_pos rfl] at e4
          subst e4
          (try rw [show (bt s 7 == 45) = true from m2])
          refine ⟨by simp, fun h => ?_⟩
          simp only [Bool.true_and] at h
          obtain ⟨rfl, rfl⟩ := e5 h
          exact ⟨rfl, hD⟩
set_option maxRecDepth 10000 in
theorem date_any (B : Nat) (s : ByteArray) (w : World) (hT : MD w) (hL : ML w) (hB : 2 < B) (hR : R w B s 0 false) (hs : s.size ≤ maxLen) :
    Calls Tryd.prog 38 #[.pointer (some ⟨B, 0, none⟩)] w (DatePost B s w) := by
  have HS := Lib.hid hs
  have HT := Lib.hid (fun W (hW : Below B w W) => hT.below hW (by omega))
  have HL := Lib.hid (fun W (hW : Below B w W) => hL.below hW hB)
  have HR := Lib.hid hR
  have N1 := Lib.hid (number_any B s 0 4 0 9999 false w hR hs (Nat.zero_le _) (by omega) (by omega) (by omega))
  clear hT hL hR hs
  go_enter Tryd.func38, Tryd.ntmps38
  go_wp2_with fail
  refine N1.out.mono ?_
  rintro e w1 ⟨y, p1, rfl, -, hy, hp1, r1, e1, b1⟩
  have R1 := Lib.hid r1
  have B1 := Lib.hid b1
  have E1 := Lib.hid e1
  clear r1 b1 e1
  go_wp2_with fail
  refine (mark_any B s _ _ mDash p1 _ w1 (HL.out _ B1.out) hB R1.out HS.out hp1).mono ?_
  rintro e w2 ⟨rfl, r2, b2, i2⟩
  obtain ⟨p2, e2⟩ : ∃ p2, p2 = if okM s p1 [45] then p1 + 1 else p1 := ⟨_, rfl⟩
  rw [← e2] at r2
  have hp2 : p2 ≤ s.size := by
    rw [e2]; split
    · exact i2 (by assumption)
    · exact hp1
  have R2 := Lib.hid r2
  have B2 := Lib.hid (B1.out.trans b2)
  have E2 := Lib.hid e2
  obtain ⟨c2, hc2⟩ : ∃ c, c = (if okM s p1 [45] then bt s p1 else 0) := ⟨_, rfl⟩
  rw [← hc2]
  clear r2 b2 e2 i2 hc2
  go_wp2_with fail
  refine (number_any B s p2 2 1 12 _ w2 R2.out HS.out hp2 (by omega) (by omega) (by omega)).mono ?_
  rintro e w3 ⟨m, p3, rfl, hm1, hm2, hp3, r3, e3, b3⟩
  have R3 := Lib.hid r3
  have B3 := Lib.hid (B2.out.trans b3)
  have E3 := Lib.hid e3
  clear r3 b3 e3
  go_wp2_with fail
  refine (mark_any B s _ _ mDash p3 _ w3 (HL.out _ B3.out) hB R3.out HS.out hp3).mono ?_
  rintro e w4 ⟨rfl, r4, b4, i4⟩
  obtain ⟨p4, e4⟩ : ∃ p4, p4 = if okM s p3 [45] then p3 + 1 else p3 := ⟨_, rfl⟩
  rw [← e4] at r4
  have hp4 : p4 ≤ s.size := by
    rw [e4]; split
    · exact i4 (by assumption)
    · exact hp3
  have R4 := Lib.hid r4
  have B4 := Lib.hid (B3.out.trans b4)
  have E4 := Lib.hid e4
  obtain ⟨c4, hc4⟩ : ∃ c, c = (if okM s p3 [45] then bt s p3 else 0) := ⟨_, rfl⟩
  rw [← hc4]
  have hdm : 28 ≤ dim y m ∧ dim y m ≤ 31 := by
    have := dim_two y (m - 1) (by omega)
    rwa [show m - 1 + 1 = m by omega] at this
  obtain ⟨hdm1, hdm2⟩ := hdm
  have HDY := Lib.hid (daysOf_any y m w4 (by omega) hm1 hm2 (HT.out _ B4.out))
  have HN5 := Lib.hid (number_any B s p4 2 1 (dim y m) _ w4 R4.out HS.out hp4 (by omega) (by omega) (by omega))
  obtain ⟨k, hk⟩ : ∃ k, k = dim y m := ⟨_, rfl⟩
  have HK := Lib.hid hk
  rw [← hk] at HDY HN5 hdm1 hdm2
  clear r4 b4 e4 i4 hc4 hk
  go_wp2_with fail
  refine HDY.out.mono ?_
  rintro e w5 ⟨rfl, rfl⟩
  go_wp2_with fail
  refine HN5.out.mono ?_
  rintro e w6 ⟨d, p5, rfl, hd1, hd2, hp5, r6, e6, b6⟩
  have R6 := Lib.hid r6
  have B6 := Lib.hid (B4.out.trans b6)
  have E6 := Lib.hid e6
  clear r6 b6 e6
  go_wp2_with fail
  refine (daysAhead_any y m d w6 (HT.out _ B6.out) (by omega) hm1 hm2 hd1 (by omega)).mono ?_
  rintro e w7 ⟨rfl, rfl⟩
  have hle := ahead_le (y := y) (m := m) (d := d) (by omega) hm2 (by omega)
  obtain ⟨D, hD⟩ : ∃ D, D = aheadD y m d := ⟨_, rfl⟩
  have HDD := Lib.hid hD
  rw [← hD] at hle ⊢
  clear hD
  go_wp2_with fail
  go_ret
  have hf := date_fin E1.out E2.out E3.out E4.out (by have := E6.out; rw [HK.out] at this; exact this) HDD.out
  exact ⟨D, p5, rfl, hle, hp5, by rw [← hf.1, ← HK.out]; exact R6.out, hf.2, B6.out⟩
def TimePost (B : Nat) (s : ByteArray) (w : World) (e : Ending) (w' : World) : Prop :=
  ∃ v p' : Nat, e = .returned (.int .i64 v) ∧ v < 86400 ∧ p' ≤ s.size ∧ R w' B s p' (!okTime s) ∧ (okTime s = true → p' = 19 ∧ v = timeS s) ∧ Below B w w'
theorem time_fin {s : ByteArray} {h m c p1 p2 p3 p4 p5 : Nat} (e1 : okN s 11 2 0 23 = true → p1 = 11 + 2 ∧ h = numv s 11 2) (e2 : p2 = if okM s p1 [58] then p1 + 1 else p1)
    (e3 : okN s p2 2 0 59 = true → p3 = p2 + 2 ∧ m = numv s p2 2) (e4 : p4 = if okM s p3 [58] then p3 + 1 else p3) (e5 : okN s p4 2 0 59 = true → p5 = p4 + 2 ∧ c = numv s p4 2) :
    (((((false || !okN s 11 2 0 23) || !okM s p1 [58]) || !okN s p2 2 0 59) || !okM s p3 [58]) || !okN s p4 2 0 59) = (!okTime s) ∧ (okTime s = true → p5 = 19 ∧ 3600 * h + 60 * m + c = timeS s) := by
  unfold okTime
  cases k1 : okN s 11 2 0 23 with
  | false => simp
  | true =>
    obtain ⟨rfl, rfl⟩ := e1 k1
    have q1 := okM_eq s (11 + 2) 58
    rw [q1] at e2 ⊢
    cases m1 : (bt s (11 + 2) == 58) with
    | false => (try rw [show (bt s 13 == 58) = false from m1]); simp
    | true =>
      rw [m1, if_pos rfl] at e2
      subst e2
      (try rw [show (bt s 13 == 58) = true from m1])
      cases k2 : okN s (11 + 2 + 1) 2 0 59 with
      | false => (try rw [show okN s 14 2 0 59 = false from k2]); simp
      | true =>
        obtain ⟨rfl, rfl⟩ := e3 k2
        have q2 := okM_eq s (11 + 2 + 1 + 2) 58
        rw [q2] at e4 ⊢
        (try rw [show okN s 14 2 0 59 = true from k2])
        cases m2 : (bt s (11 + 2 + 1 + 2) == 58) with
        | false => (try rw [show (bt s 16 == 58) = false from m2]); simp
        | true =>
          rw [m2, if_pos rfl] at e4
          subst e4
          (try rw [show (bt s 16 == 58) = true from m2])
          refine ⟨by simp, fun h => ?_⟩
          simp only [Bool.true_and] at h
          obtain ⟨rfl, rfl⟩ := e5 h
          exact ⟨rfl, rfl⟩
set_option maxRecDepth 10000 in
theorem time_any (B : Nat) (s : ByteArray) (w : World) (hL : ML w) (hB : 2 < B) (hR : R w B s 11 false) (hs : s.size ≤ maxLen) (h11 : 11 ≤ s.size) :
    Calls Tryd.prog 40 #[.pointer (some ⟨B, 0, none⟩)] w (TimePost B s w) := by
  have HS := Lib.hid hs
  have HL := Lib.hid (fun W (hW : Below B w W) => hL.below hW hB)
  have HR := Lib.hid hR
  have N1 := Lib.hid (number_any B s 11 2 0 23 false w hR hs h11 (by omega) (by omega) (by omega))
  clear hL hR hs
  go_enter Tryd.func40, Tryd.ntmps40
  go_wp2_with fail
  refine N1.out.mono ?_
  rintro e w1 ⟨y, p1, rfl, -, hy, hp1, r1, e1, b1⟩
  have R1 := Lib.hid r1
  have B1 := Lib.hid b1
  have E1 := Lib.hid e1
  clear r1 b1 e1
  go_wp2_with fail
  refine (mark_any B s _ _ mColon p1 _ w1 (HL.out _ B1.out) hB R1.out HS.out hp1).mono ?_
  rintro e w2 ⟨rfl, r2, b2, i2⟩
  obtain ⟨p2, e2⟩ : ∃ p2, p2 = if okM s p1 [58] then p1 + 1 else p1 := ⟨_, rfl⟩
  rw [← e2] at r2
  have hp2 : p2 ≤ s.size := by
    rw [e2]; split
    · exact i2 (by assumption)
    · exact hp1
  have R2 := Lib.hid r2
  have B2 := Lib.hid (B1.out.trans b2)
  have E2 := Lib.hid e2
  obtain ⟨c2, hc2⟩ : ∃ c, c = (if okM s p1 [58] then bt s p1 else 0) := ⟨_, rfl⟩
  rw [← hc2]
  clear r2 b2 e2 i2 hc2
  go_wp2_with fail
  refine (number_any B s p2 2 0 59 _ w2 R2.out HS.out hp2 (by omega) (by omega) (by omega)).mono ?_
  rintro e w3 ⟨m, p3, rfl, -, hm2, hp3, r3, e3, b3⟩
  have R3 := Lib.hid r3
  have B3 := Lib.hid (B2.out.trans b3)
  have E3 := Lib.hid e3
  clear r3 b3 e3
  go_wp2_with fail
  refine (mark_any B s _ _ mColon p3 _ w3 (HL.out _ B3.out) hB R3.out HS.out hp3).mono ?_
  rintro e w4 ⟨rfl, r4, b4, i4⟩
  obtain ⟨p4, e4⟩ : ∃ p4, p4 = if okM s p3 [58] then p3 + 1 else p3 := ⟨_, rfl⟩
  rw [← e4] at r4
  have hp4 : p4 ≤ s.size := by
    rw [e4]; split
    · exact i4 (by assumption)
    · exact hp3
  have R4 := Lib.hid r4
  have B4 := Lib.hid (B3.out.trans b4)
  have E4 := Lib.hid e4
  obtain ⟨c4, hc4⟩ : ∃ c, c = (if okM s p3 [58] then bt s p3 else 0) := ⟨_, rfl⟩
  rw [← hc4]
  clear r4 b4 e4 i4 hc4
  go_wp2_with fail
  refine (number_any B s p4 2 0 59 _ w4 R4.out HS.out hp4 (by omega) (by omega) (by omega)).mono ?_
  rintro e w6 ⟨d, p5, rfl, -, hd2, hp5, r6, e6, b6⟩
  have R6 := Lib.hid r6
  have B6 := Lib.hid (B4.out.trans b6)
  have E6 := Lib.hid e6
  clear r6 b6 e6
  go_wp2_with fail
  go_ret
  have hf := time_fin E1.out E2.out E3.out E4.out E6.out
  exact ⟨3600 * y + 60 * m + d, p5, rint (by omega), by omega, hp5, by rw [← hf.1]; exact R6.out, hf.2, B6.out⟩
end Go.Proofs.YtfphejndbnmfeaaDoor
