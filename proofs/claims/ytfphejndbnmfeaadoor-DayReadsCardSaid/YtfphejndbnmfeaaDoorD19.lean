import Derived.Test.YtfphejndbnmfeaaDoorD18
namespace Go.Proofs.YtfphejndbnmfeaaDoor
open Go.RowKit

def OffPost (B : Nat) (s : ByteArray) (p : Nat) (b : Bool) (w : World) (e : Ending) (w' : World) : Prop :=
  ∃ (v : Int) (p' : Nat), e = .returned (.int .i64 v) ∧ -90000 ≤ v ∧ v ≤ 90000 ∧ p' ≤ s.size ∧ R w' B s p' (b || !offOk s p) ∧ (b = false → offOk s p = true → p' = p + offL s p ∧ v = offV s p) ∧ Below B w w'
theorem okM_four {s : ByteArray} {p : Nat} (h : okM s p [90, 122, 43, 45] = true) : bt s p = 90 ∨ bt s p = 122 ∨ bt s p = 43 ∨ bt s p = 45 := by
  unfold okM at h
  have h2 := List.contains_iff_mem.1 h
  simp only [List.mem_cons, List.not_mem_nil, or_false] at h2
  exact h2
theorem off_no {s : ByteArray} {p : Nat} (h : okM s p [90, 122, 43, 45] = false) : offOk s p = false := by
  have : ¬ (bt s p = 90 ∨ bt s p = 122 ∨ bt s p = 43 ∨ bt s p = 45) := by
    intro hh
    have : okM s p [90, 122, 43, 45] = true := by
      unfold okM
      rcases hh with e | e | e | e <;> rw [e] <;> rfl
    rw [this] at h; cases h
  unfold offOk isZ
  have h1 : (bt s p == 90) = false := by simp; omega
  have h2 : (bt s p == 122) = false := by simp; omega
  have h3 : (bt s p == 43) = false := by simp; omega
  have h4 : (bt s p == 45) = false := by simp; omega
  rw [h1, h2, h3, h4]; rfl
theorem off_fin {s : ByteArray} {p h m p1 p2 p3 : Nat} (hx : bt s p = 43 ∨ bt s p = 45) (e1 : okN s (p + 1) 2 0 23 = true → p1 = p + 1 + 2 ∧ h = numv s (p + 1) 2) (e2 : p2 = if okM s p1 [58] then p1 + 1 else p1)
    (e3 : okN s p2 2 0 59 = true → p3 = p2 + 2 ∧ m = numv s p2 2) :
    (((false || !okN s (p + 1) 2 0 23) || !okM s p1 [58]) || !okN s p2 2 0 59) = (!offOk s p) ∧ (offOk s p = true → p3 = p + offL s p ∧ (if bt s p = 45 then -(3600 * (h : Int) + 60 * m) else 3600 * (h : Int) + 60 * m) = offV s p) := by
  have hz : isZ (bt s p) = false := by rcases hx with e | e <;> rw [e] <;> rfl
  have hs : (bt s p == 43 || bt s p == 45) = true := by rcases hx with e | e <;> rw [e] <;> rfl
  unfold offOk offL offV
  rw [hz, hs]
  cases k1 : okN s (p + 1) 2 0 23 with
  | false => simp
  | true =>
    obtain ⟨rfl, rfl⟩ := e1 k1
    have q1 := okM_eq s (p + 1 + 2) 58
    rw [q1] at e2 ⊢
    cases m1 : (bt s (p + 1 + 2) == 58) with
    | false => (try rw [show (bt s (p + 3) == 58) = false from m1]); simp
    | true =>
      rw [m1, if_pos rfl] at e2
      subst e2
      (try rw [show (bt s (p + 3) == 58) = true from m1])
      refine ⟨by rw [show okN s (p + 1 + 2 + 1) 2 0 59 = okN s (p + 4) 2 0 59 from rfl]; simp, fun h => ?_⟩
      simp only [Bool.true_and, Bool.false_or] at h
      obtain ⟨rfl, rfl⟩ := e3 h
      exact ⟨by simp, by simp only [Bool.false_eq_true, if_false]⟩
set_option maxRecDepth 10000 in
theorem offset_any (B : Nat) (s : ByteArray) (p : Nat) (b : Bool) (w : World) (hL : ML w) (hB : 2 < B) (hR : R w B s p b) (hs : s.size ≤ maxLen) (hp : p ≤ s.size) :
    Calls Tryd.prog 42 #[.pointer (some ⟨B, 0, none⟩)] w (OffPost B s p b w) := by
  have HS := Lib.hid hs
  have HL := Lib.hid (fun W (hW : Below B w W) => hL.below hW hB)
  have HM := Lib.hid (mark_any B s _ _ mZ p b w hL hB hR hs hp)
  clear hL hR hs
  cases b with
  | true =>
    go_enter Tryd.func42, Tryd.ntmps42
    go_wp2_with fail
    refine HM.out.mono ?_
    rintro e w1 ⟨rfl, r1, b1, i1⟩
    obtain ⟨p1, e1⟩ : ∃ p1, p1 = if okM s p [90, 122, 43, 45] then p + 1 else p := ⟨_, rfl⟩
    obtain ⟨x, hx⟩ : ∃ x, x = (if okM s p [90, 122, 43, 45] then bt s p else 0) := ⟨_, rfl⟩
    rw [← e1, Bool.true_or] at r1
    rw [← hx]
    have hp1 : p1 ≤ s.size := by
      rw [e1]; split
      · exact i1 (by assumption)
      · exact hp
    have R1 := Lib.hid r1
    have B1 := Lib.hid b1
    obtain ⟨c0, c1, c2, f1, f2, hz⟩ := r1
    clear b1 e1 i1 hx
    go_wp2_with fail
    go_ret
    exact ⟨0, p1, rfl, by omega, by omega, hp1, by rw [Bool.true_or]; exact R1.out, (fun h => by cases h), B1.out⟩
  | false =>
    cases hok : okM s p [90, 122, 43, 45] with
    | false =>
      have HO := Lib.hid (off_no hok)
      go_enter Tryd.func42, Tryd.ntmps42
      go_wp2_with fail
      refine HM.out.mono ?_
      rintro e w1 ⟨rfl, r1, b1, -⟩
      rw [hok] at r1
      rw [hok]
      simp only [Bool.false_eq_true, if_false, Bool.not_false, Bool.or_true] at r1 ⊢
      have R1 := Lib.hid r1
      have B1 := Lib.hid b1
      obtain ⟨c0, c1, c2, f1, f2, hz⟩ := r1
      clear b1 hok
      go_wp2_with fail
      go_ret
      exact ⟨0, p, rfl, by omega, by omega, hp, by rw [HO.out]; exact R1.out, fun _ h => absurd h (by rw [HO.out]; simp), B1.out⟩
    | true =>
      have hlt : p < s.size := bt_in s p (by rcases okM_four hok with e | e | e | e <;> rw [e] <;> decide)
      have H4 := Lib.hid (okM_four hok)
      go_enter Tryd.func42, Tryd.ntmps42
      go_wp2_with fail
      refine HM.out.mono ?_
      rintro e w1 ⟨rfl, r1, b1, -⟩
      rw [hok] at r1
      rw [hok]
      simp only [if_true, Bool.not_true, Bool.or_false] at r1 ⊢
      have R1 := Lib.hid r1
      have B1 := Lib.hid b1
      obtain ⟨c0, c1, c2, f1, f2, hz⟩ := r1
      clear b1 hok HM
      obtain ⟨x, hx⟩ : ∃ x, x = bt s p := ⟨_, rfl⟩
      have HX := Lib.hid hx
      have hb : (0 : Int) ≤ x ∧ x < 256 := by rw [hx]; exact bt_range s p
      obtain ⟨hb1, hb2⟩ := hb
      rw [← hx] at H4 ⊢
      clear hx
      by_cases h90 : x = 90
      · subst h90
        have HZ : Hid (isZ (bt s p) = true) := Lib.hid (by rw [← HX.out]; rfl)
        go_wp2_with fail
        go_ret
        exact ⟨0, p + 1, rfl, by omega, by omega, hlt, by rw [show offOk s p = true by unfold offOk; rw [HZ.out]; rfl]; exact R1.out, fun _ _ => ⟨by unfold offL; rw [HZ.out]; rfl, by unfold offV; rw [HZ.out]; rfl⟩, B1.out⟩
      · have g90 : (x == 90) = false := by simpa using h90
        by_cases h122 : x = 122
        · subst h122
          have HZ : Hid (isZ (bt s p) = true) := Lib.hid (by rw [← HX.out]; rfl)
          clear h90
          go_wp2_with fail
          go_ret
          exact ⟨0, p + 1, rfl, by omega, by omega, hlt, by rw [show offOk s p = true by unfold offOk; rw [HZ.out]; rfl]; exact R1.out, fun _ _ => ⟨by unfold offL; rw [HZ.out]; rfl, by unfold offV; rw [HZ.out]; rfl⟩, B1.out⟩
        · have g122 : (x == 122) = false := by simpa using h122
          have HSG : Hid (bt s p = 43 ∨ bt s p = 45) := Lib.hid (by rw [← HX.out]; rcases H4.out with e | e | e | e <;> omega)
          clear h90 h122
          go_wp2_with fail
          refine (number_any B s (p + 1) 2 0 23 _ w1 R1.out HS.out hlt (by omega) (by omega) (by omega)).mono ?_
          rintro e w2 ⟨h, q1, rfl, -, hh, hq1, r2, e2, b2⟩
          have R2 := Lib.hid r2
          have B2 := Lib.hid (B1.out.trans b2)
          have E2 := Lib.hid e2
          clear r2 b2 e2 c0 c1 c2 f1 f2 hz
          go_wp2_with fail
          refine (mark_any B s _ _ mColon q1 _ w2 (HL.out _ B2.out) hB R2.out HS.out hq1).mono ?_
          rintro e w3 ⟨rfl, r3, b3, i3⟩
          obtain ⟨q2, e3⟩ : ∃ q2, q2 = if okM s q1 [58] then q1 + 1 else q1 := ⟨_, rfl⟩
          rw [← e3] at r3
          have hq2 : q2 ≤ s.size := by
            rw [e3]; split
            · exact i3 (by assumption)
            · exact hq1
          have R3 := Lib.hid r3
          have B3 := Lib.hid (B2.out.trans b3)
          have E3 := Lib.hid e3
          obtain ⟨c4, hc4⟩ : ∃ c, c = (if okM s q1 [58] then bt s q1 else 0) := ⟨_, rfl⟩
          rw [← hc4]
          clear r3 b3 e3 i3 hc4
          go_wp2_with fail
          refine (number_any B s q2 2 0 59 _ w3 R3.out HS.out hq2 (by omega) (by omega) (by omega)).mono ?_
          rintro e w4 ⟨m, q3, rfl, -, hm, hq3, r4, e4, b4⟩
          have R4 := Lib.hid r4
          have B4 := Lib.hid (B3.out.trans b4)
          have E4 := Lib.hid e4
          clear r4 b4 e4
          by_cases h45 : x = 45
          · subst h45
            go_wp2_with fail
            go_ret
            have hf := off_fin HSG.out E2.out E3.out E4.out
            rw [if_pos HX.out.symm] at hf
            exact ⟨-(3600 * (h : Int) + 60 * m), q3, rint (by omega), by omega, by omega, hq3, by rw [Bool.false_or, ← hf.1]; exact R4.out, fun _ h => hf.2 h, B4.out⟩
          · have g45 : (x == 45) = false := by simpa using h45
            have HNX : Hid (¬ bt s p = 45) := Lib.hid (by rw [← HX.out]; exact h45)
            clear h45
            go_wp2_with fail
            go_ret
            have hf := off_fin HSG.out E2.out E3.out E4.out
            rw [if_neg HNX.out] at hf
            exact ⟨3600 * (h : Int) + 60 * m, q3, rint (by omega), by omega, by omega, hq3, by rw [Bool.false_or, ← hf.1]; exact R4.out, fun _ h => hf.2 h, B4.out⟩
end Go.Proofs.YtfphejndbnmfeaaDoor
