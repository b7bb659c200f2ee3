import Derived.Test.YtjcaadihkbhlhaaB0
namespace Go.Proofs.Ytjcaadihkbhlhaa
open Go.RowKit
set_option maxRecDepth 20000 in
set_option maxHeartbeats 2000000 in
theorem isScheme_any (s : ByteArray) (hs : s.size ≤ 1000000) (w : World) : Calls Try.prog 11 #[.string s] w fun e w' => e = .returned (.bool (schemeP s.data.toList)) ∧ Below w.heap.size w w' := by
  by_cases h0 : s.size = 0
  · exact isScheme_nil s h0 w
  · have hpos : 0 < s.size := by omega
    have hne := text_ne hpos
    have hposI : (0 : Int) < s.size := by omega
    have hie : s.toList.isEmpty = false := by cases e : s.toList with
      | nil => exact absurd e hne
      | cons _ _ => rfl
    have HP : Hid (schemeP s.data.toList = (letterB s[0] && (s.data.toList.drop 1).all schemeB)) := Lib.hid (by
      have := drop_at s 0 hpos
      rw [List.drop_zero] at this
      rw [this]; rfl)
    have HALL : Hid (s.data.toList.all schemeB = (schemeB s[0] && (s.data.toList.drop 1).all schemeB)) := Lib.hid (by
      have := all_at schemeB s 0 hpos
      rwa [List.drop_zero] at this)
    have M2 := Lib.hid (fun W => marks_lit #[.string ⟨#[97, 98, 99, 100, 101, 102, 103, 104, 105, 106, 107, 108, 109, 110, 111, 112, 113, 114, 115, 116, 117, 118, 119, 120, 121, 122]⟩, .string ⟨#[65, 66, 67, 68, 69, 70, 71, 72, 73, 74, 75, 76, 77, 78, 79, 80, 81, 82, 83, 84, 85, 86, 87, 88, 89, 90]⟩] letT rfl (by decide) (by decide) (by decide) W)
    have M4 := Lib.hid (fun W => marks_lit #[.string ⟨#[97, 98, 99, 100, 101, 102, 103, 104, 105, 106, 107, 108, 109, 110, 111, 112, 113, 114, 115, 116, 117, 118, 119, 120, 121, 122]⟩, .string ⟨#[65, 66, 67, 68, 69, 70, 71, 72, 73, 74, 75, 76, 77, 78, 79, 80, 81, 82, 83, 84, 85, 86, 87, 88, 89, 90]⟩, .string ⟨#[48, 49, 50, 51, 52, 53, 54, 55, 56, 57]⟩, .string ⟨#[43, 45, 46]⟩] schT rfl (by decide) (by decide) (by decide) W)
    have HB := Lib.hid (fun b W => has_any (flat letT) b W)
    have HLB := Lib.hid let_set
    have IPL := Lib.hid (fun W => isPlain_any s (flat schT) schemeB sch_set hs W)
    unfold setV setC at M2 M4 HB IPL
    obtain ⟨a0, ha0⟩ : ∃ a : Int, a = ((wd (flat letT) 0 : Nat) : Int) := ⟨_, rfl⟩
    obtain ⟨a1, ha1⟩ : ∃ a : Int, a = ((wd (flat letT) 1 : Nat) : Int) := ⟨_, rfl⟩
    obtain ⟨a2, ha2⟩ : ∃ a : Int, a = ((wd (flat letT) 2 : Nat) : Int) := ⟨_, rfl⟩
    obtain ⟨a3, ha3⟩ : ∃ a : Int, a = ((wd (flat letT) 3 : Nat) : Int) := ⟨_, rfl⟩
    obtain ⟨c0, hc0⟩ : ∃ a : Int, a = ((wd (flat schT) 0 : Nat) : Int) := ⟨_, rfl⟩
    obtain ⟨c1, hc1⟩ : ∃ a : Int, a = ((wd (flat schT) 1 : Nat) : Int) := ⟨_, rfl⟩
    obtain ⟨c2, hc2⟩ : ∃ a : Int, a = ((wd (flat schT) 2 : Nat) : Int) := ⟨_, rfl⟩
    obtain ⟨c3, hc3⟩ : ∃ a : Int, a = ((wd (flat schT) 3 : Nat) : Int) := ⟨_, rfl⟩
    rw [← ha0, ← ha1, ← ha2, ← ha3] at M2 HB
    rw [← hc0, ← hc1, ← hc2, ← hc3] at M4 IPL
    clear ha0 ha1 ha2 ha3 hc0 hc1 hc2 hc3
    obtain ⟨b, hb⟩ : ∃ b, b = s[0] := ⟨_, rfl⟩
    rw [← hb] at HP HALL
    have k0 : ∀ q : 0 < s.size, (s[0].toNat : Int) = (b.toNat : Nat) := fun q => by rw [hb]
    clear hb
    have hSS : Below w.heap.size w w.drew := (Below.refl _ _).drew
    have CM : Hid (∀ W' B n C V, (∃ W, Below w.heap.size w W ∧ B = W.heap.size ∧ (W' = W.alloc (.cells C 9) ∨ W' = (W.alloc (.cells C 9)).drew)) → ((n = 2 ∧ C = #[.string ⟨#[97, 98, 99, 100, 101, 102, 103, 104, 105, 106, 107, 108, 109, 110, 111, 112, 113, 114, 115, 116, 117, 118, 119, 120, 121, 122]⟩, .string ⟨#[65, 66, 67, 68, 69, 70, 71, 72, 73, 74, 75, 76, 77, 78, 79, 80, 81, 82, 83, 84, 85, 86, 87, 88, 89, 90]⟩] ∧ V = (.agg #[.int .u64 a0, .int .u64 a1, .int .u64 a2, .int .u64 a3])) ∨ (n = 4 ∧ C = #[.string ⟨#[97, 98, 99, 100, 101, 102, 103, 104, 105, 106, 107, 108, 109, 110, 111, 112, 113, 114, 115, 116, 117, 118, 119, 120, 121, 122]⟩, .string ⟨#[65, 66, 67, 68, 69, 70, 71, 72, 73, 74, 75, 76, 77, 78, 79, 80, 81, 82, 83, 84, 85, 86, 87, 88, 89, 90]⟩, .string ⟨#[48, 49, 50, 51, 52, 53, 54, 55, 56, 57]⟩, .string ⟨#[43, 45, 46]⟩] ∧ V = (.agg #[.int .u64 c0, .int .u64 c1, .int .u64 c2, .int .u64 c3]))) → Calls Try.prog 15 #[.slice (some ⟨B, 0, none⟩) n n] W' fun e w' => e = .returned V ∧ Below w.heap.size w w') :=
      Lib.hid (fun W' B n C V hw q => by
        obtain ⟨W, h, rfl, hw⟩ := hw
        have e : W' = W.alloc (.cells C 9) ∨ W' = W.drew.alloc (.cells C 9) := hw
        rcases q with ⟨rfl, rfl, rfl⟩ | ⟨rfl, rfl, rfl⟩
        · rcases e with rfl | rfl
          · exact (M2.out W).mono fun e w' z => ⟨z.1, h.trans (z.2.mono h.size)⟩
          · exact (M2.out W.drew).mono fun e w' z => ⟨z.1, h.drew.trans (z.2.mono h.size)⟩
        · rcases e with rfl | rfl
          · exact (M4.out W).mono fun e w' z => ⟨z.1, h.trans (z.2.mono h.size)⟩
          · exact (M4.out W.drew).mono fun e w' z => ⟨z.1, h.drew.trans (z.2.mono h.size)⟩)
    have CH : Hid (∀ W, Below w.heap.size w W → Calls Try.prog 20 #[(.agg #[.int .u64 a0, .int .u64 a1, .int .u64 a2, .int .u64 a3]), .int .u8 (b.toNat : Nat)] W fun e w' => e = .returned (.bool (letterB b)) ∧ Below w.heap.size w w') :=
      Lib.hid (fun W h => (HB.out b W).mono fun e w' z => ⟨by rw [z.1, HLB.out b], h.trans (z.2.mono h.size)⟩)
    have CP : Hid (∀ W, Below w.heap.size w W → Calls Try.prog 14 #[.string s, (.agg #[.int .u64 c0, .int .u64 c1, .int .u64 c2, .int .u64 c3])] W fun e w' => e = .returned (.bool (s.data.toList.all schemeB)) ∧ Below w.heap.size w w') :=
      Lib.hid (fun W h => (IPL.out W).mono fun e w' z => ⟨z.1, h.trans (z.2.mono h.size)⟩)
    obtain ⟨g, hg⟩ : ∃ g, g = letterB b := ⟨_, rfl⟩
    obtain ⟨r, hr⟩ : ∃ g, g = s.data.toList.all schemeB := ⟨_, rfl⟩
    have HR : Hid (g = true → r = schemeP s.data.toList) := Lib.hid (fun q => by
      rw [hr, HALL.out, HP.out]
      have : letterB b = true := by rw [← hg, q]
      have e : schemeB b = true := by unfold schemeB; rw [this]; rfl
      rw [e, this])
    have HR0 : Hid (g = false → schemeP s.data.toList = false) := Lib.hid (fun q => by
      rw [HP.out, ← hg, q]; rfl)
    rw [← hg] at CH
    rw [← hr] at CP
    clear hg hr M2 M4 HB IPL
    cases g with
    | true =>
      have HRR := Lib.hid (HR.out rfl)
      go_enter Try.func11, Try.ntmps11
      go_wp2_with fail
      first | (go_region_held3 (fun w' => Below w.heap.size w w')
                  ((first | exact hSS | assumption | exact below_al (by assumption) _ (Nat.le_refl _)))
                  (first | (go_at_call 15; refine (CM.out _ _ _ _ _ (by first | exact ⟨_, by assumption, rfl, .inl rfl⟩ | exact ⟨_, Below.refl _ _, rfl, .inr rfl⟩) (by first | exact .inl ⟨rfl, rfl, rfl⟩ | exact .inr ⟨rfl, rfl, rfl⟩)).mono ?_; rintro e w' ⟨rfl, hS2⟩)
                         | (go_at_call 20; refine (CH.out _ (by assumption)).mono ?_; rintro e w' ⟨rfl, hS2⟩)
                         | (go_at_call 14; refine (CP.out _ (by assumption)).mono ?_; rintro e w' ⟨rfl, hS2⟩))) | fail
      all_goals
        go_wp2_with fail
        go_ret
        exact ⟨rbool HRR.out, by assumption⟩
    | false =>
      have HRR := Lib.hid (HR0.out rfl)
      go_enter Try.func11, Try.ntmps11
      go_wp2_with fail
      first | (go_region_held3 (fun w' => Below w.heap.size w w')
                  ((first | exact hSS | assumption | exact below_al (by assumption) _ (Nat.le_refl _)))
                  (first | (go_at_call 15; refine (CM.out _ _ _ _ _ (by first | exact ⟨_, by assumption, rfl, .inl rfl⟩ | exact ⟨_, Below.refl _ _, rfl, .inr rfl⟩) (by first | exact .inl ⟨rfl, rfl, rfl⟩ | exact .inr ⟨rfl, rfl, rfl⟩)).mono ?_; rintro e w' ⟨rfl, hS2⟩)
                         | (go_at_call 20; refine (CH.out _ (by assumption)).mono ?_; rintro e w' ⟨rfl, hS2⟩))) | fail
      all_goals
        go_wp2_with fail
        go_ret
        exact ⟨rbool HRR.out.symm, by assumption⟩
end Go.Proofs.Ytjcaadihkbhlhaa
