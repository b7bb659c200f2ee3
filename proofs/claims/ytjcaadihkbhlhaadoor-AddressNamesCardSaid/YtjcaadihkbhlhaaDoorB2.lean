import Derived.Test.YtjcaadihkbhlhaaDoorB0
namespace Go.Proofs.YtjcaadihkbhlhaaDoor
open Go.RowKit
theorem del_set (x : ByteArray) (b : UInt8) : (flat (base4 ++ (base1 ++ [x]))).contains b = mayB x.data.toList b := by
  rw [flat_app, flat_app, flat_base4, flat_base1, ← List.append_assoc, show flat [x] = x.data.toList by simp [flat]]
  exact may_set _ b
theorem del_set0 (b : UInt8) : (flat (base4 ++ base1)).contains b = mayB [] b := by
  rw [flat_app, flat_base4, flat_base1]
  have := may_set [] b
  rwa [List.append_nil] at this
set_option maxRecDepth 20000 in
set_option maxHeartbeats 2000000 in
theorem isPath_any (s : ByteArray) (hs : s.size ≤ 1000000) (w : World) : Calls Tryd.prog 40 #[.string s] w fun e w' => e = .returned (.bool (pathP s.data.toList)) ∧ Below w.heap.size w w' := by
  have hSS : Below w.heap.size w w.drew := (Below.refl _ _).drew
  by_cases h0 : s.size = 0
  · have hnil : s.toList = [] := by rw [ByteArray.toList_eq, text_nil h0]
    have HPF : Hid (pathP s.data.toList = true) := Lib.hid (by rw [text_nil h0]; rfl)
    clear h0 hs
    go_enter Tryd.func40, Tryd.ntmps40
    go_wp2_with fail
    go_ret
    exact ⟨rbool HPF.out.symm, Below.refl _ _⟩
  · have hpos : 0 < s.size := by omega
    have hne := text_ne hpos
    have hie : s.toList.isEmpty = false := by cases e : s.toList with
      | nil => exact absurd e hne
      | cons _ _ => rfl
    have HP : Hid (pathP s.data.toList = (s[0] == 47 && ofP (mayB [58, 64, 47]) s.data.toList)) := Lib.hid (by
      have := drop_at s 0 hpos
      rw [List.drop_zero] at this
      rw [this]; rfl)
    have M1 := Lib.hid (fun W => del_lit #[.string ⟨#[58, 64, 47]⟩] [⟨#[58, 64, 47]⟩] rfl (by decide) (by decide) (by decide) W)
    have IOF := Lib.hid (fun W => isOf_any s (flat (base4 ++ (base1 ++ [⟨#[58, 64, 47]⟩]))) (mayB [58, 64, 47]) (del_set ⟨#[58, 64, 47]⟩) hs W)
    unfold setV setC at M1 IOF
    obtain ⟨a0, ha0⟩ : ∃ a : Int, a = ((wd (flat (base4 ++ (base1 ++ [⟨#[58, 64, 47]⟩]))) 0 : Nat) : Int) := ⟨_, rfl⟩
    obtain ⟨a1, ha1⟩ : ∃ a : Int, a = ((wd (flat (base4 ++ (base1 ++ [⟨#[58, 64, 47]⟩]))) 1 : Nat) : Int) := ⟨_, rfl⟩
    obtain ⟨a2, ha2⟩ : ∃ a : Int, a = ((wd (flat (base4 ++ (base1 ++ [⟨#[58, 64, 47]⟩]))) 2 : Nat) : Int) := ⟨_, rfl⟩
    obtain ⟨a3, ha3⟩ : ∃ a : Int, a = ((wd (flat (base4 ++ (base1 ++ [⟨#[58, 64, 47]⟩]))) 3 : Nat) : Int) := ⟨_, rfl⟩
    rw [← ha0, ← ha1, ← ha2, ← ha3] at M1 IOF
    clear ha0 ha1 ha2 ha3
    obtain ⟨b, hb⟩ : ∃ b, b = s[0] := ⟨_, rfl⟩
    rw [← hb] at HP
    have k0 : ∀ q : 0 < s.size, (s[0].toNat : Int) = (b.toNat : Nat) := fun q => by rw [hb]
    clear hb
    have C1 : Hid (∀ W, Below w.heap.size w W → Calls Tryd.prog 37 #[.slice (some ⟨W.heap.size, 0, none⟩) 1 1] (W.alloc (.cells #[.string ⟨#[58, 64, 47]⟩] 9)) fun e w' => e = .returned (.agg #[.int .u64 a0, .int .u64 a1, .int .u64 a2, .int .u64 a3]) ∧ Below w.heap.size w w') :=
      Lib.hid (fun W h => (M1.out W).mono fun e w' z => ⟨z.1, h.trans (z.2.mono h.size)⟩)
    have CP : Hid (∀ W, Below w.heap.size w W → Calls Tryd.prog 36 #[.string s, (.agg #[.int .u64 a0, .int .u64 a1, .int .u64 a2, .int .u64 a3])] W fun e w' => e = .returned (.bool (ofP (mayB [58, 64, 47]) s.data.toList)) ∧ Below w.heap.size w w') :=
      Lib.hid (fun W h => (IOF.out W).mono fun e w' z => ⟨z.1, h.trans (z.2.mono h.size)⟩)
    obtain ⟨r, hr⟩ : ∃ g, g = ofP (mayB [58, 64, 47]) s.data.toList := ⟨_, rfl⟩
    rw [← hr] at CP HP
    clear hr M1 IOF
    by_cases h47 : b.toNat = 47
    · have h47' : (b.toNat : Int) = 47 := by omega
      have e47 : (b == 47) = true := by rw [beq_iff_eq]; exact UInt8.toNat_inj.1 h47
      rw [e47, Bool.true_and] at HP
      clear e47 h47
      go_enter Tryd.func40, Tryd.ntmps40
      go_wp2_with fail
      refine (C1.out w (Below.refl _ _)).mono ?_
      rintro e w1 ⟨rfl, b1⟩
      go_wp2_with fail
      refine (CP.out _ b1).mono ?_
      rintro e w2 ⟨rfl, b2⟩
      go_wp2_with fail
      go_ret
      exact ⟨rbool HP.out.symm, b2⟩
    · have h47' : ¬ (b.toNat : Int) = 47 := by omega
      have e47 : (b == 47) = false := by rw [beq_eq_false_iff_ne]; intro e; exact h47 (by rw [e]; rfl)
      rw [e47, Bool.false_and] at HP
      clear e47 h47
      go_enter Tryd.func40, Tryd.ntmps40
      go_wp2_with fail
      go_ret
      exact ⟨rbool HP.out.symm, Below.refl _ _⟩
end Go.Proofs.YtjcaadihkbhlhaaDoor
