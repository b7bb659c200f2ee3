import Derived.Test.YtfphejndbnmfeabK8
namespace Go.Proofs.Ytfphejndbnmfeab
open Go.RowKit

theorem bareL_len (L : List Int) : (bareL L).length ≤ L.length := by unfold bareL; split <;> simp
set_option maxRecDepth 10000 in
theorem Bare_any (nm : ByteArray) (a : Option Addr) (len cap : Nat) (L : List Int) (w : World) (hv : View w a len L) (hc : len ≤ cap) (hm : len ≤ 1000) :
    Calls Try.prog 14 #[refV nm a len cap] w fun e w' => ∃ v, e = .returned v ∧ IsRef w' nm (bareL L) v ∧ Below w.heap.size w w' := by
  have hx2 : Box ((w.alloc (.cells #[.string nm, .slice a len cap] 25)).alloc (.cells #[.string ⟨#[]⟩, .slice none 0 0] 25)) (w.heap.size + 1) ⟨#[]⟩ none 0 0 := by
    have h := heap_alloc_new (w.alloc (.cells #[.string nm, .slice a len cap] 25)) (.cells #[.string ⟨#[]⟩, .slice none 0 0] 25)
    unfold Box; simpa using h
  have hbl : Below w.heap.size w ((w.alloc (.cells #[.string nm, .slice a len cap] 25)).alloc (.cells #[.string ⟨#[]⟩, .slice none 0 0] 25)) := ((Below.refl _ w).alloc (Nat.le_refl _) _).alloc (by simp) _
  have HV := Lib.hid hv
  have HM : Hid (len ≤ 1000) := Lib.hid hm
  have HC := Lib.hid hc
  have X2 := Lib.hid hx2
  have BL := Lib.hid hbl
  clear hx2 hbl hv hm hc
  unfold refV
  go_enter Try.func14, Try.ntmps14
  go_wp2_with fail
  refine (bare_any nm a len cap L _ (HV.out.below BL.out) HC.out).mono ?_
  rintro e w1 ⟨v1, rfl, hr1, b1⟩
  obtain ⟨a1, l1, c1, rfl, hv1, hc1⟩ := hr1
  have X21 := Lib.hid (X2.out.up b1)
  have BL1 : Hid (Below w.heap.size w w1) := Lib.hid (BL.out.trans (b1.mono BL.out.size))
  have HV1 := Lib.hid (hv1.below b1)
  clear b1 hv1
  go_wp2_with fail
  refine (twin_any nm a1 l1 c1 (bareL L) _ HV1.out (by have := HV1.out.1; have := HV.out.1; have := bareL_len L; have := HM.out; omega)).mono ?_
  rintro e w2 ⟨v2, rfl, hr2, b2⟩
  obtain ⟨a2, l2, c2, rfl, hv2, hc2⟩ := hr2
  have hx2 := X21.out.up b2
  have d0 := hx2.c0
  have d1 := hx2.c1
  have f0 := hx2.fz 0
  have f1 := hx2.fz 1
  have X22 := Lib.hid hx2
  have BL2 : Hid (Below w.heap.size w w2) := Lib.hid (BL1.out.trans (b2.mono BL1.out.size))
  have HV2 := Lib.hid hv2
  clear b2 hx2 hv2
  unfold refV
  go_wp2_with fail
  exact ret_row Try.results14 rfl (X22.out.set _ _ _ _) rfl ⟨_, rfl, ⟨a2, l2, c2, rfl, view_set HV2.out X22.out _ _, hc2⟩, below_set BL2.out (Nat.le_succ _) _ _⟩

set_option maxRecDepth 10000 in
theorem same_any (nm : ByteArray) (a b : Option Addr) (l c l' c' : Nat) (L : List Int) (w : World) (hv : View w a l L) (hv' : View w b l' L) (hr : ∀ x ∈ L, 0 ≤ x ∧ x < 256) :
    Calls Try.prog 15 #[refV nm a l c, refV nm b l' c'] w fun e w' => e = .returned (.bool true) ∧ Below w.heap.size w w' := by
  have hbl : Below w.heap.size w ((w.alloc (.cells #[.string nm, .slice a l c] 25)).alloc (.cells #[.string nm, .slice b l' c'] 25)) := ((Below.refl _ w).alloc (Nat.le_refl _) _).alloc (by simp) _
  have s1 := view_string (c := c) (hv.below hbl) hr
  have s2 := view_string (c := c') (hv'.below hbl) hr
  obtain ⟨S, hS⟩ : ∃ S : ByteArray, S = ⟨(bytesL L).toArray⟩ := ⟨_, rfl⟩
  rw [← hS] at s1 s2
  have BL := Lib.hid hbl
  clear hv hv' hr hbl hS
  unfold refV
  go_enter Try.func15, Try.ntmps15
  go_wp2_with fail
  go_ret
  exact ⟨rfl, BL.out⟩
end Go.Proofs.Ytfphejndbnmfeab
