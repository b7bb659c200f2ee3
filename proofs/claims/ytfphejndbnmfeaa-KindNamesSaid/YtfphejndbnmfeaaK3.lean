import Derived.Test.YtfphejndbnmfeaaK2
namespace Go.Proofs.Ytfphejndbnmfeaa
open Go.RowKit

def intS : ByteArray := ⟨#[73, 110, 116]⟩
theorem ref_any (a : Option Addr) (len cap : Nat) (w : World) :
    Calls Try.prog 5 #[.slice a len cap] w fun e w' => e = .returned (refV intS a len cap) ∧ Below w.heap.size w w' := by
  have hA : (w.alloc (.cells #[.string ⟨#[73, 110, 116]⟩, .slice a len cap] 36)).heap[w.heap.size]? = some (.cells #[.string ⟨#[73, 110, 116]⟩, .slice a len cap] 36) := heap_alloc_new w _
  have HA := Lib.hid hA
  clear hA
  unfold refV intS
  go_enter Try.func5, Try.ntmps5
  go_wp2_with fail
  exact ret_row Try.results5 rfl HA.out rfl ⟨rfl, (Below.refl _ w).alloc (Nat.le_refl _) _⟩
theorem view_nil (w : World) : View w none 0 [] := ⟨rfl, fun k hk => absurd hk (Nat.not_lt_zero k)⟩
theorem view_lit (w : World) (L : List Int) (cs : Array Value) (h : cs = (L.map (Value.int .u8)).toArray) : View (w.alloc (.cells cs 5)) (some ⟨w.heap.size, 0, none⟩) L.length L := by
  refine ⟨rfl, fun k hk => ⟨w.heap.size, 0, rfl, by simp, ?_⟩⟩
  subst h
  simp only [World.cell?, heap_alloc_new, Nat.zero_add]
  simp [hk, List.getD]
theorem f1 : fits intS [1] intS [] = true := by decide +kernel
theorem f2 : fits intS [] intS [1] = false := by decide +kernel
theorem f3 : fits intS [1, 2, 1] intS [2] = true := by decide +kernel
theorem f4 : fits intS [] intS [2] = false := by decide +kernel
theorem alive_true (w : World) :
    Calls Try.prog 7 #[] w fun e w' => e = .returned (.bool true) ∧ Below w.heap.size w w' := by
  go_enter Try.func7, Try.ntmps7
  go_wp2_with fail
  have Va : Hid (View (w.alloc (.cells #[.int .u8 1] 5)) (some ⟨w.heap.size, 0, none⟩) 1 [1]) := Lib.hid (view_lit w [1] #[.int .u8 1] rfl)
  refine (ref_any _ _ _ _).mono ?_
  rintro e w1 ⟨rfl, b1⟩
  have Vaw1 : Hid (View w1 (some ⟨w.heap.size, 0, none⟩) 1 [1]) := Lib.hid (Va.out.below b1)
  have BLw1 : Hid (Below w.heap.size w w1) := Lib.hid (((Below.refl _ w).alloc (Nat.le_refl _) _).trans (b1.mono (by have := Nat.le_refl w.heap.size; simp <;> omega)))
  clear b1
  go_wp2_with fail
  refine (ref_any none 0 0 _).mono ?_
  rintro e w2 ⟨rfl, b2⟩
  have Vaw2 : Hid (View w2 (some ⟨w.heap.size, 0, none⟩) 1 [1]) := Lib.hid (Vaw1.out.below b2)
  have BLw2 : Hid (Below w.heap.size w w2) := Lib.hid (BLw1.out.trans (b2.mono BLw1.out.size))
  clear b2
  go_wp2_with fail
  refine (fits_any intS intS (some ⟨w.heap.size, 0, none⟩) none 1 1 0 0 [1] [] _ Vaw2.out (view_nil w2) (Nat.le_refl _) (Nat.le_refl _)).mono ?_
  rintro e w3 ⟨rfl, b3⟩
  rw [f1]
  have BLw3 : Hid (Below w.heap.size w w3) := Lib.hid (BLw2.out.trans (b3.mono BLw2.out.size))
  clear b3
  go_wp2_with fail
  refine (ref_any none 0 0 _).mono ?_
  rintro e w4 ⟨rfl, b4⟩
  have BLw4 : Hid (Below w.heap.size w w4) := Lib.hid (BLw3.out.trans (b4.mono BLw3.out.size))
  clear b4
  go_wp2_with fail
  have Vb : Hid (View (w4.alloc (.cells #[.int .u8 1] 5)) (some ⟨w4.heap.size, 0, none⟩) 1 [1]) := Lib.hid (view_lit w4 [1] #[.int .u8 1] rfl)
  refine (ref_any _ _ _ _).mono ?_
  rintro e w5 ⟨rfl, b5⟩
  have Vbw5 : Hid (View w5 (some ⟨w4.heap.size, 0, none⟩) 1 [1]) := Lib.hid (Vb.out.below b5)
  have BLw5 : Hid (Below w.heap.size w w5) := Lib.hid ((BLw4.out.alloc BLw4.out.size _).trans (b5.mono (by have := BLw4.out.size; simp <;> omega)))
  clear b5
  go_wp2_with fail
  refine (fits_any intS intS none (some ⟨w4.heap.size, 0, none⟩) 0 0 1 1 [] [1] _ (view_nil w5) Vbw5.out (Nat.le_refl _) (Nat.le_refl _)).mono ?_
  rintro e w6 ⟨rfl, b6⟩
  rw [f2]
  have BLw6 : Hid (Below w.heap.size w w6) := Lib.hid (BLw5.out.trans (b6.mono BLw5.out.size))
  clear b6
  go_wp2_with fail
  have Vc : Hid (View (w6.alloc (.cells #[.int .u8 1, .int .u8 2, .int .u8 1] 5)) (some ⟨w6.heap.size, 0, none⟩) 3 [1, 2, 1]) := Lib.hid (view_lit w6 [1, 2, 1] #[.int .u8 1, .int .u8 2, .int .u8 1] rfl)
  refine (ref_any _ _ _ _).mono ?_
  rintro e w7 ⟨rfl, b7⟩
  have Vcw7 : Hid (View w7 (some ⟨w6.heap.size, 0, none⟩) 3 [1, 2, 1]) := Lib.hid (Vc.out.below b7)
  have BLw7 : Hid (Below w.heap.size w w7) := Lib.hid ((BLw6.out.alloc BLw6.out.size _).trans (b7.mono (by have := BLw6.out.size; simp <;> omega)))
  clear b7
  go_wp2_with fail
  have Vd : Hid (View (w7.alloc (.cells #[.int .u8 2] 5)) (some ⟨w7.heap.size, 0, none⟩) 1 [2]) := Lib.hid (view_lit w7 [2] #[.int .u8 2] rfl)
  refine (ref_any _ _ _ _).mono ?_
  rintro e w8 ⟨rfl, b8⟩
  have Vdw8 : Hid (View w8 (some ⟨w7.heap.size, 0, none⟩) 1 [2]) := Lib.hid (Vd.out.below b8)
  have Vcw8 : Hid (View w8 (some ⟨w6.heap.size, 0, none⟩) 3 [1, 2, 1]) := Lib.hid ((Vcw7.out.below ((Below.refl _ _).alloc (Nat.le_refl _) _)).below b8)
  have BLw8 : Hid (Below w.heap.size w w8) := Lib.hid ((BLw7.out.alloc BLw7.out.size _).trans (b8.mono (by have := BLw7.out.size; simp <;> omega)))
  clear b8
  go_wp2_with fail
  refine (fits_any intS intS (some ⟨w6.heap.size, 0, none⟩) (some ⟨w7.heap.size, 0, none⟩) 3 3 1 1 [1, 2, 1] [2] _ Vcw8.out Vdw8.out (Nat.le_refl _) (Nat.le_refl _)).mono ?_
  rintro e w9 ⟨rfl, b9⟩
  rw [f3]
  have BLw9 : Hid (Below w.heap.size w w9) := Lib.hid (BLw8.out.trans (b9.mono BLw8.out.size))
  clear b9
  go_wp2_with fail
  refine (ref_any none 0 0 _).mono ?_
  rintro e w10 ⟨rfl, b10⟩
  have BLw10 : Hid (Below w.heap.size w w10) := Lib.hid (BLw9.out.trans (b10.mono BLw9.out.size))
  clear b10
  go_wp2_with fail
  have Ve : Hid (View (w10.alloc (.cells #[.int .u8 2] 5)) (some ⟨w10.heap.size, 0, none⟩) 1 [2]) := Lib.hid (view_lit w10 [2] #[.int .u8 2] rfl)
  refine (ref_any _ _ _ _).mono ?_
  rintro e w11 ⟨rfl, b11⟩
  have Vew11 : Hid (View w11 (some ⟨w10.heap.size, 0, none⟩) 1 [2]) := Lib.hid (Ve.out.below b11)
  have BLw11 : Hid (Below w.heap.size w w11) := Lib.hid ((BLw10.out.alloc BLw10.out.size _).trans (b11.mono (by have := BLw10.out.size; simp <;> omega)))
  clear b11
  go_wp2_with fail
  refine (fits_any intS intS none (some ⟨w10.heap.size, 0, none⟩) 0 0 1 1 [] [2] _ (view_nil w11) Vew11.out (Nat.le_refl _) (Nat.le_refl _)).mono ?_
  rintro e w12 ⟨rfl, b12⟩
  rw [f4]
  have BLw12 : Hid (Below w.heap.size w w12) := Lib.hid (BLw11.out.trans (b12.mono BLw11.out.size))
  clear b12
  go_wp2_with fail
  go_ret
  exact ⟨rfl, BLw12.out⟩
end Go.Proofs.Ytfphejndbnmfeaa
