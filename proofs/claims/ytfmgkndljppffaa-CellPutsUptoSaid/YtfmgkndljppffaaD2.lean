/- Layer 3: alive. -/
import Derived.Test.YtfmgkndljppffaaD1
namespace Go.Proofs.Ytfmgkndljppffaa
open Go.RowKit Go.Maps
set_option maxRecDepth 20000 in
theorem ends_true (p x : Nat) (pv xv : Int) (hpv : pv = (p : Nat)) (hxv : xv = (x : Nat)) (hp : p < 5) (hx : nx (gl fiveL) 5 p = x) (w : World) : Calls Try.prog 39 #[.int .i64 pv, .int .i64 xv] w fun e w' => e = .returned (.bool true) ∧ Below w.heap.size w w' := by
  subst hpv hxv
  have HE := Lib.hid (fun a c W hv => end_ok a 5 c (gl fiveL) p W hv five_cw five_ck hp)
  rw [hx] at HE
  have HF := Lib.hid (five_any w)
  clear hp hx
  go_enter Try.func39, Try.ntmps39
  go_wp2_with fail
  with_reducible refine HF.out.mono ?_
  rintro e w1 ⟨a, c, rfl, hv, b1⟩
  have V1 := Lib.hid hv
  have B1 := Lib.hid b1
  clear hv b1
  go_wp2_with fail
  with_reducible refine (HE.out a c w1 V1.out).mono ?_
  rintro e w2 ⟨rfl, b2⟩
  have B2 := Lib.hid (B1.out.trans (b2.mono B1.out.size))
  clear b2 B1
  go_wp2_with fail
  go_ret
  exact ⟨rfl, B2.out⟩
theorem kids5 (p m : Nat) (pv : Int) (hpv : pv = (p : Nat)) (a : Option Addr) (c : Nat) (hp : p < 5) (hm : (gl fiveL p).m.toNat = m) (w : World) (hv : CV w a 5 (gl fiveL)) : Calls Try.prog 8 #[.slice a 5 c, .int .i64 pv] w fun r w' => ∃ ad c', r = .returned (.tuple #[.slice ad m c', .int .i64 0]) ∧ IV w' ad m (bd (gl fiveL) 5 (p + 1)) ∧ Below w.heap.size w w' := by
  subst hpv
  refine (kids_ok a 5 c (gl fiveL) p w hv five_cw five_ck hp).mono ?_
  rintro e w' ⟨ad, c', rfl, h2, _, h3⟩
  rw [hm] at h2 ⊢
  exact ⟨ad, c', rfl, h2, h3⟩
theorem memb5 (s : ByteArray) (x : Option Nat) (xv : Int) (hxv : xv = (x.getD 0 : Nat)) (a : Option Addr) (c : Nat) (hx : memP (gl fiveL) 5 0 s = x) (w : World) (hv : CV w a 5 (gl fiveL)) : Calls Try.prog 10 #[.slice a 5 c, .int .i64 0, .string s] w fun r w' => r = .returned (.tuple #[.int .i64 xv, .bool x.isSome]) ∧ Below w.heap.size w w' := by
  rw [hxv, ← hx]
  exact member_any a 5 c (gl fiveL) 0 s w hv five_cw
set_option maxRecDepth 20000 in
set_option maxHeartbeats 2000000 in
theorem alive_true (w : World) : Calls Try.prog 12 #[] w fun e w' => e = .returned (.bool true) ∧ Below w.heap.size w w' := by
  have HF := Lib.hid (fun W => five_any W)
  have HK0 := Lib.hid (fun a c W hv => kids5 0 2 0 rfl a c (by decide) (by decide +kernel) W hv)
  have HK2 := Lib.hid (fun a c W hv => kids5 2 2 2 rfl a c (by decide) (by decide +kernel) W hv)
  have HM := Lib.hid (fun a c W hv => memb5 ⟨#[98]⟩ (some 2) 2 rfl a c (by decide +kernel) W hv)
  have HE0 := Lib.hid (fun W => ends_true 0 5 0 5 rfl rfl (by decide) (by decide +kernel) W)
  have HE2 := Lib.hid (fun W => ends_true 2 5 2 5 rfl rfl (by decide) (by decide +kernel) W)
  have HE1 := Lib.hid (fun W => ends_true 1 2 1 2 rfl rfl (by decide) (by decide +kernel) W)
  have F0 := Lib.hid (show bd (gl fiveL) 5 (0 + 1) 0 = 1 ∧ bd (gl fiveL) 5 (0 + 1) 1 = 2 by decide +kernel)
  have F2 := Lib.hid (show bd (gl fiveL) 5 (2 + 1) 0 = 3 ∧ bd (gl fiveL) 5 (2 + 1) 1 = 4 by decide +kernel)
  go_enter Try.func12, Try.ntmps12
  go_wp2_with fail
  with_reducible refine (HF.out _).mono ?_
  rintro e w1 ⟨a1, c1, rfl, hv, b1⟩
  have V1 := Lib.hid hv
  have B1 := Lib.hid b1
  clear hv b1
  go_wp2_with fail
  with_reducible refine (HK0.out a1 c1 w1 V1.out).mono ?_
  rintro e w2 ⟨ad1, k1, rfl, iv, b2⟩
  have I1 := Lib.hid iv
  have B2 := Lib.hid (B1.out.trans (b2.mono B1.out.size))
  clear b2 B1 iv V1 HK0
  go_wp2_with fail
  with_reducible refine (HF.out _).mono ?_
  rintro e w3 ⟨a2, c2, rfl, hv, b3⟩
  have V3 := Lib.hid hv
  have B3 := Lib.hid (B2.out.trans (b3.mono B2.out.size))
  have I3 := Lib.hid (I1.out.below b3)
  clear hv b3 B2 I1
  go_wp2_with fail
  with_reducible refine (HK2.out a2 c2 w3 V3.out).mono ?_
  rintro e w4 ⟨ad2, k2, rfl, iv, b4⟩
  have J4 := Lib.hid iv
  have B4 := Lib.hid (B3.out.trans (b4.mono B3.out.size))
  have I4 := Lib.hid (I3.out.below b4)
  clear b4 B3 iv V3 I3 HK2
  go_wp2_with fail
  with_reducible refine (HF.out _).mono ?_
  rintro e w5 ⟨a3, c3, rfl, hv, b5⟩
  have V5 := Lib.hid hv
  have B5 := Lib.hid (B4.out.trans (b5.mono B4.out.size))
  have I5 := Lib.hid (I4.out.below b5)
  have J5 := Lib.hid (J4.out.below b5)
  clear hv b5 B4 I4 J4 HF
  go_wp2_with fail
  with_reducible refine (HM.out a3 c3 w5 V5.out).mono ?_
  rintro e w6 ⟨rfl, b6⟩
  have B6 := Lib.hid (B5.out.trans (b6.mono B5.out.size))
  have I6 := Lib.hid (I5.out.below b6)
  have J6 := Lib.hid (J5.out.below b6)
  clear b6 B5 I5 J5 V5 HM
  rw [show (some 2 : Option Nat).isSome = true from rfl]
  go_wp2_with fail
  with_reducible refine (HE0.out w6).mono ?_
  rintro e w7 ⟨rfl, b7⟩
  have B7 := Lib.hid (B6.out.trans (b7.mono B6.out.size))
  have I7 := Lib.hid (I6.out.below b7)
  have J7 := Lib.hid (J6.out.below b7)
  clear b7 B6 I6 J6 HE0
  go_wp2_with fail
  with_reducible refine (HE2.out w7).mono ?_
  rintro e w8 ⟨rfl, b8⟩
  have B8 := Lib.hid (B7.out.trans (b8.mono B7.out.size))
  have I8 := Lib.hid (I7.out.below b8)
  have J8 := Lib.hid (J7.out.below b8)
  clear b8 B7 I7 J7 HE2
  go_wp2_with fail
  with_reducible refine (HE1.out w8).mono ?_
  rintro e w9 ⟨rfl, b9⟩
  have B9 := Lib.hid (B8.out.trans (b9.mono B8.out.size))
  have I9 := Lib.hid (I8.out.below b9)
  have J9 := Lib.hid (J8.out.below b9)
  clear b9 B8 I8 J8 HE1
  obtain ⟨p1, q1, rfl, _, x0⟩ := I9.out 0 (by decide)
  obtain ⟨_, _, e1, _, x1⟩ := I9.out 1 (by decide)
  cases e1
  obtain ⟨p2, q2, rfl, _, y0⟩ := J9.out 0 (by decide)
  obtain ⟨_, _, e2, _, y1⟩ := J9.out 1 (by decide)
  cases e2
  rw [F0.out.1, Nat.add_zero] at x0
  rw [F0.out.2] at x1
  rw [F2.out.1, Nat.add_zero] at y0
  rw [F2.out.2] at y1
  clear I9 J9
  go_wp2_with fail
  go_ret
  exact ⟨rfl, B9.out⟩
end Go.Proofs.Ytfmgkndljppffaa
