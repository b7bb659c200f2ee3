import Derived.Test.YtjcaadihkbhlhaaDoorI2
namespace Go.Proofs.YtjcaadihkbhlhaaDoor
open Go.RowKit
theorem ad_of (t s u h p a q : ByteArray) (hu hq : Bool) (ho : okP t = true) (e1 : scS t = s) (e2 : usU (r1S t) = u) (e3 : mk (ch (r2U (r1S t))).1 = h) (e4 : mk (ch (r2U (r1S t))).2.1 = p) (e5 : mk (cq (r2U (r1S t))).1 = a) (e6 : mk (cq (r2U (r1S t))).2.1 = q) (e7 : huU (r1S t) = hu) (e8 : (cq (r2U (r1S t))).2.2 = hq) : adP t = adV s u h p a q hu hq := by
  unfold adP
  rw [ho, e1, e2, e3, e4, e5, e6, e7, e8]
  rfl
theorem x0_ok : okP ⟨#[72, 84, 84, 80, 58, 47, 47, 69, 120, 37, 52, 49, 109, 112, 108, 101, 46, 99, 111, 109, 58, 47, 37, 55, 101, 97, 63, 98, 61, 37, 50, 102]⟩ = true := by decide +kernel
theorem x0_ad : adP ⟨#[72, 84, 84, 80, 58, 47, 47, 69, 120, 37, 52, 49, 109, 112, 108, 101, 46, 99, 111, 109, 58, 47, 37, 55, 101, 97, 63, 98, 61, 37, 50, 102]⟩ = adV ⟨#[72, 84, 84, 80]⟩ ⟨#[]⟩ ⟨#[69, 120, 37, 52, 49, 109, 112, 108, 101, 46, 99, 111, 109]⟩ ⟨#[]⟩ ⟨#[47, 37, 55, 101, 97]⟩ ⟨#[98, 61, 37, 50, 102]⟩ false true :=
  ad_of _ ⟨#[72, 84, 84, 80]⟩ ⟨#[]⟩ ⟨#[69, 120, 37, 52, 49, 109, 112, 108, 101, 46, 99, 111, 109]⟩ ⟨#[]⟩ ⟨#[47, 37, 55, 101, 97]⟩ ⟨#[98, 61, 37, 50, 102]⟩ false true x0_ok (by decide +kernel) (by decide +kernel) (by decide +kernel) (by decide +kernel) (by decide +kernel) (by decide +kernel) (by decide +kernel) (by decide +kernel)
theorem t1_ok : okP ⟨#[97, 58, 47, 47, 117, 58, 112, 64, 104, 58, 56, 48]⟩ = true := by decide +kernel
theorem t1_ad : adP ⟨#[97, 58, 47, 47, 117, 58, 112, 64, 104, 58, 56, 48]⟩ = adV ⟨#[97]⟩ ⟨#[117, 58, 112]⟩ ⟨#[104]⟩ ⟨#[56, 48]⟩ ⟨#[]⟩ ⟨#[]⟩ true false :=
  ad_of _ ⟨#[97]⟩ ⟨#[117, 58, 112]⟩ ⟨#[104]⟩ ⟨#[56, 48]⟩ ⟨#[]⟩ ⟨#[]⟩ true false t1_ok (by decide +kernel) (by decide +kernel) (by decide +kernel) (by decide +kernel) (by decide +kernel) (by decide +kernel) (by decide +kernel) (by decide +kernel)
theorem t2_ok : okP ⟨#[102, 105, 108, 101, 58, 47, 47, 47, 120]⟩ = true := by decide +kernel
theorem t2_ad : adP ⟨#[102, 105, 108, 101, 58, 47, 47, 47, 120]⟩ = adV ⟨#[102, 105, 108, 101]⟩ ⟨#[]⟩ ⟨#[]⟩ ⟨#[]⟩ ⟨#[47, 120]⟩ ⟨#[]⟩ false false :=
  ad_of _ ⟨#[102, 105, 108, 101]⟩ ⟨#[]⟩ ⟨#[]⟩ ⟨#[]⟩ ⟨#[47, 120]⟩ ⟨#[]⟩ false false t2_ok (by decide +kernel) (by decide +kernel) (by decide +kernel) (by decide +kernel) (by decide +kernel) (by decide +kernel) (by decide +kernel) (by decide +kernel)
theorem t3_ok : okP ⟨#[120, 58, 47, 47]⟩ = true := by decide +kernel
theorem t3_ad : adP ⟨#[120, 58, 47, 47]⟩ = adV ⟨#[120]⟩ ⟨#[]⟩ ⟨#[]⟩ ⟨#[]⟩ ⟨#[]⟩ ⟨#[]⟩ false false :=
  ad_of _ ⟨#[120]⟩ ⟨#[]⟩ ⟨#[]⟩ ⟨#[]⟩ ⟨#[]⟩ ⟨#[]⟩ false false t3_ok (by decide +kernel) (by decide +kernel) (by decide +kernel) (by decide +kernel) (by decide +kernel) (by decide +kernel) (by decide +kernel) (by decide +kernel)
theorem n0_no : okP ⟨#[47, 47, 104]⟩ = false := by decide +kernel
theorem n1_no : okP ⟨#[49, 97, 58, 47, 47, 104]⟩ = false := by decide +kernel
theorem n2_no : okP ⟨#[97, 58, 98]⟩ = false := by decide +kernel
theorem n3_no : okP ⟨#[97, 58, 47, 47, 104, 47, 35, 102]⟩ = false := by decide +kernel
theorem n4_no : okP ⟨#[97, 58, 47, 47, 91, 58, 58, 49, 93]⟩ = false := by decide +kernel
theorem n5_no : okP ⟨#[97, 58, 47, 47, 104, 58, 56, 120]⟩ = false := by decide +kernel
theorem n6_no : okP ⟨#[97, 58, 47, 47, 37, 52]⟩ = false := by decide +kernel
theorem n7_no : okP ⟨#[]⟩ = false := by decide +kernel
theorem canon_ex (w : World) (hm : ML w) : Calls Tryd.prog 12 #[.string ⟨#[72, 84, 84, 80, 58, 47, 47, 69, 120, 37, 52, 49, 109, 112, 108, 101, 46, 99, 111, 109, 58, 47, 37, 55, 101, 97, 63, 98, 61, 37, 50, 102]⟩] w fun e w' => e = .returned (.tuple #[.string ⟨#[104, 116, 116, 112, 58, 47, 47, 101, 120, 97, 109, 112, 108, 101, 46, 99, 111, 109, 47, 126, 97, 63, 98, 61, 37, 50, 70]⟩, .int .i64 0]) ∧ Below w.heap.size w w' := by
  obtain ⟨m, hm⟩ := hm
  have K := canon_yes ⟨#[72, 84, 84, 80, 58, 47, 47, 69, 120, 37, 52, 49, 109, 112, 108, 101, 46, 99, 111, 109, 58, 47, 37, 55, 101, 97, 63, 98, 61, 37, 50, 102]⟩ m w hm x0_ok
  rw [show canS ⟨#[72, 84, 84, 80, 58, 47, 47, 69, 120, 37, 52, 49, 109, 112, 108, 101, 46, 99, 111, 109, 58, 47, 37, 55, 101, 97, 63, 98, 61, 37, 50, 102]⟩ = ⟨#[104, 116, 116, 112, 58, 47, 47, 101, 120, 97, 109, 112, 108, 101, 46, 99, 111, 109, 47, 126, 97, 63, 98, 61, 37, 50, 70]⟩ from ex_can] at K
  exact K
set_option maxRecDepth 20000 in
set_option maxHeartbeats 1000000 in
theorem alive_true (w : World) (hm : ML w) : Calls Tryd.prog 9 #[] w fun e w' => e = .returned (.bool true) ∧ Below w.heap.size w w' := by
  have HC := Lib.hid (canon_ex w hm)
  have HT := Lib.hid (fun W (hb : Below w.heap.size w W) => tells_true ⟨#[72, 84, 84, 80, 58, 47, 47, 69, 120, 37, 52, 49, 109, 112, 108, 101, 46, 99, 111, 109, 58, 47, 37, 55, 101, 97, 63, 98, 61, 37, 50, 102]⟩ ⟨#[72, 84, 84, 80]⟩ ⟨#[]⟩ ⟨#[69, 120, 37, 52, 49, 109, 112, 108, 101, 46, 99, 111, 109]⟩ ⟨#[]⟩ ⟨#[47, 37, 55, 101, 97]⟩ ⟨#[98, 61, 37, 50, 102]⟩ false true x0_ok x0_ad W (hm.below hb))
  unfold adV at HT
  clear hm
  go_enter Tryd.func9, Tryd.ntmps9
  go_wp2_with fail
  with_reducible refine HC.out.mono ?_
  rintro e w1 ⟨rfl, b1⟩
  have B1 := Lib.hid b1
  clear b1
  go_wp2_with fail
  have K := HT.out _ B1.out
  with_reducible refine K.mono ?_
  rintro e w2 ⟨rfl, b2⟩
  have B2 := Lib.hid (B1.out.trans (b2.mono B1.out.size))
  clear b2 B1 K
  go_wp2_with fail
  go_ret
  exact ⟨rfl, B2.out⟩
set_option maxRecDepth 20000 in
set_option maxHeartbeats 2000000 in
theorem names_true (w : World) (hm : ML w) : Calls Tryd.prog 3 #[] w fun e w' => e = .returned (.bool true) ∧ Below w.heap.size w w' := by
  have HM := Lib.hid (fun W (hb : Below w.heap.size w W) => hm.below hb)
  have B0 := Lib.hid (Below.refl w.heap.size w)
  clear hm
  go_enter Tryd.func3, Tryd.ntmps3
  go_wp2_with fail
  have K := (tells_true ⟨#[97, 58, 47, 47, 117, 58, 112, 64, 104, 58, 56, 48]⟩ ⟨#[97]⟩ ⟨#[117, 58, 112]⟩ ⟨#[104]⟩ ⟨#[56, 48]⟩ ⟨#[]⟩ ⟨#[]⟩ true false t1_ok t1_ad _ (HM.out _ B0.out))
  unfold adV at K
  with_reducible refine K.mono ?_
  rintro e w1 ⟨rfl, b1⟩
  have B1 := Lib.hid (B0.out.trans (b1.mono B0.out.size))
  clear b1 B0 K
  go_wp2_with fail
  have K := (tells_true ⟨#[102, 105, 108, 101, 58, 47, 47, 47, 120]⟩ ⟨#[102, 105, 108, 101]⟩ ⟨#[]⟩ ⟨#[]⟩ ⟨#[]⟩ ⟨#[47, 120]⟩ ⟨#[]⟩ false false t2_ok t2_ad _ (HM.out _ B1.out))
  unfold adV at K
  with_reducible refine K.mono ?_
  rintro e w2 ⟨rfl, b2⟩
  have B2 := Lib.hid (B1.out.trans (b2.mono B1.out.size))
  clear b2 B1 K
  go_wp2_with fail
  have K := (tells_true ⟨#[120, 58, 47, 47]⟩ ⟨#[120]⟩ ⟨#[]⟩ ⟨#[]⟩ ⟨#[]⟩ ⟨#[]⟩ ⟨#[]⟩ false false t3_ok t3_ad _ (HM.out _ B2.out))
  unfold adV at K
  with_reducible refine K.mono ?_
  rintro e w3 ⟨rfl, b3⟩
  have B3 := Lib.hid (B2.out.trans (b3.mono B2.out.size))
  clear b3 B2 K
  go_wp2_with fail
  have K := none_true ⟨#[47, 47, 104]⟩ n0_no _ (HM.out _ B3.out)
  with_reducible refine K.mono ?_
  rintro e w4 ⟨rfl, b4⟩
  have B4 := Lib.hid (B3.out.trans (b4.mono B3.out.size))
  clear b4 B3 K
  go_wp2_with fail
  have K := none_true ⟨#[49, 97, 58, 47, 47, 104]⟩ n1_no _ (HM.out _ B4.out)
  with_reducible refine K.mono ?_
  rintro e w5 ⟨rfl, b5⟩
  have B5 := Lib.hid (B4.out.trans (b5.mono B4.out.size))
  clear b5 B4 K
  go_wp2_with fail
  have K := none_true ⟨#[97, 58, 98]⟩ n2_no _ (HM.out _ B5.out)
  with_reducible refine K.mono ?_
  rintro e w6 ⟨rfl, b6⟩
  have B6 := Lib.hid (B5.out.trans (b6.mono B5.out.size))
  clear b6 B5 K
  go_wp2_with fail
  have K := none_true ⟨#[97, 58, 47, 47, 104, 47, 35, 102]⟩ n3_no _ (HM.out _ B6.out)
  with_reducible refine K.mono ?_
  rintro e w7 ⟨rfl, b7⟩
  have B7 := Lib.hid (B6.out.trans (b7.mono B6.out.size))
  clear b7 B6 K
  go_wp2_with fail
  have K := none_true ⟨#[97, 58, 47, 47, 91, 58, 58, 49, 93]⟩ n4_no _ (HM.out _ B7.out)
  with_reducible refine K.mono ?_
  rintro e w8 ⟨rfl, b8⟩
  have B8 := Lib.hid (B7.out.trans (b8.mono B7.out.size))
  clear b8 B7 K
  go_wp2_with fail
  have K := none_true ⟨#[97, 58, 47, 47, 104, 58, 56, 120]⟩ n5_no _ (HM.out _ B8.out)
  with_reducible refine K.mono ?_
  rintro e w9 ⟨rfl, b9⟩
  have B9 := Lib.hid (B8.out.trans (b9.mono B8.out.size))
  clear b9 B8 K
  go_wp2_with fail
  have K := none_true ⟨#[97, 58, 47, 47, 37, 52]⟩ n6_no _ (HM.out _ B9.out)
  with_reducible refine K.mono ?_
  rintro e w10 ⟨rfl, b10⟩
  have B10 := Lib.hid (B9.out.trans (b10.mono B9.out.size))
  clear b10 B9 K
  go_wp2_with fail
  have K := none_true ⟨#[]⟩ n7_no _ (HM.out _ B10.out)
  with_reducible refine K.mono ?_
  rintro e w11 ⟨rfl, b11⟩
  have B11 := Lib.hid (B10.out.trans (b11.mono B10.out.size))
  clear b11 B10 K
  go_wp2_with fail
  have K := alive_true _ (HM.out _ B11.out)
  with_reducible refine K.mono ?_
  rintro e w12 ⟨rfl, b12⟩
  have B12 := Lib.hid (B11.out.trans (b12.mono B11.out.size))
  clear b12 B11 K
  go_wp2_with fail
  go_ret
  exact ⟨rfl, B12.out⟩
end Go.Proofs.YtjcaadihkbhlhaaDoor
