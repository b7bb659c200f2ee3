import Derived.Test.YtfphejndbnmfeaaDoorD22
namespace Go.Proofs.YtfphejndbnmfeaaDoor
open Go.RowKit

theorem p_none {s : ByteArray} (h : pOk s = false) : pS s = 0 ∧ pN s = 0 ∧ pE s = 120 := by
  unfold pS pN pE
  rw [h]; exact ⟨rfl, rfl, rfl⟩
set_option maxRecDepth 10000 in
theorem none_yes (t : ByteArray) (w : World) (hT : Tabs w) (ht : t.size ≤ maxLen) (h : pOk t = false) :
    Calls Tryd.prog 16 #[.string t] w fun e w' => e = .returned (.bool true) ∧ Below w.heap.size w w' := by
  obtain ⟨h1, h2, h3⟩ := p_none h
  have HP := Lib.hid (parse_t t w hT ht)
  rw [h1, h2, h3] at HP
  clear hT ht h1 h2 h3 h
  go_enter Tryd.func16, Tryd.ntmps16
  go_wp2_with fail
  refine HP.out.mono ?_
  rintro e w1 ⟨rfl, b1⟩
  have B2 : Hid (Below w.heap.size w (w1.alloc (.cells #[.int .i64 0, .int .i64 0] 23))) := Lib.hid (b1.alloc b1.size _)
  clear b1
  go_wp2_with fail
  go_ret
  exact ⟨rfl, B2.out⟩
theorem cum_more (y q : Nat) : cum (y + q * 400) = cum y + q * 146097 := by
  induction q with
  | zero => simp
  | succ q ih => rw [Nat.succ_mul, ← Nat.add_assoc, cum_add, ih]; omega
theorem last_year : OnYear (315569519999 / 86400) 9999 364 := ⟨by
  have h := cum_more 399 24
  have e : cum 399 = 145732 := by decide +kernel
  rw [e] at h
  show cum (399 + 24 * 400) + 364 = 3652424
  rw [h], by decide⟩
theorem last_month : OnMonth 9999 364 11 30 := ⟨by decide, by decide⟩
theorem last_no : pOk ⟨#[57, 57, 57, 57, 45, 49, 50, 45, 51, 49, 84, 50, 51, 58, 53, 57, 58, 53, 57, 45, 48, 48, 58, 48, 49]⟩ = false := by
  have h := p_off (s := ⟨#[57, 57, 57, 57, 45, 49, 50, 45, 51, 49, 84, 50, 51, 58, 53, 57, 58, 53, 57, 45, 48, 48, 58, 48, 49]⟩) (S := 315569519999) (n := 0) (back := true) (hh := 0) (mm := 1) last_year last_month (by decide) (by decide) (by decide) (by decide +kernel)
  rw [h.1]; decide
theorem last_text : TextOf 315569519999 999999999 [57, 57, 57, 57, 45, 49, 50, 45, 51, 49, 84, 50, 51, 58, 53, 57, 58, 53, 57, 46, 57, 57, 57, 57, 57, 57, 57, 57, 57, 90] := ⟨9999, 364, 11, 30, last_year, last_month, by decide +kernel⟩
theorem reads_last : Reads ⟨#[57, 57, 57, 57, 45, 49, 50, 45, 51, 49, 84, 50, 51, 58, 53, 57, 58, 53, 57, 46, 57, 57, 57, 57, 57, 57, 57, 57, 57, 90]⟩ 315569519999 999999999 ⟨#[57, 57, 57, 57, 45, 49, 50, 45, 51, 49, 84, 50, 51, 58, 53, 57, 58, 53, 57, 46, 57, 57, 57, 57, 57, 57, 57, 57, 57, 90]⟩ := by
  have hm : may ((315569519999 : Nat) : Int) ((999999999 : Nat) : Int) = true := by decide
  have h := TextOf.parse (s := ⟨#[57, 57, 57, 57, 45, 49, 50, 45, 51, 49, 84, 50, 51, 58, 53, 57, 58, 53, 57, 46, 57, 57, 57, 57, 57, 57, 57, 57, 57, 90]⟩) last_text hm
  exact ⟨h.1, h.2.1, h.2.2, hm, text_is last_text⟩
theorem reads_2000 : Reads ⟨#[50, 48, 48, 48, 45, 48, 50, 45, 50, 57, 84, 50, 51, 58, 53, 57, 58, 53, 57, 45, 48, 48, 58, 51, 48]⟩ 63119089799 0 ⟨#[50, 48, 48, 48, 45, 48, 51, 45, 48, 49, 84, 48, 48, 58, 50, 57, 58, 53, 57, 90]⟩ :=
  ⟨by decide +kernel, by decide +kernel, by decide +kernel, by decide +kernel, text_is (L := [50, 48, 48, 48, 45, 48, 51, 45, 48, 49, 84, 48, 48, 58, 50, 57, 58, 53, 57, 90]) ⟨2000, 60, 2, 0, ⟨by decide +kernel, by decide⟩, ⟨by decide, by decide⟩, by decide +kernel⟩⟩
set_option maxRecDepth 20000 in
set_option maxHeartbeats 4000000 in
theorem names_law (w : World) (hT : Tabs w) : Calls Tryd.prog 3 #[] w fun e w' => e = .returned (.bool true) ∧ Below w.heap.size w w' := by
  have HTb := Lib.hid (fun W (hb : Below w.heap.size w W) => hT.on hb)
  have R1 := reads_2000
  have HP := Lib.hid (parse_t ⟨#[50, 48, 48, 48, 45, 48, 50, 45, 50, 57, 84, 50, 51, 58, 53, 57, 58, 53, 57, 45, 48, 48, 58, 51, 48]⟩ w hT (by unfold maxLen; decide))
  rw [R1.1, R1.2.1, R1.2.2.1] at HP
  have HTT := Lib.hid (fun W (hb : Below w.heap.size w W) => text_ok 63119089799 0 W (hT.on hb).1 (hT.on hb).2.1 R1.2.2.2.1)
  have HX := Lib.hid R1.2.2.2.2
  have HA := Lib.hid (fun W (hb : Below w.heap.size w W) => alive_any W (hT.on hb))
  have HR := Lib.hid (fun W (hb : Below w.heap.size w W) => reads_yes _ _ 315569519999 999999999 W (hT.on hb) (by unfold maxLen; decide) reads_last)
  have N0 := Lib.hid (fun W (hb : Below w.heap.size w W) => none_yes ⟨#[49, 57, 48, 48, 45, 48, 50, 45, 50, 57, 84, 48, 48, 58, 48, 48, 58, 48, 48, 90]⟩ W (hT.on hb) (by unfold maxLen; decide) (by decide +kernel))
  have N1 := Lib.hid (fun W (hb : Below w.heap.size w W) => none_yes ⟨#[48, 48, 48, 48, 45, 48, 49, 45, 48, 49, 84, 48, 48, 58, 48, 48, 58, 48, 48, 43, 48, 48, 58, 48, 49]⟩ W (hT.on hb) (by unfold maxLen; decide) (by decide +kernel))
  have N2 := Lib.hid (fun W (hb : Below w.heap.size w W) => none_yes ⟨#[50, 48, 48, 48, 45, 48, 49, 45, 48, 49, 84, 48, 48, 58, 48, 48, 58, 54, 48, 90]⟩ W (hT.on hb) (by unfold maxLen; decide) (by decide +kernel))
  have N3 := Lib.hid (fun W (hb : Below w.heap.size w W) => none_yes ⟨#[]⟩ W (hT.on hb) (by unfold maxLen; decide) (by decide +kernel))
  have N4 := Lib.hid (fun W (hb : Below w.heap.size w W) => none_yes ⟨#[57, 57, 57, 57, 45, 49, 50, 45, 51, 49, 84, 50, 51, 58, 53, 57, 58, 53, 57, 45, 48, 48, 58, 48, 49]⟩ W (hT.on hb) (by unfold maxLen; decide) (last_no))
  clear hT R1
  go_enter Tryd.func3, Tryd.ntmps3
  go_wp2_with fail
  refine HP.out.mono ?_
  rintro e w1 ⟨rfl, b⟩
  have B1 : Hid (Below w.heap.size w (w1.alloc (.cells #[.int .i64 ((63119089799 : Nat) : Int), .int .i64 ((0 : Nat) : Int)] 23))) := Lib.hid (b.alloc b.size _)
  clear b
  go_wp2_with fail
  refine (HTT.out _ B1.out).mono ?_
  rintro e w2 ⟨⟨s, rfl, hs⟩, b⟩
  obtain rfl := HX.out s hs
  have B2 : Hid (Below w.heap.size w w2) := Lib.hid (B1.out.trans (b.mono B1.out.size))
  clear b hs
  go_wp2_with fail
  refine (N0.out _ B2.out).mono ?_
  rintro e w3 ⟨rfl, b⟩
  have B3 : Hid (Below w.heap.size w w3) := Lib.hid (B2.out.trans (b.mono B2.out.size))
  clear b
  go_wp2_with fail
  refine (N1.out _ B3.out).mono ?_
  rintro e w4 ⟨rfl, b⟩
  have B4 : Hid (Below w.heap.size w w4) := Lib.hid (B3.out.trans (b.mono B3.out.size))
  clear b
  go_wp2_with fail
  refine (N2.out _ B4.out).mono ?_
  rintro e w5 ⟨rfl, b⟩
  have B5 : Hid (Below w.heap.size w w5) := Lib.hid (B4.out.trans (b.mono B4.out.size))
  clear b
  go_wp2_with fail
  refine (N3.out _ B5.out).mono ?_
  rintro e w6 ⟨rfl, b⟩
  have B6 : Hid (Below w.heap.size w w6) := Lib.hid (B5.out.trans (b.mono B5.out.size))
  clear b
  go_wp2_with fail
  refine (N4.out _ B6.out).mono ?_
  rintro e w7 ⟨rfl, b⟩
  have B7 : Hid (Below w.heap.size w w7) := Lib.hid (B6.out.trans (b.mono B6.out.size))
  clear b
  go_wp2_with fail
  refine (HA.out _ B7.out).mono ?_
  rintro e w8 ⟨rfl, b⟩
  have B8 : Hid (Below w.heap.size w w8) := Lib.hid (B7.out.trans (b.mono B7.out.size))
  clear b
  go_wp2_with fail
  refine (HR.out _ B8.out).mono ?_
  rintro e w9 ⟨rfl, b⟩
  have B9 : Hid (Below w.heap.size w w9) := Lib.hid (B8.out.trans (b.mono B8.out.size))
  clear b
  go_wp2_with fail
  go_ret
  exact ⟨rfl, B9.out⟩
end Go.Proofs.YtfphejndbnmfeaaDoor
