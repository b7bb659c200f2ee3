/- Layer 4: JsonNames, the walk. -/
import Derived.Test.YtoicmcjpaodgpaaDoorAY
namespace Go.Proofs.YtoicmcjpaodgpaaDoor
open Go.RowKit Go.Maps
theorem nam0 : readM ⟨#[49, 46, 48]⟩ = .bad 41 := by kernel_rfl
theorem nam1 : readM ⟨#[49, 101, 50]⟩ = .bad 41 := by kernel_rfl
theorem nam2 : readM ⟨#[48, 49]⟩ = .bad 40 := by kernel_rfl
theorem nam3 : readM ⟨#[123, 34, 97, 34, 58, 49, 44, 34, 97, 34, 58, 50, 125]⟩ = .bad 42 := by kernel_rfl
theorem nam4 : readM ⟨#[123, 34, 34, 58, 49, 125]⟩ = .bad 8 := by kernel_rfl
theorem nam5 : readM ⟨#[34, 92, 117, 100, 56, 48, 48, 34]⟩ = .bad 40 := by kernel_rfl
theorem nam6 : readM ⟨#[91, 49, 44, 93]⟩ = .bad 40 := by kernel_rfl
theorem nam7 : readM ⟨#[]⟩ = .bad 40 := by kernel_rfl
theorem nam8 : readM ⟨#[49, 32, 50]⟩ = .bad 40 := by kernel_rfl
theorem nam9 : readM ⟨#[255]⟩ = .bad 10 := by kernel_rfl
theorem deep16 : readM ⟨#[91, 91, 91, 91, 91, 91, 91, 91, 91, 91, 91, 91, 91, 91, 91, 91]⟩ = .bad 40 := by kernel_rfl
theorem deep17 : readM ⟨#[91, 91, 91, 91, 91, 91, 91, 91, 91, 91, 91, 91, 91, 91, 91, 91, 91]⟩ = .bad 30 := by kernel_rfl
theorem quo_lit : quT ⟨#[34, 92, 47, 10, 1, 127]⟩ = ⟨#[34, 92, 34, 92, 92, 47, 92, 110, 92, 117, 48, 48, 48, 49, 127, 34]⟩ ∧ isTx ⟨#[34, 92, 47, 10, 1, 127]⟩ = true ∧ ckE ⟨#[34, 92, 47, 10, 1, 127]⟩ = 0 := by decide +kernel
/-- So many brackets. -/
def brk (i : Nat) : ByteArray := ⟨Array.replicate i 91⟩
theorem brk_succ (i : Nat) : brk i ++ (⟨#[91]⟩ : ByteArray) = brk (i + 1) := by
  apply ByteArray.ext
  simp [brk, Array.replicate_succ]
theorem brk_size (i : Nat) : (brk i).size = i := by simp [brk, ByteArray.size]
theorem brk16 : (brk 17).extract 0 16 = ⟨#[91, 91, 91, 91, 91, 91, 91, 91, 91, 91, 91, 91, 91, 91, 91, 91]⟩ := by decide +kernel
theorem brk17 : brk 17 = ⟨#[91, 91, 91, 91, 91, 91, 91, 91, 91, 91, 91, 91, 91, 91, 91, 91, 91]⟩ := by decide +kernel
set_option maxRecDepth 20000 in
set_option maxHeartbeats 4000000 in
theorem names_walk (w : World) (hj : JF w) : Calls Tryd.prog 3 #[] w fun e w' => e = .returned (.bool true) ∧ Below w.heap.size w w' := by
  have HF := Lib.hid (fun (s : ByteArray) (m : Int) (hs : s.size ≤ maxLen) (h : readM s = .bad m) W (b : Below w.heap.size w W) => fails_any s m W (hj.up b) hs h)
  have HD := Lib.hid (fun (s : ByteArray) (m : Int) (hs : s.size ≤ maxLen) (h : readM s = .bad m) W (b : Below w.heap.size w W) => (show Calls Tryd.prog 10 #[.string s] W fun e w' => e = .returned (.tuple #[.slice none 0 0, .int .i64 m]) ∧ Below W.heap.size W w' from by have h2 := Read_any s W (hj.up b).lim hs; rw [h] at h2; exact h2))
  have HQ := Lib.hid (fun W => jQuote_any ⟨#[34, 92, 47, 10, 1, 127]⟩ W (by decide))
  have HA := Lib.hid (fun W (b : Below w.heap.size w W) => alive_any W (hj.up b))
  rw [quo_lit.2.2] at HQ
  simp only [quo_lit.2.1, if_true, quo_lit.1] at HQ
  have B := Lib.hid (Below.refl w.heap.size w)
  clear hj
  go_enter Tryd.func3, Tryd.ntmps3
  go_wp2_with fail
  refine (HF.out ⟨#[49, 46, 48]⟩ 41 (by decide) nam0 _ B.out).mono ?_
  rintro e w1 ⟨rfl, b1⟩
  replace B := Lib.hid (B.out.trans (b1.mono B.out.size))
  clear b1
  go_wp2_with fail
  refine (HF.out ⟨#[49, 101, 50]⟩ 41 (by decide) nam1 _ B.out).mono ?_
  rintro e w2 ⟨rfl, b1⟩
  replace B := Lib.hid (B.out.trans (b1.mono B.out.size))
  clear b1
  go_wp2_with fail
  refine (HF.out ⟨#[48, 49]⟩ 40 (by decide) nam2 _ B.out).mono ?_
  rintro e w3 ⟨rfl, b1⟩
  replace B := Lib.hid (B.out.trans (b1.mono B.out.size))
  clear b1
  go_wp2_with fail
  refine (HF.out ⟨#[123, 34, 97, 34, 58, 49, 44, 34, 97, 34, 58, 50, 125]⟩ 42 (by decide) nam3 _ B.out).mono ?_
  rintro e w4 ⟨rfl, b1⟩
  replace B := Lib.hid (B.out.trans (b1.mono B.out.size))
  clear b1
  go_wp2_with fail
  refine (HF.out ⟨#[123, 34, 34, 58, 49, 125]⟩ 8 (by decide) nam4 _ B.out).mono ?_
  rintro e w5 ⟨rfl, b1⟩
  replace B := Lib.hid (B.out.trans (b1.mono B.out.size))
  clear b1
  go_wp2_with fail
  refine (HF.out ⟨#[34, 92, 117, 100, 56, 48, 48, 34]⟩ 40 (by decide) nam5 _ B.out).mono ?_
  rintro e w6 ⟨rfl, b1⟩
  replace B := Lib.hid (B.out.trans (b1.mono B.out.size))
  clear b1
  go_wp2_with fail
  refine (HF.out ⟨#[91, 49, 44, 93]⟩ 40 (by decide) nam6 _ B.out).mono ?_
  rintro e w7 ⟨rfl, b1⟩
  replace B := Lib.hid (B.out.trans (b1.mono B.out.size))
  clear b1
  go_wp2_with fail
  refine (HF.out ⟨#[]⟩ 40 (by decide) nam7 _ B.out).mono ?_
  rintro e w8 ⟨rfl, b1⟩
  replace B := Lib.hid (B.out.trans (b1.mono B.out.size))
  clear b1
  go_wp2_with fail
  refine (HF.out ⟨#[49, 32, 50]⟩ 40 (by decide) nam8 _ B.out).mono ?_
  rintro e w9 ⟨rfl, b1⟩
  replace B := Lib.hid (B.out.trans (b1.mono B.out.size))
  clear b1
  go_wp2_with fail
  refine (HF.out ⟨#[255]⟩ 10 (by decide) nam9 _ B.out).mono ?_
  rintro e w10 ⟨rfl, b1⟩
  replace B := Lib.hid (B.out.trans (b1.mono B.out.size))
  clear b1
  go_wp2_with fail
  refine (HQ.out _).mono ?_
  rintro e w11 ⟨rfl, b1⟩
  replace B := Lib.hid (B.out.trans (b1.mono B.out.size))
  clear b1
  go_wp2_with fail
  go_loopw [5, 6] (fun v5 v6 wr => ∃ i : Nat, i ≤ 17 ∧ v5 = .string (brk i) ∧ v6 = .int .i64 i ∧ wr = w11) (fun _ v6 _ => 17 - (intOf v6).toNat)
  case atStart => exact ⟨0, by omega, rfl, rfl, rfl⟩
  case round =>
    obtain ⟨i, hi, rfl, rfl, rfl⟩ := hrel
    have hsz := brk_size i
    obtain ⟨S, hS⟩ : ∃ S, S = brk i := ⟨_, rfl⟩
    have HSS := Lib.hid (brk_succ i)
    rw [← hS] at HSS hsz ⊢
    have hl1 : ¬ 9223372036854775807 < S.size + 1 := by omega
    by_cases h17 : i < 17
    · have h17' : (i : Int) < 17 := by omega
      clear hS
      go_wp2_with fail
      go_roundw
      case rel => exact ⟨i + 1, by omega, by rw [← HSS.out], by go_num, by first | rfl | trivial⟩
      case measure => simp [intOf]; omega
    · obtain rfl : i = 17 := by omega
      have HS := Lib.hid (hS.trans brk17)
      have HX := Lib.hid ((congrArg (fun x => ByteArray.extract x 0 16) hS).trans brk16)
      have hs16 : (16 : Int) ≤ S.size := by omega
      clear hS hl1
      go_wp2_with fail
      rw [HX.out]
      refine (HD.out _ 40 (by decide) deep16 _ B.out).mono ?_
      rintro e w12 ⟨rfl, b1⟩
      replace B := Lib.hid (B.out.trans (b1.mono B.out.size))
      clear b1
      go_wp2_with fail
      rw [HS.out]
      refine (HD.out _ 30 (by decide) deep17 _ B.out).mono ?_
      rintro e w13 ⟨rfl, b1⟩
      replace B := Lib.hid (B.out.trans (b1.mono B.out.size))
      clear b1
      go_wp2_with fail
      refine (HA.out _ B.out).mono ?_
      rintro e w14 ⟨rfl, b1⟩
      replace B := Lib.hid (B.out.trans (b1.mono B.out.size))
      clear b1
      go_wp2_with fail
      go_ret
      exact ⟨rfl, B.out⟩
end Go.Proofs.YtoicmcjpaodgpaaDoor
