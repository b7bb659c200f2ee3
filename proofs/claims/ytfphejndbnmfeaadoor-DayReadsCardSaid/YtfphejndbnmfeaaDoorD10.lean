import Derived.Test.YtfphejndbnmfeaaDoorD9
import Derived.Test.YtfphejndbnmfeaaDoorShelf
import Derived.Lib.AppendIntMem
namespace Go.Proofs.YtfphejndbnmfeaaDoor
open Go.RowKit

/-- The table that strconv.Itoa reads. -/
def P10 (w : World) : Prop := Lib.TabIs Tryd.prog w "internal/strconv.uint64pow10" .u64 Lib.pow10Tab
theorem itoa_nat (n : Nat) (w : World) (h1 : n ≤ 1000000000000) (ht : P10 w) :
    Calls Tryd.prog 65 #[.int .i64 n] w fun e w' => e = .returned (.string ⟨(Lib.decDigits n).toArray⟩) ∧ Below w.heap.size w w' := by
  refine (Tryd.strconv_Itoa n (by omega) (by omega) w ht).mono ?_
  rintro e w' ⟨rfl, k, os, rfl⟩
  refine ⟨?_, Lib.below_grow _ w (Nat.le_refl _) k os⟩
  unfold Lib.itoa
  rw [if_neg (by omega)]; rfl
theorem digits_any (n k : Nat) (w : World) (hn : n < 10 ^ (k + 1)) (hk : k + 1 ≤ 12) (ht : P10 w) :
    Calls Tryd.prog 43 #[.int .i64 n, .int .i64 ((k + 1 : Nat) : Int)] w fun e w' => e = .returned (.string ⟨(dgs (k + 1) n).toArray⟩) ∧ Below w.heap.size w w' := by
  obtain ⟨i1, i2⟩ := itoa_dgs k n hn
  have hb : n ≤ 1000000000000 := by
    have : 10 ^ (k + 1) ≤ 10 ^ 12 := Nat.pow_le_pow_right (by decide) hk
    omega
  have H := Lib.hid (itoa_nat n w hb ht)
  obtain ⟨m, hm⟩ : ∃ m : Nat, m = k + 1 := ⟨_, rfl⟩
  obtain ⟨s, hs⟩ : ∃ s : ByteArray, s = ⟨(Lib.decDigits n).toArray⟩ := ⟨_, rfl⟩
  have hz : s.size = (Lib.decDigits n).length := by rw [hs]; exact Lib.size_mk _
  rw [← hm] at i1 i2 hk ⊢
  rw [← hz] at i1 i2
  rw [← hs] at H
  have HS := Lib.hid hs
  have HI := Lib.hid i2
  have hsub : ((m : Int) - (s.size : Int)) = ((m - s.size : Nat) : Int) := by omega
  have hle : (s.size : Int) ≤ m := by omega
  have HR := Lib.hid (fun W => Tryd.strings_Repeat ⟨#[48]⟩ (m - s.size) W (by omega) (by show 1 * (m - s.size) ≤ _; omega))
  have hR : Lib.repeatL (⟨#[48]⟩ : ByteArray).data.toList (m - s.size) = List.replicate (m - s.size) 48 := repeat_zero _
  rw [hR] at HR
  obtain ⟨r, hr⟩ : ∃ r : ByteArray, r = ⟨(List.replicate (m - s.size) 48).toArray⟩ := ⟨_, rfl⟩
  have hrz : r.size = m - s.size := by rw [hr, Lib.size_mk]; simp
  rw [← hr] at HR
  have hov : r.size + s.size ≤ 9223372036854775807 := by omega
  have HRE := Lib.hid hr
  have HSUB := Lib.hid hsub
  have hs2 : s.size ≤ 20 := by omega
  clear hs hm i2 hz hn hb hR hr hrz hsub
  go_enter Tryd.func43, Tryd.ntmps43
  go_wp2_with fail
  refine H.out.mono ?_
  rintro e w1 ⟨rfl, b1⟩
  have B1 := Lib.hid b1
  clear b1
  go_wp2_with fail
  rw [HSUB.out]
  refine (HR.out _).mono ?_
  rintro e w2 ⟨rfl, b2⟩
  have B2 : Hid (Below w.heap.size w w2) := Lib.hid (B1.out.trans (b2.mono B1.out.size))
  clear b2
  go_wp2_with fail
  go_ret
  refine ⟨rstr ?_, B2.out⟩
  rw [← HI.out, HRE.out, HS.out]
  apply ByteArray.ext
  rw [ByteArray.data_append]; simp
end Go.Proofs.YtfphejndbnmfeaaDoor
