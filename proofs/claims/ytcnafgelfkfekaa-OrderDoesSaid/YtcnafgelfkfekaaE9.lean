import Derived.Test.YtcnafgelfkfekaaE8
namespace Go.Proofs.Ytcnafgelfkfekaa
open Go.RowKit

theorem findD (a : Option Addr) (len cap k : Nat) (is : Bool) (L : List ByteArray) (s : ByteArray) (w : World) (hv : SView w a len L) (hc : chE L = 0) (hat : At L s k is) :
    Calls Try.prog 28 #[.slice a len cap, .string s] w fun e w' => e = .returned (.tuple #[.int .i64 (k : Int), .bool is]) ∧ w = w' := by
  have h := chOk hc
  refine (find_any a len cap L s w hv (by rw [← hv.1]; exact h.1) h.2).mono ?_
  rintro e w' ⟨⟨k', is', rfl, hat'⟩, rfl⟩
  obtain ⟨rfl, rfl⟩ := at_uniq hat hat'
  exact ⟨rfl, rfl⟩
theorem findOfD (a : Option Addr) (len cap k : Nat) (is : Bool) (L : List ByteArray) (s : ByteArray) (w : World) (hv : SView w a len L) (hc : chE L = 0) (hat : At L s k is) :
    Calls Try.prog 17 #[.slice a len cap, .string s] w fun e w' => e = .returned (.tuple #[.int .i64 (k : Int), .bool is]) ∧ Below w.heap.size w w' := by
  refine (findOf_any a len cap L s w hv hc).mono ?_
  rintro e w' ⟨⟨k', is', rfl, hat'⟩, hb⟩
  obtain ⟨rfl, rfl⟩ := at_uniq hat hat'
  exact ⟨rfl, hb⟩

theorem put_bad (a : Option Addr) (len cap : Nat) (L : List ByteArray) (s : ByteArray) (w : World) (hv : SView w a len L) (hc : chE L ≠ 0) :
    Calls Try.prog 19 #[.slice a len cap, .string s] w fun e w' => e = .returned (.tuple #[.slice none 0 0, .int .i64 (chE L)]) ∧ Below w.heap.size w w' := by
  have HV := Lib.hid hv
  have hne : (chE L != 0) = true := by simpa using hc
  obtain ⟨E, hE⟩ : ∃ E, chE L = E := ⟨_, rfl⟩
  rw [hE] at hne ⊢
  have HE := Lib.hid hE
  clear hv hc hE
  go_enter Try.func19, Try.ntmps19
  go_wp2_with fail
  refine (check_any _ len cap L _ HV.out).mono ?_
  rintro e w1 ⟨rfl, b1⟩
  rw [HE.out]
  have HB := Lib.hid b1
  clear b1
  go_wp2_with fail
  go_ret2
  exact ⟨rfl, HB.out⟩

theorem put_had (b off len cap k : Nat) (L : List ByteArray) (s : ByteArray) (w : World) (hv : SView w (some ⟨b, off, none⟩) len L) (hl : len ≤ 4096) (hc : chE L = 0) (hat : At L s k true) :
    Calls Try.prog 19 #[.slice (some ⟨b, off, none⟩) len cap, .string s] w fun e w' => ∃ v, e = .returned (.tuple #[v, .int .i64 0]) ∧ Holds w' v L ∧ Below w.heap.size w w' := by
  have HV := Lib.hid hv
  have HL : Hid (L.length = len) := hv.1
  have HC := Lib.hid hc
  have HA := Lib.hid hat
  clear hv hc hat
  go_enter Try.func19, Try.ntmps19
  go_wp2_with fail
  refine (check_any _ len cap L _ HV.out).mono ?_
  rintro e w1 ⟨rfl, b1⟩
  rw [HC.out]
  go_wp2_with fail
  refine (findD _ len cap k true L s _ (HV.out.below b1) HC.out HA.out).mono ?_
  rintro e w2 ⟨rfl, rfl⟩
  have HV1 := Lib.hid (HV.out.below b1)
  have HB := Lib.hid b1
  clear b1
  go_wp2_with fail
  refine (Try.slices_Clone_string b off len cap L _ (by rw [HL.out]; exact Nat.le_refl _) (by omega) (fun j hj => ?_)).mono ?_
  · obtain ⟨b', off', he, _, hx⟩ := HV1.out.2 j (by rw [← HL.out]; exact hj)
    simp only [Option.some.injEq, Addr.mk.injEq, and_true] at he
    obtain ⟨rfl, rfl⟩ := he
    exact hx
  rintro e w2 ⟨v, rfl, ho, _, b2⟩
  have ho2 : w2.ownsRow w1.heap.size 9 1 v L.length (L.map Value.string) := by
    rw [HL.out]
    rw [List.take_of_length_le (by rw [HL.out]; exact Nat.le_refl _)] at ho
    exact ho
  have HO := Lib.hid (holds_of_own ho2)
  have HB2 := Lib.hid b2
  clear ho ho2 b2
  go_wp2_with fail
  go_ret2
  exact ⟨_, rfl, HO.out, HB.out.trans (HB2.out.mono HB.out.size)⟩
end Go.Proofs.Ytcnafgelfkfekaa
