import Derived.Test.YtcnafgelfkfekaaProg
import Derived.Test.YtcnafgelfkfekaaShelf
import Derived.WalkKit
import Derived.WalkSpells
import Derived.WalkLawsBesides
import Derived.Outline
import Derived.Below
import Derived.Lib.Hide
import Derived.BigQuiet
import Derived.Deep.QuietTactic
namespace Go.Proofs.Ytcnafgelfkfekaa
open Go.RowKit

theorem compare_any (a b : ByteArray) (w : World) :
    Calls Try.prog 12 #[.string a, .string b] w fun e w' => e = .returned (.int .i64 (Lib.compareBytes a.data.toList b.data.toList)) ∧ w = w' := by
  go_enter Try.func12, Try.ntmps12
  go_wp2_with (first | (go_at_call 39; refine (Try.strings_Compare a b _).mono ?_; rintro e w' ⟨rfl, rfl⟩) | go_in)
  go_ret
  exact ⟨rfl, rfl⟩
theorem less_nil_right (l : List UInt8) : Op.bytesLess l [] = false := by cases l <;> rfl
theorem drop_at (a : ByteArray) (k : Nat) (h : k < a.size) : a.data.toList.drop k = a[k] :: a.data.toList.drop (k + 1) := by
  rw [List.drop_eq_getElem_cons (by simpa using h)]; rfl
theorem drop_end (a : ByteArray) (k : Nat) (h : a.size ≤ k) : a.data.toList.drop k = [] := List.drop_eq_nil_of_le (by simpa using h)
theorem ret_int {k : IntKind} {a b : Int} (h : a = b) : Ending.returned (.int k a) = .returned (.int k b) := by rw [h]
theorem ret_bool {a b : Bool} (h : a = b) : Ending.returned (.bool a) = .returned (.bool b) := by rw [h]

theorem less_any (a b : ByteArray) (w : World) (ha : a.size ≤ maxLen) (hb : b.size ≤ maxLen) :
    Calls Try.prog 36 #[.string a, .string b] w fun e w' => e = .returned (.bool (Op.bytesLess a.data.toList b.data.toList)) ∧ Below w.heap.size w w' := by
  unfold maxLen at ha hb
  go_enter Try.func36, Try.ntmps36
  go_wp2_with fail
  go_loopw [4, 5] (fun _ i wr => ∃ k : Nat, k ≤ a.size ∧ k ≤ b.size ∧ i = .int .i64 k ∧ Op.bytesLess (a.data.toList.drop k) (b.data.toList.drop k) = Op.bytesLess a.data.toList b.data.toList ∧ Below w.heap.size w wr) (fun _ i _ => a.size - (intOf i).toNat)
  case atStart => exact ⟨0, by omega, by omega, rfl, rfl, Below.refl _ _⟩
  case round =>
    obtain ⟨k, hka, hkb, rfl, hl, hb⟩ := hrel
    by_cases h1 : k < a.size
    · by_cases h2 : k < b.size
      · rw [drop_at a k h1, drop_at b k h2] at hl
        by_cases heq : a[k].toNat = b[k].toNat
        · have hne : (((a[k].toNat : Nat) : Int) != ((b[k].toNat : Nat) : Int)) = false := by simp [heq]
          have hu : a[k] = b[k] := UInt8.toNat_inj.1 heq
          have hl2 : Op.bytesLess (a.data.toList.drop (k + 1)) (b.data.toList.drop (k + 1)) = Op.bytesLess a.data.toList b.data.toList := by
            rw [← hl]; simp [Op.bytesLess, hu]
          have HL := Lib.hid hl2
          clear hl hl2 heq hu
          go_wp2_with fail
          go_quiet (fail)
          go_wp2_with fail
          go_roundw
          case rel => exact ⟨k + 1, by omega, by omega, by go_num, HL.out, below_drewN hb _⟩
          case measure => simp [intOf]; omega
        · have hne : (((a[k].toNat : Nat) : Int) != ((b[k].toNat : Nat) : Int)) = true := by simp; omega
          have hl2 : decide (a[k].toNat < b[k].toNat) = Op.bytesLess a.data.toList b.data.toList := by
            rw [← hl]
            have hu : ¬ a[k] = b[k] := fun h => heq (by rw [h])
            simp [Op.bytesLess, hu, UInt8.lt_iff_toNat_lt]
          have HL := Lib.hid hl2
          clear hl hl2 heq
          go_wp2_with fail
          go_quiet (fail)
          go_wp2_with fail
          go_quiet (fail)
          go_wp2_with fail
          go_ret
          exact ⟨ret_bool HL.out, below_drewN (below_drewN hb _) _⟩
      · rw [drop_end b k (by omega), less_nil_right] at hl
        have HL := Lib.hid hl
        clear hl
        have h3 : ¬ a.size < b.size := by omega
        go_wp2_with fail
        go_ret
        exact ⟨ret_bool (by rw [← HL.out]), hb⟩
    · have HL : Hid (Op.bytesLess a.data.toList b.data.toList = decide (a.size < b.size)) := Lib.hid (by
        rw [← hl, drop_end a k (by omega)]
        by_cases h2 : k < b.size
        · rw [drop_at b k h2]; simp [Op.bytesLess]; omega
        · rw [drop_end b k (by omega), less_nil_right]; symm; simp; omega)
      clear hl
      go_wp2_with fail
      go_ret
      exact ⟨ret_bool (by rw [HL.out]), hb⟩

theorem compare_less : ∀ a b : List UInt8, Lib.compareBytes a b = if Op.bytesLess a b then -1 else if Op.bytesLess b a then 1 else 0 := by
  intro a
  induction a with
  | nil => intro b; cases b <;> simp [Lib.compareBytes, Op.bytesLess]
  | cons x a ih =>
    intro b
    cases b with
    | nil => simp [Lib.compareBytes, Op.bytesLess]
    | cons y b =>
      simp only [Lib.compareBytes, Op.bytesLess]
      by_cases h1 : x < y
      · simp [h1]
      · by_cases h2 : y < x
        · have h3 : ¬ x = y := fun h => by subst h; exact h1 h2
          simp [h1, h2, h3]
        · have h3 : x = y := by
            rw [UInt8.lt_iff_toNat_lt] at h1 h2
            exact UInt8.toNat_inj.1 (by omega)
          subst h3
          simp [h1, ih b]

theorem rcompare_any (a b : ByteArray) (w : World) (ha : a.size ≤ maxLen) (hb : b.size ≤ maxLen) :
    Calls Try.prog 25 #[.string a, .string b] w fun e w' => e = .returned (.int .i64 (Lib.compareBytes a.data.toList b.data.toList)) ∧ Below w.heap.size w w' := by
  have hc := compare_less a.data.toList b.data.toList
  cases h1 : Op.bytesLess a.data.toList b.data.toList
  · cases h2 : Op.bytesLess b.data.toList a.data.toList
    · have HC : Hid (Lib.compareBytes a.data.toList b.data.toList = 0) := Lib.hid (by rw [hc, h1, h2]; rfl)
      have H1 := Lib.hid h1
      have H2 := Lib.hid h2
      clear hc h1 h2
      go_enter Try.func25, Try.ntmps25
      go_wp2_with fail
      refine (less_any a b _ ha hb).mono ?_
      rintro e w1 ⟨rfl, b1⟩
      rw [H1.out]
      go_wp2_with fail
      refine (less_any b a _ hb ha).mono ?_
      rintro e w2 ⟨rfl, b2⟩
      rw [H2.out]
      go_wp2_with fail
      go_ret
      exact ⟨ret_int HC.out.symm, b1.trans (b2.mono b1.size)⟩
    · have HC : Hid (Lib.compareBytes a.data.toList b.data.toList = 1) := Lib.hid (by rw [hc, h1, h2]; rfl)
      have H1 := Lib.hid h1
      have H2 := Lib.hid h2
      clear hc h1 h2
      go_enter Try.func25, Try.ntmps25
      go_wp2_with fail
      refine (less_any a b _ ha hb).mono ?_
      rintro e w1 ⟨rfl, b1⟩
      rw [H1.out]
      go_wp2_with fail
      refine (less_any b a _ hb ha).mono ?_
      rintro e w2 ⟨rfl, b2⟩
      rw [H2.out]
      go_wp2_with fail
      go_ret
      exact ⟨ret_int HC.out.symm, b1.trans (b2.mono b1.size)⟩
  · have HC : Hid (Lib.compareBytes a.data.toList b.data.toList = -1) := Lib.hid (by rw [hc, h1]; rfl)
    have H1 := Lib.hid h1
    clear hc h1
    go_enter Try.func25, Try.ntmps25
    go_wp2_with fail
    refine (less_any a b _ ha hb).mono ?_
    rintro e w1 ⟨rfl, b1⟩
    rw [H1.out]
    go_wp2_with fail
    go_ret
    exact ⟨ret_int HC.out.symm, b1⟩

theorem bytes_walk (a b : ByteArray) (w : World) (ha : a.size ≤ maxLen) (hb : b.size ≤ maxLen) :
    Calls Try.prog 5 #[.string a, .string b] w fun e w' => e = .returned (.bool true) ∧ Below w.heap.size w w' := by
  go_enter Try.func5, Try.ntmps5
  go_wp2_with fail
  refine (compare_any a b _).mono ?_
  rintro e w1 ⟨rfl, rfl⟩
  go_wp2_with fail
  refine (rcompare_any a b _ ha hb).mono ?_
  rintro e w2 ⟨rfl, b2⟩
  go_wp2_with fail
  go_ret
  exact ⟨rfl, b2⟩
end Go.Proofs.Ytcnafgelfkfekaa
