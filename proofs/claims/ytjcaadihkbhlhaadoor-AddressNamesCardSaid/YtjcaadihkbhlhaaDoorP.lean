/- Plain facts for layer 15: what a part of an address may be. No program in sight. -/
import Derived.Test.YtjcaadihkbhlhaaDoorA0
namespace Go.Proofs.YtjcaadihkbhlhaaDoor
open Go.RowKit
def smallB (n : Nat) : Bool := decide (97 ≤ n) && decide (n ≤ 122)
def greatB (n : Nat) : Bool := decide (65 ≤ n) && decide (n ≤ 90)
def letterB (b : UInt8) : Bool := smallB b.toNat || greatB b.toNat
def digitB (b : UInt8) : Bool := decide (48 ≤ b.toNat) && decide (b.toNat ≤ 57)
def hexV (n : Nat) : Int := if 48 ≤ n ∧ n ≤ 57 then (n : Int) - 48 else if 97 ≤ n ∧ n ≤ 102 then (n : Int) - 87 else if 65 ≤ n ∧ n ≤ 70 then (n : Int) - 55 else -1
def hexB (b : UInt8) : Bool := decide (0 ≤ hexV b.toNat)
/-- Does an escape begin a text? -/
def esc : List UInt8 → Bool
  | b :: h :: l :: _ => b == 37 && (hexB h && hexB l)
  | _ => false
theorem esc_long {l : List UInt8} (h : esc l = true) : 3 ≤ l.length := by
  match l, h with
  | _ :: _ :: _ :: _, _ => simp
/-- Bytes that 'may' takes, and escapes. -/
def ofP (may : UInt8 → Bool) : List UInt8 → Bool
  | [] => true
  | b :: r => if may b then ofP may r else esc (b :: r) && ofP may (r.drop 2)
termination_by l => l.length
decreasing_by all_goals simp; try omega
theorem ofP_nil (may : UInt8 → Bool) : ofP may [] = true := by rw [ofP]
theorem drop_at (s : ByteArray) (i : Nat) (h : i < s.size) : s.data.toList.drop i = s[i] :: s.data.toList.drop (i + 1) := by
  rw [List.drop_eq_getElem_cons (by simpa using h)]; rfl
theorem drop_end (s : ByteArray) : s.data.toList.drop s.size = [] := List.drop_of_length_le (by simp)
theorem ofP_at (may : UInt8 → Bool) (s : ByteArray) (i : Nat) (h : i < s.size) : ofP may (s.data.toList.drop i) = if may s[i] then ofP may (s.data.toList.drop (i + 1)) else esc (s.data.toList.drop i) && ofP may (s.data.toList.drop (i + 3)) := by
  rw [drop_at s i h, ofP, List.drop_drop]
theorem esc_at (s : ByteArray) (i : Nat) : esc (s.data.toList.drop i) = if h : i + 2 < s.size then s[i] == 37 && (hexB s[i + 1] && hexB s[i + 2]) else false := by
  split
  · rename_i h
    rw [drop_at s i (by omega), drop_at s (i + 1) (by omega), drop_at s (i + 2) (by omega)]
    rfl
  · rename_i h
    cases e : esc (s.data.toList.drop i) with
    | false => rfl
    | true =>
      have := esc_long e
      rw [List.length_drop, Array.length_toList] at this
      have hs : s.data.size = s.size := rfl
      omega
theorem esc_first {s : ByteArray} {i : Nat} (h : i < s.size) (e : esc (s.data.toList.drop i) = true) : s[i] = 37 ∧ i + 2 < s.size := by
  rw [esc_at] at e
  split at e
  · simp only [Bool.and_eq_true, beq_iff_eq] at e; exact ⟨e.1, by assumption⟩
  · cases e
theorem all_at (may : UInt8 → Bool) (s : ByteArray) (i : Nat) (h : i < s.size) : (s.data.toList.drop i).all may = (may s[i] && (s.data.toList.drop (i + 1)).all may) := by
  rw [drop_at s i h]; rfl
/-- May it be a scheme? -/
def schemeB (b : UInt8) : Bool := letterB b || digitB b || [43, 45, 46].contains b
def schemeP : List UInt8 → Bool
  | [] => false
  | b :: r => letterB b && r.all schemeB
def freeB (b : UInt8) : Bool := letterB b || digitB b || [45, 46, 95, 126].contains b
def delimB (b : UInt8) : Bool := freeB b || [33, 36, 38, 39, 40, 41, 42, 43, 44, 59, 61].contains b
/-- What a made part may have: the free bytes, the delimiters, and more. -/
def mayB (more : List UInt8) (b : UInt8) : Bool := delimB b || more.contains b
def pathP (l : List UInt8) : Bool := match l with
  | [] => true
  | b :: _ => b == 47 && ofP (mayB [58, 64, 47]) l
def smallL : List UInt8 := [97, 98, 99, 100, 101, 102, 103, 104, 105, 106, 107, 108, 109, 110, 111, 112, 113, 114, 115, 116, 117, 118, 119, 120, 121, 122]
def greatL : List UInt8 := [65, 66, 67, 68, 69, 70, 71, 72, 73, 74, 75, 76, 77, 78, 79, 80, 81, 82, 83, 84, 85, 86, 87, 88, 89, 90]
def numL : List UInt8 := [48, 49, 50, 51, 52, 53, 54, 55, 56, 57]
theorem by256 {P : UInt8 → Bool} (h : (List.range 256).all (fun n => P (UInt8.ofNat n)) = true) (b : UInt8) : P b = true := by
  have := (List.all_eq_true.1 h) b.toNat (List.mem_range.2 (UInt8.toNat_lt b))
  simpa using this
theorem letter_set (b : UInt8) : (smallL ++ greatL).contains b = letterB b :=
  beq_iff_eq.1 (by256 (P := fun b => (smallL ++ greatL).contains b == letterB b) (by decide +kernel) b)
theorem num_set (b : UInt8) : numL.contains b = digitB b :=
  beq_iff_eq.1 (by256 (P := fun b => numL.contains b == digitB b) (by decide +kernel) b)
theorem contains_app (L M : List UInt8) (b : UInt8) : (L ++ M).contains b = (L.contains b || M.contains b) := by
  rw [Bool.eq_iff_iff]; simp
theorem scheme_set (b : UInt8) : (smallL ++ greatL ++ numL ++ [43, 45, 46]).contains b = schemeB b := by
  rw [contains_app, contains_app, letter_set, num_set]; rfl
theorem free_set (b : UInt8) : (smallL ++ greatL ++ numL ++ [45, 46, 95, 126]).contains b = freeB b := by
  rw [contains_app, contains_app, letter_set, num_set]; rfl
theorem may_set (more : List UInt8) (b : UInt8) : (smallL ++ greatL ++ numL ++ [45, 46, 95, 126] ++ [33, 36, 38, 39, 40, 41, 42, 43, 44, 59, 61] ++ more).contains b = mayB more b := by
  rw [contains_app, contains_app, free_set]; rfl
/-- An escape is asked for first: the same, for '%' is none of them. -/
theorem ofP_first (may : UInt8 → Bool) (h37 : may 37 = false) (s : ByteArray) (i : Nat) (h : i < s.size) :
    ofP may (s.data.toList.drop i) = if esc (s.data.toList.drop i) then ofP may (s.data.toList.drop (i + 3)) else may s[i] && ofP may (s.data.toList.drop (i + 1)) := by
  rw [ofP_at may s i h]
  cases e : esc (s.data.toList.drop i) with
  | true => rw [(esc_first h e).1, h37]; simp
  | false => cases may s[i] <;> simp
end Go.Proofs.YtjcaadihkbhlhaaDoor
