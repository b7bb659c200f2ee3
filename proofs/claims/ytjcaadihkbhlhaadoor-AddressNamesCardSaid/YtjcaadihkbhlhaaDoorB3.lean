import Derived.Test.YtjcaadihkbhlhaaDoorB2
namespace Go.Proofs.YtjcaadihkbhlhaaDoor
open Go.RowKit
/-- The text of parts. -/
def joinT (s u h p a q : ByteArray) (hu hq : Bool) : ByteArray :=
  let o := s ++ ⟨#[58, 47, 47]⟩
  let o := if hu then o ++ (u ++ ⟨#[64]⟩) else o
  let o := o ++ h
  let o := if p.size = 0 then o else o ++ (⟨#[58]⟩ ++ p)
  let o := o ++ a
  if hq then o ++ (⟨#[63]⟩ ++ q) else o
/-- The value of parts. -/
def adV (s u h p a q : ByteArray) (hu hq : Bool) : Value := (.agg #[.string s, .string u, .string h, .string p, .string a, .string q, .bool hu, .bool hq])
set_option maxRecDepth 20000 in
set_option maxHeartbeats 2000000 in
theorem join_any (s u h p a q : ByteArray) (hu hq : Bool) (hs : s.size ≤ 1000000) (hu1 : u.size ≤ 1000000) (hh : h.size ≤ 1000000) (hp : p.size ≤ 1000000) (ha : a.size ≤ 1000000) (hq1 : q.size ≤ 1000000) (w : World) :
    Calls Tryd.prog 26 #[adV s u h p a q hu hq] w fun e w' => e = .returned (.string (joinT s u h p a q hu hq)) ∧ Below w.heap.size w w' := by
  unfold adV
  by_cases hp0 : p.size = 0
  · have hnil : p.toList = [] := by rw [ByteArray.toList_eq, text_nil hp0]
    cases hu with
    | false =>
      cases hq with
      | false =>
        have f0 : ¬ (9223372036854775807 < s.size + 3) := by omega
        have f1 : ¬ (9223372036854775807 < s.size + 3 + h.size) := by omega
        have f2 : ¬ (9223372036854775807 < s.size + 3 + h.size + a.size) := by omega
        have HJ : Hid (joinT s u h p a q false false = _) := Lib.hid (by unfold joinT; simp only [hp0, if_true, if_false, Bool.false_eq_true]; rfl)
        clear hs hu1 hh hp ha hq1 hp0
        go_enter Tryd.func26, Tryd.ntmps26
        go_wp2_with fail
        go_ret
        exact ⟨by rw [HJ.out]; rfl, (Below.refl _ w).alloc (Nat.le_refl _) _⟩
      | true =>
        have f0 : ¬ (9223372036854775807 < s.size + 3) := by omega
        have f1 : ¬ (9223372036854775807 < s.size + 3 + h.size) := by omega
        have f2 : ¬ (9223372036854775807 < s.size + 3 + h.size + a.size) := by omega
        have f3 : ¬ (9223372036854775807 < 1 + q.size) := by omega
        have f4 : ¬ (9223372036854775807 < s.size + 3 + h.size + a.size + (1 + q.size)) := by omega
        have HJ : Hid (joinT s u h p a q false true = _) := Lib.hid (by unfold joinT; simp only [hp0, if_true, if_false, Bool.false_eq_true]; rfl)
        clear hs hu1 hh hp ha hq1 hp0
        go_enter Tryd.func26, Tryd.ntmps26
        go_wp2_with fail
        go_ret
        exact ⟨by rw [HJ.out]; rfl, (Below.refl _ w).alloc (Nat.le_refl _) _⟩
    | true =>
      cases hq with
      | false =>
        have f0 : ¬ (9223372036854775807 < s.size + 3) := by omega
        have f1 : ¬ (9223372036854775807 < u.size + 1) := by omega
        have f2 : ¬ (9223372036854775807 < s.size + 3 + (u.size + 1)) := by omega
        have f3 : ¬ (9223372036854775807 < s.size + 3 + (u.size + 1) + h.size) := by omega
        have f4 : ¬ (9223372036854775807 < s.size + 3 + (u.size + 1) + h.size + a.size) := by omega
        have HJ : Hid (joinT s u h p a q true false = _) := Lib.hid (by unfold joinT; simp only [hp0, if_true, if_false, Bool.false_eq_true]; rfl)
        clear hs hu1 hh hp ha hq1 hp0
        go_enter Tryd.func26, Tryd.ntmps26
        go_wp2_with fail
        go_ret
        exact ⟨by rw [HJ.out]; rfl, (Below.refl _ w).alloc (Nat.le_refl _) _⟩
      | true =>
        have f0 : ¬ (9223372036854775807 < s.size + 3) := by omega
        have f1 : ¬ (9223372036854775807 < u.size + 1) := by omega
        have f2 : ¬ (9223372036854775807 < s.size + 3 + (u.size + 1)) := by omega
        have f3 : ¬ (9223372036854775807 < s.size + 3 + (u.size + 1) + h.size) := by omega
        have f4 : ¬ (9223372036854775807 < s.size + 3 + (u.size + 1) + h.size + a.size) := by omega
        have f5 : ¬ (9223372036854775807 < 1 + q.size) := by omega
        have f6 : ¬ (9223372036854775807 < s.size + 3 + (u.size + 1) + h.size + a.size + (1 + q.size)) := by omega
        have HJ : Hid (joinT s u h p a q true true = _) := Lib.hid (by unfold joinT; simp only [hp0, if_true, if_false, Bool.false_eq_true]; rfl)
        clear hs hu1 hh hp ha hq1 hp0
        go_enter Tryd.func26, Tryd.ntmps26
        go_wp2_with fail
        go_ret
        exact ⟨by rw [HJ.out]; rfl, (Below.refl _ w).alloc (Nat.le_refl _) _⟩
  · have hpos : 0 < p.size := by omega
    have hne := text_ne hpos
    have hie : p.toList.isEmpty = false := by cases e : p.toList with
      | nil => exact absurd e hne
      | cons _ _ => rfl
    cases hu with
    | false =>
      cases hq with
      | false =>
        have f0 : ¬ (9223372036854775807 < s.size + 3) := by omega
        have f1 : ¬ (9223372036854775807 < s.size + 3 + h.size) := by omega
        have f2 : ¬ (9223372036854775807 < 1 + p.size) := by omega
        have f3 : ¬ (9223372036854775807 < s.size + 3 + h.size + (1 + p.size)) := by omega
        have f4 : ¬ (9223372036854775807 < s.size + 3 + h.size + (1 + p.size) + a.size) := by omega
        have HJ : Hid (joinT s u h p a q false false = _) := Lib.hid (by unfold joinT; simp only [hp0, if_true, if_false, Bool.false_eq_true]; rfl)
        clear hs hu1 hh hp ha hq1 hp0
        go_enter Tryd.func26, Tryd.ntmps26
        go_wp2_with fail
        go_ret
        exact ⟨by rw [HJ.out]; rfl, (Below.refl _ w).alloc (Nat.le_refl _) _⟩
      | true =>
        have f0 : ¬ (9223372036854775807 < s.size + 3) := by omega
        have f1 : ¬ (9223372036854775807 < s.size + 3 + h.size) := by omega
        have f2 : ¬ (9223372036854775807 < 1 + p.size) := by omega
        have f3 : ¬ (9223372036854775807 < s.size + 3 + h.size + (1 + p.size)) := by omega
        have f4 : ¬ (9223372036854775807 < s.size + 3 + h.size + (1 + p.size) + a.size) := by omega
        have f5 : ¬ (9223372036854775807 < 1 + q.size) := by omega
        have f6 : ¬ (9223372036854775807 < s.size + 3 + h.size + (1 + p.size) + a.size + (1 + q.size)) := by omega
        have HJ : Hid (joinT s u h p a q false true = _) := Lib.hid (by unfold joinT; simp only [hp0, if_true, if_false, Bool.false_eq_true]; rfl)
        clear hs hu1 hh hp ha hq1 hp0
        go_enter Tryd.func26, Tryd.ntmps26
        go_wp2_with fail
        go_ret
        exact ⟨by rw [HJ.out]; rfl, (Below.refl _ w).alloc (Nat.le_refl _) _⟩
    | true =>
      cases hq with
      | false =>
        have f0 : ¬ (9223372036854775807 < s.size + 3) := by omega
        have f1 : ¬ (9223372036854775807 < u.size + 1) := by omega
        have f2 : ¬ (9223372036854775807 < s.size + 3 + (u.size + 1)) := by omega
        have f3 : ¬ (9223372036854775807 < s.size + 3 + (u.size + 1) + h.size) := by omega
        have f4 : ¬ (9223372036854775807 < 1 + p.size) := by omega
        have f5 : ¬ (9223372036854775807 < s.size + 3 + (u.size + 1) + h.size + (1 + p.size)) := by omega
        have f6 : ¬ (9223372036854775807 < s.size + 3 + (u.size + 1) + h.size + (1 + p.size) + a.size) := by omega
        have HJ : Hid (joinT s u h p a q true false = _) := Lib.hid (by unfold joinT; simp only [hp0, if_true, if_false, Bool.false_eq_true]; rfl)
        clear hs hu1 hh hp ha hq1 hp0
        go_enter Tryd.func26, Tryd.ntmps26
        go_wp2_with fail
        go_ret
        exact ⟨by rw [HJ.out]; rfl, (Below.refl _ w).alloc (Nat.le_refl _) _⟩
      | true =>
        have f0 : ¬ (9223372036854775807 < s.size + 3) := by omega
        have f1 : ¬ (9223372036854775807 < u.size + 1) := by omega
        have f2 : ¬ (9223372036854775807 < s.size + 3 + (u.size + 1)) := by omega
        have f3 : ¬ (9223372036854775807 < s.size + 3 + (u.size + 1) + h.size) := by omega
        have f4 : ¬ (9223372036854775807 < 1 + p.size) := by omega
        have f5 : ¬ (9223372036854775807 < s.size + 3 + (u.size + 1) + h.size + (1 + p.size)) := by omega
        have f6 : ¬ (9223372036854775807 < s.size + 3 + (u.size + 1) + h.size + (1 + p.size) + a.size) := by omega
        have f7 : ¬ (9223372036854775807 < 1 + q.size) := by omega
        have f8 : ¬ (9223372036854775807 < s.size + 3 + (u.size + 1) + h.size + (1 + p.size) + a.size + (1 + q.size)) := by omega
        have HJ : Hid (joinT s u h p a q true true = _) := Lib.hid (by unfold joinT; simp only [hp0, if_true, if_false, Bool.false_eq_true]; rfl)
        clear hs hu1 hh hp ha hq1 hp0
        go_enter Tryd.func26, Tryd.ntmps26
        go_wp2_with fail
        go_ret
        exact ⟨by rw [HJ.out]; rfl, (Below.refl _ w).alloc (Nat.le_refl _) _⟩
set_option maxRecDepth 20000 in
set_option maxHeartbeats 2000000 in
theorem tell_any (s u h p a q : ByteArray) (hu hq : Bool) (hs : s.size ≤ 1000000) (hu1 : u.size ≤ 1000000) (hh : h.size ≤ 1000000) (hp : p.size ≤ 1000000) (ha : a.size ≤ 1000000) (hq1 : q.size ≤ 1000000) (w : World) :
    Calls Tryd.prog 27 #[adV s u h p a q hu hq] w fun e w' => e = .returned (.string (joinT s u h p a q hu hq)) ∧ Below w.heap.size w w' := by
  unfold adV
  by_cases hp0 : p.size = 0
  · have hnil : p.toList = [] := by rw [ByteArray.toList_eq, text_nil hp0]
    cases hu with
    | false =>
      cases hq with
      | false =>
        have f0 : ¬ (9223372036854775807 < s.size + 3) := by omega
        have f1 : ¬ (9223372036854775807 < s.size + 3 + h.size) := by omega
        have f2 : ¬ (9223372036854775807 < s.size + 3 + h.size + a.size) := by omega
        have HJ : Hid (joinT s u h p a q false false = _) := Lib.hid (by unfold joinT; simp only [hp0, if_true, if_false, Bool.false_eq_true]; rfl)
        clear hs hu1 hh hp ha hq1 hp0
        go_enter Tryd.func27, Tryd.ntmps27
        go_wp2_with fail
        go_ret
        exact ⟨by rw [HJ.out]; rfl, (Below.refl _ w).alloc (Nat.le_refl _) _⟩
      | true =>
        have f0 : ¬ (9223372036854775807 < s.size + 3) := by omega
        have f1 : ¬ (9223372036854775807 < s.size + 3 + h.size) := by omega
        have f2 : ¬ (9223372036854775807 < s.size + 3 + h.size + a.size) := by omega
        have f3 : ¬ (9223372036854775807 < 1 + q.size) := by omega
        have f4 : ¬ (9223372036854775807 < s.size + 3 + h.size + a.size + (1 + q.size)) := by omega
        have HJ : Hid (joinT s u h p a q false true = _) := Lib.hid (by unfold joinT; simp only [hp0, if_true, if_false, Bool.false_eq_true]; rfl)
        clear hs hu1 hh hp ha hq1 hp0
        go_enter Tryd.func27, Tryd.ntmps27
        go_wp2_with fail
        go_ret
        exact ⟨by rw [HJ.out]; rfl, (Below.refl _ w).alloc (Nat.le_refl _) _⟩
    | true =>
      cases hq with
      | false =>
        have f0 : ¬ (9223372036854775807 < s.size + 3) := by omega
        have f1 : ¬ (9223372036854775807 < u.size + 1) := by omega
        have f2 : ¬ (9223372036854775807 < s.size + 3 + (u.size + 1)) := by omega
        have f3 : ¬ (9223372036854775807 < s.size + 3 + (u.size + 1) + h.size) := by omega
        have f4 : ¬ (9223372036854775807 < s.size + 3 + (u.size + 1) + h.size + a.size) := by omega
        have HJ : Hid (joinT s u h p a q true false = _) := Lib.hid (by unfold joinT; simp only [hp0, if_true, if_false, Bool.false_eq_true]; rfl)
        clear hs hu1 hh hp ha hq1 hp0
        go_enter Tryd.func27, Tryd.ntmps27
        go_wp2_with fail
        go_ret
        exact ⟨by rw [HJ.out]; rfl, (Below.refl _ w).alloc (Nat.le_refl _) _⟩
      | true =>
        have f0 : ¬ (9223372036854775807 < s.size + 3) := by omega
        have f1 : ¬ (9223372036854775807 < u.size + 1) := by omega
        have f2 : ¬ (9223372036854775807 < s.size + 3 + (u.size + 1)) := by omega
        have f3 : ¬ (9223372036854775807 < s.size + 3 + (u.size + 1) + h.size) := by omega
        have f4 : ¬ (9223372036854775807 < s.size + 3 + (u.size + 1) + h.size + a.size) := by omega
        have f5 : ¬ (9223372036854775807 < 1 + q.size) := by omega
        have f6 : ¬ (9223372036854775807 < s.size + 3 + (u.size + 1) + h.size + a.size + (1 + q.size)) := by omega
        have HJ : Hid (joinT s u h p a q true true = _) := Lib.hid (by unfold joinT; simp only [hp0, if_true, if_false, Bool.false_eq_true]; rfl)
        clear hs hu1 hh hp ha hq1 hp0
        go_enter Tryd.func27, Tryd.ntmps27
        go_wp2_with fail
        go_ret
        exact ⟨by rw [HJ.out]; rfl, (Below.refl _ w).alloc (Nat.le_refl _) _⟩
  · have hpos : 0 < p.size := by omega
    have hne := text_ne hpos
    have hie : p.toList.isEmpty = false := by cases e : p.toList with
      | nil => exact absurd e hne
      | cons _ _ => rfl
    cases hu with
    | false =>
      cases hq with
      | false =>
        have f0 : ¬ (9223372036854775807 < s.size + 3) := by omega
        have f1 : ¬ (9223372036854775807 < s.size + 3 + h.size) := by omega
        have f2 : ¬ (9223372036854775807 < 1 + p.size) := by omega
        have f3 : ¬ (9223372036854775807 < s.size + 3 + h.size + (1 + p.size)) := by omega
        have f4 : ¬ (9223372036854775807 < s.size + 3 + h.size + (1 + p.size) + a.size) := by omega
        have HJ : Hid (joinT s u h p a q false false = _) := Lib.hid (by unfold joinT; simp only [hp0, if_true, if_false, Bool.false_eq_true]; rfl)
        clear hs hu1 hh hp ha hq1 hp0
        go_enter Tryd.func27, Tryd.ntmps27
        go_wp2_with fail
        go_ret
        exact ⟨by rw [HJ.out]; rfl, (Below.refl _ w).alloc (Nat.le_refl _) _⟩
      | true =>
        have f0 : ¬ (9223372036854775807 < s.size + 3) := by omega
        have f1 : ¬ (9223372036854775807 < s.size + 3 + h.size) := by omega
        have f2 : ¬ (9223372036854775807 < 1 + p.size) := by omega
        have f3 : ¬ (9223372036854775807 < s.size + 3 + h.size + (1 + p.size)) := by omega
        have f4 : ¬ (9223372036854775807 < s.size + 3 + h.size + (1 + p.size) + a.size) := by omega
        have f5 : ¬ (9223372036854775807 < 1 + q.size) := by omega
        have f6 : ¬ (9223372036854775807 < s.size + 3 + h.size + (1 + p.size) + a.size + (1 + q.size)) := by omega
        have HJ : Hid (joinT s u h p a q false true = _) := Lib.hid (by unfold joinT; simp only [hp0, if_true, if_false, Bool.false_eq_true]; rfl)
        clear hs hu1 hh hp ha hq1 hp0
        go_enter Tryd.func27, Tryd.ntmps27
        go_wp2_with fail
        go_ret
        exact ⟨by rw [HJ.out]; rfl, (Below.refl _ w).alloc (Nat.le_refl _) _⟩
    | true =>
      cases hq with
      | false =>
        have f0 : ¬ (9223372036854775807 < s.size + 3) := by omega
        have f1 : ¬ (9223372036854775807 < u.size + 1) := by omega
        have f2 : ¬ (9223372036854775807 < s.size + 3 + (u.size + 1)) := by omega
        have f3 : ¬ (9223372036854775807 < s.size + 3 + (u.size + 1) + h.size) := by omega
        have f4 : ¬ (9223372036854775807 < 1 + p.size) := by omega
        have f5 : ¬ (9223372036854775807 < s.size + 3 + (u.size + 1) + h.size + (1 + p.size)) := by omega
        have f6 : ¬ (9223372036854775807 < s.size + 3 + (u.size + 1) + h.size + (1 + p.size) + a.size) := by omega
        have HJ : Hid (joinT s u h p a q true false = _) := Lib.hid (by unfold joinT; simp only [hp0, if_true, if_false, Bool.false_eq_true]; rfl)
        clear hs hu1 hh hp ha hq1 hp0
        go_enter Tryd.func27, Tryd.ntmps27
        go_wp2_with fail
        go_ret
        exact ⟨by rw [HJ.out]; rfl, (Below.refl _ w).alloc (Nat.le_refl _) _⟩
      | true =>
        have f0 : ¬ (9223372036854775807 < s.size + 3) := by omega
        have f1 : ¬ (9223372036854775807 < u.size + 1) := by omega
        have f2 : ¬ (9223372036854775807 < s.size + 3 + (u.size + 1)) := by omega
        have f3 : ¬ (9223372036854775807 < s.size + 3 + (u.size + 1) + h.size) := by omega
        have f4 : ¬ (9223372036854775807 < 1 + p.size) := by omega
        have f5 : ¬ (9223372036854775807 < s.size + 3 + (u.size + 1) + h.size + (1 + p.size)) := by omega
        have f6 : ¬ (9223372036854775807 < s.size + 3 + (u.size + 1) + h.size + (1 + p.size) + a.size) := by omega
        have f7 : ¬ (9223372036854775807 < 1 + q.size) := by omega
        have f8 : ¬ (9223372036854775807 < s.size + 3 + (u.size + 1) + h.size + (1 + p.size) + a.size + (1 + q.size)) := by omega
        have HJ : Hid (joinT s u h p a q true true = _) := Lib.hid (by unfold joinT; simp only [hp0, if_true, if_false, Bool.false_eq_true]; rfl)
        clear hs hu1 hh hp ha hq1 hp0
        go_enter Tryd.func27, Tryd.ntmps27
        go_wp2_with fail
        go_ret
        exact ⟨by rw [HJ.out]; rfl, (Below.refl _ w).alloc (Nat.le_refl _) _⟩
end Go.Proofs.YtjcaadihkbhlhaaDoor
