import Derived.Test.YtcnafgelfkfekaaE6
namespace Go.Proofs.Ytcnafgelfkfekaa
open Go.RowKit

theorem lit_view (w : World) (cs : Array Value) (L : List ByteArray) (h : cs.toList = L.map Value.string) : SView (w.alloc (.cells cs 9)) (some ⟨w.heap.size, 0, none⟩) L.length L := by
  refine ⟨rfl, fun k hk => ⟨w.heap.size, 0, rfl, by simp, ?_⟩⟩
  have hb := heap_alloc_new w (.cells cs 9)
  simp only [World.cell?, hb, Nat.zero_add]
  have : cs[k]? = (L.map Value.string)[k]? := by rw [← h]; simp
  rw [this]
  simp [nth, List.getD, hk]

abbrev sa : ByteArray := ⟨#[97]⟩
abbrev sb : ByteArray := ⟨#[98]⟩
abbrev sc : ByteArray := ⟨#[99]⟩
theorem ac_ok : chE [sa, sc] = 0 := by decide +kernel
theorem ac_at {k : Nat} {is : Bool} (h : At [sa, sc] sb k is) : k = 1 ∧ is = false := by
  obtain ⟨h1, h2, h3, h4⟩ := h
  have e0 : cmpB (nth [sa, sc] 0) sb = -1 := by decide +kernel
  have e1 : cmpB (nth [sa, sc] 1) sb = 1 := by decide +kernel
  simp only [List.length_cons, List.length_nil] at h1 h3 h4
  have hk : k ≤ 1 := by
    apply Classical.byContradiction
    intro hk
    have := h2 1 (by omega)
    omega
  cases is
  · refine ⟨?_, rfl⟩
    apply Classical.byContradiction
    intro hne
    have := h4 rfl 0 (by omega) (by omega)
    omega
  · have := h3 rfl
    have hz := (cmp_zero _ _).2 this.2
    match k, hk, hz with
    | 0, _, hz => rw [e0] at hz; omega
    | 1, _, hz => rw [e1] at hz; omega

theorem alive_true (w : World) :
    Calls Try.prog 11 #[] w fun e w' => e = .returned (.bool true) ∧ Below w.heap.size w w' := by
  go_enter Try.func11, Try.ntmps11
  go_wp2_with fail
  have v0 := lit_view w #[.string sa, .string sc] [sa, sc] rfl
  refine (findOf_any (some ⟨w.heap.size, 0, none⟩) 2 2 [sa, sc] sb _ v0 ac_ok).mono ?_
  rintro e w1 ⟨⟨k, is, rfl, hat⟩, b1⟩
  obtain ⟨rfl, rfl⟩ := ac_at hat
  have B1 : Hid (Below w.heap.size w w1) := Lib.hid (((Below.refl _ w).alloc (Nat.le_refl _) _).trans (b1.mono (by simp)))
  clear hat b1 v0
  go_wp2_with fail
  have v1 := lit_view w1 #[.string sa, .string sc] [sa, sc] rfl
  refine (put_new w1.heap.size 0 2 2 1 [sa, sc] sb _ v1 (by omega) (by unfold maxLen; omega) (by omega) (by omega) ac_ok (fun w' hv => (find_any _ 2 2 [sa, sc] sb w' hv (by omega) (ch_ok ac_ok).2).mono ?_) (by omega)).mono ?_
  · rintro e w'' ⟨⟨k, is, rfl, hat⟩, rfl⟩
    obtain ⟨rfl, rfl⟩ := ac_at hat
    exact ⟨rfl, rfl⟩
  rintro e w2 ⟨v, rfl, hh, b2⟩
  have B2 : Hid (Below w.heap.size w w2) := Lib.hid ((B1.out.alloc B1.out.size _).trans (b2.mono (by have := B1.out.size; simp; omega)))
  have HH : Hid (Holds w2 v [sa, sb, sc]) := hh
  clear b2 hh v1 B1
  have e1 : cmpB ⟨#[97]⟩ ⟨#[98]⟩ = -1 := by decide +kernel
  have e2 : cmpB ⟨#[98]⟩ ⟨#[97]⟩ = 1 := by decide +kernel
  have e3 : cmpB ⟨#[97]⟩ ⟨#[97, 98]⟩ = -1 := by decide +kernel
  have e4 : cmpB ⟨#[]⟩ ⟨#[]⟩ = 0 := by decide +kernel
  go_wp2_with (first | (go_at_call 12; refine (cmp_any _ _ _).mono ?_; rintro e w3 ⟨rfl, rfl⟩))
  obtain ⟨a, cap, rfl, hs1, hs2, hs3, _⟩ := HH.out.below ((Below.refl _ w2).alloc (Nat.le_refl _) (Obj.cells #[Value.string ⟨#[97]⟩, Value.string ⟨#[98]⟩, Value.string ⟨#[99]⟩] 9))
  refine (same_any a (some ⟨w2.heap.size, 0, none⟩) 3 3 cap 3 [sa, sb, sc] [sa, sb, sc] _ hs1 (lit_view w2 _ [sa, sb, sc] rfl) (by unfold maxLen; omega)).mono ?_
  rintro e w3 ⟨rfl, b3⟩
  rw [show decide ([sa, sb, sc] = [sa, sb, sc]) = true by simp]
  have B3 : Hid (Below w.heap.size w w3) := Lib.hid ((B2.out.alloc B2.out.size _).trans (b3.mono (by have := B2.out.size; simp; omega)))
  clear b3 hs1 hs2 hs3
  go_wp2_with fail
  go_ret
  exact ⟨rfl, B3.out⟩

theorem one_walk (a b c p : ByteArray) (w : World) (ha : a.size ≤ 140737488351232) (hb : b.size ≤ 140737488351232) (_hc : c.size ≤ 140737488351232) (hp : p.size ≤ 140737488351232) :
    Calls Try.prog 6 #[.string a, .string b, .string c, .string p] w fun e w' => e = .returned (.bool true) ∧ Below w.heap.size w w' := by
  have R1 := cmp_range a b
  have R2 := cmp_range b c
  have S := cmp_swap a b
  have Z := cmp_zero a b
  have P := cmp_prefix p a b
  have SE := str_eq a b
  have T := cmp_trans a b c
  obtain ⟨x, hx⟩ : ∃ x, cmpB a b = x := ⟨_, rfl⟩
  obtain ⟨y, hy⟩ : ∃ x, cmpB b c = x := ⟨_, rfl⟩
  obtain ⟨z, hz⟩ : ∃ x, cmpB a c = x := ⟨_, rfl⟩
  rw [hx] at R1 S Z P T
  rw [hy] at R2 T
  rw [hz] at T
  have HS := Lib.hid S
  have HP := Lib.hid P
  have HT := Lib.hid T
  have HX := Lib.hid hx
  have HY := Lib.hid hy
  have HZ := Lib.hid hz
  have hse : (a.toList == b.toList) = (x == 0) := by rw [SE, Bool.eq_iff_iff]; simp only [decide_eq_true_eq, beq_iff_eq]; exact Z.symm
  have hneg : IntKind.i64.wrap (-x) = -x := by rw [IntKind.wrap_i64]; omega
  clear S Z P SE hx hy hz
  have hx3 : x = -1 ∨ x = 0 ∨ x = 1 := by omega
  have hy3 : y = -1 ∨ y = 0 ∨ y = 1 := by omega
  have HZT : Hid (x ≤ 0 → y ≤ 0 → z = if x ≤ y then x else y) := Lib.hid (fun h1 h2 => by rw [T h1 h2]; split <;> omega)
  clear T
  rcases hx3 with rfl | rfl | rfl <;> rcases hy3 with rfl | rfl | rfl
  all_goals
    (first
      | (have hz := HZT.out (by decide) (by decide); simp at hz; subst hz)
      | skip)
  all_goals
    clear HZT R1 R2
    go_enter Try.func6, Try.ntmps6
    go_wp2_with fail
    refine (alive_true _).mono ?_
    rintro e w1 ⟨rfl, b1⟩
    have B1 := Lib.hid b1
    clear b1
    go_wp2_with fail
    refine (cmp_any _ _ _).mono ?_
    rintro e w2 ⟨rfl, rfl⟩
    rw [HX.out]
    go_wp2_with fail
    refine (cmp_any _ _ _).mono ?_
    rintro e w2 ⟨rfl, rfl⟩
    rw [HY.out]
    go_wp2_with fail
    refine (cmp_any _ _ _).mono ?_
    rintro e w2 ⟨rfl, rfl⟩
    rw [HZ.out]
    go_wp2_with fail
    refine (cmp_any _ _ _).mono ?_
    rintro e w2 ⟨rfl, rfl⟩
    rw [HS.out]
    go_wp2_with fail
    refine (cmp_any _ _ _).mono ?_
    rintro e w2 ⟨rfl, rfl⟩
    rw [HP.out]
    go_wp2_with fail
    go_ret
    exact ⟨rfl, B1.out⟩
end Go.Proofs.Ytcnafgelfkfekaa
