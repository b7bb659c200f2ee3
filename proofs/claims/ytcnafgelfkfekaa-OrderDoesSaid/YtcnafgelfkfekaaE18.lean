import Derived.Test.YtcnafgelfkfekaaE17
namespace Go.Proofs.Ytcnafgelfkfekaa
open Go.RowKit

theorem sort_big9 (a : Option Addr) (len cap : Nat) (w : World) (h : 4096 < len) :
    Calls Try.prog 9 #[.slice a len cap] w fun e w' => e = .returned (.tuple #[.slice none 0 0, .int .i64 4]) ∧ w = w' := by
  go_enter Try.func9, Try.ntmps9
  go_wp2_with fail
  go_ret2
  exact ⟨rfl, rfl⟩
theorem drop_none (a : Option Addr) (len cap k : Nat) (L : List ByteArray) (s : ByteArray) (w : World) (hv : SView w a len L) (hce : chE L = 0) (hat : At L s k false) :
    Calls Try.prog 10 #[.slice a len cap, .string s] w fun e w' => e = .returned (.tuple #[.slice none 0 0, .int .i64 6]) ∧ Below w.heap.size w w' := by
  have HV := Lib.hid hv
  have HE := Lib.hid hce
  have HA := Lib.hid hat
  clear hv hce hat
  go_enter Try.func10, Try.ntmps10
  go_wp2_with fail
  refine (check_any _ len cap L _ HV.out).mono ?_
  rintro e w1 ⟨rfl, b1⟩
  rw [HE.out]
  have B1 := Lib.hid b1
  clear b1
  go_wp2_with fail
  refine (findD _ len cap k false L s _ (HV.out.below B1.out) HE.out HA.out).mono ?_
  rintro e w2 ⟨rfl, rfl⟩
  go_wp2_with fail
  go_ret2
  exact ⟨rfl, B1.out⟩
theorem bab : sortL [sb, sa, sb] = [sa, sb] := by
  refine (sort_uniq (by decide) (by decide +kernel) (fun o => ?_)).symm
  rw [inL_mem, inL_mem]
  simp only [List.mem_cons, List.not_mem_nil, or_false]
  constructor
  · rintro (h | h)
    · exact .inr (.inl h)
    · exact .inl h
  · rintro (h | h | h)
    · exact .inr h
    · exact .inl h
    · exact .inr h
theorem a_ok : chE [sa] = 0 := by decide +kernel
theorem a_at {k : Nat} {is : Bool} (h : At [sa] sb k is) : is = false := by
  cases is
  · rfl
  · obtain ⟨j, hj, e⟩ := (at_iff h).1 rfl
    have : j = 0 := by simpa using hj
    subst this
    exact absurd e (by decide +kernel)
theorem aa_bad : chE [sa, sa] = 8 := by decide +kernel
set_option maxRecDepth 10000 in
set_option maxHeartbeats 1000000 in
theorem names_walk (w : World) :
    Calls Try.prog 3 #[] w fun e w' => e = .returned (.bool true) ∧ Below w.heap.size w w' := by
  obtain ⟨j0, hj, hy0, hy1, hy2⟩ := info_parts info9
  have hb16 : j0.bytes * 4097 ≤ 281474976710656 := by rw [hy2]; omega
  have HJ := Lib.hid hb16
  clear hb16
  go_enter Try.func3, Try.ntmps3
  go_wp2_with fail
  have v0 := lit_view w #[.string sb, .string sa, .string sb] [sb, sa, sb] rfl
  refine (sort_ok9 (some ⟨w.heap.size, 0, none⟩) 3 3 [sb, sa, sb] _ v0 (by omega)).mono ?_
  rintro e w1 ⟨v1, rfl, hh1, b1⟩
  rw [bab] at hh1
  have B1 : Hid (Below w.heap.size w w1) := Lib.hid (((Below.refl _ w).alloc (Nat.le_refl _) _).trans (b1.mono (by simp)))
  have H1 := Lib.hid hh1
  clear b1 v0 hh1
  go_wp2_with fail
  have v1' := lit_view w1 #[.string sa] [sa] rfl
  obtain ⟨k, is, hat⟩ := at_some a_ok sb
  obtain rfl := a_at hat
  refine (drop_none (some ⟨w1.heap.size, 0, none⟩) 1 1 k [sa] sb _ v1' a_ok hat).mono ?_
  rintro e w2 ⟨rfl, b2⟩
  have B2 : Hid (Below w.heap.size w w2) := Lib.hid ((B1.out.alloc B1.out.size _).trans (b2.mono (by have := B1.out.size; simp; omega)))
  have H2 := Lib.hid ((H1.out.below ((Below.refl _ _).alloc (Nat.le_refl _) _)).below b2)
  clear b2 v1' hat
  go_wp2_with (at_make; refine wpList_make_full _ rfl _ _ 22 rfl w2.heap.size 9 j0 (.string ⟨#[]⟩) 1 Try.underlying22 hj hy0 hy1 .i64 .i64 4097 4097 4097 rfl rfl rfl rfl HJ.out (by unfold maxLen; omega) (Nat.le_refl _) ?_; intro w3 ho3 hg3; have B3 : Hid (Below w2.heap.size w2 w3) := Lib.hid ((Below.refl _ _).grown hg3 (Nat.le_refl _) (fun k hk => by cases hk)); clear ho3 hg3)
  refine (sort_big9 _ 4097 4097 _ (by omega)).mono ?_
  rintro e w4 ⟨rfl, rfl⟩
  have H3 := Lib.hid (H2.out.below B3.out)
  have B4 : Hid (Below w.heap.size w w3) := Lib.hid (B2.out.trans (B3.out.mono B2.out.size))
  have e1 : cmpB ⟨#[90]⟩ ⟨#[97]⟩ = -1 := by decide +kernel
  have e2 : cmpB ⟨#[255]⟩ ⟨#[97]⟩ = 1 := by decide +kernel
  go_wp2_with fail
  refine (alive_true _).mono ?_
  rintro e w5 ⟨rfl, b5⟩
  have H5 := Lib.hid (H3.out.below b5)
  have B5 : Hid (Below w.heap.size w w5) := Lib.hid (B4.out.trans (b5.mono B4.out.size))
  clear b5
  go_wp2_with (first | (go_at_call 12; refine (cmp_any _ _ _).mono ?_; rintro e w6 ⟨rfl, rfl⟩))
  obtain ⟨a, cap, rfl, hs1, hs2, hs3, _⟩ := H5.out.below ((Below.refl _ w5).alloc (Nat.le_refl _) (Obj.cells #[Value.string ⟨#[97]⟩, Value.string ⟨#[98]⟩] 9))
  refine (same_any a (some ⟨w5.heap.size, 0, none⟩) 2 2 cap 2 [sa, sb] [sa, sb] _ hs1 (lit_view w5 _ [sa, sb] rfl) (by unfold maxLen; omega)).mono ?_
  rintro e w6 ⟨rfl, b6⟩
  rw [show decide ([sa, sb] = [sa, sb]) = true by simp]
  have B6 : Hid (Below w.heap.size w w6) := Lib.hid ((B5.out.alloc B5.out.size _).trans (b6.mono (by have := B5.out.size; simp; omega)))
  clear b6 hs1 hs2 hs3
  go_wp2_with fail
  have v6 := lit_view w6 #[.string sa, .string sa] [sa, sa] rfl
  refine (check_any (some ⟨w6.heap.size, 0, none⟩) 2 2 [sa, sa] _ v6).mono ?_
  rintro e w7 ⟨rfl, b7⟩
  rw [aa_bad]
  have B7 : Hid (Below w.heap.size w w7) := Lib.hid ((B6.out.alloc B6.out.size _).trans (b7.mono (by have := B6.out.size; simp; omega)))
  clear b7 v6
  go_wp2_with fail
  go_ret
  exact ⟨rfl, B7.out⟩
end Go.Proofs.Ytcnafgelfkfekaa
