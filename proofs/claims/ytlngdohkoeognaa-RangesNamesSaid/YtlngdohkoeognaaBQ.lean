/- Layer 6: RangesNames. -/
import Derived.Test.YtlngdohkoeognaaBP
import Derived.Test.YtlngdohkoeognaaBD
namespace Go.Proofs.Ytlngdohkoeognaa
open Go.RowKit Go.Maps
theorem ey1 : notP [(0, 1114111)] = ([], 0) := by decide +kernel
theorem ey2 : normP [(2, 1)] = ([], 8) := by decide +kernel
theorem ey3 : cutR [[(1, 3)], [(3, 5)]] = ([0, 1, 3, 4, 6], 0) := by
  rw [cut_same]
  decide +kernel
theorem ey4 : eR (ckL [(1, 2), (3, 4)]) = 8 := by decide +kernel
theorem cuts_two {w W : World} {vs : List (Value × List Rg)} (h : St w W vs) {v u : Value} {L P : List Rg} (hm : (v, L) ∈ vs) (hn : (u, P) ∈ vs) {M : List Int} {k : Int} (hR : cutR [L, P] = (M, k)) : Calls Try.prog 11 #[.slice (some ⟨W.heap.size, 0, none⟩) 2 2] (W.alloc (.cells #[v, u] 22)) fun e W' => ∃ ad cp, e = .returned (.tuple #[.slice ad M.length cp, .int .i64 k]) ∧ IV W' ad M ∧ St w W' vs := by
  have hc := cuts_any (some ⟨W.heap.size, 0, none⟩) 2 [L, P] _ (two_view W v u L P (h.get hm) (h.get hn)) (by simp)
  rw [hR] at hc
  refine hc.mono ?_
  rintro e W' ⟨ad, cp, rfl, h1, h2⟩
  exact ⟨ad, cp, rfl, h1, (h.alloc _).step h2⟩
theorem samei_st {w W : World} {vs : List (Value × List Rg)} (h : St w W vs) {a1 : Option Addr} {c1 : Nat} {L : List Int} (h1 : IV W a1 L) (hl : L.length ≤ 1000) : Calls Try.prog 14 #[.slice a1 L.length c1, .slice (some ⟨W.heap.size, 0, none⟩) L.length L.length] (W.alloc (.cells (rI L).toArray 3)) (BoolPost w vs true) := by
  have hc := rsamei_any a1 (some ⟨W.heap.size, 0, none⟩) c1 L.length L L (W.alloc (.cells (rI L).toArray 3)) (h1.below ((Below.refl _ W).alloc (Nat.le_refl _) _)) (iv_new W L) (by unfold maxLen; omega)
  refine hc.mono ?_
  rintro e W' ⟨rfl, b⟩
  exact ⟨by simp, (h.alloc _).step b⟩
set_option maxRecDepth 20000 in
theorem samei_lit {w W : World} {vs : List (Value × List Rg)} (h : St w W vs) {a1 : Option Addr} {c1 : Nat} (h1 : IV W a1 [0, 1, 3, 4, 6]) : Calls Try.prog 14 #[.slice a1 5 c1, .slice (some ⟨W.heap.size, 0, none⟩) 5 5] (W.alloc (.cells #[.int .i64 0, .int .i64 1, .int .i64 3, .int .i64 4, .int .i64 6] 3)) (BoolPost w vs true) :=
  samei_st (L := [0, 1, 3, 4, 6]) h h1 (by decide)
set_option maxRecDepth 20000 in
theorem names_any (w : World) : Calls Try.prog 3 #[] w fun e w' => e = .returned (.bool true) ∧ Below w.heap.size w w' := by
  have S0 := Lib.hid (St.start w)
  go_enter Try.func3, Try.ntmps3
  go_wp2_with fail
  refine (set2_st S0.out 0 1114111).mono ?_
  rintro e w1 ⟨u1, rfl, s1⟩
  have S1 := Lib.hid s1
  clear s1
  go_wp2_with fail
  refine (not_st S1.out (List.mem_cons_self ..) ey1).mono ?_
  rintro e w2 ⟨u2, rfl, s2⟩
  have S2 := Lib.hid s2
  obtain ⟨a2, c2, rfl, _⟩ := s2.get (List.mem_cons_self ..)
  rw [show ([] : List Rg).length = 0 from rfl] at *
  clear s2
  go_wp2_with fail
  refine (set2_st S2.out 1 3).mono ?_
  rintro e w3 ⟨u3, rfl, s3⟩
  have S3 := Lib.hid s3
  clear s3
  go_wp2_with fail
  refine (set2_st S3.out 3 5).mono ?_
  rintro e w4 ⟨u4, rfl, s4⟩
  have S4 := Lib.hid s4
  have s3 := S4.out.get (v := u3) (L := [(1, 3)]) (by simp)
  obtain ⟨a3, c3, rfl, _⟩ := s3
  have s4' := S4.out.get (v := u4) (L := [(3, 5)]) (by simp)
  obtain ⟨a4, c4, rfl, _⟩ := s4'
  clear s4
  go_wp2_with fail
  refine (cuts_two S4.out (L := [(1, 3)]) (P := [(3, 5)]) (by simp) (by simp) ey3).mono ?_
  rintro e w5 ⟨a5, c5, rfl, i5, s5⟩
  have HB5 := Lib.hid s5.1
  have S5 : Hid (St w5 w5 _) := Lib.hid ⟨Below.refl _ _, s5.2⟩
  have I5 := Lib.hid i5
  clear s5 i5
  go_wp2_with fail
  refine (set2_st S5.out 2 1).mono ?_
  rintro e w6 ⟨u6, rfl, s6⟩
  have S6 := Lib.hid s6
  clear s6
  go_wp2_with fail
  refine (norm_st S6.out (List.mem_cons_self ..) ey2).mono ?_
  rintro e w7 ⟨u7, rfl, s7⟩
  have S7 := Lib.hid s7
  clear s7
  go_wp2_with fail
  refine (alive_any _).mono ?_
  rintro e w8 ⟨rfl, b8⟩
  have S8 := Lib.hid (S7.out.step b8)
  clear b8
  go_wp2_with fail
  have I8 : Hid (IV w8 a5 [0, 1, 3, 4, 6]) := Lib.hid (I5.out.below S8.out.1)
  refine (samei_lit S8.out I8.out).mono ?_
  rintro e w9 ⟨rfl, s9⟩
  have S9 := Lib.hid s9
  clear s9
  go_wp2_with fail
  refine (set4_st S9.out 1 2 3 4).mono ?_
  rintro e w10 ⟨u10, rfl, s10⟩
  have S10 := Lib.hid s10
  clear s10
  go_wp2_with fail
  refine (check_st S10.out (List.mem_cons_self ..) ey4).mono ?_
  rintro e w11 ⟨rfl, s11⟩
  have S11 := Lib.hid s11
  clear s11
  go_wp2_with fail
  go_ret
  exact ⟨rfl, HB5.out.trans (S11.out.1.mono HB5.out.size)⟩
theorem names_law (w : World) : Calls Try.prog 3 #[] w fun e w' => e = .returned (.bool true) ∧ Below w.heap.size w w' := names_any w
end Go.Proofs.Ytlngdohkoeognaa
