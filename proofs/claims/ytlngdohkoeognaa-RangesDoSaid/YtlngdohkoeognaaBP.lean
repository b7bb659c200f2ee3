/- Layer 6: the chapter's first examples (alive). -/
import Derived.Test.YtlngdohkoeognaaBO
namespace Go.Proofs.Ytlngdohkoeognaa
open Go.RowKit Go.Maps
/-- What was there is there; these values are these ranges. -/
def St (w W : World) (vs : List (Value × List Rg)) : Prop := Below w.heap.size w W ∧ ∀ p ∈ vs, SlR W p.1 p.2
theorem St.start (w : World) : St w w [] := ⟨Below.refl _ _, fun p hp => by cases hp⟩
theorem St.step {w W W' : World} {vs : List (Value × List Rg)} (h : St w W vs) (k : Below W.heap.size W W') : St w W' vs := ⟨h.1.trans (k.mono h.1.size), fun p hp => (h.2 p hp).below k⟩
theorem St.put {w W : World} {vs : List (Value × List Rg)} (h : St w W vs) {v : Value} {L : List Rg} (k : SlR W v L) : St w W ((v, L) :: vs) := ⟨h.1, fun p hp => by
  rcases List.mem_cons.1 hp with rfl | hp
  · exact k
  · exact h.2 p hp⟩
theorem St.get {w W : World} {vs : List (Value × List Rg)} (h : St w W vs) {v : Value} {L : List Rg} (k : (v, L) ∈ vs) : SlR W v L := h.2 _ k
theorem St.alloc {w W : World} {vs : List (Value × List Rg)} (h : St w W vs) (o : Obj) : St w (W.alloc o) vs := h.step ((Below.refl _ W).alloc (Nat.le_refl _) o)
theorem St.nil {w W : World} {vs : List (Value × List Rg)} (h : St w W vs) : St w W ((.slice none 0 0, []) :: vs) := h.put ⟨none, 0, rfl, RV.nil _ _, Nat.le_refl _, Nat.zero_le _, fun _ => ⟨rfl, rfl⟩⟩
def NewPost (w : World) (vs : List (Value × List Rg)) (M : List Rg) (k : Int) (e : Ending) (W' : World) : Prop := ∃ u, e = .returned (.tuple #[u, .int .i64 k]) ∧ St w W' ((u, M) :: vs)
theorem two_st {w W : World} {vs : List (Value × List Rg)} (h : St w W vs) {R : List Rg × Int} {M : List Rg} {k : Int} (hR : R = (M, k)) {e : Ending} {W' : World} (p : TwoPost W R e W') : NewPost w vs M k e W' := by
  subst hR
  obtain ⟨v, rfl, o, b⟩ := p
  exact ⟨v, rfl, (h.step b).put o.slr⟩
theorem norm_st {w W : World} {vs : List (Value × List Rg)} (h : St w W vs) {v : Value} {L M : List Rg} {k : Int} (hm : (v, L) ∈ vs) (hR : normP L = (M, k)) : Calls Try.prog 12 #[v] W (NewPost w vs M k) :=
  (norm_any v L W (h.get hm)).mono fun _ _ p => two_st h hR p
theorem not_st {w W : World} {vs : List (Value × List Rg)} (h : St w W vs) {v : Value} {L M : List Rg} {k : Int} (hm : (v, L) ∈ vs) (hR : notP L = (M, k)) : Calls Try.prog 9 #[v] W (NewPost w vs M k) :=
  (not_any v L W (h.get hm)).mono fun _ _ p => two_st h hR p
theorem or_st {w W : World} {vs : List (Value × List Rg)} (h : St w W vs) {v u : Value} {L P M : List Rg} {k : Int} (hm : (v, L) ∈ vs) (hn : (u, P) ∈ vs) (hR : orP L P = (M, k)) : Calls Try.prog 19 #[v, u] W (NewPost w vs M k) :=
  (or_any v u L P W (h.get hm) (h.get hn)).mono fun _ _ p => two_st h hR p
theorem and_st {w W : World} {vs : List (Value × List Rg)} (h : St w W vs) {v u : Value} {L P M : List Rg} {k : Int} (hm : (v, L) ∈ vs) (hn : (u, P) ∈ vs) (hR : andP L P = (M, k)) : Calls Try.prog 21 #[v, u] W (NewPost w vs M k) :=
  (and_any v u L P W (h.get hm) (h.get hn)).mono fun _ _ p => two_st h hR p
def BoolPost (w : World) (vs : List (Value × List Rg)) (b : Bool) (e : Ending) (W' : World) : Prop := e = .returned (.bool b) ∧ St w W' vs
theorem rsame_st {w W : World} {vs : List (Value × List Rg)} (h : St w W vs) {v u : Value} {L P : List Rg} {b : Bool} (hm : (v, L) ∈ vs) (hn : (u, P) ∈ vs) (hR : decide (L = P) = b) : Calls Try.prog 23 #[v, u] W (BoolPost w vs b) :=
  (rsame_slr v u L P W (h.get hm) (h.get hn)).mono fun _ _ p => ⟨by rw [p.1, hR], h.step p.2⟩
theorem same_st {w W : World} {vs : List (Value × List Rg)} (h : St w W vs) {v u : Value} {L P : List Rg} {b : Bool} (hm : (v, L) ∈ vs) (hn : (u, P) ∈ vs) (hR : decide (L = P) = b) : Calls Try.prog 27 #[v, u] W (BoolPost w vs b) :=
  (same_any v u L P W (h.get hm) (h.get hn)).mono fun _ _ p => ⟨by rw [p.1, hR], h.step p.2⟩
theorem has_st {w W : World} {vs : List (Value × List Rg)} (h : St w W vs) {v : Value} {L : List Rg} {n : Int} {b : Bool} (hm : (v, L) ∈ vs) (hR : hs L n = b) : Calls Try.prog 25 #[v, .int .i64 n] W (BoolPost w vs b) :=
  (has_slr v L n W (h.get hm)).mono fun _ _ p => ⟨by rw [p.1, hR], h.step p.2⟩
theorem check_st {w W : World} {vs : List (Value × List Rg)} (h : St w W vs) {v : Value} {L : List Rg} {k : Int} (hm : (v, L) ∈ vs) (hR : eR (ckL L) = k) : Calls Try.prog 15 #[v] W fun e W' => e = .returned (.int .i64 k) ∧ St w W' vs :=
  (check_slr v L W (h.get hm)).mono fun _ _ p => ⟨by rw [p.1, hR], h.step p.2⟩
def SetPost (w : World) (vs : List (Value × List Rg)) (M : List Rg) (e : Ending) (W' : World) : Prop := ∃ u, e = .returned u ∧ St w W' ((u, M) :: vs)
theorem set_st {w W : World} {vs : List (Value × List Rg)} (h : St w W vs) (M : List Int) (m : Nat) (hm : M.length = 2 * m) (hs : m ≤ 1000) : Calls Try.prog 10 #[.slice (some ⟨W.heap.size, 0, none⟩) M.length M.length] (W.alloc (.cells (rI M).toArray 3)) (SetPost w vs (prs M m)) :=
  (set_lit M m W hm hs).mono fun _ _ ⟨v, e, s, b⟩ => ⟨v, e, (h.step b).put s⟩
theorem set2_st {w W : World} {vs : List (Value × List Rg)} (h : St w W vs) (x y : Int) : Calls Try.prog 10 #[.slice (some ⟨W.heap.size, 0, none⟩) 2 2] (W.alloc (.cells #[.int .i64 x, .int .i64 y] 3)) (SetPost w vs [(x, y)]) :=
  set_st h [x, y] 1 rfl (by decide)
theorem set4_st {w W : World} {vs : List (Value × List Rg)} (h : St w W vs) (x y z t : Int) : Calls Try.prog 10 #[.slice (some ⟨W.heap.size, 0, none⟩) 4 4] (W.alloc (.cells #[.int .i64 x, .int .i64 y, .int .i64 z, .int .i64 t] 3)) (SetPost w vs [(x, y), (z, t)]) :=
  set_st h [x, y, z, t] 2 rfl (by decide)
theorem set8_st {w W : World} {vs : List (Value × List Rg)} (h : St w W vs) (x y z t p q r s : Int) : Calls Try.prog 10 #[.slice (some ⟨W.heap.size, 0, none⟩) 8 8] (W.alloc (.cells #[.int .i64 x, .int .i64 y, .int .i64 z, .int .i64 t, .int .i64 p, .int .i64 q, .int .i64 r, .int .i64 s] 3)) (SetPost w vs [(x, y), (z, t), (p, q), (r, s)]) :=
  set_st h [x, y, z, t, p, q, r, s] 4 rfl (by decide)
theorem ex1 : normP [(5, 7), (1, 2), (8, 9), (2, 3)] = ([(1, 3), (5, 9)], 0) := by decide +kernel
theorem ex2 : notP [] = ([(0, 1114111)], 0) := by decide +kernel
theorem ex3 : orP [(1, 3)] [(4, 5)] = ([(1, 5)], 0) := by decide +kernel
theorem ex4 : andP [(1, 5)] [(3, 9)] = ([(3, 5)], 0) := by decide +kernel
set_option maxRecDepth 20000 in
theorem alive_any (w : World) : Calls Try.prog 13 #[] w fun e w' => e = .returned (.bool true) ∧ Below w.heap.size w w' := by
  have S0 := Lib.hid (St.start w)
  go_enter Try.func13, Try.ntmps13
  go_wp2_with fail
  refine (set8_st S0.out 5 7 1 2 8 9 2 3).mono ?_
  rintro e w1 ⟨u1, rfl, s1⟩
  have S1 := Lib.hid s1
  clear s1
  go_wp2_with fail
  refine (norm_st S1.out (List.mem_cons_self ..) ex1).mono ?_
  rintro e w2 ⟨u2, rfl, s2⟩
  have S2 := Lib.hid s2
  clear s2
  go_wp2_with fail
  refine (not_st S2.out.nil (List.mem_cons_self ..) ex2).mono ?_
  rintro e w3 ⟨u3, rfl, s3⟩
  have S3 := Lib.hid s3
  clear s3
  go_wp2_with fail
  refine (set2_st S3.out 1 3).mono ?_
  rintro e w4 ⟨u4, rfl, s4⟩
  have S4 := Lib.hid s4
  clear s4
  go_wp2_with fail
  refine (set2_st S4.out 4 5).mono ?_
  rintro e w5 ⟨u5, rfl, s5⟩
  have S5 := Lib.hid s5
  clear s5
  go_wp2_with fail
  refine (or_st S5.out (by simp) (by simp) ex3).mono ?_
  rintro e w6 ⟨u6, rfl, s6⟩
  have S6 := Lib.hid s6
  clear s6
  go_wp2_with fail
  refine (set2_st S6.out 1 5).mono ?_
  rintro e w7 ⟨u7, rfl, s7⟩
  have S7 := Lib.hid s7
  clear s7
  go_wp2_with fail
  refine (set2_st S7.out 3 9).mono ?_
  rintro e w8 ⟨u8, rfl, s8⟩
  have S8 := Lib.hid s8
  clear s8
  go_wp2_with fail
  refine (and_st S8.out (by simp) (by simp) ex4).mono ?_
  rintro e w9 ⟨u9, rfl, s9⟩
  have S9 := Lib.hid s9
  clear s9
  go_wp2_with fail
  refine (set4_st S9.out 1 3 5 9).mono ?_
  rintro e w10 ⟨u10, rfl, s10⟩
  have S10 := Lib.hid s10
  clear s10
  go_wp2_with fail
  refine (rsame_st S10.out (L := [(1, 3), (5, 9)]) (P := [(1, 3), (5, 9)]) (by simp) (by simp) (by decide +kernel : _ = true)).mono ?_
  rintro e w11 ⟨rfl, s11⟩
  have S11 := Lib.hid s11
  clear s11
  go_wp2_with fail
  refine (set2_st S11.out 0 1114111).mono ?_
  rintro e w12 ⟨u12, rfl, s12⟩
  have S12 := Lib.hid s12
  clear s12
  go_wp2_with fail
  refine (rsame_st S12.out (L := [(0, 1114111)]) (P := [(0, 1114111)]) (by simp) (by simp) (by decide +kernel : _ = true)).mono ?_
  rintro e w13 ⟨rfl, s13⟩
  have S13 := Lib.hid s13
  clear s13
  go_wp2_with fail
  refine (set2_st S13.out 1 5).mono ?_
  rintro e w14 ⟨u14, rfl, s14⟩
  have S14 := Lib.hid s14
  clear s14
  go_wp2_with fail
  refine (rsame_st S14.out (L := [(1, 5)]) (P := [(1, 5)]) (by simp) (by simp) (by decide +kernel : _ = true)).mono ?_
  rintro e w15 ⟨rfl, s15⟩
  have S15 := Lib.hid s15
  clear s15
  go_wp2_with fail
  refine (set2_st S15.out 3 5).mono ?_
  rintro e w16 ⟨u16, rfl, s16⟩
  have S16 := Lib.hid s16
  clear s16
  go_wp2_with fail
  refine (rsame_st S16.out (L := [(3, 5)]) (P := [(3, 5)]) (by simp) (by simp) (by decide +kernel : _ = true)).mono ?_
  rintro e w17 ⟨rfl, s17⟩
  have S17 := Lib.hid s17
  clear s17
  go_wp2_with fail
  go_ret
  exact ⟨rfl, S17.out.1⟩
end Go.Proofs.Ytlngdohkoeognaa
