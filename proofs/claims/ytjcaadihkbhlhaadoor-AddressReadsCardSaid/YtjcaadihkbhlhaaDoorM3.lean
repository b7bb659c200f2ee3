import Derived.Test.YtjcaadihkbhlhaaDoorM2
import Derived.Test.YtjcaadihkbhlhaaDoorK1
namespace Go.Proofs.YtjcaadihkbhlhaaDoor
open Go.RowKit
theorem retQ {Q : Ending → World → Prop} {tmps : Array Value} {w : World} {N : Nat} {s u h p a q : ByteArray} {hu hq : Bool} (h2 : tmps.getD 2 undef = .pointer (some ⟨N, 0, none⟩))
    (H : VB w N #[.string s, .string u, .string h, .string p, .string a, .string q, .bool hu, .bool hq] 24)
    (hQ : Q (.returned (adV s u h p a q hu hq)) w) : bodyPost Tryd.prog Tryd.f28 Q .ret ⟨tmps, []⟩ w := by
  refine bodyPost_ret (v := adV s u h p a q hu hq) ?_ rfl hQ
  rw [results_cell_one Tryd.results28, h2]
  simp [asAddr, Result.andThen, load_adr H]
theorem plow (s : ByteArray) (hs : s.size ≤ 1000000) (w : World) : Calls Tryd.prog 51 #[.string s, .bool true] w fun e w' => e = .returned (.string (stS Lib.lowerB s)) ∧ Below w.heap.size w w' := by
  unfold stS
  exact plain_low s hs w
theorem pasis (s : ByteArray) (hs : s.size ≤ 1000000) (w : World) : Calls Tryd.prog 51 #[.string s, .bool false] w fun e w' => e = .returned (.string (stS id s)) ∧ Below w.heap.size w w' := by
  unfold stS
  exact plain_asis s hs w
/-- The state of the reference's Plain. -/
def PL (N : Nat) (w W : World) (C : Array Value) : Prop := VB W N C 24 ∧ VB W (N + 1) #[.string ⟨#[]⟩, .string ⟨#[]⟩, .string ⟨#[]⟩, .string ⟨#[]⟩, .string ⟨#[]⟩, .string ⟨#[]⟩, .bool false, .bool false] 24 ∧ Below N w W
theorem PL.up {N : Nat} {w W W' : World} {C : Array Value} (h : PL N w W C) (hb : Below W.heap.size W W') : PL N w W' C := ⟨h.1.up hb, h.2.1.up hb, h.2.2.trans (hb.mono (by have := h.1.lt; omega))⟩
theorem PL.new (w : World) (C : Array Value) : PL w.heap.size w ((w.alloc (.cells C 24)).alloc (.cells #[.string ⟨#[]⟩, .string ⟨#[]⟩, .string ⟨#[]⟩, .string ⟨#[]⟩, .string ⟨#[]⟩, .string ⟨#[]⟩, .bool false, .bool false] 24)) C := by
  have x1 := VB.new w C 24
  obtain ⟨w1, h1⟩ : ∃ w1, w1 = w.alloc (.cells C 24) := ⟨_, rfl⟩
  have z1 : w1.heap.size = w.heap.size + 1 := by rw [h1]; simp
  have b1 : Below w.heap.size w w1 := by rw [h1]; exact (Below.refl _ w).alloc (Nat.le_refl _) _
  rw [← h1] at x1 ⊢
  have x2 := VB.new w1 #[.string ⟨#[]⟩, .string ⟨#[]⟩, .string ⟨#[]⟩, .string ⟨#[]⟩, .string ⟨#[]⟩, .string ⟨#[]⟩, .bool false, .bool false] 24
  have b2 : Below w1.heap.size w1 (w1.alloc (.cells #[.string ⟨#[]⟩, .string ⟨#[]⟩, .string ⟨#[]⟩, .string ⟨#[]⟩, .string ⟨#[]⟩, .string ⟨#[]⟩, .bool false, .bool false] 24)) := (Below.refl _ w1).alloc (Nat.le_refl _) _
  rw [z1] at x2
  exact ⟨x1.up b2, x2, b1.trans (b2.mono (by omega))⟩
theorem PL.put {N : Nat} {w W : World} {C : Array Value} (h : PL N w W C) (i : Nat) (v : Value) : PL N w (W.setCell ⟨N, i, none⟩ v) (C.setIfInBounds i v) :=
  ⟨h.1.set i v, h.2.1.other (by omega) i v, h.2.2.setCell (by simp) v⟩
theorem PL.c {N : Nat} {w W : World} {v0 v1 v2 v3 v4 v5 v6 v7 : Value} (h : PL N w W #[v0, v1, v2, v3, v4, v5, v6, v7]) :
    W.cell? ⟨N, 0, none⟩ = some v0 ∧ W.cell? ⟨N, 1, none⟩ = some v1 ∧ W.cell? ⟨N, 2, none⟩ = some v2 ∧ W.cell? ⟨N, 3, none⟩ = some v3 ∧ W.cell? ⟨N, 4, none⟩ = some v4 ∧ W.cell? ⟨N, 5, none⟩ = some v5 ∧ W.cell? ⟨N, 6, none⟩ = some v6 ∧ W.cell? ⟨N, 7, none⟩ = some v7 := ⟨h.1.cell 0, h.1.cell 1, h.1.cell 2, h.1.cell 3, h.1.cell 4, h.1.cell 5, h.1.cell 6, h.1.cell 7⟩
theorem PL.z {N : Nat} {w W : World} {C : Array Value} (h : PL N w W C) :
    (W.cell? ⟨N + 1, 0, none⟩ = some (.string ⟨#[]⟩) ∧ W.cell? ⟨N + 1, 1, none⟩ = some (.string ⟨#[]⟩) ∧ W.cell? ⟨N + 1, 2, none⟩ = some (.string ⟨#[]⟩) ∧ W.cell? ⟨N + 1, 3, none⟩ = some (.string ⟨#[]⟩) ∧ W.cell? ⟨N + 1, 4, none⟩ = some (.string ⟨#[]⟩) ∧ W.cell? ⟨N + 1, 5, none⟩ = some (.string ⟨#[]⟩) ∧ W.cell? ⟨N + 1, 6, none⟩ = some (.bool false) ∧ W.cell? ⟨N + 1, 7, none⟩ = some (.bool false)) ∧ (W.frozen? ⟨N + 1, 0, none⟩ = false ∧ W.frozen? ⟨N + 1, 1, none⟩ = false ∧ W.frozen? ⟨N + 1, 2, none⟩ = false ∧ W.frozen? ⟨N + 1, 3, none⟩ = false ∧ W.frozen? ⟨N + 1, 4, none⟩ = false ∧ W.frozen? ⟨N + 1, 5, none⟩ = false ∧ W.frozen? ⟨N + 1, 6, none⟩ = false ∧ W.frozen? ⟨N + 1, 7, none⟩ = false) :=
  ⟨⟨h.2.1.cell 0, h.2.1.cell 1, h.2.1.cell 2, h.2.1.cell 3, h.2.1.cell 4, h.2.1.cell 5, h.2.1.cell 6, h.2.1.cell 7⟩, ⟨h.2.1.fz 0, h.2.1.fz 1, h.2.1.fz 2, h.2.1.fz 3, h.2.1.fz 4, h.2.1.fz 5, h.2.1.fz 6, h.2.1.fz 7⟩⟩
theorem below_eight1 {w W : World} {N : Nat} (h : Below N w W) (v0 v1 v2 v3 v4 v5 v6 v7 : Value) : Below N w ((((((((W.setCell ⟨N + 1, 0, none⟩ v0).setCell ⟨N + 1, 1, none⟩ v1).setCell ⟨N + 1, 2, none⟩ v2).setCell ⟨N + 1, 3, none⟩ v3).setCell ⟨N + 1, 4, none⟩ v4).setCell ⟨N + 1, 5, none⟩ v5).setCell ⟨N + 1, 6, none⟩ v6).setCell ⟨N + 1, 7, none⟩ v7) :=
  have hN : N ≤ N + 1 := Nat.le_succ N
  ((((((((h.setCell hN v0).setCell hN v1).setCell hN v2).setCell hN v3).setCell hN v4).setCell hN v5).setCell hN v6).setCell hN v7)
set_option maxRecDepth 20000 in
set_option maxHeartbeats 2000000 in
theorem plainA_any (s u h p a q : ByteArray) (hu hq : Bool) (hs : s.size ≤ 1000000) (hu1 : u.size ≤ 1000000) (hh : h.size ≤ 1000000) (ha : a.size ≤ 1000000) (hq1 : q.size ≤ 1000000) (w : World) :
    Calls Tryd.prog 28 #[adV s u h p a q hu hq] w fun e w' => e = .returned (adV (stS Lib.lowerB s) (stS id u) (stS Lib.lowerB h) p (stS id a) (stS id q) hu hq) ∧ Below w.heap.size w w' := by
  have C0 : Hid (∀ W, Calls Tryd.prog 51 #[.string s, .bool true] W fun e w' => e = .returned (.string (stS Lib.lowerB s)) ∧ Below W.heap.size W w') := Lib.hid (fun W => plow s hs W)
  obtain ⟨s2, e0⟩ : ∃ x, x = stS Lib.lowerB s := ⟨_, rfl⟩
  rw [← e0] at C0 ⊢
  clear e0
  have C1 : Hid (∀ W, Calls Tryd.prog 51 #[.string u, .bool false] W fun e w' => e = .returned (.string (stS id u)) ∧ Below W.heap.size W w') := Lib.hid (fun W => pasis u hu1 W)
  obtain ⟨u2, e1⟩ : ∃ x, x = stS id u := ⟨_, rfl⟩
  rw [← e1] at C1 ⊢
  clear e1
  have C2 : Hid (∀ W, Calls Tryd.prog 51 #[.string h, .bool true] W fun e w' => e = .returned (.string (stS Lib.lowerB h)) ∧ Below W.heap.size W w') := Lib.hid (fun W => plow h hh W)
  obtain ⟨h2, e2⟩ : ∃ x, x = stS Lib.lowerB h := ⟨_, rfl⟩
  rw [← e2] at C2 ⊢
  clear e2
  have C3 : Hid (∀ W, Calls Tryd.prog 51 #[.string a, .bool false] W fun e w' => e = .returned (.string (stS id a)) ∧ Below W.heap.size W w') := Lib.hid (fun W => pasis a ha W)
  obtain ⟨a2, e3⟩ : ∃ x, x = stS id a := ⟨_, rfl⟩
  rw [← e3] at C3 ⊢
  clear e3
  have C4 : Hid (∀ W, Calls Tryd.prog 51 #[.string q, .bool false] W fun e w' => e = .returned (.string (stS id q)) ∧ Below W.heap.size W w') := Lib.hid (fun W => pasis q hq1 W)
  obtain ⟨q2, e4⟩ : ∃ x, x = stS id q := ⟨_, rfl⟩
  rw [← e4] at C4 ⊢
  clear e4
  clear hs hu1 hh ha hq1
  have X := Lib.hid (PL.new w #[.string s, .string u, .string h, .string p, .string a, .string q, .bool hu, .bool hq])
  unfold adV
  go_enter Tryd.func28, Tryd.ntmps28
  go_wp2_with fail
  obtain ⟨N, hN⟩ : ∃ x, x = w.heap.size := ⟨_, rfl⟩
  obtain ⟨v0, hw0⟩ : ∃ x, x = (w.alloc (.cells #[.string s, .string u, .string h, .string p, .string a, .string q, .bool hu, .bool hq] 24)).alloc (.cells #[.string ⟨#[]⟩, .string ⟨#[]⟩, .string ⟨#[]⟩, .string ⟨#[]⟩, .string ⟨#[]⟩, .string ⟨#[]⟩, .bool false, .bool false] 24) := ⟨_, rfl⟩
  rw [← hw0] at X ⊢
  rw [← hN] at X ⊢
  clear hw0
  replace hN := Lib.hid hN
  with_reducible refine (C0.out _).mono ?_
  rintro e1 w1 ⟨rfl, b1⟩
  have P0 := Lib.hid (X.out.up b1)
  clear b1 X C0
  obtain ⟨c0, c1, c2, c3, c4, c5, c6, c7⟩ := P0.out.c
  have f0 := P0.out.1.fz 0
  obtain ⟨⟨z0, z1, z2, z3, z4, z5, z6, z7⟩, ⟨y0, y1, y2, y3, y4, y5, y6, y7⟩⟩ := P0.out.z
  have X := P0.out.put 0 (.string s2)
  simp only [List.setIfInBounds_toArray, List.set_cons_zero] at X
  replace X := Lib.hid X
  clear z0 z1 z2 z3 z4 z5 z6 z7 y0 y1 y2 y3 y4 y5 y6 y7
  go_wp2_with fail
  obtain ⟨v1, hw1⟩ : ∃ x, x = w1.setCell ⟨N, 0, none⟩ (.string s2) := ⟨_, rfl⟩
  rw [← hw1] at X ⊢
  clear hw1 c0 c1 c2 c3 c4 c5 c6 c7 f0 P0
  with_reducible refine (C1.out _).mono ?_
  rintro e1 w2 ⟨rfl, b1⟩
  have P1 := Lib.hid (X.out.up b1)
  clear b1 X C1
  obtain ⟨c0, c1, c2, c3, c4, c5, c6, c7⟩ := P1.out.c
  have f0 := P1.out.1.fz 1
  obtain ⟨⟨z0, z1, z2, z3, z4, z5, z6, z7⟩, ⟨y0, y1, y2, y3, y4, y5, y6, y7⟩⟩ := P1.out.z
  have X := P1.out.put 1 (.string u2)
  simp only [List.setIfInBounds_toArray, List.set_cons_zero, List.set_cons_succ] at X
  replace X := Lib.hid X
  clear z0 z1 z2 z3 z4 z5 z6 z7 y0 y1 y2 y3 y4 y5 y6 y7
  go_wp2_with fail
  obtain ⟨v2, hw2⟩ : ∃ x, x = w2.setCell ⟨N, 1, none⟩ (.string u2) := ⟨_, rfl⟩
  rw [← hw2] at X ⊢
  clear hw2 c0 c1 c2 c3 c4 c5 c6 c7 f0 P1
  with_reducible refine (C2.out _).mono ?_
  rintro e1 w3 ⟨rfl, b1⟩
  have P2 := Lib.hid (X.out.up b1)
  clear b1 X C2
  obtain ⟨c0, c1, c2, c3, c4, c5, c6, c7⟩ := P2.out.c
  have f0 := P2.out.1.fz 2
  obtain ⟨⟨z0, z1, z2, z3, z4, z5, z6, z7⟩, ⟨y0, y1, y2, y3, y4, y5, y6, y7⟩⟩ := P2.out.z
  have X := P2.out.put 2 (.string h2)
  simp only [List.setIfInBounds_toArray, List.set_cons_zero, List.set_cons_succ] at X
  replace X := Lib.hid X
  clear z0 z1 z2 z3 z4 z5 z6 z7 y0 y1 y2 y3 y4 y5 y6 y7
  go_wp2_with fail
  obtain ⟨v3, hw3⟩ : ∃ x, x = w3.setCell ⟨N, 2, none⟩ (.string h2) := ⟨_, rfl⟩
  rw [← hw3] at X ⊢
  clear hw3 c0 c1 c2 c3 c4 c5 c6 c7 f0 P2
  with_reducible refine (C3.out _).mono ?_
  rintro e1 w4 ⟨rfl, b1⟩
  have P3 := Lib.hid (X.out.up b1)
  clear b1 X C3
  obtain ⟨c0, c1, c2, c3, c4, c5, c6, c7⟩ := P3.out.c
  have f0 := P3.out.1.fz 4
  obtain ⟨⟨z0, z1, z2, z3, z4, z5, z6, z7⟩, ⟨y0, y1, y2, y3, y4, y5, y6, y7⟩⟩ := P3.out.z
  have X := P3.out.put 4 (.string a2)
  simp only [List.setIfInBounds_toArray, List.set_cons_zero, List.set_cons_succ] at X
  replace X := Lib.hid X
  clear z0 z1 z2 z3 z4 z5 z6 z7 y0 y1 y2 y3 y4 y5 y6 y7
  go_wp2_with fail
  obtain ⟨v4, hw4⟩ : ∃ x, x = w4.setCell ⟨N, 4, none⟩ (.string a2) := ⟨_, rfl⟩
  rw [← hw4] at X ⊢
  clear hw4 c0 c1 c2 c3 c4 c5 c6 c7 f0 P3
  with_reducible refine (C4.out _).mono ?_
  rintro e1 w5 ⟨rfl, b1⟩
  have P4 := Lib.hid (X.out.up b1)
  clear b1 X C4
  obtain ⟨c0, c1, c2, c3, c4, c5, c6, c7⟩ := P4.out.c
  have f0 := P4.out.1.fz 5
  obtain ⟨⟨z0, z1, z2, z3, z4, z5, z6, z7⟩, ⟨y0, y1, y2, y3, y4, y5, y6, y7⟩⟩ := P4.out.z
  have X := P4.out.put 5 (.string q2)
  simp only [List.setIfInBounds_toArray, List.set_cons_zero, List.set_cons_succ] at X
  replace X := Lib.hid X
  have B8 := below_eight1 X.out.2.2 (.string s2) (.string u2) (.string h2) (.string p) (.string a2) (.string q2) (.bool hu) (.bool hq)
  have V8 := VB.eight X.out.2.1 (.string s2) (.string u2) (.string h2) (.string p) (.string a2) (.string q2) (.bool hu) (.bool hq)
  replace B8 := Lib.hid B8
  replace V8 := Lib.hid V8
  go_wp2_with fail
  exact retQ rfl V8.out ⟨rfl, B8.out.mono (Nat.le_of_eq hN.out.symm)⟩
theorem stl_none (l : List UInt8) (f : UInt8 → UInt8) (h : ∀ b ∈ l, b ≠ 37) : stl f l = l.map f := by
  induction l with
  | nil => rw [stl_nil]; rfl
  | cons b r ih =>
    have hb : esc (b :: r) = false := by
      cases he : esc (b :: r) with
      | false => rfl
      | true =>
        exfalso
        match r, he with
        | _ :: _ :: _, he =>
          simp only [esc, Bool.and_eq_true, beq_iff_eq] at he
          exact h b (List.mem_cons_self) he.1
    rw [stl_not f hb, ih (fun c hc => h c (List.mem_cons_of_mem _ hc))]
    rfl
theorem scheme_no37 (l : List UInt8) (h : schemeP l = true) : ∀ b ∈ l, b ≠ 37 := by
  have hs : ∀ b, schemeB b = true → b ≠ 37 := fun b hb => by
    have := by256 (P := fun z => !schemeB z || !(z == 37)) (by decide +kernel) b
    rw [hb] at this
    simpa using this
  match l, h with
  | x :: r, h =>
    unfold schemeP at h
    simp only [Bool.and_eq_true, List.all_eq_true] at h
    intro b hb
    rcases List.mem_cons.1 hb with rfl | hb
    · exact hs _ (by unfold schemeB; rw [h.1]; rfl)
    · exact hs _ (h.2 b hb)
theorem scheme_plain (x : ByteArray) (h : schemeP x.data.toList = true) : stS Lib.lowerB x = lowS x := by
  unfold stS lowS Lib.toLowerA
  rw [stl_none _ _ (fun b hb q => by
    have := scheme_no37 _ h b hb
    exact this q)]
end Go.Proofs.YtjcaadihkbhlhaaDoor
