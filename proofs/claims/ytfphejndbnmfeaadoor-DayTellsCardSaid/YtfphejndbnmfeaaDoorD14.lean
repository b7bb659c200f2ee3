import Derived.Test.YtfphejndbnmfeaaDoorD13
import Derived.Test.YtfphejndbnmfeaaDoorD4
import Derived.Deep.RegionHeld3
import Derived.WideShapes
namespace Go.Proofs.YtfphejndbnmfeaaDoor
open Go.RowKit

/-- What is held while the last line is worked out. -/
def HD (B : Nat) (s n t m : Int) (w0 w : World) : Prop :=
  w.cell? ⟨B, 0, none⟩ = some (.int .i64 s) ∧ w.cell? ⟨B, 1, none⟩ = some (.int .i64 n) ∧ w.cell? ⟨B + 1, 0, none⟩ = some (.int .i64 t) ∧ w.cell? ⟨B + 1, 1, none⟩ = some (.int .i64 m) ∧ B + 1 < w.heap.size ∧ Below w0.heap.size w0 w
theorem HD.up {B : Nat} {s n t m : Int} {w0 w w' : World} (h : HD B s n t m w0 w) (hb : Below w.heap.size w w') : HD B s n t m w0 w' := by
  obtain ⟨h1, h2, h3, h4, h5, h6⟩ := h
  exact ⟨(hb.cell (p := ⟨B, 0, none⟩) (by show B < _; omega)).trans h1, (hb.cell (p := ⟨B, 1, none⟩) (by show B < _; omega)).trans h2, (hb.cell (p := ⟨B + 1, 0, none⟩) h5).trans h3, (hb.cell (p := ⟨B + 1, 1, none⟩) h5).trans h4, by have := hb.size; omega, h6.trans (hb.mono h6.size)⟩
theorem HD.fin {B : Nat} {s n t m : Int} {w0 w : World} (h : HD B s n t m w0 w) : Below w0.heap.size w0 w := h.2.2.2.2.2
theorem check5 {B : Nat} {s n t m : Int} {w0 : World} (a c : Int) (w : World) (hs : HD B s n t m w0 w) :
    Calls Tryd.prog 23 #[.agg #[.int .i64 a, .int .i64 c]] w fun e w' => e = .returned (.int .i64 (chD a c)) ∧ HD B s n t m w0 w' := (check_any a c w).mono fun _ _ h => ⟨h.1, hs.up h.2⟩
theorem rcheck5 {B : Nat} {s n t m : Int} {w0 : World} (a c : Int) (w : World) (hs : HD B s n t m w0 w) :
    Calls Tryd.prog 24 #[.agg #[.int .i64 a, .int .i64 c]] w fun e w' => e = .returned (.int .i64 (chD a c)) ∧ HD B s n t m w0 w' := (rcheck_any a c w).mono fun _ _ h => ⟨h.1, hs.up h.2⟩
theorem comp5d {B : Nat} {s n t m : Int} {w0 : World} (a c d f : Int) (w : World) (hs : HD B s n t m w0 w) :
    Calls Tryd.prog 25 #[.agg #[.int .i64 a, .int .i64 c], .agg #[.int .i64 d, .int .i64 f]] w fun e w' => e = .returned (.int .i64 (cmpD a c d f)) ∧ HD B s n t m w0 w' := (compare_any a c d f w).mono fun _ _ h => ⟨h.1, hs.up h.2⟩
theorem rcomp5d {B : Nat} {s n t m : Int} {w0 : World} (a c d f : Int) (w : World) (hs : HD B s n t m w0 w) :
    Calls Tryd.prog 26 #[.agg #[.int .i64 a, .int .i64 c], .agg #[.int .i64 d, .int .i64 f]] w fun e w' => e = .returned (.int .i64 (cmpD a c d f)) ∧ HD B s n t m w0 w' := (rcompare_any a c d f w).mono fun _ _ h => ⟨h.1, hs.up h.2⟩
theorem cell_two (w : World) (C : Array Value) (T : TypeId) (D : Array Value) (U : TypeId) (j : Nat) : ((w.alloc (.cells C T)).alloc (.cells D U)).cell? ⟨w.heap.size, j, none⟩ = C[j]? :=
  (((Below.refl _ (w.alloc (.cells C T))).alloc (Nat.le_refl _) (.cells D U)).cell (p := ⟨w.heap.size, j, none⟩) (by simp)).trans (World.cell?_alloc_mark w C T _ j)
theorem cell_two' (w : World) (o : Obj) (D : Array Value) (U : TypeId) (j : Nat) : ((w.alloc o).alloc (.cells D U)).cell? ⟨w.heap.size + 1, j, none⟩ = D[j]? := by
  have := World.cell?_alloc_mark (w.alloc o) D U (0, 0) j
  rwa [show (w.alloc o).heap.size = w.heap.size + 1 by simp] at this
set_option maxRecDepth 20000 in
set_option maxHeartbeats 4000000 in
theorem tells_bad (s n t m : Int) (w : World) (hm : may s n = false) :
    Calls Tryd.prog 5 #[.agg #[.int .i64 s, .int .i64 n], .agg #[.int .i64 t, .int .i64 m]] w fun e w' => e = .returned (.bool true) ∧ Below w.heap.size w w' := by
  have T1 := Lib.hid (fun W => text_bad s n W hm)
  have T2 := Lib.hid (fun W => rtext_bad s n W hm)
  have T3 := Lib.hid (fun W => date_bad s n W hm)
  have T4 := Lib.hid (fun W => rdate_bad s n W hm)
  clear hm
  go_enter Tryd.func5, Tryd.ntmps5
  go_wp2_with fail
  obtain ⟨w0, hw0⟩ : ∃ w0, w0 = (w.alloc (.cells #[.int .i64 s, .int .i64 n] 23)).alloc (.cells #[.int .i64 t, .int .i64 m] 23) := ⟨_, rfl⟩
  have hb0 : HD w.heap.size s n t m w0 w0 := by
    rw [hw0]
    exact ⟨cell_two w _ _ _ _ 0, cell_two w _ _ _ _ 1, cell_two' w _ _ _ 0, cell_two' w _ _ _ 1, by simp, Below.refl _ _⟩
  have B0 : Hid (Below w.heap.size w w0) := Lib.hid (by rw [hw0]; exact ((Below.refl _ w).alloc (Nat.le_refl _) _).alloc (by simp) _)
  rw [← hw0]
  have H0 := Lib.hid hb0
  clear hw0 hb0
  refine (T1.out _).mono ?_
  rintro e w1 ⟨rfl, b⟩
  have H1 := Lib.hid (H0.out.up b)
  obtain ⟨h1, h2, h3, h4, -, -⟩ := H1.out
  clear b
  go_wp2_with fail
  clear h1 h2 h3 h4
  refine (T2.out _).mono ?_
  rintro e w2 ⟨rfl, b⟩
  have H2 := Lib.hid (H1.out.up b)
  obtain ⟨h1, h2, h3, h4, -, -⟩ := H2.out
  clear b
  go_wp2_with fail
  clear h1 h2 h3 h4
  refine (T3.out _).mono ?_
  rintro e w3 ⟨rfl, b⟩
  have H3 := Lib.hid (H2.out.up b)
  obtain ⟨h1, h2, h3, h4, -, -⟩ := H3.out
  clear b
  go_wp2_with fail
  clear h1 h2 h3 h4
  refine (T4.out _).mono ?_
  rintro e w4 ⟨rfl, b⟩
  have H4 := Lib.hid (H3.out.up b)
  obtain ⟨h1, h2, h3, h4, -, -⟩ := H4.out
  clear b
  go_wp2_with fail
  have hSS : HD w.heap.size s n t m w0 w4.drew := ⟨H4.out.1, H4.out.2.1, H4.out.2.2.1, H4.out.2.2.2.1, H4.out.2.2.2.2.1, H4.out.2.2.2.2.2.drew⟩
  go_region_held3 (fun w' => w'.cell? ⟨w.heap.size, 0, none⟩ = some (.int .i64 s) ∧ w'.cell? ⟨w.heap.size, 1, none⟩ = some (.int .i64 n) ∧ w'.cell? ⟨w.heap.size + 1, 0, none⟩ = some (.int .i64 t) ∧ w'.cell? ⟨w.heap.size + 1, 1, none⟩ = some (.int .i64 m) ∧ w.heap.size + 1 < w'.heap.size ∧ Below w0.heap.size w0 w')
    ((first | exact hSS | assumption))
    (first | (go_at_call 23; refine (check5 (B := w.heap.size) (s := s) (n := n) (t := t) (m := m) (w0 := w0) _ _ _ (by assumption)).mono ?_; rintro e w' ⟨rfl, hS2⟩; unfold HD at hS2)
           | (go_at_call 24; refine (rcheck5 (B := w.heap.size) (s := s) (n := n) (t := t) (m := m) (w0 := w0) _ _ _ (by assumption)).mono ?_; rintro e w' ⟨rfl, hS2⟩; unfold HD at hS2)
           | (go_at_call 25; refine (comp5d (B := w.heap.size) (s := s) (n := n) (t := t) (m := m) (w0 := w0) _ _ _ _ _ (by assumption)).mono ?_; rintro e w' ⟨rfl, hS2⟩; unfold HD at hS2)
           | (go_at_call 26; refine (rcomp5d (B := w.heap.size) (s := s) (n := n) (t := t) (m := m) (w0 := w0) _ _ _ _ _ (by assumption)).mono ?_; rintro e w' ⟨rfl, hS2⟩; unfold HD at hS2))
  go_wp2_with fail
  go_ret
  refine ⟨rfl, B0.out.trans ((HD.fin (B := w.heap.size) (s := s) (n := n) (t := t) (m := m) ?_).mono B0.out.size)⟩
  unfold HD
  assumption
set_option maxRecDepth 20000 in
set_option maxHeartbeats 4000000 in
theorem tells_ok (S N : Nat) (t m : Int) (w : World) (hT : MD w) (hP : P10 w) (hm : may S N = true) :
    Calls Tryd.prog 5 #[.agg #[.int .i64 S, .int .i64 N], .agg #[.int .i64 t, .int .i64 m]] w fun e w' => e = .returned (.bool true) ∧ Below w.heap.size w w' := by
  have H1w : Hid (1 < w.heap.size) := Lib.hid hT.1
  have T1 := Lib.hid (fun W (hb : Below w.heap.size w W) => text_ok S N W (hT.below hb H1w.out) (hP.stay hb (Nat.le_refl _)) hm)
  have T2 := Lib.hid (fun W => rtext_ok S N W hm)
  have T3 := Lib.hid (fun W (hb : Below w.heap.size w W) => date_ok S N W (hT.below hb H1w.out) hm)
  have T4 := Lib.hid (fun W => rdate_ok S N W hm)
  obtain ⟨s, hs⟩ : ∃ a : Int, a = S := ⟨_, rfl⟩
  obtain ⟨n, hn⟩ : ∃ c : Int, c = N := ⟨_, rfl⟩
  rw [← hs, ← hn] at T1 T2 T4
  rw [← hs, ← hn] at T3
  rw [← hs, ← hn]
  clear hm hs hn hT hP
  go_enter Tryd.func5, Tryd.ntmps5
  go_wp2_with fail
  obtain ⟨w0, hw0⟩ : ∃ w0, w0 = (w.alloc (.cells #[.int .i64 s, .int .i64 n] 23)).alloc (.cells #[.int .i64 t, .int .i64 m] 23) := ⟨_, rfl⟩
  have hb0 : HD w.heap.size s n t m w0 w0 := by
    rw [hw0]
    exact ⟨cell_two w _ _ _ _ 0, cell_two w _ _ _ _ 1, cell_two' w _ _ _ 0, cell_two' w _ _ _ 1, by simp, Below.refl _ _⟩
  have B0 : Hid (Below w.heap.size w w0) := Lib.hid (by rw [hw0]; exact ((Below.refl _ w).alloc (Nat.le_refl _) _).alloc (by simp) _)
  rw [← hw0]
  have H0 := Lib.hid hb0
  clear hw0 hb0
  refine (T1.out _ B0.out).mono ?_
  rintro e w1 ⟨⟨x1, rfl, hx1⟩, b⟩
  have X1 := Lib.hid hx1
  clear hx1
  have H1 := Lib.hid (H0.out.up b)
  obtain ⟨h1, h2, h3, h4, -, -⟩ := H1.out
  clear b
  go_wp2_with fail
  clear h1 h2 h3 h4
  refine (T2.out _).mono ?_
  rintro e w2 ⟨⟨x2, rfl, hx2⟩, b⟩
  obtain rfl : x1 = x2 := Go.WideShapes.bytes_inj (X1.out.uniq hx2)
  clear hx2
  have H2 := Lib.hid (H1.out.up b)
  obtain ⟨h1, h2, h3, h4, -, -⟩ := H2.out
  clear b
  go_wp2_with fail
  clear h1 h2 h3 h4
  refine (T3.out _ (B0.out.trans (H2.out.2.2.2.2.2.mono B0.out.size))).mono ?_
  rintro e w3 ⟨⟨y, r, mo, d, rfl, hY, hM⟩, b⟩
  have HY := Lib.hid hY
  have HM := Lib.hid hM
  clear hY hM
  have H3 := Lib.hid (H2.out.up b)
  obtain ⟨h1, h2, h3, h4, -, -⟩ := H3.out
  clear b
  go_wp2_with fail
  clear h1 h2 h3 h4
  refine (T4.out _).mono ?_
  rintro e w4 ⟨⟨y', r', mo', d', rfl, hY, hM⟩, b⟩
  obtain ⟨rfl, rfl⟩ := year_uniq HY.out hY
  obtain ⟨rfl, rfl⟩ := month_uniq HM.out hM
  clear hY hM
  have H4 := Lib.hid (H3.out.up b)
  obtain ⟨h1, h2, h3, h4, -, -⟩ := H4.out
  clear b
  go_wp2_with fail
  have hSS : HD w.heap.size s n t m w0 w4.drew := ⟨H4.out.1, H4.out.2.1, H4.out.2.2.1, H4.out.2.2.2.1, H4.out.2.2.2.2.1, H4.out.2.2.2.2.2.drew⟩
  go_region_held3 (fun w' => w'.cell? ⟨w.heap.size, 0, none⟩ = some (.int .i64 s) ∧ w'.cell? ⟨w.heap.size, 1, none⟩ = some (.int .i64 n) ∧ w'.cell? ⟨w.heap.size + 1, 0, none⟩ = some (.int .i64 t) ∧ w'.cell? ⟨w.heap.size + 1, 1, none⟩ = some (.int .i64 m) ∧ w.heap.size + 1 < w'.heap.size ∧ Below w0.heap.size w0 w')
    ((first | exact hSS | assumption))
    (first | (go_at_call 23; refine (check5 (B := w.heap.size) (s := s) (n := n) (t := t) (m := m) (w0 := w0) _ _ _ (by assumption)).mono ?_; rintro e w' ⟨rfl, hS2⟩; unfold HD at hS2)
           | (go_at_call 24; refine (rcheck5 (B := w.heap.size) (s := s) (n := n) (t := t) (m := m) (w0 := w0) _ _ _ (by assumption)).mono ?_; rintro e w' ⟨rfl, hS2⟩; unfold HD at hS2)
           | (go_at_call 25; refine (comp5d (B := w.heap.size) (s := s) (n := n) (t := t) (m := m) (w0 := w0) _ _ _ _ _ (by assumption)).mono ?_; rintro e w' ⟨rfl, hS2⟩; unfold HD at hS2)
           | (go_at_call 26; refine (rcomp5d (B := w.heap.size) (s := s) (n := n) (t := t) (m := m) (w0 := w0) _ _ _ _ _ (by assumption)).mono ?_; rintro e w' ⟨rfl, hS2⟩; unfold HD at hS2))
  go_wp2_with fail
  go_ret
  refine ⟨rfl, B0.out.trans ((HD.fin (B := w.heap.size) (s := s) (n := n) (t := t) (m := m) ?_).mono B0.out.size)⟩
  unfold HD
  assumption
/-- DayTells' walk. -/
theorem tells_walkD (s n t m : Int) (w : World) (hT : MD w) (hP : P10 w) :
    Calls Tryd.prog 5 #[.agg #[.int .i64 s, .int .i64 n], .agg #[.int .i64 t, .int .i64 m]] w fun e w' => e = .returned (.bool true) ∧ Below w.heap.size w w' := by
  cases hm : may s n with
  | false => exact tells_bad s n t m w hm
  | true =>
    have h := (may_iff _ _).1 hm
    obtain ⟨S, rfl⟩ := Int.eq_ofNat_of_zero_le h.1
    obtain ⟨N, rfl⟩ := Int.eq_ofNat_of_zero_le h.2.2.1
    exact tells_ok S N t m w hT hP hm
end Go.Proofs.YtfphejndbnmfeaaDoor
