import Derived.Test.YtfphejndbnmfeaaDoorD19
import Derived.ScopeJumps
import Derived.Laws.ResultCell
import Derived.IntWalk
namespace Go.Proofs.YtfphejndbnmfeaaDoor
open Go.RowKit

/-- The state of Parse: the result's two cells, the DateTime's two, the reader. -/
def PS (N : Nat) (w w' : World) (s : ByteArray) (p : Nat) (b : Bool) (S n : Int) : Prop :=
  R w' (N + 1 + 1) s p b ∧ Below N w w' ∧ w'.cell? ⟨N, 0, none⟩ = some (.int .i64 0) ∧ w'.cell? ⟨N, 1, none⟩ = some (.int .i64 0) ∧ w'.cell? ⟨N + 1, 0, none⟩ = some (.int .i64 S) ∧ w'.cell? ⟨N + 1, 1, none⟩ = some (.int .i64 n) ∧
  w'.frozen? ⟨N, 0, none⟩ = false ∧ w'.frozen? ⟨N, 1, none⟩ = false ∧ w'.frozen? ⟨N + 1, 0, none⟩ = false ∧ w'.frozen? ⟨N + 1, 1, none⟩ = false
theorem PS.step {N : Nat} {w w' w'' : World} {s : ByteArray} {p q : Nat} {b c : Bool} {S n : Int} (h : PS N w w' s p b S n) (hb : Below (N + 1 + 1) w' w'') (hr : R w'' (N + 1 + 1) s q c) : PS N w w'' s q c S n := by
  obtain ⟨h0, h1, h2, h3, h4, h5, h6, h7, h8, h9⟩ := h
  exact ⟨hr, h1.trans (hb.mono (by omega)), (hb.cell (p := ⟨N, 0, none⟩) (by show N < _; omega)).trans h2, (hb.cell (p := ⟨N, 1, none⟩) (by show N < _; omega)).trans h3, (hb.cell (p := ⟨N + 1, 0, none⟩) (by show N + 1 < _; omega)).trans h4, (hb.cell (p := ⟨N + 1, 1, none⟩) (by show N + 1 < _; omega)).trans h5,
    (hb.frozen (p := ⟨N, 0, none⟩) (by show N < _; omega)).trans h6, (hb.frozen (p := ⟨N, 1, none⟩) (by show N < _; omega)).trans h7, (hb.frozen (p := ⟨N + 1, 0, none⟩) (by show N + 1 < _; omega)).trans h8, (hb.frozen (p := ⟨N + 1, 1, none⟩) (by show N + 1 < _; omega)).trans h9⟩
theorem R.other {w : World} {B : Nat} {s : ByteArray} {p : Nat} {b : Bool} (h : R w B s p b) (a : Addr) (ha : a.block ≠ B) (v : Value) : R (w.setCell a v) B s p b := by
  obtain ⟨h0, h1, h2, f1, f2, hz⟩ := h
  refine ⟨(World.cell?_setCell_other _ _ _ _ (by intro e; subst e; exact ha rfl)).trans h0, (World.cell?_setCell_other _ _ _ _ (by intro e; subst e; exact ha rfl)).trans h1, (World.cell?_setCell_other _ _ _ _ (by intro e; subst e; exact ha rfl)).trans h2, (World.frozen?_setCell _ _ _ _).trans f1, (World.frozen?_setCell _ _ _ _).trans f2, ?_⟩
  simpa [World.setCell] using hz
theorem PS.set0 {N : Nat} {w w' : World} {s : ByteArray} {p : Nat} {b : Bool} {S n : Int} (h : PS N w w' s p b S n) (T : Int) : PS N w (w'.setCell ⟨N + 1, 0, none⟩ (.int .i64 T)) s p b T n := by
  obtain ⟨h0, h1, h2, h3, h4, h5, h6, h7, h8, h9⟩ := h
  exact ⟨h0.other _ (by simp) _, h1.setCell (by simp) _, (World.cell?_setCell_other _ _ _ _ (by simp)).trans h2, (World.cell?_setCell_other _ _ _ _ (by simp)).trans h3, World.cell?_setCell_same _ _ _ h4, (World.cell?_setCell_other _ _ _ _ (by simp)).trans h5, (World.frozen?_setCell _ _ _ _).trans h6, (World.frozen?_setCell _ _ _ _).trans h7, (World.frozen?_setCell _ _ _ _).trans h8, (World.frozen?_setCell _ _ _ _).trans h9⟩
theorem PS.set1 {N : Nat} {w w' : World} {s : ByteArray} {p : Nat} {b : Bool} {S n : Int} (h : PS N w w' s p b S n) (T : Int) : PS N w (w'.setCell ⟨N + 1, 1, none⟩ (.int .i64 T)) s p b S T := by
  obtain ⟨h0, h1, h2, h3, h4, h5, h6, h7, h8, h9⟩ := h
  exact ⟨h0.other _ (by simp) _, h1.setCell (by simp) _, (World.cell?_setCell_other _ _ _ _ (by simp)).trans h2, (World.cell?_setCell_other _ _ _ _ (by simp)).trans h3, (World.cell?_setCell_other _ _ _ _ (by simp)).trans h4, World.cell?_setCell_same _ _ _ h5, (World.frozen?_setCell _ _ _ _).trans h6, (World.frozen?_setCell _ _ _ _).trans h7, (World.frozen?_setCell _ _ _ _).trans h8, (World.frozen?_setCell _ _ _ _).trans h9⟩
theorem PS.dr {N : Nat} {w w' : World} {s : ByteArray} {p : Nat} {b : Bool} {S n : Int} (h : PS N w w' s p b S n) : PS N w w'.drew s p b S n :=
  h.step (Below.refl _ _).drew (h.1.drewN 1)
theorem PS.new (w : World) (s : ByteArray) : PS w.heap.size w (((w.alloc (.cells #[.int .i64 0, .int .i64 0] 23)).alloc (.cells #[.int .i64 0, .int .i64 0] 23)).alloc (.cells #[.string s, .int .i64 0, .bool false] 63)) s 0 false 0 0 := by
  obtain ⟨w1, h1⟩ : ∃ w1, w1 = w.alloc (.cells #[.int .i64 0, .int .i64 0] 23) := ⟨_, rfl⟩
  obtain ⟨w2, h2⟩ : ∃ w2, w2 = w1.alloc (.cells #[.int .i64 0, .int .i64 0] 23) := ⟨_, rfl⟩
  have z1 : w1.heap.size = w.heap.size + 1 := by rw [h1]; simp
  have z2 : w2.heap.size = w.heap.size + 1 + 1 := by rw [h2]; simp [z1]
  have b1 : Below w1.heap.size w1 (w2.alloc (.cells #[.string s, .int .i64 0, .bool false] 63)) := by rw [h2]; exact ((Below.refl _ _).alloc (Nat.le_refl _) _).alloc (by simp) _
  have b2 : Below w2.heap.size w2 (w2.alloc (.cells #[.string s, .int .i64 0, .bool false] 63)) := (Below.refl _ _).alloc (Nat.le_refl _) _
  have b0 : Below w.heap.size w (w2.alloc (.cells #[.string s, .int .i64 0, .bool false] 63)) := by
    refine Below.trans ?_ (b1.mono (by omega))
    rw [h1]; exact (Below.refl _ _).alloc (Nat.le_refl _) _
  have fz : ∀ (W : World) (C : Array Value) (T : TypeId) (j : Nat), (W.alloc (.cells C T)).frozen? ⟨W.heap.size, j, none⟩ = false := by
    intro W C T j
    simp only [World.frozen?]
    rw [heap_alloc_new]
    simp
  have cR : ∀ j, (w2.alloc (.cells #[.string s, .int .i64 0, .bool false] 63)).cell? ⟨w.heap.size + 1 + 1, j, none⟩ = (#[.string s, .int .i64 0, .bool false] : Array Value)[j]? := fun j => by rw [← z2]; exact World.cell?_alloc_mark _ _ _ _ j
  have fR : ∀ j, (w2.alloc (.cells #[.string s, .int .i64 0, .bool false] 63)).frozen? ⟨w.heap.size + 1 + 1, j, none⟩ = false := fun j => by rw [← z2]; exact fz _ _ _ j
  have cD : ∀ j, w2.cell? ⟨w.heap.size + 1, j, none⟩ = (#[.int .i64 0, .int .i64 0] : Array Value)[j]? := fun j => by rw [← z1, h2]; exact World.cell?_alloc_mark _ _ _ _ j
  have fD : ∀ j, w2.frozen? ⟨w.heap.size + 1, j, none⟩ = false := fun j => by rw [← z1, h2]; exact fz _ _ _ j
  have cN : ∀ j, w1.cell? ⟨w.heap.size, j, none⟩ = (#[.int .i64 0, .int .i64 0] : Array Value)[j]? := fun j => by rw [h1]; exact World.cell?_alloc_mark _ _ _ _ j
  have fN : ∀ j, w1.frozen? ⟨w.heap.size, j, none⟩ = false := fun j => by rw [h1]; exact fz _ _ _ j
  rw [← h1, ← h2]
  exact ⟨⟨cR 0, cR 1, cR 2, fR 1, fR 2, by simp [z2]⟩, b0, (b1.cell (p := ⟨w.heap.size, 0, none⟩) (show w.heap.size < w1.heap.size by omega)).trans (cN 0), (b1.cell (p := ⟨w.heap.size, 1, none⟩) (show w.heap.size < w1.heap.size by omega)).trans (cN 1),
    (b2.cell (p := ⟨w.heap.size + 1, 0, none⟩) (show w.heap.size + 1 < w2.heap.size by omega)).trans (cD 0), (b2.cell (p := ⟨w.heap.size + 1, 1, none⟩) (show w.heap.size + 1 < w2.heap.size by omega)).trans (cD 1),
    (b1.frozen (p := ⟨w.heap.size, 0, none⟩) (show w.heap.size < w1.heap.size by omega)).trans (fN 0), (b1.frozen (p := ⟨w.heap.size, 1, none⟩) (show w.heap.size < w1.heap.size by omega)).trans (fN 1),
    (b2.frozen (p := ⟨w.heap.size + 1, 0, none⟩) (show w.heap.size + 1 < w2.heap.size by omega)).trans (fD 0), (b2.frozen (p := ⟨w.heap.size + 1, 1, none⟩) (show w.heap.size + 1 < w2.heap.size by omega)).trans (fD 1)⟩
theorem R.up {w w' : World} {B : Nat} {s : ByteArray} {p : Nat} {b : Bool} (h : R w B s p b) (hb : Below w.heap.size w w') : R w' B s p b := by
  obtain ⟨h0, h1, h2, f1, f2, hz⟩ := h
  exact ⟨(hb.cell (p := ⟨B, 0, none⟩) hz).trans h0, (hb.cell (p := ⟨B, 1, none⟩) hz).trans h1, (hb.cell (p := ⟨B, 2, none⟩) hz).trans h2, (hb.frozen (p := ⟨B, 1, none⟩) hz).trans f1, (hb.frozen (p := ⟨B, 2, none⟩) hz).trans f2, Nat.lt_of_lt_of_le hz hb.size⟩
theorem PS.up {N : Nat} {w w' w'' : World} {s : ByteArray} {p : Nat} {b : Bool} {S n : Int} (h : PS N w w' s p b S n) (hb : Below w'.heap.size w' w'') : PS N w w'' s p b S n :=
  h.step (hb.mono (Nat.le_of_lt h.1.2.2.2.2.2)) (h.1.up hb)
theorem parse_no {s : ByteArray} {p6 p7 : Nat} {t : Nat} (e1 : okTime s = true → p6 = 19 ∧ t = timeS s) (e7 : p7 = fracE s p6) (h : ((!okTime s || !fracOk s p6) || !offOk s p7) = true) : pOk s = false := by
  unfold pOk
  cases k1 : okTime s with
  | false => simp
  | true =>
    obtain ⟨rfl, -⟩ := e1 k1
    rw [k1] at h
    subst e7
    cases k2 : fracOk s 19 with
    | false => simp
    | true =>
      rw [k2] at h
      cases k3 : offOk s (fracE s 19) with
      | false => simp
      | true => rw [k3] at h; cases h
theorem parse_yes {s : ByteArray} {p6 p7 p8 v t : Nat} {o : Int} (d1 : okDate s = true) (d2 : okMark s = true) (dv : v = aheadS s) (e1 : okTime s = true → p6 = 19 ∧ t = timeS s) (e7 : p7 = fracE s p6) (e8 : (!okTime s || !fracOk s p6) = false → offOk s p7 = true → p8 = p7 + offL s p7 ∧ o = offV s p7)
    (h : ((!okTime s || !fracOk s p6) || !offOk s p7) = false) : pOk s = (decide (s.size = p8) && may (secS s) (fracV s 19)) ∧ (v : Int) * 86400 + t - o = secS s ∧ fracV s p6 = fracV s 19 := by
  cases k1 : okTime s with
  | false => rw [k1] at h; simp at h
  | true =>
    obtain ⟨rfl, rfl⟩ := e1 k1
    rw [k1] at h e8
    subst e7
    cases k2 : fracOk s 19 with
    | false => rw [k2] at h; simp at h
    | true =>
      rw [k2] at h e8
      cases k3 : offOk s (fracE s 19) with
      | false => rw [k3] at h; cases h
      | true =>
        obtain ⟨rfl, rfl⟩ := e8 rfl k3
        refine ⟨?_, ?_, rfl⟩
        · unfold pOk
          rw [d1, d2, k1, k2, k3]; simp
        · unfold secS; rw [← dv]; omega
theorem okM_T (s : ByteArray) : okM s 10 [84, 116] = okMark s := by
  unfold okM okMark
  simp only [List.contains, List.elem]
  cases (bt s 10 == 84) <;> cases (bt s 10 == 116) <;> rfl
theorem fcount_room {s : ByteArray} : ∀ (f p : Nat), p ≤ s.size → p + fcount s p f ≤ s.size
  | 0, p, h => by simpa [fcount] using h
  | f + 1, p, h => by
    cases hd : isDg (bt s p) with
    | false => rw [fcount_no hd]; exact h
    | true =>
      have hc : 48 ≤ bt s p ∧ bt s p ≤ 57 := by simpa [isDg] using hd
      have := bt_in s p (by omega)
      have := fcount_room (s := s) f (p + 1) (by omega)
      rw [fcount_yes hd]; omega
theorem load_day {w : World} {N : Nat} {a b : Int} (c0 : w.cell? ⟨N, 0, none⟩ = some (.int .i64 a)) (c1 : w.cell? ⟨N, 1, none⟩ = some (.int .i64 b)) : (loadVar 23 ⟨N, 0, none⟩).run Tryd.prog w = .ok (.agg #[.int .i64 a, .int .i64 b]) w := by
  simp [loadVar, go_sem, c0, c1]
theorem ret14 {Q : Ending → World → Prop} {tmps : Array Value} {w : World} {N : Nat} {a b c : Int} (h2 : tmps.getD 2 undef = .pointer (some ⟨N, 0, none⟩)) (h3 : tmps.getD 3 undef = .int .i64 c) (c0 : w.cell? ⟨N, 0, none⟩ = some (.int .i64 a)) (c1 : w.cell? ⟨N, 1, none⟩ = some (.int .i64 b))
    (hQ : Q (.returned (.tuple #[.agg #[.int .i64 a, .int .i64 b], .int .i64 c])) w) : bodyPost Tryd.prog Tryd.f14 Q .ret ⟨tmps, []⟩ w := by
  refine bodyPost_ret (v := .tuple #[.agg #[.int .i64 a, .int .i64 b], .int .i64 c]) ?_ rfl hQ
  rw [results_cell_tmp (p := 2) (u := 3) (ty := 23) Tryd.results14, h2, h3]
  simp [asAddr, Result.andThen, load_day c0 c1]
/-- Where the parse fails. -/
def PJ (N : Nat) (s : ByteArray) (w : World) (a : Act) (w' : World) : Prop :=
  pOk s = false ∧ (∃ p b S n, PS N w w' s p b S n) ∧ ∃ u1 u3 u4 u5 u6 u7 u8 u9 u10 u11 u12 u13 u14 u15 u16 u17 u18 u19 u20 u21 u22 u23 u24 u25 u26 u27 u28 u29 u30 u31 u32 u33 u34 u35 u36 u37 u38 u39 u40 u41 u42 u43 u44 u45 u46 u47 u48 u49 u50 u51 u52 u53 : Value, a = { tmps := #[.string s, u1, .pointer (some ⟨N, 0, none⟩), u3, u4, u5, u6, u7, u8, u9, u10, u11, u12, u13, u14, u15, u16, u17, u18, u19, u20, u21, u22, u23, u24, u25, u26, u27, u28, u29, u30, u31, u32, u33, u34, u35, u36, u37, u38, u39, u40, u41, u42, u43, u44, u45, u46, u47, u48, u49, u50, u51, u52, u53], defers := [] }
set_option maxRecDepth 20000 in
set_option maxHeartbeats 8000000 in
theorem parse_any (s : ByteArray) (w : World) (hT : MD w) (hL : ML w) (h3 : 2 < w.heap.size) (hs : s.size ≤ maxLen) :
    Calls Tryd.prog 14 #[.string s] w fun e w' => e = .returned (.tuple #[.agg #[.int .i64 (pS s), .int .i64 (pN s)], .int .i64 (pE s)]) ∧ Below w.heap.size w w' := by
  have HS := Lib.hid hs
  have HT := Lib.hid (fun W (hW : Below w.heap.size w W) => hT.below hW hT.1)
  have HL := Lib.hid (fun W (hW : Below w.heap.size w W) => hL.below hW h3)
  have P2 := Lib.hid (PS.new w s)
  clear hT hL hs
  go_enter Tryd.func14, Tryd.ntmps14
  go_wp2_with fail
  refine wp_scope_jumps 0 (PJ w.heap.size s w) (fun _ _ => 0) rfl ?_ ?_
  · skip
    go_wp2_with fail
    obtain ⟨w2, hw2⟩ : ∃ w2, w2 = (((w.alloc (.cells #[.int .i64 0, .int .i64 0] 23)).alloc (.cells #[.int .i64 0, .int .i64 0] 23)).alloc (.cells #[.string s, .int .i64 0, .bool false] 63)) := ⟨_, rfl⟩
    rw [← hw2] at P2
    have B2 : Hid (Below w.heap.size w w2) := Lib.hid P2.out.2.1
    rw [← hw2]
    clear hw2
    refine (date_any (w.heap.size + 1 + 1) s w2 (HT.out _ B2.out) (HL.out _ B2.out) (by omega) P2.out.1 HS.out).mono ?_
    rintro e w3 ⟨v, p, rfl, hv, hp, r3, e3, b3⟩
    have P3 := Lib.hid (P2.out.step b3 r3)
    have E3 := Lib.hid e3
    obtain ⟨-, -, c1, c2, c3, c4, f1, f2, f3, f4⟩ := P3.out
    clear b3 r3 e3
    go_wp2_with fail
    have P4 := Lib.hid (P3.out.set0 ((v : Int) * 86400))
    obtain ⟨w4, hw4⟩ : ∃ w4, w4 = w3.setCell ⟨w.heap.size + 1, 0, none⟩ (.int .i64 ((v : Int) * 86400)) := ⟨_, rfl⟩
    rw [← hw4] at P4 ⊢
    clear hw4 c1 c2 c3 c4 f1 f2 f3 f4 P3 P2
    refine (mark_any (w.heap.size + 1 + 1) s _ _ mT p _ w4 (HL.out _ P4.out.2.1) (by omega) P4.out.1 HS.out hp).mono ?_
    rintro e w5 ⟨rfl, r5, b5, i5⟩
    cases hd : okDate s with
    | false =>
      have HPO : Hid (pOk s = false) := Lib.hid (by unfold pOk; rw [hd]; rfl)
      obtain ⟨p5, e5⟩ : ∃ p5, p5 = if okM s p [84, 116] then p + 1 else p := ⟨_, rfl⟩
      obtain ⟨x, hx⟩ : ∃ x, x = (if okM s p [84, 116] then bt s p else 0) := ⟨_, rfl⟩
      rw [← e5, hd, Bool.not_false, Bool.true_or] at r5
      rw [← hx]
      have P5 := Lib.hid (P4.out.step b5 r5)
      obtain ⟨c0, c1, c2, c3, c4, c5⟩ := r5
      clear hd e5 hx b5 i5
      go_wp2_with fail
      go_step3
      exact ⟨rfl, HPO.out, ⟨_, _, _, _, P5.out⟩, _, _, _, _, _, _, _, _, _, _, _, _, _, _, _, _, _, _, _, _, _, _, _, _, _, _, _, _, _, _, _, _, _, _, _, _, _, _, _, _, _, _, _, _, _, _, _, _, _, _, _, _, rfl⟩
    | true =>
      obtain ⟨hp10, hva⟩ := E3.out hd
      subst hp10
      have HVA := Lib.hid hva
      have HDT := Lib.hid hd
      cases hmk : okM s 10 [84, 116] with
      | false =>
        have HPO : Hid (pOk s = false) := Lib.hid (by
          have : okMark s = false := by rw [← okM_T]; exact hmk
          unfold pOk; rw [this]; simp)
        rw [hd, hmk] at r5
        try rw [hmk]
        simp only [Bool.false_eq_true, if_false, Bool.not_false, Bool.or_true] at r5 ⊢
        have P5 := Lib.hid (P4.out.step b5 r5)
        obtain ⟨c0, c1, c2, c3, c4, c5⟩ := r5
        clear hd hmk b5 i5 hva
        go_wp2_with fail
        go_step3
        exact ⟨rfl, HPO.out, ⟨_, _, _, _, P5.out⟩, _, _, _, _, _, _, _, _, _, _, _, _, _, _, _, _, _, _, _, _, _, _, _, _, _, _, _, _, _, _, _, _, _, _, _, _, _, _, _, _, _, _, _, _, _, _, _, _, _, _, _, _, rfl⟩
      | true =>
        have HMK : Hid (okMark s = true) := Lib.hid (by rw [← okM_T]; exact hmk)
        have h11 : 11 ≤ s.size := i5 hmk
        rw [hd, hmk] at r5
        try rw [hmk]
        simp only [if_true, Bool.not_true, Bool.or_false] at r5 ⊢
        have P5 := Lib.hid (P4.out.step b5 r5)
        have P5d := Lib.hid (P5.out.dr)
        obtain ⟨c0, c1, c2, c3, c4, c5⟩ := r5
        obtain ⟨-, -, d1, d2, d3, d4, f1, f2, f3, f4⟩ := P5.out
        clear hd hmk b5 i5 hva P4
        obtain ⟨x, hx⟩ : ∃ x, x = bt s 10 := ⟨_, rfl⟩
        rw [← hx]
        clear hx
        go_upto_region 6 with fail
        go_cut [] (fun wx => ∃ t p6 : Nat, PS w.heap.size w wx s p6 (!okTime s) ((v : Int) * 86400 + t) 0 ∧ t < 86400 ∧ p6 ≤ s.size ∧ (okTime s = true → p6 = 19 ∧ t = timeS s))
        case first =>
          go_region_with (go_at_call 40; refine (time_any (w.heap.size + 1 + 1) s w5.drew (HL.out _ P5d.out.2.1) (by omega) P5d.out.1 HS.out h11).mono ?_; rintro e w6 ⟨t, p6, rfl, ht, hp6, r6, e6, b6⟩; have P6 := Lib.hid (P5d.out.step b6 r6); have E6 := Lib.hid e6; obtain ⟨-, -, g1, g2, g3, g4, k1, k2, k3, k4⟩ := P6.out; clear e6 b6 r6)
          all_goals (go_wp2_with fail; go_meet; exact ⟨t, p6, by rw [IntWalk.i64_in _ (by omega)]; exact P6.out.set0 _, ht, hp6, E6.out⟩)
        case rest =>
          obtain ⟨t, p6, hP6, ht, hp6, he6⟩ := hcut
          have P6 := Lib.hid hP6
          have E6 := Lib.hid he6
          clear c0 c1 c2 c3 c4 c5 d1 d2 d3 d4 f1 f2 f3 f4 hP6 he6 P5 P5d
          go_wp2_with fail
          refine (nano_any (w.heap.size + 1 + 1) s p6 _ wc P6.out.1 HS.out hp6).mono ?_
          rintro e w7 ⟨rfl, r7, b7⟩
          have P7a := Lib.hid (P6.out.step b7 r7)
          have P7 := Lib.hid (P7a.out.set1 (fracV s p6 : Nat))
          have hp7 : fracE s p6 ≤ s.size := by
            unfold fracE
            split
            · rename_i h46
              have := bt_in s p6 (by rw [h46]; decide)
              exact fcount_room 9 (p6 + 1) (by omega)
            · exact hp6
          obtain ⟨n7, hn7⟩ : ∃ n7, n7 = fracV s p6 := ⟨_, rfl⟩
          obtain ⟨p7, hq7⟩ : ∃ p7, p7 = fracE s p6 := ⟨_, rfl⟩
          have HN7 := Lib.hid hn7
          have HP7 := Lib.hid hq7
          rw [← hn7, ← hq7] at P7
          rw [← hq7] at hp7
          rw [← hn7]
          obtain ⟨-, -, d1, d2, d3, d4, f1, f2, f3, f4⟩ := P7a.out
          clear r7 b7 hn7 hq7
          go_wp2_with fail
          obtain ⟨w8, hw8⟩ : ∃ w8, w8 = w7.setCell ⟨w.heap.size + 1, 1, none⟩ (.int .i64 (n7 : Int)) := ⟨_, rfl⟩
          rw [← hw8] at P7 ⊢
          clear hw8 d1 d2 d3 d4 f1 f2 f3 f4 P7a P6
          obtain ⟨-, -, d1, d2, d3, d4, f1, f2, f3, f4⟩ := P7.out
          have P8d := Lib.hid (P7.out.dr)
          go_upto_region 8 with fail
          go_cut [] (fun wx => ∃ (o : Int) (p8 : Nat), PS w.heap.size w wx s p8 ((!okTime s || !fracOk s p6) || !offOk s p7) ((v : Int) * 86400 + t - o) n7 ∧ -90000 ≤ o ∧ o ≤ 90000 ∧ p8 ≤ s.size ∧ ((!okTime s || !fracOk s p6) = false → offOk s p7 = true → p8 = p7 + offL s p7 ∧ o = offV s p7))
          case first =>
            go_region_with (go_at_call 42; refine (offset_any (w.heap.size + 1 + 1) s p7 _ w8.drew (HL.out _ P8d.out.2.1) (by omega) P8d.out.1 HS.out hp7).mono ?_; rintro e w9 ⟨o, p8, rfl, ho1, ho2, hp8, r8, e8, b8⟩; have P9 := Lib.hid (P8d.out.step b8 r8); have E8 := Lib.hid e8; obtain ⟨-, -, g1, g2, g3, g4, k1, k2, k3, k4⟩ := P9.out; clear e8 b8 r8)
            all_goals (go_wp2_with fail; go_meet; exact ⟨o, p8, by rw [IntWalk.i64_in _ (by omega)]; exact P9.out.set0 _, ho1, ho2, hp8, E8.out⟩)
          case rest =>
            obtain ⟨o, p8, hP9, ho1, ho2, hp8, he8⟩ := hcut
            have P9 := Lib.hid hP9
            have E8 := Lib.hid he8
            clear d1 d2 d3 d4 f1 f2 f3 f4 hP9 he8 P7 P8d
            obtain ⟨S9, hS9⟩ : ∃ S9 : Int, S9 = (v : Int) * 86400 + t - o := ⟨_, rfl⟩
            have HS9 := Lib.hid hS9
            have hs9 : -100000 ≤ S9 ∧ S9 ≤ 400000000000 := by omega
            obtain ⟨hs91, hs92⟩ := hs9
            obtain ⟨b9, hb9⟩ : ∃ b9, b9 = ((!okTime s || !fracOk s p6) || !offOk s p7) := ⟨_, rfl⟩
            have HB9 := Lib.hid hb9
            rw [← hS9, ← hb9] at P9
            clear hS9 hb9
            cases b9 with
            | true =>
              have HPO : Hid (pOk s = false) := Lib.hid (parse_no E6.out HP7.out HB9.out.symm)
              obtain ⟨⟨c0, c1, c2, c3, c4, c5⟩, -, d1, d2, d3, d4, f1, f2, f3, f4⟩ := P9.out
              go_wp2_with fail
              go_step3
              exact ⟨rfl, HPO.out, ⟨_, _, _, _, P9.out⟩, _, _, _, _, _, _, _, _, _, _, _, _, _, _, _, _, _, _, _, _, _, _, _, _, _, _, _, _, _, _, _, _, _, _, _, _, _, _, _, _, _, _, _, _, _, _, _, _, _, _, _, _, rfl⟩
            | false =>
              have HY := Lib.hid (parse_yes HDT.out HMK.out HVA.out E6.out HP7.out E8.out HB9.out.symm)
              obtain ⟨⟨c0, c1, c2, c3, c4, c5⟩, -, d1, d2, d3, d4, f1, f2, f3, f4⟩ := P9.out
              by_cases hlt : p8 < s.size
              · have HPO : Hid (pOk s = false) := Lib.hid (by rw [HY.out.1, decide_eq_false (by omega)]; rfl)
                have hlt' : (p8 : Int) < s.size := by omega
                have hlt2 : decide (p8 < s.size) = true := by simpa using hlt
                clear hlt
                go_wp2_with fail
                go_step3
                exact ⟨rfl, HPO.out, ⟨_, _, _, _, P9.out⟩, _, _, _, _, _, _, _, _, _, _, _, _, _, _, _, _, _, _, _, _, _, _, _, _, _, _, _, _, _, _, _, _, _, _, _, _, _, _, _, _, _, _, _, _, _, _, _, _, _, _, _, _, rfl⟩
              · have hlt2 : decide (p8 < s.size) = false := by simpa using hlt
                have HPO : Hid (pOk s = may S9 n7) := Lib.hid (by rw [HY.out.1, decide_eq_true (by omega), Bool.true_and, ← HY.out.2.1, ← HS9.out, ← HY.out.2.2, ← HN7.out])
                have HFS : Hid (S9 = secS s) := Lib.hid (by rw [HS9.out]; exact HY.out.2.1)
                have HFN : Hid (n7 = fracV s 19) := Lib.hid (by rw [HN7.out]; exact HY.out.2.2)
                have HC := Lib.hid (fun W => check_any S9 n7 W)
                have hch : chD S9 n7 = if may S9 n7 = true then 0 else 120 := rfl
                clear hlt
                cases hm : may S9 n7 with
                | false =>
                  rw [hm] at HPO hch
                  have HCH : Hid (chD S9 n7 = 120) := Lib.hid hch
                  clear hch hm
                  go_wp2_with fail
                  refine (HC.out _).mono ?_
                  rintro e w10 ⟨rfl, b10⟩
                  rw [HCH.out]
                  have P10' := Lib.hid (P9.out.up b10)
                  clear b10
                  go_wp2_with fail
                  go_step3
                  exact ⟨rfl, HPO.out, ⟨_, _, _, _, P10'.out⟩, _, _, _, _, _, _, _, _, _, _, _, _, _, _, _, _, _, _, _, _, _, _, _, _, _, _, _, _, _, _, _, _, _, _, _, _, _, _, _, _, _, _, _, _, _, _, _, _, _, _, _, _, rfl⟩
                | true =>
                  rw [hm] at HPO hch
                  have HCH : Hid (chD S9 n7 = 0) := Lib.hid hch
                  have HR1 : Hid (pS s = S9) := Lib.hid (by unfold pS; rw [HPO.out, if_pos rfl, HFS.out])
                  have HR2 : Hid (pN s = n7) := Lib.hid (by unfold pN; rw [HPO.out, if_pos rfl, HFN.out])
                  have HR3 : Hid (pE s = 0) := Lib.hid (by unfold pE; rw [HPO.out, if_pos rfl])
                  clear hch hm
                  go_wp2_with fail
                  refine (HC.out _).mono ?_
                  rintro e w10 ⟨rfl, b10⟩
                  rw [HCH.out]
                  have P10' := Lib.hid (P9.out.up b10)
                  clear b10 c0 c1 c2 c3 c4 c5 d1 d2 d3 d4 f1 f2 f3 f4
                  obtain ⟨-, -, d1, d2, d3, d4, f1, f2, f3, f4⟩ := P10'.out
                  go_wp2_with fail
                  simp only [Exit.jump]
                  refine ret14 (N := w.heap.size) (a := S9) (b := n7) (c := 0) (by rfl) (by rfl) ((World.cell?_setCell_other _ _ _ _ (by simp)).trans (World.cell?_setCell_same _ _ _ d1)) (World.cell?_setCell_same _ _ _ ((World.cell?_setCell_other _ _ _ _ (by simp)).trans d2)) ?_
                  rw [HR1.out, HR2.out, HR3.out]
                  exact ⟨rfl, (P10'.out.2.1.setCell (Nat.le_refl _) _).setCell (Nat.le_refl _) _⟩
  · rintro a w' ⟨hpo, ⟨p, b, S, n, hP⟩, u1, u3, u4, u5, u6, u7, u8, u9, u10, u11, u12, u13, u14, u15, u16, u17, u18, u19, u20, u21, u22, u23, u24, u25, u26, u27, u28, u29, u30, u31, u32, u33, u34, u35, u36, u37, u38, u39, u40, u41, u42, u43, u44, u45, u46, u47, u48, u49, u50, u51, u52, u53, rfl⟩
    have HP := Lib.hid hP
    have HR1 : Hid (pS s = 0) := Lib.hid (by unfold pS; rw [hpo]; rfl)
    have HR2 : Hid (pN s = 0) := Lib.hid (by unfold pN; rw [hpo]; rfl)
    have HR3 : Hid (pE s = 120) := Lib.hid (by unfold pE; rw [hpo]; rfl)
    obtain ⟨-, -, d1, d2, d3, d4, f1, f2, f3, f4⟩ := HP.out
    clear hP hpo
    dsimp only
    go_wp2_with fail
    simp only [Exit.jump]
    refine ret14 (N := w.heap.size) (a := 0) (b := 0) (c := 120) (by rfl) (by rfl) ((World.cell?_setCell_other _ _ _ _ (by simp)).trans (World.cell?_setCell_same _ _ _ d1)) (World.cell?_setCell_same _ _ _ ((World.cell?_setCell_other _ _ _ _ (by simp)).trans d2)) ?_
    rw [HR1.out, HR2.out, HR3.out]
    exact ⟨rfl, (HP.out.2.1.setCell (Nat.le_refl _) _).setCell (Nat.le_refl _) _⟩
end Go.Proofs.YtfphejndbnmfeaaDoor
