import Derived.Test.YtfphejndbnmfeaaDoorD22
import Derived.IntWalk
namespace Go.Proofs.YtfphejndbnmfeaaDoor
open Go.RowKit

theorem next_day {D y r m d y' r' m' d' : Nat} (h1 : OnYear D y r) (h2 : OnMonth y r m d) (g1 : OnYear (D + 1) y' r') (g2 : OnMonth y' r' m' d') :
    m < 12 ∧ d < 31 ∧ ((y' = y ∧ m' = m ∧ d' = d + 1) ∨ (y' = y ∧ m' = m + 1 ∧ d' = 0 ∧ 27 ≤ d) ∨ (y' = y + 1 ∧ m' = 0 ∧ d' = 0 ∧ m = 11 ∧ d = 30)) := by
  have hm : m < 12 := month_lt h1.2 (by have := h2.1; omega)
  have hd := dim_two y m hm
  have hdd := h2.2
  refine ⟨hm, by omega, ?_⟩
  by_cases hr : r + 1 < ylen y
  · have k1 : OnYear (D + 1) y (r + 1) := ⟨by have := h1.1; omega, hr⟩
    obtain ⟨rfl, rfl⟩ := year_uniq g1 k1
    by_cases hq : d + 1 < dim y' (m + 1)
    · obtain ⟨rfl, rfl⟩ := month_uniq g2 (⟨by have := h2.1; omega, hq⟩ : OnMonth y' (r + 1) m (d + 1))
      exact .inl ⟨rfl, rfl, rfl⟩
    · have hc : cumM y' (m + 1) = r + 1 := by
        show cumM y' m + dim y' (m + 1) = r + 1
        have := h2.1; omega
      have hm1 : m + 1 < 12 := month_lt hr (by omega)
      have := (dim_two y' (m + 1) hm1).1
      obtain ⟨rfl, rfl⟩ := month_uniq g2 (⟨by omega, by omega⟩ : OnMonth y' (r + 1) (m + 1) 0)
      exact .inr (.inl ⟨rfl, rfl, rfl, by omega⟩)
  · have hr2 : r + 1 = ylen y := by have := h1.2; omega
    have k1 : OnYear (D + 1) (y + 1) 0 := ⟨by show cum y + ylen y + 0 = D + 1; have := h1.1; omega, by have := (ylen_two (y + 1)).1; omega⟩
    obtain ⟨rfl, rfl⟩ := year_uniq g1 k1
    have := (dim_two (y + 1) 0 (by omega)).1
    obtain ⟨rfl, rfl⟩ := month_uniq g2 (⟨rfl, by omega⟩ : OnMonth (y + 1) 0 0 0)
    have d12 : dim y 12 = 31 := by unfold dim; rw [if_neg (by omega)]; rfl
    have c12 : cumM y 11 + dim y 12 = ylen y := by
      have := cumM_12 y
      exact this
    obtain ⟨rfl, rfl⟩ := month_uniq h2 (⟨by omega, by rw [show 11 + 1 = 12 from rfl, d12]; omega⟩ : OnMonth y r 11 30)
    exact .inr (.inr ⟨rfl, rfl, rfl, rfl, rfl⟩)
theorem b2i_any (b : Bool) (w : World) : Calls Tryd.prog 27 #[.bool b] w fun e w' => e = .returned (.int .i64 (if b then 1 else 0)) ∧ w = w' := by
  cases b
  · go_enter Tryd.func27, Tryd.ntmps27
    go_wp2_with fail
    go_ret
    exact ⟨rfl, rfl⟩
  · go_enter Tryd.func27, Tryd.ntmps27
    go_wp2_with fail
    go_ret
    exact ⟨rfl, rfl⟩
/-- A DateTime lies in a block that may be written. -/
def FBox (w : World) (B : Nat) (a c : Int) : Prop := DBox w B a c ∧ w.frozen? ⟨B, 0, none⟩ = false ∧ w.frozen? ⟨B, 1, none⟩ = false
theorem FBox.up {w w' : World} {B : Nat} {a c : Int} (h : FBox w B a c) (hb : Below w.heap.size w w') : FBox w' B a c :=
  ⟨h.1.up hb, (hb.frozen (p := ⟨B, 0, none⟩) h.1.2.2).trans h.2.1, (hb.frozen (p := ⟨B, 1, none⟩) h.1.2.2).trans h.2.2⟩
theorem frozen_new (W : World) (C : Array Value) (T : TypeId) (j : Nat) : (W.alloc (.cells C T)).frozen? ⟨W.heap.size, j, none⟩ = false := by
  simp only [World.frozen?]
  rw [heap_alloc_new]
  simp
theorem FBox.new (w : World) (a c : Int) : FBox (w.alloc (.cells #[.int .i64 a, .int .i64 c] 23)) w.heap.size a c := ⟨DBox.new w a c, frozen_new _ _ _ _, frozen_new _ _ _ _⟩
theorem FBox.set0 {w : World} {B : Nat} {a c : Int} (h : FBox w B a c) (x : Int) : FBox (w.setCell ⟨B, 0, none⟩ (.int .i64 x)) B x c :=
  ⟨⟨World.cell?_setCell_same _ _ _ h.1.1, (World.cell?_setCell_other _ _ _ _ (by simp)).trans h.1.2.1, by simpa [World.setCell] using h.1.2.2⟩, (World.frozen?_setCell _ _ _ _).trans h.2.1, (World.frozen?_setCell _ _ _ _).trans h.2.2⟩
theorem FBox.set1 {w : World} {B : Nat} {a c : Int} (h : FBox w B a c) (x : Int) : FBox (w.setCell ⟨B, 1, none⟩ (.int .i64 x)) B a x :=
  ⟨⟨(World.cell?_setCell_other _ _ _ _ (by simp)).trans h.1.1, World.cell?_setCell_same _ _ _ h.1.2.1, by simpa [World.setCell] using h.1.2.2⟩, (World.frozen?_setCell _ _ _ _).trans h.2.1, (World.frozen?_setCell _ _ _ _).trans h.2.2⟩
theorem FBox.other {w : World} {B : Nat} {a c : Int} (h : FBox w B a c) (p : Addr) (hp : p.block ≠ B) (v : Value) : FBox (w.setCell p v) B a c :=
  ⟨⟨(World.cell?_setCell_other _ _ _ _ (by intro e; subst e; exact hp rfl)).trans h.1.1, (World.cell?_setCell_other _ _ _ _ (by intro e; subst e; exact hp rfl)).trans h.1.2.1, by simpa [World.setCell] using h.1.2.2⟩, (World.frozen?_setCell _ _ _ _).trans h.2.1, (World.frozen?_setCell _ _ _ _).trans h.2.2⟩
theorem FBox.dr {w : World} {B : Nat} {a c : Int} (h : FBox w B a c) : FBox w.drew B a c := h.up (Below.refl _ _).drew
set_option maxRecDepth 20000 in
set_option maxHeartbeats 4000000 in
theorem next_bad (a c : Int) (w : World) (hT : Tabs w) (h1 : -9223372036854775808 ≤ a) (h2 : a ≤ 9223372036854775807) (hm : may a c = false) :
    Calls Tryd.prog 9 #[.agg #[.int .i64 a, .int .i64 c]] w fun e w' => e = .returned (.bool true) ∧ Below w.heap.size w w' := by
  have HTb := Lib.hid (fun W (hb : Below w.heap.size w W) => hT.on hb)
  have HD := Lib.hid (fun W => date_bad a c W hm)
  clear hT hm
  go_enter Tryd.func9, Tryd.ntmps9
  go_wp2_with fail
  obtain ⟨w0, hw0⟩ : ∃ w0, w0 = w.alloc (.cells #[.int .i64 a, .int .i64 c] 23) := ⟨_, rfl⟩
  have D0 : Hid (FBox w0 w.heap.size a c) := Lib.hid (by rw [hw0]; exact FBox.new w a c)
  have B0 : Hid (Below w.heap.size w w0) := Lib.hid (by rw [hw0]; exact (Below.refl _ w).alloc (Nat.le_refl _) _)
  rw [← hw0]
  clear hw0
  refine (alive_any w0 (HTb.out _ B0.out)).mono ?_
  rintro e w1 ⟨rfl, b⟩
  have D1 := Lib.hid (D0.out.up b)
  have B1 := Lib.hid (B0.out.trans (b.mono B0.out.size))
  obtain ⟨⟨d0, d1, -⟩, -, -⟩ := D1.out
  clear b
  go_wp2_with fail
  clear d0 d1
  refine (HD.out _).mono ?_
  rintro e w2 ⟨rfl, b⟩
  have D2 := Lib.hid (D1.out.up b)
  have B2 := Lib.hid (B1.out.trans (b.mono B1.out.size))
  obtain ⟨⟨d0, d1, -⟩, f0, f1⟩ := D2.out
  clear b
  go_upto_region 3 with fail
  go_cut [] (fun wx => FBox wx w.heap.size a c ∧ Below w.heap.size w wx)
  case first =>
    go_region_with (go_at_call 27; refine (b2i_any _ _).mono ?_; rintro e w3 ⟨rfl, rfl⟩)
    all_goals (go_wp2_with fail; go_meet; exact ⟨by rw [IntWalk.i64_in 0 (by omega), IntWalk.i64_in (a + 0) (by omega), Int.add_zero]; exact (D2.out.set0 _).dr, (B2.out.setCell (p := ⟨w.heap.size, 0, none⟩) (Nat.le_refl _) _).drew⟩)
  case rest =>
    obtain ⟨hD3, hB3⟩ := hcut
    have D3 := Lib.hid hD3
    have B3 := Lib.hid hB3
    obtain ⟨⟨e0, e1, -⟩, -, -⟩ := hD3
    clear hB3 d0 d1 f0 f1
    go_wp2_with fail
    clear e0 e1
    refine (HD.out _).mono ?_
    rintro e w4 ⟨rfl, b⟩
    have B4 := Lib.hid (B3.out.trans (b.mono B3.out.size))
    clear b
    go_wp2_with fail
    go_ret
    exact ⟨rfl, B4.out⟩
set_option maxRecDepth 20000 in
set_option maxHeartbeats 8000000 in
theorem next_ok (S N : Nat) (w : World) (hT : Tabs w) (hm : may S N = true) :
    Calls Tryd.prog 9 #[.agg #[.int .i64 S, .int .i64 N]] w fun e w' => e = .returned (.bool true) ∧ Below w.heap.size w w' := by
  have HTb := Lib.hid (fun W (hb : Below w.heap.size w W) => hT.on hb)
  have HD := Lib.hid (fun W (hb : Below w.heap.size w W) => date_ok S N W (hT.on hb).1 hm)
  have hS2 : S ≤ 315569519999 := by have := (may_iff _ _).1 hm; omega
  have HD2 := Lib.hid (fun W (hb : Below w.heap.size w W) (h : may ((S + 86400 : Nat) : Int) N = true) => date_ok (S + 86400) N W (hT.on hb).1 h)
  have HD3 := Lib.hid (fun W (h : may ((S + 86400 : Nat) : Int) N = false) => date_bad _ _ W h)
  have HS2 := Lib.hid hS2
  have HDV : Hid ((S + 86400) / 86400 = S / 86400 + 1) := Lib.hid (by omega)
  obtain ⟨a, ha⟩ : ∃ a : Int, a = S := ⟨_, rfl⟩
  obtain ⟨c, hc⟩ : ∃ c : Int, c = N := ⟨_, rfl⟩
  have hab : 0 ≤ a ∧ a ≤ 315569519999 := by omega
  obtain ⟨hab1, hab2⟩ := hab
  rw [← ha, ← hc] at HD
  rw [show ((S + 86400 : Nat) : Int) = a + 86400 by omega, ← hc] at HD2
  rw [show ((S + 86400 : Nat) : Int) = a + 86400 by omega, ← hc] at HD3
  rw [← ha, ← hc]
  clear hT hm ha hc hS2
  go_enter Tryd.func9, Tryd.ntmps9
  go_wp2_with fail
  obtain ⟨w0, hw0⟩ : ∃ w0, w0 = w.alloc (.cells #[.int .i64 a, .int .i64 c] 23) := ⟨_, rfl⟩
  have D0 : Hid (FBox w0 w.heap.size a c) := Lib.hid (by rw [hw0]; exact FBox.new w a c)
  have B0 : Hid (Below w.heap.size w w0) := Lib.hid (by rw [hw0]; exact (Below.refl _ w).alloc (Nat.le_refl _) _)
  rw [← hw0]
  clear hw0
  refine (alive_any w0 (HTb.out _ B0.out)).mono ?_
  rintro e w1 ⟨rfl, b⟩
  have D1 := Lib.hid (D0.out.up b)
  have B1 := Lib.hid (B0.out.trans (b.mono B0.out.size))
  obtain ⟨⟨d0, d1, -⟩, -, -⟩ := D1.out
  clear b
  go_wp2_with fail
  clear d0 d1
  refine (HD.out _ B1.out).mono ?_
  rintro e w2 ⟨⟨y, r, m, d, rfl, hY, hM⟩, b⟩
  have HY := Lib.hid hY
  have HM := Lib.hid hM
  clear hY hM
  have D2 := Lib.hid (D1.out.up b)
  have B2 := Lib.hid (B1.out.trans (b.mono B1.out.size))
  obtain ⟨⟨d0, d1, -⟩, f0, f1⟩ := D2.out
  clear b
  go_upto_region 3 with fail
  go_cut [] (fun wx => FBox wx w.heap.size (a + 86400) c ∧ Below w.heap.size w wx)
  case first =>
    go_region_with (go_at_call 27; refine (b2i_any _ _).mono ?_; rintro e w3 ⟨rfl, rfl⟩)
    all_goals (go_wp2_with fail; go_meet; exact ⟨by rw [IntWalk.i64_in 86400 (by omega), IntWalk.i64_in (a + 86400) (by omega)]; exact (D2.out.set0 _).dr, (B2.out.setCell (p := ⟨w.heap.size, 0, none⟩) (Nat.le_refl _) _).drew⟩)
  case rest =>
    obtain ⟨hD3, hB3⟩ := hcut
    have D3 := Lib.hid hD3
    have B3 := Lib.hid hB3
    obtain ⟨⟨e0, e1, -⟩, -, -⟩ := hD3
    clear hB3 d0 d1 f0 f1
    go_wp2_with fail
    clear e0 e1
    cases hm2 : may (a + 86400) c with
    | false =>
      refine (HD3.out _ hm2).mono ?_
      rintro e w4 ⟨rfl, b⟩
      have B4 := Lib.hid (B3.out.trans (b.mono B3.out.size))
      clear b hm2
      go_wp2_with fail
      go_ret
      exact ⟨rfl, B4.out⟩
    | true =>
      refine (HD2.out _ B3.out hm2).mono ?_
      rintro e w4 ⟨⟨y', r', m', d', rfl, hY, hM⟩, b⟩
      rw [HDV.out] at hY
      have B4 := Lib.hid (B3.out.trans (b.mono B3.out.size))
      have hyb : y < 10000 := year_lt (by have := HY.out.1; omega) (show S / 86400 ≤ 3652424 by have := HS2.out; omega)
      obtain ⟨hm12, hd31, hn⟩ := next_day HY.out HM.out hY hM
      clear b hm2 hY hM
      rcases hn with ⟨rfl, rfl, rfl⟩ | ⟨rfl, rfl, rfl, hd27⟩ | ⟨hyy, rfl, rfl, hm11, hd30⟩
      · have k1 : decide ((m' : Int) + 1 < 1) = false := decide_eq_false (by omega)
        have k2 : decide (12 < (m' : Int) + 1) = false := decide_eq_false (by omega)
        have k3 : decide ((d : Int) + 1 < 1) = false := decide_eq_false (by omega)
        have k4 : decide (31 < (d : Int) + 1) = false := decide_eq_false (by omega)
        go_wp2_with fail
        go_ret
        exact ⟨rfl, B4.out⟩
      · have k1 : decide ((m : Int) + 1 < 1) = false := decide_eq_false (by omega)
        have k2 : decide (12 < (m : Int) + 1) = false := decide_eq_false (by omega)
        have k3 : decide ((d : Int) + 1 < 1) = false := decide_eq_false (by omega)
        have k4 : decide (31 < (d : Int) + 1) = false := decide_eq_false (by omega)
        have k5 : ((m : Int) + 1 + 1 == (m : Int) + 1) = false := beq_eq_false_iff_ne.2 (by omega)
        have k6 : decide ((28 : Int) ≤ (d : Int) + 1) = true := by simp; omega
        go_wp2_with fail
        go_ret
        exact ⟨rfl, B4.out⟩
      · have k1 : decide ((m : Int) + 1 < 1) = false := decide_eq_false (by omega)
        have k2 : decide (12 < (m : Int) + 1) = false := decide_eq_false (by omega)
        have k3 : decide ((d : Int) + 1 < 1) = false := decide_eq_false (by omega)
        have k4 : decide (31 < (d : Int) + 1) = false := decide_eq_false (by omega)
        have k5 : ((y' : Int) == (y : Int)) = false := beq_eq_false_iff_ne.2 (by omega)
        have k6 : ((y' : Int) == (y : Int) + 1) = true := beq_iff_eq.2 (by omega)
        have k7 : ((m : Int) + 1 == 12) = true := beq_iff_eq.2 (by omega)
        have k8 : ((d : Int) + 1 == 31) = true := beq_iff_eq.2 (by omega)
        clear hm12 hd31 hm11 hd30 hyy
        go_wp2_with fail
        go_ret
        exact ⟨rfl, B4.out⟩
theorem next_law (a c : Int) (w : World) (hT : Tabs w) (h1 : -9223372036854775808 ≤ a) (h2 : a ≤ 9223372036854775807) (_ : -9223372036854775808 ≤ c) (_ : c ≤ 9223372036854775807) :
    Calls Tryd.prog 9 #[.agg #[.int .i64 a, .int .i64 c]] w fun e w' => e = .returned (.bool true) ∧ Below w.heap.size w w' := by
  cases hm : may a c with
  | false => exact next_bad a c w hT h1 h2 hm
  | true =>
    have h := (may_iff _ _).1 hm
    obtain ⟨S, rfl⟩ := Int.eq_ofNat_of_zero_le h.1
    obtain ⟨N, rfl⟩ := Int.eq_ofNat_of_zero_le h.2.2.1
    exact next_ok S N w hT hm
end Go.Proofs.YtfphejndbnmfeaaDoor
