import Derived.Test.YtfphejndbnmfeaaDoorU1b
import Derived.Test.YtfphejndbnmfeaaDoorU5
import Derived.Deep.QuietTactic
namespace Go.Proofs.YtfphejndbnmfeaaDoor
open Go.RowKit

theorem below_dr {B : Nat} {w w1 : World} (h : Below B w w1) (n : Nat) : Below B w (w1.drewN n) := by
  induction n with
  | zero => exact h
  | succ n ih => exact ih.drew
theorem arr_dr {w : World} {b : Nat} {L : List Int} (h : Arr w b L) (n : Nat) : Arr (w.drewN n) b L := h.below (below_dr (Below.refl w.heap.size w) n) h.1
set_option maxRecDepth 10000 in
theorem rcompare_any (A B : List Int) (hA : A.length = 16) (hB : B.length = 16) (w : World) :
    Calls Tryd.prog 37 #[arV A, arV B] w fun e w' => e = .returned (.int .i64 (cmpA A B)) ∧ Below w.heap.size w w' := by
  have sA : (arC A).size = 16 := by rw [arC_size, hA]
  have sB : (arC B).size = 16 := by rw [arC_size, hB]
  have h1 : Arr ((w.alloc (.cells (arC A) 50)).alloc (.cells (arC B) 50)) w.heap.size A := (arr_new w A 50 hA).alloc _
  have h2 : Arr ((w.alloc (.cells (arC A) 50)).alloc (.cells (arC B) 50)) (w.heap.size + 1) B := by
    have := arr_new (w.alloc (.cells (arC A) 50)) B 50 hB
    simpa using this
  have H1 := Lib.hid h1
  have H2 := Lib.hid h2
  have HBL : Hid (Below w.heap.size w ((w.alloc (.cells (arC A) 50)).alloc (.cells (arC B) 50))) := Lib.hid (((Below.refl _ w).alloc (Nat.le_refl _) _).alloc (by simp) _)
  clear h1 h2 hA hB sA sB
  unfold arV
  go_enter Tryd.func37, Tryd.ntmps37
  go_wp2_with fail
  obtain ⟨W, hW⟩ : ∃ W, W = (w.alloc (.cells (arC A) 50)).alloc (.cells (arC B) 50) := ⟨_, rfl⟩
  rw [← hW] at H1 H2 HBL
  rw [← hW]
  clear hW
  go_loopg [5] 16 (fun f k wr => ∃ j : Nat, f + j = 16 ∧ k = .int .i64 j ∧ cmpF A B f j = cmpA A B ∧ Arr wr w.heap.size A ∧ Arr wr (w.heap.size + 1) B ∧ Below w.heap.size w wr)
  case atStart => exact ⟨0, by omega, rfl, rfl, H1.out, H2.out, HBL.out⟩
  case round =>
    obtain ⟨j, hf, rfl, hc, ha, hb, hbl⟩ := hrel
    have HA := Lib.hid ha
    have HB := Lib.hid hb
    have HBW := Lib.hid hbl
    cases gk with
    | zero =>
      obtain rfl : j = 16 := by omega
      have HC := Lib.hid hc
      clear hc ha hb hbl
      go_wp2_with fail
      go_ret
      exact ⟨ret_int HC.out, HBW.out⟩
    | succ g =>
      have hj : j < 16 := by omega
      have hj' : (j : Int) < 16 := by omega
      have c1 := ha.2 j hj
      have c2 := hb.2 j hj
      have hc' : (if A.getD j 0 = B.getD j 0 then cmpF A B g (j + 1) else cmp1 (A.getD j 0) (B.getD j 0)) = cmpA A B := hc
      obtain ⟨x, hx⟩ : ∃ x, x = A.getD j 0 := ⟨_, rfl⟩
      obtain ⟨y, hy⟩ : ∃ y, y = B.getD j 0 := ⟨_, rfl⟩
      rw [← hx, ← hy] at hc'
      rw [← hx] at c1
      rw [← hy] at c2
      have HF := Lib.hid hf
      clear hc hx hy hf ha hb hbl
      by_cases h1 : x < y
      · rw [if_neg (by omega)] at hc'
        have HC : Hid (cmpA A B = -1) := Lib.hid (by rw [← hc']; unfold cmp1; rw [if_pos h1])
        clear hc'
        go_wp2_with fail
        go_quiet (fail)
        go_wp2_with fail
        go_ret
        exact ⟨ret_int HC.out.symm, below_dr HBW.out _⟩
      · by_cases h2 : y < x
        · rw [if_neg (by omega)] at hc'
          have HC : Hid (cmpA A B = 1) := Lib.hid (by rw [← hc']; unfold cmp1; rw [if_neg h1, if_pos h2])
          clear hc'
          go_wp2_with fail
          go_quiet (fail)
          go_wp2_with fail
          go_quiet (fail)
          go_wp2_with fail
          go_ret
          exact ⟨ret_int HC.out.symm, (by first | exact below_dr HBW.out _ | exact below_dr (below_dr HBW.out _) _)⟩
        · rw [if_pos (by omega)] at hc'
          have HC := Lib.hid hc'
          clear hc'
          go_wp2_with fail
          go_quiet (fail)
          go_wp2_with fail
          go_quiet (fail)
          go_wp2_with fail
          go_roundg g
          case rel => exact ⟨j + 1, by have := HF.out; omega, by go_num, HC.out, (by first | exact arr_dr HA.out _ | exact arr_dr (arr_dr HA.out _) _), (by first | exact arr_dr HB.out _ | exact arr_dr (arr_dr HB.out _) _), (by first | exact below_dr HBW.out _ | exact below_dr (below_dr HBW.out _) _)⟩
          case measure => omega
end Go.Proofs.YtfphejndbnmfeaaDoor
