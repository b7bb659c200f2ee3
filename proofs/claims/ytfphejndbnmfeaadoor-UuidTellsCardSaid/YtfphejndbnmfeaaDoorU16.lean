import Derived.Test.YtfphejndbnmfeaaDoorU15
import Derived.Test.YtfphejndbnmfeaaDoorU4
import Derived.IntWalk
namespace Go.Proofs.YtfphejndbnmfeaaDoor
open Go.RowKit

theorem setCell_drN (w : World) (a : Addr) (v : Value) : ∀ n, (w.drewN n).setCell a v = (w.setCell a v).drewN n
  | 0 => rfl
  | n + 1 => by
    show ((w.drewN n).drew).setCell a v = ((w.setCell a v).drewN n).drew
    rw [World.setCell_drew, setCell_drN w a v n]
/-- Two arrays that the call has made, behind some draws. -/
def X3 (w : World) (n : Nat) (L M : List Int) : World := (X2 w L M).drewN n
theorem X3_start (w : World) : (w.alloc (.cells #[.int .u8 0, .int .u8 0, .int .u8 0, .int .u8 0, .int .u8 0, .int .u8 0, .int .u8 0, .int .u8 0, .int .u8 0, .int .u8 0, .int .u8 0, .int .u8 0, .int .u8 0, .int .u8 0, .int .u8 0, .int .u8 0] 50)).alloc (.cells #[.int .u8 0, .int .u8 0, .int .u8 0, .int .u8 0, .int .u8 0, .int .u8 0, .int .u8 0, .int .u8 0, .int .u8 0, .int .u8 0, .int .u8 0, .int .u8 0, .int .u8 0, .int .u8 0, .int .u8 0, .int .u8 0] 50) = X3 w 0 z16 z16 := by
  unfold X3 X2
  rw [z_lit]; rfl
theorem X3_arr0 (w : World) (n : Nat) {L : List Int} (M : List Int) (h : L.length = 16) : Arr (X3 w n L M) w.heap.size L := arr_dr (X2_arr0 w M h) n
theorem X3_arr1 (w : World) (n : Nat) (L : List Int) {M : List Int} (h : M.length = 16) : Arr (X3 w n L M) (w.heap.size + 1) M := arr_dr (X2_arr1 w L h) n
theorem X3_frozen (w : World) (n : Nat) (L M : List Int) (b i : Nat) (hb : b = w.heap.size ∨ b = w.heap.size + 1) : (X3 w n L M).frozen? ⟨b, i, none⟩ = false := by
  have h := (below_dr (Below.refl (X2 w L M).heap.size (X2 w L M)) n).frozen (p := ⟨b, i, none⟩) (by rw [X2_size]; show b < _; omega)
  exact h.trans (X2_frozen w L M b i hb)
theorem X3_set0 (w : World) (n : Nat) (L M : List Int) (i : Nat) (x : Int) : (X3 w n L M).setCell ⟨w.heap.size, i, none⟩ (.int .u8 x) = X3 w n (L.set i x) M := by
  unfold X3; rw [setCell_drN, X2_set0]
theorem X3_set1 (w : World) (n : Nat) (L M : List Int) (i : Nat) (x : Int) : (X3 w n L M).setCell ⟨w.heap.size + 1, i, none⟩ (.int .u8 x) = X3 w n L (M.set i x) := by
  unfold X3; rw [setCell_drN, X2_set1]
theorem X3_below (w : World) (n : Nat) (L M : List Int) : Below w.heap.size w (X3 w n L M) := below_dr (X2_below w L M) n
theorem X3_dr (w : World) (n k : Nat) (L M : List Int) : (X3 w n L M).drewN k = X3 w (n + k) L M := by
  unfold X3; rw [World.drewN_drewN]
theorem X3_bad (w : World) (n : Nat) (M : List Int) (i : Nat) : (X3 w n z16 M).setCell ⟨w.heap.size, i, none⟩ (.int .u8 0) = X3 w n z16 M := by
  rw [X3_set0, z16_set]
theorem X3_zero (w : World) (n : Nat) (M : List Int) (i : Nat) (hi : i < 16) : (X3 w n z16 M).cell? ⟨w.heap.size, i, none⟩ = some (.int .u8 0) := by
  have := (X3_arr0 w n M (L := z16) rfl).2 i hi
  rw [z16_at] at this; exact this
theorem ret32 {R : Ending → World → Prop} {tmps : Array Value} {w : World} {b : Nat} {L : List Int} {e : Int} (h2 : tmps.getD 2 undef = .pointer (some ⟨b, 0, none⟩)) (h3 : tmps.getD 3 undef = .int .i64 e) (ha : Arr w b L) (hl : L.length = 16)
    (hR : R (.returned (.tuple #[arV L, .int .i64 e])) w) : bodyPost Tryd.prog Tryd.f32 R .ret ⟨tmps, []⟩ w := by
  refine bodyPost_ret (v := .tuple #[arV L, .int .i64 e]) ?_ rfl hR
  rw [results_cell_tmp (p := 2) (u := 3) (ty := 50) Tryd.results32, h2, h3]
  simp [asAddr, Result.andThen, load_arr ha hl]
theorem mk_step : ∀ j, j < 16 → mk (pos j) = false ∧ mk (pos j + 1) = false ∧ (mr j = true → mk (pos j + 2) = true) := by decide
theorem pos_end : pos 16 = 36 := by decide
theorem pos_le3 : ∀ j, j < 16 → pos j + 2 ≤ 36 ∧ (mr j = true → pos j + 3 ≤ 36) := by decide
theorem ok_two {s : ByteArray} {j : Nat} (hj : j < 16) (h : okTo s (pos j) = true) (h1 : 0 ≤ hx (byt s (pos j))) (h2 : 0 ≤ hx (byt s (pos j + 1))) : okTo s (pos j + 2) = true := by
  have m := mk_step j hj
  show okTo s (pos j + 1 + 1) = true
  simp only [okTo, m.1, m.2.1, h, Bool.true_and, Bool.and_eq_true]
  simp [h1, h2]
theorem ok_no1 {s : ByteArray} {j : Nat} (hj : j < 16) (h1 : hx (byt s (pos j)) < 0) : okTo s (pos j + 1) = false := by
  have m := mk_step j hj
  simp only [okTo, m.1]
  simp; intro _; omega
theorem ok_no2 {s : ByteArray} {j : Nat} (hj : j < 16) (h1 : hx (byt s (pos j + 1)) < 0) : okTo s (pos j + 1 + 1) = false := by
  have m := mk_step j hj
  have e : okTo s (pos j + 1 + 1) = (okTo s (pos j + 1) && (if mk (pos j + 1) then byt s (pos j + 1) == 45 else decide (0 ≤ hx (byt s (pos j + 1))))) := rfl
  rw [e, m.2.1]
  simp; intro _; omega
theorem ok_no3 {s : ByteArray} {j : Nat} (hj : j < 16) (hm : mr j = true) (h1 : byt s (pos j + 2) ≠ 45) : okTo s (pos j + 2 + 1) = false := by
  have m := (mk_step j hj).2.2 hm
  have e : okTo s (pos j + 2 + 1) = (okTo s (pos j + 2) && (if mk (pos j + 2) then byt s (pos j + 2) == 45 else decide (0 ≤ hx (byt s (pos j + 2))))) := rfl
  rw [e, m]
  simp [h1]
theorem ok_three {s : ByteArray} {j : Nat} (hj : j < 16) (hm : mr j = true) (h : okTo s (pos j + 2) = true) (h1 : byt s (pos j + 2) = 45) : okTo s (pos j + 2 + 1) = true := by
  have m := (mk_step j hj).2.2 hm
  have e : okTo s (pos j + 2 + 1) = (okTo s (pos j + 2) && (if mk (pos j + 2) then byt s (pos j + 2) == 45 else decide (0 ≤ hx (byt s (pos j + 2))))) := rfl
  rw [e, m, h, h1]; rfl
theorem pre_vb {s : ByteArray} (h : okTo s 36 = true) (hs : s.size = 36) : pre (vb s) 16 = upL s ∧ upE s = 0 := by
  have : okS s = true := by unfold okS; rw [h, hs]; rfl
  unfold upL upE
  rw [this]
  exact ⟨list16 (pre_length _ _) rfl (fun i hi => by rw [pre_at _ 16 i hi (Nat.le_refl _), if_pos rfl, upV_at s i hi]), rfl⟩
theorem rdigit_q (c : Int) (w : World) (h0 : 0 ≤ c) (h1 : c < 256) :
    Calls Tryd.prog 58 #[.int .u8 c] w fun e w' => e = .returned (.int .i64 (hx c)) ∧ w' = w := (rdigit_any c w h0 h1).mono fun _ _ h => ⟨h.1, h.2.symm⟩
end Go.Proofs.YtfphejndbnmfeaaDoor
