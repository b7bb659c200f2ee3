import Derived.Test.YtfphejndbnmfeaaDoorU0
namespace Go.Proofs.YtfphejndbnmfeaaDoor
open Go.RowKit

theorem nan_any (x : Int) (w : World) : Calls Tryd.prog 76 #[.int .u8 x] w fun e w' => e = .returned (.bool false) ∧ w = w' := by
  go_enter Tryd.func76, Tryd.ntmps76
  go_wp2_with fail
  go_ret
  exact ⟨by simp, rfl⟩
def cmp1 (x y : Int) : Int := if x < y then -1 else if y < x then 1 else 0
theorem cmp1_any (x y : Int) (w : World) : Calls Tryd.prog 59 #[.int .u8 x, .int .u8 y] w fun e w' => e = .returned (.int .i64 (cmp1 x y)) ∧ w = w' := by
  by_cases h : x < y
  · have hr := Lib.hid (show cmp1 x y = -1 by unfold cmp1; rw [if_pos h])
    go_enter Tryd.func59, Tryd.ntmps59
    go_wp2_with fail
    refine (nan_any _ _).mono ?_
    rintro e w' ⟨rfl, rfl⟩
    go_wp2_with fail
    refine (nan_any _ _).mono ?_
    rintro e w' ⟨rfl, rfl⟩
    go_wp2_with fail
    go_ret
    exact ⟨ret_int hr.out.symm, rfl⟩
  by_cases h2 : y < x
  · have hr := Lib.hid (show cmp1 x y = 1 by unfold cmp1; rw [if_neg h, if_pos h2])
    go_enter Tryd.func59, Tryd.ntmps59
    go_wp2_with fail
    refine (nan_any _ _).mono ?_
    rintro e w' ⟨rfl, rfl⟩
    go_wp2_with fail
    refine (nan_any _ _).mono ?_
    rintro e w' ⟨rfl, rfl⟩
    go_wp2_with fail
    go_ret
    exact ⟨ret_int hr.out.symm, rfl⟩
  · have hr := Lib.hid (show cmp1 x y = 0 by unfold cmp1; rw [if_neg h, if_neg h2])
    go_enter Tryd.func59, Tryd.ntmps59
    go_wp2_with fail
    refine (nan_any _ _).mono ?_
    rintro e w' ⟨rfl, rfl⟩
    go_wp2_with fail
    refine (nan_any _ _).mono ?_
    rintro e w' ⟨rfl, rfl⟩
    go_wp2_with fail
    go_ret
    exact ⟨ret_int hr.out.symm, rfl⟩

/-- The cells of an array of bytes. -/
def arC (L : List Int) : Array Value := (L.map (Value.int .u8)).toArray
def arV (L : List Int) : Value := .agg (arC L)
theorem arC_size (L : List Int) : (arC L).size = L.length := by simp [arC]
theorem arC_at {L : List Int} {k : Nat} (h : k < L.length) : (arC L)[k]? = some (.int .u8 (L.getD k 0)) := by
  simp [arC, h, List.getD]
/-- An array lies in a block of its own. -/
def Arr (w : World) (b : Nat) (L : List Int) : Prop := b < w.heap.size ∧ ∀ k, k < 16 → w.cell? ⟨b, k, none⟩ = some (.int .u8 (L.getD k 0))
theorem arr_new (w : World) (L : List Int) (t : TypeId) (h : L.length = 16) : Arr (w.alloc (.cells (arC L) t)) w.heap.size L := by
  refine ⟨by simp, fun k hk => ?_⟩
  simp only [World.cell?, heap_alloc_new]
  simpa using arC_at (L := L) (k := k) (by omega)
theorem Arr.below {w w' : World} {b B : Nat} {L : List Int} (h : Arr w b L) (hb : Below B w w') (hB : b < B) : Arr w' b L :=
  ⟨by have := hb.size; have := h.1; omega, fun k hk => (hb.cell (p := ⟨b, k, none⟩) hB).trans (h.2 k hk)⟩
theorem Arr.alloc {w : World} {b : Nat} {L : List Int} (h : Arr w b L) (o : Obj) : Arr (w.alloc o) b L :=
  h.below ((Below.refl w.heap.size w).alloc (Nat.le_refl _) o) h.1
theorem Arr.load {P : Program} {w : World} {b : Nat} {L : List Int} (h : Arr w b L) (hl : L.length = 16) : (loadCellsFrom ⟨b, 0, none⟩ 0 16 #[]).run P w = .ok (arC L) w := by
  have := run_loadCells_list (P := P) w ⟨b, 0, none⟩ (arC L).toList (fun j v hv => by
    have hadd : (⟨b, 0, none⟩ : Addr).add j = ⟨b, j, none⟩ := by unfold Addr.add; split <;> simp_all
    have hj : j < 16 := by
      have := (List.getElem?_eq_some_iff.1 hv).1
      simp [arC_size, hl] at this; exact this
    have e : (arC L)[j]? = some v := by simpa using hv
    rw [arC_at (by omega)] at e
    rw [hadd, h.2 j hj, e])
  have hs : (arC L).toList.length = 16 := by simp [arC_size, hl]
  rw [hs] at this
  simpa [loadCells] using this

theorem fold16 {C : Array Value} (h : C.size = 16) : (#[C[0], C[1], C[2], C[3], C[4], C[5], C[6], C[7], C[8], C[9], C[10], C[11], C[12], C[13], C[14], C[15]] : Array Value) = C := by
  apply Array.ext
  · simp [h]
  · intro i h1 h2
    have : i < 16 := by omega
    rcases (show i = 0 ∨ i = 1 ∨ i = 2 ∨ i = 3 ∨ i = 4 ∨ i = 5 ∨ i = 6 ∨ i = 7 ∨ i = 8 ∨ i = 9 ∨ i = 10 ∨ i = 11 ∨ i = 12 ∨ i = 13 ∨ i = 14 ∨ i = 15 by omega) with rfl | rfl | rfl | rfl | rfl | rfl | rfl | rfl | rfl | rfl | rfl | rfl | rfl | rfl | rfl | rfl <;> rfl
theorem run_index_arr (w : World) (cs : Array Value) (j : Nat) (v : Value) (hj : j < 16) (h : cs[j]? = some v) :
    (Instr.index 50 (.agg cs) (.int .i64 (j : Int))).run Tryd.prog w = .ok v w := by
  simp [Instr.index, asIntOf, run_underlying Tryd.underlying50, part, go_sem, hj, h]
def cmpF (A B : List Int) : Nat → Nat → Int
  | 0, _ => 0
  | f + 1, k => if A.getD k 0 = B.getD k 0 then cmpF A B f (k + 1) else cmp1 (A.getD k 0) (B.getD k 0)
def cmpA (A B : List Int) : Int := cmpF A B 16 0

set_option maxRecDepth 10000 in
theorem compare_any (A B : List Int) (hA : A.length = 16) (hB : B.length = 16) (w : World) :
    Calls Tryd.prog 36 #[arV A, arV B] w fun e w' => e = .returned (.int .i64 (cmpA A B)) ∧ Below w.heap.size w w' := by
  have sA : (arC A).size = 16 := by rw [arC_size, hA]
  have sB : (arC B).size = 16 := by rw [arC_size, hB]
  have h1 : Arr ((w.alloc (.cells (arC A) 50)).alloc (.cells (arC B) 50)) w.heap.size A := (arr_new w A 50 hA).alloc _
  have h2 : Arr ((w.alloc (.cells (arC A) 50)).alloc (.cells (arC B) 50)) (w.heap.size + 1) B := by
    have := arr_new (w.alloc (.cells (arC A) 50)) B 50 hB
    simpa using this
  have H1 := Lib.hid h1
  have H2 := Lib.hid h2
  have HA := Lib.hid hA
  have HB := Lib.hid hB
  have HBL : Hid (Below w.heap.size w ((w.alloc (.cells (arC A) 50)).alloc (.cells (arC B) 50))) := Lib.hid (((Below.refl _ w).alloc (Nat.le_refl _) _).alloc (by simp) _)
  clear h1 h2 hA hB
  unfold arV
  go_enter Tryd.func36, Tryd.ntmps36
  go_wp2_with fail
  rw [fold16 sA]
  obtain ⟨W, hW⟩ : ∃ W, W = (w.alloc (.cells (arC A) 50)).alloc (.cells (arC B) 50) := ⟨_, rfl⟩
  rw [← hW] at H1 H2 HBL
  rw [← hW]
  clear hW
  go_loopg [8] 16 (fun f k wr => ∃ j : Nat, f + j = 16 ∧ k = .int .i64 j ∧ cmpF A B f j = cmpA A B ∧ W = wr)
  case atStart => exact ⟨0, by omega, rfl, rfl, rfl⟩
  case round =>
    obtain ⟨j, hf, rfl, hc, rfl⟩ := hrel
    cases gk with
    | zero =>
      obtain rfl : j = 16 := by omega
      have HC := Lib.hid hc
      clear hc
      go_wp2_with fail
      go_ret
      exact ⟨ret_int HC.out, HBL.out⟩
    | succ g =>
      have hj : j < 16 := by omega
      have hj' : (j : Int) < 16 := by omega
      have c2 := H2.out.2 j hj
      have ca : (arC A)[j]? = some (.int .u8 (A.getD j 0)) := arC_at (by rw [HA.out]; exact hj)
      have hc' : (if A.getD j 0 = B.getD j 0 then cmpF A B g (j + 1) else cmp1 (A.getD j 0) (B.getD j 0)) = cmpA A B := hc
      obtain ⟨x, hx⟩ : ∃ x, x = A.getD j 0 := ⟨_, rfl⟩
      obtain ⟨y, hy⟩ : ∃ y, y = B.getD j 0 := ⟨_, rfl⟩
      rw [← hx, ← hy] at hc'
      rw [← hy] at c2
      rw [← hx] at ca
      have HF := Lib.hid hf
      have hix := run_index_arr W (arC A) j _ hj ca
      clear hc hx hy hf ca
      by_cases hxy : x = y
      · rw [if_pos hxy] at hc'
        subst hxy
        have HC := Lib.hid hc'
        clear hc'
        go_wp2_with fail
        go_roundg g
        case rel => exact ⟨j + 1, by have := HF.out; omega, by go_num, HC.out, rfl⟩
        case measure => omega
      · rw [if_neg hxy] at hc'
        have HC := Lib.hid hc'
        have hne : (x != y) = true := by simp [hxy]
        clear hc'
        go_wp2_with fail
        refine (cmp1_any _ _ _).mono ?_
        rintro e w' ⟨rfl, rfl⟩
        go_wp2_with fail
        go_ret
        exact ⟨ret_int HC.out, HBL.out⟩
end Go.Proofs.YtfphejndbnmfeaaDoor
