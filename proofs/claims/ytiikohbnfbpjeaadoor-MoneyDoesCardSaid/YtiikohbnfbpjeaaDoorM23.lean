import Derived.Test.YtiikohbnfbpjeaaDoorM17
import Derived.Test.YtiikohbnfbpjeaaDoorMX
import Derived.Deep.MidRow
import Derived.Deep.QuietTactic
import Derived.IntWalk
namespace Go.Proofs.YtiikohbnfbpjeaaDoor
open Go.RowKit
/-- A number's digit. -/
def D10 (N i : Nat) : Nat := N / 10 ^ i % 10
/-- Forty numbers, as an array's cells. -/
def arrL (f : Nat → Int) : List Value := (List.range 40).map fun i => .int .i64 (f i)
def arrC (f : Nat → Int) : Array Value := (arrL f).toArray
def arrV (f : Nat → Int) : Value := .agg (arrC f)
def rowV (N : Nat) : Value := arrV fun i => (D10 N i : Nat)
theorem arrL_length (f : Nat → Int) : (arrL f).length = 40 := by simp [arrL]
theorem arrL_get (f : Nat → Int) (i : Nat) (h : i < 40) : (arrL f)[i]? = some (.int .i64 (f i)) := by
  unfold arrL
  rw [List.getElem?_map, List.getElem?_range h]; rfl
theorem arrL_ext {f g : Nat → Int} (h : ∀ i, i < 40 → f i = g i) : arrL f = arrL g := by
  unfold arrL
  exact List.map_congr_left (fun i hi => by rw [h i (List.mem_range.1 hi)])
/-- Forty numbers lie in a block that may be written. -/
def Arr (w : World) (b : Nat) (f : Nat → Int) : Prop := (∀ i, i < 40 → w.cell? ⟨b, i, none⟩ = some (.int .i64 (f i)) ∧ w.frozen? ⟨b, i, none⟩ = false) ∧ b < w.heap.size
theorem Arr.up {w w' : World} {b : Nat} {f : Nat → Int} (h : Arr w b f) (hb : Below w.heap.size w w') : Arr w' b f :=
  ⟨fun i hi => ⟨(hb.cell (p := ⟨b, i, none⟩) h.2).trans (h.1 i hi).1, (hb.frozen (p := ⟨b, i, none⟩) h.2).trans (h.1 i hi).2⟩, Nat.lt_of_lt_of_le h.2 hb.size⟩
theorem Arr.new (w : World) (f : Nat → Int) : Arr (w.alloc (.cells (arrC f) 81)) w.heap.size f :=
  ⟨fun i hi => ⟨(World.cell?_alloc_mark w _ 81 _ i).trans (by unfold arrC; rw [List.getElem?_toArray]; exact arrL_get f i hi), frozen_new _ _ _ _⟩, by simp⟩
theorem Arr.set {w : World} {b : Nat} {f : Nat → Int} (h : Arr w b f) (k : Nat) (hk : k < 40) (v : Int) : Arr (w.setCell ⟨b, k, none⟩ (.int .i64 v)) b (fun i => if i = k then v else f i) := by
  refine ⟨fun i hi => ⟨?_, (World.frozen?_setCell _ _ _ _).trans (h.1 i hi).2⟩, by simpa [World.setCell] using h.2⟩
  by_cases e : i = k
  · subst e
    dsimp only
    rw [if_pos rfl]
    exact World.cell?_setCell_same _ _ _ (h.1 i hi).1
  · dsimp only
    rw [if_neg e]
    exact (World.cell?_setCell_other _ _ _ _ (by simp [Ne.symm e])).trans (h.1 i hi).1
theorem Arr.other {w : World} {b : Nat} {f : Nat → Int} (h : Arr w b f) (a : Addr) (ha : a.block ≠ b) (v : Value) : Arr (w.setCell a v) b f :=
  ⟨fun i hi => ⟨(World.cell?_setCell_other _ _ _ _ (by intro e; subst e; exact ha rfl)).trans (h.1 i hi).1, (World.frozen?_setCell _ _ _ _).trans (h.1 i hi).2⟩, by simpa [World.setCell] using h.2⟩
theorem Arr.ext {w : World} {b : Nat} {f g : Nat → Int} (h : Arr w b f) (e : ∀ i, i < 40 → f i = g i) : Arr w b g := ⟨fun i hi => by rw [← e i hi]; exact h.1 i hi, h.2⟩
theorem Arr.range {w : World} {b : Nat} {f : Nat → Int} (h : Arr w b f) : w.rangeAt b 0 (arrL f) := fun j v hv => by
  have hj : j < 40 := by have := (List.getElem?_eq_some_iff.1 hv).1; rwa [arrL_length] at this
  rw [arrL_get f j hj] at hv
  rw [Nat.zero_add]
  exact (h.1 j hj).1.trans hv
theorem Arr.there {w : World} {b : Nat} {f : Nat → Int} (h : Arr w b f) : w.there b 0 40 := fun j hj => by
  rw [Nat.zero_add]
  exact ⟨by rw [(h.1 j hj).1]; rfl, (h.1 j hj).2⟩
theorem z_arr : arrC (fun _ => 0) = #[.int .i64 0, .int .i64 0, .int .i64 0, .int .i64 0, .int .i64 0, .int .i64 0, .int .i64 0, .int .i64 0, .int .i64 0, .int .i64 0, .int .i64 0, .int .i64 0, .int .i64 0, .int .i64 0, .int .i64 0, .int .i64 0, .int .i64 0, .int .i64 0, .int .i64 0, .int .i64 0, .int .i64 0, .int .i64 0, .int .i64 0, .int .i64 0, .int .i64 0, .int .i64 0, .int .i64 0, .int .i64 0, .int .i64 0, .int .i64 0, .int .i64 0, .int .i64 0, .int .i64 0, .int .i64 0, .int .i64 0, .int .i64 0, .int .i64 0, .int .i64 0, .int .i64 0, .int .i64 0] := rfl
/-! ### Digits -/
theorem D10_lt (N i : Nat) : D10 N i < 10 := Nat.mod_lt _ (by decide)
theorem div_step (N i : Nat) : N / 10 ^ i = N / 10 ^ (i + 1) * 10 + D10 N i := by
  unfold D10
  rw [Nat.pow_succ, ← Nat.div_div_eq_div_mul]
  omega
theorem less_digit {N M i : Nat} (h : N / 10 ^ (i + 1) = M / 10 ^ (i + 1)) (hd : D10 N i ≠ D10 M i) : (D10 N i < D10 M i) ↔ N < M := by
  have h1 := div_step N i
  have h2 := div_step M i
  rw [h] at h1
  constructor
  · intro l
    apply Classical.byContradiction
    intro q
    have : M / 10 ^ i ≤ N / 10 ^ i := Nat.div_le_div_right (by omega)
    omega
  · intro l
    have : N / 10 ^ i ≤ M / 10 ^ i := Nat.div_le_div_right (by omega)
    omega
/-- Two rows in blocks side by side. -/
def TwoR (w W : World) (f g : Nat → Int) : Prop := Arr W w.heap.size f ∧ Arr W (w.heap.size + 1) g ∧ Below w.heap.size w W
theorem TwoR.up {w W W' : World} {f g : Nat → Int} (h : TwoR w W f g) (hb : Below W.heap.size W W') : TwoR w W' f g := ⟨h.1.up hb, h.2.1.up hb, h.2.2.trans (hb.mono h.2.2.size)⟩
theorem TwoR.dr {w W : World} {f g : Nat → Int} (h : TwoR w W f g) (n : Nat) : TwoR w (W.drewN n) f g := h.up (below_dr (Below.refl _ _) n)
theorem TwoR.new (w : World) (f g : Nat → Int) : TwoR w ((w.alloc (.cells (arrC f) 81)).alloc (.cells (arrC g) 81)) f g := by
  have z : (w.alloc (.cells (arrC f) 81)).heap.size = w.heap.size + 1 := by simp
  refine ⟨(Arr.new w _).up ((Below.refl _ _).alloc (Nat.le_refl _) _), ?_, ((Below.refl _ w).alloc (Nat.le_refl _) _).alloc (by simp) _⟩
  rw [← z]; exact Arr.new _ _
/-- Where 'less' stands: what lies above is the same. -/
def LS (N M : Nat) (s5 : Value) : Prop := ∃ k : Nat, k ≤ 40 ∧ s5 = .int .i64 ((k : Int) - 1) ∧ N / 10 ^ k = M / 10 ^ k
set_option maxRecDepth 20000 in
theorem less_any (N M : Nat) (w : World) (hN : N < 10 ^ 40) (hM : M < 10 ^ 40) :
    Calls Tryd.prog 43 #[rowV N, rowV M] w fun e w' => e = .returned (.bool (decide (N < M))) ∧ Below w.heap.size w w' := by
  have h40 : Hid (N / 10 ^ 40 = M / 10 ^ 40) := Lib.hid (by rw [Nat.div_eq_of_lt hN, Nat.div_eq_of_lt hM])
  obtain ⟨v, hv⟩ : ∃ v, v = decide (N < M) := ⟨_, rfl⟩
  have HV := Lib.hid hv
  rw [← hv]
  clear hv hN hM
  obtain ⟨f, hf⟩ : ∃ f : Nat → Int, f = fun i => ((D10 N i : Nat) : Int) := ⟨_, rfl⟩
  obtain ⟨g, hg⟩ : ∃ f : Nat → Int, f = fun i => ((D10 M i : Nat) : Int) := ⟨_, rfl⟩
  have P0 := Lib.hid (TwoR.new w f g)
  unfold rowV arrV
  rw [← hf, ← hg]
  have HF := Lib.hid hf
  have HG := Lib.hid hg
  clear hf hg
  obtain ⟨A, hA⟩ : ∃ A, A = arrC f := ⟨_, rfl⟩
  obtain ⟨B, hB⟩ : ∃ A, A = arrC g := ⟨_, rfl⟩
  rw [← hA, ← hB] at P0 ⊢
  clear hA hB
  go_enter Tryd.func43, Tryd.ntmps43
  go_wp2_with fail
  obtain ⟨w0, hw0⟩ : ∃ w0, w0 = (w.alloc (.cells A 81)).alloc (.cells B 81) := ⟨_, rfl⟩
  rw [← hw0] at P0 ⊢
  clear hw0
  go_loopw [5] (fun s5 wr => LS N M s5 ∧ TwoR w wr f g) (fun s5 _ => (intOf s5 + 1).toNat)
  case atStart => exact ⟨⟨40, Nat.le_refl _, rfl, h40.out⟩, P0.out⟩
  case round =>
    obtain ⟨⟨k, hk, rfl, he⟩, hr⟩ := hrel
    have HE := Lib.hid he
    have HR := Lib.hid hr
    clear he hr
    cases k with
    | zero =>
      have HF0 : Hid (v = false) := Lib.hid (by
        have := HE.out
        simp at this
        rw [HV.out, this]; simp)
      go_wp2_with fail
      go_ret
      exact ⟨ret_bool HF0.out.symm, HR.out.2.2⟩
    | succ j =>
      have eg : ((j + 1 : Nat) : Int) - 1 = (j : Int) := by omega
      rw [eg]
      have hj : (j : Int) < 40 := by omega
      have hj' : j < 40 := by omega
      have c1 := (HR.out.1.1 j hj').1
      have c2 := (HR.out.2.1.1 j hj').1
      obtain ⟨x, hx⟩ : ∃ x, f j = x := ⟨_, rfl⟩
      obtain ⟨y, hy⟩ : ∃ x, g j = x := ⟨_, rfl⟩
      rw [hx] at c1
      rw [hy] at c2
      have HX : Hid (((D10 N j : Nat) : Int) = x) := Lib.hid (by rw [← hx, HF.out])
      have HY : Hid (((D10 M j : Nat) : Int) = y) := Lib.hid (by rw [← hy, HG.out])
      clear hx hy eg hk
      by_cases hxy : x = y
      · have HEN : Hid (N / 10 ^ j = M / 10 ^ j) := Lib.hid (by
          have h1 := div_step N j
          have h2 := div_step M j
          rw [HE.out] at h1
          have := HX.out
          have := HY.out
          omega)
        subst hxy
        go_wp2_with fail
        go_quiet (fail)
        go_wp2_with fail
        go_roundw
        case rel => exact ⟨⟨j, by omega, by go_num, HEN.out⟩, HR.out.dr _⟩
        case measure => simp [intOf]
      · have HD : Hid (v = decide (x < y)) := Lib.hid (by
          have hne : D10 N j ≠ D10 M j := fun q => hxy (by rw [← HX.out, ← HY.out, q])
          have := less_digit HE.out hne
          rw [HV.out, decide_eq_decide, ← this, ← HX.out, ← HY.out]
          omega)
        have gxy : (x == y) = false := beq_eq_false_iff_ne.2 hxy
        clear hxy
        go_wp2_with fail
        go_quiet (fail)
        go_wp2_with fail
        go_quiet (fail)
        go_wp2_with fail
        go_ret
        exact ⟨ret_bool HD.out.symm, below_dr (below_dr HR.out.2.2 _) _⟩
end Go.Proofs.YtiikohbnfbpjeaaDoor
