/- What comes in for a law over types, with the bytes' range and nil's shape. -/
import Derived.Test.YtfphejndbnmfeabRows
import Derived.Test.YtfphejndbnmfeabK11
import Derived.WalkKit
import Derived.ProofKit
import Derived.OpenShut
import Derived.ShutString
import Derived.ChangeOld
import Derived.Below
import Derived.SliceStrings
import Derived.Carry
namespace Go.Proofs.Ytfphejndbnmfeab
open Go.ChangeShapes Go.WideShapes Go.ChangeAt Go.RowKit

theorem own' : ownKnob Try.prog.godebug = none := by kernel_rfl
theorem laidOut' : laidOutB Try.prog = true := by kernel_rfl
theorem cs5' : Try.prog.cellsOf 5 = 1 := by kernel_rfl
theorem cs9' : Try.prog.cellsOf 9 = 1 := by kernel_rfl
theorem cs23' : Try.prog.cellsOf 23 = 1 := by kernel_rfl
theorem cs25' : Try.prog.cellsOf 25 = 2 := by kernel_rfl
theorem slice_view' {H : Type} {enc : TypeId × Value → H} {W : World} {base : Nat} {sp : Nat → Bool} {held : Bool} {fuel : Nat} {cs : List Value} {x : DataW H × List MemPlace} (h : DataW.trod enc Try.prog W base sp held fuel 23 cs = some x) :
    ∃ (a : Option Addr) (l c : Nat) (L : List Int), cs = [.slice a l c] ∧ View W a l L ∧ l ≤ c ∧ Nils a l c ∧ ∀ x ∈ L, 0 ≤ x ∧ x < 256 := by
  rcases open_ints Try.underlying23 Try.underlying5 cs5' h with ⟨hcs, _⟩ | ⟨x, l, c, zs, hcs, _, hl, hm, hz, _, hc, hwf⟩
  · exact ⟨none, 0, 0, [], hcs, ⟨rfl, fun k hk => absurd hk (Nat.not_lt_zero k)⟩, Nat.le_refl _, fun _ => ⟨rfl, rfl⟩, fun x hx => by cases hx⟩
  · have hzl : l ≤ zs.length := by rw [hz]; split <;> omega
    refine ⟨some x, l, c, zs.take l, hcs, ⟨by simp; omega, fun k hk => ?_⟩, hl, fun e => by (cases e), fun y hy => ?_⟩
    · obtain ⟨b, off, spot⟩ := x
      have h0 := hc 0 (by omega)
      have hspot : spot = none := by simpa [Addr.add] using World.cell?_spot h0
      subst hspot
      have hk' := hc k (by omega)
      rw [Addr.add_lit] at hk'
      refine ⟨b, off, rfl, World.block_lt_of_cell? _ _ hk', ?_⟩
      rw [hk']
      simp [List.getD, hk]
    · have := bounds_u8 (hwf y (List.mem_of_mem_take hy))
      omega
theorem open_ref' {H : Type} {enc : TypeId × Value → H} {W : World} {base : Nat} {sp : Nat → Bool} {held : Bool} {fuel : Nat} {cs : List Value} {x : DataW H × List MemPlace} (h : DataW.trod enc Try.prog W base sp held fuel 25 cs = some x) :
    ∃ (nm : ByteArray) (a : Option Addr) (l c : Nat) (L : List Int), cs = [.string nm, .slice a l c] ∧ nm.size ≤ maxLen ∧ View W a l L ∧ l ≤ c ∧ Nils a l c ∧ ∀ x ∈ L, 0 ≤ x ∧ x < 256 := by
  obtain ⟨xs, n, rfl, _, hl, hn, hf⟩ := DataW.trod_struct Try.underlying25 h
  rw [cs25'] at hl
  have hn2 : xs.length = 2 := hn
  match cs, hl with
  | [v0, v1], _ =>
    have f0 : DataW.trod enc Try.prog W base sp held n 9 (([v0, v1].drop 0).take (Try.prog.cellsOf 9)) = xs[0]? := hf 0 _ rfl
    have f1 : DataW.trod enc Try.prog W base sp held n 23 (([v0, v1].drop 1).take (Try.prog.cellsOf 23)) = xs[1]? := hf 1 _ rfl
    rw [cs9'] at f0
    rw [cs23'] at f1
    rw [List.getElem?_eq_getElem (by omega)] at f0 f1
    obtain ⟨s, e0, _, hs⟩ := DataW.trod_string Try.underlying9 f0
    obtain ⟨a, l, c, L, e1, hv, hc, hnn, hr⟩ := slice_view' f1
    simp at e0 e1
    exact ⟨s, a, l, c, L, by rw [e0, e1], hs, hv, hc, hnn, hr⟩
theorem open_refW {H : Type} {enc : TypeId × Value → H} {W : World} {base : Nat} {sp : Nat → Bool} {held : Bool} {r : Reach} {b0 : Nat} {v : Value} {d : DataW H} {ps : List MemPlace}
    (hv : Value.okWide Try.prog W r b0 25 v) (h : DataW.Trod enc Try.prog W base sp held 25 v d ps) : ∃ (nm : ByteArray) (a : Option Addr) (l c : Nat) (L : List Int), v = refV nm a l c ∧ nm.size ≤ maxLen ∧ View W a l L ∧ l ≤ c ∧ Nils a l c ∧ ∀ x ∈ L, 0 ≤ x ∧ x < 256 := by
  simp only [Value.okWide, Try.underlying25] at hv
  obtain ⟨cs, rfl, _, _⟩ := hv
  obtain ⟨fuel, hf⟩ := h
  obtain ⟨nm, a, l, c, L, e, hs, hw, hc, hn, hr⟩ := open_ref' hf
  simp only [Value.cells] at e
  exact ⟨nm, a, l, c, L, by unfold refV; rw [show cs = #[.string nm, .slice a l c] from Array.toList_inj.1 e], hs, hw, hc, hn, hr⟩
end Go.Proofs.Ytfphejndbnmfeab
