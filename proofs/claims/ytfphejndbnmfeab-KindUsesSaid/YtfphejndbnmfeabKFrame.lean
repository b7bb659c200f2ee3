/- What comes in for a law over types: a type, a variable. -/
import Derived.Test.YtfphejndbnmfeabRows
import Derived.Test.YtfphejndbnmfeabK6
import Derived.WalkKit
import Derived.ProofKit
import Derived.OpenShut
import Derived.ShutString
import Derived.ChangeOld
import Derived.Below
import Derived.SliceStrings
import Derived.Carry
namespace Go.Proofs.Ytfphejndbnmfeab
open Go.ChangeShapes Go.WideShapes Go.ChangeAt Go.RowKit

theorem own : ownKnob Try.prog.godebug = none := by kernel_rfl
theorem laidOut : laidOutB Try.prog = true := by kernel_rfl
theorem cs5 : Try.prog.cellsOf 5 = 1 := by kernel_rfl
theorem cs9 : Try.prog.cellsOf 9 = 1 := by kernel_rfl
theorem cs4 : Try.prog.cellsOf 4 = 1 := by kernel_rfl
theorem cs23 : Try.prog.cellsOf 23 = 1 := by kernel_rfl
theorem cs25 : Try.prog.cellsOf 25 = 2 := by kernel_rfl
theorem cs26 : Try.prog.cellsOf 26 = 1 := by kernel_rfl
theorem cs27 : Try.prog.cellsOf 27 = 1 := by kernel_rfl
theorem cs29 : Try.prog.cellsOf 29 = 6 := by kernel_rfl
theorem cs47 : Try.prog.cellsOf 47 = 5 := by kernel_rfl
theorem slice_view {H : Type} {enc : TypeId × Value → H} {W : World} {base : Nat} {sp : Nat → Bool} {held : Bool} {fuel : Nat} {cs : List Value} {x : DataW H × List MemPlace} (h : DataW.trod enc Try.prog W base sp held fuel 23 cs = some x) :
    ∃ (a : Option Addr) (l c : Nat) (L : List Int), cs = [.slice a l c] ∧ View W a l L ∧ l ≤ c := by
  rcases open_ints Try.underlying23 Try.underlying5 cs5 h with ⟨hcs, _⟩ | ⟨x, l, c, zs, hcs, _, hl, hm, hz, _, hc, _⟩
  · exact ⟨none, 0, 0, [], hcs, ⟨rfl, fun k hk => absurd hk (Nat.not_lt_zero k)⟩, Nat.le_refl _⟩
  · have hzl : l ≤ zs.length := by rw [hz]; split <;> omega
    refine ⟨some x, l, c, zs.take l, hcs, ⟨by simp; omega, fun k hk => ?_⟩, hl⟩
    obtain ⟨b, off, spot⟩ := x
    have h0 := hc 0 (by omega)
    have hspot : spot = none := by simpa [Addr.add] using World.cell?_spot h0
    subst hspot
    have hk' := hc k (by omega)
    rw [Addr.add_lit] at hk'
    refine ⟨b, off, rfl, World.block_lt_of_cell? _ _ hk', ?_⟩
    rw [hk']
    simp [List.getD, hk]
theorem open_ref {H : Type} {enc : TypeId × Value → H} {W : World} {base : Nat} {sp : Nat → Bool} {held : Bool} {fuel : Nat} {cs : List Value} {x : DataW H × List MemPlace} (h : DataW.trod enc Try.prog W base sp held fuel 25 cs = some x) :
    ∃ (nm : ByteArray) (a : Option Addr) (l c : Nat) (L : List Int), cs = [.string nm, .slice a l c] ∧ View W a l L ∧ l ≤ c := by
  obtain ⟨xs, n, rfl, _, hl, hn, hf⟩ := DataW.trod_struct Try.underlying25 h
  rw [cs25] at hl
  have hn2 : xs.length = 2 := hn
  match cs, hl with
  | [v0, v1], _ =>
    have f0 : DataW.trod enc Try.prog W base sp held n 9 (([v0, v1].drop 0).take (Try.prog.cellsOf 9)) = xs[0]? := hf 0 _ rfl
    have f1 : DataW.trod enc Try.prog W base sp held n 23 (([v0, v1].drop 1).take (Try.prog.cellsOf 23)) = xs[1]? := hf 1 _ rfl
    rw [cs9] at f0
    rw [cs23] at f1
    rw [List.getElem?_eq_getElem (by omega)] at f0 f1
    obtain ⟨s, e0, _⟩ := DataW.trod_string Try.underlying9 f0
    obtain ⟨a, l, c, L, e1, hv, hc⟩ := slice_view f1
    simp at e0 e1
    exact ⟨s, a, l, c, L, by rw [e0, e1], hv, hc⟩
theorem slice_any {H : Type} {enc : TypeId × Value → H} {W : World} {base : Nat} {sp : Nat → Bool} {held : Bool} {fuel : Nat} {t e : TypeId} (ht : Try.prog.underlying t = some (.slice e)) {v : Value} {x : DataW H × List MemPlace} (h : DataW.trod enc Try.prog W base sp held fuel t [v] = some x) :
    ∃ (a : Option Addr) (l c : Nat), v = .slice a l c := by
  rcases DataW.trod_slice ht h with ⟨hcs, _⟩ | ⟨a, l, c, _, _, _, _, hcs, _⟩
  · simp at hcs; exact ⟨none, 0, 0, hcs⟩
  · simp at hcs; exact ⟨some a, l, c, hcs⟩
theorem default_view {H : Type} {enc : TypeId × Value → H} {W : World} {base : Nat} {sp : Nat → Bool} {held : Bool} {fuel : Nat} {v : Value} {x : DataW H × List MemPlace} (h : DataW.trod enc Try.prog W base sp held fuel 26 [v] = some x) :
    ∃ (a : Option Addr) (l c : Nat) (k0 : Int), v = .slice a l c ∧ DView W a l k0 := by
  rcases DataW.trod_slice Try.underlying26 h with ⟨hcs, _⟩ | ⟨a, l, c, elems, rest, n, _, hcs, _, _, hlc, _, hlen, hel, _, _⟩
  · simp at hcs; exact ⟨none, 0, 0, 0, hcs, fun e => by cases e⟩
  · simp at hcs
    by_cases h1 : l = 1
    · have e := hel 0 (by omega)
      rw [List.getElem?_eq_getElem (by omega)] at e
      rw [Option.bind_eq_some_iff] at e
      obtain ⟨cs, hcells, hs⟩ := e
      obtain ⟨xs, m, _, _, hl5, hn5, hf⟩ := DataW.trod_struct Try.underlying47 hs
      have hn5' : xs.length = 5 := hn5
      have f0 : DataW.trod enc Try.prog W base sp held m 5 ((cs.drop 0).take (Try.prog.cellsOf 5)) = xs[0]? := hf 0 _ rfl
      rw [cs5] at f0
      rw [List.getElem?_eq_getElem (by omega)] at f0
      obtain ⟨k0, ek, _⟩ := DataW.trod_int Try.underlying5 f0
      rw [cs47] at hcells hl5
      unfold World.cells? at hcells
      split at hcells
      · match cs, hl5 with
        | [w0, w1, w2, w3, w4], _ =>
          simp at ek
          subst ek
          obtain ⟨b, off, spot⟩ := a
          have hr : List.range 5 = [0, 1, 2, 3, 4] := rfl
          rw [hr, List.mapM_cons] at hcells
          simp only [bind, Option.bind_eq_some_iff] at hcells
          obtain ⟨u, hu, _, _, hcons⟩ := hcells
          simp at hcons
          obtain ⟨rfl, _⟩ := hcons
          have hspot : spot = none := by simpa [Addr.add] using World.cell?_spot hu
          subst hspot
          rw [Addr.add_lit, Addr.add_lit] at hu
          simp at hu
          exact ⟨some ⟨b, off, none⟩, l, c, k0, hcs, fun _ => ⟨b, off, rfl, World.block_lt_of_cell? _ _ hu, hu⟩⟩
      · cases hcells
    · exact ⟨some a, l, c, 0, hcs, fun e => absurd e h1⟩
theorem open_in {H : Type} {enc : TypeId × Value → H} {W : World} {base : Nat} {sp : Nat → Bool} {held : Bool} {fuel : Nat} {cs : List Value} {x : DataW H × List MemPlace} (h : DataW.trod enc Try.prog W base sp held fuel 29 cs = some x) :
    ∃ (nm tn : ByteArray) (a : Option Addr) (l c : Nat) (has : Bool) (da : Option Addr) (dl dc : Nat) (xa : Option Addr) (xl xc : Nat) (L : List Int) (k0 : Int),
      cs = [.string nm, .string tn, .slice a l c, .bool has, .slice da dl dc, .slice xa xl xc] ∧ View W a l L ∧ l ≤ c ∧ DView W da dl k0 := by
  obtain ⟨xs, n, rfl, _, hl, hn, hf⟩ := DataW.trod_struct Try.underlying29 h
  rw [cs29] at hl
  have hn2 : xs.length = 5 := hn
  match cs, hl with
  | [v0, v1, v2, v3, v4, v5], _ =>
    have f0 : DataW.trod enc Try.prog W base sp held n 9 (([v0, v1, v2, v3, v4, v5].drop 0).take (Try.prog.cellsOf 9)) = xs[0]? := hf 0 _ rfl
    have f1 : DataW.trod enc Try.prog W base sp held n 25 (([v0, v1, v2, v3, v4, v5].drop 1).take (Try.prog.cellsOf 25)) = xs[1]? := hf 1 _ rfl
    have f2 : DataW.trod enc Try.prog W base sp held n 4 (([v0, v1, v2, v3, v4, v5].drop 3).take (Try.prog.cellsOf 4)) = xs[2]? := hf 2 _ rfl
    have f3 : DataW.trod enc Try.prog W base sp held n 26 (([v0, v1, v2, v3, v4, v5].drop 4).take (Try.prog.cellsOf 26)) = xs[3]? := hf 3 _ rfl
    have f4 : DataW.trod enc Try.prog W base sp held n 27 (([v0, v1, v2, v3, v4, v5].drop 5).take (Try.prog.cellsOf 27)) = xs[4]? := hf 4 _ rfl
    rw [cs9] at f0
    rw [cs25] at f1
    rw [cs4] at f2
    rw [cs26] at f3
    rw [cs27] at f4
    rw [List.getElem?_eq_getElem (by omega)] at f0 f1 f2 f3 f4
    obtain ⟨s, e0, _⟩ := DataW.trod_string Try.underlying9 f0
    obtain ⟨tn, a, l, c, L, e1, hv, hc⟩ := open_ref f1
    obtain ⟨b, e2, _⟩ := DataW.trod_bool Try.underlying4 f2
    obtain ⟨da, dl, dc, k0, e3, hd⟩ := default_view f3
    obtain ⟨xa, xl, xc, e4⟩ := slice_any Try.underlying27 f4
    simp at e0 e1 e2
    obtain ⟨e11, e12⟩ := e1
    exact ⟨s, tn, a, l, c, b, da, dl, dc, xa, xl, xc, L, k0, by rw [e0, e11, e12, e2, e3, e4], hv, hc, hd⟩
theorem open_refV {H : Type} {enc : TypeId × Value → H} {W : World} {base : Nat} {sp : Nat → Bool} {held : Bool} {r : Reach} {b0 : Nat} {v : Value} {d : DataW H} {ps : List MemPlace}
    (hv : Value.okWide Try.prog W r b0 25 v) (h : DataW.Trod enc Try.prog W base sp held 25 v d ps) : ∃ (nm : ByteArray) (a : Option Addr) (l c : Nat) (L : List Int), v = refV nm a l c ∧ View W a l L ∧ l ≤ c := by
  simp only [Value.okWide, Try.underlying25] at hv
  obtain ⟨cs, rfl, _, _⟩ := hv
  obtain ⟨fuel, hf⟩ := h
  obtain ⟨nm, a, l, c, L, e, hw, hc⟩ := open_ref hf
  simp only [Value.cells] at e
  exact ⟨nm, a, l, c, L, by unfold refV; rw [show cs = #[.string nm, .slice a l c] from Array.toList_inj.1 e], hw, hc⟩
theorem open_inV {H : Type} {enc : TypeId × Value → H} {W : World} {base : Nat} {sp : Nat → Bool} {held : Bool} {r : Reach} {b0 : Nat} {v : Value} {d : DataW H} {ps : List MemPlace}
    (hv : Value.okWide Try.prog W r b0 29 v) (h : DataW.Trod enc Try.prog W base sp held 29 v d ps) :
    ∃ (nm tn : ByteArray) (a : Option Addr) (l c : Nat) (has : Bool) (da : Option Addr) (dl dc : Nat) (xa : Option Addr) (xl xc : Nat) (L : List Int) (k0 : Int), v = inV nm tn a l c has da dl dc xa xl xc ∧ View W a l L ∧ l ≤ c ∧ DView W da dl k0 := by
  simp only [Value.okWide, Try.underlying29] at hv
  obtain ⟨cs, rfl, _, _⟩ := hv
  obtain ⟨fuel, hf⟩ := h
  obtain ⟨nm, tn, a, l, c, has, da, dl, dc, xa, xl, xc, L, k0, e, hw, hc, hd⟩ := open_in hf
  simp only [Value.cells] at e
  exact ⟨nm, tn, a, l, c, has, da, dl, dc, xa, xl, xc, L, k0, by unfold inV; rw [show cs = #[.string nm, .string tn, .slice a l c, .bool has, .slice da dl dc, .slice xa xl xc] from Array.toList_inj.1 e], hw, hc, hd⟩
end Go.Proofs.Ytfphejndbnmfeab
