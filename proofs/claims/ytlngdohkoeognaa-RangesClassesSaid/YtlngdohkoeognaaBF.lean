/- Layer 6: what comes in: sets of ranges. -/
import Derived.Test.YtlngdohkoeognaaRows
import Derived.Test.YtlngdohkoeognaaBE
import Derived.WalkKit
import Derived.ProofKit
import Derived.OpenShut
import Derived.ShutString
import Derived.ChangeOld
import Derived.Below
import Derived.SliceStrings
import Derived.Carry
namespace Go.Proofs.Ytlngdohkoeognaa
open Go.ChangeShapes Go.WideShapes Go.ChangeAt Go.RowKit
theorem cs_int : Try.prog.cellsOf 3 = 1 := by kernel_rfl
theorem cs_rngs : Try.prog.cellsOf 22 = 1 := by kernel_rfl
theorem cs_rng : Try.prog.cellsOf 48 = 2 := by kernel_rfl
theorem spot0 {W : World} {base n j : Nat} {a : Addr} {cs : List Value} (hj : j = 0) (h : W.cells? base (a.add (j * n)) n = some cs) (hn : 0 < n) : a.spot = none := by
  subst hj
  obtain ⟨_, hl, hcell⟩ := World.cells?_some h
  have c := hcell 0 hn
  rw [List.getElem?_eq_getElem (by omega)] at c
  simpa [Addr.add] using World.cell?_spot c
def RAt (w : World) (a : Option Addr) (i : Nat) (r : Rg) : Prop := ∃ b off, a = some ⟨b, off, none⟩ ∧ b < w.heap.size ∧ w.cell? ⟨b, off + i * 2, none⟩ = some (.int .i64 r.1) ∧ w.cell? ⟨b, off + i * 2 + 1, none⟩ = some (.int .i64 r.2)
set_option maxRecDepth 20000 in
theorem rng_at {H : Type} {enc : TypeId × Value → H} {W : World} {base : Nat} {sp : Nat → Bool} {held : Bool} {fuel : Nat} {cs : List Value} {x : DataW H × List MemPlace} {b off i : Nat}
    (hc : W.cells? base ((⟨b, off, none⟩ : Addr).add (i * 2)) 2 = some cs) (h : DataW.trod enc Try.prog W base sp held fuel 48 cs = some x) :
    ∃ r : Rg, RAt W (some ⟨b, off, none⟩) i r := by
  obtain ⟨xs, n, rfl, _, hl, hn, hf⟩ := DataW.trod_struct Try.underlying48 h
  rw [cs_rng] at hl
  have hn5 : xs.length = 2 := hn
  obtain ⟨_, _, hcell⟩ := World.cells?_some hc
  match cs, hl with
  | [v0, v1], _ =>
    have f0 : DataW.trod enc Try.prog W base sp held n 3 (([v0, v1].drop 0).take (Try.prog.cellsOf 3)) = xs[0]? := hf 0 _ rfl
    have f1 : DataW.trod enc Try.prog W base sp held n 3 (([v0, v1].drop 1).take (Try.prog.cellsOf 3)) = xs[1]? := hf 1 _ rfl
    rw [cs_int] at f0 f1
    rw [List.getElem?_eq_getElem (by omega)] at f0 f1
    obtain ⟨k, e0, _, w0⟩ := DataW.trod_int Try.underlying3 f0
    obtain ⟨m, e1, _, w4⟩ := DataW.trod_int Try.underlying3 f1
    simp at e0 e1
    subst e0 e1
    have c0 := hcell 0 (by decide)
    have c1 := hcell 1 (by decide)
    rw [Addr.add_lit, Addr.add_lit] at c0 c1
    exact ⟨(k, m), ⟨b, off, rfl, World.block_lt_of_cell? _ _ c0, c0, c1⟩⟩
theorem gR_range (g : Nat → Rg) (l i : Nat) (h : i < l) : gR ((List.range l).map g) i = g i := by
  unfold gR
  rw [List.getD_eq_getElem?_getD, List.getElem?_map, List.getElem?_range h]
  rfl
theorem rngs_view {H : Type} {enc : TypeId × Value → H} {W : World} {base : Nat} {sp : Nat → Bool} {held : Bool} {fuel : Nat} {cs : List Value} {x : DataW H × List MemPlace} (h : DataW.trod enc Try.prog W base sp held fuel 22 cs = some x) :
    ∃ (a : Option Addr) (l c : Nat) (L : List Rg), cs = [.slice a l c] ∧ L.length = l ∧ RV W a L ∧ l ≤ c ∧ c ≤ maxLen ∧ (a = none → l = 0 ∧ c = 0) := by
  rcases DataW.trod_slice Try.underlying22 h with ⟨hcs, _⟩ | ⟨a, l, c, elems, rest, n, _, hcs, _, _, hlc, hcm, hlen, hel, _, _⟩
  · exact ⟨none, 0, 0, [], hcs, rfl, RV.nil _ _, Nat.le_refl _, Nat.zero_le _, fun _ => ⟨rfl, rfl⟩⟩
  · have key : ∀ i, ∃ cr : Rg, i < l → RAt W (some a) i cr := fun i => by
      by_cases hi : i < l
      · have e := hel i hi
        rw [List.getElem?_eq_getElem (by omega), Option.bind_eq_some_iff, cs_rng] at e
        obtain ⟨cs, hcells, hs⟩ := e
        obtain ⟨j, hj⟩ : ∃ j : Nat, j = 0 := ⟨0, rfl⟩
        have e0 := hel j (by omega)
        rw [List.getElem?_eq_getElem (by omega), Option.bind_eq_some_iff, cs_rng] at e0
        obtain ⟨_, hcells0, _⟩ := e0
        have hspot := spot0 hj hcells0 (by decide)
        obtain ⟨b, off, spot⟩ := a
        have hspot' : spot = none := hspot
        subst hspot'
        obtain ⟨cr, hh⟩ := rng_at hcells hs
        exact ⟨cr, fun _ => hh⟩
      · exact ⟨(0, 0), fun h => absurd h hi⟩
    obtain ⟨g, hg⟩ := Classical.skolem.1 key
    refine ⟨some a, l, c, (List.range l).map g, hcs, by simp, fun i hi => ?_, hlc, hcm, fun e => by cases e⟩
    have hi' : i < l := by simpa using hi
    rw [gR_range g l i hi']
    exact hg i hi'
theorem sets_view {H : Type} {enc : TypeId × Value → H} {W : World} {base : Nat} {sp : Nat → Bool} {held : Bool} {fuel : Nat} {cs : List Value} {x : DataW H × List MemPlace} (h : DataW.trod enc Try.prog W base sp held fuel 30 cs = some x) :
    ∃ (la : Option Addr) (ln lc : Nat) (S : List (List Rg)), cs = [.slice la ln lc] ∧ S.length = ln ∧ SV W la S ∧ ln ≤ lc ∧ lc ≤ maxLen := by
  rcases DataW.trod_slice Try.underlying30 h with ⟨hcs, _⟩ | ⟨a, l, c, elems, rest, n, _, hcs, _, _, hlc, hcm, hlen, hel, _, _⟩
  · exact ⟨none, 0, 0, [], hcs, rfl, fun i hi => by simp at hi, Nat.le_refl _, Nat.zero_le _⟩
  · have key : ∀ i, ∃ q : Option Addr × Nat × List Rg, i < l → (∃ b off, some a = some (⟨b, off, none⟩ : Addr) ∧ b < W.heap.size ∧ W.cell? ⟨b, off + i, none⟩ = some (.slice q.1 q.2.2.length q.2.1)) ∧ q.2.2.length ≤ q.2.1 ∧ q.2.1 ≤ maxLen ∧ RV W q.1 q.2.2 ∧ (q.1 = none → q.2.2.length = 0 ∧ q.2.1 = 0) := fun i => by
      by_cases hi : i < l
      · have e := hel i hi
        rw [List.getElem?_eq_getElem (by omega), Option.bind_eq_some_iff, cs_rngs] at e
        obtain ⟨cs, hcells, hs⟩ := e
        obtain ⟨j, hj⟩ : ∃ j : Nat, j = 0 := ⟨0, rfl⟩
        have e0 := hel j (by omega)
        rw [List.getElem?_eq_getElem (by omega), Option.bind_eq_some_iff, cs_rngs] at e0
        obtain ⟨_, hcells0, _⟩ := e0
        have hspot := spot0 hj hcells0 (by decide)
        obtain ⟨a', l', c', L, rfl, rfl, h2, h3, h4, h5⟩ := rngs_view hs
        have hcell := (World.cells?_some hcells).2.2 0 (by decide)
        obtain ⟨b, off, spot⟩ := a
        have hspot' : spot = none := hspot
        subst hspot'
        rw [Addr.add_lit, Addr.add_lit, Nat.mul_one] at hcell
        exact ⟨(a', c', L), fun _ => ⟨⟨b, off, rfl, World.block_lt_of_cell? _ _ hcell, hcell⟩, h3, h4, h2, h5⟩⟩
      · exact ⟨(none, 0, []), fun h => absurd h hi⟩
    obtain ⟨q, hq⟩ := Classical.skolem.1 key
    refine ⟨some a, l, c, (List.range l).map fun i => (q i).2.2, hcs, by simp, fun i hi => ?_, hlc, hcm⟩
    have hi' : i < l := by simpa using hi
    have eS : ((List.range l).map fun i => (q i).2.2).getD i [] = (q i).2.2 := by
      rw [List.getD_eq_getElem?_getD, List.getElem?_map, List.getElem?_range hi']
      rfl
    rw [eS]
    obtain ⟨⟨b, off, e1, e2, e3⟩, e4, e5, e6, e7⟩ := hq i hi'
    exact ⟨b, off, e1, e2, (q i).1, (q i).2.1, e3, e4, e5, e6, e7⟩
theorem cut_law (a : Option Addr) (n c : Nat) (S : List (List Rg)) (w : World) (hl : S.length = n) (hv : SV w a S) (_ : n ≤ c) (_ : c ≤ maxLen) : Calls Try.prog 5 #[.slice a n c] w fun e w' => e = .returned (.bool true) ∧ Below w.heap.size w w' := by
  subst hl
  exact cut_all a c S w hv
end Go.Proofs.Ytlngdohkoeognaa
