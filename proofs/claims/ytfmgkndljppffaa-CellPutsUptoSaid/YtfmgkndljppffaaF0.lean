/- Layer 3: what comes in: cells, lists of cells, names. -/
import Derived.Test.YtfmgkndljppffaaRows
import Derived.Test.YtfmgkndljppffaaE1
import Derived.WalkKit
import Derived.ProofKit
import Derived.OpenShut
import Derived.ShutString
import Derived.ChangeOld
import Derived.Below
import Derived.SliceStrings
import Derived.Carry
namespace Go.Proofs.Ytfmgkndljppffaa
open Go.ChangeShapes Go.WideShapes Go.ChangeAt Go.RowKit
theorem fr_own : ownKnob Try.prog.godebug = none := by kernel_rfl
theorem fr_laid : laidOutB Try.prog = true := by kernel_rfl
theorem cs_u8 : Try.prog.cellsOf 5 = 1 := by kernel_rfl
theorem cs_str : Try.prog.cellsOf 9 = 1 := by kernel_rfl
theorem cs_i64 : Try.prog.cellsOf 2 = 1 := by kernel_rfl
theorem cs_int : Try.prog.cellsOf 3 = 1 := by kernel_rfl
theorem cs_cells : Try.prog.cellsOf 26 = 1 := by kernel_rfl
theorem cs_cell : Try.prog.cellsOf 32 = 5 := by kernel_rfl
/-- One cell of a row. -/
def CAt (w : World) (a : Option Addr) (i : Nat) (c : CR) : Prop :=
  ∃ b off, a = some ⟨b, off, none⟩ ∧ b < w.heap.size ∧ w.cell? ⟨b, off + i * 5, none⟩ = some (.int .u8 c.k) ∧ w.cell? ⟨b, off + i * 5 + 1, none⟩ = some (.string c.nm) ∧ w.cell? ⟨b, off + i * 5 + 2, none⟩ = some (.string c.tx) ∧ w.cell? ⟨b, off + i * 5 + 3, none⟩ = some (.int .i64 c.n) ∧ w.cell? ⟨b, off + i * 5 + 4, none⟩ = some (.int .i64 c.m)
theorem spot0 {W : World} {base n j : Nat} {a : Addr} {cs : List Value} (hj : j = 0) (h : W.cells? base (a.add (j * n)) n = some cs) (hn : 0 < n) : a.spot = none := by
  subst hj
  obtain ⟨_, hl, hcell⟩ := World.cells?_some h
  have c := hcell 0 hn
  rw [List.getElem?_eq_getElem (by omega)] at c
  simpa [Addr.add] using World.cell?_spot c
theorem cell_at {H : Type} {enc : TypeId × Value → H} {W : World} {base : Nat} {sp : Nat → Bool} {held : Bool} {fuel : Nat} {cs : List Value} {x : DataW H × List MemPlace} {b off i : Nat}
    (hc : W.cells? base ((⟨b, off, none⟩ : Addr).add (i * 5)) 5 = some cs) (h : DataW.trod enc Try.prog W base sp held fuel 32 cs = some x) :
    ∃ c : CR, CAt W (some ⟨b, off, none⟩) i c ∧ c.k < 256 ∧ -9223372036854775808 ≤ c.m ∧ c.m ≤ 9223372036854775807 := by
  obtain ⟨xs, n, rfl, _, hl, hn, hf⟩ := DataW.trod_struct Try.underlying32 h
  rw [cs_cell] at hl
  have hn5 : xs.length = 5 := hn
  obtain ⟨_, _, hcell⟩ := World.cells?_some hc
  match cs, hl with
  | [v0, v1, v2, v3, v4], _ =>
    have f0 : DataW.trod enc Try.prog W base sp held n 5 (([v0, v1, v2, v3, v4].drop 0).take (Try.prog.cellsOf 5)) = xs[0]? := hf 0 _ rfl
    have f1 : DataW.trod enc Try.prog W base sp held n 9 (([v0, v1, v2, v3, v4].drop 1).take (Try.prog.cellsOf 9)) = xs[1]? := hf 1 _ rfl
    have f2 : DataW.trod enc Try.prog W base sp held n 9 (([v0, v1, v2, v3, v4].drop 2).take (Try.prog.cellsOf 9)) = xs[2]? := hf 2 _ rfl
    have f3 : DataW.trod enc Try.prog W base sp held n 2 (([v0, v1, v2, v3, v4].drop 3).take (Try.prog.cellsOf 2)) = xs[3]? := hf 3 _ rfl
    have f4 : DataW.trod enc Try.prog W base sp held n 3 (([v0, v1, v2, v3, v4].drop 4).take (Try.prog.cellsOf 3)) = xs[4]? := hf 4 _ rfl
    rw [cs_u8] at f0
    rw [cs_str] at f1 f2
    rw [cs_i64] at f3
    rw [cs_int] at f4
    rw [List.getElem?_eq_getElem (by omega)] at f0 f1 f2 f3 f4
    obtain ⟨k, e0, _, w0⟩ := DataW.trod_int Try.underlying5 f0
    obtain ⟨nm, e1, _, _⟩ := DataW.trod_string Try.underlying9 f1
    obtain ⟨tx, e2, _, _⟩ := DataW.trod_string Try.underlying9 f2
    obtain ⟨iv, e3, _, _⟩ := DataW.trod_int Try.underlying2 f3
    obtain ⟨m, e4, _, w4⟩ := DataW.trod_int Try.underlying3 f4
    simp at e0 e1 e2 e3 e4
    subst e0 e1 e2 e3 e4
    have b0 := bounds_u8 w0
    have b4 := bounds_i64 w4
    obtain ⟨kk, rfl⟩ : ∃ kk : Nat, k = kk := ⟨k.toNat, by omega⟩
    have c0 := hcell 0 (by decide)
    have c1 := hcell 1 (by decide)
    have c2 := hcell 2 (by decide)
    have c3 := hcell 3 (by decide)
    have c4 := hcell 4 (by decide)
    rw [Addr.add_lit, Addr.add_lit] at c0 c1 c2 c3 c4
    exact ⟨⟨kk, nm, tx, iv, m⟩, ⟨b, off, rfl, World.block_lt_of_cell? _ _ c0, c0, c1, c2, c3, c4⟩, by show kk < 256; omega, b4.1, b4.2⟩
theorem cells_view {H : Type} {enc : TypeId × Value → H} {W : World} {base : Nat} {sp : Nat → Bool} {held : Bool} {fuel : Nat} {cs : List Value} {x : DataW H × List MemPlace} (h : DataW.trod enc Try.prog W base sp held fuel 26 cs = some x) :
    ∃ (a : Option Addr) (l c : Nat) (g : Nat → CR), cs = [.slice a l c] ∧ CV W a l g ∧ KM l g ∧ l ≤ c ∧ c ≤ maxLen ∧ (a = none → l = 0 ∧ c = 0) := by
  rcases DataW.trod_slice Try.underlying26 h with ⟨hcs, _⟩ | ⟨a, l, c, elems, rest, n, _, hcs, _, _, hlc, hcm, hlen, hel, _, _⟩
  · exact ⟨none, 0, 0, fun _ => default, hcs, fun i hi => absurd hi (Nat.not_lt_zero i), fun i hi => absurd hi (Nat.not_lt_zero i), Nat.le_refl _, Nat.zero_le _, fun _ => ⟨rfl, rfl⟩⟩
  · have key : ∀ i, ∃ cr : CR, i < l → CAt W (some a) i cr ∧ cr.k < 256 ∧ -9223372036854775808 ≤ cr.m ∧ cr.m ≤ 9223372036854775807 := fun i => by
      by_cases hi : i < l
      · have e := hel i hi
        rw [List.getElem?_eq_getElem (by omega), Option.bind_eq_some_iff, cs_cell] at e
        obtain ⟨cs, hcells, hs⟩ := e
        obtain ⟨j, hj⟩ : ∃ j : Nat, j = 0 := ⟨0, rfl⟩
        have e0 := hel j (by omega)
        rw [List.getElem?_eq_getElem (by omega), Option.bind_eq_some_iff, cs_cell] at e0
        obtain ⟨_, hcells0, _⟩ := e0
        have hspot := spot0 hj hcells0 (by decide)
        obtain ⟨b, off, spot⟩ := a
        have hspot' : spot = none := hspot
        subst hspot'
        obtain ⟨cr, hh⟩ := cell_at hcells hs
        exact ⟨cr, fun _ => hh⟩
      · exact ⟨default, fun h => absurd h hi⟩
    obtain ⟨g, hg⟩ := Classical.skolem.1 key
    exact ⟨some a, l, c, g, hcs, fun i hi => (hg i hi).1, fun i hi => (hg i hi).2, hlc, hcm, fun e => by cases e⟩
theorem lists_view {H : Type} {enc : TypeId × Value → H} {W : World} {base : Nat} {sp : Nat → Bool} {held : Bool} {fuel : Nat} {cs : List Value} {x : DataW H × List MemPlace} (h : DataW.trod enc Try.prog W base sp held fuel 52 cs = some x) :
    ∃ (la : Option Addr) (ln lc : Nat) (ad : Nat → Option Addr) (len cp : Nat → Nat) (G : Nat → Nat → CR), cs = [.slice la ln lc] ∧ LIn W la ln ad len cp G ∧ (∀ i, i < ln → KM (len i) (G i)) ∧ (∀ i, i < ln → len i ≤ cp i ∧ cp i ≤ maxLen ∧ (ad i = none → len i = 0 ∧ cp i = 0)) ∧ ln ≤ lc ∧ lc ≤ maxLen ∧ (la = none → ln = 0 ∧ lc = 0) := by
  rcases DataW.trod_slice Try.underlying52 h with ⟨hcs, _⟩ | ⟨a, l, c, elems, rest, n, _, hcs, _, _, hlc, hcm, hlen, hel, _, _⟩
  · exact ⟨none, 0, 0, fun _ => none, fun _ => 0, fun _ => 0, fun _ _ => default, hcs, ⟨fun i hi => absurd hi (Nat.not_lt_zero i), fun i hi => absurd hi (Nat.not_lt_zero i)⟩, fun i hi => absurd hi (Nat.not_lt_zero i), fun i hi => absurd hi (Nat.not_lt_zero i), Nat.le_refl _, Nat.zero_le _, fun _ => ⟨rfl, rfl⟩⟩
  · have key : ∀ i, ∃ q : Option Addr × Nat × Nat × (Nat → CR), i < l → (∃ b off, some a = some (⟨b, off, none⟩ : Addr) ∧ b < W.heap.size ∧ W.cell? ⟨b, off + i, none⟩ = some (.slice q.1 q.2.1 q.2.2.1)) ∧ CV W q.1 q.2.1 q.2.2.2 ∧ KM q.2.1 q.2.2.2 ∧ q.2.1 ≤ q.2.2.1 ∧ q.2.2.1 ≤ maxLen ∧ (q.1 = none → q.2.1 = 0 ∧ q.2.2.1 = 0) := fun i => by
      by_cases hi : i < l
      · have e := hel i hi
        rw [List.getElem?_eq_getElem (by omega), Option.bind_eq_some_iff, cs_cells] at e
        obtain ⟨cs, hcells, hs⟩ := e
        obtain ⟨j, hj⟩ : ∃ j : Nat, j = 0 := ⟨0, rfl⟩
        have e0 := hel j (by omega)
        rw [List.getElem?_eq_getElem (by omega), Option.bind_eq_some_iff, cs_cells] at e0
        obtain ⟨_, hcells0, _⟩ := e0
        have hspot := spot0 hj hcells0 (by decide)
        obtain ⟨a', l', c', g, rfl, h1, h2, h3, h4, h5⟩ := cells_view hs
        have hcell := (World.cells?_some hcells).2.2 0 (by decide)
        obtain ⟨b, off, spot⟩ := a
        have hspot' : spot = none := hspot
        subst hspot'
        rw [Addr.add_lit, Addr.add_lit, Nat.mul_one] at hcell
        exact ⟨(a', l', c', g), fun _ => ⟨⟨b, off, rfl, World.block_lt_of_cell? _ _ hcell, hcell⟩, h1, h2, h3, h4, h5⟩⟩
      · exact ⟨(none, 0, 0, fun _ => default), fun h => absurd h hi⟩
    obtain ⟨q, hq⟩ := Classical.skolem.1 key
    exact ⟨some a, l, c, fun i => (q i).1, fun i => (q i).2.1, fun i => (q i).2.2.1, fun i => (q i).2.2.2, hcs, ⟨fun i hi => (hq i hi).1, fun i hi => (hq i hi).2.1⟩, fun i hi => (hq i hi).2.2.1, fun i hi => (hq i hi).2.2.2, hlc, hcm, fun e => by cases e⟩
theorem names_view {H : Type} {enc : TypeId × Value → H} {W : World} {base : Nat} {sp : Nat → Bool} {held : Bool} {fuel : Nat} {cs : List Value} {x : DataW H × List MemPlace} (h : DataW.trod enc Try.prog W base sp held fuel 51 cs = some x) :
    ∃ (na : Option Addr) (nn nc : Nat) (s : Nat → ByteArray), cs = [.slice na nn nc] ∧ NV W na nn s ∧ (∀ i, i < nn → (s i).size ≤ maxLen) ∧ nn ≤ nc ∧ nc ≤ maxLen := by
  rcases DataW.trod_slice Try.underlying51 h with ⟨hcs, _⟩ | ⟨a, l, c, elems, rest, n, _, hcs, _, _, hlc, hcm, hlen, hel, _, _⟩
  · exact ⟨none, 0, 0, fun _ => ⟨#[]⟩, hcs, fun i hi => absurd hi (Nat.not_lt_zero i), fun i hi => absurd hi (Nat.not_lt_zero i), Nat.le_refl _, Nat.zero_le _⟩
  · have key : ∀ i, ∃ s : ByteArray, i < l → (∃ b off, some a = some (⟨b, off, none⟩ : Addr) ∧ b < W.heap.size ∧ W.cell? ⟨b, off + i, none⟩ = some (.string s)) ∧ s.size ≤ maxLen := fun i => by
      by_cases hi : i < l
      · have e := hel i hi
        rw [List.getElem?_eq_getElem (by omega), Option.bind_eq_some_iff, cs_str] at e
        obtain ⟨cs, hcells, hs⟩ := e
        obtain ⟨j, hj⟩ : ∃ j : Nat, j = 0 := ⟨0, rfl⟩
        have e0 := hel j (by omega)
        rw [List.getElem?_eq_getElem (by omega), Option.bind_eq_some_iff, cs_str] at e0
        obtain ⟨_, hcells0, _⟩ := e0
        have hspot := spot0 hj hcells0 (by decide)
        obtain ⟨s, rfl, _, hs2⟩ := DataW.trod_string Try.underlying9 hs
        have hcell := (World.cells?_some hcells).2.2 0 (by decide)
        obtain ⟨b, off, spot⟩ := a
        have hspot' : spot = none := hspot
        subst hspot'
        rw [Addr.add_lit, Addr.add_lit, Nat.mul_one] at hcell
        exact ⟨s, fun _ => ⟨⟨b, off, rfl, World.block_lt_of_cell? _ _ hcell, hcell⟩, hs2⟩⟩
      · exact ⟨⟨#[]⟩, fun h => absurd h hi⟩
    obtain ⟨s, hs⟩ := Classical.skolem.1 key
    exact ⟨some a, l, c, s, hcs, fun i hi => (hs i hi).1, fun i hi => (hs i hi).2, hlc, hcm⟩
end Go.Proofs.Ytfmgkndljppffaa
