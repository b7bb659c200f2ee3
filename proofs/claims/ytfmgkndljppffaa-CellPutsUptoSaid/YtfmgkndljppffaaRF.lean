/- Layer 3: names that come in, where what is read is of a bounded bulk. -/
import Derived.Test.YtfmgkndljppffaaRows
import Derived.Test.YtfmgkndljppffaaRE
namespace Go.Proofs.Ytfmgkndljppffaa
open Go.ChangeShapes Go.WideShapes Go.ChangeAt Go.RowKit
theorem bulk_part {H : Type} {d : DataW H} {l : List (DataW H)} (h : d ∈ l) : Rows.uptoBulk d ≤ Rows.uptoBulkAll l := by
  induction l with
  | nil => cases h
  | cons x r ih =>
    rw [Rows.uptoBulkAll]
    rcases List.mem_cons.1 h with rfl | h
    · omega
    · have := ih h; omega
theorem names_bulk {H : Type} {enc : TypeId × Value → H} {W : World} {base : Nat} {sp : Nat → Bool} {held : Bool} {fuel : Nat} {cs : List Value} {x : DataW H × List MemPlace} (h : DataW.trod enc Try.prog W base sp held fuel 51 cs = some x) :
    ∃ (na : Option Addr) (nn nc : Nat) (s : Nat → ByteArray), cs = [.slice na nn nc] ∧ NV W na nn s ∧ (∀ i, i < nn → (s i).size ≤ Rows.uptoBulk x.1) ∧ nn ≤ nc ∧ nc ≤ maxLen := by
  rcases DataW.trod_slice Try.underlying51 h with ⟨hcs, _⟩ | ⟨a, l, c, elems, rest, n, _, hcs, hx, _, hlc, hcm, hlen, hel, _, _⟩
  · exact ⟨none, 0, 0, fun _ => ⟨#[]⟩, hcs, fun i hi => absurd hi (Nat.not_lt_zero i), fun i hi => absurd hi (Nat.not_lt_zero i), Nat.le_refl _, Nat.zero_le _⟩
  · have key : ∀ i, ∃ s : ByteArray, i < l → (∃ b off, some a = some (⟨b, off, none⟩ : Addr) ∧ b < W.heap.size ∧ W.cell? ⟨b, off + i, none⟩ = some (.string s)) ∧ s.size ≤ Rows.uptoBulk x.1 := fun i => by
      by_cases hi : i < l
      · have e := hel i hi
        rw [List.getElem?_eq_getElem (by omega), Option.bind_eq_some_iff, cs_str] at e
        obtain ⟨cs, hcells, hs⟩ := e
        obtain ⟨j, hj⟩ : ∃ j : Nat, j = 0 := ⟨0, rfl⟩
        have e0 := hel j (by omega)
        rw [List.getElem?_eq_getElem (by omega), Option.bind_eq_some_iff, cs_str] at e0
        obtain ⟨_, hcells0, _⟩ := e0
        have hspot := spot0 hj hcells0 (by decide)
        obtain ⟨s, rfl, hsx, hs2⟩ := DataW.trod_string Try.underlying9 hs
        have hcell := (World.cells?_some hcells).2.2 0 (by decide)
        obtain ⟨b, off, spot⟩ := a
        have hspot' : spot = none := hspot
        subst hspot'
        rw [Addr.add_lit, Addr.add_lit, Nat.mul_one] at hcell
        refine ⟨s, fun _ => ⟨⟨b, off, rfl, World.block_lt_of_cell? _ _ hcell, hcell⟩, ?_⟩⟩
        have hm : elems[i] ∈ elems := List.getElem_mem (by omega)
        have hm2 : (elems[i]).1 ∈ elems.map (·.1) := List.mem_map.2 ⟨_, hm, rfl⟩
        have hb := bulk_part hm2
        rw [hsx] at hb
        rw [hx]
        simp only [Rows.uptoBulk] at hb ⊢
        have e3 : s.data.toList.length = s.size := Array.length_toList
        omega
      · exact ⟨⟨#[]⟩, fun h => absurd h hi⟩
    obtain ⟨s, hs⟩ := Classical.skolem.1 key
    exact ⟨some a, l, c, s, hcs, fun i hi => (hs i hi).1, fun i hi => (hs i hi).2, hlc, hcm⟩
end Go.Proofs.Ytfmgkndljppffaa
