import Derived.Test.YtcnafgelfkfekaaE16
namespace Go.Proofs.Ytcnafgelfkfekaa
open Go.RowKit

/-- A slice of strings that came in. -/
def InStrs (w : World) (a : Option Addr) (len cap : Nat) (ss : List ByteArray) : Prop :=
  (a = none ∧ len = 0 ∧ cap = 0 ∧ ss = []) ∨
  ∃ x, a = some x ∧ len ≤ cap ∧ cap ≤ maxLen ∧ ss.length = cap ∧ (∀ i, i < ss.length → w.cell? (x.add i) = some (.string (ss.getD i ByteArray.empty))) ∧ ∀ s ∈ ss, s.size ≤ maxLen
theorem nth_take' (ss : List ByteArray) (len k : Nat) (hk : k < len) : nth (ss.take len) k = ss.getD k ByteArray.empty := by
  simp [nth, List.getD, hk]; rfl
theorem in_strs {w : World} {a : Option Addr} {len cap : Nat} {ss : List ByteArray} (h : InStrs w a len cap ss) :
    SView w a len (ss.take len) ∧ len ≤ cap ∧ cap ≤ maxLen ∧ (a = none → cap = 0) ∧ Short (ss.take len) := by
  rcases h with ⟨rfl, rfl, rfl, rfl⟩ | ⟨x, rfl, hl, hm, hz, hc, hsz⟩
  · exact ⟨⟨rfl, fun k hk => by omega⟩, Nat.le_refl _, Nat.zero_le _, fun _ => rfl, fun j => by rw [show nth (List.take 0 []) j = ⟨#[]⟩ by simp [nth], show (⟨#[]⟩ : ByteArray).size = 0 from rfl]; omega⟩
  · refine ⟨⟨by simp; omega, fun k hk => ?_⟩, hl, hm, fun h => by simp at h, fun j => ?_⟩
    · obtain ⟨b, off, spot⟩ := x
      have h0 := hc 0 (by omega)
      have hspot : spot = none := by simpa [Addr.add] using World.cell?_spot h0
      subst hspot
      have hk' := hc k (by omega)
      rw [Addr.add_lit] at hk'
      exact ⟨b, off, rfl, World.block_lt_of_cell? _ _ hk', by rw [hk', nth_take' _ _ _ hk]⟩
    · by_cases hj : j < (ss.take len).length
      · have hm' : nth (ss.take len) j ∈ ss := by
          have : nth (ss.take len) j = (ss.take len)[j] := by simp only [nth, List.getD, List.getElem?_eq_getElem hj, Option.getD_some]
          rw [this]
          exact List.mem_of_mem_take (List.getElem_mem hj)
        have := hsz _ hm'
        unfold maxLen at this; omega
      · have : nth (ss.take len) j = ⟨#[]⟩ := by
          unfold nth
          rw [List.getD, List.getElem?_eq_none (by omega)]; rfl
        rw [this, show (⟨#[]⟩ : ByteArray).size = 0 from rfl]; omega
theorem sorts_walk (a : Option Addr) (len cap : Nat) (ss : List ByteArray) (s : ByteArray) (w : World) (h : InStrs w a len cap ss) (_ : s.size ≤ maxLen) :
    Calls Try.prog 8 #[.slice a len cap, .string s] w fun e w' => e = .returned (.bool true) ∧ Below w.heap.size w w' := by
  obtain ⟨h1, h2, h3, h4, h5⟩ := in_strs h
  by_cases hl : 100 < len
  · exact sorts_many a len cap _ s w h1 (by omega) h5 hl
  · exact sorts_good a len cap _ s w h1 (by omega) h5
end Go.Proofs.Ytcnafgelfkfekaa
