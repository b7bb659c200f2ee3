import Derived.Test.YtjcaadihkbhlhaaDoorA1
namespace Go.Proofs.YtjcaadihkbhlhaaDoor
open Go.RowKit
theorem below_dr {B : Nat} {w w1 : World} (h : Below B w w1) (n : Nat) : Below B w (w1.drewN n) := by
  induction n with
  | zero => exact h
  | succ n ih => exact ih.drew
theorem frozen_new (W : World) (C : Array Value) (T : TypeId) (j : Nat) : (W.alloc (.cells C T)).frozen? ⟨W.heap.size, j, none⟩ = false := by
  simp only [World.frozen?]
  rw [heap_alloc_new]
  simp
/-- A set lies in a block that may be written. -/
def SBox (w : World) (B : Nat) (L : List UInt8) : Prop := (∀ k, k < 4 → w.cell? ⟨B, k, none⟩ = some (.int .u64 (wd L k : Nat)) ∧ w.frozen? ⟨B, k, none⟩ = false) ∧ B < w.heap.size
theorem SBox.up {w w' : World} {B : Nat} {L : List UInt8} (h : SBox w B L) (hb : Below w.heap.size w w') : SBox w' B L :=
  ⟨fun i hi => ⟨(hb.cell (p := ⟨B, i, none⟩) h.2).trans (h.1 i hi).1, (hb.frozen (p := ⟨B, i, none⟩) h.2).trans (h.1 i hi).2⟩, Nat.lt_of_lt_of_le h.2 hb.size⟩
theorem SBox.new (w : World) (L : List UInt8) : SBox (w.alloc (.cells (setC L) 60)) w.heap.size L :=
  ⟨fun i hi => ⟨(World.cell?_alloc_mark w _ _ _ i).trans (set_cell L i hi), frozen_new _ _ _ _⟩, by simp⟩
theorem SBox.other {w : World} {B : Nat} {L : List UInt8} (h : SBox w B L) (a : Addr) (ha : a.block ≠ B) (v : Value) : SBox (w.setCell a v) B L :=
  ⟨fun i hi => ⟨(World.cell?_setCell_other _ _ _ _ (by intro e; subst e; exact ha rfl)).trans (h.1 i hi).1, (World.frozen?_setCell _ _ _ _).trans (h.1 i hi).2⟩, by simpa [World.setCell] using h.2⟩
theorem SBox.put {w : World} {B : Nat} {L : List UInt8} (h : SBox w B L) (c : UInt8) : SBox (w.setCell ⟨B, c.toNat / 64, none⟩ (.int .u64 ((wd L (c.toNat / 64) ||| 2 ^ (c.toNat % 64) : Nat) : Int))) B (L ++ [c]) := by
  have hc := UInt8.toNat_lt c
  refine ⟨fun i hi => ⟨?_, (World.frozen?_setCell _ _ _ _).trans (h.1 i hi).2⟩, by simpa [World.setCell] using h.2⟩
  rw [wd_snoc]
  by_cases e : c.toNat / 64 = i
  · rw [if_pos e, ← e]
    exact World.cell?_setCell_same _ _ _ (h.1 _ (by omega)).1
  · rw [if_neg e]
    exact (World.cell?_setCell_other _ _ _ _ (by simp [e])).trans (h.1 i hi).1
theorem or_bit (n j : Nat) (h : n < 2 ^ 64) (hj : j < 64) : bits BinOp.or IntKind.u64 (n : Int) ((2 ^ j : Nat) : Int) = ((n ||| 2 ^ j : Nat) : Int) := by
  rw [bits_or_u64_nat _ _ (by simpa using h) (by have := Nat.pow_lt_pow_right (a := 2) (by decide) hj; simpa using this)]
/-- Texts that lie in a slice. -/
def TV (w : World) (v : Value) (xs : List ByteArray) : Prop := (xs = [] ∧ (v = .slice none 0 0)) ∨ ∃ b o cap, v = .slice (some ⟨b, o, none⟩) xs.length cap ∧ xs.length ≤ cap ∧ b < w.heap.size ∧ ∀ j x, xs[j]? = some x → w.cell? ⟨b, o + j, none⟩ = some (.string x)
theorem TV.up {w w' : World} {v : Value} {xs : List ByteArray} (h : TV w v xs) (hb : Below w.heap.size w w') : TV w' v xs := by
  rcases h with h | ⟨b, o, cap, h1, h2, h3, h4⟩
  · exact .inl h
  · exact .inr ⟨b, o, cap, h1, h2, Nat.lt_of_lt_of_le h3 hb.size, fun j x hx => (hb.cell (p := ⟨b, o + j, none⟩) h3).trans (h4 j x hx)⟩
/-- The bytes of some texts. -/
def flat (xs : List ByteArray) : List UInt8 := xs.flatMap fun s => s.data.toList
theorem flat_snoc (xs : List ByteArray) (s : ByteArray) : flat (xs ++ [s]) = flat xs ++ s.data.toList := by unfold flat; simp
theorem flat_take (xs : List ByteArray) (i : Nat) (h : i < xs.length) : flat (xs.take (i + 1)) = flat (xs.take i) ++ xs[i].data.toList := by
  rw [List.take_succ_eq_append_getElem h, flat_snoc]
end Go.Proofs.YtjcaadihkbhlhaaDoor
