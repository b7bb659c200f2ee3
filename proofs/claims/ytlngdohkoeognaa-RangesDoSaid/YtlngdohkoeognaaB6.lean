/- Layer 6: numbers sorted, and each once. -/
import Derived.Test.YtlngdohkoeognaaB5
import Derived.Test.YtlngdohkoeognaaShelf
import Derived.Lib.RowBridge
namespace Go.Proofs.Ytlngdohkoeognaa
open Go.RowKit Go.Maps
theorem holds_of_own {w : World} {B q n cap : Nat} {L : List Int} (h : w.ownsRow B 3 1 (.slice (some ⟨q, 0, none⟩) n cap) n (rI L)) (hn : n = L.length) : Sort.Holds (Value.int .i64) w q 0 L.toArray ∧ B ≤ q ∧ q < w.heap.size ∧ n ≤ cap := by
  have hh := h
  rcases h.2 with ⟨he, _⟩ | ⟨q', cap', cur, he, hg, hgg, h1, h2, h3, h4⟩
  · cases he
  · simp only [Value.slice.injEq, Option.some.injEq, Addr.mk.injEq, and_true, true_and] at he
    obtain ⟨rfl, rfl⟩ := he
    refine ⟨fun j hj => ?_, hg, (Array.getElem?_eq_some_iff.1 hgg).1, h1⟩
    have hj' : j < L.length := by simpa using hj
    rw [Nat.zero_add]
    refine ⟨?_, by simp [World.frozen?, hgg]⟩
    rw [hh.cellAt j (by omega), rI_at L j hj']
    simp [gI, hj']
theorem below_ahead {B : Nat} {w0 w : World} (h : Below B w0 w) (n : Nat) : Below B w0 (Sort.ahead w n) := ⟨h.os, h.tape, h.output, h.size, h.block⟩
theorem below_put {B : Nat} {w0 w : World} (h : Below B w0 w) {q : Nat} (hq : B ≤ q) (d : Array Int) : Below B w0 (Sort.putRow (Value.int .i64) w q 0 d) :=
  ⟨h.os, h.tape, h.output, by rw [Sort.size_putRow]; exact h.size, fun i hi => by
    rw [← h.block i hi]
    simp only [Sort.putRow, Sort.mapBlock, Array.getElem?_modify]
    rw [if_neg (by omega)]⟩
theorem below_grow {B : Nat} {w0 w : World} (h : Below B w0 w) (os : Array Obj) (hB : B ≤ w.heap.size) : Below B w0 (Sort.grow w os) :=
  ⟨h.os, h.tape, h.output, by rw [Sort.size_grow]; exact Nat.le_trans h.size (Nat.le_add_right _ _), fun i hi => by
    rw [← h.block i hi]
    simp only [Sort.grow]
    rw [Array.getElem?_append_left (by omega)]⟩
theorem holds_grow {w : World} {q : Nat} {d : Array Int} (h : Sort.Holds (Value.int .i64) w q 0 d) (hq : q < w.heap.size) (os : Array Obj) : Sort.Holds (Value.int .i64) (Sort.grow w os) q 0 d := fun j hj => by
  have e : (Sort.grow w os).heap[q]? = w.heap[q]? := by
    simp only [Sort.grow]
    rw [Array.getElem?_append_left hq]
  refine ⟨(World.cell?_of_block (a := ⟨q, 0 + j, none⟩) e).trans (h j hj).1, ?_⟩
  have := (h j hj).2
  simp only [World.frozen?, e] at this ⊢
  exact this
def leI (x y : Int) : Bool := decide (x ≤ y)
theorem sort_any {w0 : World} (q cap : Nat) (L : List Int) (w : World) (hb : Below w0.heap.size w0 w) (ho : OwnI w w0.heap.size (.slice (some ⟨q, 0, none⟩) L.length cap) L) (hm : L.length ≤ 1000000) :
    Calls Try.prog 36 #[.slice (some ⟨q, 0, none⟩) L.length cap] w fun e w' => e = .returned (.tuple #[]) ∧ Sort.Holds (Value.int .i64) w' q 0 (L.mergeSort fun x y => decide (x ≤ y)).toArray ∧ w0.heap.size ≤ q ∧ q < w'.heap.size ∧ L.length ≤ cap ∧ Below w0.heap.size w0 w' := by
  obtain ⟨hH, hB, hq, hc⟩ := holds_of_own ho rfl
  refine (Any.slices_Sort_int Try.sortI q 0 cap L w hH hq (by omega)).mono ?_
  rintro e w' ⟨rfl, n, os, rfl⟩
  have h1 := Sort.holds_putRow (Value.int .i64) (Sort.ahead w n) q 0 L.toArray (L.mergeSort fun x y => decide (x ≤ y)).toArray (Sort.holds_ahead _ _ _ _ _ _ hH) (by simp)
  have h2 : q < (Sort.putRow (Value.int .i64) (Sort.ahead w n) q 0 (L.mergeSort fun x y => decide (x ≤ y)).toArray).heap.size := by rw [Sort.size_putRow]; exact hq
  have h3 : Below w0.heap.size w0 (Sort.putRow (Value.int .i64) (Sort.ahead w n) q 0 (L.mergeSort fun x y => decide (x ≤ y)).toArray) := below_put (below_ahead hb n) hB _
  refine ⟨rfl, holds_grow h1 h2 os, hB, ?_, hc, below_grow h3 os h3.size⟩
  rw [Sort.size_grow]
  omega
theorem compact_any {w0 : World} (q cap : Nat) (zs : List Int) (w : World) (hb : Below w0.heap.size w0 w) (hH : Sort.Holds (Value.int .i64) w q 0 zs.toArray) (hB : w0.heap.size ≤ q) (hq : q < w.heap.size) (hc : zs.length ≤ cap) (hm : zs.length ≤ 1000000) :
    Calls Try.prog 37 #[.slice (some ⟨q, 0, none⟩) zs.length cap] w fun e w' => e = .returned (.slice (some ⟨q, 0, none⟩) (Lib.compact zs).length cap) ∧ IV w' (some ⟨q, 0, none⟩) (Lib.compact zs) ∧ Below w0.heap.size w0 w' := by
  refine (Any.slices_Compact_int Try.compactI q 0 cap zs w hH (by omega) hc).mono ?_
  rintro e w' ⟨rfl, n, rfl⟩
  have hle := Lib.compact_length_le zs
  have hs : (Lib.compact zs ++ List.replicate (zs.length - (Lib.compact zs).length) 0).toArray.size = zs.toArray.size := by simp; omega
  have h1 := Sort.holds_putRow (Value.int .i64) (Sort.ahead w n) q 0 zs.toArray _ (Sort.holds_ahead _ _ _ _ _ _ hH) hs
  refine ⟨rfl, fun i hi => ⟨q, 0, rfl, by rw [Sort.size_putRow]; exact hq, ?_⟩, below_put (below_ahead hb n) hB _⟩
  have h2 := (h1 i (by rw [hs]; simp; omega)).1
  rw [h2]
  congr 2
  have hl : i < (Lib.compact zs ++ List.replicate (zs.length - (Lib.compact zs).length) 0).length := by simp; omega
  simp only [gI, List.getElem!_toArray]
  rw [List.getElem!_eq_getElem?_getD, List.getElem?_append_left hi, List.getD_eq_getElem?_getD]
  rfl
end Go.Proofs.Ytlngdohkoeognaa
