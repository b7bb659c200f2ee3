import Derived.Test.YtepjehneembakaaE15
import Derived.Test.YtepjehneembakaaPlain6
namespace Go.Proofs.Ytepjehneembakaa
open Go.RowKit

theorem str_eq (x y : ByteArray) : (x.toList == y.toList) = decide (x = y) := by
  rw [ByteArray.toList_eq, ByteArray.toList_eq, Bool.eq_iff_iff]
  simp only [beq_iff_eq, decide_eq_true_eq]
  exact ⟨fun h => ByteArray.ext (Array.toList_inj.1 h), fun h => by rw [h]⟩
theorem bytes_conv (p : Int) (w : World) (h0 : 0 ≤ p) (h1 : p < 1114112) :
    Calls Try.prog 37 #[.int .i64 p] w fun e w' => ∃ v, e = .returned v ∧ (convert 31 9 v).run Try.prog w' = .ok (.string (mkB (enc p))) w' ∧ (convert 31 9 v).run Try.prog w'.drew = .ok (.string (mkB (enc p))) w'.drew ∧ Hid (Below w.heap.size w w') := by
  refine (bytes_any p w h0 h1).mono ?_
  rintro e w' ⟨rfl, cs, hcs, rfl⟩
  have hl : cs.size = (enc p).length := by rw [← Array.length_toList, hcs, List.length_map]
  have ho := World.ownsRow_lit (base := w.heap.size) (e := 5) (size := 1) w cs (enc p).length (Nat.le_refl _) (by have := enc_len p; unfold maxLen; omega) (by rw [hl, Nat.mul_one])
  rw [hcs] at ho
  have hr := enc_range h0 h1
  exact ⟨_, rfl, conv_own ho hr, conv_own (World.ownsRow.drew ho) hr, (Below.refl _ w).alloc (Nat.le_refl _) _⟩

theorem one_end {n n' : Int} {x y : ByteArray} {g : Bool} {w w1 w' : World} (hn : n' = n) (hg : g = decide (x = y)) (hb : Hid (Below w.heap.size w w1)) (hd : w' = w1 ∨ w' = w1.drew) :
    Ending.returned (.tuple #[.int .i64 n, .bool (x.toList == y.toList)]) = .returned (.tuple #[.int .i64 n', .bool g]) ∧ Below w.heap.size w w' := by
  refine ⟨by rw [hn, hg, str_eq], ?_⟩
  rcases hd with rfl | rfl
  · exact hb.out
  · exact hb.out.drew

theorem one_out (s : ByteArray) (i : Int) (z : Nat) (w : World) (hz1 : 1 ≤ z) (hz4 : z ≤ 4) (hs : s.size ≤ maxLen) (i1 : i ≤ 9223372036854775800) (hin : ¬ (0 ≤ i ∧ i + z ≤ s.size)) :
    Calls Try.prog 29 #[.string s, .int .i64 i, .int .i64 (z : Int)] w fun e w' => e = .returned (.tuple #[.int .i64 0, .bool false]) ∧ Below w.heap.size w w' := by
  have hm := hs
  unfold maxLen at hm
  by_cases h0 : i < 0
  · clear hin
    go_enter Try.func29, Try.ntmps29
    go_wp2_with fail
    go_ret2
    exact ⟨rfl, Below.refl _ _⟩
  · have h1 : (s.size : Int) < i + (z : Int) := by omega
    have hw0 : IntKind.i64.wrap (i + (z : Int)) = i + (z : Int) := by rw [IntKind.wrap_i64]; omega
    clear hin
    go_enter Try.func29, Try.ntmps29
    go_wp2_with fail
    go_ret2
    exact ⟨rfl, Below.refl _ _⟩
end Go.Proofs.Ytepjehneembakaa
