import Derived.Test.YtepjehneembakaaE4
import Derived.Test.YtepjehneembakaaPlain4
import Derived.OwnWalk
namespace Go.Proofs.Ytepjehneembakaa
open Go.RowKit

theorem info5 : (Try.prog.info? 5).map (fun i => (i.zero, i.size, i.bytes)) = some (some (.int .u8 0), 1, 1) := by kernel_rfl
theorem or_192 (y : Int) (h0 : 0 ≤ y) (h1 : y < 64) : bits .or .i64 192 y = 192 + y := bits_join .i64 63 (by decide) wraps_i64 6 192 y (by omega) (by omega) (by omega) h0 h1 (by omega)
theorem or_128 (y : Int) (h0 : 0 ≤ y) (h1 : y < 64) : bits .or .i64 128 y = 128 + y := bits_join .i64 63 (by decide) wraps_i64 6 128 y (by omega) (by omega) (by omega) h0 h1 (by omega)
theorem or_224 (y : Int) (h0 : 0 ≤ y) (h1 : y < 32) : bits .or .i64 224 y = 224 + y := bits_join .i64 63 (by decide) wraps_i64 5 224 y (by omega) (by omega) (by omega) h0 h1 (by omega)
theorem or_240 (y : Int) (h0 : 0 ≤ y) (h1 : y < 16) : bits .or .i64 240 y = 240 + y := bits_join .i64 63 (by decide) wraps_i64 4 240 y (by omega) (by omega) (by omega) h0 h1 (by omega)
theorem cell_news (w : World) (cs : Array Value) (t : TypeId) (L : List Value) (h : cs.toList = L) : ∀ j u, L[j]? = some u → (w.alloc (.cells cs t)).cell? ((⟨w.heap.size, 0, none⟩ : Addr).add j) = some u := by
  subst h
  intro j u hj
  simp only [Addr.add_lit, Nat.zero_add, World.cell?, heap_alloc_new]
  simpa using hj

theorem enc_end {w w1 : World} {v v' : Value} {B n m : Nat} {xs : List Value} {o : Obj} {L : List Int} (hown : w.ownsRow B 5 1 v n xs) (hB : B ≤ w.heap.size) (hm : m = L.length) (ho : w1.ownsRow B 5 1 v' (n + m) (xs ++ L.map (Value.int .u8))) (hg : (w.alloc o).grownBy w1 v.ownBlock) :
    w1.ownsRow B 5 1 v' (n + L.length) (xs ++ L.map (Value.int .u8)) ∧ Below B w w1 := by
  subst hm
  exact ⟨ho, ((Below.refl B w).alloc hB o).grown hg (by simp; omega) (fun k hk => (hown.lt k hk).1)⟩

theorem encode_any (p : Int) (B n : Nat) (v : Value) (xs : List Value) (w : World) (h0 : 0 ≤ p) (h1 : p < 1114112) (hown : w.ownsRow B 5 1 v n xs) (hB : B ≤ w.heap.size) (hn : n ≤ 1000000) :
    Calls Try.prog 27 #[v, .int .i64 p] w fun e w' => ∃ v', e = .returned v' ∧ w'.ownsRow B 5 1 v' (n + (enc p).length) (xs ++ (enc p).map (Value.int .u8)) ∧ Below B w w' := by
  obtain ⟨i0, hi, hz0, hz1, hz2⟩ := info_parts info5
  have hsz : B ≤ w.heap.size + 1 := by omega
  by_cases c1 : p < 128
  · have hs : Hid (szOf p = 1) := Lib.hid (by unfold szOf; rw [if_pos c1])
    have he : Hid (enc p = [p]) := Lib.hid (by unfold enc; rw [if_pos c1])
    go_enter Try.func27, Try.ntmps27
    go_wp2_with fail
    refine (sizeOf_any p _).mono ?_
    rintro e w1 ⟨rfl, rfl⟩
    rw [hs.out]
    go_wp2_with (at_builtin; refine wpList_append_own _ rfl _ _ 31 rfl B 5 i0 (.int .u8 0) 1 1 Try.underlying31 hi hz0 hz1 hz2 rfl (by decide) _ n xs rfl (hown.alloc _) ⟨w.heap.size, 0, none⟩ 1 1 [.int .u8 p] rfl rfl (cell_news _ _ _ _ rfl) (by intro u hu; simp at hu; subst hu; rfl) (by unfold maxLen; omega) (by omega) (by simpa using hsz) ?_; intro v' w1 ho hg _)
    go_ret
    refine ⟨v', rfl, ?_⟩
    rw [he.out]
    exact enc_end hown hB rfl ho hg
  by_cases c2 : p < 2048
  · have hs : Hid (szOf p = 2) := Lib.hid (by unfold szOf; rw [if_neg c1, if_pos c2])
    have he : Hid (enc p = [192 + p / 64, 128 + p % 64]) := Lib.hid (by unfold enc; rw [if_neg c1, if_pos c2])
    go_enter Try.func27, Try.ntmps27
    go_wp2_with fail
    refine (sizeOf_any p _).mono ?_
    rintro e w1 ⟨rfl, rfl⟩
    rw [hs.out]
    go_wp2_with (at_builtin; refine wpList_append_own _ rfl _ _ 31 rfl B 5 i0 (.int .u8 0) 1 1 Try.underlying31 hi hz0 hz1 hz2 rfl (by decide) _ n xs rfl (hown.alloc _) ⟨w.heap.size, 0, none⟩ 2 2 [.int .u8 (192 + p / 64), .int .u8 (128 + p % 64)] rfl rfl (cell_news _ _ _ _ ?cc2) (by intro u hu; simp at hu; rcases hu with rfl | rfl <;> rfl) (by unfold maxLen; omega) (by omega) (by simpa using hsz) ?_; rotate_right; intro v' w1 ho hg _)
    case cc2 =>
      rw [or_192 _ (by omega) (by omega), and63 p (by omega) (by omega), or_128 _ (by omega) (by omega)]; omega
    go_ret
    refine ⟨v', rfl, ?_⟩
    rw [he.out]
    exact enc_end hown hB rfl ho hg
  by_cases c3 : p < 65536
  · have hs : Hid (szOf p = 3) := Lib.hid (by unfold szOf; rw [if_neg c1, if_neg c2, if_pos c3])
    have he : Hid (enc p = [224 + p / 4096, 128 + p / 64 % 64, 128 + p % 64]) := Lib.hid (by unfold enc; rw [if_neg c1, if_neg c2, if_pos c3])
    go_enter Try.func27, Try.ntmps27
    go_wp2_with fail
    refine (sizeOf_any p _).mono ?_
    rintro e w1 ⟨rfl, rfl⟩
    rw [hs.out]
    go_wp2_with (at_builtin; refine wpList_append_own _ rfl _ _ 31 rfl B 5 i0 (.int .u8 0) 1 1 Try.underlying31 hi hz0 hz1 hz2 rfl (by decide) _ n xs rfl (hown.alloc _) ⟨w.heap.size, 0, none⟩ 3 3 [.int .u8 (224 + p / 4096), .int .u8 (128 + p / 64 % 64), .int .u8 (128 + p % 64)] rfl rfl (cell_news _ _ _ _ ?cc3) (by intro u hu; simp at hu; rcases hu with rfl | rfl | rfl <;> rfl) (by unfold maxLen; omega) (by omega) (by simpa using hsz) ?_; rotate_right; intro v' w1 ho hg _)
    case cc3 =>
      rw [or_224 _ (by omega) (by omega), and63 (p / 64) (by omega) (by omega), and63 p (by omega) (by omega), or_128 (p / 64 % 64) (by omega) (by omega), or_128 (p % 64) (by omega) (by omega)]; omega
    go_ret
    refine ⟨v', rfl, ?_⟩
    rw [he.out]
    exact enc_end hown hB rfl ho hg
  · have hs : Hid (szOf p = 4) := Lib.hid (by unfold szOf; rw [if_neg c1, if_neg c2, if_neg c3])
    have he : Hid (enc p = [240 + p / 262144, 128 + p / 4096 % 64, 128 + p / 64 % 64, 128 + p % 64]) := Lib.hid (by unfold enc; rw [if_neg c1, if_neg c2, if_neg c3])
    go_enter Try.func27, Try.ntmps27
    go_wp2_with fail
    refine (sizeOf_any p _).mono ?_
    rintro e w1 ⟨rfl, rfl⟩
    rw [hs.out]
    go_wp2_with (at_builtin; refine wpList_append_own _ rfl _ _ 31 rfl B 5 i0 (.int .u8 0) 1 1 Try.underlying31 hi hz0 hz1 hz2 rfl (by decide) _ n xs rfl (hown.alloc _) ⟨w.heap.size, 0, none⟩ 4 4 [.int .u8 (240 + p / 262144), .int .u8 (128 + p / 4096 % 64), .int .u8 (128 + p / 64 % 64), .int .u8 (128 + p % 64)] rfl rfl (cell_news _ _ _ _ ?cc4) (by intro u hu; simp at hu; rcases hu with rfl | rfl | rfl | rfl <;> rfl) (by unfold maxLen; omega) (by omega) (by simpa using hsz) ?_; rotate_right; intro v' w1 ho hg _)
    case cc4 =>
      rw [or_240 _ (by omega) (by omega), and63 (p / 4096) (by omega) (by omega), and63 (p / 64) (by omega) (by omega), and63 p (by omega) (by omega), or_128 (p / 4096 % 64) (by omega) (by omega), or_128 (p / 64 % 64) (by omega) (by omega), or_128 (p % 64) (by omega) (by omega)]; omega
    go_ret
    refine ⟨v', rfl, ?_⟩
    rw [he.out]
    exact enc_end hown hB rfl ho hg
end Go.Proofs.Ytepjehneembakaa
