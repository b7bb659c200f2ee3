/- Layer 10: the class of a number: the program's. -/
import Derived.Test.YthaliiffgkcahaaS3
import Derived.Test.YthaliiffgkcahaaShelf
namespace Go.Proofs.Ythaliiffgkcahaa
open Go.RowKit Go.Maps Go.Sort Go.Proofs
theorem cuts_mono {C : List Int} (h : CutsOk C) {i : Nat} : ∀ j : Nat, i ≤ j → j < C.length → gI C i ≤ gI C j
  | 0, h1, _ => by rw [show i = 0 by omega]; exact Int.le_refl _
  | j + 1, h1, h2 => by
    by_cases e : i = j + 1
    · rw [e]; exact Int.le_refl _
    · have a := cuts_mono h (i := i) j (by omega) (by omega)
      have b := (h.2.2.2 (j + 1) (by omega) h2).1
      simp only [Nat.add_sub_cancel] at b
      omega
theorem count_all {p : Nat → Bool} : ∀ k, (∀ i, i < k → p i = true) → (List.range k).countP p = k
  | 0, _ => rfl
  | k + 1, h => by
    rw [List.range_succ, List.countP_append, count_all k (fun i hi => h i (by omega)), List.countP_singleton, h k (by omega)]
    rfl
theorem count_cls {C : List Int} {n : Int} (h : CutsOk C) (hn : 0 ≤ n) : ∀ k, k < C.length → (List.range (k + 1)).countP (fun i => !decide (n < gI C i)) = lastLe C n (k + 1) + 1
  | 0, _ => by
    have : gI C 0 ≤ n := by rw [h.2.2.1]; exact hn
    rw [List.range_succ, List.range_zero, List.nil_append, List.countP_singleton, decide_eq_false (by omega), lastLe, if_pos this]
    rfl
  | k + 1, hk => by
    rw [lastLe]
    by_cases e : gI C (k + 1) ≤ n
    · rw [if_pos e]
      exact count_all _ (fun i hi => by
        have := cuts_mono h (i := i) (k + 1) (by omega) hk
        rw [decide_eq_false (by omega)]; rfl)
    · rw [if_neg e, List.range_succ, List.countP_append, count_cls h hn k (by omega), List.countP_singleton, decide_eq_true (by omega)]
      rfl
theorem count_end {C : List Int} {n : Int} (h : CutsOk C) (hn : 0 ≤ n) : (List.range C.length).countP (fun i => !decide (n < gI C i)) = cls C n + 1 := by
  obtain ⟨k, hk⟩ : ∃ k, C.length = k + 1 := ⟨C.length - 1, by have := h.1; omega⟩
  unfold cls
  rw [hk]
  exact count_cls h hn k (by omega)
set_option maxRecDepth 20000 in
theorem clo_any (ba bx b off nC cp i : Nat) (p n : Int) (W : World) (hi : i < nC) (ha : W.cell? ⟨ba, 0, none⟩ = some (.slice (some ⟨b, off, none⟩) nC cp)) (hx : W.cell? ⟨bx, 0, none⟩ = some (.int .i64 n)) (hc : W.cell? ⟨b, off + i, none⟩ = some (.int .i64 p)) :
    Calls Try.prog 27 (#[.int .i64 i] ++ #[.pointer (some ⟨ba, 0, none⟩), .pointer (some ⟨bx, 0, none⟩)]) W fun e w' => e = .returned (.bool (decide (n < p))) ∧ ∃ q, w' = W.drewN q := by
  have hi1 : (i : Int) < nC := by omega
  have hi0 : (0 : Int) ≤ i := by omega
  go_enter Try.func27, Try.ntmps27
  go_wp2_with fail
  go_quiet (fail)
  go_wp2_with fail
  go_ret
  exact ⟨by first | rfl | simp, _, rfl⟩
theorem cell_g {w : World} {p : Addr} {v : Value} (h : w.cell? p = some v) (m : Nat) (os : Array Obj) : (grow (w.drewN m) os).cell? p = some v := cell_grown (World.block_lt_of_cell? _ _ h) h m os
theorem enters27 : ∀ args w, (callFunc 27 args).run Try.prog w = .ok (.enter 27 args) w := enters_of Try.func27 (by kernel_rfl) rfl
set_option maxRecDepth 20000 in
theorem class_any (ad : Option Addr) (cp : Nat) (C : List Int) (n : Int) (w : World) (hv : IV w ad C) (hC : CutsOk C) (hn : 0 ≤ n) : Calls Try.prog 18 #[.slice ad C.length cp, .int .i64 n] w fun r w' => r = .returned (.int .i64 (cls C n)) ∧ Below w.heap.size w w' := by
  obtain ⟨b, off, rfl⟩ := hv.addr hC.1
  have HS : Hid (Calls Try.prog 26 #[.int .i64 C.length, .func (.func 27) #[] #[.pointer (some ⟨w.heap.size, 0, none⟩), .pointer (some ⟨w.heap.size + 1, 0, none⟩)]] ((w.alloc (.cells #[.slice (some ⟨b, off, none⟩) C.length cp] 22)).alloc (.cells #[.int .i64 n] 3)) fun e w' => e = .returned (.int .i64 (cls C n + 1 : Nat)) ∧ Below w.heap.size w w') := Lib.hid (by
    obtain ⟨W0, hW0⟩ : ∃ W0, W0 = (w.alloc (.cells #[.slice (some ⟨b, off, none⟩) C.length cp] 22)).alloc (.cells #[.int .i64 n] 3) := ⟨_, rfl⟩
    have hb : Below w.heap.size w W0 := by rw [hW0]; exact (((Below.refl w.heap.size w).alloc (Nat.le_refl _) _).alloc (by simp) _)
    have c0 : W0.cell? ⟨w.heap.size, 0, none⟩ = some (.slice (some ⟨b, off, none⟩) C.length cp) := by
      rw [hW0]
      exact cell_alloc_sl _ (cell_new_sl w _ _)
    have c1 : W0.cell? ⟨w.heap.size + 1, 0, none⟩ = some (.int .i64 n) := by
      rw [hW0]
      have h := cell_new_sl (w.alloc (.cells #[.slice (some ⟨b, off, none⟩) C.length cp] 22)) (.int .i64 n) 3
      rwa [World.size_alloc] at h
    rw [← hW0]
    have h := Any.sort_Search Try.search 27 #[.pointer (some ⟨w.heap.size, 0, none⟩), .pointer (some ⟨w.heap.size + 1, 0, none⟩)] C.length (fun i => decide (n < gI C i)) W0 enters27 (by have := hC.2.1; omega)
      (fun m os i hi => (clo_any w.heap.size (w.heap.size + 1) b off C.length cp i (gI C i) n _ hi (cell_g c0 m os) (cell_g c1 m os) (cell_g ((hv.below hb).at_ hi).2 m os)).mono (fun _ _ ⟨he, q, hq⟩ => ⟨he, q, #[], by rw [hq, grow_empty]⟩))
      (fun a b' h1 h2 h3 => by
        have := cuts_mono hC b' h1 h2
        have := of_decide_eq_true h3
        exact decide_eq_true (by omega))
    rw [count_end hC hn] at h
    refine h.mono ?_
    rintro e w' ⟨rfl, q, os, rfl⟩
    exact ⟨rfl, hb.trans (below_grown_sl _ _ _ _ hb.size)⟩)
  obtain ⟨k, hk⟩ : ∃ k, k = cls C n := ⟨_, rfl⟩
  rw [← hk] at HS ⊢
  have hk2 : k ≤ 256 := by
    rw [hk]
    have := lastLe_lt C n C.length hC.1
    unfold cls
    have := hC.2.1
    omega
  obtain ⟨m, hm⟩ : ∃ m, m = C.length := ⟨_, rfl⟩
  have hm2 : m ≤ 256 := by rw [hm]; exact hC.2.1
  rw [← hm] at HS ⊢
  clear hk hm hv hC
  go_enter Try.func18, Try.ntmps18
  go_wp2_with fail
  refine HS.out.mono ?_
  rintro e w1 ⟨rfl, b1⟩
  go_wp2_with fail
  go_ret
  exact ⟨by first | rfl | (refine ret_int ?_; omega), b1⟩
end Go.Proofs.Ythaliiffgkcahaa
