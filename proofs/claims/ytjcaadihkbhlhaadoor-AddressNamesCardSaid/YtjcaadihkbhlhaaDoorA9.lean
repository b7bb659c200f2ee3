import Derived.Test.YtjcaadihkbhlhaaDoorA8
namespace Go.Proofs.YtjcaadihkbhlhaaDoor
open Go.RowKit
def base1 : List ByteArray := [⟨#[33, 36, 38, 39, 40, 41, 42, 43, 44, 59, 61]⟩]
theorem flat_base1 : flat base1 = [33, 36, 38, 39, 40, 41, 42, 43, 44, 59, 61] := by rfl
theorem del_cells (w : World) : ∀ j x, base1[j]? = some x → (w.alloc (.cells #[.string ⟨#[33, 36, 38, 39, 40, 41, 42, 43, 44, 59, 61]⟩] 9)).cell? ⟨w.heap.size, 0 + j, none⟩ = some (.string x) := by
  intro j x hj
  rw [World.cell?_alloc_mark, Nat.zero_add]
  match j, hj with
  | 0, h => obtain rfl := Option.some.inj h; rfl
set_option maxRecDepth 20000 in
set_option maxHeartbeats 1000000 in
theorem del_view (xs : List ByteArray) (b o cap : Nat) (w : World) (h0 : 0 < xs.length) (hcap : xs.length ≤ cap) (hb : b < w.heap.size) (hx : ∀ j x, xs[j]? = some x → w.cell? ⟨b, o + j, none⟩ = some (.string x)) (hl : xs.length ≤ 90) (hs : ∀ x ∈ xs, x.size ≤ 1000000) :
    Calls Tryd.prog 37 #[.slice (some ⟨b, o, none⟩) xs.length cap] w fun e w' => e = .returned (setV (flat (base4 ++ (base1 ++ xs)))) ∧ Below w.heap.size w w' := by
  obtain ⟨L, hL⟩ : ∃ L, L = flat (base4 ++ (base1 ++ xs)) := ⟨_, rfl⟩
  rw [← hL]
  have HLL := Lib.hid hL
  clear hL
  obtain ⟨i0, hi, hz0, hz1, hz2⟩ := info_text
  have HI := Lib.hid hi
  have HZ0 := Lib.hid hz0
  have HZ1 := Lib.hid hz1
  have HZ2 := Lib.hid hz2
  have HX := Lib.hid (fun W (hW : Below w.heap.size w W) j x (h : xs[j]? = some x) => (hW.cell (p := ⟨b, o + j, none⟩) hb).trans (hx j x h))
  have HS := Lib.hid hs
  clear hx hs hi hz0 hz1 hz2
  have zz : (w.alloc (.cells #[.int .u64 0, .int .u64 0, .int .u64 0, .int .u64 0] 60)).heap.size = w.heap.size + 1 := by simp
  have hbc := del_cells (w.alloc (.cells #[.int .u64 0, .int .u64 0, .int .u64 0, .int .u64 0] 60))
  rw [zz] at hbc
  have HB := Lib.hid hbc
  have hsb := SBox.new w []
  rw [set_nil] at hsb
  have B1 : Hid (Below w.heap.size w (w.alloc (.cells #[.int .u64 0, .int .u64 0, .int .u64 0, .int .u64 0] 60))) := Lib.hid ((Below.refl _ w).alloc (Nat.le_refl _) _)
  have B2 : Hid (Below w.heap.size w ((w.alloc (.cells #[.int .u64 0, .int .u64 0, .int .u64 0, .int .u64 0] 60)).alloc (.cells #[.string ⟨#[33, 36, 38, 39, 40, 41, 42, 43, 44, 59, 61]⟩] 9))) := Lib.hid (B1.out.alloc (by simp) _)
  have SB : Hid (SBox ((w.alloc (.cells #[.int .u64 0, .int .u64 0, .int .u64 0, .int .u64 0] 60)).alloc (.cells #[.string ⟨#[33, 36, 38, 39, 40, 41, 42, 43, 44, 59, 61]⟩] 9)) w.heap.size []) := Lib.hid (hsb.up ((Below.refl _ _).alloc (Nat.le_refl _) _))
  clear zz hbc hsb
  go_enter Tryd.func37, Tryd.ntmps37
  go_wp2_with (first | (at_builtin; refine wpList_append_grows _ rfl _ _ 80 rfl 9 i0 _ 1 16 Tryd.underlying80 HI.out HZ0.out HZ1.out HZ2.out rfl (by decide) _ 1 1 (base1.map Value.string) rfl (by intro h; cases h) (by rfl) (fun bb hbb => by obtain rfl := Option.some.inj hbb; exact text_news HB.out) ⟨b, o, none⟩ xs.length cap (xs.map Value.string) rfl (by simp) (text_news (fun j x h => HX.out _ B2.out j x h)) text_one (by omega) (by unfold maxLen; omega) (by omega) ?_))
  rw [← List.map_append]
  intro v' w3 hown hgrow
  have hsize : (1 + xs.length) = (base1 ++ xs).length := by simp [base1]; omega
  rw [hsize] at hown
  obtain ⟨b', cap', rfl, hcap', hb1, hb2, hcells⟩ := own_texts hown (by simp [base1])
  have B3 : Hid (Below w.heap.size w w3) := Lib.hid (B2.out.grown hgrow (by simp; omega) (by intro k hk; cases hk))
  have SB3 : Hid (SBox w3 w.heap.size []) := Lib.hid (SB.out.up ((Below.refl _ _).grown hgrow (Nat.le_refl _) (by intro k hk; cases hk)))
  have M := Lib.hid (unr_view (base1 ++ xs) b' 0 cap' w3 (by simp [base1]) hcap' hb2 hcells (by simp [base1]; omega) (by
    intro x hx
    rcases List.mem_append.1 hx with h | h
    · have : ∀ y ∈ base1, y.size ≤ 1000000 := by decide
      exact this x h
    · exact HS.out x h))
  clear hgrow hown hcells hb1 hb2 hcap' hsize
  rw [List.length_append] at M
  rw [← HLL.out] at M
  unfold setV setC at M
  go_wp2_with fail
  refine M.out.mono ?_
  rintro e w4 ⟨rfl, b4⟩
  have B4 := Lib.hid (B3.out.trans (b4.mono B3.out.size))
  have SB4 := Lib.hid (SB3.out.up b4)
  have c0 := SB4.out.1 0 (by decide)
  have c1 := SB4.out.1 1 (by decide)
  have c2 := SB4.out.1 2 (by decide)
  have c3 := SB4.out.1 3 (by decide)
  clear b4
  obtain ⟨c0, f0⟩ := c0
  obtain ⟨c1, f1⟩ := c1
  obtain ⟨c2, f2⟩ := c2
  obtain ⟨c3, f3⟩ := c3
  go_wp2_with fail
  have hfin := set_cells SB4.out L
  exact ret_set (N := w.heap.size) (L := L) Tryd.results37 (by rfl) hfin ⟨rfl, below_cells w.heap.size (Nat.le_refl _) (setL L) 0 _ B4.out⟩
set_option maxRecDepth 20000 in
set_option maxHeartbeats 1000000 in
theorem del_nil (w : World) :
    Calls Tryd.prog 37 #[.slice none 0 0] w fun e w' => e = .returned (setV (flat (base4 ++ base1))) ∧ Below w.heap.size w w' := by
  obtain ⟨L, hL⟩ : ∃ L, L = flat (base4 ++ base1) := ⟨_, rfl⟩
  rw [← hL]
  have HLL := Lib.hid hL
  clear hL
  have zz : (w.alloc (.cells #[.int .u64 0, .int .u64 0, .int .u64 0, .int .u64 0] 60)).heap.size = w.heap.size + 1 := by simp
  have hbc := del_cells (w.alloc (.cells #[.int .u64 0, .int .u64 0, .int .u64 0, .int .u64 0] 60))
  rw [zz] at hbc
  have HB := Lib.hid hbc
  have hsb := SBox.new w []
  rw [set_nil] at hsb
  have B1 : Hid (Below w.heap.size w (w.alloc (.cells #[.int .u64 0, .int .u64 0, .int .u64 0, .int .u64 0] 60))) := Lib.hid ((Below.refl _ w).alloc (Nat.le_refl _) _)
  have B2 : Hid (Below w.heap.size w ((w.alloc (.cells #[.int .u64 0, .int .u64 0, .int .u64 0, .int .u64 0] 60)).alloc (.cells #[.string ⟨#[33, 36, 38, 39, 40, 41, 42, 43, 44, 59, 61]⟩] 9))) := Lib.hid (B1.out.alloc (by simp) _)
  have SB : Hid (SBox ((w.alloc (.cells #[.int .u64 0, .int .u64 0, .int .u64 0, .int .u64 0] 60)).alloc (.cells #[.string ⟨#[33, 36, 38, 39, 40, 41, 42, 43, 44, 59, 61]⟩] 9)) w.heap.size []) := Lib.hid (hsb.up ((Below.refl _ _).alloc (Nat.le_refl _) _))
  clear zz hbc hsb
  go_enter Tryd.func37, Tryd.ntmps37
  go_wp2_with fail
  trace_state
  have M := Lib.hid (unr_view base1 (w.heap.size + 1) 0 1 _ (by decide) (by decide) (by simp) HB.out (by decide) (by decide))
  rw [← HLL.out] at M
  unfold setV setC at M
  refine M.out.mono ?_
  rintro e w4 ⟨rfl, b4⟩
  have B4 := Lib.hid (B2.out.trans (b4.mono B2.out.size))
  have SB4 := Lib.hid (SB.out.up b4)
  have c0 := SB4.out.1 0 (by decide)
  have c1 := SB4.out.1 1 (by decide)
  have c2 := SB4.out.1 2 (by decide)
  have c3 := SB4.out.1 3 (by decide)
  clear b4
  obtain ⟨c0, f0⟩ := c0
  obtain ⟨c1, f1⟩ := c1
  obtain ⟨c2, f2⟩ := c2
  obtain ⟨c3, f3⟩ := c3
  go_wp2_with fail
  have hfin := set_cells SB4.out L
  exact ret_set (N := w.heap.size) (L := L) Tryd.results37 (by rfl) hfin ⟨rfl, below_cells w.heap.size (Nat.le_refl _) (setL L) 0 _ B4.out⟩
end Go.Proofs.YtjcaadihkbhlhaaDoor
