import Derived.Test.YtfphejndbnmfeaaDoorU3
import Derived.Laws.BitsLemmas
namespace Go.Proofs.YtfphejndbnmfeaaDoor
open Go.RowKit

theorem ret_pe {L : List Int} {e e' : Int} (h : e = e') : Ending.returned (.tuple #[arV L, .int .i64 e]) = .returned (.tuple #[arV L, .int .i64 e']) := by rw [h]
/-- The world as the walk has it where the loop begins. -/
theorem W3_start (w : World) (s : ByteArray) : ((w.alloc (.cells #[.int .u8 0, .int .u8 0, .int .u8 0, .int .u8 0, .int .u8 0, .int .u8 0, .int .u8 0, .int .u8 0, .int .u8 0, .int .u8 0, .int .u8 0, .int .u8 0, .int .u8 0, .int .u8 0, .int .u8 0, .int .u8 0] 50)).alloc (.cells #[.int .u8 0, .int .u8 0, .int .u8 0, .int .u8 0, .int .u8 0, .int .u8 0, .int .u8 0, .int .u8 0, .int .u8 0, .int .u8 0, .int .u8 0, .int .u8 0, .int .u8 0, .int .u8 0, .int .u8 0, .int .u8 0] 50)).iter s 0 = W3 w s z16 (arr s 0) 0 := by
  unfold W3 X2
  rw [show arr s 0 = z16 from rfl, z_lit]
theorem wraps_u8 (n : Int) (h₀ : 0 ≤ n) (h₁ : n < 2 ^ 8) : IntKind.u8.wrap n = n := by rw [IntKind.wrap_u8]; omega
theorem or_low (x d : Int) (h0 : 0 ≤ d) (h1 : d < 16) : bits .or .u8 (x * 16 % 256) d = x * 16 % 256 + d :=
  bits_join .u8 8 (by decide) wraps_u8 4 (x * 16 % 256) d (by omega) (by omega) (by omega) h0 h1 (by omega)
theorem okS_no {s : ByteArray} {k : Nat} (hk : k ≤ 36) (h : okTo s k = false) : upL s = z16 ∧ upE s = 130 := by
  have : okS s = false := by
    cases hh : okS s
    · rfl
    · have := okTo_le hk (okS_parts hh).2
      rw [h] at this; cases this
  unfold upL upE; rw [this]; exact ⟨rfl, rfl⟩
theorem okS_yes {s : ByteArray} (h : s.size = 36) (h2 : okTo s 36 = true) : upL s = arr s 36 ∧ upE s = 0 := by
  have : okS s = true := by unfold okS; rw [h2]; simp [h]
  unfold upL upE; rw [this, arr_all h2]; exact ⟨rfl, rfl⟩
theorem bad_facts (w : World) (s : ByteArray) (M : List Int) (p : Nat) (i : Nat) (hi : i < 16) : (W3 w s z16 M p).cell? ⟨w.heap.size, i, none⟩ = some (.int .u8 0) := by
  have := (W3_arr0 w s M p (L := z16) rfl).2 i hi
  rw [z16_at] at this; exact this
theorem bad_set (w : World) (s : ByteArray) (M : List Int) (p i : Nat) : (W3 w s z16 M p).setCell ⟨w.heap.size, i, none⟩ (.int .u8 0) = W3 w s z16 M p := by
  rw [W3_set0, z16_set]
set_option maxRecDepth 10000 in
set_option maxHeartbeats 1000000 in
theorem parse_long (s : ByteArray) (w : World) (h : s.size = 36) :
    Calls Tryd.prog 31 #[.string s] w fun e w' => e = .returned (.tuple #[arV (upL s), .int .i64 (upE s)]) ∧ Below w.heap.size w w' := by
  have hb : ((s.size : Int) != 36) = false := by simp; omega
  have HS := Lib.hid h
  clear h
  go_enter Tryd.func31, Tryd.ntmps31
  go_wp2_with fail
  rw [W3_start]
  clear hb
  obtain ⟨V, hV⟩ : ∃ V, V = W3 w s := ⟨_, rfl⟩
  rw [← hV]
  have HV := Lib.hid hV
  clear hV
  go_loopg [5] 36 (fun f hh wr => ∃ k : Nat, f + k = 36 ∧ hh = .int .i64 (half k : Nat) ∧ okTo s k = true ∧ V z16 (arr s k) k = wr)
  case atStart => exact ⟨0, rfl, rfl, rfl, rfl⟩
  case round =>
    obtain ⟨k, hf, rfl, hok, rfl⟩ := hrel
    have HF := Lib.hid hf
    cases gk with
    | zero =>
      obtain rfl : k = 36 := by omega
      have hnx : ∀ ty, (Instr.next (.pointer (some ⟨w.heap.size + 1 + 1, 0, none⟩)) true ty).run Tryd.prog (V z16 (arr s 36) 36) = .ok (.tuple #[.bool false]) (V z16 (arr s 36) 36) := fun ty => by
        rw [HV.out]; exact W3_end w s z16 (arr s 36) 36 ty (by rw [HS.out]; omega)
      have hfin := okS_yes HS.out hok
      have hl := arr_length s 36
      obtain ⟨G, hG⟩ : ∃ G : Nat → Int, G = fun i => (arr s 36).getD i 0 := ⟨_, rfl⟩
      obtain ⟨U, hU⟩ : ∃ U : Nat → World, U = fun j => V (pre G j) (arr s 36) 36 := ⟨_, rfl⟩
      have hU0 : V z16 (arr s 36) 36 = U 0 := by rw [hU]; rfl
      have hUw : ∀ j, U j = W3 w s (pre G j) (arr s 36) 36 := fun j => by rw [hU, HV.out]
      have c1 : ∀ i, i < 16 → (U 0).cell? ⟨w.heap.size + 1, i, none⟩ = some (.int .u8 (G i)) := fun i hi => by
        rw [hUw, hG]; exact (W3_arr1 w s _ 36 hl).2 i hi
      obtain ⟨C, hC⟩ : ∃ C : Nat → Nat → Int, C = fun j i => (pre G j).getD i 0 := ⟨_, rfl⟩
      have c0 : ∀ j i, i < 16 → (U j).cell? ⟨w.heap.size, i, none⟩ = some (.int .u8 (C j i)) := fun j i hi => by
        rw [hUw, hC]; exact (W3_arr0 w s _ 36 (pre_length G j)).2 i hi
      have f0 : ∀ j i, (U j).frozen? ⟨w.heap.size, i, none⟩ = false := fun j i => by rw [hUw]; exact W3_frozen w s _ _ _ _ _ (.inl rfl)
      have s0 : ∀ j, (U j).setCell ⟨w.heap.size, j, none⟩ (.int .u8 (G j)) = U (j + 1) := fun j => by rw [hUw, hUw, W3_set0]; rfl
      have HA : Hid (Arr (U 16) w.heap.size (upL s)) := Lib.hid (by
        rw [hUw, hG, pre_all hl, hfin.1]; exact W3_arr0 w s _ _ hl)
      have HBL : Hid (Below w.heap.size w (U 16)) := Lib.hid (by rw [hUw]; exact W3_below w s _ _ _)
      have HE := Lib.hid hfin.2
      rw [hU0] at hnx ⊢
      clear hU hUw hG hC hfin hl hU0 hok hf
      go_wp2_with fail
      rw [HE.out]
      exact ret31 rfl rfl HA.out (upL_length s) ⟨rfl, HBL.out⟩
    | succ g =>
      have hk : k < 36 := by omega
      obtain ⟨r, n, hd, hr, hrn⟩ := next_rune s k
      have hnx : ∀ ty, (Instr.next (.pointer (some ⟨w.heap.size + 1 + 1, 0, none⟩)) true ty).run Tryd.prog (V z16 (arr s k) k) = .ok (.tuple #[.bool true, .int .i64 k, .int .i32 r]) (V z16 (arr s k) (k + n)) := fun ty => by
        rw [HV.out]; exact W3_next w s z16 (arr s k) k r n ty (by rw [HS.out]; exact hk) hd
      have HRN := Lib.hid hrn
      have HOK := Lib.hid hok
      have HK := Lib.hid hk
      have hhl := half_le k (by omega)
      have hr0 : (0 : Int) ≤ r := Int.natCast_nonneg r
      have HR := Lib.hid hr
      clear hrn hd hf hok hk
      cases hm : mk k
      · -- a digit
        have HM := Lib.hid hm
        clear hm
        by_cases hd : hx r < 0
        · -- none
          have hn : ¬ 0 ≤ hx (byt s k) := by
            rcases HRN.out with ⟨a, b⟩ | ⟨a, b⟩
            · rw [← a]; omega
            · rw [hx_big a]; omega
          have HN := Lib.hid (okS_no (s := s) (k := k + 1) (by have := HK.out; omega) (by simp [okTo, HM.out]; intro _; omega))
          clear hn
          obtain ⟨d, hdx⟩ : ∃ d, d = hx r := ⟨_, rfl⟩
          rw [← hdx] at hd
          have HD := Lib.hid hdx
          clear hdx
          obtain ⟨U, hU⟩ : ∃ U, U = V z16 (arr s k) (k + n) := ⟨_, rfl⟩
          rw [← hU] at hnx
          have hU2 : U = W3 w s z16 (arr s k) (k + n) := by rw [hU, HV.out]
          have hc0 : ∀ i, i < 16 → U.cell? ⟨w.heap.size, i, none⟩ = some (.int .u8 0) := fun i hi => by rw [hU2]; exact bad_facts w s _ _ i hi
          have hf0 : ∀ i, U.frozen? ⟨w.heap.size, i, none⟩ = false := fun i => by rw [hU2]; exact W3_frozen w s _ _ _ _ _ (.inl rfl)
          have hs0 : ∀ i, U.setCell ⟨w.heap.size, i, none⟩ (.int .u8 0) = U := fun i => by rw [hU2]; exact bad_set w s _ _ i
          have HA : Hid (Arr U w.heap.size z16) := Lib.hid (by rw [hU2]; exact W3_arr0 w s _ _ rfl)
          have HBL : Hid (Below w.heap.size w U) := Lib.hid (by rw [hU2]; exact W3_below w s _ _ _)
          clear hU hU2
          go_wp2_with fail
          refine (mark_any _ _).mono ?_
          rintro e w' ⟨rfl, rfl⟩
          rw [HM.out]
          go_wp2_with fail
          refine (digit_any _ _ hr0 ?hdr).mono ?_
          case hdr => have := HR.out; omega
          rintro e w' ⟨rfl, rfl⟩
          rw [← HD.out]
          go_wp2_with fail
          rw [HN.out.1, HN.out.2]
          exact ret31 rfl rfl HA.out rfl ⟨rfl, HBL.out⟩
        · -- one
          have hb : r = byt s k ∧ n = 1 := by
            rcases HRN.out with ⟨a, b⟩ | ⟨a, b⟩
            · exact ⟨a, b⟩
            · have := hx_big (c := (r : Int)) (by omega); omega
          obtain ⟨hb, rfl⟩ := hb
          have hd0 : 0 ≤ hx r := by omega
          have hd1 := (hx_range r).2
          have HX : Hid (hx r = hx (byt s k)) := Lib.hid (by rw [hb])
          have HOK2 : Hid (okTo s (k + 1) = true) := Lib.hid (by simp [okTo, HOK.out, HM.out]; rw [← HX.out]; exact hd0)
          obtain ⟨d, hdx⟩ : ∃ d, d = hx r := ⟨_, rfl⟩
          rw [← hdx] at hd hd0 hd1
          have HD := Lib.hid hdx
          clear hdx hb
          obtain ⟨U, hU⟩ : ∃ U, U = V z16 (arr s k) (k + 1) := ⟨_, rfl⟩
          rw [← hU] at hnx
          have hU2 : U = W3 w s z16 (arr s k) (k + 1) := by rw [hU, HV.out]
          have hq := half_lt k HK.out HM.out
          obtain ⟨q, hqq⟩ : ∃ q, q = half k := ⟨_, rfl⟩
          have HQ := Lib.hid hqq
          rw [← hqq] at hq hhl
          rw [← hqq]
          obtain ⟨x, hx'⟩ : ∃ x, x = (arr s k).getD (q / 2) 0 := ⟨_, rfl⟩
          have hc : U.cell? ⟨w.heap.size + 1, q / 2, none⟩ = some (.int .u8 x) := by
            rw [hU2, hx']; exact (W3_arr1 w s z16 (k + 1) (arr_length s k)).2 (q / 2) (by omega)
          have hfz : U.frozen? ⟨w.heap.size + 1, q / 2, none⟩ = false := by rw [hU2]; exact W3_frozen w s _ _ _ _ _ (.inr rfl)
          have hst : U.setCell ⟨w.heap.size + 1, q / 2, none⟩ (.int .u8 (x * 16 % 256 + d)) = V z16 (arr s (k + 1)) (k + 1) := by
            rw [hU2, W3_set1, HV.out]
            congr 1
            simp only [arr, HM.out]
            rw [← HQ.out, ← hx', HD.out, HX.out]; rfl
          have hqi : (0 : Int) ≤ (q : Int) := Int.natCast_nonneg q
          have HST := Lib.hid hst
          clear hU hU2 hqq hx' hst
          go_wp2_with fail
          refine (mark_any _ _).mono ?_
          rintro e w' ⟨rfl, rfl⟩
          rw [HM.out]
          go_wp2_with fail
          refine (digit_any _ _ hr0 ?hdr).mono ?_
          case hdr => have := HR.out; omega
          rintro e w' ⟨rfl, rfl⟩
          rw [← HD.out]
          go_wp2_with fail
          rw [or_low x d hd0 hd1, HST.out]
          go_roundg g
          case rel => exact ⟨k + 1, by have := HF.out; omega, by rw [show half (k + 1) = q + 1 by rw [HQ.out]; simp [half, HM.out]]; go_num, HOK2.out, rfl⟩
          case measure => omega
      · have HM := Lib.hid hm
        clear hm
        by_cases h45 : (r : Int) = 45
        · have hne : ((r : Int) != 45) = false := by simp [h45]
          have hb : byt s k = 45 ∧ n = 1 := by
            rcases HRN.out with ⟨a, b⟩ | ⟨a, b⟩
            · exact ⟨by omega, b⟩
            · omega
          obtain ⟨hb, rfl⟩ := hb
          have HB := Lib.hid hb
          clear hb h45
          go_wp2_with fail
          refine (mark_any _ _).mono ?_
          rintro e w' ⟨rfl, rfl⟩
          rw [HM.out]
          go_wp2_with fail
          go_roundg g
          case rel =>
            refine ⟨k + 1, by have := HF.out; omega, by simp [half, HM.out], by simp [okTo, HOK.out, HM.out, HB.out], by simp [arr, HM.out]⟩
          case measure => omega
        · have hne : ((r : Int) != 45) = true := by simp [h45]
          have hn : byt s k ≠ 45 := by rcases HRN.out with ⟨a, b⟩ | ⟨a, b⟩ <;> omega
          have HN := Lib.hid (okS_no (s := s) (k := k + 1) (by have := HK.out; omega) (by simp [okTo, HM.out, hn]))
          clear hn h45
          obtain ⟨U, hU⟩ : ∃ U, U = V z16 (arr s k) (k + n) := ⟨_, rfl⟩
          rw [← hU] at hnx
          have hU2 : U = W3 w s z16 (arr s k) (k + n) := by rw [hU, HV.out]
          have hc0 : ∀ i, i < 16 → U.cell? ⟨w.heap.size, i, none⟩ = some (.int .u8 0) := fun i hi => by rw [hU2]; exact bad_facts w s _ _ i hi
          have hf0 : ∀ i, U.frozen? ⟨w.heap.size, i, none⟩ = false := fun i => by rw [hU2]; exact W3_frozen w s _ _ _ _ _ (.inl rfl)
          have hs0 : ∀ i, U.setCell ⟨w.heap.size, i, none⟩ (.int .u8 0) = U := fun i => by rw [hU2]; exact bad_set w s _ _ i
          have HA : Hid (Arr U w.heap.size z16) := Lib.hid (by rw [hU2]; exact W3_arr0 w s _ _ rfl)
          have HBL : Hid (Below w.heap.size w U) := Lib.hid (by rw [hU2]; exact W3_below w s _ _ _)
          clear hU hU2
          go_wp2_with fail
          refine (mark_any _ _).mono ?_
          rintro e w' ⟨rfl, rfl⟩
          rw [HM.out]
          go_wp2_with fail
          rw [HN.out.1, HN.out.2]
          exact ret31 rfl rfl HA.out rfl ⟨rfl, HBL.out⟩
end Go.Proofs.YtfphejndbnmfeaaDoor
