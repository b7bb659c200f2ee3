import Derived.Test.YtfphejndbnmfeaaDoorU14
namespace Go.Proofs.YtfphejndbnmfeaaDoor
open Go.RowKit

theorem hex_cut (n : Int) (h0 : 0 ≤ n) (h1 : n < 16) : (⟨#[48, 49, 50, 51, 52, 53, 54, 55, 56, 57, 97, 98, 99, 100, 101, 102]⟩ : ByteArray).extract n.toNat (n + 1).toNat = mkB [dg n] := by
  rcases (show n = 0 ∨ n = 1 ∨ n = 2 ∨ n = 3 ∨ n = 4 ∨ n = 5 ∨ n = 6 ∨ n = 7 ∨ n = 8 ∨ n = 9 ∨ n = 10 ∨ n = 11 ∨ n = 12 ∨ n = 13 ∨ n = 14 ∨ n = 15 by omega) with rfl | rfl | rfl | rfl | rfl | rfl | rfl | rfl | rfl | rfl | rfl | rfl | rfl | rfl | rfl | rfl <;> decide +kernel
theorem txR_len (L : List Int) : ∀ j, (txR L j).length ≤ 3 * j
  | 0 => by simp [txR]
  | j + 1 => by
    have := txR_len L j
    simp only [txR, List.length_append]
    split <;> simp <;> omega
theorem mkB_app (L M : List Int) : mkB L ++ mkB M = mkB (L ++ M) := by
  apply ByteArray.ext
  simp [mkB, ByteArray.data_append]
theorem tx_mark {T : ByteArray} {A : List Int} (h : T = mkB A) (a b : Int) : T ++ (mkB [a] ++ mkB [b]) ++ ⟨#[45]⟩ = mkB (A ++ ([a, b] ++ [45])) := by
  have e : (⟨#[45]⟩ : ByteArray) = mkB [45] := by decide +kernel
  rw [h, e, mkB_app, mkB_app, mkB_app]
  congr 1
  simp
theorem tx_none {T : ByteArray} {A : List Int} (h : T = mkB A) (a b : Int) : T ++ (mkB [a] ++ mkB [b]) = mkB (A ++ ([a, b] ++ [])) := by
  rw [h, mkB_app, mkB_app]
  congr 1
set_option maxRecDepth 10000 in
theorem rtext_any (L : List Int) (hl : L.length = 16) (ho : okB L) (w : World) :
    Calls Tryd.prog 35 #[arV L] w fun e w' => e = .returned (.string (txS L)) ∧ Below w.heap.size w w' := by
  have h1 : Arr (w.alloc (.cells (arC L) 50)) w.heap.size L := arr_new w L 50 hl
  have H1 := Lib.hid h1
  have HO := Lib.hid ho
  have HBL : Hid (Below w.heap.size w (w.alloc (.cells (arC L) 50))) := Lib.hid ((Below.refl _ w).alloc (Nat.le_refl _) _)
  clear h1 hl ho
  unfold arV
  go_enter Tryd.func35, Tryd.ntmps35
  go_wp2_with fail
  obtain ⟨W, hW⟩ : ∃ W, W = w.alloc (.cells (arC L) 50) := ⟨_, rfl⟩
  rw [← hW] at H1 HBL
  rw [← hW]
  clear hW
  go_loopg [3, 4] 16 (fun f s k wr => ∃ j : Nat, f + j = 16 ∧ k = .int .i64 j ∧ s = .string (mkB (txR L j)) ∧ Arr wr w.heap.size L ∧ Below w.heap.size w wr)
  case atStart => exact ⟨0, by omega, rfl, rfl, H1.out, HBL.out⟩
  case round =>
    obtain ⟨j, hf, rfl, rfl, ha, hbl⟩ := hrel
    have HA := Lib.hid ha
    have HBW := Lib.hid hbl
    cases gk with
    | zero =>
      obtain rfl : j = 16 := by omega
      clear ha hbl
      go_wp2_with fail
      go_ret
      exact ⟨rfl, HBW.out⟩
    | succ g =>
      have hj : j < 16 := by omega
      have hj' : (j : Int) < 16 := by omega
      have c1 := ha.2 j hj
      have hr := HO.out j
      have HT : Hid (txR L (j + 1) = txR L j ++ ([dg (L.getD j 0 / 16), dg (L.getD j 0 % 16)] ++ if mr j then [45] else [])) := Lib.hid rfl
      obtain ⟨x, hx⟩ : ∃ x, x = L.getD j 0 := ⟨_, rfl⟩
      rw [← hx] at c1 hr HT
      have q1 : IntKind.u8.wrap (x.tdiv 16) = x / 16 := by rw [IntKind.wrap_u8, Int.tdiv_eq_ediv_of_nonneg hr.1]; omega
      have q2 : x.tmod 16 = x % 16 := Int.tmod_eq_emod_of_nonneg hr.1
      have hq : 0 ≤ x / 16 ∧ x / 16 < 16 := by omega
      have hm : 0 ≤ x % 16 ∧ x % 16 < 16 := by omega
      obtain ⟨q, hqx⟩ : ∃ q, q = x / 16 := ⟨_, rfl⟩
      obtain ⟨r, hrx⟩ : ∃ r, r = x % 16 := ⟨_, rfl⟩
      rw [← hqx] at q1 hq HT
      rw [← hrx] at q2 hm HT
      have e1 := hex_cut q hq.1 hq.2
      have e2 := hex_cut r hm.1 hm.2
      have w1 : IntKind.u8.wrap (q + 1) = q + 1 := by rw [IntKind.wrap_u8]; omega
      have w2 : IntKind.u8.wrap (r + 1) = r + 1 := by rw [IntKind.wrap_u8]; omega
      have b1 : q + 1 ≤ 16 := by omega
      have b2 : r + 1 ≤ 16 := by omega
      have b3 : 0 ≤ q + 1 := by omega
      have b4 : 0 ≤ r + 1 := by omega
      have b5 : q ≤ q + 1 := by omega
      have b6 : r ≤ r + 1 := by omega
      obtain ⟨hq0, hq1⟩ := hq
      obtain ⟨hm0, hm1⟩ := hm
      clear hqx hrx hr
      have s1 : (mkB [dg q]).size = 1 := by rw [mkB_size]; rfl
      have s2 : (mkB [dg r]).size = 1 := by rw [mkB_size]; rfl
      have s3 : (mkB (txR L j)).size ≤ 64 := by rw [mkB_size]; have := txR_len L j; omega
      obtain ⟨T, hT⟩ : ∃ T, T = mkB (txR L j) := ⟨_, rfl⟩
      rw [← hT] at s3
      rw [← hT]
      have HF := Lib.hid hf
      have HTT := Lib.hid hT
      clear hx ha hbl hf hT
      by_cases h3 : j = 3
      · have HMR : Hid (mr j = true) := Lib.hid (by rw [h3]; rfl)
        have g3 : ((j : Int) == 3) = true := by simp [h3]; try omega
        clear h3
        go_wp2_with fail
        go_quiet (fail)
        go_wp2_with fail
        go_roundg g
        case rel => exact ⟨j + 1, by have := HF.out; omega, by go_num, by rw [HT.out, HMR.out]; exact congrArg Value.string (tx_mark HTT.out (dg q) (dg r)), arr_dr HA.out _, below_dr HBW.out _⟩
        case measure => omega
      by_cases h5 : j = 5
      · have HMR : Hid (mr j = true) := Lib.hid (by rw [h5]; rfl)
        have g5 : ((j : Int) == 5) = true := by simp [h5]; try omega
        have g3 : ((j : Int) == 3) = false := by simp; omega
        clear h3 h5
        go_wp2_with fail
        go_quiet (fail)
        go_wp2_with fail
        go_roundg g
        case rel => exact ⟨j + 1, by have := HF.out; omega, by go_num, by rw [HT.out, HMR.out]; exact congrArg Value.string (tx_mark HTT.out (dg q) (dg r)), arr_dr HA.out _, below_dr HBW.out _⟩
        case measure => omega
      by_cases h7 : j = 7
      · have HMR : Hid (mr j = true) := Lib.hid (by rw [h7]; rfl)
        have g7 : ((j : Int) == 7) = true := by simp [h7]; try omega
        have g3 : ((j : Int) == 3) = false := by simp; omega
        have g5 : ((j : Int) == 5) = false := by simp; omega
        clear h3 h5 h7
        go_wp2_with fail
        go_quiet (fail)
        go_wp2_with fail
        go_roundg g
        case rel => exact ⟨j + 1, by have := HF.out; omega, by go_num, by rw [HT.out, HMR.out]; exact congrArg Value.string (tx_mark HTT.out (dg q) (dg r)), arr_dr HA.out _, below_dr HBW.out _⟩
        case measure => omega
      by_cases h9 : j = 9
      · have HMR : Hid (mr j = true) := Lib.hid (by rw [h9]; rfl)
        have g9 : ((j : Int) == 9) = true := by simp [h9]; try omega
        have g3 : ((j : Int) == 3) = false := by simp; omega
        have g5 : ((j : Int) == 5) = false := by simp; omega
        have g7 : ((j : Int) == 7) = false := by simp; omega
        clear h3 h5 h7 h9
        go_wp2_with fail
        go_quiet (fail)
        go_wp2_with fail
        go_roundg g
        case rel => exact ⟨j + 1, by have := HF.out; omega, by go_num, by rw [HT.out, HMR.out]; exact congrArg Value.string (tx_mark HTT.out (dg q) (dg r)), arr_dr HA.out _, below_dr HBW.out _⟩
        case measure => omega
      have HMR : Hid (mr j = false) := Lib.hid (by unfold mr; simp [h3, h5, h7, h9])
      have g3 : ((j : Int) == 3) = false := by simp; omega
      have g5 : ((j : Int) == 5) = false := by simp; omega
      have g7 : ((j : Int) == 7) = false := by simp; omega
      have g9 : ((j : Int) == 9) = false := by simp; omega
      clear h3 h5 h7 h9
      go_wp2_with fail
      go_quiet (fail)
      go_wp2_with fail
      go_roundg g
      case rel => exact ⟨j + 1, by have := HF.out; omega, by go_num, by rw [HT.out, HMR.out]; exact congrArg Value.string (tx_none HTT.out (dg q) (dg r)), arr_dr HA.out _, below_dr HBW.out _⟩
      case measure => omega
end Go.Proofs.YtfphejndbnmfeaaDoor
