import Derived.Test.YtfphejndbnmfeaaDoorU16
namespace Go.Proofs.YtfphejndbnmfeaaDoor
open Go.RowKit

set_option maxRecDepth 10000 in
set_option maxHeartbeats 1000000 in
theorem rparse_long (s : ByteArray) (w : World) (h : s.size = 36) :
    Calls Tryd.prog 32 #[.string s] w fun e w' => e = .returned (.tuple #[arV (upL s), .int .i64 (upE s)]) ∧ Below w.heap.size w w' := by
  have hb : ((s.size : Int) != 36) = false := by simp; omega
  have HS := Lib.hid h
  clear h
  go_enter Tryd.func32, Tryd.ntmps32
  go_wp2_with fail
  rw [X3_start]
  clear hb
  obtain ⟨V, hV⟩ : ∃ V, V = X3 w := ⟨_, rfl⟩
  rw [← hV]
  have HV := Lib.hid hV
  clear hV
  go_loopg [5, 6] 16 (fun f at' i wr => ∃ j n : Nat, f + j = 16 ∧ i = .int .i64 j ∧ at' = .int .i64 (pos j : Nat) ∧ okTo s (pos j) = true ∧ V n z16 (pre (vb s) j) = wr)
  case atStart => exact ⟨0, 0, rfl, rfl, rfl, rfl, rfl⟩
  case round =>
    obtain ⟨j, n, hf, rfl, rfl, hok, rfl⟩ := hrel
    have HF := Lib.hid hf
    cases gk with
    | zero =>
      obtain rfl : j = 16 := by omega
      have hfin := pre_vb (by rw [pos_end] at hok; exact hok) HS.out
      obtain ⟨M, hM⟩ : ∃ M, M = pre (vb s) 16 := ⟨_, rfl⟩
      have hl : M.length = 16 := by rw [hM]; exact pre_length _ _
      rw [← hM] at hfin ⊢
      obtain ⟨G, hG⟩ : ∃ G : Nat → Int, G = fun i => M.getD i 0 := ⟨_, rfl⟩
      obtain ⟨U, hU⟩ : ∃ U : Nat → World, U = fun j => V n (pre G j) M := ⟨_, rfl⟩
      have hU0 : V n z16 M = U 0 := by rw [hU]; rfl
      have hUw : ∀ j, U j = X3 w n (pre G j) M := fun j => by rw [hU, HV.out]
      have c1 : ∀ i, i < 16 → (U 0).cell? ⟨w.heap.size + 1, i, none⟩ = some (.int .u8 (G i)) := fun i hi => by
        rw [hUw, hG]; exact (X3_arr1 w n _ hl).2 i hi
      obtain ⟨C, hC⟩ : ∃ C : Nat → Nat → Int, C = fun j i => (pre G j).getD i 0 := ⟨_, rfl⟩
      have c0 : ∀ j i, i < 16 → (U j).cell? ⟨w.heap.size, i, none⟩ = some (.int .u8 (C j i)) := fun j i hi => by
        rw [hUw, hC]; exact (X3_arr0 w n _ (pre_length G j)).2 i hi
      have f0 : ∀ j i, (U j).frozen? ⟨w.heap.size, i, none⟩ = false := fun j i => by rw [hUw]; exact X3_frozen w _ _ _ _ _ (.inl rfl)
      have s0 : ∀ j, (U j).setCell ⟨w.heap.size, j, none⟩ (.int .u8 (G j)) = U (j + 1) := fun j => by rw [hUw, hUw, X3_set0]; rfl
      have HA : Hid (Arr (U 16) w.heap.size (upL s)) := Lib.hid (by
        rw [hUw, hG, pre_all hl, ← hfin.1]; exact X3_arr0 w _ _ hl)
      have HBL : Hid (Below w.heap.size w (U 16)) := Lib.hid (by rw [hUw]; exact X3_below w _ _ _)
      have HE := Lib.hid hfin.2
      rw [hU0]
      clear hU hUw hG hC hfin hl hU0 hok hf hM
      go_wp2_with fail
      rw [HE.out]
      exact ret32 rfl rfl HA.out (upL_length s) ⟨rfl, HBL.out⟩
    | succ g =>
      have hj : j < 16 := by omega
      have hj' : (j : Int) < 16 := by omega
      have hp3 := pos_le3 j hj
      have HOK := Lib.hid hok
      have hp34 : pos j ≤ 34 := pos_le j hj
      obtain ⟨p, hp⟩ : ∃ p, pos j = p := ⟨_, rfl⟩
      have k1 : p < s.size := by rw [HS.out]; omega
      have k2 : p + 1 < s.size := by rw [HS.out]; omega
      have hb1 := byt_eq s p k1
      have hb2 := byt_eq s (p + 1) k2
      have r1 := byt_range s p
      have r2 := byt_range s (p + 1)
      have HVB : Hid (vb s j = 16 * hx (byt s p) + hx (byt s (p + 1))) := Lib.hid (by rw [← hp]; rfl)
      have HN1 : Hid (hx (byt s p) < 0 → upL s = z16 ∧ upE s = 130) := Lib.hid (fun h => okS_no (k := pos j + 1) (by omega) (ok_no1 hj (by rw [hp]; exact h)))
      have HN2 : Hid (hx (byt s (p + 1)) < 0 → upL s = z16 ∧ upE s = 130) := Lib.hid (fun h => okS_no (k := pos j + 1 + 1) (by omega) (ok_no2 hj (by rw [hp]; exact h)))
      have HN3 : Hid (mr j = true → byt s (p + 2) ≠ 45 → upL s = z16 ∧ upE s = 130) := Lib.hid (fun h h' => okS_no (k := pos j + 2 + 1) (hp3.2 h) (ok_no3 hj h (by rw [hp]; exact h')))
      have HY2 : Hid (0 ≤ hx (byt s p) → 0 ≤ hx (byt s (p + 1)) → okTo s (p + 2) = true) := Lib.hid (fun h h' => by rw [← hp] at h h' ⊢; exact ok_two hj hok h h')
      have HY3 : Hid (mr j = true → okTo s (p + 2) = true → byt s (p + 2) = 45 → okTo s (p + 2 + 1) = true) := Lib.hid (fun h h' h'' => by rw [← hp] at h' h'' ⊢; exact ok_three hj h h' h'')
      have HP1 : Hid (pos (j + 1) = if mr j then p + 2 + 1 else p + 2) := Lib.hid (by rw [← hp]; rfl)
      have HK3 : Hid (mr j = true → p + 2 < s.size) := Lib.hid (fun h => by have := hp3.2 h; rw [HS.out]; omega)
      have HBP2 : Hid (∀ h : p + 2 < s.size, (s[p + 2].toNat : Int) = byt s (p + 2)) := Lib.hid (fun h => byt_eq s (p + 2) h)
      have hp35 : p ≤ 34 := by omega
      rw [hp]
      obtain ⟨c, hc⟩ : ∃ c, c = byt s p := ⟨_, rfl⟩
      obtain ⟨d, hd⟩ : ∃ d, d = byt s (p + 1) := ⟨_, rfl⟩
      rw [← hc] at hb1 r1 HVB HN1 HY2
      rw [← hd] at hb2 r2 HVB HN2 HY2
      have HC1 : Hid (∀ w, Calls Tryd.prog 58 #[.int .u8 c] w fun e w' => e = .returned (.int .i64 (hx c)) ∧ w' = w) := Lib.hid (fun w => rdigit_q c w r1.1 r1.2)
      have HC2 : Hid (∀ w, Calls Tryd.prog 58 #[.int .u8 d] w fun e w' => e = .returned (.int .i64 (hx d)) ∧ w' = w) := Lib.hid (fun w => rdigit_q d w r2.1 r2.2)
      have x1 := hx_range c
      have x2 := hx_range d
      obtain ⟨a, hae⟩ : ∃ a, a = hx c := ⟨_, rfl⟩
      obtain ⟨b, hbe⟩ : ∃ b, b = hx d := ⟨_, rfl⟩
      rw [← hae] at HC1 x1 HVB HN1 HY2
      rw [← hbe] at HC2 x2 HVB HN2 HY2
      obtain ⟨M, hM⟩ : ∃ M, M = pre (vb s) j := ⟨_, rfl⟩
      have HMS : Hid (pre (vb s) (j + 1) = M.set j (16 * a + b)) := Lib.hid (by rw [hM, ← HVB.out]; rfl)
      have hMl : M.length = 16 := by rw [hM]; exact pre_length _ _
      rw [← hM]
      have HDR : Hid (∀ n k L M, (V n L M).drewN k = V (n + k) L M) := Lib.hid (fun n k L M => by rw [HV.out]; exact X3_dr w n k L M)
      have w1 : IntKind.i64.wrap ((p : Int) + 1) = (p : Int) + 1 := IntWalk.i64_in _ (by omega)
      have w2 : (0 : Int) ≤ (p : Int) + 1 := by omega
      have w3 : ((p : Int) + 1).toNat = p + 1 := by omega
      have w4 : (p : Int) < (s.size : Int) := by omega
      have w5 : (p : Int) + 1 < (s.size : Int) := by omega
      clear hc hd hae hbe hM hok hf hp r1 r2 hp3 hp34
      go_wp2_with fail
      go_quiet (first | (go_at_call 58; (with_reducible exact Calls.quiet_of_same (HC1.out _))) | (go_at_call 58; (with_reducible exact Calls.quiet_of_same (HC2.out _))))
      rw [HDR.out]
      clear w1 w2 w3 w4 w5 hb1 hb2 k1 k2
      obtain ⟨m, hm⟩ : ∃ m, m = n + nq := ⟨_, rfl⟩
      rw [← hm]
      clear hm
      by_cases ha : a < 0
      · have HZ := Lib.hid (HN1.out ha)
        have hc0 : ∀ i, i < 16 → (V m z16 M).cell? ⟨w.heap.size, i, none⟩ = some (.int .u8 0) := fun i hi => by rw [HV.out]; exact X3_zero w m _ i hi
        have hf0 : ∀ i, (V m z16 M).frozen? ⟨w.heap.size, i, none⟩ = false := fun i => by rw [HV.out]; exact X3_frozen w m _ _ _ i (.inl rfl)
        have hs0 : ∀ i, (V m z16 M).setCell ⟨w.heap.size, i, none⟩ (.int .u8 0) = V m z16 M := fun i => by rw [HV.out]; exact X3_bad w m _ i
        have HA : Hid (Arr (V m z16 M) w.heap.size z16) := Lib.hid (by rw [HV.out]; exact X3_arr0 w m _ rfl)
        have HBL : Hid (Below w.heap.size w (V m z16 M)) := Lib.hid (by rw [HV.out]; exact X3_below w m _ _)
        clear hp35 hj hj' hMl
        go_wp2_with fail
        rw [HZ.out.1, HZ.out.2]
        exact ret32 rfl rfl HA.out rfl ⟨rfl, HBL.out⟩
      by_cases hb : b < 0
      · have HZ := Lib.hid (HN2.out hb)
        have hc0 : ∀ i, i < 16 → (V m z16 M).cell? ⟨w.heap.size, i, none⟩ = some (.int .u8 0) := fun i hi => by rw [HV.out]; exact X3_zero w m _ i hi
        have hf0 : ∀ i, (V m z16 M).frozen? ⟨w.heap.size, i, none⟩ = false := fun i => by rw [HV.out]; exact X3_frozen w m _ _ _ i (.inl rfl)
        have hs0 : ∀ i, (V m z16 M).setCell ⟨w.heap.size, i, none⟩ (.int .u8 0) = V m z16 M := fun i => by rw [HV.out]; exact X3_bad w m _ i
        have HA : Hid (Arr (V m z16 M) w.heap.size z16) := Lib.hid (by rw [HV.out]; exact X3_arr0 w m _ rfl)
        have HBL : Hid (Below w.heap.size w (V m z16 M)) := Lib.hid (by rw [HV.out]; exact X3_below w m _ _)
        clear hp35 hj hj' hMl
        go_wp2_with fail
        rw [HZ.out.1, HZ.out.2]
        exact ret32 rfl rfl HA.out rfl ⟨rfl, HBL.out⟩
      have a0 : 0 ≤ a := by omega
      have b0 : 0 ≤ b := by omega
      have a1 : a < 16 := x1.2
      have b1 : b < 16 := x2.2
      have HOK2 := Lib.hid (HY2.out a0 b0)
      obtain ⟨y, hy⟩ : ∃ y, y = M.getD j 0 := ⟨_, rfl⟩
      have hcj : (V m z16 M).cell? ⟨w.heap.size + 1, j, none⟩ = some (.int .u8 y) := by rw [HV.out, hy]; exact (X3_arr1 w m _ hMl).2 j hj
      have hfj : (V m z16 M).frozen? ⟨w.heap.size + 1, j, none⟩ = false := by rw [HV.out]; exact X3_frozen w m _ _ _ j (.inr rfl)
      obtain ⟨M2, hM2⟩ : ∃ M2, M2 = pre (vb s) (j + 1) := ⟨_, rfl⟩
      have hst : (V m z16 M).setCell ⟨w.heap.size + 1, j, none⟩ (.int .u8 (16 * a + b)) = V m z16 M2 := by rw [HV.out, X3_set1, hM2, HMS.out]
      have HM2 := Lib.hid hM2
      clear hy hM2 hMl x1 x2 ha hb
      by_cases h3 : j = 3
      · have HMR : Hid (mr j = true) := Lib.hid (by rw [h3]; rfl)
        have g3 : ((j : Int) == 3) = true := by simp [h3]; try omega
        have k3 : p + 2 < s.size := HK3.out HMR.out
        have k4 : (p : Int) + 2 < (s.size : Int) := by omega
        have hb3 := HBP2.out k3
        obtain ⟨e3, he3⟩ : ∃ e, e = byt s (p + 2) := ⟨_, rfl⟩
        rw [← he3] at hb3
        by_cases h45 : e3 = 45
        · have HOK3 := Lib.hid (HY3.out HMR.out HOK2.out (by rw [← he3]; exact h45))
          have g45 : (e3 != 45) = false := by simp [h45]
          clear he3 h45 h3
          go_wp2_with fail
          go_roundg g
          case rel => exact ⟨j + 1, m, by have := HF.out; omega, by go_num, by rw [HP1.out, HMR.out]; go_num, by rw [HP1.out, HMR.out]; exact HOK3.out, by rw [HM2.out]⟩
          case measure => omega
        · have HZ := Lib.hid (HN3.out HMR.out (by rw [← he3]; exact h45))
          have g45 : (e3 != 45) = true := by simp [h45]
          have hc0 : ∀ i, i < 16 → (V m z16 M2).cell? ⟨w.heap.size, i, none⟩ = some (.int .u8 0) := fun i hi => by rw [HV.out]; exact X3_zero w m _ i hi
          have hf0 : ∀ i, (V m z16 M2).frozen? ⟨w.heap.size, i, none⟩ = false := fun i => by rw [HV.out]; exact X3_frozen w m _ _ _ i (.inl rfl)
          have hs0 : ∀ i, (V m z16 M2).setCell ⟨w.heap.size, i, none⟩ (.int .u8 0) = V m z16 M2 := fun i => by rw [HV.out]; exact X3_bad w m _ i
          have HA : Hid (Arr (V m z16 M2) w.heap.size z16) := Lib.hid (by rw [HV.out]; exact X3_arr0 w m _ rfl)
          have HBL : Hid (Below w.heap.size w (V m z16 M2)) := Lib.hid (by rw [HV.out]; exact X3_below w m _ _)
          clear he3 h45 h3
          go_wp2_with fail
          rw [HZ.out.1, HZ.out.2]
          exact ret32 rfl rfl HA.out rfl ⟨rfl, HBL.out⟩
      by_cases h5 : j = 5
      · have HMR : Hid (mr j = true) := Lib.hid (by rw [h5]; rfl)
        have g5 : ((j : Int) == 5) = true := by simp [h5]; try omega
        have g3 : ((j : Int) == 3) = false := by simp; omega
        have k3 : p + 2 < s.size := HK3.out HMR.out
        have k4 : (p : Int) + 2 < (s.size : Int) := by omega
        have hb3 := HBP2.out k3
        obtain ⟨e3, he3⟩ : ∃ e, e = byt s (p + 2) := ⟨_, rfl⟩
        rw [← he3] at hb3
        by_cases h45 : e3 = 45
        · have HOK3 := Lib.hid (HY3.out HMR.out HOK2.out (by rw [← he3]; exact h45))
          have g45 : (e3 != 45) = false := by simp [h45]
          clear he3 h45 h3 h5
          go_wp2_with fail
          go_roundg g
          case rel => exact ⟨j + 1, m, by have := HF.out; omega, by go_num, by rw [HP1.out, HMR.out]; go_num, by rw [HP1.out, HMR.out]; exact HOK3.out, by rw [HM2.out]⟩
          case measure => omega
        · have HZ := Lib.hid (HN3.out HMR.out (by rw [← he3]; exact h45))
          have g45 : (e3 != 45) = true := by simp [h45]
          have hc0 : ∀ i, i < 16 → (V m z16 M2).cell? ⟨w.heap.size, i, none⟩ = some (.int .u8 0) := fun i hi => by rw [HV.out]; exact X3_zero w m _ i hi
          have hf0 : ∀ i, (V m z16 M2).frozen? ⟨w.heap.size, i, none⟩ = false := fun i => by rw [HV.out]; exact X3_frozen w m _ _ _ i (.inl rfl)
          have hs0 : ∀ i, (V m z16 M2).setCell ⟨w.heap.size, i, none⟩ (.int .u8 0) = V m z16 M2 := fun i => by rw [HV.out]; exact X3_bad w m _ i
          have HA : Hid (Arr (V m z16 M2) w.heap.size z16) := Lib.hid (by rw [HV.out]; exact X3_arr0 w m _ rfl)
          have HBL : Hid (Below w.heap.size w (V m z16 M2)) := Lib.hid (by rw [HV.out]; exact X3_below w m _ _)
          clear he3 h45 h3 h5
          go_wp2_with fail
          rw [HZ.out.1, HZ.out.2]
          exact ret32 rfl rfl HA.out rfl ⟨rfl, HBL.out⟩
      by_cases h7 : j = 7
      · have HMR : Hid (mr j = true) := Lib.hid (by rw [h7]; rfl)
        have g7 : ((j : Int) == 7) = true := by simp [h7]; try omega
        have g3 : ((j : Int) == 3) = false := by simp; omega
        have g5 : ((j : Int) == 5) = false := by simp; omega
        have k3 : p + 2 < s.size := HK3.out HMR.out
        have k4 : (p : Int) + 2 < (s.size : Int) := by omega
        have hb3 := HBP2.out k3
        obtain ⟨e3, he3⟩ : ∃ e, e = byt s (p + 2) := ⟨_, rfl⟩
        rw [← he3] at hb3
        by_cases h45 : e3 = 45
        · have HOK3 := Lib.hid (HY3.out HMR.out HOK2.out (by rw [← he3]; exact h45))
          have g45 : (e3 != 45) = false := by simp [h45]
          clear he3 h45 h3 h5 h7
          go_wp2_with fail
          go_roundg g
          case rel => exact ⟨j + 1, m, by have := HF.out; omega, by go_num, by rw [HP1.out, HMR.out]; go_num, by rw [HP1.out, HMR.out]; exact HOK3.out, by rw [HM2.out]⟩
          case measure => omega
        · have HZ := Lib.hid (HN3.out HMR.out (by rw [← he3]; exact h45))
          have g45 : (e3 != 45) = true := by simp [h45]
          have hc0 : ∀ i, i < 16 → (V m z16 M2).cell? ⟨w.heap.size, i, none⟩ = some (.int .u8 0) := fun i hi => by rw [HV.out]; exact X3_zero w m _ i hi
          have hf0 : ∀ i, (V m z16 M2).frozen? ⟨w.heap.size, i, none⟩ = false := fun i => by rw [HV.out]; exact X3_frozen w m _ _ _ i (.inl rfl)
          have hs0 : ∀ i, (V m z16 M2).setCell ⟨w.heap.size, i, none⟩ (.int .u8 0) = V m z16 M2 := fun i => by rw [HV.out]; exact X3_bad w m _ i
          have HA : Hid (Arr (V m z16 M2) w.heap.size z16) := Lib.hid (by rw [HV.out]; exact X3_arr0 w m _ rfl)
          have HBL : Hid (Below w.heap.size w (V m z16 M2)) := Lib.hid (by rw [HV.out]; exact X3_below w m _ _)
          clear he3 h45 h3 h5 h7
          go_wp2_with fail
          rw [HZ.out.1, HZ.out.2]
          exact ret32 rfl rfl HA.out rfl ⟨rfl, HBL.out⟩
      by_cases h9 : j = 9
      · have HMR : Hid (mr j = true) := Lib.hid (by rw [h9]; rfl)
        have g9 : ((j : Int) == 9) = true := by simp [h9]; try omega
        have g3 : ((j : Int) == 3) = false := by simp; omega
        have g5 : ((j : Int) == 5) = false := by simp; omega
        have g7 : ((j : Int) == 7) = false := by simp; omega
        have k3 : p + 2 < s.size := HK3.out HMR.out
        have k4 : (p : Int) + 2 < (s.size : Int) := by omega
        have hb3 := HBP2.out k3
        obtain ⟨e3, he3⟩ : ∃ e, e = byt s (p + 2) := ⟨_, rfl⟩
        rw [← he3] at hb3
        by_cases h45 : e3 = 45
        · have HOK3 := Lib.hid (HY3.out HMR.out HOK2.out (by rw [← he3]; exact h45))
          have g45 : (e3 != 45) = false := by simp [h45]
          clear he3 h45 h3 h5 h7 h9
          go_wp2_with fail
          go_roundg g
          case rel => exact ⟨j + 1, m, by have := HF.out; omega, by go_num, by rw [HP1.out, HMR.out]; go_num, by rw [HP1.out, HMR.out]; exact HOK3.out, by rw [HM2.out]⟩
          case measure => omega
        · have HZ := Lib.hid (HN3.out HMR.out (by rw [← he3]; exact h45))
          have g45 : (e3 != 45) = true := by simp [h45]
          have hc0 : ∀ i, i < 16 → (V m z16 M2).cell? ⟨w.heap.size, i, none⟩ = some (.int .u8 0) := fun i hi => by rw [HV.out]; exact X3_zero w m _ i hi
          have hf0 : ∀ i, (V m z16 M2).frozen? ⟨w.heap.size, i, none⟩ = false := fun i => by rw [HV.out]; exact X3_frozen w m _ _ _ i (.inl rfl)
          have hs0 : ∀ i, (V m z16 M2).setCell ⟨w.heap.size, i, none⟩ (.int .u8 0) = V m z16 M2 := fun i => by rw [HV.out]; exact X3_bad w m _ i
          have HA : Hid (Arr (V m z16 M2) w.heap.size z16) := Lib.hid (by rw [HV.out]; exact X3_arr0 w m _ rfl)
          have HBL : Hid (Below w.heap.size w (V m z16 M2)) := Lib.hid (by rw [HV.out]; exact X3_below w m _ _)
          clear he3 h45 h3 h5 h7 h9
          go_wp2_with fail
          rw [HZ.out.1, HZ.out.2]
          exact ret32 rfl rfl HA.out rfl ⟨rfl, HBL.out⟩
      have HMR : Hid (mr j = false) := Lib.hid (by unfold mr; simp [h3, h5, h7, h9])
      have g3 : ((j : Int) == 3) = false := by simp; omega
      have g5 : ((j : Int) == 5) = false := by simp; omega
      have g7 : ((j : Int) == 7) = false := by simp; omega
      have g9 : ((j : Int) == 9) = false := by simp; omega
      clear h3 h5 h7 h9
      go_wp2_with fail
      go_roundg g
      case rel => exact ⟨j + 1, m, by have := HF.out; omega, by go_num, by rw [HP1.out, HMR.out]; go_num, by rw [HP1.out, HMR.out]; exact HOK2.out, by rw [HM2.out]⟩
      case measure => omega
theorem rparse_short (s : ByteArray) (w : World) (h : s.size ≠ 36) :
    Calls Tryd.prog 32 #[.string s] w fun e w' => e = .returned (.tuple #[arV z16, .int .i64 130]) ∧ Below w.heap.size w w' := by
  have hb : ((s.size : Int) != 36) = true := by simp; omega
  have hz : Arr ((w.alloc (.cells (arC z16) 50)).alloc (.cells (arC z16) 50)) w.heap.size z16 := (arr_new w z16 50 rfl).alloc _
  rw [z_lit] at hz
  have HZ := Lib.hid hz
  clear hz h
  go_enter Tryd.func32, Tryd.ntmps32
  go_wp2_with fail
  exact ret32 rfl rfl HZ.out rfl ⟨rfl, ((Below.refl _ w).alloc (Nat.le_refl _) _).alloc (by simp) _⟩
theorem rparse_any (s : ByteArray) (w : World) :
    Calls Tryd.prog 32 #[.string s] w fun e w' => e = .returned (.tuple #[arV (upL s), .int .i64 (upE s)]) ∧ Below w.heap.size w w' := by
  by_cases h : s.size = 36
  · exact rparse_long s w h
  · have : okS s = false := by unfold okS; simp [h]
    have h1 : upL s = z16 := by unfold upL; rw [this]; rfl
    have h2 : upE s = 130 := by unfold upE; rw [this]; rfl
    rw [h1, h2]
    exact rparse_short s w h
end Go.Proofs.YtfphejndbnmfeaaDoor
