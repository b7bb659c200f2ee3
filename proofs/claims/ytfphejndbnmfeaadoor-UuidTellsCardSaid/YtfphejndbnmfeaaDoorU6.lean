import Derived.Test.YtfphejndbnmfeaaDoorU5
namespace Go.Proofs.YtfphejndbnmfeaaDoor
open Go.RowKit

set_option maxRecDepth 10000 in
set_option maxHeartbeats 1000000 in
theorem text_any (L : List Int) (hl : L.length = 16) (ho : okB L) (w : World) (hp : Prt w) :
    Calls Tryd.prog 34 #[arV L] w fun e w' => e = .returned (.string (txS L)) ∧ Below w.heap.size w w' := by
  obtain ⟨i0, hi, hz0, hz1, hz2⟩ := info5
  have sL : (arC L).size = 16 := by rw [arC_size, hl]
  have hA := arr_new w L 50 hl
  have hB1 : Below w.heap.size w (w.alloc (.cells (arC L) 50)) := (Below.refl _ w).alloc (Nat.le_refl _) _
  have hp1 := hp.below hB1 hp.1
  have hs1 : (w.alloc (.cells (arC L) 50)).heap.size = w.heap.size + 1 := by simp
  obtain ⟨W, hW⟩ : ∃ W, W = w.alloc (.cells (arC L) 50) := ⟨_, rfl⟩
  rw [← hW] at hA hB1 hp1 hs1
  have HA := Lib.hid hA
  have HB := Lib.hid hB1
  have HO := Lib.hid ho
  obtain ⟨_, p0, p1, p2, p3, p4⟩ := hp1
  have HS := Lib.hid hs1
  have HW := Lib.hid hW
  rw [hW] at p0 p1 p2 p3 p4
  clear hA hB1 ho hs1 hp hW
  unfold arV
  go_enter Tryd.func34, Tryd.ntmps34
  go_wp2_with fail
  rw [← HW.out]
  clear p0 p1 p2 p3 p4 sL
  go_loopw [3, 4, 10] (fun out fr i wr => ∃ k : Nat, k ≤ 5 ∧ i = .int .i64 k ∧ fr = .int .i64 (ofs k : Nat) ∧ wr.ownsRow W.heap.size 5 1 out (txP L k).length ((txP L k).map (Value.int .u8)) ∧ Below W.heap.size W wr) (fun _ _ i _ => 5 - (intOf i).toNat)
  case atStart => exact ⟨0, by omega, rfl, rfl, World.ownsRow_nil _ _ _ _, Below.refl _ _⟩
  case round =>
    obtain ⟨k, hk, rfl, rfl, hown, hb⟩ := hrel
    by_cases hlt : k < 5
    · have hlt' : (k : Int) < 5 := by omega
      have hix := fun w => idx83 w k hlt
      have hof := ofs_le k hlt
      have HL := Lib.hid (txP_len L k hk)
      have HT : Hid (txP L (k + 1) = (txP L k ++ if k = 0 then [] else [45]) ++ dgs L (ofs k) (szs.getD k 0)) := Lib.hid rfl
      have HF : Hid (ofs (k + 1) = ofs k + szs.getD k 0) := Lib.hid rfl
      obtain ⟨n, hn⟩ : ∃ n, n = szs.getD k 0 := ⟨_, rfl⟩
      obtain ⟨a, ha⟩ : ∃ a, a = ofs k := ⟨_, rfl⟩
      rw [← hn] at hix hof HT HF
      rw [← ha] at hof HT HF
      rw [← ha]
      have hsl := fun w b => slice16 w b a n hof.1 hof.2
      obtain ⟨T, hT⟩ : ∃ T, T = txP L k := ⟨_, rfl⟩
      rw [← hT] at hown HL HT
      clear hn ha hT
      have HOW := Lib.hid hown
      have HBW := Lib.hid hb
      have hsz := hb.size
      clear hown hb
      by_cases h0 : k = 0
      · have hgt : ¬ (0 : Int) < (k : Int) := by omega
        have HK0 := Lib.hid h0
        rw [if_pos h0, List.append_nil] at HT
        clear h0
        go_wp2_with fail
        go_loopw [3, 28] (fun out j ws => ∃ m : Nat, m ≤ n ∧ j = .int .i64 m ∧ ws.ownsRow W.heap.size 5 1 out (T ++ dgs L a m).length ((T ++ dgs L a m).map (Value.int .u8)) ∧ Below W.heap.size W ws) (fun _ j _ => n - (intOf j).toNat)
        case atStart => exact ⟨0, by omega, rfl, by simpa [dgs] using HOW.out, HBW.out⟩
        case round =>
          obtain ⟨m, hm, rfl, hown2, hb2⟩ := hrel
          have HOW2 := Lib.hid hown2
          have HBW2 := Lib.hid hb2
          clear hown2
          by_cases hmn : m < n
          · have hmn' : (m : Int) < (n : Int) := by omega
            have hcx := ((HA.out).below hb2 (by rw [HS.out]; omega)).2 (a + m) (by omega)
            have hrx := HO.out (a + m)
            have HD : Hid (dgs L a (m + 1) = dgs L a m ++ [dg (L.getD (a + m) 0 / 16), dg (L.getD (a + m) 0 % 16)]) := Lib.hid rfl
            have HDL := Lib.hid (dgs_len L a m)
            obtain ⟨x, hx⟩ : ∃ x, x = L.getD (a + m) 0 := ⟨_, rfl⟩
            rw [← hx] at hcx hrx HD
            have hd1 := fun w k => hexS_at (x / 16) (by omega) (by omega) w k
            have hand : bits .and .u8 x 15 = x % 16 := u8_and15 x hrx.1 hrx.2
            have hd2 := fun w k => hexS_at (x % 16) (by omega) (by omega) w k
            rw [← hand] at hd2
            have HAND := Lib.hid hand
            have hbd : Hid ((T ++ dgs L a m).length + 2 ≤ 1000) := Lib.hid (by have := HL.out; have := HDL.out; simp only [List.length_append, List.length_cons, List.length_nil]; omega)
            clear hand
            have hsz2 := hb2.size
            clear hb2 hx
            go_wp2_with fail
            go_region_law (refine step_append_own rfl (.tmp 32) (.tmp 39) 45 rfl 5 i0 (.int .u8 0) 1 1 Tryd.underlying45 hi hz0 hz1 hz2 rfl (by decide) W.heap.size _ _ _ (by simp [Act.eval, Act.put]) (HOW2.out.drew.alloc _) ⟨wr.heap.size, 0, none⟩ 2 2 [.int .u8 (dg (x / 16)), .int .u8 (dg (bits .and .u8 x 15))] (by simp [Act.eval, Act.put]) rfl (cell_news wr.drew _ _ _ rfl) (by intro u hu; simp at hu; rcases hu with rfl | rfl <;> rfl) (by have := hbd.out; unfold maxLen; omega) (by have := hbd.out; omega) (by have := HBW2.out.size; show W.heap.size ≤ (wr.heap.push _).size; simp; omega) ?_; intro v' w' ho hg)
            all_goals (go_wp2_with fail)
            all_goals go_roundw
            case rel => exact ⟨m + 1, by omega, by go_num, by rw [HD.out, ← HAND.out, ← List.append_assoc, List.length_append, List.map_append]; exact ho, (HBW2.out.drew.alloc HBW2.out.size _).grown hg (by have := HBW2.out.size; show W.heap.size ≤ (wr.heap.push _).size; simp; omega) (fun q hq => (HOW2.out.lt q hq).1)⟩
            case measure => simp [intOf]; omega
            case rel => exact ⟨m + 1, by omega, by go_num, by rw [HD.out, ← HAND.out, ← List.append_assoc, List.length_append, List.map_append]; exact ho, (HBW2.out.drew.alloc HBW2.out.size _).grown hg (by have := HBW2.out.size; show W.heap.size ≤ (wr.heap.push _).size; simp; omega) (fun q hq => (HOW2.out.lt q hq).1)⟩
            case measure => simp [intOf]; omega
          · obtain rfl : m = n := by omega
            clear hb2
            go_wp2_with fail
            go_roundw
            case rel => exact ⟨k + 1, by omega, by go_num, by rw [HF.out]; go_num, by rw [HT.out]; exact HOW2.out, HBW2.out⟩
            case measure => simp [intOf]; omega
      · have hgt : (0 : Int) < (k : Int) := by omega
        rw [if_neg h0] at HT
        have hsz3 : W.heap.size ≤ wr.heap.size + 1 := by omega
        go_wp2_with (at_builtin; refine wpList_append_own _ rfl _ _ 45 rfl W.heap.size 5 i0 (.int .u8 0) 1 1 Tryd.underlying45 hi hz0 hz1 hz2 rfl (by decide) _ _ _ rfl (HOW.out.alloc _) ⟨wr.heap.size, 0, none⟩ 1 1 [.int .u8 45] rfl rfl (cell_news _ _ _ _ rfl) (by intro u hu; simp at hu; subst hu; rfl) (by have := HL.out; unfold maxLen; omega) (by have := HL.out; omega) (by simpa using hsz3) ?_; intro v1 w1 ho1 hg1 _)
        have HOX : Hid (w1.ownsRow W.heap.size 5 1 v1 (T ++ [45]).length ((T ++ [45]).map (Value.int .u8))) := Lib.hid (by rw [List.length_append, List.map_append]; exact ho1)
        have HBX : Hid (Below W.heap.size W w1) := Lib.hid ((HBW.out.alloc HBW.out.size _).grown hg1 (by simpa using hsz3) (fun q hq => (HOW.out.lt q hq).1))
        clear ho1 hg1
        go_loopw [3, 28] (fun out j ws => ∃ m : Nat, m ≤ n ∧ j = .int .i64 m ∧ ws.ownsRow W.heap.size 5 1 out ((T ++ [45]) ++ dgs L a m).length (((T ++ [45]) ++ dgs L a m).map (Value.int .u8)) ∧ Below W.heap.size W ws) (fun _ j _ => n - (intOf j).toNat)
        case atStart => exact ⟨0, by omega, rfl, by simpa [dgs] using HOX.out, HBX.out⟩
        case round =>
          obtain ⟨m, hm, rfl, hown2, hb2⟩ := hrel
          have HOW2 := Lib.hid hown2
          have HBW2 := Lib.hid hb2
          clear hown2
          by_cases hmn : m < n
          · have hmn' : (m : Int) < (n : Int) := by omega
            have hcx := ((HA.out).below hb2 (by rw [HS.out]; omega)).2 (a + m) (by omega)
            have hrx := HO.out (a + m)
            have HD : Hid (dgs L a (m + 1) = dgs L a m ++ [dg (L.getD (a + m) 0 / 16), dg (L.getD (a + m) 0 % 16)]) := Lib.hid rfl
            have HDL := Lib.hid (dgs_len L a m)
            obtain ⟨x, hx⟩ : ∃ x, x = L.getD (a + m) 0 := ⟨_, rfl⟩
            rw [← hx] at hcx hrx HD
            have hd1 := fun w k => hexS_at (x / 16) (by omega) (by omega) w k
            have hand : bits .and .u8 x 15 = x % 16 := u8_and15 x hrx.1 hrx.2
            have hd2 := fun w k => hexS_at (x % 16) (by omega) (by omega) w k
            rw [← hand] at hd2
            have HAND := Lib.hid hand
            have hbd : Hid (((T ++ [45]) ++ dgs L a m).length + 2 ≤ 1000) := Lib.hid (by have := HL.out; have := HDL.out; simp only [List.length_append, List.length_cons, List.length_nil]; omega)
            clear hand
            have hsz2 := hb2.size
            clear hb2 hx
            go_wp2_with fail
            go_region_law (refine step_append_own rfl (.tmp 32) (.tmp 39) 45 rfl 5 i0 (.int .u8 0) 1 1 Tryd.underlying45 hi hz0 hz1 hz2 rfl (by decide) W.heap.size _ _ _ (by simp [Act.eval, Act.put]) (HOW2.out.drew.alloc _) ⟨wr.heap.size, 0, none⟩ 2 2 [.int .u8 (dg (x / 16)), .int .u8 (dg (bits .and .u8 x 15))] (by simp [Act.eval, Act.put]) rfl (cell_news wr.drew _ _ _ rfl) (by intro u hu; simp at hu; rcases hu with rfl | rfl <;> rfl) (by have := hbd.out; unfold maxLen; omega) (by have := hbd.out; omega) (by have := HBW2.out.size; show W.heap.size ≤ (wr.heap.push _).size; simp; omega) ?_; intro v' w' ho hg)
            all_goals (go_wp2_with fail)
            all_goals go_roundw
            case rel => exact ⟨m + 1, by omega, by go_num, by rw [HD.out, ← HAND.out, ← List.append_assoc, List.length_append, List.map_append]; exact ho, (HBW2.out.drew.alloc HBW2.out.size _).grown hg (by have := HBW2.out.size; show W.heap.size ≤ (wr.heap.push _).size; simp; omega) (fun q hq => (HOW2.out.lt q hq).1)⟩
            case measure => simp [intOf]; omega
            case rel => exact ⟨m + 1, by omega, by go_num, by rw [HD.out, ← HAND.out, ← List.append_assoc, List.length_append, List.map_append]; exact ho, (HBW2.out.drew.alloc HBW2.out.size _).grown hg (by have := HBW2.out.size; show W.heap.size ≤ (wr.heap.push _).size; simp; omega) (fun q hq => (HOW2.out.lt q hq).1)⟩
            case measure => simp [intOf]; omega
          · obtain rfl : m = n := by omega
            clear hb2
            go_wp2_with fail
            go_roundw
            case rel => exact ⟨k + 1, by omega, by go_num, by rw [HF.out]; go_num, by rw [HT.out]; exact HOW2.out, HBW2.out⟩
            case measure => simp [intOf]; omega
    · obtain rfl : k = 5 := by omega
      have hcv := conv_own hown (fun x hx => by rw [txP_txR] at hx; exact txL_mem HO.out x hx)
      rw [txP_txR] at hcv
      have HBW := Lib.hid hb
      clear hown hb
      go_wp2_with fail
      go_ret
      exact ⟨rfl, HB.out.trans (HBW.out.mono (by rw [HS.out]; omega))⟩
end Go.Proofs.YtfphejndbnmfeaaDoor
