import Derived.Test.YtcoennncgconmaaDoorW7
import Derived.Test.YtcoennncgconmaaDoorPlain3
import Derived.Lib.ItoaLen
namespace Go.Proofs.YtcoennncgconmaaDoor
open Go.RowKit

/-- What the tables hold: the limits, and the powers of ten. -/
structure Tabs (w : World) : Prop where
  lim : Lim w
  pow : Lib.TabIs Tryd.prog w "internal/strconv.uint64pow10" .u64 Lib.pow10Tab
theorem gPow : Tryd.prog.globalNamed "internal/strconv.uint64pow10" = some 1 := by kernel_rfl
theorem tabs_later {w w' : World} (h : Below w.heap.size w w') (t : Tabs w) : Tabs w' :=
  ⟨lim_later h t.lim, var?_below h gPow (World.block_lt_of_cell? w ⟨1, 0, none⟩ (t.pow.cell gPow 0 (by decide +kernel))) t.pow⟩

/-- Blocks laid behind, and draws, leave what was there. -/
theorem below_new (w : World) (k : Nat) (os : Array Obj) : Below w.heap.size w (Sort.grow (w.drewN k) os) := by
  refine ⟨rfl, rfl, rfl, by simp [Sort.grow], fun i hi => ?_⟩
  show ((w.drewN k).heap ++ os)[i]? = _
  rw [Array.getElem?_append_left (by exact hi)]
  rfl

theorem write_any (n : Int) (w : World) (t : Tabs w) (h0 : -9223372036854775808 ≤ n) (h1 : n ≤ 9223372036854775807) :
    Calls Tryd.prog 23 #[.int .i64 n] w fun e w' => e = .returned (.string ⟨(Lib.itoa n).toArray⟩) ∧ Below w.heap.size w w' := by
  go_enter Tryd.func23, Tryd.ntmps23
  go_wp2_with fail
  refine (Tryd.strconv_FormatInt_10 n h0 h1 _ t.pow).mono ?_
  rintro e w1 ⟨rfl, k, os, hw⟩
  have b1 : Below w.heap.size w w1 := by rw [hw]; exact below_new _ _ _
  clear hw
  go_wp2_with fail
  go_ret
  exact ⟨rfl, b1⟩

theorem itoa_small (n : Int) (h0 : -9223372036854775808 ≤ n) (h1 : n ≤ 9223372036854775807) : (⟨(Lib.itoa n).toArray⟩ : ByteArray).size ≤ maxLen := by
  have := Lib.itoa_length_le n h0 h1
  have e : (⟨(Lib.itoa n).toArray⟩ : ByteArray).size = (Lib.itoa n).length := rfl
  rw [e]; unfold maxLen; omega

theorem back_walk (n : Int) (s : ByteArray) (w : World) (t : Tabs w) (h0 : -9223372036854775808 ≤ n) (h1 : n ≤ 9223372036854775807) (hs : s.size ≤ maxLen) :
    Calls Tryd.prog 6 #[.int .i64 n, .string s] w fun e w' => e = .returned (.bool true) ∧ Below w.heap.size w w' := by
  have hr := read_itoa n h0 h1
  have HR := Lib.hid hr
  have hI := itoa_small n h0 h1
  clear hr
  by_cases hbig : 2000 < s.size
  · go_enter Tryd.func6, Tryd.ntmps6
    go_wp2_with fail
    refine (alive_true _ t.lim).mono ?_
    rintro e w' ⟨rfl, rfl⟩
    go_wp2_with fail
    go_ret
    exact ⟨rfl, Below.refl _ _⟩
  · by_cases he : rdE s = 0
    · have hv := val_range (rdZ s)
      have hvr : -9223372036854775808 ≤ rdV s ∧ rdV s ≤ 9223372036854775807 := by
        unfold rdV; split <;> omega
      have v0 := hvr.1
      have v1 := hvr.2
      have HE := Lib.hid he
      have hi := itoa_read s he
      clear hv hvr he
      have hcase : (Lib.itoa (rdV s) == s.toList) = true ∨ (Lib.itoa (rdV s) == s.toList) = false ∧ (s.toList == [45, 48]) = true ∧ (rdV s == 0) = true := by
        rw [Lib.toList_data]
        rcases hi with hi | ⟨hi, hz⟩
        · left; rw [hi]; simp
        · right; rw [hi, hz]; decide +kernel
      clear hi
      rcases hcase with hc | ⟨hc, hd, hz⟩
      · go_enter Tryd.func6, Tryd.ntmps6
        go_wp2_with fail
        refine (alive_true _ t.lim).mono ?_
        rintro e w' ⟨rfl, rfl⟩
        go_wp2_with fail
        refine (read_rest s _ t.lim hs).mono ?_
        rintro e w1 ⟨rfl, b1⟩
        have t1 := tabs_later b1 t
        rw [HE.out]
        go_wp2_with fail
        refine (write_any n _ t1 h0 h1).mono ?_
        rintro e w2 ⟨rfl, b2⟩
        have t2 := tabs_later b2 t1
        go_wp2_with fail
        refine (reads_yes _ _ _ _ t2.lim hI HR.out.1 HR.out.2).mono ?_
        rintro e w3 ⟨rfl, b3⟩
        have t3 := tabs_later b3 t2
        go_wp2_with fail
        refine (write_any _ _ t3 v0 v1).mono ?_
        rintro e w4 ⟨rfl, b4⟩
        go_wp2_with fail
        go_ret
        exact ⟨rfl, ((b1.trans (b2.mono b1.size)).trans (b3.mono (Nat.le_trans b1.size b2.size))).trans (b4.mono (Nat.le_trans b1.size (Nat.le_trans b2.size b3.size)))⟩
      · go_enter Tryd.func6, Tryd.ntmps6
        go_wp2_with fail
        refine (alive_true _ t.lim).mono ?_
        rintro e w' ⟨rfl, rfl⟩
        go_wp2_with fail
        refine (read_rest s _ t.lim hs).mono ?_
        rintro e w1 ⟨rfl, b1⟩
        have t1 := tabs_later b1 t
        rw [HE.out]
        go_wp2_with fail
        refine (write_any n _ t1 h0 h1).mono ?_
        rintro e w2 ⟨rfl, b2⟩
        have t2 := tabs_later b2 t1
        go_wp2_with fail
        refine (reads_yes _ _ _ _ t2.lim hI HR.out.1 HR.out.2).mono ?_
        rintro e w3 ⟨rfl, b3⟩
        have t3 := tabs_later b3 t2
        go_wp2_with fail
        refine (write_any _ _ t3 v0 v1).mono ?_
        rintro e w4 ⟨rfl, b4⟩
        go_wp2_with fail
        go_ret
        exact ⟨rfl, ((b1.trans (b2.mono b1.size)).trans (b3.mono (Nat.le_trans b1.size b2.size))).trans (b4.mono (Nat.le_trans b1.size (Nat.le_trans b2.size b3.size)))⟩
    · have hne : (rdE s != 0) = true := by simp [he]
      clear he
      go_enter Tryd.func6, Tryd.ntmps6
      go_wp2_with fail
      refine (alive_true _ t.lim).mono ?_
      rintro e w' ⟨rfl, rfl⟩
      go_wp2_with fail
      refine (read_rest s _ t.lim hs).mono ?_
      rintro e w1 ⟨rfl, b1⟩
      have t1 := tabs_later b1 t
      go_wp2_with fail
      refine (write_any n _ t1 h0 h1).mono ?_
      rintro e w2 ⟨rfl, b2⟩
      have t2 := tabs_later b2 t1
      go_wp2_with fail
      refine (reads_yes _ _ _ _ t2.lim hI HR.out.1 HR.out.2).mono ?_
      rintro e w3 ⟨rfl, b3⟩
      go_wp2_with fail
      go_ret
      exact ⟨rfl, (b1.trans (b2.mono b1.size)).trans (b3.mono (Nat.le_trans b1.size b2.size))⟩
end Go.Proofs.YtcoennncgconmaaDoor
