import Derived.Test.YtnbmecabnkhniaaDoorK1
import Derived.Laws.IdiomStrings
import Derived.Lib.BufferRead
import Derived.Deep.RegionWith
import Derived.Deep.QuietTactic
import Derived.BigQuiet
import Derived.OwnWalk
import Derived.Laws.AppendOwn
/- The document's code points of a text: number, Is, Bytes, One (as in layer 1). -/
namespace Go.Proofs.YtnbmecabnkhniaaDoor
open Go.RowKit
set_option maxRecDepth 20000 in
theorem below_drewN0 {B : Nat} {w w1 : World} (h : Below B w w1) (n : Nat) : Below B w (w1.drewN n) := ⟨h.os, h.tape, h.output, h.size, h.block⟩
set_option maxRecDepth 20000 in
theorem is_any (p : Int) (w : World) :
    Calls Tryd.prog 59 #[.int .i64 p] w fun e w' => e = .returned (.bool (isPt p)) ∧ w = w' := by
  go_enter Tryd.func59, Tryd.ntmps59
  go_wp2
  all_goals
    go_ret
    refine ⟨ret_bool ?_, rfl⟩
    unfold isPt
    rw [Bool.eq_iff_iff]
    simp only [Bool.or_eq_true, decide_eq_true_eq, true_iff, Bool.false_eq_true, false_iff]
    try omega

set_option maxRecDepth 20000 in
theorem bytes_any (p : Int) (w : World) (h0 : 0 ≤ p) (h1 : p < 1114112) :
    Calls Tryd.prog 60 #[.int .i64 p] w fun e w' => e = .returned (.slice (some ⟨w.heap.size, 0, none⟩) (enc p).length (enc p).length) ∧ (∃ cs : Array Value, cs.toList = (enc p).map (Value.int .u8) ∧ w' = w.alloc (.cells cs 5)) := by
  by_cases c1 : p < 128
  · have he : Hid (enc p = [p]) := Lib.hid (by unfold enc; rw [if_pos c1])
    go_enter Tryd.func60, Tryd.ntmps60
    go_wp2_with fail
    go_ret
    rw [he.out]
    refine ⟨rfl, _, ?_, rfl⟩
    simp
  by_cases c2 : p < 2048
  · have he : Hid (enc p = [192 + p / 64, 128 + p % 64]) := Lib.hid (by unfold enc; rw [if_neg c1, if_pos c2])
    go_enter Tryd.func60, Tryd.ntmps60
    go_wp2_with fail
    go_ret
    rw [he.out]
    refine ⟨rfl, _, ?_, rfl⟩
    rfl
  by_cases c3 : p < 65536
  · have he : Hid (enc p = [224 + p / 4096, 128 + p / 64 % 64, 128 + p % 64]) := Lib.hid (by unfold enc; rw [if_neg c1, if_neg c2, if_pos c3])
    go_enter Tryd.func60, Tryd.ntmps60
    go_wp2_with fail
    go_ret
    rw [he.out]
    exact ⟨rfl, _, rfl, rfl⟩
  · have he : Hid (enc p = [240 + p / 262144, 128 + p / 4096 % 64, 128 + p / 64 % 64, 128 + p % 64]) := Lib.hid (by unfold enc; rw [if_neg c1, if_neg c2, if_neg c3])
    go_enter Tryd.func60, Tryd.ntmps60
    go_wp2_with fail
    go_ret
    rw [he.out]
    exact ⟨rfl, _, rfl, rfl⟩

set_option maxRecDepth 20000 in
theorem conv_own {w : World} {B : Nat} {v : Value} {L : List Int} (h : w.ownsRow B 5 1 v L.length (L.map (Value.int .u8))) (hr : ∀ x ∈ L, 0 ≤ x ∧ x < 256) :
    (convert 41 9 v).run Tryd.prog w = .ok (.string (mkB L)) w := by
  rcases h.2 with ⟨rfl, hn⟩ | ⟨g, cap, cur, rfl, hg, hgg, h1, h2, h3, h4⟩
  · have : L = [] := by cases L <;> simp_all
    subst this
    exact Lib.run_convert_nil_bytes w 41 9 5 0 Tryd.underlying41 Tryd.underlying5 Tryd.underlying9
  · have k := run_convert_bytes_back (P := Tryd.prog) w 41 9 5 ⟨g, 0, none⟩ cap (L.map (fun x => UInt8.ofNat x.toNat)) Tryd.underlying41 Tryd.underlying5 Tryd.underlying9 (fun j hj => by
      have hj' : j < L.length := by simpa using hj
      have hx := hr L[j] (List.getElem_mem hj')
      rw [Addr.add_lit, Nat.zero_add, h.cellAt j (by omega)]
      simp only [List.getElem?_map, List.getElem?_eq_getElem hj', Option.map_some, List.getElem_map, Option.some.injEq, Value.int.injEq, true_and]
      rw [UInt8.toNat_ofNat']; omega)
    rw [List.length_map] at k
    exact k
set_option maxRecDepth 20000 in
theorem m0_range (s : ByteArray) (a z : Nat) : 0 ≤ m0 (byt s a) z ∧ m0 (byt s a) z < 256 := by
  have := byt_range s a
  unfold m0; (repeat' split) <;> omega
set_option maxRecDepth 20000 in
theorem acc_lt (s : ByteArray) (a : Nat) (p : Int) (h0 : 0 ≤ p) (h1 : p < 256) : ∀ k, k ≤ 3 → 0 ≤ acc s a p k ∧ acc s a p k < 67108864 := by
  intro k hk
  match k, hk with
  | 0, _ => simp [acc]; omega
  | 1, _ => simp only [acc]; omega
  | 2, _ => simp only [acc]; omega
  | 3, _ => simp only [acc]; omega

set_option maxRecDepth 20000 in
theorem number_any (s : ByteArray) (a z : Nat) (av zv : Int) (w : World) (hav : av = a) (hzv : zv = z) (hz1 : 1 ≤ z) (hz4 : z ≤ 4) (hs : s.size ≤ maxLen) (ha : a + z ≤ s.size) :
    Calls Tryd.prog 58 #[.string s, .int .i64 av, .int .i64 zv] w fun e w' => e = .returned (.int .i64 (numN s a z)) ∧ w = w' := by
  subst hav
  unfold maxLen at hs
  have hlt : a < s.size := by omega
  have hbk := byt_eq s a hlt
  have hbr := byt_range s a
  have HM0 := Lib.hid (m0_range s a z)
  obtain ⟨b, hb⟩ : ∃ b, b = byt s a := ⟨_, rfl⟩
  rw [← hb] at hbk hbr
  have HB := Lib.hid hb
  have HN : Hid (numN s a z = acc s (a + 1) (m0 b z) (z - 1)) := Lib.hid (by rw [hb]; rfl)
  have hMB : m0 b z = if z = 2 then b % 32 else if z = 3 then b % 16 else if z = 4 then b % 8 else b := rfl
  obtain ⟨m, hm⟩ : ∃ m, m = m0 b z := ⟨_, rfl⟩
  rw [← hm] at HN hMB
  have HMR : Hid (0 ≤ m ∧ m < 256) := Lib.hid (by rw [hm, hb]; exact HM0.out)
  clear hm hb HM0
  rcases (show z = 1 ∨ z = 2 ∨ z = 3 ∨ z = 4 by omega) with rfl | rfl | rfl | rfl
  · simp at hMB
    obtain rfl : zv = 1 := by omega
    have HMB := Lib.hid hMB
    clear hMB hzv
    go_enter Tryd.func58, Tryd.ntmps58
    go_wp2_with fail
    rw [← HMB.out]
    go_loopw [7, 8] (fun n i wr => ∃ j : Nat, j + 1 ≤ 1 ∧ i = .int .i64 ((j : Int) + 1) ∧ n = .int .i64 (acc s (a + 1) m j) ∧ w = wr) (fun _ i _ => 1 - (intOf i).toNat)
    case atStart => exact ⟨0, by omega, rfl, rfl, rfl⟩
    case round =>
      obtain ⟨j, hj, rfl, rfl, rfl⟩ := hrel
      by_cases hlt : j + 1 < 1
      · omega
      · obtain rfl : j = 0 := by omega
        go_wp2_with fail
        go_ret
        exact ⟨ret_int HN.out.symm, rfl⟩
  · simp at hMB
    obtain rfl : zv = 2 := by omega
    have HMB := Lib.hid hMB
    clear hMB hzv
    go_enter Tryd.func58, Tryd.ntmps58
    go_wp2_with fail
    rw [← HMB.out]
    go_loopw [7, 8] (fun n i wr => ∃ j : Nat, j + 1 ≤ 2 ∧ i = .int .i64 ((j : Int) + 1) ∧ n = .int .i64 (acc s (a + 1) m j) ∧ w = wr) (fun _ i _ => 2 - (intOf i).toNat)
    case atStart => exact ⟨0, by omega, rfl, rfl, rfl⟩
    case round =>
      obtain ⟨j, hj, rfl, rfl, rfl⟩ := hrel
      by_cases hlt : j + 1 < 2
      · have hin : a + 1 + j < s.size := by omega
        have hbj := byt_eq s (a + 1 + j) hin
        have hrj := byt_range s (a + 1 + j)
        have hac := acc_lt s (a + 1) m HMR.out.1 HMR.out.2 j (by omega)
        have hstep : acc s (a + 1) m (j + 1) = acc s (a + 1) m j * 64 + byt s (a + 1 + j) % 64 := rfl
        obtain ⟨x, hx⟩ : ∃ x, x = byt s (a + 1 + j) := ⟨_, rfl⟩
        obtain ⟨y, hy⟩ : ∃ y, y = acc s (a + 1) m j := ⟨_, rfl⟩
        rw [← hx] at hbj hrj hstep
        rw [← hy] at hac hstep
        rw [← hy]
        have HST := Lib.hid hstep
        have hlt' : (j : Int) + 1 < 2 := by omega
        have hnat : a + (j + 1) = a + 1 + j := by omega
        clear hx hy hstep
        go_wp2_with fail
        go_roundw
        case rel => exact ⟨j + 1, by omega, by go_num, by rw [HST.out]; go_num, trivial⟩
        case measure => simp [intOf]; omega
      · obtain rfl : j = 1 := by omega
        go_wp2_with fail
        go_ret
        exact ⟨ret_int HN.out.symm, rfl⟩
  · simp at hMB
    obtain rfl : zv = 3 := by omega
    have HMB := Lib.hid hMB
    clear hMB hzv
    go_enter Tryd.func58, Tryd.ntmps58
    go_wp2_with fail
    rw [← HMB.out]
    go_loopw [7, 8] (fun n i wr => ∃ j : Nat, j + 1 ≤ 3 ∧ i = .int .i64 ((j : Int) + 1) ∧ n = .int .i64 (acc s (a + 1) m j) ∧ w = wr) (fun _ i _ => 3 - (intOf i).toNat)
    case atStart => exact ⟨0, by omega, rfl, rfl, rfl⟩
    case round =>
      obtain ⟨j, hj, rfl, rfl, rfl⟩ := hrel
      by_cases hlt : j + 1 < 3
      · have hin : a + 1 + j < s.size := by omega
        have hbj := byt_eq s (a + 1 + j) hin
        have hrj := byt_range s (a + 1 + j)
        have hac := acc_lt s (a + 1) m HMR.out.1 HMR.out.2 j (by omega)
        have hstep : acc s (a + 1) m (j + 1) = acc s (a + 1) m j * 64 + byt s (a + 1 + j) % 64 := rfl
        obtain ⟨x, hx⟩ : ∃ x, x = byt s (a + 1 + j) := ⟨_, rfl⟩
        obtain ⟨y, hy⟩ : ∃ y, y = acc s (a + 1) m j := ⟨_, rfl⟩
        rw [← hx] at hbj hrj hstep
        rw [← hy] at hac hstep
        rw [← hy]
        have HST := Lib.hid hstep
        have hlt' : (j : Int) + 1 < 3 := by omega
        have hnat : a + (j + 1) = a + 1 + j := by omega
        clear hx hy hstep
        go_wp2_with fail
        go_roundw
        case rel => exact ⟨j + 1, by omega, by go_num, by rw [HST.out]; go_num, trivial⟩
        case measure => simp [intOf]; omega
      · obtain rfl : j = 2 := by omega
        go_wp2_with fail
        go_ret
        exact ⟨ret_int HN.out.symm, rfl⟩
  · simp at hMB
    obtain rfl : zv = 4 := by omega
    have HMB := Lib.hid hMB
    clear hMB hzv
    go_enter Tryd.func58, Tryd.ntmps58
    go_wp2_with fail
    rw [← HMB.out]
    go_loopw [7, 8] (fun n i wr => ∃ j : Nat, j + 1 ≤ 4 ∧ i = .int .i64 ((j : Int) + 1) ∧ n = .int .i64 (acc s (a + 1) m j) ∧ w = wr) (fun _ i _ => 4 - (intOf i).toNat)
    case atStart => exact ⟨0, by omega, rfl, rfl, rfl⟩
    case round =>
      obtain ⟨j, hj, rfl, rfl, rfl⟩ := hrel
      by_cases hlt : j + 1 < 4
      · have hin : a + 1 + j < s.size := by omega
        have hbj := byt_eq s (a + 1 + j) hin
        have hrj := byt_range s (a + 1 + j)
        have hac := acc_lt s (a + 1) m HMR.out.1 HMR.out.2 j (by omega)
        have hstep : acc s (a + 1) m (j + 1) = acc s (a + 1) m j * 64 + byt s (a + 1 + j) % 64 := rfl
        obtain ⟨x, hx⟩ : ∃ x, x = byt s (a + 1 + j) := ⟨_, rfl⟩
        obtain ⟨y, hy⟩ : ∃ y, y = acc s (a + 1) m j := ⟨_, rfl⟩
        rw [← hx] at hbj hrj hstep
        rw [← hy] at hac hstep
        rw [← hy]
        have HST := Lib.hid hstep
        have hlt' : (j : Int) + 1 < 4 := by omega
        have hnat : a + (j + 1) = a + 1 + j := by omega
        clear hx hy hstep
        go_wp2_with fail
        go_roundw
        case rel => exact ⟨j + 1, by omega, by go_num, by rw [HST.out]; go_num, trivial⟩
        case measure => simp [intOf]; omega
      · obtain rfl : j = 3 := by omega
        go_wp2_with fail
        go_ret
        exact ⟨ret_int HN.out.symm, rfl⟩
set_option maxRecDepth 20000 in
theorem str_eq (x y : ByteArray) : (x.toList == y.toList) = decide (x = y) := by
  rw [ByteArray.toList_eq, ByteArray.toList_eq, Bool.eq_iff_iff]
  simp only [beq_iff_eq, decide_eq_true_eq]
  exact ⟨fun h => ByteArray.ext (Array.toList_inj.1 h), fun h => by rw [h]⟩
set_option maxRecDepth 20000 in
theorem bytes_conv (p : Int) (w : World) (h0 : 0 ≤ p) (h1 : p < 1114112) :
    Calls Tryd.prog 60 #[.int .i64 p] w fun e w' => ∃ v, e = .returned v ∧ (convert 41 9 v).run Tryd.prog w' = .ok (.string (mkB (enc p))) w' ∧ (convert 41 9 v).run Tryd.prog w'.drew = .ok (.string (mkB (enc p))) w'.drew ∧ Hid (Below w.heap.size w w') := by
  refine (bytes_any p w h0 h1).mono ?_
  rintro e w' ⟨rfl, cs, hcs, rfl⟩
  have hl : cs.size = (enc p).length := by rw [← Array.length_toList, hcs, List.length_map]
  have ho := World.ownsRow_lit (base := w.heap.size) (e := 5) (size := 1) w cs (enc p).length (Nat.le_refl _) (by have := enc_len p; unfold maxLen; omega) (by rw [hl, Nat.mul_one])
  rw [hcs] at ho
  have hr := enc_range h0 h1
  exact ⟨_, rfl, conv_own ho hr, conv_own (World.ownsRow.drew ho) hr, (Below.refl _ w).alloc (Nat.le_refl _) _⟩

set_option maxRecDepth 20000 in
theorem one_end {n n' : Int} {x y : ByteArray} {g : Bool} {w w1 w' : World} (hn : n' = n) (hg : g = decide (x = y)) (hb : Hid (Below w.heap.size w w1)) (hd : w' = w1 ∨ w' = w1.drew) :
    Ending.returned (.tuple #[.int .i64 n, .bool (x.toList == y.toList)]) = .returned (.tuple #[.int .i64 n', .bool g]) ∧ Below w.heap.size w w' := by
  refine ⟨by rw [hn, hg, str_eq], ?_⟩
  rcases hd with rfl | rfl
  · exact hb.out
  · exact hb.out.drew

set_option maxRecDepth 20000 in
theorem one_out (s : ByteArray) (i : Int) (z : Nat) (w : World) (hz1 : 1 ≤ z) (hz4 : z ≤ 4) (hs : s.size ≤ maxLen) (i1 : i ≤ 9223372036854775800) (hin : ¬ (0 ≤ i ∧ i + z ≤ s.size)) :
    Calls Tryd.prog 53 #[.string s, .int .i64 i, .int .i64 (z : Int)] w fun e w' => e = .returned (.tuple #[.int .i64 0, .bool false]) ∧ Below w.heap.size w w' := by
  have hm := hs
  unfold maxLen at hm
  by_cases h0 : i < 0
  · clear hin
    go_enter Tryd.func53, Tryd.ntmps53
    go_wp2_with fail
    go_ret2
    exact ⟨rfl, Below.refl _ _⟩
  · have h1 : (s.size : Int) < i + (z : Int) := by omega
    have hw0 : IntKind.i64.wrap (i + (z : Int)) = i + (z : Int) := by rw [IntKind.wrap_i64]; omega
    clear hin
    go_enter Tryd.func53, Tryd.ntmps53
    go_wp2_with fail
    go_ret2
    exact ⟨rfl, Below.refl _ _⟩
set_option maxRecDepth 20000 in
theorem is_false (p : Int) (w : World) (h : isPt p = false) : Calls Tryd.prog 59 #[.int .i64 p] w fun e w' => e = .returned (.bool false) ∧ w' = w :=
  (is_any p w).mono fun _ _ hh => ⟨by rw [hh.1, h], hh.2.symm⟩
set_option maxRecDepth 20000 in
theorem one_no (s : ByteArray) (a z : Nat) (w : World) (hz1 : 1 ≤ z) (hz4 : z ≤ 4) (hs : s.size ≤ maxLen) (haz : a + z ≤ s.size) (hp : isPt (numN s a z) = false) :
    Calls Tryd.prog 53 #[.string s, .int .i64 (a : Int), .int .i64 (z : Int)] w fun e w' => e = .returned (.tuple #[.int .i64 (numN s a z), .bool (tpB s a z)]) ∧ Below w.heap.size w w' := by
  have hm := hs
  unfold maxLen at hm
  have hh1 : ¬ (s.size : Int) < (a : Int) + (z : Int) := by omega
  obtain ⟨n, hn⟩ : ∃ n, n = numN s a z := ⟨_, rfl⟩
  have HN : Hid (numN s a z = n) := hn.symm
  rw [← hn] at hp
  have HO : Hid (tpB s a z = false) := Lib.hid (by unfold tpB; rw [← hn, hp, Bool.false_and])
  have HPT := Lib.hid hp
  clear hn hp
  go_enter Tryd.func53, Tryd.ntmps53
  go_wp2_with fail
  refine (number_any s a z _ _ _ rfl rfl hz1 hz4 hs haz).mono ?_
  rintro e w1 ⟨rfl, rfl⟩
  rw [HN.out]
  clear hh1 haz hm
  go_wp2_with fail
  go_quiet (first | (go_at_call 59; exact Calls.quiet_of_same (is_false _ _ HPT.out)))
  go_wp2_with fail
  go_ret2
  exact ⟨by rw [HN.out, HO.out]; rfl, below_drewN0 (Below.refl _ _) _⟩
set_option maxHeartbeats 8000000 in
set_option maxRecDepth 20000 in
theorem one_yes (s : ByteArray) (a z : Nat) (w : World) (hz1 : 1 ≤ z) (hz4 : z ≤ 4) (hs : s.size ≤ maxLen) (haz : a + z ≤ s.size) (hp : isPt (numN s a z) = true) :
    Calls Tryd.prog 53 #[.string s, .int .i64 (a : Int), .int .i64 (z : Int)] w fun e w' => e = .returned (.tuple #[.int .i64 (numN s a z), .bool (tpB s a z)]) ∧ Below w.heap.size w w' := by
  have hm := hs
  unfold maxLen at hm
  have hh1 : ¬ (s.size : Int) < (a : Int) + (z : Int) := by omega
  obtain ⟨n, hn⟩ : ∃ n, n = numN s a z := ⟨_, rfl⟩
  have HN : Hid (numN s a z = n) := hn.symm
  rw [← hn] at hp
  have hr := isPt_range hp
  have HO : Hid (tpB s a z = ((mkB (enc n)).toList == (s.extract a (a + z)).toList)) := Lib.hid (by rw [str_eq]; unfold tpB; rw [← hn, hp, Bool.true_and])
  have HPT := Lib.hid hp
  clear hn hp
  go_enter Tryd.func53, Tryd.ntmps53
  go_wp2_with fail
  refine (number_any s a z _ _ _ rfl rfl hz1 hz4 hs haz).mono ?_
  rintro e w1 ⟨rfl, rfl⟩
  rw [HN.out]
  have hw0 : IntKind.i64.wrap ((a : Int) + (z : Int)) = ((a + z : Nat) : Int) := by rw [IntKind.wrap_i64]; omega
  have haz2 : a ≤ a + z := by omega
  go_wp2_with fail
  go_region_with (first | (go_at_call 59; refine (is_any _ _).mono ?_; rintro e w2 ⟨rfl, rfl⟩; rw [HPT.out]) | (go_at_call 60; refine (bytes_conv _ _ hr.1 hr.2).mono ?_; rintro e w2 ⟨v, rfl, hc1, hc2, hb⟩))
  all_goals (go_wp2_with fail)
  all_goals go_ret2
  all_goals refine ⟨by rw [HN.out, HO.out]; rfl, ?_⟩
  all_goals first | exact hb.out | exact hb.out.drew | exact (Below.refl _ w).drew.trans hb.out | exact ((Below.refl _ w).drew.trans hb.out).drew
set_option maxRecDepth 20000 in
theorem one_any (s : ByteArray) (i : Int) (z : Nat) (zv : Int) (w : World) (hzv : zv = z) (hz1 : 1 ≤ z) (hz4 : z ≤ 4) (hs : s.size ≤ maxLen) (_i0 : -9223372036854775808 ≤ i) (i1 : i ≤ 9223372036854775800) :
    Calls Tryd.prog 53 #[.string s, .int .i64 i, .int .i64 zv] w fun e w' => e = .returned (.tuple #[.int .i64 (tpP s i z), .bool (tpI s i z)]) ∧ Below w.heap.size w w' := by
  subst hzv
  by_cases hin : 0 ≤ i ∧ i + z ≤ s.size
  · have hP : tpP s i z = numN s i.toNat z := by unfold tpP; rw [if_pos hin]
    have hI : tpI s i z = tpB s i.toNat z := by unfold tpI; rw [if_pos hin]
    rw [hP, hI]
    obtain ⟨a, rfl⟩ := Int.eq_ofNat_of_zero_le hin.1
    rw [Int.toNat_natCast]
    cases hp : isPt (numN s a z)
    · exact one_no s a z w hz1 hz4 hs (by omega) hp
    · exact one_yes s a z w hz1 hz4 hs (by omega) hp
  · have hP : tpP s i z = 0 := by unfold tpP; rw [if_neg hin]
    have hI : tpI s i z = false := by unfold tpI; rw [if_neg hin]
    rw [hP, hI]
    exact one_out s i z w hz1 hz4 hs i1 hin
end Go.Proofs.YtnbmecabnkhniaaDoor
/- The row of int. -/
namespace Go.Proofs.YtnbmecabnkhniaaDoor
open Go.RowKit Go.Maps
theorem infoI : ∃ i, Tryd.prog.info? 3 = some i ∧ i.zero = some (.int .i64 0) ∧ i.size = 1 ∧ i.bytes = 8 := by
  have h := Tryd.typeInfo3 default
  unfold typeInfo at h
  cases hq : Tryd.prog.info? 3 with
  | none => simp [hq] at h
  | some i =>
    simp [hq] at h
    exact ⟨i, rfl, by rw [h]; rfl, by rw [h]; rfl, by rw [h]; rfl⟩
theorem news_at (w : World) (cs : Array Value) (t : TypeId) (L : List Value) (h : cs.toList = L) : ∀ j u, L[j]? = some u → (w.alloc (.cells cs t)).cell? ((⟨w.heap.size, 0, none⟩ : Addr).add j) = some u := by
  subst h
  intro j u hj
  simp only [Addr.add_lit, Nat.zero_add, World.cell?, heap_alloc_new]
  simpa using hj
end Go.Proofs.YtnbmecabnkhniaaDoor
/- Layer 31, ServeWrites: what the document's code points of a text want besides. -/
namespace Go.Proofs.YtnbmecabnkhniaaDoor
open Go.RowKit Go.Maps
theorem own_below {w w' : World} {B s n : Nat} {e : TypeId} {v : Value} {x : List Value} (h : w.ownsRow B e s v n x) (b : Below w.heap.size w w') : w'.ownsRow B e s v n x :=
  h.kept (row := none) ⟨b.os, b.tape, b.output, b.size, fun k hk _ => b.block k hk⟩ (Classical.em _)
theorem own_base {w : World} {B B' s n : Nat} {e : TypeId} {v : Value} {x : List Value} (h : w.ownsRow B e s v n x) (hb : B' ≤ B) : w.ownsRow B' e s v n x := by
  refine ⟨h.1, ?_⟩
  rcases h.2 with h | ⟨g', cap', cur, h', hb', rest⟩
  · exact .inl h
  · exact .inr ⟨g', cap', cur, h', Nat.le_trans hb hb', rest⟩
end Go.Proofs.YtnbmecabnkhniaaDoor
/- The document's code points of a text: Next, Points (as in layer 1). -/
namespace Go.Proofs.YtnbmecabnkhniaaDoor
open Go.RowKit
set_option maxRecDepth 20000 in
theorem ret3 {a b c d e f : Int} (h : a = b) (g : c = d) (k : e = f) : Ending.returned (.tuple #[.int .i64 a, .int .i64 c, .int .i64 e]) = .returned (.tuple #[.int .i64 b, .int .i64 d, .int .i64 f]) := by rw [h, g, k]
set_option maxRecDepth 20000 in
theorem rnext_any (s : ByteArray) (i : Int) (w : World) (hs : s.size ≤ 2000000) :
    Calls Tryd.prog 49 #[.string s, .int .i64 i] w fun e w' => e = .returned (.tuple #[.int .i64 (nxP s i), .int .i64 (nxN s i), .int .i64 (nxE s i)]) ∧ Below w.heap.size w w' := by
  have hm : s.size ≤ maxLen := by unfold maxLen; omega
  have HM := Lib.hid hm
  clear hm
  by_cases hin : 0 ≤ i ∧ i < s.size
  · obtain ⟨a, rfl⟩ := Int.eq_ofNat_of_zero_le hin.1
    have ha : a < s.size := by omega
    have HF := Lib.hid (fun z (h1 : 1 ≤ z) (h : tpI s (a : Int) z = true) => nx_found ha h1 h)
    have HX := Lib.hid (fun h => nx_lost ha h)
    have hge : ¬ (s.size : Int) ≤ (a : Int) := by omega
    clear hin
    go_enter Tryd.func49, Tryd.ntmps49
    go_wp2_with fail
    go_loopw [7] (fun zv wr => ∃ z : Nat, 1 ≤ z ∧ z ≤ 5 ∧ zv = .int .i64 z ∧ (∀ y, 1 ≤ y → y < z → tpI s (a : Int) y = false) ∧ Below w.heap.size w wr) (fun zv _ => 5 - (intOf zv).toNat)
    case atStart => exact ⟨1, by omega, by omega, rfl, fun y h1 h2 => by omega, Below.refl _ _⟩
    case round =>
      obtain ⟨z, hz1, hz5, rfl, hno, hb⟩ := hrel
      have HB := Lib.hid hb
      have HNO := Lib.hid hno
      clear hb hno
      by_cases hlt : z ≤ 4
      · have hlt' : (z : Int) ≤ 4 := by omega
        cases ho : tpI s (a : Int) z
        · have HO := Lib.hid ho
          have HN2 : Hid (∀ y, 1 ≤ y → y < z + 1 → tpI s (a : Int) y = false) := Lib.hid (fun y h1 h2 => by
            by_cases e : y = z
            · rw [e]; exact HO.out
            · exact HNO.out y h1 (by omega))
          clear ho
          go_wp2_with fail
          refine (one_any s a z _ _ rfl hz1 hlt HM.out (by omega) (by omega)).mono ?_
          rintro e w1 ⟨rfl, b1⟩
          rw [HO.out]
          have HB1 := Lib.hid (HB.out.trans (b1.mono HB.out.size))
          clear b1
          go_wp2_with fail
          go_roundw
          case rel => exact ⟨z + 1, by omega, by omega, by go_num, HN2.out, HB1.out⟩
          case measure => simp [intOf]; omega
        · have HO := Lib.hid ho
          have HR := Lib.hid (HF.out z hz1 ho)
          clear ho
          go_wp2_with fail
          refine (one_any s a z _ _ rfl hz1 hlt HM.out (by omega) (by omega)).mono ?_
          rintro e w1 ⟨rfl, b1⟩
          rw [HO.out]
          have HB1 := Lib.hid (HB.out.trans (b1.mono HB.out.size))
          clear b1
          go_wp2_with fail
          go_ret3
          exact ⟨ret3 HR.out.1.symm HR.out.2.1.symm HR.out.2.2.symm, HB1.out⟩
      · have HR := Lib.hid (HX.out (fun y h1 h2 => HNO.out y h1 (by omega)))
        have hlt' : ¬ (z : Int) ≤ 4 := by omega
        go_wp2_with fail
        go_ret3
        exact ⟨ret3 HR.out.1.symm HR.out.2.1.symm HR.out.2.2.symm, HB.out⟩
  · have HR : Hid (nxP s i = 0 ∧ nxN s i = 0 ∧ nxE s i = 2) := Lib.hid (by unfold nxP nxN nxE; rw [if_neg hin, if_neg hin, if_neg hin]; exact ⟨rfl, rfl, rfl⟩)
    by_cases h0 : i < 0
    · clear hin
      go_enter Tryd.func49, Tryd.ntmps49
      go_wp2_with fail
      go_ret3
      exact ⟨ret3 HR.out.1.symm HR.out.2.1.symm HR.out.2.2.symm, Below.refl _ _⟩
    · have h1 : (s.size : Int) ≤ i := by omega
      clear hin
      go_enter Tryd.func49, Tryd.ntmps49
      go_wp2_with fail
      go_ret3
      exact ⟨ret3 HR.out.1.symm HR.out.2.1.symm HR.out.2.2.symm, Below.refl _ _⟩
set_option maxRecDepth 20000 in
theorem nx_at {s : ByteArray} {a : Nat} (h : a < s.size) : nxP s a = decP s a ∧ nxN s a = decN s a ∧ nxE s a = if decIs s a then 0 else 10 := by
  unfold nxP nxN nxE
  rw [if_pos (by omega), if_pos (by omega), if_pos (by omega), Int.toNat_natCast]
  exact ⟨rfl, rfl, rfl⟩
set_option maxRecDepth 20000 in
theorem pts_end {v v' : Value} {g g' : Bool} (h : v = v') (k : g = g') : Ending.returned (.tuple #[v, .bool g]) = .returned (.tuple #[v', .bool g']) := by rw [h, k]
set_option maxRecDepth 20000 in
theorem rpoints_any (s : ByteArray) (w : World) (hs : s.size ≤ 2000000) :
    Calls Tryd.prog 36 #[.string s] w fun e w' => ∃ v, e = .returned (.tuple #[v, .bool (isTx s)]) ∧ Below w.heap.size w w' := by
  obtain ⟨i0, hi, hz0, hz1, hz2⟩ := infoI
  go_enter Tryd.func36, Tryd.ntmps36
  go_wp2_with fail
  go_loopg [4, 5] s.size (fun f v i wr => ∃ (a n : Nat), s.size - a ≤ f ∧ a ≤ s.size ∧ n ≤ a ∧ i = .int .i64 a ∧ txF s f a = isTx s ∧ (∃ xs, wr.ownsRow w.heap.size 3 1 v n xs) ∧ Below w.heap.size w wr)
  case atStart => exact ⟨0, 0, by omega, by omega, by omega, rfl, rfl, ⟨_, World.ownsRow_nil _ _ _ _⟩, Below.refl _ _⟩
  case round =>
    obtain ⟨a, n, hf, ha, hna, rfl, htx, ⟨xs, hown⟩, hb⟩ := hrel
    by_cases hlt : a < s.size
    · have hlt' : (a : Int) < (s.size : Int) := by omega
      rw [txF_step hlt hf] at htx
      have hnx := nx_at hlt
      have hsz := hb.size
      have HO := Lib.hid hown
      have HB := Lib.hid hb
      cases hd : decIs s a
      · rw [hd] at htx hnx
        simp at htx hnx
        have HT := Lib.hid htx
        have HE := Lib.hid hnx.2.2
        clear hown hb htx hnx hd
        go_wp2_with fail
        refine (rnext_any s a _ hs).mono ?_
        rintro e w1 ⟨rfl, b1⟩
        rw [HE.out]
        have HB1 := Lib.hid (HB.out.trans (b1.mono HB.out.size))
        clear b1
        go_wp2_with fail
        go_ret2
        exact ⟨_, pts_end rfl HT.out.symm, HB1.out⟩
      · have h0 := (decIs_lead hd).1
        have hin := dec_in hlt hd
        rw [hd] at htx hnx
        have hdn := decN_eq s a
        rw [hd] at hdn
        simp at hdn
        simp only [Bool.true_and] at htx
        have h4 := leadN_le (byt s a)
        have hn2 : nxN s a = leadN (byt s a) := by rw [hnx.2.1, hdn.1]
        have HE : Hid (nxE s a = 0) := Lib.hid (by rw [hnx.2.2]; rfl)
        obtain ⟨z, hz⟩ : ∃ z, z = leadN (byt s a) := ⟨_, rfl⟩
        rw [← hz] at h0 hin htx hn2 h4
        obtain ⟨p, hp⟩ : ∃ p, p = nxP s a := ⟨_, rfl⟩
        have HP := Lib.hid hp
        have HN := Lib.hid hn2
        have HT := Lib.hid htx
        have hxs : Hid (n + 1 ≤ 2000000) := Lib.hid (by omega)
        clear hown hb htx hnx hd hdn hn2 hz hp
        go_wp2_with fail
        refine (rnext_any s a _ hs).mono ?_
        rintro e w1 ⟨rfl, b1⟩
        rw [HE.out, HN.out, ← HP.out]
        have HB1 := Lib.hid (HB.out.trans (b1.mono HB.out.size))
        have HO1 := Lib.hid (own_below HO.out b1)
        have hsz1 : Hid (w.heap.size ≤ w1.heap.size + 1) := Lib.hid (by have := HB1.out.size; omega)
        clear b1
        go_wp2_with (at_builtin; refine wpList_append_own _ rfl _ _ 63 rfl w.heap.size 3 i0 (.int .i64 0) 1 8 Tryd.underlying63 hi hz0 hz1 hz2 rfl (by decide) _ n xs rfl (HO1.out.alloc _) ⟨w1.heap.size, 0, none⟩ 1 1 [.int .i64 p] rfl rfl (news_at _ _ _ _ rfl) (by intro u hu; simp at hu; subst hu; rfl) (by have := hxs.out; unfold maxLen; omega) (by have := hxs.out; omega) (by have := hsz1.out; simpa using this) ?_; intro v' w2 ho hg _)
        go_roundg (gk - 1)
        case rel =>
          refine ⟨a + z, n + 1, by omega, hin, by omega, by go_num, HT.out, ⟨_, ho⟩, (HB1.out.alloc HB1.out.size _).grown hg ?_ ?_⟩
          · have := hsz1.out; simpa using this
          · intro q hq; exact (HO1.out.lt q hq).1
        case measure => omega
    · obtain rfl : a = s.size := by omega
      rw [txF_end (Nat.le_refl _)] at htx
      have HT := Lib.hid htx
      have HB := Lib.hid hb
      clear htx hb hown
      go_wp2_with fail
      go_ret2
      exact ⟨_, pts_end rfl HT.out, HB.out⟩
end Go.Proofs.YtnbmecabnkhniaaDoor
/- Plain facts of layer 3: which cells are a value. No program in sight. -/
namespace Go.Proofs.YtnbmecabnkhniaaDoor
open Go.RowKit
/-- A cell. -/
structure CR where
  k : Nat
  nm : ByteArray
  tx : ByteArray
  n : Int
  m : Int
instance : Inhabited CR := ⟨⟨0, ⟨#[]⟩, ⟨#[]⟩, 0, 0⟩⟩
def em (s : ByteArray) : Bool := decide (s.size = 0)
def letB (b : UInt8) : Bool := b == 95 || (97 ≤ b && b ≤ 122) || (65 ≤ b && b ≤ 90)
def dgB (b : UInt8) : Bool := 48 ≤ b && b ≤ 57
def nmL : List UInt8 → Bool
  | [] => false
  | b :: r => letB b && r.all fun c => letB c || dgB c
def nmB (s : ByteArray) : Bool := nmL s.data.toList
def ckB (s : ByteArray) : Bool := decide (ckE s = 0)
/-- May a cell be, but for its name? -/
def oneP (c : CR) : Bool :=
  if c.k = 0 then em c.tx && decide (c.m = 0) && decide (c.n = 0)
  else if c.k = 1 then em c.tx && decide (c.m = 0) && (decide (c.n = 0) || decide (c.n = 1))
  else if c.k = 2 then em c.tx && decide (c.m = 0)
  else if c.k = 3 then decide (c.n = 0) && decide (c.m = 0) && ckB c.tx
  else if c.k = 4 ∨ c.k = 5 then decide (c.n = 0) && decide (c.m = 0) && nmB c.tx
  else if c.k = 6 ∨ c.k = 7 then decide (c.n = 0) && em c.tx && decide (0 ≤ c.m)
  else false
def headP (c : CR) : Bool := decide (c.k = 6) || decide (c.k = 7)
/-- May an item, a member have that name? -/
def namedP (obj : Bool) (names : List ByteArray) (s : ByteArray) : Bool :=
  if obj then !names.any (fun x => decide (x = s)) && !em s && ckB s else em s
/-- Behind so many values, one behind the other. -/
def kidsF (w : Nat → Option Nat) (g : Nat → CR) (n : Nat) (obj : Bool) : Nat → List ByteArray → Nat → Option Nat
  | 0, _, a => some a
  | m + 1, names, a =>
    if n ≤ a then none else if namedP obj names (g a).nm then
      match w a with
      | none => none
      | some a' => kidsF w g n obj m (if obj then (g a).nm :: names else names) a'
    else none
/-- Behind the value that begins at a place, with at most so many in each other. -/
def wk (g : Nat → CR) (n : Nat) : Nat → Nat → Option Nat
  | 0, a => if n ≤ a then none else if oneP (g a) && !headP (g a) then some (a + 1) else none
  | r + 1, a => if n ≤ a then none else if oneP (g a) then
      if headP (g a) then kidsF (wk g n r) g n (decide ((g a).k = 7)) (g a).m.toNat [] (a + 1) else some (a + 1)
    else none
/-- Are cells a value? -/
def ckC (g : Nat → CR) (n : Nat) : Bool := decide (0 < n) && decide (n ≤ 2048) && em (g 0).nm && decide (wk g n 16 0 = some n)
theorem wk_z (g : Nat → CR) (n a : Nat) : wk g n 0 a = if n ≤ a then none else if oneP (g a) && !headP (g a) then some (a + 1) else none := rfl
theorem wk_s (g : Nat → CR) (n r a : Nat) : wk g n (r + 1) a = if n ≤ a then none else if oneP (g a) then
      if headP (g a) then kidsF (wk g n r) g n (decide ((g a).k = 7)) (g a).m.toNat [] (a + 1) else some (a + 1)
    else none := rfl
theorem kidsF_lt {w : Nat → Option Nat} {g : Nat → CR} {n : Nat} {obj : Bool} (hw : ∀ a e, w a = some e → a < e ∧ e ≤ n) : ∀ (m : Nat) (names : List ByteArray) (a e : Nat), a ≤ n → kidsF w g n obj m names a = some e → a + m ≤ e ∧ e ≤ n
  | 0, _, a, e, ha, h => by simp [kidsF] at h; omega
  | m + 1, names, a, e, ha, h => by
    rw [kidsF] at h
    split at h
    · cases h
    · split at h
      · cases hx : w a with
        | none => rw [hx] at h; cases h
        | some a' =>
          rw [hx] at h
          have h1 := hw a a' hx
          have h2 := kidsF_lt hw m _ a' e h1.2 h
          omega
      · cases h
theorem wk_lt {g : Nat → CR} {n : Nat} : ∀ (r a e : Nat), wk g n r a = some e → a < e ∧ e ≤ n
  | 0, a, e, h => by
    rw [wk] at h
    split at h
    · cases h
    · split at h
      · cases h; omega
      · cases h
  | r + 1, a, e, h => by
    rw [wk] at h
    split at h
    · cases h
    · split at h
      · split at h
        · have := kidsF_lt (wk_lt r) _ _ _ _ (by omega) h
          omega
        · cases h; omega
      · cases h
theorem kidsF_mono {w w' : Nat → Option Nat} {g : Nat → CR} {n : Nat} {obj : Bool} (hw : ∀ a e, w a = some e → w' a = some e) : ∀ (m : Nat) (names : List ByteArray) (a e : Nat), kidsF w g n obj m names a = some e → kidsF w' g n obj m names a = some e
  | 0, _, a, e, h => h
  | m + 1, names, a, e, h => by
    rw [kidsF] at h ⊢
    split at h
    · cases h
    · rename_i h1
      rw [if_neg h1]
      split at h
      · rename_i h2
        rw [if_pos h2]
        cases hx : w a with
        | none => rw [hx] at h; cases h
        | some a' =>
          rw [hx] at h
          rw [hw a a' hx]
          exact kidsF_mono hw m _ a' e h
      · cases h
theorem wk_succ {g : Nat → CR} {n : Nat} : ∀ (r a e : Nat), wk g n r a = some e → wk g n (r + 1) a = some e
  | 0, a, e, h => by
    rw [wk_z] at h
    rw [wk_s]
    split at h
    · cases h
    · rename_i h1
      rw [if_neg h1]
      split at h
      · rename_i h2
        simp only [Bool.and_eq_true, Bool.not_eq_true'] at h2
        rw [if_pos h2.1, if_neg (by rw [h2.2]; simp)]
        exact h
      · cases h
  | r + 1, a, e, h => by
    rw [wk_s] at h
    rw [wk_s]
    split at h
    · cases h
    · rename_i h1
      rw [if_neg h1]
      split at h
      · rename_i h2
        rw [if_pos h2]
        split at h
        · rename_i h3
          rw [if_pos h3]
          exact kidsF_mono (wk_succ r) _ _ _ _ h
        · rename_i h3
          rw [if_neg h3]
          exact h
      · cases h
theorem wk_up {g : Nat → CR} {n : Nat} {r r' a e : Nat} (hr : r ≤ r') (h : wk g n r a = some e) : wk g n r' a = some e := by
  obtain ⟨d, rfl⟩ : ∃ d, r' = r + d := ⟨r' - r, by omega⟩
  clear hr
  induction d with
  | zero => exact h
  | succ d ih => exact wk_succ _ _ _ ih
/-- So many values, one behind the other. -/
def Chain (g : Nat → CR) (n : Nat) : Nat → Nat → Nat → Prop
  | 0, a, e => a = e
  | o + 1, a, e => ∃ a', wk g n 16 a = some a' ∧ Chain g n o a' e
theorem Chain.le {g : Nat → CR} {n : Nat} : ∀ (o a e : Nat), Chain g n o a e → a + o ≤ e ∧ (e = a ∨ e ≤ n)
  | 0, a, e, h => by have : a = e := h; omega
  | o + 1, a, e, h => by
    obtain ⟨a', h1, h2⟩ := h
    have h3 := wk_lt _ _ _ h1
    have h4 := Chain.le o a' e h2
    omega
theorem Chain.add {g : Nat → CR} {n : Nat} : ∀ (o p a b e : Nat), Chain g n o a b → Chain g n p b e → Chain g n (o + p) a e
  | 0, p, a, b, e, h, k => by have : a = b := h; subst this; simpa using k
  | o + 1, p, a, b, e, h, k => by
    obtain ⟨a', h1, h2⟩ := h
    rw [show o + 1 + p = (o + p) + 1 by omega]
    exact ⟨a', h1, Chain.add o p a' b e h2 k⟩
theorem kidsF_chain {g : Nat → CR} {n r : Nat} {obj : Bool} (hr : r ≤ 16) : ∀ (m : Nat) (names : List ByteArray) (a e : Nat), kidsF (wk g n r) g n obj m names a = some e → Chain g n m a e
  | 0, _, a, e, h => by simp [kidsF] at h; exact h
  | m + 1, names, a, e, h => by
    rw [kidsF] at h
    split at h
    · cases h
    · split at h
      · cases hx : wk g n r a with
        | none => rw [hx] at h; cases h
        | some a' =>
          rw [hx] at h
          exact ⟨a', wk_up hr hx, kidsF_chain hr m _ a' e h⟩
      · cases h
theorem one_leaf {c : CR} (h1 : oneP c = true) (h2 : headP c = false) : c.m = 0 := by
  unfold oneP at h1
  simp only [headP, Bool.or_eq_false_iff, decide_eq_false_iff_not] at h2
  repeat' split at h1
  all_goals first
    | cases h1
    | (simp only [Bool.and_eq_true, decide_eq_true_eq] at h1; first | exact h1.1.2 | exact h1.2 | (exfalso; omega))
theorem one_head {c : CR} (h1 : oneP c = true) (h2 : headP c = true) : c.n = 0 ∧ em c.tx = true ∧ 0 ≤ c.m ∧ (c.k = 6 ∨ c.k = 7) := by
  simp only [headP, Bool.or_eq_true, decide_eq_true_eq] at h2
  unfold oneP at h1
  rw [if_neg (by omega), if_neg (by omega), if_neg (by omega), if_neg (by omega), if_neg (by omega), if_pos h2] at h1
  simp only [Bool.and_eq_true, decide_eq_true_eq] at h1
  exact ⟨h1.1.1, h1.1.2, h1.2, h2⟩
/-- What stands at the head of a value: the values in it, one behind the other. -/
theorem wk_open {g : Nat → CR} {n r a e : Nat} (hr : r ≤ 16) (h : wk g n r a = some e) : a < n ∧ oneP (g a) = true ∧ 0 ≤ (g a).m ∧ Chain g n (g a).m.toNat (a + 1) e := by
  cases r with
  | zero =>
    rw [wk] at h
    split at h
    · cases h
    · split at h
      · rename_i h2
        simp only [Bool.and_eq_true, Bool.not_eq_true'] at h2
        have := one_leaf h2.1 h2.2
        cases h
        refine ⟨by omega, h2.1, by omega, ?_⟩
        rw [this]; rfl
      · cases h
  | succ r =>
    rw [wk] at h
    split at h
    · cases h
    · split at h
      · rename_i h2
        split at h
        · rename_i h3
          exact ⟨by omega, h2, (one_head h2 h3).2.2.1, kidsF_chain (by omega) _ _ _ _ h⟩
        · rename_i h3
          have := one_leaf h2 (by simpa using h3)
          cases h
          refine ⟨by omega, h2, by omega, ?_⟩
          rw [this]; rfl
      · cases h
/-- One round of skip. -/
theorem Chain.step {g : Nat → CR} {n o a e : Nat} (h : Chain g n (o + 1) a e) : a < n ∧ a < e ∧ 0 ≤ (g a).m ∧ Chain g n (o + (g a).m.toNat) (a + 1) e := by
  obtain ⟨a', h1, h2⟩ := h
  obtain ⟨h3, _, h4, h5⟩ := wk_open (Nat.le_refl _) h1
  have := Chain.le _ _ _ h2
  have := wk_lt _ _ _ h1
  refine ⟨h3, by omega, h4, ?_⟩
  rw [Nat.add_comm]
  exact Chain.add _ _ _ _ _ h5 h2
theorem kidsF_at {g : Nat → CR} {n r : Nat} {obj : Bool} (hw : ∀ a e, wk g n r a = some e → ∀ b, a ≤ b → b < e → ∃ e', wk g n r b = some e' ∧ e' ≤ e) : ∀ (m : Nat) (names : List ByteArray) (a e : Nat), kidsF (wk g n r) g n obj m names a = some e → ∀ b, a ≤ b → b < e → ∃ e', wk g n r b = some e' ∧ e' ≤ e
  | 0, _, a, e, h, b, h1, h2 => by simp [kidsF] at h; omega
  | m + 1, names, a, e, h, b, h1, h2 => by
    rw [kidsF] at h
    split at h
    · cases h
    · split at h
      · cases hx : wk g n r a with
        | none => rw [hx] at h; cases h
        | some a' =>
          rw [hx] at h
          have h3 := (kidsF_lt (wk_lt r) _ _ _ _ (wk_lt _ _ _ hx).2 h).1
          by_cases hb : b < a'
          · obtain ⟨e', g1, g2⟩ := hw a a' hx b h1 hb
            exact ⟨e', g1, by omega⟩
          · exact kidsF_at hw m _ a' e h b (by omega) h2
      · cases h
theorem wk_at {g : Nat → CR} {n : Nat} : ∀ (r a e : Nat), wk g n r a = some e → ∀ b, a ≤ b → b < e → ∃ e', wk g n r b = some e' ∧ e' ≤ e
  | 0, a, e, h, b, h1, h2 => by
    have hh := h
    rw [wk] at h
    split at h
    · cases h
    · split at h
      · cases h
        obtain rfl : a = b := by omega
        exact ⟨_, hh, Nat.le_refl _⟩
      · cases h
  | r + 1, a, e, h, b, h1, h2 => by
    have hh := h
    rw [wk] at h
    split at h
    · cases h
    · split at h
      · split at h
        · by_cases hb : b = a
          · subst hb; exact ⟨_, hh, Nat.le_refl _⟩
          · obtain ⟨e', g1, g2⟩ := kidsF_at (wk_at r) _ _ _ _ h b (by omega) h2
            exact ⟨e', wk_succ _ _ _ g1, g2⟩
        · cases h
          obtain rfl : a = b := by omega
          exact ⟨_, hh, Nat.le_refl _⟩
      · cases h
end Go.Proofs.YtnbmecabnkhniaaDoor
/- Plain facts of layer 3: values in other cells. No program in sight. -/
namespace Go.Proofs.YtnbmecabnkhniaaDoor
open Go.RowKit
/-- From i to j two rows of cells read the same, but for the first one's name (b: that, too). -/
def Alk (b : Bool) (g1 : Nat → CR) (s1 : Nat) (g2 : Nat → CR) (s2 i j : Nat) : Prop :=
  ∀ t, i ≤ t → t < j → (g1 (t + s1)).k = (g2 (t + s2)).k ∧ (g1 (t + s1)).tx = (g2 (t + s2)).tx ∧ (g1 (t + s1)).n = (g2 (t + s2)).n ∧ (g1 (t + s1)).m = (g2 (t + s2)).m ∧ ((b = true ∨ i < t) → (g1 (t + s1)).nm = (g2 (t + s2)).nm)
theorem Alk.part {b : Bool} {g1 g2 : Nat → CR} {s1 s2 i j i' j' : Nat} (h : Alk b g1 s1 g2 s2 i j) (hi : b = true ∨ i < i') (hi' : i ≤ i') (hj : j' ≤ j) (c : Bool) : Alk c g1 s1 g2 s2 i' j' := fun t h1 h2 =>
  have q := h t (by omega) (by omega)
  ⟨q.1, q.2.1, q.2.2.1, q.2.2.2.1, fun _ => q.2.2.2.2 (by rcases hi with e | e; exact .inl e; exact .inr (by omega))⟩
theorem one_alk {c d : CR} (h1 : c.k = d.k) (h2 : c.tx = d.tx) (h3 : c.n = d.n) (h4 : c.m = d.m) : oneP c = oneP d := by
  unfold oneP; rw [h1, h2, h3, h4]
theorem kidsF_shift {g1 g2 : Nat → CR} {n1 n2 s1 s2 r : Nat} {obj : Bool} (ih : ∀ i j, wk g1 n1 r (i + s1) = some (j + s1) → Alk false g1 s1 g2 s2 i j → j + s2 ≤ n2 → wk g2 n2 r (i + s2) = some (j + s2)) :
    ∀ (m : Nat) (names : List ByteArray) (i j : Nat), i + s1 ≤ n1 → kidsF (wk g1 n1 r) g1 n1 obj m names (i + s1) = some (j + s1) → Alk true g1 s1 g2 s2 i j → j + s2 ≤ n2 → kidsF (wk g2 n2 r) g2 n2 obj m names (i + s2) = some (j + s2)
  | 0, _, i, j, _, h, _, _ => by
    simp only [kidsF, Option.some.injEq] at h ⊢
    omega
  | m + 1, names, i, j, hi, h, ha, hj => by
    rw [kidsF] at h
    split at h
    · cases h
    · rename_i h1
      split at h
      · rename_i h2
        cases hx : wk g1 n1 r (i + s1) with
        | none => rw [hx] at h; cases h
        | some a' =>
          rw [hx] at h
          have h3 := wk_lt _ _ _ hx
          obtain ⟨i', rfl⟩ : ∃ i', a' = i' + s1 := ⟨a' - s1, by omega⟩
          have h4 := kidsF_lt (wk_lt r) _ _ _ _ h3.2 h
          have hn := (ha i (Nat.le_refl _) (by omega)).2.2.2.2 (.inl rfl)
          have e := ih i i' hx (ha.part (.inl rfl) (Nat.le_refl _) (by omega) false) (by omega)
          rw [kidsF, if_neg (by have := wk_lt _ _ _ hx; omega), ← hn, if_pos h2, e]
          exact kidsF_shift ih m _ i' j h3.2 h (ha.part (.inl rfl) (by omega) (Nat.le_refl _) true) hj
      · cases h
theorem wk_shift {g1 g2 : Nat → CR} {n1 n2 s1 s2 : Nat} : ∀ (r i j : Nat), wk g1 n1 r (i + s1) = some (j + s1) → Alk false g1 s1 g2 s2 i j → j + s2 ≤ n2 → wk g2 n2 r (i + s2) = some (j + s2)
  | 0, i, j, h, ha, hj => by
    have hl := wk_lt _ _ _ h
    have q := ha i (Nat.le_refl _) (by omega)
    rw [wk_z] at h ⊢
    rw [if_neg (by omega)] at h ⊢
    rw [one_alk q.1 q.2.1 q.2.2.1 q.2.2.2.1, show headP (g1 (i + s1)) = headP (g2 (i + s2)) by unfold headP; rw [q.1]] at h
    split at h
    · rename_i h2
      rw [if_pos h2]
      simp only [Option.some.injEq] at h ⊢
      omega
    · cases h
  | r + 1, i, j, h, ha, hj => by
    have hl := wk_lt _ _ _ h
    have q := ha i (Nat.le_refl _) (by omega)
    rw [wk_s] at h ⊢
    rw [if_neg (by omega)] at h ⊢
    rw [one_alk q.1 q.2.1 q.2.2.1 q.2.2.2.1, show headP (g1 (i + s1)) = headP (g2 (i + s2)) by unfold headP; rw [q.1], q.1, q.2.2.2.1] at h
    split at h
    · rename_i h2
      rw [if_pos h2]
      split at h
      · rename_i h3
        rw [if_pos h3]
        rw [show i + s1 + 1 = (i + 1) + s1 by omega] at h
        rw [show i + s2 + 1 = (i + 1) + s2 by omega]
        exact kidsF_shift (wk_shift r) _ _ _ _ (by omega) h (ha.part (.inr (by omega)) (by omega) (Nat.le_refl _) true) hj
      · rename_i h3
        rw [if_neg h3]
        simp only [Option.some.injEq] at h ⊢
        omega
    · cases h
/-- The names of an object's members are apart, and none is empty; those of items are empty. -/
theorem kidsF_names {g : Nat → CR} {n r : Nat} {obj : Bool} : ∀ (m : Nat) (names : List ByteArray) (b : Nat → Nat), kidsF (wk g n r) g n obj m names (b 0) ≠ none → (∀ i, i < m → wk g n r (b i) = some (b (i + 1))) →
    ∀ i, i < m → namedP obj [] (g (b i)).nm = true ∧ (obj = true → (∀ s ∈ names, s ≠ (g (b i)).nm) ∧ ∀ j, j < i → (g (b j)).nm ≠ (g (b i)).nm)
  | 0, _, _, _, _, i, hi => by omega
  | m + 1, names, b, h, hb, i, hi => by
    rw [kidsF] at h
    split at h
    · exact absurd rfl h
    · split at h
      · rename_i h2
        rw [hb 0 (by omega)] at h
        simp only [] at h
        have h0 : namedP obj [] (g (b 0)).nm = true ∧ (obj = true → ∀ s ∈ names, s ≠ (g (b 0)).nm) := by
          unfold namedP at h2 ⊢
          cases obj with
          | false => exact ⟨h2, fun q => by cases q⟩
          | true =>
            simp only [if_true, Bool.and_eq_true, Bool.not_eq_true', List.any_eq_false, decide_eq_true_eq] at h2
            simp only [if_true, Bool.and_eq_true, Bool.not_eq_true', List.any_nil]
            exact ⟨⟨⟨by trivial, h2.1.2⟩, h2.2⟩, fun _ s hs => h2.1.1 s hs⟩
        cases i with
        | zero => exact ⟨h0.1, fun q => ⟨h0.2 q, fun j hj => by omega⟩⟩
        | succ i =>
          have k := kidsF_names m _ (fun t => b (t + 1)) h (fun t ht => hb (t + 1) (by omega)) i (by omega)
          refine ⟨k.1, fun q => ?_⟩
          obtain ⟨k1, k2⟩ := k.2 q
          subst q
          simp only [if_true, List.mem_cons, forall_eq_or_imp] at k1
          refine ⟨k1.2, fun j hj => ?_⟩
          cases j with
          | zero => exact k1.1
          | succ j => exact k2 j (by omega)
      · exact absurd rfl h
end Go.Proofs.YtnbmecabnkhniaaDoor
/- Plain facts of layer 3: where items and members begin; values put together. No program in sight. -/
namespace Go.Proofs.YtnbmecabnkhniaaDoor
open Go.RowKit
theorem ckC_parts {g : Nat → CR} {n : Nat} (h : ckC g n = true) : 0 < n ∧ n ≤ 2048 ∧ em (g 0).nm = true ∧ wk g n 16 0 = some n := by
  unfold ckC at h
  simp only [Bool.and_eq_true, decide_eq_true_eq] at h
  exact ⟨h.1.1.1, h.1.1.2, h.1.2, h.2⟩
theorem ckC_mk {g : Nat → CR} {n : Nat} (h1 : 0 < n) (h2 : n ≤ 2048) (h3 : em (g 0).nm = true) (h4 : wk g n 16 0 = some n) : ckC g n = true := by
  unfold ckC
  simp only [Bool.and_eq_true, decide_eq_true_eq]
  exact ⟨⟨⟨h1, h2⟩, h3⟩, h4⟩
/-- Behind the value that begins at a place. -/
def nx (g : Nat → CR) (n a : Nat) : Nat := (wk g n 16 a).getD a
/-- Where the i-th value from a place on begins. -/
def bd (g : Nat → CR) (n a : Nat) : Nat → Nat
  | 0 => a
  | i + 1 => nx g n (bd g n a i)
theorem bd_next (g : Nat → CR) (n a : Nat) : ∀ i, bd g n a (i + 1) = bd g n (nx g n a) i
  | 0 => rfl
  | i + 1 => by show nx g n (bd g n a (i + 1)) = nx g n (bd g n (nx g n a) i); rw [bd_next g n a i]
theorem nx_some {g : Nat → CR} {n a e : Nat} (h : wk g n 16 a = some e) : nx g n a = e := by unfold nx; rw [h]; rfl
theorem bd_chain {g : Nat → CR} {n : Nat} : ∀ (m a e : Nat), Chain g n m a e → (∀ i, i < m → wk g n 16 (bd g n a i) = some (bd g n a (i + 1))) ∧ bd g n a m = e
  | 0, a, e, h => ⟨fun i hi => by omega, h⟩
  | m + 1, a, e, h => by
    obtain ⟨a', h1, h2⟩ := h
    have hn := nx_some h1
    obtain ⟨k1, k2⟩ := bd_chain m a' e h2
    refine ⟨fun i hi => ?_, by rw [bd_next, hn]; exact k2⟩
    cases i with
    | zero => show wk g n 16 a = some (nx g n a); rw [hn]; exact h1
    | succ i =>
      rw [bd_next, bd_next, hn]
      exact k1 i (by omega)
theorem chain_bd {g : Nat → CR} {n : Nat} (a : Nat) (b : Nat → Nat) : ∀ (m : Nat), (∀ i, i < m → wk g n 16 (b i) = some (b (i + 1))) → b 0 = a → ∀ i, i ≤ m → bd g n a i = b i
  | m, h, h0, 0, _ => h0.symm
  | m, h, h0, i + 1, hi => by
    show nx g n (bd g n a i) = _
    rw [chain_bd a b m h h0 i (by omega)]
    exact nx_some (h i (by omega))
/-- The members' names of an object are apart. -/
theorem names_apart {g : Nat → CR} {n r a e : Nat} (hr : r ≤ 16) (h : wk g n r a = some e) (hk : (g a).k = 7) : ∀ i, i < (g a).m.toNat → namedP true [] (g (bd g n (a + 1) i)).nm = true ∧ ∀ j, j < i → (g (bd g n (a + 1) j)).nm ≠ (g (bd g n (a + 1) i)).nm := by
  have hc := (wk_open hr h).2.2.2
  have hb := (bd_chain _ _ _ hc).1
  cases r with
  | zero =>
    rw [wk_z] at h
    have : headP (g a) = true := by simp [headP, hk]
    rw [this] at h
    simp at h
  | succ r =>
    rw [wk_s] at h
    split at h
    · cases h
    · split at h
      · rw [if_pos (by simp [headP, hk]), hk] at h
        intro i hi
        have hbr : ∀ i, i < (g a).m.toNat → wk g n r (bd g n (a + 1) i) = some (bd g n (a + 1) (i + 1)) := by
          have K : ∀ (m : Nat) (names : List ByteArray) (b : Nat → Nat), kidsF (wk g n r) g n true m names (b 0) = some e → (∀ i, i < m → wk g n 16 (b i) = some (b (i + 1))) → ∀ i, i < m → wk g n r (b i) = some (b (i + 1)) := by
            intro m
            induction m with
            | zero => intro _ _ _ _ i hi; omega
            | succ m ih =>
              intro names b hk hb i hi
              rw [kidsF] at hk
              split at hk
              · cases hk
              · split at hk
                · cases hx : wk g n r (b 0) with
                  | none => rw [hx] at hk; cases hk
                  | some a' =>
                    rw [hx] at hk
                    have e1 := wk_up (r' := 16) (by omega) hx
                    rw [hb 0 (by omega)] at e1
                    simp only [Option.some.injEq] at e1
                    cases i with
                    | zero => rw [hx, e1]
                    | succ i =>
                      rw [← e1] at hk
                      exact ih _ (fun t => b (t + 1)) hk (fun t ht => hb (t + 1) (by omega)) i (by omega)
                · cases hk
          exact K _ _ (bd g n (a + 1)) h hb
        have k := kidsF_names _ [] (bd g n (a + 1)) (by rw [show bd g n (a + 1) 0 = a + 1 from rfl, show decide ((7 : Nat) = 7) = true from rfl] at *; rw [h]; simp) hbr i hi
        exact ⟨k.1, (k.2 rfl).2⟩
      · cases h
end Go.Proofs.YtnbmecabnkhniaaDoor
/- Plain facts of layer 3: lists of cells; values put together under a head; a value cut out. No program in sight. -/
namespace Go.Proofs.YtnbmecabnkhniaaDoor
open Go.RowKit
def gl (L : List CR) (i : Nat) : CR := L.getD i default
def ckL (L : List CR) : Bool := ckC (gl L) L.length
/-- The cells, the first one's name aside. -/
def ren (s : ByteArray) : List CR → List CR
  | [] => []
  | c :: r => { c with nm := s } :: r
theorem ren_len (s : ByteArray) (l : List CR) : (ren s l).length = l.length := by cases l <;> rfl
theorem ren_at (s : ByteArray) (l : List CR) (t : Nat) (h : t < l.length) : (gl (ren s l) t).k = (gl l t).k ∧ (gl (ren s l) t).tx = (gl l t).tx ∧ (gl (ren s l) t).n = (gl l t).n ∧ (gl (ren s l) t).m = (gl l t).m ∧ (0 < t → (gl (ren s l) t).nm = (gl l t).nm) := by
  cases l with
  | nil => simp at h
  | cons c r =>
    cases t with
    | zero => exact ⟨rfl, rfl, rfl, rfl, fun h => by omega⟩
    | succ t => exact ⟨rfl, rfl, rfl, rfl, fun _ => rfl⟩
theorem ren_nm (s : ByteArray) (l : List CR) (h : 0 < l.length) : (gl (ren s l) 0).nm = s := by
  cases l with
  | nil => simp at h
  | cons c r => rfl
/-- Where the i-th of some lists begins, put one behind the other from a place on. -/
def st (a : Nat) (ls : List (List CR)) (i : Nat) : Nat := a + ((ls.take i).map List.length).sum
theorem st_zero (a : Nat) (ls : List (List CR)) : st a ls 0 = a := by simp [st]
theorem st_succ (a : Nat) (ls : List (List CR)) (i : Nat) (h : i < ls.length) : st a ls (i + 1) = st a ls i + ls[i].length := by
  unfold st
  rw [List.take_succ_eq_append_getElem h, List.map_append, List.sum_append]
  show a + (_ + (ls[i].length + 0)) = _
  omega
theorem st_all (a : Nat) (ls : List (List CR)) : st a ls ls.length = a + ls.flatten.length := by
  unfold st
  rw [List.take_length, List.length_flatten]
theorem flat_at : ∀ (ls : List (List CR)) (i t : Nat) (h : i < ls.length), t < ls[i].length → gl ls.flatten (st 0 ls i + t) = gl ls[i] t
  | [], i, t, h, _ => by simp at h
  | l :: ls, 0, t, h, ht => by
    have ht' : t < l.length := ht
    unfold gl st
    simp only [List.take_zero, List.map_nil, List.sum_nil, Nat.zero_add, List.flatten_cons, List.getElem_cons_zero]
    rw [List.getD_eq_getElem?_getD, List.getD_eq_getElem?_getD, List.getElem?_append_left ht']
  | l :: ls, i + 1, t, h, ht => by
    have h' : i < ls.length := by simpa using h
    have ht' : t < ls[i].length := by simpa using ht
    have ih := flat_at ls i t h' ht'
    have e : st 0 (l :: ls) (i + 1) = l.length + st 0 ls i := by simp [st]
    rw [e]
    unfold gl at ih ⊢
    simp only [List.flatten_cons, List.getElem_cons_succ]
    rw [← ih, List.getD_eq_getElem?_getD, List.getD_eq_getElem?_getD, List.getElem?_append_right (by omega)]
    congr 2
    omega
/-- Values (renamed) under a head. -/
def under (h : CR) (ls : List (List CR)) : List CR := h :: ls.flatten
theorem under_at (h : CR) (ls : List (List CR)) (i t : Nat) (hi : i < ls.length) (ht : t < ls[i].length) : gl (under h ls) (st 1 ls i + t) = gl ls[i] t := by
  rw [← flat_at ls i t hi ht]
  unfold under gl
  rw [show st 1 ls i + t = (st 0 ls i + t) + 1 by unfold st; omega]
  rfl
theorem under_len (h : CR) (ls : List (List CR)) : (under h ls).length = st 1 ls ls.length := by
  rw [st_all]; simp [under]; omega
theorem st_le (a : Nat) (ls : List (List CR)) : ∀ (d i : Nat), i + d ≤ ls.length → st a ls i ≤ st a ls (i + d)
  | 0, _, _ => Nat.le_refl _
  | d + 1, i, h => by
    have := st_le a ls d i (by omega)
    have := st_succ a ls (i + d) (by omega)
    rw [show i + (d + 1) = i + d + 1 by omega]
    omega
/-- Each of the values that were put together begins one where it stands. -/
theorem under_wk (h : CR) (vs ls : List (List CR)) (hl : ls.length = vs.length) (hr : ∀ i (h1 : i < ls.length) (h2 : i < vs.length), ∃ s, ls[i] = ren s vs[i]) (hv : ∀ i (h2 : i < vs.length), ckL vs[i] = true) :
    ∀ i, i < ls.length → wk (gl (under h ls)) (under h ls).length 16 (st 1 ls i) = some (st 1 ls (i + 1)) := by
  intro i hi
  have h2 : i < vs.length := by omega
  obtain ⟨s, es⟩ := hr i hi h2
  obtain ⟨k1, _, _, k4⟩ := ckC_parts (hv i h2)
  have el : ls[i].length = vs[i].length := by rw [es, ren_len]
  have e1 := st_succ 1 ls i hi
  have e2 := st_le 1 ls (ls.length - (i + 1)) (i + 1) (by omega)
  rw [show i + 1 + (ls.length - (i + 1)) = ls.length by omega] at e2
  have k := wk_shift (g1 := gl vs[i]) (n1 := vs[i].length) (s1 := 0) (g2 := gl (under h ls)) (n2 := (under h ls).length) (s2 := st 1 ls i) 16 0 vs[i].length (by simpa using k4) ?_ (by rw [under_len]; omega)
  · rw [Nat.zero_add] at k
    rw [k, e1, el, Nat.add_comm]
  · intro t _ ht
    have q := ren_at s vs[i] t ht
    rw [← es] at q
    have u := under_at h ls i t hi (by omega)
    rw [Nat.add_comm t (st 1 ls i), u, Nat.add_zero]
    exact ⟨q.1.symm, q.2.1.symm, q.2.2.1.symm, q.2.2.2.1.symm, fun hh => (q.2.2.2.2 (by rcases hh with e | e; cases e; exact e)).symm⟩
theorem under_bd (h : CR) (vs ls : List (List CR)) (hl : ls.length = vs.length) (hr : ∀ i (h1 : i < ls.length) (h2 : i < vs.length), ∃ s, ls[i] = ren s vs[i]) (hv : ∀ i (h2 : i < vs.length), ckL vs[i] = true) :
    ∀ i, i ≤ ls.length → bd (gl (under h ls)) (under h ls).length 1 i = st 1 ls i :=
  chain_bd 1 (st 1 ls) ls.length (under_wk h vs ls hl hr hv) (st_zero 1 ls)
/-- Cells from a place to another one. -/
def cut (g : Nat → CR) (a e : Nat) : List CR := (List.range (e - a)).map fun i => g (a + i)
theorem cut_len (g : Nat → CR) (a e : Nat) : (cut g a e).length = e - a := by simp [cut]
theorem cut_at (g : Nat → CR) (a e t : Nat) (h : t < e - a) : gl (cut g a e) t = g (a + t) := by
  unfold gl cut
  rw [List.getD_eq_getElem?_getD, List.getElem?_map, List.getElem?_range h]
  rfl
theorem em_eq {s : ByteArray} (h : em s = true) : s = ⟨#[]⟩ := by
  unfold em at h
  simp only [decide_eq_true_eq] at h
  exact ByteArray.ext (Array.eq_empty_of_size_eq_zero h)
/-- What is cut out of a value, without its name, is a value. -/
theorem sub_ck {g : Nat → CR} {n a e : Nat} (h : wk g n 16 a = some e) (hn : n ≤ 2048) : ckL (ren ⟨#[]⟩ (cut g a e)) = true := by
  have hl := wk_lt _ _ _ h
  have e1 : (ren ⟨#[]⟩ (cut g a e)).length = e - a := by rw [ren_len, cut_len]
  refine ckC_mk (by omega) (by omega) (by rw [ren_nm _ _ (by rw [cut_len]; omega)]; rfl) ?_
  rw [e1]
  have k := wk_shift (g1 := g) (n1 := n) (s1 := a) (g2 := gl (ren ⟨#[]⟩ (cut g a e))) (n2 := e - a) (s2 := 0) 16 0 (e - a) (by rw [Nat.zero_add, Nat.sub_add_cancel (by omega)]; exact h) ?_ (by omega)
  · simpa using k
  · intro t _ ht
    have q := ren_at ⟨#[]⟩ (cut g a e) t (by rw [cut_len]; exact ht)
    rw [cut_at g a e t ht, Nat.add_comm] at q
    rw [Nat.add_zero]
    exact ⟨q.1.symm, q.2.1.symm, q.2.2.1.symm, q.2.2.2.1.symm, fun hh => (q.2.2.2.2 (by rcases hh with w | w; cases w; exact w)).symm⟩
theorem ren_self {l : List CR} {s : ByteArray} (h : (gl l 0).nm = s) : ren s l = l := by
  cases l with
  | nil => rfl
  | cons c r =>
    have : c.nm = s := h
    unfold ren; rw [← this]
theorem ren_ren (s t : ByteArray) (l : List CR) : ren s (ren t l) = ren s l := by cases l <;> rfl
theorem gl_ext {L M : List CR} (h : L.length = M.length) (k : ∀ i, i < L.length → gl L i = gl M i) : L = M := by
  apply List.ext_getElem h
  intro i h1 h2
  have := k i h1
  unfold gl at this
  rw [List.getD_eq_getElem?_getD, List.getD_eq_getElem?_getD, List.getElem?_eq_getElem h1, List.getElem?_eq_getElem h2] at this
  exact this
/-- Sub of a value that was put in, where it stands, is that value. -/
theorem under_sub (h : CR) (vs ls : List (List CR)) (hl : ls.length = vs.length) (hr : ∀ i (h1 : i < ls.length) (h2 : i < vs.length), ∃ s, ls[i] = ren s vs[i]) (hv : ∀ i (h2 : i < vs.length), ckL vs[i] = true) (i : Nat) (hi : i < ls.length) (h2 : i < vs.length) :
    ren ⟨#[]⟩ (cut (gl (under h ls)) (st 1 ls i) (st 1 ls (i + 1))) = vs[i] := by
  obtain ⟨s, es⟩ := hr i hi h2
  obtain ⟨k1, _, k3, _⟩ := ckC_parts (hv i h2)
  have el : ls[i].length = vs[i].length := by rw [es, ren_len]
  have e1 := st_succ 1 ls i hi
  have ec : cut (gl (under h ls)) (st 1 ls i) (st 1 ls (i + 1)) = ls[i] := by
    refine gl_ext (by rw [cut_len]; omega) fun t ht => ?_
    rw [cut_len] at ht
    rw [cut_at _ _ _ _ ht, under_at h ls i t hi (by omega)]
  rw [ec, es, ren_ren]
  exact ren_self (em_eq k3)
/-- What is put together of a value's subs (renamed) is that value. -/
theorem parts_under {g : Nat → CR} {n a e : Nat} (h : wk g n 16 a = some e) (ls : List (List CR)) (hl : ls.length = (g a).m.toNat) (hs : ∀ i (h1 : i < ls.length), ls[i] = cut g (bd g n (a + 1) i) (bd g n (a + 1) (i + 1))) :
    under (g a) ls = cut g a e := by
  have hc := (wk_open (Nat.le_refl _) h).2.2.2
  obtain ⟨b1, b2⟩ := bd_chain _ _ _ hc
  have hl2 := wk_lt _ _ _ h
  have hst : ∀ i, i ≤ ls.length → st (a + 1) ls i = bd g n (a + 1) i := by
    intro i
    induction i with
    | zero => intro _; rw [st_zero]; rfl
    | succ i ih =>
      intro hi
      have q := ih (by omega)
      have w := wk_lt _ _ _ (b1 i (by omega))
      rw [st_succ _ _ _ (by omega), q, hs i (by omega), cut_len]
      omega
  have e0 : ls.flatten.length = e - (a + 1) := by
    have := hst ls.length (Nat.le_refl _)
    rw [st_all, hl, b2] at this
    omega
  have e3 : (under (g a) ls).length = ls.flatten.length + 1 := rfl
  refine gl_ext (by rw [cut_len, e3]; omega) fun t ht => ?_
  have ht' : t < e - a := by rw [e3] at ht; omega
  rw [cut_at _ _ _ _ ht']
  cases t with
  | zero => rfl
  | succ t =>
    -- which of them
    have key : ∀ (i : Nat), i ≤ ls.length → ∀ t, a + 1 + t < bd g n (a + 1) i → gl ls.flatten t = g (a + 1 + t) := by
      intro i
      induction i with
      | zero => intro _ t hq; exact absurd hq (by show ¬ (a + 1 + t < a + 1); omega)
      | succ i ih =>
        intro hi t hq
        by_cases hlt : a + 1 + t < bd g n (a + 1) i
        · exact ih (by omega) t hlt
        · have q := hst i (by omega)
          have q0 : st 0 ls i + (a + 1) = bd g n (a + 1) i := by rw [← q]; unfold st; omega
          have lt : t - st 0 ls i < ls[i].length := by rw [hs i (by omega), cut_len]; omega
          have f := flat_at ls i (t - st 0 ls i) (by omega) lt
          rw [show st 0 ls i + (t - st 0 ls i) = t by omega] at f
          rw [f, hs i (by omega), cut_at _ _ _ _ (by omega)]
          congr 1
          omega
    have := key ls.length (Nat.le_refl _) t (by rw [hl, b2]; omega)
    show gl ls.flatten t = _
    rw [this]
    congr 1
    omega
end Go.Proofs.YtnbmecabnkhniaaDoor
