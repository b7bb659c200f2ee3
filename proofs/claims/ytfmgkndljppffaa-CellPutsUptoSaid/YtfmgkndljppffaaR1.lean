/- The document's code points of a text: number, Is, Bytes, One (as in layer 1). -/
import Derived.Test.YtfmgkndljppffaaG1
import Derived.Test.YtfmgkndljppffaaR0
import Derived.Laws.IdiomStrings
import Derived.Lib.BufferRead
import Derived.Deep.RegionWith
import Derived.Deep.QuietTactic
import Derived.BigQuiet
namespace Go.Proofs.Ytfmgkndljppffaa
open Go.RowKit
set_option maxRecDepth 20000 in
theorem below_drewN0 {B : Nat} {w w1 : World} (h : Below B w w1) (n : Nat) : Below B w (w1.drewN n) := ⟨h.os, h.tape, h.output, h.size, h.block⟩
set_option maxRecDepth 20000 in
theorem is_any (p : Int) (w : World) :
    Calls Try.prog 74 #[.int .i64 p] w fun e w' => e = .returned (.bool (isPt p)) ∧ w = w' := by
  go_enter Try.func74, Try.ntmps74
  go_wp2
  all_goals
    go_ret
    refine ⟨ret_bool ?_, rfl⟩
    unfold isPt
    rw [Bool.eq_iff_iff]
    simp only [Bool.or_eq_true, decide_eq_true_eq, true_iff, Bool.false_eq_true, false_iff]
    try omega

set_option maxRecDepth 20000 in
theorem bytes_any (p : Int) (w : World) (h0 : 0 ≤ p) (h1 : p < 1114112) :
    Calls Try.prog 75 #[.int .i64 p] w fun e w' => e = .returned (.slice (some ⟨w.heap.size, 0, none⟩) (enc p).length (enc p).length) ∧ (∃ cs : Array Value, cs.toList = (enc p).map (Value.int .u8) ∧ w' = w.alloc (.cells cs 5)) := by
  by_cases c1 : p < 128
  · have he : Hid (enc p = [p]) := Lib.hid (by unfold enc; rw [if_pos c1])
    go_enter Try.func75, Try.ntmps75
    go_wp2_with fail
    go_ret
    rw [he.out]
    refine ⟨rfl, _, ?_, rfl⟩
    simp
  by_cases c2 : p < 2048
  · have he : Hid (enc p = [192 + p / 64, 128 + p % 64]) := Lib.hid (by unfold enc; rw [if_neg c1, if_pos c2])
    go_enter Try.func75, Try.ntmps75
    go_wp2_with fail
    go_ret
    rw [he.out]
    refine ⟨rfl, _, ?_, rfl⟩
    rfl
  by_cases c3 : p < 65536
  · have he : Hid (enc p = [224 + p / 4096, 128 + p / 64 % 64, 128 + p % 64]) := Lib.hid (by unfold enc; rw [if_neg c1, if_neg c2, if_pos c3])
    go_enter Try.func75, Try.ntmps75
    go_wp2_with fail
    go_ret
    rw [he.out]
    exact ⟨rfl, _, rfl, rfl⟩
  · have he : Hid (enc p = [240 + p / 262144, 128 + p / 4096 % 64, 128 + p / 64 % 64, 128 + p % 64]) := Lib.hid (by unfold enc; rw [if_neg c1, if_neg c2, if_neg c3])
    go_enter Try.func75, Try.ntmps75
    go_wp2_with fail
    go_ret
    rw [he.out]
    exact ⟨rfl, _, rfl, rfl⟩

set_option maxRecDepth 20000 in
theorem conv_own {w : World} {B : Nat} {v : Value} {L : List Int} (h : w.ownsRow B 5 1 v L.length (L.map (Value.int .u8))) (hr : ∀ x ∈ L, 0 ≤ x ∧ x < 256) :
    (convert 94 9 v).run Try.prog w = .ok (.string (mkB L)) w := by
  rcases h.2 with ⟨rfl, hn⟩ | ⟨g, cap, cur, rfl, hg, hgg, h1, h2, h3, h4⟩
  · have : L = [] := by cases L <;> simp_all
    subst this
    exact Lib.run_convert_nil_bytes w 94 9 5 0 Try.underlying94 Try.underlying5 Try.underlying9
  · have k := run_convert_bytes_back (P := Try.prog) w 94 9 5 ⟨g, 0, none⟩ cap (L.map (fun x => UInt8.ofNat x.toNat)) Try.underlying94 Try.underlying5 Try.underlying9 (fun j hj => by
      have hj' : j < L.length := by simpa using hj
      have hx := hr L[j] (List.getElem_mem hj')
      rw [Addr.add_lit, Nat.zero_add, h.cellAt j (by omega)]
      simp only [List.getElem?_map, List.getElem?_eq_getElem hj', Option.map_some, List.getElem_map, Option.some.injEq, Value.int.injEq, true_and]
      rw [UInt8.toNat_ofNat']; omega)
    rw [List.length_map] at k
    exact k
set_option maxRecDepth 20000 in
theorem m0_range (s : ByteArray) (a z : Nat) : 0 ≤ m0 (byt s a) z ∧ m0 (byt s a) z < 256 := by
  have := byt_range s a
  unfold m0; (repeat' split) <;> omega
set_option maxRecDepth 20000 in
theorem acc_lt (s : ByteArray) (a : Nat) (p : Int) (h0 : 0 ≤ p) (h1 : p < 256) : ∀ k, k ≤ 3 → 0 ≤ acc s a p k ∧ acc s a p k < 67108864 := by
  intro k hk
  match k, hk with
  | 0, _ => simp [acc]; omega
  | 1, _ => simp only [acc]; omega
  | 2, _ => simp only [acc]; omega
  | 3, _ => simp only [acc]; omega

set_option maxRecDepth 20000 in
theorem number_any (s : ByteArray) (a z : Nat) (av zv : Int) (w : World) (hav : av = a) (hzv : zv = z) (hz1 : 1 ≤ z) (hz4 : z ≤ 4) (hs : s.size ≤ maxLen) (ha : a + z ≤ s.size) :
    Calls Try.prog 73 #[.string s, .int .i64 av, .int .i64 zv] w fun e w' => e = .returned (.int .i64 (numN s a z)) ∧ w = w' := by
  subst hav
  unfold maxLen at hs
  have hlt : a < s.size := by omega
  have hbk := byt_eq s a hlt
  have hbr := byt_range s a
  have HM0 := Lib.hid (m0_range s a z)
  obtain ⟨b, hb⟩ : ∃ b, b = byt s a := ⟨_, rfl⟩
  rw [← hb] at hbk hbr
  have HB := Lib.hid hb
  have HN : Hid (numN s a z = acc s (a + 1) (m0 b z) (z - 1)) := Lib.hid (by rw [hb]; rfl)
  have hMB : m0 b z = if z = 2 then b % 32 else if z = 3 then b % 16 else if z = 4 then b % 8 else b := rfl
  obtain ⟨m, hm⟩ : ∃ m, m = m0 b z := ⟨_, rfl⟩
  rw [← hm] at HN hMB
  have HMR : Hid (0 ≤ m ∧ m < 256) := Lib.hid (by rw [hm, hb]; exact HM0.out)
  clear hm hb HM0
  rcases (show z = 1 ∨ z = 2 ∨ z = 3 ∨ z = 4 by omega) with rfl | rfl | rfl | rfl
  · simp at hMB
    obtain rfl : zv = 1 := by omega
    have HMB := Lib.hid hMB
    clear hMB hzv
    go_enter Try.func73, Try.ntmps73
    go_wp2_with fail
    rw [← HMB.out]
    go_loopw [7, 8] (fun n i wr => ∃ j : Nat, j + 1 ≤ 1 ∧ i = .int .i64 ((j : Int) + 1) ∧ n = .int .i64 (acc s (a + 1) m j) ∧ w = wr) (fun _ i _ => 1 - (intOf i).toNat)
    case atStart => exact ⟨0, by omega, rfl, rfl, rfl⟩
    case round =>
      obtain ⟨j, hj, rfl, rfl, rfl⟩ := hrel
      by_cases hlt : j + 1 < 1
      · omega
      · obtain rfl : j = 0 := by omega
        go_wp2_with fail
        go_ret
        exact ⟨ret_int HN.out.symm, rfl⟩
  · simp at hMB
    obtain rfl : zv = 2 := by omega
    have HMB := Lib.hid hMB
    clear hMB hzv
    go_enter Try.func73, Try.ntmps73
    go_wp2_with fail
    rw [← HMB.out]
    go_loopw [7, 8] (fun n i wr => ∃ j : Nat, j + 1 ≤ 2 ∧ i = .int .i64 ((j : Int) + 1) ∧ n = .int .i64 (acc s (a + 1) m j) ∧ w = wr) (fun _ i _ => 2 - (intOf i).toNat)
    case atStart => exact ⟨0, by omega, rfl, rfl, rfl⟩
    case round =>
      obtain ⟨j, hj, rfl, rfl, rfl⟩ := hrel
      by_cases hlt : j + 1 < 2
      · have hin : a + 1 + j < s.size := by omega
        have hbj := byt_eq s (a + 1 + j) hin
        have hrj := byt_range s (a + 1 + j)
        have hac := acc_lt s (a + 1) m HMR.out.1 HMR.out.2 j (by omega)
        have hstep : acc s (a + 1) m (j + 1) = acc s (a + 1) m j * 64 + byt s (a + 1 + j) % 64 := rfl
        obtain ⟨x, hx⟩ : ∃ x, x = byt s (a + 1 + j) := ⟨_, rfl⟩
        obtain ⟨y, hy⟩ : ∃ y, y = acc s (a + 1) m j := ⟨_, rfl⟩
        rw [← hx] at hbj hrj hstep
        rw [← hy] at hac hstep
        rw [← hy]
        have HST := Lib.hid hstep
        have hlt' : (j : Int) + 1 < 2 := by omega
        have hnat : a + (j + 1) = a + 1 + j := by omega
        clear hx hy hstep
        go_wp2_with fail
        go_roundw
        case rel => exact ⟨j + 1, by omega, by go_num, by rw [HST.out]; go_num, trivial⟩
        case measure => simp [intOf]; omega
      · obtain rfl : j = 1 := by omega
        go_wp2_with fail
        go_ret
        exact ⟨ret_int HN.out.symm, rfl⟩
  · simp at hMB
    obtain rfl : zv = 3 := by omega
    have HMB := Lib.hid hMB
    clear hMB hzv
    go_enter Try.func73, Try.ntmps73
    go_wp2_with fail
    rw [← HMB.out]
    go_loopw [7, 8] (fun n i wr => ∃ j : Nat, j + 1 ≤ 3 ∧ i = .int .i64 ((j : Int) + 1) ∧ n = .int .i64 (acc s (a + 1) m j) ∧ w = wr) (fun _ i _ => 3 - (intOf i).toNat)
    case atStart => exact ⟨0, by omega, rfl, rfl, rfl⟩
    case round =>
      obtain ⟨j, hj, rfl, rfl, rfl⟩ := hrel
      by_cases hlt : j + 1 < 3
      · have hin : a + 1 + j < s.size := by omega
        have hbj := byt_eq s (a + 1 + j) hin
        have hrj := byt_range s (a + 1 + j)
        have hac := acc_lt s (a + 1) m HMR.out.1 HMR.out.2 j (by omega)
        have hstep : acc s (a + 1) m (j + 1) = acc s (a + 1) m j * 64 + byt s (a + 1 + j) % 64 := rfl
        obtain ⟨x, hx⟩ : ∃ x, x = byt s (a + 1 + j) := ⟨_, rfl⟩
        obtain ⟨y, hy⟩ : ∃ y, y = acc s (a + 1) m j := ⟨_, rfl⟩
        rw [← hx] at hbj hrj hstep
        rw [← hy] at hac hstep
        rw [← hy]
        have HST := Lib.hid hstep
        have hlt' : (j : Int) + 1 < 3 := by omega
        have hnat : a + (j + 1) = a + 1 + j := by omega
        clear hx hy hstep
        go_wp2_with fail
        go_roundw
        case rel => exact ⟨j + 1, by omega, by go_num, by rw [HST.out]; go_num, trivial⟩
        case measure => simp [intOf]; omega
      · obtain rfl : j = 2 := by omega
        go_wp2_with fail
        go_ret
        exact ⟨ret_int HN.out.symm, rfl⟩
  · simp at hMB
    obtain rfl : zv = 4 := by omega
    have HMB := Lib.hid hMB
    clear hMB hzv
    go_enter Try.func73, Try.ntmps73
    go_wp2_with fail
    rw [← HMB.out]
    go_loopw [7, 8] (fun n i wr => ∃ j : Nat, j + 1 ≤ 4 ∧ i = .int .i64 ((j : Int) + 1) ∧ n = .int .i64 (acc s (a + 1) m j) ∧ w = wr) (fun _ i _ => 4 - (intOf i).toNat)
    case atStart => exact ⟨0, by omega, rfl, rfl, rfl⟩
    case round =>
      obtain ⟨j, hj, rfl, rfl, rfl⟩ := hrel
      by_cases hlt : j + 1 < 4
      · have hin : a + 1 + j < s.size := by omega
        have hbj := byt_eq s (a + 1 + j) hin
        have hrj := byt_range s (a + 1 + j)
        have hac := acc_lt s (a + 1) m HMR.out.1 HMR.out.2 j (by omega)
        have hstep : acc s (a + 1) m (j + 1) = acc s (a + 1) m j * 64 + byt s (a + 1 + j) % 64 := rfl
        obtain ⟨x, hx⟩ : ∃ x, x = byt s (a + 1 + j) := ⟨_, rfl⟩
        obtain ⟨y, hy⟩ : ∃ y, y = acc s (a + 1) m j := ⟨_, rfl⟩
        rw [← hx] at hbj hrj hstep
        rw [← hy] at hac hstep
        rw [← hy]
        have HST := Lib.hid hstep
        have hlt' : (j : Int) + 1 < 4 := by omega
        have hnat : a + (j + 1) = a + 1 + j := by omega
        clear hx hy hstep
        go_wp2_with fail
        go_roundw
        case rel => exact ⟨j + 1, by omega, by go_num, by rw [HST.out]; go_num, trivial⟩
        case measure => simp [intOf]; omega
      · obtain rfl : j = 3 := by omega
        go_wp2_with fail
        go_ret
        exact ⟨ret_int HN.out.symm, rfl⟩
set_option maxRecDepth 20000 in
theorem str_eq (x y : ByteArray) : (x.toList == y.toList) = decide (x = y) := by
  rw [ByteArray.toList_eq, ByteArray.toList_eq, Bool.eq_iff_iff]
  simp only [beq_iff_eq, decide_eq_true_eq]
  exact ⟨fun h => ByteArray.ext (Array.toList_inj.1 h), fun h => by rw [h]⟩
set_option maxRecDepth 20000 in
theorem bytes_conv (p : Int) (w : World) (h0 : 0 ≤ p) (h1 : p < 1114112) :
    Calls Try.prog 75 #[.int .i64 p] w fun e w' => ∃ v, e = .returned v ∧ (convert 94 9 v).run Try.prog w' = .ok (.string (mkB (enc p))) w' ∧ (convert 94 9 v).run Try.prog w'.drew = .ok (.string (mkB (enc p))) w'.drew ∧ Hid (Below w.heap.size w w') := by
  refine (bytes_any p w h0 h1).mono ?_
  rintro e w' ⟨rfl, cs, hcs, rfl⟩
  have hl : cs.size = (enc p).length := by rw [← Array.length_toList, hcs, List.length_map]
  have ho := World.ownsRow_lit (base := w.heap.size) (e := 5) (size := 1) w cs (enc p).length (Nat.le_refl _) (by have := enc_len p; unfold maxLen; omega) (by rw [hl, Nat.mul_one])
  rw [hcs] at ho
  have hr := enc_range h0 h1
  exact ⟨_, rfl, conv_own ho hr, conv_own (World.ownsRow.drew ho) hr, (Below.refl _ w).alloc (Nat.le_refl _) _⟩

set_option maxRecDepth 20000 in
theorem one_end {n n' : Int} {x y : ByteArray} {g : Bool} {w w1 w' : World} (hn : n' = n) (hg : g = decide (x = y)) (hb : Hid (Below w.heap.size w w1)) (hd : w' = w1 ∨ w' = w1.drew) :
    Ending.returned (.tuple #[.int .i64 n, .bool (x.toList == y.toList)]) = .returned (.tuple #[.int .i64 n', .bool g]) ∧ Below w.heap.size w w' := by
  refine ⟨by rw [hn, hg, str_eq], ?_⟩
  rcases hd with rfl | rfl
  · exact hb.out
  · exact hb.out.drew

set_option maxRecDepth 20000 in
theorem one_out (s : ByteArray) (i : Int) (z : Nat) (w : World) (hz1 : 1 ≤ z) (hz4 : z ≤ 4) (hs : s.size ≤ maxLen) (i1 : i ≤ 9223372036854775800) (hin : ¬ (0 ≤ i ∧ i + z ≤ s.size)) :
    Calls Try.prog 72 #[.string s, .int .i64 i, .int .i64 (z : Int)] w fun e w' => e = .returned (.tuple #[.int .i64 0, .bool false]) ∧ Below w.heap.size w w' := by
  have hm := hs
  unfold maxLen at hm
  by_cases h0 : i < 0
  · clear hin
    go_enter Try.func72, Try.ntmps72
    go_wp2_with fail
    go_ret2
    exact ⟨rfl, Below.refl _ _⟩
  · have h1 : (s.size : Int) < i + (z : Int) := by omega
    have hw0 : IntKind.i64.wrap (i + (z : Int)) = i + (z : Int) := by rw [IntKind.wrap_i64]; omega
    clear hin
    go_enter Try.func72, Try.ntmps72
    go_wp2_with fail
    go_ret2
    exact ⟨rfl, Below.refl _ _⟩
set_option maxRecDepth 20000 in
theorem is_false (p : Int) (w : World) (h : isPt p = false) : Calls Try.prog 74 #[.int .i64 p] w fun e w' => e = .returned (.bool false) ∧ w' = w :=
  (is_any p w).mono fun _ _ hh => ⟨by rw [hh.1, h], hh.2.symm⟩
set_option maxRecDepth 20000 in
theorem one_no (s : ByteArray) (a z : Nat) (w : World) (hz1 : 1 ≤ z) (hz4 : z ≤ 4) (hs : s.size ≤ maxLen) (haz : a + z ≤ s.size) (hp : isPt (numN s a z) = false) :
    Calls Try.prog 72 #[.string s, .int .i64 (a : Int), .int .i64 (z : Int)] w fun e w' => e = .returned (.tuple #[.int .i64 (numN s a z), .bool (tpB s a z)]) ∧ Below w.heap.size w w' := by
  have hm := hs
  unfold maxLen at hm
  have hh1 : ¬ (s.size : Int) < (a : Int) + (z : Int) := by omega
  obtain ⟨n, hn⟩ : ∃ n, n = numN s a z := ⟨_, rfl⟩
  have HN : Hid (numN s a z = n) := hn.symm
  rw [← hn] at hp
  have HO : Hid (tpB s a z = false) := Lib.hid (by unfold tpB; rw [← hn, hp, Bool.false_and])
  have HPT := Lib.hid hp
  clear hn hp
  go_enter Try.func72, Try.ntmps72
  go_wp2_with fail
  refine (number_any s a z _ _ _ rfl rfl hz1 hz4 hs haz).mono ?_
  rintro e w1 ⟨rfl, rfl⟩
  rw [HN.out]
  clear hh1 haz hm
  go_wp2_with fail
  go_quiet (first | (go_at_call 74; exact Calls.quiet_of_same (is_false _ _ HPT.out)))
  go_wp2_with fail
  go_ret2
  exact ⟨by rw [HN.out, HO.out]; rfl, below_drewN0 (Below.refl _ _) _⟩
set_option maxHeartbeats 8000000 in
set_option maxRecDepth 20000 in
theorem one_yes (s : ByteArray) (a z : Nat) (w : World) (hz1 : 1 ≤ z) (hz4 : z ≤ 4) (hs : s.size ≤ maxLen) (haz : a + z ≤ s.size) (hp : isPt (numN s a z) = true) :
    Calls Try.prog 72 #[.string s, .int .i64 (a : Int), .int .i64 (z : Int)] w fun e w' => e = .returned (.tuple #[.int .i64 (numN s a z), .bool (tpB s a z)]) ∧ Below w.heap.size w w' := by
  have hm := hs
  unfold maxLen at hm
  have hh1 : ¬ (s.size : Int) < (a : Int) + (z : Int) := by omega
  obtain ⟨n, hn⟩ : ∃ n, n = numN s a z := ⟨_, rfl⟩
  have HN : Hid (numN s a z = n) := hn.symm
  rw [← hn] at hp
  have hr := isPt_range hp
  have HO : Hid (tpB s a z = ((mkB (enc n)).toList == (s.extract a (a + z)).toList)) := Lib.hid (by rw [str_eq]; unfold tpB; rw [← hn, hp, Bool.true_and])
  have HPT := Lib.hid hp
  clear hn hp
  go_enter Try.func72, Try.ntmps72
  go_wp2_with fail
  refine (number_any s a z _ _ _ rfl rfl hz1 hz4 hs haz).mono ?_
  rintro e w1 ⟨rfl, rfl⟩
  rw [HN.out]
  have hw0 : IntKind.i64.wrap ((a : Int) + (z : Int)) = ((a + z : Nat) : Int) := by rw [IntKind.wrap_i64]; omega
  have haz2 : a ≤ a + z := by omega
  go_wp2_with fail
  go_region_with (first | (go_at_call 74; refine (is_any _ _).mono ?_; rintro e w2 ⟨rfl, rfl⟩; rw [HPT.out]) | (go_at_call 75; refine (bytes_conv _ _ hr.1 hr.2).mono ?_; rintro e w2 ⟨v, rfl, hc1, hc2, hb⟩))
  all_goals (go_wp2_with fail)
  all_goals go_ret2
  all_goals refine ⟨by rw [HN.out, HO.out]; rfl, ?_⟩
  all_goals first | exact hb.out | exact hb.out.drew | exact (Below.refl _ w).drew.trans hb.out | exact ((Below.refl _ w).drew.trans hb.out).drew
set_option maxRecDepth 20000 in
theorem one_any (s : ByteArray) (i : Int) (z : Nat) (zv : Int) (w : World) (hzv : zv = z) (hz1 : 1 ≤ z) (hz4 : z ≤ 4) (hs : s.size ≤ maxLen) (_i0 : -9223372036854775808 ≤ i) (i1 : i ≤ 9223372036854775800) :
    Calls Try.prog 72 #[.string s, .int .i64 i, .int .i64 zv] w fun e w' => e = .returned (.tuple #[.int .i64 (tpP s i z), .bool (tpI s i z)]) ∧ Below w.heap.size w w' := by
  subst hzv
  by_cases hin : 0 ≤ i ∧ i + z ≤ s.size
  · have hP : tpP s i z = numN s i.toNat z := by unfold tpP; rw [if_pos hin]
    have hI : tpI s i z = tpB s i.toNat z := by unfold tpI; rw [if_pos hin]
    rw [hP, hI]
    obtain ⟨a, rfl⟩ := Int.eq_ofNat_of_zero_le hin.1
    rw [Int.toNat_natCast]
    cases hp : isPt (numN s a z)
    · exact one_no s a z w hz1 hz4 hs (by omega) hp
    · exact one_yes s a z w hz1 hz4 hs (by omega) hp
  · have hP : tpP s i z = 0 := by unfold tpP; rw [if_neg hin]
    have hI : tpI s i z = false := by unfold tpI; rw [if_neg hin]
    rw [hP, hI]
    exact one_out s i z w hz1 hz4 hs i1 hin
end Go.Proofs.Ytfmgkndljppffaa
