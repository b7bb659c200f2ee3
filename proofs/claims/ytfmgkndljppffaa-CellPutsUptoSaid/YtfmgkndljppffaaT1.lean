import Derived.Test.YtfmgkndljppffaaProg
import Derived.Below
import Derived.Deep.LoopGhost
import Derived.Lib.Hide
import Derived.Outline
import Derived.WalkKit
import Derived.WalkLawsBesides
import Derived.WalkSpells
import Derived.Test.YtfmgkndljppffaaT0
namespace Go.Proofs.Ytfmgkndljppffaa
open Go.RowKit

theorem ret2 {k l : IntKind} {a b c d : Int} (h : a = b) (g : c = d) : Ending.returned (.tuple #[.int k a, .int l c]) = .returned (.tuple #[.int k b, .int l d]) := by rw [h, g]
theorem ret_int {k : IntKind} {a b : Int} (h : a = b) : Ending.returned (.int k a) = .returned (.int k b) := by rw [h]
theorem ret_bool {a b : Bool} (h : a = b) : Ending.returned (.bool a) = .returned (.bool b) := by rw [h]
theorem ret_ib {a b : Int} {c d : Bool} (h : a = b) (g : c = d) : Ending.returned (.tuple #[.int .i64 a, .bool c]) = .returned (.tuple #[.int .i64 b, .bool d]) := by rw [h, g]

theorem lead_any (b : Int) (w : World) (h0 : 0 ≤ b) (hb : b < 256) :
    Calls Try.prog 67 #[.int .i64 b] w fun e w' => e = .returned (.tuple #[.int .i64 (leadN b), .int .i64 (leadB b)]) ∧ w = w' := by
  by_cases h1 : b < 128
  · go_enter Try.func67, Try.ntmps67
    go_wp2
    go_ret2
    exact ⟨ret2 (by unfold leadN; rw [if_pos (by omega)]; rfl) (by unfold leadB; rw [if_pos (by omega)]), rfl⟩
  by_cases h2 : b < 192
  · go_enter Try.func67, Try.ntmps67
    go_wp2
    go_ret2
    exact ⟨ret2 (by unfold leadN; rw [if_neg (by omega)]; rw [if_pos (by omega)]; rfl) (by unfold leadB; rw [if_neg (by omega)]; rw [if_pos (by omega)]), rfl⟩
  by_cases h3 : b < 224
  · go_enter Try.func67, Try.ntmps67
    go_wp2
    go_ret2
    exact ⟨ret2 (by unfold leadN; rw [if_neg (by omega)]; rw [if_neg (by omega)]; rw [if_pos (by omega)]; rfl) (by rw [and31 _ (by omega) (by omega)]; unfold leadB; rw [if_neg (by omega)]; rw [if_neg (by omega)]; rw [if_pos (by omega)]), rfl⟩
  by_cases h4 : b < 240
  · go_enter Try.func67, Try.ntmps67
    go_wp2
    go_ret2
    exact ⟨ret2 (by unfold leadN; rw [if_neg (by omega)]; rw [if_neg (by omega)]; rw [if_neg (by omega)]; rw [if_pos (by omega)]; rfl) (by rw [and15 _ (by omega) (by omega)]; unfold leadB; rw [if_neg (by omega)]; rw [if_neg (by omega)]; rw [if_neg (by omega)]; rw [if_pos (by omega)]), rfl⟩
  by_cases h5 : b < 248
  · go_enter Try.func67, Try.ntmps67
    go_wp2
    go_ret2
    exact ⟨ret2 (by unfold leadN; rw [if_neg (by omega)]; rw [if_neg (by omega)]; rw [if_neg (by omega)]; rw [if_neg (by omega)]; rw [if_pos (by omega)]; rfl) (by rw [and7 _ (by omega) (by omega)]; unfold leadB; rw [if_neg (by omega)]; rw [if_neg (by omega)]; rw [if_neg (by omega)]; rw [if_neg (by omega)]; rw [if_pos (by omega)]), rfl⟩
  · go_enter Try.func67, Try.ntmps67
    go_wp2
    go_ret2
    exact ⟨ret2 (by unfold leadN; rw [if_neg (by omega), if_neg (by omega), if_neg (by omega), if_neg (by omega), if_neg (by omega)]; rfl) (by unfold leadB; rw [if_neg (by omega), if_neg (by omega), if_neg (by omega), if_neg (by omega), if_neg (by omega)]), rfl⟩

theorem isPoint_any (p : Int) (w : World) :
    Calls Try.prog 68 #[.int .i64 p] w fun e w' => e = .returned (.bool (isPt p)) ∧ w = w' := by
  go_enter Try.func68, Try.ntmps68
  go_wp2
  all_goals
    go_ret
    refine ⟨ret_bool ?_, rfl⟩
    unfold isPt
    rw [Bool.eq_iff_iff]
    simp only [Bool.or_eq_true, decide_eq_true_eq, true_iff, Bool.false_eq_true, false_iff]
    omega
theorem sizeOf_any (p : Int) (w : World) :
    Calls Try.prog 69 #[.int .i64 p] w fun e w' => e = .returned (.int .i64 (szOf p)) ∧ w = w' := by
  by_cases h1 : p < 128
  · go_enter Try.func69, Try.ntmps69
    go_wp2
    go_ret
    exact ⟨ret_int (by unfold szOf; rw [if_pos h1]), rfl⟩
  by_cases h2 : p < 2048
  · go_enter Try.func69, Try.ntmps69
    go_wp2
    go_ret
    exact ⟨ret_int (by unfold szOf; rw [if_neg (by omega), if_pos h2]), rfl⟩
  by_cases h3 : p < 65536
  · go_enter Try.func69, Try.ntmps69
    go_wp2
    go_ret
    exact ⟨ret_int (by unfold szOf; rw [if_neg (by omega), if_neg (by omega), if_pos h3]), rfl⟩
  · go_enter Try.func69, Try.ntmps69
    go_wp2
    go_ret
    exact ⟨ret_int (by unfold szOf; rw [if_neg (by omega), if_neg (by omega), if_neg (by omega)]), rfl⟩

theorem next_yes (s : ByteArray) (i : Nat) (v : Int) (w : World) (pa ps : Addr) (hv : v = i) (ha : w.cell? pa = some (.int .i64 v)) (hs : w.cell? ps = some (.string s)) (hf : w.frozen? pa = false) (hlt : i < s.size) (hm : s.size ≤ maxLen) :
    Calls Try.prog 71 #[.pointer (some pa), .pointer (some ps)] w fun e w' => e = .returned (.tuple #[.int .i64 (byt s i), .bool true]) ∧ w.setCell pa (.int .i64 (v + 1)) = w' := by
  subst hv
  unfold maxLen at hm
  go_enter Try.func71, Try.ntmps71
  go_wp2
  go_ret2
  exact ⟨ret_ib (by rw [byt_eq]; have := byt_range s i; unfold wrap64; omega) rfl, rfl⟩
theorem next_no (s : ByteArray) (i : Nat) (v : Int) (w : World) (pa ps : Addr) (hv : v = i) (ha : w.cell? pa = some (.int .i64 v)) (hs : w.cell? ps = some (.string s)) (hlt : s.size ≤ i) :
    Calls Try.prog 71 #[.pointer (some pa), .pointer (some ps)] w fun e w' => e = .returned (.tuple #[.int .i64 0, .bool false]) ∧ w = w' := by
  subst hv
  go_enter Try.func71, Try.ntmps71
  go_wp2
  go_ret2
  exact ⟨rfl, rfl⟩
theorem walk_any (s : ByteArray) (i : Nat) (w : World) :
    Calls Try.prog 66 #[.string s, .int .i64 i] w fun e w' => e = .returned (.func (.func 71) #[] #[.pointer (some ⟨w.heap.size + 1, 0, none⟩), .pointer (some ⟨w.heap.size, 0, none⟩)]) ∧ (w.alloc (.cells #[.string s] 9)).alloc (.cells #[.int .i64 i] 3) = w' := by
  go_enter Try.func66, Try.ntmps66
  go_wp2
  go_ret
  exact ⟨rfl, rfl⟩

/-- A step of the loop: the new number, as the walk has it. -/
theorem acc_step (s : ByteArray) (a : Nat) (p : Int) (k : Nat) (h0 : 0 ≤ acc s a p k) (h1 : acc s a p k < 33554432) :
    bits .or .i64 (acc s a p k * 64) (bits .and .i64 (byt s (a + k)) 63) = acc s a p (k + 1) := by
  have hb := byt_range s (a + k)
  rw [and63 _ hb.1 (by omega), or6 _ _ h0 (by omega) (by omega) (by omega)]
  rfl
theorem dec_no {s : ByteArray} {a : Nat} (h : decIs s a = false) : decP s a = 0 ∧ decN s a = 0 := by simp [decP, decN, h]
theorem dec_yes {s : ByteArray} {a : Nat} (h : decIs s a = true) : decP s a = acc s (a + 1) (leadB (byt s a)) (leadN (byt s a) - 1) ∧ decN s a = leadN (byt s a) := by simp [decP, decN, h]
theorem conts_mono (s : ByteArray) (a : Nat) : ∀ k j, j ≤ k → conts s a k = true → conts s a j = true := by
  intro k
  induction k with
  | zero => intro j hj h; rw [Nat.le_zero.1 hj]; exact h
  | succ k ih =>
    intro j hj h
    by_cases e : j = k + 1
    · rw [e]; exact h
    · simp only [conts, Bool.and_eq_true] at h
      exact ih j (by omega) h.1
/-- A byte among the continuing ones that continues nothing: none begins. -/
theorem dec_bad {s : ByteArray} {a j : Nat} (hj : j + 1 < leadN (byt s a)) (h : ¬ (a + 1 + j < s.size ∧ 128 ≤ byt s (a + 1 + j) ∧ byt s (a + 1 + j) < 192)) : decIs s a = false := by
  by_cases hc : conts s (a + 1) (leadN (byt s a) - 1) = true
  · have := conts_mono s (a + 1) _ (j + 1) (by omega) hc
    simp only [conts, Bool.and_eq_true, decide_eq_true_eq] at this
    exact absurd this.2 h
  · simp [decIs, hc]

set_option maxHeartbeats 1000000 in
theorem decode_any (s : ByteArray) (a : Nat) (w : World) (hs : s.size ≤ maxLen) (ha : a < s.size) :
    Calls Try.prog 63 #[.string s, .int .i64 a] w fun e w' => e = .returned (.tuple #[.int .i64 (decP s a), .int .i64 (decN s a)]) ∧ Below w.heap.size w w' := by
  have hm := hs
  unfold maxLen at hm
  have hb := byt_range s a
  have hL := leadN_le (byt s a)
  have hB := leadB_range (byt s a) hb.1 hb.2
  obtain ⟨n, hn⟩ : ∃ n, n = leadN (byt s a) := ⟨_, rfl⟩
  obtain ⟨q, hq⟩ : ∃ q, q = leadB (byt s a) := ⟨_, rfl⟩
  have Hn := Lib.hid hn
  have Hq := Lib.hid hq
  have hrng := Lib.hid (acc_range s (a + 1) (leadB (byt s a)) hB.1 hB.2)
  clear hB
  rw [← hn] at hL
  have hbad : ∀ j, j + 1 < n → ¬ (a + 1 + j < s.size ∧ 128 ≤ byt s (a + 1 + j) ∧ byt s (a + 1 + j) < 192) → decIs s a = false := fun j h1 h2 => dec_bad (by rw [← hn]; exact h1) h2
  have Hbad := Lib.hid hbad
  clear hn hq hbad
  go_enter Try.func63, Try.ntmps63
  go_wp2_with fail
  refine (walk_any s a _).mono ?_
  rintro e w' ⟨rfl, rfl⟩
  go_wp2_with fail
  refine (next_yes s a _ _ ⟨w.heap.size + 1, 0, none⟩ ⟨w.heap.size, 0, none⟩ rfl (by simp) (by simp) (by simp) ha hs).mono ?_
  rintro e w' ⟨rfl, rfl⟩
  go_wp2_with fail
  refine (lead_any _ _ hb.1 hb.2).mono ?_
  rintro e w' ⟨rfl, rfl⟩
  rw [← Hn.out, ← Hq.out]
  go_wp2_with fail
  go_loopw [4, 5, 9] (fun p z i wr => ∃ j : Nat, j ≤ n - 1 ∧ z = .int .i64 n ∧ i = .int .i64 ((j : Int) + 1) ∧ p = .int .i64 (acc s (a + 1) q j) ∧ conts s (a + 1) j = true ∧ wr = (w.alloc (.cells #[.string s] 9)).alloc (.cells #[.int .i64 ((a : Int) + 1 + j)] 3)) (fun _ _ i _ => 5 - (intOf i).toNat)
  case atStart => exact ⟨0, by omega, rfl, rfl, rfl, rfl, by simp⟩
  case round =>
    obtain ⟨j, hj, rfl, rfl, rfl, hc, rfl⟩ := hrel
    have Hc := Lib.hid hc
    clear hc
    by_cases hlt : j + 1 < n
    · by_cases hin : a + 1 + j < s.size
      · have hbj := byt_range s (a + 1 + j)
        go_wp2_with fail
        refine (next_yes s (a + 1 + j) ((a : Int) + 1 + j) _ ⟨w.heap.size + 1, 0, none⟩ ⟨w.heap.size, 0, none⟩ (by omega) (by simp) (by simp) (by simp) hin hs).mono ?_
        rintro e w' ⟨rfl, rfl⟩
        have ht := cont_test _ hbj.1 hbj.2
        by_cases hcc : 128 ≤ byt s (a + 1 + j) ∧ byt s (a + 1 + j) < 192
        · rw [decide_eq_true hcc] at ht
          simp only [Bool.not_true] at ht
          have Hcc := Lib.hid hcc
          clear hcc
          have hr := (hrng.out j (by omega))
          rw [← Hq.out] at hr
          have hr0 := hr.1
          have hr1 := hr.2
          clear hr
          have hst := Lib.hid (acc_step s (a + 1) q j hr0 hr1)
          go_wp2_with fail
          go_roundw
          case rel =>
            refine ⟨j + 1, by omega, rfl, by go_num, ?_, ?_, ?_⟩
            · rw [← hst.out]
            · simp only [conts, Hc.out, Bool.true_and, decide_eq_true_eq]; exact ⟨hin, Hcc.out⟩
            · rw [show ((a : Int) + 1 + ((j + 1 : Nat) : Int)) = (a : Int) + 1 + j + 1 from by omega]
          case measure => simp [intOf]; omega
        · rw [decide_eq_false hcc] at ht
          simp only [Bool.not_false] at ht
          have hz := Hbad.out j hlt (fun h => hcc ⟨h.2.1, h.2.2⟩)
          have Hz := Lib.hid (dec_no hz)
          clear hz hcc
          go_wp2_with fail
          go_ret2
          exact ⟨ret2 Hz.out.1.symm Hz.out.2.symm, ((Below.refl _ _).alloc (Nat.le_refl _) _).alloc (by simp) _⟩
      · have hz := Hbad.out j hlt (fun h => hin h.1)
        have Hz := Lib.hid (dec_no hz)
        clear hz
        go_wp2_with fail
        refine (next_no s (a + 1 + j) ((a : Int) + 1 + j) _ ⟨w.heap.size + 1, 0, none⟩ ⟨w.heap.size, 0, none⟩ (by omega) (by simp) (by simp) (by omega)).mono ?_
        rintro e w' ⟨rfl, rfl⟩
        go_wp2_with fail
        go_ret2
        exact ⟨ret2 Hz.out.1.symm Hz.out.2.symm, ((Below.refl _ _).alloc (Nat.le_refl _) _).alloc (by simp) _⟩
    · by_cases hn0 : n = 0
      · subst hn0
        have hz : decIs s a = false := by unfold decIs; rw [← Hn.out]; rfl
        have Hz := Lib.hid (dec_no hz)
        clear hz
        go_wp2_with fail
        go_ret2
        exact ⟨ret2 Hz.out.1.symm Hz.out.2.symm, ((Below.refl _ _).alloc (Nat.le_refl _) _).alloc (by simp) _⟩
      · have ej : j = n - 1 := by omega
        have hd : decIs s a = (isPt (acc s (a + 1) q j) && decide (szOf (acc s (a + 1) q j) = (n : Int))) := by
          unfold decIs
          rw [← Hn.out, ← Hq.out, ← ej, Hc.out]
          simp [hn0]
        have HD := Lib.hid hd
        have EJ := Lib.hid ej
        have z0 : ((n : Int) == 0) = false := by simp; omega
        clear hd ej
        cases hp : isPt (acc s (a + 1) q j)
        · have HP := Lib.hid hp
          have Hz := Lib.hid (dec_no (s := s) (a := a) (by rw [HD.out, hp]; rfl))
          clear hp
          go_wp2_with fail
          refine (isPoint_any _ _).mono ?_
          rintro e w' ⟨rfl, rfl⟩
          rw [HP.out]
          go_wp2_with fail
          go_ret2
          exact ⟨ret2 Hz.out.1.symm Hz.out.2.symm, ((Below.refl _ _).alloc (Nat.le_refl _) _).alloc (by simp) _⟩
        · by_cases hsz : szOf (acc s (a + 1) q j) = (n : Int)
          · have HP := Lib.hid hp
            have Hy := Lib.hid (dec_yes (s := s) (a := a) (by rw [HD.out, hp, hsz]; simp))
            have hsz2 : (szOf (acc s (a + 1) q j) != (n : Int)) = false := by simp [hsz]
            clear hp hsz
            go_wp2_with fail
            refine (isPoint_any _ _).mono ?_
            rintro e w' ⟨rfl, rfl⟩
            rw [HP.out]
            go_wp2_with fail
            refine (sizeOf_any _ _).mono ?_
            rintro e w' ⟨rfl, rfl⟩
            go_wp2_with fail
            go_ret2
            exact ⟨ret2 (by rw [Hy.out.1, ← Hn.out, ← Hq.out, ← EJ.out]) (by rw [Hy.out.2, ← Hn.out]), ((Below.refl _ _).alloc (Nat.le_refl _) _).alloc (by simp) _⟩
          · have HP := Lib.hid hp
            have Hz := Lib.hid (dec_no (s := s) (a := a) (by rw [HD.out, hp]; simp [hsz]))
            have hsz2 : (szOf (acc s (a + 1) q j) != (n : Int)) = true := by simp [hsz]
            clear hp hsz
            go_wp2_with fail
            refine (isPoint_any _ _).mono ?_
            rintro e w' ⟨rfl, rfl⟩
            rw [HP.out]
            go_wp2_with fail
            refine (sizeOf_any _ _).mono ?_
            rintro e w' ⟨rfl, rfl⟩
            go_wp2_with fail
            go_ret2
            exact ⟨ret2 Hz.out.1.symm Hz.out.2.symm, ((Below.refl _ _).alloc (Nat.le_refl _) _).alloc (by simp) _⟩
theorem check_any (s : ByteArray) (w : World) (hs : s.size ≤ maxLen) :
    Calls Try.prog 54 #[.string s] w fun e w' => e = .returned (.int .i64 (ckE s)) ∧ Below w.heap.size w w' := by
  have hm := hs
  unfold maxLen at hm
  by_cases hbig : 16384 < s.size
  · have hc := Lib.hid (show ckE s = 4 by unfold ckE; rw [if_pos hbig])
    go_enter Try.func54, Try.ntmps54
    go_wp2_with fail
    go_ret
    exact ⟨ret_int hc.out.symm, Below.refl _ _⟩
  · have hc := Lib.hid (show ckE s = if isTx s then 0 else 10 by unfold ckE; rw [if_neg hbig])
    go_enter Try.func54, Try.ntmps54
    go_wp2_with fail
    go_loopw [2, 3] (fun _ i wr => ∃ f a : Nat, s.size - a ≤ f ∧ a ≤ s.size ∧ i = .int .i64 a ∧ txF s f a = isTx s ∧ Below w.heap.size w wr) (fun _ i _ => s.size - (intOf i).toNat)
    case atStart => exact ⟨s.size, 0, by omega, by omega, rfl, rfl, Below.refl _ _⟩
    case round =>
      obtain ⟨f, a, hf, ha, rfl, ht, hb⟩ := hrel
      by_cases hlt : a < s.size
      · rw [txF_step hlt hf] at ht
        rcases decN_eq s a with ⟨hd, hN, h0⟩ | ⟨hd, hN, _⟩
        · have hin := dec_in hlt hd
          rw [hd, Bool.true_and] at ht
          have HT := Lib.hid ht
          have HN := Lib.hid hN
          have hz : ((leadN (byt s a) : Int) == 0) = false := by simp; omega
          clear ht hN hd
          go_wp2_with fail
          refine (decode_any s a _ hs hlt).mono ?_
          rintro e w' ⟨rfl, hb'⟩
          rw [HN.out]
          go_wp2_with fail
          go_roundw
          case rel => exact ⟨f - 1, a + leadN (byt s a), by omega, hin, by go_num, HT.out, hb.trans (hb'.mono hb.size)⟩
          case measure => simp [intOf]; omega
        · rw [hd, Bool.false_and] at ht
          have HC : Hid (ckE s = 10) := Lib.hid (by rw [hc.out, ← ht]; rfl)
          have HN := Lib.hid hN
          clear ht hN hd
          go_wp2_with fail
          refine (decode_any s a _ hs hlt).mono ?_
          rintro e w' ⟨rfl, hb'⟩
          rw [HN.out]
          go_wp2_with fail
          go_ret
          exact ⟨ret_int HC.out.symm, hb.trans (hb'.mono hb.size)⟩
      · rw [txF_end (by omega)] at ht
        have HC : Hid (ckE s = 0) := Lib.hid (by rw [hc.out, ← ht]; rfl)
        clear ht
        go_wp2_with fail
        go_ret
        exact ⟨ret_int HC.out.symm, hb⟩

end Go.Proofs.Ytfmgkndljppffaa
