import Derived.Test.YtfphejndbnmfeaaDoorD29
import Derived.Test.YtfphejndbnmfeaaDoorD23
namespace Go.Proofs.YtfphejndbnmfeaaDoor
open Go.RowKit

def okA (s : ByteArray) : Bool := decide (20 ≤ s.size) && (bt s 4 == 45) && (bt s 7 == 45) && okMark s && (bt s 13 == 58) && (bt s 16 == 58)
def okB (s : ByteArray) : Bool := okN s 0 4 0 9999 && okN s 5 2 1 12 && okN s 8 2 1 (dim (numv s 0 4) (numv s 5 2)) && okN s 11 2 0 23 && okN s 14 2 0 59 && okN s 17 2 0 59
theorem fracE_ge (s : ByteArray) (p : Nat) : p ≤ fracE s p := by unfold fracE; split <;> omega
theorem offL_ge (s : ByteArray) (p : Nat) : 1 ≤ offL s p := by unfold offL; split <;> omega
theorem pOk_parts {s : ByteArray} (h : pOk s = true) : okA s = true ∧ okB s = true ∧ fracOk s 19 = true := by
  unfold pOk okDate okTime at h
  simp only [Bool.and_eq_true, decide_eq_true_iff] at h
  obtain ⟨⟨⟨⟨⟨⟨⟨⟨⟨⟨a1, a2⟩, a3⟩, a4⟩, a5⟩, b1⟩, ⟨⟨⟨c1, c2⟩, c3⟩, c4⟩, c5⟩, d1⟩, e1⟩, f1⟩, g1⟩ := h
  have h19 := fracE_ge s 19
  have h1 := offL_ge s (fracE s 19)
  refine ⟨?_, ?_, d1⟩
  · unfold okA
    rw [a2, a4, b1, c2, c4, decide_eq_true (show 20 ≤ s.size by omega)]; rfl
  · unfold okB
    rw [a1, a3, a5, c1, c3, c5]; rfl
theorem no_A {s : ByteArray} (h : okA s = false) : pOk s = false := by
  cases hp : pOk s with
  | false => rfl
  | true => rw [(pOk_parts hp).1] at h; cases h
theorem no_B {s : ByteArray} (h : okB s = false) : pOk s = false := by
  cases hp : pOk s with
  | false => rfl
  | true => rw [(pOk_parts hp).2.1] at h; cases h
theorem no_F {s : ByteArray} (h : fracOk s 19 = false) : pOk s = false := by
  cases hp : pOk s with
  | false => rfl
  | true => rw [(pOk_parts hp).2.2] at h; cases h
theorem bt_ext (s : ByteArray) (e i : Nat) (_ : e ≤ s.size) : bt (s.extract e s.size) i = bt s (e + i) := by
  have h : (s.extract e s.size).data.toList.drop i = s.data.toList.drop (e + i) := by
    rw [Lib.extract_from]
    show (s.data.toList.drop e).drop i = _
    rw [List.drop_drop]
  cases hd : s.data.toList.drop (e + i) with
  | nil => rw [hd] at h; rw [bt_end hd, bt_end h]
  | cons c R => rw [hd] at h; rw [(bt_drop hd).1, (bt_drop h).1]
theorem digs_ext (s : ByteArray) (e p k : Nat) (he : e ≤ s.size) : digs (s.extract e s.size) p k = digs s (e + p) k ∧ numv (s.extract e s.size) p k = numv s (e + p) k := by
  induction k with
  | zero => exact ⟨rfl, rfl⟩
  | succ k ih =>
    constructor
    · simp only [digs, ih.1, bt_ext s e _ he, Nat.add_assoc]
    · simp only [numv, ih.2, bt_ext s e _ he, Nat.add_assoc]
theorem offB_ext {s : ByteArray} {e : Nat} (he : e ≤ s.size) : offB (s.extract e s.size) = (offOk s e && decide (s.size = e + offL s e)) ∧ (offB (s.extract e s.size) = true → offV (s.extract e s.size) 0 = offV s e) := by
  have hz : (s.extract e s.size).size = s.size - e := by rw [ByteArray.size_extract]; omega
  have d1 := digs_ext s e 1 2 he
  have d4 := digs_ext s e 4 2 he
  have b0 : bt (s.extract e s.size) 0 = bt s e := bt_ext s e 0 he
  have b3 := bt_ext s e 3 he
  have o1 : okN (s.extract e s.size) 1 2 0 23 = okN s (e + 1) 2 0 23 := by unfold okN; rw [d1.1, d1.2]
  have o4 : okN (s.extract e s.size) 4 2 0 59 = okN s (e + 4) 2 0 59 := by unfold okN; rw [d4.1, d4.2]
  refine ⟨?_, ?_⟩
  · unfold offB offOk offL
    rw [hz, b0, b3, o1, o4]
    cases z : isZ (bt s e) with
    | true =>
      have h43 : (bt s e == 43 || bt s e == 45) = false := by
        unfold isZ at z
        rw [Bool.or_eq_true, beq_iff_eq, beq_iff_eq] at z
        rcases z with z | z <;> rw [z] <;> rfl
      rw [h43]
      simp only [Bool.and_true, Bool.and_false, Bool.false_and, Bool.or_false, Bool.true_or, Bool.true_and, if_true]
      by_cases g : s.size = e + 1
      · rw [decide_eq_true g]; simp; omega
      · rw [decide_eq_false g]; simp; omega
    | false =>
      simp only [Bool.and_false, Bool.false_or, Bool.false_eq_true, if_false]
      by_cases g : s.size = e + 6
      · have g' : (s.size - e == 6) = true := by simp; omega
        rw [decide_eq_true g, g', Bool.true_and, Bool.and_true]
        simp [Bool.and_comm, Bool.and_assoc, Bool.and_left_comm]
      · have g' : (s.size - e == 6) = false := by
          rw [beq_eq_false_iff_ne]
          intro h
          omega
        rw [decide_eq_false g, g']; simp
  · intro _
    unfold offV
    rw [b0, d1.2, d4.2, Nat.add_comm e 1, Nat.add_comm e 4]
theorem numR_nat {s : ByteArray} {p k lo hi : Nat} (h : okN s p k lo hi = true) : numR s p k = (numv s p k : Int) := by
  unfold numR; rw [(okN_lt h).1, if_pos rfl]
theorem numR_val {s : ByteArray} {p k n : Nat} (h : (n : Int) = numR s p k) : numv s p k = n := by
  unfold numR at h
  split at h <;> omega
theorem pOk_end {s : ByteArray} {v : Int} (hA : okA s = true) (hB : okB s = true) (hF : fracOk s 19 = true) (he : fracE s 19 ≤ s.size) (hv : offB (s.extract (fracE s 19) s.size) = true → 60 * v = offV (s.extract (fracE s 19) s.size) 0) :
    pOk s = (offB (s.extract (fracE s 19) s.size) && may (secS s) (fracV s 19)) ∧ (offB (s.extract (fracE s 19) s.size) = true → secS s = 86400 * (aheadS s : Int) + timeS s - 60 * v) := by
  obtain ⟨x1, x2⟩ := offB_ext he
  refine ⟨?_, fun h => by unfold secS; rw [hv h, x2 h]⟩
  rw [x1]
  unfold okA at hA
  unfold okB at hB
  simp only [Bool.and_eq_true] at hA hB
  obtain ⟨⟨⟨⟨⟨-, a2⟩, a4⟩, b1⟩, c2⟩, c4⟩ := hA
  obtain ⟨⟨⟨⟨⟨a1, a3⟩, a5⟩, c1⟩, c3⟩, c5⟩ := hB
  unfold pOk okDate okTime
  rw [a1, a2, a3, a4, a5, b1, c1, c2, c3, c4, c5, hF]
  simp [Bool.and_assoc]
theorem ret19 {Q : Ending → World → Prop} {tmps : Array Value} {w : World} {N : Nat} {a b c : Int} (h2 : tmps.getD 2 undef = .pointer (some ⟨N, 0, none⟩)) (h3 : tmps.getD 3 undef = .int .i64 c) (c0 : w.cell? ⟨N, 0, none⟩ = some (.int .i64 a)) (c1 : w.cell? ⟨N, 1, none⟩ = some (.int .i64 b))
    (hQ : Q (.returned (.tuple #[.agg #[.int .i64 a, .int .i64 b], .int .i64 c])) w) : bodyPost Tryd.prog Tryd.f19 Q .ret ⟨tmps, []⟩ w := by
  refine bodyPost_ret (v := .tuple #[.agg #[.int .i64 a, .int .i64 b], .int .i64 c]) ?_ rfl hQ
  rw [results_cell_tmp (p := 2) (u := 3) (ty := 23) Tryd.results19, h2, h3]
  simp [asAddr, Result.andThen, load_day c0 c1]
theorem roff_any (o : ByteArray) (w : World) (hs : o.size ≤ maxLen) : Calls Tryd.prog 47 #[.string o] w (OffR o w) := by
  by_cases h1 : o = ⟨#[90]⟩
  · exact roff_z o w (.inl h1)
  · by_cases h2 : o = ⟨#[122]⟩
    · exact roff_z o w (.inr h2)
    · exact roff_else o w hs h1 h2
theorem p_none2 {s : ByteArray} (h : pOk s = false) : pS s = 0 ∧ pN s = 0 ∧ pE s = 120 := by
  unfold pS pN pE
  rw [h]; exact ⟨rfl, rfl, rfl⟩
end Go.Proofs.YtfphejndbnmfeaaDoor
