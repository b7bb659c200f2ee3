/- Layer 3: two cells against each other; two rows. -/
import Derived.Test.YtfmgkndljppffaaD4
import Derived.Laws.StructEq
namespace Go.Proofs.Ytfmgkndljppffaa
open Go.RowKit Go.Maps
deriving instance DecidableEq for CR
theorem cell_dec (k1 k2 : Nat) (a1 a2 b1 b2 : ByteArray) (n1 n2 m1 m2 : Int) : decide ((⟨k1, a1, b1, n1, m1⟩ : CR) = ⟨k2, a2, b2, n2, m2⟩) = (decide ((k1 : Int) = k2) && (decide (a1 = a2) && (decide (b1 = b2) && (decide (n1 = n2) && decide (m1 = m2))))) := by
  rw [Bool.eq_iff_iff]
  simp only [decide_eq_true_eq, Bool.and_eq_true, CR.mk.injEq]
  constructor
  · rintro ⟨h1, h2, h3, h4, h5⟩; exact ⟨by omega, h2, h3, h4, h5⟩
  · rintro ⟨h1, h2, h3, h4, h5⟩; exact ⟨by omega, h2, h3, h4, h5⟩
theorem neq_cell (c d : CR) (w : World) : (binOp .neq 32 (cv c) (cv d)).run Try.prog w = .ok (.bool !(decide (c = d))) w := by
  obtain ⟨k1, a1, b1, n1, m1⟩ := c
  obtain ⟨k2, a2, b2, n2, m2⟩ := d
  rw [cell_dec]
  unfold cv
  have a3 := Try.isAgg5
  have a4 := Try.isAgg9
  have a5 := Try.isAgg2
  have a6 := Try.isAgg3
  have z3 := Try.sizeOf5
  have z4 := Try.sizeOf9
  have z5 := Try.sizeOf2
  have z6 := Try.sizeOf3
  have u3 := Try.underlying5
  have u4 := Try.underlying9
  have u5 := Try.underlying2
  have u6 := Try.underlying3
  have hS : Try.prog.underlying 32 = some (.struct (Try.prog.fieldsOf 32)) := by kernel_rfl
  have hp : Try.prog.stoodInHeld 32 = false := by kernel_rfl
  rw [run_neq_struct, show (10000 : Nat) = 9999 + 1 from rfl, run_equalIn_agg w 9999 32 _ _ hS hp]
  simp only [Program.fieldsOf, Try.underlying32]
  have e1 : (a1.toList == a2.toList) = decide (a1 = a2) := str_is
  have e2 : (b1.toList == b2.toList) = decide (b1 = b2) := str_is
  go_simp
  by_cases h1 : (k1 : Int) = k2 <;> by_cases h2 : a1 = a2 <;> by_cases h3 : b1 = b2 <;> by_cases h4 : n1 = n2 <;> by_cases h5 : m1 = m2 <;> simp [h1, h2, h3, h4, h5, e1, e2]
/-- Are two rows the same? -/
def smB (g1 : Nat → CR) (n1 : Nat) (g2 : Nat → CR) (n2 : Nat) : Bool := decide (n1 = n2) && (List.range n1).all fun i => decide (g1 i = g2 i)
theorem sm_no {g1 g2 : Nat → CR} {n i : Nat} (hi : i < n) (h : g1 i ≠ g2 i) : smB g1 n g2 n = false := by
  unfold smB
  rw [Bool.and_eq_false_iff]
  refine .inr (List.all_eq_false.2 ⟨i, List.mem_range.2 hi, by simpa using h⟩)
theorem sm_yes {g1 g2 : Nat → CR} {n : Nat} (h : ∀ j, j < n → g1 j = g2 j) : smB g1 n g2 n = true := by
  unfold smB
  rw [Bool.and_eq_true]
  exact ⟨by simp, List.all_eq_true.2 fun i hi => by simpa using h i (List.mem_range.1 hi)⟩
theorem sm_lists {L M : List CR} (h : L = M) : smB (gl L) L.length (gl M) M.length = true := by subst h; exact sm_yes fun _ _ => rfl
theorem sm_eq {g1 g2 : Nat → CR} {n1 n2 : Nat} (h : smB g1 n1 g2 n2 = true) : n1 = n2 ∧ ∀ i, i < n1 → g1 i = g2 i := by
  unfold smB at h
  simp only [Bool.and_eq_true, decide_eq_true_eq, List.all_eq_true, List.mem_range] at h
  exact h
set_option maxRecDepth 20000 in
set_option maxHeartbeats 1000000 in
theorem rsame_any (a1 a2 : Option Addr) (n1 n2 c1 c2 : Nat) (g1 g2 : Nat → CR) (w : World) (hv1 : CV w a1 n1 g1) (hv2 : CV w a2 n2 g2) (hn : n1 ≤ maxLen) : Calls Try.prog 21 #[.slice a1 n1 c1, .slice a2 n2 c2] w fun r w' => r = .returned (.bool (smB g1 n1 g2 n2)) ∧ Below w.heap.size w w' := by
  unfold maxLen at hn
  obtain ⟨x, hx⟩ : ∃ x, x = smB g1 n1 g2 n2 := ⟨_, rfl⟩
  rw [← hx]
  replace hx := Lib.hid hx
  by_cases he : n1 = n2
  · subst he
    have HV1 := Lib.hid hv1
    have HV2 := Lib.hid hv2
    clear hv1 hv2
    have hn' : (n1 : Int) ≤ 9223372036854775807 := by omega
    have hne : ((n1 : Int) != n1) = false := by simp
    go_enter Try.func21, Try.ntmps21
    go_wp2_with fail
    go_loopw [5] (fun v5 wr => ∃ i : Nat, i ≤ n1 ∧ v5 = .int .i64 i ∧ Hid (∀ j, j < i → g1 j = g2 j) ∧ Hid (Below w.heap.size w wr)) (fun v5 _ => n1 - (intOf v5).toNat)
    case atStart => exact ⟨0, Nat.zero_le _, rfl, Lib.hid (fun j hj => by omega), Lib.hid (Below.refl _ _)⟩
    case round =>
      obtain ⟨i, hi, rfl, HN, HB⟩ := hrel
      by_cases h1 : i < n1
      · obtain ⟨b, off, rfl⟩ := HV1.out.addr (by omega)
        obtain ⟨b', off', rfl⟩ := HV2.out.addr (by omega)
        obtain ⟨_, d0, d1, d2, d3, d4⟩ := (HV1.out.below HB.out).at_ h1
        obtain ⟨_, e0, e1, e2, e3, e4⟩ := (HV2.out.below HB.out).at_ h1
        have hg1 : (i : Int) < n1 := by omega
        have hg0 : (0 : Int) ≤ i := by omega
        obtain ⟨c, hc⟩ : ∃ c, c = g1 i := ⟨_, rfl⟩
        obtain ⟨d, hd⟩ : ∃ d, d = g2 i := ⟨_, rfl⟩
        rw [← hc] at d0 d1 d2 d3 d4
        rw [← hd] at e0 e1 e2 e3 e4
        have hq := neq_cell c d
        unfold cv at hq
        have hgd : ∀ (op : BinOp) (x y : Operand) (xs ys : Array Value) (W : World), (eqGuard op 32 x y (.agg xs) (.agg ys)).run Try.prog W = .ok () W := fun op x y xs ys W => run_eqGuard_agg W op _ x y xs ys (by kernel_rfl)
        by_cases hcd : c = d
        · have HN2 : Hid (∀ j, j < i + 1 → g1 j = g2 j) := Lib.hid (fun j hj => by
            by_cases e : j = i
            · subst e; rw [← hc, ← hd]; exact hcd
            · exact HN.out j (by omega))
          rw [decide_eq_true hcd] at hq
          clear HN hc hd hcd
          go_wp2_with fail
          go_quiet (fail)
          go_wp2_with fail
          go_roundw
          case rel => exact ⟨i + 1, by omega, by go_num, HN2, Lib.hid ⟨HB.out.os, HB.out.tape, HB.out.output, HB.out.size, HB.out.block⟩⟩
          case measure => simp [intOf]; omega
        · have HX : Hid (x = false) := Lib.hid (by rw [hx.out]; exact sm_no h1 (by rw [← hc, ← hd]; exact hcd))
          rw [decide_eq_false hcd] at hq
          clear HN hc hd hcd
          go_wp2_with fail
          go_quiet (fail)
          go_wp2_with fail
          go_ret
          exact ⟨ret_bool HX.out.symm, ⟨HB.out.os, HB.out.tape, HB.out.output, HB.out.size, HB.out.block⟩⟩
      · have e1 : i = n1 := by omega
        subst e1
        have HX : Hid (x = true) := Lib.hid (by rw [hx.out]; exact sm_yes HN.out)
        have hg1 : ¬ (i : Int) < i := by omega
        clear HN
        go_wp2_with fail
        go_ret
        exact ⟨ret_bool HX.out.symm, HB.out⟩
  · have HX : Hid (x = false) := Lib.hid (by rw [hx.out]; unfold smB; rw [decide_eq_false he]; rfl)
    have hne : ((n1 : Int) != n2) = true := by simp; omega
    have hne2 : ((n1 : Int) == n2) = false := by rw [beq_eq_false_iff_ne]; omega
    clear he
    go_enter Try.func21, Try.ntmps21
    go_wp2_with fail
    go_ret
    exact ⟨ret_bool HX.out.symm, Below.refl _ _⟩
end Go.Proofs.Ytfmgkndljppffaa
