import Derived.Test.YtcnafgelfkfekaaE0
import Derived.Deep.LoopGhost
import Derived.Test.YtcnafgelfkfekaaPlain
namespace Go.Proofs.Ytcnafgelfkfekaa
open Go.RowKit

/-- A slice of strings that can be read. -/
def SView (w : World) (a : Option Addr) (len : Nat) (L : List ByteArray) : Prop :=
  L.length = len ∧ ∀ k, k < len → ∃ b off, a = some ⟨b, off, none⟩ ∧ b < w.heap.size ∧ w.cell? ⟨b, off + k, none⟩ = some (.string (nth L k))
theorem SView.below {w w' : World} {a : Option Addr} {len : Nat} {L : List ByteArray} (h : SView w a len L) (hb : Below w.heap.size w w') : SView w' a len L := by
  refine ⟨h.1, fun k hk => ?_⟩
  obtain ⟨b, off, he, hlt, hx⟩ := h.2 k hk
  exact ⟨b, off, he, Nat.lt_of_lt_of_le hlt hb.size, (hb.cell (p := ⟨b, off + k, none⟩) hlt).trans hx⟩
theorem cmp_any (a b : ByteArray) (w : World) : Calls Try.prog 12 #[.string a, .string b] w fun e w' => e = .returned (.int .i64 (cmpB a b)) ∧ w = w' := compare_any a b w
theorem cmp_same (a b : ByteArray) (w : World) : Calls Try.prog 12 #[.string a, .string b] w fun e w' => e = .returned (.int .i64 (cmpB a b)) ∧ w' = w := (compare_any a b w).mono fun _ _ h => ⟨h.1, h.2.symm⟩
theorem check_any (a : Option Addr) (len cap : Nat) (L : List ByteArray) (w : World) (hv : SView w a len L) :
    Calls Try.prog 14 #[.slice a len cap] w fun e w' => e = .returned (.int .i64 (chE L)) ∧ Below w.heap.size w w' := by
  obtain ⟨hL, hc⟩ := hv
  by_cases h1 : 4096 < len
  · have hE := Lib.hid (show chE L = 8 by unfold chE; rw [if_pos (by omega)])
    clear hc hL
    go_enter Try.func14, Try.ntmps14
    go_wp2_with fail
    go_ret
    exact ⟨ret_int hE.out.symm, Below.refl _ _⟩
  by_cases hz : len ≤ 1
  · have hE := Lib.hid (show chE L = 0 by unfold chE; rw [if_neg (by omega), show L.length - 1 = 0 by omega]; rfl)
    clear hc hL
    go_enter Try.func14, Try.ntmps14
    go_wp2_with fail
    refine wp_loop_rounds 1 ?_
    rw [rounds_succ]
    go_wp2_with fail
    go_ret
    exact ⟨ret_int hE.out.symm, Below.refl _ _⟩
  · obtain ⟨b, off, rfl, hxb, _⟩ := hc 0 (by omega)
    have HC : Hid (∀ k, k < len → w.cell? ⟨b, off + k, none⟩ = some (.string (nth L k))) := Lib.hid (fun k hk => by
      obtain ⟨b', off', he, _, hx⟩ := hc k hk
      simp only [Option.some.injEq, Addr.mk.injEq, and_true] at he
      obtain ⟨rfl, rfl⟩ := he
      exact hx)
    have HG : Hid (rises L (len - 1) = true → chE L = 0) := Lib.hid (fun h => by unfold chE; rw [if_neg (by omega), hL, h]; rfl)
    have HN : Hid (rises L (len - 1) = false → chE L = 8) := Lib.hid (fun h => by unfold chE; rw [if_neg (by omega), hL, h]; rfl)
    clear hc hL
    go_enter Try.func14, Try.ntmps14
    go_wp2_with fail
    go_loopw [3] (fun i wr => ∃ k : Nat, k + 1 ≤ len ∧ i = .int .i64 ((k : Int) + 1) ∧ rises L k = true ∧ Below w.heap.size w wr) (fun i _ => len - (intOf i).toNat)
    case atStart => exact ⟨0, by omega, rfl, rfl, Below.refl _ _⟩
    case round =>
      obtain ⟨k, hk, rfl, hr, hb⟩ := hrel
      by_cases hlt : k + 1 < len
      · have c0 := (hb.cell (p := ⟨b, off + k, none⟩) hxb).trans (HC.out k (by omega))
        have c1 := (hb.cell (p := ⟨b, off + (k + 1), none⟩) hxb).trans (HC.out (k + 1) hlt)
        obtain ⟨x, hx⟩ : ∃ x, x = nth L k := ⟨_, rfl⟩
        obtain ⟨y, hy⟩ : ∃ y, y = nth L (k + 1) := ⟨_, rfl⟩
        rw [← hx] at c0
        rw [← hy] at c1
        by_cases hlt2 : cmpB x y < 0
        · have HR : Hid (rises L (k + 1) = true) := Lib.hid (by simp only [rises, hr, ← hx, ← hy, Bool.true_and, decide_eq_true_eq]; exact hlt2)
          have hd : decide (0 ≤ cmpB x y) = false := by simp; omega
          have HB := Lib.hid hb
          clear hx hy hb hr hlt2
          have hk0 : k < len := by omega
          have hk2 : len ≤ 4096 := by omega
          have hw : IntKind.i64.wrap ((k : Int) + 1 - 1) = k := by rw [IntKind.wrap_i64]; omega
          go_wp2_with fail
          go_quiet (first | (go_at_call 12; exact Calls.quiet_of_same (cmp_same _ _ _)))
          go_wp2_with fail
          go_roundw
          case rel => exact ⟨k + 1, by omega, by go_num, HR.out, below_drewN HB.out _⟩
          case measure => simp [intOf]; omega
        · have HR : Hid (rises L (len - 1) = false) := Lib.hid (by
            cases hh : rises L (len - 1)
            · rfl
            · have := rises_le (j := k + 1) (by omega) hh
              simp only [rises, Bool.and_eq_true, decide_eq_true_eq, ← hx, ← hy] at this
              exact absurd this.2 hlt2)
          have hd : decide (0 ≤ cmpB x y) = true := by simp; omega
          have HB := Lib.hid hb
          clear hx hy hb hr hlt2
          have hk0 : k < len := by omega
          have hk2 : len ≤ 4096 := by omega
          have hw : IntKind.i64.wrap ((k : Int) + 1 - 1) = k := by rw [IntKind.wrap_i64]; omega
          go_wp2_with fail
          go_quiet (first | (go_at_call 12; exact Calls.quiet_of_same (cmp_same _ _ _)))
          go_wp2_with fail
          go_ret
          exact ⟨ret_int (HN.out HR.out).symm, below_drewN HB.out _⟩
      · obtain rfl : len = k + 1 := by omega
        have HB := Lib.hid hb
        have HR := Lib.hid hr
        clear hb hr
        go_wp2_with fail
        go_ret
        exact ⟨ret_int (HG.out HR.out).symm, HB.out⟩
end Go.Proofs.Ytcnafgelfkfekaa
