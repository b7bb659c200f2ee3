import Derived.Test.YtcnafgelfkfekaaE5
namespace Go.Proofs.Ytcnafgelfkfekaa
open Go.RowKit

theorem ret_ib {a b : Int} {c d : Bool} (h : a = b) (g : c = d) : Ending.returned (.tuple #[.int .i64 a, .bool c]) = .returned (.tuple #[.int .i64 b, .bool d]) := by rw [h, g]
theorem ch_ok {L : List ByteArray} (h : chE L = 0) : L.length ≤ 4096 ∧ rises L (L.length - 1) = true := by
  unfold chE at h
  by_cases h1 : 4096 < L.length
  · rw [if_pos h1] at h; omega
  · rw [if_neg h1] at h
    refine ⟨by omega, ?_⟩
    cases hr : rises L (L.length - 1)
    · rw [hr] at h; simp at h
    · rfl
/-- Find, of a list that rises. -/
theorem findOf_any (a : Option Addr) (len cap : Nat) (L : List ByteArray) (s : ByteArray) (w : World) (hv : SView w a len L) (hc : chE L = 0) :
    Calls Try.prog 17 #[.slice a len cap, .string s] w fun e w' => (∃ (k : Nat) (is : Bool), e = .returned (.tuple #[.int .i64 (k : Int), .bool is]) ∧ At L s k is) ∧ Below w.heap.size w w' := by
  have HV := Lib.hid hv
  have HC := Lib.hid hc
  have HO := Lib.hid (ch_ok hc)
  have HL : Hid (L.length = len) := hv.1
  clear hv hc
  go_enter Try.func17, Try.ntmps17
  go_wp2_with fail
  refine (check_any _ len cap L _ HV.out).mono ?_
  rintro e w1 ⟨rfl, b1⟩
  rw [HC.out]
  go_wp2_with fail
  refine (find_any _ len cap L s _ (HV.out.below b1) (by rw [← HL.out]; exact HO.out.1) HO.out.2).mono ?_
  rintro e w2 ⟨⟨k, is, rfl, hat⟩, rfl⟩
  have HAT := Lib.hid hat
  clear hat
  go_wp2_with fail
  go_ret2
  exact ⟨⟨k, is, rfl, HAT.out⟩, b1⟩

def eqTo (L M : List ByteArray) : Nat → Bool
  | 0 => true
  | k + 1 => eqTo L M k && decide (nth L k = nth M k)
theorem eqTo_le {L M : List ByteArray} {j k : Nat} (hjk : j ≤ k) (h : eqTo L M k = true) : eqTo L M j = true := by
  induction k with
  | zero => obtain rfl : j = 0 := by omega
            exact h
  | succ k ih =>
    by_cases e : j = k + 1
    · subst e; exact h
    · simp only [eqTo, Bool.and_eq_true] at h
      exact ih (by omega) h.1
theorem eqTo_at {L M : List ByteArray} : ∀ k, eqTo L M k = true → ∀ j, j < k → nth L j = nth M j := by
  intro k
  induction k with
  | zero => intro _ j hj; omega
  | succ k ih =>
    intro h j hj
    simp only [eqTo, Bool.and_eq_true, decide_eq_true_eq] at h
    by_cases e : j = k
    · subst e; exact h.2
    · exact ih h.1 j (by omega)
theorem eqTo_all {L M : List ByteArray} (hl : L.length = M.length) (h : eqTo L M L.length = true) : L = M := by
  apply List.ext_getElem hl
  intro j h1 h2
  have := eqTo_at _ h j h1
  simpa [nth, List.getD, h1, h2] using this

theorem str_eq (x y : ByteArray) : (x.toList == y.toList) = decide (x = y) := by
  rw [ByteArray.toList_eq, ByteArray.toList_eq, Bool.eq_iff_iff]
  simp only [beq_iff_eq, decide_eq_true_eq]
  exact ⟨fun h => ByteArray.ext (Array.toList_inj.1 h), fun h => by rw [h]⟩
theorem str_ne {x y : ByteArray} (h : ¬ x = y) : (x.toList == y.toList) = false := by rw [str_eq]; simpa using h
theorem same_any (a1 a2 : Option Addr) (n1 n2 c1 c2 : Nat) (L M : List ByteArray) (w : World) (h1 : SView w a1 n1 L) (h2 : SView w a2 n2 M) (hm : n1 ≤ maxLen) :
    Calls Try.prog 13 #[.slice a1 n1 c1, .slice a2 n2 c2] w fun e w' => e = .returned (.bool (decide (L = M))) ∧ Below w.heap.size w w' := by
  unfold maxLen at hm
  by_cases hne : n1 = n2
  · subst hne
    by_cases h0 : n1 = 0
    · subst h0
      have hLM : Hid (L = M) := Lib.hid (by rw [List.length_eq_zero_iff.1 h1.1, List.length_eq_zero_iff.1 h2.1])
      clear h1 h2
      go_enter Try.func13, Try.ntmps13
      go_wp2_with fail
      refine wp_loop_rounds 1 ?_
      rw [rounds_succ]
      go_wp2_with fail
      go_ret
      exact ⟨ret_bool (by simp [hLM.out]), Below.refl _ _⟩
    · obtain ⟨hL, hc1⟩ := h1
      obtain ⟨hM, hc2⟩ := h2
      obtain ⟨b, off, rfl, hxb, _⟩ := hc1 0 (by omega)
      obtain ⟨b2, off2, rfl, hxb2, _⟩ := hc2 0 (by omega)
      have HC : Hid (∀ k, k < n1 → w.cell? ⟨b, off + k, none⟩ = some (.string (nth L k))) := Lib.hid (fun k hk => by
        obtain ⟨b', off', he, _, hx⟩ := hc1 k hk
        simp only [Option.some.injEq, Addr.mk.injEq, and_true] at he
        obtain ⟨rfl, rfl⟩ := he
        exact hx)
      have HC2 : Hid (∀ k, k < n1 → w.cell? ⟨b2, off2 + k, none⟩ = some (.string (nth M k))) := Lib.hid (fun k hk => by
        obtain ⟨b', off', he, _, hx⟩ := hc2 k hk
        simp only [Option.some.injEq, Addr.mk.injEq, and_true] at he
        obtain ⟨rfl, rfl⟩ := he
        exact hx)
      have HLM : Hid (eqTo L M n1 = true → L = M) := Lib.hid (fun h => eqTo_all (hL.trans hM.symm) (by rw [hL]; exact h))
      have HNE : Hid (∀ k, k < n1 → nth L k ≠ nth M k → L ≠ M) := Lib.hid (fun k _ h e => h (by rw [e]))
      clear hc1 hc2 hL hM
      go_enter Try.func13, Try.ntmps13
      go_wp2_with fail
      go_loopw [5] (fun i wr => ∃ k : Nat, k ≤ n1 ∧ i = .int .i64 k ∧ eqTo L M k = true ∧ Below w.heap.size w wr) (fun i _ => n1 - (intOf i).toNat)
      case atStart => exact ⟨0, by omega, rfl, rfl, Below.refl _ _⟩
      case round =>
        obtain ⟨k, hk, rfl, hq, hb⟩ := hrel
        by_cases hlt : k < n1
        · have k1 := (hb.cell (p := ⟨b, off + k, none⟩) hxb).trans (HC.out k hlt)
          have k2 := (hb.cell (p := ⟨b2, off2 + k, none⟩) hxb2).trans (HC2.out k hlt)
          obtain ⟨x, hx⟩ : ∃ x, x = nth L k := ⟨_, rfl⟩
          obtain ⟨y, hy⟩ : ∃ y, y = nth M k := ⟨_, rfl⟩
          rw [← hx] at k1
          rw [← hy] at k2
          have HB := Lib.hid hb
          by_cases hxy : x = y
          · have HQ : Hid (eqTo L M (k + 1) = true) := Lib.hid (by simp only [eqTo, hq, Bool.true_and, decide_eq_true_eq, ← hx, ← hy]; exact hxy)
            clear hb hq hx hy
            subst hxy
            go_wp2_with fail
            go_quiet (fail)
            go_wp2_with fail
            go_roundw
            case rel => exact ⟨k + 1, by omega, by go_num, HQ.out, below_drewN HB.out _⟩
            case measure => simp [intOf]; omega
          · have HQ : Hid (L ≠ M) := Lib.hid (HNE.out k hlt (by rw [← hx, ← hy]; exact hxy))
            have hd := str_ne hxy
            clear hb hq hx hy hxy
            go_wp2_with fail
            go_quiet (fail)
            go_wp2_with fail
            go_ret
            exact ⟨ret_bool (by simp [HQ.out]), below_drewN HB.out _⟩
        · obtain rfl : k = n1 := by omega
          have HQ := Lib.hid (HLM.out hq)
          have HB := Lib.hid hb
          clear hq hb
          go_wp2_with fail
          go_ret
          exact ⟨ret_bool (by simp [HQ.out]), HB.out⟩
  · have HQ : Hid (L ≠ M) := Lib.hid (fun e => hne (by rw [← h1.1, ← h2.1, e]))
    have hd : ((n1 : Int) != (n2 : Int)) = true := by simp; omega
    clear h1 h2
    go_enter Try.func13, Try.ntmps13
    go_wp2_with fail
    go_ret
    exact ⟨ret_bool (by simp [HQ.out]), Below.refl _ _⟩
end Go.Proofs.Ytcnafgelfkfekaa
