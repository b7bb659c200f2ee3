import Derived.Test.YtfphejndbnmfeaaDoorU13
namespace Go.Proofs.YtfphejndbnmfeaaDoor
open Go.RowKit

/-- Does the digit with this value stand for that byte? -/
def hit (c k : Int) : Prop := dg k = c ∨ (9 < k ∧ dg k - 32 = c)
theorem hit_hx {c k : Int} (h0 : 0 ≤ k) (h1 : k < 16) (h : hit c k) : hx c = k := by
  unfold hit dg at h; unfold hx; (repeat' split) <;> (repeat' split at h) <;> omega
theorem no_hit {c : Int} (h : ∀ k : Nat, k < 16 → ¬ hit c k) : hx c = -1 := by
  by_cases hc : 0 ≤ hx c
  · exfalso
    have hr := (hx_range c).2
    obtain ⟨k, hk⟩ := Int.eq_ofNat_of_zero_le hc
    have := h k (by omega)
    apply this
    rw [← hk]
    unfold hit
    rcases dg_hx hc with e | ⟨e1, e2, e3⟩
    · exact .inl e
    · right; exact ⟨by unfold hx; (repeat' split) <;> omega, by omega⟩
  · have := (hx_range c).1; omega
theorem rdigit_any (c : Int) (w : World) (h0 : 0 ≤ c) (h1 : c < 256) :
    Calls Tryd.prog 58 #[.int .u8 c] w fun e w' => e = .returned (.int .i64 (hx c)) ∧ w = w' := by
  go_enter Tryd.func58, Tryd.ntmps58
  go_wp2_with fail
  go_loopg [3] 16 (fun f i wr => ∃ k : Nat, f + k = 16 ∧ i = .int .i64 k ∧ (∀ j : Nat, j < k → ¬ hit c j) ∧ w = wr)
  case atStart => exact ⟨0, by omega, rfl, fun j hj => absurd hj (Nat.not_lt_zero j), rfl⟩
  case round =>
    obtain ⟨k, hf, rfl, hno, rfl⟩ := hrel
    have HNO := Lib.hid hno
    cases gk with
    | zero =>
      obtain rfl : k = 16 := by omega
      have HR := Lib.hid (no_hit hno)
      clear hno
      go_wp2_with fail
      go_ret
      exact ⟨ret_int HR.out.symm, rfl⟩
    | succ g =>
      have hk : k < 16 := by omega
      have hk' : (k : Int) < 16 := by omega
      have hd := fun w kk => hexS_at (k : Int) (by omega) hk' w kk
      have hr := dg_range (n := (k : Int)) (by omega) hk'
      have hbig : 9 < (k : Int) → 97 ≤ dg k := fun h => by unfold dg; rw [if_neg (by omega)]; omega
      have HH := Lib.hid (fun h : hit c k => hit_hx (by omega) hk' h)
      have HI : Hid (hit c k ↔ (dg k = c ∨ (9 < (k : Int) ∧ dg k - 32 = c))) := Lib.hid Iff.rfl
      have HF := Lib.hid hf
      obtain ⟨y, hy⟩ : ∃ y, y = dg k := ⟨_, rfl⟩
      rw [← hy] at hr hbig HI
      have hd2 : ∀ w kk, (Instr.index 9 (.string ⟨#[48, 49, 50, 51, 52, 53, 54, 55, 56, 57, 97, 98, 99, 100, 101, 102]⟩) (.int kk (k : Int))).run Tryd.prog w = .ok (.int .u8 y) w := fun w kk => by rw [hy]; exact hd w kk
      have HY := Lib.hid hy
      clear hy hd hno hf
      by_cases ha : y = c
      · have HR : Hid (hx c = k) := Lib.hid (HH.out (HI.out.2 (.inl ha)))
        have hb : (y == c) = true := by simp [ha]
        clear ha hbig
        go_wp2_with fail
        go_ret
        exact ⟨ret_int HR.out.symm, rfl⟩
      · have hb : (y == c) = false := by simp [ha]
        by_cases h9 : 9 < (k : Int)
        · have h97 := hbig h9
          by_cases he : y - 32 = c
          · have HR : Hid (hx c = k) := Lib.hid (HH.out (HI.out.2 (.inr ⟨h9, he⟩)))
            have hb2 : (y - 32 == c) = true := by simp [he]
            clear ha hbig he
            go_wp2_with fail
            go_ret
            exact ⟨ret_int HR.out.symm, rfl⟩
          · have hb2 : (y - 32 == c) = false := by simp [he]
            have HN : Hid (¬ hit c k) := Lib.hid (fun h => by rcases HI.out.1 h with e | ⟨_, e⟩; exact ha e; exact he e)
            clear ha hbig he
            go_wp2_with fail
            go_roundg g
            case rel => exact ⟨k + 1, by have := HF.out; omega, by go_num, fun j hj => by
              by_cases e : j = k
              · rw [e]; exact HN.out
              · exact HNO.out j (by omega), rfl⟩
            case measure => omega
        · have HN : Hid (¬ hit c k) := Lib.hid (fun h => by rcases HI.out.1 h with e | ⟨e, _⟩; exact ha e; exact h9 e)
          have h9' : decide ((9 : Int) < (k : Int)) = false := by simp; omega
          clear ha hbig h9
          go_wp2_with fail
          go_roundg g
          case rel => exact ⟨k + 1, by have := HF.out; omega, by go_num, fun j hj => by
            by_cases e : j = k
            · rw [e]; exact HN.out
            · exact HNO.out j (by omega), rfl⟩
          case measure => omega
end Go.Proofs.YtfphejndbnmfeaaDoor
