import Derived.Test.YtfphejndbnmfeaaDoorD21
namespace Go.Proofs.YtfphejndbnmfeaaDoor
open Go.RowKit

/-- The number of so many digits at a place; below 0: there is none. -/
def numR (s : ByteArray) (p k : Nat) : Int := if digs s p k then (numv s p k : Int) else -1
theorem not_digs {s : ByteArray} {p k i : Nat} (hi : i < k) (h : isDg (bt s (p + i)) = false) : digs s p k = false := by
  cases hd : digs s p k with
  | false => rfl
  | true =>
    have := digs_mono hd (show i + 1 ≤ k by omega)
    simp only [digs, h, Bool.and_false] at this
    cases this
set_option maxRecDepth 10000 in
theorem rnum_any (s : ByteArray) (p k : Nat) (w : World) (hs : s.size ≤ maxLen) (hp : p ≤ 1000) (hk : k ≤ 9) (hkp : 0 < k ∨ p ≤ s.size) :
    Calls Tryd.prog 45 #[.string s, .int .i64 p, .int .i64 k] w fun e w' => e = .returned (.int .i64 (numR s p k)) ∧ w = w' := by
  have hs2 := hs
  unfold maxLen at hs2
  clear hs
  by_cases hlen : s.size < p + k
  · have HR : Hid (numR s p k = -1) := Lib.hid (by
      unfold numR
      cases hd : digs s p k with
      | false => rfl
      | true =>
        rcases hkp with h | h
        · have := digs_in s p k hd h; omega
        · by_cases h0 : 0 < k
          · have := digs_in s p k hd h0; omega
          · omega)
    have g1 : (s.size : Int) < p + k := by omega
    clear hlen
    go_enter Tryd.func45, Tryd.ntmps45
    go_wp2_with fail
    go_ret
    exact ⟨rint HR.out.symm, rfl⟩
  · have g1 : decide ((s.size : Int) < p + k) = false := decide_eq_false (by omega)
    have g2 : p + k ≤ s.size := by omega
    clear hlen
    go_enter Tryd.func45, Tryd.ntmps45
    go_wp2_with fail
    go_loopg [7, 8] k (fun f nv iv wr => ∃ i : Nat, f + i = k ∧ nv = .int .i64 (numv s p i : Nat) ∧ iv = .int .i64 ((p : Int) + i) ∧ digs s p i = true ∧ w = wr)
    case atStart => exact ⟨0, by omega, rfl, by simp, rfl, rfl⟩
    case round =>
      obtain ⟨i, hf, rfl, rfl, hd, rfl⟩ := hrel
      have HF := Lib.hid hf
      have HD := Lib.hid hd
      have hnb := numv_bound hd (by omega)
      obtain ⟨n, hn⟩ : ∃ n, n = numv s p i := ⟨_, rfl⟩
      have HN := Lib.hid hn
      rw [← hn] at hnb ⊢
      clear hf hd hn
      cases gk with
      | zero =>
        obtain rfl : i = k := by have := HF.out; omega
        have HR : Hid (numR s p i = n) := Lib.hid (by unfold numR; rw [HD.out, if_pos rfl, HN.out])
        go_wp2_with fail
        go_ret
        exact ⟨rint HR.out.symm, rfl⟩
      | succ g =>
        have hik : i < k := by have := HF.out; omega
        have hik' : (p : Int) + i < p + k := by omega
        have hin : p + i < s.size := by omega
        have hbe := bt_eq s (p + i) hin
        obtain ⟨x, hx⟩ : ∃ x, x = bt s (p + i) := ⟨_, rfl⟩
        have hxr : (0 : Int) ≤ x ∧ x < 256 := by rw [hx]; exact bt_range s _
        obtain ⟨hx1, hx2⟩ := hxr
        have hix : ∀ h : p + i < s.size, (s[p + i].toNat : Int) = x := fun h => (bt_eq s (p + i) h).trans hx.symm
        have HX := Lib.hid hx
        have hto : ((p : Int) + i).toNat = p + i := by omega
        clear hbe hx
        by_cases h48 : x < 48
        · have HR : Hid (numR s p k = -1) := Lib.hid (by
            unfold numR
            rw [not_digs hik (by unfold isDg; rw [← HX.out]; exact decide_eq_false (by omega))]; rfl)
          go_wp2_with fail
          go_ret
          exact ⟨rint HR.out.symm, rfl⟩
        · by_cases h57 : 57 < x
          · have HR : Hid (numR s p k = -1) := Lib.hid (by
              unfold numR
              rw [not_digs hik (by unfold isDg; rw [← HX.out]; exact decide_eq_false (by omega))]; rfl)
            have k1 : decide (x < 48) = false := decide_eq_false h48
            clear h48
            go_wp2_with fail
            go_ret
            exact ⟨rint HR.out.symm, rfl⟩
          · obtain ⟨q, rfl⟩ : ∃ q : Nat, x = 48 + (q : Int) := ⟨(x - 48).toNat, by omega⟩
            have hq9 : q ≤ 9 := by omega
            have HNQ : Hid (numv s p (i + 1) = 10 * n + q) := Lib.hid (by
              show 10 * numv s p i + (bt s (p + i) - 48).toNat = _
              rw [← HN.out, ← HX.out]; omega)
            have HDQ : Hid (digs s p (i + 1) = true) := Lib.hid (by
              simp only [digs, HD.out, Bool.true_and, isDg, ← HX.out]
              exact decide_eq_true (by omega))
            have k1 : decide (48 + (q : Int) < 48) = false := decide_eq_false h48
            have k2 : decide (57 < 48 + (q : Int)) = false := decide_eq_false h57
            clear h48 h57
            go_wp2_with fail
            go_roundg g
            case rel => exact ⟨i + 1, by have := HF.out; omega, by rw [HNQ.out]; go_num, by go_num, HDQ.out, rfl⟩
            case measure => omega
set_option maxRecDepth 10000 in
theorem rahead_any (y m d : Nat) (w : World) (hy : y < 10000) (hm1 : 1 ≤ m) (hm : m ≤ 12) (hd1 : 1 ≤ d) (hd : d ≤ 31) :
    Calls Tryd.prog 48 #[.int .i64 y, .int .i64 m, .int .i64 d] w fun e w' => e = .returned (.int .i64 (aheadD y m d : Nat)) ∧ w = w' := by
  go_enter Tryd.func48, Tryd.ntmps48
  go_wp2_with fail
  go_loop [7, 8] (fun dv yv => ∃ z : Nat, yv = .int .i64 z ∧ dv = .int .i64 (cum z : Nat) ∧ z ≤ y) (fun _ yv => y - (intOf yv).toNat)
  case atStart => exact ⟨0, rfl, rfl, Nat.zero_le _⟩
  case round =>
    obtain ⟨z, rfl, rfl, hz⟩ := hrel
    have hct := cum_top (y := z) (by omega)
    obtain ⟨c, hc⟩ : ∃ c, c = cum z := ⟨_, rfl⟩
    have HC := Lib.hid hc
    rw [← hc] at hct ⊢
    clear hc
    by_cases hlt : z < y
    · have hlt' : (z : Int) < y := by omega
      have HY := Lib.hid (leap_any z w (by omega))
      have hk : ylen z = if leap z then 366 else 365 := rfl
      obtain ⟨b, hb⟩ : ∃ b, b = leap z := ⟨_, rfl⟩
      rw [← hb] at HY hk
      have HK := Lib.hid hk
      clear hk hb
      cases b with
      | false =>
        go_wp2_with fail
        refine HY.out.mono ?_
        rintro e w2 ⟨rfl, rfl⟩
        go_wp2_with fail
        go_round
        case rel => exact ⟨z + 1, by go_num, by rw [show cum (z + 1) = c + 365 by rw [HC.out]; show cum z + ylen z = _; rw [HK.out]; rfl]; go_num, by omega⟩
        case measure => simp [intOf]; omega
      | true =>
        go_wp2_with fail
        refine HY.out.mono ?_
        rintro e w2 ⟨rfl, rfl⟩
        go_wp2_with fail
        go_round
        case rel => exact ⟨z + 1, by go_num, by rw [show cum (z + 1) = c + 365 + 1 by rw [HC.out]; show cum z + ylen z = _; rw [HK.out]; rfl]; go_num, by omega⟩
        case measure => simp [intOf]; omega
    · obtain rfl : z = y := by omega
      clear hlt
      go_wp2_with fail
      go_loop [7, 9] (fun dv mv => ∃ q : Nat, mv = .int .i64 ((q : Int) + 1) ∧ dv = .int .i64 ((c + cumM z q : Nat) : Int) ∧ q + 1 ≤ m) (fun _ mv => m - (intOf mv).toNat)
      case atStart => exact ⟨0, rfl, rfl, hm1⟩
      case round =>
        obtain ⟨q, rfl, rfl, hq⟩ := hrel
        have hmt := cumM_top (y := z) (m := q) (by omega)
        obtain ⟨a, ha⟩ : ∃ a, a = cumM z q := ⟨_, rfl⟩
        have HA := Lib.hid ha
        rw [← ha] at hmt ⊢
        clear ha
        by_cases hlt2 : q + 1 < m
        · have hlt2' : (q : Int) + 1 < m := by omega
          have HM := Lib.hid (rdays_any z (q + 1) w (by omega) (by omega) (by omega))
          have hk := dim_two z q (by omega)
          obtain ⟨k, hke⟩ : ∃ k, k = dim z (q + 1) := ⟨_, rfl⟩
          have HKE := Lib.hid hke
          rw [← hke] at HM hk
          obtain ⟨hk1, hk2⟩ := hk
          clear hke
          go_wp2_with fail
          refine HM.out.mono ?_
          rintro e w2 ⟨rfl, rfl⟩
          go_wp2_with fail
          go_round
          case rel => exact ⟨q + 1, by go_num, by rw [show cumM z (q + 1) = a + k by rw [HA.out, HKE.out]; rfl]; go_num, by omega⟩
          case measure => simp [intOf]; omega
        · obtain rfl : m = q + 1 := by omega
          have HE : Hid (aheadD z (q + 1) d = c + a + (d - 1)) := Lib.hid (by unfold aheadD; rw [HC.out, HA.out]; rfl)
          obtain ⟨f, rfl⟩ : ∃ f, d = f + 1 := ⟨d - 1, by omega⟩
          clear hlt2
          go_wp2_with fail
          go_ret
          exact ⟨rint (by rw [HE.out]; omega), rfl⟩
end Go.Proofs.YtfphejndbnmfeaaDoor
