/- Layer 3: skip, place, End. -/
import Derived.Test.YtfmgkndljppffaaC8
import Derived.Deep.LoopGhost
namespace Go.Proofs.Ytfmgkndljppffaa
open Go.RowKit Go.Maps
theorem CV.at_ {w : World} {b off n : Nat} {g : Nat → CR} (h : CV w (some ⟨b, off, none⟩) n g) {i : Nat} (hi : i < n) : b < w.heap.size ∧ w.cell? ⟨b, off + i * 5, none⟩ = some (.int .u8 (g i).k) ∧ w.cell? ⟨b, off + i * 5 + 1, none⟩ = some (.string (g i).nm) ∧ w.cell? ⟨b, off + i * 5 + 2, none⟩ = some (.string (g i).tx) ∧ w.cell? ⟨b, off + i * 5 + 3, none⟩ = some (.int .i64 (g i).n) ∧ w.cell? ⟨b, off + i * 5 + 4, none⟩ = some (.int .i64 (g i).m) := by
  obtain ⟨b', off', e, k⟩ := h i hi
  cases e
  exact k
theorem CV.addr {w : World} {a : Option Addr} {n : Nat} {g : Nat → CR} (h : CV w a n g) (h0 : 0 < n) : ∃ b off, a = some ⟨b, off, none⟩ := by
  obtain ⟨b, off, e, _⟩ := h 0 h0
  exact ⟨b, off, e⟩
set_option maxRecDepth 20000 in
set_option maxHeartbeats 1000000 in
theorem skip_any (a : Option Addr) (n cap : Nat) (g : Nat → CR) (p e : Nat) (w : World) (hv : CV w a n g) (hn : n ≤ 2048) (h : wk g n 16 p = some e) : Calls Try.prog 40 #[.slice a n cap, .int .i64 (p : Nat)] w fun r w' => r = .returned (.int .i64 (e : Nat)) ∧ w' = w := by
  have hl := wk_lt _ _ _ h
  obtain ⟨b, off, rfl⟩ := hv.addr (by omega)
  have HV := Lib.hid hv
  have H1 : Hid (Chain g n 1 p e) := Lib.hid ⟨e, h, rfl⟩
  obtain ⟨hl1, hl2⟩ := hl
  clear hv h
  go_enter Try.func40, Try.ntmps40
  go_wp2_with fail
  go_loop [1, 5] (fun v1 v5 => ∃ q o : Nat, v1 = .int .i64 q ∧ v5 = .int .i64 o ∧ Hid (Chain g n o q e)) (fun v1 _ => n - (intOf v1).toNat)
  case atStart => exact ⟨p, 1, rfl, rfl, H1⟩
  case round =>
    obtain ⟨q, o, rfl, rfl, HC⟩ := hrel
    cases o with
    | zero =>
      have hqe : q = e := HC.out
      subst hqe
      clear HC H1 HV
      go_wp2_with fail
      go_ret
      exact ⟨rfl, rfl⟩
    | succ o =>
      obtain ⟨k1, k2, k3, k4⟩ := HC.out.step
      obtain ⟨_, _, _, _, _, c4⟩ := HV.out.at_ k1
      obtain ⟨mm, hmm⟩ : ∃ mm : Nat, (g q).m = mm := ⟨(g q).m.toNat, by omega⟩
      rw [hmm] at c4 k4
      rw [Int.toNat_natCast] at k4
      have k5 := Chain.le _ _ _ k4
      have K4 := Lib.hid k4
      have hq0 : (0 : Int) ≤ q := by omega
      have hq1 : (q : Int) < n := by omega
      have hb0 : (q : Int) ≤ 2048 := by omega
      have hb1 : (mm : Int) ≤ 2048 := by omega
      have hb2 : (o : Int) ≤ 2048 := by omega
      have hb3 : (0 : Int) ≤ mm := by omega
      have hb4 : (0 : Int) ≤ o := by omega
      have hgt : (0 : Int) < ((o + 1 : Nat) : Int) := by omega
      clear HC k3 k4 k5 hmm
      go_wp2_with fail
      go_round
      case rel => exact ⟨q + 1, o + mm, by go_num, by first | go_num | (congr 1; omega), K4⟩
      case measure => simp [intOf]; omega
theorem ck_at {g : Nat → CR} {n p : Nat} (h : ckC g n = true) (hp : p < n) : wk g n 16 p = some (nx g n p) ∧ nx g n p ≤ n := by
  obtain ⟨_, _, _, h4⟩ := ckC_parts h
  obtain ⟨e', k1, k2⟩ := wk_at _ _ _ h4 p (Nat.zero_le _) hp
  rw [nx_some k1]
  exact ⟨k1, k2⟩
/-- The error of a place. -/
def plE (g : Nat → CR) (n : Nat) (p : Int) : Int := if ckC g n = true then (if 0 ≤ p ∧ p < n then 0 else 2) else 8
set_option maxRecDepth 20000 in
theorem place_any (a : Option Addr) (n cap : Nat) (g : Nat → CR) (p : Int) (w : World) (hv : CV w a n g) (hcw : CW n g) : Calls Try.prog 33 #[.slice a n cap, .int .i64 p] w fun r w' => r = .returned (.int .i64 (plE g n p)) ∧ Below w.heap.size w w' := by
  have HC := Lib.hid (cCheck_any a n cap g w hv hcw)
  obtain ⟨z, hz⟩ : ∃ z, z = plE g n p := ⟨_, rfl⟩
  rw [← hz]
  unfold plE at hz
  cases hc : ckC g n with
  | false =>
    rw [hc] at HC hz
    have HZ := Lib.hid (show z = 8 by rw [hz]; rfl)
    rw [show eC false = 8 from rfl] at HC
    clear hz hc hv hcw
    go_enter Try.func33, Try.ntmps33
    go_wp2_with fail
    with_reducible refine HC.out.mono ?_
    rintro e w1 ⟨rfl, b1⟩
    go_wp2_with fail
    go_ret
    exact ⟨ret_int HZ.out.symm, b1⟩
  | true =>
    rw [hc] at HC hz
    rw [show eC true = 0 from rfl] at HC
    by_cases h1 : p < 0
    · have HZ := Lib.hid (show z = 2 by rw [hz, if_pos rfl, if_neg (by omega)])
      clear hz hc hv hcw
      go_enter Try.func33, Try.ntmps33
      go_wp2_with fail
      with_reducible refine HC.out.mono ?_
      rintro e w1 ⟨rfl, b1⟩
      go_wp2_with fail
      go_ret
      exact ⟨ret_int HZ.out.symm, b1⟩
    · by_cases h2 : (n : Int) ≤ p
      · have HZ := Lib.hid (show z = 2 by rw [hz, if_pos rfl, if_neg (by omega)])
        clear hz hc hv hcw
        go_enter Try.func33, Try.ntmps33
        go_wp2_with fail
        with_reducible refine HC.out.mono ?_
        rintro e w1 ⟨rfl, b1⟩
        go_wp2_with fail
        go_ret
        exact ⟨ret_int HZ.out.symm, b1⟩
      · have HZ := Lib.hid (show z = 0 by rw [hz, if_pos rfl, if_pos (by omega)])
        clear hz hc hv hcw
        go_enter Try.func33, Try.ntmps33
        go_wp2_with fail
        with_reducible refine HC.out.mono ?_
        rintro e w1 ⟨rfl, b1⟩
        go_wp2_with fail
        go_ret
        exact ⟨ret_int HZ.out.symm, b1⟩
set_option maxRecDepth 20000 in
theorem end_bad (a : Option Addr) (n cap : Nat) (g : Nat → CR) (p : Int) (w : World) (hv : CV w a n g) (hcw : CW n g) (hb : plE g n p ≠ 0) : Calls Try.prog 15 #[.slice a n cap, .int .i64 p] w fun r w' => r = .returned (.tuple #[.int .i64 0, .int .i64 (plE g n p)]) ∧ Below w.heap.size w w' := by
  have HC := Lib.hid (place_any a n cap g p w hv hcw)
  obtain ⟨z, hz⟩ : ∃ z, z = plE g n p := ⟨_, rfl⟩
  rw [← hz] at HC hb ⊢
  have hz0 : (z == 0) = false := by rw [beq_eq_false_iff_ne]; exact hb
  clear hz hb hv hcw
  go_enter Try.func15, Try.ntmps15
  go_wp2_with fail
  with_reducible refine HC.out.mono ?_
  rintro e w1 ⟨rfl, b1⟩
  have B1 := Lib.hid b1
  clear b1
  go_wp2_with fail
  go_ret2
  exact ⟨rfl, B1.out⟩
theorem pl_ok {g : Nat → CR} {n p : Nat} (hc : ckC g n = true) (hp : p < n) : plE g n (p : Nat) = 0 := by unfold plE; rw [if_pos hc, if_pos (by omega)]
set_option maxRecDepth 20000 in
theorem end_ok (a : Option Addr) (n cap : Nat) (g : Nat → CR) (p : Nat) (w : World) (hv : CV w a n g) (hcw : CW n g) (hc : ckC g n = true) (hp : p < n) : Calls Try.prog 15 #[.slice a n cap, .int .i64 (p : Nat)] w fun r w' => r = .returned (.tuple #[.int .i64 (nx g n p : Nat), .int .i64 0]) ∧ Below w.heap.size w w' := by
  have HC := Lib.hid (place_any a n cap g p w hv hcw)
  rw [pl_ok hc hp] at HC
  have HS := Lib.hid (fun w1 (hv1 : CV w1 a n g) => skip_any a n cap g p _ w1 hv1 (ckC_parts hc).2.1 (ck_at hc hp).1)
  have HV := Lib.hid hv
  obtain ⟨x, hx⟩ : ∃ x, x = nx g n p := ⟨_, rfl⟩
  rw [← hx] at HS ⊢
  clear hx hc hp hv hcw
  go_enter Try.func15, Try.ntmps15
  go_wp2_with fail
  with_reducible refine HC.out.mono ?_
  rintro e w1 ⟨rfl, b1⟩
  have B1 := Lib.hid b1
  clear b1
  go_wp2_with fail
  with_reducible refine (HS.out w1 (HV.out.below B1.out)).mono ?_
  rintro e w2 ⟨rfl, hq1⟩
  have hq2 := hq1.symm
  clear hq1
  subst hq2
  go_wp2_with fail
  go_ret2
  exact ⟨rfl, B1.out⟩
end Go.Proofs.Ytfmgkndljppffaa
