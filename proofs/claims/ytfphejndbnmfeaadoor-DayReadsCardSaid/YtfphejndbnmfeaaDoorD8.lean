import Derived.Test.YtfphejndbnmfeaaDoorD4
import Derived.Test.YtfphejndbnmfeaaDoorD7
namespace Go.Proofs.YtfphejndbnmfeaaDoor
open Go.RowKit

def mArr : Array Value := #[.int .i64 0, .int .i64 31, .int .i64 28, .int .i64 31, .int .i64 30, .int .i64 31, .int .i64 30, .int .i64 31, .int .i64 31, .int .i64 30, .int .i64 31, .int .i64 30, .int .i64 31]
theorem mArr_at (q : Nat) (h : q < 12) : mArr[q + 1]? = some (.int .i64 (mdays q : Nat)) := by
  rcases (show q = 0 ∨ q = 1 ∨ q = 2 ∨ q = 3 ∨ q = 4 ∨ q = 5 ∨ q = 6 ∨ q = 7 ∨ q = 8 ∨ q = 9 ∨ q = 10 ∨ q = 11 by omega) with rfl | rfl | rfl | rfl | rfl | rfl | rfl | rfl | rfl | rfl | rfl | rfl <;> rfl
theorem run_index_m (w : World) (j : Nat) (v : Value) (hj : j < 13) (h : mArr[j]? = some v) :
    (Instr.index 97 (.agg #[.int .i64 0, .int .i64 31, .int .i64 28, .int .i64 31, .int .i64 30, .int .i64 31, .int .i64 30, .int .i64 31, .int .i64 31, .int .i64 30, .int .i64 31, .int .i64 30, .int .i64 31]) (.int .i64 (j : Int))).run Tryd.prog w = .ok v w := by
  show (Instr.index 97 (.agg mArr) (.int .i64 (j : Int))).run Tryd.prog w = .ok v w
  generalize mArr = cs at h
  simp [Instr.index, asIntOf, run_underlying Tryd.underlying97, part, go_sem, hj, h]
set_option maxRecDepth 10000 in
theorem rdays_any (y m : Nat) (w : World) (hy : y ≤ 1000000) (h1 : 1 ≤ m) (h12 : m ≤ 12) :
    Calls Tryd.prog 46 #[.int .i64 y, .int .i64 m] w fun e w' => e = .returned (.int .i64 (dim y m : Nat)) ∧ w = w' := by
  have H := Lib.hid (leap_any y w hy)
  obtain ⟨q, rfl⟩ : ∃ q, m = q + 1 := ⟨m - 1, by omega⟩
  obtain ⟨b, hb⟩ : ∃ b, b = leap y := ⟨_, rfl⟩
  have hd : dim y (q + 1) = if q = 1 ∧ b = true then 29 else mdays q := by
    unfold dim; rw [hb, Nat.add_sub_cancel]
    by_cases h : q = 1 <;> simp [h]
  have hx : ∀ W, (Instr.index 97 (.agg #[.int .i64 0, .int .i64 31, .int .i64 28, .int .i64 31, .int .i64 30, .int .i64 31, .int .i64 30, .int .i64 31, .int .i64 31, .int .i64 30, .int .i64 31, .int .i64 30, .int .i64 31]) (.int .i64 ((q : Int) + 1))).run Tryd.prog W = .ok (.int .i64 (mdays q : Nat)) W :=
    fun W => run_index_m W (q + 1) _ (by omega) (mArr_at q (by omega))
  rw [← hb] at H
  clear hb
  by_cases hq : q = 1
  · subst hq
    have hx2 : ∀ W, (Instr.index 97 (.agg #[.int .i64 0, .int .i64 31, .int .i64 28, .int .i64 31, .int .i64 30, .int .i64 31, .int .i64 30, .int .i64 31, .int .i64 31, .int .i64 30, .int .i64 31, .int .i64 30, .int .i64 31]) (.int .i64 2)).run Tryd.prog W = .ok (.int .i64 28) W := hx
    clear hx
    cases b
    · have HD := Lib.hid (show dim y (1 + 1) = 28 by rw [hd]; rfl)
      clear hd
      go_enter Tryd.func46, Tryd.ntmps46
      go_wp2_with fail
      refine H.out.mono ?_
      rintro e w1 ⟨rfl, rfl⟩
      go_wp2_with fail
      go_ret
      exact ⟨rint (by rw [HD.out]; rfl), rfl⟩
    · have HD := Lib.hid (show dim y (1 + 1) = 29 by rw [hd]; rfl)
      clear hd
      go_enter Tryd.func46, Tryd.ntmps46
      go_wp2_with fail
      refine H.out.mono ?_
      rintro e w1 ⟨rfl, rfl⟩
      go_wp2_with fail
      go_ret
      exact ⟨rint (by rw [HD.out]; rfl), rfl⟩
  · have HD := Lib.hid (show dim y (q + 1) = mdays q by rw [hd, if_neg (fun h => hq h.1)])
    obtain ⟨n, hn⟩ : ∃ n, n = mdays q := ⟨_, rfl⟩
    rw [← hn] at HD hx
    have g2 : ((q : Int) + 1 == 2) = false := by simp; omega
    have g3 : ¬ ((q : Int) + 1 = 2) := by omega
    have hq12 : (q : Int) < 12 := by omega
    clear hd hn hq H h1 h12
    go_enter Tryd.func46, Tryd.ntmps46
    go_wp2_with fail
    go_ret
    exact ⟨rint (by rw [HD.out]), rfl⟩
theorem results_tmp3 {fn : Func} {t u v : Tmp} (h : fn.results = #[.tmp t, .tmp u, .tmp v]) (tmps : Array Value) (P : Program) (w : World) :
    (results fn tmps).run P w = .ok (.tuple #[tmps.getD t undef, tmps.getD u undef, tmps.getD v undef]) w := by
  simp [results, h]
set_option maxRecDepth 10000 in
theorem on_any (S : Nat) (n : Int) (w : World) (hS : S ≤ 315569519999) :
    Calls Tryd.prog 53 #[.agg #[.int .i64 S, .int .i64 n]] w fun e w' => (∃ y r m d : Nat, e = .returned (.tuple #[.int .i64 y, .int .i64 ((m : Int) + 1), .int .i64 ((d : Int) + 1)]) ∧ OnYear (S / 86400) y r ∧ OnMonth y r m d) ∧ Below w.heap.size w w' := by
  obtain ⟨D, hD⟩ : ∃ D, D = S / 86400 := ⟨_, rfl⟩
  have gD : (S : Int) / 86400 = D := by omega
  have hD2 : D ≤ 3652424 := by omega
  have HDS := Lib.hid hD
  rw [← hD]
  clear hD
  go_enter Tryd.func53, Tryd.ntmps53
  go_wp2_with fail
  obtain ⟨w1, hw1⟩ : ∃ w1, w1 = w.alloc (.cells #[.int .i64 S, .int .i64 n] 23) := ⟨_, rfl⟩
  have B1 : Hid (Below w.heap.size w w1) := Lib.hid (by rw [hw1]; exact (Below.refl _ w).alloc (Nat.le_refl _) _)
  rw [← hw1]
  clear hw1 gD
  go_loopw [5, 6] (fun dv yv wr => ∃ y r : Nat, yv = .int .i64 y ∧ dv = .int .i64 r ∧ cum y + r = D ∧ w1 = wr) (fun dv _ _ => (intOf dv).toNat)
  case atStart => exact ⟨0, D, rfl, rfl, by simp [cum], rfl⟩
  case round =>
    obtain ⟨y, r, rfl, rfl, hcum, rfl⟩ := hrel
    have HCUM := Lib.hid hcum
    have hy : y < 10000 := year_lt (by omega) hD2
    have hr : r ≤ 3652424 := by omega
    have hyl : ylen y = if leap y then 366 else 365 := rfl
    have HY := Lib.hid (fun W => leap_any y W (by omega))
    obtain ⟨b, hb⟩ : ∃ b, b = leap y := ⟨_, rfl⟩
    rw [← hb] at HY hyl
    have HLE := Lib.hid hyl
    clear hcum hyl hb
    by_cases h5 : r < 365
    · have g : ¬ (365 : Int) ≤ (r : Int) := by omega
      have g' : decide ((365 : Int) ≤ (r : Int)) = false := by simp; omega
      have HON : Hid (OnYear D y r) := Lib.hid ⟨HCUM.out, by rw [HLE.out]; split <;> omega⟩
      clear h5
      go_wp2_with fail
      go_loopw [5, 7] (fun dv mv wr => ∃ m d : Nat, mv = .int .i64 ((m : Int) + 1) ∧ dv = .int .i64 d ∧ cumM y m + d = r ∧ w1 = wr) (fun dv _ _ => (intOf dv).toNat)
      case atStart => exact ⟨0, r, rfl, rfl, by simp [cumM], rfl⟩
      case round =>
        obtain ⟨m, d, rfl, rfl, hcm, rfl⟩ := hrel
        have HCM := Lib.hid hcm
        have hm : m < 12 := month_lt HON.out.2 (by omega)
        have hd : d ≤ 3652424 := by omega
        have hk := dim_two y m hm
        have HM := Lib.hid (rdays_any y (m + 1) w1 (by omega) (by omega) (by omega))
        obtain ⟨k, hke⟩ : ∃ k, k = dim y (m + 1) := ⟨_, rfl⟩
        have HKE := Lib.hid hke
        rw [← hke] at HM hk
        obtain ⟨hk1, hk2⟩ := hk
        clear hcm hke
        by_cases hge2 : k ≤ d
        · obtain ⟨d', rfl⟩ : ∃ d', d = k + d' := ⟨d - k, by omega⟩
          have g2 : (k : Int) ≤ (k : Int) + d' := by omega
          go_wp2_with fail
          refine HM.out.mono ?_
          rintro e w2 ⟨rfl, rfl⟩
          go_wp2_with fail
          refine HM.out.mono ?_
          rintro e w2 ⟨rfl, rfl⟩
          go_wp2_with fail
          go_roundw
          case rel => exact ⟨m + 1, d', by go_num, by go_num, by have := HCM.out; have := HKE.out; show cumM y m + dim y (m + 1) + d' = r; omega, trivial⟩
          case measure => simp [intOf]; omega
        · have g2 : ¬ (k : Int) ≤ (d : Int) := by omega
          have HOM : Hid (OnMonth y r m d) := Lib.hid ⟨HCM.out, by rw [← HKE.out]; omega⟩
          go_wp2_with fail
          refine HM.out.mono ?_
          rintro e w2 ⟨rfl, rfl⟩
          go_wp2_with fail
          (try simp only [Exit.inBlock, Exit.then]); refine bodyPost_ret (results_tmp3 rfl _ _ _) rfl ?_
          exact ⟨⟨y, r, m, d, rfl, HON.out, HOM.out⟩, B1.out⟩
    by_cases h6 : 366 ≤ r
    · obtain ⟨r', rfl⟩ : ∃ r', r = 365 + (r' + 1) := ⟨r - 366, by omega⟩
      have g : (365 : Int) ≤ (((365 + (r' + 1) : Nat)) : Int) := by omega
      have g' : decide ((365 : Int) ≤ (((365 + (r' + 1) : Nat)) : Int)) = true := by simp; omega
      have g6 : decide ((366 : Int) ≤ (((365 + (r' + 1) : Nat)) : Int)) = true := by simp; omega
      have q1 : (366 : Int) ≤ 365 + ((r' : Int) + 1) := by omega
      clear h6 h5
      cases b
      · go_wp2_with fail
        refine (HY.out _).mono ?_
        rintro e w2 ⟨rfl, rfl⟩
        go_wp2_with fail
        go_roundw
        case rel => exact ⟨y + 1, r' + 1, by go_num, by go_num, by have h1 := HCUM.out; have h2 := HLE.out; simp at h2; show cum y + ylen y + (r' + 1) = D; omega, trivial⟩
        case measure => simp [intOf]; omega
      · go_wp2_with fail
        refine (HY.out _).mono ?_
        rintro e w2 ⟨rfl, rfl⟩
        go_wp2_with fail
        go_roundw
        case rel => exact ⟨y + 1, r', by go_num, by go_num, by have h1 := HCUM.out; have h2 := HLE.out; simp at h2; show cum y + ylen y + r' = D; omega, trivial⟩
        case measure => simp [intOf]; omega
    · obtain rfl : r = 365 := by omega
      clear h6 h5
      cases b
      · go_wp2_with fail
        refine (HY.out _).mono ?_
        rintro e w2 ⟨rfl, rfl⟩
        go_wp2_with fail
        refine (HY.out _).mono ?_
        rintro e w2 ⟨rfl, rfl⟩
        go_wp2_with fail
        go_roundw
        case rel => exact ⟨y + 1, 0, by go_num, by go_num, by have h1 := HCUM.out; have h2 := HLE.out; simp at h2; show cum y + ylen y + 0 = D; omega, trivial⟩
        case measure => simp [intOf]
      · have HON : Hid (OnYear D y 365) := Lib.hid ⟨HCUM.out, by rw [HLE.out]; simp⟩
        go_wp2_with fail
        refine (HY.out _).mono ?_
        rintro e w2 ⟨rfl, rfl⟩
        go_wp2_with fail
        obtain ⟨r, hr365⟩ : ∃ r : Nat, r = 365 := ⟨_, rfl⟩
        rw [← hr365] at HON
        rw [show (365 : Int) = (r : Int) by omega]
        have hr : r ≤ 3652424 := by omega
        clear hr365
        go_loopw [5, 7] (fun dv mv wr => ∃ m d : Nat, mv = .int .i64 ((m : Int) + 1) ∧ dv = .int .i64 d ∧ cumM y m + d = r ∧ w1 = wr) (fun dv _ _ => (intOf dv).toNat)
        case atStart => exact ⟨0, r, rfl, rfl, by simp [cumM], rfl⟩
        case round =>
          obtain ⟨m, d, rfl, rfl, hcm, rfl⟩ := hrel
          have HCM := Lib.hid hcm
          have hm : m < 12 := month_lt HON.out.2 (by omega)
          have hd : d ≤ 3652424 := by omega
          have hk := dim_two y m hm
          have HM := Lib.hid (rdays_any y (m + 1) w1 (by omega) (by omega) (by omega))
          obtain ⟨k, hke⟩ : ∃ k, k = dim y (m + 1) := ⟨_, rfl⟩
          have HKE := Lib.hid hke
          rw [← hke] at HM hk
          obtain ⟨hk1, hk2⟩ := hk
          clear hcm hke
          by_cases hge2 : k ≤ d
          · obtain ⟨d', rfl⟩ : ∃ d', d = k + d' := ⟨d - k, by omega⟩
            have g2 : (k : Int) ≤ (k : Int) + d' := by omega
            go_wp2_with fail
            refine HM.out.mono ?_
            rintro e w2 ⟨rfl, rfl⟩
            go_wp2_with fail
            refine HM.out.mono ?_
            rintro e w2 ⟨rfl, rfl⟩
            go_wp2_with fail
            go_roundw
            case rel => exact ⟨m + 1, d', by go_num, by go_num, by have := HCM.out; have := HKE.out; show cumM y m + dim y (m + 1) + d' = r; omega, trivial⟩
            case measure => simp [intOf]; omega
          · have g2 : ¬ (k : Int) ≤ (d : Int) := by omega
            have HOM : Hid (OnMonth y r m d) := Lib.hid ⟨HCM.out, by rw [← HKE.out]; omega⟩
            go_wp2_with fail
            refine HM.out.mono ?_
            rintro e w2 ⟨rfl, rfl⟩
            go_wp2_with fail
            (try simp only [Exit.inBlock, Exit.then]); refine bodyPost_ret (results_tmp3 rfl _ _ _) rfl ?_
            exact ⟨⟨y, r, m, d, rfl, HON.out, HOM.out⟩, B1.out⟩
end Go.Proofs.YtfphejndbnmfeaaDoor
