import Derived.Test.YtfphejndbnmfeaaDoorD2
namespace Go.Proofs.YtfphejndbnmfeaaDoor
open Go.RowKit

theorem ylen_two (y : Nat) : 365 ≤ ylen y ∧ ylen y ≤ 366 := by unfold ylen; cases leap y <;> simp
theorem dim_two (y m : Nat) (h : m < 12) : 28 ≤ dim y (m + 1) ∧ dim y (m + 1) ≤ 31 := by
  unfold dim
  have : ∀ k, k < 12 → 28 ≤ mdays k ∧ mdays k ≤ 31 := by decide
  have := this m h
  split
  · omega
  · simpa using this
theorem ylen_any (y : Nat) (w : World) (hy : y ≤ 1000000) : Calls Tryd.prog 51 #[.int .i64 y] w fun e w' => e = .returned (.int .i64 ((ylen y : Nat) : Int)) ∧ w = w' := yearDays_any y w hy
theorem results_tmp4 {fn : Func} {t u v x : Tmp} (h : fn.results = #[.tmp t, .tmp u, .tmp v, .tmp x]) (tmps : Array Value) (P : Program) (w : World) :
    (results fn tmps).run P w = .ok (.tuple #[tmps.getD t undef, tmps.getD u undef, tmps.getD v undef, tmps.getD x undef]) w := by
  simp [results, h]
set_option maxRecDepth 10000 in
theorem date_ok (S : Nat) (n : Int) (w : World) (hT : MD w) (hm : may S n = true) :
    Calls Tryd.prog 21 #[.agg #[.int .i64 S, .int .i64 n]] w fun e w' => (∃ y r m d : Nat, e = .returned (.tuple #[.int .i64 y, .int .i64 ((m : Int) + 1), .int .i64 ((d : Int) + 1), .int .i64 0]) ∧ OnYear (S / 86400) y r ∧ OnMonth y r m d) ∧ Below w.heap.size w w' := by
  have hS : S ≤ 315569519999 := by unfold may at hm; simp at hm; omega
  have HC : Hid (chD S n = 0) := Lib.hid (by unfold chD; rw [if_pos hm])
  have HT := Lib.hid hT
  obtain ⟨D, hD⟩ : ∃ D, D = S / 86400 := ⟨_, rfl⟩
  have gD : (S : Int) / 86400 = D := by omega
  have hD2 : D ≤ 3652424 := by omega
  obtain ⟨Q, hQ⟩ : ∃ Q, Q = D / 146097 := ⟨_, rfl⟩
  obtain ⟨R, hR⟩ : ∃ R, R = D % 146097 := ⟨_, rfl⟩
  have gQ : (D : Int) / 146097 = Q := by omega
  have GR : Hid ((D : Int) % 146097 = R) := Lib.hid (by omega)
  have HQ : Hid (cum (Q * 400) + R = D) := Lib.hid (by rw [cum_mul]; omega)
  have hQ2 : Q ≤ 25 := by omega
  have hR2 : R ≤ 146097 := by omega
  have HDS := Lib.hid hD
  have H1 : Hid (1 < w.heap.size) := Lib.hid hT.1
  rw [← hD]
  clear hm hT hD hQ hR
  go_enter Tryd.func21, Tryd.ntmps21
  go_wp2_with fail
  refine (check_any S n _).mono ?_
  rintro e w1 ⟨rfl, b1⟩
  rw [HC.out]
  have hc0 : w1.cell? ⟨w.heap.size, 0, none⟩ = some (.int .i64 S) := by
    rw [b1.cell (p := ⟨w.heap.size, 0, none⟩) (by simp)]
    simp only [World.cell?, heap_alloc_new]
    rfl
  have B1 : Hid (Below w.heap.size w w1) := Lib.hid (((Below.refl _ w).alloc (Nat.le_refl _) _).trans (b1.mono (by simp)))
  have HT1 : Hid (MD w1) := Lib.hid (HT.out.below B1.out H1.out)
  clear b1
  go_wp2_with fail
  go_loopw [2, 7] (fun yv dv wr => ∃ y r : Nat, yv = .int .i64 y ∧ dv = .int .i64 r ∧ cum y + r = D ∧ w1 = wr) (fun _ dv _ => (intOf dv).toNat)
  case atStart => exact ⟨Q * 400, R, by go_num, by rw [GR.out], HQ.out, rfl⟩
  case round =>
    obtain ⟨y, r, rfl, rfl, hcum, rfl⟩ := hrel
    have HCUM := Lib.hid hcum
    have hy : y < 10000 := year_lt (by omega) hD2
    have hr : r ≤ 3652424 := by omega
    have hl := ylen_two y
    obtain ⟨l, hle⟩ : ∃ l, l = ylen y := ⟨_, rfl⟩
    have HY := Lib.hid (fun W => ylen_any y W (by omega))
    have HLE := Lib.hid hle
    rw [← hle] at HY hl
    obtain ⟨hl1, hl2⟩ := hl
    clear hcum hle
    by_cases hge : l ≤ r
    · obtain ⟨r', rfl⟩ : ∃ r', r = l + r' := ⟨r - l, by omega⟩
      have g : (l : Int) ≤ (l : Int) + r' := by omega
      go_wp2_with fail
      refine (HY.out _).mono ?_
      rintro e w2 ⟨rfl, rfl⟩
      go_wp2_with fail
      refine (HY.out _).mono ?_
      rintro e w2 ⟨rfl, rfl⟩
      go_wp2_with fail
      go_roundw
      case rel => exact ⟨y + 1, r', by go_num, by go_num, by have := HCUM.out; have := HLE.out; show cum y + ylen y + r' = D; omega, trivial⟩
      case measure => simp [intOf]; omega
    · have g : ¬ (l : Int) ≤ (r : Int) := by omega
      have HON : Hid (OnYear D y r) := Lib.hid ⟨HCUM.out, by rw [← HLE.out]; omega⟩
      go_wp2_with fail
      refine (HY.out _).mono ?_
      rintro e w2 ⟨rfl, rfl⟩
      go_wp2_with fail
      go_loopw [3, 7] (fun mv dv wr => ∃ m d : Nat, mv = .int .i64 ((m : Int) + 1) ∧ dv = .int .i64 d ∧ cumM y m + d = r ∧ w1 = wr) (fun _ dv _ => (intOf dv).toNat)
      case atStart => exact ⟨0, r, rfl, rfl, by simp [cumM], rfl⟩
      case round =>
        obtain ⟨m, d, rfl, rfl, hcm, rfl⟩ := hrel
        have HCM := Lib.hid hcm
        have hm : m < 12 := month_lt HON.out.2 (by omega)
        have hd : d ≤ 3652424 := by omega
        have hk := dim_two y m hm
        have HM := Lib.hid (daysOf_any y (m + 1) w1 (by omega) (by omega) (by omega) HT1.out)
        obtain ⟨k, hke⟩ : ∃ k, k = dim y (m + 1) := ⟨_, rfl⟩
        have HKE := Lib.hid hke
        rw [← hke] at HM hk
        obtain ⟨hk1, hk2⟩ := hk
        clear hcm hke
        by_cases hge2 : k ≤ d
        · obtain ⟨d', rfl⟩ : ∃ d', d = k + d' := ⟨d - k, by omega⟩
          have g2 : (k : Int) ≤ (k : Int) + d' := by omega
          go_wp2_with fail
          refine HM.out.mono ?_
          rintro e w2 ⟨rfl, rfl⟩
          go_wp2_with fail
          refine HM.out.mono ?_
          rintro e w2 ⟨rfl, rfl⟩
          go_wp2_with fail
          go_roundw
          case rel => exact ⟨m + 1, d', by go_num, by go_num, by have := HCM.out; have := HKE.out; show cumM y m + dim y (m + 1) + d' = r; omega, trivial⟩
          case measure => simp [intOf]; omega
        · have g2 : ¬ (k : Int) ≤ (d : Int) := by omega
          have HOM : Hid (OnMonth y r m d) := Lib.hid ⟨HCM.out, by rw [← HKE.out]; omega⟩
          go_wp2_with fail
          refine HM.out.mono ?_
          rintro e w2 ⟨rfl, rfl⟩
          go_wp2_with fail
          (try simp only [Exit.inBlock, Exit.then]); refine bodyPost_ret (results_tmp4 rfl _ _ _) rfl ?_
          exact ⟨⟨y, r, m, d, rfl, HON.out, HOM.out⟩, B1.out⟩
theorem date_bad (s n : Int) (w : World) (hm : may s n = false) :
    Calls Tryd.prog 21 #[.agg #[.int .i64 s, .int .i64 n]] w fun e w' => e = .returned (.tuple #[.int .i64 0, .int .i64 0, .int .i64 0, .int .i64 120]) ∧ Below w.heap.size w w' := by
  have HC : Hid (chD s n = 120) := Lib.hid (by unfold chD; rw [hm]; rfl)
  clear hm
  go_enter Tryd.func21, Tryd.ntmps21
  go_wp2_with fail
  refine (check_any s n _).mono ?_
  rintro e w1 ⟨rfl, b1⟩
  rw [HC.out]
  have B1 : Hid (Below w.heap.size w w1) := Lib.hid (((Below.refl _ w).alloc (Nat.le_refl _) _).trans (b1.mono (by simp)))
  clear b1
  go_wp2_with fail
  (try simp only [Exit.inBlock, Exit.then]); refine bodyPost_ret (results_tmp4 rfl _ _ _) rfl ?_
  exact ⟨rfl, B1.out⟩
end Go.Proofs.YtfphejndbnmfeaaDoor
