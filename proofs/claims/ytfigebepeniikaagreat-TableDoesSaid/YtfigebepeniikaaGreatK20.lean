import Derived.Test.YtfigebepeniikaaGreatK19
import Derived.Test.YtfigebepeniikaaGreatK12
import Derived.Test.YtfigebepeniikaaGreatK11
import Derived.Deep.QuietTactic
/- Layer 27: the document's Put, Set, Get. -/
namespace Go.Proofs.YtfigebepeniikaaGreat
open Go.RowKit Go.Maps Go.Shelf
set_option maxRecDepth 20000 in
set_option maxHeartbeats 8000000 in
theorem rPut_any (B B' : Nat) (T : TM) (a1 a2 : Option Addr) (c1 c2 : Nat) (r : RC) (ad : Option Addr) (cp : Nat) (w : World) (hv : TVs B w T a1 c1 a2 c2) (hs : Good T) (hd : DV B' w ad cp r.d) (hr0 : SmR r) (hzr : NZ r) : Calls Tryz.prog 10 #[tv T a1 c1 a2 c2, rv r ad cp] w (AP w (putT T r).1 (putT T r).2) := by
  obtain ⟨nm, m, uq, R⟩ := T
  show Calls Tryz.prog 10 #[.agg #[.string nm, .int .i64 m, .slice a1 uq.length c1, .slice a2 R.length c2], .agg #[.string r.id, .slice ad r.d.length cp]] w (AP w (putT ⟨nm, m, uq, R⟩ r).1 (putT ⟨nm, m, uq, R⟩ r).2)
  have hRn : R.length ≤ 900 := hs.n
  obtain ⟨W, hW⟩ : ∃ W, W = ((w.alloc (.cells #[.string nm, .int .i64 m, .slice a1 uq.length c1, .slice a2 R.length c2] 25)).alloc (.cells #[.string r.id, .slice ad r.d.length cp] 28)).alloc (.cells #[.string ⟨#[]⟩, .int .i64 0, .slice none 0 0, .slice none 0 0] 25) := ⟨_, rfl⟩
  have HW : Hid (Below w.heap.size w W) := Lib.hid (by rw [hW]; exact (((Below.refl _ _).alloc (Nat.le_refl _) _).alloc (by simp) _).alloc (by simp; omega) _)
  have HQ1 : Hid (Bx4 W w.heap.size 25 (.string nm) (.int .i64 m) (.slice a1 uq.length c1) (.slice a2 R.length c2)) := Lib.hid (by rw [hW]; exact ((bx4_new w _ _ _ _ _).up ((Below.refl _ _).alloc (Nat.le_refl _) _)).up ((Below.refl _ _).alloc (Nat.le_refl _) _))
  have HQ3 : Hid (Bx2 W (w.heap.size + 1) (.string r.id) (.slice ad r.d.length cp)) := Lib.hid (by
    rw [hW]
    have h := (bx2_new (w.alloc (.cells #[.string nm, .int .i64 m, .slice a1 uq.length c1, .slice a2 R.length c2] 25)) (.string r.id) (.slice ad r.d.length cp)).up ((Below.refl _ _).alloc (Nat.le_refl _) (.cells #[.string ⟨#[]⟩, .int .i64 0, .slice none 0 0, .slice none 0 0] 25))
    simpa using h)
  have HQ2 : Hid (Bx4 W (w.heap.size + 1 + 1) 25 (.string ⟨#[]⟩) (.int .i64 0) (.slice none 0 0) (.slice none 0 0)) := Lib.hid (by
    rw [hW]
    have h := bx4_new ((w.alloc (.cells #[.string nm, .int .i64 m, .slice a1 uq.length c1, .slice a2 R.length c2] 25)).alloc (.cells #[.string r.id, .slice ad r.d.length cp] 28)) 25 (.string ⟨#[]⟩) (.int .i64 0) (.slice none 0 0) (.slice none 0 0)
    simpa using h)
  have HSZ : Hid (w.heap.size + 3 = W.heap.size) := Lib.hid (by rw [hW]; simp)
  have hsz := HSZ.out
  have r1 : (R.length : Int) ≤ 900 := by omega
  have HMY : Hid (Calls Tryz.prog 26 #[.agg #[.string nm, .int .i64 m, .slice a1 uq.length c1, .slice a2 R.length c2]] W fun e w' => e = .returned (.bool (tabOk ⟨nm, m, uq, R⟩)) ∧ Below W.heap.size W w') := Lib.hid (rMay_any B ⟨nm, m, uq, R⟩ a1 a2 c1 c2 W (hv.below HW.out) hs.sm hs.nz)
  have HON : Hid (∀ V, Below W.heap.size W V → Calls Tryz.prog 32 #[.agg #[.string r.id, .slice ad r.d.length cp]] V fun e w' => e = .returned (.bool (recOk r)) ∧ Below V.heap.size V w') := Lib.hid (fun V k => rOne_any B' r ad cp V ((hd.below HW.out).below k) hr0 hzr)
  obtain ⟨X, e, hX⟩ : ∃ X e, putT ⟨nm, m, uq, R⟩ r = (X, e) := ⟨_, _, rfl⟩
  obtain ⟨tk, htk⟩ : ∃ t, t = tabOk ⟨nm, m, uq, R⟩ := ⟨_, rfl⟩
  obtain ⟨rk, hrk⟩ : ∃ t, t = recOk r := ⟨_, rfl⟩
  have H0 : Hid ((tk && rk) = false → (X, e) = (zT, 8)) := Lib.hid (fun h => hX.symm.trans (put_bad (by rw [htk, hrk] at h; exact h)))
  have HAD : Hid (tk = true → rk = true → ∀ V, Below W.heap.size W V → Calls Tryz.prog 33 #[.agg #[.string nm, .int .i64 m, .slice a1 uq.length c1, .slice a2 R.length c2], .agg #[.string r.id, .slice ad r.d.length cp]] V (AP V X e)) := Lib.hid (fun h1 h2 V k => by
    have h := rAdded_any B B' ⟨nm, m, uq, R⟩ a1 a2 c1 c2 r ad cp V ((hv.below HW.out).below k) hs ((hd.below HW.out).below k) hr0 hzr (htk.symm.trans h1) (hrk.symm.trans h2)
    rw [hX] at h
    exact h)
  rw [hX]
  show Calls Tryz.prog 10 #[.agg #[.string nm, .int .i64 m, .slice a1 uq.length c1, .slice a2 R.length c2], .agg #[.string r.id, .slice ad r.d.length cp]] w (AP w X e)
  rw [← htk] at HMY
  rw [← hrk] at HON
  clear hX hv hs hd hr0 hzr htk hrk
  go_enter Tryz.func10, Tryz.ntmps10
  go_wp2_with fail
  rw [← hW]
  clear hW
  refine HMY.out.mono ?_
  rintro en w1 ⟨rfl, b1⟩
  have B1 := Lib.hid b1
  clear b1 HMY
  have P1 := Lib.hid (HQ1.out.up B1.out)
  have x0 := P1.out.c0
  have x1 := P1.out.c1
  have x2 := P1.out.c2
  have x3 := P1.out.c3
  have P3 := Lib.hid (HQ3.out.up B1.out)
  have u0 := P3.out.c0
  have u1 := P3.out.c1
  have P2 := Lib.hid (HQ2.out.up B1.out)
  have z0 := P2.out.c0
  have z1 := P2.out.c1
  have z2 := P2.out.c2
  have z3 := P2.out.c3
  have f0 := P2.out.fz 0
  have f1 := P2.out.fz 1
  have f2 := P2.out.fz 2
  have f3 := P2.out.fz 3
  cases tk with
  | false =>
    have HE := Lib.hid (H0.out rfl)
    clear H0 HAD HON
    go_wp2_with fail
    exact ret_tt Tryz.results10 rfl rfl (P2.out.set4 _ _ _ _) (AP.zero HE.out (w4_below (HW.out.trans (B1.out.mono HW.out.size)) (by omega) _ _ _ _))
  | true =>
    go_wp2_with fail
    refine (HON.out _ B1.out).mono ?_
    rintro en w2 ⟨rfl, b2⟩
    have B2 := Lib.hid (B1.out.trans (b2.mono B1.out.size))
    clear b2 HON x0 x1 x2 x3 u0 u1 z0 z1 z2 z3 f0 f1 f2 f3 P1 P2 P3
    have P1 := Lib.hid (HQ1.out.up B2.out)
    have x0 := P1.out.c0
    have x1 := P1.out.c1
    have x2 := P1.out.c2
    have x3 := P1.out.c3
    have P3 := Lib.hid (HQ3.out.up B2.out)
    have u0 := P3.out.c0
    have u1 := P3.out.c1
    have P2 := Lib.hid (HQ2.out.up B2.out)
    have z0 := P2.out.c0
    have z1 := P2.out.c1
    have z2 := P2.out.c2
    have z3 := P2.out.c3
    have f0 := P2.out.fz 0
    have f1 := P2.out.fz 1
    have f2 := P2.out.fz 2
    have f3 := P2.out.fz 3
    cases rk with
    | false =>
      have HE := Lib.hid (H0.out (by first | rfl | trivial))
      clear H0 HAD
      go_wp2_with fail
      exact ret_tt Tryz.results10 rfl rfl (P2.out.set4 _ _ _ _) (AP.zero HE.out (w4_below (HW.out.trans (B2.out.mono HW.out.size)) (by omega) _ _ _ _))
    | true =>
      have HAC := Lib.hid (HAD.out (by first | rfl | trivial) (by first | rfl | trivial) _ B2.out)
      clear H0 HAD
      go_wp2_with fail
      refine HAC.out.mono ?_
      rintro en w3 ⟨⟨v, rfl, hg⟩, b3⟩
      have B3 := Lib.hid (B2.out.trans (b3.mono B2.out.size))
      obtain ⟨p1, k1, p2, n2, k2, rfl⟩ := hg.vals
      have B4 := Lib.hid (B3.out.alloc B3.out.size (.cells #[.string X.name, .int .i64 X.most, .slice p1 X.uq.length k1, .slice p2 n2 k2] 25))
      have HG := Lib.hid (hg.up ((Below.refl w3.heap.size w3).alloc (Nat.le_refl _) (.cells #[.string X.name, .int .i64 X.most, .slice p1 X.uq.length k1, .slice p2 n2 k2] 25)))
      clear b3 hg HAC x0 x1 x2 x3 u0 u1 z0 z1 z2 z3 f0 f1 f2 f3 P1 P2 P3
      have P2 := Lib.hid (HQ2.out.up B4.out)
      have z0 := P2.out.c0
      have z1 := P2.out.c1
      have z2 := P2.out.c2
      have z3 := P2.out.c3
      have f0 := P2.out.fz 0
      have f1 := P2.out.fz 1
      have f2 := P2.out.fz 2
      have f3 := P2.out.fz 3
      go_wp2_with fail
      exact ret_tt Tryz.results10 rfl rfl (P2.out.set4 _ _ _ _) ⟨⟨_, rfl, (HG.out.set4 P2.out _ _ _ _).base (HW.out.trans (B2.out.mono HW.out.size)).size⟩, w4_below (HW.out.trans (B4.out.mono HW.out.size)) (by omega) _ _ _ _⟩
set_option maxRecDepth 20000 in
set_option maxHeartbeats 8000000 in
theorem rSet_any (B B' : Nat) (T : TM) (a1 a2 : Option Addr) (c1 c2 : Nat) (r : RC) (ad : Option Addr) (cp : Nat) (w : World) (hv : TVs B w T a1 c1 a2 c2) (hs : Good T) (hd : DV B' w ad cp r.d) (hr0 : SmR r) (hzr : NZ r) : Calls Tryz.prog 12 #[tv T a1 c1 a2 c2, rv r ad cp] w (AP w (setT T r).1 (setT T r).2) := by
  obtain ⟨nm, m, uq, R⟩ := T
  show Calls Tryz.prog 12 #[.agg #[.string nm, .int .i64 m, .slice a1 uq.length c1, .slice a2 R.length c2], .agg #[.string r.id, .slice ad r.d.length cp]] w (AP w (setT ⟨nm, m, uq, R⟩ r).1 (setT ⟨nm, m, uq, R⟩ r).2)
  have hRn : R.length ≤ 900 := hs.n
  obtain ⟨W, hW⟩ : ∃ W, W = ((w.alloc (.cells #[.string nm, .int .i64 m, .slice a1 uq.length c1, .slice a2 R.length c2] 25)).alloc (.cells #[.string r.id, .slice ad r.d.length cp] 28)).alloc (.cells #[.string ⟨#[]⟩, .int .i64 0, .slice none 0 0, .slice none 0 0] 25) := ⟨_, rfl⟩
  have HW : Hid (Below w.heap.size w W) := Lib.hid (by rw [hW]; exact (((Below.refl _ _).alloc (Nat.le_refl _) _).alloc (by simp) _).alloc (by simp; omega) _)
  have HQ1 : Hid (Bx4 W w.heap.size 25 (.string nm) (.int .i64 m) (.slice a1 uq.length c1) (.slice a2 R.length c2)) := Lib.hid (by rw [hW]; exact ((bx4_new w _ _ _ _ _).up ((Below.refl _ _).alloc (Nat.le_refl _) _)).up ((Below.refl _ _).alloc (Nat.le_refl _) _))
  have HQ3 : Hid (Bx2 W (w.heap.size + 1) (.string r.id) (.slice ad r.d.length cp)) := Lib.hid (by
    rw [hW]
    have h := (bx2_new (w.alloc (.cells #[.string nm, .int .i64 m, .slice a1 uq.length c1, .slice a2 R.length c2] 25)) (.string r.id) (.slice ad r.d.length cp)).up ((Below.refl _ _).alloc (Nat.le_refl _) (.cells #[.string ⟨#[]⟩, .int .i64 0, .slice none 0 0, .slice none 0 0] 25))
    simpa using h)
  have HQ2 : Hid (Bx4 W (w.heap.size + 1 + 1) 25 (.string ⟨#[]⟩) (.int .i64 0) (.slice none 0 0) (.slice none 0 0)) := Lib.hid (by
    rw [hW]
    have h := bx4_new ((w.alloc (.cells #[.string nm, .int .i64 m, .slice a1 uq.length c1, .slice a2 R.length c2] 25)).alloc (.cells #[.string r.id, .slice ad r.d.length cp] 28)) 25 (.string ⟨#[]⟩) (.int .i64 0) (.slice none 0 0) (.slice none 0 0)
    simpa using h)
  have HSZ : Hid (w.heap.size + 3 = W.heap.size) := Lib.hid (by rw [hW]; simp)
  have hsz := HSZ.out
  have r1 : (R.length : Int) ≤ 900 := by omega
  have HMY : Hid (Calls Tryz.prog 26 #[.agg #[.string nm, .int .i64 m, .slice a1 uq.length c1, .slice a2 R.length c2]] W fun e w' => e = .returned (.bool (tabOk ⟨nm, m, uq, R⟩)) ∧ Below W.heap.size W w') := Lib.hid (rMay_any B ⟨nm, m, uq, R⟩ a1 a2 c1 c2 W (hv.below HW.out) hs.sm hs.nz)
  have HON : Hid (∀ V, Below W.heap.size W V → Calls Tryz.prog 32 #[.agg #[.string r.id, .slice ad r.d.length cp]] V fun e w' => e = .returned (.bool (recOk r)) ∧ Below V.heap.size V w') := Lib.hid (fun V k => rOne_any B' r ad cp V ((hd.below HW.out).below k) hr0 hzr)
  obtain ⟨X, e, hX⟩ : ∃ X e, setT ⟨nm, m, uq, R⟩ r = (X, e) := ⟨_, _, rfl⟩
  obtain ⟨tk, htk⟩ : ∃ t, t = tabOk ⟨nm, m, uq, R⟩ := ⟨_, rfl⟩
  obtain ⟨rk, hrk⟩ : ∃ t, t = recOk r := ⟨_, rfl⟩
  have H0 : Hid ((tk && rk) = false → (X, e) = (zT, 8)) := Lib.hid (fun h => hX.symm.trans (set_bad' (by rw [htk, hrk] at h; exact h)))
  have HAD : Hid (tk = true → rk = true → ∀ V, Below W.heap.size W V → Calls Tryz.prog 34 #[.agg #[.string nm, .int .i64 m, .slice a1 uq.length c1, .slice a2 R.length c2], .agg #[.string r.id, .slice ad r.d.length cp]] V (AP V X e)) := Lib.hid (fun h1 h2 V k => by
    have h := rTurned_any B B' ⟨nm, m, uq, R⟩ a1 a2 c1 c2 r ad cp V ((hv.below HW.out).below k) hs ((hd.below HW.out).below k) hr0 hzr (htk.symm.trans h1) (hrk.symm.trans h2)
    rw [hX] at h
    exact h)
  rw [hX]
  show Calls Tryz.prog 12 #[.agg #[.string nm, .int .i64 m, .slice a1 uq.length c1, .slice a2 R.length c2], .agg #[.string r.id, .slice ad r.d.length cp]] w (AP w X e)
  rw [← htk] at HMY
  rw [← hrk] at HON
  clear hX hv hs hd hr0 hzr htk hrk
  go_enter Tryz.func12, Tryz.ntmps12
  go_wp2_with fail
  rw [← hW]
  clear hW
  refine HMY.out.mono ?_
  rintro en w1 ⟨rfl, b1⟩
  have B1 := Lib.hid b1
  clear b1 HMY
  have P1 := Lib.hid (HQ1.out.up B1.out)
  have x0 := P1.out.c0
  have x1 := P1.out.c1
  have x2 := P1.out.c2
  have x3 := P1.out.c3
  have P3 := Lib.hid (HQ3.out.up B1.out)
  have u0 := P3.out.c0
  have u1 := P3.out.c1
  have P2 := Lib.hid (HQ2.out.up B1.out)
  have z0 := P2.out.c0
  have z1 := P2.out.c1
  have z2 := P2.out.c2
  have z3 := P2.out.c3
  have f0 := P2.out.fz 0
  have f1 := P2.out.fz 1
  have f2 := P2.out.fz 2
  have f3 := P2.out.fz 3
  cases tk with
  | false =>
    have HE := Lib.hid (H0.out rfl)
    clear H0 HAD HON
    go_wp2_with fail
    exact ret_tt Tryz.results12 rfl rfl (P2.out.set4 _ _ _ _) (AP.zero HE.out (w4_below (HW.out.trans (B1.out.mono HW.out.size)) (by omega) _ _ _ _))
  | true =>
    go_wp2_with fail
    refine (HON.out _ B1.out).mono ?_
    rintro en w2 ⟨rfl, b2⟩
    have B2 := Lib.hid (B1.out.trans (b2.mono B1.out.size))
    clear b2 HON x0 x1 x2 x3 u0 u1 z0 z1 z2 z3 f0 f1 f2 f3 P1 P2 P3
    have P1 := Lib.hid (HQ1.out.up B2.out)
    have x0 := P1.out.c0
    have x1 := P1.out.c1
    have x2 := P1.out.c2
    have x3 := P1.out.c3
    have P3 := Lib.hid (HQ3.out.up B2.out)
    have u0 := P3.out.c0
    have u1 := P3.out.c1
    have P2 := Lib.hid (HQ2.out.up B2.out)
    have z0 := P2.out.c0
    have z1 := P2.out.c1
    have z2 := P2.out.c2
    have z3 := P2.out.c3
    have f0 := P2.out.fz 0
    have f1 := P2.out.fz 1
    have f2 := P2.out.fz 2
    have f3 := P2.out.fz 3
    cases rk with
    | false =>
      have HE := Lib.hid (H0.out (by first | rfl | trivial))
      clear H0 HAD
      go_wp2_with fail
      exact ret_tt Tryz.results12 rfl rfl (P2.out.set4 _ _ _ _) (AP.zero HE.out (w4_below (HW.out.trans (B2.out.mono HW.out.size)) (by omega) _ _ _ _))
    | true =>
      have HAC := Lib.hid (HAD.out (by first | rfl | trivial) (by first | rfl | trivial) _ B2.out)
      clear H0 HAD
      go_wp2_with fail
      refine HAC.out.mono ?_
      rintro en w3 ⟨⟨v, rfl, hg⟩, b3⟩
      have B3 := Lib.hid (B2.out.trans (b3.mono B2.out.size))
      obtain ⟨p1, k1, p2, n2, k2, rfl⟩ := hg.vals
      have B4 := Lib.hid (B3.out.alloc B3.out.size (.cells #[.string X.name, .int .i64 X.most, .slice p1 X.uq.length k1, .slice p2 n2 k2] 25))
      have HG := Lib.hid (hg.up ((Below.refl w3.heap.size w3).alloc (Nat.le_refl _) (.cells #[.string X.name, .int .i64 X.most, .slice p1 X.uq.length k1, .slice p2 n2 k2] 25)))
      clear b3 hg HAC x0 x1 x2 x3 u0 u1 z0 z1 z2 z3 f0 f1 f2 f3 P1 P2 P3
      have P2 := Lib.hid (HQ2.out.up B4.out)
      have z0 := P2.out.c0
      have z1 := P2.out.c1
      have z2 := P2.out.c2
      have z3 := P2.out.c3
      have f0 := P2.out.fz 0
      have f1 := P2.out.fz 1
      have f2 := P2.out.fz 2
      have f3 := P2.out.fz 3
      go_wp2_with fail
      exact ret_tt Tryz.results12 rfl rfl (P2.out.set4 _ _ _ _) ⟨⟨_, rfl, (HG.out.set4 P2.out _ _ _ _).base (HW.out.trans (B2.out.mono HW.out.size)).size⟩, w4_below (HW.out.trans (B4.out.mono HW.out.size)) (by omega) _ _ _ _⟩
set_option maxRecDepth 20000 in
set_option maxHeartbeats 8000000 in
theorem rGet_any (B : Nat) (T : TM) (a1 a2 : Option Addr) (c1 c2 : Nat) (s : ByteArray) (w : World) (hv : TVs B w T a1 c1 a2 c2) (hs : Good T) : Calls Tryz.prog 8 #[tv T a1 c1 a2 c2, .string s] w (GT w (getT T s)) := by
  obtain ⟨nm, m, uq, R⟩ := T
  show Calls Tryz.prog 8 #[.agg #[.string nm, .int .i64 m, .slice a1 uq.length c1, .slice a2 R.length c2], .string s] w (GT w (getT ⟨nm, m, uq, R⟩ s))
  have hRn : R.length ≤ 900 := hs.n
  obtain ⟨W, hW⟩ : ∃ W, W = (w.alloc (.cells #[.string nm, .int .i64 m, .slice a1 uq.length c1, .slice a2 R.length c2] 25)).alloc (.cells #[.string ⟨#[]⟩, .slice none 0 0] 28) := ⟨_, rfl⟩
  have HW : Hid (Below w.heap.size w W) := Lib.hid (by rw [hW]; exact ((Below.refl _ _).alloc (Nat.le_refl _) _).alloc (by simp) _)
  have HQ1 : Hid (Bx4 W w.heap.size 25 (.string nm) (.int .i64 m) (.slice a1 uq.length c1) (.slice a2 R.length c2)) := Lib.hid (by rw [hW]; exact (bx4_new w _ _ _ _ _).up ((Below.refl _ _).alloc (Nat.le_refl _) _))
  have HQ2 : Hid (Bx2 W (w.heap.size + 1) (.string ⟨#[]⟩) (.slice none 0 0)) := Lib.hid (by
    rw [hW]
    have h := bx2_new (w.alloc (.cells #[.string nm, .int .i64 m, .slice a1 uq.length c1, .slice a2 R.length c2] 25)) (.string ⟨#[]⟩) (.slice none 0 0)
    simpa using h)
  have HSZ : Hid (w.heap.size + 2 = W.heap.size) := Lib.hid (by rw [hW]; simp)
  have hsz := HSZ.out
  have r1 : (R.length : Int) ≤ 900 := by omega
  have HMY : Hid (Calls Tryz.prog 26 #[.agg #[.string nm, .int .i64 m, .slice a1 uq.length c1, .slice a2 R.length c2]] W fun e w' => e = .returned (.bool (tabOk ⟨nm, m, uq, R⟩)) ∧ Below W.heap.size W w') := Lib.hid (rMay_any B ⟨nm, m, uq, R⟩ a1 a2 c1 c2 W (hv.below HW.out) hs.sm hs.nz)
  have HRW : Hid (∀ V, Below W.heap.size W V → Calls Tryz.prog 27 #[.agg #[.string nm, .int .i64 m, .slice a1 uq.length c1, .slice a2 R.length c2], .string s] V fun e w' => (∃ i, e = .returned (.int .i64 i) ∧ RowP R s i) ∧ Below V.heap.size V w') := Lib.hid (fun V k => rRow_any B ⟨nm, m, uq, R⟩ a1 a2 c1 c2 s V ((hv.below HW.out).below k) hs.sm)
  have HTW := Lib.hid (fun i (hi : i < R.length) ad cp V (hd : DV B V ad cp (rl R i).d) => rtw_any B (rl R i) ad cp V hd (by have h : (rl R i).d.length ≤ 100000 := (hs.sm.each (rl R i) (rl_mem hi)).2.1; omega))
  unfold rv at HTW
  have HRV := Lib.hid (fun V (k : Below W.heap.size W V) => (hv.r.below HW.out).below k)
  obtain ⟨O, hO⟩ : ∃ O, O = getT ⟨nm, m, uq, R⟩ s := ⟨_, rfl⟩
  obtain ⟨tk, htk⟩ : ∃ t, t = tabOk ⟨nm, m, uq, R⟩ := ⟨_, rfl⟩
  have H0 : Hid (tk = false → O = none) := Lib.hid (fun h => by rw [hO]; unfold getT; rw [← htk, h]; rfl)
  have H1 : Hid (tk = true → O = fndR R s) := Lib.hid (fun h => by rw [hO]; unfold getT; rw [← htk, h]; rfl)
  have H2 : Hid (¬ s ∈ idsR R → fndR R s = none) := Lib.hid (fun h => List.find?_eq_none.2 (fun x hx e => h ((idsR_mem _ _).2 ⟨x, hx, by simpa using e⟩)))
  have HZ : Hid (∀ W', Below w.heap.size w W' → O = none → GT w O (.returned (.tuple #[.agg #[.string ⟨#[]⟩, .slice none 0 0], .bool false])) W') := Lib.hid (fun W' k h => by
    subst h
    exact ⟨none, 0, rfl, ⟨fun i hi => absurd hi (Nat.not_lt_zero i), Nat.le_refl _, Nat.zero_le _, fun _ => ⟨rfl, rfl⟩, fun _ _ e => (by cases e)⟩, k⟩)
  rw [← hO]
  rw [← htk] at HMY
  clear hv hs htk hO
  go_enter Tryz.func8, Tryz.ntmps8
  go_wp2_with fail
  rw [← hW]
  clear hW
  refine HMY.out.mono ?_
  rintro en w1 ⟨rfl, b1⟩
  have B1 := Lib.hid b1
  clear b1 HMY
  have P1 := Lib.hid (HQ1.out.up B1.out)
  have x0 := P1.out.c0
  have x1 := P1.out.c1
  have x2 := P1.out.c2
  have x3 := P1.out.c3
  have P2 := Lib.hid (HQ2.out.up B1.out)
  have z0 := P2.out.c0
  have z1 := P2.out.c1
  have f0 := P2.out.fz 0
  have f1 := P2.out.fz 1
  cases tk with
  | false =>
    have HE := Lib.hid (H0.out rfl)
    clear H0 H1 H2
    go_wp2_with fail
    exact ret_rt Tryz.results8 rfl rfl (P2.out.set _ _) (HZ.out _ (set2_below (HW.out.trans (B1.out.mono HW.out.size)) _ (by omega) _ _) HE.out)
  | true =>
    go_wp2_with fail
    refine (HRW.out _ B1.out).mono ?_
    rintro en w2 ⟨⟨i, rfl, hrow⟩, b2⟩
    have B2 := Lib.hid (B1.out.trans (b2.mono B1.out.size))
    clear b2 x0 x1 x2 x3 z0 z1 f0 f1 P1 P2
    have P1 := Lib.hid (HQ1.out.up B2.out)
    have x0 := P1.out.c0
    have x1 := P1.out.c1
    have x2 := P1.out.c2
    have x3 := P1.out.c3
    have P2 := Lib.hid (HQ2.out.up B2.out)
    have z0 := P2.out.c0
    have z1 := P2.out.c1
    have f0 := P2.out.fz 0
    have f1 := P2.out.fz 1
    rcases row_yes hrow with ⟨hin, hi0, _⟩ | ⟨hni, rfl⟩
    rotate_left
    · have HE := Lib.hid ((H1.out (by first | rfl | trivial)).trans (H2.out hni))
      clear hrow hni H0 H1 H2
      go_wp2_with fail
      exact ret_rt Tryz.results8 rfl rfl (P2.out.set _ _) (HZ.out _ (set2_below (HW.out.trans (B2.out.mono HW.out.size)) _ (by omega) _ _) HE.out)
    · have hi1 : ¬ i < 0 := by omega
      have HO := Lib.hid (H1.out (by first | rfl | trivial))
      have HIN := Lib.hid hin
      clear hrow hin H0 H1 H2 HZ
      have B2d := Lib.hid (B2.out.drew)
      have HRC := Lib.hid ((HRW.out _ B2d.out).mono (R' := fun e w' => (∃ k : Nat, e = .returned (.int .i64 k) ∧ k < R.length ∧ fndR R s = some (rl R k)) ∧ Below w2.drew.heap.size w2.drew w') (fun e w' h => by
        obtain ⟨⟨i, he, hr⟩, hb⟩ := h
        rcases row_yes hr with ⟨_, _, k, rfl, hk, hf⟩ | ⟨hni, _⟩
        · exact ⟨⟨k, he, hk, hf⟩, hb⟩
        · exact absurd HIN.out hni))
      have HR2 := Lib.hid (HRV.out _ B2.out)
      have hn0 : 0 < R.length := by
        obtain ⟨x, hx, _⟩ := (idsR_mem _ _).1 HIN.out
        obtain ⟨j, hj, _⟩ := rl_of hx
        omega
      obtain ⟨rb, ro, rfl⟩ := HR2.out.addr hn0
      go_wp2_with fail
      go_region_law (first
        | (go_simp; go_at_call 27; refine HRC.out.mono ?_; rintro en w3 ⟨⟨k, rfl, hk, hf⟩, b3⟩; have B3 := Lib.hid (B2d.out.trans (b3.mono B2d.out.size)); have HF := Lib.hid (HO.out.trans hf); have hk1 : (k : Int) < (R.length : Int) := Int.ofNat_lt.2 hk; have hk2 : (0 : Int) ≤ (k : Int) := Int.natCast_nonneg k; obtain ⟨ai, ci, _, _, d0, d1, dv⟩ := (HRV.out _ B3.out).at_ hk; have HTC := Lib.hid (HTW.out k hk ai ci w3 dv); have hy3 := (HQ1.out.up B3.out).c3; clear b3 dv hf)
        | (go_simp; go_at_call 23; refine HTC.out.mono ?_; rintro en w4 ⟨ae, ce, rfl, d5, b5⟩; have B4 := Lib.hid (B3.out.trans (b5.mono B3.out.size)); have D5 := Lib.hid (ownsRow_mono d5 B3.out.size); have P4 := Lib.hid (HQ2.out.up B4.out); have v0 := P4.out.c0; have v1 := P4.out.c1; have g0 := P4.out.fz 0; have g1 := P4.out.fz 1; clear d5 b5))
      all_goals
        go_wp2_with fail
        refine ret_rt Tryz.results8 rfl rfl (P4.out.set _ _) ?_
        rw [HF.out]
        exact ⟨ae, ce, rfl, (own_dvs rfl (own_setL (own_setL D5.out (by omega)) (by omega))).mono (Nat.zero_le _), set2_below (HW.out.trans (B4.out.mono HW.out.size)) _ (by omega) _ _⟩
end Go.Proofs.YtfigebepeniikaaGreat
/- Layer 27: the law's spoil. -/
namespace Go.Proofs.YtfigebepeniikaaGreat
open Go.RowKit Go.Maps Go.Shelf
/-- Only blocks from lo on, below hi, were written. -/
structure InB (lo hi : Nat) (w w' : World) : Prop where
  os : w'.os = w.os
  tape : w'.tape = w.tape
  output : w'.output = w.output
  size : w'.heap.size = w.heap.size
  block : ∀ b, b < lo ∨ hi ≤ b → w'.heap[b]? = w.heap[b]?
theorem InB.refl (lo hi : Nat) (w : World) : InB lo hi w w := ⟨rfl, rfl, rfl, rfl, fun _ _ => rfl⟩
theorem InB.set {lo hi q k : Nat} {w w' : World} (h : InB lo hi w w') (h1 : lo ≤ q) (h2 : q < hi) (v : Value) : InB lo hi w (w'.setCell ⟨q, k, none⟩ v) :=
  ⟨h.os, h.tape, h.output, by simpa [World.setCell] using h.size, fun b hb => by rw [RowKit.Below.heap_setCell _ _ _ _ (by show b ≠ q; omega)]; exact h.block b hb⟩
/-- A block of cells of a type. -/
def Blk (w : World) (lo hi : Nat) (a : Option Addr) (t : TypeId) (n : Nat) : Prop := n = 0 ∨ ∃ b arr, a = some ⟨b, 0, none⟩ ∧ lo ≤ b ∧ b < hi ∧ w.heap[b]? = some (.cells arr t) ∧ n ≤ arr.size
def RBk (w : World) (lo hi : Nat) (a : Option Addr) (n : Nat) : Prop := n = 0 ∨ ∃ b arr, a = some ⟨b, 0, none⟩ ∧ lo ≤ b ∧ b < hi ∧ w.heap[b]? = some (.cells arr 28) ∧ n * 2 ≤ arr.size ∧ ∀ i, i < n → ∃ ad l cp, arr[i * 2 + 1]? = some (.slice ad l cp) ∧ l ≤ 1000000 ∧ Blk w lo hi ad 47 (l * 5)
theorem blk_set {w : World} {lo hi q k n : Nat} {a : Option Addr} {t t2 : TypeId} {cs : Array Value} (h : Blk w lo hi a t n) (hq : w.heap[q]? = some (.cells cs t2)) (v : Value) : Blk (w.setCell ⟨q, k, none⟩ v) lo hi a t n := by
  rcases h with h | ⟨b, arr, e, h1, h2, h3, h4⟩
  · exact .inl h
  · by_cases hb : b = q
    · subst hb
      rw [hq] at h3
      simp only [Option.some.injEq, Obj.cells.injEq] at h3
      obtain ⟨rfl, rfl, _⟩ := h3
      exact .inr ⟨b, _, e, h1, h2, set_heap w b k v _ _ hq, by simpa using h4⟩
    · exact .inr ⟨b, arr, e, h1, h2, by rw [RowKit.Below.heap_setCell _ _ _ _ hb]; exact h3, h4⟩
theorem rbk_data {w : World} {lo hi q k n : Nat} {a : Option Addr} {t2 : TypeId} {cs : Array Value} (h : RBk w lo hi a n) (hq : w.heap[q]? = some (.cells cs t2)) (ht : t2 ≠ 28) (v : Value) : RBk (w.setCell ⟨q, k, none⟩ v) lo hi a n := by
  rcases h with h | ⟨b, arr, e, h1, h2, h3, h4, h5⟩
  · exact .inl h
  · have hb : b ≠ q := fun e => by
      subst e
      rw [hq] at h3
      simp only [Option.some.injEq, Obj.cells.injEq] at h3
      exact ht h3.2.1
    refine .inr ⟨b, arr, e, h1, h2, by rw [RowKit.Below.heap_setCell _ _ _ _ hb]; exact h3, h4, fun i hi => ?_⟩
    obtain ⟨ad, l, cp, g1, g2, g3⟩ := h5 i hi
    exact ⟨ad, l, cp, g1, g2, blk_set g3 hq v⟩
theorem rbk_id {w : World} {lo hi n q j : Nat} (h : RBk w lo hi (some ⟨q, 0, none⟩) n) (hn : n ≠ 0) (v : Value) : RBk (w.setCell ⟨q, j * 2, none⟩ v) lo hi (some ⟨q, 0, none⟩) n := by
  rcases h with h | ⟨b, arr, e, h1, h2, h3, h4, h5⟩
  · exact absurd h hn
  · cases e
    refine .inr ⟨q, _, rfl, h1, h2, set_heap w q (j * 2) v _ _ h3, by simpa using h4, fun i hi => ?_⟩
    obtain ⟨ad, l, cp, g1, g2, g3⟩ := h5 i hi
    refine ⟨ad, l, cp, ?_, g2, blk_set g3 h3 v⟩
    rw [Array.getElem?_setIfInBounds_ne (by omega)]; exact g1
theorem RBk.at_ {w : World} {lo hi n q i : Nat} (h : RBk w lo hi (some ⟨q, 0, none⟩) n) (hi2 : i < n) : lo ≤ q ∧ q < hi ∧ (∃ x, w.cell? ⟨q, i * 2, none⟩ = some x) ∧ (∃ arr, w.heap[q]? = some (.cells arr 28)) ∧ w.frozen? ⟨q, i * 2, none⟩ = false ∧ ∃ ad l cp, w.cell? ⟨q, i * 2 + 1, none⟩ = some (.slice ad l cp) ∧ l ≤ 1000000 ∧ Blk w lo hi ad 47 (l * 5) := by
  rcases h with h | ⟨b, arr, e, h1, h2, h3, h4, h5⟩
  · omega
  · cases e
    obtain ⟨ad, l, cp, g1, g2, g3⟩ := h5 i hi2
    refine ⟨h1, h2, ⟨arr[i * 2]'(by omega), ?_⟩, ⟨arr, h3⟩, ?_, ad, l, cp, ?_, g2, g3⟩
    · simp [World.cell?, h3]
    · simp [World.frozen?, h3]
    · simp [World.cell?, h3]; exact g1
theorem Blk.at_ {w : World} {lo hi n b k : Nat} {t : TypeId} {off : Nat} (h : Blk w lo hi (some ⟨b, off, none⟩) t n) (hk : k < n) : off = 0 ∧ lo ≤ b ∧ b < hi ∧ (∃ x, w.cell? ⟨b, k, none⟩ = some x) ∧ w.frozen? ⟨b, k, none⟩ = false ∧ ∃ arr, w.heap[b]? = some (.cells arr t) := by
  rcases h with h | ⟨b', arr, e, h1, h2, h3, h4⟩
  · omega
  · cases e
    refine ⟨rfl, h1, h2, ⟨arr[k]'(by omega), ?_⟩, ?_, arr, h3⟩
    · simp [World.cell?, h3]
    · simp [World.frozen?, h3]
theorem Blk.addr {w : World} {lo hi n : Nat} {a : Option Addr} {t : TypeId} (h : Blk w lo hi a t n) (h0 : n ≠ 0) : ∃ b, a = some ⟨b, 0, none⟩ := by
  rcases h with h | ⟨b, _, e, _⟩
  · exact absurd h h0
  · exact ⟨b, e⟩
theorem RBk.addr {w : World} {lo hi n : Nat} {a : Option Addr} (h : RBk w lo hi a n) (h0 : n ≠ 0) : ∃ b, a = some ⟨b, 0, none⟩ := by
  rcases h with h | ⟨b, _, e, _⟩
  · exact absurd h h0
  · exact ⟨b, e⟩
theorem Blk.kept {w w' : World} {lo hi n : Nat} {a : Option Addr} {t : TypeId} (h : Blk w lo hi a t n) (k : ∀ b, lo ≤ b → b < hi → w'.heap[b]? = w.heap[b]?) : Blk w' lo hi a t n := by
  rcases h with h | ⟨b, arr, e, h1, h2, h3, h4⟩
  · exact .inl h
  · exact .inr ⟨b, arr, e, h1, h2, by rw [k b h1 h2]; exact h3, h4⟩
theorem RBk.kept {w w' : World} {lo hi n : Nat} {a : Option Addr} (h : RBk w lo hi a n) (k : ∀ b, lo ≤ b → b < hi → w'.heap[b]? = w.heap[b]?) : RBk w' lo hi a n := by
  rcases h with h | ⟨b, arr, e, h1, h2, h3, h4, h5⟩
  · exact .inl h
  · refine .inr ⟨b, arr, e, h1, h2, by rw [k b h1 h2]; exact h3, h4, fun i hi => ?_⟩
    obtain ⟨ad, l, cp, g1, g2, g3⟩ := h5 i hi
    exact ⟨ad, l, cp, g1, g2, g3.kept k⟩
/-- What spoil leaves. -/
structure SpP (lo hi : Nat) (w w' : World) : Prop where
  os : w'.os = w.os
  tape : w'.tape = w.tape
  output : w'.output = w.output
  size : w.heap.size ≤ w'.heap.size
  block : ∀ b, b < w.heap.size → b < lo ∨ hi ≤ b → w'.heap[b]? = w.heap[b]?
set_option maxRecDepth 20000 in
set_option maxHeartbeats 4000000 in
theorem spoilT_any (lo hi : Nat) (nm : ByteArray) (m : Int) (a1 a2 : Option Addr) (nu n c1 c2 : Nat) (w : World) (hu : Blk w lo hi a1 9 nu) (hr : RBk w lo hi a2 n) (hh : hi ≤ w.heap.size) (hlo : lo ≤ hi) (hn : n ≤ 1000) (hnu : nu ≤ 1000) : Calls Tryz.prog 21 #[.agg #[.string nm, .int .i64 m, .slice a1 nu c1, .slice a2 n c2]] w fun e w' => e = .returned (.tuple #[]) ∧ SpP lo hi w w' := by
  obtain ⟨W, hW⟩ : ∃ W, W = w.alloc (.cells #[.string nm, .int .i64 m, .slice a1 nu c1, .slice a2 n c2] 25) := ⟨_, rfl⟩
  have HW : Hid (Below w.heap.size w W) := Lib.hid (by rw [hW]; exact (Below.refl _ _).alloc (Nat.le_refl _) _)
  have HQ : Hid (Bx4 W w.heap.size 25 (.string nm) (.int .i64 m) (.slice a1 nu c1) (.slice a2 n c2)) := Lib.hid (by rw [hW]; exact bx4_new w _ _ _ _ _)
  have HU := Lib.hid (hu.kept (w' := W) (fun b _ hb => HW.out.block b (by omega)))
  have HR := Lib.hid (hr.kept (w' := W) (fun b _ hb => HW.out.block b (by omega)))
  have HBX : Hid (∀ V, InB lo hi W V → Bx4 V w.heap.size 25 (.string nm) (.int .i64 m) (.slice a1 nu c1) (.slice a2 n c2)) := Lib.hid (fun V k => by
    have h := HQ.out
    unfold Bx4 at h ⊢
    rw [k.block _ (.inr hh)]; exact h)
  have HFIN : Hid (∀ V, InB lo hi W V → SpP lo hi w V) := Lib.hid (fun V k => ⟨k.os.trans HW.out.os, k.tape.trans HW.out.tape, k.output.trans HW.out.output, by rw [k.size]; exact HW.out.size, fun b hb h => (k.block b h).trans (HW.out.block b hb)⟩)
  have hn1 : (n : Int) ≤ 1000 := by omega
  have hnu1 : (nu : Int) ≤ 1000 := by omega
  clear hu hr hh
  go_enter Tryz.func21, Tryz.ntmps21
  go_wp2_with fail
  rw [← hW]
  clear hW HQ
  go_loopw [2, 3] (fun v2 _ wr => ∃ i : Nat, i ≤ n ∧ v2 = .int .i64 i ∧ Hid (InB lo hi W wr) ∧ Hid (RBk wr lo hi a2 n) ∧ Hid (Blk wr lo hi a1 9 nu)) (fun v2 _ _ => n - (intOf v2).toNat)
  case atStart => exact ⟨0, Nat.zero_le _, rfl, Lib.hid (InB.refl _ _ _), HR, HU⟩
  case round =>
    obtain ⟨i, hi', rfl, HI, HRr, HUr⟩ := hrel
    have Q1 := Lib.hid (HBX.out _ HI.out)
    have x3 := Q1.out.c3
    by_cases hlt : i < n
    · have hlt' : (i : Int) < n := by omega
      have hge : (0 : Int) ≤ i := by omega
      obtain ⟨rb, rfl⟩ := HRr.out.addr (by omega)
      obtain ⟨_, _, _, _, _, ad0, l0, cp0, s0, hl0, hbl0⟩ := HRr.out.at_ hlt
      have hl1 : (l0 : Int) ≤ 1000000 := by omega
      go_wp2_with fail
      clear x3 Q1
      go_loopw [3] (fun v3 wt => ∃ k : Nat, k ≤ l0 ∧ v3 = .int .i64 k ∧ Hid (InB lo hi W wt) ∧ Hid (RBk wt lo hi (some ⟨rb, 0, none⟩) n) ∧ Hid (Blk wt lo hi a1 9 nu) ∧ Hid (wt.cell? ⟨rb, i * 2 + 1, none⟩ = some (.slice ad0 l0 cp0)) ∧ Hid (Blk wt lo hi ad0 47 (l0 * 5))) (fun v3 _ => l0 - (intOf v3).toNat)
      case atStart => exact ⟨0, Nat.zero_le _, rfl, HI, HRr, HUr, Lib.hid s0, Lib.hid hbl0⟩
      case round =>
        obtain ⟨k, hk, rfl, HI2, HR2, HU2, HC2, HD2⟩ := hrel
        have Q1 := Lib.hid (HBX.out _ HI2.out)
        have x3 := Q1.out.c3
        have e1 := HC2.out
        by_cases hkt : k < l0
        · have hkt' : (k : Int) < l0 := by omega
          have hgk : (0 : Int) ≤ k := by omega
          obtain ⟨db, rfl⟩ := HD2.out.addr (by omega)
          obtain ⟨_, g1, g2, ⟨ux, g3⟩, g4, uarr, g5⟩ := HD2.out.at_ (k := k * 5 + 4) (by omega)
          have HI3 := Lib.hid (HI2.out.set (k := k * 5 + 4) g1 g2 (.int .i64 (-7)))
          have HU3 := Lib.hid (blk_set (k := k * 5 + 4) HU2.out g5 (.int .i64 (-7)))
          have HR3 := Lib.hid (rbk_data (k := k * 5 + 4) HR2.out g5 (by decide) (.int .i64 (-7)))
          have HD3 := Lib.hid (blk_set (k := k * 5 + 4) HD2.out g5 (.int .i64 (-7)))
          obtain ⟨_, _, _, ⟨rarr, hra⟩, _⟩ := HR2.out.at_ hlt
          have HC3 : Hid ((wr.setCell ⟨db, k * 5 + 4, none⟩ (.int .i64 (-7))).cell? ⟨rb, i * 2 + 1, none⟩ = some (.slice (some ⟨db, 0, none⟩) l0 cp0)) := Lib.hid (by
            have hne : rb ≠ db := fun e => by
              subst e
              rw [hra] at g5
              simp only [Option.some.injEq, Obj.cells.injEq] at g5
              exact absurd g5.2.1 (by decide)
            have h := HC2.out
            simp only [World.cell?] at h ⊢
            rw [RowKit.Below.heap_setCell _ _ _ _ hne]
            exact h)
          clear g5 hra
          go_wp2_with fail
          go_roundw
          case rel => exact ⟨k + 1, by omega, by go_num, HI3, HR3, HU3, HC3, HD3⟩
          case measure => simp [intOf]; omega
        · have hke : k = l0 := by omega
          subst hke
          have hz : ¬ ((k : Int) < (k : Int)) := by omega
          obtain ⟨g1, g2, ⟨ux, g3⟩, ⟨rarr, hra⟩, g4, _⟩ := HR2.out.at_ hlt
          have HI3 := Lib.hid (HI2.out.set (k := i * 2) g1 g2 (.string ⟨#[115, 112, 111, 105, 108, 116]⟩))
          have HU3 := Lib.hid (blk_set (k := i * 2) HU2.out hra (.string ⟨#[115, 112, 111, 105, 108, 116]⟩))
          have HR3 := Lib.hid (rbk_id (j := i) HR2.out (by omega) (.string ⟨#[115, 112, 111, 105, 108, 116]⟩))
          clear hra
          go_wp2_with fail
          go_roundw
          case rel => exact ⟨i + 1, by omega, by go_num, HI3, HR3, HU3⟩
          case measure => simp [intOf]; omega
    · have him : i = n := by omega
      subst him
      have hz : ¬ ((i : Int) < (i : Int)) := by omega
      go_wp2_with fail
      clear x3 Q1
      go_loopw [4] (fun v4 ws => ∃ k : Nat, k ≤ nu ∧ v4 = .int .i64 k ∧ Hid (InB lo hi W ws) ∧ Hid (Blk ws lo hi a1 9 nu)) (fun v4 _ => nu - (intOf v4).toNat)
      case atStart => exact ⟨0, Nat.zero_le _, rfl, HI, HUr⟩
      case round =>
        obtain ⟨k, hk, rfl, HI2, HU2⟩ := hrel
        have Q1 := Lib.hid (HBX.out _ HI2.out)
        have x2 := Q1.out.c2
        by_cases hkt : k < nu
        · have hkt' : (k : Int) < nu := by omega
          have hgk : (0 : Int) ≤ k := by omega
          obtain ⟨ub, rfl⟩ := HU2.out.addr (by omega)
          obtain ⟨_, g1, g2, ⟨ux, g3⟩, g4, uarr, g5⟩ := HU2.out.at_ hkt
          have HI3 := Lib.hid (HI2.out.set (k := k) g1 g2 (.string ⟨#[115, 112, 111, 105, 108, 116]⟩))
          have HU3 := Lib.hid (blk_set (k := k) HU2.out g5 (.string ⟨#[115, 112, 111, 105, 108, 116]⟩))
          clear g5
          go_wp2_with fail
          go_roundw
          case rel => exact ⟨k + 1, by omega, by go_num, HI3, HU3⟩
          case measure => simp [intOf]; omega
        · have hke : k = nu := by omega
          subst hke
          have hz : ¬ ((k : Int) < (k : Int)) := by omega
          have HF := Lib.hid (HFIN.out _ HI2.out)
          go_wp2_with fail
          go_end0
          exact ⟨rfl, HF.out⟩
end Go.Proofs.YtfigebepeniikaaGreat
/- Layer 27: Same of tables. -/
namespace Go.Proofs.YtfigebepeniikaaGreat
open Go.RowKit Go.Maps
set_option maxRecDepth 20000 in
theorem rowSame_any (B B' : Nat) (r s : RC) (ad ae : Option Addr) (cp ce : Nat) (w : World) (hd : DV B w ad cp r.d) (he : DV B' w ae ce s.d) (hn : r.d.length ≤ maxLen) : Calls Tryz.prog 42 #[rv r ad cp, rv s ae ce] w fun e w' => e = .returned (.bool (decide (r = s))) ∧ Below w.heap.size w w' := by
  obtain ⟨id, d⟩ := r
  obtain ⟨jd, f⟩ := s
  show Calls Tryz.prog 42 #[.agg #[.string id, .slice ad d.length cp], .agg #[.string jd, .slice ae f.length ce]] w fun e w' => e = .returned (.bool (decide (RC.mk id d = RC.mk jd f))) ∧ Below w.heap.size w w'
  have HS := Lib.hid (fun W (k : Below w.heap.size w W) => csame_any ad ae d.length f.length cp ce (gl d) (gl f) W (hd.1.below k) (he.1.below k) hn)
  have HB : Hid (Below w.heap.size w ((w.alloc (.cells #[.string id, .slice ad d.length cp] 28)).alloc (.cells #[.string jd, .slice ae f.length ce] 28))) := Lib.hid (((Below.refl _ _).alloc (Nat.le_refl _) _).alloc (by simp) _)
  have HX : Hid (decide (RC.mk id d = RC.mk jd f) = (decide (id = jd) && smB (gl d) d.length (gl f) f.length)) := Lib.hid (by
    rw [sm_dec, Bool.eq_iff_iff, Bool.and_eq_true, decide_eq_true_eq, decide_eq_true_eq, decide_eq_true_eq, RC.mk.injEq])
  obtain ⟨x, hx⟩ : ∃ x, x = smB (gl d) d.length (gl f) f.length := ⟨_, rfl⟩
  rw [← hx] at HS HX
  rw [HX.out]
  obtain ⟨n, hn'⟩ : ∃ n, n = d.length := ⟨_, rfl⟩
  obtain ⟨m, hm'⟩ : ∃ n, n = f.length := ⟨_, rfl⟩
  rw [← hn', ← hm'] at HS HB
  rw [← hn', ← hm']
  clear hx hn' hm' hd hn he HX
  by_cases h1 : id = jd
  · rw [decide_eq_true h1, Bool.true_and]
    subst h1
    go_enter Tryz.func42, Tryz.ntmps42
    go_wp2_with fail
    refine (HS.out _ HB.out).mono ?_
    rintro e w' ⟨rfl, b⟩
    have B1 := Lib.hid (HB.out.trans (b.mono HB.out.size))
    clear b
    go_wp2_with fail
    go_ret
    exact ⟨rfl, B1.out⟩
  · rw [decide_eq_false h1, Bool.false_and]
    have he2 : (id.toList == jd.toList) = false := by rw [str_is]; simpa using h1
    clear h1
    go_enter Tryz.func42, Tryz.ntmps42
    go_wp2_with fail
    go_ret
    exact ⟨rfl, HB.out⟩
set_option maxRecDepth 20000 in
theorem strsEq_any (a1 a2 : Option Addr) (c1 c2 : Nat) (L M : List ByteArray) (w : World) (hv1 : Ord.SView w a1 L.length L) (hv2 : Ord.SView w a2 M.length M) (hn : L.length ≤ maxLen) : Calls Tryz.prog 44 #[.slice a1 L.length c1, .slice a2 M.length c2] w fun r w' => r = .returned (.bool (decide (L = M))) ∧ Below w.heap.size w w' := by
  unfold maxLen at hn
  obtain ⟨x, hx⟩ : ∃ x, x = decide (L = M) := ⟨_, rfl⟩
  rw [← hx]
  replace hx := Lib.hid hx
  have HV1 := Lib.hid hv1
  have HV2 := Lib.hid hv2
  obtain ⟨n1, hn1⟩ : ∃ n, n = L.length := ⟨_, rfl⟩
  obtain ⟨n2, hn2⟩ : ∃ n, n = M.length := ⟨_, rfl⟩
  rw [← hn1, ← hn2]
  rw [← hn1] at hn
  have HN1 := Lib.hid hn1
  have HN2 := Lib.hid hn2
  clear hv1 hv2 hn1 hn2
  by_cases he : n1 = n2
  · subst he
    have hn' : (n1 : Int) ≤ 9223372036854775807 := by omega
    have hne : ((n1 : Int) != n1) = false := by simp
    go_enter Tryz.func44, Tryz.ntmps44
    go_wp2_with fail
    go_loopw [5, 13] (fun _ v5 wr => ∃ i : Nat, i ≤ n1 ∧ v5 = .int .i64 i ∧ Hid (∀ j, j < i → Ord.nth L j = Ord.nth M j) ∧ Hid (Below w.heap.size w wr)) (fun _ v5 _ => n1 - (intOf v5).toNat)
    case atStart => exact ⟨0, Nat.zero_le _, rfl, Lib.hid (fun j hj => by omega), Lib.hid (Below.refl _ _)⟩
    case round =>
      obtain ⟨i, hi, rfl, HN, HB⟩ := hrel
      by_cases h1 : i < n1
      · obtain ⟨b, off, rfl⟩ := sv_addr HV1.out (by rw [← HN1.out]; omega)
        obtain ⟨b', off', rfl⟩ := sv_addr HV2.out (by rw [← HN2.out]; omega)
        obtain ⟨_, d0⟩ := sv_at (HV1.out.below HB.out) (i := i) (by rw [← HN1.out]; exact h1)
        obtain ⟨_, e0⟩ := sv_at (HV2.out.below HB.out) (i := i) (by rw [← HN2.out]; exact h1)
        have hg1 : (i : Int) < n1 := by omega
        have hg0 : (0 : Int) ≤ i := by omega
        obtain ⟨p, hp⟩ : ∃ c, c = Ord.nth L i := ⟨_, rfl⟩
        obtain ⟨r, hr⟩ : ∃ c, c = Ord.nth M i := ⟨_, rfl⟩
        rw [← hp] at d0
        rw [← hr] at e0
        have HP := Lib.hid hp
        have HQ := Lib.hid hr
        by_cases hcd : p = r
        · have HN2' : Hid (∀ j, j < i + 1 → Ord.nth L j = Ord.nth M j) := Lib.hid (fun j hj => by
            by_cases e : j = i
            · subst e; rw [← HP.out, ← HQ.out]; exact hcd
            · exact HN.out j (by omega))
          subst hcd
          have hq : (p.toList == p.toList) = true := by simp
          clear HN hp hr
          go_wp2_with fail
          go_quiet (fail)
          go_wp2_with fail
          go_roundw
          case rel => exact ⟨i + 1, by omega, by go_num, HN2', Lib.hid ⟨HB.out.os, HB.out.tape, HB.out.output, HB.out.size, HB.out.block⟩⟩
          case measure => simp [intOf]; omega
        · have HX : Hid (x = false) := Lib.hid (by
            rw [hx.out]
            refine decide_eq_false (fun e => hcd ?_)
            rw [HP.out, HQ.out, e])
          have hq : (p.toList == r.toList) = false := by rw [str_is]; simpa using hcd
          clear HN hp hr hcd
          go_wp2_with fail
          go_quiet (fail)
          go_wp2_with fail
          go_ret
          exact ⟨ret_bool HX.out.symm, ⟨HB.out.os, HB.out.tape, HB.out.output, HB.out.size, HB.out.block⟩⟩
      · have e1 : i = n1 := by omega
        subst e1
        have HX : Hid (x = true) := Lib.hid (by rw [hx.out]; exact decide_eq_true (nth_ext rfl (by rw [← HN1.out, ← HN2.out]) (fun j hj => HN.out j (by rw [HN1.out]; exact hj))))
        have hg1 : ¬ (i : Int) < i := by omega
        clear HN
        go_wp2_with fail
        go_ret
        exact ⟨ret_bool HX.out.symm, HB.out⟩
  · have HX : Hid (x = false) := Lib.hid (by rw [hx.out]; exact decide_eq_false (fun e => he (by rw [HN1.out, HN2.out, e])))
    have hne : ((n1 : Int) != n2) = true := by simp; omega
    go_enter Tryz.func44, Tryz.ntmps44
    go_wp2_with fail
    go_ret
    exact ⟨ret_bool HX.out.symm, Below.refl _ _⟩
set_option maxRecDepth 20000 in
set_option maxHeartbeats 1000000 in
theorem recsEq_any (B B' : Nat) (a1 a2 : Option Addr) (c1 c2 : Nat) (L M : List RC) (w : World) (hv1 : RV B w a1 L) (hv2 : RV B' w a2 M) (hm : ∀ r ∈ L, r.d.length ≤ maxLen) (hn : L.length ≤ maxLen) : Calls Tryz.prog 45 #[.slice a1 L.length c1, .slice a2 M.length c2, .func (.func 42) #[] #[]] w fun r w' => r = .returned (.bool (decide (L = M))) ∧ Below w.heap.size w w' := by
  have HM := Lib.hid hm
  clear hm
  unfold maxLen at hn
  obtain ⟨x, hx⟩ : ∃ x, x = decide (L = M) := ⟨_, rfl⟩
  rw [← hx]
  replace hx := Lib.hid hx
  have HV1 := Lib.hid hv1
  have HV2 := Lib.hid hv2
  obtain ⟨n1, hn1⟩ : ∃ n, n = L.length := ⟨_, rfl⟩
  obtain ⟨n2, hn2⟩ : ∃ n, n = M.length := ⟨_, rfl⟩
  rw [← hn1, ← hn2]
  rw [← hn1] at hn
  have HN1 := Lib.hid hn1
  have HN2 := Lib.hid hn2
  clear hv1 hv2 hn1 hn2
  by_cases he : n1 = n2
  · subst he
    have hn' : (n1 : Int) ≤ 9223372036854775807 := by omega
    have hne : ((n1 : Int) != n1) = false := by simp
    go_enter Tryz.func45, Tryz.ntmps45
    go_wp2_with fail
    go_loopw [7, 8, 9, 17] (fun _ _ _ v5 wr => ∃ i : Nat, i ≤ n1 ∧ v5 = .int .i64 i ∧ Hid (∀ j, j < i → rl L j = rl M j) ∧ Hid (Below w.heap.size w wr)) (fun _ _ _ v5 _ => n1 - (intOf v5).toNat)
    case atStart => exact ⟨0, Nat.zero_le _, rfl, Lib.hid (fun j hj => by omega), Lib.hid (Below.refl _ _)⟩
    case round =>
      obtain ⟨i, hi, rfl, HN, HB⟩ := hrel
      by_cases h1 : i < n1
      · obtain ⟨b, off, rfl⟩ := HV1.out.addr (by rw [← HN1.out]; omega)
        obtain ⟨b', off', rfl⟩ := HV2.out.addr (by rw [← HN2.out]; omega)
        obtain ⟨ad1, cp1, _, _, d0, d1, iv1⟩ := (HV1.out.below HB.out).at_ (i := i) (by rw [← HN1.out]; exact h1)
        obtain ⟨ad2, cp2, _, _, e0, e1, iv2⟩ := (HV2.out.below HB.out).at_ (i := i) (by rw [← HN2.out]; exact h1)
        have hlm := HM.out (rl L i) (rl_mem (by rw [← HN1.out]; exact h1))
        have hg1 : (i : Int) < n1 := by omega
        have hg0 : (0 : Int) ≤ i := by omega
        obtain ⟨p, hp⟩ : ∃ c, c = rl L i := ⟨_, rfl⟩
        obtain ⟨r, hr⟩ : ∃ c, c = rl M i := ⟨_, rfl⟩
        rw [← hp] at d0 d1 iv1 hlm
        rw [← hr] at e0 e1 iv2
        have HP := Lib.hid hp
        have HQ := Lib.hid hr
        obtain ⟨V, hV⟩ : ∃ V, V = (wr.alloc (.cells #[.string p.id, .slice ad1 p.d.length cp1] 28)).alloc (.cells #[.string r.id, .slice ad2 r.d.length cp2] 28) := ⟨_, rfl⟩
        have HBV : Hid (Below wr.heap.size wr V) := Lib.hid (by rw [hV]; exact ((Below.refl _ _).alloc (Nat.le_refl _) _).alloc (by simp) _)
        have HV1' : Hid (Bx2 V wr.heap.size (.string p.id) (.slice ad1 p.d.length cp1)) := Lib.hid (by rw [hV]; exact (bx2_new wr _ _).up ((Below.refl _ _).alloc (Nat.le_refl _) _))
        have HV2' : Hid (Bx2 V (wr.heap.size + 1) (.string r.id) (.slice ad2 r.d.length cp2)) := Lib.hid (by
          rw [hV]
          have h := bx2_new (wr.alloc (.cells #[.string p.id, .slice ad1 p.d.length cp1] 28)) (.string r.id) (.slice ad2 r.d.length cp2)
          simpa using h)
        have EA : Hid (Bx2 (wr.alloc (.cells #[.string p.id, .slice ad1 p.d.length cp1] 28)) wr.heap.size (.string p.id) (.slice ad1 p.d.length cp1)) := Lib.hid (bx2_new wr _ _)
        have e0' := ((Below.refl wr.heap.size wr).alloc (Nat.le_refl _) (.cells #[.string p.id, .slice ad1 p.d.length cp1] 28)).cell (p := ⟨b', off' + i * 2, none⟩) (World.block_lt_of_cell? _ _ e0) |>.trans e0
        have e1' := ((Below.refl wr.heap.size wr).alloc (Nat.le_refl _) (.cells #[.string p.id, .slice ad1 p.d.length cp1] 28)).cell (p := ⟨b', off' + i * 2 + 1, none⟩) (World.block_lt_of_cell? _ _ e1) |>.trans e1
        have v0 := HV1'.out.c0
        have v1 := HV1'.out.c1
        have v2 := HV2'.out.c0
        have v3 := HV2'.out.c1
        have HE : Hid (Calls Tryz.prog 42 #[.agg #[.string p.id, .slice ad1 p.d.length cp1], .agg #[.string r.id, .slice ad2 r.d.length cp2]] V fun e w' => e = .returned (.bool (decide (p = r))) ∧ Below V.heap.size V w') := Lib.hid (rowSame_any B B' p r ad1 ad2 cp1 cp2 V (iv1.below HBV.out) (iv2.below HBV.out) hlm)
        have HBW := Lib.hid (HB.out.trans (HBV.out.mono HB.out.size))
        clear hp hr iv1 iv2 hlm
        by_cases hcd : p = r
        · have HN2' : Hid (∀ j, j < i + 1 → rl L j = rl M j) := Lib.hid (fun j hj => by
            by_cases e : j = i
            · subst e; rw [← HP.out, ← HQ.out]; exact hcd
            · exact HN.out j (by omega))
          rw [decide_eq_true hcd] at HE
          clear HN hcd
          go_wp2_with fail
          (try rw [← hV])
          (try clear hV)
          (try go_wp2_with fail)
          refine HE.out.mono ?_
          rintro e w1 ⟨rfl, b1⟩
          have B1 := Lib.hid (HBW.out.trans (b1.mono HBW.out.size))
          clear b1
          go_wp2_with fail
          go_roundw
          case rel => exact ⟨i + 1, by omega, by go_num, HN2', B1⟩
          case measure => simp [intOf]; omega
        · have HX : Hid (x = false) := Lib.hid (by
            rw [hx.out]
            refine decide_eq_false (fun e => hcd ?_)
            rw [HP.out, HQ.out, e])
          rw [decide_eq_false hcd] at HE
          clear HN hcd
          go_wp2_with fail
          (try rw [← hV])
          (try clear hV)
          (try go_wp2_with fail)
          refine HE.out.mono ?_
          rintro e w1 ⟨rfl, b1⟩
          have B1 := Lib.hid (HBW.out.trans (b1.mono HBW.out.size))
          clear b1
          go_wp2_with fail
          go_ret
          exact ⟨ret_bool HX.out.symm, B1.out⟩
      · have e1 : i = n1 := by omega
        subst e1
        have HX : Hid (x = true) := Lib.hid (by rw [hx.out]; exact decide_eq_true (rows_all rfl (by rw [← HN1.out, ← HN2.out]) (fun j hj => HN.out j (by rw [HN1.out]; exact hj))))
        have hg1 : ¬ (i : Int) < i := by omega
        clear HN
        go_wp2_with fail
        go_ret
        exact ⟨ret_bool HX.out.symm, HB.out⟩
  · have HX : Hid (x = false) := Lib.hid (by rw [hx.out]; exact decide_eq_false (fun e => he (by rw [HN1.out, HN2.out, e])))
    have hne : ((n1 : Int) != n2) = true := by simp; omega
    go_enter Tryz.func45, Tryz.ntmps45
    go_wp2_with fail
    go_ret
    exact ⟨ret_bool HX.out.symm, Below.refl _ _⟩

set_option maxRecDepth 20000 in
set_option maxHeartbeats 1000000 in
theorem tSame_any (B B' : Nat) (T U : TM) (a1 a2 e1 e2 : Option Addr) (c1 c2 f1 f2 : Nat) (w : World) (hv : TVs B w T a1 c1 a2 c2) (hu : TVs B' w U e1 f1 e2 f2) (hm : ∀ r ∈ T.rows, r.d.length ≤ maxLen) (hl : T.uq.length ≤ maxLen) (hl2 : T.rows.length ≤ maxLen) : Calls Tryz.prog 19 #[tv T a1 c1 a2 c2, tv U e1 f1 e2 f2] w fun e w' => e = .returned (.bool (decide (T = U))) ∧ Below w.heap.size w w' := by
  obtain ⟨nm, m, uq, R⟩ := T
  obtain ⟨nn, k, vq, S⟩ := U
  show Calls Tryz.prog 19 #[.agg #[.string nm, .int .i64 m, .slice a1 uq.length c1, .slice a2 R.length c2], .agg #[.string nn, .int .i64 k, .slice e1 vq.length f1, .slice e2 S.length f2]] w fun e w' => e = .returned (.bool (decide (TM.mk nm m uq R = TM.mk nn k vq S))) ∧ Below w.heap.size w w'
  have HX : Hid (decide (TM.mk nm m uq R = TM.mk nn k vq S) = (decide (nm = nn) && decide (m = k) && decide (uq = vq) && decide (R = S))) := Lib.hid (by
    rw [Bool.eq_iff_iff]; simp only [Bool.and_eq_true, decide_eq_true_eq, TM.mk.injEq, and_assoc])
  rw [HX.out]
  obtain ⟨W, hW⟩ : ∃ W, W = (w.alloc (.cells #[.string nm, .int .i64 m, .slice a1 uq.length c1, .slice a2 R.length c2] 25)).alloc (.cells #[.string nn, .int .i64 k, .slice e1 vq.length f1, .slice e2 S.length f2] 25) := ⟨_, rfl⟩
  have HW : Hid (Below w.heap.size w W) := Lib.hid (by rw [hW]; exact ((Below.refl _ _).alloc (Nat.le_refl _) _).alloc (by simp) _)
  have HQ1 : Hid (Bx4 W w.heap.size 25 (.string nm) (.int .i64 m) (.slice a1 uq.length c1) (.slice a2 R.length c2)) := Lib.hid (by rw [hW]; exact (bx4_new w _ _ _ _ _).up ((Below.refl _ _).alloc (Nat.le_refl _) _))
  have HQ2 : Hid (Bx4 W (w.heap.size + 1) 25 (.string nn) (.int .i64 k) (.slice e1 vq.length f1) (.slice e2 S.length f2)) := Lib.hid (by
    rw [hW]
    have h := bx4_new (w.alloc (.cells #[.string nm, .int .i64 m, .slice a1 uq.length c1, .slice a2 R.length c2] 25)) 25 (.string nn) (.int .i64 k) (.slice e1 vq.length f1) (.slice e2 S.length f2)
    simpa using h)
  have HE1 := Lib.hid (strsEq_any a1 e1 c1 f1 uq vq W (hv.u.below HW.out) (hu.u.below HW.out) hl)
  have HE2 := Lib.hid (fun V (b : Below W.heap.size W V) => recsEq_any B B' a2 e2 c2 f2 R S V ((hv.r.below HW.out).below b) ((hu.r.below HW.out).below b) hm hl2)
  obtain ⟨y1, hy1⟩ : ∃ y, y = decide (uq = vq) := ⟨_, rfl⟩
  obtain ⟨y2, hy2⟩ : ∃ y, y = decide (R = S) := ⟨_, rfl⟩
  rw [← hy1] at HE1 ⊢
  rw [← hy2] at HE2 ⊢
  clear hv hu hm hl hl2 hy1 hy2 HX
  have x0 := HQ1.out.c0
  have x1 := HQ1.out.c1
  have x2 := HQ1.out.c2
  have z0 := HQ2.out.c0
  have z1 := HQ2.out.c1
  have z2 := HQ2.out.c2
  by_cases h1 : nm = nn
  · have g1 : (nm.toList == nn.toList) = true := by rw [str_is]; simpa using h1
    rw [decide_eq_true h1, Bool.true_and]
    clear h1
    by_cases h2 : m = k
    · rw [decide_eq_true h2, Bool.true_and]
      have g2 : (m == k) = true := by rw [beq_iff_eq]; exact h2
      clear h2
      go_enter Tryz.func19, Tryz.ntmps19
      go_wp2_with fail
      rw [← hW]
      (try clear hW)
      refine HE1.out.mono ?_
      rintro e w1 ⟨rfl, b1⟩
      have B1 := Lib.hid b1
      have u3 := (HQ1.out.up b1).c3
      have v3 := (HQ2.out.up b1).c3
      clear b1
      cases y1 with
      | false =>
        go_wp2_with fail
        go_ret
        exact ⟨rfl, HW.out.trans (B1.out.mono HW.out.size)⟩
      | true =>
        go_wp2_with fail
        refine (HE2.out _ B1.out).mono ?_
        rintro e w2 ⟨rfl, b2⟩
        have B2 := Lib.hid (B1.out.trans (b2.mono B1.out.size))
        clear b2
        go_wp2_with fail
        go_ret
        exact ⟨by first | rfl | simp, HW.out.trans (B2.out.mono HW.out.size)⟩
    · rw [decide_eq_false h2]
      have g2 : (m == k) = false := by rw [beq_eq_false_iff_ne]; exact h2
      clear h2
      go_enter Tryz.func19, Tryz.ntmps19
      go_wp2_with fail
      rw [← hW]
      go_ret
      exact ⟨by first | rfl | simp, HW.out⟩
  · have g1 : (nm.toList == nn.toList) = false := by rw [str_is]; simpa using h1
    rw [decide_eq_false h1]
    clear h1
    go_enter Tryz.func19, Tryz.ntmps19
    go_wp2_with fail
    rw [← hW]
    go_ret
    exact ⟨by first | rfl | simp, HW.out⟩
end Go.Proofs.YtfigebepeniikaaGreat
