/- Layer 10: SubsetRuns' walk. -/
import Derived.Test.YthaliiffgkcahaaSA
import Derived.Test.YthaliiffgkcahaaSC
import Derived.Test.YthaliiffgkcahaaSE
namespace Go.Proofs.Ythaliiffgkcahaa
open Go.RowKit Go.Maps
structure St (w W : World) (q : Nat) (a : DA) (d : DF) (b : DA) (e : DF) (t : DA) (ap ai : Option Addr) (P : List Int) (x0 x1 x2 y0 y1 y2 z0 z1 z2 : Value) : Prop where
  bl : Below w.heap.size w W
  bx : Bq W w.heap.size x0 x1 x2
  by' : Bq W (w.heap.size + 1) y0 y1 y2
  bz : Bq W q z0 z1 z2
  vd : DV W a d
  vo : DV W b e
  vt : DV W t d
  ip : IV W ap P
  io : IV W ai P
theorem St.up {w W W' : World} {q : Nat} {a : DA} {d : DF} {b : DA} {e : DF} {t : DA} {ap ai : Option Addr} {P : List Int} {x0 x1 x2 y0 y1 y2 z0 z1 z2 : Value} (h : St w W q a d b e t ap ai P x0 x1 x2 y0 y1 y2 z0 z1 z2) (k : Below W.heap.size W W') : St w W' q a d b e t ap ai P x0 x1 x2 y0 y1 y2 z0 z1 z2 :=
  ⟨h.bl.trans (k.mono h.bl.size), h.bx.below k, h.by'.below k, h.bz.below k, h.vd.below k, h.vo.below k, h.vt.below k, h.ip.below k, h.io.below k⟩
theorem St.io' {w W : World} {q : Nat} {a : DA} {d : DF} {b : DA} {e : DF} {t : DA} {ap ai aj : Option Addr} {P : List Int} {x0 x1 x2 y0 y1 y2 z0 z1 z2 : Value} (h : St w W q a d b e t ap ai P x0 x1 x2 y0 y1 y2 z0 z1 z2) (k : IV W aj P) : St w W q a d b e t ap aj P x0 x1 x2 y0 y1 y2 z0 z1 z2 := { h with io := k }
theorem st_all {w W : World} {q : Nat} {a : DA} {d : DF} {b : DA} {e : DF} {t : DA} {ap ai : Option Addr} {P : List Int} {x0 x1 x2 y0 y1 y2 z0 z1 z2 : Value} (h : St w W q a d b e t ap ai P x0 x1 x2 y0 y1 y2 z0 z1 z2) : W.cell? ⟨w.heap.size, 0, none⟩ = some x0 ∧ W.cell? ⟨w.heap.size, 1, none⟩ = some x1 ∧ W.cell? ⟨w.heap.size, 2, none⟩ = some x2 ∧ W.cell? ⟨w.heap.size + 1, 0, none⟩ = some y0 ∧ W.cell? ⟨w.heap.size + 1, 1, none⟩ = some y1 ∧ W.cell? ⟨w.heap.size + 1, 2, none⟩ = some y2 ∧ W.cell? ⟨q, 0, none⟩ = some z0 ∧ W.cell? ⟨q, 1, none⟩ = some z1 ∧ W.cell? ⟨q, 2, none⟩ = some z2 ∧ St w W q a d b e t ap ai P x0 x1 x2 y0 y1 y2 z0 z1 z2 :=
  ⟨h.bx.c0, h.bx.c1, h.bx.c2, h.by'.c0, h.by'.c1, h.by'.c2, h.bz.c0, h.bz.c1, h.bz.c2, h⟩
theorem below_own' {w w1 w2 : World} {B n e : Nat} {v : Value} {xs : List Value} (hb : Below B w w1) (hB : B ≤ w1.heap.size) (ho : w1.ownsRow B e 1 v n xs) (hg : w1.grownBy w2 v.ownBlock) : Below B w w2 := hb.grown hg hB (fun q hq => (ho.lt q hq).1)
def Who (x y : Value) (r13 : Bool) (v : Value) (r : Bool) : Prop := (v = y ∧ r = r13) ∨ (v = x ∧ r = true)
def Who2 (x y z : Value) (r13 : Bool) (u v : Value) (r : Bool) : Prop := (u = x ∧ v = y ∧ r = r13) ∨ (u = z ∧ v = x ∧ r = true)
theorem own_empty (w : World) {B : Nat} (hB : B ≤ w.heap.size) : (w.alloc (.cells #[] 3)).ownsRow B 3 1 (.slice (some ⟨w.heap.size, 0, none⟩) 0 0) 0 [] :=
  ⟨by simp, .inr ⟨w.heap.size, 0, #[], rfl, hB, heap_alloc_new w _, Nat.le_refl _, by unfold maxLen; omega, rfl, rfl⟩⟩
set_option maxRecDepth 20000 in
set_option maxHeartbeats 4000000 in
theorem runs_law (a b : DA) (d e : DF) (s n : Int) (ap : Option Addr) (cp : Nat) (P : List Int) (w : World) (hv : DV w a d) (hu : DV w b e) (hp : IV w ap P) (hpl : P.length ≤ cp) (hpm : cp ≤ maxLen) (hpn : ap = none → P.length = 0 ∧ cp = 0) :
    Calls Try.prog 3 #[dv a d, dv b e, .int .i64 s, .int .i64 n, .slice ap P.length cp] w fun r w' => r = .returned (.bool true) ∧ Below w.heap.size w w' := by
  obtain ⟨i0, hq0, hz00, hz01, hz02⟩ := infoI
  have HG1 := Lib.hid (fun W (k : Below w.heap.size w W) => great_any a d 70 300 W (hv.below k))
  have HG2 := Lib.hid (fun W (k : Below w.heap.size w W) => great_any b e 40 40 W (hu.below k))
  have HTW := Lib.hid (fun W (k : Below w.heap.size w W) => twin_any a d W (hv.below k))
  obtain ⟨g, hg⟩ : ∃ g : Bool, g = true ↔ DfOk d := by
    by_cases h : DfOk d
    · exact ⟨true, ⟨(fun _ => h), (fun _ => rfl)⟩⟩
    · exact ⟨false, ⟨(fun e => by cases e), (fun e => absurd e h)⟩⟩
  have hpm2 : P.length ≤ maxLen := Nat.le_trans hpl hpm
  have HSR : Hid (Src w ap P.length cp (rI P)) := Lib.hid (src_ints hp hpn)
  have HV := Lib.hid hv
  have HU := Lib.hid hu
  have HP := Lib.hid hp
  have K5 := Lib.hid (fun (t : DA) W (h : DV W t d) => class2_any t d g hg n W h)
  have K6 := Lib.hid (fun W (h : DV W a d) => rclass_any a d g hg n W h)
  have K7 := Lib.hid (fun (t : DA) ai ci W (h : DV W t d) (hi : IV W ai P) => walk_any t d g hg s ai ci P W h hi hpm2)
  have K8 := Lib.hid (fun W (h : DV W a d) (hi : IV W ap P) => rwalk_any a d g hg s ap cp P W h hi hpm2)
  have K9 := Lib.hid (fun (t : DA) ai ci W (h : DV W t d) (hi : IV W ai P) => run_any t d g hg ai ci P W h hi hpm2)
  have K10 := Lib.hid (fun W (h : DV W a d) (hi : IV W ap P) => rrun_any a d g hg ap cp P W h hi hpm2)
  have K11 := Lib.hid (fun (t : DA) W (h : DV W t d) => check_any t d g hg W h)
  have K12 := Lib.hid (fun W (h : DV W a d) => rcheck_any a d g hg W h)
  have K13 := Lib.hid (fun (t : DA) W (h : DV W t d) (h2 : DV W b e) => same_any t b d e W h h2)
  have K14 := Lib.hid (fun W (h : DV W a d) (h2 : DV W b e) => rsame_any a b d e W h h2)
  have K15 := Lib.hid (fun (t : DA) W (h : DV W t d) (h2 : DV W a d) => same_any t a d d W h h2)
  have K16 := Lib.hid (fun (t : DA) W (h : DV W t d) (h2 : DV W a d) => rsame_any t a d d W h h2)
  have K17 := Lib.hid (fun ai ci W (h : IV W ai P) (h2 : IV W ap P) => rsamei_any ai ap ci cp P P W h h2 hpm2)
  rw [sameD_iff.2 rfl] at K15 K16
  rw [decide_eq_true (rfl : P = P)] at K17
  obtain ⟨⟨r5, s5⟩, hr5⟩ : ∃ x, x = clsR g d.C n := ⟨_, rfl⟩
  obtain ⟨⟨r7, s7⟩, hr7⟩ : ∃ x, x = wkR g d s P := ⟨_, rfl⟩
  obtain ⟨⟨r9, s9⟩, hr9⟩ : ∃ x, x = rnR g d P := ⟨_, rfl⟩
  obtain ⟨r11, hr11⟩ : ∃ x, x = ckE g := ⟨_, rfl⟩
  obtain ⟨r13, hr13⟩ : ∃ x, x = sameD d e := ⟨_, rfl⟩
  rw [← hr5] at K5 K6
  rw [← hr7] at K7 K8
  rw [← hr9] at K9 K10
  rw [← hr11] at K11 K12
  rw [← hr13] at K13 K14
  dsimp only at K5 K6 K7 K8 K9 K10
  clear hv hu hp hpl hpm hpn hg hr5 hr7 hr9 hr11 hr13
  obtain ⟨a0, a1, a2, c0, c1, c2⟩ := a
  obtain ⟨b0, b1, b2, k0, k1, k2⟩ := b
  obtain ⟨C, S, B⟩ := d
  obtain ⟨C', S', B'⟩ := e
  unfold dv at HG1 HG2 HTW K5 K6 K7 K8 K9 K10 K11 K12 K13 K14 K15 K16 ⊢
  dsimp only at HG1 HG2 HTW K5 K6 K7 K8 K9 K10 K11 K12 K13 K14 K15 K16 ⊢
  obtain ⟨nC, hC⟩ : ∃ n, n = C.length := ⟨_, rfl⟩
  obtain ⟨nS, hS⟩ : ∃ n, n = S.length := ⟨_, rfl⟩
  obtain ⟨nB, hB⟩ : ∃ n, n = B.length := ⟨_, rfl⟩
  obtain ⟨mC, gC⟩ : ∃ n, n = C'.length := ⟨_, rfl⟩
  obtain ⟨mS, gSS⟩ : ∃ n, n = S'.length := ⟨_, rfl⟩
  obtain ⟨mB, gB⟩ : ∃ n, n = B'.length := ⟨_, rfl⟩
  obtain ⟨nP, hP⟩ : ∃ n, n = P.length := ⟨_, rfl⟩
  rw [← hC, ← hS, ← hB] at HG1 HTW K5 K6 K7 K8 K9 K10 K11 K12 K13 K14 K15 K16
  rw [← gC, ← gSS, ← gB] at HG2 K13 K14
  rw [← hP] at K7 K8 K9 K10 K17 HSR hpm2
  rw [← hC, ← hS, ← hB, ← gC, ← gSS, ← gB, ← hP]
  have HC := Lib.hid hC
  have HS := Lib.hid hS
  have HB := Lib.hid hB
  have HN := Lib.hid hP
  clear hC hS hB gC gSS gB hP
  unfold maxLen at hpm2
  have HL0 : Hid (Lk w ((w.alloc (.cells #[.slice a0 nC c0, .slice a1 nS c1, .slice a2 nB c2] 26)).alloc (.cells #[.slice b0 mC k0, .slice b1 mS k1, .slice b2 mB k2] 26)) (.slice a0 nC c0) (.slice a1 nS c1) (.slice a2 nB c2)) := Lib.hid ((lk_new _ _ _ _ _).below ((Below.refl _ _).alloc (Nat.le_refl _) _))
  have HM0 : Hid (Bq ((w.alloc (.cells #[.slice a0 nC c0, .slice a1 nS c1, .slice a2 nB c2] 26)).alloc (.cells #[.slice b0 mC k0, .slice b1 mS k1, .slice b2 mB k2] 26)) (w.heap.size + 1) (.slice b0 mC k0) (.slice b1 mS k1) (.slice b2 mB k2)) := Lib.hid (by
    have h := bq_new (w.alloc (.cells #[.slice a0 nC c0, .slice a1 nS c1, .slice a2 nB c2] 26)) (.slice b0 mC k0) (.slice b1 mS k1) (.slice b2 mB k2) 26
    rwa [World.size_alloc] at h)
  go_enter Try.func3, Try.ntmps3
  go_wp2_with fail
  refine (HG1.out _ HL0.out.1).mono ?_
  rintro e w1 ⟨g1, rfl, hg1, q1⟩
  have HL1 := Lib.hid (HL0.out.below q1)
  have HM1 := Lib.hid (HM0.out.below q1)
  have Q1 := Lib.hid hg1
  obtain ⟨_, x0, x1, x2⟩ := HL1.out.2
  obtain ⟨_, y0, y1, y2⟩ := HM1.out
  clear q1 hg1 HL0 HM0 HG1
  cases g1 with
  | true =>
    go_wp2_with fail
    go_ret
    exact ⟨rfl, HL1.out.1⟩
  | false =>
  go_wp2_with fail
  refine (HG2.out _ HL1.out.1).mono ?_
  rintro e w2 ⟨g2, rfl, hg2, q2⟩
  have HL2 := Lib.hid (HL1.out.below q2)
  have HM2 := Lib.hid (HM1.out.below q2)
  clear x0 x1 x2 y0 y1 y2
  obtain ⟨_, x0, x1, x2⟩ := HL2.out.2
  obtain ⟨_, y0, y1, y2⟩ := HM2.out
  clear q2 hg2 HL1 HM1 HG2
  cases g2 with
  | true =>
    go_wp2_with fail
    go_ret
    exact ⟨rfl, HL2.out.1⟩
  | false =>
  by_cases p1 : 30 < nP
  · have p1' : (30 : Int) < nP := by omega
    by_cases p2 : nP ≤ 1024
    · have p2' : (nP : Int) ≤ 1024 := by omega
      go_wp2_with fail
      go_ret
      exact ⟨rfl, HL2.out.1⟩
    · have p2' : ¬ (nP : Int) ≤ 1024 := by omega
      by_cases p3 : 1100 < nP
      · have p3' : (1100 : Int) < nP := by omega
        go_wp2_with fail
        go_ret
        exact ⟨rfl, HL2.out.1⟩
      · have p3' : ¬ (1100 : Int) < nP := by omega
        go_wp2_with fail
        have Q2 : Hid (nC ≤ 300 ∧ nS ≤ 70 ∧ nB ≤ 70 ∧ ∀ i, i < nS → (gS S i).length ≤ 300) := Lib.hid (by
          have h := Q1.out (by first | rfl | trivial)
          rw [HC.out, HS.out, HB.out]
          exact ⟨h.2.1, h.1, h.2.2.1, h.2.2.2⟩)
        refine (HTW.out _ HL2.out.1 Q2.out.1 Q2.out.2.1 Q2.out.2.2.1 Q2.out.2.2.2).mono ?_
        rintro e w3 ⟨t, rfl, hd3, q3⟩
        obtain ⟨t0, t1, t2, l0, l1, l2⟩ := t
        have hdv : dv ⟨t0, t1, t2, l0, l1, l2⟩ ⟨C, S, B⟩ = .agg #[.slice t0 nC l0, .slice t1 nS l1, .slice t2 nB l2] := by unfold dv; rw [HC.out, HS.out, HB.out]
        rw [hdv]
        have hb4 : Below w3.heap.size w3 (w3.alloc (.cells #[.slice t0 nC l0, .slice t1 nS l1, .slice t2 nB l2] 26)) := (Below.refl w3.heap.size w3).alloc (Nat.le_refl _) _
        have HL3 := Lib.hid ((HL2.out.below q3).below hb4)
        have HM3 := Lib.hid ((HM2.out.below q3).below hb4)
        have HD3 := Lib.hid (hd3.below hb4)
        have HE3 : Hid (Below (w3.heap.size + 1) (w3.alloc (.cells #[.slice t0 nC l0, .slice t1 nS l1, .slice t2 nB l2] 26)) ((w3.alloc (.cells #[.slice t0 nC l0, .slice t1 nS l1, .slice t2 nB l2] 26)).alloc (.cells #[] 3))) := Lib.hid (by
          have h := (Below.refl (w3.alloc (.cells #[.slice t0 nC l0, .slice t1 nS l1, .slice t2 nB l2] 26)).heap.size (w3.alloc (.cells #[.slice t0 nC l0, .slice t1 nS l1, .slice t2 nB l2] 26))).alloc (Nat.le_refl _) (.cells #[] 3)
          rwa [World.size_alloc] at h)
        have HOE : Hid (((w3.alloc (.cells #[.slice t0 nC l0, .slice t1 nS l1, .slice t2 nB l2] 26)).alloc (.cells #[] 3)).ownsRow (w3.heap.size + 1) 3 1 (.slice (some ⟨w3.heap.size + 1, 0, none⟩) 0 0) 0 []) := Lib.hid (by
          have h := own_empty (w3.alloc (.cells #[.slice t0 nC l0, .slice t1 nS l1, .slice t2 nB l2] 26)) (Nat.le_refl _)
          rwa [World.size_alloc] at h)
        have HSR5 : Hid (Src ((w3.alloc (.cells #[.slice t0 nC l0, .slice t1 nS l1, .slice t2 nB l2] 26)).alloc (.cells #[] 3)) ap nP cp (rI P)) := Lib.hid (HSR.out.up (HL3.out.1.trans (HE3.out.mono (by have := (HL2.out.below q3).1.size; omega))))
        have HT4 : Hid (St w (w3.alloc (.cells #[.slice t0 nC l0, .slice t1 nS l1, .slice t2 nB l2] 26)) w3.heap.size ⟨a0, a1, a2, c0, c1, c2⟩ ⟨C, S, B⟩ ⟨b0, b1, b2, k0, k1, k2⟩ ⟨C', S', B'⟩ ⟨t0, t1, t2, l0, l1, l2⟩ ap ap P (.slice a0 nC c0) (.slice a1 nS c1) (.slice a2 nB c2) (.slice b0 mC k0) (.slice b1 mS k1) (.slice b2 mB k2) (.slice t0 nC l0) (.slice t1 nS l1) (.slice t2 nB l2)) := Lib.hid (by
          exact ⟨HL3.out.1, HL3.out.2, HM3.out, bq_new _ _ _ _ _, HV.out.below HL3.out.1, HU.out.below HL3.out.1, HD3.out, HP.out.below HL3.out.1, HP.out.below HL3.out.1⟩)
        have HZ : Hid (w3.heap.size + 1 ≤ ((w3.alloc (.cells #[.slice t0 nC l0, .slice t1 nS l1, .slice t2 nB l2] 26)).alloc (.cells #[] 3)).heap.size) := Lib.hid (by simp)
        have T1 : True := trivial
        clear hdv hd3 q3 hb4 HL2 HM2 HTW x0 x1 x2 y0 y1 y2
        go_wp2_with (have _t := T1; at_builtin; refine wpList_app rfl _ _ 22 rfl (w3.heap.size + 1) 3 i0 (.int .i64 0) 8 Try.underlying22 hq0 hz00 hz01 hz02 rfl (.slice (some ⟨w3.heap.size + 1, 0, none⟩) 0 0) 0 [] rfl HOE.out ap nP cp (rI P) rfl HSR5.out (by unfold maxLen; omega) (by omega) HZ.out ?_; clear _t; clear T1; intro v5 w5 ho5 hg5; have HOI : Hid (OwnI w5 (w3.heap.size + 1) v5 P) := Lib.hid (by unfold OwnI; rw [← HN.out]; simpa using ho5); obtain ⟨ad5, cp5, hv5, _, _, hi5, _⟩ := ownI_shape HOI.out; rw [← HN.out] at hv5; subst hv5; have hb5 : Below (w3.alloc (.cells #[.slice t0 nC l0, .slice t1 nS l1, .slice t2 nB l2] 26)).heap.size (w3.alloc (.cells #[.slice t0 nC l0, .slice t1 nS l1, .slice t2 nB l2] 26)) w5 := (by rw [World.size_alloc]; exact below_own' HE3.out HZ.out HOE.out hg5); have HT5 : Hid (St w w5 w3.heap.size ⟨a0, a1, a2, c0, c1, c2⟩ ⟨C, S, B⟩ ⟨b0, b1, b2, k0, k1, k2⟩ ⟨C', S', B'⟩ ⟨t0, t1, t2, l0, l1, l2⟩ ap ad5 P (.slice a0 nC c0) (.slice a1 nS c1) (.slice a2 nB c2) (.slice b0 mC k0) (.slice b1 mS k1) (.slice b2 mB k2) (.slice t0 nC l0) (.slice t1 nS l1) (.slice t2 nB l2)) := Lib.hid (St.io' (HT4.out.up hb5) hi5); have x0 := HT5.out.bx.c0; have x1 := HT5.out.bx.c1; have x2 := HT5.out.bx.c2; have y0 := HT5.out.by'.c0; have y1 := HT5.out.by'.c1; have y2 := HT5.out.by'.c2; have z0 := HT5.out.bz.c0; have z1 := HT5.out.bz.c1; have z2 := HT5.out.bz.c2; clear ho5 hg5 hi5 hb5 HL3 HM3 HD3 HE3 HOE HSR5 HT4)
        refine (K5.out ⟨t0, t1, t2, l0, l1, l2⟩ _ HT5.out.vt).mono ?_
        rintro e w6 ⟨rfl, q5⟩
        have HT6 := Lib.hid (HT5.out.up q5)
        clear q5 x0 x1 x2 y0 y1 y2 z0 z1 z2 HT5
        have x0 := HT6.out.bx.c0
        have x1 := HT6.out.bx.c1
        have x2 := HT6.out.bx.c2
        have y0 := HT6.out.by'.c0
        have y1 := HT6.out.by'.c1
        have y2 := HT6.out.by'.c2
        have z0 := HT6.out.bz.c0
        have z1 := HT6.out.bz.c1
        have z2 := HT6.out.bz.c2
        go_wp2_with fail
        refine (K6.out _ HT6.out.vd).mono ?_
        rintro e w7 ⟨rfl, q6⟩
        have HT7 := Lib.hid (HT6.out.up q6)
        clear q6 x0 x1 x2 y0 y1 y2 z0 z1 z2 HT6
        have x0 := HT7.out.bx.c0
        have x1 := HT7.out.bx.c1
        have x2 := HT7.out.bx.c2
        have y0 := HT7.out.by'.c0
        have y1 := HT7.out.by'.c1
        have y2 := HT7.out.by'.c2
        have z0 := HT7.out.bz.c0
        have z1 := HT7.out.bz.c1
        have z2 := HT7.out.bz.c2
        go_wp2_with fail
        refine (K7.out ⟨t0, t1, t2, l0, l1, l2⟩ ad5 cp5 _ HT7.out.vt HT7.out.io).mono ?_
        rintro e w8 ⟨rfl, q7⟩
        have HT8 := Lib.hid (HT7.out.up q7)
        clear q7 x0 x1 x2 y0 y1 y2 z0 z1 z2 HT7
        have x0 := HT8.out.bx.c0
        have x1 := HT8.out.bx.c1
        have x2 := HT8.out.bx.c2
        have y0 := HT8.out.by'.c0
        have y1 := HT8.out.by'.c1
        have y2 := HT8.out.by'.c2
        have z0 := HT8.out.bz.c0
        have z1 := HT8.out.bz.c1
        have z2 := HT8.out.bz.c2
        go_wp2_with fail
        refine (K8.out _ HT8.out.vd HT8.out.ip).mono ?_
        rintro e w9 ⟨rfl, q8⟩
        have HT9 := Lib.hid (HT8.out.up q8)
        clear q8 x0 x1 x2 y0 y1 y2 z0 z1 z2 HT8
        have x0 := HT9.out.bx.c0
        have x1 := HT9.out.bx.c1
        have x2 := HT9.out.bx.c2
        have y0 := HT9.out.by'.c0
        have y1 := HT9.out.by'.c1
        have y2 := HT9.out.by'.c2
        have z0 := HT9.out.bz.c0
        have z1 := HT9.out.bz.c1
        have z2 := HT9.out.bz.c2
        go_wp2_with fail
        refine (K9.out ⟨t0, t1, t2, l0, l1, l2⟩ ad5 cp5 _ HT9.out.vt HT9.out.io).mono ?_
        rintro e w10 ⟨rfl, q9⟩
        have HT10 := Lib.hid (HT9.out.up q9)
        clear q9 x0 x1 x2 y0 y1 y2 z0 z1 z2 HT9
        have x0 := HT10.out.bx.c0
        have x1 := HT10.out.bx.c1
        have x2 := HT10.out.bx.c2
        have y0 := HT10.out.by'.c0
        have y1 := HT10.out.by'.c1
        have y2 := HT10.out.by'.c2
        have z0 := HT10.out.bz.c0
        have z1 := HT10.out.bz.c1
        have z2 := HT10.out.bz.c2
        go_wp2_with fail
        refine (K10.out _ HT10.out.vd HT10.out.ip).mono ?_
        rintro e w11 ⟨rfl, q10⟩
        have HT11 := Lib.hid (HT10.out.up q10)
        clear q10 x0 x1 x2 y0 y1 y2 z0 z1 z2 HT10
        have x0 := HT11.out.bx.c0
        have x1 := HT11.out.bx.c1
        have x2 := HT11.out.bx.c2
        have y0 := HT11.out.by'.c0
        have y1 := HT11.out.by'.c1
        have y2 := HT11.out.by'.c2
        have z0 := HT11.out.bz.c0
        have z1 := HT11.out.bz.c1
        have z2 := HT11.out.bz.c2
        go_wp2_with fail
        have C12 : Hid (∀ W, (W.cell? ⟨w.heap.size, 0, none⟩ = some (.slice a0 nC c0) ∧ W.cell? ⟨w.heap.size, 1, none⟩ = some (.slice a1 nS c1) ∧ W.cell? ⟨w.heap.size, 2, none⟩ = some (.slice a2 nB c2) ∧ W.cell? ⟨w.heap.size + 1, 0, none⟩ = some (.slice b0 mC k0) ∧ W.cell? ⟨w.heap.size + 1, 1, none⟩ = some (.slice b1 mS k1) ∧ W.cell? ⟨w.heap.size + 1, 2, none⟩ = some (.slice b2 mB k2) ∧ W.cell? ⟨w3.heap.size, 0, none⟩ = some (.slice t0 nC l0) ∧ W.cell? ⟨w3.heap.size, 1, none⟩ = some (.slice t1 nS l1) ∧ W.cell? ⟨w3.heap.size, 2, none⟩ = some (.slice t2 nB l2) ∧ St w W w3.heap.size ⟨a0, a1, a2, c0, c1, c2⟩ ⟨C, S, B⟩ ⟨b0, b1, b2, k0, k1, k2⟩ ⟨C', S', B'⟩ ⟨t0, t1, t2, l0, l1, l2⟩ ap ad5 P (.slice a0 nC c0) (.slice a1 nS c1) (.slice a2 nB c2) (.slice b0 mC k0) (.slice b1 mS k1) (.slice b2 mB k2) (.slice t0 nC l0) (.slice t1 nS l1) (.slice t2 nB l2)) → Calls Try.prog 12 #[.agg #[.slice t0 nC l0, .slice t1 nS l1, .slice t2 nB l2]] W fun r w' => r = .returned (.int .i64 r11) ∧ (w'.cell? ⟨w.heap.size, 0, none⟩ = some (.slice a0 nC c0) ∧ w'.cell? ⟨w.heap.size, 1, none⟩ = some (.slice a1 nS c1) ∧ w'.cell? ⟨w.heap.size, 2, none⟩ = some (.slice a2 nB c2) ∧ w'.cell? ⟨w.heap.size + 1, 0, none⟩ = some (.slice b0 mC k0) ∧ w'.cell? ⟨w.heap.size + 1, 1, none⟩ = some (.slice b1 mS k1) ∧ w'.cell? ⟨w.heap.size + 1, 2, none⟩ = some (.slice b2 mB k2) ∧ w'.cell? ⟨w3.heap.size, 0, none⟩ = some (.slice t0 nC l0) ∧ w'.cell? ⟨w3.heap.size, 1, none⟩ = some (.slice t1 nS l1) ∧ w'.cell? ⟨w3.heap.size, 2, none⟩ = some (.slice t2 nB l2) ∧ St w w' w3.heap.size ⟨a0, a1, a2, c0, c1, c2⟩ ⟨C, S, B⟩ ⟨b0, b1, b2, k0, k1, k2⟩ ⟨C', S', B'⟩ ⟨t0, t1, t2, l0, l1, l2⟩ ap ad5 P (.slice a0 nC c0) (.slice a1 nS c1) (.slice a2 nB c2) (.slice b0 mC k0) (.slice b1 mS k1) (.slice b2 mB k2) (.slice t0 nC l0) (.slice t1 nS l1) (.slice t2 nB l2))) := Lib.hid (fun W h => by
          have hs := h.2.2.2.2.2.2.2.2.2
          refine (K11.out ⟨t0, t1, t2, l0, l1, l2⟩ W hs.vt).mono ?_
          rintro r w' ⟨rfl, k⟩
          exact ⟨rfl, st_all (hs.up k)⟩)
        have C13 : Hid (∀ W, (W.cell? ⟨w.heap.size, 0, none⟩ = some (.slice a0 nC c0) ∧ W.cell? ⟨w.heap.size, 1, none⟩ = some (.slice a1 nS c1) ∧ W.cell? ⟨w.heap.size, 2, none⟩ = some (.slice a2 nB c2) ∧ W.cell? ⟨w.heap.size + 1, 0, none⟩ = some (.slice b0 mC k0) ∧ W.cell? ⟨w.heap.size + 1, 1, none⟩ = some (.slice b1 mS k1) ∧ W.cell? ⟨w.heap.size + 1, 2, none⟩ = some (.slice b2 mB k2) ∧ W.cell? ⟨w3.heap.size, 0, none⟩ = some (.slice t0 nC l0) ∧ W.cell? ⟨w3.heap.size, 1, none⟩ = some (.slice t1 nS l1) ∧ W.cell? ⟨w3.heap.size, 2, none⟩ = some (.slice t2 nB l2) ∧ St w W w3.heap.size ⟨a0, a1, a2, c0, c1, c2⟩ ⟨C, S, B⟩ ⟨b0, b1, b2, k0, k1, k2⟩ ⟨C', S', B'⟩ ⟨t0, t1, t2, l0, l1, l2⟩ ap ad5 P (.slice a0 nC c0) (.slice a1 nS c1) (.slice a2 nB c2) (.slice b0 mC k0) (.slice b1 mS k1) (.slice b2 mB k2) (.slice t0 nC l0) (.slice t1 nS l1) (.slice t2 nB l2)) → Calls Try.prog 13 #[.agg #[.slice a0 nC c0, .slice a1 nS c1, .slice a2 nB c2]] W fun r w' => r = .returned (.int .i64 r11) ∧ (w'.cell? ⟨w.heap.size, 0, none⟩ = some (.slice a0 nC c0) ∧ w'.cell? ⟨w.heap.size, 1, none⟩ = some (.slice a1 nS c1) ∧ w'.cell? ⟨w.heap.size, 2, none⟩ = some (.slice a2 nB c2) ∧ w'.cell? ⟨w.heap.size + 1, 0, none⟩ = some (.slice b0 mC k0) ∧ w'.cell? ⟨w.heap.size + 1, 1, none⟩ = some (.slice b1 mS k1) ∧ w'.cell? ⟨w.heap.size + 1, 2, none⟩ = some (.slice b2 mB k2) ∧ w'.cell? ⟨w3.heap.size, 0, none⟩ = some (.slice t0 nC l0) ∧ w'.cell? ⟨w3.heap.size, 1, none⟩ = some (.slice t1 nS l1) ∧ w'.cell? ⟨w3.heap.size, 2, none⟩ = some (.slice t2 nB l2) ∧ St w w' w3.heap.size ⟨a0, a1, a2, c0, c1, c2⟩ ⟨C, S, B⟩ ⟨b0, b1, b2, k0, k1, k2⟩ ⟨C', S', B'⟩ ⟨t0, t1, t2, l0, l1, l2⟩ ap ad5 P (.slice a0 nC c0) (.slice a1 nS c1) (.slice a2 nB c2) (.slice b0 mC k0) (.slice b1 mS k1) (.slice b2 mB k2) (.slice t0 nC l0) (.slice t1 nS l1) (.slice t2 nB l2))) := Lib.hid (fun W h => by
          have hs := h.2.2.2.2.2.2.2.2.2
          refine (K12.out W hs.vd).mono ?_
          rintro r w' ⟨rfl, k⟩
          exact ⟨rfl, st_all (hs.up k)⟩)
        have C14 : Hid (∀ W v r, (W.cell? ⟨w.heap.size, 0, none⟩ = some (.slice a0 nC c0) ∧ W.cell? ⟨w.heap.size, 1, none⟩ = some (.slice a1 nS c1) ∧ W.cell? ⟨w.heap.size, 2, none⟩ = some (.slice a2 nB c2) ∧ W.cell? ⟨w.heap.size + 1, 0, none⟩ = some (.slice b0 mC k0) ∧ W.cell? ⟨w.heap.size + 1, 1, none⟩ = some (.slice b1 mS k1) ∧ W.cell? ⟨w.heap.size + 1, 2, none⟩ = some (.slice b2 mB k2) ∧ W.cell? ⟨w3.heap.size, 0, none⟩ = some (.slice t0 nC l0) ∧ W.cell? ⟨w3.heap.size, 1, none⟩ = some (.slice t1 nS l1) ∧ W.cell? ⟨w3.heap.size, 2, none⟩ = some (.slice t2 nB l2) ∧ St w W w3.heap.size ⟨a0, a1, a2, c0, c1, c2⟩ ⟨C, S, B⟩ ⟨b0, b1, b2, k0, k1, k2⟩ ⟨C', S', B'⟩ ⟨t0, t1, t2, l0, l1, l2⟩ ap ad5 P (.slice a0 nC c0) (.slice a1 nS c1) (.slice a2 nB c2) (.slice b0 mC k0) (.slice b1 mS k1) (.slice b2 mB k2) (.slice t0 nC l0) (.slice t1 nS l1) (.slice t2 nB l2)) → Who (.agg #[.slice a0 nC c0, .slice a1 nS c1, .slice a2 nB c2]) (.agg #[.slice b0 mC k0, .slice b1 mS k1, .slice b2 mB k2]) r13 v r → Calls Try.prog 14 #[.agg #[.slice t0 nC l0, .slice t1 nS l1, .slice t2 nB l2], v] W fun r' w' => r' = .returned (.bool r) ∧ (w'.cell? ⟨w.heap.size, 0, none⟩ = some (.slice a0 nC c0) ∧ w'.cell? ⟨w.heap.size, 1, none⟩ = some (.slice a1 nS c1) ∧ w'.cell? ⟨w.heap.size, 2, none⟩ = some (.slice a2 nB c2) ∧ w'.cell? ⟨w.heap.size + 1, 0, none⟩ = some (.slice b0 mC k0) ∧ w'.cell? ⟨w.heap.size + 1, 1, none⟩ = some (.slice b1 mS k1) ∧ w'.cell? ⟨w.heap.size + 1, 2, none⟩ = some (.slice b2 mB k2) ∧ w'.cell? ⟨w3.heap.size, 0, none⟩ = some (.slice t0 nC l0) ∧ w'.cell? ⟨w3.heap.size, 1, none⟩ = some (.slice t1 nS l1) ∧ w'.cell? ⟨w3.heap.size, 2, none⟩ = some (.slice t2 nB l2) ∧ St w w' w3.heap.size ⟨a0, a1, a2, c0, c1, c2⟩ ⟨C, S, B⟩ ⟨b0, b1, b2, k0, k1, k2⟩ ⟨C', S', B'⟩ ⟨t0, t1, t2, l0, l1, l2⟩ ap ad5 P (.slice a0 nC c0) (.slice a1 nS c1) (.slice a2 nB c2) (.slice b0 mC k0) (.slice b1 mS k1) (.slice b2 mB k2) (.slice t0 nC l0) (.slice t1 nS l1) (.slice t2 nB l2))) := Lib.hid (fun W v r h hw => by
          have hs := h.2.2.2.2.2.2.2.2.2
          rcases hw with ⟨rfl, rfl⟩ | ⟨rfl, rfl⟩
          · refine (K13.out ⟨t0, t1, t2, l0, l1, l2⟩ W hs.vt hs.vo).mono ?_
            rintro r w' ⟨rfl, k⟩
            exact ⟨rfl, st_all (hs.up k)⟩
          · refine (K15.out ⟨t0, t1, t2, l0, l1, l2⟩ W hs.vt hs.vd).mono ?_
            rintro r w' ⟨rfl, k⟩
            exact ⟨rfl, st_all (hs.up k)⟩)
        have C15 : Hid (∀ W u v r, (W.cell? ⟨w.heap.size, 0, none⟩ = some (.slice a0 nC c0) ∧ W.cell? ⟨w.heap.size, 1, none⟩ = some (.slice a1 nS c1) ∧ W.cell? ⟨w.heap.size, 2, none⟩ = some (.slice a2 nB c2) ∧ W.cell? ⟨w.heap.size + 1, 0, none⟩ = some (.slice b0 mC k0) ∧ W.cell? ⟨w.heap.size + 1, 1, none⟩ = some (.slice b1 mS k1) ∧ W.cell? ⟨w.heap.size + 1, 2, none⟩ = some (.slice b2 mB k2) ∧ W.cell? ⟨w3.heap.size, 0, none⟩ = some (.slice t0 nC l0) ∧ W.cell? ⟨w3.heap.size, 1, none⟩ = some (.slice t1 nS l1) ∧ W.cell? ⟨w3.heap.size, 2, none⟩ = some (.slice t2 nB l2) ∧ St w W w3.heap.size ⟨a0, a1, a2, c0, c1, c2⟩ ⟨C, S, B⟩ ⟨b0, b1, b2, k0, k1, k2⟩ ⟨C', S', B'⟩ ⟨t0, t1, t2, l0, l1, l2⟩ ap ad5 P (.slice a0 nC c0) (.slice a1 nS c1) (.slice a2 nB c2) (.slice b0 mC k0) (.slice b1 mS k1) (.slice b2 mB k2) (.slice t0 nC l0) (.slice t1 nS l1) (.slice t2 nB l2)) → Who2 (.agg #[.slice a0 nC c0, .slice a1 nS c1, .slice a2 nB c2]) (.agg #[.slice b0 mC k0, .slice b1 mS k1, .slice b2 mB k2]) (.agg #[.slice t0 nC l0, .slice t1 nS l1, .slice t2 nB l2]) r13 u v r → Calls Try.prog 15 #[u, v] W fun r' w' => r' = .returned (.bool r) ∧ (w'.cell? ⟨w.heap.size, 0, none⟩ = some (.slice a0 nC c0) ∧ w'.cell? ⟨w.heap.size, 1, none⟩ = some (.slice a1 nS c1) ∧ w'.cell? ⟨w.heap.size, 2, none⟩ = some (.slice a2 nB c2) ∧ w'.cell? ⟨w.heap.size + 1, 0, none⟩ = some (.slice b0 mC k0) ∧ w'.cell? ⟨w.heap.size + 1, 1, none⟩ = some (.slice b1 mS k1) ∧ w'.cell? ⟨w.heap.size + 1, 2, none⟩ = some (.slice b2 mB k2) ∧ w'.cell? ⟨w3.heap.size, 0, none⟩ = some (.slice t0 nC l0) ∧ w'.cell? ⟨w3.heap.size, 1, none⟩ = some (.slice t1 nS l1) ∧ w'.cell? ⟨w3.heap.size, 2, none⟩ = some (.slice t2 nB l2) ∧ St w w' w3.heap.size ⟨a0, a1, a2, c0, c1, c2⟩ ⟨C, S, B⟩ ⟨b0, b1, b2, k0, k1, k2⟩ ⟨C', S', B'⟩ ⟨t0, t1, t2, l0, l1, l2⟩ ap ad5 P (.slice a0 nC c0) (.slice a1 nS c1) (.slice a2 nB c2) (.slice b0 mC k0) (.slice b1 mS k1) (.slice b2 mB k2) (.slice t0 nC l0) (.slice t1 nS l1) (.slice t2 nB l2))) := Lib.hid (fun W u v r h hw => by
          have hs := h.2.2.2.2.2.2.2.2.2
          rcases hw with ⟨rfl, rfl, rfl⟩ | ⟨rfl, rfl, rfl⟩
          · refine (K14.out W hs.vd hs.vo).mono ?_
            rintro r w' ⟨rfl, k⟩
            exact ⟨rfl, st_all (hs.up k)⟩
          · refine (K16.out ⟨t0, t1, t2, l0, l1, l2⟩ W hs.vt hs.vd).mono ?_
            rintro r w' ⟨rfl, k⟩
            exact ⟨rfl, st_all (hs.up k)⟩)
        have W1 : Who (.agg #[.slice a0 nC c0, .slice a1 nS c1, .slice a2 nB c2]) (.agg #[.slice b0 mC k0, .slice b1 mS k1, .slice b2 mB k2]) r13 (.agg #[.slice b0 mC k0, .slice b1 mS k1, .slice b2 mB k2]) r13 := .inl ⟨rfl, rfl⟩
        have W2 : Who (.agg #[.slice a0 nC c0, .slice a1 nS c1, .slice a2 nB c2]) (.agg #[.slice b0 mC k0, .slice b1 mS k1, .slice b2 mB k2]) r13 (.agg #[.slice a0 nC c0, .slice a1 nS c1, .slice a2 nB c2]) true := .inr ⟨rfl, rfl⟩
        have W3 : Who2 (.agg #[.slice a0 nC c0, .slice a1 nS c1, .slice a2 nB c2]) (.agg #[.slice b0 mC k0, .slice b1 mS k1, .slice b2 mB k2]) (.agg #[.slice t0 nC l0, .slice t1 nS l1, .slice t2 nB l2]) r13 (.agg #[.slice a0 nC c0, .slice a1 nS c1, .slice a2 nB c2]) (.agg #[.slice b0 mC k0, .slice b1 mS k1, .slice b2 mB k2]) r13 := .inl ⟨rfl, rfl, rfl⟩
        have W4 : Who2 (.agg #[.slice a0 nC c0, .slice a1 nS c1, .slice a2 nB c2]) (.agg #[.slice b0 mC k0, .slice b1 mS k1, .slice b2 mB k2]) (.agg #[.slice t0 nC l0, .slice t1 nS l1, .slice t2 nB l2]) r13 (.agg #[.slice t0 nC l0, .slice t1 nS l1, .slice t2 nB l2]) (.agg #[.slice a0 nC c0, .slice a1 nS c1, .slice a2 nB c2]) true := .inr ⟨rfl, rfl, rfl⟩
        have C18 : Hid (∀ W, (W.cell? ⟨w.heap.size, 0, none⟩ = some (.slice a0 nC c0) ∧ W.cell? ⟨w.heap.size, 1, none⟩ = some (.slice a1 nS c1) ∧ W.cell? ⟨w.heap.size, 2, none⟩ = some (.slice a2 nB c2) ∧ W.cell? ⟨w.heap.size + 1, 0, none⟩ = some (.slice b0 mC k0) ∧ W.cell? ⟨w.heap.size + 1, 1, none⟩ = some (.slice b1 mS k1) ∧ W.cell? ⟨w.heap.size + 1, 2, none⟩ = some (.slice b2 mB k2) ∧ W.cell? ⟨w3.heap.size, 0, none⟩ = some (.slice t0 nC l0) ∧ W.cell? ⟨w3.heap.size, 1, none⟩ = some (.slice t1 nS l1) ∧ W.cell? ⟨w3.heap.size, 2, none⟩ = some (.slice t2 nB l2) ∧ St w W w3.heap.size ⟨a0, a1, a2, c0, c1, c2⟩ ⟨C, S, B⟩ ⟨b0, b1, b2, k0, k1, k2⟩ ⟨C', S', B'⟩ ⟨t0, t1, t2, l0, l1, l2⟩ ap ad5 P (.slice a0 nC c0) (.slice a1 nS c1) (.slice a2 nB c2) (.slice b0 mC k0) (.slice b1 mS k1) (.slice b2 mB k2) (.slice t0 nC l0) (.slice t1 nS l1) (.slice t2 nB l2)) → Calls Try.prog 16 #[.slice ad5 nP cp5, .slice ap nP cp] W fun r w' => r = .returned (.bool true) ∧ (w'.cell? ⟨w.heap.size, 0, none⟩ = some (.slice a0 nC c0) ∧ w'.cell? ⟨w.heap.size, 1, none⟩ = some (.slice a1 nS c1) ∧ w'.cell? ⟨w.heap.size, 2, none⟩ = some (.slice a2 nB c2) ∧ w'.cell? ⟨w.heap.size + 1, 0, none⟩ = some (.slice b0 mC k0) ∧ w'.cell? ⟨w.heap.size + 1, 1, none⟩ = some (.slice b1 mS k1) ∧ w'.cell? ⟨w.heap.size + 1, 2, none⟩ = some (.slice b2 mB k2) ∧ w'.cell? ⟨w3.heap.size, 0, none⟩ = some (.slice t0 nC l0) ∧ w'.cell? ⟨w3.heap.size, 1, none⟩ = some (.slice t1 nS l1) ∧ w'.cell? ⟨w3.heap.size, 2, none⟩ = some (.slice t2 nB l2) ∧ St w w' w3.heap.size ⟨a0, a1, a2, c0, c1, c2⟩ ⟨C, S, B⟩ ⟨b0, b1, b2, k0, k1, k2⟩ ⟨C', S', B'⟩ ⟨t0, t1, t2, l0, l1, l2⟩ ap ad5 P (.slice a0 nC c0) (.slice a1 nS c1) (.slice a2 nB c2) (.slice b0 mC k0) (.slice b1 mS k1) (.slice b2 mB k2) (.slice t0 nC l0) (.slice t1 nS l1) (.slice t2 nB l2))) := Lib.hid (fun W h => by
          have hs := h.2.2.2.2.2.2.2.2.2
          refine (K17.out ad5 cp5 W hs.io hs.ip).mono ?_
          rintro r w' ⟨rfl, k⟩
          exact ⟨rfl, st_all (hs.up k)⟩)
        have hSS : w11.drew.cell? ⟨w.heap.size, 0, none⟩ = some (.slice a0 nC c0) ∧ w11.drew.cell? ⟨w.heap.size, 1, none⟩ = some (.slice a1 nS c1) ∧ w11.drew.cell? ⟨w.heap.size, 2, none⟩ = some (.slice a2 nB c2) ∧ w11.drew.cell? ⟨w.heap.size + 1, 0, none⟩ = some (.slice b0 mC k0) ∧ w11.drew.cell? ⟨w.heap.size + 1, 1, none⟩ = some (.slice b1 mS k1) ∧ w11.drew.cell? ⟨w.heap.size + 1, 2, none⟩ = some (.slice b2 mB k2) ∧ w11.drew.cell? ⟨w3.heap.size, 0, none⟩ = some (.slice t0 nC l0) ∧ w11.drew.cell? ⟨w3.heap.size, 1, none⟩ = some (.slice t1 nS l1) ∧ w11.drew.cell? ⟨w3.heap.size, 2, none⟩ = some (.slice t2 nB l2) ∧ St w w11.drew w3.heap.size ⟨a0, a1, a2, c0, c1, c2⟩ ⟨C, S, B⟩ ⟨b0, b1, b2, k0, k1, k2⟩ ⟨C', S', B'⟩ ⟨t0, t1, t2, l0, l1, l2⟩ ap ad5 P (.slice a0 nC c0) (.slice a1 nS c1) (.slice a2 nB c2) (.slice b0 mC k0) (.slice b1 mS k1) (.slice b2 mB k2) (.slice t0 nC l0) (.slice t1 nS l1) (.slice t2 nB l2) := st_all (HT11.out.up (Below.refl w11.heap.size w11).drew)
        have e5 : (r5 == r5) = true := by simp
        have e6 : (s5 == s5) = true := by simp
        have e7 : (r7 == r7) = true := by simp
        have e8 : (s7 == s7) = true := by simp
        have e9 : (r9 == r9) = true := by simp
        have e10 : (s9 == s9) = true := by simp
        have e11 : (r11 == r11) = true := by simp
        have e13 : (r13 == r13) = true := by simp
        clear K5 K6 K7 K8 K9 K10 K11 K12 K13 K14 K15 K16 K17 x0 x1 x2 y0 y1 y2 z0 z1 z2
        go_region_held3 (fun w' => w'.cell? ⟨w.heap.size, 0, none⟩ = some (.slice a0 nC c0) ∧ w'.cell? ⟨w.heap.size, 1, none⟩ = some (.slice a1 nS c1) ∧ w'.cell? ⟨w.heap.size, 2, none⟩ = some (.slice a2 nB c2) ∧ w'.cell? ⟨w.heap.size + 1, 0, none⟩ = some (.slice b0 mC k0) ∧ w'.cell? ⟨w.heap.size + 1, 1, none⟩ = some (.slice b1 mS k1) ∧ w'.cell? ⟨w.heap.size + 1, 2, none⟩ = some (.slice b2 mB k2) ∧ w'.cell? ⟨w3.heap.size, 0, none⟩ = some (.slice t0 nC l0) ∧ w'.cell? ⟨w3.heap.size, 1, none⟩ = some (.slice t1 nS l1) ∧ w'.cell? ⟨w3.heap.size, 2, none⟩ = some (.slice t2 nB l2) ∧ St w w' w3.heap.size ⟨a0, a1, a2, c0, c1, c2⟩ ⟨C, S, B⟩ ⟨b0, b1, b2, k0, k1, k2⟩ ⟨C', S', B'⟩ ⟨t0, t1, t2, l0, l1, l2⟩ ap ad5 P (.slice a0 nC c0) (.slice a1 nS c1) (.slice a2 nB c2) (.slice b0 mC k0) (.slice b1 mS k1) (.slice b2 mB k2) (.slice t0 nC l0) (.slice t1 nS l1) (.slice t2 nB l2))
          ((first | exact hSS | assumption))
          (first | (go_at_call 12; refine (C12.out _ (by assumption)).mono ?_; rintro e w' ⟨rfl, hS2⟩)
                 | (go_at_call 13; refine (C13.out _ (by assumption)).mono ?_; rintro e w' ⟨rfl, hS2⟩))
        have HF := Lib.hid (show w'.cell? ⟨w.heap.size, 0, none⟩ = some (.slice a0 nC c0) ∧ w'.cell? ⟨w.heap.size, 1, none⟩ = some (.slice a1 nS c1) ∧ w'.cell? ⟨w.heap.size, 2, none⟩ = some (.slice a2 nB c2) ∧ w'.cell? ⟨w.heap.size + 1, 0, none⟩ = some (.slice b0 mC k0) ∧ w'.cell? ⟨w.heap.size + 1, 1, none⟩ = some (.slice b1 mS k1) ∧ w'.cell? ⟨w.heap.size + 1, 2, none⟩ = some (.slice b2 mB k2) ∧ w'.cell? ⟨w3.heap.size, 0, none⟩ = some (.slice t0 nC l0) ∧ w'.cell? ⟨w3.heap.size, 1, none⟩ = some (.slice t1 nS l1) ∧ w'.cell? ⟨w3.heap.size, 2, none⟩ = some (.slice t2 nB l2) ∧ St w w' w3.heap.size ⟨a0, a1, a2, c0, c1, c2⟩ ⟨C, S, B⟩ ⟨b0, b1, b2, k0, k1, k2⟩ ⟨C', S', B'⟩ ⟨t0, t1, t2, l0, l1, l2⟩ ap ad5 P (.slice a0 nC c0) (.slice a1 nS c1) (.slice a2 nB c2) (.slice b0 mC k0) (.slice b1 mS k1) (.slice b2 mB k2) (.slice t0 nC l0) (.slice t1 nS l1) (.slice t2 nB l2) from by assumption)
        have hT := HF.out.2.2.2.2.2.2.2.2.2
        clear hSS C12 C13
        go_wp2_with fail
        have hSS : w'.drew.cell? ⟨w.heap.size, 0, none⟩ = some (.slice a0 nC c0) ∧ w'.drew.cell? ⟨w.heap.size, 1, none⟩ = some (.slice a1 nS c1) ∧ w'.drew.cell? ⟨w.heap.size, 2, none⟩ = some (.slice a2 nB c2) ∧ w'.drew.cell? ⟨w.heap.size + 1, 0, none⟩ = some (.slice b0 mC k0) ∧ w'.drew.cell? ⟨w.heap.size + 1, 1, none⟩ = some (.slice b1 mS k1) ∧ w'.drew.cell? ⟨w.heap.size + 1, 2, none⟩ = some (.slice b2 mB k2) ∧ w'.drew.cell? ⟨w3.heap.size, 0, none⟩ = some (.slice t0 nC l0) ∧ w'.drew.cell? ⟨w3.heap.size, 1, none⟩ = some (.slice t1 nS l1) ∧ w'.drew.cell? ⟨w3.heap.size, 2, none⟩ = some (.slice t2 nB l2) ∧ St w w'.drew w3.heap.size ⟨a0, a1, a2, c0, c1, c2⟩ ⟨C, S, B⟩ ⟨b0, b1, b2, k0, k1, k2⟩ ⟨C', S', B'⟩ ⟨t0, t1, t2, l0, l1, l2⟩ ap ad5 P (.slice a0 nC c0) (.slice a1 nS c1) (.slice a2 nB c2) (.slice b0 mC k0) (.slice b1 mS k1) (.slice b2 mB k2) (.slice t0 nC l0) (.slice t1 nS l1) (.slice t2 nB l2) := st_all (hT.up (Below.refl w'.heap.size w').drew)
        have HBL := Lib.hid hT.bl
        clear hT
        go_region_held3 (fun w' => w'.cell? ⟨w.heap.size, 0, none⟩ = some (.slice a0 nC c0) ∧ w'.cell? ⟨w.heap.size, 1, none⟩ = some (.slice a1 nS c1) ∧ w'.cell? ⟨w.heap.size, 2, none⟩ = some (.slice a2 nB c2) ∧ w'.cell? ⟨w.heap.size + 1, 0, none⟩ = some (.slice b0 mC k0) ∧ w'.cell? ⟨w.heap.size + 1, 1, none⟩ = some (.slice b1 mS k1) ∧ w'.cell? ⟨w.heap.size + 1, 2, none⟩ = some (.slice b2 mB k2) ∧ w'.cell? ⟨w3.heap.size, 0, none⟩ = some (.slice t0 nC l0) ∧ w'.cell? ⟨w3.heap.size, 1, none⟩ = some (.slice t1 nS l1) ∧ w'.cell? ⟨w3.heap.size, 2, none⟩ = some (.slice t2 nB l2) ∧ St w w' w3.heap.size ⟨a0, a1, a2, c0, c1, c2⟩ ⟨C, S, B⟩ ⟨b0, b1, b2, k0, k1, k2⟩ ⟨C', S', B'⟩ ⟨t0, t1, t2, l0, l1, l2⟩ ap ad5 P (.slice a0 nC c0) (.slice a1 nS c1) (.slice a2 nB c2) (.slice b0 mC k0) (.slice b1 mS k1) (.slice b2 mB k2) (.slice t0 nC l0) (.slice t1 nS l1) (.slice t2 nB l2))
          ((first | exact hSS | assumption))
          (first | (go_at_call 14; refine (C14.out _ _ _ (by assumption) (by assumption)).mono ?_; rintro e w' ⟨rfl, hS2⟩)
                 | (go_at_call 15; refine (C15.out _ _ _ _ (by assumption) (by assumption)).mono ?_; rintro e w' ⟨rfl, hS2⟩)
                 | (go_at_call 16; refine (C18.out _ (by assumption)).mono ?_; rintro e w' ⟨rfl, hS2⟩))
        have HZF := Lib.hid (show w'.cell? ⟨w.heap.size, 0, none⟩ = some (.slice a0 nC c0) ∧ w'.cell? ⟨w.heap.size, 1, none⟩ = some (.slice a1 nS c1) ∧ w'.cell? ⟨w.heap.size, 2, none⟩ = some (.slice a2 nB c2) ∧ w'.cell? ⟨w.heap.size + 1, 0, none⟩ = some (.slice b0 mC k0) ∧ w'.cell? ⟨w.heap.size + 1, 1, none⟩ = some (.slice b1 mS k1) ∧ w'.cell? ⟨w.heap.size + 1, 2, none⟩ = some (.slice b2 mB k2) ∧ w'.cell? ⟨w3.heap.size, 0, none⟩ = some (.slice t0 nC l0) ∧ w'.cell? ⟨w3.heap.size, 1, none⟩ = some (.slice t1 nS l1) ∧ w'.cell? ⟨w3.heap.size, 2, none⟩ = some (.slice t2 nB l2) ∧ St w w' w3.heap.size ⟨a0, a1, a2, c0, c1, c2⟩ ⟨C, S, B⟩ ⟨b0, b1, b2, k0, k1, k2⟩ ⟨C', S', B'⟩ ⟨t0, t1, t2, l0, l1, l2⟩ ap ad5 P (.slice a0 nC c0) (.slice a1 nS c1) (.slice a2 nB c2) (.slice b0 mC k0) (.slice b1 mS k1) (.slice b2 mB k2) (.slice t0 nC l0) (.slice t1 nS l1) (.slice t2 nB l2) from by assumption)
        go_wp2_with fail
        go_ret
        exact ⟨by first | rfl | simp, HZF.out.2.2.2.2.2.2.2.2.2.bl⟩
  · have p1' : ¬ (30 : Int) < nP := by omega
    have p3' : ¬ (1100 : Int) < nP := by omega
    go_wp2_with fail
    have Q2 : Hid (nC ≤ 300 ∧ nS ≤ 70 ∧ nB ≤ 70 ∧ ∀ i, i < nS → (gS S i).length ≤ 300) := Lib.hid (by
      have h := Q1.out (by first | rfl | trivial)
      rw [HC.out, HS.out, HB.out]
      exact ⟨h.2.1, h.1, h.2.2.1, h.2.2.2⟩)
    refine (HTW.out _ HL2.out.1 Q2.out.1 Q2.out.2.1 Q2.out.2.2.1 Q2.out.2.2.2).mono ?_
    rintro e w3 ⟨t, rfl, hd3, q3⟩
    obtain ⟨t0, t1, t2, l0, l1, l2⟩ := t
    have hdv : dv ⟨t0, t1, t2, l0, l1, l2⟩ ⟨C, S, B⟩ = .agg #[.slice t0 nC l0, .slice t1 nS l1, .slice t2 nB l2] := by unfold dv; rw [HC.out, HS.out, HB.out]
    rw [hdv]
    have hb4 : Below w3.heap.size w3 (w3.alloc (.cells #[.slice t0 nC l0, .slice t1 nS l1, .slice t2 nB l2] 26)) := (Below.refl w3.heap.size w3).alloc (Nat.le_refl _) _
    have HL3 := Lib.hid ((HL2.out.below q3).below hb4)
    have HM3 := Lib.hid ((HM2.out.below q3).below hb4)
    have HD3 := Lib.hid (hd3.below hb4)
    have HE3 : Hid (Below (w3.heap.size + 1) (w3.alloc (.cells #[.slice t0 nC l0, .slice t1 nS l1, .slice t2 nB l2] 26)) ((w3.alloc (.cells #[.slice t0 nC l0, .slice t1 nS l1, .slice t2 nB l2] 26)).alloc (.cells #[] 3))) := Lib.hid (by
      have h := (Below.refl (w3.alloc (.cells #[.slice t0 nC l0, .slice t1 nS l1, .slice t2 nB l2] 26)).heap.size (w3.alloc (.cells #[.slice t0 nC l0, .slice t1 nS l1, .slice t2 nB l2] 26))).alloc (Nat.le_refl _) (.cells #[] 3)
      rwa [World.size_alloc] at h)
    have HOE : Hid (((w3.alloc (.cells #[.slice t0 nC l0, .slice t1 nS l1, .slice t2 nB l2] 26)).alloc (.cells #[] 3)).ownsRow (w3.heap.size + 1) 3 1 (.slice (some ⟨w3.heap.size + 1, 0, none⟩) 0 0) 0 []) := Lib.hid (by
      have h := own_empty (w3.alloc (.cells #[.slice t0 nC l0, .slice t1 nS l1, .slice t2 nB l2] 26)) (Nat.le_refl _)
      rwa [World.size_alloc] at h)
    have HSR5 : Hid (Src ((w3.alloc (.cells #[.slice t0 nC l0, .slice t1 nS l1, .slice t2 nB l2] 26)).alloc (.cells #[] 3)) ap nP cp (rI P)) := Lib.hid (HSR.out.up (HL3.out.1.trans (HE3.out.mono (by have := (HL2.out.below q3).1.size; omega))))
    have HT4 : Hid (St w (w3.alloc (.cells #[.slice t0 nC l0, .slice t1 nS l1, .slice t2 nB l2] 26)) w3.heap.size ⟨a0, a1, a2, c0, c1, c2⟩ ⟨C, S, B⟩ ⟨b0, b1, b2, k0, k1, k2⟩ ⟨C', S', B'⟩ ⟨t0, t1, t2, l0, l1, l2⟩ ap ap P (.slice a0 nC c0) (.slice a1 nS c1) (.slice a2 nB c2) (.slice b0 mC k0) (.slice b1 mS k1) (.slice b2 mB k2) (.slice t0 nC l0) (.slice t1 nS l1) (.slice t2 nB l2)) := Lib.hid (by
      exact ⟨HL3.out.1, HL3.out.2, HM3.out, bq_new _ _ _ _ _, HV.out.below HL3.out.1, HU.out.below HL3.out.1, HD3.out, HP.out.below HL3.out.1, HP.out.below HL3.out.1⟩)
    have HZ : Hid (w3.heap.size + 1 ≤ ((w3.alloc (.cells #[.slice t0 nC l0, .slice t1 nS l1, .slice t2 nB l2] 26)).alloc (.cells #[] 3)).heap.size) := Lib.hid (by simp)
    have T1 : True := trivial
    clear hdv hd3 q3 hb4 HL2 HM2 HTW x0 x1 x2 y0 y1 y2
    go_wp2_with (have _t := T1; at_builtin; refine wpList_app rfl _ _ 22 rfl (w3.heap.size + 1) 3 i0 (.int .i64 0) 8 Try.underlying22 hq0 hz00 hz01 hz02 rfl (.slice (some ⟨w3.heap.size + 1, 0, none⟩) 0 0) 0 [] rfl HOE.out ap nP cp (rI P) rfl HSR5.out (by unfold maxLen; omega) (by omega) HZ.out ?_; clear _t; clear T1; intro v5 w5 ho5 hg5; have HOI : Hid (OwnI w5 (w3.heap.size + 1) v5 P) := Lib.hid (by unfold OwnI; rw [← HN.out]; simpa using ho5); obtain ⟨ad5, cp5, hv5, _, _, hi5, _⟩ := ownI_shape HOI.out; rw [← HN.out] at hv5; subst hv5; have hb5 : Below (w3.alloc (.cells #[.slice t0 nC l0, .slice t1 nS l1, .slice t2 nB l2] 26)).heap.size (w3.alloc (.cells #[.slice t0 nC l0, .slice t1 nS l1, .slice t2 nB l2] 26)) w5 := (by rw [World.size_alloc]; exact below_own' HE3.out HZ.out HOE.out hg5); have HT5 : Hid (St w w5 w3.heap.size ⟨a0, a1, a2, c0, c1, c2⟩ ⟨C, S, B⟩ ⟨b0, b1, b2, k0, k1, k2⟩ ⟨C', S', B'⟩ ⟨t0, t1, t2, l0, l1, l2⟩ ap ad5 P (.slice a0 nC c0) (.slice a1 nS c1) (.slice a2 nB c2) (.slice b0 mC k0) (.slice b1 mS k1) (.slice b2 mB k2) (.slice t0 nC l0) (.slice t1 nS l1) (.slice t2 nB l2)) := Lib.hid (St.io' (HT4.out.up hb5) hi5); have x0 := HT5.out.bx.c0; have x1 := HT5.out.bx.c1; have x2 := HT5.out.bx.c2; have y0 := HT5.out.by'.c0; have y1 := HT5.out.by'.c1; have y2 := HT5.out.by'.c2; have z0 := HT5.out.bz.c0; have z1 := HT5.out.bz.c1; have z2 := HT5.out.bz.c2; clear ho5 hg5 hi5 hb5 HL3 HM3 HD3 HE3 HOE HSR5 HT4)
    refine (K5.out ⟨t0, t1, t2, l0, l1, l2⟩ _ HT5.out.vt).mono ?_
    rintro e w6 ⟨rfl, q5⟩
    have HT6 := Lib.hid (HT5.out.up q5)
    clear q5 x0 x1 x2 y0 y1 y2 z0 z1 z2 HT5
    have x0 := HT6.out.bx.c0
    have x1 := HT6.out.bx.c1
    have x2 := HT6.out.bx.c2
    have y0 := HT6.out.by'.c0
    have y1 := HT6.out.by'.c1
    have y2 := HT6.out.by'.c2
    have z0 := HT6.out.bz.c0
    have z1 := HT6.out.bz.c1
    have z2 := HT6.out.bz.c2
    go_wp2_with fail
    refine (K6.out _ HT6.out.vd).mono ?_
    rintro e w7 ⟨rfl, q6⟩
    have HT7 := Lib.hid (HT6.out.up q6)
    clear q6 x0 x1 x2 y0 y1 y2 z0 z1 z2 HT6
    have x0 := HT7.out.bx.c0
    have x1 := HT7.out.bx.c1
    have x2 := HT7.out.bx.c2
    have y0 := HT7.out.by'.c0
    have y1 := HT7.out.by'.c1
    have y2 := HT7.out.by'.c2
    have z0 := HT7.out.bz.c0
    have z1 := HT7.out.bz.c1
    have z2 := HT7.out.bz.c2
    go_wp2_with fail
    refine (K7.out ⟨t0, t1, t2, l0, l1, l2⟩ ad5 cp5 _ HT7.out.vt HT7.out.io).mono ?_
    rintro e w8 ⟨rfl, q7⟩
    have HT8 := Lib.hid (HT7.out.up q7)
    clear q7 x0 x1 x2 y0 y1 y2 z0 z1 z2 HT7
    have x0 := HT8.out.bx.c0
    have x1 := HT8.out.bx.c1
    have x2 := HT8.out.bx.c2
    have y0 := HT8.out.by'.c0
    have y1 := HT8.out.by'.c1
    have y2 := HT8.out.by'.c2
    have z0 := HT8.out.bz.c0
    have z1 := HT8.out.bz.c1
    have z2 := HT8.out.bz.c2
    go_wp2_with fail
    refine (K8.out _ HT8.out.vd HT8.out.ip).mono ?_
    rintro e w9 ⟨rfl, q8⟩
    have HT9 := Lib.hid (HT8.out.up q8)
    clear q8 x0 x1 x2 y0 y1 y2 z0 z1 z2 HT8
    have x0 := HT9.out.bx.c0
    have x1 := HT9.out.bx.c1
    have x2 := HT9.out.bx.c2
    have y0 := HT9.out.by'.c0
    have y1 := HT9.out.by'.c1
    have y2 := HT9.out.by'.c2
    have z0 := HT9.out.bz.c0
    have z1 := HT9.out.bz.c1
    have z2 := HT9.out.bz.c2
    go_wp2_with fail
    refine (K9.out ⟨t0, t1, t2, l0, l1, l2⟩ ad5 cp5 _ HT9.out.vt HT9.out.io).mono ?_
    rintro e w10 ⟨rfl, q9⟩
    have HT10 := Lib.hid (HT9.out.up q9)
    clear q9 x0 x1 x2 y0 y1 y2 z0 z1 z2 HT9
    have x0 := HT10.out.bx.c0
    have x1 := HT10.out.bx.c1
    have x2 := HT10.out.bx.c2
    have y0 := HT10.out.by'.c0
    have y1 := HT10.out.by'.c1
    have y2 := HT10.out.by'.c2
    have z0 := HT10.out.bz.c0
    have z1 := HT10.out.bz.c1
    have z2 := HT10.out.bz.c2
    go_wp2_with fail
    refine (K10.out _ HT10.out.vd HT10.out.ip).mono ?_
    rintro e w11 ⟨rfl, q10⟩
    have HT11 := Lib.hid (HT10.out.up q10)
    clear q10 x0 x1 x2 y0 y1 y2 z0 z1 z2 HT10
    have x0 := HT11.out.bx.c0
    have x1 := HT11.out.bx.c1
    have x2 := HT11.out.bx.c2
    have y0 := HT11.out.by'.c0
    have y1 := HT11.out.by'.c1
    have y2 := HT11.out.by'.c2
    have z0 := HT11.out.bz.c0
    have z1 := HT11.out.bz.c1
    have z2 := HT11.out.bz.c2
    go_wp2_with fail
    have C12 : Hid (∀ W, (W.cell? ⟨w.heap.size, 0, none⟩ = some (.slice a0 nC c0) ∧ W.cell? ⟨w.heap.size, 1, none⟩ = some (.slice a1 nS c1) ∧ W.cell? ⟨w.heap.size, 2, none⟩ = some (.slice a2 nB c2) ∧ W.cell? ⟨w.heap.size + 1, 0, none⟩ = some (.slice b0 mC k0) ∧ W.cell? ⟨w.heap.size + 1, 1, none⟩ = some (.slice b1 mS k1) ∧ W.cell? ⟨w.heap.size + 1, 2, none⟩ = some (.slice b2 mB k2) ∧ W.cell? ⟨w3.heap.size, 0, none⟩ = some (.slice t0 nC l0) ∧ W.cell? ⟨w3.heap.size, 1, none⟩ = some (.slice t1 nS l1) ∧ W.cell? ⟨w3.heap.size, 2, none⟩ = some (.slice t2 nB l2) ∧ St w W w3.heap.size ⟨a0, a1, a2, c0, c1, c2⟩ ⟨C, S, B⟩ ⟨b0, b1, b2, k0, k1, k2⟩ ⟨C', S', B'⟩ ⟨t0, t1, t2, l0, l1, l2⟩ ap ad5 P (.slice a0 nC c0) (.slice a1 nS c1) (.slice a2 nB c2) (.slice b0 mC k0) (.slice b1 mS k1) (.slice b2 mB k2) (.slice t0 nC l0) (.slice t1 nS l1) (.slice t2 nB l2)) → Calls Try.prog 12 #[.agg #[.slice t0 nC l0, .slice t1 nS l1, .slice t2 nB l2]] W fun r w' => r = .returned (.int .i64 r11) ∧ (w'.cell? ⟨w.heap.size, 0, none⟩ = some (.slice a0 nC c0) ∧ w'.cell? ⟨w.heap.size, 1, none⟩ = some (.slice a1 nS c1) ∧ w'.cell? ⟨w.heap.size, 2, none⟩ = some (.slice a2 nB c2) ∧ w'.cell? ⟨w.heap.size + 1, 0, none⟩ = some (.slice b0 mC k0) ∧ w'.cell? ⟨w.heap.size + 1, 1, none⟩ = some (.slice b1 mS k1) ∧ w'.cell? ⟨w.heap.size + 1, 2, none⟩ = some (.slice b2 mB k2) ∧ w'.cell? ⟨w3.heap.size, 0, none⟩ = some (.slice t0 nC l0) ∧ w'.cell? ⟨w3.heap.size, 1, none⟩ = some (.slice t1 nS l1) ∧ w'.cell? ⟨w3.heap.size, 2, none⟩ = some (.slice t2 nB l2) ∧ St w w' w3.heap.size ⟨a0, a1, a2, c0, c1, c2⟩ ⟨C, S, B⟩ ⟨b0, b1, b2, k0, k1, k2⟩ ⟨C', S', B'⟩ ⟨t0, t1, t2, l0, l1, l2⟩ ap ad5 P (.slice a0 nC c0) (.slice a1 nS c1) (.slice a2 nB c2) (.slice b0 mC k0) (.slice b1 mS k1) (.slice b2 mB k2) (.slice t0 nC l0) (.slice t1 nS l1) (.slice t2 nB l2))) := Lib.hid (fun W h => by
      have hs := h.2.2.2.2.2.2.2.2.2
      refine (K11.out ⟨t0, t1, t2, l0, l1, l2⟩ W hs.vt).mono ?_
      rintro r w' ⟨rfl, k⟩
      exact ⟨rfl, st_all (hs.up k)⟩)
    have C13 : Hid (∀ W, (W.cell? ⟨w.heap.size, 0, none⟩ = some (.slice a0 nC c0) ∧ W.cell? ⟨w.heap.size, 1, none⟩ = some (.slice a1 nS c1) ∧ W.cell? ⟨w.heap.size, 2, none⟩ = some (.slice a2 nB c2) ∧ W.cell? ⟨w.heap.size + 1, 0, none⟩ = some (.slice b0 mC k0) ∧ W.cell? ⟨w.heap.size + 1, 1, none⟩ = some (.slice b1 mS k1) ∧ W.cell? ⟨w.heap.size + 1, 2, none⟩ = some (.slice b2 mB k2) ∧ W.cell? ⟨w3.heap.size, 0, none⟩ = some (.slice t0 nC l0) ∧ W.cell? ⟨w3.heap.size, 1, none⟩ = some (.slice t1 nS l1) ∧ W.cell? ⟨w3.heap.size, 2, none⟩ = some (.slice t2 nB l2) ∧ St w W w3.heap.size ⟨a0, a1, a2, c0, c1, c2⟩ ⟨C, S, B⟩ ⟨b0, b1, b2, k0, k1, k2⟩ ⟨C', S', B'⟩ ⟨t0, t1, t2, l0, l1, l2⟩ ap ad5 P (.slice a0 nC c0) (.slice a1 nS c1) (.slice a2 nB c2) (.slice b0 mC k0) (.slice b1 mS k1) (.slice b2 mB k2) (.slice t0 nC l0) (.slice t1 nS l1) (.slice t2 nB l2)) → Calls Try.prog 13 #[.agg #[.slice a0 nC c0, .slice a1 nS c1, .slice a2 nB c2]] W fun r w' => r = .returned (.int .i64 r11) ∧ (w'.cell? ⟨w.heap.size, 0, none⟩ = some (.slice a0 nC c0) ∧ w'.cell? ⟨w.heap.size, 1, none⟩ = some (.slice a1 nS c1) ∧ w'.cell? ⟨w.heap.size, 2, none⟩ = some (.slice a2 nB c2) ∧ w'.cell? ⟨w.heap.size + 1, 0, none⟩ = some (.slice b0 mC k0) ∧ w'.cell? ⟨w.heap.size + 1, 1, none⟩ = some (.slice b1 mS k1) ∧ w'.cell? ⟨w.heap.size + 1, 2, none⟩ = some (.slice b2 mB k2) ∧ w'.cell? ⟨w3.heap.size, 0, none⟩ = some (.slice t0 nC l0) ∧ w'.cell? ⟨w3.heap.size, 1, none⟩ = some (.slice t1 nS l1) ∧ w'.cell? ⟨w3.heap.size, 2, none⟩ = some (.slice t2 nB l2) ∧ St w w' w3.heap.size ⟨a0, a1, a2, c0, c1, c2⟩ ⟨C, S, B⟩ ⟨b0, b1, b2, k0, k1, k2⟩ ⟨C', S', B'⟩ ⟨t0, t1, t2, l0, l1, l2⟩ ap ad5 P (.slice a0 nC c0) (.slice a1 nS c1) (.slice a2 nB c2) (.slice b0 mC k0) (.slice b1 mS k1) (.slice b2 mB k2) (.slice t0 nC l0) (.slice t1 nS l1) (.slice t2 nB l2))) := Lib.hid (fun W h => by
      have hs := h.2.2.2.2.2.2.2.2.2
      refine (K12.out W hs.vd).mono ?_
      rintro r w' ⟨rfl, k⟩
      exact ⟨rfl, st_all (hs.up k)⟩)
    have C14 : Hid (∀ W v r, (W.cell? ⟨w.heap.size, 0, none⟩ = some (.slice a0 nC c0) ∧ W.cell? ⟨w.heap.size, 1, none⟩ = some (.slice a1 nS c1) ∧ W.cell? ⟨w.heap.size, 2, none⟩ = some (.slice a2 nB c2) ∧ W.cell? ⟨w.heap.size + 1, 0, none⟩ = some (.slice b0 mC k0) ∧ W.cell? ⟨w.heap.size + 1, 1, none⟩ = some (.slice b1 mS k1) ∧ W.cell? ⟨w.heap.size + 1, 2, none⟩ = some (.slice b2 mB k2) ∧ W.cell? ⟨w3.heap.size, 0, none⟩ = some (.slice t0 nC l0) ∧ W.cell? ⟨w3.heap.size, 1, none⟩ = some (.slice t1 nS l1) ∧ W.cell? ⟨w3.heap.size, 2, none⟩ = some (.slice t2 nB l2) ∧ St w W w3.heap.size ⟨a0, a1, a2, c0, c1, c2⟩ ⟨C, S, B⟩ ⟨b0, b1, b2, k0, k1, k2⟩ ⟨C', S', B'⟩ ⟨t0, t1, t2, l0, l1, l2⟩ ap ad5 P (.slice a0 nC c0) (.slice a1 nS c1) (.slice a2 nB c2) (.slice b0 mC k0) (.slice b1 mS k1) (.slice b2 mB k2) (.slice t0 nC l0) (.slice t1 nS l1) (.slice t2 nB l2)) → Who (.agg #[.slice a0 nC c0, .slice a1 nS c1, .slice a2 nB c2]) (.agg #[.slice b0 mC k0, .slice b1 mS k1, .slice b2 mB k2]) r13 v r → Calls Try.prog 14 #[.agg #[.slice t0 nC l0, .slice t1 nS l1, .slice t2 nB l2], v] W fun r' w' => r' = .returned (.bool r) ∧ (w'.cell? ⟨w.heap.size, 0, none⟩ = some (.slice a0 nC c0) ∧ w'.cell? ⟨w.heap.size, 1, none⟩ = some (.slice a1 nS c1) ∧ w'.cell? ⟨w.heap.size, 2, none⟩ = some (.slice a2 nB c2) ∧ w'.cell? ⟨w.heap.size + 1, 0, none⟩ = some (.slice b0 mC k0) ∧ w'.cell? ⟨w.heap.size + 1, 1, none⟩ = some (.slice b1 mS k1) ∧ w'.cell? ⟨w.heap.size + 1, 2, none⟩ = some (.slice b2 mB k2) ∧ w'.cell? ⟨w3.heap.size, 0, none⟩ = some (.slice t0 nC l0) ∧ w'.cell? ⟨w3.heap.size, 1, none⟩ = some (.slice t1 nS l1) ∧ w'.cell? ⟨w3.heap.size, 2, none⟩ = some (.slice t2 nB l2) ∧ St w w' w3.heap.size ⟨a0, a1, a2, c0, c1, c2⟩ ⟨C, S, B⟩ ⟨b0, b1, b2, k0, k1, k2⟩ ⟨C', S', B'⟩ ⟨t0, t1, t2, l0, l1, l2⟩ ap ad5 P (.slice a0 nC c0) (.slice a1 nS c1) (.slice a2 nB c2) (.slice b0 mC k0) (.slice b1 mS k1) (.slice b2 mB k2) (.slice t0 nC l0) (.slice t1 nS l1) (.slice t2 nB l2))) := Lib.hid (fun W v r h hw => by
      have hs := h.2.2.2.2.2.2.2.2.2
      rcases hw with ⟨rfl, rfl⟩ | ⟨rfl, rfl⟩
      · refine (K13.out ⟨t0, t1, t2, l0, l1, l2⟩ W hs.vt hs.vo).mono ?_
        rintro r w' ⟨rfl, k⟩
        exact ⟨rfl, st_all (hs.up k)⟩
      · refine (K15.out ⟨t0, t1, t2, l0, l1, l2⟩ W hs.vt hs.vd).mono ?_
        rintro r w' ⟨rfl, k⟩
        exact ⟨rfl, st_all (hs.up k)⟩)
    have C15 : Hid (∀ W u v r, (W.cell? ⟨w.heap.size, 0, none⟩ = some (.slice a0 nC c0) ∧ W.cell? ⟨w.heap.size, 1, none⟩ = some (.slice a1 nS c1) ∧ W.cell? ⟨w.heap.size, 2, none⟩ = some (.slice a2 nB c2) ∧ W.cell? ⟨w.heap.size + 1, 0, none⟩ = some (.slice b0 mC k0) ∧ W.cell? ⟨w.heap.size + 1, 1, none⟩ = some (.slice b1 mS k1) ∧ W.cell? ⟨w.heap.size + 1, 2, none⟩ = some (.slice b2 mB k2) ∧ W.cell? ⟨w3.heap.size, 0, none⟩ = some (.slice t0 nC l0) ∧ W.cell? ⟨w3.heap.size, 1, none⟩ = some (.slice t1 nS l1) ∧ W.cell? ⟨w3.heap.size, 2, none⟩ = some (.slice t2 nB l2) ∧ St w W w3.heap.size ⟨a0, a1, a2, c0, c1, c2⟩ ⟨C, S, B⟩ ⟨b0, b1, b2, k0, k1, k2⟩ ⟨C', S', B'⟩ ⟨t0, t1, t2, l0, l1, l2⟩ ap ad5 P (.slice a0 nC c0) (.slice a1 nS c1) (.slice a2 nB c2) (.slice b0 mC k0) (.slice b1 mS k1) (.slice b2 mB k2) (.slice t0 nC l0) (.slice t1 nS l1) (.slice t2 nB l2)) → Who2 (.agg #[.slice a0 nC c0, .slice a1 nS c1, .slice a2 nB c2]) (.agg #[.slice b0 mC k0, .slice b1 mS k1, .slice b2 mB k2]) (.agg #[.slice t0 nC l0, .slice t1 nS l1, .slice t2 nB l2]) r13 u v r → Calls Try.prog 15 #[u, v] W fun r' w' => r' = .returned (.bool r) ∧ (w'.cell? ⟨w.heap.size, 0, none⟩ = some (.slice a0 nC c0) ∧ w'.cell? ⟨w.heap.size, 1, none⟩ = some (.slice a1 nS c1) ∧ w'.cell? ⟨w.heap.size, 2, none⟩ = some (.slice a2 nB c2) ∧ w'.cell? ⟨w.heap.size + 1, 0, none⟩ = some (.slice b0 mC k0) ∧ w'.cell? ⟨w.heap.size + 1, 1, none⟩ = some (.slice b1 mS k1) ∧ w'.cell? ⟨w.heap.size + 1, 2, none⟩ = some (.slice b2 mB k2) ∧ w'.cell? ⟨w3.heap.size, 0, none⟩ = some (.slice t0 nC l0) ∧ w'.cell? ⟨w3.heap.size, 1, none⟩ = some (.slice t1 nS l1) ∧ w'.cell? ⟨w3.heap.size, 2, none⟩ = some (.slice t2 nB l2) ∧ St w w' w3.heap.size ⟨a0, a1, a2, c0, c1, c2⟩ ⟨C, S, B⟩ ⟨b0, b1, b2, k0, k1, k2⟩ ⟨C', S', B'⟩ ⟨t0, t1, t2, l0, l1, l2⟩ ap ad5 P (.slice a0 nC c0) (.slice a1 nS c1) (.slice a2 nB c2) (.slice b0 mC k0) (.slice b1 mS k1) (.slice b2 mB k2) (.slice t0 nC l0) (.slice t1 nS l1) (.slice t2 nB l2))) := Lib.hid (fun W u v r h hw => by
      have hs := h.2.2.2.2.2.2.2.2.2
      rcases hw with ⟨rfl, rfl, rfl⟩ | ⟨rfl, rfl, rfl⟩
      · refine (K14.out W hs.vd hs.vo).mono ?_
        rintro r w' ⟨rfl, k⟩
        exact ⟨rfl, st_all (hs.up k)⟩
      · refine (K16.out ⟨t0, t1, t2, l0, l1, l2⟩ W hs.vt hs.vd).mono ?_
        rintro r w' ⟨rfl, k⟩
        exact ⟨rfl, st_all (hs.up k)⟩)
    have W1 : Who (.agg #[.slice a0 nC c0, .slice a1 nS c1, .slice a2 nB c2]) (.agg #[.slice b0 mC k0, .slice b1 mS k1, .slice b2 mB k2]) r13 (.agg #[.slice b0 mC k0, .slice b1 mS k1, .slice b2 mB k2]) r13 := .inl ⟨rfl, rfl⟩
    have W2 : Who (.agg #[.slice a0 nC c0, .slice a1 nS c1, .slice a2 nB c2]) (.agg #[.slice b0 mC k0, .slice b1 mS k1, .slice b2 mB k2]) r13 (.agg #[.slice a0 nC c0, .slice a1 nS c1, .slice a2 nB c2]) true := .inr ⟨rfl, rfl⟩
    have W3 : Who2 (.agg #[.slice a0 nC c0, .slice a1 nS c1, .slice a2 nB c2]) (.agg #[.slice b0 mC k0, .slice b1 mS k1, .slice b2 mB k2]) (.agg #[.slice t0 nC l0, .slice t1 nS l1, .slice t2 nB l2]) r13 (.agg #[.slice a0 nC c0, .slice a1 nS c1, .slice a2 nB c2]) (.agg #[.slice b0 mC k0, .slice b1 mS k1, .slice b2 mB k2]) r13 := .inl ⟨rfl, rfl, rfl⟩
    have W4 : Who2 (.agg #[.slice a0 nC c0, .slice a1 nS c1, .slice a2 nB c2]) (.agg #[.slice b0 mC k0, .slice b1 mS k1, .slice b2 mB k2]) (.agg #[.slice t0 nC l0, .slice t1 nS l1, .slice t2 nB l2]) r13 (.agg #[.slice t0 nC l0, .slice t1 nS l1, .slice t2 nB l2]) (.agg #[.slice a0 nC c0, .slice a1 nS c1, .slice a2 nB c2]) true := .inr ⟨rfl, rfl, rfl⟩
    have C18 : Hid (∀ W, (W.cell? ⟨w.heap.size, 0, none⟩ = some (.slice a0 nC c0) ∧ W.cell? ⟨w.heap.size, 1, none⟩ = some (.slice a1 nS c1) ∧ W.cell? ⟨w.heap.size, 2, none⟩ = some (.slice a2 nB c2) ∧ W.cell? ⟨w.heap.size + 1, 0, none⟩ = some (.slice b0 mC k0) ∧ W.cell? ⟨w.heap.size + 1, 1, none⟩ = some (.slice b1 mS k1) ∧ W.cell? ⟨w.heap.size + 1, 2, none⟩ = some (.slice b2 mB k2) ∧ W.cell? ⟨w3.heap.size, 0, none⟩ = some (.slice t0 nC l0) ∧ W.cell? ⟨w3.heap.size, 1, none⟩ = some (.slice t1 nS l1) ∧ W.cell? ⟨w3.heap.size, 2, none⟩ = some (.slice t2 nB l2) ∧ St w W w3.heap.size ⟨a0, a1, a2, c0, c1, c2⟩ ⟨C, S, B⟩ ⟨b0, b1, b2, k0, k1, k2⟩ ⟨C', S', B'⟩ ⟨t0, t1, t2, l0, l1, l2⟩ ap ad5 P (.slice a0 nC c0) (.slice a1 nS c1) (.slice a2 nB c2) (.slice b0 mC k0) (.slice b1 mS k1) (.slice b2 mB k2) (.slice t0 nC l0) (.slice t1 nS l1) (.slice t2 nB l2)) → Calls Try.prog 16 #[.slice ad5 nP cp5, .slice ap nP cp] W fun r w' => r = .returned (.bool true) ∧ (w'.cell? ⟨w.heap.size, 0, none⟩ = some (.slice a0 nC c0) ∧ w'.cell? ⟨w.heap.size, 1, none⟩ = some (.slice a1 nS c1) ∧ w'.cell? ⟨w.heap.size, 2, none⟩ = some (.slice a2 nB c2) ∧ w'.cell? ⟨w.heap.size + 1, 0, none⟩ = some (.slice b0 mC k0) ∧ w'.cell? ⟨w.heap.size + 1, 1, none⟩ = some (.slice b1 mS k1) ∧ w'.cell? ⟨w.heap.size + 1, 2, none⟩ = some (.slice b2 mB k2) ∧ w'.cell? ⟨w3.heap.size, 0, none⟩ = some (.slice t0 nC l0) ∧ w'.cell? ⟨w3.heap.size, 1, none⟩ = some (.slice t1 nS l1) ∧ w'.cell? ⟨w3.heap.size, 2, none⟩ = some (.slice t2 nB l2) ∧ St w w' w3.heap.size ⟨a0, a1, a2, c0, c1, c2⟩ ⟨C, S, B⟩ ⟨b0, b1, b2, k0, k1, k2⟩ ⟨C', S', B'⟩ ⟨t0, t1, t2, l0, l1, l2⟩ ap ad5 P (.slice a0 nC c0) (.slice a1 nS c1) (.slice a2 nB c2) (.slice b0 mC k0) (.slice b1 mS k1) (.slice b2 mB k2) (.slice t0 nC l0) (.slice t1 nS l1) (.slice t2 nB l2))) := Lib.hid (fun W h => by
      have hs := h.2.2.2.2.2.2.2.2.2
      refine (K17.out ad5 cp5 W hs.io hs.ip).mono ?_
      rintro r w' ⟨rfl, k⟩
      exact ⟨rfl, st_all (hs.up k)⟩)
    have hSS : w11.drew.cell? ⟨w.heap.size, 0, none⟩ = some (.slice a0 nC c0) ∧ w11.drew.cell? ⟨w.heap.size, 1, none⟩ = some (.slice a1 nS c1) ∧ w11.drew.cell? ⟨w.heap.size, 2, none⟩ = some (.slice a2 nB c2) ∧ w11.drew.cell? ⟨w.heap.size + 1, 0, none⟩ = some (.slice b0 mC k0) ∧ w11.drew.cell? ⟨w.heap.size + 1, 1, none⟩ = some (.slice b1 mS k1) ∧ w11.drew.cell? ⟨w.heap.size + 1, 2, none⟩ = some (.slice b2 mB k2) ∧ w11.drew.cell? ⟨w3.heap.size, 0, none⟩ = some (.slice t0 nC l0) ∧ w11.drew.cell? ⟨w3.heap.size, 1, none⟩ = some (.slice t1 nS l1) ∧ w11.drew.cell? ⟨w3.heap.size, 2, none⟩ = some (.slice t2 nB l2) ∧ St w w11.drew w3.heap.size ⟨a0, a1, a2, c0, c1, c2⟩ ⟨C, S, B⟩ ⟨b0, b1, b2, k0, k1, k2⟩ ⟨C', S', B'⟩ ⟨t0, t1, t2, l0, l1, l2⟩ ap ad5 P (.slice a0 nC c0) (.slice a1 nS c1) (.slice a2 nB c2) (.slice b0 mC k0) (.slice b1 mS k1) (.slice b2 mB k2) (.slice t0 nC l0) (.slice t1 nS l1) (.slice t2 nB l2) := st_all (HT11.out.up (Below.refl w11.heap.size w11).drew)
    have e5 : (r5 == r5) = true := by simp
    have e6 : (s5 == s5) = true := by simp
    have e7 : (r7 == r7) = true := by simp
    have e8 : (s7 == s7) = true := by simp
    have e9 : (r9 == r9) = true := by simp
    have e10 : (s9 == s9) = true := by simp
    have e11 : (r11 == r11) = true := by simp
    have e13 : (r13 == r13) = true := by simp
    clear K5 K6 K7 K8 K9 K10 K11 K12 K13 K14 K15 K16 K17 x0 x1 x2 y0 y1 y2 z0 z1 z2
    go_region_held3 (fun w' => w'.cell? ⟨w.heap.size, 0, none⟩ = some (.slice a0 nC c0) ∧ w'.cell? ⟨w.heap.size, 1, none⟩ = some (.slice a1 nS c1) ∧ w'.cell? ⟨w.heap.size, 2, none⟩ = some (.slice a2 nB c2) ∧ w'.cell? ⟨w.heap.size + 1, 0, none⟩ = some (.slice b0 mC k0) ∧ w'.cell? ⟨w.heap.size + 1, 1, none⟩ = some (.slice b1 mS k1) ∧ w'.cell? ⟨w.heap.size + 1, 2, none⟩ = some (.slice b2 mB k2) ∧ w'.cell? ⟨w3.heap.size, 0, none⟩ = some (.slice t0 nC l0) ∧ w'.cell? ⟨w3.heap.size, 1, none⟩ = some (.slice t1 nS l1) ∧ w'.cell? ⟨w3.heap.size, 2, none⟩ = some (.slice t2 nB l2) ∧ St w w' w3.heap.size ⟨a0, a1, a2, c0, c1, c2⟩ ⟨C, S, B⟩ ⟨b0, b1, b2, k0, k1, k2⟩ ⟨C', S', B'⟩ ⟨t0, t1, t2, l0, l1, l2⟩ ap ad5 P (.slice a0 nC c0) (.slice a1 nS c1) (.slice a2 nB c2) (.slice b0 mC k0) (.slice b1 mS k1) (.slice b2 mB k2) (.slice t0 nC l0) (.slice t1 nS l1) (.slice t2 nB l2))
      ((first | exact hSS | assumption))
      (first | (go_at_call 12; refine (C12.out _ (by assumption)).mono ?_; rintro e w' ⟨rfl, hS2⟩)
             | (go_at_call 13; refine (C13.out _ (by assumption)).mono ?_; rintro e w' ⟨rfl, hS2⟩))
    have HF := Lib.hid (show w'.cell? ⟨w.heap.size, 0, none⟩ = some (.slice a0 nC c0) ∧ w'.cell? ⟨w.heap.size, 1, none⟩ = some (.slice a1 nS c1) ∧ w'.cell? ⟨w.heap.size, 2, none⟩ = some (.slice a2 nB c2) ∧ w'.cell? ⟨w.heap.size + 1, 0, none⟩ = some (.slice b0 mC k0) ∧ w'.cell? ⟨w.heap.size + 1, 1, none⟩ = some (.slice b1 mS k1) ∧ w'.cell? ⟨w.heap.size + 1, 2, none⟩ = some (.slice b2 mB k2) ∧ w'.cell? ⟨w3.heap.size, 0, none⟩ = some (.slice t0 nC l0) ∧ w'.cell? ⟨w3.heap.size, 1, none⟩ = some (.slice t1 nS l1) ∧ w'.cell? ⟨w3.heap.size, 2, none⟩ = some (.slice t2 nB l2) ∧ St w w' w3.heap.size ⟨a0, a1, a2, c0, c1, c2⟩ ⟨C, S, B⟩ ⟨b0, b1, b2, k0, k1, k2⟩ ⟨C', S', B'⟩ ⟨t0, t1, t2, l0, l1, l2⟩ ap ad5 P (.slice a0 nC c0) (.slice a1 nS c1) (.slice a2 nB c2) (.slice b0 mC k0) (.slice b1 mS k1) (.slice b2 mB k2) (.slice t0 nC l0) (.slice t1 nS l1) (.slice t2 nB l2) from by assumption)
    have hT := HF.out.2.2.2.2.2.2.2.2.2
    clear hSS C12 C13
    go_wp2_with fail
    have hSS : w'.drew.cell? ⟨w.heap.size, 0, none⟩ = some (.slice a0 nC c0) ∧ w'.drew.cell? ⟨w.heap.size, 1, none⟩ = some (.slice a1 nS c1) ∧ w'.drew.cell? ⟨w.heap.size, 2, none⟩ = some (.slice a2 nB c2) ∧ w'.drew.cell? ⟨w.heap.size + 1, 0, none⟩ = some (.slice b0 mC k0) ∧ w'.drew.cell? ⟨w.heap.size + 1, 1, none⟩ = some (.slice b1 mS k1) ∧ w'.drew.cell? ⟨w.heap.size + 1, 2, none⟩ = some (.slice b2 mB k2) ∧ w'.drew.cell? ⟨w3.heap.size, 0, none⟩ = some (.slice t0 nC l0) ∧ w'.drew.cell? ⟨w3.heap.size, 1, none⟩ = some (.slice t1 nS l1) ∧ w'.drew.cell? ⟨w3.heap.size, 2, none⟩ = some (.slice t2 nB l2) ∧ St w w'.drew w3.heap.size ⟨a0, a1, a2, c0, c1, c2⟩ ⟨C, S, B⟩ ⟨b0, b1, b2, k0, k1, k2⟩ ⟨C', S', B'⟩ ⟨t0, t1, t2, l0, l1, l2⟩ ap ad5 P (.slice a0 nC c0) (.slice a1 nS c1) (.slice a2 nB c2) (.slice b0 mC k0) (.slice b1 mS k1) (.slice b2 mB k2) (.slice t0 nC l0) (.slice t1 nS l1) (.slice t2 nB l2) := st_all (hT.up (Below.refl w'.heap.size w').drew)
    have HBL := Lib.hid hT.bl
    clear hT
    go_region_held3 (fun w' => w'.cell? ⟨w.heap.size, 0, none⟩ = some (.slice a0 nC c0) ∧ w'.cell? ⟨w.heap.size, 1, none⟩ = some (.slice a1 nS c1) ∧ w'.cell? ⟨w.heap.size, 2, none⟩ = some (.slice a2 nB c2) ∧ w'.cell? ⟨w.heap.size + 1, 0, none⟩ = some (.slice b0 mC k0) ∧ w'.cell? ⟨w.heap.size + 1, 1, none⟩ = some (.slice b1 mS k1) ∧ w'.cell? ⟨w.heap.size + 1, 2, none⟩ = some (.slice b2 mB k2) ∧ w'.cell? ⟨w3.heap.size, 0, none⟩ = some (.slice t0 nC l0) ∧ w'.cell? ⟨w3.heap.size, 1, none⟩ = some (.slice t1 nS l1) ∧ w'.cell? ⟨w3.heap.size, 2, none⟩ = some (.slice t2 nB l2) ∧ St w w' w3.heap.size ⟨a0, a1, a2, c0, c1, c2⟩ ⟨C, S, B⟩ ⟨b0, b1, b2, k0, k1, k2⟩ ⟨C', S', B'⟩ ⟨t0, t1, t2, l0, l1, l2⟩ ap ad5 P (.slice a0 nC c0) (.slice a1 nS c1) (.slice a2 nB c2) (.slice b0 mC k0) (.slice b1 mS k1) (.slice b2 mB k2) (.slice t0 nC l0) (.slice t1 nS l1) (.slice t2 nB l2))
      ((first | exact hSS | assumption))
      (first | (go_at_call 14; refine (C14.out _ _ _ (by assumption) (by assumption)).mono ?_; rintro e w' ⟨rfl, hS2⟩)
             | (go_at_call 15; refine (C15.out _ _ _ _ (by assumption) (by assumption)).mono ?_; rintro e w' ⟨rfl, hS2⟩)
             | (go_at_call 16; refine (C18.out _ (by assumption)).mono ?_; rintro e w' ⟨rfl, hS2⟩))
    have HZF := Lib.hid (show w'.cell? ⟨w.heap.size, 0, none⟩ = some (.slice a0 nC c0) ∧ w'.cell? ⟨w.heap.size, 1, none⟩ = some (.slice a1 nS c1) ∧ w'.cell? ⟨w.heap.size, 2, none⟩ = some (.slice a2 nB c2) ∧ w'.cell? ⟨w.heap.size + 1, 0, none⟩ = some (.slice b0 mC k0) ∧ w'.cell? ⟨w.heap.size + 1, 1, none⟩ = some (.slice b1 mS k1) ∧ w'.cell? ⟨w.heap.size + 1, 2, none⟩ = some (.slice b2 mB k2) ∧ w'.cell? ⟨w3.heap.size, 0, none⟩ = some (.slice t0 nC l0) ∧ w'.cell? ⟨w3.heap.size, 1, none⟩ = some (.slice t1 nS l1) ∧ w'.cell? ⟨w3.heap.size, 2, none⟩ = some (.slice t2 nB l2) ∧ St w w' w3.heap.size ⟨a0, a1, a2, c0, c1, c2⟩ ⟨C, S, B⟩ ⟨b0, b1, b2, k0, k1, k2⟩ ⟨C', S', B'⟩ ⟨t0, t1, t2, l0, l1, l2⟩ ap ad5 P (.slice a0 nC c0) (.slice a1 nS c1) (.slice a2 nB c2) (.slice b0 mC k0) (.slice b1 mS k1) (.slice b2 mB k2) (.slice t0 nC l0) (.slice t1 nS l1) (.slice t2 nB l2) from by assumption)
    go_wp2_with fail
    go_ret
    exact ⟨by first | rfl | simp, HZF.out.2.2.2.2.2.2.2.2.2.bl⟩
end Go.Proofs.Ythaliiffgkcahaa
