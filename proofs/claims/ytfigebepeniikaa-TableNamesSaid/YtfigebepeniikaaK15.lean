import Derived.Test.YtfigebepeniikaaK14
import Derived.Test.YtfigebepeniikaaRows
import Derived.Test.YtfigebepeniikaaK1
import Derived.ProofKit
import Derived.OpenShut
import Derived.ShutString
import Derived.ChangeOld
import Derived.SliceStrings
import Derived.Carry
/- Layer 27: TableOrder, walked. -/
namespace Go.Proofs.Ytfigebepeniikaa
open Go.RowKit Go.Maps
/-- What a type tells of cells. -/
def KR (r : RC) : Prop := ∀ i, i < r.d.length → (gl r.d i).k < 256 ∧ -9223372036854775808 ≤ (gl r.d i).m ∧ (gl r.d i).m ≤ 9223372036854775807
theorem smR_gr {r : RC} (h : KR r) (k : grR r = false) : SmR r := by
  unfold grR at k
  rw [Bool.or_eq_false_iff] at k
  obtain ⟨k1, k2⟩ := k
  obtain ⟨g1, g2⟩ := gr_small k2
  have k1' := of_decide_eq_false k1
  refine ⟨fun i hi => ?_, by omega, by omega⟩
  obtain ⟨h1, h2, h3⟩ := h i hi
  obtain ⟨g3, g4⟩ := g2 i hi
  exact ⟨h1, by unfold maxLen; omega, by omega, h2, h3⟩
theorem smN_gr {T : TM} (h : ∀ r ∈ T.rows, KR r) (k : grT T = false) : SmN 12 T := by
  obtain ⟨h1, h2, _, h4, h5⟩ := grT_no k
  exact ⟨h1, by omega, fun r hr => smR_gr (h r hr) (h4 r hr), fun s hs => by have := h5 s hs; omega⟩
/-- What lies in the law's boxes. -/
structure PL (w W : World) (y0 y1 y2 y3 z0 z1 u0 u1 : Value) : Prop where
  bl : Below w.heap.size w W
  b1 : Bx4 W w.heap.size 25 y0 y1 y2 y3
  b2 : Bx2 W (w.heap.size + 1) z0 z1
  b3 : Bx2 W (w.heap.size + 1 + 1) u0 u1
theorem PL.up {w W W' : World} {y0 y1 y2 y3 z0 z1 u0 u1 : Value} (h : PL w W y0 y1 y2 y3 z0 z1 u0 u1) (k : Below W.heap.size W W') : PL w W' y0 y1 y2 y3 z0 z1 u0 u1 := ⟨h.bl.trans (k.mono h.bl.size), h.b1.up k, h.b2.up k, h.b3.up k⟩
theorem pl_new (w : World) (y0 y1 y2 y3 z0 z1 u0 u1 : Value) : PL w (((w.alloc (.cells #[y0, y1, y2, y3] 25)).alloc (.cells #[z0, z1] 32)).alloc (.cells #[u0, u1] 32)) y0 y1 y2 y3 z0 z1 u0 u1 :=
  ⟨(((Below.refl _ _).alloc (Nat.le_refl _) _).alloc (by simp) _).alloc (by simp; omega) _, al_old _ _ (al_old _ _ (al_at _ _ rfl)), al_old _ _ (al_at _ _ (by simp)), al_at _ _ (by simp)⟩
/-- The law, with its numbers. -/
theorem ord_nums (T : TM) (a b : RC) (X Y Z V : TM) (e f g h : Int) (hX : putT T a = (X, e)) (hY : putT X b = (Y, f)) (hZ : putT T b = (Z, g)) (hV : putT Z a = (V, h)) : (e = 0 ∧ f = 0 → g = 0 ∧ h = 0 ∧ Y = V) ∧ (g = 0 ∧ h = 0 → e = 0 ∧ f = 0) := by
  constructor
  · rintro ⟨rfl, rfl⟩
    obtain ⟨Z', h1, h2⟩ := order_law hX hY
    rw [hZ, Prod.mk.injEq] at h1
    obtain ⟨rfl, rfl⟩ := h1
    rw [hV, Prod.mk.injEq] at h2
    exact ⟨rfl, h2.2, h2.1.symm⟩
  · rintro ⟨rfl, rfl⟩
    obtain ⟨Z', h1, h2⟩ := order_law hZ hV
    rw [hX, Prod.mk.injEq] at h1
    obtain ⟨rfl, rfl⟩ := h1
    rw [hY, Prod.mk.injEq] at h2
    exact ⟨rfl, h2.2⟩
def PT (w : World) (T : TM) (err : Int) (e : Ending) (w' : World) : Prop := ∃ e1 f1 e2 f2, e = .returned (.tuple #[.agg #[.string T.name, .int .i64 T.most, .slice e1 T.uq.length f1, .slice e2 T.rows.length f2], .int .i64 err]) ∧ TVs w.heap.size w' T e1 f1 e2 f2 ∧ Below w.heap.size w w'
theorem put_pt {k B B' : Nat} {T X : TM} {r : RC} {e : Int} (hX : putT T r = (X, e)) (hk : k ≤ 1000) (hs : SmN k T) (hr : SmR r) : ∀ (W : World) (a1 a2 : Option Addr) (c1 c2 : Nat) (ad : Option Addr) (cp : Nat), TVs B W T a1 c1 a2 c2 → DV B' W ad cp r.d → Calls Try.prog 7 #[.agg #[.string T.name, .int .i64 T.most, .slice a1 T.uq.length c1, .slice a2 T.rows.length c2], .agg #[.string r.id, .slice ad r.d.length cp]] W (PT W X e) := fun W a1 a2 c1 c2 ad cp hv hd => by
  have h := putV_any k B B' T a1 a2 c1 c2 r ad cp W hk hs hr hv hd
  rw [hX] at h
  exact h
theorem putN {k : Nat} {T X : TM} {r : RC} {e : Int} (hX : putT T r = (X, e)) (hs : SmN k T) (hr : SmR r) : SmN (k + 1) X := by
  have h := hs.put hr
  rw [hX] at h
  exact h
set_option maxRecDepth 20000 in
set_option maxHeartbeats 4000000 in
theorem order_walk (T : TM) (a1 : Option Addr) (c1 : Nat) (a2 : Option Addr) (c2 : Nat) (a : RC) (ad : Option Addr) (cp : Nat) (b : RC) (ae : Option Addr) (ce : Nat) (w : World) (hv : TVs 0 w T a1 c1 a2 c2) (hkT : ∀ r ∈ T.rows, KR r ∧ r.d.length ≤ maxLen) (hda : DV 0 w ad cp a.d) (hka : KR a ∧ a.d.length ≤ maxLen) (hdb : DV 0 w ae ce b.d) (hkb : KR b ∧ b.d.length ≤ maxLen) : Calls Try.prog 6 #[tv T a1 c1 a2 c2, rv a ad cp, rv b ae ce] w fun e w' => e = .returned (.bool true) ∧ Below w.heap.size w w' := by
  have HA := Lib.hid (fun W => alive_any W)
  have HG := Lib.hid (fun W (k : Below w.heap.size w W) => greatT_any 0 T a1 a2 c1 c2 W (hv.below k) (fun r hr => (hkT r hr).2))
  have HGa := Lib.hid (fun W (k : Below w.heap.size w W) => greatR_any 0 a ad cp W (hda.below k) hka.2)
  have HGb := Lib.hid (fun W (k : Below w.heap.size w W) => greatR_any 0 b ae ce W (hdb.below k) hkb.2)
  obtain ⟨X, e, hX⟩ : ∃ X e, putT T a = (X, e) := ⟨_, _, rfl⟩
  obtain ⟨Y, f, hY⟩ : ∃ Y f, putT X b = (Y, f) := ⟨_, _, rfl⟩
  obtain ⟨Z, g, hZ⟩ : ∃ Z g, putT T b = (Z, g) := ⟨_, _, rfl⟩
  obtain ⟨V, h, hV⟩ : ∃ V h, putT Z a = (V, h) := ⟨_, _, rfl⟩
  have HL := Lib.hid (ord_nums T a b X Y Z V e f g h hX hY hZ hV)
  have HPX := Lib.hid (fun (h1 : grT T = false) (h2 : grR a = false) => put_pt (B := 0) (B' := 0) (k := 12) hX (by decide) (smN_gr (fun r hr => (hkT r hr).1) h1) (smR_gr hka.1 h2))
  have HPY := Lib.hid (fun (h1 : grT T = false) (h2 : grR a = false) (h3 : grR b = false) => put_pt (B := 0) (B' := 0) (k := 13) hY (by decide) (putN hX (smN_gr (fun r hr => (hkT r hr).1) h1) (smR_gr hka.1 h2)) (smR_gr hkb.1 h3))
  have HPZ := Lib.hid (fun (h1 : grT T = false) (h3 : grR b = false) => put_pt (B := 0) (B' := 0) (k := 12) hZ (by decide) (smN_gr (fun r hr => (hkT r hr).1) h1) (smR_gr hkb.1 h3))
  have HPV := Lib.hid (fun (h1 : grT T = false) (h2 : grR a = false) (h3 : grR b = false) => put_pt (B := 0) (B' := 0) (k := 13) hV (by decide) (putN hZ (smN_gr (fun r hr => (hkT r hr).1) h1) (smR_gr hkb.1 h3)) (smR_gr hka.1 h2))
  have HSM := Lib.hid (fun (h1 : grT T = false) (h2 : grR a = false) (h3 : grR b = false) W y1 y2 x1 x2 d1 d2 k1 k2 (u : TVs 0 W Y y1 d1 y2 d2) (v : TVs 0 W V x1 k1 x2 k2) => sameT_any 0 0 Y V y1 y2 x1 x2 d1 d2 k1 k2 W u v (putN hY (putN hX (smN_gr (fun r hr => (hkT r hr).1) h1) (smR_gr hka.1 h2)) (smR_gr hkb.1 h3)).len)
  have HVT := Lib.hid (fun W (k : Below w.heap.size w W) => hv.below k)
  have HDA := Lib.hid (fun W (k : Below w.heap.size w W) => hda.below k)
  have HDB := Lib.hid (fun W (k : Below w.heap.size w W) => hdb.below k)
  obtain ⟨W0, hW0⟩ : ∃ W, W = ((w.alloc (.cells #[.string T.name, .int .i64 T.most, .slice a1 T.uq.length c1, .slice a2 T.rows.length c2] 25)).alloc (.cells #[.string a.id, .slice ad a.d.length cp] 32)).alloc (.cells #[.string b.id, .slice ae b.d.length ce] 32) := ⟨_, rfl⟩
  have P0 : Hid (PL w W0 (.string T.name) (.int .i64 T.most) (.slice a1 T.uq.length c1) (.slice a2 T.rows.length c2) (.string a.id) (.slice ad a.d.length cp) (.string b.id) (.slice ae b.d.length ce)) := Lib.hid (by rw [hW0]; exact pl_new _ _ _ _ _ _ _ _ _)
  unfold tv at HG HSM ⊢
  unfold rv at HGa HGb ⊢
  clear hX hY hZ hV hv hkT hda hka hdb hkb
  generalize grT T = gt at *
  generalize grR a = ga at *
  generalize grR b = gb at *
  go_enter Try.func6, Try.ntmps6
  go_wp2_with fail
  rw [← hW0]
  clear hW0
  refine (HA.out W0).mono ?_
  rintro e' w1 ⟨rfl, b1⟩
  have P1 := Lib.hid (P0.out.up b1)
  have y0 := P1.out.b1.c0
  have y1 := P1.out.b1.c1
  have y2 := P1.out.b1.c2
  have y3 := P1.out.b1.c3
  clear b1 P0 HA
  go_wp2_with fail
  refine (HG.out w1 P1.out.bl).mono ?_
  rintro e' w2 ⟨rfl, b2⟩
  have P2 := Lib.hid (P1.out.up b2)
  clear b2 P1 y0 y1 y2 y3 HG
  cases gt with
  | true =>
    go_wp2_with fail
    go_ret
    exact ⟨rfl, P2.out.bl⟩
  | false =>
    have z0 := P2.out.b2.c0
    have z1 := P2.out.b2.c1
    go_wp2_with fail
    refine (HGa.out w2 P2.out.bl).mono ?_
    rintro e' w3 ⟨rfl, b3⟩
    have P3 := Lib.hid (P2.out.up b3)
    clear b3 P2 z0 z1 HGa
    cases ga with
    | true =>
      go_wp2_with fail
      go_ret
      exact ⟨rfl, P3.out.bl⟩
    | false =>
      have z0 := P3.out.b3.c0
      have z1 := P3.out.b3.c1
      go_wp2_with fail
      refine (HGb.out w3 P3.out.bl).mono ?_
      rintro e' w4 ⟨rfl, b4⟩
      have P4 := Lib.hid (P3.out.up b4)
      clear b4 P3 z0 z1 HGb
      cases gb with
      | true =>
        go_wp2_with fail
        go_ret
        exact ⟨rfl, P4.out.bl⟩
      | false =>
        have y0 := P4.out.b1.c0
        have y1 := P4.out.b1.c1
        have y2 := P4.out.b1.c2
        have y3 := P4.out.b1.c3
        have z0 := P4.out.b2.c0
        have z1 := P4.out.b2.c1
        go_wp2_with fail
        refine (HPX.out (by first | rfl | trivial) (by first | rfl | trivial) w4 _ _ _ _ _ _ (HVT.out _ P4.out.bl) (HDA.out _ P4.out.bl)).mono ?_
        rintro e' w5 ⟨e15, f15, e25, f25, rfl, v5, b5⟩
        have P5 := Lib.hid ((P4.out.up b5).up ((Below.refl _ _).alloc (Nat.le_refl _) (.cells #[.string X.name, .int .i64 X.most, .slice e15 X.uq.length f15, .slice e25 X.rows.length f25] 25)))
        have V5 := Lib.hid ((v5.mono (Nat.zero_le _)).below ((Below.refl _ _).alloc (Nat.le_refl _) (.cells #[.string X.name, .int .i64 X.most, .slice e15 X.uq.length f15, .slice e25 X.rows.length f25] 25)))
        have Q5 := Lib.hid (bx4_new w5 25 (.string X.name) (.int .i64 X.most) (.slice e15 X.uq.length f15) (.slice e25 X.rows.length f25))
        have q0 := Q5.out.c0
        have q1 := Q5.out.c1
        have q2 := Q5.out.c2
        have q3 := Q5.out.c3
        have u0 := P5.out.b3.c0
        have u1 := P5.out.b3.c1
        clear v5 b5 P4 y0 y1 y2 y3 z0 z1 HPX Q5
        go_wp2_with fail
        refine (HPY.out (by first | rfl | trivial) (by first | rfl | trivial) (by first | rfl | trivial) _ _ _ _ _ _ _ V5.out (HDB.out _ P5.out.bl)).mono ?_
        rintro e' w6 ⟨e16, f16, e26, f26, rfl, v6, b6⟩
        have P6 := Lib.hid ((P5.out.up b6).up ((Below.refl _ _).alloc (Nat.le_refl _) (.cells #[.string Y.name, .int .i64 Y.most, .slice e16 Y.uq.length f16, .slice e26 Y.rows.length f26] 25)))
        have V6 := Lib.hid ((v6.mono (Nat.zero_le _)).below ((Below.refl _ _).alloc (Nat.le_refl _) (.cells #[.string Y.name, .int .i64 Y.most, .slice e16 Y.uq.length f16, .slice e26 Y.rows.length f26] 25)))
        have Q6 := Lib.hid (bx4_new w6 25 (.string Y.name) (.int .i64 Y.most) (.slice e16 Y.uq.length f16) (.slice e26 Y.rows.length f26))
        have y0 := P6.out.b1.c0
        have y1 := P6.out.b1.c1
        have y2 := P6.out.b1.c2
        have y3 := P6.out.b1.c3
        have z0 := P6.out.b3.c0
        have z1 := P6.out.b3.c1
        clear v6 b6 P5 V5 q0 q1 q2 q3 u0 u1 HPY
        go_wp2_with fail
        refine (HPZ.out (by first | rfl | trivial) (by first | rfl | trivial) _ _ _ _ _ _ _ (HVT.out _ P6.out.bl) (HDB.out _ P6.out.bl)).mono ?_
        rintro e' w7 ⟨e17, f17, e27, f27, rfl, v7, b7⟩
        have P7 := Lib.hid ((P6.out.up b7).up ((Below.refl _ _).alloc (Nat.le_refl _) (.cells #[.string Z.name, .int .i64 Z.most, .slice e17 Z.uq.length f17, .slice e27 Z.rows.length f27] 25)))
        have V7 := Lib.hid ((v7.mono (Nat.zero_le _)).below ((Below.refl _ _).alloc (Nat.le_refl _) (.cells #[.string Z.name, .int .i64 Z.most, .slice e17 Z.uq.length f17, .slice e27 Z.rows.length f27] 25)))
        have VY7 := Lib.hid ((V6.out.below b7).below ((Below.refl _ _).alloc (Nat.le_refl _) (.cells #[.string Z.name, .int .i64 Z.most, .slice e17 Z.uq.length f17, .slice e27 Z.rows.length f27] 25)))
        have QY7 := Lib.hid ((Q6.out.up b7).up ((Below.refl _ _).alloc (Nat.le_refl _) (.cells #[.string Z.name, .int .i64 Z.most, .slice e17 Z.uq.length f17, .slice e27 Z.rows.length f27] 25)))
        have Q7 := Lib.hid (bx4_new w7 25 (.string Z.name) (.int .i64 Z.most) (.slice e17 Z.uq.length f17) (.slice e27 Z.rows.length f27))
        have q0 := Q7.out.c0
        have q1 := Q7.out.c1
        have q2 := Q7.out.c2
        have q3 := Q7.out.c3
        have u0 := P7.out.b2.c0
        have u1 := P7.out.b2.c1
        clear v7 b7 P6 V6 Q6 Q7 y0 y1 y2 y3 z0 z1 HPZ
        go_wp2_with fail
        refine (HPV.out (by first | rfl | trivial) (by first | rfl | trivial) (by first | rfl | trivial) _ _ _ _ _ _ _ V7.out (HDA.out _ P7.out.bl)).mono ?_
        rintro e' w8 ⟨e18, f18, e28, f28, rfl, v8, b8⟩
        have P8 := Lib.hid ((P7.out.up b8).up ((Below.refl _ _).alloc (Nat.le_refl _) (.cells #[.string V.name, .int .i64 V.most, .slice e18 V.uq.length f18, .slice e28 V.rows.length f28] 25)))
        have V8 := Lib.hid ((v8.mono (Nat.zero_le _)).below ((Below.refl _ _).alloc (Nat.le_refl _) (.cells #[.string V.name, .int .i64 V.most, .slice e18 V.uq.length f18, .slice e28 V.rows.length f28] 25)))
        have VY8 := Lib.hid ((VY7.out.below b8).below ((Below.refl _ _).alloc (Nat.le_refl _) (.cells #[.string V.name, .int .i64 V.most, .slice e18 V.uq.length f18, .slice e28 V.rows.length f28] 25)))
        have QY8 := Lib.hid ((QY7.out.up b8).up ((Below.refl _ _).alloc (Nat.le_refl _) (.cells #[.string V.name, .int .i64 V.most, .slice e18 V.uq.length f18, .slice e28 V.rows.length f28] 25)))
        have Q8 := Lib.hid (bx4_new w8 25 (.string V.name) (.int .i64 V.most) (.slice e18 V.uq.length f18) (.slice e28 V.rows.length f28))
        clear v8 b8 P7 V7 VY7 QY7 q0 q1 q2 q3 u0 u1 HPV
        by_cases he : e = 0
        case neg =>
          have HN : Hid (¬ (g = 0 ∧ h = 0)) := Lib.hid (fun k => he (HL.out.2 k).1)
          have he2 : (e != 0) = true := by simpa using he
          clear he HL HSM V8 VY8 QY8 Q8
          by_cases hg : g = 0
          · have hg2 : (g != 0) = false := by rw [hg]; rfl
            have hh2 : (h != 0) = true := by
              have : ¬ h = 0 := fun hh => HN.out ⟨hg, hh⟩
              simpa using this
            clear hg HN
            go_wp2_with fail
            go_ret
            exact ⟨rfl, P8.out.bl⟩
          · have hg2 : (g != 0) = true := by simpa using hg
            clear hg HN
            go_wp2_with fail
            go_ret
            exact ⟨rfl, P8.out.bl⟩
        have he2 : (e != 0) = false := by rw [he]; rfl
        by_cases hf : f = 0
        case neg =>
          have HN : Hid (¬ (g = 0 ∧ h = 0)) := Lib.hid (fun k => hf (HL.out.2 k).2)
          have hf2 : (f != 0) = true := by simpa using hf
          clear hf he HL HSM V8 VY8 QY8 Q8
          by_cases hg : g = 0
          · have hg2 : (g != 0) = false := by rw [hg]; rfl
            have hh2 : (h != 0) = true := by
              have : ¬ h = 0 := fun hh => HN.out ⟨hg, hh⟩
              simpa using this
            clear hg HN
            go_wp2_with fail
            go_ret
            exact ⟨rfl, P8.out.bl⟩
          · have hg2 : (g != 0) = true := by simpa using hg
            clear hg HN
            go_wp2_with fail
            go_ret
            exact ⟨rfl, P8.out.bl⟩
        have hf2 : (f != 0) = false := by rw [hf]; rfl
        have HN := Lib.hid (HL.out.1 ⟨he, hf⟩)
        have hg2 : (g == 0) = true := by rw [HN.out.1]; rfl
        have hh2 : (h == 0) = true := by rw [HN.out.2.1]; rfl
        have q0 := QY8.out.c0
        have q1 := QY8.out.c1
        have q2 := QY8.out.c2
        have q3 := QY8.out.c3
        have u0 := Q8.out.c0
        have u1 := Q8.out.c1
        have u2 := Q8.out.c2
        have u3 := Q8.out.c3
        have HC := Lib.hid (HSM.out (by first | rfl | trivial) (by first | rfl | trivial) (by first | rfl | trivial) _ _ _ _ _ _ _ _ _ VY8.out V8.out)
        have HD : Hid (decide (Y = V) = true) := Lib.hid (decide_eq_true HN.out.2.2)
        rw [HD.out] at HC
        clear he hf HL HSM V8 VY8 QY8 Q8 HN HD
        go_wp2_with fail
        refine HC.out.mono ?_
        rintro e' w9 ⟨rfl, b9⟩
        have P9 := Lib.hid (P8.out.up b9)
        clear b9 P8 q0 q1 q2 q3 u0 u1 u2 u3
        go_wp2_with fail
        go_ret
        exact ⟨rfl, P9.out.bl⟩
end Go.Proofs.Ytfigebepeniikaa
/- Layer 27: tables and records that came in. -/
namespace Go.Proofs.Ytfigebepeniikaa
open Go.ChangeShapes Go.WideShapes Go.ChangeAt Go.RowKit
def vCell : Vw := vCons (vInt .u8) (vCons vStr (vCons vStr (vCons (vInt .i64) (vCons (vInt .i64) vNil))))
def vRec : Vw := vCons vStr (vCons (vSlice vCell) vNil)
def vTab : Vw := vCons vStr (vCons (vInt .i64) (vCons (vSlice vStr) (vCons (vSlice vRec) vNil)))
theorem oStr : Opens Try.prog vStr 9 := opens_str Try.underlying9 (by kernel_rfl)
theorem oInt : Opens Try.prog (vInt .i64) 3 := opens_int Try.underlying3 (by kernel_rfl)
set_option maxRecDepth 100000 in
theorem oCell : Opens Try.prog vCell 53 := opens_struct Try.underlying53 (by kernel_rfl) (fopens_cons rfl (opens_int Try.underlying5 (by kernel_rfl)) (fopens_cons rfl oStr (fopens_cons rfl oStr (fopens_cons rfl (opens_int Try.underlying2 (by kernel_rfl)) (fopens_cons rfl oInt (fopens_nil _ _))))))
set_option maxRecDepth 100000 in
theorem oRec : Opens Try.prog vRec 32 := opens_struct Try.underlying32 (by kernel_rfl) (fopens_cons rfl oStr (fopens_cons rfl (opens_slice Try.underlying30 (by kernel_rfl) oCell (by decide)) (fopens_nil _ _)))
set_option maxRecDepth 100000 in
theorem oTab : Opens Try.prog vTab 25 := opens_struct Try.underlying25 (by kernel_rfl) (fopens_cons rfl oStr (fopens_cons rfl oInt (fopens_cons rfl (opens_slice Try.underlying22 (by kernel_rfl) oStr (by decide)) (fopens_cons rfl (opens_slice Try.underlying23 (by kernel_rfl) oRec (by decide)) (fopens_nil _ _)))))
abbrev CD := Int × ByteArray × ByteArray × Int × Int × Unit
abbrev RD := ByteArray × List CD × Unit
def toCR (d : CD) : CR := ⟨d.1.toNat, d.2.1, d.2.2.1, d.2.2.2.1, d.2.2.2.2.1⟩
def toRC (d : RD) : RC := ⟨d.1, d.2.1.map toCR⟩
theorem cell_es {w : World} {d : CD} {es : List Value} (h : vCell.rd w d es) : es = [.int .u8 (toCR d).k, .string (toCR d).nm, .string (toCR d).tx, .int .i64 (toCR d).n, .int .i64 (toCR d).m] ∧ (toCR d).k < 256 ∧ -9223372036854775808 ≤ (toCR d).m ∧ (toCR d).m ≤ 9223372036854775807 := by
  obtain ⟨k, nm, tx, n, m, u⟩ := d
  obtain ⟨e1, r1, q1, _, _, ⟨h1, w1⟩, k1⟩ := h
  obtain ⟨e2, r2, q2, _, _, ⟨h2, _⟩, k2⟩ := k1
  obtain ⟨e3, r3, q3, _, _, ⟨h3, _⟩, k3⟩ := k2
  obtain ⟨e4, r4, q4, _, _, ⟨h4, _⟩, k4⟩ := k3
  obtain ⟨e5, r5, q5, _, _, ⟨h5, w5⟩, k5⟩ := k4
  have k5' : r5 = [] := k5
  have b1 := bounds_u8 w1
  have b5 := bounds_i64 w5
  dsimp only at h1 h2 h3 h4 h5 b1 b5
  refine ⟨?_, ?_, b5.1, b5.2⟩
  · rw [q1, q2, q3, q4, q5, k5', h1, h2, h3, h4, h5]
    show ([.int .u8 k, .string nm, .string tx, .int .i64 n, .int .i64 m] : List Value) = [.int .u8 ((k.toNat : Nat) : Int), .string nm, .string tx, .int .i64 n, .int .i64 m]
    rw [Int.toNat_of_nonneg b1.1]
  · show k.toNat < 256
    have := b1.1
    have := b1.2
    omega
theorem gl_map {ds : List CD} {i : Nat} (h : i < ds.length) : gl (ds.map toCR) i = toCR (ds[i]'h) := by
  unfold gl
  rw [List.getD_eq_getElem?_getD, List.getElem?_map, List.getElem?_eq_getElem h]
  rfl
theorem dv_row {w : World} {a : Option Addr} {ds : List CD} {c : Nat} (h : rowAt vCell w a ds) (h1 : ds.length ≤ c) (h2 : c ≤ maxLen) (h3 : a = none → ds.length = 0 ∧ c = 0) : DV 0 w a c (ds.map toCR) ∧ ∀ i, i < (ds.map toCR).length → (gl (ds.map toCR) i).k < 256 ∧ -9223372036854775808 ≤ (gl (ds.map toCR) i).m ∧ (gl (ds.map toCR) i).m ≤ 9223372036854775807 := by
  have hl : (ds.map toCR).length = ds.length := List.length_map _
  refine ⟨⟨fun i hi => ?_, by rw [hl]; exact h1, h2, fun e => (by rw [hl]; exact h3 e), fun _ _ _ => Nat.zero_le _⟩, fun i hi => ?_⟩
  · rw [hl] at hi
    obtain ⟨b, off, e, hb, es, _, hc, hr⟩ := h i hi
    obtain ⟨he, _⟩ := cell_es hr
    rw [he] at hc
    rw [gl_map hi]
    exact ⟨b, off, e, hb, hc 0 (by decide), hc 1 (by decide), hc 2 (by decide), hc 3 (by decide), hc 4 (by decide)⟩
  · rw [hl] at hi
    obtain ⟨b, off, e, hb, es, _, hc, hr⟩ := h i hi
    rw [gl_map hi]
    exact (cell_es hr).2
theorem rec_es {w : World} {d : RD} {es : List Value} (h : vRec.rd w d es) : ∃ ad cp, es = [.string (toRC d).id, .slice ad (toRC d).d.length cp] ∧ DV 0 w ad cp (toRC d).d ∧ KR (toRC d) ∧ (toRC d).d.length ≤ maxLen := by
  obtain ⟨id, cs, u⟩ := d
  obtain ⟨e1, r1, q1, _, _, ⟨h1, _⟩, k1⟩ := h
  obtain ⟨e2, r2, q2, _, _, h2, k2⟩ := k1
  obtain ⟨a, c, h3, h4, h5, h6, h7⟩ := h2
  have k2' : r2 = [] := k2
  dsimp only at h1 h3 h4 h6
  obtain ⟨hd, hk⟩ := dv_row h7 h4 h5 h6
  refine ⟨a, c, ?_, hd, hk, Nat.le_trans hd.2.1 hd.2.2.1⟩
  rw [q1, q2, k2', h1, h3]
  show ([.string id, .slice a cs.length c] : List Value) = [.string id, .slice a (cs.map toCR).length c]
  rw [List.length_map]
theorem rl_map {ds : List RD} {i : Nat} (h : i < ds.length) : rl (ds.map toRC) i = toRC (ds[i]'h) := by
  unfold rl
  rw [List.getD_eq_getElem?_getD, List.getElem?_map, List.getElem?_eq_getElem h]
  rfl
theorem rv_row {w : World} {a : Option Addr} {ds : List RD} (h : rowAt vRec w a ds) : RV 0 w a (ds.map toRC) ∧ ∀ r ∈ ds.map toRC, KR r ∧ r.d.length ≤ maxLen := by
  have hl : (ds.map toRC).length = ds.length := List.length_map _
  refine ⟨fun i hi => ?_, fun r hr => ?_⟩
  · rw [hl] at hi
    obtain ⟨b, off, e, hb, es, _, hc, hr⟩ := h i hi
    obtain ⟨ad, cp, he, hd, _⟩ := rec_es hr
    rw [he] at hc
    rw [rl_map hi]
    exact ⟨b, off, ad, cp, e, Nat.zero_le _, hb, hc 0 (by decide), hc 1 (by decide), hd⟩
  · obtain ⟨i, hi, rfl⟩ := List.getElem_of_mem hr
    rw [hl] at hi
    obtain ⟨b, off, e, hb, es, _, hc, hr'⟩ := h i hi
    obtain ⟨ad, cp, he, hd, hk, hm⟩ := rec_es hr'
    rw [List.getElem_map]
    exact ⟨hk, hm⟩
theorem sv_row {w : World} {a : Option Addr} {L : List ByteArray} (h : rowAt vStr w a L) : Ord.SView w a L.length L := by
  refine ⟨rfl, fun i hi => ?_⟩
  obtain ⟨b, off, e, hb, es, _, hc, ⟨hr, _⟩⟩ := h i hi
  have hc0 := hc 0 (by decide)
  rw [hr] at hc0
  refine ⟨b, off, e, hb, ?_⟩
  have hs : vStr.size = 1 := rfl
  rw [hs, Nat.mul_one, Nat.add_zero] at hc0
  unfold Ord.nth
  rw [List.getD_eq_getElem?_getD, List.getElem?_eq_getElem hi]
  exact hc0
theorem open_rec {H : Type} {enc : TypeId × Value → H} {W : World} {base : Nat} {sp : Nat → Bool} {held : Bool} {r : Reach} {b0 : Nat} {v : Value} {d : DataW H} {ps : List MemPlace}
    (hv : Value.okWide Try.prog W r b0 32 v) (h : DataW.Trod enc Try.prog W base sp held 32 v d ps) : ∃ (a : RC) (ad : Option Addr) (cp : Nat), v = rv a ad cp ∧ DV 0 W ad cp a.d ∧ (KR a ∧ a.d.length ≤ maxLen) := by
  simp only [Value.okWide, Try.underlying32] at hv
  obtain ⟨cs, rfl, _, _⟩ := hv
  obtain ⟨fuel, hf⟩ := h
  obtain ⟨x, hx⟩ := oRec.2 hf
  obtain ⟨ad, cp, he, hd, hk⟩ := rec_es hx
  refine ⟨toRC x, ad, cp, ?_, hd, hk⟩
  simp only [Value.cells] at he
  have hcs : cs = #[.string (toRC x).id, .slice ad (toRC x).d.length cp] := Array.toList_inj.1 he
  subst hcs
  rfl
theorem open_tab {H : Type} {enc : TypeId × Value → H} {W : World} {base : Nat} {sp : Nat → Bool} {held : Bool} {r : Reach} {b0 : Nat} {v : Value} {d : DataW H} {ps : List MemPlace}
    (hv : Value.okWide Try.prog W r b0 25 v) (h : DataW.Trod enc Try.prog W base sp held 25 v d ps) : ∃ (T : TM) (a1 : Option Addr) (c1 : Nat) (a2 : Option Addr) (c2 : Nat), v = tv T a1 c1 a2 c2 ∧ TVs 0 W T a1 c1 a2 c2 ∧ ∀ r ∈ T.rows, KR r ∧ r.d.length ≤ maxLen := by
  simp only [Value.okWide, Try.underlying25] at hv
  obtain ⟨cs, rfl, _, _⟩ := hv
  obtain ⟨fuel, hf⟩ := h
  obtain ⟨⟨nm, m, L, R, u⟩, hx⟩ := oTab.2 hf
  obtain ⟨e1, r1, q1, _, _, ⟨h1, _⟩, k1⟩ := hx
  obtain ⟨e2, r2, q2, _, _, ⟨h2, _⟩, k2⟩ := k1
  obtain ⟨e3, r3, q3, _, _, h3, k3⟩ := k2
  obtain ⟨e4, r4, q4, _, _, h4, k4⟩ := k3
  obtain ⟨a1, c1, i1, i2, i3, i4, i5⟩ := h3
  obtain ⟨a2, c2, j1, j2, j3, j4, j5⟩ := h4
  have k4' : r4 = [] := k4
  dsimp only at h1 h2 i1 i2 i4 j1 j2 j4
  obtain ⟨hR, hK⟩ := rv_row (ds := R) j5
  have hl : (List.map toRC R).length = R.length := List.length_map _
  refine ⟨⟨nm, m, L, List.map toRC R⟩, a1, c1, a2, c2, ?_, ⟨sv_row i5, i2, i3, i4, fun _ _ _ => Nat.zero_le _, hR, by show (List.map toRC R).length ≤ c2; rw [hl]; exact j2, j3, fun e => by show (List.map toRC R).length = 0 ∧ c2 = 0; rw [hl]; exact j4 e⟩, hK⟩
  simp only [Value.cells] at q1
  rw [q2, q3, q4, k4', h1, h2, i1, j1] at q1
  have hcs : cs = #[.string nm, .int .i64 m, .slice a1 L.length c1, .slice a2 R.length c2] := Array.toList_inj.1 q1
  subst hcs
  show Value.agg #[.string nm, .int .i64 m, .slice a1 L.length c1, .slice a2 R.length c2] = Value.agg #[.string nm, .int .i64 m, .slice a1 L.length c1, .slice a2 (List.map toRC R).length c2]
  rw [hl]
end Go.Proofs.Ytfigebepeniikaa
