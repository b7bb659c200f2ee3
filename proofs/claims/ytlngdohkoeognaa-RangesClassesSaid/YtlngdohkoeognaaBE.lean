/- Layer 6: RangesCut. -/
import Derived.Test.YtlngdohkoeognaaBD
namespace Go.Proofs.Ytlngdohkoeognaa
open Go.RowKit Go.Maps
theorem cutR_len {S : List (List Rg)} (hS : S.length ≤ 300) : (cutR S).1.length ≤ 1000000 := by
  unfold cutR
  split
  · simp
  · split
    · rename_i h2
      have h256 : ∀ L ∈ S, L.length ≤ 256 := fun L hL => (ck_cn (List.all_eq_true.1 h2 L hL)).1
      have h1 := Lib.compact_length_le ((cutE S).mergeSort fun x y => decide (x ≤ y))
      rw [List.length_mergeSort] at h1
      have h3 := sets_len S 256 h256
      have h4 : (cutE S).length = 1 + (S.flatMap fun L => L.flatMap edgR).length := by unfold cutE; simp [Nat.add_comm]
      show (Lib.compact ((cutE S).mergeSort fun x y => decide (x ≤ y))).length ≤ 1000000
      omega
    · simp
theorem infoS : ∃ i, Try.prog.info? 22 = some i ∧ i.zero = some (.slice none 0 0) ∧ i.size = 1 ∧ i.bytes = 24 := by
  have h := Try.typeInfo22 default
  unfold typeInfo at h
  cases hq : Try.prog.info? 22 with
  | none => simp [hq] at h
  | some i =>
    simp [hq] at h
    exact ⟨i, rfl, by rw [h]; rfl, by rw [h]; rfl, by rw [h]; rfl⟩
/-- A row of sets of the call's own. -/
def OwnS (w : World) (B : Nat) (u : Value) (vs : List Value) : Prop := w.ownsRow B 22 1 u vs.length vs
theorem own_kept_s {w w' : World} {B B2 : Nat} {v u : Value} {L : List Rg} {vs : List Value} (h : Own w B v L) (hu : w.ownsRow B2 22 1 u vs.length vs) (hg : w.grownBy w' u.ownBlock) : Own w' B v L := by
  refine World.ownsRow.kept h hg ?_
  rcases h.2 with ⟨rfl, _⟩ | ⟨q, cap, cur, rfl, _, h1, _⟩
  · exact .inl rfl
  · refine .inr fun e => ?_
    rcases hu.2 with ⟨rfl, _⟩ | ⟨q', cap', cur', rfl, _, h2, _⟩
    · cases e
    · simp only [Value.ownBlock, Option.some.injEq] at e
      subst e
      rw [h1] at h2
      simp at h2
theorem own_shape {w : World} {B : Nat} {v : Value} {L : List Rg} (h : Own w B v L) : ∃ ad cap, v = .slice ad L.length cap ∧ L.length ≤ cap ∧ cap ≤ maxLen ∧ RV w ad L ∧ (ad = none → L.length = 0 ∧ cap = 0) := by
  rcases h.2 with ⟨rfl, hn⟩ | ⟨q, cap, cur, rfl, hg, hgg, h1, h2, h3, h4⟩
  · have : L = [] := by cases L with | nil => rfl | cons _ _ => simp at hn
    subst this
    exact ⟨none, 0, rfl, Nat.le_refl _, Nat.zero_le _, RV.nil _ _, fun _ => ⟨rfl, rfl⟩⟩
  · exact ⟨some ⟨q, 0, none⟩, cap, rfl, h1, h2, rv_of (Array.getElem?_eq_some_iff.1 hgg).1 (fun j hj => h.cellAt j hj), fun e => by cases e⟩
/-- The sets ahead, each in memory of its own. -/
def Twins (w : World) (B : Nat) (S : List (List Rg)) (vs : List Value) : Prop := vs.length ≤ S.length ∧ ∀ j, j < vs.length → Own w B (vs.getD j undef) (setAt S j)
theorem Twins.below {w w' : World} {B : Nat} {S : List (List Rg)} {vs : List Value} (h : Twins w B S vs) (k : Below w.heap.size w w') : Twins w' B S vs := ⟨h.1, fun j hj => (h.2 j hj).below k⟩
theorem Twins.grown {w w' : World} {B B2 : Nat} {S : List (List Rg)} {vs : List Value} {u : Value} (h : Twins w B S vs) (hu : OwnS w B2 u vs) (hg : w.grownBy w' u.ownBlock) : Twins w' B S vs := ⟨h.1, fun j hj => own_kept_s (h.2 j hj) hu hg⟩
theorem Twins.snoc {w : World} {B : Nat} {S : List (List Rg)} {vs : List Value} {v : Value} (h : Twins w B S vs) (hl : vs.length < S.length) (hv : Own w B v (setAt S vs.length)) : Twins w B S (vs ++ [v]) := by
  refine ⟨by simp; omega, fun j hj => ?_⟩
  by_cases e : j = vs.length
  · subst e
    rw [List.getD_eq_getElem?_getD, List.getElem?_append_right (Nat.le_refl _)]
    simpa using hv
  · have hj' : j < vs.length := by simp at hj; omega
    rw [List.getD_eq_getElem?_getD, List.getElem?_append_left hj', ← List.getD_eq_getElem?_getD]
    exact h.2 j hj'
theorem twins_view {w : World} {B q cap : Nat} {S : List (List Rg)} {vs : List Value} (h : Twins w B S vs) (hl : vs.length = S.length) (ho : OwnS w B (.slice (some ⟨q, 0, none⟩) S.length cap) vs) : SV w (some ⟨q, 0, none⟩) S := by
  rcases ho.2 with ⟨e, _⟩ | ⟨q', cap', cur, e, _, hgg, _⟩
  · cases e
  · intro i hi
    simp only [Value.slice.injEq, Option.some.injEq, Addr.mk.injEq, and_true, true_and] at e
    obtain ⟨rfl, _, rfl⟩ := e
    obtain ⟨ad, cp, e1, e2, e3, e4, e5⟩ := own_shape (h.2 i (by omega))
    refine ⟨q, 0, rfl, (Array.getElem?_eq_some_iff.1 hgg).1, ad, cp, ?_, e2, e3, e4, e5⟩
    have ho' := ho
    unfold OwnS at ho'
    rw [← hl] at ho'
    rw [Nat.zero_add, ho'.cellAt i (by omega), List.getElem?_eq_getElem (by omega)]
    rw [List.getD_eq_getElem?_getD, List.getElem?_eq_getElem (by omega)] at e1
    have e6 : vs[i] = .slice ad (setAt S i).length cp := by simpa using e1
    exact congrArg some e6
theorem s_shape {w : World} {B : Nat} {u : Value} {vs : List Value} (h : OwnS w B u vs) : ∃ ad cap, u = .slice ad vs.length cap ∧ ((ad = none ∧ vs.length = 0) ∨ ∃ q, ad = some ⟨q, 0, none⟩) := by
  rcases h.2 with ⟨rfl, hn⟩ | ⟨q, cap, cur, rfl, _⟩
  · rw [hn]; exact ⟨none, 0, rfl, .inl ⟨rfl, rfl⟩⟩
  · exact ⟨_, cap, rfl, .inr ⟨q, rfl⟩⟩
theorem twins_sv {w : World} {B : Nat} {u : Value} {S : List (List Rg)} {vs : List Value} (h : Twins w B S vs) (hl : vs.length = S.length) (ho : OwnS w B u vs) : ∃ ad cap, u = .slice ad S.length cap ∧ SV w ad S := by
  obtain ⟨ad, cap, rfl, hc⟩ := s_shape ho
  rcases hc with ⟨rfl, h0⟩ | ⟨q, rfl⟩
  · exact ⟨none, cap, by rw [hl], fun i hi => by omega⟩
  · rw [hl] at ho ⊢
    exact ⟨_, cap, rfl, twins_view h hl ho⟩
set_option maxRecDepth 20000 in
theorem cut_mid (a : Option Addr) (n c : Nat) (w : World) (h1 : 20 < n) (h2 : n ≤ 256) : Calls Try.prog 5 #[.slice a n c] w fun e w' => e = .returned (.bool true) ∧ Below w.heap.size w w' := by
  have g1 : (20 : Int) < n := by omega
  have g2 : (n : Int) ≤ 256 := by omega
  go_enter Try.func5, Try.ntmps5
  go_wp2_with fail
  go_ret
  exact ⟨rfl, Below.refl _ _⟩
set_option maxRecDepth 20000 in
theorem cut_far (a : Option Addr) (n c : Nat) (w : World) (h1 : 300 < n) : Calls Try.prog 5 #[.slice a n c] w fun e w' => e = .returned (.bool true) ∧ Below w.heap.size w w' := by
  have g1 : (20 : Int) < n := by omega
  have g2 : ¬ (n : Int) ≤ 256 := by omega
  have g3 : (300 : Int) < n := by omega
  go_enter Try.func5, Try.ntmps5
  go_wp2_with fail
  go_ret
  exact ⟨rfl, Below.refl _ _⟩
set_option maxRecDepth 20000 in
set_option maxHeartbeats 2000000 in
theorem cut_few (a : Option Addr) (c : Nat) (S : List (List Rg)) (w : World) (hv : SV w a S) (hS : S.length ≤ 300) (h1 : S.length ≤ 20) : Calls Try.prog 5 #[.slice a S.length c] w fun e w' => e = .returned (.bool true) ∧ Below w.heap.size w w' := by
  obtain ⟨i0, hi, hz0, hz1, hz2⟩ := infoS
  obtain ⟨m, hml⟩ : ∃ m, m = S.length := ⟨_, rfl⟩
  rw [← hml] at hS h1 ⊢
  have HM := Lib.hid hml
  have HV := Lib.hid hv
  have H300 := Lib.hid hS
  have hmi : (m : Int) ≤ 300 := by omega
  have g1 : ¬ (20 : Int) < m := by omega
  have g3 : ¬ (300 : Int) < m := by omega
  clear hml hv hS
  have HO0 : Hid (OwnS w w.heap.size (.slice none 0 0) []) := Lib.hid (World.ownsRow_nil _ _ _ _)
  go_enter Try.func5, Try.ntmps5
  go_wp2_with fail
  go_loopg [3, 4] m (fun f u v wr => ∃ (i : Nat) (vs : List Value), v = .int .i64 (i : Nat) ∧ i ≤ m ∧ m - i ≤ f ∧ vs.length = i ∧ OwnS wr w.heap.size u vs ∧ Twins wr w.heap.size S vs ∧ Below w.heap.size w wr)
  case atStart => exact ⟨0, [], rfl, by omega, by omega, rfl, HO0.out, ⟨Nat.zero_le _, fun j hj => absurd hj (Nat.not_lt_zero j)⟩, Below.refl _ _⟩
  case round =>
    obtain ⟨i, vs, rfl, him, hf, hvl, ho, htw, hb⟩ := hrel
    have HVL := Lib.hid hvl
    have HO := Lib.hid ho
    have HTW := Lib.hid htw
    have HB := Lib.hid hb
    have HF := Lib.hid hf
    by_cases hlt : i < m
    · obtain ⟨b, off, rfl, hbb, ad, cp, c0, hcp, hcm, hrv, hnn⟩ := (HV.out.below hb).at_ (i := i) (by rw [← HM.out]; exact hlt)
      obtain ⟨P, hP⟩ : ∃ P, P = setAt S i := ⟨_, rfl⟩
      have HP := Lib.hid hP
      rw [← hP] at c0 hrv hnn
      have HTWI : Hid (P.length ≤ 20 → Calls Try.prog 16 #[.slice ad P.length cp] wr (TwinPost wr P)) := Lib.hid (fun h => rtwin_any ad cp P wr hrv (by omega) hnn)
      obtain ⟨n1, hn1⟩ : ∃ n, n = P.length := ⟨_, rfl⟩
      rw [← hn1] at c0 HTWI
      have hlt' : (i : Int) < (m : Int) := by omega
      have hbig : (i : Int) + 1 ≤ 9223372036854775807 := by omega
      have HLT := Lib.hid hlt
      have himm : i ≤ 300 := by have := H300.out; omega
      have HN1 := Lib.hid hn1
      clear him hf hvl ho htw hb hbb hcp hcm hrv hnn hP hlt hn1
      by_cases h20 : 20 < n1
      · have h20' : (20 : Int) < (n1 : Int) := by omega
        go_wp2_with fail
        go_ret
        exact ⟨rfl, HB.out⟩
      · have h20' : ¬ (20 : Int) < (n1 : Int) := by omega
        go_wp2_with fail
        refine (HTWI.out (by omega)).mono ?_
        rintro e w1 ⟨v1, rfl, o1, b1⟩
        obtain ⟨ad1, cp1, hv1, _⟩ := own_shape o1
        rw [← HN1.out] at hv1
        subst hv1
        have HONE : Hid (∀ u ∈ ([.slice ad1 n1 cp1] : List Value), u.oneCell' = true) := Lib.hid (by intro u hu; rw [List.mem_singleton] at hu; subst hu; rfl)
        have O1 : Hid (Own w1 w.heap.size (.slice ad1 n1 cp1) P) := Lib.hid (o1.base HB.out.size)
        have B1 := Lib.hid (HB.out.trans (b1.mono HB.out.size))
        have HSO : Hid (OwnS w1 w.heap.size u3 vs) := Lib.hid (own_below HO.out b1)
        have T1 := Lib.hid (HTW.out.below b1)
        have HOw : Hid ((w1.alloc (.cells #[.slice ad1 n1 cp1] 22)).ownsRow w.heap.size 22 1 u3 i vs) := Lib.hid (by rw [← HVL.out]; exact HSO.out.alloc _)
        clear o1 b1 HTWI
        go_wp2_with (first
          | (at_builtin; refine wpList_append_own _ rfl _ _ 30 rfl w.heap.size 22 i0 (.slice none 0 0) 1 24 Try.underlying30 hi hz0 hz1 hz2 rfl (by decide) u3 i vs rfl HOw.out ⟨w1.heap.size, 0, none⟩ 1 1 [.slice ad1 n1 cp1] rfl rfl (cell_one_new _ _ _) HONE.out (by unfold maxLen; omega) (by omega) (by have := B1.out.size; simp; omega) ?_; intro v2 w2 ho2 hg2 _; have HO2 := Lib.hid ho2; have HG2 := Lib.hid hg2; clear ho2 hg2))
        go_roundg (gk - 1)
        case measure => have := HF.out; have := HLT.out; omega
        case rel =>
          have hu : OwnS (w1.alloc (.cells #[.slice ad1 n1 cp1] 22)) w.heap.size u3 vs := HSO.out.alloc _
          have ba := (Below.refl w1.heap.size w1).alloc (Nat.le_refl _) (.cells #[.slice ad1 n1 cp1] 22)
          have t2 := (T1.out.below ba).grown hu HG2.out
          have o2 := own_kept_s (O1.out.below ba) hu HG2.out
          exact ⟨i + 1, vs ++ [.slice ad1 n1 cp1], by rw [show ((i + 1 : Nat) : Int) = (i : Int) + 1 by omega], by have := HLT.out; omega, by have := HF.out; omega, by simp [HVL.out], by unfold OwnS; rw [List.length_append, HVL.out]; exact HO2.out, t2.snoc (by rw [HVL.out, ← HM.out]; exact HLT.out) (by rw [HVL.out, ← HP.out]; exact o2), below_own (B1.out.alloc B1.out.size _) HOw.out HG2.out⟩
    · have e9 : i = m := by omega
      subst e9
      obtain ⟨ao, cao, hu, hsv⟩ := twins_sv htw (by rw [hvl, HM.out]) ho
      rw [← HM.out] at hu
      subst hu
      have HSV := Lib.hid hsv
      have HC : Hid (Calls Try.prog 11 #[.slice ao i cao] wr (CutPost wr (cutR S))) := Lib.hid (by
        have h := cuts_any ao cao S wr hsv (by rw [← HM.out]; exact H300.out)
        rw [← HM.out] at h
        exact h)
      have HRD : Hid (∀ W, Below wr.heap.size wr W → Calls Try.prog 29 #[.slice a i c] W (CutPost W (cutR S))) := Lib.hid (fun W hW => by
        have h := rcuts_any a c S W (HV.out.below (hb.trans (hW.mono hb.size))) (by rw [← HM.out]; exact H300.out)
        rw [← HM.out, ← cut_same] at h
        exact h)
      obtain ⟨R, hR⟩ : ∃ R, R = cutR S := ⟨_, rfl⟩
      have HAL : Hid (R.1.length ≤ 1000000) := Lib.hid (by rw [hR]; exact cutR_len (by rw [← HM.out]; exact H300.out))
      rw [← hR] at HC HRD
      clear him hf hvl ho htw hb hlt hR hsv
      go_wp2_with fail
      refine HC.out.mono ?_
      rintro e w1 ⟨ad1, cp1, rfl, iv1, b1⟩
      have B1 := Lib.hid b1
      have I1 := Lib.hid iv1
      clear b1 iv1 HC
      go_wp2_with fail
      refine (HRD.out _ B1.out).mono ?_
      rintro e w2 ⟨ad2, cp2, rfl, iv2, b2⟩
      have I2 := Lib.hid iv2
      have I1' := Lib.hid (I1.out.below b2)
      have B2 := Lib.hid (B1.out.trans (b2.mono B1.out.size))
      have BW := Lib.hid (HB.out.trans (B2.out.mono HB.out.size))
      have SO := Lib.hid (HSV.out.below B2.out)
      have SA := Lib.hid (HV.out.below BW.out)
      clear b2 iv2 HRD I1 B1 HSV
      obtain ⟨A, E⟩ := R
      dsimp only at I1' I2 HAL ⊢
      go_wp2_with fail
      go_loopg [9] i (fun f v wr => ∃ k : Nat, v = .int .i64 (k : Nat) ∧ k ≤ i ∧ i - k ≤ f ∧ Below w2.heap.size w2 wr)
      case atStart => exact ⟨0, rfl, by omega, by omega, Below.refl _ _⟩
      case round =>
        obtain ⟨k, rfl, hki, hkf, hkb⟩ := hrel
        have HKF := Lib.hid hkf
        have HKB := Lib.hid hkb
        by_cases hkl : k < i
        · obtain ⟨b, off, rfl, hbb, ad, cp, c0, hcp, hcm, hrv, hnn⟩ := (SA.out.below hkb).at_ (i := k) (by rw [← HM.out]; exact hkl)
          obtain ⟨bo, oo, rfl, hbo, ao, co, d0, hdp, hdm, hrv2, _⟩ := (SO.out.below hkb).at_ (i := k) (by rw [← HM.out]; exact hkl)
          obtain ⟨P, hP⟩ : ∃ P, P = setAt S k := ⟨_, rfl⟩
          rw [← hP] at c0 d0 hrv hrv2 hcp
          have HSA : Hid (∀ W, Below wr.heap.size wr W → Calls Try.prog 23 #[.slice ao P.length co, .slice ad P.length cp] W fun e w' => e = .returned (.bool true) ∧ Below W.heap.size W w') := Lib.hid (fun W hW => by
            have h := rsame_any ao ad co cp P P W (hrv2.below hW) (hrv.below hW) (Nat.le_trans hcp hcm)
            rw [decide_eq_true rfl] at h
            exact h)
          obtain ⟨n1, hn1⟩ : ∃ n, n = P.length := ⟨_, rfl⟩
          rw [← hn1] at c0 d0 HSA
          have HS : Hid (∀ w', Below wr.heap.size wr w' → (fun w' => Below wr.heap.size wr w' ∧ w'.cell? ⟨bo, oo + k, none⟩ = some (.slice ao n1 co) ∧ w'.cell? ⟨b, off + k, none⟩ = some (.slice ad n1 cp)) w') := Lib.hid (fun w' hb => ⟨hb, (hb.cell (p := ⟨bo, _, none⟩) hbo).trans d0, (hb.cell (p := ⟨b, _, none⟩) hbb).trans c0⟩)
          have hkl' : (k : Int) < (i : Int) := by omega
          have hkbig : (k : Int) + 1 ≤ 9223372036854775807 := by omega
          have HKL := Lib.hid hkl
          clear hki hkf hkb hkl hbb c0 hcp hcm hrv hnn hbo d0 hdp hdm hrv2 hP hn1
          go_upto_region 15 with fail
          refine wp_region_held_drew (S := (fun w' => Below wr.heap.size wr w' ∧ w'.cell? ⟨bo, oo + k, none⟩ = some (.slice ao n1 co) ∧ w'.cell? ⟨b, off + k, none⟩ = some (.slice ad n1 cp))) (by kernel_rfl) (HS.out _ ((Below.refl _ _).drew)) (fun hHeld => ?_)
          refine wpAnyH_take (i := 0) (oi := { dst := some 59, op := Op.move (Operand.tmp 3), type := 30, pos := "law.go:55", after := #[], guard := none }) (v := ?_) rfl (by kernel_rfl) (by kernel_rfl) (by kernel_rfl) (fun _ _ _ h => h) (Or.inl ⟨by rfl, ?_⟩) hHeld ?_
          rotate_left
          · (intro w hSw; (try dsimp only at hSw); go_simp <;> with_reducible rfl)
          try simp only [Act.put, List.setIfInBounds_toArray, List.set_cons_zero, List.set_cons_succ]
          refine wpAnyH_take (i := 1) (oi := { dst := some 60, op := Op.move (Operand.tmp 9), type := 3, pos := "law.go:55", after := #[], guard := none }) (v := ?_) rfl (by kernel_rfl) (by kernel_rfl) (by kernel_rfl) (fun _ _ _ h => h) (Or.inl ⟨by rfl, ?_⟩) hHeld ?_
          rotate_left
          · (intro w hSw; (try dsimp only at hSw); go_simp <;> with_reducible rfl)
          try simp only [Act.put, List.setIfInBounds_toArray, List.set_cons_zero, List.set_cons_succ]
          refine wpAnyH_take (i := 2) (oi := { dst := some 61, op := Op.indexAddr 30 (Operand.tmp 59) (Operand.tmp 60), type := 0, pos := "law.go:55", after := #[{ on := 0, ground := Ground.data }, { on := 1, ground := Ground.data }], guard := none }) (v := ?_) rfl (by kernel_rfl) (by kernel_rfl) (by kernel_rfl) (fun _ _ _ h => h) (Or.inl ⟨by rfl, ?_⟩) hHeld ?_
          rotate_left
          · (intro w hSw; (try dsimp only at hSw); go_simp <;> with_reducible rfl)
          try simp only [Act.put, List.setIfInBounds_toArray, List.set_cons_zero, List.set_cons_succ]
          refine wpAnyH_take (i := 3) (oi := { dst := some 62, op := Op.load 22 (Operand.tmp 61), type := 22, pos := "law.go:55", after := #[{ on := 2, ground := Ground.data }], guard := none }) (v := ?_) rfl (by kernel_rfl) (by kernel_rfl) (by kernel_rfl) (fun _ _ _ h => h) (Or.inl ⟨by rfl, ?_⟩) hHeld ?_
          rotate_left
          · (intro w hSw; (try dsimp only at hSw); go_simp <;> with_reducible rfl)
          try simp only [Act.put, List.setIfInBounds_toArray, List.set_cons_zero, List.set_cons_succ]
          refine wpAnyH_take (i := 4) (oi := { dst := some 63, op := Op.move (Operand.tmp 0), type := 30, pos := "law.go:55", after := #[], guard := none }) (v := ?_) rfl (by kernel_rfl) (by kernel_rfl) (by kernel_rfl) (fun _ _ _ h => h) (Or.inl ⟨by rfl, ?_⟩) hHeld ?_
          rotate_left
          · (intro w hSw; (try dsimp only at hSw); go_simp <;> with_reducible rfl)
          try simp only [Act.put, List.setIfInBounds_toArray, List.set_cons_zero, List.set_cons_succ]
          refine wpAnyH_take (i := 5) (oi := { dst := some 64, op := Op.move (Operand.tmp 9), type := 3, pos := "law.go:55", after := #[], guard := none }) (v := ?_) rfl (by kernel_rfl) (by kernel_rfl) (by kernel_rfl) (fun _ _ _ h => h) (Or.inl ⟨by rfl, ?_⟩) hHeld ?_
          rotate_left
          · (intro w hSw; (try dsimp only at hSw); go_simp <;> with_reducible rfl)
          try simp only [Act.put, List.setIfInBounds_toArray, List.set_cons_zero, List.set_cons_succ]
          refine wpAnyH_take (i := 6) (oi := { dst := some 65, op := Op.indexAddr 30 (Operand.tmp 63) (Operand.tmp 64), type := 0, pos := "law.go:55", after := #[{ on := 4, ground := Ground.data }, { on := 5, ground := Ground.data }], guard := none }) (v := ?_) rfl (by kernel_rfl) (by kernel_rfl) (by kernel_rfl) (fun _ _ _ h => h) (Or.inl ⟨by rfl, ?_⟩) hHeld ?_
          rotate_left
          · (intro w hSw; (try dsimp only at hSw); go_simp <;> with_reducible rfl)
          try simp only [Act.put, List.setIfInBounds_toArray, List.set_cons_zero, List.set_cons_succ]
          refine wpAnyH_take (i := 7) (oi := { dst := some 66, op := Op.load 22 (Operand.tmp 65), type := 22, pos := "law.go:55", after := #[{ on := 6, ground := Ground.data }], guard := none }) (v := ?_) rfl (by kernel_rfl) (by kernel_rfl) (by kernel_rfl) (fun _ _ _ h => h) (Or.inl ⟨by rfl, ?_⟩) hHeld ?_
          rotate_left
          · (intro w hSw; (try dsimp only at hSw); go_simp <;> with_reducible rfl)
          try simp only [Act.put, List.setIfInBounds_toArray, List.set_cons_zero, List.set_cons_succ]
          refine wpAnyH_ready (rs := [8]) (by kernel_rfl) (by simp) (AllReadyH.cons (o := { dst := some 67, op := Op.call { callee := Callee.value (Operand.func 23), args := #[Operand.tmp 62, Operand.tmp 66], argTypes := #[22, 22] }, type := 4, pos := "law.go:55", after := #[{ on := 3, ground := Ground.data }, { on := 7, ground := Ground.data }], guard := none }) rfl (fun K8 hK8 => ?_) AllReadyH.nil)
          go_simp
          refine (HSA.out _ hHeld.1).mono ?_
          rintro e w7 ⟨rfl, hq⟩
          refine hK8.out _ _ (HS.out _ (hHeld.1.trans (hq.mono hHeld.1.size))) (fun hH_8 => ?_)
          clear hq
          clear hK8 K8
          try simp only [Act.put, List.setIfInBounds_toArray, List.set_cons_zero, List.set_cons_succ]
          refine wpAnyH_take (i := 9) (oi := { dst := some 68, op := Op.unOp UnOp.not 4 (Operand.tmp 67), type := 4, pos := "law.go:55", after := #[{ on := 8, ground := Ground.data }], guard := none }) (v := ?_) rfl (by kernel_rfl) (by kernel_rfl) (by kernel_rfl) (fun _ _ _ h => h) (Or.inl ⟨by rfl, ?_⟩) hH_8 ?_
          rotate_left
          · (intro w hSw; (try dsimp only at hSw); go_simp <;> with_reducible rfl)
          try simp only [Act.put, List.setIfInBounds_toArray, List.set_cons_zero, List.set_cons_succ]
          refine wpAnyH_done (by kernel_rfl) ?_ _
          have hLast := Lib.hid hH_8.1
          clear HS hHeld hH_8
          go_wp2_with fail
          go_roundg (gk - 1)
          case measure => have := HKF.out; have := HKL.out; omega
          case rel => exact ⟨k + 1, by rw [show ((k + 1 : Nat) : Int) = (k : Int) + 1 by omega], by have := HKL.out; omega, by have := HKF.out; omega, HKB.out.trans (hLast.out.mono HKB.out.size)⟩
        · have e9 : k = i := by omega
          subst e9
          have HSI : Hid (Calls Try.prog 14 #[.slice ad1 A.length cp1, .slice ad2 A.length cp2] wr fun e w' => e = .returned (.bool true) ∧ Below wr.heap.size wr w') := Lib.hid (by
            have h := rsamei_any ad1 ad2 cp1 cp2 A A wr (I1'.out.below hkb) (I2.out.below hkb) (Nat.le_trans HAL.out (by decide))
            rw [decide_eq_true rfl] at h
            exact h)
          obtain ⟨nA, hnA⟩ : ∃ n, n = A.length := ⟨_, rfl⟩
          rw [← hnA] at HSI ⊢
          clear hki hkf hkb hkl hnA
          go_wp2_with fail
          refine HSI.out.mono ?_
          rintro e w5 ⟨rfl, b5⟩
          have B5 := Lib.hid (BW.out.trans ((HKB.out.trans (b5.mono HKB.out.size)).mono BW.out.size))
          clear b5
          go_wp2_with fail
          go_ret
          exact ⟨rfl, B5.out⟩
set_option maxRecDepth 20000 in
set_option maxHeartbeats 2000000 in
theorem cut_many (a : Option Addr) (c : Nat) (S : List (List Rg)) (w : World) (hv : SV w a S) (hS : S.length ≤ 300) (h1 : 256 < S.length) : Calls Try.prog 5 #[.slice a S.length c] w fun e w' => e = .returned (.bool true) ∧ Below w.heap.size w w' := by
  obtain ⟨i0, hi, hz0, hz1, hz2⟩ := infoS
  obtain ⟨m, hml⟩ : ∃ m, m = S.length := ⟨_, rfl⟩
  rw [← hml] at hS h1 ⊢
  have HM := Lib.hid hml
  have HV := Lib.hid hv
  have H300 := Lib.hid hS
  have hmi : (m : Int) ≤ 300 := by omega
  have g1 : (20 : Int) < m := by omega
  have g2 : ¬ (m : Int) ≤ 256 := by omega
  have g3 : ¬ (300 : Int) < m := by omega
  clear hml hv hS
  have HO0 : Hid (OwnS w w.heap.size (.slice none 0 0) []) := Lib.hid (World.ownsRow_nil _ _ _ _)
  go_enter Try.func5, Try.ntmps5
  go_wp2_with fail
  go_loopg [3, 4] m (fun f u v wr => ∃ (i : Nat) (vs : List Value), v = .int .i64 (i : Nat) ∧ i ≤ m ∧ m - i ≤ f ∧ vs.length = i ∧ OwnS wr w.heap.size u vs ∧ Twins wr w.heap.size S vs ∧ Below w.heap.size w wr)
  case atStart => exact ⟨0, [], rfl, by omega, by omega, rfl, HO0.out, ⟨Nat.zero_le _, fun j hj => absurd hj (Nat.not_lt_zero j)⟩, Below.refl _ _⟩
  case round =>
    obtain ⟨i, vs, rfl, him, hf, hvl, ho, htw, hb⟩ := hrel
    have HVL := Lib.hid hvl
    have HO := Lib.hid ho
    have HTW := Lib.hid htw
    have HB := Lib.hid hb
    have HF := Lib.hid hf
    by_cases hlt : i < m
    · obtain ⟨b, off, rfl, hbb, ad, cp, c0, hcp, hcm, hrv, hnn⟩ := (HV.out.below hb).at_ (i := i) (by rw [← HM.out]; exact hlt)
      obtain ⟨P, hP⟩ : ∃ P, P = setAt S i := ⟨_, rfl⟩
      have HP := Lib.hid hP
      rw [← hP] at c0 hrv hnn
      have HTWI : Hid (P.length ≤ 20 → Calls Try.prog 16 #[.slice ad P.length cp] wr (TwinPost wr P)) := Lib.hid (fun h => rtwin_any ad cp P wr hrv (by omega) hnn)
      obtain ⟨n1, hn1⟩ : ∃ n, n = P.length := ⟨_, rfl⟩
      rw [← hn1] at c0 HTWI
      have hlt' : (i : Int) < (m : Int) := by omega
      have hbig : (i : Int) + 1 ≤ 9223372036854775807 := by omega
      have HLT := Lib.hid hlt
      have himm : i ≤ 300 := by have := H300.out; omega
      have HN1 := Lib.hid hn1
      clear him hf hvl ho htw hb hbb hcp hcm hrv hnn hP hlt hn1
      by_cases h20 : 20 < n1
      · have h20' : (20 : Int) < (n1 : Int) := by omega
        go_wp2_with fail
        go_ret
        exact ⟨rfl, HB.out⟩
      · have h20' : ¬ (20 : Int) < (n1 : Int) := by omega
        go_wp2_with fail
        refine (HTWI.out (by omega)).mono ?_
        rintro e w1 ⟨v1, rfl, o1, b1⟩
        obtain ⟨ad1, cp1, hv1, _⟩ := own_shape o1
        rw [← HN1.out] at hv1
        subst hv1
        have HONE : Hid (∀ u ∈ ([.slice ad1 n1 cp1] : List Value), u.oneCell' = true) := Lib.hid (by intro u hu; rw [List.mem_singleton] at hu; subst hu; rfl)
        have O1 : Hid (Own w1 w.heap.size (.slice ad1 n1 cp1) P) := Lib.hid (o1.base HB.out.size)
        have B1 := Lib.hid (HB.out.trans (b1.mono HB.out.size))
        have HSO : Hid (OwnS w1 w.heap.size u3 vs) := Lib.hid (own_below HO.out b1)
        have T1 := Lib.hid (HTW.out.below b1)
        have HOw : Hid ((w1.alloc (.cells #[.slice ad1 n1 cp1] 22)).ownsRow w.heap.size 22 1 u3 i vs) := Lib.hid (by rw [← HVL.out]; exact HSO.out.alloc _)
        clear o1 b1 HTWI
        go_wp2_with (first
          | (at_builtin; refine wpList_append_own _ rfl _ _ 30 rfl w.heap.size 22 i0 (.slice none 0 0) 1 24 Try.underlying30 hi hz0 hz1 hz2 rfl (by decide) u3 i vs rfl HOw.out ⟨w1.heap.size, 0, none⟩ 1 1 [.slice ad1 n1 cp1] rfl rfl (cell_one_new _ _ _) HONE.out (by unfold maxLen; omega) (by omega) (by have := B1.out.size; simp; omega) ?_; intro v2 w2 ho2 hg2 _; have HO2 := Lib.hid ho2; have HG2 := Lib.hid hg2; clear ho2 hg2))
        go_roundg (gk - 1)
        case measure => have := HF.out; have := HLT.out; omega
        case rel =>
          have hu : OwnS (w1.alloc (.cells #[.slice ad1 n1 cp1] 22)) w.heap.size u3 vs := HSO.out.alloc _
          have ba := (Below.refl w1.heap.size w1).alloc (Nat.le_refl _) (.cells #[.slice ad1 n1 cp1] 22)
          have t2 := (T1.out.below ba).grown hu HG2.out
          have o2 := own_kept_s (O1.out.below ba) hu HG2.out
          exact ⟨i + 1, vs ++ [.slice ad1 n1 cp1], by rw [show ((i + 1 : Nat) : Int) = (i : Int) + 1 by omega], by have := HLT.out; omega, by have := HF.out; omega, by simp [HVL.out], by unfold OwnS; rw [List.length_append, HVL.out]; exact HO2.out, t2.snoc (by rw [HVL.out, ← HM.out]; exact HLT.out) (by rw [HVL.out, ← HP.out]; exact o2), below_own (B1.out.alloc B1.out.size _) HOw.out HG2.out⟩
    · have e9 : i = m := by omega
      subst e9
      obtain ⟨ao, cao, hu, hsv⟩ := twins_sv htw (by rw [hvl, HM.out]) ho
      rw [← HM.out] at hu
      subst hu
      have HSV := Lib.hid hsv
      have HC : Hid (Calls Try.prog 11 #[.slice ao i cao] wr (CutPost wr (cutR S))) := Lib.hid (by
        have h := cuts_any ao cao S wr hsv (by rw [← HM.out]; exact H300.out)
        rw [← HM.out] at h
        exact h)
      have HRD : Hid (∀ W, Below wr.heap.size wr W → Calls Try.prog 29 #[.slice a i c] W (CutPost W (cutR S))) := Lib.hid (fun W hW => by
        have h := rcuts_any a c S W (HV.out.below (hb.trans (hW.mono hb.size))) (by rw [← HM.out]; exact H300.out)
        rw [← HM.out, ← cut_same] at h
        exact h)
      obtain ⟨R, hR⟩ : ∃ R, R = cutR S := ⟨_, rfl⟩
      have HAL : Hid (R.1.length ≤ 1000000) := Lib.hid (by rw [hR]; exact cutR_len (by rw [← HM.out]; exact H300.out))
      rw [← hR] at HC HRD
      clear him hf hvl ho htw hb hlt hR hsv
      go_wp2_with fail
      refine HC.out.mono ?_
      rintro e w1 ⟨ad1, cp1, rfl, iv1, b1⟩
      have B1 := Lib.hid b1
      have I1 := Lib.hid iv1
      clear b1 iv1 HC
      go_wp2_with fail
      refine (HRD.out _ B1.out).mono ?_
      rintro e w2 ⟨ad2, cp2, rfl, iv2, b2⟩
      have I2 := Lib.hid iv2
      have I1' := Lib.hid (I1.out.below b2)
      have B2 := Lib.hid (B1.out.trans (b2.mono B1.out.size))
      have BW := Lib.hid (HB.out.trans (B2.out.mono HB.out.size))
      have SO := Lib.hid (HSV.out.below B2.out)
      have SA := Lib.hid (HV.out.below BW.out)
      clear b2 iv2 HRD I1 B1 HSV
      obtain ⟨A, E⟩ := R
      dsimp only at I1' I2 HAL ⊢
      go_wp2_with fail
      go_loopg [9] i (fun f v wr => ∃ k : Nat, v = .int .i64 (k : Nat) ∧ k ≤ i ∧ i - k ≤ f ∧ Below w2.heap.size w2 wr)
      case atStart => exact ⟨0, rfl, by omega, by omega, Below.refl _ _⟩
      case round =>
        obtain ⟨k, rfl, hki, hkf, hkb⟩ := hrel
        have HKF := Lib.hid hkf
        have HKB := Lib.hid hkb
        by_cases hkl : k < i
        · obtain ⟨b, off, rfl, hbb, ad, cp, c0, hcp, hcm, hrv, hnn⟩ := (SA.out.below hkb).at_ (i := k) (by rw [← HM.out]; exact hkl)
          obtain ⟨bo, oo, rfl, hbo, ao, co, d0, hdp, hdm, hrv2, _⟩ := (SO.out.below hkb).at_ (i := k) (by rw [← HM.out]; exact hkl)
          obtain ⟨P, hP⟩ : ∃ P, P = setAt S k := ⟨_, rfl⟩
          rw [← hP] at c0 d0 hrv hrv2 hcp
          have HSA : Hid (∀ W, Below wr.heap.size wr W → Calls Try.prog 23 #[.slice ao P.length co, .slice ad P.length cp] W fun e w' => e = .returned (.bool true) ∧ Below W.heap.size W w') := Lib.hid (fun W hW => by
            have h := rsame_any ao ad co cp P P W (hrv2.below hW) (hrv.below hW) (Nat.le_trans hcp hcm)
            rw [decide_eq_true rfl] at h
            exact h)
          obtain ⟨n1, hn1⟩ : ∃ n, n = P.length := ⟨_, rfl⟩
          rw [← hn1] at c0 d0 HSA
          have HS : Hid (∀ w', Below wr.heap.size wr w' → (fun w' => Below wr.heap.size wr w' ∧ w'.cell? ⟨bo, oo + k, none⟩ = some (.slice ao n1 co) ∧ w'.cell? ⟨b, off + k, none⟩ = some (.slice ad n1 cp)) w') := Lib.hid (fun w' hb => ⟨hb, (hb.cell (p := ⟨bo, _, none⟩) hbo).trans d0, (hb.cell (p := ⟨b, _, none⟩) hbb).trans c0⟩)
          have hkl' : (k : Int) < (i : Int) := by omega
          have hkbig : (k : Int) + 1 ≤ 9223372036854775807 := by omega
          have HKL := Lib.hid hkl
          clear hki hkf hkb hkl hbb c0 hcp hcm hrv hnn hbo d0 hdp hdm hrv2 hP hn1
          go_upto_region 15 with fail
          refine wp_region_held_drew (S := (fun w' => Below wr.heap.size wr w' ∧ w'.cell? ⟨bo, oo + k, none⟩ = some (.slice ao n1 co) ∧ w'.cell? ⟨b, off + k, none⟩ = some (.slice ad n1 cp))) (by kernel_rfl) (HS.out _ ((Below.refl _ _).drew)) (fun hHeld => ?_)
          refine wpAnyH_take (i := 0) (oi := { dst := some 59, op := Op.move (Operand.tmp 3), type := 30, pos := "law.go:55", after := #[], guard := none }) (v := ?_) rfl (by kernel_rfl) (by kernel_rfl) (by kernel_rfl) (fun _ _ _ h => h) (Or.inl ⟨by rfl, ?_⟩) hHeld ?_
          rotate_left
          · (intro w hSw; (try dsimp only at hSw); go_simp <;> with_reducible rfl)
          try simp only [Act.put, List.setIfInBounds_toArray, List.set_cons_zero, List.set_cons_succ]
          refine wpAnyH_take (i := 1) (oi := { dst := some 60, op := Op.move (Operand.tmp 9), type := 3, pos := "law.go:55", after := #[], guard := none }) (v := ?_) rfl (by kernel_rfl) (by kernel_rfl) (by kernel_rfl) (fun _ _ _ h => h) (Or.inl ⟨by rfl, ?_⟩) hHeld ?_
          rotate_left
          · (intro w hSw; (try dsimp only at hSw); go_simp <;> with_reducible rfl)
          try simp only [Act.put, List.setIfInBounds_toArray, List.set_cons_zero, List.set_cons_succ]
          refine wpAnyH_take (i := 2) (oi := { dst := some 61, op := Op.indexAddr 30 (Operand.tmp 59) (Operand.tmp 60), type := 0, pos := "law.go:55", after := #[{ on := 0, ground := Ground.data }, { on := 1, ground := Ground.data }], guard := none }) (v := ?_) rfl (by kernel_rfl) (by kernel_rfl) (by kernel_rfl) (fun _ _ _ h => h) (Or.inl ⟨by rfl, ?_⟩) hHeld ?_
          rotate_left
          · (intro w hSw; (try dsimp only at hSw); go_simp <;> with_reducible rfl)
          try simp only [Act.put, List.setIfInBounds_toArray, List.set_cons_zero, List.set_cons_succ]
          refine wpAnyH_take (i := 3) (oi := { dst := some 62, op := Op.load 22 (Operand.tmp 61), type := 22, pos := "law.go:55", after := #[{ on := 2, ground := Ground.data }], guard := none }) (v := ?_) rfl (by kernel_rfl) (by kernel_rfl) (by kernel_rfl) (fun _ _ _ h => h) (Or.inl ⟨by rfl, ?_⟩) hHeld ?_
          rotate_left
          · (intro w hSw; (try dsimp only at hSw); go_simp <;> with_reducible rfl)
          try simp only [Act.put, List.setIfInBounds_toArray, List.set_cons_zero, List.set_cons_succ]
          refine wpAnyH_take (i := 4) (oi := { dst := some 63, op := Op.move (Operand.tmp 0), type := 30, pos := "law.go:55", after := #[], guard := none }) (v := ?_) rfl (by kernel_rfl) (by kernel_rfl) (by kernel_rfl) (fun _ _ _ h => h) (Or.inl ⟨by rfl, ?_⟩) hHeld ?_
          rotate_left
          · (intro w hSw; (try dsimp only at hSw); go_simp <;> with_reducible rfl)
          try simp only [Act.put, List.setIfInBounds_toArray, List.set_cons_zero, List.set_cons_succ]
          refine wpAnyH_take (i := 5) (oi := { dst := some 64, op := Op.move (Operand.tmp 9), type := 3, pos := "law.go:55", after := #[], guard := none }) (v := ?_) rfl (by kernel_rfl) (by kernel_rfl) (by kernel_rfl) (fun _ _ _ h => h) (Or.inl ⟨by rfl, ?_⟩) hHeld ?_
          rotate_left
          · (intro w hSw; (try dsimp only at hSw); go_simp <;> with_reducible rfl)
          try simp only [Act.put, List.setIfInBounds_toArray, List.set_cons_zero, List.set_cons_succ]
          refine wpAnyH_take (i := 6) (oi := { dst := some 65, op := Op.indexAddr 30 (Operand.tmp 63) (Operand.tmp 64), type := 0, pos := "law.go:55", after := #[{ on := 4, ground := Ground.data }, { on := 5, ground := Ground.data }], guard := none }) (v := ?_) rfl (by kernel_rfl) (by kernel_rfl) (by kernel_rfl) (fun _ _ _ h => h) (Or.inl ⟨by rfl, ?_⟩) hHeld ?_
          rotate_left
          · (intro w hSw; (try dsimp only at hSw); go_simp <;> with_reducible rfl)
          try simp only [Act.put, List.setIfInBounds_toArray, List.set_cons_zero, List.set_cons_succ]
          refine wpAnyH_take (i := 7) (oi := { dst := some 66, op := Op.load 22 (Operand.tmp 65), type := 22, pos := "law.go:55", after := #[{ on := 6, ground := Ground.data }], guard := none }) (v := ?_) rfl (by kernel_rfl) (by kernel_rfl) (by kernel_rfl) (fun _ _ _ h => h) (Or.inl ⟨by rfl, ?_⟩) hHeld ?_
          rotate_left
          · (intro w hSw; (try dsimp only at hSw); go_simp <;> with_reducible rfl)
          try simp only [Act.put, List.setIfInBounds_toArray, List.set_cons_zero, List.set_cons_succ]
          refine wpAnyH_ready (rs := [8]) (by kernel_rfl) (by simp) (AllReadyH.cons (o := { dst := some 67, op := Op.call { callee := Callee.value (Operand.func 23), args := #[Operand.tmp 62, Operand.tmp 66], argTypes := #[22, 22] }, type := 4, pos := "law.go:55", after := #[{ on := 3, ground := Ground.data }, { on := 7, ground := Ground.data }], guard := none }) rfl (fun K8 hK8 => ?_) AllReadyH.nil)
          go_simp
          refine (HSA.out _ hHeld.1).mono ?_
          rintro e w7 ⟨rfl, hq⟩
          refine hK8.out _ _ (HS.out _ (hHeld.1.trans (hq.mono hHeld.1.size))) (fun hH_8 => ?_)
          clear hq
          clear hK8 K8
          try simp only [Act.put, List.setIfInBounds_toArray, List.set_cons_zero, List.set_cons_succ]
          refine wpAnyH_take (i := 9) (oi := { dst := some 68, op := Op.unOp UnOp.not 4 (Operand.tmp 67), type := 4, pos := "law.go:55", after := #[{ on := 8, ground := Ground.data }], guard := none }) (v := ?_) rfl (by kernel_rfl) (by kernel_rfl) (by kernel_rfl) (fun _ _ _ h => h) (Or.inl ⟨by rfl, ?_⟩) hH_8 ?_
          rotate_left
          · (intro w hSw; (try dsimp only at hSw); go_simp <;> with_reducible rfl)
          try simp only [Act.put, List.setIfInBounds_toArray, List.set_cons_zero, List.set_cons_succ]
          refine wpAnyH_done (by kernel_rfl) ?_ _
          have hLast := Lib.hid hH_8.1
          clear HS hHeld hH_8
          go_wp2_with fail
          go_roundg (gk - 1)
          case measure => have := HKF.out; have := HKL.out; omega
          case rel => exact ⟨k + 1, by rw [show ((k + 1 : Nat) : Int) = (k : Int) + 1 by omega], by have := HKL.out; omega, by have := HKF.out; omega, HKB.out.trans (hLast.out.mono HKB.out.size)⟩
        · have e9 : k = i := by omega
          subst e9
          have HSI : Hid (Calls Try.prog 14 #[.slice ad1 A.length cp1, .slice ad2 A.length cp2] wr fun e w' => e = .returned (.bool true) ∧ Below wr.heap.size wr w') := Lib.hid (by
            have h := rsamei_any ad1 ad2 cp1 cp2 A A wr (I1'.out.below hkb) (I2.out.below hkb) (Nat.le_trans HAL.out (by decide))
            rw [decide_eq_true rfl] at h
            exact h)
          obtain ⟨nA, hnA⟩ : ∃ n, n = A.length := ⟨_, rfl⟩
          rw [← hnA] at HSI ⊢
          clear hki hkf hkb hkl hnA
          go_wp2_with fail
          refine HSI.out.mono ?_
          rintro e w5 ⟨rfl, b5⟩
          have B5 := Lib.hid (BW.out.trans ((HKB.out.trans (b5.mono HKB.out.size)).mono BW.out.size))
          clear b5
          go_wp2_with fail
          go_ret
          exact ⟨rfl, B5.out⟩
theorem cut_all (a : Option Addr) (c : Nat) (S : List (List Rg)) (w : World) (hv : SV w a S) : Calls Try.prog 5 #[.slice a S.length c] w fun e w' => e = .returned (.bool true) ∧ Below w.heap.size w w' := by
  by_cases h1 : S.length ≤ 20
  · exact cut_few a c S w hv (by omega) h1
  · by_cases h2 : S.length ≤ 256
    · exact cut_mid a S.length c w (by omega) h2
    · by_cases h3 : 300 < S.length
      · exact cut_far a S.length c w h3
      · exact cut_many a c S w hv (by omega) (by omega)
end Go.Proofs.Ytlngdohkoeognaa
