import Derived.Test.YtfigebepeniikaaGreatK10
import Derived.Deep.RegionLaw
import Derived.Test.YtfigebepeniikaaGreatRows
import Derived.ProofKit
import Derived.OpenShut
import Derived.ShutString
import Derived.ChangeOld
import Derived.SliceStrings
import Derived.Carry
/- Layer 27: Great of tables. -/
namespace Go.Proofs.YtfigebepeniikaaGreat
open Go.RowKit Go.Maps
def bigS (s : ByteArray) : Bool := decide (300 < (s.size : Int))
/-- Is a table too large for the law? -/
def grT (T : TM) : Bool := T.rows.any grR || T.uq.any bigS || (decide (12 < (T.rows.length : Int)) || decide (10 < (T.uq.length : Int)) || decide (300 < (T.name.size : Int)))
theorem grT_row {T : TM} {i : Nat} (hi : i < T.rows.length) (h : grR (rl T.rows i) = true) : grT T = true := by
  have : T.rows.any grR = true := List.any_eq_true.2 ⟨_, rl_mem hi, h⟩
  unfold grT
  rw [this]; rfl
theorem nth_mem {L : List ByteArray} {i : Nat} (h : i < L.length) : Ord.nth L i ∈ L := by
  unfold Ord.nth
  rw [List.getD_eq_getElem?_getD, List.getElem?_eq_getElem h]
  exact List.getElem_mem h
theorem grT_uq {T : TM} {i : Nat} (hi : i < T.uq.length) (h : bigS (Ord.nth T.uq i) = true) : grT T = true := by
  have : T.uq.any bigS = true := List.any_eq_true.2 ⟨_, nth_mem hi, h⟩
  unfold grT
  rw [this, Bool.or_true]; rfl
theorem grT_end {T : TM} {i j : Nat} (h1 : ∀ k, k < i → grR (rl T.rows k) = false) (hi : ¬ i < T.rows.length ∨ (i = 20 ∧ i ≤ T.rows.length)) (h2 : ∀ k, k < j → bigS (Ord.nth T.uq k) = false) (hj : ¬ j < T.uq.length ∨ (j = 20 ∧ j ≤ T.uq.length)) : grT T = (decide (12 < (T.rows.length : Int)) || decide (10 < (T.uq.length : Int)) || decide (300 < (T.name.size : Int))) := by
  unfold grT
  by_cases g1 : 12 < (T.rows.length : Int)
  · simp [g1]
  · by_cases g2 : 10 < (T.uq.length : Int)
    · simp [g2]
    · have e1 : T.rows.any grR = false := by
        rw [List.any_eq_false]
        intro r hr
        obtain ⟨k, hk, rfl⟩ := List.getElem_of_mem hr
        have := h1 k (by omega)
        rw [rl_get hk] at this
        simp [this]
      have e2 : T.uq.any bigS = false := by
        rw [List.any_eq_false]
        intro r hr
        obtain ⟨k, hk, rfl⟩ := List.getElem_of_mem hr
        have := h2 k (by omega)
        unfold Ord.nth at this
        rw [List.getD_eq_getElem?_getD, List.getElem?_eq_getElem hk] at this
        simpa using this
      rw [e1, e2, Bool.false_or, Bool.false_or]
theorem grT_no {T : TM} (h : grT T = false) : T.rows.length ≤ 12 ∧ T.uq.length ≤ 10 ∧ T.name.size ≤ 300 ∧ (∀ r ∈ T.rows, grR r = false) ∧ ∀ s ∈ T.uq, s.size ≤ 300 := by
  unfold grT at h
  simp only [Bool.or_eq_false_iff, decide_eq_false_iff_not, List.any_eq_false] at h
  obtain ⟨⟨h1, h2⟩, ⟨h3, h4⟩, h5⟩ := h
  refine ⟨by omega, by omega, by omega, fun r hr => by simpa using h1 r hr, fun s hs => ?_⟩
  have := h2 s hs
  unfold bigS at this
  simp only [decide_eq_true_eq] at this
  omega
set_option maxRecDepth 20000 in
set_option maxHeartbeats 2000000 in
theorem greatT_any (B : Nat) (T : TM) (a1 a2 : Option Addr) (c1 c2 : Nat) (w : World) (hv : TVs B w T a1 c1 a2 c2) (hd : ∀ r ∈ T.rows, r.d.length ≤ maxLen) : Calls Tryz.prog 4 #[tv T a1 c1 a2 c2] w fun e w' => e = .returned (.bool (grT T)) ∧ Below w.heap.size w w' := by
  obtain ⟨x, hx⟩ : ∃ x, x = grT T := ⟨_, rfl⟩
  rw [← hx]
  have HT := Lib.hid (fun i (hi : i < T.rows.length) (h : grR (rl T.rows i) = true) => hx.trans (grT_row hi h))
  have HU := Lib.hid (fun i (hi : i < T.uq.length) (h : bigS (Ord.nth T.uq i) = true) => hx.trans (grT_uq hi h))
  have HE := Lib.hid (fun i j h1 hi h2 hj => hx.trans (grT_end (T := T) (i := i) (j := j) h1 hi h2 hj))
  have HV := Lib.hid hv.r
  have HS := Lib.hid hv.u
  have HR := Lib.hid (fun i (hi : i < T.rows.length) B ad cp W (h : DV B W ad cp (rl T.rows i).d) => greatR_any B (rl T.rows i) ad cp W h (hd _ (rl_mem hi)))
  unfold rv at HR
  unfold tv
  clear hv hd hx
  obtain ⟨w0, hw0⟩ : ∃ W, W = w.alloc (.cells #[.string T.name, .int .i64 T.most, .slice a1 T.uq.length c1, .slice a2 T.rows.length c2] 25) := ⟨_, rfl⟩
  have HB0 : Hid (Below w.heap.size w w0) := Lib.hid (by rw [hw0]; exact (Below.refl _ _).alloc (Nat.le_refl _) _)
  have HX : Hid (Bx4 w0 w.heap.size 25 (.string T.name) (.int .i64 T.most) (.slice a1 T.uq.length c1) (.slice a2 T.rows.length c2)) := Lib.hid (by rw [hw0]; exact bx4_new w _ _ _ _ _)
  generalize T.name = nm at *
  generalize T.most = m at *
  obtain ⟨nu, hnu⟩ : ∃ n, n = T.uq.length := ⟨_, rfl⟩
  obtain ⟨n, hn⟩ : ∃ n, n = T.rows.length := ⟨_, rfl⟩
  rw [← hnu] at HU HE hw0 HX HS ⊢
  rw [← hn] at HT HE HR hw0 HX ⊢
  have HN := Lib.hid hn
  clear hnu hn
  go_enter Tryz.func4, Tryz.ntmps4
  go_wp2_with fail
  rw [← hw0]
  clear hw0
  go_loopw [3] (fun v wr => ∃ i : Nat, i ≤ n ∧ i ≤ 20 ∧ v = .int .i64 i ∧ Hid (∀ k, k < i → grR (rl T.rows k) = false) ∧ Hid (Below w0.heap.size w0 wr)) (fun v _ => n - (intOf v).toNat)
  case atStart => exact ⟨0, Nat.zero_le _, Nat.zero_le _, rfl, Lib.hid (fun j hj => by omega), Lib.hid (Below.refl _ _)⟩
  case round =>
    obtain ⟨i, hi, hi2, rfl, HQ, HB⟩ := hrel
    have x3 := (HX.out.up HB.out).c3
    by_cases hlt : i < n
    · have hg1 : (i : Int) < n := by omega
      by_cases hl2 : i < 20
      · have hg2 : (i : Int) < 20 := by omega
        have hg0 : (0 : Int) ≤ i := by omega
        obtain ⟨b, off, rfl⟩ := HV.out.addr (by rw [← HN.out]; omega)
        obtain ⟨ad, cp, _, _, r0, r1, dv⟩ := ((HV.out.below HB0.out).below HB.out).at_ (i := i) (by rw [← HN.out]; exact hlt)
        have HC := Lib.hid (HR.out i hlt _ ad cp wr dv)
        have HTi := Lib.hid (HT.out i hlt)
        obtain ⟨r, hr⟩ : ∃ r, r = rl T.rows i := ⟨_, rfl⟩
        have HQ2 : Hid (grR r = false → ∀ k, k < i + 1 → grR (rl T.rows k) = false) := Lib.hid (fun h k hk => by
          by_cases e : k = i
          · subst e; rw [← hr]; exact h
          · exact HQ.out k (by omega))
        rw [← hr] at r0 r1 HC HTi
        clear dv hr HQ
        generalize r.id = id at *
        generalize r.d.length = l at *
        go_wp2_with fail
        refine HC.out.mono ?_
        rintro e w' ⟨rfl, b1⟩
        have HB2 := Lib.hid (HB.out.trans (b1.mono HB.out.size))
        clear b1 HB
        cases hgr : grR r with
        | true =>
          have HX1 := Lib.hid (HTi.out hgr)
          clear hgr HQ2
          go_wp2_with fail
          go_ret
          exact ⟨ret_bool HX1.out.symm, HB0.out.trans (HB2.out.mono HB0.out.size)⟩
        | false =>
          have HQ3 := Lib.hid (HQ2.out hgr)
          clear hgr HQ2
          go_wp2_with fail
          go_roundw
          case rel => exact ⟨i + 1, by omega, by omega, by go_num, HQ3, HB2⟩
          case measure => simp [intOf]; omega
      · have hg2 : ¬ (i : Int) < 20 := by omega
        have HI : Hid (¬ i < n ∨ (i = 20 ∧ i ≤ n)) := Lib.hid (by omega)
        go_wp2_with fail
        go_loopw [4] (fun v wr => ∃ j : Nat, j ≤ nu ∧ j ≤ 20 ∧ v = .int .i64 j ∧ Hid (∀ k, k < j → bigS (Ord.nth T.uq k) = false) ∧ Hid (Below w0.heap.size w0 wr)) (fun v _ => nu - (intOf v).toNat)
        case atStart => exact ⟨0, Nat.zero_le _, Nat.zero_le _, rfl, Lib.hid (fun j hj => by omega), HB⟩
        case round =>
          obtain ⟨j, hj, hj2, rfl, HP, HC⟩ := hrel
          have x2 := (HX.out.up HC.out).c2
          by_cases hlt2 : j < nu
          · have hg3 : (j : Int) < nu := by omega
            by_cases hl3 : j < 20
            · have hg4 : (j : Int) < 20 := by omega
              have hg5 : (0 : Int) ≤ j := by omega
              obtain ⟨b, off, rfl⟩ := sv_addr HS.out (by omega)
              obtain ⟨_, k1⟩ := sv_at ((HS.out.below HB0.out).below HC.out) hlt2
              have HUj := Lib.hid (HU.out j hlt2)
              obtain ⟨s, hs⟩ : ∃ s, s = Ord.nth T.uq j := ⟨_, rfl⟩
              have HP2 : Hid (bigS s = false → ∀ k, k < j + 1 → bigS (Ord.nth T.uq k) = false) := Lib.hid (fun h k hk => by
                by_cases e : k = j
                · subst e; rw [← hs]; exact h
                · exact HP.out k (by omega))
              rw [← hs] at k1 HUj
              clear hs HP
              by_cases hb : 300 < (s.size : Int)
              · have HX1 : Hid (x = true) := Lib.hid (HUj.out (decide_eq_true hb))
                clear HP2
                go_wp2_with fail
                go_ret
                exact ⟨ret_bool HX1.out.symm, HB0.out.trans (HC.out.mono HB0.out.size)⟩
              · have HP3 := Lib.hid (HP2.out (decide_eq_false hb))
                clear HP2
                go_wp2_with fail
                go_roundw
                case rel => exact ⟨j + 1, by omega, by omega, by go_num, HP3, HC⟩
                case measure => simp [intOf]; omega
            · have hg4 : ¬ (j : Int) < 20 := by omega
              have HJ : Hid (¬ j < nu ∨ (j = 20 ∧ j ≤ nu)) := Lib.hid (by omega)
              have HXe := Lib.hid (HE.out i j HQ.out HI.out HP.out HJ.out)
              have y0 := (HX.out.up HC.out).c0
              have y3 := (HX.out.up HC.out).c3
              have HW := Lib.hid (HB0.out.trans (HC.out.mono HB0.out.size))
              clear HQ HI HP HJ HX HE HU HS HB0
              by_cases g1 : 12 < (n : Int)
              · first
                | (exfalso; omega)
                | have HXz : Hid (x = true) := Lib.hid (by rw [HXe.out, decide_eq_true g1]; rfl)
                  clear HXe
                  go_wp2_with fail
                  go_ret
                  exact ⟨ret_bool HXz.out.symm, HW.out⟩
              · by_cases g2 : 10 < (nu : Int)
                · first
                  | (exfalso; omega)
                  | have HXz : Hid (x = true) := Lib.hid (by rw [HXe.out, decide_eq_true g2, Bool.or_true]; rfl)
                    clear HXe
                    go_wp2_with fail
                    go_ret
                    exact ⟨ret_bool HXz.out.symm, HW.out⟩
                · first
                  | (exfalso; omega)
                  | have HXz : Hid (x = decide (300 < (nm.size : Int))) := Lib.hid (by rw [HXe.out, decide_eq_false g1, decide_eq_false g2]; rfl)
                    clear HXe
                    go_wp2_with fail
                    go_ret
                    exact ⟨ret_bool HXz.out.symm, HW.out⟩
          · have hg3 : ¬ (j : Int) < nu := by omega
            have HJ : Hid (¬ j < nu ∨ (j = 20 ∧ j ≤ nu)) := Lib.hid (by omega)
            have HXe := Lib.hid (HE.out i j HQ.out HI.out HP.out HJ.out)
            have y0 := (HX.out.up HC.out).c0
            have y3 := (HX.out.up HC.out).c3
            have HW := Lib.hid (HB0.out.trans (HC.out.mono HB0.out.size))
            clear HQ HI HP HJ HX HE HU HS HB0
            by_cases g1 : 12 < (n : Int)
            · first
              | (exfalso; omega)
              | have HXz : Hid (x = true) := Lib.hid (by rw [HXe.out, decide_eq_true g1]; rfl)
                clear HXe
                go_wp2_with fail
                go_ret
                exact ⟨ret_bool HXz.out.symm, HW.out⟩
            · by_cases g2 : 10 < (nu : Int)
              · first
                | (exfalso; omega)
                | have HXz : Hid (x = true) := Lib.hid (by rw [HXe.out, decide_eq_true g2, Bool.or_true]; rfl)
                  clear HXe
                  go_wp2_with fail
                  go_ret
                  exact ⟨ret_bool HXz.out.symm, HW.out⟩
              · first
                | (exfalso; omega)
                | have HXz : Hid (x = decide (300 < (nm.size : Int))) := Lib.hid (by rw [HXe.out, decide_eq_false g1, decide_eq_false g2]; rfl)
                  clear HXe
                  go_wp2_with fail
                  go_ret
                  exact ⟨ret_bool HXz.out.symm, HW.out⟩
    · have hg1 : ¬ (i : Int) < n := by omega
      have HI : Hid (¬ i < n ∨ (i = 20 ∧ i ≤ n)) := Lib.hid (by omega)
      go_wp2_with fail
      go_loopw [4] (fun v wr => ∃ j : Nat, j ≤ nu ∧ j ≤ 20 ∧ v = .int .i64 j ∧ Hid (∀ k, k < j → bigS (Ord.nth T.uq k) = false) ∧ Hid (Below w0.heap.size w0 wr)) (fun v _ => nu - (intOf v).toNat)
      case atStart => exact ⟨0, Nat.zero_le _, Nat.zero_le _, rfl, Lib.hid (fun j hj => by omega), HB⟩
      case round =>
        obtain ⟨j, hj, hj2, rfl, HP, HC⟩ := hrel
        have x2 := (HX.out.up HC.out).c2
        by_cases hlt2 : j < nu
        · have hg3 : (j : Int) < nu := by omega
          by_cases hl3 : j < 20
          · have hg4 : (j : Int) < 20 := by omega
            have hg5 : (0 : Int) ≤ j := by omega
            obtain ⟨b, off, rfl⟩ := sv_addr HS.out (by omega)
            obtain ⟨_, k1⟩ := sv_at ((HS.out.below HB0.out).below HC.out) hlt2
            have HUj := Lib.hid (HU.out j hlt2)
            obtain ⟨s, hs⟩ : ∃ s, s = Ord.nth T.uq j := ⟨_, rfl⟩
            have HP2 : Hid (bigS s = false → ∀ k, k < j + 1 → bigS (Ord.nth T.uq k) = false) := Lib.hid (fun h k hk => by
              by_cases e : k = j
              · subst e; rw [← hs]; exact h
              · exact HP.out k (by omega))
            rw [← hs] at k1 HUj
            clear hs HP
            by_cases hb : 300 < (s.size : Int)
            · have HX1 : Hid (x = true) := Lib.hid (HUj.out (decide_eq_true hb))
              clear HP2
              go_wp2_with fail
              go_ret
              exact ⟨ret_bool HX1.out.symm, HB0.out.trans (HC.out.mono HB0.out.size)⟩
            · have HP3 := Lib.hid (HP2.out (decide_eq_false hb))
              clear HP2
              go_wp2_with fail
              go_roundw
              case rel => exact ⟨j + 1, by omega, by omega, by go_num, HP3, HC⟩
              case measure => simp [intOf]; omega
          · have hg4 : ¬ (j : Int) < 20 := by omega
            have HJ : Hid (¬ j < nu ∨ (j = 20 ∧ j ≤ nu)) := Lib.hid (by omega)
            have HXe := Lib.hid (HE.out i j HQ.out HI.out HP.out HJ.out)
            have y0 := (HX.out.up HC.out).c0
            have y3 := (HX.out.up HC.out).c3
            have HW := Lib.hid (HB0.out.trans (HC.out.mono HB0.out.size))
            clear HQ HI HP HJ HX HE HU HS HB0
            by_cases g1 : 12 < (n : Int)
            · first
              | (exfalso; omega)
              | have HXz : Hid (x = true) := Lib.hid (by rw [HXe.out, decide_eq_true g1]; rfl)
                clear HXe
                go_wp2_with fail
                go_ret
                exact ⟨ret_bool HXz.out.symm, HW.out⟩
            · by_cases g2 : 10 < (nu : Int)
              · first
                | (exfalso; omega)
                | have HXz : Hid (x = true) := Lib.hid (by rw [HXe.out, decide_eq_true g2, Bool.or_true]; rfl)
                  clear HXe
                  go_wp2_with fail
                  go_ret
                  exact ⟨ret_bool HXz.out.symm, HW.out⟩
              · first
                | (exfalso; omega)
                | have HXz : Hid (x = decide (300 < (nm.size : Int))) := Lib.hid (by rw [HXe.out, decide_eq_false g1, decide_eq_false g2]; rfl)
                  clear HXe
                  go_wp2_with fail
                  go_ret
                  exact ⟨ret_bool HXz.out.symm, HW.out⟩
        · have hg3 : ¬ (j : Int) < nu := by omega
          have HJ : Hid (¬ j < nu ∨ (j = 20 ∧ j ≤ nu)) := Lib.hid (by omega)
          have HXe := Lib.hid (HE.out i j HQ.out HI.out HP.out HJ.out)
          have y0 := (HX.out.up HC.out).c0
          have y3 := (HX.out.up HC.out).c3
          have HW := Lib.hid (HB0.out.trans (HC.out.mono HB0.out.size))
          clear HQ HI HP HJ HX HE HU HS HB0
          by_cases g1 : 12 < (n : Int)
          · first
            | (exfalso; omega)
            | have HXz : Hid (x = true) := Lib.hid (by rw [HXe.out, decide_eq_true g1]; rfl)
              clear HXe
              go_wp2_with fail
              go_ret
              exact ⟨ret_bool HXz.out.symm, HW.out⟩
          · by_cases g2 : 10 < (nu : Int)
            · first
              | (exfalso; omega)
              | have HXz : Hid (x = true) := Lib.hid (by rw [HXe.out, decide_eq_true g2, Bool.or_true]; rfl)
                clear HXe
                go_wp2_with fail
                go_ret
                exact ⟨ret_bool HXz.out.symm, HW.out⟩
            · first
              | (exfalso; omega)
              | have HXz : Hid (x = decide (300 < (nm.size : Int))) := Lib.hid (by rw [HXe.out, decide_eq_false g1, decide_eq_false g2]; rfl)
                clear HXe
                go_wp2_with fail
                go_ret
                exact ⟨ret_bool HXz.out.symm, HW.out⟩
end Go.Proofs.YtfigebepeniikaaGreat
/- Layer 27: Same of tables. -/
namespace Go.Proofs.YtfigebepeniikaaGreat
open Go.RowKit Go.Maps
theorem rows_all {R S : List RC} {n : Nat} (h1 : R.length = n) (h2 : S.length = n) (h : ∀ j, j < n → rl R j = rl S j) : R = S := by
  apply List.ext_getElem (by omega)
  intro i hi hj
  have := h i (by omega)
  rwa [rl_get hi, rl_get hj] at this
set_option maxRecDepth 20000 in
set_option maxHeartbeats 2000000 in
theorem sameT_any (B B' : Nat) (T U : TM) (a1 a2 e1 e2 : Option Addr) (c1 c2 f1 f2 : Nat) (w : World) (hv : TVs B w T a1 c1 a2 c2) (hu : TVs B' w U e1 f1 e2 f2) (hd : ∀ r ∈ T.rows, r.d.length ≤ maxLen) : Calls Tryz.prog 16 #[tv T a1 c1 a2 c2, tv U e1 f1 e2 f2] w fun e w' => e = .returned (.bool (decide (T = U))) ∧ Below w.heap.size w w' := by
  obtain ⟨x, hx⟩ : ∃ x, x = decide (T = U) := ⟨_, rfl⟩
  rw [← hx]
  have HX1 : Hid (T.name ≠ U.name → x = false) := Lib.hid (fun h => by rw [hx]; exact decide_eq_false (fun e => h (by rw [e])))
  have HX2 : Hid (T.most ≠ U.most → x = false) := Lib.hid (fun h => by rw [hx]; exact decide_eq_false (fun e => h (by rw [e])))
  have HX3 : Hid (decide (T.uq = U.uq) = false → x = false) := Lib.hid (fun h => by rw [hx]; exact decide_eq_false (fun e => (of_decide_eq_false h) (by rw [e])))
  have HX4 : Hid (T.rows.length ≠ U.rows.length → x = false) := Lib.hid (fun h => by rw [hx]; exact decide_eq_false (fun e => h (by rw [e])))
  have HX5 : Hid (∀ i, decide (rl T.rows i = rl U.rows i) = false → x = false) := Lib.hid (fun i h => by rw [hx]; exact decide_eq_false (fun e => (of_decide_eq_false h) (by rw [e])))
  have HX6 : Hid (T.name = U.name → T.most = U.most → decide (T.uq = U.uq) = true → ∀ n, T.rows.length = n → U.rows.length = n → (∀ j, j < n → rl T.rows j = rl U.rows j) → x = true) := Lib.hid (fun h1 h2 h3 n h4 h5 h6 => by
    rw [hx]
    obtain ⟨a, b, c, d⟩ := T
    obtain ⟨a', b', c', d'⟩ := U
    have h7 := rows_all h4 h5 h6
    have h3' := of_decide_eq_true h3
    dsimp only at h1 h2 h3' h7
    subst h1; subst h2; subst h3'; subst h7
    exact decide_eq_true rfl)
  have HV := Lib.hid (fun W (k : Below w.heap.size w W) => hv.r.below k)
  have HU := Lib.hid (fun W (k : Below w.heap.size w W) => hu.r.below k)
  have HS := Lib.hid (fun W (k : Below w.heap.size w W) => strs_any a1 e1 c1 f1 T.uq U.uq W (hv.u.below k) (hu.u.below k) (Nat.le_trans hv.u1 hv.u2))
  have HR := Lib.hid (fun i (hi : i < T.rows.length) B B' ad ae cp ce W (h : DV B W ad cp (rl T.rows i).d) (h' : DV B' W ae ce (rl U.rows i).d) => sameR_any B B' (rl T.rows i) (rl U.rows i) ad ae cp ce W h h' (hd _ (rl_mem hi)))
  have hmx := Nat.le_trans hv.r1 hv.r2
  unfold maxLen at hmx
  unfold rv at HR
  unfold tv
  clear hv hu hd hx
  obtain ⟨w0, hw0⟩ : ∃ W, W = (w.alloc (.cells #[.string T.name, .int .i64 T.most, .slice a1 T.uq.length c1, .slice a2 T.rows.length c2] 25)).alloc (.cells #[.string U.name, .int .i64 U.most, .slice e1 U.uq.length f1, .slice e2 U.rows.length f2] 25) := ⟨_, rfl⟩
  have HB0 : Hid (Below w.heap.size w w0) := Lib.hid (by rw [hw0]; exact ((Below.refl _ _).alloc (Nat.le_refl _) _).alloc (by simp) _)
  have HT : Hid (Bx4 w0 w.heap.size 25 (.string T.name) (.int .i64 T.most) (.slice a1 T.uq.length c1) (.slice a2 T.rows.length c2)) := Lib.hid (by rw [hw0]; exact (bx4_new w _ _ _ _ _).up ((Below.refl _ _).alloc (Nat.le_refl _) _))
  have HZ : Hid (Bx4 w0 (w.heap.size + 1) 25 (.string U.name) (.int .i64 U.most) (.slice e1 U.uq.length f1) (.slice e2 U.rows.length f2)) := Lib.hid (by
    rw [hw0]
    have h := bx4_new (w.alloc (.cells #[.string T.name, .int .i64 T.most, .slice a1 T.uq.length c1, .slice a2 T.rows.length c2] 25)) 25 (.string U.name) (.int .i64 U.most) (.slice e1 U.uq.length f1) (.slice e2 U.rows.length f2)
    simpa using h)
  generalize T.name = nm at *
  generalize T.most = m at *
  generalize U.name = nm' at *
  generalize U.most = m' at *
  generalize decide (T.uq = U.uq) = uqs at *
  generalize T.uq.length = nu at *
  generalize U.uq.length = nu' at *
  obtain ⟨n, hn⟩ : ∃ n, n = T.rows.length := ⟨_, rfl⟩
  obtain ⟨n', hn'⟩ : ∃ n, n = U.rows.length := ⟨_, rfl⟩
  rw [← hn] at HX4 HR HT hw0 hmx ⊢
  rw [← hn'] at HX4 HZ hw0 ⊢
  have HN := Lib.hid hn.symm
  have HN' := Lib.hid hn'.symm
  clear hn hn'
  have x0 := HT.out.c0
  have z0 := HZ.out.c0
  by_cases q1 : nm = nm'
  case neg =>
    have he2 : (nm.toList == nm'.toList) = false := by rw [str_is]; simpa using q1
    have he3 : (nm.toList != nm'.toList) = true := by rw [bne, he2]; rfl
    have HF := Lib.hid (HX1.out q1)
    clear q1
    go_enter Tryz.func16, Tryz.ntmps16
    go_wp2_with fail
    rw [← hw0]
    clear hw0
    go_wp2_with fail
    go_ret
    exact ⟨ret_bool HF.out.symm, HB0.out⟩
  subst q1
  have x1 := HT.out.c1
  have z1 := HZ.out.c1
  by_cases q2 : m = m'
  case neg =>
    have he3 : (m != m') = true := by simpa using q2
    have HF := Lib.hid (HX2.out q2)
    clear q2
    go_enter Tryz.func16, Tryz.ntmps16
    go_wp2_with fail
    rw [← hw0]
    clear hw0
    go_wp2_with fail
    go_ret
    exact ⟨ret_bool HF.out.symm, HB0.out⟩
  subst q2
  have x2 := HT.out.c2
  have z2 := HZ.out.c2
  go_enter Tryz.func16, Tryz.ntmps16
  go_wp2_with fail
  rw [← hw0]
  clear hw0
  go_wp2_with fail
  refine (HS.out w0 HB0.out).mono ?_
  rintro e w1 ⟨rfl, b1⟩
  have HT1 := Lib.hid (HT.out.up b1)
  have HZ1 := Lib.hid (HZ.out.up b1)
  have HB1 := Lib.hid (HB0.out.trans (b1.mono HB0.out.size))
  clear b1 HT HZ HB0 x0 x1 x2 z0 z1 z2
  cases uqs with
  | false =>
    have HF := Lib.hid (HX3.out (by first | rfl | trivial))
    go_wp2_with fail
    go_ret
    exact ⟨ret_bool HF.out.symm, HB1.out⟩
  | true =>
    have x3 := HT1.out.c3
    have z3 := HZ1.out.c3
    by_cases q4 : n = n'
    case neg =>
      have he3 : ((n : Int) != n') = true := by simp; omega
      have HF := Lib.hid (HX4.out q4)
      clear q4
      go_wp2_with fail
      go_ret
      exact ⟨ret_bool HF.out.symm, HB1.out⟩
    subst q4
    have hd4 : ((n : Int) != n) = false := by simp
    have HE := Lib.hid (HX6.out (by first | rfl | trivial) (by first | rfl | trivial) (by first | rfl | trivial) n HN.out HN'.out)
    go_wp2_with fail
    clear x3 z3
    go_loopw [5] (fun v wr => ∃ i : Nat, i ≤ n ∧ v = .int .i64 i ∧ Hid (∀ k, k < i → rl T.rows k = rl U.rows k) ∧ Hid (Below w1.heap.size w1 wr)) (fun v _ => n - (intOf v).toNat)
    case atStart => exact ⟨0, Nat.zero_le _, rfl, Lib.hid (fun j hj => by omega), Lib.hid (Below.refl _ _)⟩
    case round =>
      obtain ⟨i, hi, rfl, HQ, HB⟩ := hrel
      have x3 := (HT1.out.up HB.out).c3
      have z3 := (HZ1.out.up HB.out).c3
      have HBW := Lib.hid (HB1.out.trans (HB.out.mono HB1.out.size))
      by_cases hlt : i < n
      · have hg1 : (i : Int) < n := by omega
        have hg0 : (0 : Int) ≤ i := by omega
        obtain ⟨b, off, rfl⟩ := (HV.out _ HB1.out).addr (by rw [HN.out]; omega)
        obtain ⟨b', off', rfl⟩ := (HU.out _ HB1.out).addr (by rw [HN'.out]; omega)
        obtain ⟨ad, cp, _, hb, r0, r1, dv⟩ := (HV.out _ HBW.out).at_ (i := i) (by rw [HN.out]; exact hlt)
        obtain ⟨ae, ce, _, hb', s0, s1, dw⟩ := (HU.out _ HBW.out).at_ (i := i) (by rw [HN'.out]; exact hlt)
        have HC := Lib.hid (HR.out i hlt _ _ ad ae cp ce wr.drew (dv.below (Below.refl _ _).drew) (dw.below (Below.refl _ _).drew))
        have HD1 := Lib.hid (HX5.out i)
        have HQ2 : Hid (rl T.rows i = rl U.rows i → ∀ k, k < i + 1 → rl T.rows k = rl U.rows k) := Lib.hid (fun h k hk => by
          by_cases e : k = i
          · subst e; exact h
          · exact HQ.out k (by omega))
        have HD2 : Hid (decide (rl T.rows i = rl U.rows i) = true → ∀ k, k < i + 1 → rl T.rows k = rl U.rows k) := Lib.hid (fun h => HQ2.out (of_decide_eq_true h))
        clear dv dw HQ HQ2
        generalize decide (rl T.rows i = rl U.rows i) = dd at *
        generalize (rl T.rows i).id = id at *
        generalize (rl T.rows i).d.length = l at *
        generalize (rl U.rows i).id = jd at *
        generalize (rl U.rows i).d.length = l' at *
        go_wp2_with fail
        go_region_law (first
          | (go_simp; refine HC.out.mono ?_; rintro e w5 ⟨rfl, b5⟩; have HB5 := Lib.hid (HB.out.drew.trans (b5.mono HB.out.size)); clear b5))
        all_goals cases dd with
          | false =>
            have HF := Lib.hid (HD1.out (by first | rfl | trivial))
            clear HD1 HD2
            go_wp2_with fail
            go_ret
            exact ⟨ret_bool HF.out.symm, HB1.out.trans (HB5.out.mono HB1.out.size)⟩
          | true =>
            have HF := Lib.hid (HD2.out (by first | rfl | trivial))
            clear HD1 HD2
            go_wp2_with fail
            go_roundw
            case rel => exact ⟨i + 1, by omega, by go_num, HF, HB5⟩
            case measure => simp [intOf]; omega
      · have e1 : i = n := by omega
        subst e1
        have hg1 : ¬ (i : Int) < i := by omega
        have HF := Lib.hid (HE.out HQ.out)
        clear HQ
        go_wp2_with fail
        go_ret
        exact ⟨ret_bool HF.out.symm, HBW.out⟩
end Go.Proofs.YtfigebepeniikaaGreat
/- Layer 27: the law's own record and table. -/
namespace Go.Proofs.YtfigebepeniikaaGreat
open Go.RowKit Go.Maps
def tC (id : ByteArray) : CR := ⟨3, ⟨#[]⟩, id, 0, 0⟩
def nC (n : Int) : CR := ⟨2, ⟨#[]⟩, ⟨#[]⟩, n, 0⟩
def nS : ByteArray := ⟨#[110]⟩
def sN (i : Nat) : ByteArray := if i = 0 then idS else nS
def gN (id : ByteArray) (n : Int) (i _j : Nat) : CR := if i = 0 then tC id else nC n
def dR (id : ByteArray) (n : Int) : List CR := preL 7 2 sN (fun _ => 1) (gN id n) 2
theorem dR_eq (id : ByteArray) (n : Int) : dR id n = [⟨7, ⟨#[]⟩, ⟨#[]⟩, 0, 2⟩, ⟨3, idS, id, 0, 0⟩, ⟨2, nS, ⟨#[]⟩, n, 0⟩] := rfl
theorem dR_len (id : ByteArray) (n : Int) : (dR id n).length = 3 := rfl
theorem own_dv {w : World} {B n : Nat} {v : Value} {L : List CR} (hl : L.length = n) (h : w.ownsRow B 47 5 v n (rw5 L)) : ∃ ad cap, v = .slice ad L.length cap ∧ DV B w ad cap L := by
  subst hl
  rcases h.2 with ⟨rfl, hn⟩ | ⟨q, cap, cur, rfl, hg, hgg, h1, h2, h3, h4⟩
  · exact ⟨none, 0, by rw [hn], fun i hi => by omega, by omega, Nat.zero_le _, fun _ => ⟨hn, rfl⟩, fun b off e => by cases e⟩
  · exact ⟨some ⟨q, 0, none⟩, cap, rfl, cv_of rfl (Array.getElem?_eq_some_iff.1 hgg).1 (fun j hj => h.cellAt j hj), h1, h2, fun e => (by cases e), fun b off e => (by cases e; exact hg)⟩
theorem own_setL {w : World} {B n e size p k : Nat} {v u : Value} {xs : List Value} (ho : w.ownsRow B e size v n xs) (hp : p < B) : (w.setCell ⟨p, k, none⟩ u).ownsRow B e size v n xs := by
  refine World.ownsRow.kept ho (row := some p) ⟨rfl, rfl, rfl, by simp [World.setCell], fun i _ hne => RowKit.Below.heap_setCell _ _ _ _ (fun e => hne (by rw [e]))⟩ ?_
  rcases ho.2 with ⟨rfl, _⟩ | ⟨g', cap, cur, rfl, hg, hgg, _⟩
  · exact .inl rfl
  · refine .inr fun ee => ?_
    simp only [Value.ownBlock, Option.some.injEq] at ee
    subst ee
    omega
theorem al_at (w : World) (b) {k : Nat} (hk : w.heap.size = k) : (w.alloc b).heap[k]? = some b := by subst hk; exact heap_alloc_new w b
theorem al_old (w : World) (b) {k : Nat} {x} (h : w.heap[k]? = some x) : (w.alloc b).heap[k]? = some x := by
  rw [((Below.refl w.heap.size w).alloc (Nat.le_refl _) b).block k (Array.getElem?_eq_some_iff.1 h).1]; exact h
theorem ret_rc {R : Ending → World → Prop} {fn : Func} {tmps : Array Value} {w : World} {p g : Nat} {x0 x1 : Value} (hr : fn.results = #[.cell p 28]) (h2 : tmps.getD p undef = .pointer (some ⟨g, 0, none⟩)) (hg : Bx2 w g x0 x1)
    (hR : R (.returned (.agg #[x0, x1])) w) : bodyPost Tryz.prog fn R .ret ⟨tmps, []⟩ w := by
  refine bodyPost_ret (v := .agg #[x0, x1]) ?_ rfl hR
  exact results_cell_row hr tmps w g 28 #[x0, x1] (0, 0) _ h2 hg Tryz.underlying28 rfl (by rw [infoRk]; rfl)
end Go.Proofs.YtfigebepeniikaaGreat
/- Layer 27: the law's own table. -/
namespace Go.Proofs.YtfigebepeniikaaGreat
open Go.RowKit Go.Maps
theorem setL_heap (w : World) (p k b : Nat) (u : Value) (h : b ≠ p) : (w.setCell ⟨p, k, none⟩ u).heap[b]? = w.heap[b]? := RowKit.Below.heap_setCell _ _ _ _ h
theorem setL_size (w : World) (p k : Nat) (u : Value) : (w.setCell ⟨p, k, none⟩ u).heap.size = w.heap.size := by simp [World.setCell]
theorem setL_cell (w : World) (p k b o : Nat) (u : Value) (h : b ≠ p) : (w.setCell ⟨p, k, none⟩ u).cell? ⟨b, o, none⟩ = w.cell? ⟨b, o, none⟩ := World.cell?_of_block (setL_heap w p k b u h)
theorem DV.setL {B p k : Nat} {w : World} {ad : Option Addr} {cp : Nat} {d : List CR} (h : DV B w ad cp d) (hp : p < B) (u : Value) : DV B (w.setCell ⟨p, k, none⟩ u) ad cp d :=
  ⟨h.1.same (by rw [setL_size]; exact Nat.le_refl _) (fun b off e _ => setL_heap w p k b u (by have := h.2.2.2.2 b off e; omega)), h.2⟩
theorem RAt.setL {B p k : Nat} {w : World} {a : Option Addr} {i : Nat} {r : RC} (h : RAt B w a i r) (hp : p < B) (u : Value) : RAt B (w.setCell ⟨p, k, none⟩ u) a i r := by
  obtain ⟨b, off, ad, cp, e, h1, h2, h3, h4, h5⟩ := h
  exact ⟨b, off, ad, cp, e, h1, by rw [setL_size]; exact h2, (setL_cell _ _ _ _ _ _ (by omega)).trans h3, (setL_cell _ _ _ _ _ _ (by omega)).trans h4, h5.setL hp u⟩
theorem TVs.setL {B p k : Nat} {w : World} {T : TM} {a1 a2 : Option Addr} {c1 c2 : Nat} (h : TVs B w T a1 c1 a2 c2) (hp : p < B) (u : Value) : TVs B (w.setCell ⟨p, k, none⟩ u) T a1 c1 a2 c2 := by
  refine ⟨⟨h.u.1, fun j hj => ?_⟩, h.u1, h.u2, h.un, h.ub, fun i hi => (h.r i hi).setL hp u, h.r1, h.r2, h.rn⟩
  obtain ⟨b, off, e, h1, h2⟩ := h.u.2 j hj
  have hb := h.ub b off e
  exact ⟨b, off, e, by rw [setL_size]; exact h1, (setL_cell _ _ _ _ _ _ (by omega)).trans h2⟩
theorem TVs.set4 {B p : Nat} {w : World} {T : TM} {a1 a2 : Option Addr} {c1 c2 : Nat} (h : TVs B w T a1 c1 a2 c2) (hp : p < B) (v0 v1 v2 v3 : Value) : TVs B (W4 w p v0 v1 v2 v3) T a1 c1 a2 c2 := (((h.setL hp v0).setL hp v1).setL hp v2).setL hp v3
theorem ret_t1 {R : Ending → World → Prop} {fn : Func} {tmps : Array Value} {w : World} {p g : Nat} {x0 x1 x2 x3 : Value} (hr : fn.results = #[.cell p 25]) (h2 : tmps.getD p undef = .pointer (some ⟨g, 0, none⟩)) (hg : Bx4 w g 25 x0 x1 x2 x3)
    (hR : R (.returned (.agg #[x0, x1, x2, x3])) w) : bodyPost Tryz.prog fn R .ret ⟨tmps, []⟩ w := by
  refine bodyPost_ret (v := .agg #[x0, x1, x2, x3]) ?_ rfl hR
  exact results_cell_row hr tmps w g 25 #[x0, x1, x2, x3] (0, 0) _ h2 hg Tryz.underlying25 rfl (by rw [infoTk]; rfl)
def aS : ByteArray := ⟨#[97]⟩
def bS : ByteArray := ⟨#[98]⟩
def cS : ByteArray := ⟨#[99]⟩
def ra : RC := ⟨aS, dR aS 1⟩
def rb : RC := ⟨bS, dR bS 2⟩
def rcc : RC := ⟨cS, dR cS 3⟩
def t0 : TM := ⟨⟨#[84]⟩, 2, [nS], [ra]⟩
theorem ra_ok : mE 2 2 sN (fun _ => 1) (gN aS 1) = 0 := by decide +kernel
theorem rb_ok : mE 2 2 sN (fun _ => 1) (gN bS 2) = 0 := by decide +kernel
theorem rc_ok : mE 2 2 sN (fun _ => 1) (gN cS 3) = 0 := by decide +kernel
end Go.Proofs.YtfigebepeniikaaGreat
/- Layer 27: Put, and what it tells, small with what came in. -/
namespace Go.Proofs.YtfigebepeniikaaGreat
open Go.RowKit Go.Maps
structure SmN (k : Nat) (T : TM) : Prop where
  rows : T.rows.length ≤ k
  uq : T.uq.length ≤ 1000
  each : ∀ r ∈ T.rows, SmR r
  us : ∀ s ∈ T.uq, s.size ≤ 1000000
theorem SmN.smT {k : Nat} {T : TM} (h : SmN k T) (hk : k ≤ 1000) : SmT T := ⟨Nat.le_trans h.rows hk, h.uq, h.each, h.us⟩
theorem smN_z (k : Nat) : SmN k zT := ⟨Nat.zero_le _, Nat.zero_le _, fun r h => (by cases h), fun s h => (by cases h)⟩
theorem put_two (T : TM) (r : RC) : (putT T r).1 = zT ∨ (putT T r).1 = { T with rows := insR T.rows r } := by
  unfold putT
  split
  · exact .inl rfl
  · split
    · exact .inl rfl
    · split
      · exact .inl rfl
      · exact .inr rfl
theorem SmN.put {k : Nat} {T : TM} {r : RC} (h : SmN k T) (hr : SmR r) : SmN (k + 1) (putT T r).1 := by
  rcases put_two T r with e | e
  · rw [e]; exact smN_z _
  · rw [e]
    refine ⟨?_, h.uq, fun w hw => ?_, h.us⟩
    · show (insR T.rows r).length ≤ k + 1
      rw [insR_len]; have := h.rows; omega
    · rcases insR_mem.1 hw with rfl | hw
      · exact hr
      · exact h.each w hw
theorem SmN.len {k : Nat} {T : TM} (h : SmN k T) : ∀ r ∈ T.rows, r.d.length ≤ maxLen := fun r hr => by
  have := (h.each r hr).2.1
  unfold maxLen; omega
theorem putV_any (k B B' : Nat) (T : TM) (a1 a2 : Option Addr) (c1 c2 : Nat) (r : RC) (ad : Option Addr) (cp : Nat) (w : World) (hk : k ≤ 1000) (hs : SmN k T) (hr : SmR r) (hv : TVs B w T a1 c1 a2 c2) (hd : DV B' w ad cp r.d) : Calls Tryz.prog 9 #[tv T a1 c1 a2 c2, rv r ad cp] w fun e w' => ∃ e1 f1 e2 f2, e = .returned (.tuple #[tv (putT T r).1 e1 f1 e2 f2, .int .i64 (putT T r).2]) ∧ TVs w.heap.size w' (putT T r).1 e1 f1 e2 f2 ∧ Below w.heap.size w w' := by
  refine (tPut_any B B' T a1 a2 c1 c2 r ad cp w hv (hs.smT hk) hd hr).mono ?_
  rintro e w' ⟨val, rfl, ho, hb⟩
  obtain ⟨e1, f1, e2, f2, rfl, h⟩ := ho.tv (hs.put hr).len
  exact ⟨e1, f1, e2, f2, rfl, h, hb⟩
/-- A table laid into a box of its own. -/
theorem box4 (w : World) (t : TypeId) (z0 z1 z2 z3 v0 v1 v2 v3 : Value) : Bx4 (W4 (w.alloc (.cells #[z0, z1, z2, z3] t)) w.heap.size v0 v1 v2 v3) w.heap.size t v0 v1 v2 v3 ∧ Below w.heap.size w (W4 (w.alloc (.cells #[z0, z1, z2, z3] t)) w.heap.size v0 v1 v2 v3) :=
  ⟨(bx4_new w t z0 z1 z2 z3).set4 v0 v1 v2 v3, w4_below ((Below.refl _ _).alloc (Nat.le_refl _) _) (Nat.le_refl _) _ _ _ _⟩
theorem box2 (w : World) (z0 z1 v0 v1 : Value) : Bx2 (((w.alloc (.cells #[z0, z1] 28)).setCell ⟨w.heap.size, 0, none⟩ v0).setCell ⟨w.heap.size, 1, none⟩ v1) w.heap.size v0 v1 ∧ Below w.heap.size w (((w.alloc (.cells #[z0, z1] 28)).setCell ⟨w.heap.size, 0, none⟩ v0).setCell ⟨w.heap.size, 1, none⟩ v1) :=
  ⟨(bx2_new w z0 z1).set v0 v1, set2_below ((Below.refl _ _).alloc (Nat.le_refl _) _) _ (Nat.le_refl _) _ _⟩
def u1 : TM := ⟨⟨#[84]⟩, 2, [nS], [ra, rb]⟩
theorem put_1 : putT t0 rb = (u1, 0) := by decide +kernel
theorem put_2 : putT u1 rcc = (zT, 272) := by decide +kernel
theorem get_1 : getT u1 bS = some rb := by decide +kernel
theorem smR_lit (r : RC) (n : Int) (h : r = ⟨r.id, dR r.id n⟩) (hn : r.id.size ≤ 1000) : SmR r := by
  rw [h]
  refine ⟨?_, by show 3 ≤ 100000; decide, by show r.id.size ≤ 1000000; omega⟩
  show CW 3 (gl (dR r.id n))
  rw [dR_eq]
  intro i hi
  rcases (show i = 0 ∨ i = 1 ∨ i = 2 by omega) with rfl | rfl | rfl
  · exact ⟨by show (7 : Nat) < 256; decide, Nat.zero_le _, Nat.zero_le _, by show (-9223372036854775808 : Int) ≤ 2; decide, by show (2 : Int) ≤ 9223372036854775807; decide⟩
  · exact ⟨by show (3 : Nat) < 256; decide, by show (2 : Nat) ≤ maxLen; unfold maxLen; omega, by show r.id.size ≤ 1000000; omega, by show (-9223372036854775808 : Int) ≤ 0; decide, by show (0 : Int) ≤ 9223372036854775807; decide⟩
  · exact ⟨by show (2 : Nat) < 256; decide, by show (1 : Nat) ≤ maxLen; unfold maxLen; omega, Nat.zero_le _, by show (-9223372036854775808 : Int) ≤ 0; decide, by show (0 : Int) ≤ 9223372036854775807; decide⟩
theorem sm_ra : SmR ra := smR_lit ra 1 rfl (by decide)
theorem sm_rb : SmR rb := smR_lit rb 2 rfl (by decide)
theorem sm_rc : SmR rcc := smR_lit rcc 3 rfl (by decide)
theorem sm_t0 : SmN 1 t0 := ⟨by decide, by decide, fun r hr => (by simp [t0] at hr; subst hr; exact sm_ra), fun s hs => (by simp [t0] at hs; subst hs; decide)⟩
theorem sm_u1 : SmN 2 u1 := by have h := sm_t0.put sm_rb; rw [put_1] at h; exact h
end Go.Proofs.YtfigebepeniikaaGreat
/- Layer 27: alive. -/
namespace Go.Proofs.YtfigebepeniikaaGreat
open Go.RowKit Go.Maps
end Go.Proofs.YtfigebepeniikaaGreat
/- Layer 27: TableOrder, walked. -/
namespace Go.Proofs.YtfigebepeniikaaGreat
open Go.RowKit Go.Maps
/-- What a type tells of cells. -/
def KR (r : RC) : Prop := ∀ i, i < r.d.length → (gl r.d i).k < 256 ∧ -9223372036854775808 ≤ (gl r.d i).m ∧ (gl r.d i).m ≤ 9223372036854775807
theorem smR_gr {r : RC} (h : KR r) (k : grR r = false) : SmR r := by
  unfold grR at k
  rw [Bool.or_eq_false_iff] at k
  obtain ⟨k1, k2⟩ := k
  obtain ⟨g1, g2⟩ := gr_small k2
  have k1' := of_decide_eq_false k1
  refine ⟨fun i hi => ?_, by omega, by omega⟩
  obtain ⟨h1, h2, h3⟩ := h i hi
  obtain ⟨g3, g4⟩ := g2 i hi
  exact ⟨h1, by unfold maxLen; omega, by omega, h2, h3⟩
theorem smN_gr {T : TM} (h : ∀ r ∈ T.rows, KR r) (k : grT T = false) : SmN 12 T := by
  obtain ⟨h1, h2, _, h4, h5⟩ := grT_no k
  exact ⟨h1, by omega, fun r hr => smR_gr (h r hr) (h4 r hr), fun s hs => by have := h5 s hs; omega⟩
/-- What lies in the law's boxes. -/
structure PL (w W : World) (y0 y1 y2 y3 z0 z1 u0 u1 : Value) : Prop where
  bl : Below w.heap.size w W
  b1 : Bx4 W w.heap.size 25 y0 y1 y2 y3
  b2 : Bx2 W (w.heap.size + 1) z0 z1
  b3 : Bx2 W (w.heap.size + 1 + 1) u0 u1
theorem PL.up {w W W' : World} {y0 y1 y2 y3 z0 z1 u0 u1 : Value} (h : PL w W y0 y1 y2 y3 z0 z1 u0 u1) (k : Below W.heap.size W W') : PL w W' y0 y1 y2 y3 z0 z1 u0 u1 := ⟨h.bl.trans (k.mono h.bl.size), h.b1.up k, h.b2.up k, h.b3.up k⟩
theorem pl_new (w : World) (y0 y1 y2 y3 z0 z1 u0 u1 : Value) : PL w (((w.alloc (.cells #[y0, y1, y2, y3] 25)).alloc (.cells #[z0, z1] 28)).alloc (.cells #[u0, u1] 28)) y0 y1 y2 y3 z0 z1 u0 u1 :=
  ⟨(((Below.refl _ _).alloc (Nat.le_refl _) _).alloc (by simp) _).alloc (by simp; omega) _, al_old _ _ (al_old _ _ (al_at _ _ rfl)), al_old _ _ (al_at _ _ (by simp)), al_at _ _ (by simp)⟩
/-- The law, with its numbers. -/
theorem ord_nums (T : TM) (a b : RC) (X Y Z V : TM) (e f g h : Int) (hX : putT T a = (X, e)) (hY : putT X b = (Y, f)) (hZ : putT T b = (Z, g)) (hV : putT Z a = (V, h)) : (e = 0 ∧ f = 0 → g = 0 ∧ h = 0 ∧ Y = V) ∧ (g = 0 ∧ h = 0 → e = 0 ∧ f = 0) := by
  constructor
  · rintro ⟨rfl, rfl⟩
    obtain ⟨Z', h1, h2⟩ := order_law hX hY
    rw [hZ, Prod.mk.injEq] at h1
    obtain ⟨rfl, rfl⟩ := h1
    rw [hV, Prod.mk.injEq] at h2
    exact ⟨rfl, h2.2, h2.1.symm⟩
  · rintro ⟨rfl, rfl⟩
    obtain ⟨Z', h1, h2⟩ := order_law hZ hV
    rw [hX, Prod.mk.injEq] at h1
    obtain ⟨rfl, rfl⟩ := h1
    rw [hY, Prod.mk.injEq] at h2
    exact ⟨rfl, h2.2⟩
def PT (w : World) (T : TM) (err : Int) (e : Ending) (w' : World) : Prop := ∃ e1 f1 e2 f2, e = .returned (.tuple #[.agg #[.string T.name, .int .i64 T.most, .slice e1 T.uq.length f1, .slice e2 T.rows.length f2], .int .i64 err]) ∧ TVs w.heap.size w' T e1 f1 e2 f2 ∧ Below w.heap.size w w'
theorem put_pt {k B B' : Nat} {T X : TM} {r : RC} {e : Int} (hX : putT T r = (X, e)) (hk : k ≤ 1000) (hs : SmN k T) (hr : SmR r) : ∀ (W : World) (a1 a2 : Option Addr) (c1 c2 : Nat) (ad : Option Addr) (cp : Nat), TVs B W T a1 c1 a2 c2 → DV B' W ad cp r.d → Calls Tryz.prog 9 #[.agg #[.string T.name, .int .i64 T.most, .slice a1 T.uq.length c1, .slice a2 T.rows.length c2], .agg #[.string r.id, .slice ad r.d.length cp]] W (PT W X e) := fun W a1 a2 c1 c2 ad cp hv hd => by
  have h := putV_any k B B' T a1 a2 c1 c2 r ad cp W hk hs hr hv hd
  rw [hX] at h
  exact h
theorem putN {k : Nat} {T X : TM} {r : RC} {e : Int} (hX : putT T r = (X, e)) (hs : SmN k T) (hr : SmR r) : SmN (k + 1) X := by
  have h := hs.put hr
  rw [hX] at h
  exact h
end Go.Proofs.YtfigebepeniikaaGreat
/- Layer 27: tables and records that came in. -/
namespace Go.Proofs.YtfigebepeniikaaGreat
open Go.ChangeShapes Go.WideShapes Go.ChangeAt Go.RowKit
def vCell : Vw := vCons (vInt .u8) (vCons vStr (vCons vStr (vCons (vInt .i64) (vCons (vInt .i64) vNil))))
def vRec : Vw := vCons vStr (vCons (vSlice vCell) vNil)
def vTab : Vw := vCons vStr (vCons (vInt .i64) (vCons (vSlice vStr) (vCons (vSlice vRec) vNil)))
theorem oStr : Opens Tryz.prog vStr 9 := opens_str Tryz.underlying9 (by kernel_rfl)
theorem oInt : Opens Tryz.prog (vInt .i64) 3 := opens_int Tryz.underlying3 (by kernel_rfl)
set_option maxRecDepth 100000 in
theorem oCell : Opens Tryz.prog vCell 47 := opens_struct Tryz.underlying47 (by kernel_rfl) (fopens_cons rfl (opens_int Tryz.underlying5 (by kernel_rfl)) (fopens_cons rfl oStr (fopens_cons rfl oStr (fopens_cons rfl (opens_int Tryz.underlying2 (by kernel_rfl)) (fopens_cons rfl oInt (fopens_nil _ _))))))
set_option maxRecDepth 100000 in
theorem oRec : Opens Tryz.prog vRec 28 := opens_struct Tryz.underlying28 (by kernel_rfl) (fopens_cons rfl oStr (fopens_cons rfl (opens_slice Tryz.underlying26 (by kernel_rfl) oCell (by decide)) (fopens_nil _ _)))
set_option maxRecDepth 100000 in
theorem oTab : Opens Tryz.prog vTab 25 := opens_struct Tryz.underlying25 (by kernel_rfl) (fopens_cons rfl oStr (fopens_cons rfl oInt (fopens_cons rfl (opens_slice Tryz.underlying22 (by kernel_rfl) oStr (by decide)) (fopens_cons rfl (opens_slice Tryz.underlying23 (by kernel_rfl) oRec (by decide)) (fopens_nil _ _)))))
abbrev CD := Int × ByteArray × ByteArray × Int × Int × Unit
abbrev RD := ByteArray × List CD × Unit
def toCR (d : CD) : CR := ⟨d.1.toNat, d.2.1, d.2.2.1, d.2.2.2.1, d.2.2.2.2.1⟩
def toRC (d : RD) : RC := ⟨d.1, d.2.1.map toCR⟩
theorem cell_es {w : World} {d : CD} {es : List Value} (h : vCell.rd w d es) : es = [.int .u8 (toCR d).k, .string (toCR d).nm, .string (toCR d).tx, .int .i64 (toCR d).n, .int .i64 (toCR d).m] ∧ (toCR d).k < 256 ∧ -9223372036854775808 ≤ (toCR d).m ∧ (toCR d).m ≤ 9223372036854775807 := by
  obtain ⟨k, nm, tx, n, m, u⟩ := d
  obtain ⟨e1, r1, q1, _, _, ⟨h1, w1⟩, k1⟩ := h
  obtain ⟨e2, r2, q2, _, _, ⟨h2, _⟩, k2⟩ := k1
  obtain ⟨e3, r3, q3, _, _, ⟨h3, _⟩, k3⟩ := k2
  obtain ⟨e4, r4, q4, _, _, ⟨h4, _⟩, k4⟩ := k3
  obtain ⟨e5, r5, q5, _, _, ⟨h5, w5⟩, k5⟩ := k4
  have k5' : r5 = [] := k5
  have b1 := bounds_u8 w1
  have b5 := bounds_i64 w5
  dsimp only at h1 h2 h3 h4 h5 b1 b5
  refine ⟨?_, ?_, b5.1, b5.2⟩
  · rw [q1, q2, q3, q4, q5, k5', h1, h2, h3, h4, h5]
    show ([.int .u8 k, .string nm, .string tx, .int .i64 n, .int .i64 m] : List Value) = [.int .u8 ((k.toNat : Nat) : Int), .string nm, .string tx, .int .i64 n, .int .i64 m]
    rw [Int.toNat_of_nonneg b1.1]
  · show k.toNat < 256
    have := b1.1
    have := b1.2
    omega
theorem gl_map {ds : List CD} {i : Nat} (h : i < ds.length) : gl (ds.map toCR) i = toCR (ds[i]'h) := by
  unfold gl
  rw [List.getD_eq_getElem?_getD, List.getElem?_map, List.getElem?_eq_getElem h]
  rfl
theorem dv_row {w : World} {a : Option Addr} {ds : List CD} {c : Nat} (h : rowAt vCell w a ds) (h1 : ds.length ≤ c) (h2 : c ≤ maxLen) (h3 : a = none → ds.length = 0 ∧ c = 0) : DV 0 w a c (ds.map toCR) ∧ ∀ i, i < (ds.map toCR).length → (gl (ds.map toCR) i).k < 256 ∧ -9223372036854775808 ≤ (gl (ds.map toCR) i).m ∧ (gl (ds.map toCR) i).m ≤ 9223372036854775807 := by
  have hl : (ds.map toCR).length = ds.length := List.length_map _
  refine ⟨⟨fun i hi => ?_, by rw [hl]; exact h1, h2, fun e => (by rw [hl]; exact h3 e), fun _ _ _ => Nat.zero_le _⟩, fun i hi => ?_⟩
  · rw [hl] at hi
    obtain ⟨b, off, e, hb, es, _, hc, hr⟩ := h i hi
    obtain ⟨he, _⟩ := cell_es hr
    rw [he] at hc
    rw [gl_map hi]
    exact ⟨b, off, e, hb, hc 0 (by decide), hc 1 (by decide), hc 2 (by decide), hc 3 (by decide), hc 4 (by decide)⟩
  · rw [hl] at hi
    obtain ⟨b, off, e, hb, es, _, hc, hr⟩ := h i hi
    rw [gl_map hi]
    exact (cell_es hr).2
theorem rec_es {w : World} {d : RD} {es : List Value} (h : vRec.rd w d es) : ∃ ad cp, es = [.string (toRC d).id, .slice ad (toRC d).d.length cp] ∧ DV 0 w ad cp (toRC d).d ∧ KR (toRC d) ∧ (toRC d).d.length ≤ maxLen := by
  obtain ⟨id, cs, u⟩ := d
  obtain ⟨e1, r1, q1, _, _, ⟨h1, _⟩, k1⟩ := h
  obtain ⟨e2, r2, q2, _, _, h2, k2⟩ := k1
  obtain ⟨a, c, h3, h4, h5, h6, h7⟩ := h2
  have k2' : r2 = [] := k2
  dsimp only at h1 h3 h4 h6
  obtain ⟨hd, hk⟩ := dv_row h7 h4 h5 h6
  refine ⟨a, c, ?_, hd, hk, Nat.le_trans hd.2.1 hd.2.2.1⟩
  rw [q1, q2, k2', h1, h3]
  show ([.string id, .slice a cs.length c] : List Value) = [.string id, .slice a (cs.map toCR).length c]
  rw [List.length_map]
theorem rl_map {ds : List RD} {i : Nat} (h : i < ds.length) : rl (ds.map toRC) i = toRC (ds[i]'h) := by
  unfold rl
  rw [List.getD_eq_getElem?_getD, List.getElem?_map, List.getElem?_eq_getElem h]
  rfl
theorem rv_row {w : World} {a : Option Addr} {ds : List RD} (h : rowAt vRec w a ds) : RV 0 w a (ds.map toRC) ∧ ∀ r ∈ ds.map toRC, KR r ∧ r.d.length ≤ maxLen := by
  have hl : (ds.map toRC).length = ds.length := List.length_map _
  refine ⟨fun i hi => ?_, fun r hr => ?_⟩
  · rw [hl] at hi
    obtain ⟨b, off, e, hb, es, _, hc, hr⟩ := h i hi
    obtain ⟨ad, cp, he, hd, _⟩ := rec_es hr
    rw [he] at hc
    rw [rl_map hi]
    exact ⟨b, off, ad, cp, e, Nat.zero_le _, hb, hc 0 (by decide), hc 1 (by decide), hd⟩
  · obtain ⟨i, hi, rfl⟩ := List.getElem_of_mem hr
    rw [hl] at hi
    obtain ⟨b, off, e, hb, es, _, hc, hr'⟩ := h i hi
    obtain ⟨ad, cp, he, hd, hk, hm⟩ := rec_es hr'
    rw [List.getElem_map]
    exact ⟨hk, hm⟩
theorem sv_row {w : World} {a : Option Addr} {L : List ByteArray} (h : rowAt vStr w a L) : Ord.SView w a L.length L := by
  refine ⟨rfl, fun i hi => ?_⟩
  obtain ⟨b, off, e, hb, es, _, hc, ⟨hr, _⟩⟩ := h i hi
  have hc0 := hc 0 (by decide)
  rw [hr] at hc0
  refine ⟨b, off, e, hb, ?_⟩
  have hs : vStr.size = 1 := rfl
  rw [hs, Nat.mul_one, Nat.add_zero] at hc0
  unfold Ord.nth
  rw [List.getD_eq_getElem?_getD, List.getElem?_eq_getElem hi]
  exact hc0
set_option maxRecDepth 20000 in
theorem open_rec {H : Type} {enc : TypeId × Value → H} {W : World} {base : Nat} {sp : Nat → Bool} {held : Bool} {r : Reach} {b0 : Nat} {v : Value} {d : DataW H} {ps : List MemPlace}
    (hv : Value.okWide Tryz.prog W r b0 28 v) (h : DataW.Trod enc Tryz.prog W base sp held 28 v d ps) : ∃ (a : RC) (ad : Option Addr) (cp : Nat), v = rv a ad cp ∧ DV 0 W ad cp a.d ∧ (KR a ∧ a.d.length ≤ maxLen) := by
  simp only [Value.okWide, Tryz.underlying28] at hv
  obtain ⟨cs, rfl, _, _⟩ := hv
  obtain ⟨fuel, hf⟩ := h
  obtain ⟨x, hx⟩ := oRec.2 hf
  obtain ⟨ad, cp, he, hd, hk⟩ := rec_es hx
  refine ⟨toRC x, ad, cp, ?_, hd, hk⟩
  simp only [Value.cells] at he
  have hcs : cs = #[.string (toRC x).id, .slice ad (toRC x).d.length cp] := Array.toList_inj.1 he
  subst hcs
  rfl
set_option maxRecDepth 20000 in
theorem open_tab {H : Type} {enc : TypeId × Value → H} {W : World} {base : Nat} {sp : Nat → Bool} {held : Bool} {r : Reach} {b0 : Nat} {v : Value} {d : DataW H} {ps : List MemPlace}
    (hv : Value.okWide Tryz.prog W r b0 25 v) (h : DataW.Trod enc Tryz.prog W base sp held 25 v d ps) : ∃ (T : TM) (a1 : Option Addr) (c1 : Nat) (a2 : Option Addr) (c2 : Nat), v = tv T a1 c1 a2 c2 ∧ TVs 0 W T a1 c1 a2 c2 ∧ ∀ r ∈ T.rows, KR r ∧ r.d.length ≤ maxLen := by
  simp only [Value.okWide, Tryz.underlying25] at hv
  obtain ⟨cs, rfl, _, _⟩ := hv
  obtain ⟨fuel, hf⟩ := h
  obtain ⟨⟨nm, m, L, R, u⟩, hx⟩ := oTab.2 hf
  obtain ⟨e1, r1, q1, _, _, ⟨h1, _⟩, k1⟩ := hx
  obtain ⟨e2, r2, q2, _, _, ⟨h2, _⟩, k2⟩ := k1
  obtain ⟨e3, r3, q3, _, _, h3, k3⟩ := k2
  obtain ⟨e4, r4, q4, _, _, h4, k4⟩ := k3
  obtain ⟨a1, c1, i1, i2, i3, i4, i5⟩ := h3
  obtain ⟨a2, c2, j1, j2, j3, j4, j5⟩ := h4
  have k4' : r4 = [] := k4
  dsimp only at h1 h2 i1 i2 i4 j1 j2 j4
  obtain ⟨hR, hK⟩ := rv_row (ds := R) j5
  have hl : (List.map toRC R).length = R.length := List.length_map _
  refine ⟨⟨nm, m, L, List.map toRC R⟩, a1, c1, a2, c2, ?_, ⟨sv_row i5, i2, i3, i4, fun _ _ _ => Nat.zero_le _, hR, by show (List.map toRC R).length ≤ c2; rw [hl]; exact j2, j3, fun e => by show (List.map toRC R).length = 0 ∧ c2 = 0; rw [hl]; exact j4 e⟩, hK⟩
  simp only [Value.cells] at q1
  rw [q2, q3, q4, k4', h1, h2, i1, j1] at q1
  have hcs : cs = #[.string nm, .int .i64 m, .slice a1 L.length c1, .slice a2 R.length c2] := Array.toList_inj.1 q1
  subst hcs
  show Value.agg #[.string nm, .int .i64 m, .slice a1 L.length c1, .slice a2 R.length c2] = Value.agg #[.string nm, .int .i64 m, .slice a1 L.length c1, .slice a2 (List.map toRC R).length c2]
  rw [hl]
end Go.Proofs.YtfigebepeniikaaGreat
/- Layer 27: Get and Drop, and what they tell, small with what came in. -/
namespace Go.Proofs.YtfigebepeniikaaGreat
open Go.RowKit Go.Maps
def zC : RC := ⟨⟨#[]⟩, []⟩
def GT (w : World) (o : Option RC) (e : Ending) (w' : World) : Prop := ∃ ad cp, e = .returned (.tuple #[.agg #[.string (o.getD zC).id, .slice ad (o.getD zC).d.length cp], .bool o.isSome]) ∧ DV 0 w' ad cp (o.getD zC).d ∧ Below w.heap.size w w'
theorem getT_mem {T : TM} {s : ByteArray} {r : RC} (h : getT T s = some r) : r ∈ T.rows := by
  unfold getT at h
  split at h
  · exact List.mem_of_find?_eq_some h
  · cases h
theorem get_len {T : TM} {s : ByteArray} {k : Nat} (hs : SmN k T) : ((getT T s).getD zC).d.length ≤ maxLen := by
  cases h : getT T s with
  | none => exact Nat.zero_le _
  | some r => exact hs.len r (getT_mem h)
theorem get_gt {k B : Nat} {T : TM} (hs : SmN k T) (hk : k ≤ 1000) : ∀ (s : ByteArray) (W : World) (a1 a2 : Option Addr) (c1 c2 : Nat), TVs B W T a1 c1 a2 c2 → Calls Tryz.prog 7 #[.agg #[.string T.name, .int .i64 T.most, .slice a1 T.uq.length c1, .slice a2 T.rows.length c2], .string s] W (GT W (getT T s)) := fun s W a1 a2 c1 c2 hv => by
  refine (tGet_any B T a1 a2 c1 c2 s W hv (hs.smT hk)).mono ?_
  rintro e w' ⟨h, hb⟩
  have hl := get_len (s := s) hs
  cases ho : getT T s with
  | none =>
    rw [ho] at h
    exact ⟨none, 0, h, ⟨fun i hi => absurd hi (Nat.not_lt_zero i), Nat.le_refl _, Nat.zero_le _, fun _ => ⟨rfl, rfl⟩, fun _ _ e => (by cases e)⟩, hb⟩
  | some r =>
    rw [ho] at h hl
    obtain ⟨q, rfl, hq, hd⟩ := h
    exact ⟨some ⟨q, 0, none⟩, r.d.length, rfl, (hd.dv hq hl).mono (Nat.zero_le _), hb⟩
theorem drop_sub {T : TM} {s : ByteArray} : ∀ r ∈ (dropT T s).1.rows, r ∈ T.rows := by
  unfold dropT
  split
  · intro r hr; cases hr
  · split
    · intro r hr; cases hr
    · intro r hr; exact (List.mem_filter.1 hr).1
theorem drop_pt {k B : Nat} {T X : TM} {s : ByteArray} {e : Int} (hX : dropT T s = (X, e)) (hk : k ≤ 1000) (hs : SmN k T) : ∀ (W : World) (a1 a2 : Option Addr) (c1 c2 : Nat), TVs B W T a1 c1 a2 c2 → Calls Tryz.prog 13 #[.agg #[.string T.name, .int .i64 T.most, .slice a1 T.uq.length c1, .slice a2 T.rows.length c2], .string s] W (PT W X e) := fun W a1 a2 c1 c2 hv => by
  have hl : ∀ r ∈ X.rows, r.d.length ≤ maxLen := fun r hr => hs.len r (drop_sub (s := s) r (by rw [hX]; exact hr))
  have h := tDrop_any B T a1 a2 c1 c2 s W hv (hs.smT hk)
  rw [hX] at h
  refine h.mono ?_
  rintro e w' ⟨val, rfl, ho, hb⟩
  obtain ⟨e1, f1, e2, f2, rfl, h⟩ := ho.tv hl
  exact ⟨e1, f1, e2, f2, rfl, h, hb⟩
end Go.Proofs.YtfigebepeniikaaGreat
/- Layer 27: TableBack, walked. -/
namespace Go.Proofs.YtfigebepeniikaaGreat
open Go.RowKit Go.Maps
/-- What lies in the law's boxes. -/
structure PB (w W : World) (y0 y1 y2 y3 z0 z1 : Value) : Prop where
  bl : Below w.heap.size w W
  b1 : Bx4 W w.heap.size 25 y0 y1 y2 y3
  b2 : Bx2 W (w.heap.size + 1) z0 z1
theorem PB.up {w W W' : World} {y0 y1 y2 y3 z0 z1 : Value} (h : PB w W y0 y1 y2 y3 z0 z1) (k : Below W.heap.size W W') : PB w W' y0 y1 y2 y3 z0 z1 := ⟨h.bl.trans (k.mono h.bl.size), h.b1.up k, h.b2.up k⟩
theorem pb_new (w : World) (y0 y1 y2 y3 z0 z1 : Value) : PB w ((w.alloc (.cells #[y0, y1, y2, y3] 25)).alloc (.cells #[z0, z1] 28)) y0 y1 y2 y3 z0 z1 :=
  ⟨((Below.refl _ _).alloc (Nat.le_refl _) _).alloc (by simp) _, al_old _ _ (al_at _ _ rfl), al_at _ _ (by simp)⟩
theorem back_nums (T : TM) (a : RC) (s : ByteArray) (X D V : TM) (e d h : Int) (hX : putT T a = (X, e)) (hD : dropT X a.id = (D, d)) (hV : putT X a = (V, h)) : (e = 0 → tabOk X = true ∧ (getT X a.id).getD zC = a ∧ (getT X a.id).isSome = true ∧ d = 0 ∧ D = T ∧ h = 271 ∧ (s ≠ a.id → getT X s = getT T s)) ∧ (e ≠ 0 → X.rows.length = 0 ∧ X.most = 0) := by
  constructor
  · rintro rfl
    obtain ⟨h1, h2, h3, h4, h5⟩ := back_law hX
    rw [hD, Prod.mk.injEq] at h3
    rw [hV] at h4
    exact ⟨h1, by rw [h2]; rfl, by rw [h2]; rfl, h3.2, h3.1, h4, h5 s⟩
  · intro he
    have := put_err T a (by rw [hX]; exact he)
    rw [hX] at this
    dsimp only at this
    subst this
    exact ⟨rfl, rfl⟩
end Go.Proofs.YtfigebepeniikaaGreat
/- Layer 27: TableSets, walked. -/
namespace Go.Proofs.YtfigebepeniikaaGreat
open Go.RowKit Go.Maps
theorem set_two (T : TM) (r : RC) : (setT T r).1 = zT ∨ (setT T r).1 = { T with rows := T.rows.map (repR r) } := by
  unfold setT
  split
  · exact .inl rfl
  · split
    · exact .inl rfl
    · split
      · exact .inl rfl
      · exact .inr rfl
theorem SmN.set {k : Nat} {T : TM} {r : RC} (h : SmN k T) (hr : SmR r) : SmN k (setT T r).1 := by
  rcases set_two T r with e | e
  · rw [e]; exact smN_z _
  · rw [e]
    refine ⟨?_, h.uq, fun w hw => ?_, h.us⟩
    · show (T.rows.map (repR r)).length ≤ k
      rw [List.length_map]; exact h.rows
    · obtain ⟨x, hx, rfl⟩ := List.mem_map.1 hw
      unfold repR
      split
      · exact hr
      · exact h.each x hx
theorem smR_z : SmR zC := ⟨fun i hi => absurd hi (Nat.not_lt_zero i), Nat.zero_le _, Nat.zero_le _⟩
theorem get_sm {T : TM} {s : ByteArray} {k : Nat} (hs : SmN k T) : SmR ((getT T s).getD zC) := by
  cases h : getT T s with
  | none => exact smR_z
  | some r => exact hs.each r (getT_mem h)
theorem setMN {k : Nat} {T X : TM} {r : RC} {e : Int} (hX : setT T r = (X, e)) (hs : SmN k T) (hr : SmR r) : SmN k X := by
  have h := hs.set hr
  rw [hX] at h
  exact h
theorem set_pt {k B B' : Nat} {T X : TM} {r : RC} {e : Int} (hX : setT T r = (X, e)) (hk : k ≤ 1000) (hs : SmN k T) (hr : SmR r) : ∀ (W : World) (a1 a2 : Option Addr) (c1 c2 : Nat) (ad : Option Addr) (cp : Nat), TVs B W T a1 c1 a2 c2 → DV B' W ad cp r.d → Calls Tryz.prog 11 #[.agg #[.string T.name, .int .i64 T.most, .slice a1 T.uq.length c1, .slice a2 T.rows.length c2], .agg #[.string r.id, .slice ad r.d.length cp]] W (PT W X e) := fun W a1 a2 c1 c2 ad cp hv hd => by
  have h := tSet_any B B' T a1 a2 c1 c2 r ad cp W hv (hs.smT hk) hd hr
  rw [hX] at h
  refine h.mono ?_
  rintro e w' ⟨val, rfl, ho, hb⟩
  obtain ⟨e1, f1, e2, f2, rfl, h⟩ := ho.tv (setMN hX hs hr).len
  exact ⟨e1, f1, e2, f2, rfl, h, hb⟩
theorem sets_nums (T : TM) (a : RC) (s : ByteArray) (X D : TM) (e d : Int) (hX : setT T a = (X, e)) (hD : setT X ((getT T a.id).getD zC) = (D, d)) : (e = 0 → tabOk X = true ∧ (getT X a.id).getD zC = a ∧ (getT X a.id).isSome = true ∧ d = 0 ∧ D = T ∧ (getT T a.id).isSome = true ∧ (s ≠ a.id → getT X s = getT T s) ∧ X.rows.length = T.rows.length) ∧ (e ≠ 0 → X.rows.length = 0 ∧ X.most = 0) := by
  constructor
  · rintro rfl
    obtain ⟨h1, h2, h3, ⟨old, h4, h5⟩, h6⟩ := sets_law hX
    rw [h4] at hD
    rw [show (some old).getD zC = old from rfl, h5, Prod.mk.injEq] at hD
    exact ⟨h1, by rw [h3]; rfl, by rw [h3]; rfl, hD.2.symm, hD.1.symm, by rw [h4]; rfl, h6 s, h2⟩
  · intro he
    have := set_err T a (by rw [hX]; exact he)
    rw [hX] at this
    dsimp only at this
    subst this
    exact ⟨rfl, rfl⟩
end Go.Proofs.YtfigebepeniikaaGreat
/- Layer 27, plain: what the document's own tables are. No program in sight. -/
namespace Go.Proofs.YtfigebepeniikaaGreat
open Go.RowKit
theorem ren_inj (e : ByteArray) {x y : List CR} (hn : (gl x 0).nm = (gl y 0).nm) : ren e x = ren e y ↔ x = y := by
  cases x with
  | nil => cases y with
    | nil => simp
    | cons c l => simp [ren]
  | cons c l => cases y with
    | nil => simp [ren]
    | cons c' l' =>
      have h : c.nm = c'.nm := hn
      simp only [ren, List.cons.injEq]
      constructor
      · rintro ⟨h1, h2⟩
        refine ⟨?_, h2⟩
        cases c; cases c'
        simp only [CR.mk.injEq] at h1 h ⊢
        exact ⟨h1.1, h, h1.2.2⟩
      · rintro ⟨rfl, rfl⟩; exact ⟨rfl, rfl⟩
/-- A member that is no Null, without its name. -/
def vV (d : List CR) (s : ByteArray) : Option (List CR) := match mI d s with
  | some p => if (gl d p).k = 0 then none else some (ren ⟨#[]⟩ (cut (gl d) p (nx (gl d) d.length p)))
  | none => none
theorem vV_no {d : List CR} {s : ByteArray} (h : mI d s = none) : vV d s = none := by unfold vV; rw [h]
theorem vV_null {d : List CR} {s : ByteArray} {p : Nat} (h : mI d s = some p) (h0 : (gl d p).k = 0) : vV d s = none := by unfold vV; rw [h]; simp [h0]
theorem vV_some {d : List CR} {s : ByteArray} {p : Nat} (h : mI d s = some p) (h0 : (gl d p).k ≠ 0) : vV d s = some (ren ⟨#[]⟩ (cut (gl d) p (nx (gl d) d.length p))) := by unfold vV; rw [h]; simp [h0]
theorem nx_lt {d : List CR} {p : Nat} (hc : ckL d = true) (hp : p < d.length) : p < nx (gl d) d.length p ∧ nx (gl d) d.length p ≤ d.length := wk_lt _ _ _ (ck_at hc hp).1
theorem mI_lt {d : List CR} {s : ByteArray} {p : Nat} (hc : ckL d = true) (h : mI d s = some p) : p < d.length ∧ (gl d p).nm = s := by
  obtain ⟨k1, k2, _, k4⟩ := ckC_parts hc
  obtain ⟨_, _, j3, j4⟩ := wk_open (Nat.le_refl _) k4
  have hb := (bd_chain _ _ _ j4).1
  unfold mI at h
  have h1 := List.find?_some h
  obtain ⟨i, hi, rfl⟩ := List.mem_map.1 (List.mem_of_find?_eq_some h)
  rw [List.mem_range] at hi
  have hl := wk_lt _ _ _ (hb i hi)
  exact ⟨Nat.lt_of_lt_of_le hl.1 hl.2, by simpa using h1⟩
theorem cut0 {d : List CR} {p e : Nat} (h : p < e) : gl (cut (gl d) p e) 0 = gl d p := by
  rw [cut_at (gl d) p e 0 (by omega), Nat.add_zero]
theorem clash_vV {a b : RC} {s : ByteArray} (ha : ckL a.d = true) (hb : ckL b.d = true) : clash a b s = match vV a.d s, vV b.d s with
    | some x, some y => decide (x = y)
    | _, _ => false := by
  unfold clash mV
  cases h1 : mI a.d s with
  | none => rw [vV_no h1]; rfl
  | some p =>
    cases h2 : mI b.d s with
    | none =>
      rw [vV_no h2]
      cases vV a.d s <;> rfl
    | some q =>
      obtain ⟨p1, p2⟩ := mI_lt ha h1
      obtain ⟨q1, q2⟩ := mI_lt hb h2
      have p3 := (nx_lt ha p1).1
      have q3 := (nx_lt hb q1).1
      show (decide ((gl (cut (gl a.d) p _) 0).k ≠ 0) && decide (cut (gl a.d) p _ = cut (gl b.d) q _)) = _
      rw [cut0 p3]
      by_cases k1 : (gl a.d p).k = 0
      · rw [vV_null h1 k1]; simp [k1]
      · rw [vV_some h1 k1]
        have hn : (gl (cut (gl a.d) p (nx (gl a.d) a.d.length p)) 0).nm = (gl (cut (gl b.d) q (nx (gl b.d) b.d.length q)) 0).nm := by rw [cut0 p3, cut0 q3, p2, q2]
        by_cases k2 : (gl b.d q).k = 0
        · rw [vV_null h2 k2]
          have : ¬ cut (gl a.d) p (nx (gl a.d) a.d.length p) = cut (gl b.d) q (nx (gl b.d) b.d.length q) := fun e => by
            have := congrArg (fun l => (gl l 0).k) e
            simp only [cut0 p3, cut0 q3] at this
            exact k1 (this.trans k2)
          simp [this]
        · rw [vV_some h2 k2]
          simp only [decide_eq_true k1, Bool.true_and, decide_eq_decide]
          exact (ren_inj _ hn).symm
theorem nth_in {L : List ByteArray} {i : Nat} (h : i < L.length) : Ord.nth L i = L[i] := by unfold Ord.nth; rw [List.getD_eq_getElem?_getD, List.getElem?_eq_getElem h]; rfl
theorem tabNo {T : TM} (h : ¬ TabOk T) : tabOk T = false := by
  cases hk : tabOk T
  · rfl
  · exact absurd (tabOk_iff.1 hk) h
theorem tab_most {T : TM} (h : T.most < 1 ∨ 64 < T.most ∨ T.most < (T.rows.length : Int)) : tabOk T = false := tabNo fun k => by
  have h1 := k.m1
  have h2 := k.m2
  have h3 := k.len
  omega
theorem tab_uq {T : TM} {i k : Nat} (hi : i < T.uq.length) (hk : k < i) (h : Ord.nth T.uq i = Ord.nth T.uq k) : tabOk T = false := tabNo fun t => by
  have := (List.pairwise_iff_getElem.1 t.uq) k i (by omega) hi hk
  rw [nth_in hi, nth_in (by omega)] at h
  exact this h.symm
theorem uq_yes {L : List ByteArray} (h : ∀ i k, i < L.length → k < i → Ord.nth L i ≠ Ord.nth L k) : L.Nodup := by
  refine List.pairwise_iff_getElem.2 fun k i hk hi hki e => ?_
  have := h i k hi hki
  rw [nth_in hi, nth_in hk] at this
  exact this e.symm
theorem tab_rec {T : TM} {i : Nat} (hi : i < T.rows.length) (h : recOk (rl T.rows i) = false) : tabOk T = false := tabNo fun t => by
  have := t.rcs _ (rl_mem hi)
  rw [h] at this; cases this
theorem idsR_rl (L : List RC) {j : Nat} (h : j < L.length) : Ord.nth (idsR L) j = (rl L j).id := by rw [idsR_nth L j h, rl_get h]
theorem tab_less {T : TM} {i : Nat} (hi : i + 1 < T.rows.length) (h : ¬ Ord.cmpB (rl T.rows i).id (rl T.rows (i + 1)).id < 0) : tabOk T = false := tabNo fun t => by
  have := Ord.rises_at (Ord.chOk t.up).2 (j := i) (by rw [idsR_len]; omega)
  rw [idsR_rl _ (by omega), idsR_rl _ hi] at this
  exact h this
theorem tab_ids {T : TM} (t : TabOk T) {i k : Nat} (hi : i < T.rows.length) (hk : k < T.rows.length) (h : i ≠ k) : (rl T.rows i).id ≠ (rl T.rows k).id := fun e => by
  have := Ord.rises_inj (i := i) (j := k) t.up (by rw [idsR_len]; exact hi) (by rw [idsR_len]; exact hk) (by rw [idsR_rl _ hi, idsR_rl _ hk, e])
  exact h this
theorem tab_clash {T : TM} {i k : Nat} (hi : i < T.rows.length) (hk : k < i) (h : (T.uq.any fun s => clash (rl T.rows i) (rl T.rows k) s) = true) : tabOk T = false := tabNo fun t => by
  obtain ⟨s, hs, hc⟩ := List.any_eq_true.1 h
  have := t.cl _ (rl_mem (show k < T.rows.length by omega)) _ (rl_mem hi) (tab_ids t hi (by omega) (by omega)) s hs
  rw [this] at hc; cases hc
theorem rl_of {L : List RC} {r : RC} (h : r ∈ L) : ∃ i, i < L.length ∧ r = rl L i := by
  obtain ⟨i, hi, e⟩ := List.mem_iff_getElem.1 h
  exact ⟨i, hi, by rw [rl_get hi, e]⟩
theorem ids_up {L : List RC} (hl : L.length ≤ 4096) (h : ∀ i, i + 1 < L.length → Ord.cmpB (rl L i).id (rl L (i + 1)).id < 0) : Ord.chE (idsR L) = 0 := by
  unfold Ord.chE
  rw [idsR_len, if_neg (by omega), if_pos]
  refine Ord.rises_of _ fun j hj => ?_
  rw [idsR_rl _ (by omega), idsR_rl _ (by omega)]
  exact h j (by omega)
theorem tab_yes {T : TM} (h1 : 1 ≤ T.most) (h2 : T.most ≤ 64) (h3 : (T.rows.length : Int) ≤ T.most) (h4 : ∀ i k, i < T.uq.length → k < i → Ord.nth T.uq i ≠ Ord.nth T.uq k) (h5 : ∀ i, i < T.rows.length → recOk (rl T.rows i) = true)
    (h6 : ∀ i, i + 1 < T.rows.length → Ord.cmpB (rl T.rows i).id (rl T.rows (i + 1)).id < 0) (h7 : ∀ i k, i < T.rows.length → k < i → (T.uq.any fun s => clash (rl T.rows i) (rl T.rows k) s) = false) : tabOk T = true := by
  refine tabOk_iff.2 ⟨h1, h2, h3, ids_up (by omega) h6, uq_yes h4, fun r hr => ?_, fun w hw v hv hne s hs => ?_⟩
  · obtain ⟨i, hi, rfl⟩ := rl_of hr
    exact h5 i hi
  · obtain ⟨j, hj, rfl⟩ := rl_of hw
    obtain ⟨i, hi, rfl⟩ := rl_of hv
    by_cases hij : i = j
    · subst hij; exact absurd rfl hne
    · have hx := fun x => List.any_eq_false.1 (h7 i j hi x) s hs
      have hy := fun x => List.any_eq_false.1 (h7 j i hj x) s hs
      by_cases h : j < i
      · simpa using hx h
      · rw [clash_comm]; simpa using hy (by omega)
/-- A record put in ahead of the first greater one. -/
def wiR (r : RC) : List RC → List RC
  | [] => [r]
  | x :: L => if Ord.cmpB r.id x.id < 0 then r :: x :: L else x :: wiR r L
theorem wiR_ins (r : RC) : ∀ L : List RC, (∀ x ∈ L, x.id ≠ r.id) → wiR r L = insR L r
  | [], _ => rfl
  | x :: L, h => by
    have hx := h x (List.mem_cons_self ..)
    have h1 := Ord.cmp_swap x.id r.id
    have h2 : Ord.cmpB x.id r.id ≠ 0 := fun e => hx ((Ord.cmp_zero _ _).1 e)
    have ih := wiR_ins r L (fun y hy => h y (List.mem_cons_of_mem _ hy))
    unfold wiR
    unfold insR at ih ⊢
    rw [List.takeWhile_cons, List.dropWhile_cons]
    by_cases hc : Ord.cmpB r.id x.id < 0
    · have : ltR r x = false := by unfold ltR; simp; omega
      rw [if_pos hc, this]; rfl
    · have : ltR r x = true := by unfold ltR; simp; omega
      rw [if_neg hc, this, ih]; rfl
theorem wiR_set (r : RC) : ∀ L : List RC, L.Pairwise (fun a b => Ord.cmpB a.id b.id < 0) → r.id ∈ idsR L → wiR r (L.filter fun w => decide (w.id ≠ r.id)) = L.map (repR r)
  | [], _, h => by simp [idsR] at h
  | x :: L, hp, hm => by
    rw [List.pairwise_cons] at hp
    by_cases hx : x.id = r.id
    · have hne : ∀ y ∈ L, y.id ≠ r.id := fun y hy e => by
        have := hp.1 y hy
        rw [hx, e, (Ord.cmp_zero _ _).2 rfl] at this
        omega
      have hf : (x :: L).filter (fun w => decide (w.id ≠ r.id)) = L := by
        rw [List.filter_cons, decide_eq_false (by simpa using hx), if_neg (by decide)]
        exact List.filter_eq_self.2 (fun y hy => by simpa using hne y hy)
      have hmm : L.map (repR r) = L := by
        conv => rhs; rw [← List.map_id L]
        refine List.map_congr_left fun y hy => ?_
        unfold repR
        rw [if_neg (hne y hy)]; rfl
      rw [hf, List.map_cons, hmm]
      unfold repR
      rw [if_pos hx]
      cases L with
      | nil => rfl
      | cons y L =>
        have := hp.1 y (List.mem_cons_self ..)
        rw [hx] at this
        show (if Ord.cmpB r.id y.id < 0 then _ else _) = _
        rw [if_pos this]
    · have hm2 : r.id ∈ idsR L := by
        obtain ⟨y, hy, e⟩ := (idsR_mem _ _).1 hm
        rcases List.mem_cons.1 hy with rfl | hy
        · exact absurd e hx
        · exact (idsR_mem _ _).2 ⟨y, hy, e⟩
      have hlt : ¬ Ord.cmpB r.id x.id < 0 := by
        obtain ⟨y, hy, e⟩ := (idsR_mem _ _).1 hm2
        have := hp.1 y hy
        rw [e] at this
        have := Ord.cmp_swap x.id r.id
        omega
      have ih := wiR_set r L hp.2 hm2
      rw [List.filter_cons, decide_eq_true (by simpa using hx), if_pos rfl, List.map_cons]
      show (if Ord.cmpB r.id x.id < 0 then _ else _) = _
      rw [if_neg hlt, ih]
      unfold repR
      rw [if_neg hx]
theorem up_pw {L : List RC} (h : Ord.chE (idsR L) = 0) : L.Pairwise (fun a b => Ord.cmpB a.id b.id < 0) := by
  refine List.pairwise_iff_getElem.2 fun i j hi hj hij => ?_
  have := Ord.rises_mono (Ord.chOk h).2 hij (by rw [idsR_len]; exact hj)
  rw [idsR_nth _ _ hi, idsR_nth _ _ hj] at this
  exact this
theorem putT_w {T : TM} {r : RC} (hm : ¬ r.id ∈ idsR T.rows) : insR T.rows r = wiR r T.rows := (wiR_ins r T.rows (fun x hx e => hm ((idsR_mem _ _).2 ⟨x, hx, e⟩))).symm
end Go.Proofs.YtfigebepeniikaaGreat
