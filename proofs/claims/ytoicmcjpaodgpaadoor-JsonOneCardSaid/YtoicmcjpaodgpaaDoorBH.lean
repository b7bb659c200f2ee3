/- Layer 4: JsonBack, the walk. -/
import Derived.Test.YtoicmcjpaodgpaaDoorBG
import Derived.Test.YtoicmcjpaodgpaaDoorAY
namespace Go.Proofs.YtoicmcjpaodgpaaDoor
open Go.RowKit Go.Maps
theorem smk_of {g : Nat → CR} {n : Nat} (hn : n ≤ maxLen) (hgr : grP g n 200 = false) (hk : ∀ i, i < n → (g i).k < 256 ∧ -9223372036854775808 ≤ (g i).m ∧ (g i).m ≤ 9223372036854775807) (hnn : ∀ i, i < n → i64ok (g i).n) : SmK g n := by
  obtain ⟨h1, h2⟩ := gr_small hgr
  exact ⟨fun i hi => Nat.le_trans (h2 i hi).1 (by decide), fun i hi => (h2 i hi).2, hnn, ⟨fun i hi => ⟨(hk i hi).1, Nat.le_trans (h2 i hi).1 (by decide), Nat.le_trans (h2 i hi).2 (by decide), (hk i hi).2⟩, fun i hi => Nat.le_trans (h2 i hi).1 (by decide), hn⟩⟩
theorem ckC_em {g : Nat → CR} {n : Nat} (h : plnB g n = true) : em (g 0).nm = true := by
  have h1 : ∀ i, i < n → enB (g i) = false := (pln_parts h).1
  have h2 := pln_yes h1
  rw [h] at h2
  unfold ckC at h2
  simp only [Bool.true_eq, Bool.and_eq_true] at h2
  exact h2.1.2
/-- What is written is read as those cells. -/
theorem rt_ok {g : Nat → CR} {n : Nat} {b : ByteArray} (hp : plnB g n = true) (hnn : ∀ i, i < n → i64ok (g i).n) (hb : ∀ c ∈ bI b, isBl c = true) (hsz : (b ++ jtx g n n 0 ++ b).size ≤ 16384) (hg : gl (cut g 0 n) = g) : okM (readM (b ++ jtx g n n 0 ++ b)) g n = true := by
  obtain ⟨h1, h2, h3, h4⟩ := pln_parts hp
  rw [rt_read ⟨h1, hnn⟩ h3 h4 (ckC_em hp) hb hsz]
  show smB (gl (cut g 0 n)) (cut g 0 n).length g n = true
  rw [hg, cut_len, Nat.sub_zero]
  exact sm_yes fun _ _ => rfl
theorem app_nil2 (t : ByteArray) : (⟨#[]⟩ : ByteArray) ++ t ++ ⟨#[]⟩ = t := by
  apply ByteArray.ext
  simp
theorem bl_all {b : ByteArray} (h : ∀ i, i < b.size → isBl (byt b i) = true) : ∀ c ∈ bI b, isBl c = true := fun c hc => by
  obtain ⟨i, hi, rfl⟩ := List.mem_iff_getElem.1 hc
  have hi' : i < b.size := by rw [bI_len] at hi; exact hi
  have e := bI_at b i hi'
  rw [List.getElem?_eq_getElem hi] at e
  rw [Option.some.inj e]
  exact h i hi'
set_option maxRecDepth 20000 in
set_option maxHeartbeats 4000000 in
theorem back_walk (a : Option Addr) (n cap : Nat) (g : Nat → CR) (bk : ByteArray) (w : World) (hj : JF w) (hg : gl (cut g 0 n) = g) (hv : CV w a n g) (hn : n ≤ maxLen) (hk : ∀ i, i < n → (g i).k < 256 ∧ -9223372036854775808 ≤ (g i).m ∧ (g i).m ≤ 9223372036854775807) (hnn : ∀ i, i < n → i64ok (g i).n) : Calls Tryd.prog 5 #[.slice a n cap, .string bk] w fun e w' => e = .returned (.bool true) ∧ Below w.heap.size w w' := by
  have HA := Lib.hid (alive_any w hj)
  have HG := Lib.hid (fun W (b : Below w.heap.size w W) => great_any a n cap 200 200 rfl g W (hv.below b) hn (by decide))
  cases hgr : grP g n 200 with
  | true =>
    rw [hgr] at HG
    clear hgr hj hg hv hn hk hnn
    go_enter Tryd.func5, Tryd.ntmps5
    go_wp2_with fail
    refine HA.out.mono ?_
    rintro e w1 ⟨rfl, b1⟩
    have B1 := Lib.hid b1
    clear b1
    go_wp2_with fail
    refine (HG.out _ B1.out).mono ?_
    rintro e w2 ⟨rfl, hw2⟩
    obtain rfl := hw2.symm
    go_wp2_with fail
    go_ret
    exact ⟨rfl, B1.out⟩
  | false =>
    have hs := smk_of hn hgr hk hnn
    rw [hgr] at HG
    have HJ := Lib.hid (fun W (b : Below w.heap.size w W) => jWrite_any W (hj.up b).tab a n cap g hs (hv.below b))
    have HPL := Lib.hid (fun W (b : Below w.heap.size w W) => plain_any a n cap g W (hv.below b) hs.sm)
    have HRD := Lib.hid (fun s (h : s.size ≤ maxLen) W (b : Below w.heap.size w W) => reads_any s a n cap g W (hj.up b) h (hv.below b) hn)
    have HOK := Lib.hid (fun (hp : plnB g n = true) b hb hsz => rt_ok (b := b) hp hnn hb hsz hg)
    clear hgr hj hg hv hn hk hnn hs
    by_cases hbk : (100 : Int) < bk.size
    · go_enter Tryd.func5, Tryd.ntmps5
      go_wp2_with fail
      refine HA.out.mono ?_
      rintro e w1 ⟨rfl, b1⟩
      have B1 := Lib.hid b1
      clear b1
      go_wp2_with fail
      refine (HG.out _ B1.out).mono ?_
      rintro e w2 ⟨rfl, hw2⟩
      obtain rfl := hw2.symm
      go_wp2_with fail
      go_ret
      exact ⟨rfl, B1.out⟩
    cases hp : plnB g n with
    | false =>
      rw [hp] at HPL
      have hT : jwT g n = ⟨#[]⟩ := by unfold jwT; rw [hp]; rfl
      have hE : jwE g n = 8 := by unfold jwE; rw [hp]; rfl
      rw [hT, hE] at HJ
      clear hT hE hp HRD HOK
      go_enter Tryd.func5, Tryd.ntmps5
      go_wp2_with fail
      refine HA.out.mono ?_
      rintro e w1 ⟨rfl, b1⟩
      have B1 := Lib.hid b1
      clear b1
      go_wp2_with fail
      refine (HG.out _ B1.out).mono ?_
      rintro e w2 ⟨rfl, hw2⟩
      obtain rfl := hw2.symm
      go_wp2_with fail
      refine (HJ.out _ B1.out).mono ?_
      rintro e w3 ⟨rfl, b3⟩
      have B3 := Lib.hid (B1.out.trans (b3.mono B1.out.size))
      clear b3
      go_wp2_with fail
      refine (HPL.out _ B3.out).mono ?_
      rintro e w4 ⟨rfl, b4⟩
      have B4 := Lib.hid (B3.out.trans (b4.mono B3.out.size))
      clear b4
      go_wp2_with fail
      go_ret
      exact ⟨rfl, B4.out⟩
    | true =>
      have hT : jwT g n = jtx g n n 0 := by unfold jwT; rw [hp]; rfl
      have hE : jwE g n = 0 := by unfold jwE; rw [hp]; rfl
      rw [hT, hE] at HJ
      have HOK2 := Lib.hid (HOK.out hp)
      obtain ⟨T, hTT⟩ : ∃ T, T = jtx g n n 0 := ⟨_, rfl⟩
      rw [← hTT] at HJ HOK2
      clear hT hE hp HOK HPL hTT
      by_cases h16 : (16000 : Int) < T.size
      · go_enter Tryd.func5, Tryd.ntmps5
        go_wp2_with fail
        refine HA.out.mono ?_
        rintro e w1 ⟨rfl, b1⟩
        have B1 := Lib.hid b1
        clear b1
        go_wp2_with fail
        refine (HG.out _ B1.out).mono ?_
        rintro e w2 ⟨rfl, hw2⟩
        obtain rfl := hw2.symm
        go_wp2_with fail
        refine (HJ.out _ B1.out).mono ?_
        rintro e w3 ⟨rfl, b3⟩
        have B3 := Lib.hid (B1.out.trans (b3.mono B1.out.size))
        clear b3
        go_wp2_with fail
        go_ret
        exact ⟨rfl, B3.out⟩
      · have HO1 : Hid (okM (readM T) g n = true) := Lib.hid (by
          have h := HOK2.out ⟨#[]⟩ (by intro c hc; cases hc) (by rw [app_nil2]; omega)
          rwa [app_nil2] at h)
        have HR1 := Lib.hid (HRD.out T (by unfold maxLen; omega))
        rw [HO1.out] at HR1
        have hl1 : ¬ 9223372036854775807 < bk.size + T.size := by omega
        have hl2 : ¬ 9223372036854775807 < bk.size + T.size + bk.size := by omega
        have HR2 : Hid ((∀ i, i < bk.size → isBl (byt bk i) = true) → ∀ W, Below w.heap.size w W → Calls Tryd.prog 18 #[.string (bk ++ T ++ bk), .slice a n cap] W fun e w' => e = .returned (.bool true) ∧ Below W.heap.size W w') := Lib.hid (fun hb W b => by
          have hsz : (bk ++ T ++ bk).size ≤ 16384 := by rw [app_size, app_size]; omega
          have h := HRD.out (bk ++ T ++ bk) (by unfold maxLen; omega) W b
          rw [HOK2.out bk (bl_all hb) hsz] at h
          exact h)
        clear HOK2 HO1 HRD
        go_enter Tryd.func5, Tryd.ntmps5
        go_wp2_with fail
        refine HA.out.mono ?_
        rintro e w1 ⟨rfl, b1⟩
        have B1 := Lib.hid b1
        clear b1
        go_wp2_with fail
        refine (HG.out _ B1.out).mono ?_
        rintro e w2 ⟨rfl, hw2⟩
        obtain rfl := hw2.symm
        go_wp2_with fail
        refine (HJ.out _ B1.out).mono ?_
        rintro e w3 ⟨rfl, b3⟩
        have B3 := Lib.hid (B1.out.trans (b3.mono B1.out.size))
        clear b3
        go_wp2_with fail
        go_loopw [8] (fun v8 wr => ∃ i : Nat, v8 = .int .i64 i ∧ i ≤ bk.size ∧ Hid (∀ j, j < i → isBl (byt bk j) = true) ∧ wr = w3) (fun v8 _ => bk.size - (intOf v8).toNat)
        case atStart => exact ⟨0, rfl, Nat.zero_le _, Lib.hid (fun j h => absurd h (Nat.not_lt_zero j)), rfl⟩
        case round =>
          obtain ⟨i, rfl, hi, HB, rfl⟩ := hrel
          by_cases hlt : i < bk.size
          · have hlt' : (i : Int) < bk.size := by omega
            have hi0 : (0 : Int) ≤ i := by omega
            have hbe := byt_eq bk i hlt
            cases hbl : isBl (byt bk i) with
            | true =>
              have HB2 : Hid (∀ j, j < i + 1 → isBl (byt bk j) = true) := Lib.hid (fun j hj => by
                by_cases e : j = i
                · rw [e]; exact hbl
                · exact HB.out j (by omega))
              rw [← hbe] at hbl
              unfold isBl at hbl
              simp only [Bool.or_eq_true, decide_eq_true_eq] at hbl
              clear hbe
              rcases hbl with ((hx | hx) | hx) | hx
              all_goals
                go_wp2_with fail
                go_roundw
                case rel => exact ⟨i + 1, by go_num, by omega, HB2, by first | rfl | trivial⟩
                case measure => simp [intOf]; omega
            | false =>
              rw [← hbe] at hbl
              unfold isBl at hbl
              simp only [Bool.or_eq_false_iff, decide_eq_false_iff_not] at hbl
              obtain ⟨⟨⟨x1, x2⟩, x3⟩, x4⟩ := hbl
              have y1 : ((bk[i].toNat : Int) != 32) = true := by simp only [bne, beq_eq_false_iff_ne.2 x1]; rfl
              have y2 : ((bk[i].toNat : Int) != 9) = true := by simp only [bne, beq_eq_false_iff_ne.2 x2]; rfl
              have y3 : ((bk[i].toNat : Int) != 10) = true := by simp only [bne, beq_eq_false_iff_ne.2 x3]; rfl
              have y4 : ((bk[i].toNat : Int) != 13) = true := by simp only [bne, beq_eq_false_iff_ne.2 x4]; rfl
              clear hbe x1 x2 x3 x4
              go_wp2_with fail
              refine (HR1.out _ B3.out).mono ?_
              rintro e w5 ⟨rfl, b5⟩
              have B5 := Lib.hid (B3.out.trans (b5.mono B3.out.size))
              clear b5
              go_wp2_with fail
              go_ret
              exact ⟨rfl, B5.out⟩
          · obtain rfl : i = bk.size := by omega
            have HR3 := Lib.hid (HR2.out HB.out)
            have hz : ¬ ((bk.size : Int) < bk.size) := by omega
            go_wp2_with fail
            refine (HR3.out _ B3.out).mono ?_
            rintro e w5 ⟨rfl, b5⟩
            have B5 := Lib.hid (B3.out.trans (b5.mono B3.out.size))
            clear b5
            go_wp2_with fail
            go_ret
            exact ⟨rfl, B5.out⟩
end Go.Proofs.YtoicmcjpaodgpaaDoor
