import Derived.Test.YtiikohbnfbpjeaaDoorM17
import Derived.Test.YtiikohbnfbpjeaaDoorMX
import Derived.Test.YtiikohbnfbpjeaaDoorMY
namespace Go.Proofs.YtiikohbnfbpjeaaDoor
open Go.RowKit
/-- Where 'Made' stands. -/
def MD (w : World) (u : Int) (j : Nat) (f : Nat) (s0 s1 : Value) (W : World) : Prop := ∃ V : Int, norm V f = (u, j) ∧ s0 = .int .i64 V ∧ s1 = .int .i64 f ∧ (in64 V = true ∧ f ≤ 18) ∧ PA w W
set_option maxRecDepth 20000 in
theorem made_any (v : Int) (k : Nat) (w : World) (hv : in64 v = true) (hk : k ≤ 18) :
    Calls Tryd.prog 39 #[.int .i64 v, .int .i64 k] w fun e w' => e = .returned (.agg #[.int .i64 (norm v k).1, .int .i64 ((norm v k).2 : Nat)]) ∧ Below w.heap.size w w' := by
  obtain ⟨u, hu⟩ : ∃ u, u = (norm v k).1 := ⟨_, rfl⟩
  obtain ⟨j, hj⟩ : ∃ j, j = (norm v k).2 := ⟨_, rfl⟩
  have HN : Hid (norm v k = (u, j)) := Lib.hid (by rw [hu, hj])
  rw [← hu, ← hj]
  have HV := Lib.hid hv
  have HK := Lib.hid hk
  have P0 := Lib.hid (PA.new w)
  clear hu hj hv hk
  go_enter Tryd.func39, Tryd.ntmps39
  go_wp2_with fail
  obtain ⟨w0, hw0⟩ : ∃ w0, w0 = w.alloc (.cells #[.int .i64 0, .int .i64 0] 26) := ⟨_, rfl⟩
  rw [← hw0] at P0 ⊢
  clear hw0
  go_loopg [0, 1] k (fun f s0 s1 wr => MD w u j f s0 s1 wr)
  case atStart => exact ⟨v, HN.out, rfl, rfl, ⟨HV.out, HK.out⟩, P0.out⟩
  case round =>
    obtain ⟨V, hn, rfl, rfl, ⟨hv, hf18⟩, hpa⟩ := hrel
    have HNN := Lib.hid hn
    have HV := Lib.hid hv
    have HPA := Lib.hid hpa
    clear hn hpa hv
    obtain ⟨⟨⟨d0, d1, -⟩, g0, g1⟩, -⟩ := HPA.out
    cases gk with
    | zero =>
      have HZ := Lib.hid (Prod.mk.inj HNN.out)
      have P8 := Lib.hid (HPA.out.set V 0)
      clear hf18
      go_wp2_with fail
      refine ret_m (N := w.heap.size) (a := V) (b := 0) Tryd.results39 (by rfl) P8.out.1.1.1 P8.out.1.1.2.1 ⟨?_, P8.out.2⟩
      rw [← HZ.out.1, ← HZ.out.2]
      rfl
    | succ g =>
      have hg : (g : Int) ≤ 18 := by omega
      have HG18 := Lib.hid hf18
      clear hf18
      have HT := Lib.hid (tmod_emod V)
      obtain ⟨x, hx⟩ : ∃ x, V.tmod 10 = x := ⟨_, rfl⟩
      obtain ⟨y, hy⟩ : ∃ y, V.tdiv 10 = y := ⟨_, rfl⟩
      by_cases h0 : x = 0
      · have HM0 : Hid (V % 10 = 0) := Lib.hid (HT.out.1 (hx.trans h0))
        have HY : Hid (y = V / 10) := Lib.hid (by rw [← hy]; exact Int.tdiv_eq_ediv_of_dvd (Int.dvd_of_emod_eq_zero HM0.out))
        have hy1 : -9223372036854775808 ≤ y ∧ y ≤ 9223372036854775807 := by
          have := (in64_iff _).1 HV.out
          have := HY.out
          have := HM0.out
          omega
        obtain ⟨hy2, hy3⟩ := hy1
        subst h0
        have HMV := Lib.hid (norm_more V g HM0.out)
        go_wp2_with fail
        go_roundg g
        case rel =>
          refine ⟨y, ?_, rfl, by go_num, ⟨?_, ?_⟩, HPA.out⟩
          · have := HNN.out
            rw [HMV.out] at this
            rw [HY.out]; exact this
          · rw [in64_iff]; omega
          · have := HG18.out; omega
        case measure => omega
      · have e5 : (x == 0) = false := beq_eq_false_iff_ne.2 h0
        have HMS := Lib.hid (norm_stop V g (fun q => h0 (hx.symm.trans (HT.out.2 q))))
        clear h0
        have HZ : Hid (V = u ∧ g + 1 = j) := Lib.hid (by have := HNN.out; rw [HMS.out] at this; exact Prod.mk.inj this)
        have P8 := Lib.hid (HPA.out.set V ((g : Int) + 1))
        go_wp2_with fail
        refine ret_m (N := w.heap.size) (a := V) (b := (g : Int) + 1) Tryd.results39 (by rfl) P8.out.1.1.1 P8.out.1.1.2.1 ⟨?_, P8.out.2⟩
        rw [← HZ.out.1, ← HZ.out.2]
        rfl
theorem fp_drop (l : List UInt8) (k : Nat) (h : k < l.length) : fp (l.drop k) = if l[k] = 46 then 0 else fp (l.drop (k + 1)) + 1 := by
  rw [List.drop_eq_getElem_cons h]; rfl
theorem digs_allD (c : ByteArray) : (allD c c.size && decide (0 < c.size)) = areDi c.data.toList := by
  have e : allD c c.size = digs c.data.toList := by rw [← allL_digs]; rfl
  rw [e]
  unfold areDi
  rw [empty_size]
  congr 1
  by_cases h : c.size = 0 <;> simp [h]; omega
theorem stz_le : ∀ l : List UInt8, (stz l).length ≤ l.length
  | [] => Nat.le_refl _
  | [_] => Nat.le_refl _
  | c :: d :: l => by
    by_cases h : c = 48
    · rw [stz_more c d l h]; exact Nat.le_succ_of_le (stz_le (d :: l))
    · rw [stz_stop c d l h]; exact Nat.le_refl _
/-- Where the search for the point stands. -/
def SP (l : List UInt8) (s4 s5 : Value) : Prop := ∃ k : Nat, k ≤ l.length ∧ s5 = .int .i64 ((k : Int) - 1) ∧ s4 = .int .i64 ((k + fp (l.drop k) : Nat) : Int)
/-- Where the loop that takes noughts off stands. -/
def SZ (R : List UInt8) (s8 : Value) : Prop := ∃ y : ByteArray, s8 = .string y ∧ stz y.data.toList = R ∧ y.size ≤ 4294967281
/-- The size of a text in a slot. -/
def szOf : Value → Nat
  | .string s => s.size
  | _ => 0
set_option maxRecDepth 20000 in
set_option maxHeartbeats 4000000 in
theorem rparse_any (s : ByteArray) (w : World) (hs : s.size < 4294967281) :
    Calls Tryd.prog 18 #[.string s] w fun e w' => e = .returned (.tuple #[.agg #[.int .i64 (pM s.data.toList), .int .i64 (pS s.data.toList)], .int .i64 (pE s.data.toList)]) ∧ Below w.heap.size w w' := by
  obtain ⟨l, hl⟩ : ∃ l, l = s.data.toList := ⟨_, rfl⟩
  have hz : s.size = l.length := by rw [hl]; rfl
  have HL := Lib.hid hl
  have HZL := Lib.hid hz
  have hfl : fp l ≤ l.length := by
    rcases rp_parts l with h | h
    · omega
    · omega
  obtain ⟨P, hP⟩ : ∃ P, P = fp l := ⟨_, rfl⟩
  have HP := Lib.hid hP
  have hPs : P ≤ s.size := by omega
  rw [← hl]
  obtain ⟨r1, hr1⟩ : ∃ r, r = pM l := ⟨_, rfl⟩
  obtain ⟨r2, hr2⟩ : ∃ r, r = pS l := ⟨_, rfl⟩
  obtain ⟨r3, hr3⟩ : ∃ r, r = pE l := ⟨_, rfl⟩
  rw [← hr1, ← hr2, ← hr3]
  have HR1 := Lib.hid hr1
  have HR2 := Lib.hid hr2
  have HR3 := Lib.hid hr3
  have P0 := Lib.hid (PA.new w)
  have HLEN0 : Hid (fp (l.drop l.length) = 0) := Lib.hid (by rw [List.drop_length]; rfl)
  clear hl hz hfl hP hr1 hr2 hr3
  go_enter Tryd.func18, Tryd.ntmps18
  go_wp2_with fail
  obtain ⟨w0, hw0⟩ : ∃ w0, w0 = w.alloc (.cells #[.int .i64 0, .int .i64 0] 26) := ⟨_, rfl⟩
  rw [← hw0] at P0 ⊢
  clear hw0
  go_wp2_with fail
  go_loop [4, 5] (fun s4 s5 => SP l s4 s5) (fun _ s5 => (intOf s5 + 1).toNat)
  case atStart => exact ⟨l.length, Nat.le_refl _, by rw [HZL.out], by rw [HLEN0.out, HZL.out]; rfl⟩
  case round =>
    obtain ⟨k, hk, rfl, rfl⟩ := hrel
    cases k with
    | succ g =>
      have hg : g < s.size := by have := HZL.out; omega
      have hg' : g < l.length := hk
      have HF := Lib.hid (fp_drop l g hg')
      have HGL : Hid (l[g] = s[g]) := Lib.hid (by have := HL.out; subst this; rfl)
      obtain ⟨x, hx⟩ : ∃ x : Int, (s[g].toNat : Int) = x := ⟨_, rfl⟩
      have hgb : (g : Int) < s.size := by omega
      obtain ⟨q, hq⟩ : ∃ q : Nat, q = fp (l.drop (g + 1)) := ⟨_, rfl⟩
      have HQ := Lib.hid hq
      rw [← hq]
      have eg : ((g + 1 : Nat) : Int) - 1 = (g : Int) := by omega
      rw [eg]
      clear hq eg hk
      by_cases h46 : x = 46
      · have HC : Hid (s[g] = 46) := Lib.hid (UInt8.toNat_inj.1 (by have h46' : (46 : UInt8).toNat = 46 := rfl; omega))
        subst h46
        go_wp2_with fail
        go_round
        case rel => exact ⟨g, by omega, rfl, by rw [HF.out, HGL.out, if_pos HC.out]; rfl⟩
        case measure => simp [intOf]
      · have HC : Hid (¬ (s[g] = 46)) := Lib.hid (fun h => h46 (by rw [← hx, h]; rfl))
        have g46 : (x == 46) = false := beq_eq_false_iff_ne.2 h46
        clear h46
        go_wp2_with fail
        go_round
        case rel => exact ⟨g, by omega, rfl, by rw [HF.out, HGL.out, if_neg HC.out, ← HQ.out, show g + 1 + q = g + (q + 1) by omega]⟩
        case measure => simp [intOf]
    | zero =>
      have HP0 : Hid ((0 + fp (l.drop 0) : Nat) = P) := Lib.hid (by rw [HP.out]; simp)
      rw [HP0.out]
      clear hk
      -- what stands in the parts
      have hh : (s.extract 0 P).data.toList = sgL (pNeg l) ++ pA l := by
        rw [Lib.extract_data, ← HL.out, HP.out]
        rcases rp_parts l with ⟨-, g1, g2, -⟩ | ⟨-, -, g2, -, -⟩
        · rw [g1]
          simp only [List.drop_zero, Nat.sub_zero, List.take_length]
          exact g2
        · simpa using g2
      obtain ⟨h, hhe⟩ : ∃ h, h = s.extract 0 P := ⟨_, rfl⟩
      rw [← hhe] at hh
      have HH := Lib.hid hh
      have HHE := Lib.hid hhe
      have hhz : h.size ≤ s.size := by rw [hhe]; simp; omega
      have hmk : h = ⟨(sgL (pNeg l) ++ pA l).toArray⟩ := Go.WideShapes.bytes_inj (by rw [hh])
      have RD := Lib.hid (fun W => rread_any h W (by unfold maxLen; omega))
      obtain ⟨e1, he1⟩ : ∃ e, e = rdV h := ⟨_, rfl⟩
      obtain ⟨E, hE⟩ : ∃ e, e = rdE h := ⟨_, rfl⟩
      rw [← he1, ← hE] at RD
      have HE : Hid (E = 21 ↔ okA (pA l) = false) := Lib.hid (by rw [hE, hmk]; exact rdE_A l)
      have HZ0 := Lib.hid hhz
      clear hh hhe hmk he1 hE
      go_wp2_with fail
      rw [← HHE.out]
      refine (RD.out _).mono ?_
      rintro e w1 ⟨rfl, q⟩
      have P1 := Lib.hid (P0.out.up q)
      clear q
      -- behind the point
      obtain ⟨c, hc⟩ : ∃ c, c = s.extract (P + 1) s.size := ⟨_, rfl⟩
      have HC := Lib.hid hc
      have hcz : c.size ≤ s.size := by rw [hc]; simp
      have hcl : pPt l = true → c.data.toList = pB l ∧ s.size - P - 1 = (pB l).length ∧ P < s.size := fun hp => by
        rcases rp_parts l with ⟨g, -, -, -⟩ | ⟨-, g1, -, g3, g4⟩
        · rw [g] at hp; cases hp
        · refine ⟨?_, by rw [HZL.out, HP.out]; exact g4, by rw [HZL.out, HP.out]; exact g1⟩
          rw [hc, Lib.extract_data, ← HL.out, HP.out, List.take_of_length_le (by rw [List.length_drop, HZL.out]; omega)]
          exact g3
      have hcn : pPt l = false → P = s.size ∧ pB l = [] := fun hp => by
        rcases rp_parts l with ⟨-, g1, -, g4⟩ | ⟨g, -, -, -, -⟩
        · exact ⟨by rw [HZL.out, HP.out]; exact g1, g4⟩
        · rw [g] at hp; cases hp
      have HCL := Lib.hid hcl
      have HCN := Lib.hid hcn
      have DC := Lib.hid (fun W => rdigits_any c W (by unfold maxLen; omega))
      rw [digs_allD] at DC
      have hOK : pOk l = (okA (pA l) && (!(pPt l) || (areDi (pB l) && decide ((pB l).length ≤ 18)))) := rfl
      have HOK := Lib.hid hOK
      obtain ⟨pt, hpt⟩ : ∃ b, b = pPt l := ⟨_, rfl⟩
      have HPT := Lib.hid hpt
      clear hc hcl hcn hOK hpt
      go_upto_region 8 with fail
      go_cut [57] (fun v wx => v = .bool (!pOk l) ∧ PA w wx)
      case first =>
        cases hA : okA (pA l) with
        | false =>
          have hE := HE.out.2 hA
          have HF : Hid (pOk l = false) := Lib.hid (by rw [HOK.out, hA]; rfl)
          subst hE
          clear hA
          go_wp2_with fail
          go_meet
          exact ⟨by rw [HF.out]; rfl, P1.out⟩
        | true =>
          have hE : (E == 21) = false := beq_eq_false_iff_ne.2 (fun h => by rw [HE.out.1 h] at hA; cases hA)
          have HA := Lib.hid hA
          clear hA
          cases pt with
          | false =>
            have HF : Hid (pOk l = true) := Lib.hid (by rw [HOK.out, HA.out, ← HPT.out]; rfl)
            have hP := (HCN.out HPT.out.symm).1
            have q1 : decide ((P : Int) < s.size) = false := decide_eq_false (by omega)
            have q2 : decide (P < s.size) = false := decide_eq_false (by omega)
            clear hP
            go_wp2_with fail
            go_meet
            exact ⟨by rw [HF.out]; rfl, P1.out⟩
          | true =>
            obtain ⟨k1, k2, k3⟩ := HCL.out HPT.out.symm
            rw [k1] at DC
            have hk3 : (P : Int) < s.size := by omega
            obtain ⟨vC, hvC⟩ : ∃ v, v = areDi (pB l) := ⟨_, rfl⟩
            rw [← hvC] at DC
            have HVC := Lib.hid hvC
            have HK2 := Lib.hid k2
            clear hvC k1
            go_wp2_with fail
            rw [← HC.out]
            refine (DC.out _).mono ?_
            rintro e w2 ⟨rfl, rfl⟩
            cases vC with
            | false =>
              have HF : Hid (pOk l = false) := Lib.hid (by rw [HOK.out, HA.out, ← HVC.out, ← HPT.out]; rfl)
              clear k2
              go_wp2_with fail
              go_meet
              exact ⟨by rw [HF.out]; rfl, P1.out⟩
            | true =>
              by_cases h18 : (pB l).length ≤ 18
              · have HF : Hid (pOk l = true) := Lib.hid (by rw [HOK.out, HA.out, ← HVC.out, ← HPT.out, decide_eq_true h18]; rfl)
                have q18 : decide (18 < (s.size : Int) - P - 1) = false := decide_eq_false (by omega)
                clear k2 h18
                go_wp2_with fail
                go_meet
                exact ⟨by rw [HF.out]; rfl, P1.out⟩
              · have HF : Hid (pOk l = false) := Lib.hid (by rw [HOK.out, HA.out, ← HVC.out, ← HPT.out, decide_eq_false h18]; rfl)
                have q18 : 18 < (s.size : Int) - P - 1 := by omega
                clear k2 h18
                go_wp2_with fail
                go_meet
                exact ⟨by rw [HF.out]; rfl, P1.out⟩
      case rest =>
        obtain ⟨rfl, hpa⟩ := hcut
        have P3 := Lib.hid hpa
        clear hpa
        cases hok : pOk l with
        | false =>
          have HF := Lib.hid (p_bad (l := l) (by unfold pGood; rw [hok]; rfl))
          clear hok
          obtain ⟨⟨⟨c0, c1, -⟩, f0, f1⟩, -⟩ := P3.out
          have P4 := Lib.hid (P3.out.set 0 0)
          go_wp2_with fail
          refine ret_mt (N := w.heap.size) (a := 0) (b := 0) (v := .int .i64 140) Tryd.results18 (by rfl) (by rfl) P4.out.1.1.1 P4.out.1.1.2.1 ⟨?_, P4.out.2⟩
          rw [HR1.out, HR2.out, HR3.out, HF.out.1, HF.out.2.1, HF.out.2.2]
        | true =>
          have HOK2 := Lib.hid hok
          have hparts := pOk_parts hok
          obtain ⟨g1, g2, g3, g4⟩ := hparts
          have HG1 := Lib.hid g1
          have hdab : digs (pA l ++ pB l) = true := by rw [digs_app, g1, g3]; rfl
          obtain ⟨a, ha⟩ : ∃ a : ByteArray, a = ⟨(pA l).toArray⟩ := ⟨_, rfl⟩
          obtain ⟨b, hb⟩ : ∃ b, b = pNeg l := ⟨_, rfl⟩
          obtain ⟨R, hRR⟩ : ∃ R, R = stz (pA l ++ pB l) := ⟨_, rfl⟩
          obtain ⟨n, hn⟩ : ∃ n, n = (pB l).length := ⟨_, rfl⟩
          have hpos : 0 < h.size := by
            have : h.data.toList.length = h.size := rfl
            rw [HH.out, List.length_append] at this
            have := List.length_pos_iff.2 g2
            omega
          have haz : a.size ≤ h.size := by
            have : h.data.toList.length = h.size := rfl
            rw [HH.out, List.length_append] at this
            rw [ha, mk_size]; omega
          have hst := stz_read l hok
          rw [← hRR, ← hb] at hst
          have HST := Lib.hid hst
          have HAL : Hid (a.data.toList = pA l) := Lib.hid (by rw [ha])
          have HB := Lib.hid hb
          have HRR := Lib.hid hRR
          have HN := Lib.hid hn
          have HN18 : Hid (n ≤ 18) := Lib.hid (by rw [hn]; exact g4)
          have HB1 : Hid (b = true → (h[0] : UInt8).toNat = 45 ∧ h.extract 1 h.size = a) := Lib.hid (fun hb1 => by
            have hl45 : h.data.toList = 45 :: pA l := by rw [HH.out, ← hb, hb1]; rfl
            have h0 := first_byte h hpos
            rw [hl45] at h0
            simp only [List.head?_cons, Option.some.injEq] at h0
            refine ⟨by rw [← h0]; rfl, Go.WideShapes.bytes_inj ?_⟩
            rw [HAL.out, Lib.extract_data, hl45]
            have hsz : h.size = (pA l).length + 1 := by
              have : h.data.toList.length = h.size := rfl
              rw [hl45] at this; simp at this; omega
            rw [hsz]
            simp)
          have HB0 : Hid (b = false → h = a ∧ ((h[0] : UInt8).toNat : Int) ≠ 45) := Lib.hid (fun hb1 => by
            have hl : h.data.toList = pA l := by rw [HH.out, ← hb, hb1]; rfl
            have h0 := first_byte h hpos
            rw [hl] at h0
            refine ⟨Go.WideShapes.bytes_inj (by rw [hl, HAL.out]), fun q => ?_⟩
            cases hA : pA l with
            | nil => exact g2 hA
            | cons x r =>
              rw [hA] at h0 g1
              simp only [List.head?_cons, Option.some.injEq] at h0
              subst h0
              unfold digs at g1
              rw [List.all_cons] at g1
              simp only [Bool.and_eq_true] at g1
              have := g1.1
              unfold isD at this
              simp at this
              omega)
          obtain ⟨x, hx⟩ : ∃ x : Int, (h[0].toNat : Int) = x := ⟨_, rfl⟩
          have ix : ∀ q : 0 < h.size, (h[0].toNat : Int) = x := fun _ => hx
          have HX := Lib.hid hx
          clear hok g1 g2 g3 g4 ha hb hRR hn hst
          go_upto_region 10 with fail
          go_cut [8, 9] (fun s8 s9 wx => s8 = .string h ∧ s9 = .bool false ∧ PA w wx)
          case first =>
            go_wp2_with fail
            go_meet
            exact ⟨by rw [HHE.out], rfl, P3.out⟩
          case rest =>
            obtain ⟨rfl, rfl, hpa⟩ := hcut
            have P4 := Lib.hid hpa
            clear hpa P3
            go_upto_if 64 with fail
            go_cut [8, 9] (fun s8 s9 wx => s8 = .string a ∧ s9 = .bool b ∧ PA w wx)
            case first =>
              cases b with
              | true =>
                obtain ⟨k1, k2⟩ := HB1.out rfl
                have HK2 := Lib.hid k2
                obtain rfl : x = 45 := by omega
                have hle : (1 : Int) ≤ h.size := by omega
                have hle' : 1 ≤ h.size := by omega
                clear k1 k2
                go_wp2_with fail
                go_meet
                exact ⟨by rw [HK2.out], rfl, P4.out⟩
              | false =>
                obtain ⟨k1, k2⟩ := HB0.out rfl
                have HK1 := Lib.hid k1
                have g45 : (x == 45) = false := beq_eq_false_iff_ne.2 (by rw [← hx]; exact k2)
                clear k1 k2
                go_wp2_with fail
                go_meet
                exact ⟨by rw [HK1.out], rfl, P4.out⟩
            case rest =>
              obtain ⟨rfl, rfl, hpa⟩ := hcut
              have P5 := Lib.hid hpa
              clear hpa P4 ix
              obtain ⟨y0, hy0⟩ : ∃ y : ByteArray, y = ⟨(pA l ++ pB l).toArray⟩ := ⟨_, rfl⟩
              have HY0 := Lib.hid hy0
              clear hy0
              go_upto_if 70 with fail
              go_cut [8, 10] (fun s8 s10 wx => s8 = .string y0 ∧ s10 = .int .i64 (n : Int) ∧ PA w wx)
              case first =>
                cases pt with
                | false =>
                  obtain ⟨k1, k2⟩ := HCN.out HPT.out.symm
                  have q1 : decide ((P : Int) < s.size) = false := decide_eq_false (by omega)
                  have q2 : decide (P < s.size) = false := decide_eq_false (by omega)
                  have q3 : ¬ ((P : Int) < s.size) := by omega
                  have q4 : ¬ (P < s.size) := by omega
                  have HY1 : Hid (a = y0) := Lib.hid (by refine Go.WideShapes.bytes_inj ?_; rw [HY0.out, HAL.out, k2]; simp)
                  have HN0 : Hid (n = 0) := Lib.hid (by rw [HN.out, k2]; rfl)
                  clear k1 k2
                  go_wp2_with fail
                  go_meet
                  exact ⟨by rw [HY1.out], by rw [HN0.out]; rfl, P5.out⟩
                | true =>
                  obtain ⟨k1, k2, k3⟩ := HCL.out HPT.out.symm
                  have hk3 : (P : Int) < s.size := by omega
                  have hk4 : (P : Int) + 1 ≤ s.size := by omega
                  have q0 : ¬ (9223372036854775807 < a.size + c.size) := by omega
                  have HY1 : Hid (a ++ c = y0) := Lib.hid (by refine Go.WideShapes.bytes_inj ?_; rw [HY0.out, ByteArray.data_append, Array.toList_append, HAL.out, k1])
                  have HN0 : Hid ((s.size : Int) - P - 1 = n) := Lib.hid (by rw [HN.out]; omega)
                  rw [HC.out] at q0
                  clear k1 k2
                  go_wp2_with fail
                  go_meet
                  exact ⟨by rw [← HY1.out, HC.out], by rw [HN0.out], P5.out⟩
              case rest =>
                obtain ⟨rfl, rfl, hpa⟩ := hcut
                have P6 := Lib.hid hpa
                clear hpa P5
                have hy0z : y0.size ≤ 4294967281 := by
                  rw [HY0.out, mk_size, List.length_append]
                  have := (p_sizes l).2
                  have := HZL.out
                  omega
                have HY0Z := Lib.hid hy0z
                obtain ⟨z0, hz0⟩ : ∃ y : ByteArray, y = ⟨R.toArray⟩ := ⟨_, rfl⟩
                have HZ0 := Lib.hid hz0
                clear hz0 hy0z
                go_upto_block 2 with fail
                go_cut [8] (fun s8 wx => s8 = .string z0 ∧ PA w wx)
                case first =>
                  go_wp2_with fail
                  go_loop [8] (fun s8 => SZ R s8) (fun s8 => szOf s8)
                  case atStart => exact ⟨y0, rfl, by rw [HY0.out, HRR.out], HY0Z.out⟩
                  case round =>
                    obtain ⟨y, rfl, hy, hyz⟩ := hrel
                    have HY := Lib.hid hy
                    clear hy
                    by_cases h1 : 1 < y.size
                    · have h1' : (1 : Int) < y.size := by omega
                      obtain ⟨v, hv⟩ : ∃ v : Int, (y[0].toNat : Int) = v := ⟨_, rfl⟩
                      have iv : ∀ q : 0 < y.size, (y[0].toNat : Int) = v := fun _ => hv
                      have hly : ∃ d r, y.data.toList = y[0] :: d :: r := by
                        have hlen : y.data.toList.length = y.size := rfl
                        have h0 := first_byte y (by omega)
                        match hl : y.data.toList, hlen with
                        | [], hlen => simp at hlen; omega
                        | [t], hlen => simp at hlen; omega
                        | t :: d :: r, _ =>
                          rw [hl] at h0
                          simp only [List.head?_cons, Option.some.injEq] at h0
                          exact ⟨d, r, by rw [h0]⟩
                      obtain ⟨d, r, hdr⟩ := hly
                      have HDR := Lib.hid hdr
                      clear hdr
                      by_cases h48 : v = 48
                      · have HC0 : Hid (y[0] = 48) := Lib.hid (UInt8.toNat_inj.1 (by have h46' : (48 : UInt8).toNat = 48 := rfl; omega))
                        have HE1 : Hid ((y.extract 1 y.size).data.toList = d :: r) := Lib.hid (by
                          rw [Lib.extract_data, HDR.out]
                          have hsz : y.size - 1 = r.length + 1 := by
                            have : y.data.toList.length = y.size := rfl
                            rw [HDR.out] at this; simp at this; omega
                          rw [hsz]; simp)
                        subst h48
                        clear hv
                        go_wp2_with fail
                        go_round
                        case rel => exact ⟨y.extract 1 y.size, rfl, by rw [HE1.out, ← stz_more y[0] d r HC0.out, ← HDR.out]; exact HY.out, by simp; omega⟩
                        case measure => simp [szOf]; omega
                      · have g48 : (v == 48) = false := beq_eq_false_iff_ne.2 h48
                        have HYR : Hid (y = z0) := Lib.hid (by
                          refine Go.WideShapes.bytes_inj ?_
                          rw [HZ0.out, ← HY.out, HDR.out, stz_stop _ _ _ (fun q => h48 (by rw [← hv, q]; rfl))])
                        clear h48 hv
                        go_wp2_with fail
                        go_meet
                        exact ⟨by rw [HYR.out], P6.out⟩
                    · have q1 : decide ((1 : Int) < y.size) = false := decide_eq_false (by omega)
                      have q2 : decide (1 < y.size) = false := decide_eq_false h1
                      have HYR : Hid (y = z0) := Lib.hid (by
                        refine Go.WideShapes.bytes_inj ?_
                        rw [HZ0.out, ← HY.out]
                        have hlen : y.data.toList.length = y.size := rfl
                        match hl : y.data.toList, hlen with
                        | [], _ => rfl
                        | [t], _ => rfl
                        | t :: d :: r, hlen => simp at hlen; omega)
                      clear h1
                      go_wp2_with fail
                      go_meet
                      exact ⟨by rw [HYR.out], P6.out⟩
                case rest =>
                  obtain ⟨rfl, hpa⟩ := hcut
                  have P7 := Lib.hid hpa
                  clear hpa P6
                  have q1 : ¬ (9223372036854775807 < (⟨#[45]⟩ : ByteArray).size + z0.size) := by
                    have := HY0Z.out
                    have hzz : z0.size ≤ y0.size := by
                      rw [HZ0.out, mk_size, HRR.out, HY0.out, mk_size]; exact stz_le _
                    rw [show (⟨#[45]⟩ : ByteArray).size = 1 from rfl]; omega
                  have q2 : ¬ (9223372036854775807 < 1 + z0.size) := by rw [show (⟨#[45]⟩ : ByteArray).size = 1 from rfl] at q1; exact q1
                  obtain ⟨t, ht⟩ : ∃ t : ByteArray, t = ⟨(sgL b ++ R).toArray⟩ := ⟨_, rfl⟩
                  have htz : t.size ≤ maxLen := by
                    have := HY0Z.out
                    have hzz : z0.size ≤ y0.size := by
                      rw [HZ0.out, mk_size, HRR.out, HY0.out, mk_size]; exact stz_le _
                    have := sgL_size b R
                    rw [← ht] at this
                    have : z0.size = R.length := by rw [HZ0.out, mk_size]
                    unfold maxLen
                    omega
                  rw [← ht] at HST
                  have HT := Lib.hid ht
                  clear ht
                  go_upto_if 92 with fail
                  go_cut [8] (fun s8 wx => s8 = .string t ∧ PA w wx)
                  case first =>
                    cases b with
                    | true =>
                      have HTT : Hid (⟨#[45]⟩ ++ z0 = t) := Lib.hid (by refine Go.WideShapes.bytes_inj ?_; rw [HT.out, HZ0.out]; simp [sgL])
                      go_wp2_with fail
                      go_meet
                      exact ⟨by rw [HTT.out], P7.out⟩
                    | false =>
                      have HTT : Hid (z0 = t) := Lib.hid (by rw [HT.out, HZ0.out]; rfl)
                      go_wp2_with fail
                      go_meet
                      exact ⟨by rw [HTT.out], P7.out⟩
                  case rest =>
                    obtain ⟨rfl, hpa⟩ := hcut
                    have P8 := Lib.hid hpa
                    clear hpa P7 q1 q2
                    have RT := Lib.hid (fun W => rread_any t W htz)
                    obtain ⟨z1, hz1⟩ : ∃ z, z = rdV t := ⟨_, rfl⟩
                    obtain ⟨z2, hz2⟩ : ∃ z, z = rdE t := ⟨_, rfl⟩
                    rw [← hz1, ← hz2] at RT HST
                    clear hz1 hz2 htz
                    cases hin : in64 (pNum l) with
                    | false =>
                      have h20 : z2 = 20 := HST.out.2 hin
                      have HG := Lib.hid (p_bad (l := l) (by unfold pGood; rw [hin]; simp))
                      subst h20
                      clear hin
                      go_wp2_with fail
                      refine (RT.out _).mono ?_
                      rintro e w9 ⟨rfl, b9⟩
                      have P9 := Lib.hid (P8.out.up b9)
                      clear b9
                      obtain ⟨⟨⟨c0, c1, -⟩, f0, f1⟩, -⟩ := P9.out
                      have P10 := Lib.hid (P9.out.set 0 0)
                      go_wp2_with fail
                      refine ret_mt (N := w.heap.size) (a := 0) (b := 0) (v := .int .i64 140) Tryd.results18 (by rfl) (by rfl) P10.out.1.1.1 P10.out.1.1.2.1 ⟨?_, P10.out.2⟩
                      rw [HR1.out, HR2.out, HR3.out, HG.out.1, HG.out.2.1, HG.out.2.2]
                    | true =>
                      obtain ⟨k1, k2⟩ := HST.out.1 hin
                      have HG := Lib.hid (p_fine (l := l) (by unfold pGood; rw [hin, HOK2.out]; rfl))
                      have MA := Lib.hid (fun W => made_any z1 n W (by rw [k1]; exact hin) HN18.out)
                      obtain ⟨u, hu⟩ : ∃ u, u = (norm z1 n).1 := ⟨_, rfl⟩
                      obtain ⟨j, hj⟩ : ∃ j : Int, j = ((norm z1 n).2 : Nat) := ⟨_, rfl⟩
                      rw [← hu, ← hj] at MA
                      have HS : Hid (r1 = u ∧ r2 = j ∧ r3 = 0) := Lib.hid (by
                        rw [HR1.out, HR2.out, HR3.out, HG.out.1, HG.out.2.1, HG.out.2.2, hu, hj, ← k1, ← HN.out]; exact ⟨rfl, rfl, rfl⟩)
                      subst k2
                      clear hin k1 hu hj
                      go_wp2_with fail
                      refine (RT.out _).mono ?_
                      rintro e w9 ⟨rfl, b9⟩
                      have P9 := Lib.hid (P8.out.up b9)
                      clear b9
                      go_wp2_with fail
                      refine (MA.out _).mono ?_
                      rintro e w10 ⟨rfl, b10⟩
                      have P10 := Lib.hid (P9.out.up b10)
                      clear b10
                      obtain ⟨⟨⟨c0, c1, -⟩, f0, f1⟩, -⟩ := P10.out
                      have P11 := Lib.hid (P10.out.set u j)
                      go_wp2_with fail
                      refine ret_mt (N := w.heap.size) (a := u) (b := j) (v := .int .i64 0) Tryd.results18 (by rfl) (by rfl) P11.out.1.1.1 P11.out.1.1.2.1 ⟨?_, P11.out.2⟩
                      rw [HS.out.1, HS.out.2.1, HS.out.2.2]
set_option maxRecDepth 20000 in
theorem reads_law (s : ByteArray) (w : World) (hT : TL w) (hs : s.size ≤ maxLen) : Calls Tryd.prog 4 #[.string s] w fun e w' => e = .returned (.bool true) ∧ Below w.heap.size w w' := by
  have HL := Lib.hid (fun W (hb : Below w.heap.size w W) => hT.on hb)
  unfold maxLen at hs
  clear hT
  by_cases hz : 2000 < s.size
  · go_enter Tryd.func4, Tryd.ntmps4
    go_wp2_with fail
    go_ret
    exact ⟨rfl, Below.refl _ _⟩
  have q1 : decide (2000 < (s.size : Int)) = false := decide_eq_false (by omega)
  have PS := Lib.hid (parse_t s w (HL.out _ (Below.refl _ _)) (by omega))
  have RS := Lib.hid (fun W => rparse_any s W (by omega))
  obtain ⟨i, hi⟩ : ∃ i, i = pM s.data.toList := ⟨_, rfl⟩
  obtain ⟨j, hj⟩ : ∃ i, i = pS s.data.toList := ⟨_, rfl⟩
  obtain ⟨G, hG⟩ : ∃ i, i = pE s.data.toList := ⟨_, rfl⟩
  rw [← hi, ← hj, ← hG] at PS RS
  clear hi hj hG hz
  go_enter Tryd.func4, Tryd.ntmps4
  go_wp2_with fail
  refine PS.out.mono ?_
  rintro e w1 ⟨rfl, q⟩
  have D1 := Lib.hid (FBox.new w1 i j)
  have B1 := Lib.hid (q.alloc q.size (.cells #[.int .i64 i, .int .i64 j] 26))
  clear q
  go_wp2_with fail
  obtain ⟨w2, hw2⟩ : ∃ w2, w2 = w1.alloc (.cells #[.int .i64 i, .int .i64 j] 26) := ⟨_, rfl⟩
  obtain ⟨N, hN⟩ : ∃ N, N = w1.heap.size := ⟨_, rfl⟩
  rw [← hw2] at B1 D1 ⊢
  rw [← hN] at D1 ⊢
  clear hw2 hN
  refine (RS.out _).mono ?_
  rintro e w3 ⟨rfl, q⟩
  have D3 := Lib.hid ((D1.out.up q).up ((Below.refl _ w3).alloc (Nat.le_refl _) (.cells #[.int .i64 i, .int .i64 j] 26)))
  have E3 := Lib.hid (FBox.new w3 i j)
  have B3 := Lib.hid ((B1.out.trans (q.mono B1.out.size)).alloc (B1.out.trans (q.mono B1.out.size)).size (.cells #[.int .i64 i, .int .i64 j] 26))
  clear q
  go_upto_region 5 with fail
  obtain ⟨w4, hw4⟩ : ∃ w4, w4 = w3.alloc (.cells #[.int .i64 i, .int .i64 j] 26) := ⟨_, rfl⟩
  rw [← hw4] at B3 D3 E3 ⊢
  clear hw4
  obtain ⟨⟨c0, c1, -⟩, -, -⟩ := D3.out
  obtain ⟨⟨c2, c3, -⟩, -, -⟩ := E3.out
  go_wp2_with fail
  go_ret
  exact ⟨rfl, B3.out⟩
end Go.Proofs.YtiikohbnfbpjeaaDoor
