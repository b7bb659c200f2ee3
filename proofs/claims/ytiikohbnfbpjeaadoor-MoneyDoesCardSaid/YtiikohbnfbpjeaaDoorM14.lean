import Derived.Test.YtiikohbnfbpjeaaDoorM13
import Derived.WideShapes
namespace Go.Proofs.YtiikohbnfbpjeaaDoor
open Go.RowKit
theorem mk_size (l : List UInt8) : (⟨l.toArray⟩ : ByteArray).size = l.length := rfl
theorem p_sizes (l : List UInt8) : (pBare l).length ≤ l.length ∧ (pA l).length + (pB l).length ≤ l.length := by
  obtain ⟨h1, h2⟩ := p_shape l
  constructor
  · unfold pBare Go.Lib.trimPrefix
    split
    · simp
    · exact Nat.le_refl _
  · cases hp : pPt l
    · rw [hp] at h1
      rw [h2 hp]
      simp at h1 ⊢
      omega
    · rw [hp] at h1
      simp at h1
      omega
theorem first_byte (a : ByteArray) (h : 0 < a.size) : a.data.toList.head? = some a[0] := by
  rw [List.head?_eq_getElem?]
  exact List.getElem?_eq_getElem (by simpa using h)
theorem head_is (a : ByteArray) (h : 0 < a.size) (x : Int) (hx : (a[0].toNat : Int) = x) : (a.data.toList.head? == some 48) = (x == 48) := by
  rw [first_byte a h]
  subst hx
  rw [Bool.eq_iff_iff, beq_iff_eq, beq_iff_eq, Option.some.injEq]
  constructor
  · intro h; rw [h]; rfl
  · intro h; exact UInt8.toNat_inj.1 (by have h48 : (48 : UInt8).toNat = 48 := rfl; omega)
/-- Where 'Parse' answers, and the tables. -/
def PA (w W : World) : Prop := FBox W w.heap.size 0 0 ∧ Below w.heap.size w W
theorem PA.up {w W W' : World} (h : PA w W) (hb : Below W.heap.size W W') : PA w W' := ⟨h.1.up hb, h.2.trans (hb.mono h.2.size)⟩
theorem PA.set {w W : World} (h : PA w W) (m p : Int) : FBox ((W.setCell ⟨w.heap.size, 0, none⟩ (.int .i64 m)).setCell ⟨w.heap.size, 1, none⟩ (.int .i64 p)) w.heap.size m p ∧ Below w.heap.size w ((W.setCell ⟨w.heap.size, 0, none⟩ (.int .i64 m)).setCell ⟨w.heap.size, 1, none⟩ (.int .i64 p)) :=
  ⟨(h.1.set0 m).set1 p, (h.2.setCell (by simp) _).setCell (by simp) _⟩
theorem PA.new (w : World) : PA w (w.alloc (.cells #[.int .i64 0, .int .i64 0] 26)) := ⟨FBox.new w 0 0, (Below.refl _ w).alloc (Nat.le_refl _) _⟩
theorem PA.other {w W : World} (h : PA w W) (a : Addr) (ha : w.heap.size < a.block) (v : Value) : PA w (W.setCell a v) := ⟨h.1.other a (by omega) v, h.2.setCell (by omega) _⟩
theorem sgL_size (b : Bool) (l : List UInt8) : (⟨(sgL b ++ l).toArray⟩ : ByteArray).size ≤ 1 + l.length := by
  rw [mk_size, List.length_append]
  cases b <;> simp [sgL]
/-- The loop that takes tens off: the Decimal in its block. -/
def LP (w : World) (u : Int) (j : Nat) (B : Nat) (f : Nat) (W : World) : Prop := ∃ V : Int, norm V f = (u, j) ∧ (in64 V = true ∧ f ≤ 18) ∧ FBox W B V f ∧ PA w W ∧ w.heap.size < B
set_option maxRecDepth 20000 in
set_option maxHeartbeats 4000000 in
theorem parse_any (s : ByteArray) (w : World) (lim : Lim w) (hml : ∃ m, w.cell? ⟨2, 0, none⟩ = some (.int .i64 m)) (hs : s.size < 4294967281) :
    Calls Tryd.prog 17 #[.string s] w fun e w' => e = .returned (.tuple #[.agg #[.int .i64 (pM s.data.toList), .int .i64 (pS s.data.toList)], .int .i64 (pE s.data.toList)]) ∧ Below w.heap.size w w' := by
  obtain ⟨l, hl⟩ : ∃ l, l = s.data.toList := ⟨_, rfl⟩
  have hz : s.size = l.length := by rw [hl]; rfl
  obtain ⟨z1, z2⟩ := p_sizes l
  obtain ⟨d, hd⟩ : ∃ d : ByteArray, d = ⟨(pBare l).toArray⟩ := ⟨_, rfl⟩
  obtain ⟨a, ha⟩ : ∃ d : ByteArray, d = ⟨(pA l).toArray⟩ := ⟨_, rfl⟩
  obtain ⟨c, hc⟩ : ∃ d : ByteArray, d = ⟨(pB l).toArray⟩ := ⟨_, rfl⟩
  obtain ⟨t, ht⟩ : ∃ d : ByteArray, d = ⟨(Lib.trimLeftB (pA l ++ pB l) 48).toArray⟩ := ⟨_, rfl⟩
  obtain ⟨b, hb⟩ : ∃ b, b = pNeg l := ⟨_, rfl⟩
  obtain ⟨pt, hpt⟩ : ∃ b, b = pPt l := ⟨_, rfl⟩
  have da : a.data.toList = pA l := by rw [ha]
  have dc : c.data.toList = pB l := by rw [hc]
  have dt : t.data.toList = Lib.trimLeftB (pA l ++ pB l) 48 := by rw [ht]
  have K1 : Hid (∀ W, Calls Tryd.prog 25 #[.string s, .string ⟨#[45]⟩] W fun e w' => e = .returned (.tuple #[.string d, .bool b]) ∧ w' = W) := Lib.hid (fun W => by rw [hd, hb, hl]; exact Tryd.strings_CutPrefix s ⟨#[45]⟩ W)
  have K2 : Hid (∀ W m, W.cell? ⟨2, 0, none⟩ = some (.int .i64 m) → Calls Tryd.prog 33 #[.string d, .string ⟨#[46]⟩] W fun e w' => e = .returned (.tuple #[.string a, .string c, .bool pt]) ∧ ∃ n, w' = W.drewN n) := Lib.hid (fun W m hm => by
    have := Tryd.strings_Cut d ⟨#[46]⟩ m W (by rw [hd, mk_size]; omega) hm
    rw [ha, hc, hpt]; rw [hd] at this ⊢; exact this)
  have zac : a.size + c.size < 4294967281 := by rw [ha, hc, mk_size, mk_size]; omega
  have K3 : Hid (∀ W, Calls Tryd.prog 35 #[.string (a ++ c), .string ⟨#[48]⟩] W fun e w' => e = .returned (.string t) ∧ w' = W) := Lib.hid (fun W => by
    have := Tryd.strings_TrimLeft_one (a ++ c) 48 (by decide) W
    rw [ht, ← da, ← dc]
    rw [show (a ++ c).data.toList = a.data.toList ++ c.data.toList by simp] at this
    exact this)
  have DA := Lib.hid (fun W => areDi_any a W (by unfold maxLen; omega))
  have DC := Lib.hid (fun W => areDi_any c W (by unfold maxLen; omega))
  rw [da] at DA
  rw [dc] at DC
  obtain ⟨vA, hvA⟩ : ∃ v, v = areDi (pA l) := ⟨_, rfl⟩
  obtain ⟨vC, hvC⟩ : ∃ v, v = areDi (pB l) := ⟨_, rfl⟩
  rw [← hvA] at DA
  rw [← hvC] at DC
  have hOK : pOk l = (vA && !(a.data.toList.head? == some 48 && !(a.data.toList == [48])) && (!pt || (vC && decide (c.size ≤ 18)))) := by
    rw [da, hvA, hvC, hpt, hc, mk_size]; rfl
  have HOK := Lib.hid hOK
  have ha0 : vA = true → 0 < a.size := fun h => by
    rw [hvA] at h
    have := (areDi_parts h).2
    rw [ha, mk_size]
    exact List.length_pos_iff.2 this
  have HA0 := Lib.hid ha0
  have htz : t.size ≤ a.size + c.size := by
    rw [ht, ha, hc, mk_size, mk_size, mk_size, ← List.length_append]
    exact (List.dropWhile_sublist _).length_le
  have HTZ := Lib.hid htz
  have HZAC := Lib.hid zac
  have HDT := Lib.hid dt
  have HB := Lib.hid hb
  have HCZ : Hid ((pB l).length = c.size) := Lib.hid (by rw [hc, mk_size])
  have hzc : c.size < 4294967281 := by omega
  obtain ⟨m0, hm0⟩ := hml
  have HM := Lib.hid (fun W (h : Below w.heap.size w W) => (h.cell (p := ⟨2, 0, none⟩) (World.block_lt_of_cell? w ⟨2, 0, none⟩ hm0)).trans hm0)
  have HL := Lib.hid (fun W (h : Below w.heap.size w W) => lim_later h lim)
  have P0 := Lib.hid (PA.new w)
  rw [← hl]
  obtain ⟨r1, hr1⟩ : ∃ r, r = pM l := ⟨_, rfl⟩
  obtain ⟨r2, hr2⟩ : ∃ r, r = pS l := ⟨_, rfl⟩
  obtain ⟨r3, hr3⟩ : ∃ r, r = pE l := ⟨_, rfl⟩
  rw [← hr1, ← hr2, ← hr3]
  have HR1 := Lib.hid hr1
  have HR2 := Lib.hid hr2
  have HR3 := Lib.hid hr3
  clear lim hm0 hs hl hz z1 z2 hd ha hc ht hb hpt da dc dt zac hvA hvC hOK ha0 htz hr1 hr2 hr3
  go_enter Tryd.func17, Tryd.ntmps17
  go_wp2_with fail
  obtain ⟨w0, hw0⟩ : ∃ w0, w0 = w.alloc (.cells #[.int .i64 0, .int .i64 0] 26) := ⟨_, rfl⟩
  rw [← hw0] at P0 ⊢
  clear hw0
  refine (K1.out _).mono ?_
  rintro e w1 ⟨rfl, rfl⟩
  go_wp2_with fail
  refine (K2.out _ m0 (HM.out _ P0.out.2)).mono ?_
  rintro e w2 ⟨rfl, n, hn⟩
  have P2 : Hid (PA w w2) := Lib.hid (by rw [hn]; exact P0.out.up (below_dr (Below.refl _ _) n))
  clear hn
  go_upto_region 3 with fail
  go_cut [48] (fun v wx => v = .bool (!pOk l) ∧ PA w wx)
  case first =>
    as_aux_lemma =>
      cases vA with
      | false =>
        have HF : Hid (pOk l = false) := Lib.hid (by rw [HOK.out]; rfl)
        go_wp2_with fail
        refine (DA.out _).mono ?_
        rintro e w3 ⟨rfl, rfl⟩
        go_wp2_with fail
        go_meet
        exact ⟨by rw [HF.out]; rfl, P2.out⟩
      | true =>
      have hpos := HA0.out rfl
      obtain ⟨x, hx⟩ : ∃ x : Int, (a[0].toNat : Int) = x := ⟨_, rfl⟩
      have i0 : ∀ h : 0 < a.size, (a[0].toNat : Int) = x := fun _ => hx
      have HH := Lib.hid (head_is a hpos x hx)
      clear hx
      by_cases hx48 : x = 48
      · subst hx48
        by_cases h48 : a.toList = [48]
        · have g1 : (a.toList == [48]) = true := by simp [h48]
          have HMID : Hid ((true && !(a.data.toList.head? == some 48 && !(a.data.toList == [48]))) = true) := Lib.hid (by rw [← Lib.toList_data, g1]; simp)
          clear h48
          cases pt with
          | false =>
            have HF : Hid (pOk l = true) := Lib.hid (by rw [HOK.out, HMID.out]; rfl)
            go_wp2_with fail
            refine (DA.out _).mono ?_
            rintro e w3 ⟨rfl, rfl⟩
            go_wp2_with fail
            go_meet
            exact ⟨by rw [HF.out]; rfl, P2.out⟩
          | true =>
            cases vC with
            | false =>
              have HF : Hid (pOk l = false) := Lib.hid (by rw [HOK.out, HMID.out]; rfl)
              go_wp2_with fail
              refine (DA.out _).mono ?_
              rintro e w3 ⟨rfl, rfl⟩
              go_wp2_with fail
              refine (DC.out _).mono ?_
              rintro e w3 ⟨rfl, rfl⟩
              go_wp2_with fail
              go_meet
              exact ⟨by rw [HF.out]; rfl, P2.out⟩
            | true =>
              by_cases h18 : 18 < c.size
              · have HF : Hid (pOk l = false) := Lib.hid (by rw [HOK.out, HMID.out, decide_eq_false (by omega : ¬ c.size ≤ 18)]; rfl)
                have q18 : 18 < (c.size : Int) := by omega
                clear h18
                go_wp2_with fail
                refine (DA.out _).mono ?_
                rintro e w3 ⟨rfl, rfl⟩
                go_wp2_with fail
                refine (DC.out _).mono ?_
                rintro e w3 ⟨rfl, rfl⟩
                go_wp2_with fail
                go_meet
                exact ⟨by rw [HF.out]; rfl, P2.out⟩
              · have HF : Hid (pOk l = true) := Lib.hid (by rw [HOK.out, HMID.out, decide_eq_true (by omega : c.size ≤ 18)]; rfl)
                have q18 : decide (18 < (c.size : Int)) = false := decide_eq_false (by omega)
                clear h18
                go_wp2_with fail
                refine (DA.out _).mono ?_
                rintro e w3 ⟨rfl, rfl⟩
                go_wp2_with fail
                refine (DC.out _).mono ?_
                rintro e w3 ⟨rfl, rfl⟩
                go_wp2_with fail
                go_meet
                exact ⟨by rw [HF.out]; rfl, P2.out⟩
        · have g1 : (a.toList == [48]) = false := beq_eq_false_iff_ne.2 h48
          have HF : Hid (pOk l = false) := Lib.hid (by rw [HOK.out, HH.out, ← Lib.toList_data, g1]; rfl)
          clear h48
          go_wp2_with fail
          refine (DA.out _).mono ?_
          rintro e w3 ⟨rfl, rfl⟩
          go_wp2_with fail
          go_meet
          exact ⟨by rw [HF.out]; rfl, P2.out⟩
      · have g1 : (x == 48) = false := beq_eq_false_iff_ne.2 hx48
        have HMID : Hid ((true && !(a.data.toList.head? == some 48 && !(a.data.toList == [48]))) = true) := Lib.hid (by rw [HH.out, g1]; rfl)
        clear hx48
        cases pt with
        | false =>
          have HF : Hid (pOk l = true) := Lib.hid (by rw [HOK.out, HMID.out]; rfl)
          go_wp2_with fail
          refine (DA.out _).mono ?_
          rintro e w3 ⟨rfl, rfl⟩
          go_wp2_with fail
          go_meet
          exact ⟨by rw [HF.out]; rfl, P2.out⟩
        | true =>
          cases vC with
          | false =>
            have HF : Hid (pOk l = false) := Lib.hid (by rw [HOK.out, HMID.out]; rfl)
            go_wp2_with fail
            refine (DA.out _).mono ?_
            rintro e w3 ⟨rfl, rfl⟩
            go_wp2_with fail
            refine (DC.out _).mono ?_
            rintro e w3 ⟨rfl, rfl⟩
            go_wp2_with fail
            go_meet
            exact ⟨by rw [HF.out]; rfl, P2.out⟩
          | true =>
            by_cases h18 : 18 < c.size
            · have HF : Hid (pOk l = false) := Lib.hid (by rw [HOK.out, HMID.out, decide_eq_false (by omega : ¬ c.size ≤ 18)]; rfl)
              have q18 : 18 < (c.size : Int) := by omega
              clear h18
              go_wp2_with fail
              refine (DA.out _).mono ?_
              rintro e w3 ⟨rfl, rfl⟩
              go_wp2_with fail
              refine (DC.out _).mono ?_
              rintro e w3 ⟨rfl, rfl⟩
              go_wp2_with fail
              go_meet
              exact ⟨by rw [HF.out]; rfl, P2.out⟩
            · have HF : Hid (pOk l = true) := Lib.hid (by rw [HOK.out, HMID.out, decide_eq_true (by omega : c.size ≤ 18)]; rfl)
              have q18 : decide (18 < (c.size : Int)) = false := decide_eq_false (by omega)
              clear h18
              go_wp2_with fail
              refine (DA.out _).mono ?_
              rintro e w3 ⟨rfl, rfl⟩
              go_wp2_with fail
              refine (DC.out _).mono ?_
              rintro e w3 ⟨rfl, rfl⟩
              go_wp2_with fail
              go_meet
              exact ⟨by rw [HF.out]; rfl, P2.out⟩
  case rest =>
    obtain ⟨rfl, hpa⟩ := hcut
    have P3 := Lib.hid hpa
    clear hpa P2
    cases hok : pOk l with
    | false =>
      have HF := Lib.hid (p_bad (l := l) (by unfold pGood; rw [hok]; rfl))
      clear hok
      obtain ⟨⟨⟨c0, c1, -⟩, f0, f1⟩, -⟩ := P3.out
      have P4 := Lib.hid (P3.out.set 0 0)
      go_wp2_with fail
      refine ret_mt (N := w.heap.size) (a := 0) (b := 0) (v := .int .i64 140) Tryd.results17 (by rfl) (by rfl) P4.out.1.1.1 P4.out.1.1.2.1 ⟨?_, P4.out.2⟩
      rw [HR1.out, HR2.out, HR3.out, HF.out.1, HF.out.2.1, HF.out.2.2]
    | true =>
      have HOK2 := Lib.hid hok
      have q0 : ¬ (9223372036854775807 < a.size + c.size) := by have := HZAC.out; omega
      clear hok
      go_wp2_with fail
      refine (K3.out _).mono ?_
      rintro e w3 ⟨rfl, rfl⟩
      by_cases ht0 : t.data.toList = []
      · have he : t.toList.isEmpty = true := by rw [Lib.toList_data, ht0]; rfl
        have HF := Lib.hid (pOk_first l HOK2.out (by rw [← HDT.out]; exact ht0))
        clear ht0
        obtain ⟨⟨⟨c0, c1, -⟩, f0, f1⟩, -⟩ := P3.out
        have P4 := Lib.hid (P3.out.set 0 0)
        go_wp2_with fail
        refine ret_mt (N := w.heap.size) (a := 0) (b := 0) (v := .int .i64 0) Tryd.results17 (by rfl) (by rfl) P4.out.1.1.1 P4.out.1.1.2.1 ⟨?_, P4.out.2⟩
        rw [HR1.out, HR2.out, HR3.out, HF.out.2.2.1, HF.out.2.2.2.1, HF.out.2.2.2.2]
      · have he : t.toList.isEmpty = false := by rw [Lib.toList_data]; simpa using ht0
        have HF := Lib.hid (pOk_read l HOK2.out (by rw [← HDT.out]; exact ht0))
        clear ht0
        have q1 : ¬ (9223372036854775807 < (⟨#[45]⟩ : ByteArray).size + t.size) := by have := HZAC.out; have := HTZ.out; rw [show (⟨#[45]⟩ : ByteArray).size = 1 from rfl]; omega
        have q2 : ¬ (9223372036854775807 < 1 + t.size) := by have := HZAC.out; have := HTZ.out; omega
        go_upto_if 57 with fail
        go_cut [9] (fun v wx => v = .string ⟨(sgL b ++ t.data.toList).toArray⟩ ∧ PA w wx)
        case first =>
          cases b with
          | false =>
            go_wp2_with fail
            go_meet
            exact ⟨rfl, P3.out⟩
          | true =>
            go_wp2_with fail
            go_meet
            exact ⟨by congr 1, P3.out⟩
        case rest =>
          obtain ⟨rfl, hpa⟩ := hcut
          have P5 := Lib.hid hpa
          clear hpa P3 q1 q2
          rw [← HB.out, ← HDT.out] at HF
          have hrz : (⟨(sgL b ++ t.data.toList).toArray⟩ : ByteArray).size ≤ maxLen := Nat.le_trans (sgL_size _ _) (by have := HZAC.out; have := HTZ.out; have : t.data.toList.length = t.size := rfl; unfold maxLen; omega)
          obtain ⟨r, hr⟩ : ∃ r : ByteArray, r = ⟨(sgL b ++ t.data.toList).toArray⟩ := ⟨_, rfl⟩
          rw [← hr] at HF hrz ⊢
          have RD := Lib.hid (read_rest r wc (HL.out _ P5.out.2) hrz)
          obtain ⟨z1, hz1⟩ : ∃ z, z = rdV r := ⟨_, rfl⟩
          obtain ⟨z2, hz2⟩ : ∃ z, z = rdE r := ⟨_, rfl⟩
          rw [← hz1, ← hz2] at RD HF
          clear hr hrz hz1 hz2
          cases hin : in64 (pNum l) with
          | false =>
            have h20 : z2 = 20 := HF.out.2 hin
            have HG := Lib.hid (p_bad (l := l) (by unfold pGood; rw [hin]; simp))
            subst h20
            clear hin
            go_wp2_with fail
            refine RD.out.mono ?_
            rintro e w6 ⟨rfl, b6⟩
            have P6 := Lib.hid (P5.out.up b6)
            clear b6
            obtain ⟨⟨⟨c0, c1, -⟩, f0, f1⟩, -⟩ := P6.out
            have P7 := Lib.hid (P6.out.set 0 0)
            go_wp2_with fail
            refine ret_mt (N := w.heap.size) (a := 0) (b := 0) (v := .int .i64 140) Tryd.results17 (by rfl) (by rfl) P7.out.1.1.1 P7.out.1.1.2.1 ⟨?_, P7.out.2⟩
            rw [HR1.out, HR2.out, HR3.out, HG.out.1, HG.out.2.1, HG.out.2.2]
          | true =>
            obtain ⟨e1, e2⟩ := HF.out.1 hin
            have HG := Lib.hid (p_fine (l := l) (by unfold pGood; rw [hin, HOK2.out]; rfl))
            have HIN := Lib.hid hin
            subst e2
            have HE1 := Lib.hid e1
            have H18 := Lib.hid (pOk_parts HOK2.out).2.2.2
            clear hin e1
            obtain ⟨u, hu⟩ : ∃ u, u = (norm z1 c.size).1 := ⟨_, rfl⟩
            obtain ⟨j, hj⟩ : ∃ j, j = (norm z1 c.size).2 := ⟨_, rfl⟩
            have HN : Hid (norm z1 c.size = (u, j)) := Lib.hid (by rw [hu, hj])
            have HS : Hid (r1 = u ∧ r2 = (j : Nat) ∧ r3 = 0) := Lib.hid (by
              rw [HR1.out, HR2.out, HR3.out, HG.out.1, HG.out.2.1, HG.out.2.2, ← HE1.out, HCZ.out, HN.out]; exact ⟨rfl, rfl, rfl⟩)
            clear hu hj
            go_wp2_with fail
            refine RD.out.mono ?_
            rintro e w6 ⟨rfl, b6⟩
            have P6 := Lib.hid (P5.out.up b6)
            clear b6
            have P7 : Hid (PA w (w6.alloc (.cells #[.int .i64 z1, .int .i64 (c.size : Int)] 26))) := Lib.hid (P6.out.up ((Below.refl _ _).alloc (Nat.le_refl _) _))
            have N7 := Lib.hid (FBox.new w6 z1 (c.size : Int))
            have HB6 := Lib.hid P6.out.1.1.2.2
            go_wp2_with fail
            obtain ⟨w7, hw7⟩ : ∃ w7, w7 = w6.alloc (.cells #[.int .i64 z1, .int .i64 (c.size : Int)] 26) := ⟨_, rfl⟩
            obtain ⟨B, hB⟩ : ∃ B, B = w6.heap.size := ⟨_, rfl⟩
            rw [← hw7] at P7 N7 ⊢
            rw [← hB] at N7 HB6 ⊢
            clear hw7 hB
            go_loopg [] c.size (fun f wr => LP w u j B f wr)
            case atStart => exact ⟨z1, HN.out, ⟨by rw [HE1.out]; exact HIN.out, by rw [← HCZ.out]; exact H18.out⟩, N7.out, P7.out, HB6.out⟩
            case round =>
              obtain ⟨V, hn, ⟨hv, hf18⟩, hfb, hpa, hBB⟩ := hrel
              have HNN := Lib.hid hn
              have HV := Lib.hid hv
              have HFB := Lib.hid hfb
              have HPA := Lib.hid hpa
              have HBB := Lib.hid hBB
              clear hn hpa hv hBB
              obtain ⟨⟨c0, c1, -⟩, f0, f1⟩ := hfb
              obtain ⟨⟨⟨d0, d1, -⟩, g0, g1⟩, -⟩ := HPA.out
              cases gk with
              | zero =>
                have HZ := Lib.hid (Prod.mk.inj HNN.out)
                have P8 := Lib.hid (HPA.out.set V 0)
                clear hf18
                go_wp2_with fail
                refine ret_mt (N := w.heap.size) (a := V) (b := 0) (v := .int .i64 0) Tryd.results17 (by rfl) (by rfl) P8.out.1.1.1 P8.out.1.1.2.1 ⟨?_, P8.out.2⟩
                rw [HS.out.1, HS.out.2.1, HS.out.2.2, ← HZ.out.1, ← HZ.out.2]
                rfl
              | succ g =>
                have hg : (g : Int) ≤ 18 := by omega
                have HG18 := Lib.hid hf18
                clear hf18
                have HT := Lib.hid (tmod_emod V)
                obtain ⟨x, hx⟩ : ∃ x, V.tmod 10 = x := ⟨_, rfl⟩
                obtain ⟨y, hy⟩ : ∃ y, V.tdiv 10 = y := ⟨_, rfl⟩
                by_cases h0 : x = 0
                · have HM0 : Hid (V % 10 = 0) := Lib.hid (HT.out.1 (hx.trans h0))
                  have HY : Hid (y = V / 10) := Lib.hid (by rw [← hy]; exact Int.tdiv_eq_ediv_of_dvd (Int.dvd_of_emod_eq_zero HM0.out))
                  have hy1 : -9223372036854775808 ≤ y ∧ y ≤ 9223372036854775807 := by
                    have := (in64_iff _).1 HV.out
                    have := HY.out
                    have := HM0.out
                    omega
                  obtain ⟨hy2, hy3⟩ := hy1
                  subst h0
                  have HMV := Lib.hid (norm_more V g HM0.out)
                  go_wp2_with fail
                  go_roundg g
                  case rel =>
                    refine ⟨y, ?_, ⟨?_, ?_⟩, ?_, (HPA.out.other _ HBB.out _).other _ HBB.out _, HBB.out⟩
                    · have := HNN.out
                      rw [HMV.out] at this
                      rw [HY.out]; exact this
                    · rw [in64_iff]; omega
                    · have := HG18.out; omega
                    · exact (HFB.out.set0 y).set1 g
                  case measure => omega
                · have e5 : (x == 0) = false := beq_eq_false_iff_ne.2 h0
                  have HMS := Lib.hid (norm_stop V g (fun q => h0 (hx.symm.trans (HT.out.2 q))))
                  clear h0
                  have HZ : Hid (V = u ∧ g + 1 = j) := Lib.hid (by have := HNN.out; rw [HMS.out] at this; exact Prod.mk.inj this)
                  have P8 := Lib.hid (HPA.out.set V ((g : Int) + 1))
                  go_wp2_with fail
                  refine ret_mt (N := w.heap.size) (a := V) (b := (g : Int) + 1) (v := .int .i64 0) Tryd.results17 (by rfl) (by rfl) P8.out.1.1.1 P8.out.1.1.2.1 ⟨?_, P8.out.2⟩
                  rw [HS.out.1, HS.out.2.1, HS.out.2.2, ← HZ.out.1, ← HZ.out.2]
                  rfl
end Go.Proofs.YtiikohbnfbpjeaaDoor
