import Derived.Test.YtjcaadihkbhlhaaDoorC3
namespace Go.Proofs.YtjcaadihkbhlhaaDoor
open Go.RowKit
/-- Parts in their box. -/
def AB (w : World) (s u h p a q : ByteArray) (hu hq : Bool) (w' : World) : Prop := w'.cell? ⟨w.heap.size, 0, none⟩ = some (.string s) ∧ w'.cell? ⟨w.heap.size, 1, none⟩ = some (.string u) ∧ w'.cell? ⟨w.heap.size, 2, none⟩ = some (.string h) ∧ w'.cell? ⟨w.heap.size, 3, none⟩ = some (.string p) ∧ w'.cell? ⟨w.heap.size, 4, none⟩ = some (.string a) ∧ w'.cell? ⟨w.heap.size, 5, none⟩ = some (.string q) ∧ w'.cell? ⟨w.heap.size, 6, none⟩ = some (.bool hu) ∧ w'.cell? ⟨w.heap.size, 7, none⟩ = some (.bool hq) ∧ w.heap.size < w'.heap.size ∧ Below w.heap.size w w'
theorem AB.up {w w1 w2 : World} {s u h p a q : ByteArray} {hu hq : Bool} (H : AB w s u h p a q hu hq w1) (hb : Below w1.heap.size w1 w2) : AB w s u h p a q hu hq w2 := by
  obtain ⟨c0, c1, c2, c3, c4, c5, c6, c7, hs, h0⟩ := H
  exact ⟨(hb.cell (p := ⟨w.heap.size, 0, none⟩) hs).trans c0, (hb.cell (p := ⟨w.heap.size, 1, none⟩) hs).trans c1, (hb.cell (p := ⟨w.heap.size, 2, none⟩) hs).trans c2, (hb.cell (p := ⟨w.heap.size, 3, none⟩) hs).trans c3, (hb.cell (p := ⟨w.heap.size, 4, none⟩) hs).trans c4, (hb.cell (p := ⟨w.heap.size, 5, none⟩) hs).trans c5, (hb.cell (p := ⟨w.heap.size, 6, none⟩) hs).trans c6, (hb.cell (p := ⟨w.heap.size, 7, none⟩) hs).trans c7, Nat.lt_of_lt_of_le hs hb.size, h0.trans (hb.mono h0.size)⟩
theorem AB.new (w : World) (s u h p a q : ByteArray) (hu hq : Bool) : AB w s u h p a q hu hq (w.alloc (.cells #[.string s, .string u, .string h, .string p, .string a, .string q, .bool hu, .bool hq] 24)) :=
  ⟨World.cell?_alloc_mark w _ _ _ 0, World.cell?_alloc_mark w _ _ _ 1, World.cell?_alloc_mark w _ _ _ 2, World.cell?_alloc_mark w _ _ _ 3, World.cell?_alloc_mark w _ _ _ 4, World.cell?_alloc_mark w _ _ _ 5, World.cell?_alloc_mark w _ _ _ 6, World.cell?_alloc_mark w _ _ _ 7, by simp, (Below.refl _ w).alloc (Nat.le_refl _) _⟩
def slashB : List UInt8 → Bool
  | [] => true
  | b :: _ => b == 47
theorem path_slash (l : List UInt8) : pathP l = (slashB l && ofP (mayB [58, 64, 47]) l) := by
  cases l with
  | nil => rw [ofP_nil]; rfl
  | cons b r => rfl
def ok1 (s u h p a q : ByteArray) : Bool := schemeP s.data.toList && ofP (mayB [58]) u.data.toList && ofP (mayB []) h.data.toList && p.data.toList.all digitB && ofP (mayB [58, 64, 47]) a.data.toList && ofP (mayB [58, 64, 47, 63]) q.data.toList
def ok2 (u a q : ByteArray) (hu hq : Bool) : Bool := slashB a.data.toList && (hu || u.toList.isEmpty) && (hq || q.toList.isEmpty)
def mayP (s u h p a q : ByteArray) (hu hq : Bool) : Bool := ok1 s u h p a q && ok2 u a q hu hq && decide ((joinT s u h p a q hu hq).size ≤ 2048)
theorem join_size (s u h p a q : ByteArray) (hu hq : Bool) (hs : s.size ≤ 1000000) (hu1 : u.size ≤ 1000000) (hh : h.size ≤ 1000000) (hp : p.size ≤ 1000000) (ha : a.size ≤ 1000000) (hq1 : q.size ≤ 1000000) : (joinT s u h p a q hu hq).size ≤ 7000000 := by
  unfold joinT
  have e1 : (⟨#[58, 47, 47]⟩ : ByteArray).size = 3 := rfl
  have e2 : (⟨#[64]⟩ : ByteArray).size = 1 := rfl
  have e3 : (⟨#[58]⟩ : ByteArray).size = 1 := rfl
  have e4 : (⟨#[63]⟩ : ByteArray).size = 1 := rfl
  cases hu <;> cases hq <;> by_cases hp0 : p.size = 0 <;> simp only [hp0, if_true, if_false, Bool.false_eq_true, ByteArray.size_append, e1, e2, e3, e4] <;> omega
set_option maxRecDepth 20000 in
set_option maxHeartbeats 2000000 in
theorem may_any (s u h p a q : ByteArray) (hu hq : Bool) (hs : s.size ≤ 1000000) (hu1 : u.size ≤ 1000000) (hh : h.size ≤ 1000000) (hp : p.size ≤ 1000000) (ha : a.size ≤ 1000000) (hq1 : q.size ≤ 1000000) (w : World) :
    Calls Tryd.prog 22 #[adV s u h p a q hu hq] w fun e w' => e = .returned (.bool (mayP s u h p a q hu hq)) ∧ Below w.heap.size w w' := by
  have C1 := Lib.hid (fun W => scheme_any s hs W)
  have C2 := Lib.hid (fun W => made_any u ⟨#[58]⟩ hu1 (by decide) (by decide) W)
  have C3 := Lib.hid (fun W => made_any h ⟨#[]⟩ hh (by decide) (by decide) W)
  have C4 := Lib.hid (fun W => port_any p hp W)
  have C5 := Lib.hid (fun W => made_any a ⟨#[58, 64, 47]⟩ ha (by decide) (by decide) W)
  have C6 := Lib.hid (fun W => made_any q ⟨#[58, 64, 47, 63]⟩ hq1 (by decide) (by decide) W)
  rw [show (⟨#[58]⟩ : ByteArray).data.toList = [58] from rfl] at C2
  rw [show (⟨#[]⟩ : ByteArray).data.toList = [] from rfl] at C3
  rw [show (⟨#[58, 64, 47]⟩ : ByteArray).data.toList = [58, 64, 47] from rfl] at C5
  rw [show (⟨#[58, 64, 47, 63]⟩ : ByteArray).data.toList = [58, 64, 47, 63] from rfl] at C6
  have CT := Lib.hid (fun W => tell_any s u h p a q hu hq hs hu1 hh hp ha hq1 W)
  have HJ := Lib.hid (join_size s u h p a q hu hq hs hu1 hh hp ha hq1)
  have H1 : Hid (ok1 s u h p a q = (schemeP s.data.toList && ofP (mayB [58]) u.data.toList && ofP (mayB []) h.data.toList && p.data.toList.all digitB && ofP (mayB [58, 64, 47]) a.data.toList && ofP (mayB [58, 64, 47, 63]) q.data.toList)) := Lib.hid rfl
  have H2 : Hid (ok2 u a q hu hq = (slashB a.data.toList && (hu || u.toList.isEmpty) && (hq || q.toList.isEmpty))) := Lib.hid rfl
  have HM : Hid (mayP s u h p a q hu hq = (ok1 s u h p a q && ok2 u a q hu hq && decide ((joinT s u h p a q hu hq).size ≤ 2048))) := Lib.hid rfl
  obtain ⟨J, hJ⟩ : ∃ j, j = joinT s u h p a q hu hq := ⟨_, rfl⟩
  rw [← hJ] at CT HJ HM
  obtain ⟨o1, ho1⟩ : ∃ j, j = ok1 s u h p a q := ⟨_, rfl⟩
  obtain ⟨o2, ho2⟩ : ∃ j, j = ok2 u a q hu hq := ⟨_, rfl⟩
  obtain ⟨o, ho⟩ : ∃ j, j = mayP s u h p a q hu hq := ⟨_, rfl⟩
  rw [← ho1] at H1 HM
  rw [← ho2] at H2 HM
  rw [← ho] at HM ⊢
  clear hJ ho1 ho2 ho hs hu1 hh hp hq1
  obtain ⟨g1, hg1⟩ : ∃ j, j = schemeP s.data.toList := ⟨_, rfl⟩
  rw [← hg1] at C1 H1
  obtain ⟨g2, hg2⟩ : ∃ j, j = ofP (mayB [58]) u.data.toList := ⟨_, rfl⟩
  rw [← hg2] at C2 H1
  obtain ⟨g3, hg3⟩ : ∃ j, j = ofP (mayB []) h.data.toList := ⟨_, rfl⟩
  rw [← hg3] at C3 H1
  obtain ⟨g4, hg4⟩ : ∃ j, j = p.data.toList.all digitB := ⟨_, rfl⟩
  rw [← hg4] at C4 H1
  obtain ⟨g5, hg5⟩ : ∃ j, j = ofP (mayB [58, 64, 47]) a.data.toList := ⟨_, rfl⟩
  rw [← hg5] at C5 H1
  obtain ⟨g6, hg6⟩ : ∃ j, j = ofP (mayB [58, 64, 47, 63]) q.data.toList := ⟨_, rfl⟩
  rw [← hg6] at C6 H1
  clear hg1 hg2 hg3 hg4 hg5 hg6
  unfold adV at CT ⊢
  have P0 := Lib.hid (AB.new w s u h p a q hu hq)
  have A0 : Hid (a.toList.isEmpty = true → slashB a.data.toList = true) := Lib.hid (fun e => by rw [← ByteArray.toList_eq]; cases q : a.toList with
    | nil => rfl
    | cons _ _ => rw [q] at e; cases e)
  have A1 : Hid (∀ hl : 0 < a.size, slashB a.data.toList = (a[0] == 47)) := Lib.hid (fun hl => by
    have := drop_at a 0 hl
    rw [List.drop_zero] at this
    rw [this]; rfl)
  have A2 : Hid (a.toList.isEmpty = false → 0 < a.size) := Lib.hid (fun e => by
    apply Classical.byContradiction
    intro q
    rw [ByteArray.toList_eq, text_nil (show a.size = 0 by omega)] at e
    cases e)
  go_enter Tryd.func22, Tryd.ntmps22
  go_upto_region 1 with fail
  obtain ⟨w0, hw0⟩ : ∃ w0, w0 = w.alloc (.cells #[.string s, .string u, .string h, .string p, .string a, .string q, .bool hu, .bool hq] 24) := ⟨_, rfl⟩
  rw [← hw0] at P0 ⊢
  clear hw0
  have hP0 := P0.out
  unfold AB at hP0
  obtain ⟨c0, c1, c2, c3, c4, c5, c6, c7, hsz, hbl⟩ := hP0
  go_cut [3] (fun v wx => v = .bool o1 ∧ w0 = wx)
  case first =>
    as_aux_lemma =>
      cases g1 with
      | false =>
        go_wp2_with fail
        refine (C1.out _).mono ?_
        rintro e w1 ⟨rfl, rfl⟩
        go_wp2_with fail
        go_meet
        exact ⟨by rw [H1.out]; rfl, rfl⟩
      | true =>
        cases g2 with
        | false =>
          go_wp2_with fail
          refine (C1.out _).mono ?_
          rintro e w1 ⟨rfl, rfl⟩
          go_wp2_with fail
          refine (C2.out _).mono ?_
          rintro e w2 ⟨rfl, rfl⟩
          go_wp2_with fail
          go_meet
          exact ⟨by rw [H1.out]; rfl, rfl⟩
        | true =>
          cases g3 with
          | false =>
            go_wp2_with fail
            refine (C1.out _).mono ?_
            rintro e w1 ⟨rfl, rfl⟩
            go_wp2_with fail
            refine (C2.out _).mono ?_
            rintro e w2 ⟨rfl, rfl⟩
            go_wp2_with fail
            refine (C3.out _).mono ?_
            rintro e w3 ⟨rfl, rfl⟩
            go_wp2_with fail
            go_meet
            exact ⟨by rw [H1.out]; rfl, rfl⟩
          | true =>
            cases g4 with
            | false =>
              go_wp2_with fail
              refine (C1.out _).mono ?_
              rintro e w1 ⟨rfl, rfl⟩
              go_wp2_with fail
              refine (C2.out _).mono ?_
              rintro e w2 ⟨rfl, rfl⟩
              go_wp2_with fail
              refine (C3.out _).mono ?_
              rintro e w3 ⟨rfl, rfl⟩
              go_wp2_with fail
              refine (C4.out _).mono ?_
              rintro e w4 ⟨rfl, rfl⟩
              go_wp2_with fail
              go_meet
              exact ⟨by rw [H1.out]; rfl, rfl⟩
            | true =>
              cases g5 with
              | false =>
                go_wp2_with fail
                refine (C1.out _).mono ?_
                rintro e w1 ⟨rfl, rfl⟩
                go_wp2_with fail
                refine (C2.out _).mono ?_
                rintro e w2 ⟨rfl, rfl⟩
                go_wp2_with fail
                refine (C3.out _).mono ?_
                rintro e w3 ⟨rfl, rfl⟩
                go_wp2_with fail
                refine (C4.out _).mono ?_
                rintro e w4 ⟨rfl, rfl⟩
                go_wp2_with fail
                refine (C5.out _).mono ?_
                rintro e w5 ⟨rfl, rfl⟩
                go_wp2_with fail
                go_meet
                exact ⟨by rw [H1.out]; rfl, rfl⟩
              | true =>
                cases g6 with
                | false =>
                  go_wp2_with fail
                  refine (C1.out _).mono ?_
                  rintro e w1 ⟨rfl, rfl⟩
                  go_wp2_with fail
                  refine (C2.out _).mono ?_
                  rintro e w2 ⟨rfl, rfl⟩
                  go_wp2_with fail
                  refine (C3.out _).mono ?_
                  rintro e w3 ⟨rfl, rfl⟩
                  go_wp2_with fail
                  refine (C4.out _).mono ?_
                  rintro e w4 ⟨rfl, rfl⟩
                  go_wp2_with fail
                  refine (C5.out _).mono ?_
                  rintro e w5 ⟨rfl, rfl⟩
                  go_wp2_with fail
                  refine (C6.out _).mono ?_
                  rintro e w6 ⟨rfl, rfl⟩
                  go_wp2_with fail
                  go_meet
                  exact ⟨by rw [H1.out]; rfl, rfl⟩
                | true =>
                  go_wp2_with fail
                  refine (C1.out _).mono ?_
                  rintro e w1 ⟨rfl, rfl⟩
                  go_wp2_with fail
                  refine (C2.out _).mono ?_
                  rintro e w2 ⟨rfl, rfl⟩
                  go_wp2_with fail
                  refine (C3.out _).mono ?_
                  rintro e w3 ⟨rfl, rfl⟩
                  go_wp2_with fail
                  refine (C4.out _).mono ?_
                  rintro e w4 ⟨rfl, rfl⟩
                  go_wp2_with fail
                  refine (C5.out _).mono ?_
                  rintro e w5 ⟨rfl, rfl⟩
                  go_wp2_with fail
                  refine (C6.out _).mono ?_
                  rintro e w6 ⟨rfl, rfl⟩
                  go_wp2_with fail
                  go_meet
                  exact ⟨by rw [H1.out]; rfl, rfl⟩
  case rest =>
    obtain ⟨rfl, rfl⟩ := hcut
    obtain ⟨ue, hue⟩ : ∃ x, x = u.toList.isEmpty := ⟨_, rfl⟩
    obtain ⟨qe, hqe⟩ : ∃ x, x = q.toList.isEmpty := ⟨_, rfl⟩
    obtain ⟨ae, hae⟩ : ∃ x, x = a.toList.isEmpty := ⟨_, rfl⟩
    rw [← hue, ← hqe] at H2
    rw [← hae] at A0 A2
    replace hue := hue.symm
    replace hqe := hqe.symm
    replace hae := hae.symm
    go_upto_region 2 with fail
    go_cut [4] (fun v wx => v = .bool o2 ∧ w0 = wx)
    case first =>
      as_aux_lemma =>
        cases ae with
        | true =>
          rw [A0.out rfl] at H2
          cases hu with
          | true =>
            cases hq with
            | true =>
              go_wp2_with fail
              go_meet
              exact ⟨by rw [H2.out]; rfl, rfl⟩
            | false =>
              cases qe with
              | true =>
                go_wp2_with fail
                go_meet
                exact ⟨by rw [H2.out]; rfl, rfl⟩
              | false =>
                go_wp2_with fail
                go_meet
                exact ⟨by rw [H2.out]; rfl, rfl⟩
          | false =>
            cases ue with
            | true =>
              cases hq with
              | true =>
                go_wp2_with fail
                go_meet
                exact ⟨by rw [H2.out]; rfl, rfl⟩
              | false =>
                cases qe with
                | true =>
                  go_wp2_with fail
                  go_meet
                  exact ⟨by rw [H2.out]; rfl, rfl⟩
                | false =>
                  go_wp2_with fail
                  go_meet
                  exact ⟨by rw [H2.out]; rfl, rfl⟩
            | false =>
              go_wp2_with fail
              go_meet
              exact ⟨by rw [H2.out]; rfl, rfl⟩
        | false =>
          have hl := A2.out rfl
          have hlI : (0 : Int) < a.size := by omega
          rw [A1.out hl] at H2
          obtain ⟨b, hb⟩ : ∃ b, b = a[0] := ⟨_, rfl⟩
          rw [← hb] at H2
          have k0 : ∀ q : 0 < a.size, (a[0].toNat : Int) = (b.toNat : Nat) := fun q => by rw [hb]
          clear hb
          by_cases h47 : b.toNat = 47
          · have h47' : (b.toNat : Int) = 47 := by omega
            have e47 : (b == 47) = true := by rw [beq_iff_eq]; exact UInt8.toNat_inj.1 h47
            rw [e47] at H2
            clear e47 h47
            cases hu with
            | true =>
              cases hq with
              | true =>
                go_wp2_with fail
                go_meet
                exact ⟨by rw [H2.out]; rfl, rfl⟩
              | false =>
                cases qe with
                | true =>
                  go_wp2_with fail
                  go_meet
                  exact ⟨by rw [H2.out]; rfl, rfl⟩
                | false =>
                  go_wp2_with fail
                  go_meet
                  exact ⟨by rw [H2.out]; rfl, rfl⟩
            | false =>
              cases ue with
              | true =>
                cases hq with
                | true =>
                  go_wp2_with fail
                  go_meet
                  exact ⟨by rw [H2.out]; rfl, rfl⟩
                | false =>
                  cases qe with
                  | true =>
                    go_wp2_with fail
                    go_meet
                    exact ⟨by rw [H2.out]; rfl, rfl⟩
                  | false =>
                    go_wp2_with fail
                    go_meet
                    exact ⟨by rw [H2.out]; rfl, rfl⟩
              | false =>
                go_wp2_with fail
                go_meet
                exact ⟨by rw [H2.out]; rfl, rfl⟩
          · have h47' : ((b.toNat : Int) == 47) = false := beq_eq_false_iff_ne.2 (by omega)
            have h47n : ¬ ((b.toNat : Int) = 47) := by omega
            have e47 : (b == 47) = false := by rw [beq_eq_false_iff_ne]; intro e; exact h47 (by rw [e]; rfl)
            rw [e47] at H2
            clear e47 h47
            go_wp2_with fail
            go_meet
            exact ⟨by rw [H2.out]; rfl, rfl⟩
    case rest =>
      obtain ⟨rfl, rfl⟩ := hcut
      cases o1 with
      | false =>
        go_wp2_with fail
        go_ret
        exact ⟨rbool (by rw [HM.out]; rfl), P0.out.2.2.2.2.2.2.2.2.2⟩
      | true =>
        cases o2 with
        | false =>
          go_wp2_with fail
          go_ret
          exact ⟨rbool (by rw [HM.out]; rfl), P0.out.2.2.2.2.2.2.2.2.2⟩
        | true =>
          have hJ7 := HJ.out
          go_wp2_with fail
          refine (CT.out _).mono ?_
          rintro e w1 ⟨rfl, b1⟩
          have PB := Lib.hid (P0.out.2.2.2.2.2.2.2.2.2.trans (b1.mono P0.out.2.2.2.2.2.2.2.2.2.size))
          clear b1
          by_cases h20 : J.size ≤ 2048
          · have g20 : (J.size : Int) ≤ 2048 := by omega
            rw [decide_eq_true h20] at HM
            go_wp2_with fail
            go_ret
            exact ⟨rbool (by rw [HM.out]; rfl), PB.out⟩
          · have g20 : ¬ ((J.size : Int) ≤ 2048) := by omega
            rw [decide_eq_false h20] at HM
            go_wp2_with fail
            go_ret
            exact ⟨rbool (by rw [HM.out, decide_eq_false (show ¬ ((J.size : Int) ≤ 2048) by omega)]; rfl), PB.out⟩
end Go.Proofs.YtjcaadihkbhlhaaDoor
