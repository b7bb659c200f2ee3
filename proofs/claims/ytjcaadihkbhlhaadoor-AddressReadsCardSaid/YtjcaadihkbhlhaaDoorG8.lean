import Derived.Test.YtjcaadihkbhlhaaDoorG7
namespace Go.Proofs.YtjcaadihkbhlhaaDoor
open Go.RowKit
theorem ex_size (R : ByteArray) (a b : Nat) (h : b ≤ R.size) : (R.extract a b).size = b - a := by rw [ByteArray.size_extract]; omega
theorem r2_size (R : ByteArray) : (r2U R).size ≤ R.size := by
  unfold r2U; split
  · simp <;> omega
  · exact Nat.le_refl _
theorem us_size (R : ByteArray) : (usU R).size ≤ R.size := by
  unfold usU; split
  · simp <;> omega
  · exact Nat.zero_le _
theorem au_size (R : ByteArray) : (auA R).size ≤ R.size := by
  unfold auA; split
  · exact Nat.le_refl _
  · simp <;> omega
theorem mk_size (l : List UInt8) : (mk l).size = l.length := by show l.toArray.size = _; simp
theorem cut_size (l c : List UInt8) : (Lib.cut l c).1.length ≤ l.length ∧ (Lib.cut l c).2.1.length ≤ l.length := by
  unfold Lib.cut
  split
  · exact ⟨by simp <;> omega, by simp <;> omega⟩
  · exact ⟨Nat.le_refl _, Nat.zero_le _⟩
theorem data_len (R : ByteArray) : R.data.toList.length = R.size := by rw [← Lib.size_eq]
theorem enU_room (R : ByteArray) (h : 0 ≤ enU R) : (enU R).toNat ≤ R.size := by
  have e : ∀ l c : List UInt8, Lib.indexAny l c ≤ l.length := by
    intro l c
    induction l with
    | nil => unfold Lib.indexAny; simp
    | cons b l ih =>
      unfold Lib.indexAny
      split
      · simp <;> omega
      · split
        · simp <;> omega
        · simp <;> omega
  have := e R.data.toList [47, 63]
  rw [data_len] at this
  unfold enU
  omega
theorem ixS_room (s : ByteArray) (h : 0 ≤ ixS s) : (ixS s).toNat + 3 ≤ s.size := by
  unfold ixS at h ⊢
  have := Lib.index_room s.data.toList [58, 47, 47] h
  rw [data_len] at this
  simp at this
  omega
set_option maxRecDepth 20000 in
set_option maxHeartbeats 4000000 in
theorem parse_main (s : ByteArray) (m : Int) (w : World) (hm : w.cell? ⟨0, 0, none⟩ = some (.int .i64 m)) (hl : s.size ≤ 2048) (hi : 0 ≤ ixS s) :
    Calls Tryd.prog 10 #[.string s] w fun e w' => e = .returned (.tuple #[if mayS s then adV (scS s) (usU (r1S s)) (mk (ch (r2U (r1S s))).1) (mk (ch (r2U (r1S s))).2.1) (mk (cq (r2U (r1S s))).1) (mk (cq (r2U (r1S s))).2.1) (huU (r1S s)) (cq (r2U (r1S s))).2.2 else adZ, .int .i64 (numE (mayS s))]) ∧ Below w.heap.size w w' := by
  have h1 : ¬ (2048 : Int) < (s.size : Int) := by omega
  have h0 : 0 < w.heap.size := World.block_lt_of_cell? _ _ hm
  have hroom := ixS_room s hi
  have P0 := Lib.hid (PS.new w s)
  have hr1 : (r1S s).size ≤ 2048 := by unfold r1S; rw [ex_size _ _ _ (Nat.le_refl _)]; omega
  have hsc : (scS s).size ≤ 2048 := by unfold scS; rw [ex_size _ _ _ (by omega)]; omega
  have HC : Hid (∀ W, Below w.heap.size w W → VB W (w.heap.size + 1 + 1) #[.string s] 9 → Calls Tryd.prog 16 #[.string ⟨#[58, 47, 47]⟩, .string ⟨#[]⟩, .pointer (some ⟨w.heap.size + 1 + 1, 0, none⟩)] W fun e w' => e = .returned (.tuple #[.string (scS s), .bool true]) ∧ w' = W.setCell ⟨w.heap.size + 1 + 1, 0, none⟩ (.string (r1S s))) :=
    Lib.hid (fun W hb hv => cutA_yes _ s m W hv ((hb.cell (p := ⟨0, 0, none⟩) h0).trans hm) (by omega) _ (by omega) hroom)
  have HMS : Hid (mayS s = mayP (scS s) (usU (r1S s)) (mk (ch (r2U (r1S s))).1) (mk (ch (r2U (r1S s))).2.1) (mk (cq (r2U (r1S s))).1) (mk (cq (r2U (r1S s))).2.1) (huU (r1S s)) (cq (r2U (r1S s))).2.2) := Lib.hid rfl
  obtain ⟨o, ho⟩ : ∃ o, o = mayS s := ⟨_, rfl⟩
  rw [← ho] at HMS ⊢
  clear ho
  obtain ⟨sc, hsce⟩ : ∃ x, x = scS s := ⟨_, rfl⟩
  rw [← hsce] at HC HMS hsc ⊢
  obtain ⟨r1, hr1e⟩ : ∃ x, x = r1S s := ⟨_, rfl⟩
  rw [← hr1e] at HC HMS hr1 ⊢
  clear hsce hr1e hl hi hroom
  have hus := us_size r1
  have hr2 := r2_size r1
  have HB : Hid (∀ W, VB W (w.heap.size + 1 + 1) #[.string r1] 9 → Calls Tryd.prog 16 #[.string ⟨#[64]⟩, .string ⟨#[47, 63]⟩, .pointer (some ⟨w.heap.size + 1 + 1, 0, none⟩)] W fun e w' => e = .returned (.tuple #[.string (usU r1), .bool (huU r1)]) ∧ VB w' (w.heap.size + 1 + 1) #[.string (r2U r1)] 9 ∧ Below (w.heap.size + 1 + 1) W w') :=
    Lib.hid (fun W hv => cutB_any _ r1 W hv (by omega))
  obtain ⟨us, hus1⟩ : ∃ x, x = usU r1 := ⟨_, rfl⟩
  obtain ⟨hu, hhu⟩ : ∃ x, x = huU r1 := ⟨_, rfl⟩
  obtain ⟨r2, hr2e⟩ : ∃ x, x = r2U r1 := ⟨_, rfl⟩
  rw [← hus1] at HB HMS hus ⊢
  rw [← hhu] at HB HMS ⊢
  rw [← hr2e] at HB HMS hr2 ⊢
  clear hus1 hhu hr2e
  have hau := au_size r2
  have hr2s : r2.size ≤ 2048 := by omega
  have hpas : (paA r2).size ≤ 2048 := by unfold paA; rw [ex_size _ _ _ (Nat.le_refl _)]; omega
  have HA : Hid (∀ W, Calls Tryd.prog 18 #[.string r2, .string ⟨#[47, 63]⟩] W fun e w' => e = .returned (.int .i64 (enU r2)) ∧ Below W.heap.size W w') := Lib.hid (fun W => iany_two r2 W (by omega))
  have HCQ : Hid (∀ W, Below w.heap.size w W → Calls Tryd.prog 19 #[.string (paA r2), .string ⟨#[63]⟩] W fun e w' => e = .returned (.tuple #[.string (mk (cq r2).1), .string (mk (cq r2).2.1), .bool (cq r2).2.2]) ∧ Below W.heap.size W w') :=
    Lib.hid (fun W hb => (Tryd.strings_Cut (paA r2) ⟨#[63]⟩ m W (by omega) ((hb.cell (p := ⟨0, 0, none⟩) h0).trans hm)).mono fun e w' z => ⟨z.1, drawn_below z.2⟩)
  have HCH : Hid (∀ W, Below w.heap.size w W → Calls Tryd.prog 19 #[.string (auA r2), .string ⟨#[58]⟩] W fun e w' => e = .returned (.tuple #[.string (mk (ch r2).1), .string (mk (ch r2).2.1), .bool (ch r2).2.2]) ∧ Below W.heap.size W w') :=
    Lib.hid (fun W hb => (Tryd.strings_Cut (auA r2) ⟨#[58]⟩ m W (by omega) ((hb.cell (p := ⟨0, 0, none⟩) h0).trans hm)).mono fun e w' z => ⟨z.1, drawn_below z.2⟩)
  have s1 := cut_size (paA r2).data.toList [63]
  have s2 := cut_size (auA r2).data.toList [58]
  rw [data_len] at s1 s2
  have k1 : (mk (cq r2).1).size ≤ 1000000 := by rw [mk_size]; unfold cq; omega
  have k2 : (mk (cq r2).2.1).size ≤ 1000000 := by rw [mk_size]; unfold cq; omega
  have k3 : (mk (ch r2).1).size ≤ 1000000 := by rw [mk_size]; unfold ch; omega
  have k4 : (mk (ch r2).2.1).size ≤ 1000000 := by rw [mk_size]; unfold ch; omega
  have HK := Lib.hid (fun W => check_any sc us (mk (ch r2).1) (mk (ch r2).2.1) (mk (cq r2).1) (mk (cq r2).2.1) hu (cq r2).2.2 (by omega) (by omega) k3 k4 k1 k2 W)
  rw [← HMS.out] at HK
  obtain ⟨ne, hne⟩ : ∃ x, x = numE o := ⟨_, rfl⟩
  rw [← hne] at HK ⊢
  replace hne := Lib.hid hne
  clear HMS k1 k2 k3 k4 s1 s2
  obtain ⟨pt, hpt⟩ : ∃ x, x = mk (cq r2).1 := ⟨_, rfl⟩
  obtain ⟨qu, hqu⟩ : ∃ x, x = mk (cq r2).2.1 := ⟨_, rfl⟩
  obtain ⟨hq, hhq⟩ : ∃ x, x = (cq r2).2.2 := ⟨_, rfl⟩
  obtain ⟨hst, hhs⟩ : ∃ x, x = mk (ch r2).1 := ⟨_, rfl⟩
  obtain ⟨por, hpo⟩ : ∃ x, x = mk (ch r2).2.1 := ⟨_, rfl⟩
  obtain ⟨cf, hcf⟩ : ∃ x, x = (ch r2).2.2 := ⟨_, rfl⟩
  rw [← hpt, ← hqu, ← hhq] at HCQ HK ⊢
  rw [← hhs, ← hpo] at HCH HK ⊢
  rw [← hcf] at HCH
  clear hpt hqu hhq hhs hpo hcf
  have HPA : Hid (paA r2 = r2.extract (auA r2).size r2.size) := Lib.hid rfl
  have HAU : Hid (auA r2 = if enU r2 < 0 then r2 else r2.extract 0 (enU r2).toNat) := Lib.hid rfl
  have HEN := Lib.hid (enU_room r2)
  obtain ⟨en, hen⟩ : ∃ x, x = enU r2 := ⟨_, rfl⟩
  rw [← hen] at HA HAU HEN
  obtain ⟨au, haue⟩ : ∃ x, x = auA r2 := ⟨_, rfl⟩
  rw [← haue] at HAU HCH HPA hau
  obtain ⟨pa, hpae⟩ : ∃ x, x = paA r2 := ⟨_, rfl⟩
  rw [← hpae] at HPA HCQ
  have hau1 : (au.size : Int) ≤ r2.size := by omega
  have hr2i : (r2.size : Int) ≤ 2048 := by omega
  have hau0 : (0 : Int) ≤ au.size := by omega
  clear hen haue hpae hm hsc hr1 hus hr2 hau hr2s hpas h0
  replace HPA := Lib.hid HPA.out.symm
  unfold adZ
  unfold adV at HK ⊢
  unfold AC at P0
  go_enter Tryd.func10, Tryd.ntmps10
  go_wp2_with fail
  obtain ⟨w3, hw3⟩ : ∃ w3, w3 = (((w.alloc (.cells #[.string ⟨#[]⟩, .string ⟨#[]⟩, .string ⟨#[]⟩, .string ⟨#[]⟩, .string ⟨#[]⟩, .string ⟨#[]⟩, .bool false, .bool false] 24)).alloc (.cells #[.string ⟨#[]⟩, .string ⟨#[]⟩, .string ⟨#[]⟩, .string ⟨#[]⟩, .string ⟨#[]⟩, .string ⟨#[]⟩, .bool false, .bool false] 24)).alloc (.cells #[.string s] 9)) := ⟨_, rfl⟩
  rw [← hw3] at P0 ⊢
  clear hw3
  refine (HC.out _ P0.out.2.2.2 P0.out.2.2.1).mono ?_
  rintro e w4 ⟨rfl, hw4⟩
  have P1 := Lib.hid (P0.out.cut (show VB w4 (w.heap.size + 1 + 1) #[.string r1] 9 from by rw [hw4]; exact P0.out.2.2.1.set 0 _) (by rw [hw4]; exact (Below.refl (w.heap.size + 1 + 1) w3).setCell (Nat.le_refl _) _))
  clear hw4 P0
  obtain ⟨⟨c0, c1, c2, c3, c4, c5, c6, c7⟩, ⟨f0, f1, f2, f3, f4, f5, f6, f7⟩, cr⟩ := (P1).out.f
  go_wp2_with fail
  have P2 := P1.out.put 0 (.string sc)
  simp only [List.setIfInBounds_toArray, List.set_cons_zero, List.set_cons_succ] at P2
  replace P2 := Lib.hid P2
  obtain ⟨w5, hw5⟩ : ∃ x, x = (w4.setCell ⟨w.heap.size + 1, 0, none⟩ (.string sc)) := ⟨_, rfl⟩
  rw [← hw5] at P2 ⊢
  clear hw5

  clear c0 c1 c2 c3 c4 c5 c6 c7 f0 f1 f2 f3 f4 f5 f6 f7 cr
  refine (HB.out _ P2.out.2.2.1).mono ?_
  rintro e w6 ⟨rfl, hv6, b6⟩
  have P3 := Lib.hid (P2.out.cut hv6 b6)
  clear hv6 b6 P2 P1
  obtain ⟨⟨c0, c1, c2, c3, c4, c5, c6, c7⟩, ⟨f0, f1, f2, f3, f4, f5, f6, f7⟩, cr⟩ := (P3).out.f
  go_wp2_with fail
  have P4 := (P3.out.put 1 (.string us)).put 6 (.bool hu)
  simp only [List.setIfInBounds_toArray, List.set_cons_zero, List.set_cons_succ] at P4
  replace P4 := Lib.hid P4
  obtain ⟨w7, hw7⟩ : ∃ x, x = ((w6.setCell ⟨w.heap.size + 1, 1, none⟩ (.string us)).setCell ⟨w.heap.size + 1, 6, none⟩ (.bool hu)) := ⟨_, rfl⟩
  rw [← hw7] at P4 ⊢
  clear hw7

  clear c0 c1 c2 c3 c4 c5 c6 c7 f0 f1 f2 f3 f4 f5 f6 f7 cr
  refine (HA.out _).mono ?_
  rintro e w8 ⟨rfl, b8⟩
  have P5 := Lib.hid (P4.out.up b8)
  clear b8 P4 P3
  obtain ⟨⟨c0, c1, c2, c3, c4, c5, c6, c7⟩, ⟨f0, f1, f2, f3, f4, f5, f6, f7⟩, cr⟩ := (P5).out.f
  go_upto_if 37 with fail
  go_cut [8] (fun v wx => v = .string au ∧ w8 = wx)
  case first =>
    as_aux_lemma =>
      by_cases hen : en < 0
      · have hn : ¬ (0 : Int) ≤ en := by omega
        have e1 := Lib.hid (show au = r2 by rw [HAU.out, if_pos hen])
        clear hen
        go_wp2_with fail
        go_meet
        exact ⟨by rw [e1.out], rfl⟩
      · have hn : (0 : Int) ≤ en := by omega
        have hroom := HEN.out hn
        have e1 := Lib.hid (show au = r2.extract 0 en.toNat by rw [HAU.out, if_neg hen])
        have hro : en ≤ r2.size := by omega
        clear hen hroom
        go_wp2_with fail
        go_meet
        exact ⟨by rw [e1.out], rfl⟩
  case rest =>
    obtain ⟨rfl, rfl⟩ := hcut
    go_wp2_with fail
    rw [HPA.out]
    have P6 := P5.out.put 4 (.string pa)
    simp only [List.setIfInBounds_toArray, List.set_cons_zero, List.set_cons_succ] at P6
    replace P6 := Lib.hid P6
    obtain ⟨w9, hw9⟩ : ∃ x, x = (w8.setCell ⟨w.heap.size + 1, 4, none⟩ (.string pa)) := ⟨_, rfl⟩
    rw [← hw9] at P6 ⊢
    clear hw9
    clear c0 c1 c2 c3 c4 c5 c6 c7 f0 f1 f2 f3 f4 f5 f6 f7 cr
    refine (HCQ.out _ P6.out.2.2.2).mono ?_
    rintro e w10 ⟨rfl, b10⟩
    have P7 := Lib.hid (P6.out.up b10)
    clear b10 P6 P5
    obtain ⟨⟨c0, c1, c2, c3, c4, c5, c6, c7⟩, ⟨f0, f1, f2, f3, f4, f5, f6, f7⟩, cr⟩ := (P7).out.f
    go_wp2_with fail
    have P8 := ((P7.out.put 4 (.string pt)).put 5 (.string qu)).put 7 (.bool hq)
    simp only [List.setIfInBounds_toArray, List.set_cons_zero, List.set_cons_succ] at P8
    replace P8 := Lib.hid P8
    obtain ⟨w11, hw11⟩ : ∃ x, x = (((w10.setCell ⟨w.heap.size + 1, 4, none⟩ (.string pt)).setCell ⟨w.heap.size + 1, 5, none⟩ (.string qu)).setCell ⟨w.heap.size + 1, 7, none⟩ (.bool hq)) := ⟨_, rfl⟩
    rw [← hw11] at P8 ⊢
    clear hw11
    clear c0 c1 c2 c3 c4 c5 c6 c7 f0 f1 f2 f3 f4 f5 f6 f7 cr
    refine (HCH.out _ P8.out.2.2.2).mono ?_
    rintro e w12 ⟨rfl, b12⟩
    have P9 := Lib.hid (P8.out.up b12)
    clear b12 P8 P7
    obtain ⟨⟨c0, c1, c2, c3, c4, c5, c6, c7⟩, ⟨f0, f1, f2, f3, f4, f5, f6, f7⟩, cr⟩ := (P9).out.f
    go_wp2_with fail
    have P10 := (P9.out.put 2 (.string hst)).put 3 (.string por)
    simp only [List.setIfInBounds_toArray, List.set_cons_zero, List.set_cons_succ] at P10
    replace P10 := Lib.hid P10
    obtain ⟨w13, hw13⟩ : ∃ x, x = ((w12.setCell ⟨w.heap.size + 1, 2, none⟩ (.string hst)).setCell ⟨w.heap.size + 1, 3, none⟩ (.string por)) := ⟨_, rfl⟩
    rw [← hw13] at P10 ⊢
    clear hw13
    clear c0 c1 c2 c3 c4 c5 c6 c7 f0 f1 f2 f3 f4 f5 f6 f7 cr
    refine (HK.out _).mono ?_
    rintro e w14 ⟨rfl, b14⟩
    have P11 := Lib.hid (P10.out.up b14)
    clear b14 P9 P10
    obtain ⟨⟨c0, c1, c2, c3, c4, c5, c6, c7⟩, ⟨f0, f1, f2, f3, f4, f5, f6, f7⟩, cr⟩ := (P11).out.f
    obtain ⟨⟨z0, z1, z2, z3, z4, z5, z6, z7⟩, ⟨y0, y1, y2, y3, y4, y5, y6, y7⟩⟩ := (P11).out.z
    cases o with
    | true =>
      obtain rfl : ne = 0 := hne.out
      have E8 := P11.out.end8 (.string sc) (.string us) (.string hst) (.string por) (.string pt) (.string qu) (.bool hu) (.bool hq)
      go_wp2_with fail
      exact retP rfl rfl E8.1 ⟨rfl, E8.2⟩
    | false =>
      obtain rfl : ne = 150 := hne.out
      have E8 := P11.out.end8 (.string ⟨#[]⟩) (.string ⟨#[]⟩) (.string ⟨#[]⟩) (.string ⟨#[]⟩) (.string ⟨#[]⟩) (.string ⟨#[]⟩) (.bool false) (.bool false)
      go_wp2_with fail
      exact retP rfl rfl E8.1 ⟨rfl, E8.2⟩
theorem parse_any (s : ByteArray) (m : Int) (w : World) (hm : w.cell? ⟨0, 0, none⟩ = some (.int .i64 m)) :
    Calls Tryd.prog 10 #[.string s] w fun e w' => e = .returned (.tuple #[adP s, .int .i64 (numE (okP s))]) ∧ Below w.heap.size w w' := by
  unfold adP okP
  by_cases hl : s.size ≤ 2048
  · by_cases hi : 0 ≤ ixS s
    · have h := parse_main s m w hm hl hi
      simp only [hl, hi, decide_true, Bool.true_and]
      exact h
    · have h := parse_none s m w hm hl (by omega)
      simp only [hl, hi, decide_true, decide_false, Bool.true_and, Bool.false_and, Bool.false_eq_true, if_false]
      exact h
  · have h := parse_long s w (by omega)
    simp only [hl, decide_false, Bool.false_and, Bool.false_eq_true, if_false]
    exact h
end Go.Proofs.YtjcaadihkbhlhaaDoor
