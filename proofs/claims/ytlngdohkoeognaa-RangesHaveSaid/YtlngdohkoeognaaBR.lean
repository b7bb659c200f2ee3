/- Layer 6: RangesHave. -/
import Derived.Test.YtlngdohkoeognaaBP
namespace Go.Proofs.Ytlngdohkoeognaa
open Go.RowKit Go.Maps
theorem cn_ck {L : List Rg} (h : Cn 0 L) (k : L.length ≤ 256) : ckL L = true := by
  unfold ckL
  rw [decide_eq_true k, (may_cn L).2 h]; rfl
theorem norm_yes {L : List Rg} (h : L.length ≤ 256) (k : L.all okR = true) : normP L = (uniC L, 0) := norm_ok (by omega) (List.all_eq_true.1 k)
theorem norm_not {L : List Rg} (h : L.length ≤ 256) (k : L.all okR = false) : normP L = ([], 8) := by
  unfold normP
  rw [if_neg (by omega), k]; rfl
theorem uniC_len {L : List Rg} (hok : ∀ r ∈ L, okR r = true) : (uniC L).length ≤ L.length := by
  have hp : (L.mergeSort fun a b => decide (a.1 ≤ b.1)).Perm L := List.mergeSort_perm _ _
  have hs' : (L.mergeSort fun a b => decide (a.1 ≤ b.1)).Pairwise (fun a b => a.1 ≤ b.1) := by
    have := List.pairwise_mergeSort (le := fun a b : Rg => decide (a.1 ≤ b.1)) (fun a b c => by simp; omega) (fun a b => by simp; omega) L
    exact this.imp (fun h => by simpa using h)
  have hok' : ∀ r ∈ L.mergeSort fun a b => decide (a.1 ≤ b.1), okR r = true := fun r hr => hok r (hp.mem_iff.1 hr)
  obtain ⟨k1, k2⟩ := uni_ok hok' hs'
  have e := cn_uniC hok k1 (fun n => by rw [k2, hs_perm hp])
  rw [← e]
  have := uni_len (L.mergeSort fun a b => decide (a.1 ≤ b.1))
  rw [hp.length_eq] at this
  exact this
theorem orC_len {A B : List Rg} (ha : ∀ r ∈ A, okR r = true) (hb : ∀ r ∈ B, okR r = true) : (orC A B).length ≤ A.length + B.length := by
  obtain ⟨u1, u2⟩ := uniC_ok (app_ok ha hb)
  rw [← cn_orC ha hb u1 u2]
  have := uniC_len (app_ok ha hb)
  rw [List.length_append] at this
  exact this
theorem notC_len {A : List Rg} (hA : Cn 0 A) : (notC A).length ≤ A.length + 1 := by rw [← gap_notC hA]; exact gap_len hA
theorem andC_len {A B : List Rg} (hA : Cn 0 A) (hB : Cn 0 B) : (andC A B).length ≤ A.length + B.length + 3 := by
  have g1 := (gap_ok A 0 0 hA (Int.le_refl _) (by omega)).1
  have g2 := (gap_ok B 0 0 hB (Int.le_refl _) (by omega)).1
  have o1 := cn_ok (Int.le_refl _) g1
  have o2 := cn_ok (Int.le_refl _) g2
  obtain ⟨u1, u2⟩ := uniC_ok (app_ok o1 o2)
  rw [← cn_andC hA hB u1 u2]
  have h1 := gap_len u1
  have h2 := uniC_len (app_ok o1 o2)
  rw [List.length_append] at h2
  have h3 := gap_len hA
  have h4 := gap_len hB
  omega
theorem notC_two {A : List Rg} (hA : Cn 0 A) : notC (notC A) = A := by
  have o := cn_ok (Int.le_refl _) hA
  obtain ⟨k1, k2⟩ := notC_ok o
  obtain ⟨j1, j2⟩ := notC_ok (cn_ok (Int.le_refl _) k1)
  refine Cn.one j1 hA (fun n => ?_)
  rw [j2, k2, in_le o n]
  cases decide (0 ≤ n) <;> cases decide (n ≤ 1114111) <;> cases hs A n <;> rfl
theorem capP_ok {M : List Rg} (h : M.length ≤ 256) : capP M = (M, 0) := if_neg (by omega)
theorem ck_eR {L : List Rg} (h : ckL L = true) : eR (ckL L) = 0 := by rw [h]; rfl
/-- What is asked of two sets, and a number, in plain words. -/
structure HaveA (A : List Rg) (n : Int) : Prop where
  norm : A.all okR = true → normP A = (uniC A, 0) ∧ hs (uniC A) n = hs A n ∧ eR (ckL (uniC A)) = 0
  bad : A.all okR = false → normP A = ([], 8)
  no : ckL A = true → notP A = (notC A, 0) ∧ notP (notC A) = (A, 0) ∧ eR (ckL (notC A)) = 0 ∧ hs (notC A) n = (decide (0 ≤ n) && decide (n ≤ 1114111) && !hs A n)
  nobad : ckL A = false → notP A = ([], 8)
  sub : A.all okR = false → ckL A = false
theorem haveA {A : List Rg} {n : Int} (hl : A.length ≤ 100) : HaveA A n where
  norm := fun h => by
    have hok := List.all_eq_true.1 h
    obtain ⟨k1, k2⟩ := uniC_ok hok
    exact ⟨norm_yes (by omega) h, k2 n, ck_eR (cn_ck k1 (by have := uniC_len hok; omega))⟩
  bad := fun h => norm_not (by omega) h
  no := fun h => by
    have hc := (ck_cn h).2
    have hok := cn_ok (Int.le_refl _) hc
    obtain ⟨k1, k2⟩ := notC_ok hok
    have hn := notC_len hc
    have hck := cn_ck k1 (by omega)
    refine ⟨?_, ?_, ck_eR hck, k2 n⟩
    · unfold notP; rw [h]; exact capP_ok (by omega)
    · unfold notP; rw [hck, notC_two hc]; exact capP_ok (by omega)
  nobad := fun h => by unfold notP; rw [h]; rfl
  sub := fun h => by
    cases k : ckL A with
    | false => rfl
    | true =>
      have := cn_ok (Int.le_refl _) (ck_cn k).2
      rw [List.all_eq_true.2 this] at h
      cases h
structure HaveB (A B : List Rg) (n : Int) : Prop where
  yes : ckL A = true → ckL B = true → orP A B = (orC A B, 0) ∧ andP A B = (andC A B, 0) ∧ eR (ckL (orC A B)) = 0 ∧ eR (ckL (andC A B)) = 0 ∧ hs (orC A B) n = (hs A n || hs B n) ∧ hs (andC A B) n = (hs A n && hs B n)
  no : ckL A = false ∨ ckL B = false → orP A B = ([], 8) ∧ andP A B = ([], 8)
theorem haveB {A B : List Rg} {n : Int} (ha : A.length ≤ 100) (hb : B.length ≤ 100) : HaveB A B n where
  yes := fun h1 h2 => by
    have c1 := (ck_cn h1).2
    have c2 := (ck_cn h2).2
    have o1 := cn_ok (Int.le_refl _) c1
    have o2 := cn_ok (Int.le_refl _) c2
    obtain ⟨k1, k2⟩ := orC_ok o1 o2
    obtain ⟨j1, j2⟩ := andC_ok o1 o2
    have l1 := orC_len o1 o2
    have l2 := andC_len c1 c2
    exact ⟨by rw [or_ck h1 h2]; exact capP_ok (by omega), by rw [and_ck h1 h2]; exact capP_ok (by omega), ck_eR (cn_ck k1 (by omega)), ck_eR (cn_ck j1 (by omega)), k2 n, j2 n⟩
  no := fun h => ⟨or_no h, and_no h⟩
set_option maxRecDepth 20000 in
theorem have_big1 (a1 a2 : Option Addr) (c1 c2 la lb : Nat) (A B : List Rg) (n : Int) (w : World) (hs1 : Hid (SlR w (.slice a1 la c1) A)) (hs2 : Hid (SlR w (.slice a2 lb c2) B)) (h : (100 : Int) < (la : Int)) :
    Calls Try.prog 6 #[.slice a1 la c1, .slice a2 lb c2, .int .i64 n] w fun e w' => e = .returned (.bool true) ∧ Below w.heap.size w w' := by
  have S0 := Lib.hid (((St.start w).put hs2.out).put hs1.out)
  go_enter Try.func6, Try.ntmps6
  go_wp2_with fail
  refine (alive_any _).mono ?_
  rintro e w1 ⟨rfl, b1⟩
  have S1 := Lib.hid (S0.out.step b1)
  clear b1
  go_wp2_with fail
  go_ret
  exact ⟨rfl, S1.out.1⟩
set_option maxRecDepth 20000 in
theorem have_big2 (a1 a2 : Option Addr) (c1 c2 la lb : Nat) (A B : List Rg) (n : Int) (w : World) (hs1 : Hid (SlR w (.slice a1 la c1) A)) (hs2 : Hid (SlR w (.slice a2 lb c2) B)) (h1 : ¬ (100 : Int) < (la : Int)) (h : (100 : Int) < (lb : Int)) :
    Calls Try.prog 6 #[.slice a1 la c1, .slice a2 lb c2, .int .i64 n] w fun e w' => e = .returned (.bool true) ∧ Below w.heap.size w w' := by
  have S0 := Lib.hid (((St.start w).put hs2.out).put hs1.out)
  go_enter Try.func6, Try.ntmps6
  go_wp2_with fail
  refine (alive_any _).mono ?_
  rintro e w1 ⟨rfl, b1⟩
  have S1 := Lib.hid (S0.out.step b1)
  clear b1
  go_wp2_with fail
  go_ret
  exact ⟨rfl, S1.out.1⟩
set_option maxRecDepth 20000 in
theorem have_in_True_True_True_false_false (a1 a2 : Option Addr) (c1 c2 la lb : Nat) (A B : List Rg) (n : Int) (w : World) (hs1 : Hid (SlR w (.slice a1 la c1) A)) (hs2 : Hid (SlR w (.slice a2 lb c2) B)) (h1 : ¬ (100 : Int) < (la : Int)) (h2 : ¬ (100 : Int) < (lb : Int)) (hA : Hid (HaveA A n)) (hB : Hid (HaveB A B n)) (hxa : hs A n = false) (hxb : hs B n = false) (hn0 : 0 ≤ n) (hn1 : n ≤ 1114111) (kok : A.all okR = true) (kck : ckL A = true) (kcb : ckL B = true) :
    Calls Try.prog 6 #[.slice a1 la c1, .slice a2 lb c2, .int .i64 n] w fun e w' => e = .returned (.bool true) ∧ Below w.heap.size w w' := by
  have HXA := Lib.hid hxa
  have HXB := Lib.hid hxb
  obtain ⟨n1, n2, n3⟩ := hA.out.norm kok
  have N1 := Lib.hid n1
  have N2 : Hid (hs (uniC A) n = false) := Lib.hid (n2.trans hxa)
  have N3 := Lib.hid n3
  clear n1 n2 n3
  obtain ⟨m1, m2, m3, m4⟩ := hA.out.no kck
  have M1 := Lib.hid m1
  have M2 := Lib.hid m2
  have M3 := Lib.hid m3
  have M4 : Hid (hs (notC A) n = (!false)) := Lib.hid (by rw [m4, decide_eq_true hn0, decide_eq_true hn1, hxa]; rfl)
  clear m1 m2 m3 m4
  obtain ⟨q1, q2, q3, q4, q5, q6⟩ := hB.out.yes kck kcb
  have Q1 := Lib.hid q1
  have Q2 := Lib.hid q2
  have Q3 := Lib.hid q3
  have Q4 := Lib.hid q4
  have Q5 : Hid (hs (orC A B) n = (false || false)) := Lib.hid (by rw [q5, hxa, hxb])
  have Q6 : Hid (hs (andC A B) n = (false && false)) := Lib.hid (by rw [q6, hxa, hxb])
  clear q1 q2 q3 q4 q5 q6
  clear hA hB hxa hxb kok kck kcb
  have S0 := Lib.hid (((St.start w).put hs2.out).put hs1.out)
  go_enter Try.func6, Try.ntmps6
  go_wp2_with fail
  refine (alive_any _).mono ?_
  rintro e w1 ⟨rfl, b1⟩
  have S1 := Lib.hid (S0.out.step b1)
  clear b1
  go_wp2_with fail
  refine (norm_st S1.out (L := A) (by simp) N1.out).mono ?_
  rintro e w2 ⟨u2, rfl, s2⟩
  have S2 := Lib.hid s2
  clear s2
  go_wp2_with fail
  refine (has_st S2.out (L := uniC A) (by simp) N2.out).mono ?_
  rintro e w3 ⟨rfl, s3⟩
  have S3 := Lib.hid s3
  clear s3
  go_wp2_with fail
  refine (has_st S3.out (L := A) (by simp) HXA.out).mono ?_
  rintro e w4 ⟨rfl, s4⟩
  have S4 := Lib.hid s4
  clear s4
  go_wp2_with fail
  refine (check_st S4.out (L := uniC A) (by simp) N3.out).mono ?_
  rintro e w5 ⟨rfl, s5⟩
  have S5 := Lib.hid s5
  clear s5
  go_wp2_with fail
  refine (not_st S5.out (L := A) (by simp) M1.out).mono ?_
  rintro e w6 ⟨u6, rfl, s6⟩
  have S6 := Lib.hid s6
  clear s6
  go_wp2_with fail
  refine (not_st S6.out (L := notC A) (by simp) M2.out).mono ?_
  rintro e w7 ⟨u7, rfl, s7⟩
  have S7 := Lib.hid s7
  clear s7
  go_wp2_with fail
  refine (has_st S7.out (L := notC A) (by simp) M4.out).mono ?_
  rintro e w8 ⟨rfl, s8⟩
  have S8 := Lib.hid s8
  clear s8
  go_wp2_with fail
  refine (has_st S8.out (L := A) (by simp) HXA.out).mono ?_
  rintro e w9 ⟨rfl, s9⟩
  have S9 := Lib.hid s9
  clear s9
  go_wp2_with fail
  refine (rsame_st S9.out (L := A) (P := A) (by simp) (by simp) (decide_eq_true rfl)).mono ?_
  rintro e w10 ⟨rfl, s10⟩
  have S10 := Lib.hid s10
  clear s10
  go_wp2_with fail
  refine (check_st S10.out (L := notC A) (by simp) M3.out).mono ?_
  rintro e w11 ⟨rfl, s11⟩
  have S11 := Lib.hid s11
  clear s11
  go_wp2_with fail
  refine (or_st S11.out (L := A) (P := B) (by simp) (by simp) Q1.out).mono ?_
  rintro e w12 ⟨u12, rfl, s12⟩
  have S12 := Lib.hid s12
  clear s12
  go_wp2_with fail
  refine (and_st S12.out (L := A) (P := B) (by simp) (by simp) Q2.out).mono ?_
  rintro e w13 ⟨u13, rfl, s13⟩
  have S13 := Lib.hid s13
  clear s13
  go_wp2_with fail
  refine (check_st S13.out (L := orC A B) (by simp) Q3.out).mono ?_
  rintro e w14 ⟨rfl, s14⟩
  have S14 := Lib.hid s14
  clear s14
  go_wp2_with fail
  refine (check_st S14.out (L := andC A B) (by simp) Q4.out).mono ?_
  rintro e w15 ⟨rfl, s15⟩
  have S15 := Lib.hid s15
  clear s15
  go_wp2_with fail
  refine (has_st S15.out (L := orC A B) (by simp) Q5.out).mono ?_
  rintro e w16 ⟨rfl, s16⟩
  have S16 := Lib.hid s16
  clear s16
  go_wp2_with fail
  refine (has_st S16.out (L := A) (by simp) HXA.out).mono ?_
  rintro e w17 ⟨rfl, s17⟩
  have S17 := Lib.hid s17
  clear s17
  go_wp2_with fail
  refine (has_st S17.out (L := B) (by simp) HXB.out).mono ?_
  rintro e w18 ⟨rfl, s18⟩
  have S18 := Lib.hid s18
  clear s18
  go_wp2_with fail
  refine (has_st S18.out (L := andC A B) (by simp) Q6.out).mono ?_
  rintro e w19 ⟨rfl, s19⟩
  have S19 := Lib.hid s19
  clear s19
  go_wp2_with fail
  refine (has_st S19.out (L := A) (by simp) HXA.out).mono ?_
  rintro e w20 ⟨rfl, s20⟩
  have S20 := Lib.hid s20
  clear s20
  go_wp2_with fail
  go_ret
  exact ⟨rfl, S20.out.1⟩
set_option maxRecDepth 20000 in
theorem have_in_True_True_True_false_true (a1 a2 : Option Addr) (c1 c2 la lb : Nat) (A B : List Rg) (n : Int) (w : World) (hs1 : Hid (SlR w (.slice a1 la c1) A)) (hs2 : Hid (SlR w (.slice a2 lb c2) B)) (h1 : ¬ (100 : Int) < (la : Int)) (h2 : ¬ (100 : Int) < (lb : Int)) (hA : Hid (HaveA A n)) (hB : Hid (HaveB A B n)) (hxa : hs A n = false) (hxb : hs B n = true) (hn0 : 0 ≤ n) (hn1 : n ≤ 1114111) (kok : A.all okR = true) (kck : ckL A = true) (kcb : ckL B = true) :
    Calls Try.prog 6 #[.slice a1 la c1, .slice a2 lb c2, .int .i64 n] w fun e w' => e = .returned (.bool true) ∧ Below w.heap.size w w' := by
  have HXA := Lib.hid hxa
  have HXB := Lib.hid hxb
  obtain ⟨n1, n2, n3⟩ := hA.out.norm kok
  have N1 := Lib.hid n1
  have N2 : Hid (hs (uniC A) n = false) := Lib.hid (n2.trans hxa)
  have N3 := Lib.hid n3
  clear n1 n2 n3
  obtain ⟨m1, m2, m3, m4⟩ := hA.out.no kck
  have M1 := Lib.hid m1
  have M2 := Lib.hid m2
  have M3 := Lib.hid m3
  have M4 : Hid (hs (notC A) n = (!false)) := Lib.hid (by rw [m4, decide_eq_true hn0, decide_eq_true hn1, hxa]; rfl)
  clear m1 m2 m3 m4
  obtain ⟨q1, q2, q3, q4, q5, q6⟩ := hB.out.yes kck kcb
  have Q1 := Lib.hid q1
  have Q2 := Lib.hid q2
  have Q3 := Lib.hid q3
  have Q4 := Lib.hid q4
  have Q5 : Hid (hs (orC A B) n = (false || true)) := Lib.hid (by rw [q5, hxa, hxb])
  have Q6 : Hid (hs (andC A B) n = (false && true)) := Lib.hid (by rw [q6, hxa, hxb])
  clear q1 q2 q3 q4 q5 q6
  clear hA hB hxa hxb kok kck kcb
  have S0 := Lib.hid (((St.start w).put hs2.out).put hs1.out)
  go_enter Try.func6, Try.ntmps6
  go_wp2_with fail
  refine (alive_any _).mono ?_
  rintro e w1 ⟨rfl, b1⟩
  have S1 := Lib.hid (S0.out.step b1)
  clear b1
  go_wp2_with fail
  refine (norm_st S1.out (L := A) (by simp) N1.out).mono ?_
  rintro e w2 ⟨u2, rfl, s2⟩
  have S2 := Lib.hid s2
  clear s2
  go_wp2_with fail
  refine (has_st S2.out (L := uniC A) (by simp) N2.out).mono ?_
  rintro e w3 ⟨rfl, s3⟩
  have S3 := Lib.hid s3
  clear s3
  go_wp2_with fail
  refine (has_st S3.out (L := A) (by simp) HXA.out).mono ?_
  rintro e w4 ⟨rfl, s4⟩
  have S4 := Lib.hid s4
  clear s4
  go_wp2_with fail
  refine (check_st S4.out (L := uniC A) (by simp) N3.out).mono ?_
  rintro e w5 ⟨rfl, s5⟩
  have S5 := Lib.hid s5
  clear s5
  go_wp2_with fail
  refine (not_st S5.out (L := A) (by simp) M1.out).mono ?_
  rintro e w6 ⟨u6, rfl, s6⟩
  have S6 := Lib.hid s6
  clear s6
  go_wp2_with fail
  refine (not_st S6.out (L := notC A) (by simp) M2.out).mono ?_
  rintro e w7 ⟨u7, rfl, s7⟩
  have S7 := Lib.hid s7
  clear s7
  go_wp2_with fail
  refine (has_st S7.out (L := notC A) (by simp) M4.out).mono ?_
  rintro e w8 ⟨rfl, s8⟩
  have S8 := Lib.hid s8
  clear s8
  go_wp2_with fail
  refine (has_st S8.out (L := A) (by simp) HXA.out).mono ?_
  rintro e w9 ⟨rfl, s9⟩
  have S9 := Lib.hid s9
  clear s9
  go_wp2_with fail
  refine (rsame_st S9.out (L := A) (P := A) (by simp) (by simp) (decide_eq_true rfl)).mono ?_
  rintro e w10 ⟨rfl, s10⟩
  have S10 := Lib.hid s10
  clear s10
  go_wp2_with fail
  refine (check_st S10.out (L := notC A) (by simp) M3.out).mono ?_
  rintro e w11 ⟨rfl, s11⟩
  have S11 := Lib.hid s11
  clear s11
  go_wp2_with fail
  refine (or_st S11.out (L := A) (P := B) (by simp) (by simp) Q1.out).mono ?_
  rintro e w12 ⟨u12, rfl, s12⟩
  have S12 := Lib.hid s12
  clear s12
  go_wp2_with fail
  refine (and_st S12.out (L := A) (P := B) (by simp) (by simp) Q2.out).mono ?_
  rintro e w13 ⟨u13, rfl, s13⟩
  have S13 := Lib.hid s13
  clear s13
  go_wp2_with fail
  refine (check_st S13.out (L := orC A B) (by simp) Q3.out).mono ?_
  rintro e w14 ⟨rfl, s14⟩
  have S14 := Lib.hid s14
  clear s14
  go_wp2_with fail
  refine (check_st S14.out (L := andC A B) (by simp) Q4.out).mono ?_
  rintro e w15 ⟨rfl, s15⟩
  have S15 := Lib.hid s15
  clear s15
  go_wp2_with fail
  refine (has_st S15.out (L := orC A B) (by simp) Q5.out).mono ?_
  rintro e w16 ⟨rfl, s16⟩
  have S16 := Lib.hid s16
  clear s16
  go_wp2_with fail
  refine (has_st S16.out (L := A) (by simp) HXA.out).mono ?_
  rintro e w17 ⟨rfl, s17⟩
  have S17 := Lib.hid s17
  clear s17
  go_wp2_with fail
  refine (has_st S17.out (L := B) (by simp) HXB.out).mono ?_
  rintro e w18 ⟨rfl, s18⟩
  have S18 := Lib.hid s18
  clear s18
  go_wp2_with fail
  refine (has_st S18.out (L := andC A B) (by simp) Q6.out).mono ?_
  rintro e w19 ⟨rfl, s19⟩
  have S19 := Lib.hid s19
  clear s19
  go_wp2_with fail
  refine (has_st S19.out (L := A) (by simp) HXA.out).mono ?_
  rintro e w20 ⟨rfl, s20⟩
  have S20 := Lib.hid s20
  clear s20
  go_wp2_with fail
  go_ret
  exact ⟨rfl, S20.out.1⟩
set_option maxRecDepth 20000 in
theorem have_in_True_True_True_true_false (a1 a2 : Option Addr) (c1 c2 la lb : Nat) (A B : List Rg) (n : Int) (w : World) (hs1 : Hid (SlR w (.slice a1 la c1) A)) (hs2 : Hid (SlR w (.slice a2 lb c2) B)) (h1 : ¬ (100 : Int) < (la : Int)) (h2 : ¬ (100 : Int) < (lb : Int)) (hA : Hid (HaveA A n)) (hB : Hid (HaveB A B n)) (hxa : hs A n = true) (hxb : hs B n = false) (hn0 : 0 ≤ n) (hn1 : n ≤ 1114111) (kok : A.all okR = true) (kck : ckL A = true) (kcb : ckL B = true) :
    Calls Try.prog 6 #[.slice a1 la c1, .slice a2 lb c2, .int .i64 n] w fun e w' => e = .returned (.bool true) ∧ Below w.heap.size w w' := by
  have HXA := Lib.hid hxa
  have HXB := Lib.hid hxb
  obtain ⟨n1, n2, n3⟩ := hA.out.norm kok
  have N1 := Lib.hid n1
  have N2 : Hid (hs (uniC A) n = true) := Lib.hid (n2.trans hxa)
  have N3 := Lib.hid n3
  clear n1 n2 n3
  obtain ⟨m1, m2, m3, m4⟩ := hA.out.no kck
  have M1 := Lib.hid m1
  have M2 := Lib.hid m2
  have M3 := Lib.hid m3
  have M4 : Hid (hs (notC A) n = (!true)) := Lib.hid (by rw [m4, decide_eq_true hn0, decide_eq_true hn1, hxa]; rfl)
  clear m1 m2 m3 m4
  obtain ⟨q1, q2, q3, q4, q5, q6⟩ := hB.out.yes kck kcb
  have Q1 := Lib.hid q1
  have Q2 := Lib.hid q2
  have Q3 := Lib.hid q3
  have Q4 := Lib.hid q4
  have Q5 : Hid (hs (orC A B) n = (true || false)) := Lib.hid (by rw [q5, hxa, hxb])
  have Q6 : Hid (hs (andC A B) n = (true && false)) := Lib.hid (by rw [q6, hxa, hxb])
  clear q1 q2 q3 q4 q5 q6
  clear hA hB hxa hxb kok kck kcb
  have S0 := Lib.hid (((St.start w).put hs2.out).put hs1.out)
  go_enter Try.func6, Try.ntmps6
  go_wp2_with fail
  refine (alive_any _).mono ?_
  rintro e w1 ⟨rfl, b1⟩
  have S1 := Lib.hid (S0.out.step b1)
  clear b1
  go_wp2_with fail
  refine (norm_st S1.out (L := A) (by simp) N1.out).mono ?_
  rintro e w2 ⟨u2, rfl, s2⟩
  have S2 := Lib.hid s2
  clear s2
  go_wp2_with fail
  refine (has_st S2.out (L := uniC A) (by simp) N2.out).mono ?_
  rintro e w3 ⟨rfl, s3⟩
  have S3 := Lib.hid s3
  clear s3
  go_wp2_with fail
  refine (has_st S3.out (L := A) (by simp) HXA.out).mono ?_
  rintro e w4 ⟨rfl, s4⟩
  have S4 := Lib.hid s4
  clear s4
  go_wp2_with fail
  refine (check_st S4.out (L := uniC A) (by simp) N3.out).mono ?_
  rintro e w5 ⟨rfl, s5⟩
  have S5 := Lib.hid s5
  clear s5
  go_wp2_with fail
  refine (not_st S5.out (L := A) (by simp) M1.out).mono ?_
  rintro e w6 ⟨u6, rfl, s6⟩
  have S6 := Lib.hid s6
  clear s6
  go_wp2_with fail
  refine (not_st S6.out (L := notC A) (by simp) M2.out).mono ?_
  rintro e w7 ⟨u7, rfl, s7⟩
  have S7 := Lib.hid s7
  clear s7
  go_wp2_with fail
  refine (has_st S7.out (L := notC A) (by simp) M4.out).mono ?_
  rintro e w8 ⟨rfl, s8⟩
  have S8 := Lib.hid s8
  clear s8
  go_wp2_with fail
  refine (has_st S8.out (L := A) (by simp) HXA.out).mono ?_
  rintro e w9 ⟨rfl, s9⟩
  have S9 := Lib.hid s9
  clear s9
  go_wp2_with fail
  refine (rsame_st S9.out (L := A) (P := A) (by simp) (by simp) (decide_eq_true rfl)).mono ?_
  rintro e w10 ⟨rfl, s10⟩
  have S10 := Lib.hid s10
  clear s10
  go_wp2_with fail
  refine (check_st S10.out (L := notC A) (by simp) M3.out).mono ?_
  rintro e w11 ⟨rfl, s11⟩
  have S11 := Lib.hid s11
  clear s11
  go_wp2_with fail
  refine (or_st S11.out (L := A) (P := B) (by simp) (by simp) Q1.out).mono ?_
  rintro e w12 ⟨u12, rfl, s12⟩
  have S12 := Lib.hid s12
  clear s12
  go_wp2_with fail
  refine (and_st S12.out (L := A) (P := B) (by simp) (by simp) Q2.out).mono ?_
  rintro e w13 ⟨u13, rfl, s13⟩
  have S13 := Lib.hid s13
  clear s13
  go_wp2_with fail
  refine (check_st S13.out (L := orC A B) (by simp) Q3.out).mono ?_
  rintro e w14 ⟨rfl, s14⟩
  have S14 := Lib.hid s14
  clear s14
  go_wp2_with fail
  refine (check_st S14.out (L := andC A B) (by simp) Q4.out).mono ?_
  rintro e w15 ⟨rfl, s15⟩
  have S15 := Lib.hid s15
  clear s15
  go_wp2_with fail
  refine (has_st S15.out (L := orC A B) (by simp) Q5.out).mono ?_
  rintro e w16 ⟨rfl, s16⟩
  have S16 := Lib.hid s16
  clear s16
  go_wp2_with fail
  refine (has_st S16.out (L := A) (by simp) HXA.out).mono ?_
  rintro e w17 ⟨rfl, s17⟩
  have S17 := Lib.hid s17
  clear s17
  go_wp2_with fail
  refine (has_st S17.out (L := andC A B) (by simp) Q6.out).mono ?_
  rintro e w18 ⟨rfl, s18⟩
  have S18 := Lib.hid s18
  clear s18
  go_wp2_with fail
  refine (has_st S18.out (L := A) (by simp) HXA.out).mono ?_
  rintro e w19 ⟨rfl, s19⟩
  have S19 := Lib.hid s19
  clear s19
  go_wp2_with fail
  refine (has_st S19.out (L := B) (by simp) HXB.out).mono ?_
  rintro e w20 ⟨rfl, s20⟩
  have S20 := Lib.hid s20
  clear s20
  go_wp2_with fail
  go_ret
  exact ⟨rfl, S20.out.1⟩
set_option maxRecDepth 20000 in
theorem have_in_True_True_True_true_true (a1 a2 : Option Addr) (c1 c2 la lb : Nat) (A B : List Rg) (n : Int) (w : World) (hs1 : Hid (SlR w (.slice a1 la c1) A)) (hs2 : Hid (SlR w (.slice a2 lb c2) B)) (h1 : ¬ (100 : Int) < (la : Int)) (h2 : ¬ (100 : Int) < (lb : Int)) (hA : Hid (HaveA A n)) (hB : Hid (HaveB A B n)) (hxa : hs A n = true) (hxb : hs B n = true) (hn0 : 0 ≤ n) (hn1 : n ≤ 1114111) (kok : A.all okR = true) (kck : ckL A = true) (kcb : ckL B = true) :
    Calls Try.prog 6 #[.slice a1 la c1, .slice a2 lb c2, .int .i64 n] w fun e w' => e = .returned (.bool true) ∧ Below w.heap.size w w' := by
  have HXA := Lib.hid hxa
  have HXB := Lib.hid hxb
  obtain ⟨n1, n2, n3⟩ := hA.out.norm kok
  have N1 := Lib.hid n1
  have N2 : Hid (hs (uniC A) n = true) := Lib.hid (n2.trans hxa)
  have N3 := Lib.hid n3
  clear n1 n2 n3
  obtain ⟨m1, m2, m3, m4⟩ := hA.out.no kck
  have M1 := Lib.hid m1
  have M2 := Lib.hid m2
  have M3 := Lib.hid m3
  have M4 : Hid (hs (notC A) n = (!true)) := Lib.hid (by rw [m4, decide_eq_true hn0, decide_eq_true hn1, hxa]; rfl)
  clear m1 m2 m3 m4
  obtain ⟨q1, q2, q3, q4, q5, q6⟩ := hB.out.yes kck kcb
  have Q1 := Lib.hid q1
  have Q2 := Lib.hid q2
  have Q3 := Lib.hid q3
  have Q4 := Lib.hid q4
  have Q5 : Hid (hs (orC A B) n = (true || true)) := Lib.hid (by rw [q5, hxa, hxb])
  have Q6 : Hid (hs (andC A B) n = (true && true)) := Lib.hid (by rw [q6, hxa, hxb])
  clear q1 q2 q3 q4 q5 q6
  clear hA hB hxa hxb kok kck kcb
  have S0 := Lib.hid (((St.start w).put hs2.out).put hs1.out)
  go_enter Try.func6, Try.ntmps6
  go_wp2_with fail
  refine (alive_any _).mono ?_
  rintro e w1 ⟨rfl, b1⟩
  have S1 := Lib.hid (S0.out.step b1)
  clear b1
  go_wp2_with fail
  refine (norm_st S1.out (L := A) (by simp) N1.out).mono ?_
  rintro e w2 ⟨u2, rfl, s2⟩
  have S2 := Lib.hid s2
  clear s2
  go_wp2_with fail
  refine (has_st S2.out (L := uniC A) (by simp) N2.out).mono ?_
  rintro e w3 ⟨rfl, s3⟩
  have S3 := Lib.hid s3
  clear s3
  go_wp2_with fail
  refine (has_st S3.out (L := A) (by simp) HXA.out).mono ?_
  rintro e w4 ⟨rfl, s4⟩
  have S4 := Lib.hid s4
  clear s4
  go_wp2_with fail
  refine (check_st S4.out (L := uniC A) (by simp) N3.out).mono ?_
  rintro e w5 ⟨rfl, s5⟩
  have S5 := Lib.hid s5
  clear s5
  go_wp2_with fail
  refine (not_st S5.out (L := A) (by simp) M1.out).mono ?_
  rintro e w6 ⟨u6, rfl, s6⟩
  have S6 := Lib.hid s6
  clear s6
  go_wp2_with fail
  refine (not_st S6.out (L := notC A) (by simp) M2.out).mono ?_
  rintro e w7 ⟨u7, rfl, s7⟩
  have S7 := Lib.hid s7
  clear s7
  go_wp2_with fail
  refine (has_st S7.out (L := notC A) (by simp) M4.out).mono ?_
  rintro e w8 ⟨rfl, s8⟩
  have S8 := Lib.hid s8
  clear s8
  go_wp2_with fail
  refine (has_st S8.out (L := A) (by simp) HXA.out).mono ?_
  rintro e w9 ⟨rfl, s9⟩
  have S9 := Lib.hid s9
  clear s9
  go_wp2_with fail
  refine (rsame_st S9.out (L := A) (P := A) (by simp) (by simp) (decide_eq_true rfl)).mono ?_
  rintro e w10 ⟨rfl, s10⟩
  have S10 := Lib.hid s10
  clear s10
  go_wp2_with fail
  refine (check_st S10.out (L := notC A) (by simp) M3.out).mono ?_
  rintro e w11 ⟨rfl, s11⟩
  have S11 := Lib.hid s11
  clear s11
  go_wp2_with fail
  refine (or_st S11.out (L := A) (P := B) (by simp) (by simp) Q1.out).mono ?_
  rintro e w12 ⟨u12, rfl, s12⟩
  have S12 := Lib.hid s12
  clear s12
  go_wp2_with fail
  refine (and_st S12.out (L := A) (P := B) (by simp) (by simp) Q2.out).mono ?_
  rintro e w13 ⟨u13, rfl, s13⟩
  have S13 := Lib.hid s13
  clear s13
  go_wp2_with fail
  refine (check_st S13.out (L := orC A B) (by simp) Q3.out).mono ?_
  rintro e w14 ⟨rfl, s14⟩
  have S14 := Lib.hid s14
  clear s14
  go_wp2_with fail
  refine (check_st S14.out (L := andC A B) (by simp) Q4.out).mono ?_
  rintro e w15 ⟨rfl, s15⟩
  have S15 := Lib.hid s15
  clear s15
  go_wp2_with fail
  refine (has_st S15.out (L := orC A B) (by simp) Q5.out).mono ?_
  rintro e w16 ⟨rfl, s16⟩
  have S16 := Lib.hid s16
  clear s16
  go_wp2_with fail
  refine (has_st S16.out (L := A) (by simp) HXA.out).mono ?_
  rintro e w17 ⟨rfl, s17⟩
  have S17 := Lib.hid s17
  clear s17
  go_wp2_with fail
  refine (has_st S17.out (L := andC A B) (by simp) Q6.out).mono ?_
  rintro e w18 ⟨rfl, s18⟩
  have S18 := Lib.hid s18
  clear s18
  go_wp2_with fail
  refine (has_st S18.out (L := A) (by simp) HXA.out).mono ?_
  rintro e w19 ⟨rfl, s19⟩
  have S19 := Lib.hid s19
  clear s19
  go_wp2_with fail
  refine (has_st S19.out (L := B) (by simp) HXB.out).mono ?_
  rintro e w20 ⟨rfl, s20⟩
  have S20 := Lib.hid s20
  clear s20
  go_wp2_with fail
  go_ret
  exact ⟨rfl, S20.out.1⟩
set_option maxRecDepth 20000 in
theorem have_in_True_True_False_false_false (a1 a2 : Option Addr) (c1 c2 la lb : Nat) (A B : List Rg) (n : Int) (w : World) (hs1 : Hid (SlR w (.slice a1 la c1) A)) (hs2 : Hid (SlR w (.slice a2 lb c2) B)) (h1 : ¬ (100 : Int) < (la : Int)) (h2 : ¬ (100 : Int) < (lb : Int)) (hA : Hid (HaveA A n)) (hB : Hid (HaveB A B n)) (hxa : hs A n = false) (hxb : hs B n = false) (hn0 : 0 ≤ n) (hn1 : n ≤ 1114111) (kok : A.all okR = true) (kck : ckL A = true) (kcb : ckL B = false) :
    Calls Try.prog 6 #[.slice a1 la c1, .slice a2 lb c2, .int .i64 n] w fun e w' => e = .returned (.bool true) ∧ Below w.heap.size w w' := by
  have HXA := Lib.hid hxa
  have HXB := Lib.hid hxb
  obtain ⟨n1, n2, n3⟩ := hA.out.norm kok
  have N1 := Lib.hid n1
  have N2 : Hid (hs (uniC A) n = false) := Lib.hid (n2.trans hxa)
  have N3 := Lib.hid n3
  clear n1 n2 n3
  obtain ⟨m1, m2, m3, m4⟩ := hA.out.no kck
  have M1 := Lib.hid m1
  have M2 := Lib.hid m2
  have M3 := Lib.hid m3
  have M4 : Hid (hs (notC A) n = (!false)) := Lib.hid (by rw [m4, decide_eq_true hn0, decide_eq_true hn1, hxa]; rfl)
  clear m1 m2 m3 m4
  obtain ⟨q1, q2⟩ := hB.out.no (.inr kcb)
  have Q1 := Lib.hid q1
  have Q2 := Lib.hid q2
  clear q1 q2
  clear hA hB hxa hxb kok kck kcb
  have S0 := Lib.hid (((St.start w).put hs2.out).put hs1.out)
  go_enter Try.func6, Try.ntmps6
  go_wp2_with fail
  refine (alive_any _).mono ?_
  rintro e w1 ⟨rfl, b1⟩
  have S1 := Lib.hid (S0.out.step b1)
  clear b1
  go_wp2_with fail
  refine (norm_st S1.out (L := A) (by simp) N1.out).mono ?_
  rintro e w2 ⟨u2, rfl, s2⟩
  have S2 := Lib.hid s2
  clear s2
  go_wp2_with fail
  refine (has_st S2.out (L := uniC A) (by simp) N2.out).mono ?_
  rintro e w3 ⟨rfl, s3⟩
  have S3 := Lib.hid s3
  clear s3
  go_wp2_with fail
  refine (has_st S3.out (L := A) (by simp) HXA.out).mono ?_
  rintro e w4 ⟨rfl, s4⟩
  have S4 := Lib.hid s4
  clear s4
  go_wp2_with fail
  refine (check_st S4.out (L := uniC A) (by simp) N3.out).mono ?_
  rintro e w5 ⟨rfl, s5⟩
  have S5 := Lib.hid s5
  clear s5
  go_wp2_with fail
  refine (not_st S5.out (L := A) (by simp) M1.out).mono ?_
  rintro e w6 ⟨u6, rfl, s6⟩
  have S6 := Lib.hid s6
  clear s6
  go_wp2_with fail
  refine (not_st S6.out (L := notC A) (by simp) M2.out).mono ?_
  rintro e w7 ⟨u7, rfl, s7⟩
  have S7 := Lib.hid s7
  clear s7
  go_wp2_with fail
  refine (has_st S7.out (L := notC A) (by simp) M4.out).mono ?_
  rintro e w8 ⟨rfl, s8⟩
  have S8 := Lib.hid s8
  clear s8
  go_wp2_with fail
  refine (has_st S8.out (L := A) (by simp) HXA.out).mono ?_
  rintro e w9 ⟨rfl, s9⟩
  have S9 := Lib.hid s9
  clear s9
  go_wp2_with fail
  refine (rsame_st S9.out (L := A) (P := A) (by simp) (by simp) (decide_eq_true rfl)).mono ?_
  rintro e w10 ⟨rfl, s10⟩
  have S10 := Lib.hid s10
  clear s10
  go_wp2_with fail
  refine (check_st S10.out (L := notC A) (by simp) M3.out).mono ?_
  rintro e w11 ⟨rfl, s11⟩
  have S11 := Lib.hid s11
  clear s11
  go_wp2_with fail
  refine (or_st S11.out (L := A) (P := B) (by simp) (by simp) Q1.out).mono ?_
  rintro e w12 ⟨u12, rfl, s12⟩
  have S12 := Lib.hid s12
  obtain ⟨p12, r12, rfl, _⟩ := s12.get (List.mem_cons_self ..)
  rw [show ([] : List Rg).length = 0 from rfl] at *
  clear s12
  go_wp2_with fail
  refine (and_st S12.out (L := A) (P := B) (by simp) (by simp) Q2.out).mono ?_
  rintro e w13 ⟨u13, rfl, s13⟩
  have S13 := Lib.hid s13
  obtain ⟨p13, r13, rfl, _⟩ := s13.get (List.mem_cons_self ..)
  rw [show ([] : List Rg).length = 0 from rfl] at *
  clear s13
  go_wp2_with fail
  go_ret
  exact ⟨rfl, S13.out.1⟩
set_option maxRecDepth 20000 in
theorem have_in_True_True_False_false_true (a1 a2 : Option Addr) (c1 c2 la lb : Nat) (A B : List Rg) (n : Int) (w : World) (hs1 : Hid (SlR w (.slice a1 la c1) A)) (hs2 : Hid (SlR w (.slice a2 lb c2) B)) (h1 : ¬ (100 : Int) < (la : Int)) (h2 : ¬ (100 : Int) < (lb : Int)) (hA : Hid (HaveA A n)) (hB : Hid (HaveB A B n)) (hxa : hs A n = false) (hxb : hs B n = true) (hn0 : 0 ≤ n) (hn1 : n ≤ 1114111) (kok : A.all okR = true) (kck : ckL A = true) (kcb : ckL B = false) :
    Calls Try.prog 6 #[.slice a1 la c1, .slice a2 lb c2, .int .i64 n] w fun e w' => e = .returned (.bool true) ∧ Below w.heap.size w w' := by
  have HXA := Lib.hid hxa
  have HXB := Lib.hid hxb
  obtain ⟨n1, n2, n3⟩ := hA.out.norm kok
  have N1 := Lib.hid n1
  have N2 : Hid (hs (uniC A) n = false) := Lib.hid (n2.trans hxa)
  have N3 := Lib.hid n3
  clear n1 n2 n3
  obtain ⟨m1, m2, m3, m4⟩ := hA.out.no kck
  have M1 := Lib.hid m1
  have M2 := Lib.hid m2
  have M3 := Lib.hid m3
  have M4 : Hid (hs (notC A) n = (!false)) := Lib.hid (by rw [m4, decide_eq_true hn0, decide_eq_true hn1, hxa]; rfl)
  clear m1 m2 m3 m4
  obtain ⟨q1, q2⟩ := hB.out.no (.inr kcb)
  have Q1 := Lib.hid q1
  have Q2 := Lib.hid q2
  clear q1 q2
  clear hA hB hxa hxb kok kck kcb
  have S0 := Lib.hid (((St.start w).put hs2.out).put hs1.out)
  go_enter Try.func6, Try.ntmps6
  go_wp2_with fail
  refine (alive_any _).mono ?_
  rintro e w1 ⟨rfl, b1⟩
  have S1 := Lib.hid (S0.out.step b1)
  clear b1
  go_wp2_with fail
  refine (norm_st S1.out (L := A) (by simp) N1.out).mono ?_
  rintro e w2 ⟨u2, rfl, s2⟩
  have S2 := Lib.hid s2
  clear s2
  go_wp2_with fail
  refine (has_st S2.out (L := uniC A) (by simp) N2.out).mono ?_
  rintro e w3 ⟨rfl, s3⟩
  have S3 := Lib.hid s3
  clear s3
  go_wp2_with fail
  refine (has_st S3.out (L := A) (by simp) HXA.out).mono ?_
  rintro e w4 ⟨rfl, s4⟩
  have S4 := Lib.hid s4
  clear s4
  go_wp2_with fail
  refine (check_st S4.out (L := uniC A) (by simp) N3.out).mono ?_
  rintro e w5 ⟨rfl, s5⟩
  have S5 := Lib.hid s5
  clear s5
  go_wp2_with fail
  refine (not_st S5.out (L := A) (by simp) M1.out).mono ?_
  rintro e w6 ⟨u6, rfl, s6⟩
  have S6 := Lib.hid s6
  clear s6
  go_wp2_with fail
  refine (not_st S6.out (L := notC A) (by simp) M2.out).mono ?_
  rintro e w7 ⟨u7, rfl, s7⟩
  have S7 := Lib.hid s7
  clear s7
  go_wp2_with fail
  refine (has_st S7.out (L := notC A) (by simp) M4.out).mono ?_
  rintro e w8 ⟨rfl, s8⟩
  have S8 := Lib.hid s8
  clear s8
  go_wp2_with fail
  refine (has_st S8.out (L := A) (by simp) HXA.out).mono ?_
  rintro e w9 ⟨rfl, s9⟩
  have S9 := Lib.hid s9
  clear s9
  go_wp2_with fail
  refine (rsame_st S9.out (L := A) (P := A) (by simp) (by simp) (decide_eq_true rfl)).mono ?_
  rintro e w10 ⟨rfl, s10⟩
  have S10 := Lib.hid s10
  clear s10
  go_wp2_with fail
  refine (check_st S10.out (L := notC A) (by simp) M3.out).mono ?_
  rintro e w11 ⟨rfl, s11⟩
  have S11 := Lib.hid s11
  clear s11
  go_wp2_with fail
  refine (or_st S11.out (L := A) (P := B) (by simp) (by simp) Q1.out).mono ?_
  rintro e w12 ⟨u12, rfl, s12⟩
  have S12 := Lib.hid s12
  obtain ⟨p12, r12, rfl, _⟩ := s12.get (List.mem_cons_self ..)
  rw [show ([] : List Rg).length = 0 from rfl] at *
  clear s12
  go_wp2_with fail
  refine (and_st S12.out (L := A) (P := B) (by simp) (by simp) Q2.out).mono ?_
  rintro e w13 ⟨u13, rfl, s13⟩
  have S13 := Lib.hid s13
  obtain ⟨p13, r13, rfl, _⟩ := s13.get (List.mem_cons_self ..)
  rw [show ([] : List Rg).length = 0 from rfl] at *
  clear s13
  go_wp2_with fail
  go_ret
  exact ⟨rfl, S13.out.1⟩
set_option maxRecDepth 20000 in
theorem have_in_True_True_False_true_false (a1 a2 : Option Addr) (c1 c2 la lb : Nat) (A B : List Rg) (n : Int) (w : World) (hs1 : Hid (SlR w (.slice a1 la c1) A)) (hs2 : Hid (SlR w (.slice a2 lb c2) B)) (h1 : ¬ (100 : Int) < (la : Int)) (h2 : ¬ (100 : Int) < (lb : Int)) (hA : Hid (HaveA A n)) (hB : Hid (HaveB A B n)) (hxa : hs A n = true) (hxb : hs B n = false) (hn0 : 0 ≤ n) (hn1 : n ≤ 1114111) (kok : A.all okR = true) (kck : ckL A = true) (kcb : ckL B = false) :
    Calls Try.prog 6 #[.slice a1 la c1, .slice a2 lb c2, .int .i64 n] w fun e w' => e = .returned (.bool true) ∧ Below w.heap.size w w' := by
  have HXA := Lib.hid hxa
  have HXB := Lib.hid hxb
  obtain ⟨n1, n2, n3⟩ := hA.out.norm kok
  have N1 := Lib.hid n1
  have N2 : Hid (hs (uniC A) n = true) := Lib.hid (n2.trans hxa)
  have N3 := Lib.hid n3
  clear n1 n2 n3
  obtain ⟨m1, m2, m3, m4⟩ := hA.out.no kck
  have M1 := Lib.hid m1
  have M2 := Lib.hid m2
  have M3 := Lib.hid m3
  have M4 : Hid (hs (notC A) n = (!true)) := Lib.hid (by rw [m4, decide_eq_true hn0, decide_eq_true hn1, hxa]; rfl)
  clear m1 m2 m3 m4
  obtain ⟨q1, q2⟩ := hB.out.no (.inr kcb)
  have Q1 := Lib.hid q1
  have Q2 := Lib.hid q2
  clear q1 q2
  clear hA hB hxa hxb kok kck kcb
  have S0 := Lib.hid (((St.start w).put hs2.out).put hs1.out)
  go_enter Try.func6, Try.ntmps6
  go_wp2_with fail
  refine (alive_any _).mono ?_
  rintro e w1 ⟨rfl, b1⟩
  have S1 := Lib.hid (S0.out.step b1)
  clear b1
  go_wp2_with fail
  refine (norm_st S1.out (L := A) (by simp) N1.out).mono ?_
  rintro e w2 ⟨u2, rfl, s2⟩
  have S2 := Lib.hid s2
  clear s2
  go_wp2_with fail
  refine (has_st S2.out (L := uniC A) (by simp) N2.out).mono ?_
  rintro e w3 ⟨rfl, s3⟩
  have S3 := Lib.hid s3
  clear s3
  go_wp2_with fail
  refine (has_st S3.out (L := A) (by simp) HXA.out).mono ?_
  rintro e w4 ⟨rfl, s4⟩
  have S4 := Lib.hid s4
  clear s4
  go_wp2_with fail
  refine (check_st S4.out (L := uniC A) (by simp) N3.out).mono ?_
  rintro e w5 ⟨rfl, s5⟩
  have S5 := Lib.hid s5
  clear s5
  go_wp2_with fail
  refine (not_st S5.out (L := A) (by simp) M1.out).mono ?_
  rintro e w6 ⟨u6, rfl, s6⟩
  have S6 := Lib.hid s6
  clear s6
  go_wp2_with fail
  refine (not_st S6.out (L := notC A) (by simp) M2.out).mono ?_
  rintro e w7 ⟨u7, rfl, s7⟩
  have S7 := Lib.hid s7
  clear s7
  go_wp2_with fail
  refine (has_st S7.out (L := notC A) (by simp) M4.out).mono ?_
  rintro e w8 ⟨rfl, s8⟩
  have S8 := Lib.hid s8
  clear s8
  go_wp2_with fail
  refine (has_st S8.out (L := A) (by simp) HXA.out).mono ?_
  rintro e w9 ⟨rfl, s9⟩
  have S9 := Lib.hid s9
  clear s9
  go_wp2_with fail
  refine (rsame_st S9.out (L := A) (P := A) (by simp) (by simp) (decide_eq_true rfl)).mono ?_
  rintro e w10 ⟨rfl, s10⟩
  have S10 := Lib.hid s10
  clear s10
  go_wp2_with fail
  refine (check_st S10.out (L := notC A) (by simp) M3.out).mono ?_
  rintro e w11 ⟨rfl, s11⟩
  have S11 := Lib.hid s11
  clear s11
  go_wp2_with fail
  refine (or_st S11.out (L := A) (P := B) (by simp) (by simp) Q1.out).mono ?_
  rintro e w12 ⟨u12, rfl, s12⟩
  have S12 := Lib.hid s12
  obtain ⟨p12, r12, rfl, _⟩ := s12.get (List.mem_cons_self ..)
  rw [show ([] : List Rg).length = 0 from rfl] at *
  clear s12
  go_wp2_with fail
  refine (and_st S12.out (L := A) (P := B) (by simp) (by simp) Q2.out).mono ?_
  rintro e w13 ⟨u13, rfl, s13⟩
  have S13 := Lib.hid s13
  obtain ⟨p13, r13, rfl, _⟩ := s13.get (List.mem_cons_self ..)
  rw [show ([] : List Rg).length = 0 from rfl] at *
  clear s13
  go_wp2_with fail
  go_ret
  exact ⟨rfl, S13.out.1⟩
set_option maxRecDepth 20000 in
theorem have_in_True_True_False_true_true (a1 a2 : Option Addr) (c1 c2 la lb : Nat) (A B : List Rg) (n : Int) (w : World) (hs1 : Hid (SlR w (.slice a1 la c1) A)) (hs2 : Hid (SlR w (.slice a2 lb c2) B)) (h1 : ¬ (100 : Int) < (la : Int)) (h2 : ¬ (100 : Int) < (lb : Int)) (hA : Hid (HaveA A n)) (hB : Hid (HaveB A B n)) (hxa : hs A n = true) (hxb : hs B n = true) (hn0 : 0 ≤ n) (hn1 : n ≤ 1114111) (kok : A.all okR = true) (kck : ckL A = true) (kcb : ckL B = false) :
    Calls Try.prog 6 #[.slice a1 la c1, .slice a2 lb c2, .int .i64 n] w fun e w' => e = .returned (.bool true) ∧ Below w.heap.size w w' := by
  have HXA := Lib.hid hxa
  have HXB := Lib.hid hxb
  obtain ⟨n1, n2, n3⟩ := hA.out.norm kok
  have N1 := Lib.hid n1
  have N2 : Hid (hs (uniC A) n = true) := Lib.hid (n2.trans hxa)
  have N3 := Lib.hid n3
  clear n1 n2 n3
  obtain ⟨m1, m2, m3, m4⟩ := hA.out.no kck
  have M1 := Lib.hid m1
  have M2 := Lib.hid m2
  have M3 := Lib.hid m3
  have M4 : Hid (hs (notC A) n = (!true)) := Lib.hid (by rw [m4, decide_eq_true hn0, decide_eq_true hn1, hxa]; rfl)
  clear m1 m2 m3 m4
  obtain ⟨q1, q2⟩ := hB.out.no (.inr kcb)
  have Q1 := Lib.hid q1
  have Q2 := Lib.hid q2
  clear q1 q2
  clear hA hB hxa hxb kok kck kcb
  have S0 := Lib.hid (((St.start w).put hs2.out).put hs1.out)
  go_enter Try.func6, Try.ntmps6
  go_wp2_with fail
  refine (alive_any _).mono ?_
  rintro e w1 ⟨rfl, b1⟩
  have S1 := Lib.hid (S0.out.step b1)
  clear b1
  go_wp2_with fail
  refine (norm_st S1.out (L := A) (by simp) N1.out).mono ?_
  rintro e w2 ⟨u2, rfl, s2⟩
  have S2 := Lib.hid s2
  clear s2
  go_wp2_with fail
  refine (has_st S2.out (L := uniC A) (by simp) N2.out).mono ?_
  rintro e w3 ⟨rfl, s3⟩
  have S3 := Lib.hid s3
  clear s3
  go_wp2_with fail
  refine (has_st S3.out (L := A) (by simp) HXA.out).mono ?_
  rintro e w4 ⟨rfl, s4⟩
  have S4 := Lib.hid s4
  clear s4
  go_wp2_with fail
  refine (check_st S4.out (L := uniC A) (by simp) N3.out).mono ?_
  rintro e w5 ⟨rfl, s5⟩
  have S5 := Lib.hid s5
  clear s5
  go_wp2_with fail
  refine (not_st S5.out (L := A) (by simp) M1.out).mono ?_
  rintro e w6 ⟨u6, rfl, s6⟩
  have S6 := Lib.hid s6
  clear s6
  go_wp2_with fail
  refine (not_st S6.out (L := notC A) (by simp) M2.out).mono ?_
  rintro e w7 ⟨u7, rfl, s7⟩
  have S7 := Lib.hid s7
  clear s7
  go_wp2_with fail
  refine (has_st S7.out (L := notC A) (by simp) M4.out).mono ?_
  rintro e w8 ⟨rfl, s8⟩
  have S8 := Lib.hid s8
  clear s8
  go_wp2_with fail
  refine (has_st S8.out (L := A) (by simp) HXA.out).mono ?_
  rintro e w9 ⟨rfl, s9⟩
  have S9 := Lib.hid s9
  clear s9
  go_wp2_with fail
  refine (rsame_st S9.out (L := A) (P := A) (by simp) (by simp) (decide_eq_true rfl)).mono ?_
  rintro e w10 ⟨rfl, s10⟩
  have S10 := Lib.hid s10
  clear s10
  go_wp2_with fail
  refine (check_st S10.out (L := notC A) (by simp) M3.out).mono ?_
  rintro e w11 ⟨rfl, s11⟩
  have S11 := Lib.hid s11
  clear s11
  go_wp2_with fail
  refine (or_st S11.out (L := A) (P := B) (by simp) (by simp) Q1.out).mono ?_
  rintro e w12 ⟨u12, rfl, s12⟩
  have S12 := Lib.hid s12
  obtain ⟨p12, r12, rfl, _⟩ := s12.get (List.mem_cons_self ..)
  rw [show ([] : List Rg).length = 0 from rfl] at *
  clear s12
  go_wp2_with fail
  refine (and_st S12.out (L := A) (P := B) (by simp) (by simp) Q2.out).mono ?_
  rintro e w13 ⟨u13, rfl, s13⟩
  have S13 := Lib.hid s13
  obtain ⟨p13, r13, rfl, _⟩ := s13.get (List.mem_cons_self ..)
  rw [show ([] : List Rg).length = 0 from rfl] at *
  clear s13
  go_wp2_with fail
  go_ret
  exact ⟨rfl, S13.out.1⟩
set_option maxRecDepth 20000 in
theorem have_in_True_False_False_false_false (a1 a2 : Option Addr) (c1 c2 la lb : Nat) (A B : List Rg) (n : Int) (w : World) (hs1 : Hid (SlR w (.slice a1 la c1) A)) (hs2 : Hid (SlR w (.slice a2 lb c2) B)) (h1 : ¬ (100 : Int) < (la : Int)) (h2 : ¬ (100 : Int) < (lb : Int)) (hA : Hid (HaveA A n)) (hB : Hid (HaveB A B n)) (hxa : hs A n = false) (hxb : hs B n = false) (hn0 : 0 ≤ n) (hn1 : n ≤ 1114111) (kok : A.all okR = true) (kck : ckL A = false) :
    Calls Try.prog 6 #[.slice a1 la c1, .slice a2 lb c2, .int .i64 n] w fun e w' => e = .returned (.bool true) ∧ Below w.heap.size w w' := by
  have HXA := Lib.hid hxa
  have HXB := Lib.hid hxb
  obtain ⟨n1, n2, n3⟩ := hA.out.norm kok
  have N1 := Lib.hid n1
  have N2 : Hid (hs (uniC A) n = false) := Lib.hid (n2.trans hxa)
  have N3 := Lib.hid n3
  clear n1 n2 n3
  have M1 := Lib.hid (hA.out.nobad kck)
  obtain ⟨q1, q2⟩ := hB.out.no (.inl kck)
  have Q1 := Lib.hid q1
  have Q2 := Lib.hid q2
  clear q1 q2
  clear hA hB hxa hxb kok kck
  have S0 := Lib.hid (((St.start w).put hs2.out).put hs1.out)
  go_enter Try.func6, Try.ntmps6
  go_wp2_with fail
  refine (alive_any _).mono ?_
  rintro e w1 ⟨rfl, b1⟩
  have S1 := Lib.hid (S0.out.step b1)
  clear b1
  go_wp2_with fail
  refine (norm_st S1.out (L := A) (by simp) N1.out).mono ?_
  rintro e w2 ⟨u2, rfl, s2⟩
  have S2 := Lib.hid s2
  clear s2
  go_wp2_with fail
  refine (has_st S2.out (L := uniC A) (by simp) N2.out).mono ?_
  rintro e w3 ⟨rfl, s3⟩
  have S3 := Lib.hid s3
  clear s3
  go_wp2_with fail
  refine (has_st S3.out (L := A) (by simp) HXA.out).mono ?_
  rintro e w4 ⟨rfl, s4⟩
  have S4 := Lib.hid s4
  clear s4
  go_wp2_with fail
  refine (check_st S4.out (L := uniC A) (by simp) N3.out).mono ?_
  rintro e w5 ⟨rfl, s5⟩
  have S5 := Lib.hid s5
  clear s5
  go_wp2_with fail
  refine (not_st S5.out (L := A) (by simp) M1.out).mono ?_
  rintro e w6 ⟨u6, rfl, s6⟩
  have S6 := Lib.hid s6
  clear s6
  go_wp2_with fail
  refine (or_st S6.out (L := A) (P := B) (by simp) (by simp) Q1.out).mono ?_
  rintro e w7 ⟨u7, rfl, s7⟩
  have S7 := Lib.hid s7
  obtain ⟨p7, r7, rfl, _⟩ := s7.get (List.mem_cons_self ..)
  rw [show ([] : List Rg).length = 0 from rfl] at *
  clear s7
  go_wp2_with fail
  refine (and_st S7.out (L := A) (P := B) (by simp) (by simp) Q2.out).mono ?_
  rintro e w8 ⟨u8, rfl, s8⟩
  have S8 := Lib.hid s8
  obtain ⟨p8, r8, rfl, _⟩ := s8.get (List.mem_cons_self ..)
  rw [show ([] : List Rg).length = 0 from rfl] at *
  clear s8
  go_wp2_with fail
  go_ret
  exact ⟨rfl, S8.out.1⟩
set_option maxRecDepth 20000 in
theorem have_in_True_False_False_false_true (a1 a2 : Option Addr) (c1 c2 la lb : Nat) (A B : List Rg) (n : Int) (w : World) (hs1 : Hid (SlR w (.slice a1 la c1) A)) (hs2 : Hid (SlR w (.slice a2 lb c2) B)) (h1 : ¬ (100 : Int) < (la : Int)) (h2 : ¬ (100 : Int) < (lb : Int)) (hA : Hid (HaveA A n)) (hB : Hid (HaveB A B n)) (hxa : hs A n = false) (hxb : hs B n = true) (hn0 : 0 ≤ n) (hn1 : n ≤ 1114111) (kok : A.all okR = true) (kck : ckL A = false) :
    Calls Try.prog 6 #[.slice a1 la c1, .slice a2 lb c2, .int .i64 n] w fun e w' => e = .returned (.bool true) ∧ Below w.heap.size w w' := by
  have HXA := Lib.hid hxa
  have HXB := Lib.hid hxb
  obtain ⟨n1, n2, n3⟩ := hA.out.norm kok
  have N1 := Lib.hid n1
  have N2 : Hid (hs (uniC A) n = false) := Lib.hid (n2.trans hxa)
  have N3 := Lib.hid n3
  clear n1 n2 n3
  have M1 := Lib.hid (hA.out.nobad kck)
  obtain ⟨q1, q2⟩ := hB.out.no (.inl kck)
  have Q1 := Lib.hid q1
  have Q2 := Lib.hid q2
  clear q1 q2
  clear hA hB hxa hxb kok kck
  have S0 := Lib.hid (((St.start w).put hs2.out).put hs1.out)
  go_enter Try.func6, Try.ntmps6
  go_wp2_with fail
  refine (alive_any _).mono ?_
  rintro e w1 ⟨rfl, b1⟩
  have S1 := Lib.hid (S0.out.step b1)
  clear b1
  go_wp2_with fail
  refine (norm_st S1.out (L := A) (by simp) N1.out).mono ?_
  rintro e w2 ⟨u2, rfl, s2⟩
  have S2 := Lib.hid s2
  clear s2
  go_wp2_with fail
  refine (has_st S2.out (L := uniC A) (by simp) N2.out).mono ?_
  rintro e w3 ⟨rfl, s3⟩
  have S3 := Lib.hid s3
  clear s3
  go_wp2_with fail
  refine (has_st S3.out (L := A) (by simp) HXA.out).mono ?_
  rintro e w4 ⟨rfl, s4⟩
  have S4 := Lib.hid s4
  clear s4
  go_wp2_with fail
  refine (check_st S4.out (L := uniC A) (by simp) N3.out).mono ?_
  rintro e w5 ⟨rfl, s5⟩
  have S5 := Lib.hid s5
  clear s5
  go_wp2_with fail
  refine (not_st S5.out (L := A) (by simp) M1.out).mono ?_
  rintro e w6 ⟨u6, rfl, s6⟩
  have S6 := Lib.hid s6
  clear s6
  go_wp2_with fail
  refine (or_st S6.out (L := A) (P := B) (by simp) (by simp) Q1.out).mono ?_
  rintro e w7 ⟨u7, rfl, s7⟩
  have S7 := Lib.hid s7
  obtain ⟨p7, r7, rfl, _⟩ := s7.get (List.mem_cons_self ..)
  rw [show ([] : List Rg).length = 0 from rfl] at *
  clear s7
  go_wp2_with fail
  refine (and_st S7.out (L := A) (P := B) (by simp) (by simp) Q2.out).mono ?_
  rintro e w8 ⟨u8, rfl, s8⟩
  have S8 := Lib.hid s8
  obtain ⟨p8, r8, rfl, _⟩ := s8.get (List.mem_cons_self ..)
  rw [show ([] : List Rg).length = 0 from rfl] at *
  clear s8
  go_wp2_with fail
  go_ret
  exact ⟨rfl, S8.out.1⟩
set_option maxRecDepth 20000 in
theorem have_in_True_False_False_true_false (a1 a2 : Option Addr) (c1 c2 la lb : Nat) (A B : List Rg) (n : Int) (w : World) (hs1 : Hid (SlR w (.slice a1 la c1) A)) (hs2 : Hid (SlR w (.slice a2 lb c2) B)) (h1 : ¬ (100 : Int) < (la : Int)) (h2 : ¬ (100 : Int) < (lb : Int)) (hA : Hid (HaveA A n)) (hB : Hid (HaveB A B n)) (hxa : hs A n = true) (hxb : hs B n = false) (hn0 : 0 ≤ n) (hn1 : n ≤ 1114111) (kok : A.all okR = true) (kck : ckL A = false) :
    Calls Try.prog 6 #[.slice a1 la c1, .slice a2 lb c2, .int .i64 n] w fun e w' => e = .returned (.bool true) ∧ Below w.heap.size w w' := by
  have HXA := Lib.hid hxa
  have HXB := Lib.hid hxb
  obtain ⟨n1, n2, n3⟩ := hA.out.norm kok
  have N1 := Lib.hid n1
  have N2 : Hid (hs (uniC A) n = true) := Lib.hid (n2.trans hxa)
  have N3 := Lib.hid n3
  clear n1 n2 n3
  have M1 := Lib.hid (hA.out.nobad kck)
  obtain ⟨q1, q2⟩ := hB.out.no (.inl kck)
  have Q1 := Lib.hid q1
  have Q2 := Lib.hid q2
  clear q1 q2
  clear hA hB hxa hxb kok kck
  have S0 := Lib.hid (((St.start w).put hs2.out).put hs1.out)
  go_enter Try.func6, Try.ntmps6
  go_wp2_with fail
  refine (alive_any _).mono ?_
  rintro e w1 ⟨rfl, b1⟩
  have S1 := Lib.hid (S0.out.step b1)
  clear b1
  go_wp2_with fail
  refine (norm_st S1.out (L := A) (by simp) N1.out).mono ?_
  rintro e w2 ⟨u2, rfl, s2⟩
  have S2 := Lib.hid s2
  clear s2
  go_wp2_with fail
  refine (has_st S2.out (L := uniC A) (by simp) N2.out).mono ?_
  rintro e w3 ⟨rfl, s3⟩
  have S3 := Lib.hid s3
  clear s3
  go_wp2_with fail
  refine (has_st S3.out (L := A) (by simp) HXA.out).mono ?_
  rintro e w4 ⟨rfl, s4⟩
  have S4 := Lib.hid s4
  clear s4
  go_wp2_with fail
  refine (check_st S4.out (L := uniC A) (by simp) N3.out).mono ?_
  rintro e w5 ⟨rfl, s5⟩
  have S5 := Lib.hid s5
  clear s5
  go_wp2_with fail
  refine (not_st S5.out (L := A) (by simp) M1.out).mono ?_
  rintro e w6 ⟨u6, rfl, s6⟩
  have S6 := Lib.hid s6
  clear s6
  go_wp2_with fail
  refine (or_st S6.out (L := A) (P := B) (by simp) (by simp) Q1.out).mono ?_
  rintro e w7 ⟨u7, rfl, s7⟩
  have S7 := Lib.hid s7
  obtain ⟨p7, r7, rfl, _⟩ := s7.get (List.mem_cons_self ..)
  rw [show ([] : List Rg).length = 0 from rfl] at *
  clear s7
  go_wp2_with fail
  refine (and_st S7.out (L := A) (P := B) (by simp) (by simp) Q2.out).mono ?_
  rintro e w8 ⟨u8, rfl, s8⟩
  have S8 := Lib.hid s8
  obtain ⟨p8, r8, rfl, _⟩ := s8.get (List.mem_cons_self ..)
  rw [show ([] : List Rg).length = 0 from rfl] at *
  clear s8
  go_wp2_with fail
  go_ret
  exact ⟨rfl, S8.out.1⟩
set_option maxRecDepth 20000 in
theorem have_in_True_False_False_true_true (a1 a2 : Option Addr) (c1 c2 la lb : Nat) (A B : List Rg) (n : Int) (w : World) (hs1 : Hid (SlR w (.slice a1 la c1) A)) (hs2 : Hid (SlR w (.slice a2 lb c2) B)) (h1 : ¬ (100 : Int) < (la : Int)) (h2 : ¬ (100 : Int) < (lb : Int)) (hA : Hid (HaveA A n)) (hB : Hid (HaveB A B n)) (hxa : hs A n = true) (hxb : hs B n = true) (hn0 : 0 ≤ n) (hn1 : n ≤ 1114111) (kok : A.all okR = true) (kck : ckL A = false) :
    Calls Try.prog 6 #[.slice a1 la c1, .slice a2 lb c2, .int .i64 n] w fun e w' => e = .returned (.bool true) ∧ Below w.heap.size w w' := by
  have HXA := Lib.hid hxa
  have HXB := Lib.hid hxb
  obtain ⟨n1, n2, n3⟩ := hA.out.norm kok
  have N1 := Lib.hid n1
  have N2 : Hid (hs (uniC A) n = true) := Lib.hid (n2.trans hxa)
  have N3 := Lib.hid n3
  clear n1 n2 n3
  have M1 := Lib.hid (hA.out.nobad kck)
  obtain ⟨q1, q2⟩ := hB.out.no (.inl kck)
  have Q1 := Lib.hid q1
  have Q2 := Lib.hid q2
  clear q1 q2
  clear hA hB hxa hxb kok kck
  have S0 := Lib.hid (((St.start w).put hs2.out).put hs1.out)
  go_enter Try.func6, Try.ntmps6
  go_wp2_with fail
  refine (alive_any _).mono ?_
  rintro e w1 ⟨rfl, b1⟩
  have S1 := Lib.hid (S0.out.step b1)
  clear b1
  go_wp2_with fail
  refine (norm_st S1.out (L := A) (by simp) N1.out).mono ?_
  rintro e w2 ⟨u2, rfl, s2⟩
  have S2 := Lib.hid s2
  clear s2
  go_wp2_with fail
  refine (has_st S2.out (L := uniC A) (by simp) N2.out).mono ?_
  rintro e w3 ⟨rfl, s3⟩
  have S3 := Lib.hid s3
  clear s3
  go_wp2_with fail
  refine (has_st S3.out (L := A) (by simp) HXA.out).mono ?_
  rintro e w4 ⟨rfl, s4⟩
  have S4 := Lib.hid s4
  clear s4
  go_wp2_with fail
  refine (check_st S4.out (L := uniC A) (by simp) N3.out).mono ?_
  rintro e w5 ⟨rfl, s5⟩
  have S5 := Lib.hid s5
  clear s5
  go_wp2_with fail
  refine (not_st S5.out (L := A) (by simp) M1.out).mono ?_
  rintro e w6 ⟨u6, rfl, s6⟩
  have S6 := Lib.hid s6
  clear s6
  go_wp2_with fail
  refine (or_st S6.out (L := A) (P := B) (by simp) (by simp) Q1.out).mono ?_
  rintro e w7 ⟨u7, rfl, s7⟩
  have S7 := Lib.hid s7
  obtain ⟨p7, r7, rfl, _⟩ := s7.get (List.mem_cons_self ..)
  rw [show ([] : List Rg).length = 0 from rfl] at *
  clear s7
  go_wp2_with fail
  refine (and_st S7.out (L := A) (P := B) (by simp) (by simp) Q2.out).mono ?_
  rintro e w8 ⟨u8, rfl, s8⟩
  have S8 := Lib.hid s8
  obtain ⟨p8, r8, rfl, _⟩ := s8.get (List.mem_cons_self ..)
  rw [show ([] : List Rg).length = 0 from rfl] at *
  clear s8
  go_wp2_with fail
  go_ret
  exact ⟨rfl, S8.out.1⟩
set_option maxRecDepth 20000 in
theorem have_in_False_False_False_false_false (a1 a2 : Option Addr) (c1 c2 la lb : Nat) (A B : List Rg) (n : Int) (w : World) (hs1 : Hid (SlR w (.slice a1 la c1) A)) (hs2 : Hid (SlR w (.slice a2 lb c2) B)) (h1 : ¬ (100 : Int) < (la : Int)) (h2 : ¬ (100 : Int) < (lb : Int)) (hA : Hid (HaveA A n)) (hB : Hid (HaveB A B n)) (hxa : hs A n = false) (hxb : hs B n = false) (hn0 : 0 ≤ n) (hn1 : n ≤ 1114111) (kok : A.all okR = false) (kck : ckL A = false) :
    Calls Try.prog 6 #[.slice a1 la c1, .slice a2 lb c2, .int .i64 n] w fun e w' => e = .returned (.bool true) ∧ Below w.heap.size w w' := by
  have HXA := Lib.hid hxa
  have HXB := Lib.hid hxb
  have N1 := Lib.hid (hA.out.bad kok)
  have M1 := Lib.hid (hA.out.nobad kck)
  obtain ⟨q1, q2⟩ := hB.out.no (.inl kck)
  have Q1 := Lib.hid q1
  have Q2 := Lib.hid q2
  clear q1 q2
  clear hA hB hxa hxb kok kck
  have S0 := Lib.hid (((St.start w).put hs2.out).put hs1.out)
  go_enter Try.func6, Try.ntmps6
  go_wp2_with fail
  refine (alive_any _).mono ?_
  rintro e w1 ⟨rfl, b1⟩
  have S1 := Lib.hid (S0.out.step b1)
  clear b1
  go_wp2_with fail
  refine (norm_st S1.out (L := A) (by simp) N1.out).mono ?_
  rintro e w2 ⟨u2, rfl, s2⟩
  have S2 := Lib.hid s2
  clear s2
  go_wp2_with fail
  refine (not_st S2.out (L := A) (by simp) M1.out).mono ?_
  rintro e w3 ⟨u3, rfl, s3⟩
  have S3 := Lib.hid s3
  clear s3
  go_wp2_with fail
  refine (or_st S3.out (L := A) (P := B) (by simp) (by simp) Q1.out).mono ?_
  rintro e w4 ⟨u4, rfl, s4⟩
  have S4 := Lib.hid s4
  obtain ⟨p4, r4, rfl, _⟩ := s4.get (List.mem_cons_self ..)
  rw [show ([] : List Rg).length = 0 from rfl] at *
  clear s4
  go_wp2_with fail
  refine (and_st S4.out (L := A) (P := B) (by simp) (by simp) Q2.out).mono ?_
  rintro e w5 ⟨u5, rfl, s5⟩
  have S5 := Lib.hid s5
  obtain ⟨p5, r5, rfl, _⟩ := s5.get (List.mem_cons_self ..)
  rw [show ([] : List Rg).length = 0 from rfl] at *
  clear s5
  go_wp2_with fail
  go_ret
  exact ⟨rfl, S5.out.1⟩
set_option maxRecDepth 20000 in
theorem have_in_False_False_False_false_true (a1 a2 : Option Addr) (c1 c2 la lb : Nat) (A B : List Rg) (n : Int) (w : World) (hs1 : Hid (SlR w (.slice a1 la c1) A)) (hs2 : Hid (SlR w (.slice a2 lb c2) B)) (h1 : ¬ (100 : Int) < (la : Int)) (h2 : ¬ (100 : Int) < (lb : Int)) (hA : Hid (HaveA A n)) (hB : Hid (HaveB A B n)) (hxa : hs A n = false) (hxb : hs B n = true) (hn0 : 0 ≤ n) (hn1 : n ≤ 1114111) (kok : A.all okR = false) (kck : ckL A = false) :
    Calls Try.prog 6 #[.slice a1 la c1, .slice a2 lb c2, .int .i64 n] w fun e w' => e = .returned (.bool true) ∧ Below w.heap.size w w' := by
  have HXA := Lib.hid hxa
  have HXB := Lib.hid hxb
  have N1 := Lib.hid (hA.out.bad kok)
  have M1 := Lib.hid (hA.out.nobad kck)
  obtain ⟨q1, q2⟩ := hB.out.no (.inl kck)
  have Q1 := Lib.hid q1
  have Q2 := Lib.hid q2
  clear q1 q2
  clear hA hB hxa hxb kok kck
  have S0 := Lib.hid (((St.start w).put hs2.out).put hs1.out)
  go_enter Try.func6, Try.ntmps6
  go_wp2_with fail
  refine (alive_any _).mono ?_
  rintro e w1 ⟨rfl, b1⟩
  have S1 := Lib.hid (S0.out.step b1)
  clear b1
  go_wp2_with fail
  refine (norm_st S1.out (L := A) (by simp) N1.out).mono ?_
  rintro e w2 ⟨u2, rfl, s2⟩
  have S2 := Lib.hid s2
  clear s2
  go_wp2_with fail
  refine (not_st S2.out (L := A) (by simp) M1.out).mono ?_
  rintro e w3 ⟨u3, rfl, s3⟩
  have S3 := Lib.hid s3
  clear s3
  go_wp2_with fail
  refine (or_st S3.out (L := A) (P := B) (by simp) (by simp) Q1.out).mono ?_
  rintro e w4 ⟨u4, rfl, s4⟩
  have S4 := Lib.hid s4
  obtain ⟨p4, r4, rfl, _⟩ := s4.get (List.mem_cons_self ..)
  rw [show ([] : List Rg).length = 0 from rfl] at *
  clear s4
  go_wp2_with fail
  refine (and_st S4.out (L := A) (P := B) (by simp) (by simp) Q2.out).mono ?_
  rintro e w5 ⟨u5, rfl, s5⟩
  have S5 := Lib.hid s5
  obtain ⟨p5, r5, rfl, _⟩ := s5.get (List.mem_cons_self ..)
  rw [show ([] : List Rg).length = 0 from rfl] at *
  clear s5
  go_wp2_with fail
  go_ret
  exact ⟨rfl, S5.out.1⟩
set_option maxRecDepth 20000 in
theorem have_in_False_False_False_true_false (a1 a2 : Option Addr) (c1 c2 la lb : Nat) (A B : List Rg) (n : Int) (w : World) (hs1 : Hid (SlR w (.slice a1 la c1) A)) (hs2 : Hid (SlR w (.slice a2 lb c2) B)) (h1 : ¬ (100 : Int) < (la : Int)) (h2 : ¬ (100 : Int) < (lb : Int)) (hA : Hid (HaveA A n)) (hB : Hid (HaveB A B n)) (hxa : hs A n = true) (hxb : hs B n = false) (hn0 : 0 ≤ n) (hn1 : n ≤ 1114111) (kok : A.all okR = false) (kck : ckL A = false) :
    Calls Try.prog 6 #[.slice a1 la c1, .slice a2 lb c2, .int .i64 n] w fun e w' => e = .returned (.bool true) ∧ Below w.heap.size w w' := by
  have HXA := Lib.hid hxa
  have HXB := Lib.hid hxb
  have N1 := Lib.hid (hA.out.bad kok)
  have M1 := Lib.hid (hA.out.nobad kck)
  obtain ⟨q1, q2⟩ := hB.out.no (.inl kck)
  have Q1 := Lib.hid q1
  have Q2 := Lib.hid q2
  clear q1 q2
  clear hA hB hxa hxb kok kck
  have S0 := Lib.hid (((St.start w).put hs2.out).put hs1.out)
  go_enter Try.func6, Try.ntmps6
  go_wp2_with fail
  refine (alive_any _).mono ?_
  rintro e w1 ⟨rfl, b1⟩
  have S1 := Lib.hid (S0.out.step b1)
  clear b1
  go_wp2_with fail
  refine (norm_st S1.out (L := A) (by simp) N1.out).mono ?_
  rintro e w2 ⟨u2, rfl, s2⟩
  have S2 := Lib.hid s2
  clear s2
  go_wp2_with fail
  refine (not_st S2.out (L := A) (by simp) M1.out).mono ?_
  rintro e w3 ⟨u3, rfl, s3⟩
  have S3 := Lib.hid s3
  clear s3
  go_wp2_with fail
  refine (or_st S3.out (L := A) (P := B) (by simp) (by simp) Q1.out).mono ?_
  rintro e w4 ⟨u4, rfl, s4⟩
  have S4 := Lib.hid s4
  obtain ⟨p4, r4, rfl, _⟩ := s4.get (List.mem_cons_self ..)
  rw [show ([] : List Rg).length = 0 from rfl] at *
  clear s4
  go_wp2_with fail
  refine (and_st S4.out (L := A) (P := B) (by simp) (by simp) Q2.out).mono ?_
  rintro e w5 ⟨u5, rfl, s5⟩
  have S5 := Lib.hid s5
  obtain ⟨p5, r5, rfl, _⟩ := s5.get (List.mem_cons_self ..)
  rw [show ([] : List Rg).length = 0 from rfl] at *
  clear s5
  go_wp2_with fail
  go_ret
  exact ⟨rfl, S5.out.1⟩
set_option maxRecDepth 20000 in
theorem have_in_False_False_False_true_true (a1 a2 : Option Addr) (c1 c2 la lb : Nat) (A B : List Rg) (n : Int) (w : World) (hs1 : Hid (SlR w (.slice a1 la c1) A)) (hs2 : Hid (SlR w (.slice a2 lb c2) B)) (h1 : ¬ (100 : Int) < (la : Int)) (h2 : ¬ (100 : Int) < (lb : Int)) (hA : Hid (HaveA A n)) (hB : Hid (HaveB A B n)) (hxa : hs A n = true) (hxb : hs B n = true) (hn0 : 0 ≤ n) (hn1 : n ≤ 1114111) (kok : A.all okR = false) (kck : ckL A = false) :
    Calls Try.prog 6 #[.slice a1 la c1, .slice a2 lb c2, .int .i64 n] w fun e w' => e = .returned (.bool true) ∧ Below w.heap.size w w' := by
  have HXA := Lib.hid hxa
  have HXB := Lib.hid hxb
  have N1 := Lib.hid (hA.out.bad kok)
  have M1 := Lib.hid (hA.out.nobad kck)
  obtain ⟨q1, q2⟩ := hB.out.no (.inl kck)
  have Q1 := Lib.hid q1
  have Q2 := Lib.hid q2
  clear q1 q2
  clear hA hB hxa hxb kok kck
  have S0 := Lib.hid (((St.start w).put hs2.out).put hs1.out)
  go_enter Try.func6, Try.ntmps6
  go_wp2_with fail
  refine (alive_any _).mono ?_
  rintro e w1 ⟨rfl, b1⟩
  have S1 := Lib.hid (S0.out.step b1)
  clear b1
  go_wp2_with fail
  refine (norm_st S1.out (L := A) (by simp) N1.out).mono ?_
  rintro e w2 ⟨u2, rfl, s2⟩
  have S2 := Lib.hid s2
  clear s2
  go_wp2_with fail
  refine (not_st S2.out (L := A) (by simp) M1.out).mono ?_
  rintro e w3 ⟨u3, rfl, s3⟩
  have S3 := Lib.hid s3
  clear s3
  go_wp2_with fail
  refine (or_st S3.out (L := A) (P := B) (by simp) (by simp) Q1.out).mono ?_
  rintro e w4 ⟨u4, rfl, s4⟩
  have S4 := Lib.hid s4
  obtain ⟨p4, r4, rfl, _⟩ := s4.get (List.mem_cons_self ..)
  rw [show ([] : List Rg).length = 0 from rfl] at *
  clear s4
  go_wp2_with fail
  refine (and_st S4.out (L := A) (P := B) (by simp) (by simp) Q2.out).mono ?_
  rintro e w5 ⟨u5, rfl, s5⟩
  have S5 := Lib.hid s5
  obtain ⟨p5, r5, rfl, _⟩ := s5.get (List.mem_cons_self ..)
  rw [show ([] : List Rg).length = 0 from rfl] at *
  clear s5
  go_wp2_with fail
  go_ret
  exact ⟨rfl, S5.out.1⟩
set_option maxRecDepth 20000 in
theorem have_lo_True_True_True_false_false (a1 a2 : Option Addr) (c1 c2 la lb : Nat) (A B : List Rg) (n : Int) (w : World) (hs1 : Hid (SlR w (.slice a1 la c1) A)) (hs2 : Hid (SlR w (.slice a2 lb c2) B)) (h1 : ¬ (100 : Int) < (la : Int)) (h2 : ¬ (100 : Int) < (lb : Int)) (hA : Hid (HaveA A n)) (hB : Hid (HaveB A B n)) (hxa : hs A n = false) (hxb : hs B n = false) (hn0 : ¬ 0 ≤ n) (kok : A.all okR = true) (kck : ckL A = true) (kcb : ckL B = true) :
    Calls Try.prog 6 #[.slice a1 la c1, .slice a2 lb c2, .int .i64 n] w fun e w' => e = .returned (.bool true) ∧ Below w.heap.size w w' := by
  have HXA := Lib.hid hxa
  have HXB := Lib.hid hxb
  obtain ⟨n1, n2, n3⟩ := hA.out.norm kok
  have N1 := Lib.hid n1
  have N2 : Hid (hs (uniC A) n = false) := Lib.hid (n2.trans hxa)
  have N3 := Lib.hid n3
  clear n1 n2 n3
  obtain ⟨m1, m2, m3, m4⟩ := hA.out.no kck
  have M1 := Lib.hid m1
  have M2 := Lib.hid m2
  have M3 := Lib.hid m3
  have M4 : Hid (hs (notC A) n = (false)) := Lib.hid (by rw [m4, decide_eq_false hn0]; rfl)
  clear m1 m2 m3 m4
  obtain ⟨q1, q2, q3, q4, q5, q6⟩ := hB.out.yes kck kcb
  have Q1 := Lib.hid q1
  have Q2 := Lib.hid q2
  have Q3 := Lib.hid q3
  have Q4 := Lib.hid q4
  have Q5 : Hid (hs (orC A B) n = (false || false)) := Lib.hid (by rw [q5, hxa, hxb])
  have Q6 : Hid (hs (andC A B) n = (false && false)) := Lib.hid (by rw [q6, hxa, hxb])
  clear q1 q2 q3 q4 q5 q6
  clear hA hB hxa hxb kok kck kcb
  have S0 := Lib.hid (((St.start w).put hs2.out).put hs1.out)
  go_enter Try.func6, Try.ntmps6
  go_wp2_with fail
  refine (alive_any _).mono ?_
  rintro e w1 ⟨rfl, b1⟩
  have S1 := Lib.hid (S0.out.step b1)
  clear b1
  go_wp2_with fail
  refine (norm_st S1.out (L := A) (by simp) N1.out).mono ?_
  rintro e w2 ⟨u2, rfl, s2⟩
  have S2 := Lib.hid s2
  clear s2
  go_wp2_with fail
  refine (has_st S2.out (L := uniC A) (by simp) N2.out).mono ?_
  rintro e w3 ⟨rfl, s3⟩
  have S3 := Lib.hid s3
  clear s3
  go_wp2_with fail
  refine (has_st S3.out (L := A) (by simp) HXA.out).mono ?_
  rintro e w4 ⟨rfl, s4⟩
  have S4 := Lib.hid s4
  clear s4
  go_wp2_with fail
  refine (check_st S4.out (L := uniC A) (by simp) N3.out).mono ?_
  rintro e w5 ⟨rfl, s5⟩
  have S5 := Lib.hid s5
  clear s5
  go_wp2_with fail
  refine (not_st S5.out (L := A) (by simp) M1.out).mono ?_
  rintro e w6 ⟨u6, rfl, s6⟩
  have S6 := Lib.hid s6
  clear s6
  go_wp2_with fail
  refine (not_st S6.out (L := notC A) (by simp) M2.out).mono ?_
  rintro e w7 ⟨u7, rfl, s7⟩
  have S7 := Lib.hid s7
  clear s7
  go_wp2_with fail
  refine (has_st S7.out (L := notC A) (by simp) M4.out).mono ?_
  rintro e w8 ⟨rfl, s8⟩
  have S8 := Lib.hid s8
  clear s8
  go_wp2_with fail
  refine (rsame_st S8.out (L := A) (P := A) (by simp) (by simp) (decide_eq_true rfl)).mono ?_
  rintro e w9 ⟨rfl, s9⟩
  have S9 := Lib.hid s9
  clear s9
  go_wp2_with fail
  refine (check_st S9.out (L := notC A) (by simp) M3.out).mono ?_
  rintro e w10 ⟨rfl, s10⟩
  have S10 := Lib.hid s10
  clear s10
  go_wp2_with fail
  refine (or_st S10.out (L := A) (P := B) (by simp) (by simp) Q1.out).mono ?_
  rintro e w11 ⟨u11, rfl, s11⟩
  have S11 := Lib.hid s11
  clear s11
  go_wp2_with fail
  refine (and_st S11.out (L := A) (P := B) (by simp) (by simp) Q2.out).mono ?_
  rintro e w12 ⟨u12, rfl, s12⟩
  have S12 := Lib.hid s12
  clear s12
  go_wp2_with fail
  refine (check_st S12.out (L := orC A B) (by simp) Q3.out).mono ?_
  rintro e w13 ⟨rfl, s13⟩
  have S13 := Lib.hid s13
  clear s13
  go_wp2_with fail
  refine (check_st S13.out (L := andC A B) (by simp) Q4.out).mono ?_
  rintro e w14 ⟨rfl, s14⟩
  have S14 := Lib.hid s14
  clear s14
  go_wp2_with fail
  refine (has_st S14.out (L := orC A B) (by simp) Q5.out).mono ?_
  rintro e w15 ⟨rfl, s15⟩
  have S15 := Lib.hid s15
  clear s15
  go_wp2_with fail
  refine (has_st S15.out (L := A) (by simp) HXA.out).mono ?_
  rintro e w16 ⟨rfl, s16⟩
  have S16 := Lib.hid s16
  clear s16
  go_wp2_with fail
  refine (has_st S16.out (L := B) (by simp) HXB.out).mono ?_
  rintro e w17 ⟨rfl, s17⟩
  have S17 := Lib.hid s17
  clear s17
  go_wp2_with fail
  refine (has_st S17.out (L := andC A B) (by simp) Q6.out).mono ?_
  rintro e w18 ⟨rfl, s18⟩
  have S18 := Lib.hid s18
  clear s18
  go_wp2_with fail
  refine (has_st S18.out (L := A) (by simp) HXA.out).mono ?_
  rintro e w19 ⟨rfl, s19⟩
  have S19 := Lib.hid s19
  clear s19
  go_wp2_with fail
  go_ret
  exact ⟨rfl, S19.out.1⟩
set_option maxRecDepth 20000 in
theorem have_lo_True_True_True_false_true (a1 a2 : Option Addr) (c1 c2 la lb : Nat) (A B : List Rg) (n : Int) (w : World) (hs1 : Hid (SlR w (.slice a1 la c1) A)) (hs2 : Hid (SlR w (.slice a2 lb c2) B)) (h1 : ¬ (100 : Int) < (la : Int)) (h2 : ¬ (100 : Int) < (lb : Int)) (hA : Hid (HaveA A n)) (hB : Hid (HaveB A B n)) (hxa : hs A n = false) (hxb : hs B n = true) (hn0 : ¬ 0 ≤ n) (kok : A.all okR = true) (kck : ckL A = true) (kcb : ckL B = true) :
    Calls Try.prog 6 #[.slice a1 la c1, .slice a2 lb c2, .int .i64 n] w fun e w' => e = .returned (.bool true) ∧ Below w.heap.size w w' := by
  have HXA := Lib.hid hxa
  have HXB := Lib.hid hxb
  obtain ⟨n1, n2, n3⟩ := hA.out.norm kok
  have N1 := Lib.hid n1
  have N2 : Hid (hs (uniC A) n = false) := Lib.hid (n2.trans hxa)
  have N3 := Lib.hid n3
  clear n1 n2 n3
  obtain ⟨m1, m2, m3, m4⟩ := hA.out.no kck
  have M1 := Lib.hid m1
  have M2 := Lib.hid m2
  have M3 := Lib.hid m3
  have M4 : Hid (hs (notC A) n = (false)) := Lib.hid (by rw [m4, decide_eq_false hn0]; rfl)
  clear m1 m2 m3 m4
  obtain ⟨q1, q2, q3, q4, q5, q6⟩ := hB.out.yes kck kcb
  have Q1 := Lib.hid q1
  have Q2 := Lib.hid q2
  have Q3 := Lib.hid q3
  have Q4 := Lib.hid q4
  have Q5 : Hid (hs (orC A B) n = (false || true)) := Lib.hid (by rw [q5, hxa, hxb])
  have Q6 : Hid (hs (andC A B) n = (false && true)) := Lib.hid (by rw [q6, hxa, hxb])
  clear q1 q2 q3 q4 q5 q6
  clear hA hB hxa hxb kok kck kcb
  have S0 := Lib.hid (((St.start w).put hs2.out).put hs1.out)
  go_enter Try.func6, Try.ntmps6
  go_wp2_with fail
  refine (alive_any _).mono ?_
  rintro e w1 ⟨rfl, b1⟩
  have S1 := Lib.hid (S0.out.step b1)
  clear b1
  go_wp2_with fail
  refine (norm_st S1.out (L := A) (by simp) N1.out).mono ?_
  rintro e w2 ⟨u2, rfl, s2⟩
  have S2 := Lib.hid s2
  clear s2
  go_wp2_with fail
  refine (has_st S2.out (L := uniC A) (by simp) N2.out).mono ?_
  rintro e w3 ⟨rfl, s3⟩
  have S3 := Lib.hid s3
  clear s3
  go_wp2_with fail
  refine (has_st S3.out (L := A) (by simp) HXA.out).mono ?_
  rintro e w4 ⟨rfl, s4⟩
  have S4 := Lib.hid s4
  clear s4
  go_wp2_with fail
  refine (check_st S4.out (L := uniC A) (by simp) N3.out).mono ?_
  rintro e w5 ⟨rfl, s5⟩
  have S5 := Lib.hid s5
  clear s5
  go_wp2_with fail
  refine (not_st S5.out (L := A) (by simp) M1.out).mono ?_
  rintro e w6 ⟨u6, rfl, s6⟩
  have S6 := Lib.hid s6
  clear s6
  go_wp2_with fail
  refine (not_st S6.out (L := notC A) (by simp) M2.out).mono ?_
  rintro e w7 ⟨u7, rfl, s7⟩
  have S7 := Lib.hid s7
  clear s7
  go_wp2_with fail
  refine (has_st S7.out (L := notC A) (by simp) M4.out).mono ?_
  rintro e w8 ⟨rfl, s8⟩
  have S8 := Lib.hid s8
  clear s8
  go_wp2_with fail
  refine (rsame_st S8.out (L := A) (P := A) (by simp) (by simp) (decide_eq_true rfl)).mono ?_
  rintro e w9 ⟨rfl, s9⟩
  have S9 := Lib.hid s9
  clear s9
  go_wp2_with fail
  refine (check_st S9.out (L := notC A) (by simp) M3.out).mono ?_
  rintro e w10 ⟨rfl, s10⟩
  have S10 := Lib.hid s10
  clear s10
  go_wp2_with fail
  refine (or_st S10.out (L := A) (P := B) (by simp) (by simp) Q1.out).mono ?_
  rintro e w11 ⟨u11, rfl, s11⟩
  have S11 := Lib.hid s11
  clear s11
  go_wp2_with fail
  refine (and_st S11.out (L := A) (P := B) (by simp) (by simp) Q2.out).mono ?_
  rintro e w12 ⟨u12, rfl, s12⟩
  have S12 := Lib.hid s12
  clear s12
  go_wp2_with fail
  refine (check_st S12.out (L := orC A B) (by simp) Q3.out).mono ?_
  rintro e w13 ⟨rfl, s13⟩
  have S13 := Lib.hid s13
  clear s13
  go_wp2_with fail
  refine (check_st S13.out (L := andC A B) (by simp) Q4.out).mono ?_
  rintro e w14 ⟨rfl, s14⟩
  have S14 := Lib.hid s14
  clear s14
  go_wp2_with fail
  refine (has_st S14.out (L := orC A B) (by simp) Q5.out).mono ?_
  rintro e w15 ⟨rfl, s15⟩
  have S15 := Lib.hid s15
  clear s15
  go_wp2_with fail
  refine (has_st S15.out (L := A) (by simp) HXA.out).mono ?_
  rintro e w16 ⟨rfl, s16⟩
  have S16 := Lib.hid s16
  clear s16
  go_wp2_with fail
  refine (has_st S16.out (L := B) (by simp) HXB.out).mono ?_
  rintro e w17 ⟨rfl, s17⟩
  have S17 := Lib.hid s17
  clear s17
  go_wp2_with fail
  refine (has_st S17.out (L := andC A B) (by simp) Q6.out).mono ?_
  rintro e w18 ⟨rfl, s18⟩
  have S18 := Lib.hid s18
  clear s18
  go_wp2_with fail
  refine (has_st S18.out (L := A) (by simp) HXA.out).mono ?_
  rintro e w19 ⟨rfl, s19⟩
  have S19 := Lib.hid s19
  clear s19
  go_wp2_with fail
  go_ret
  exact ⟨rfl, S19.out.1⟩
set_option maxRecDepth 20000 in
theorem have_lo_True_True_True_true_false (a1 a2 : Option Addr) (c1 c2 la lb : Nat) (A B : List Rg) (n : Int) (w : World) (hs1 : Hid (SlR w (.slice a1 la c1) A)) (hs2 : Hid (SlR w (.slice a2 lb c2) B)) (h1 : ¬ (100 : Int) < (la : Int)) (h2 : ¬ (100 : Int) < (lb : Int)) (hA : Hid (HaveA A n)) (hB : Hid (HaveB A B n)) (hxa : hs A n = true) (hxb : hs B n = false) (hn0 : ¬ 0 ≤ n) (kok : A.all okR = true) (kck : ckL A = true) (kcb : ckL B = true) :
    Calls Try.prog 6 #[.slice a1 la c1, .slice a2 lb c2, .int .i64 n] w fun e w' => e = .returned (.bool true) ∧ Below w.heap.size w w' := by
  have HXA := Lib.hid hxa
  have HXB := Lib.hid hxb
  obtain ⟨n1, n2, n3⟩ := hA.out.norm kok
  have N1 := Lib.hid n1
  have N2 : Hid (hs (uniC A) n = true) := Lib.hid (n2.trans hxa)
  have N3 := Lib.hid n3
  clear n1 n2 n3
  obtain ⟨m1, m2, m3, m4⟩ := hA.out.no kck
  have M1 := Lib.hid m1
  have M2 := Lib.hid m2
  have M3 := Lib.hid m3
  have M4 : Hid (hs (notC A) n = (false)) := Lib.hid (by rw [m4, decide_eq_false hn0]; rfl)
  clear m1 m2 m3 m4
  obtain ⟨q1, q2, q3, q4, q5, q6⟩ := hB.out.yes kck kcb
  have Q1 := Lib.hid q1
  have Q2 := Lib.hid q2
  have Q3 := Lib.hid q3
  have Q4 := Lib.hid q4
  have Q5 : Hid (hs (orC A B) n = (true || false)) := Lib.hid (by rw [q5, hxa, hxb])
  have Q6 : Hid (hs (andC A B) n = (true && false)) := Lib.hid (by rw [q6, hxa, hxb])
  clear q1 q2 q3 q4 q5 q6
  clear hA hB hxa hxb kok kck kcb
  have S0 := Lib.hid (((St.start w).put hs2.out).put hs1.out)
  go_enter Try.func6, Try.ntmps6
  go_wp2_with fail
  refine (alive_any _).mono ?_
  rintro e w1 ⟨rfl, b1⟩
  have S1 := Lib.hid (S0.out.step b1)
  clear b1
  go_wp2_with fail
  refine (norm_st S1.out (L := A) (by simp) N1.out).mono ?_
  rintro e w2 ⟨u2, rfl, s2⟩
  have S2 := Lib.hid s2
  clear s2
  go_wp2_with fail
  refine (has_st S2.out (L := uniC A) (by simp) N2.out).mono ?_
  rintro e w3 ⟨rfl, s3⟩
  have S3 := Lib.hid s3
  clear s3
  go_wp2_with fail
  refine (has_st S3.out (L := A) (by simp) HXA.out).mono ?_
  rintro e w4 ⟨rfl, s4⟩
  have S4 := Lib.hid s4
  clear s4
  go_wp2_with fail
  refine (check_st S4.out (L := uniC A) (by simp) N3.out).mono ?_
  rintro e w5 ⟨rfl, s5⟩
  have S5 := Lib.hid s5
  clear s5
  go_wp2_with fail
  refine (not_st S5.out (L := A) (by simp) M1.out).mono ?_
  rintro e w6 ⟨u6, rfl, s6⟩
  have S6 := Lib.hid s6
  clear s6
  go_wp2_with fail
  refine (not_st S6.out (L := notC A) (by simp) M2.out).mono ?_
  rintro e w7 ⟨u7, rfl, s7⟩
  have S7 := Lib.hid s7
  clear s7
  go_wp2_with fail
  refine (has_st S7.out (L := notC A) (by simp) M4.out).mono ?_
  rintro e w8 ⟨rfl, s8⟩
  have S8 := Lib.hid s8
  clear s8
  go_wp2_with fail
  refine (rsame_st S8.out (L := A) (P := A) (by simp) (by simp) (decide_eq_true rfl)).mono ?_
  rintro e w9 ⟨rfl, s9⟩
  have S9 := Lib.hid s9
  clear s9
  go_wp2_with fail
  refine (check_st S9.out (L := notC A) (by simp) M3.out).mono ?_
  rintro e w10 ⟨rfl, s10⟩
  have S10 := Lib.hid s10
  clear s10
  go_wp2_with fail
  refine (or_st S10.out (L := A) (P := B) (by simp) (by simp) Q1.out).mono ?_
  rintro e w11 ⟨u11, rfl, s11⟩
  have S11 := Lib.hid s11
  clear s11
  go_wp2_with fail
  refine (and_st S11.out (L := A) (P := B) (by simp) (by simp) Q2.out).mono ?_
  rintro e w12 ⟨u12, rfl, s12⟩
  have S12 := Lib.hid s12
  clear s12
  go_wp2_with fail
  refine (check_st S12.out (L := orC A B) (by simp) Q3.out).mono ?_
  rintro e w13 ⟨rfl, s13⟩
  have S13 := Lib.hid s13
  clear s13
  go_wp2_with fail
  refine (check_st S13.out (L := andC A B) (by simp) Q4.out).mono ?_
  rintro e w14 ⟨rfl, s14⟩
  have S14 := Lib.hid s14
  clear s14
  go_wp2_with fail
  refine (has_st S14.out (L := orC A B) (by simp) Q5.out).mono ?_
  rintro e w15 ⟨rfl, s15⟩
  have S15 := Lib.hid s15
  clear s15
  go_wp2_with fail
  refine (has_st S15.out (L := A) (by simp) HXA.out).mono ?_
  rintro e w16 ⟨rfl, s16⟩
  have S16 := Lib.hid s16
  clear s16
  go_wp2_with fail
  refine (has_st S16.out (L := andC A B) (by simp) Q6.out).mono ?_
  rintro e w17 ⟨rfl, s17⟩
  have S17 := Lib.hid s17
  clear s17
  go_wp2_with fail
  refine (has_st S17.out (L := A) (by simp) HXA.out).mono ?_
  rintro e w18 ⟨rfl, s18⟩
  have S18 := Lib.hid s18
  clear s18
  go_wp2_with fail
  refine (has_st S18.out (L := B) (by simp) HXB.out).mono ?_
  rintro e w19 ⟨rfl, s19⟩
  have S19 := Lib.hid s19
  clear s19
  go_wp2_with fail
  go_ret
  exact ⟨rfl, S19.out.1⟩
set_option maxRecDepth 20000 in
theorem have_lo_True_True_True_true_true (a1 a2 : Option Addr) (c1 c2 la lb : Nat) (A B : List Rg) (n : Int) (w : World) (hs1 : Hid (SlR w (.slice a1 la c1) A)) (hs2 : Hid (SlR w (.slice a2 lb c2) B)) (h1 : ¬ (100 : Int) < (la : Int)) (h2 : ¬ (100 : Int) < (lb : Int)) (hA : Hid (HaveA A n)) (hB : Hid (HaveB A B n)) (hxa : hs A n = true) (hxb : hs B n = true) (hn0 : ¬ 0 ≤ n) (kok : A.all okR = true) (kck : ckL A = true) (kcb : ckL B = true) :
    Calls Try.prog 6 #[.slice a1 la c1, .slice a2 lb c2, .int .i64 n] w fun e w' => e = .returned (.bool true) ∧ Below w.heap.size w w' := by
  have HXA := Lib.hid hxa
  have HXB := Lib.hid hxb
  obtain ⟨n1, n2, n3⟩ := hA.out.norm kok
  have N1 := Lib.hid n1
  have N2 : Hid (hs (uniC A) n = true) := Lib.hid (n2.trans hxa)
  have N3 := Lib.hid n3
  clear n1 n2 n3
  obtain ⟨m1, m2, m3, m4⟩ := hA.out.no kck
  have M1 := Lib.hid m1
  have M2 := Lib.hid m2
  have M3 := Lib.hid m3
  have M4 : Hid (hs (notC A) n = (false)) := Lib.hid (by rw [m4, decide_eq_false hn0]; rfl)
  clear m1 m2 m3 m4
  obtain ⟨q1, q2, q3, q4, q5, q6⟩ := hB.out.yes kck kcb
  have Q1 := Lib.hid q1
  have Q2 := Lib.hid q2
  have Q3 := Lib.hid q3
  have Q4 := Lib.hid q4
  have Q5 : Hid (hs (orC A B) n = (true || true)) := Lib.hid (by rw [q5, hxa, hxb])
  have Q6 : Hid (hs (andC A B) n = (true && true)) := Lib.hid (by rw [q6, hxa, hxb])
  clear q1 q2 q3 q4 q5 q6
  clear hA hB hxa hxb kok kck kcb
  have S0 := Lib.hid (((St.start w).put hs2.out).put hs1.out)
  go_enter Try.func6, Try.ntmps6
  go_wp2_with fail
  refine (alive_any _).mono ?_
  rintro e w1 ⟨rfl, b1⟩
  have S1 := Lib.hid (S0.out.step b1)
  clear b1
  go_wp2_with fail
  refine (norm_st S1.out (L := A) (by simp) N1.out).mono ?_
  rintro e w2 ⟨u2, rfl, s2⟩
  have S2 := Lib.hid s2
  clear s2
  go_wp2_with fail
  refine (has_st S2.out (L := uniC A) (by simp) N2.out).mono ?_
  rintro e w3 ⟨rfl, s3⟩
  have S3 := Lib.hid s3
  clear s3
  go_wp2_with fail
  refine (has_st S3.out (L := A) (by simp) HXA.out).mono ?_
  rintro e w4 ⟨rfl, s4⟩
  have S4 := Lib.hid s4
  clear s4
  go_wp2_with fail
  refine (check_st S4.out (L := uniC A) (by simp) N3.out).mono ?_
  rintro e w5 ⟨rfl, s5⟩
  have S5 := Lib.hid s5
  clear s5
  go_wp2_with fail
  refine (not_st S5.out (L := A) (by simp) M1.out).mono ?_
  rintro e w6 ⟨u6, rfl, s6⟩
  have S6 := Lib.hid s6
  clear s6
  go_wp2_with fail
  refine (not_st S6.out (L := notC A) (by simp) M2.out).mono ?_
  rintro e w7 ⟨u7, rfl, s7⟩
  have S7 := Lib.hid s7
  clear s7
  go_wp2_with fail
  refine (has_st S7.out (L := notC A) (by simp) M4.out).mono ?_
  rintro e w8 ⟨rfl, s8⟩
  have S8 := Lib.hid s8
  clear s8
  go_wp2_with fail
  refine (rsame_st S8.out (L := A) (P := A) (by simp) (by simp) (decide_eq_true rfl)).mono ?_
  rintro e w9 ⟨rfl, s9⟩
  have S9 := Lib.hid s9
  clear s9
  go_wp2_with fail
  refine (check_st S9.out (L := notC A) (by simp) M3.out).mono ?_
  rintro e w10 ⟨rfl, s10⟩
  have S10 := Lib.hid s10
  clear s10
  go_wp2_with fail
  refine (or_st S10.out (L := A) (P := B) (by simp) (by simp) Q1.out).mono ?_
  rintro e w11 ⟨u11, rfl, s11⟩
  have S11 := Lib.hid s11
  clear s11
  go_wp2_with fail
  refine (and_st S11.out (L := A) (P := B) (by simp) (by simp) Q2.out).mono ?_
  rintro e w12 ⟨u12, rfl, s12⟩
  have S12 := Lib.hid s12
  clear s12
  go_wp2_with fail
  refine (check_st S12.out (L := orC A B) (by simp) Q3.out).mono ?_
  rintro e w13 ⟨rfl, s13⟩
  have S13 := Lib.hid s13
  clear s13
  go_wp2_with fail
  refine (check_st S13.out (L := andC A B) (by simp) Q4.out).mono ?_
  rintro e w14 ⟨rfl, s14⟩
  have S14 := Lib.hid s14
  clear s14
  go_wp2_with fail
  refine (has_st S14.out (L := orC A B) (by simp) Q5.out).mono ?_
  rintro e w15 ⟨rfl, s15⟩
  have S15 := Lib.hid s15
  clear s15
  go_wp2_with fail
  refine (has_st S15.out (L := A) (by simp) HXA.out).mono ?_
  rintro e w16 ⟨rfl, s16⟩
  have S16 := Lib.hid s16
  clear s16
  go_wp2_with fail
  refine (has_st S16.out (L := andC A B) (by simp) Q6.out).mono ?_
  rintro e w17 ⟨rfl, s17⟩
  have S17 := Lib.hid s17
  clear s17
  go_wp2_with fail
  refine (has_st S17.out (L := A) (by simp) HXA.out).mono ?_
  rintro e w18 ⟨rfl, s18⟩
  have S18 := Lib.hid s18
  clear s18
  go_wp2_with fail
  refine (has_st S18.out (L := B) (by simp) HXB.out).mono ?_
  rintro e w19 ⟨rfl, s19⟩
  have S19 := Lib.hid s19
  clear s19
  go_wp2_with fail
  go_ret
  exact ⟨rfl, S19.out.1⟩
set_option maxRecDepth 20000 in
theorem have_lo_True_True_False_false_false (a1 a2 : Option Addr) (c1 c2 la lb : Nat) (A B : List Rg) (n : Int) (w : World) (hs1 : Hid (SlR w (.slice a1 la c1) A)) (hs2 : Hid (SlR w (.slice a2 lb c2) B)) (h1 : ¬ (100 : Int) < (la : Int)) (h2 : ¬ (100 : Int) < (lb : Int)) (hA : Hid (HaveA A n)) (hB : Hid (HaveB A B n)) (hxa : hs A n = false) (hxb : hs B n = false) (hn0 : ¬ 0 ≤ n) (kok : A.all okR = true) (kck : ckL A = true) (kcb : ckL B = false) :
    Calls Try.prog 6 #[.slice a1 la c1, .slice a2 lb c2, .int .i64 n] w fun e w' => e = .returned (.bool true) ∧ Below w.heap.size w w' := by
  have HXA := Lib.hid hxa
  have HXB := Lib.hid hxb
  obtain ⟨n1, n2, n3⟩ := hA.out.norm kok
  have N1 := Lib.hid n1
  have N2 : Hid (hs (uniC A) n = false) := Lib.hid (n2.trans hxa)
  have N3 := Lib.hid n3
  clear n1 n2 n3
  obtain ⟨m1, m2, m3, m4⟩ := hA.out.no kck
  have M1 := Lib.hid m1
  have M2 := Lib.hid m2
  have M3 := Lib.hid m3
  have M4 : Hid (hs (notC A) n = (false)) := Lib.hid (by rw [m4, decide_eq_false hn0]; rfl)
  clear m1 m2 m3 m4
  obtain ⟨q1, q2⟩ := hB.out.no (.inr kcb)
  have Q1 := Lib.hid q1
  have Q2 := Lib.hid q2
  clear q1 q2
  clear hA hB hxa hxb kok kck kcb
  have S0 := Lib.hid (((St.start w).put hs2.out).put hs1.out)
  go_enter Try.func6, Try.ntmps6
  go_wp2_with fail
  refine (alive_any _).mono ?_
  rintro e w1 ⟨rfl, b1⟩
  have S1 := Lib.hid (S0.out.step b1)
  clear b1
  go_wp2_with fail
  refine (norm_st S1.out (L := A) (by simp) N1.out).mono ?_
  rintro e w2 ⟨u2, rfl, s2⟩
  have S2 := Lib.hid s2
  clear s2
  go_wp2_with fail
  refine (has_st S2.out (L := uniC A) (by simp) N2.out).mono ?_
  rintro e w3 ⟨rfl, s3⟩
  have S3 := Lib.hid s3
  clear s3
  go_wp2_with fail
  refine (has_st S3.out (L := A) (by simp) HXA.out).mono ?_
  rintro e w4 ⟨rfl, s4⟩
  have S4 := Lib.hid s4
  clear s4
  go_wp2_with fail
  refine (check_st S4.out (L := uniC A) (by simp) N3.out).mono ?_
  rintro e w5 ⟨rfl, s5⟩
  have S5 := Lib.hid s5
  clear s5
  go_wp2_with fail
  refine (not_st S5.out (L := A) (by simp) M1.out).mono ?_
  rintro e w6 ⟨u6, rfl, s6⟩
  have S6 := Lib.hid s6
  clear s6
  go_wp2_with fail
  refine (not_st S6.out (L := notC A) (by simp) M2.out).mono ?_
  rintro e w7 ⟨u7, rfl, s7⟩
  have S7 := Lib.hid s7
  clear s7
  go_wp2_with fail
  refine (has_st S7.out (L := notC A) (by simp) M4.out).mono ?_
  rintro e w8 ⟨rfl, s8⟩
  have S8 := Lib.hid s8
  clear s8
  go_wp2_with fail
  refine (rsame_st S8.out (L := A) (P := A) (by simp) (by simp) (decide_eq_true rfl)).mono ?_
  rintro e w9 ⟨rfl, s9⟩
  have S9 := Lib.hid s9
  clear s9
  go_wp2_with fail
  refine (check_st S9.out (L := notC A) (by simp) M3.out).mono ?_
  rintro e w10 ⟨rfl, s10⟩
  have S10 := Lib.hid s10
  clear s10
  go_wp2_with fail
  refine (or_st S10.out (L := A) (P := B) (by simp) (by simp) Q1.out).mono ?_
  rintro e w11 ⟨u11, rfl, s11⟩
  have S11 := Lib.hid s11
  obtain ⟨p11, r11, rfl, _⟩ := s11.get (List.mem_cons_self ..)
  rw [show ([] : List Rg).length = 0 from rfl] at *
  clear s11
  go_wp2_with fail
  refine (and_st S11.out (L := A) (P := B) (by simp) (by simp) Q2.out).mono ?_
  rintro e w12 ⟨u12, rfl, s12⟩
  have S12 := Lib.hid s12
  obtain ⟨p12, r12, rfl, _⟩ := s12.get (List.mem_cons_self ..)
  rw [show ([] : List Rg).length = 0 from rfl] at *
  clear s12
  go_wp2_with fail
  go_ret
  exact ⟨rfl, S12.out.1⟩
set_option maxRecDepth 20000 in
theorem have_lo_True_True_False_false_true (a1 a2 : Option Addr) (c1 c2 la lb : Nat) (A B : List Rg) (n : Int) (w : World) (hs1 : Hid (SlR w (.slice a1 la c1) A)) (hs2 : Hid (SlR w (.slice a2 lb c2) B)) (h1 : ¬ (100 : Int) < (la : Int)) (h2 : ¬ (100 : Int) < (lb : Int)) (hA : Hid (HaveA A n)) (hB : Hid (HaveB A B n)) (hxa : hs A n = false) (hxb : hs B n = true) (hn0 : ¬ 0 ≤ n) (kok : A.all okR = true) (kck : ckL A = true) (kcb : ckL B = false) :
    Calls Try.prog 6 #[.slice a1 la c1, .slice a2 lb c2, .int .i64 n] w fun e w' => e = .returned (.bool true) ∧ Below w.heap.size w w' := by
  have HXA := Lib.hid hxa
  have HXB := Lib.hid hxb
  obtain ⟨n1, n2, n3⟩ := hA.out.norm kok
  have N1 := Lib.hid n1
  have N2 : Hid (hs (uniC A) n = false) := Lib.hid (n2.trans hxa)
  have N3 := Lib.hid n3
  clear n1 n2 n3
  obtain ⟨m1, m2, m3, m4⟩ := hA.out.no kck
  have M1 := Lib.hid m1
  have M2 := Lib.hid m2
  have M3 := Lib.hid m3
  have M4 : Hid (hs (notC A) n = (false)) := Lib.hid (by rw [m4, decide_eq_false hn0]; rfl)
  clear m1 m2 m3 m4
  obtain ⟨q1, q2⟩ := hB.out.no (.inr kcb)
  have Q1 := Lib.hid q1
  have Q2 := Lib.hid q2
  clear q1 q2
  clear hA hB hxa hxb kok kck kcb
  have S0 := Lib.hid (((St.start w).put hs2.out).put hs1.out)
  go_enter Try.func6, Try.ntmps6
  go_wp2_with fail
  refine (alive_any _).mono ?_
  rintro e w1 ⟨rfl, b1⟩
  have S1 := Lib.hid (S0.out.step b1)
  clear b1
  go_wp2_with fail
  refine (norm_st S1.out (L := A) (by simp) N1.out).mono ?_
  rintro e w2 ⟨u2, rfl, s2⟩
  have S2 := Lib.hid s2
  clear s2
  go_wp2_with fail
  refine (has_st S2.out (L := uniC A) (by simp) N2.out).mono ?_
  rintro e w3 ⟨rfl, s3⟩
  have S3 := Lib.hid s3
  clear s3
  go_wp2_with fail
  refine (has_st S3.out (L := A) (by simp) HXA.out).mono ?_
  rintro e w4 ⟨rfl, s4⟩
  have S4 := Lib.hid s4
  clear s4
  go_wp2_with fail
  refine (check_st S4.out (L := uniC A) (by simp) N3.out).mono ?_
  rintro e w5 ⟨rfl, s5⟩
  have S5 := Lib.hid s5
  clear s5
  go_wp2_with fail
  refine (not_st S5.out (L := A) (by simp) M1.out).mono ?_
  rintro e w6 ⟨u6, rfl, s6⟩
  have S6 := Lib.hid s6
  clear s6
  go_wp2_with fail
  refine (not_st S6.out (L := notC A) (by simp) M2.out).mono ?_
  rintro e w7 ⟨u7, rfl, s7⟩
  have S7 := Lib.hid s7
  clear s7
  go_wp2_with fail
  refine (has_st S7.out (L := notC A) (by simp) M4.out).mono ?_
  rintro e w8 ⟨rfl, s8⟩
  have S8 := Lib.hid s8
  clear s8
  go_wp2_with fail
  refine (rsame_st S8.out (L := A) (P := A) (by simp) (by simp) (decide_eq_true rfl)).mono ?_
  rintro e w9 ⟨rfl, s9⟩
  have S9 := Lib.hid s9
  clear s9
  go_wp2_with fail
  refine (check_st S9.out (L := notC A) (by simp) M3.out).mono ?_
  rintro e w10 ⟨rfl, s10⟩
  have S10 := Lib.hid s10
  clear s10
  go_wp2_with fail
  refine (or_st S10.out (L := A) (P := B) (by simp) (by simp) Q1.out).mono ?_
  rintro e w11 ⟨u11, rfl, s11⟩
  have S11 := Lib.hid s11
  obtain ⟨p11, r11, rfl, _⟩ := s11.get (List.mem_cons_self ..)
  rw [show ([] : List Rg).length = 0 from rfl] at *
  clear s11
  go_wp2_with fail
  refine (and_st S11.out (L := A) (P := B) (by simp) (by simp) Q2.out).mono ?_
  rintro e w12 ⟨u12, rfl, s12⟩
  have S12 := Lib.hid s12
  obtain ⟨p12, r12, rfl, _⟩ := s12.get (List.mem_cons_self ..)
  rw [show ([] : List Rg).length = 0 from rfl] at *
  clear s12
  go_wp2_with fail
  go_ret
  exact ⟨rfl, S12.out.1⟩
set_option maxRecDepth 20000 in
theorem have_lo_True_True_False_true_false (a1 a2 : Option Addr) (c1 c2 la lb : Nat) (A B : List Rg) (n : Int) (w : World) (hs1 : Hid (SlR w (.slice a1 la c1) A)) (hs2 : Hid (SlR w (.slice a2 lb c2) B)) (h1 : ¬ (100 : Int) < (la : Int)) (h2 : ¬ (100 : Int) < (lb : Int)) (hA : Hid (HaveA A n)) (hB : Hid (HaveB A B n)) (hxa : hs A n = true) (hxb : hs B n = false) (hn0 : ¬ 0 ≤ n) (kok : A.all okR = true) (kck : ckL A = true) (kcb : ckL B = false) :
    Calls Try.prog 6 #[.slice a1 la c1, .slice a2 lb c2, .int .i64 n] w fun e w' => e = .returned (.bool true) ∧ Below w.heap.size w w' := by
  have HXA := Lib.hid hxa
  have HXB := Lib.hid hxb
  obtain ⟨n1, n2, n3⟩ := hA.out.norm kok
  have N1 := Lib.hid n1
  have N2 : Hid (hs (uniC A) n = true) := Lib.hid (n2.trans hxa)
  have N3 := Lib.hid n3
  clear n1 n2 n3
  obtain ⟨m1, m2, m3, m4⟩ := hA.out.no kck
  have M1 := Lib.hid m1
  have M2 := Lib.hid m2
  have M3 := Lib.hid m3
  have M4 : Hid (hs (notC A) n = (false)) := Lib.hid (by rw [m4, decide_eq_false hn0]; rfl)
  clear m1 m2 m3 m4
  obtain ⟨q1, q2⟩ := hB.out.no (.inr kcb)
  have Q1 := Lib.hid q1
  have Q2 := Lib.hid q2
  clear q1 q2
  clear hA hB hxa hxb kok kck kcb
  have S0 := Lib.hid (((St.start w).put hs2.out).put hs1.out)
  go_enter Try.func6, Try.ntmps6
  go_wp2_with fail
  refine (alive_any _).mono ?_
  rintro e w1 ⟨rfl, b1⟩
  have S1 := Lib.hid (S0.out.step b1)
  clear b1
  go_wp2_with fail
  refine (norm_st S1.out (L := A) (by simp) N1.out).mono ?_
  rintro e w2 ⟨u2, rfl, s2⟩
  have S2 := Lib.hid s2
  clear s2
  go_wp2_with fail
  refine (has_st S2.out (L := uniC A) (by simp) N2.out).mono ?_
  rintro e w3 ⟨rfl, s3⟩
  have S3 := Lib.hid s3
  clear s3
  go_wp2_with fail
  refine (has_st S3.out (L := A) (by simp) HXA.out).mono ?_
  rintro e w4 ⟨rfl, s4⟩
  have S4 := Lib.hid s4
  clear s4
  go_wp2_with fail
  refine (check_st S4.out (L := uniC A) (by simp) N3.out).mono ?_
  rintro e w5 ⟨rfl, s5⟩
  have S5 := Lib.hid s5
  clear s5
  go_wp2_with fail
  refine (not_st S5.out (L := A) (by simp) M1.out).mono ?_
  rintro e w6 ⟨u6, rfl, s6⟩
  have S6 := Lib.hid s6
  clear s6
  go_wp2_with fail
  refine (not_st S6.out (L := notC A) (by simp) M2.out).mono ?_
  rintro e w7 ⟨u7, rfl, s7⟩
  have S7 := Lib.hid s7
  clear s7
  go_wp2_with fail
  refine (has_st S7.out (L := notC A) (by simp) M4.out).mono ?_
  rintro e w8 ⟨rfl, s8⟩
  have S8 := Lib.hid s8
  clear s8
  go_wp2_with fail
  refine (rsame_st S8.out (L := A) (P := A) (by simp) (by simp) (decide_eq_true rfl)).mono ?_
  rintro e w9 ⟨rfl, s9⟩
  have S9 := Lib.hid s9
  clear s9
  go_wp2_with fail
  refine (check_st S9.out (L := notC A) (by simp) M3.out).mono ?_
  rintro e w10 ⟨rfl, s10⟩
  have S10 := Lib.hid s10
  clear s10
  go_wp2_with fail
  refine (or_st S10.out (L := A) (P := B) (by simp) (by simp) Q1.out).mono ?_
  rintro e w11 ⟨u11, rfl, s11⟩
  have S11 := Lib.hid s11
  obtain ⟨p11, r11, rfl, _⟩ := s11.get (List.mem_cons_self ..)
  rw [show ([] : List Rg).length = 0 from rfl] at *
  clear s11
  go_wp2_with fail
  refine (and_st S11.out (L := A) (P := B) (by simp) (by simp) Q2.out).mono ?_
  rintro e w12 ⟨u12, rfl, s12⟩
  have S12 := Lib.hid s12
  obtain ⟨p12, r12, rfl, _⟩ := s12.get (List.mem_cons_self ..)
  rw [show ([] : List Rg).length = 0 from rfl] at *
  clear s12
  go_wp2_with fail
  go_ret
  exact ⟨rfl, S12.out.1⟩
set_option maxRecDepth 20000 in
theorem have_lo_True_True_False_true_true (a1 a2 : Option Addr) (c1 c2 la lb : Nat) (A B : List Rg) (n : Int) (w : World) (hs1 : Hid (SlR w (.slice a1 la c1) A)) (hs2 : Hid (SlR w (.slice a2 lb c2) B)) (h1 : ¬ (100 : Int) < (la : Int)) (h2 : ¬ (100 : Int) < (lb : Int)) (hA : Hid (HaveA A n)) (hB : Hid (HaveB A B n)) (hxa : hs A n = true) (hxb : hs B n = true) (hn0 : ¬ 0 ≤ n) (kok : A.all okR = true) (kck : ckL A = true) (kcb : ckL B = false) :
    Calls Try.prog 6 #[.slice a1 la c1, .slice a2 lb c2, .int .i64 n] w fun e w' => e = .returned (.bool true) ∧ Below w.heap.size w w' := by
  have HXA := Lib.hid hxa
  have HXB := Lib.hid hxb
  obtain ⟨n1, n2, n3⟩ := hA.out.norm kok
  have N1 := Lib.hid n1
  have N2 : Hid (hs (uniC A) n = true) := Lib.hid (n2.trans hxa)
  have N3 := Lib.hid n3
  clear n1 n2 n3
  obtain ⟨m1, m2, m3, m4⟩ := hA.out.no kck
  have M1 := Lib.hid m1
  have M2 := Lib.hid m2
  have M3 := Lib.hid m3
  have M4 : Hid (hs (notC A) n = (false)) := Lib.hid (by rw [m4, decide_eq_false hn0]; rfl)
  clear m1 m2 m3 m4
  obtain ⟨q1, q2⟩ := hB.out.no (.inr kcb)
  have Q1 := Lib.hid q1
  have Q2 := Lib.hid q2
  clear q1 q2
  clear hA hB hxa hxb kok kck kcb
  have S0 := Lib.hid (((St.start w).put hs2.out).put hs1.out)
  go_enter Try.func6, Try.ntmps6
  go_wp2_with fail
  refine (alive_any _).mono ?_
  rintro e w1 ⟨rfl, b1⟩
  have S1 := Lib.hid (S0.out.step b1)
  clear b1
  go_wp2_with fail
  refine (norm_st S1.out (L := A) (by simp) N1.out).mono ?_
  rintro e w2 ⟨u2, rfl, s2⟩
  have S2 := Lib.hid s2
  clear s2
  go_wp2_with fail
  refine (has_st S2.out (L := uniC A) (by simp) N2.out).mono ?_
  rintro e w3 ⟨rfl, s3⟩
  have S3 := Lib.hid s3
  clear s3
  go_wp2_with fail
  refine (has_st S3.out (L := A) (by simp) HXA.out).mono ?_
  rintro e w4 ⟨rfl, s4⟩
  have S4 := Lib.hid s4
  clear s4
  go_wp2_with fail
  refine (check_st S4.out (L := uniC A) (by simp) N3.out).mono ?_
  rintro e w5 ⟨rfl, s5⟩
  have S5 := Lib.hid s5
  clear s5
  go_wp2_with fail
  refine (not_st S5.out (L := A) (by simp) M1.out).mono ?_
  rintro e w6 ⟨u6, rfl, s6⟩
  have S6 := Lib.hid s6
  clear s6
  go_wp2_with fail
  refine (not_st S6.out (L := notC A) (by simp) M2.out).mono ?_
  rintro e w7 ⟨u7, rfl, s7⟩
  have S7 := Lib.hid s7
  clear s7
  go_wp2_with fail
  refine (has_st S7.out (L := notC A) (by simp) M4.out).mono ?_
  rintro e w8 ⟨rfl, s8⟩
  have S8 := Lib.hid s8
  clear s8
  go_wp2_with fail
  refine (rsame_st S8.out (L := A) (P := A) (by simp) (by simp) (decide_eq_true rfl)).mono ?_
  rintro e w9 ⟨rfl, s9⟩
  have S9 := Lib.hid s9
  clear s9
  go_wp2_with fail
  refine (check_st S9.out (L := notC A) (by simp) M3.out).mono ?_
  rintro e w10 ⟨rfl, s10⟩
  have S10 := Lib.hid s10
  clear s10
  go_wp2_with fail
  refine (or_st S10.out (L := A) (P := B) (by simp) (by simp) Q1.out).mono ?_
  rintro e w11 ⟨u11, rfl, s11⟩
  have S11 := Lib.hid s11
  obtain ⟨p11, r11, rfl, _⟩ := s11.get (List.mem_cons_self ..)
  rw [show ([] : List Rg).length = 0 from rfl] at *
  clear s11
  go_wp2_with fail
  refine (and_st S11.out (L := A) (P := B) (by simp) (by simp) Q2.out).mono ?_
  rintro e w12 ⟨u12, rfl, s12⟩
  have S12 := Lib.hid s12
  obtain ⟨p12, r12, rfl, _⟩ := s12.get (List.mem_cons_self ..)
  rw [show ([] : List Rg).length = 0 from rfl] at *
  clear s12
  go_wp2_with fail
  go_ret
  exact ⟨rfl, S12.out.1⟩
set_option maxRecDepth 20000 in
theorem have_lo_True_False_False_false_false (a1 a2 : Option Addr) (c1 c2 la lb : Nat) (A B : List Rg) (n : Int) (w : World) (hs1 : Hid (SlR w (.slice a1 la c1) A)) (hs2 : Hid (SlR w (.slice a2 lb c2) B)) (h1 : ¬ (100 : Int) < (la : Int)) (h2 : ¬ (100 : Int) < (lb : Int)) (hA : Hid (HaveA A n)) (hB : Hid (HaveB A B n)) (hxa : hs A n = false) (hxb : hs B n = false) (hn0 : ¬ 0 ≤ n) (kok : A.all okR = true) (kck : ckL A = false) :
    Calls Try.prog 6 #[.slice a1 la c1, .slice a2 lb c2, .int .i64 n] w fun e w' => e = .returned (.bool true) ∧ Below w.heap.size w w' := by
  have HXA := Lib.hid hxa
  have HXB := Lib.hid hxb
  obtain ⟨n1, n2, n3⟩ := hA.out.norm kok
  have N1 := Lib.hid n1
  have N2 : Hid (hs (uniC A) n = false) := Lib.hid (n2.trans hxa)
  have N3 := Lib.hid n3
  clear n1 n2 n3
  have M1 := Lib.hid (hA.out.nobad kck)
  obtain ⟨q1, q2⟩ := hB.out.no (.inl kck)
  have Q1 := Lib.hid q1
  have Q2 := Lib.hid q2
  clear q1 q2
  clear hA hB hxa hxb kok kck
  have S0 := Lib.hid (((St.start w).put hs2.out).put hs1.out)
  go_enter Try.func6, Try.ntmps6
  go_wp2_with fail
  refine (alive_any _).mono ?_
  rintro e w1 ⟨rfl, b1⟩
  have S1 := Lib.hid (S0.out.step b1)
  clear b1
  go_wp2_with fail
  refine (norm_st S1.out (L := A) (by simp) N1.out).mono ?_
  rintro e w2 ⟨u2, rfl, s2⟩
  have S2 := Lib.hid s2
  clear s2
  go_wp2_with fail
  refine (has_st S2.out (L := uniC A) (by simp) N2.out).mono ?_
  rintro e w3 ⟨rfl, s3⟩
  have S3 := Lib.hid s3
  clear s3
  go_wp2_with fail
  refine (has_st S3.out (L := A) (by simp) HXA.out).mono ?_
  rintro e w4 ⟨rfl, s4⟩
  have S4 := Lib.hid s4
  clear s4
  go_wp2_with fail
  refine (check_st S4.out (L := uniC A) (by simp) N3.out).mono ?_
  rintro e w5 ⟨rfl, s5⟩
  have S5 := Lib.hid s5
  clear s5
  go_wp2_with fail
  refine (not_st S5.out (L := A) (by simp) M1.out).mono ?_
  rintro e w6 ⟨u6, rfl, s6⟩
  have S6 := Lib.hid s6
  clear s6
  go_wp2_with fail
  refine (or_st S6.out (L := A) (P := B) (by simp) (by simp) Q1.out).mono ?_
  rintro e w7 ⟨u7, rfl, s7⟩
  have S7 := Lib.hid s7
  obtain ⟨p7, r7, rfl, _⟩ := s7.get (List.mem_cons_self ..)
  rw [show ([] : List Rg).length = 0 from rfl] at *
  clear s7
  go_wp2_with fail
  refine (and_st S7.out (L := A) (P := B) (by simp) (by simp) Q2.out).mono ?_
  rintro e w8 ⟨u8, rfl, s8⟩
  have S8 := Lib.hid s8
  obtain ⟨p8, r8, rfl, _⟩ := s8.get (List.mem_cons_self ..)
  rw [show ([] : List Rg).length = 0 from rfl] at *
  clear s8
  go_wp2_with fail
  go_ret
  exact ⟨rfl, S8.out.1⟩
set_option maxRecDepth 20000 in
theorem have_lo_True_False_False_false_true (a1 a2 : Option Addr) (c1 c2 la lb : Nat) (A B : List Rg) (n : Int) (w : World) (hs1 : Hid (SlR w (.slice a1 la c1) A)) (hs2 : Hid (SlR w (.slice a2 lb c2) B)) (h1 : ¬ (100 : Int) < (la : Int)) (h2 : ¬ (100 : Int) < (lb : Int)) (hA : Hid (HaveA A n)) (hB : Hid (HaveB A B n)) (hxa : hs A n = false) (hxb : hs B n = true) (hn0 : ¬ 0 ≤ n) (kok : A.all okR = true) (kck : ckL A = false) :
    Calls Try.prog 6 #[.slice a1 la c1, .slice a2 lb c2, .int .i64 n] w fun e w' => e = .returned (.bool true) ∧ Below w.heap.size w w' := by
  have HXA := Lib.hid hxa
  have HXB := Lib.hid hxb
  obtain ⟨n1, n2, n3⟩ := hA.out.norm kok
  have N1 := Lib.hid n1
  have N2 : Hid (hs (uniC A) n = false) := Lib.hid (n2.trans hxa)
  have N3 := Lib.hid n3
  clear n1 n2 n3
  have M1 := Lib.hid (hA.out.nobad kck)
  obtain ⟨q1, q2⟩ := hB.out.no (.inl kck)
  have Q1 := Lib.hid q1
  have Q2 := Lib.hid q2
  clear q1 q2
  clear hA hB hxa hxb kok kck
  have S0 := Lib.hid (((St.start w).put hs2.out).put hs1.out)
  go_enter Try.func6, Try.ntmps6
  go_wp2_with fail
  refine (alive_any _).mono ?_
  rintro e w1 ⟨rfl, b1⟩
  have S1 := Lib.hid (S0.out.step b1)
  clear b1
  go_wp2_with fail
  refine (norm_st S1.out (L := A) (by simp) N1.out).mono ?_
  rintro e w2 ⟨u2, rfl, s2⟩
  have S2 := Lib.hid s2
  clear s2
  go_wp2_with fail
  refine (has_st S2.out (L := uniC A) (by simp) N2.out).mono ?_
  rintro e w3 ⟨rfl, s3⟩
  have S3 := Lib.hid s3
  clear s3
  go_wp2_with fail
  refine (has_st S3.out (L := A) (by simp) HXA.out).mono ?_
  rintro e w4 ⟨rfl, s4⟩
  have S4 := Lib.hid s4
  clear s4
  go_wp2_with fail
  refine (check_st S4.out (L := uniC A) (by simp) N3.out).mono ?_
  rintro e w5 ⟨rfl, s5⟩
  have S5 := Lib.hid s5
  clear s5
  go_wp2_with fail
  refine (not_st S5.out (L := A) (by simp) M1.out).mono ?_
  rintro e w6 ⟨u6, rfl, s6⟩
  have S6 := Lib.hid s6
  clear s6
  go_wp2_with fail
  refine (or_st S6.out (L := A) (P := B) (by simp) (by simp) Q1.out).mono ?_
  rintro e w7 ⟨u7, rfl, s7⟩
  have S7 := Lib.hid s7
  obtain ⟨p7, r7, rfl, _⟩ := s7.get (List.mem_cons_self ..)
  rw [show ([] : List Rg).length = 0 from rfl] at *
  clear s7
  go_wp2_with fail
  refine (and_st S7.out (L := A) (P := B) (by simp) (by simp) Q2.out).mono ?_
  rintro e w8 ⟨u8, rfl, s8⟩
  have S8 := Lib.hid s8
  obtain ⟨p8, r8, rfl, _⟩ := s8.get (List.mem_cons_self ..)
  rw [show ([] : List Rg).length = 0 from rfl] at *
  clear s8
  go_wp2_with fail
  go_ret
  exact ⟨rfl, S8.out.1⟩
set_option maxRecDepth 20000 in
theorem have_lo_True_False_False_true_false (a1 a2 : Option Addr) (c1 c2 la lb : Nat) (A B : List Rg) (n : Int) (w : World) (hs1 : Hid (SlR w (.slice a1 la c1) A)) (hs2 : Hid (SlR w (.slice a2 lb c2) B)) (h1 : ¬ (100 : Int) < (la : Int)) (h2 : ¬ (100 : Int) < (lb : Int)) (hA : Hid (HaveA A n)) (hB : Hid (HaveB A B n)) (hxa : hs A n = true) (hxb : hs B n = false) (hn0 : ¬ 0 ≤ n) (kok : A.all okR = true) (kck : ckL A = false) :
    Calls Try.prog 6 #[.slice a1 la c1, .slice a2 lb c2, .int .i64 n] w fun e w' => e = .returned (.bool true) ∧ Below w.heap.size w w' := by
  have HXA := Lib.hid hxa
  have HXB := Lib.hid hxb
  obtain ⟨n1, n2, n3⟩ := hA.out.norm kok
  have N1 := Lib.hid n1
  have N2 : Hid (hs (uniC A) n = true) := Lib.hid (n2.trans hxa)
  have N3 := Lib.hid n3
  clear n1 n2 n3
  have M1 := Lib.hid (hA.out.nobad kck)
  obtain ⟨q1, q2⟩ := hB.out.no (.inl kck)
  have Q1 := Lib.hid q1
  have Q2 := Lib.hid q2
  clear q1 q2
  clear hA hB hxa hxb kok kck
  have S0 := Lib.hid (((St.start w).put hs2.out).put hs1.out)
  go_enter Try.func6, Try.ntmps6
  go_wp2_with fail
  refine (alive_any _).mono ?_
  rintro e w1 ⟨rfl, b1⟩
  have S1 := Lib.hid (S0.out.step b1)
  clear b1
  go_wp2_with fail
  refine (norm_st S1.out (L := A) (by simp) N1.out).mono ?_
  rintro e w2 ⟨u2, rfl, s2⟩
  have S2 := Lib.hid s2
  clear s2
  go_wp2_with fail
  refine (has_st S2.out (L := uniC A) (by simp) N2.out).mono ?_
  rintro e w3 ⟨rfl, s3⟩
  have S3 := Lib.hid s3
  clear s3
  go_wp2_with fail
  refine (has_st S3.out (L := A) (by simp) HXA.out).mono ?_
  rintro e w4 ⟨rfl, s4⟩
  have S4 := Lib.hid s4
  clear s4
  go_wp2_with fail
  refine (check_st S4.out (L := uniC A) (by simp) N3.out).mono ?_
  rintro e w5 ⟨rfl, s5⟩
  have S5 := Lib.hid s5
  clear s5
  go_wp2_with fail
  refine (not_st S5.out (L := A) (by simp) M1.out).mono ?_
  rintro e w6 ⟨u6, rfl, s6⟩
  have S6 := Lib.hid s6
  clear s6
  go_wp2_with fail
  refine (or_st S6.out (L := A) (P := B) (by simp) (by simp) Q1.out).mono ?_
  rintro e w7 ⟨u7, rfl, s7⟩
  have S7 := Lib.hid s7
  obtain ⟨p7, r7, rfl, _⟩ := s7.get (List.mem_cons_self ..)
  rw [show ([] : List Rg).length = 0 from rfl] at *
  clear s7
  go_wp2_with fail
  refine (and_st S7.out (L := A) (P := B) (by simp) (by simp) Q2.out).mono ?_
  rintro e w8 ⟨u8, rfl, s8⟩
  have S8 := Lib.hid s8
  obtain ⟨p8, r8, rfl, _⟩ := s8.get (List.mem_cons_self ..)
  rw [show ([] : List Rg).length = 0 from rfl] at *
  clear s8
  go_wp2_with fail
  go_ret
  exact ⟨rfl, S8.out.1⟩
set_option maxRecDepth 20000 in
theorem have_lo_True_False_False_true_true (a1 a2 : Option Addr) (c1 c2 la lb : Nat) (A B : List Rg) (n : Int) (w : World) (hs1 : Hid (SlR w (.slice a1 la c1) A)) (hs2 : Hid (SlR w (.slice a2 lb c2) B)) (h1 : ¬ (100 : Int) < (la : Int)) (h2 : ¬ (100 : Int) < (lb : Int)) (hA : Hid (HaveA A n)) (hB : Hid (HaveB A B n)) (hxa : hs A n = true) (hxb : hs B n = true) (hn0 : ¬ 0 ≤ n) (kok : A.all okR = true) (kck : ckL A = false) :
    Calls Try.prog 6 #[.slice a1 la c1, .slice a2 lb c2, .int .i64 n] w fun e w' => e = .returned (.bool true) ∧ Below w.heap.size w w' := by
  have HXA := Lib.hid hxa
  have HXB := Lib.hid hxb
  obtain ⟨n1, n2, n3⟩ := hA.out.norm kok
  have N1 := Lib.hid n1
  have N2 : Hid (hs (uniC A) n = true) := Lib.hid (n2.trans hxa)
  have N3 := Lib.hid n3
  clear n1 n2 n3
  have M1 := Lib.hid (hA.out.nobad kck)
  obtain ⟨q1, q2⟩ := hB.out.no (.inl kck)
  have Q1 := Lib.hid q1
  have Q2 := Lib.hid q2
  clear q1 q2
  clear hA hB hxa hxb kok kck
  have S0 := Lib.hid (((St.start w).put hs2.out).put hs1.out)
  go_enter Try.func6, Try.ntmps6
  go_wp2_with fail
  refine (alive_any _).mono ?_
  rintro e w1 ⟨rfl, b1⟩
  have S1 := Lib.hid (S0.out.step b1)
  clear b1
  go_wp2_with fail
  refine (norm_st S1.out (L := A) (by simp) N1.out).mono ?_
  rintro e w2 ⟨u2, rfl, s2⟩
  have S2 := Lib.hid s2
  clear s2
  go_wp2_with fail
  refine (has_st S2.out (L := uniC A) (by simp) N2.out).mono ?_
  rintro e w3 ⟨rfl, s3⟩
  have S3 := Lib.hid s3
  clear s3
  go_wp2_with fail
  refine (has_st S3.out (L := A) (by simp) HXA.out).mono ?_
  rintro e w4 ⟨rfl, s4⟩
  have S4 := Lib.hid s4
  clear s4
  go_wp2_with fail
  refine (check_st S4.out (L := uniC A) (by simp) N3.out).mono ?_
  rintro e w5 ⟨rfl, s5⟩
  have S5 := Lib.hid s5
  clear s5
  go_wp2_with fail
  refine (not_st S5.out (L := A) (by simp) M1.out).mono ?_
  rintro e w6 ⟨u6, rfl, s6⟩
  have S6 := Lib.hid s6
  clear s6
  go_wp2_with fail
  refine (or_st S6.out (L := A) (P := B) (by simp) (by simp) Q1.out).mono ?_
  rintro e w7 ⟨u7, rfl, s7⟩
  have S7 := Lib.hid s7
  obtain ⟨p7, r7, rfl, _⟩ := s7.get (List.mem_cons_self ..)
  rw [show ([] : List Rg).length = 0 from rfl] at *
  clear s7
  go_wp2_with fail
  refine (and_st S7.out (L := A) (P := B) (by simp) (by simp) Q2.out).mono ?_
  rintro e w8 ⟨u8, rfl, s8⟩
  have S8 := Lib.hid s8
  obtain ⟨p8, r8, rfl, _⟩ := s8.get (List.mem_cons_self ..)
  rw [show ([] : List Rg).length = 0 from rfl] at *
  clear s8
  go_wp2_with fail
  go_ret
  exact ⟨rfl, S8.out.1⟩
set_option maxRecDepth 20000 in
theorem have_lo_False_False_False_false_false (a1 a2 : Option Addr) (c1 c2 la lb : Nat) (A B : List Rg) (n : Int) (w : World) (hs1 : Hid (SlR w (.slice a1 la c1) A)) (hs2 : Hid (SlR w (.slice a2 lb c2) B)) (h1 : ¬ (100 : Int) < (la : Int)) (h2 : ¬ (100 : Int) < (lb : Int)) (hA : Hid (HaveA A n)) (hB : Hid (HaveB A B n)) (hxa : hs A n = false) (hxb : hs B n = false) (hn0 : ¬ 0 ≤ n) (kok : A.all okR = false) (kck : ckL A = false) :
    Calls Try.prog 6 #[.slice a1 la c1, .slice a2 lb c2, .int .i64 n] w fun e w' => e = .returned (.bool true) ∧ Below w.heap.size w w' := by
  have HXA := Lib.hid hxa
  have HXB := Lib.hid hxb
  have N1 := Lib.hid (hA.out.bad kok)
  have M1 := Lib.hid (hA.out.nobad kck)
  obtain ⟨q1, q2⟩ := hB.out.no (.inl kck)
  have Q1 := Lib.hid q1
  have Q2 := Lib.hid q2
  clear q1 q2
  clear hA hB hxa hxb kok kck
  have S0 := Lib.hid (((St.start w).put hs2.out).put hs1.out)
  go_enter Try.func6, Try.ntmps6
  go_wp2_with fail
  refine (alive_any _).mono ?_
  rintro e w1 ⟨rfl, b1⟩
  have S1 := Lib.hid (S0.out.step b1)
  clear b1
  go_wp2_with fail
  refine (norm_st S1.out (L := A) (by simp) N1.out).mono ?_
  rintro e w2 ⟨u2, rfl, s2⟩
  have S2 := Lib.hid s2
  clear s2
  go_wp2_with fail
  refine (not_st S2.out (L := A) (by simp) M1.out).mono ?_
  rintro e w3 ⟨u3, rfl, s3⟩
  have S3 := Lib.hid s3
  clear s3
  go_wp2_with fail
  refine (or_st S3.out (L := A) (P := B) (by simp) (by simp) Q1.out).mono ?_
  rintro e w4 ⟨u4, rfl, s4⟩
  have S4 := Lib.hid s4
  obtain ⟨p4, r4, rfl, _⟩ := s4.get (List.mem_cons_self ..)
  rw [show ([] : List Rg).length = 0 from rfl] at *
  clear s4
  go_wp2_with fail
  refine (and_st S4.out (L := A) (P := B) (by simp) (by simp) Q2.out).mono ?_
  rintro e w5 ⟨u5, rfl, s5⟩
  have S5 := Lib.hid s5
  obtain ⟨p5, r5, rfl, _⟩ := s5.get (List.mem_cons_self ..)
  rw [show ([] : List Rg).length = 0 from rfl] at *
  clear s5
  go_wp2_with fail
  go_ret
  exact ⟨rfl, S5.out.1⟩
set_option maxRecDepth 20000 in
theorem have_lo_False_False_False_false_true (a1 a2 : Option Addr) (c1 c2 la lb : Nat) (A B : List Rg) (n : Int) (w : World) (hs1 : Hid (SlR w (.slice a1 la c1) A)) (hs2 : Hid (SlR w (.slice a2 lb c2) B)) (h1 : ¬ (100 : Int) < (la : Int)) (h2 : ¬ (100 : Int) < (lb : Int)) (hA : Hid (HaveA A n)) (hB : Hid (HaveB A B n)) (hxa : hs A n = false) (hxb : hs B n = true) (hn0 : ¬ 0 ≤ n) (kok : A.all okR = false) (kck : ckL A = false) :
    Calls Try.prog 6 #[.slice a1 la c1, .slice a2 lb c2, .int .i64 n] w fun e w' => e = .returned (.bool true) ∧ Below w.heap.size w w' := by
  have HXA := Lib.hid hxa
  have HXB := Lib.hid hxb
  have N1 := Lib.hid (hA.out.bad kok)
  have M1 := Lib.hid (hA.out.nobad kck)
  obtain ⟨q1, q2⟩ := hB.out.no (.inl kck)
  have Q1 := Lib.hid q1
  have Q2 := Lib.hid q2
  clear q1 q2
  clear hA hB hxa hxb kok kck
  have S0 := Lib.hid (((St.start w).put hs2.out).put hs1.out)
  go_enter Try.func6, Try.ntmps6
  go_wp2_with fail
  refine (alive_any _).mono ?_
  rintro e w1 ⟨rfl, b1⟩
  have S1 := Lib.hid (S0.out.step b1)
  clear b1
  go_wp2_with fail
  refine (norm_st S1.out (L := A) (by simp) N1.out).mono ?_
  rintro e w2 ⟨u2, rfl, s2⟩
  have S2 := Lib.hid s2
  clear s2
  go_wp2_with fail
  refine (not_st S2.out (L := A) (by simp) M1.out).mono ?_
  rintro e w3 ⟨u3, rfl, s3⟩
  have S3 := Lib.hid s3
  clear s3
  go_wp2_with fail
  refine (or_st S3.out (L := A) (P := B) (by simp) (by simp) Q1.out).mono ?_
  rintro e w4 ⟨u4, rfl, s4⟩
  have S4 := Lib.hid s4
  obtain ⟨p4, r4, rfl, _⟩ := s4.get (List.mem_cons_self ..)
  rw [show ([] : List Rg).length = 0 from rfl] at *
  clear s4
  go_wp2_with fail
  refine (and_st S4.out (L := A) (P := B) (by simp) (by simp) Q2.out).mono ?_
  rintro e w5 ⟨u5, rfl, s5⟩
  have S5 := Lib.hid s5
  obtain ⟨p5, r5, rfl, _⟩ := s5.get (List.mem_cons_self ..)
  rw [show ([] : List Rg).length = 0 from rfl] at *
  clear s5
  go_wp2_with fail
  go_ret
  exact ⟨rfl, S5.out.1⟩
set_option maxRecDepth 20000 in
theorem have_lo_False_False_False_true_false (a1 a2 : Option Addr) (c1 c2 la lb : Nat) (A B : List Rg) (n : Int) (w : World) (hs1 : Hid (SlR w (.slice a1 la c1) A)) (hs2 : Hid (SlR w (.slice a2 lb c2) B)) (h1 : ¬ (100 : Int) < (la : Int)) (h2 : ¬ (100 : Int) < (lb : Int)) (hA : Hid (HaveA A n)) (hB : Hid (HaveB A B n)) (hxa : hs A n = true) (hxb : hs B n = false) (hn0 : ¬ 0 ≤ n) (kok : A.all okR = false) (kck : ckL A = false) :
    Calls Try.prog 6 #[.slice a1 la c1, .slice a2 lb c2, .int .i64 n] w fun e w' => e = .returned (.bool true) ∧ Below w.heap.size w w' := by
  have HXA := Lib.hid hxa
  have HXB := Lib.hid hxb
  have N1 := Lib.hid (hA.out.bad kok)
  have M1 := Lib.hid (hA.out.nobad kck)
  obtain ⟨q1, q2⟩ := hB.out.no (.inl kck)
  have Q1 := Lib.hid q1
  have Q2 := Lib.hid q2
  clear q1 q2
  clear hA hB hxa hxb kok kck
  have S0 := Lib.hid (((St.start w).put hs2.out).put hs1.out)
  go_enter Try.func6, Try.ntmps6
  go_wp2_with fail
  refine (alive_any _).mono ?_
  rintro e w1 ⟨rfl, b1⟩
  have S1 := Lib.hid (S0.out.step b1)
  clear b1
  go_wp2_with fail
  refine (norm_st S1.out (L := A) (by simp) N1.out).mono ?_
  rintro e w2 ⟨u2, rfl, s2⟩
  have S2 := Lib.hid s2
  clear s2
  go_wp2_with fail
  refine (not_st S2.out (L := A) (by simp) M1.out).mono ?_
  rintro e w3 ⟨u3, rfl, s3⟩
  have S3 := Lib.hid s3
  clear s3
  go_wp2_with fail
  refine (or_st S3.out (L := A) (P := B) (by simp) (by simp) Q1.out).mono ?_
  rintro e w4 ⟨u4, rfl, s4⟩
  have S4 := Lib.hid s4
  obtain ⟨p4, r4, rfl, _⟩ := s4.get (List.mem_cons_self ..)
  rw [show ([] : List Rg).length = 0 from rfl] at *
  clear s4
  go_wp2_with fail
  refine (and_st S4.out (L := A) (P := B) (by simp) (by simp) Q2.out).mono ?_
  rintro e w5 ⟨u5, rfl, s5⟩
  have S5 := Lib.hid s5
  obtain ⟨p5, r5, rfl, _⟩ := s5.get (List.mem_cons_self ..)
  rw [show ([] : List Rg).length = 0 from rfl] at *
  clear s5
  go_wp2_with fail
  go_ret
  exact ⟨rfl, S5.out.1⟩
set_option maxRecDepth 20000 in
theorem have_lo_False_False_False_true_true (a1 a2 : Option Addr) (c1 c2 la lb : Nat) (A B : List Rg) (n : Int) (w : World) (hs1 : Hid (SlR w (.slice a1 la c1) A)) (hs2 : Hid (SlR w (.slice a2 lb c2) B)) (h1 : ¬ (100 : Int) < (la : Int)) (h2 : ¬ (100 : Int) < (lb : Int)) (hA : Hid (HaveA A n)) (hB : Hid (HaveB A B n)) (hxa : hs A n = true) (hxb : hs B n = true) (hn0 : ¬ 0 ≤ n) (kok : A.all okR = false) (kck : ckL A = false) :
    Calls Try.prog 6 #[.slice a1 la c1, .slice a2 lb c2, .int .i64 n] w fun e w' => e = .returned (.bool true) ∧ Below w.heap.size w w' := by
  have HXA := Lib.hid hxa
  have HXB := Lib.hid hxb
  have N1 := Lib.hid (hA.out.bad kok)
  have M1 := Lib.hid (hA.out.nobad kck)
  obtain ⟨q1, q2⟩ := hB.out.no (.inl kck)
  have Q1 := Lib.hid q1
  have Q2 := Lib.hid q2
  clear q1 q2
  clear hA hB hxa hxb kok kck
  have S0 := Lib.hid (((St.start w).put hs2.out).put hs1.out)
  go_enter Try.func6, Try.ntmps6
  go_wp2_with fail
  refine (alive_any _).mono ?_
  rintro e w1 ⟨rfl, b1⟩
  have S1 := Lib.hid (S0.out.step b1)
  clear b1
  go_wp2_with fail
  refine (norm_st S1.out (L := A) (by simp) N1.out).mono ?_
  rintro e w2 ⟨u2, rfl, s2⟩
  have S2 := Lib.hid s2
  clear s2
  go_wp2_with fail
  refine (not_st S2.out (L := A) (by simp) M1.out).mono ?_
  rintro e w3 ⟨u3, rfl, s3⟩
  have S3 := Lib.hid s3
  clear s3
  go_wp2_with fail
  refine (or_st S3.out (L := A) (P := B) (by simp) (by simp) Q1.out).mono ?_
  rintro e w4 ⟨u4, rfl, s4⟩
  have S4 := Lib.hid s4
  obtain ⟨p4, r4, rfl, _⟩ := s4.get (List.mem_cons_self ..)
  rw [show ([] : List Rg).length = 0 from rfl] at *
  clear s4
  go_wp2_with fail
  refine (and_st S4.out (L := A) (P := B) (by simp) (by simp) Q2.out).mono ?_
  rintro e w5 ⟨u5, rfl, s5⟩
  have S5 := Lib.hid s5
  obtain ⟨p5, r5, rfl, _⟩ := s5.get (List.mem_cons_self ..)
  rw [show ([] : List Rg).length = 0 from rfl] at *
  clear s5
  go_wp2_with fail
  go_ret
  exact ⟨rfl, S5.out.1⟩
set_option maxRecDepth 20000 in
theorem have_hi_True_True_True_false_false (a1 a2 : Option Addr) (c1 c2 la lb : Nat) (A B : List Rg) (n : Int) (w : World) (hs1 : Hid (SlR w (.slice a1 la c1) A)) (hs2 : Hid (SlR w (.slice a2 lb c2) B)) (h1 : ¬ (100 : Int) < (la : Int)) (h2 : ¬ (100 : Int) < (lb : Int)) (hA : Hid (HaveA A n)) (hB : Hid (HaveB A B n)) (hxa : hs A n = false) (hxb : hs B n = false) (hn0 : 0 ≤ n) (hn1 : ¬ n ≤ 1114111) (kok : A.all okR = true) (kck : ckL A = true) (kcb : ckL B = true) :
    Calls Try.prog 6 #[.slice a1 la c1, .slice a2 lb c2, .int .i64 n] w fun e w' => e = .returned (.bool true) ∧ Below w.heap.size w w' := by
  have HXA := Lib.hid hxa
  have HXB := Lib.hid hxb
  obtain ⟨n1, n2, n3⟩ := hA.out.norm kok
  have N1 := Lib.hid n1
  have N2 : Hid (hs (uniC A) n = false) := Lib.hid (n2.trans hxa)
  have N3 := Lib.hid n3
  clear n1 n2 n3
  obtain ⟨m1, m2, m3, m4⟩ := hA.out.no kck
  have M1 := Lib.hid m1
  have M2 := Lib.hid m2
  have M3 := Lib.hid m3
  have M4 : Hid (hs (notC A) n = (false)) := Lib.hid (by rw [m4, decide_eq_true hn0, decide_eq_false hn1]; rfl)
  clear m1 m2 m3 m4
  obtain ⟨q1, q2, q3, q4, q5, q6⟩ := hB.out.yes kck kcb
  have Q1 := Lib.hid q1
  have Q2 := Lib.hid q2
  have Q3 := Lib.hid q3
  have Q4 := Lib.hid q4
  have Q5 : Hid (hs (orC A B) n = (false || false)) := Lib.hid (by rw [q5, hxa, hxb])
  have Q6 : Hid (hs (andC A B) n = (false && false)) := Lib.hid (by rw [q6, hxa, hxb])
  clear q1 q2 q3 q4 q5 q6
  clear hA hB hxa hxb kok kck kcb
  have S0 := Lib.hid (((St.start w).put hs2.out).put hs1.out)
  go_enter Try.func6, Try.ntmps6
  go_wp2_with fail
  refine (alive_any _).mono ?_
  rintro e w1 ⟨rfl, b1⟩
  have S1 := Lib.hid (S0.out.step b1)
  clear b1
  go_wp2_with fail
  refine (norm_st S1.out (L := A) (by simp) N1.out).mono ?_
  rintro e w2 ⟨u2, rfl, s2⟩
  have S2 := Lib.hid s2
  clear s2
  go_wp2_with fail
  refine (has_st S2.out (L := uniC A) (by simp) N2.out).mono ?_
  rintro e w3 ⟨rfl, s3⟩
  have S3 := Lib.hid s3
  clear s3
  go_wp2_with fail
  refine (has_st S3.out (L := A) (by simp) HXA.out).mono ?_
  rintro e w4 ⟨rfl, s4⟩
  have S4 := Lib.hid s4
  clear s4
  go_wp2_with fail
  refine (check_st S4.out (L := uniC A) (by simp) N3.out).mono ?_
  rintro e w5 ⟨rfl, s5⟩
  have S5 := Lib.hid s5
  clear s5
  go_wp2_with fail
  refine (not_st S5.out (L := A) (by simp) M1.out).mono ?_
  rintro e w6 ⟨u6, rfl, s6⟩
  have S6 := Lib.hid s6
  clear s6
  go_wp2_with fail
  refine (not_st S6.out (L := notC A) (by simp) M2.out).mono ?_
  rintro e w7 ⟨u7, rfl, s7⟩
  have S7 := Lib.hid s7
  clear s7
  go_wp2_with fail
  refine (has_st S7.out (L := notC A) (by simp) M4.out).mono ?_
  rintro e w8 ⟨rfl, s8⟩
  have S8 := Lib.hid s8
  clear s8
  go_wp2_with fail
  refine (rsame_st S8.out (L := A) (P := A) (by simp) (by simp) (decide_eq_true rfl)).mono ?_
  rintro e w9 ⟨rfl, s9⟩
  have S9 := Lib.hid s9
  clear s9
  go_wp2_with fail
  refine (check_st S9.out (L := notC A) (by simp) M3.out).mono ?_
  rintro e w10 ⟨rfl, s10⟩
  have S10 := Lib.hid s10
  clear s10
  go_wp2_with fail
  refine (or_st S10.out (L := A) (P := B) (by simp) (by simp) Q1.out).mono ?_
  rintro e w11 ⟨u11, rfl, s11⟩
  have S11 := Lib.hid s11
  clear s11
  go_wp2_with fail
  refine (and_st S11.out (L := A) (P := B) (by simp) (by simp) Q2.out).mono ?_
  rintro e w12 ⟨u12, rfl, s12⟩
  have S12 := Lib.hid s12
  clear s12
  go_wp2_with fail
  refine (check_st S12.out (L := orC A B) (by simp) Q3.out).mono ?_
  rintro e w13 ⟨rfl, s13⟩
  have S13 := Lib.hid s13
  clear s13
  go_wp2_with fail
  refine (check_st S13.out (L := andC A B) (by simp) Q4.out).mono ?_
  rintro e w14 ⟨rfl, s14⟩
  have S14 := Lib.hid s14
  clear s14
  go_wp2_with fail
  refine (has_st S14.out (L := orC A B) (by simp) Q5.out).mono ?_
  rintro e w15 ⟨rfl, s15⟩
  have S15 := Lib.hid s15
  clear s15
  go_wp2_with fail
  refine (has_st S15.out (L := A) (by simp) HXA.out).mono ?_
  rintro e w16 ⟨rfl, s16⟩
  have S16 := Lib.hid s16
  clear s16
  go_wp2_with fail
  refine (has_st S16.out (L := B) (by simp) HXB.out).mono ?_
  rintro e w17 ⟨rfl, s17⟩
  have S17 := Lib.hid s17
  clear s17
  go_wp2_with fail
  refine (has_st S17.out (L := andC A B) (by simp) Q6.out).mono ?_
  rintro e w18 ⟨rfl, s18⟩
  have S18 := Lib.hid s18
  clear s18
  go_wp2_with fail
  refine (has_st S18.out (L := A) (by simp) HXA.out).mono ?_
  rintro e w19 ⟨rfl, s19⟩
  have S19 := Lib.hid s19
  clear s19
  go_wp2_with fail
  go_ret
  exact ⟨rfl, S19.out.1⟩
set_option maxRecDepth 20000 in
theorem have_hi_True_True_True_false_true (a1 a2 : Option Addr) (c1 c2 la lb : Nat) (A B : List Rg) (n : Int) (w : World) (hs1 : Hid (SlR w (.slice a1 la c1) A)) (hs2 : Hid (SlR w (.slice a2 lb c2) B)) (h1 : ¬ (100 : Int) < (la : Int)) (h2 : ¬ (100 : Int) < (lb : Int)) (hA : Hid (HaveA A n)) (hB : Hid (HaveB A B n)) (hxa : hs A n = false) (hxb : hs B n = true) (hn0 : 0 ≤ n) (hn1 : ¬ n ≤ 1114111) (kok : A.all okR = true) (kck : ckL A = true) (kcb : ckL B = true) :
    Calls Try.prog 6 #[.slice a1 la c1, .slice a2 lb c2, .int .i64 n] w fun e w' => e = .returned (.bool true) ∧ Below w.heap.size w w' := by
  have HXA := Lib.hid hxa
  have HXB := Lib.hid hxb
  obtain ⟨n1, n2, n3⟩ := hA.out.norm kok
  have N1 := Lib.hid n1
  have N2 : Hid (hs (uniC A) n = false) := Lib.hid (n2.trans hxa)
  have N3 := Lib.hid n3
  clear n1 n2 n3
  obtain ⟨m1, m2, m3, m4⟩ := hA.out.no kck
  have M1 := Lib.hid m1
  have M2 := Lib.hid m2
  have M3 := Lib.hid m3
  have M4 : Hid (hs (notC A) n = (false)) := Lib.hid (by rw [m4, decide_eq_true hn0, decide_eq_false hn1]; rfl)
  clear m1 m2 m3 m4
  obtain ⟨q1, q2, q3, q4, q5, q6⟩ := hB.out.yes kck kcb
  have Q1 := Lib.hid q1
  have Q2 := Lib.hid q2
  have Q3 := Lib.hid q3
  have Q4 := Lib.hid q4
  have Q5 : Hid (hs (orC A B) n = (false || true)) := Lib.hid (by rw [q5, hxa, hxb])
  have Q6 : Hid (hs (andC A B) n = (false && true)) := Lib.hid (by rw [q6, hxa, hxb])
  clear q1 q2 q3 q4 q5 q6
  clear hA hB hxa hxb kok kck kcb
  have S0 := Lib.hid (((St.start w).put hs2.out).put hs1.out)
  go_enter Try.func6, Try.ntmps6
  go_wp2_with fail
  refine (alive_any _).mono ?_
  rintro e w1 ⟨rfl, b1⟩
  have S1 := Lib.hid (S0.out.step b1)
  clear b1
  go_wp2_with fail
  refine (norm_st S1.out (L := A) (by simp) N1.out).mono ?_
  rintro e w2 ⟨u2, rfl, s2⟩
  have S2 := Lib.hid s2
  clear s2
  go_wp2_with fail
  refine (has_st S2.out (L := uniC A) (by simp) N2.out).mono ?_
  rintro e w3 ⟨rfl, s3⟩
  have S3 := Lib.hid s3
  clear s3
  go_wp2_with fail
  refine (has_st S3.out (L := A) (by simp) HXA.out).mono ?_
  rintro e w4 ⟨rfl, s4⟩
  have S4 := Lib.hid s4
  clear s4
  go_wp2_with fail
  refine (check_st S4.out (L := uniC A) (by simp) N3.out).mono ?_
  rintro e w5 ⟨rfl, s5⟩
  have S5 := Lib.hid s5
  clear s5
  go_wp2_with fail
  refine (not_st S5.out (L := A) (by simp) M1.out).mono ?_
  rintro e w6 ⟨u6, rfl, s6⟩
  have S6 := Lib.hid s6
  clear s6
  go_wp2_with fail
  refine (not_st S6.out (L := notC A) (by simp) M2.out).mono ?_
  rintro e w7 ⟨u7, rfl, s7⟩
  have S7 := Lib.hid s7
  clear s7
  go_wp2_with fail
  refine (has_st S7.out (L := notC A) (by simp) M4.out).mono ?_
  rintro e w8 ⟨rfl, s8⟩
  have S8 := Lib.hid s8
  clear s8
  go_wp2_with fail
  refine (rsame_st S8.out (L := A) (P := A) (by simp) (by simp) (decide_eq_true rfl)).mono ?_
  rintro e w9 ⟨rfl, s9⟩
  have S9 := Lib.hid s9
  clear s9
  go_wp2_with fail
  refine (check_st S9.out (L := notC A) (by simp) M3.out).mono ?_
  rintro e w10 ⟨rfl, s10⟩
  have S10 := Lib.hid s10
  clear s10
  go_wp2_with fail
  refine (or_st S10.out (L := A) (P := B) (by simp) (by simp) Q1.out).mono ?_
  rintro e w11 ⟨u11, rfl, s11⟩
  have S11 := Lib.hid s11
  clear s11
  go_wp2_with fail
  refine (and_st S11.out (L := A) (P := B) (by simp) (by simp) Q2.out).mono ?_
  rintro e w12 ⟨u12, rfl, s12⟩
  have S12 := Lib.hid s12
  clear s12
  go_wp2_with fail
  refine (check_st S12.out (L := orC A B) (by simp) Q3.out).mono ?_
  rintro e w13 ⟨rfl, s13⟩
  have S13 := Lib.hid s13
  clear s13
  go_wp2_with fail
  refine (check_st S13.out (L := andC A B) (by simp) Q4.out).mono ?_
  rintro e w14 ⟨rfl, s14⟩
  have S14 := Lib.hid s14
  clear s14
  go_wp2_with fail
  refine (has_st S14.out (L := orC A B) (by simp) Q5.out).mono ?_
  rintro e w15 ⟨rfl, s15⟩
  have S15 := Lib.hid s15
  clear s15
  go_wp2_with fail
  refine (has_st S15.out (L := A) (by simp) HXA.out).mono ?_
  rintro e w16 ⟨rfl, s16⟩
  have S16 := Lib.hid s16
  clear s16
  go_wp2_with fail
  refine (has_st S16.out (L := B) (by simp) HXB.out).mono ?_
  rintro e w17 ⟨rfl, s17⟩
  have S17 := Lib.hid s17
  clear s17
  go_wp2_with fail
  refine (has_st S17.out (L := andC A B) (by simp) Q6.out).mono ?_
  rintro e w18 ⟨rfl, s18⟩
  have S18 := Lib.hid s18
  clear s18
  go_wp2_with fail
  refine (has_st S18.out (L := A) (by simp) HXA.out).mono ?_
  rintro e w19 ⟨rfl, s19⟩
  have S19 := Lib.hid s19
  clear s19
  go_wp2_with fail
  go_ret
  exact ⟨rfl, S19.out.1⟩
set_option maxRecDepth 20000 in
theorem have_hi_True_True_True_true_false (a1 a2 : Option Addr) (c1 c2 la lb : Nat) (A B : List Rg) (n : Int) (w : World) (hs1 : Hid (SlR w (.slice a1 la c1) A)) (hs2 : Hid (SlR w (.slice a2 lb c2) B)) (h1 : ¬ (100 : Int) < (la : Int)) (h2 : ¬ (100 : Int) < (lb : Int)) (hA : Hid (HaveA A n)) (hB : Hid (HaveB A B n)) (hxa : hs A n = true) (hxb : hs B n = false) (hn0 : 0 ≤ n) (hn1 : ¬ n ≤ 1114111) (kok : A.all okR = true) (kck : ckL A = true) (kcb : ckL B = true) :
    Calls Try.prog 6 #[.slice a1 la c1, .slice a2 lb c2, .int .i64 n] w fun e w' => e = .returned (.bool true) ∧ Below w.heap.size w w' := by
  have HXA := Lib.hid hxa
  have HXB := Lib.hid hxb
  obtain ⟨n1, n2, n3⟩ := hA.out.norm kok
  have N1 := Lib.hid n1
  have N2 : Hid (hs (uniC A) n = true) := Lib.hid (n2.trans hxa)
  have N3 := Lib.hid n3
  clear n1 n2 n3
  obtain ⟨m1, m2, m3, m4⟩ := hA.out.no kck
  have M1 := Lib.hid m1
  have M2 := Lib.hid m2
  have M3 := Lib.hid m3
  have M4 : Hid (hs (notC A) n = (false)) := Lib.hid (by rw [m4, decide_eq_true hn0, decide_eq_false hn1]; rfl)
  clear m1 m2 m3 m4
  obtain ⟨q1, q2, q3, q4, q5, q6⟩ := hB.out.yes kck kcb
  have Q1 := Lib.hid q1
  have Q2 := Lib.hid q2
  have Q3 := Lib.hid q3
  have Q4 := Lib.hid q4
  have Q5 : Hid (hs (orC A B) n = (true || false)) := Lib.hid (by rw [q5, hxa, hxb])
  have Q6 : Hid (hs (andC A B) n = (true && false)) := Lib.hid (by rw [q6, hxa, hxb])
  clear q1 q2 q3 q4 q5 q6
  clear hA hB hxa hxb kok kck kcb
  have S0 := Lib.hid (((St.start w).put hs2.out).put hs1.out)
  go_enter Try.func6, Try.ntmps6
  go_wp2_with fail
  refine (alive_any _).mono ?_
  rintro e w1 ⟨rfl, b1⟩
  have S1 := Lib.hid (S0.out.step b1)
  clear b1
  go_wp2_with fail
  refine (norm_st S1.out (L := A) (by simp) N1.out).mono ?_
  rintro e w2 ⟨u2, rfl, s2⟩
  have S2 := Lib.hid s2
  clear s2
  go_wp2_with fail
  refine (has_st S2.out (L := uniC A) (by simp) N2.out).mono ?_
  rintro e w3 ⟨rfl, s3⟩
  have S3 := Lib.hid s3
  clear s3
  go_wp2_with fail
  refine (has_st S3.out (L := A) (by simp) HXA.out).mono ?_
  rintro e w4 ⟨rfl, s4⟩
  have S4 := Lib.hid s4
  clear s4
  go_wp2_with fail
  refine (check_st S4.out (L := uniC A) (by simp) N3.out).mono ?_
  rintro e w5 ⟨rfl, s5⟩
  have S5 := Lib.hid s5
  clear s5
  go_wp2_with fail
  refine (not_st S5.out (L := A) (by simp) M1.out).mono ?_
  rintro e w6 ⟨u6, rfl, s6⟩
  have S6 := Lib.hid s6
  clear s6
  go_wp2_with fail
  refine (not_st S6.out (L := notC A) (by simp) M2.out).mono ?_
  rintro e w7 ⟨u7, rfl, s7⟩
  have S7 := Lib.hid s7
  clear s7
  go_wp2_with fail
  refine (has_st S7.out (L := notC A) (by simp) M4.out).mono ?_
  rintro e w8 ⟨rfl, s8⟩
  have S8 := Lib.hid s8
  clear s8
  go_wp2_with fail
  refine (rsame_st S8.out (L := A) (P := A) (by simp) (by simp) (decide_eq_true rfl)).mono ?_
  rintro e w9 ⟨rfl, s9⟩
  have S9 := Lib.hid s9
  clear s9
  go_wp2_with fail
  refine (check_st S9.out (L := notC A) (by simp) M3.out).mono ?_
  rintro e w10 ⟨rfl, s10⟩
  have S10 := Lib.hid s10
  clear s10
  go_wp2_with fail
  refine (or_st S10.out (L := A) (P := B) (by simp) (by simp) Q1.out).mono ?_
  rintro e w11 ⟨u11, rfl, s11⟩
  have S11 := Lib.hid s11
  clear s11
  go_wp2_with fail
  refine (and_st S11.out (L := A) (P := B) (by simp) (by simp) Q2.out).mono ?_
  rintro e w12 ⟨u12, rfl, s12⟩
  have S12 := Lib.hid s12
  clear s12
  go_wp2_with fail
  refine (check_st S12.out (L := orC A B) (by simp) Q3.out).mono ?_
  rintro e w13 ⟨rfl, s13⟩
  have S13 := Lib.hid s13
  clear s13
  go_wp2_with fail
  refine (check_st S13.out (L := andC A B) (by simp) Q4.out).mono ?_
  rintro e w14 ⟨rfl, s14⟩
  have S14 := Lib.hid s14
  clear s14
  go_wp2_with fail
  refine (has_st S14.out (L := orC A B) (by simp) Q5.out).mono ?_
  rintro e w15 ⟨rfl, s15⟩
  have S15 := Lib.hid s15
  clear s15
  go_wp2_with fail
  refine (has_st S15.out (L := A) (by simp) HXA.out).mono ?_
  rintro e w16 ⟨rfl, s16⟩
  have S16 := Lib.hid s16
  clear s16
  go_wp2_with fail
  refine (has_st S16.out (L := andC A B) (by simp) Q6.out).mono ?_
  rintro e w17 ⟨rfl, s17⟩
  have S17 := Lib.hid s17
  clear s17
  go_wp2_with fail
  refine (has_st S17.out (L := A) (by simp) HXA.out).mono ?_
  rintro e w18 ⟨rfl, s18⟩
  have S18 := Lib.hid s18
  clear s18
  go_wp2_with fail
  refine (has_st S18.out (L := B) (by simp) HXB.out).mono ?_
  rintro e w19 ⟨rfl, s19⟩
  have S19 := Lib.hid s19
  clear s19
  go_wp2_with fail
  go_ret
  exact ⟨rfl, S19.out.1⟩
set_option maxRecDepth 20000 in
theorem have_hi_True_True_True_true_true (a1 a2 : Option Addr) (c1 c2 la lb : Nat) (A B : List Rg) (n : Int) (w : World) (hs1 : Hid (SlR w (.slice a1 la c1) A)) (hs2 : Hid (SlR w (.slice a2 lb c2) B)) (h1 : ¬ (100 : Int) < (la : Int)) (h2 : ¬ (100 : Int) < (lb : Int)) (hA : Hid (HaveA A n)) (hB : Hid (HaveB A B n)) (hxa : hs A n = true) (hxb : hs B n = true) (hn0 : 0 ≤ n) (hn1 : ¬ n ≤ 1114111) (kok : A.all okR = true) (kck : ckL A = true) (kcb : ckL B = true) :
    Calls Try.prog 6 #[.slice a1 la c1, .slice a2 lb c2, .int .i64 n] w fun e w' => e = .returned (.bool true) ∧ Below w.heap.size w w' := by
  have HXA := Lib.hid hxa
  have HXB := Lib.hid hxb
  obtain ⟨n1, n2, n3⟩ := hA.out.norm kok
  have N1 := Lib.hid n1
  have N2 : Hid (hs (uniC A) n = true) := Lib.hid (n2.trans hxa)
  have N3 := Lib.hid n3
  clear n1 n2 n3
  obtain ⟨m1, m2, m3, m4⟩ := hA.out.no kck
  have M1 := Lib.hid m1
  have M2 := Lib.hid m2
  have M3 := Lib.hid m3
  have M4 : Hid (hs (notC A) n = (false)) := Lib.hid (by rw [m4, decide_eq_true hn0, decide_eq_false hn1]; rfl)
  clear m1 m2 m3 m4
  obtain ⟨q1, q2, q3, q4, q5, q6⟩ := hB.out.yes kck kcb
  have Q1 := Lib.hid q1
  have Q2 := Lib.hid q2
  have Q3 := Lib.hid q3
  have Q4 := Lib.hid q4
  have Q5 : Hid (hs (orC A B) n = (true || true)) := Lib.hid (by rw [q5, hxa, hxb])
  have Q6 : Hid (hs (andC A B) n = (true && true)) := Lib.hid (by rw [q6, hxa, hxb])
  clear q1 q2 q3 q4 q5 q6
  clear hA hB hxa hxb kok kck kcb
  have S0 := Lib.hid (((St.start w).put hs2.out).put hs1.out)
  go_enter Try.func6, Try.ntmps6
  go_wp2_with fail
  refine (alive_any _).mono ?_
  rintro e w1 ⟨rfl, b1⟩
  have S1 := Lib.hid (S0.out.step b1)
  clear b1
  go_wp2_with fail
  refine (norm_st S1.out (L := A) (by simp) N1.out).mono ?_
  rintro e w2 ⟨u2, rfl, s2⟩
  have S2 := Lib.hid s2
  clear s2
  go_wp2_with fail
  refine (has_st S2.out (L := uniC A) (by simp) N2.out).mono ?_
  rintro e w3 ⟨rfl, s3⟩
  have S3 := Lib.hid s3
  clear s3
  go_wp2_with fail
  refine (has_st S3.out (L := A) (by simp) HXA.out).mono ?_
  rintro e w4 ⟨rfl, s4⟩
  have S4 := Lib.hid s4
  clear s4
  go_wp2_with fail
  refine (check_st S4.out (L := uniC A) (by simp) N3.out).mono ?_
  rintro e w5 ⟨rfl, s5⟩
  have S5 := Lib.hid s5
  clear s5
  go_wp2_with fail
  refine (not_st S5.out (L := A) (by simp) M1.out).mono ?_
  rintro e w6 ⟨u6, rfl, s6⟩
  have S6 := Lib.hid s6
  clear s6
  go_wp2_with fail
  refine (not_st S6.out (L := notC A) (by simp) M2.out).mono ?_
  rintro e w7 ⟨u7, rfl, s7⟩
  have S7 := Lib.hid s7
  clear s7
  go_wp2_with fail
  refine (has_st S7.out (L := notC A) (by simp) M4.out).mono ?_
  rintro e w8 ⟨rfl, s8⟩
  have S8 := Lib.hid s8
  clear s8
  go_wp2_with fail
  refine (rsame_st S8.out (L := A) (P := A) (by simp) (by simp) (decide_eq_true rfl)).mono ?_
  rintro e w9 ⟨rfl, s9⟩
  have S9 := Lib.hid s9
  clear s9
  go_wp2_with fail
  refine (check_st S9.out (L := notC A) (by simp) M3.out).mono ?_
  rintro e w10 ⟨rfl, s10⟩
  have S10 := Lib.hid s10
  clear s10
  go_wp2_with fail
  refine (or_st S10.out (L := A) (P := B) (by simp) (by simp) Q1.out).mono ?_
  rintro e w11 ⟨u11, rfl, s11⟩
  have S11 := Lib.hid s11
  clear s11
  go_wp2_with fail
  refine (and_st S11.out (L := A) (P := B) (by simp) (by simp) Q2.out).mono ?_
  rintro e w12 ⟨u12, rfl, s12⟩
  have S12 := Lib.hid s12
  clear s12
  go_wp2_with fail
  refine (check_st S12.out (L := orC A B) (by simp) Q3.out).mono ?_
  rintro e w13 ⟨rfl, s13⟩
  have S13 := Lib.hid s13
  clear s13
  go_wp2_with fail
  refine (check_st S13.out (L := andC A B) (by simp) Q4.out).mono ?_
  rintro e w14 ⟨rfl, s14⟩
  have S14 := Lib.hid s14
  clear s14
  go_wp2_with fail
  refine (has_st S14.out (L := orC A B) (by simp) Q5.out).mono ?_
  rintro e w15 ⟨rfl, s15⟩
  have S15 := Lib.hid s15
  clear s15
  go_wp2_with fail
  refine (has_st S15.out (L := A) (by simp) HXA.out).mono ?_
  rintro e w16 ⟨rfl, s16⟩
  have S16 := Lib.hid s16
  clear s16
  go_wp2_with fail
  refine (has_st S16.out (L := andC A B) (by simp) Q6.out).mono ?_
  rintro e w17 ⟨rfl, s17⟩
  have S17 := Lib.hid s17
  clear s17
  go_wp2_with fail
  refine (has_st S17.out (L := A) (by simp) HXA.out).mono ?_
  rintro e w18 ⟨rfl, s18⟩
  have S18 := Lib.hid s18
  clear s18
  go_wp2_with fail
  refine (has_st S18.out (L := B) (by simp) HXB.out).mono ?_
  rintro e w19 ⟨rfl, s19⟩
  have S19 := Lib.hid s19
  clear s19
  go_wp2_with fail
  go_ret
  exact ⟨rfl, S19.out.1⟩
set_option maxRecDepth 20000 in
theorem have_hi_True_True_False_false_false (a1 a2 : Option Addr) (c1 c2 la lb : Nat) (A B : List Rg) (n : Int) (w : World) (hs1 : Hid (SlR w (.slice a1 la c1) A)) (hs2 : Hid (SlR w (.slice a2 lb c2) B)) (h1 : ¬ (100 : Int) < (la : Int)) (h2 : ¬ (100 : Int) < (lb : Int)) (hA : Hid (HaveA A n)) (hB : Hid (HaveB A B n)) (hxa : hs A n = false) (hxb : hs B n = false) (hn0 : 0 ≤ n) (hn1 : ¬ n ≤ 1114111) (kok : A.all okR = true) (kck : ckL A = true) (kcb : ckL B = false) :
    Calls Try.prog 6 #[.slice a1 la c1, .slice a2 lb c2, .int .i64 n] w fun e w' => e = .returned (.bool true) ∧ Below w.heap.size w w' := by
  have HXA := Lib.hid hxa
  have HXB := Lib.hid hxb
  obtain ⟨n1, n2, n3⟩ := hA.out.norm kok
  have N1 := Lib.hid n1
  have N2 : Hid (hs (uniC A) n = false) := Lib.hid (n2.trans hxa)
  have N3 := Lib.hid n3
  clear n1 n2 n3
  obtain ⟨m1, m2, m3, m4⟩ := hA.out.no kck
  have M1 := Lib.hid m1
  have M2 := Lib.hid m2
  have M3 := Lib.hid m3
  have M4 : Hid (hs (notC A) n = (false)) := Lib.hid (by rw [m4, decide_eq_true hn0, decide_eq_false hn1]; rfl)
  clear m1 m2 m3 m4
  obtain ⟨q1, q2⟩ := hB.out.no (.inr kcb)
  have Q1 := Lib.hid q1
  have Q2 := Lib.hid q2
  clear q1 q2
  clear hA hB hxa hxb kok kck kcb
  have S0 := Lib.hid (((St.start w).put hs2.out).put hs1.out)
  go_enter Try.func6, Try.ntmps6
  go_wp2_with fail
  refine (alive_any _).mono ?_
  rintro e w1 ⟨rfl, b1⟩
  have S1 := Lib.hid (S0.out.step b1)
  clear b1
  go_wp2_with fail
  refine (norm_st S1.out (L := A) (by simp) N1.out).mono ?_
  rintro e w2 ⟨u2, rfl, s2⟩
  have S2 := Lib.hid s2
  clear s2
  go_wp2_with fail
  refine (has_st S2.out (L := uniC A) (by simp) N2.out).mono ?_
  rintro e w3 ⟨rfl, s3⟩
  have S3 := Lib.hid s3
  clear s3
  go_wp2_with fail
  refine (has_st S3.out (L := A) (by simp) HXA.out).mono ?_
  rintro e w4 ⟨rfl, s4⟩
  have S4 := Lib.hid s4
  clear s4
  go_wp2_with fail
  refine (check_st S4.out (L := uniC A) (by simp) N3.out).mono ?_
  rintro e w5 ⟨rfl, s5⟩
  have S5 := Lib.hid s5
  clear s5
  go_wp2_with fail
  refine (not_st S5.out (L := A) (by simp) M1.out).mono ?_
  rintro e w6 ⟨u6, rfl, s6⟩
  have S6 := Lib.hid s6
  clear s6
  go_wp2_with fail
  refine (not_st S6.out (L := notC A) (by simp) M2.out).mono ?_
  rintro e w7 ⟨u7, rfl, s7⟩
  have S7 := Lib.hid s7
  clear s7
  go_wp2_with fail
  refine (has_st S7.out (L := notC A) (by simp) M4.out).mono ?_
  rintro e w8 ⟨rfl, s8⟩
  have S8 := Lib.hid s8
  clear s8
  go_wp2_with fail
  refine (rsame_st S8.out (L := A) (P := A) (by simp) (by simp) (decide_eq_true rfl)).mono ?_
  rintro e w9 ⟨rfl, s9⟩
  have S9 := Lib.hid s9
  clear s9
  go_wp2_with fail
  refine (check_st S9.out (L := notC A) (by simp) M3.out).mono ?_
  rintro e w10 ⟨rfl, s10⟩
  have S10 := Lib.hid s10
  clear s10
  go_wp2_with fail
  refine (or_st S10.out (L := A) (P := B) (by simp) (by simp) Q1.out).mono ?_
  rintro e w11 ⟨u11, rfl, s11⟩
  have S11 := Lib.hid s11
  obtain ⟨p11, r11, rfl, _⟩ := s11.get (List.mem_cons_self ..)
  rw [show ([] : List Rg).length = 0 from rfl] at *
  clear s11
  go_wp2_with fail
  refine (and_st S11.out (L := A) (P := B) (by simp) (by simp) Q2.out).mono ?_
  rintro e w12 ⟨u12, rfl, s12⟩
  have S12 := Lib.hid s12
  obtain ⟨p12, r12, rfl, _⟩ := s12.get (List.mem_cons_self ..)
  rw [show ([] : List Rg).length = 0 from rfl] at *
  clear s12
  go_wp2_with fail
  go_ret
  exact ⟨rfl, S12.out.1⟩
set_option maxRecDepth 20000 in
theorem have_hi_True_True_False_false_true (a1 a2 : Option Addr) (c1 c2 la lb : Nat) (A B : List Rg) (n : Int) (w : World) (hs1 : Hid (SlR w (.slice a1 la c1) A)) (hs2 : Hid (SlR w (.slice a2 lb c2) B)) (h1 : ¬ (100 : Int) < (la : Int)) (h2 : ¬ (100 : Int) < (lb : Int)) (hA : Hid (HaveA A n)) (hB : Hid (HaveB A B n)) (hxa : hs A n = false) (hxb : hs B n = true) (hn0 : 0 ≤ n) (hn1 : ¬ n ≤ 1114111) (kok : A.all okR = true) (kck : ckL A = true) (kcb : ckL B = false) :
    Calls Try.prog 6 #[.slice a1 la c1, .slice a2 lb c2, .int .i64 n] w fun e w' => e = .returned (.bool true) ∧ Below w.heap.size w w' := by
  have HXA := Lib.hid hxa
  have HXB := Lib.hid hxb
  obtain ⟨n1, n2, n3⟩ := hA.out.norm kok
  have N1 := Lib.hid n1
  have N2 : Hid (hs (uniC A) n = false) := Lib.hid (n2.trans hxa)
  have N3 := Lib.hid n3
  clear n1 n2 n3
  obtain ⟨m1, m2, m3, m4⟩ := hA.out.no kck
  have M1 := Lib.hid m1
  have M2 := Lib.hid m2
  have M3 := Lib.hid m3
  have M4 : Hid (hs (notC A) n = (false)) := Lib.hid (by rw [m4, decide_eq_true hn0, decide_eq_false hn1]; rfl)
  clear m1 m2 m3 m4
  obtain ⟨q1, q2⟩ := hB.out.no (.inr kcb)
  have Q1 := Lib.hid q1
  have Q2 := Lib.hid q2
  clear q1 q2
  clear hA hB hxa hxb kok kck kcb
  have S0 := Lib.hid (((St.start w).put hs2.out).put hs1.out)
  go_enter Try.func6, Try.ntmps6
  go_wp2_with fail
  refine (alive_any _).mono ?_
  rintro e w1 ⟨rfl, b1⟩
  have S1 := Lib.hid (S0.out.step b1)
  clear b1
  go_wp2_with fail
  refine (norm_st S1.out (L := A) (by simp) N1.out).mono ?_
  rintro e w2 ⟨u2, rfl, s2⟩
  have S2 := Lib.hid s2
  clear s2
  go_wp2_with fail
  refine (has_st S2.out (L := uniC A) (by simp) N2.out).mono ?_
  rintro e w3 ⟨rfl, s3⟩
  have S3 := Lib.hid s3
  clear s3
  go_wp2_with fail
  refine (has_st S3.out (L := A) (by simp) HXA.out).mono ?_
  rintro e w4 ⟨rfl, s4⟩
  have S4 := Lib.hid s4
  clear s4
  go_wp2_with fail
  refine (check_st S4.out (L := uniC A) (by simp) N3.out).mono ?_
  rintro e w5 ⟨rfl, s5⟩
  have S5 := Lib.hid s5
  clear s5
  go_wp2_with fail
  refine (not_st S5.out (L := A) (by simp) M1.out).mono ?_
  rintro e w6 ⟨u6, rfl, s6⟩
  have S6 := Lib.hid s6
  clear s6
  go_wp2_with fail
  refine (not_st S6.out (L := notC A) (by simp) M2.out).mono ?_
  rintro e w7 ⟨u7, rfl, s7⟩
  have S7 := Lib.hid s7
  clear s7
  go_wp2_with fail
  refine (has_st S7.out (L := notC A) (by simp) M4.out).mono ?_
  rintro e w8 ⟨rfl, s8⟩
  have S8 := Lib.hid s8
  clear s8
  go_wp2_with fail
  refine (rsame_st S8.out (L := A) (P := A) (by simp) (by simp) (decide_eq_true rfl)).mono ?_
  rintro e w9 ⟨rfl, s9⟩
  have S9 := Lib.hid s9
  clear s9
  go_wp2_with fail
  refine (check_st S9.out (L := notC A) (by simp) M3.out).mono ?_
  rintro e w10 ⟨rfl, s10⟩
  have S10 := Lib.hid s10
  clear s10
  go_wp2_with fail
  refine (or_st S10.out (L := A) (P := B) (by simp) (by simp) Q1.out).mono ?_
  rintro e w11 ⟨u11, rfl, s11⟩
  have S11 := Lib.hid s11
  obtain ⟨p11, r11, rfl, _⟩ := s11.get (List.mem_cons_self ..)
  rw [show ([] : List Rg).length = 0 from rfl] at *
  clear s11
  go_wp2_with fail
  refine (and_st S11.out (L := A) (P := B) (by simp) (by simp) Q2.out).mono ?_
  rintro e w12 ⟨u12, rfl, s12⟩
  have S12 := Lib.hid s12
  obtain ⟨p12, r12, rfl, _⟩ := s12.get (List.mem_cons_self ..)
  rw [show ([] : List Rg).length = 0 from rfl] at *
  clear s12
  go_wp2_with fail
  go_ret
  exact ⟨rfl, S12.out.1⟩
set_option maxRecDepth 20000 in
theorem have_hi_True_True_False_true_false (a1 a2 : Option Addr) (c1 c2 la lb : Nat) (A B : List Rg) (n : Int) (w : World) (hs1 : Hid (SlR w (.slice a1 la c1) A)) (hs2 : Hid (SlR w (.slice a2 lb c2) B)) (h1 : ¬ (100 : Int) < (la : Int)) (h2 : ¬ (100 : Int) < (lb : Int)) (hA : Hid (HaveA A n)) (hB : Hid (HaveB A B n)) (hxa : hs A n = true) (hxb : hs B n = false) (hn0 : 0 ≤ n) (hn1 : ¬ n ≤ 1114111) (kok : A.all okR = true) (kck : ckL A = true) (kcb : ckL B = false) :
    Calls Try.prog 6 #[.slice a1 la c1, .slice a2 lb c2, .int .i64 n] w fun e w' => e = .returned (.bool true) ∧ Below w.heap.size w w' := by
  have HXA := Lib.hid hxa
  have HXB := Lib.hid hxb
  obtain ⟨n1, n2, n3⟩ := hA.out.norm kok
  have N1 := Lib.hid n1
  have N2 : Hid (hs (uniC A) n = true) := Lib.hid (n2.trans hxa)
  have N3 := Lib.hid n3
  clear n1 n2 n3
  obtain ⟨m1, m2, m3, m4⟩ := hA.out.no kck
  have M1 := Lib.hid m1
  have M2 := Lib.hid m2
  have M3 := Lib.hid m3
  have M4 : Hid (hs (notC A) n = (false)) := Lib.hid (by rw [m4, decide_eq_true hn0, decide_eq_false hn1]; rfl)
  clear m1 m2 m3 m4
  obtain ⟨q1, q2⟩ := hB.out.no (.inr kcb)
  have Q1 := Lib.hid q1
  have Q2 := Lib.hid q2
  clear q1 q2
  clear hA hB hxa hxb kok kck kcb
  have S0 := Lib.hid (((St.start w).put hs2.out).put hs1.out)
  go_enter Try.func6, Try.ntmps6
  go_wp2_with fail
  refine (alive_any _).mono ?_
  rintro e w1 ⟨rfl, b1⟩
  have S1 := Lib.hid (S0.out.step b1)
  clear b1
  go_wp2_with fail
  refine (norm_st S1.out (L := A) (by simp) N1.out).mono ?_
  rintro e w2 ⟨u2, rfl, s2⟩
  have S2 := Lib.hid s2
  clear s2
  go_wp2_with fail
  refine (has_st S2.out (L := uniC A) (by simp) N2.out).mono ?_
  rintro e w3 ⟨rfl, s3⟩
  have S3 := Lib.hid s3
  clear s3
  go_wp2_with fail
  refine (has_st S3.out (L := A) (by simp) HXA.out).mono ?_
  rintro e w4 ⟨rfl, s4⟩
  have S4 := Lib.hid s4
  clear s4
  go_wp2_with fail
  refine (check_st S4.out (L := uniC A) (by simp) N3.out).mono ?_
  rintro e w5 ⟨rfl, s5⟩
  have S5 := Lib.hid s5
  clear s5
  go_wp2_with fail
  refine (not_st S5.out (L := A) (by simp) M1.out).mono ?_
  rintro e w6 ⟨u6, rfl, s6⟩
  have S6 := Lib.hid s6
  clear s6
  go_wp2_with fail
  refine (not_st S6.out (L := notC A) (by simp) M2.out).mono ?_
  rintro e w7 ⟨u7, rfl, s7⟩
  have S7 := Lib.hid s7
  clear s7
  go_wp2_with fail
  refine (has_st S7.out (L := notC A) (by simp) M4.out).mono ?_
  rintro e w8 ⟨rfl, s8⟩
  have S8 := Lib.hid s8
  clear s8
  go_wp2_with fail
  refine (rsame_st S8.out (L := A) (P := A) (by simp) (by simp) (decide_eq_true rfl)).mono ?_
  rintro e w9 ⟨rfl, s9⟩
  have S9 := Lib.hid s9
  clear s9
  go_wp2_with fail
  refine (check_st S9.out (L := notC A) (by simp) M3.out).mono ?_
  rintro e w10 ⟨rfl, s10⟩
  have S10 := Lib.hid s10
  clear s10
  go_wp2_with fail
  refine (or_st S10.out (L := A) (P := B) (by simp) (by simp) Q1.out).mono ?_
  rintro e w11 ⟨u11, rfl, s11⟩
  have S11 := Lib.hid s11
  obtain ⟨p11, r11, rfl, _⟩ := s11.get (List.mem_cons_self ..)
  rw [show ([] : List Rg).length = 0 from rfl] at *
  clear s11
  go_wp2_with fail
  refine (and_st S11.out (L := A) (P := B) (by simp) (by simp) Q2.out).mono ?_
  rintro e w12 ⟨u12, rfl, s12⟩
  have S12 := Lib.hid s12
  obtain ⟨p12, r12, rfl, _⟩ := s12.get (List.mem_cons_self ..)
  rw [show ([] : List Rg).length = 0 from rfl] at *
  clear s12
  go_wp2_with fail
  go_ret
  exact ⟨rfl, S12.out.1⟩
set_option maxRecDepth 20000 in
theorem have_hi_True_True_False_true_true (a1 a2 : Option Addr) (c1 c2 la lb : Nat) (A B : List Rg) (n : Int) (w : World) (hs1 : Hid (SlR w (.slice a1 la c1) A)) (hs2 : Hid (SlR w (.slice a2 lb c2) B)) (h1 : ¬ (100 : Int) < (la : Int)) (h2 : ¬ (100 : Int) < (lb : Int)) (hA : Hid (HaveA A n)) (hB : Hid (HaveB A B n)) (hxa : hs A n = true) (hxb : hs B n = true) (hn0 : 0 ≤ n) (hn1 : ¬ n ≤ 1114111) (kok : A.all okR = true) (kck : ckL A = true) (kcb : ckL B = false) :
    Calls Try.prog 6 #[.slice a1 la c1, .slice a2 lb c2, .int .i64 n] w fun e w' => e = .returned (.bool true) ∧ Below w.heap.size w w' := by
  have HXA := Lib.hid hxa
  have HXB := Lib.hid hxb
  obtain ⟨n1, n2, n3⟩ := hA.out.norm kok
  have N1 := Lib.hid n1
  have N2 : Hid (hs (uniC A) n = true) := Lib.hid (n2.trans hxa)
  have N3 := Lib.hid n3
  clear n1 n2 n3
  obtain ⟨m1, m2, m3, m4⟩ := hA.out.no kck
  have M1 := Lib.hid m1
  have M2 := Lib.hid m2
  have M3 := Lib.hid m3
  have M4 : Hid (hs (notC A) n = (false)) := Lib.hid (by rw [m4, decide_eq_true hn0, decide_eq_false hn1]; rfl)
  clear m1 m2 m3 m4
  obtain ⟨q1, q2⟩ := hB.out.no (.inr kcb)
  have Q1 := Lib.hid q1
  have Q2 := Lib.hid q2
  clear q1 q2
  clear hA hB hxa hxb kok kck kcb
  have S0 := Lib.hid (((St.start w).put hs2.out).put hs1.out)
  go_enter Try.func6, Try.ntmps6
  go_wp2_with fail
  refine (alive_any _).mono ?_
  rintro e w1 ⟨rfl, b1⟩
  have S1 := Lib.hid (S0.out.step b1)
  clear b1
  go_wp2_with fail
  refine (norm_st S1.out (L := A) (by simp) N1.out).mono ?_
  rintro e w2 ⟨u2, rfl, s2⟩
  have S2 := Lib.hid s2
  clear s2
  go_wp2_with fail
  refine (has_st S2.out (L := uniC A) (by simp) N2.out).mono ?_
  rintro e w3 ⟨rfl, s3⟩
  have S3 := Lib.hid s3
  clear s3
  go_wp2_with fail
  refine (has_st S3.out (L := A) (by simp) HXA.out).mono ?_
  rintro e w4 ⟨rfl, s4⟩
  have S4 := Lib.hid s4
  clear s4
  go_wp2_with fail
  refine (check_st S4.out (L := uniC A) (by simp) N3.out).mono ?_
  rintro e w5 ⟨rfl, s5⟩
  have S5 := Lib.hid s5
  clear s5
  go_wp2_with fail
  refine (not_st S5.out (L := A) (by simp) M1.out).mono ?_
  rintro e w6 ⟨u6, rfl, s6⟩
  have S6 := Lib.hid s6
  clear s6
  go_wp2_with fail
  refine (not_st S6.out (L := notC A) (by simp) M2.out).mono ?_
  rintro e w7 ⟨u7, rfl, s7⟩
  have S7 := Lib.hid s7
  clear s7
  go_wp2_with fail
  refine (has_st S7.out (L := notC A) (by simp) M4.out).mono ?_
  rintro e w8 ⟨rfl, s8⟩
  have S8 := Lib.hid s8
  clear s8
  go_wp2_with fail
  refine (rsame_st S8.out (L := A) (P := A) (by simp) (by simp) (decide_eq_true rfl)).mono ?_
  rintro e w9 ⟨rfl, s9⟩
  have S9 := Lib.hid s9
  clear s9
  go_wp2_with fail
  refine (check_st S9.out (L := notC A) (by simp) M3.out).mono ?_
  rintro e w10 ⟨rfl, s10⟩
  have S10 := Lib.hid s10
  clear s10
  go_wp2_with fail
  refine (or_st S10.out (L := A) (P := B) (by simp) (by simp) Q1.out).mono ?_
  rintro e w11 ⟨u11, rfl, s11⟩
  have S11 := Lib.hid s11
  obtain ⟨p11, r11, rfl, _⟩ := s11.get (List.mem_cons_self ..)
  rw [show ([] : List Rg).length = 0 from rfl] at *
  clear s11
  go_wp2_with fail
  refine (and_st S11.out (L := A) (P := B) (by simp) (by simp) Q2.out).mono ?_
  rintro e w12 ⟨u12, rfl, s12⟩
  have S12 := Lib.hid s12
  obtain ⟨p12, r12, rfl, _⟩ := s12.get (List.mem_cons_self ..)
  rw [show ([] : List Rg).length = 0 from rfl] at *
  clear s12
  go_wp2_with fail
  go_ret
  exact ⟨rfl, S12.out.1⟩
set_option maxRecDepth 20000 in
theorem have_hi_True_False_False_false_false (a1 a2 : Option Addr) (c1 c2 la lb : Nat) (A B : List Rg) (n : Int) (w : World) (hs1 : Hid (SlR w (.slice a1 la c1) A)) (hs2 : Hid (SlR w (.slice a2 lb c2) B)) (h1 : ¬ (100 : Int) < (la : Int)) (h2 : ¬ (100 : Int) < (lb : Int)) (hA : Hid (HaveA A n)) (hB : Hid (HaveB A B n)) (hxa : hs A n = false) (hxb : hs B n = false) (hn0 : 0 ≤ n) (hn1 : ¬ n ≤ 1114111) (kok : A.all okR = true) (kck : ckL A = false) :
    Calls Try.prog 6 #[.slice a1 la c1, .slice a2 lb c2, .int .i64 n] w fun e w' => e = .returned (.bool true) ∧ Below w.heap.size w w' := by
  have HXA := Lib.hid hxa
  have HXB := Lib.hid hxb
  obtain ⟨n1, n2, n3⟩ := hA.out.norm kok
  have N1 := Lib.hid n1
  have N2 : Hid (hs (uniC A) n = false) := Lib.hid (n2.trans hxa)
  have N3 := Lib.hid n3
  clear n1 n2 n3
  have M1 := Lib.hid (hA.out.nobad kck)
  obtain ⟨q1, q2⟩ := hB.out.no (.inl kck)
  have Q1 := Lib.hid q1
  have Q2 := Lib.hid q2
  clear q1 q2
  clear hA hB hxa hxb kok kck
  have S0 := Lib.hid (((St.start w).put hs2.out).put hs1.out)
  go_enter Try.func6, Try.ntmps6
  go_wp2_with fail
  refine (alive_any _).mono ?_
  rintro e w1 ⟨rfl, b1⟩
  have S1 := Lib.hid (S0.out.step b1)
  clear b1
  go_wp2_with fail
  refine (norm_st S1.out (L := A) (by simp) N1.out).mono ?_
  rintro e w2 ⟨u2, rfl, s2⟩
  have S2 := Lib.hid s2
  clear s2
  go_wp2_with fail
  refine (has_st S2.out (L := uniC A) (by simp) N2.out).mono ?_
  rintro e w3 ⟨rfl, s3⟩
  have S3 := Lib.hid s3
  clear s3
  go_wp2_with fail
  refine (has_st S3.out (L := A) (by simp) HXA.out).mono ?_
  rintro e w4 ⟨rfl, s4⟩
  have S4 := Lib.hid s4
  clear s4
  go_wp2_with fail
  refine (check_st S4.out (L := uniC A) (by simp) N3.out).mono ?_
  rintro e w5 ⟨rfl, s5⟩
  have S5 := Lib.hid s5
  clear s5
  go_wp2_with fail
  refine (not_st S5.out (L := A) (by simp) M1.out).mono ?_
  rintro e w6 ⟨u6, rfl, s6⟩
  have S6 := Lib.hid s6
  clear s6
  go_wp2_with fail
  refine (or_st S6.out (L := A) (P := B) (by simp) (by simp) Q1.out).mono ?_
  rintro e w7 ⟨u7, rfl, s7⟩
  have S7 := Lib.hid s7
  obtain ⟨p7, r7, rfl, _⟩ := s7.get (List.mem_cons_self ..)
  rw [show ([] : List Rg).length = 0 from rfl] at *
  clear s7
  go_wp2_with fail
  refine (and_st S7.out (L := A) (P := B) (by simp) (by simp) Q2.out).mono ?_
  rintro e w8 ⟨u8, rfl, s8⟩
  have S8 := Lib.hid s8
  obtain ⟨p8, r8, rfl, _⟩ := s8.get (List.mem_cons_self ..)
  rw [show ([] : List Rg).length = 0 from rfl] at *
  clear s8
  go_wp2_with fail
  go_ret
  exact ⟨rfl, S8.out.1⟩
set_option maxRecDepth 20000 in
theorem have_hi_True_False_False_false_true (a1 a2 : Option Addr) (c1 c2 la lb : Nat) (A B : List Rg) (n : Int) (w : World) (hs1 : Hid (SlR w (.slice a1 la c1) A)) (hs2 : Hid (SlR w (.slice a2 lb c2) B)) (h1 : ¬ (100 : Int) < (la : Int)) (h2 : ¬ (100 : Int) < (lb : Int)) (hA : Hid (HaveA A n)) (hB : Hid (HaveB A B n)) (hxa : hs A n = false) (hxb : hs B n = true) (hn0 : 0 ≤ n) (hn1 : ¬ n ≤ 1114111) (kok : A.all okR = true) (kck : ckL A = false) :
    Calls Try.prog 6 #[.slice a1 la c1, .slice a2 lb c2, .int .i64 n] w fun e w' => e = .returned (.bool true) ∧ Below w.heap.size w w' := by
  have HXA := Lib.hid hxa
  have HXB := Lib.hid hxb
  obtain ⟨n1, n2, n3⟩ := hA.out.norm kok
  have N1 := Lib.hid n1
  have N2 : Hid (hs (uniC A) n = false) := Lib.hid (n2.trans hxa)
  have N3 := Lib.hid n3
  clear n1 n2 n3
  have M1 := Lib.hid (hA.out.nobad kck)
  obtain ⟨q1, q2⟩ := hB.out.no (.inl kck)
  have Q1 := Lib.hid q1
  have Q2 := Lib.hid q2
  clear q1 q2
  clear hA hB hxa hxb kok kck
  have S0 := Lib.hid (((St.start w).put hs2.out).put hs1.out)
  go_enter Try.func6, Try.ntmps6
  go_wp2_with fail
  refine (alive_any _).mono ?_
  rintro e w1 ⟨rfl, b1⟩
  have S1 := Lib.hid (S0.out.step b1)
  clear b1
  go_wp2_with fail
  refine (norm_st S1.out (L := A) (by simp) N1.out).mono ?_
  rintro e w2 ⟨u2, rfl, s2⟩
  have S2 := Lib.hid s2
  clear s2
  go_wp2_with fail
  refine (has_st S2.out (L := uniC A) (by simp) N2.out).mono ?_
  rintro e w3 ⟨rfl, s3⟩
  have S3 := Lib.hid s3
  clear s3
  go_wp2_with fail
  refine (has_st S3.out (L := A) (by simp) HXA.out).mono ?_
  rintro e w4 ⟨rfl, s4⟩
  have S4 := Lib.hid s4
  clear s4
  go_wp2_with fail
  refine (check_st S4.out (L := uniC A) (by simp) N3.out).mono ?_
  rintro e w5 ⟨rfl, s5⟩
  have S5 := Lib.hid s5
  clear s5
  go_wp2_with fail
  refine (not_st S5.out (L := A) (by simp) M1.out).mono ?_
  rintro e w6 ⟨u6, rfl, s6⟩
  have S6 := Lib.hid s6
  clear s6
  go_wp2_with fail
  refine (or_st S6.out (L := A) (P := B) (by simp) (by simp) Q1.out).mono ?_
  rintro e w7 ⟨u7, rfl, s7⟩
  have S7 := Lib.hid s7
  obtain ⟨p7, r7, rfl, _⟩ := s7.get (List.mem_cons_self ..)
  rw [show ([] : List Rg).length = 0 from rfl] at *
  clear s7
  go_wp2_with fail
  refine (and_st S7.out (L := A) (P := B) (by simp) (by simp) Q2.out).mono ?_
  rintro e w8 ⟨u8, rfl, s8⟩
  have S8 := Lib.hid s8
  obtain ⟨p8, r8, rfl, _⟩ := s8.get (List.mem_cons_self ..)
  rw [show ([] : List Rg).length = 0 from rfl] at *
  clear s8
  go_wp2_with fail
  go_ret
  exact ⟨rfl, S8.out.1⟩
set_option maxRecDepth 20000 in
theorem have_hi_True_False_False_true_false (a1 a2 : Option Addr) (c1 c2 la lb : Nat) (A B : List Rg) (n : Int) (w : World) (hs1 : Hid (SlR w (.slice a1 la c1) A)) (hs2 : Hid (SlR w (.slice a2 lb c2) B)) (h1 : ¬ (100 : Int) < (la : Int)) (h2 : ¬ (100 : Int) < (lb : Int)) (hA : Hid (HaveA A n)) (hB : Hid (HaveB A B n)) (hxa : hs A n = true) (hxb : hs B n = false) (hn0 : 0 ≤ n) (hn1 : ¬ n ≤ 1114111) (kok : A.all okR = true) (kck : ckL A = false) :
    Calls Try.prog 6 #[.slice a1 la c1, .slice a2 lb c2, .int .i64 n] w fun e w' => e = .returned (.bool true) ∧ Below w.heap.size w w' := by
  have HXA := Lib.hid hxa
  have HXB := Lib.hid hxb
  obtain ⟨n1, n2, n3⟩ := hA.out.norm kok
  have N1 := Lib.hid n1
  have N2 : Hid (hs (uniC A) n = true) := Lib.hid (n2.trans hxa)
  have N3 := Lib.hid n3
  clear n1 n2 n3
  have M1 := Lib.hid (hA.out.nobad kck)
  obtain ⟨q1, q2⟩ := hB.out.no (.inl kck)
  have Q1 := Lib.hid q1
  have Q2 := Lib.hid q2
  clear q1 q2
  clear hA hB hxa hxb kok kck
  have S0 := Lib.hid (((St.start w).put hs2.out).put hs1.out)
  go_enter Try.func6, Try.ntmps6
  go_wp2_with fail
  refine (alive_any _).mono ?_
  rintro e w1 ⟨rfl, b1⟩
  have S1 := Lib.hid (S0.out.step b1)
  clear b1
  go_wp2_with fail
  refine (norm_st S1.out (L := A) (by simp) N1.out).mono ?_
  rintro e w2 ⟨u2, rfl, s2⟩
  have S2 := Lib.hid s2
  clear s2
  go_wp2_with fail
  refine (has_st S2.out (L := uniC A) (by simp) N2.out).mono ?_
  rintro e w3 ⟨rfl, s3⟩
  have S3 := Lib.hid s3
  clear s3
  go_wp2_with fail
  refine (has_st S3.out (L := A) (by simp) HXA.out).mono ?_
  rintro e w4 ⟨rfl, s4⟩
  have S4 := Lib.hid s4
  clear s4
  go_wp2_with fail
  refine (check_st S4.out (L := uniC A) (by simp) N3.out).mono ?_
  rintro e w5 ⟨rfl, s5⟩
  have S5 := Lib.hid s5
  clear s5
  go_wp2_with fail
  refine (not_st S5.out (L := A) (by simp) M1.out).mono ?_
  rintro e w6 ⟨u6, rfl, s6⟩
  have S6 := Lib.hid s6
  clear s6
  go_wp2_with fail
  refine (or_st S6.out (L := A) (P := B) (by simp) (by simp) Q1.out).mono ?_
  rintro e w7 ⟨u7, rfl, s7⟩
  have S7 := Lib.hid s7
  obtain ⟨p7, r7, rfl, _⟩ := s7.get (List.mem_cons_self ..)
  rw [show ([] : List Rg).length = 0 from rfl] at *
  clear s7
  go_wp2_with fail
  refine (and_st S7.out (L := A) (P := B) (by simp) (by simp) Q2.out).mono ?_
  rintro e w8 ⟨u8, rfl, s8⟩
  have S8 := Lib.hid s8
  obtain ⟨p8, r8, rfl, _⟩ := s8.get (List.mem_cons_self ..)
  rw [show ([] : List Rg).length = 0 from rfl] at *
  clear s8
  go_wp2_with fail
  go_ret
  exact ⟨rfl, S8.out.1⟩
set_option maxRecDepth 20000 in
theorem have_hi_True_False_False_true_true (a1 a2 : Option Addr) (c1 c2 la lb : Nat) (A B : List Rg) (n : Int) (w : World) (hs1 : Hid (SlR w (.slice a1 la c1) A)) (hs2 : Hid (SlR w (.slice a2 lb c2) B)) (h1 : ¬ (100 : Int) < (la : Int)) (h2 : ¬ (100 : Int) < (lb : Int)) (hA : Hid (HaveA A n)) (hB : Hid (HaveB A B n)) (hxa : hs A n = true) (hxb : hs B n = true) (hn0 : 0 ≤ n) (hn1 : ¬ n ≤ 1114111) (kok : A.all okR = true) (kck : ckL A = false) :
    Calls Try.prog 6 #[.slice a1 la c1, .slice a2 lb c2, .int .i64 n] w fun e w' => e = .returned (.bool true) ∧ Below w.heap.size w w' := by
  have HXA := Lib.hid hxa
  have HXB := Lib.hid hxb
  obtain ⟨n1, n2, n3⟩ := hA.out.norm kok
  have N1 := Lib.hid n1
  have N2 : Hid (hs (uniC A) n = true) := Lib.hid (n2.trans hxa)
  have N3 := Lib.hid n3
  clear n1 n2 n3
  have M1 := Lib.hid (hA.out.nobad kck)
  obtain ⟨q1, q2⟩ := hB.out.no (.inl kck)
  have Q1 := Lib.hid q1
  have Q2 := Lib.hid q2
  clear q1 q2
  clear hA hB hxa hxb kok kck
  have S0 := Lib.hid (((St.start w).put hs2.out).put hs1.out)
  go_enter Try.func6, Try.ntmps6
  go_wp2_with fail
  refine (alive_any _).mono ?_
  rintro e w1 ⟨rfl, b1⟩
  have S1 := Lib.hid (S0.out.step b1)
  clear b1
  go_wp2_with fail
  refine (norm_st S1.out (L := A) (by simp) N1.out).mono ?_
  rintro e w2 ⟨u2, rfl, s2⟩
  have S2 := Lib.hid s2
  clear s2
  go_wp2_with fail
  refine (has_st S2.out (L := uniC A) (by simp) N2.out).mono ?_
  rintro e w3 ⟨rfl, s3⟩
  have S3 := Lib.hid s3
  clear s3
  go_wp2_with fail
  refine (has_st S3.out (L := A) (by simp) HXA.out).mono ?_
  rintro e w4 ⟨rfl, s4⟩
  have S4 := Lib.hid s4
  clear s4
  go_wp2_with fail
  refine (check_st S4.out (L := uniC A) (by simp) N3.out).mono ?_
  rintro e w5 ⟨rfl, s5⟩
  have S5 := Lib.hid s5
  clear s5
  go_wp2_with fail
  refine (not_st S5.out (L := A) (by simp) M1.out).mono ?_
  rintro e w6 ⟨u6, rfl, s6⟩
  have S6 := Lib.hid s6
  clear s6
  go_wp2_with fail
  refine (or_st S6.out (L := A) (P := B) (by simp) (by simp) Q1.out).mono ?_
  rintro e w7 ⟨u7, rfl, s7⟩
  have S7 := Lib.hid s7
  obtain ⟨p7, r7, rfl, _⟩ := s7.get (List.mem_cons_self ..)
  rw [show ([] : List Rg).length = 0 from rfl] at *
  clear s7
  go_wp2_with fail
  refine (and_st S7.out (L := A) (P := B) (by simp) (by simp) Q2.out).mono ?_
  rintro e w8 ⟨u8, rfl, s8⟩
  have S8 := Lib.hid s8
  obtain ⟨p8, r8, rfl, _⟩ := s8.get (List.mem_cons_self ..)
  rw [show ([] : List Rg).length = 0 from rfl] at *
  clear s8
  go_wp2_with fail
  go_ret
  exact ⟨rfl, S8.out.1⟩
set_option maxRecDepth 20000 in
theorem have_hi_False_False_False_false_false (a1 a2 : Option Addr) (c1 c2 la lb : Nat) (A B : List Rg) (n : Int) (w : World) (hs1 : Hid (SlR w (.slice a1 la c1) A)) (hs2 : Hid (SlR w (.slice a2 lb c2) B)) (h1 : ¬ (100 : Int) < (la : Int)) (h2 : ¬ (100 : Int) < (lb : Int)) (hA : Hid (HaveA A n)) (hB : Hid (HaveB A B n)) (hxa : hs A n = false) (hxb : hs B n = false) (hn0 : 0 ≤ n) (hn1 : ¬ n ≤ 1114111) (kok : A.all okR = false) (kck : ckL A = false) :
    Calls Try.prog 6 #[.slice a1 la c1, .slice a2 lb c2, .int .i64 n] w fun e w' => e = .returned (.bool true) ∧ Below w.heap.size w w' := by
  have HXA := Lib.hid hxa
  have HXB := Lib.hid hxb
  have N1 := Lib.hid (hA.out.bad kok)
  have M1 := Lib.hid (hA.out.nobad kck)
  obtain ⟨q1, q2⟩ := hB.out.no (.inl kck)
  have Q1 := Lib.hid q1
  have Q2 := Lib.hid q2
  clear q1 q2
  clear hA hB hxa hxb kok kck
  have S0 := Lib.hid (((St.start w).put hs2.out).put hs1.out)
  go_enter Try.func6, Try.ntmps6
  go_wp2_with fail
  refine (alive_any _).mono ?_
  rintro e w1 ⟨rfl, b1⟩
  have S1 := Lib.hid (S0.out.step b1)
  clear b1
  go_wp2_with fail
  refine (norm_st S1.out (L := A) (by simp) N1.out).mono ?_
  rintro e w2 ⟨u2, rfl, s2⟩
  have S2 := Lib.hid s2
  clear s2
  go_wp2_with fail
  refine (not_st S2.out (L := A) (by simp) M1.out).mono ?_
  rintro e w3 ⟨u3, rfl, s3⟩
  have S3 := Lib.hid s3
  clear s3
  go_wp2_with fail
  refine (or_st S3.out (L := A) (P := B) (by simp) (by simp) Q1.out).mono ?_
  rintro e w4 ⟨u4, rfl, s4⟩
  have S4 := Lib.hid s4
  obtain ⟨p4, r4, rfl, _⟩ := s4.get (List.mem_cons_self ..)
  rw [show ([] : List Rg).length = 0 from rfl] at *
  clear s4
  go_wp2_with fail
  refine (and_st S4.out (L := A) (P := B) (by simp) (by simp) Q2.out).mono ?_
  rintro e w5 ⟨u5, rfl, s5⟩
  have S5 := Lib.hid s5
  obtain ⟨p5, r5, rfl, _⟩ := s5.get (List.mem_cons_self ..)
  rw [show ([] : List Rg).length = 0 from rfl] at *
  clear s5
  go_wp2_with fail
  go_ret
  exact ⟨rfl, S5.out.1⟩
set_option maxRecDepth 20000 in
theorem have_hi_False_False_False_false_true (a1 a2 : Option Addr) (c1 c2 la lb : Nat) (A B : List Rg) (n : Int) (w : World) (hs1 : Hid (SlR w (.slice a1 la c1) A)) (hs2 : Hid (SlR w (.slice a2 lb c2) B)) (h1 : ¬ (100 : Int) < (la : Int)) (h2 : ¬ (100 : Int) < (lb : Int)) (hA : Hid (HaveA A n)) (hB : Hid (HaveB A B n)) (hxa : hs A n = false) (hxb : hs B n = true) (hn0 : 0 ≤ n) (hn1 : ¬ n ≤ 1114111) (kok : A.all okR = false) (kck : ckL A = false) :
    Calls Try.prog 6 #[.slice a1 la c1, .slice a2 lb c2, .int .i64 n] w fun e w' => e = .returned (.bool true) ∧ Below w.heap.size w w' := by
  have HXA := Lib.hid hxa
  have HXB := Lib.hid hxb
  have N1 := Lib.hid (hA.out.bad kok)
  have M1 := Lib.hid (hA.out.nobad kck)
  obtain ⟨q1, q2⟩ := hB.out.no (.inl kck)
  have Q1 := Lib.hid q1
  have Q2 := Lib.hid q2
  clear q1 q2
  clear hA hB hxa hxb kok kck
  have S0 := Lib.hid (((St.start w).put hs2.out).put hs1.out)
  go_enter Try.func6, Try.ntmps6
  go_wp2_with fail
  refine (alive_any _).mono ?_
  rintro e w1 ⟨rfl, b1⟩
  have S1 := Lib.hid (S0.out.step b1)
  clear b1
  go_wp2_with fail
  refine (norm_st S1.out (L := A) (by simp) N1.out).mono ?_
  rintro e w2 ⟨u2, rfl, s2⟩
  have S2 := Lib.hid s2
  clear s2
  go_wp2_with fail
  refine (not_st S2.out (L := A) (by simp) M1.out).mono ?_
  rintro e w3 ⟨u3, rfl, s3⟩
  have S3 := Lib.hid s3
  clear s3
  go_wp2_with fail
  refine (or_st S3.out (L := A) (P := B) (by simp) (by simp) Q1.out).mono ?_
  rintro e w4 ⟨u4, rfl, s4⟩
  have S4 := Lib.hid s4
  obtain ⟨p4, r4, rfl, _⟩ := s4.get (List.mem_cons_self ..)
  rw [show ([] : List Rg).length = 0 from rfl] at *
  clear s4
  go_wp2_with fail
  refine (and_st S4.out (L := A) (P := B) (by simp) (by simp) Q2.out).mono ?_
  rintro e w5 ⟨u5, rfl, s5⟩
  have S5 := Lib.hid s5
  obtain ⟨p5, r5, rfl, _⟩ := s5.get (List.mem_cons_self ..)
  rw [show ([] : List Rg).length = 0 from rfl] at *
  clear s5
  go_wp2_with fail
  go_ret
  exact ⟨rfl, S5.out.1⟩
set_option maxRecDepth 20000 in
theorem have_hi_False_False_False_true_false (a1 a2 : Option Addr) (c1 c2 la lb : Nat) (A B : List Rg) (n : Int) (w : World) (hs1 : Hid (SlR w (.slice a1 la c1) A)) (hs2 : Hid (SlR w (.slice a2 lb c2) B)) (h1 : ¬ (100 : Int) < (la : Int)) (h2 : ¬ (100 : Int) < (lb : Int)) (hA : Hid (HaveA A n)) (hB : Hid (HaveB A B n)) (hxa : hs A n = true) (hxb : hs B n = false) (hn0 : 0 ≤ n) (hn1 : ¬ n ≤ 1114111) (kok : A.all okR = false) (kck : ckL A = false) :
    Calls Try.prog 6 #[.slice a1 la c1, .slice a2 lb c2, .int .i64 n] w fun e w' => e = .returned (.bool true) ∧ Below w.heap.size w w' := by
  have HXA := Lib.hid hxa
  have HXB := Lib.hid hxb
  have N1 := Lib.hid (hA.out.bad kok)
  have M1 := Lib.hid (hA.out.nobad kck)
  obtain ⟨q1, q2⟩ := hB.out.no (.inl kck)
  have Q1 := Lib.hid q1
  have Q2 := Lib.hid q2
  clear q1 q2
  clear hA hB hxa hxb kok kck
  have S0 := Lib.hid (((St.start w).put hs2.out).put hs1.out)
  go_enter Try.func6, Try.ntmps6
  go_wp2_with fail
  refine (alive_any _).mono ?_
  rintro e w1 ⟨rfl, b1⟩
  have S1 := Lib.hid (S0.out.step b1)
  clear b1
  go_wp2_with fail
  refine (norm_st S1.out (L := A) (by simp) N1.out).mono ?_
  rintro e w2 ⟨u2, rfl, s2⟩
  have S2 := Lib.hid s2
  clear s2
  go_wp2_with fail
  refine (not_st S2.out (L := A) (by simp) M1.out).mono ?_
  rintro e w3 ⟨u3, rfl, s3⟩
  have S3 := Lib.hid s3
  clear s3
  go_wp2_with fail
  refine (or_st S3.out (L := A) (P := B) (by simp) (by simp) Q1.out).mono ?_
  rintro e w4 ⟨u4, rfl, s4⟩
  have S4 := Lib.hid s4
  obtain ⟨p4, r4, rfl, _⟩ := s4.get (List.mem_cons_self ..)
  rw [show ([] : List Rg).length = 0 from rfl] at *
  clear s4
  go_wp2_with fail
  refine (and_st S4.out (L := A) (P := B) (by simp) (by simp) Q2.out).mono ?_
  rintro e w5 ⟨u5, rfl, s5⟩
  have S5 := Lib.hid s5
  obtain ⟨p5, r5, rfl, _⟩ := s5.get (List.mem_cons_self ..)
  rw [show ([] : List Rg).length = 0 from rfl] at *
  clear s5
  go_wp2_with fail
  go_ret
  exact ⟨rfl, S5.out.1⟩
set_option maxRecDepth 20000 in
theorem have_hi_False_False_False_true_true (a1 a2 : Option Addr) (c1 c2 la lb : Nat) (A B : List Rg) (n : Int) (w : World) (hs1 : Hid (SlR w (.slice a1 la c1) A)) (hs2 : Hid (SlR w (.slice a2 lb c2) B)) (h1 : ¬ (100 : Int) < (la : Int)) (h2 : ¬ (100 : Int) < (lb : Int)) (hA : Hid (HaveA A n)) (hB : Hid (HaveB A B n)) (hxa : hs A n = true) (hxb : hs B n = true) (hn0 : 0 ≤ n) (hn1 : ¬ n ≤ 1114111) (kok : A.all okR = false) (kck : ckL A = false) :
    Calls Try.prog 6 #[.slice a1 la c1, .slice a2 lb c2, .int .i64 n] w fun e w' => e = .returned (.bool true) ∧ Below w.heap.size w w' := by
  have HXA := Lib.hid hxa
  have HXB := Lib.hid hxb
  have N1 := Lib.hid (hA.out.bad kok)
  have M1 := Lib.hid (hA.out.nobad kck)
  obtain ⟨q1, q2⟩ := hB.out.no (.inl kck)
  have Q1 := Lib.hid q1
  have Q2 := Lib.hid q2
  clear q1 q2
  clear hA hB hxa hxb kok kck
  have S0 := Lib.hid (((St.start w).put hs2.out).put hs1.out)
  go_enter Try.func6, Try.ntmps6
  go_wp2_with fail
  refine (alive_any _).mono ?_
  rintro e w1 ⟨rfl, b1⟩
  have S1 := Lib.hid (S0.out.step b1)
  clear b1
  go_wp2_with fail
  refine (norm_st S1.out (L := A) (by simp) N1.out).mono ?_
  rintro e w2 ⟨u2, rfl, s2⟩
  have S2 := Lib.hid s2
  clear s2
  go_wp2_with fail
  refine (not_st S2.out (L := A) (by simp) M1.out).mono ?_
  rintro e w3 ⟨u3, rfl, s3⟩
  have S3 := Lib.hid s3
  clear s3
  go_wp2_with fail
  refine (or_st S3.out (L := A) (P := B) (by simp) (by simp) Q1.out).mono ?_
  rintro e w4 ⟨u4, rfl, s4⟩
  have S4 := Lib.hid s4
  obtain ⟨p4, r4, rfl, _⟩ := s4.get (List.mem_cons_self ..)
  rw [show ([] : List Rg).length = 0 from rfl] at *
  clear s4
  go_wp2_with fail
  refine (and_st S4.out (L := A) (P := B) (by simp) (by simp) Q2.out).mono ?_
  rintro e w5 ⟨u5, rfl, s5⟩
  have S5 := Lib.hid s5
  obtain ⟨p5, r5, rfl, _⟩ := s5.get (List.mem_cons_self ..)
  rw [show ([] : List Rg).length = 0 from rfl] at *
  clear s5
  go_wp2_with fail
  go_ret
  exact ⟨rfl, S5.out.1⟩
theorem have_any (v1 v2 : Value) (A B : List Rg) (n : Int) (w : World) (h1 : SlR w v1 A) (h2 : SlR w v2 B) :
    Calls Try.prog 6 #[v1, v2, .int .i64 n] w fun e w' => e = .returned (.bool true) ∧ Below w.heap.size w w' := by
  have H1 := h1
  have H2 := h2
  obtain ⟨a1, c1, rfl, _⟩ := h1
  obtain ⟨a2, c2, rfl, _⟩ := h2
  by_cases k1 : 100 < A.length
  · exact have_big1 a1 a2 c1 c2 _ _ A B n w (Lib.hid H1) (Lib.hid H2) (by omega)
  by_cases k2 : 100 < B.length
  · exact have_big2 a1 a2 c1 c2 _ _ A B n w (Lib.hid H1) (Lib.hid H2) (by omega) (by omega)
  have HA := Lib.hid (haveA (A := A) (n := n) (by omega))
  have HB := Lib.hid (haveB (A := A) (B := B) (n := n) (by omega) (by omega))
  have e1 : ¬ (100 : Int) < (A.length : Int) := by omega
  have e2 : ¬ (100 : Int) < (B.length : Int) := by omega
  by_cases hn0 : 0 ≤ n
  · by_cases hn1 : n ≤ 1114111
    · cases kok : A.all okR with
      | false =>
        cases xa : hs A n <;> cases xb : hs B n
        · exact have_in_False_False_False_false_false a1 a2 c1 c2 _ _ A B n w (Lib.hid H1) (Lib.hid H2) e1 e2 HA HB xa xb hn0 hn1 kok (HA.out.sub kok)
        · exact have_in_False_False_False_false_true a1 a2 c1 c2 _ _ A B n w (Lib.hid H1) (Lib.hid H2) e1 e2 HA HB xa xb hn0 hn1 kok (HA.out.sub kok)
        · exact have_in_False_False_False_true_false a1 a2 c1 c2 _ _ A B n w (Lib.hid H1) (Lib.hid H2) e1 e2 HA HB xa xb hn0 hn1 kok (HA.out.sub kok)
        · exact have_in_False_False_False_true_true a1 a2 c1 c2 _ _ A B n w (Lib.hid H1) (Lib.hid H2) e1 e2 HA HB xa xb hn0 hn1 kok (HA.out.sub kok)
      | true =>
        cases kck : ckL A with
        | false =>
          cases xa : hs A n <;> cases xb : hs B n
          · exact have_in_True_False_False_false_false a1 a2 c1 c2 _ _ A B n w (Lib.hid H1) (Lib.hid H2) e1 e2 HA HB xa xb hn0 hn1 kok kck
          · exact have_in_True_False_False_false_true a1 a2 c1 c2 _ _ A B n w (Lib.hid H1) (Lib.hid H2) e1 e2 HA HB xa xb hn0 hn1 kok kck
          · exact have_in_True_False_False_true_false a1 a2 c1 c2 _ _ A B n w (Lib.hid H1) (Lib.hid H2) e1 e2 HA HB xa xb hn0 hn1 kok kck
          · exact have_in_True_False_False_true_true a1 a2 c1 c2 _ _ A B n w (Lib.hid H1) (Lib.hid H2) e1 e2 HA HB xa xb hn0 hn1 kok kck
        | true =>
          cases kcb : ckL B with
          | false =>
            cases xa : hs A n <;> cases xb : hs B n
            · exact have_in_True_True_False_false_false a1 a2 c1 c2 _ _ A B n w (Lib.hid H1) (Lib.hid H2) e1 e2 HA HB xa xb hn0 hn1 kok kck kcb
            · exact have_in_True_True_False_false_true a1 a2 c1 c2 _ _ A B n w (Lib.hid H1) (Lib.hid H2) e1 e2 HA HB xa xb hn0 hn1 kok kck kcb
            · exact have_in_True_True_False_true_false a1 a2 c1 c2 _ _ A B n w (Lib.hid H1) (Lib.hid H2) e1 e2 HA HB xa xb hn0 hn1 kok kck kcb
            · exact have_in_True_True_False_true_true a1 a2 c1 c2 _ _ A B n w (Lib.hid H1) (Lib.hid H2) e1 e2 HA HB xa xb hn0 hn1 kok kck kcb
          | true =>
            cases xa : hs A n <;> cases xb : hs B n
            · exact have_in_True_True_True_false_false a1 a2 c1 c2 _ _ A B n w (Lib.hid H1) (Lib.hid H2) e1 e2 HA HB xa xb hn0 hn1 kok kck kcb
            · exact have_in_True_True_True_false_true a1 a2 c1 c2 _ _ A B n w (Lib.hid H1) (Lib.hid H2) e1 e2 HA HB xa xb hn0 hn1 kok kck kcb
            · exact have_in_True_True_True_true_false a1 a2 c1 c2 _ _ A B n w (Lib.hid H1) (Lib.hid H2) e1 e2 HA HB xa xb hn0 hn1 kok kck kcb
            · exact have_in_True_True_True_true_true a1 a2 c1 c2 _ _ A B n w (Lib.hid H1) (Lib.hid H2) e1 e2 HA HB xa xb hn0 hn1 kok kck kcb
    · cases kok : A.all okR with
      | false =>
        cases xa : hs A n <;> cases xb : hs B n
        · exact have_hi_False_False_False_false_false a1 a2 c1 c2 _ _ A B n w (Lib.hid H1) (Lib.hid H2) e1 e2 HA HB xa xb hn0 hn1 kok (HA.out.sub kok)
        · exact have_hi_False_False_False_false_true a1 a2 c1 c2 _ _ A B n w (Lib.hid H1) (Lib.hid H2) e1 e2 HA HB xa xb hn0 hn1 kok (HA.out.sub kok)
        · exact have_hi_False_False_False_true_false a1 a2 c1 c2 _ _ A B n w (Lib.hid H1) (Lib.hid H2) e1 e2 HA HB xa xb hn0 hn1 kok (HA.out.sub kok)
        · exact have_hi_False_False_False_true_true a1 a2 c1 c2 _ _ A B n w (Lib.hid H1) (Lib.hid H2) e1 e2 HA HB xa xb hn0 hn1 kok (HA.out.sub kok)
      | true =>
        cases kck : ckL A with
        | false =>
          cases xa : hs A n <;> cases xb : hs B n
          · exact have_hi_True_False_False_false_false a1 a2 c1 c2 _ _ A B n w (Lib.hid H1) (Lib.hid H2) e1 e2 HA HB xa xb hn0 hn1 kok kck
          · exact have_hi_True_False_False_false_true a1 a2 c1 c2 _ _ A B n w (Lib.hid H1) (Lib.hid H2) e1 e2 HA HB xa xb hn0 hn1 kok kck
          · exact have_hi_True_False_False_true_false a1 a2 c1 c2 _ _ A B n w (Lib.hid H1) (Lib.hid H2) e1 e2 HA HB xa xb hn0 hn1 kok kck
          · exact have_hi_True_False_False_true_true a1 a2 c1 c2 _ _ A B n w (Lib.hid H1) (Lib.hid H2) e1 e2 HA HB xa xb hn0 hn1 kok kck
        | true =>
          cases kcb : ckL B with
          | false =>
            cases xa : hs A n <;> cases xb : hs B n
            · exact have_hi_True_True_False_false_false a1 a2 c1 c2 _ _ A B n w (Lib.hid H1) (Lib.hid H2) e1 e2 HA HB xa xb hn0 hn1 kok kck kcb
            · exact have_hi_True_True_False_false_true a1 a2 c1 c2 _ _ A B n w (Lib.hid H1) (Lib.hid H2) e1 e2 HA HB xa xb hn0 hn1 kok kck kcb
            · exact have_hi_True_True_False_true_false a1 a2 c1 c2 _ _ A B n w (Lib.hid H1) (Lib.hid H2) e1 e2 HA HB xa xb hn0 hn1 kok kck kcb
            · exact have_hi_True_True_False_true_true a1 a2 c1 c2 _ _ A B n w (Lib.hid H1) (Lib.hid H2) e1 e2 HA HB xa xb hn0 hn1 kok kck kcb
          | true =>
            cases xa : hs A n <;> cases xb : hs B n
            · exact have_hi_True_True_True_false_false a1 a2 c1 c2 _ _ A B n w (Lib.hid H1) (Lib.hid H2) e1 e2 HA HB xa xb hn0 hn1 kok kck kcb
            · exact have_hi_True_True_True_false_true a1 a2 c1 c2 _ _ A B n w (Lib.hid H1) (Lib.hid H2) e1 e2 HA HB xa xb hn0 hn1 kok kck kcb
            · exact have_hi_True_True_True_true_false a1 a2 c1 c2 _ _ A B n w (Lib.hid H1) (Lib.hid H2) e1 e2 HA HB xa xb hn0 hn1 kok kck kcb
            · exact have_hi_True_True_True_true_true a1 a2 c1 c2 _ _ A B n w (Lib.hid H1) (Lib.hid H2) e1 e2 HA HB xa xb hn0 hn1 kok kck kcb
  · cases kok : A.all okR with
    | false =>
      cases xa : hs A n <;> cases xb : hs B n
      · exact have_lo_False_False_False_false_false a1 a2 c1 c2 _ _ A B n w (Lib.hid H1) (Lib.hid H2) e1 e2 HA HB xa xb hn0 kok (HA.out.sub kok)
      · exact have_lo_False_False_False_false_true a1 a2 c1 c2 _ _ A B n w (Lib.hid H1) (Lib.hid H2) e1 e2 HA HB xa xb hn0 kok (HA.out.sub kok)
      · exact have_lo_False_False_False_true_false a1 a2 c1 c2 _ _ A B n w (Lib.hid H1) (Lib.hid H2) e1 e2 HA HB xa xb hn0 kok (HA.out.sub kok)
      · exact have_lo_False_False_False_true_true a1 a2 c1 c2 _ _ A B n w (Lib.hid H1) (Lib.hid H2) e1 e2 HA HB xa xb hn0 kok (HA.out.sub kok)
    | true =>
      cases kck : ckL A with
      | false =>
        cases xa : hs A n <;> cases xb : hs B n
        · exact have_lo_True_False_False_false_false a1 a2 c1 c2 _ _ A B n w (Lib.hid H1) (Lib.hid H2) e1 e2 HA HB xa xb hn0 kok kck
        · exact have_lo_True_False_False_false_true a1 a2 c1 c2 _ _ A B n w (Lib.hid H1) (Lib.hid H2) e1 e2 HA HB xa xb hn0 kok kck
        · exact have_lo_True_False_False_true_false a1 a2 c1 c2 _ _ A B n w (Lib.hid H1) (Lib.hid H2) e1 e2 HA HB xa xb hn0 kok kck
        · exact have_lo_True_False_False_true_true a1 a2 c1 c2 _ _ A B n w (Lib.hid H1) (Lib.hid H2) e1 e2 HA HB xa xb hn0 kok kck
      | true =>
        cases kcb : ckL B with
        | false =>
          cases xa : hs A n <;> cases xb : hs B n
          · exact have_lo_True_True_False_false_false a1 a2 c1 c2 _ _ A B n w (Lib.hid H1) (Lib.hid H2) e1 e2 HA HB xa xb hn0 kok kck kcb
          · exact have_lo_True_True_False_false_true a1 a2 c1 c2 _ _ A B n w (Lib.hid H1) (Lib.hid H2) e1 e2 HA HB xa xb hn0 kok kck kcb
          · exact have_lo_True_True_False_true_false a1 a2 c1 c2 _ _ A B n w (Lib.hid H1) (Lib.hid H2) e1 e2 HA HB xa xb hn0 kok kck kcb
          · exact have_lo_True_True_False_true_true a1 a2 c1 c2 _ _ A B n w (Lib.hid H1) (Lib.hid H2) e1 e2 HA HB xa xb hn0 kok kck kcb
        | true =>
          cases xa : hs A n <;> cases xb : hs B n
          · exact have_lo_True_True_True_false_false a1 a2 c1 c2 _ _ A B n w (Lib.hid H1) (Lib.hid H2) e1 e2 HA HB xa xb hn0 kok kck kcb
          · exact have_lo_True_True_True_false_true a1 a2 c1 c2 _ _ A B n w (Lib.hid H1) (Lib.hid H2) e1 e2 HA HB xa xb hn0 kok kck kcb
          · exact have_lo_True_True_True_true_false a1 a2 c1 c2 _ _ A B n w (Lib.hid H1) (Lib.hid H2) e1 e2 HA HB xa xb hn0 kok kck kcb
          · exact have_lo_True_True_True_true_true a1 a2 c1 c2 _ _ A B n w (Lib.hid H1) (Lib.hid H2) e1 e2 HA HB xa xb hn0 kok kck kcb
end Go.Proofs.Ytlngdohkoeognaa
