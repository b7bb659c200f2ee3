import Derived.Test.YtcoennncgconmaaE4
namespace Go.Proofs.Ytcoennncgconmaa
open Go.RowKit

theorem wh_none {s : ByteArray} {t : Int} (h : whE s t ≠ 0) : whL s t = 0 ∧ whC s t = 0 := by
  unfold whE at h
  unfold whL whC
  by_cases hc : ckE s = 0
  · rw [if_pos hc] at h
    cases ho : (wh s t).ok
    · simp
    · rw [ho] at h; simp at h
  · simp [hc]
/-- Lines and columns go on, as the walk has them. -/
theorem wh_next {s : ByteArray} {i : Int} (hw : whE s i = 0) (hn : nxE s i = 0) :
    1 ≤ whL s i ∧ 1 ≤ whC s i ∧ whE s (i + nxN s i) = 0 ∧
    whL s (i + nxN s i) = stL s (nxP s i) (i + nxN s i).toNat (whL s i) ∧ whC s (i + nxN s i) = stC s (nxP s i) (i + nxN s i).toNat (whC s i) := by
  obtain ⟨h0, h1, h2, h3, h4, h5, h6, h7⟩ := nx_ok hn
  have hck : ckE s = 0 := by
    unfold whE at hw
    by_cases hc : ckE s = 0
    · exact hc
    · rw [if_neg hc] at hw; exact absurd hw hc
  have hok : (wh s i).ok = true := by
    unfold whE at hw
    rw [if_pos hck] at hw
    cases ho : (wh s i).ok
    · rw [ho] at hw; simp at hw
    · rfl
  have htx : txF s s.size 0 = true := by
    unfold ckE at hck
    by_cases hb : 16384 < s.size
    · rw [if_pos hb] at hck; omega
    · rw [if_neg hb] at hck
      cases h : isTx s
      · rw [h] at hck; simp at hck
      · exact h
  obtain ⟨t, rfl⟩ := Int.eq_ofNat_of_zero_le h0
  simp only [Int.toNat_natCast] at h2 h3 h4
  have hr := whF_next s t (by omega) s.size 0 1 1 (by omega) htx (by omega) (by omega) hok (by omega)
  obtain ⟨_, r1, r2, r3, r4, r5⟩ := hr
  have e : ((t : Int) + nxN s t) = ((t + leadN (byt s t) : Nat) : Int) := by rw [h4]; omega
  rw [e, Int.toNat_natCast, h3]
  have hok2 : (wh s ((t + leadN (byt s t) : Nat) : Int)).ok = true := r3
  have hL : whL s (t : Int) = (wh s (t : Int)).l := by unfold whL; simp [hck, hok]
  have hC : whC s (t : Int) = (wh s (t : Int)).c := by unfold whC; simp [hck, hok]
  have hL2 : whL s ((t + leadN (byt s t) : Nat) : Int) = (wh s ((t + leadN (byt s t) : Nat) : Int)).l := by unfold whL; rw [if_pos ⟨hck, hok2⟩]
  have hC2 : whC s ((t + leadN (byt s t) : Nat) : Int) = (wh s ((t + leadN (byt s t) : Nat) : Int)).c := by unfold whC; rw [if_pos ⟨hck, hok2⟩]
  rw [hL, hC, hL2, hC2]
  refine ⟨r1, r2, ?_, r4, r5⟩
  unfold whE; rw [if_pos hck, hok2]; rfl

theorem whF_bound (s : ByteArray) (t : Int) : ∀ (f a : Nat) (l c : Int), 1 ≤ c → (whF s t f a l c).l ≤ l + f ∧ (whF s t f a l c).c ≤ c + f := by
  intro f
  induction f with
  | zero => intro a l c _; simp only [whF]; omega
  | succ f ih =>
    intro a l c hc
    simp only [whF]
    split
    · split
      · constructor <;> (show _ ≤ _; simp only; omega)
      · have h1 : stL s (decP s a) (a + leadN (byt s a)) l ≤ l + 1 := by unfold stL; split <;> omega
        have h2 : 1 ≤ stC s (decP s a) (a + leadN (byt s a)) c ∧ stC s (decP s a) (a + leadN (byt s a)) c ≤ c + 1 := by unfold stC; split <;> omega
        have := ih (a + leadN (byt s a)) (stL s (decP s a) (a + leadN (byt s a)) l) _ h2.1
        omega
    · constructor <;> (show _ ≤ _; simp only; omega)
theorem wh_bound (s : ByteArray) (t : Int) : whL s t ≤ s.size + 1 ∧ whC s t ≤ s.size + 1 := by
  have := whF_bound s t s.size 0 1 1 (by omega)
  unfold whL whC
  constructor
  · split
    · have h : (wh s t).l = (whF s t s.size 0 1 1).l := rfl
      omega
    · omega
  · split
    · have h : (wh s t).c = (whF s t s.size 0 1 1).c := rfl
      omega
    · omega

set_option maxHeartbeats 1000000 in
theorem where_walk (s : ByteArray) (i : Int) (w : World) (hs : s.size ≤ maxLen) (i0 : -9223372036854775808 ≤ i) (i1 : i ≤ 9223372036854775807) :
    Calls Try.prog 8 #[.string s, .int .i64 i] w fun e w' => e = .returned (.bool true) ∧ Below w.heap.size w w' := by
  have hm := hs
  unfold maxLen at hm
  by_cases hbig : 3000 < s.size
  · go_enter Try.func8, Try.ntmps8
    go_wp2_with fail
    refine (alive_true _).mono ?_
    rintro e w1 ⟨rfl, b1⟩
    go_wp2_with fail
    go_ret
    exact ⟨rfl, b1⟩
  by_cases hw : whE s i = 0
  · by_cases hn : nxE s i = 0
    · obtain ⟨n1, n2, n3, n4, n5⟩ := wh_next hw hn
      have ok := nx_ok hn
      have g1 := ok.1
      have g2 := ok.2.1
      have g5 := ok.2.2.2.2.2.1
      have g6 := ok.2.2.2.2.2.2.1
      have g7 := ok.2.2.2.2.2.2.2
      have HW := Lib.hid hw
      have HN := Lib.hid hn
      have N3 := Lib.hid n3
      clear ok hw hn n3
      have hbd := wh_bound s i
      obtain ⟨a, rfl⟩ := Int.eq_ofNat_of_zero_le g1
      obtain ⟨z, hz⟩ := Int.eq_ofNat_of_zero_le (by omega : 0 ≤ nxN s a)
      obtain ⟨p, hp⟩ : ∃ p, p = nxP s a := ⟨_, rfl⟩
      obtain ⟨l, hl⟩ : ∃ l, l = whL s a := ⟨_, rfl⟩
      obtain ⟨c, hc⟩ : ∃ c, c = whC s a := ⟨_, rfl⟩
      rw [hz] at g5 g6 g7 n4 n5 N3
      rw [← hp] at n4 n5
      rw [← hl] at n1 n4 hbd
      rw [← hc] at n2 n5 hbd
      have et : ((a : Int) + z).toNat = a + z := by omega
      rw [et] at n4 n5
      have HP := Lib.hid hp
      have HZ := Lib.hid hz
      have HL := Lib.hid hl
      have HC := Lib.hid hc
      have hb0 := hbd.1
      have hb1 := hbd.2
      clear hp hz hl hc et hbd
      have hcase : (a + z < s.size ∧ ∃ h : a + z < s.size, ((s[a + z].toNat : Int) == 10) = true ∧ byt s (a + z) = 10) ∨ (a + z < s.size ∧ ∃ h : a + z < s.size, ((s[a + z].toNat : Int) == 10) = false ∧ byt s (a + z) ≠ 10) ∨ ¬ a + z < s.size := by
        by_cases h : a + z < s.size
        · by_cases hb : byt s (a + z) = 10
          · exact .inl ⟨h, h, by rw [byt_eq s _ h, hb]; rfl, hb⟩
          · exact .inr (.inl ⟨h, h, by rw [byt_eq s _ h]; simp [hb], hb⟩)
        · exact .inr (.inr h)
      have hpc : ((p == 10) = true ∧ p = 10) ∨ ((p == 10) = false ∧ (p == 13) = true ∧ p = 13) ∨ ((p == 10) = false ∧ (p == 13) = false ∧ p ≠ 10 ∧ p ≠ 13) := by
        by_cases h10 : p = 10
        · exact .inl ⟨by simp [h10], h10⟩
        · by_cases h13 : p = 13
          · exact .inr (.inl ⟨by simp [h10], by simp [h13], h13⟩)
          · exact .inr (.inr ⟨by simp [h10], by simp [h13], h10, h13⟩)
      have hst : (ends s p (a + z) = true ∧ stL s p (a + z) l = l + 1 ∧ stC s p (a + z) c = 1) ∨ (ends s p (a + z) = false ∧ stL s p (a + z) l = l ∧ stC s p (a + z) c = c + 1) := by
        unfold stL stC
        cases h : ends s p (a + z)
        · right; simp
        · left; simp
      have NL := Lib.hid n4
      have NC := Lib.hid n5
      clear n4 n5
      rcases hst with ⟨hend, q1, q2⟩ | ⟨hend, q1, q2⟩
      all_goals
        have Q1 := Lib.hid q1
        have Q2 := Lib.hid q2
        clear q1 q2
        unfold ends at hend
        rcases hcase with ⟨hlt, hlt', hby, hbb⟩ | ⟨hlt, hlt', hby, hbb⟩ | hlt
      all_goals
        rcases hpc with ⟨hpa, hpb⟩ | ⟨hpa, hpd, hpb⟩ | ⟨hpa, hpd, hpb, hpe⟩
      all_goals first
        | (exfalso; simp [hpb, hbb] at hend; done)
        | (exfalso; simp [hpb, hpe] at hend; done)
        | (exfalso; simp [hpb] at hend; done)
        | (exfalso; simp [hpb] at hend; omega)
        | skip
      all_goals
        clear hend hpb
        try clear hpe
        try clear hbb
        go_enter Try.func8, Try.ntmps8
        go_wp2_with fail
        refine (alive_true _).mono ?_
        rintro e w1 ⟨rfl, b1⟩
        go_wp2_with fail
        refine (where_any s a _ hs i0 i1).mono ?_
        rintro e w2 ⟨rfl, b2⟩
        rw [HW.out, ← HL.out, ← HC.out]
        go_wp2_with fail
        refine (next_any s a _ hs).mono ?_
        rintro e w3 ⟨rfl, b3⟩
        rw [HN.out, ← HP.out, HZ.out]
        go_wp2_with fail
        refine (where_any s (a + z) _ hs (by omega) (by omega)).mono ?_
        rintro e w4 ⟨rfl, b4⟩
        rw [N3.out, NL.out, NC.out, Q1.out, Q2.out]
        go_wp2_with fail
        go_ret
        exact ⟨rfl, ((b1.trans (b2.mono b1.size)).trans (b3.mono (Nat.le_trans b1.size b2.size))).trans (b4.mono (Nat.le_trans b1.size (Nat.le_trans b2.size b3.size)))⟩
    · have hn2 : (nxE s i != 0) = true := by simp [hn]
      have HW := Lib.hid hw
      clear hn hw
      go_enter Try.func8, Try.ntmps8
      go_wp2_with fail
      refine (alive_true _).mono ?_
      rintro e w1 ⟨rfl, b1⟩
      go_wp2_with fail
      refine (where_any s i _ hs i0 i1).mono ?_
      rintro e w2 ⟨rfl, b2⟩
      rw [HW.out]
      go_wp2_with fail
      refine (next_any s i _ hs).mono ?_
      rintro e w3 ⟨rfl, b3⟩
      go_wp2_with fail
      go_ret
      exact ⟨rfl, (b1.trans (b2.mono b1.size)).trans (b3.mono (Nat.le_trans b1.size b2.size))⟩
  · have hz := Lib.hid (wh_none hw)
    have hw2 : (whE s i != 0) = true := by simp [hw]
    have hw3 : (whE s i == 0) = false := by simp [hw]
    clear hw
    go_enter Try.func8, Try.ntmps8
    go_wp2_with fail
    refine (alive_true _).mono ?_
    rintro e w1 ⟨rfl, b1⟩
    go_wp2_with fail
    refine (where_any s i _ hs i0 i1).mono ?_
    rintro e w2 ⟨rfl, b2⟩
    rw [hz.out.1, hz.out.2]
    go_wp2_with fail
    refine (next_any s i _ hs).mono ?_
    rintro e w3 ⟨rfl, b3⟩
    go_wp2_with fail
    go_ret
    exact ⟨rfl, (b1.trans (b2.mono b1.size)).trans (b3.mono (Nat.le_trans b1.size b2.size))⟩
end Go.Proofs.Ytcoennncgconmaa
