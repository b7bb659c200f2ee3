/- The document's code points of a text: Next, Points (as in layer 1). -/
import Derived.Test.YtfmgkndljppffaaR1
namespace Go.Proofs.Ytfmgkndljppffaa
open Go.RowKit
set_option maxRecDepth 20000 in
theorem ret3 {a b c d e f : Int} (h : a = b) (g : c = d) (k : e = f) : Ending.returned (.tuple #[.int .i64 a, .int .i64 c, .int .i64 e]) = .returned (.tuple #[.int .i64 b, .int .i64 d, .int .i64 f]) := by rw [h, g, k]
set_option maxRecDepth 20000 in
theorem rnext_any (s : ByteArray) (i : Int) (w : World) (hs : s.size ≤ 2000000) :
    Calls Try.prog 70 #[.string s, .int .i64 i] w fun e w' => e = .returned (.tuple #[.int .i64 (nxP s i), .int .i64 (nxN s i), .int .i64 (nxE s i)]) ∧ Below w.heap.size w w' := by
  have hm : s.size ≤ maxLen := by unfold maxLen; omega
  have HM := Lib.hid hm
  clear hm
  by_cases hin : 0 ≤ i ∧ i < s.size
  · obtain ⟨a, rfl⟩ := Int.eq_ofNat_of_zero_le hin.1
    have ha : a < s.size := by omega
    have HF := Lib.hid (fun z (h1 : 1 ≤ z) (h : tpI s (a : Int) z = true) => nx_found ha h1 h)
    have HX := Lib.hid (fun h => nx_lost ha h)
    have hge : ¬ (s.size : Int) ≤ (a : Int) := by omega
    clear hin
    go_enter Try.func70, Try.ntmps70
    go_wp2_with fail
    go_loopw [7] (fun zv wr => ∃ z : Nat, 1 ≤ z ∧ z ≤ 5 ∧ zv = .int .i64 z ∧ (∀ y, 1 ≤ y → y < z → tpI s (a : Int) y = false) ∧ Below w.heap.size w wr) (fun zv _ => 5 - (intOf zv).toNat)
    case atStart => exact ⟨1, by omega, by omega, rfl, fun y h1 h2 => by omega, Below.refl _ _⟩
    case round =>
      obtain ⟨z, hz1, hz5, rfl, hno, hb⟩ := hrel
      have HB := Lib.hid hb
      have HNO := Lib.hid hno
      clear hb hno
      by_cases hlt : z ≤ 4
      · have hlt' : (z : Int) ≤ 4 := by omega
        cases ho : tpI s (a : Int) z
        · have HO := Lib.hid ho
          have HN2 : Hid (∀ y, 1 ≤ y → y < z + 1 → tpI s (a : Int) y = false) := Lib.hid (fun y h1 h2 => by
            by_cases e : y = z
            · rw [e]; exact HO.out
            · exact HNO.out y h1 (by omega))
          clear ho
          go_wp2_with fail
          refine (one_any s a z _ _ rfl hz1 hlt HM.out (by omega) (by omega)).mono ?_
          rintro e w1 ⟨rfl, b1⟩
          rw [HO.out]
          have HB1 := Lib.hid (HB.out.trans (b1.mono HB.out.size))
          clear b1
          go_wp2_with fail
          go_roundw
          case rel => exact ⟨z + 1, by omega, by omega, by go_num, HN2.out, HB1.out⟩
          case measure => simp [intOf]; omega
        · have HO := Lib.hid ho
          have HR := Lib.hid (HF.out z hz1 ho)
          clear ho
          go_wp2_with fail
          refine (one_any s a z _ _ rfl hz1 hlt HM.out (by omega) (by omega)).mono ?_
          rintro e w1 ⟨rfl, b1⟩
          rw [HO.out]
          have HB1 := Lib.hid (HB.out.trans (b1.mono HB.out.size))
          clear b1
          go_wp2_with fail
          go_ret3
          exact ⟨ret3 HR.out.1.symm HR.out.2.1.symm HR.out.2.2.symm, HB1.out⟩
      · have HR := Lib.hid (HX.out (fun y h1 h2 => HNO.out y h1 (by omega)))
        have hlt' : ¬ (z : Int) ≤ 4 := by omega
        go_wp2_with fail
        go_ret3
        exact ⟨ret3 HR.out.1.symm HR.out.2.1.symm HR.out.2.2.symm, HB.out⟩
  · have HR : Hid (nxP s i = 0 ∧ nxN s i = 0 ∧ nxE s i = 2) := Lib.hid (by unfold nxP nxN nxE; rw [if_neg hin, if_neg hin, if_neg hin]; exact ⟨rfl, rfl, rfl⟩)
    by_cases h0 : i < 0
    · clear hin
      go_enter Try.func70, Try.ntmps70
      go_wp2_with fail
      go_ret3
      exact ⟨ret3 HR.out.1.symm HR.out.2.1.symm HR.out.2.2.symm, Below.refl _ _⟩
    · have h1 : (s.size : Int) ≤ i := by omega
      clear hin
      go_enter Try.func70, Try.ntmps70
      go_wp2_with fail
      go_ret3
      exact ⟨ret3 HR.out.1.symm HR.out.2.1.symm HR.out.2.2.symm, Below.refl _ _⟩
set_option maxRecDepth 20000 in
theorem nx_at {s : ByteArray} {a : Nat} (h : a < s.size) : nxP s a = decP s a ∧ nxN s a = decN s a ∧ nxE s a = if decIs s a then 0 else 10 := by
  unfold nxP nxN nxE
  rw [if_pos (by omega), if_pos (by omega), if_pos (by omega), Int.toNat_natCast]
  exact ⟨rfl, rfl, rfl⟩
set_option maxRecDepth 20000 in
theorem pts_end {v v' : Value} {g g' : Bool} (h : v = v') (k : g = g') : Ending.returned (.tuple #[v, .bool g]) = .returned (.tuple #[v', .bool g']) := by rw [h, k]
set_option maxRecDepth 20000 in
theorem rpoints_any (s : ByteArray) (w : World) (hs : s.size ≤ 2000000) :
    Calls Try.prog 65 #[.string s] w fun e w' => ∃ v, e = .returned (.tuple #[v, .bool (isTx s)]) ∧ Below w.heap.size w w' := by
  obtain ⟨i0, hi, hz0, hz1, hz2⟩ := infoI
  go_enter Try.func65, Try.ntmps65
  go_wp2_with fail
  go_loopg [4, 5] s.size (fun f v i wr => ∃ (a n : Nat), s.size - a ≤ f ∧ a ≤ s.size ∧ n ≤ a ∧ i = .int .i64 a ∧ txF s f a = isTx s ∧ (∃ xs, wr.ownsRow w.heap.size 3 1 v n xs) ∧ Below w.heap.size w wr)
  case atStart => exact ⟨0, 0, by omega, by omega, by omega, rfl, rfl, ⟨_, World.ownsRow_nil _ _ _ _⟩, Below.refl _ _⟩
  case round =>
    obtain ⟨a, n, hf, ha, hna, rfl, htx, ⟨xs, hown⟩, hb⟩ := hrel
    by_cases hlt : a < s.size
    · have hlt' : (a : Int) < (s.size : Int) := by omega
      rw [txF_step hlt hf] at htx
      have hnx := nx_at hlt
      have hsz := hb.size
      have HO := Lib.hid hown
      have HB := Lib.hid hb
      cases hd : decIs s a
      · rw [hd] at htx hnx
        simp at htx hnx
        have HT := Lib.hid htx
        have HE := Lib.hid hnx.2.2
        clear hown hb htx hnx hd
        go_wp2_with fail
        refine (rnext_any s a _ hs).mono ?_
        rintro e w1 ⟨rfl, b1⟩
        rw [HE.out]
        have HB1 := Lib.hid (HB.out.trans (b1.mono HB.out.size))
        clear b1
        go_wp2_with fail
        go_ret2
        exact ⟨_, pts_end rfl HT.out.symm, HB1.out⟩
      · have h0 := (decIs_lead hd).1
        have hin := dec_in hlt hd
        rw [hd] at htx hnx
        have hdn := decN_eq s a
        rw [hd] at hdn
        simp at hdn
        simp only [Bool.true_and] at htx
        have h4 := leadN_le (byt s a)
        have hn2 : nxN s a = leadN (byt s a) := by rw [hnx.2.1, hdn.1]
        have HE : Hid (nxE s a = 0) := Lib.hid (by rw [hnx.2.2]; rfl)
        obtain ⟨z, hz⟩ : ∃ z, z = leadN (byt s a) := ⟨_, rfl⟩
        rw [← hz] at h0 hin htx hn2 h4
        obtain ⟨p, hp⟩ : ∃ p, p = nxP s a := ⟨_, rfl⟩
        have HP := Lib.hid hp
        have HN := Lib.hid hn2
        have HT := Lib.hid htx
        have hxs : Hid (n + 1 ≤ 2000000) := Lib.hid (by omega)
        clear hown hb htx hnx hd hdn hn2 hz hp
        go_wp2_with fail
        refine (rnext_any s a _ hs).mono ?_
        rintro e w1 ⟨rfl, b1⟩
        rw [HE.out, HN.out, ← HP.out]
        have HB1 := Lib.hid (HB.out.trans (b1.mono HB.out.size))
        have HO1 := Lib.hid (own_below HO.out b1)
        have hsz1 : Hid (w.heap.size ≤ w1.heap.size + 1) := Lib.hid (by have := HB1.out.size; omega)
        clear b1
        go_wp2_with (at_builtin; refine wpList_append_own _ rfl _ _ 22 rfl w.heap.size 3 i0 (.int .i64 0) 1 8 Try.underlying22 hi hz0 hz1 hz2 rfl (by decide) _ n xs rfl (HO1.out.alloc _) ⟨w1.heap.size, 0, none⟩ 1 1 [.int .i64 p] rfl rfl (news_at _ _ _ _ rfl) (by intro u hu; simp at hu; subst hu; rfl) (by have := hxs.out; unfold maxLen; omega) (by have := hxs.out; omega) (by have := hsz1.out; simpa using this) ?_; intro v' w2 ho hg _)
        go_roundg (gk - 1)
        case rel =>
          refine ⟨a + z, n + 1, by omega, hin, by omega, by go_num, HT.out, ⟨_, ho⟩, (HB1.out.alloc HB1.out.size _).grown hg ?_ ?_⟩
          · have := hsz1.out; simpa using this
          · intro q hq; exact (HO1.out.lt q hq).1
        case measure => omega
    · obtain rfl : a = s.size := by omega
      rw [txF_end (Nat.le_refl _)] at htx
      have HT := Lib.hid htx
      have HB := Lib.hid hb
      clear htx hb hown
      go_wp2_with fail
      go_ret2
      exact ⟨_, pts_end rfl HT.out, HB.out⟩
set_option maxRecDepth 20000 in
theorem rtxt_any (s : ByteArray) (w : World) (hs : s.size ≤ 2000000) :
    Calls Try.prog 60 #[.string s] w fun e w' => e = .returned (.bool (ckB s)) ∧ Below w.heap.size w w' := by
  have HP := Lib.hid (fun W => rpoints_any s W hs)
  have hm : (s.size : Int) ≤ 2000000 := by omega
  obtain ⟨z, hz⟩ : ∃ z, z = ckB s := ⟨_, rfl⟩
  have hc : ckB s = (isTx s && decide (s.size ≤ 16384)) := by
    unfold ckB ckE
    by_cases h1 : 16384 < s.size
    · rw [if_pos h1, decide_eq_false (by omega : ¬ s.size ≤ 16384), Bool.and_false]; rfl
    · rw [if_neg h1, decide_eq_true (by omega : s.size ≤ 16384), Bool.and_true]
      cases isTx s <;> rfl
  rw [← hz]
  rw [hc] at hz
  have HZ := Lib.hid hz
  obtain ⟨t, ht⟩ : ∃ t, t = isTx s := ⟨_, rfl⟩
  rw [← ht] at HP HZ
  clear hz hc ht
  cases t with
  | false =>
    go_enter Try.func60, Try.ntmps60
    go_wp2_with fail
    with_reducible refine (HP.out w).mono ?_
    rintro e w1 ⟨v, rfl, b1⟩
    have B1 := Lib.hid b1
    clear b1
    go_wp2_with fail
    go_ret
    exact ⟨ret_bool (by rw [HZ.out]; rfl), B1.out⟩
  | true =>
    by_cases h1 : s.size ≤ 16384
    · have h1' : (s.size : Int) ≤ 16384 := by omega
      go_enter Try.func60, Try.ntmps60
      go_wp2_with fail
      with_reducible refine (HP.out w).mono ?_
      rintro e w1 ⟨v, rfl, b1⟩
      have B1 := Lib.hid b1
      clear b1
      go_wp2_with fail
      go_ret
      exact ⟨ret_bool (by rw [HZ.out]; simp [h1]), B1.out⟩
    · have h1' : ¬ (s.size : Int) ≤ 16384 := by omega
      go_enter Try.func60, Try.ntmps60
      go_wp2_with fail
      with_reducible refine (HP.out w).mono ?_
      rintro e w1 ⟨v, rfl, b1⟩
      have B1 := Lib.hid b1
      clear b1
      go_wp2_with fail
      go_ret
      exact ⟨ret_bool (by rw [HZ.out]; simp; omega), B1.out⟩
end Go.Proofs.Ytfmgkndljppffaa
