import Derived.Test.YtepjehneembakaaE3
import Derived.Test.YtepjehneembakaaPlain3
import Derived.Deep.LoopGhost
namespace Go.Proofs.Ytepjehneembakaa
open Go.RowKit

theorem run_next_dec {P : Program} (w : World) (s : ByteArray) (pos r n : Nat) (ty : TypeId) (h : pos < s.size) (hd : Utf8.decode s pos = (r, n)) :
    (Instr.next (.pointer (some ⟨w.heap.size, 0, none⟩)) true ty).run P (w.iter s pos) =
      .ok (.tuple #[.bool true, .int .i64 pos, .int .i32 r]) (w.iter s (pos + n)) := by
  simp only [Instr.next, getObj, setObj, Sem.run_bind, Sem.run, World.iter_heap, Result.andThen, h, if_true, hd, World.iter_set]
  simp [goInt, Sem.run, World.iter_heap, World.iter_set]

theorem check_any (s : ByteArray) (w : World) (hs : s.size ≤ maxLen) :
    Calls Try.prog 13 #[.string s] w fun e w' => e = .returned (.int .i64 (ckE s)) ∧ Below w.heap.size w w' := by
  have hm := hs
  unfold maxLen at hm
  by_cases hbig : 16384 < s.size
  · have hc := Lib.hid (show ckE s = 4 by unfold ckE; rw [if_pos hbig])
    go_enter Try.func13, Try.ntmps13
    go_wp2_with fail
    go_ret
    exact ⟨ret_int hc.out.symm, Below.refl _ _⟩
  · have hc := Lib.hid (show ckE s = if isTx s then 0 else 10 by unfold ckE; rw [if_neg hbig])
    go_enter Try.func13, Try.ntmps13
    go_wp2_with fail
    go_loopw [2, 3] (fun _ i wr => ∃ f a : Nat, s.size - a ≤ f ∧ a ≤ s.size ∧ i = .int .i64 a ∧ txF s f a = isTx s ∧ Below w.heap.size w wr) (fun _ i _ => s.size - (intOf i).toNat)
    case atStart => exact ⟨s.size, 0, by omega, by omega, rfl, rfl, Below.refl _ _⟩
    case round =>
      obtain ⟨f, a, hf, ha, rfl, ht, hb⟩ := hrel
      by_cases hlt : a < s.size
      · rw [txF_step hlt hf] at ht
        rcases decN_eq s a with ⟨hd, hN, h0⟩ | ⟨hd, hN, _⟩
        · have hin := dec_in hlt hd
          rw [hd, Bool.true_and] at ht
          have HT := Lib.hid ht
          have HN := Lib.hid hN
          have hz : ((leadN (byt s a) : Int) == 0) = false := by simp; omega
          clear ht hN hd
          go_wp2_with fail
          refine (decode_any s a _ hs hlt).mono ?_
          rintro e w' ⟨rfl, hb'⟩
          rw [HN.out]
          go_wp2_with fail
          go_roundw
          case rel => exact ⟨f - 1, a + leadN (byt s a), by omega, hin, by go_num, HT.out, hb.trans (hb'.mono hb.size)⟩
          case measure => simp [intOf]; omega
        · rw [hd, Bool.false_and] at ht
          have HC : Hid (ckE s = 10) := Lib.hid (by rw [hc.out, ← ht]; rfl)
          have HN := Lib.hid hN
          clear ht hN hd
          go_wp2_with fail
          refine (decode_any s a _ hs hlt).mono ?_
          rintro e w' ⟨rfl, hb'⟩
          rw [HN.out]
          go_wp2_with fail
          go_ret
          exact ⟨ret_int HC.out.symm, hb.trans (hb'.mono hb.size)⟩
      · rw [txF_end (by omega)] at ht
        have HC : Hid (ckE s = 0) := Lib.hid (by rw [hc.out, ← ht]; rfl)
        clear ht
        go_wp2_with fail
        go_ret
        exact ⟨ret_int HC.out.symm, hb⟩

theorem endsLine_any (s : ByteArray) (e : Nat) (v p : Int) (w : World) (hv : v + 1 = e ∨ p ≠ 13) (hp : p = 13 → 1 ≤ e ∧ e ≤ s.size) (hm : s.size ≤ 9223372036854775807) :
    Calls Try.prog 25 #[.string s, .int .i64 v, .int .i32 p] w fun r w' => r = .returned (.bool (ends s p e)) ∧ w = w' := by
  by_cases h13 : p = 13
  · have he := hp h13
    have hv' : v = (e : Int) - 1 := by omega
    subst hv'
    subst h13
    by_cases hend : e = s.size
    · have hr := Lib.hid (show ends s 13 e = true by unfold ends; simp [hend])
      have ht : ((e : Int) == (s.size : Int)) = true := by simp [hend]
      have e1 : 1 ≤ (e : Int) := by omega
      have e2 : (e : Int) ≤ 9223372036854775807 := by omega
      clear hv hp he hend
      go_enter Try.func25, Try.ntmps25
      go_wp2_with fail
      go_ret
      exact ⟨ret_bool hr.out.symm, rfl⟩
    · have hlt : e < s.size := by omega
      have hb := byt_eq s e hlt
      have hr : ends s 13 e = ((s[e].toNat : Int) != 10) := by
        unfold ends; rw [hb]
        rw [Bool.eq_iff_iff]; simp [hend]
      have HR := Lib.hid hr
      have ht : ((e : Int) == (s.size : Int)) = false := by simp; omega
      have e1 : 1 ≤ (e : Int) := by omega
      have e2 : (e : Int) ≤ 9223372036854775807 := by omega
      clear hv hp he hend hb hr
      go_enter Try.func25, Try.ntmps25
      go_wp2_with fail
      go_ret
      exact ⟨ret_bool HR.out.symm, rfl⟩
  · have hr := Lib.hid (show ends s p e = decide (p = 10) by unfold ends; rw [if_neg h13])
    have ht : (p == 13) = false := by simp [h13]
    clear hv hp h13
    go_enter Try.func25, Try.ntmps25
    go_wp2_with fail
    go_ret
    exact ⟨ret_bool (by rw [hr.out]; rfl), rfl⟩

theorem told_no (l c : Int) (w : World) :
    Calls Try.prog 24 #[.int .i64 l, .int .i64 c, .bool false] w fun r w' => r = .returned (.tuple #[.int .i64 0, .int .i64 0, .int .i64 2]) ∧ w = w' := by
  go_enter Try.func24, Try.ntmps24
  go_wp2_with fail
  go_ret3
  exact ⟨rfl, rfl⟩
theorem told_yes (l c : Int) (w : World) :
    Calls Try.prog 24 #[.int .i64 l, .int .i64 c, .bool true] w fun r w' => r = .returned (.tuple #[.int .i64 l, .int .i64 c, .int .i64 0]) ∧ w = w' := by
  go_enter Try.func24, Try.ntmps24
  go_wp2_with fail
  go_ret3
  exact ⟨rfl, rfl⟩
theorem below_iter {w w1 : World} (h : Below w.heap.size w w1) (s : ByteArray) (n : Nat) : Below w.heap.size w (w1.iter s n) := h.alloc h.size _

set_option maxHeartbeats 1000000 in
theorem where_any (s : ByteArray) (t : Int) (w : World) (hs : s.size ≤ maxLen) (ht0 : -9223372036854775808 ≤ t) (ht1 : t ≤ 9223372036854775807) :
    Calls Try.prog 9 #[.string s, .int .i64 t] w fun r w' => r = .returned (.tuple #[.int .i64 (whL s t), .int .i64 (whC s t), .int .i64 (whE s t)]) ∧ Below w.heap.size w w' := by
  have hm := hs
  unfold maxLen at hm
  by_cases hck : ckE s = 0
  · have hL := Lib.hid (show whL s t = if (wh s t).ok then (wh s t).l else 0 by unfold whL; simp [hck])
    have hC := Lib.hid (show whC s t = if (wh s t).ok then (wh s t).c else 0 by unfold whC; simp [hck])
    have hE := Lib.hid (show whE s t = if (wh s t).ok then 0 else 2 by unfold whE; simp [hck])
    have htx : txF s s.size 0 = true := by
      unfold ckE at hck
      by_cases hb : 16384 < s.size
      · rw [if_pos hb] at hck; omega
      · rw [if_neg hb] at hck
        cases h : isTx s
        · rw [h] at hck; simp at hck
        · exact h
    have hsmall : s.size ≤ 16384 := by
      apply Classical.byContradiction
      intro h
      unfold ckE at hck; rw [if_pos (by omega)] at hck; omega
    have HCK := Lib.hid hck
    have HTX := Lib.hid htx
    clear hck htx
    go_enter Try.func9, Try.ntmps9
    go_wp2_with fail
    refine (check_any s _ hs).mono ?_
    rintro e w1 ⟨rfl, b1⟩
    rw [HCK.out]
    go_wp2_with fail
    go_loopg [4, 5] s.size (fun f l c wr => ∃ (a : Nat) (lv cv : Int), s.size - a ≤ f ∧ a ≤ s.size ∧ l = .int .i64 lv ∧ c = .int .i64 cv ∧ 1 ≤ lv ∧ 1 ≤ cv ∧ lv ≤ a + 1 ∧ cv ≤ a + 1 ∧ txF s f a = true ∧ whF s t f a lv cv = wh s t ∧ w1.iter s a = wr)
    case atStart => exact ⟨0, 1, 1, by omega, by omega, rfl, rfl, by omega, by omega, by omega, by omega, HTX.out, rfl, rfl⟩
    case round =>
      obtain ⟨a, lv, cv, hf, ha, rfl, rfl, l0, c0, l1, c1, htx, hwh, rfl⟩ := hrel
      by_cases hlt : a < s.size
      · rw [txF_step hlt hf] at htx
        rw [whF_step hlt hf] at hwh
        simp only [Bool.and_eq_true] at htx
        have h0 := (decIs_lead htx.1).1
        have hin := dec_in hlt htx.1
        have hnx := fun ty => run_next_dec (P := Try.prog) w1 s a _ _ ty hlt (decode_eq htx.1)
        have hnn : 0 ≤ decP s a := by rw [(dec_yes htx.1).1]; exact (acc_range _ _ _ (leadB_range _ (byt_range _ _).1 (byt_range _ _).2).1 (leadB_range _ (byt_range _ _).1 (byt_range _ _).2).2 _ (by have := leadN_le (byt s a); omega)).1
        have hrn : ((decP s a).toNat : Int) = decP s a := Int.toNat_of_nonneg hnn
        rw [hrn] at hnx
        by_cases hta : t ≤ a
        · rw [if_pos hta] at hwh
          have hok : (wh s t).ok = decide ((a : Int) = t) := by rw [← hwh]
          have hwl : (wh s t).l = lv := by rw [← hwh]
          have hwc : (wh s t).c = cv := by rw [← hwh]
          by_cases heq : (a : Int) = t
          · have hR : whL s t = lv ∧ whC s t = cv ∧ whE s t = 0 := by
              rw [hL.out, hC.out, hE.out, hok, hwl, hwc]; simp [heq]
            have HR := Lib.hid hR
            have hb : ((a : Int) == t) = true := by simp [heq]
            clear hwh hok hwl hwc htx hrn hnn h0 hin hR heq
            go_wp2_with fail
            refine (told_yes _ _ _).mono ?_
            rintro e w' ⟨rfl, rfl⟩
            go_wp2_with fail
            go_ret3
            exact ⟨ret3 HR.out.1.symm HR.out.2.1.symm HR.out.2.2.symm, below_iter b1 _ _⟩
          · have hR : whL s t = 0 ∧ whC s t = 0 ∧ whE s t = 2 := by
              rw [hL.out, hC.out, hE.out, hok]; simp [heq]
            have HR := Lib.hid hR
            have hb : ((a : Int) == t) = false := by simp [heq]
            clear hwh hok hwl hwc htx hrn hnn h0 hin hR heq
            go_wp2_with fail
            refine (told_no _ _ _).mono ?_
            rintro e w' ⟨rfl, rfl⟩
            go_wp2_with fail
            go_ret3
            exact ⟨ret3 HR.out.1.symm HR.out.2.1.symm HR.out.2.2.symm, below_iter b1 _ _⟩
        · rw [if_neg hta] at hwh
          have htx2 := htx.2
          have h13 : decP s a = 13 → (a : Int) + 1 = ((a + leadN (byt s a) : Nat) : Int) := by
            intro h
            have := htx.1
            simp only [decIs, Bool.and_eq_true, decide_eq_true_eq] at this
            have hz := this.2
            rw [← (dec_yes htx.1).1, h] at hz
            have : szOf 13 = 1 := by decide
            omega
          have hel := fun w' => endsLine_any s (a + leadN (byt s a)) a (decP s a) w' (by omega) (fun _ => by omega) hm
          have HEL := Lib.hid hel
          have HTX2 := Lib.hid htx2
          have HWH := Lib.hid hwh
          have HIN := Lib.hid hin
          have HH0 := Lib.hid h0
          cases hend : ends s (decP s a) (a + leadN (byt s a))
          · have hs1 := Lib.hid (show stL s (decP s a) (a + leadN (byt s a)) lv = lv by unfold stL; rw [hend]; rfl)
            have hs2 := Lib.hid (show stC s (decP s a) (a + leadN (byt s a)) cv = cv + 1 by unfold stC; rw [hend]; rfl)
            have HEND := Lib.hid hend
            clear hwh htx htx2 hrn hnn h0 hin h13 hel hend
            go_wp2_with fail
            refine (HEL.out _).mono ?_
            rintro e w' ⟨rfl, rfl⟩
            rw [HEND.out]
            go_wp2_with fail
            have h0 := HH0.out
            have hin := HIN.out
            go_roundg (gk - 1)
            case rel => exact ⟨a + leadN (byt s a), lv, cv + 1, by omega, hin, rfl, by go_num, l0, by omega, by omega, by omega, HTX2.out, by rw [← HWH.out, hs1.out, hs2.out], rfl⟩
            case measure => omega
          · have hs1 := Lib.hid (show stL s (decP s a) (a + leadN (byt s a)) lv = lv + 1 by unfold stL; rw [hend]; rfl)
            have hs2 := Lib.hid (show stC s (decP s a) (a + leadN (byt s a)) cv = 1 by unfold stC; rw [hend]; rfl)
            have HEND := Lib.hid hend
            clear hwh htx htx2 hrn hnn h0 hin h13 hel hend
            go_wp2_with fail
            refine (HEL.out _).mono ?_
            rintro e w' ⟨rfl, rfl⟩
            rw [HEND.out]
            go_wp2_with fail
            have h0 := HH0.out
            have hin := HIN.out
            go_roundg (gk - 1)
            case rel => exact ⟨a + leadN (byt s a), lv + 1, 1, by omega, hin, by go_num, rfl, by omega, by omega, by omega, by omega, HTX2.out, by rw [← HWH.out, hs1.out, hs2.out], rfl⟩
            case measure => omega
      · rw [whF_end (by omega)] at hwh
        have hok : (wh s t).ok = decide (t = s.size) := by rw [← hwh]
        have hwl : (wh s t).l = lv := by rw [← hwh]
        have hwc : (wh s t).c = cv := by rw [← hwh]
        have hnx := fun ty => run_next_end (P := Try.prog) w1 s a ty hlt
        by_cases heq : t = (s.size : Int)
        · have hR : whL s t = lv ∧ whC s t = cv ∧ whE s t = 0 := by
            rw [hL.out, hC.out, hE.out, hok, hwl, hwc]; simp [heq]
          have HR := Lib.hid hR
          have hb : (t == (s.size : Int)) = true := by simp [heq]
          clear hwh hok hwl hwc htx hR heq
          go_wp2_with fail
          refine (told_yes _ _ _).mono ?_
          rintro e w' ⟨rfl, rfl⟩
          go_wp2_with fail
          go_ret3
          exact ⟨ret3 HR.out.1.symm HR.out.2.1.symm HR.out.2.2.symm, below_iter b1 _ _⟩
        · have hR : whL s t = 0 ∧ whC s t = 0 ∧ whE s t = 2 := by
            rw [hL.out, hC.out, hE.out, hok]; simp [heq]
          have HR := Lib.hid hR
          have hb : (t == (s.size : Int)) = false := by simp [heq]
          clear hwh hok hwl hwc htx hR heq
          go_wp2_with fail
          refine (told_no _ _ _).mono ?_
          rintro e w' ⟨rfl, rfl⟩
          go_wp2_with fail
          go_ret3
          exact ⟨ret3 HR.out.1.symm HR.out.2.1.symm HR.out.2.2.symm, below_iter b1 _ _⟩
  · have hR : whL s t = 0 ∧ whC s t = 0 ∧ whE s t = ckE s := by
      unfold whL whC whE; simp [hck]
    have HR := Lib.hid hR
    have hb : (ckE s != 0) = true := by simp [hck]
    clear hR hck
    go_enter Try.func9, Try.ntmps9
    go_wp2_with fail
    refine (check_any s _ hs).mono ?_
    rintro e w1 ⟨rfl, b1⟩
    go_wp2_with fail
    go_ret3
    exact ⟨ret3 HR.out.1.symm HR.out.2.1.symm HR.out.2.2.symm, b1⟩
end Go.Proofs.Ytepjehneembakaa
