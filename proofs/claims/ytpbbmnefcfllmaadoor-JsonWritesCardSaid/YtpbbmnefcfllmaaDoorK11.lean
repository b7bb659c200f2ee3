import Derived.Test.YtpbbmnefcfllmaaDoorK10
import Derived.Test.YtpbbmnefcfllmaaDoorK9
import Derived.Lib.ItoaLen
import Derived.Test.YtpbbmnefcfllmaaDoorRows
import Derived.Test.YtpbbmnefcfllmaaDoorTie
import Derived.Test.YtpbbmnefcfllmaaDoorCards
import Derived.Test.YtpbbmnefcfllmaaDoorK1
import Derived.WalkKit
import Derived.ProofKit
import Derived.OpenShut
import Derived.LaidMore
import Derived.Stop.Joined
import Derived.SevenTiedAt
import Derived.Lib.LaidTab
import Derived.Stop.LaidErr
import Derived.ShutString
import Derived.ChangeOld
import Derived.Carry
/- Layer 31, ServeWrites: a number's digits, by the document. -/
namespace Go.Proofs.YtpbbmnefcfllmaaDoor
open Go.RowKit
theorem digit_slice : ∀ d : Nat, d < 10 → (⟨#[48, 49, 50, 51, 52, 53, 54, 55, 56, 57]⟩ : ByteArray).extract d (d + 1) = ⟨(Lib.itoa (d : Int)).toArray⟩ := by
  intro d hd
  have e : Lib.itoa (d : Int) = [UInt8.ofNat (48 + d)] := by
    rw [Lib.itoa_nonneg, Lib.decDigits_one hd]
  rw [e]
  match d, hd with
  | 0, _ => rfl
  | 1, _ => rfl
  | 2, _ => rfl
  | 3, _ => rfl
  | 4, _ => rfl
  | 5, _ => rfl
  | 6, _ => rfl
  | 7, _ => rfl
  | 8, _ => rfl
  | 9, _ => rfl
theorem cat_mk (a b : List UInt8) : (⟨a.toArray⟩ : ByteArray) ++ ⟨b.toArray⟩ = ⟨(a ++ b).toArray⟩ := by
  apply ByteArray.ext
  simp [ByteArray.data_append]
theorem itoa_pos (n : Int) (h : 10 ≤ n) : Lib.itoa n = Lib.itoa (n / 10) ++ Lib.itoa (n % 10) := by
  obtain ⟨u, rfl⟩ := Int.eq_ofNat_of_zero_le (by omega : 0 ≤ n)
  rw [show ((u : Int) / 10) = ((u / 10 : Nat) : Int) from by omega, show ((u : Int) % 10) = ((u % 10 : Nat) : Int) from by omega, Lib.itoa_nonneg, Lib.itoa_nonneg, Lib.itoa_nonneg, Lib.decDigits_one (by omega : u % 10 < 10)]
  rw [Lib.decDigits, dif_neg (by omega)]
theorem itoa_neg10 (n : Int) (h : n ≤ -10) : Lib.itoa n = Lib.itoa (n.tdiv 10) ++ Lib.itoa (-(n.tmod 10)) := by
  obtain ⟨u, rfl⟩ : ∃ u : Nat, n = -(u : Int) := ⟨n.natAbs, by omega⟩
  rw [Int.neg_tdiv, Int.neg_tmod, Int.neg_neg, Int.tdiv_eq_ediv_of_nonneg (by omega), Int.tmod_eq_emod_of_nonneg (by omega)]
  rw [show ((u : Int) / 10) = ((u / 10 : Nat) : Int) from by omega, show ((u : Int) % 10) = ((u % 10 : Nat) : Int) from by omega]
  rw [Lib.itoa_neg u (by omega), Lib.itoa_neg (u / 10) (by omega), Lib.itoa_nonneg, Lib.decDigits_one (by omega : u % 10 < 10)]
  rw [Lib.decDigits, dif_neg (by omega)]; rfl
theorem itoa_neg1 (n : Int) (h : n < 0) : Lib.itoa n = [45] ++ Lib.itoa (-n) := by
  obtain ⟨u, rfl⟩ : ∃ u : Nat, n = -(u : Int) := ⟨n.natAbs, by omega⟩
  rw [Int.neg_neg, Lib.itoa_neg u (by omega), Lib.itoa_nonneg]; rfl

theorem ret_str {a b : ByteArray} (h : a = b) : Ending.returned (.string a) = .returned (.string b) := by rw [h]
theorem rwrite_digit (n : Int) (w : World) (h0 : 0 ≤ n) (h1 : n < 10) :
    Calls Tryd.prog 18 #[.int .i64 n] w fun e w' => e = .returned (.string ⟨(Lib.itoa n).toArray⟩) ∧ Below w.heap.size w w' := by
  obtain ⟨d, rfl⟩ := Int.eq_ofNat_of_zero_le h0
  have hd := Lib.hid (digit_slice d (by omega))
  go_enter Tryd.func18, Tryd.ntmps18
  go_wp2_with fail
  go_ret
  exact ⟨ret_str hd.out, Below.refl _ _⟩

theorem tmod_neg (n : Int) (h : n < 0) : -10 < n.tmod 10 ∧ n.tmod 10 ≤ 0 := by
  have e : (-n).tmod 10 = -(n.tmod 10) := Int.neg_tmod n 10
  have h1 := Int.tmod_lt_of_pos (-n) (by omega : (0 : Int) < 10)
  have h2 := Int.tmod_nonneg 10 (by omega : 0 ≤ -n)
  omega
theorem rwrite_any (k : Nat) : ∀ (n : Int) (w : World), n.natAbs ≤ k → -9223372036854775808 ≤ n → n ≤ 9223372036854775807 →
    Calls Tryd.prog 18 #[.int .i64 n] w fun e w' => e = .returned (.string ⟨(Lib.itoa n).toArray⟩) ∧ Below w.heap.size w w' := by
  induction k with
  | zero =>
    intro n w hk _ _
    exact rwrite_digit n w (by omega) (by omega)
  | succ k ih =>
    intro n w hk hlo hhi
    by_cases hd : 0 ≤ n ∧ n < 10
    · exact rwrite_digit n w hd.1 hd.2
    by_cases hp : 10 ≤ n
    · have he := Lib.hid (itoa_pos n hp)
      have IH := Lib.hid ih
      have l1 := Lib.itoa_length_le (n / 10) (by omega) (by omega)
      have l2 := Lib.itoa_length_le (n % 10) (by omega) (by omega)
      clear ih hd
      go_enter Tryd.func18, Tryd.ntmps18
      go_wp2_with fail
      refine (IH.out (n / 10) _ (by omega) (by omega) (by omega)).mono ?_
      rintro e w1 ⟨rfl, b1⟩
      go_wp2_with fail
      refine (rwrite_digit (n % 10) _ (by omega) (by omega)).mono ?_
      rintro e w2 ⟨rfl, b2⟩
      go_wp2_with fail
      go_ret
      exact ⟨ret_str (by rw [cat_mk, he.out]), b1.trans (b2.mono b1.size)⟩
    by_cases hs : -10 < n
    · have hn : n < 0 := by omega
      have he := Lib.hid (itoa_neg1 n hn)
      have l1 := Lib.itoa_length_le (-n) (by omega) (by omega)
      clear ih hd hp
      go_enter Tryd.func18, Tryd.ntmps18
      go_wp2_with fail
      refine (rwrite_digit (-n) _ (by omega) (by omega)).mono ?_
      rintro e w1 ⟨rfl, b1⟩
      go_wp2_with fail
      go_ret
      exact ⟨ret_str (by rw [cat_mk [45], he.out]), b1⟩
    · have hn : n ≤ -10 := by omega
      have hm := tmod_neg n (by omega)
      have m0 := hm.1
      have m1 := hm.2
      have hsum := Int.mul_tdiv_add_tmod n 10
      have hq : (n.tdiv 10).natAbs ≤ k ∧ -9223372036854775808 ≤ n.tdiv 10 ∧ n.tdiv 10 ≤ 9223372036854775807 := by omega
      have q0 := hq.1
      have q1 := hq.2.1
      have q2 := hq.2.2
      have he := Lib.hid (itoa_neg10 n hn)
      have IH := Lib.hid ih
      have l1 := Lib.itoa_length_le (n.tdiv 10) q1 q2
      clear ih hd hp hs hm hq hsum
      by_cases hz : n.tmod 10 < 0
      · have l2 := Lib.itoa_length_le (-(n.tmod 10)) (by omega) (by omega)
        go_enter Tryd.func18, Tryd.ntmps18
        go_wp2_with fail
        refine (IH.out (n.tdiv 10) _ q0 q1 q2).mono ?_
        rintro e w1 ⟨rfl, b1⟩
        go_wp2_with fail
        refine (rwrite_digit (-(n.tmod 10)) _ (by omega) (by omega)).mono ?_
        rintro e w2 ⟨rfl, b2⟩
        go_wp2_with fail
        go_ret
        exact ⟨ret_str (by rw [cat_mk, he.out]), b1.trans (b2.mono b1.size)⟩
      · have hz0 : n.tmod 10 = 0 := by omega
        have HZ := Lib.hid hz0
        have l2 := Lib.itoa_length_le (n.tmod 10) (by omega) (by omega)
        clear hz0
        go_enter Tryd.func18, Tryd.ntmps18
        go_wp2_with fail
        refine (IH.out (n.tdiv 10) _ q0 q1 q2).mono ?_
        rintro e w1 ⟨rfl, b1⟩
        go_wp2_with fail
        refine (rwrite_digit (n.tmod 10) _ (by omega) (by omega)).mono ?_
        rintro e w2 ⟨rfl, b2⟩
        go_wp2_with fail
        go_ret
        exact ⟨ret_str (by rw [cat_mk, he.out, HZ.out]; rfl), b1.trans (b2.mono b1.size)⟩
theorem rwrite_int (n : Int) (w : World) (h0 : -9223372036854775808 ≤ n) (h1 : n ≤ 9223372036854775807) :
    Calls Tryd.prog 18 #[.int .i64 n] w fun e w' => e = .returned (.string ⟨(Lib.itoa n).toArray⟩) ∧ Below w.heap.size w w' :=
  rwrite_any n.natAbs n w (Nat.le_refl _) h0 h1

end Go.Proofs.YtpbbmnefcfllmaaDoor
/- Layer 4: the document's Text. -/
namespace Go.Proofs.YtpbbmnefcfllmaaDoor
open Go.RowKit Go.Maps
def TP (W : World) (T : ByteArray) (r : Ending) (w' : World) : Prop := r = .returned (.string T) ∧ Below W.heap.size W w'
set_option maxRecDepth 20000 in
set_option maxHeartbeats 4000000 in
theorem rtext_any (a : Option Addr) (n cap : Nat) (g : Nat → CR) (hs : SmJ g n) (hsm : Sm n g) (hn : n ≤ 2048) : ∀ (f p e : Nat) (W : World), n - p ≤ f → wk g n 16 p = some e → CV W a n g → Calls Tryd.prog 12 #[.slice a n cap, .int .i64 (p : Nat)] W (TP W (jtx g n f p)) := by
  intro f
  induction f with
  | zero => intro p e W h1 h2 _; have := wk_lt _ _ _ h2; omega
  | succ f ih =>
    intro p e W hf hw hv
    obtain ⟨hk1, hk2, hp, hone, hm0⟩ := kids_bd hw
    have hle := wk_lt _ _ _ hw
    obtain ⟨b, off, rfl⟩ := hv.addr (by omega)
    have HIH := Lib.hid ih
    have HSM := Lib.hid hs
    obtain ⟨_, c0, c1, c2, c3, c4⟩ := hv.at_ hp
    have hp0 : (0 : Int) ≤ p := by omega
    have hp1 : (p : Int) < n := by omega
    have hn1 : (n : Int) ≤ 2048 := by omega
    have HKD := one_kind hone (hs.pl p hp)
    have HNN := Lib.hid (hs.nn p hp)
    have HTX := Lib.hid (hs.tx p hp)
    obtain ⟨R, hR⟩ : ∃ R, R = jtx g n (f + 1) p := ⟨_, rfl⟩
    rw [← hR]
    unfold jtx at hR
    have HR := Lib.hid hR
    have HK1 := Lib.hid hk1
    have HBG := Lib.hid (bd_ge hk1)
    have HK2 := Lib.hid hk2
    have HFF := Lib.hid hf
    have HEN : Hid (e ≤ n) := Lib.hid hle.2
    have HUN : Hid (∀ V, Below W.heap.size W V → Calls Tryd.prog 20 #[.slice (some ⟨b, off, none⟩) n cap, .int .i64 (p : Nat)] V (UPost V g n p)) := Lib.hid (fun V k => runder_any _ n cap g p e V (hv.below k) hsm hn hw)
    obtain ⟨kk, hkk⟩ : ∃ kk, kk = (g p).k := ⟨_, rfl⟩
    obtain ⟨nn, hnn⟩ : ∃ x, x = (g p).n := ⟨_, rfl⟩
    obtain ⟨mm, hmm⟩ : ∃ x, x = (g p).m := ⟨_, rfl⟩
    obtain ⟨tt, htt⟩ : ∃ x, x = (g p).tx := ⟨_, rfl⟩
    obtain ⟨ss, hss⟩ : ∃ x, x = (g p).nm := ⟨_, rfl⟩
    rw [← hkk] at c0 HKD
    rw [← hss] at c1
    rw [← htt] at c2 HTX
    rw [← hnn] at c3 HNN
    rw [← hmm] at c4 HK1 HK2 HBG hm0
    rw [← hkk, ← hnn, ← hmm, ← htt] at HR
    have HMM := Lib.hid hmm
    clear hkk hnn hmm htt hss hR ih hs hk1 hk2 hone hf hw hle hsm hn
    obtain ⟨W1, hW1⟩ : ∃ V, V = W.alloc (.cells #[.int .u8 kk, .string ss, .string tt, .int .i64 nn, .int .i64 mm] 33) := ⟨_, rfl⟩
    have HB1 : Hid (Below W.heap.size W W1) := Lib.hid (by rw [hW1]; exact (Below.refl _ _).alloc (Nat.le_refl _) _)
    have hblk : W1.heap[W.heap.size]? = some (.cells #[.int .u8 kk, .string ss, .string tt, .int .i64 nn, .int .i64 mm] 33) := by rw [hW1]; exact heap_alloc_new W _
    have HBX : Hid (∀ V, Below W1.heap.size W1 V → V.cell? ⟨W.heap.size, 0, none⟩ = some (.int .u8 kk)) := Lib.hid (fun V k => by
      have h2 : V.heap[W.heap.size]? = some (.cells #[.int .u8 kk, .string ss, .string tt, .int .i64 nn, .int .i64 mm] 33) := (k.block _ (Array.getElem?_eq_some_iff.1 hblk).1).trans hblk
      simp [World.cell?, h2])
    have HVW := Lib.hid (fun V (k : Below W1.heap.size W1 V) => (hv.below HB1.out).below k)
    have e0 : W1.cell? ⟨W.heap.size, 0, none⟩ = some (.int .u8 kk) := by simp [World.cell?, hblk]
    have e2 : W1.cell? ⟨W.heap.size, 2, none⟩ = some (.string tt) := by simp [World.cell?, hblk]
    have e3 : W1.cell? ⟨W.heap.size, 3, none⟩ = some (.int .i64 nn) := by simp [World.cell?, hblk]
    clear hblk hv
    go_enter Tryd.func12, Tryd.ntmps12
    go_upto_region 2 with fail
    rw [← hW1]
    clear c0 c1 c2 c3 c4 hW1
    rcases HKD with rfl | rfl | rfl | rfl | rfl | rfl
    · have HE : Hid (R = (⟨#[110, 117, 108, 108]⟩ : ByteArray)) := HR
      go_wp2_with fail
      go_ret
      exact ⟨by rw [HE.out] <;> rfl, HB1.out⟩
    · by_cases hz : nn = 1
      · subst hz
        have HE : Hid (R = (⟨#[116, 114, 117, 101]⟩ : ByteArray)) := HR
        go_wp2_with fail
        go_ret
        exact ⟨by rw [HE.out] <;> rfl, HB1.out⟩
      · have HE : Hid (R = (⟨#[102, 97, 108, 115, 101]⟩ : ByteArray)) := Lib.hid (by rw [HR.out, if_neg (by decide), if_pos rfl, if_neg hz])
        have g0 : (nn == 1) = false := by rw [beq_eq_false_iff_ne]; exact hz
        clear hz HR
        go_wp2_with fail
        go_ret
        exact ⟨by rw [HE.out] <;> rfl, HB1.out⟩
    · have HE : Hid (R = itT nn) := HR
      have HC : Hid (Calls Tryd.prog 18 #[.int .i64 nn] W1 fun e w' => e = .returned (.string (itT nn)) ∧ Below W1.heap.size W1 w') := Lib.hid (rwrite_int nn W1 HNN.out.1 HNN.out.2)
      go_wp2_with fail
      refine HC.out.mono ?_
      rintro r w1 ⟨rfl, b1⟩
      have B1 := Lib.hid (HB1.out.trans (b1.mono HB1.out.size))
      clear b1
      go_wp2_with fail
      go_ret
      exact ⟨by rw [HE.out] <;> rfl, B1.out⟩
    · have HE : Hid (R = quT tt) := HR
      have HC := Lib.hid (rQuoted_any tt W1 (by have := HTX.out; omega))
      go_wp2_with fail
      refine HC.out.mono ?_
      rintro r w1 ⟨rfl, b1⟩
      have B1 := Lib.hid (HB1.out.trans (b1.mono HB1.out.size))
      clear b1
      go_wp2_with fail
      go_ret
      exact ⟨by rw [HE.out] <;> rfl, B1.out⟩
    · obtain ⟨m, hm⟩ : ∃ m : Nat, m = mm.toNat := ⟨_, rfl⟩
      have hmi : mm = (m : Nat) := by omega
      subst hmi
      rw [← hm] at HK1 HK2 HBG
      have HMT : Hid ((g p).m.toNat = m) := Lib.hid (by rw [← HMM.out]; exact hm.symm)
      have HE : Hid (R = (⟨#[91]⟩ : ByteArray) ++ jki (jtx g n f) g n false p m ++ (⟨#[93]⟩ : ByteArray)) := Lib.hid (by have h := HR.out; rw [← hm] at h; exact h)
      clear hm hm0 HR HMM
      have HJ := Lib.hid (fun k (hk : k ≤ m) => jki_size (V := jtx g n f) (obj := false) (p := p) HSM.out k (fun i hi => by
        have hb := HBG.out i (by omega)
        have hl := wk_lt _ _ _ (HK1.out i (by omega))
        exact ⟨by omega, hl.1, hl.2, jtx_size HSM.out f _ _ (by have := HFF.out; omega) (HK1.out i (by omega))⟩))
      have HBN := Lib.hid (fun k (hk : k ≤ m) => show bd g n (p + 1) k ≤ n by
        rcases Nat.lt_or_ge k m with h | h
        · exact Nat.le_of_lt (Nat.lt_of_lt_of_le (wk_lt _ _ _ (HK1.out k h)).1 (wk_lt _ _ _ (HK1.out k h)).2)
        · rw [show k = m by omega, HK2.out]; exact HEN.out)
      clear e2 e3
      go_wp2_with fail
      refine (HUN.out _ HB1.out).mono ?_
      rintro r w1 ⟨u, rfl, hu, b1⟩
      rw [HMT.out] at hu
      obtain ⟨au, cu, rfl, iu, _⟩ := own_iv hu
      have HIU := Lib.hid iu
      have B1 := Lib.hid b1
      clear b1 hu iu
      go_wp2_with fail
      go_loopw [6, 8] (fun v6 v8 wr => ∃ i : Nat, i ≤ m ∧ v8 = .int .i64 i ∧ v6 = .string (jki (jtx g n f) g n false p i) ∧ Hid (Below w1.heap.size w1 wr)) (fun _ v8 _ => m - (intOf v8).toNat)
      case atStart => exact ⟨0, Nat.zero_le _, rfl, rfl, Lib.hid (Below.refl _ _)⟩
      case round =>
        obtain ⟨i, hi, rfl, rfl, HBC⟩ := hrel
        have HBW := Lib.hid (B1.out.trans (HBC.out.mono B1.out.size))
        have e0' := HBX.out _ HBW.out
        have HJi := Lib.hid (HJ.out i hi)
        have HBGi := Lib.hid (HBG.out i hi)
        have HBNi := Lib.hid (HBN.out i hi)
        by_cases him : i < m
        · have hii : (i : Int) < m := by omega
          have hib : (i : Int) ≤ 2048 := by have h1 := HBGi.out; have h2 := HBNi.out; omega
          have HKi := Lib.hid (HK1.out i him)
          have hql := wk_lt _ _ _ HKi.out
          have HSZ := Lib.hid (jtx_size HSM.out f _ _ (by have := HBGi.out; have := HFF.out; omega) HKi.out)
          obtain ⟨bu, ou, hau, _, hcu⟩ := (HIU.out.below HBC.out) i him
          subst hau
          have HREC := Lib.hid (HIH.out (bd g n (p + 1) i) (bd g n (p + 1) (i + 1)))
          have HNI : Hid (jki (jtx g n f) g n false p (i + 1) = (if 0 < i then jki (jtx g n f) g n false p i ++ ⟨#[44]⟩ else jki (jtx g n f) g n false p i) ++ jtx g n f (bd g n (p + 1) i)) := Lib.hid rfl
          obtain ⟨J, hJ⟩ : ∃ J, J = jki (jtx g n f) g n false p i := ⟨_, rfl⟩
          rw [← hJ] at HJi HNI ⊢
          obtain ⟨q, hq⟩ : ∃ q, q = bd g n (p + 1) i := ⟨_, rfl⟩
          rw [← hq] at HKi HBGi HBNi HREC HNI HJi HSZ hcu hql
          have HQN : Hid (q < n) := Lib.hid (by omega)
          obtain ⟨X, hX⟩ : ∃ X, X = jtx g n f q := ⟨_, rfl⟩
          rw [← hX] at HNI HREC HSZ
          have hq0 : (0 : Int) ≤ q := by omega
          have hqn : (q : Int) < n := by omega
          have hjz : J.size ≤ 100000000 := by have := HJi.out; omega
          have hxz : X.size ≤ 100000000 := by have := HSZ.out; omega
          have hcs := app_size J (⟨#[44]⟩ : ByteArray)
          have hcc : (⟨#[44]⟩ : ByteArray).size = 1 := rfl
          clear hJ hq hX hql
          rcases Nat.eq_zero_or_pos i with hi0 | hi0
          · subst hi0
            have hi1 : ¬ (0 : Int) < ((0 : Nat) : Int) := by decide
            simp only [Nat.add_zero] at hcu
            have HN2 := Lib.hid (by have h := HNI.out; simp only [Nat.lt_irrefl, if_true, if_false, ↓reduceIte] at h; exact h)
            clear HNI
            have hl4 : ¬ 9223372036854775807 < J.size + X.size := by omega
            clear hcs hcc hjz hxz HJi HSZ
            go_wp2_with fail
            refine (HREC.out _ (by have := HBGi.out; have := HFF.out; omega) HKi.out (HVW.out _ (B1.out.trans (HBC.out.mono B1.out.size)))).mono ?_
            rintro r wb ⟨rfl, bb⟩
            have BB := Lib.hid (HBC.out.trans (bb.mono HBC.out.size))
            clear bb
            go_wp2_with fail
            go_roundw
            case rel => exact ⟨0 + 1, by omega, by go_num, by rw [HN2.out] <;> rfl, BB⟩
            case measure => (simp [intOf]; omega)
          · have hi1 : (0 : Int) < (i : Int) := by omega
            have HN2 := Lib.hid (by have h := HNI.out; simp only [hi0, if_true, if_false, ↓reduceIte] at h; exact h)
            clear HNI
            have hl1 : ¬ 9223372036854775807 < J.size + 1 := by omega
            have hl4 : ¬ 9223372036854775807 < (J ++ (⟨#[44]⟩ : ByteArray)).size + X.size := by omega
            clear hcs hcc hjz hxz HJi HSZ
            go_wp2_with fail
            refine (HREC.out _ (by have := HBGi.out; have := HFF.out; omega) HKi.out (HVW.out _ (B1.out.trans (HBC.out.mono B1.out.size)))).mono ?_
            rintro r wb ⟨rfl, bb⟩
            have BB := Lib.hid (HBC.out.trans (bb.mono HBC.out.size))
            clear bb
            go_wp2_with fail
            go_roundw
            case rel => exact ⟨i + 1, by omega, by go_num, by rw [HN2.out] <;> rfl, BB⟩
            case measure => (simp [intOf]; omega)
        · have hie : i = m := by omega
          subst hie
          have hz : ¬ ((i : Int) < (i : Int)) := by omega
          obtain ⟨J, hJ⟩ : ∃ J, J = jki (jtx g n f) g n false p i := ⟨_, rfl⟩
          rw [← hJ] at HJi HE ⊢
          have hjz : J.size ≤ 100000000 := by have := HJi.out; omega
          have hl2 : ¬ 9223372036854775807 < 1 + J.size := by omega
          have hl3 : ¬ 9223372036854775807 < 1 + J.size + 1 := by omega
          clear hJ hjz HJi
          go_wp2_with fail
          go_ret
          exact ⟨by rw [HE.out] <;> rfl, HB1.out.trans (HBW.out.mono HB1.out.size)⟩
    · obtain ⟨m, hm⟩ : ∃ m : Nat, m = mm.toNat := ⟨_, rfl⟩
      have hmi : mm = (m : Nat) := by omega
      subst hmi
      rw [← hm] at HK1 HK2 HBG
      have HMT : Hid ((g p).m.toNat = m) := Lib.hid (by rw [← HMM.out]; exact hm.symm)
      have HE : Hid (R = (⟨#[123]⟩ : ByteArray) ++ jki (jtx g n f) g n true p m ++ (⟨#[125]⟩ : ByteArray)) := Lib.hid (by have h := HR.out; rw [← hm] at h; exact h)
      clear hm hm0 HR HMM
      have HJ := Lib.hid (fun k (hk : k ≤ m) => jki_size (V := jtx g n f) (obj := true) (p := p) HSM.out k (fun i hi => by
        have hb := HBG.out i (by omega)
        have hl := wk_lt _ _ _ (HK1.out i (by omega))
        exact ⟨by omega, hl.1, hl.2, jtx_size HSM.out f _ _ (by have := HFF.out; omega) (HK1.out i (by omega))⟩))
      have HBN := Lib.hid (fun k (hk : k ≤ m) => show bd g n (p + 1) k ≤ n by
        rcases Nat.lt_or_ge k m with h | h
        · exact Nat.le_of_lt (Nat.lt_of_lt_of_le (wk_lt _ _ _ (HK1.out k h)).1 (wk_lt _ _ _ (HK1.out k h)).2)
        · rw [show k = m by omega, HK2.out]; exact HEN.out)
      clear e2 e3
      go_wp2_with fail
      refine (HUN.out _ HB1.out).mono ?_
      rintro r w1 ⟨u, rfl, hu, b1⟩
      rw [HMT.out] at hu
      obtain ⟨au, cu, rfl, iu, _⟩ := own_iv hu
      have HIU := Lib.hid iu
      have B1 := Lib.hid b1
      clear b1 hu iu
      go_wp2_with fail
      go_loopw [6, 8] (fun v6 v8 wr => ∃ i : Nat, i ≤ m ∧ v8 = .int .i64 i ∧ v6 = .string (jki (jtx g n f) g n true p i) ∧ Hid (Below w1.heap.size w1 wr)) (fun _ v8 _ => m - (intOf v8).toNat)
      case atStart => exact ⟨0, Nat.zero_le _, rfl, rfl, Lib.hid (Below.refl _ _)⟩
      case round =>
        obtain ⟨i, hi, rfl, rfl, HBC⟩ := hrel
        have HBW := Lib.hid (B1.out.trans (HBC.out.mono B1.out.size))
        have e0' := HBX.out _ HBW.out
        have HJi := Lib.hid (HJ.out i hi)
        have HBGi := Lib.hid (HBG.out i hi)
        have HBNi := Lib.hid (HBN.out i hi)
        by_cases him : i < m
        · have hii : (i : Int) < m := by omega
          have hib : (i : Int) ≤ 2048 := by have h1 := HBGi.out; have h2 := HBNi.out; omega
          have HKi := Lib.hid (HK1.out i him)
          have hql := wk_lt _ _ _ HKi.out
          have HSZ := Lib.hid (jtx_size HSM.out f _ _ (by have := HBGi.out; have := HFF.out; omega) HKi.out)
          obtain ⟨bu, ou, hau, _, hcu⟩ := (HIU.out.below HBC.out) i him
          subst hau
          have HREC := Lib.hid (HIH.out (bd g n (p + 1) i) (bd g n (p + 1) (i + 1)))
          have HNI : Hid (jki (jtx g n f) g n true p (i + 1) = ((if 0 < i then jki (jtx g n f) g n true p i ++ ⟨#[44]⟩ else jki (jtx g n f) g n true p i) ++ (quT (g (bd g n (p + 1) i)).nm ++ ⟨#[58]⟩)) ++ jtx g n f (bd g n (p + 1) i)) := Lib.hid rfl
          obtain ⟨J, hJ⟩ : ∃ J, J = jki (jtx g n f) g n true p i := ⟨_, rfl⟩
          rw [← hJ] at HJi HNI ⊢
          obtain ⟨q, hq⟩ : ∃ q, q = bd g n (p + 1) i := ⟨_, rfl⟩
          rw [← hq] at HKi HBGi HBNi HREC HNI HJi HSZ hcu hql
          have HQN : Hid (q < n) := Lib.hid (by omega)
          obtain ⟨X, hX⟩ : ∃ X, X = jtx g n f q := ⟨_, rfl⟩
          rw [← hX] at HNI HREC HSZ
          have hq0 : (0 : Int) ≤ q := by omega
          have hqn : (q : Int) < n := by omega
          have hjz : J.size ≤ 100000000 := by have := HJi.out; omega
          have hxz : X.size ≤ 100000000 := by have := HSZ.out; omega
          have hcs := app_size J (⟨#[44]⟩ : ByteArray)
          have hcc : (⟨#[44]⟩ : ByteArray).size = 1 := rfl
          clear hJ hq hX hql
          have d1 := ((HVW.out _ HBW.out).at_ HQN.out).2.2.1
          obtain ⟨nq, hnq⟩ : ∃ x, x = (g q).nm := ⟨_, rfl⟩
          have HNQ : Hid (nq.size ≤ 3000) := Lib.hid (by rw [hnq]; exact HSM.out.nm q HQN.out)
          rw [← hnq] at d1 HNI
          clear hnq
          have HQQ := Lib.hid (fun V => rQuoted_any nq V (by have := HNQ.out; omega))
          have hqs := quT_size nq
          obtain ⟨Q, hQ⟩ : ∃ Q, Q = quT nq := ⟨_, rfl⟩
          rw [← hQ] at HQQ hqs HNI
          have hqz : Q.size ≤ 20000 := by have := HNQ.out; omega
          clear hQ hqs
          have hdd : (⟨#[58]⟩ : ByteArray).size = 1 := rfl
          have hqe := app_size Q (⟨#[58]⟩ : ByteArray)
          have hl3 : ¬ 9223372036854775807 < Q.size + 1 := by omega
          rcases Nat.eq_zero_or_pos i with hi0 | hi0
          · subst hi0
            have hi1 : ¬ (0 : Int) < ((0 : Nat) : Int) := by decide
            simp only [Nat.add_zero] at hcu
            have HN2 := Lib.hid (by have h := HNI.out; simp only [Nat.lt_irrefl, if_true, if_false, ↓reduceIte] at h; exact h)
            clear HNI
            have hse := app_size J (Q ++ (⟨#[58]⟩ : ByteArray))
            have hl5 : ¬ 9223372036854775807 < J.size + (Q ++ (⟨#[58]⟩ : ByteArray)).size := by omega
            have hl4 : ¬ 9223372036854775807 < (J ++ (Q ++ (⟨#[58]⟩ : ByteArray))).size + X.size := by omega
            clear hse hcs hcc hdd hqe hjz hxz hqz HJi HSZ
            go_wp2_with fail
            refine (HQQ.out _).mono ?_
            rintro r wa ⟨rfl, ba⟩
            have BA := Lib.hid (HBC.out.trans (ba.mono HBC.out.size))
            have hcu2 : wa.cell? _ = _ := (ba.cell (p := ⟨bu, ou, none⟩) (World.block_lt_of_cell? _ _ hcu)).trans hcu
            clear ba
            go_wp2_with fail
            refine (HREC.out _ (by have := HBGi.out; have := HFF.out; omega) HKi.out (HVW.out _ (B1.out.trans (BA.out.mono B1.out.size)))).mono ?_
            rintro r wb ⟨rfl, bb⟩
            have BB := Lib.hid (BA.out.trans (bb.mono BA.out.size))
            clear bb
            go_wp2_with fail
            go_roundw
            case rel => exact ⟨0 + 1, by omega, by go_num, by rw [HN2.out] <;> rfl, BB⟩
            case measure => (simp [intOf]; omega)
          · have hi1 : (0 : Int) < (i : Int) := by omega
            have HN2 := Lib.hid (by have h := HNI.out; simp only [hi0, if_true, if_false, ↓reduceIte] at h; exact h)
            clear HNI
            have hl1 : ¬ 9223372036854775807 < J.size + 1 := by omega
            have hse := app_size (J ++ (⟨#[44]⟩ : ByteArray)) (Q ++ (⟨#[58]⟩ : ByteArray))
            have hl5 : ¬ 9223372036854775807 < (J ++ (⟨#[44]⟩ : ByteArray)).size + (Q ++ (⟨#[58]⟩ : ByteArray)).size := by omega
            have hl4 : ¬ 9223372036854775807 < ((J ++ (⟨#[44]⟩ : ByteArray)) ++ (Q ++ (⟨#[58]⟩ : ByteArray))).size + X.size := by omega
            clear hse hcs hcc hdd hqe hjz hxz hqz HJi HSZ
            go_wp2_with fail
            refine (HQQ.out _).mono ?_
            rintro r wa ⟨rfl, ba⟩
            have BA := Lib.hid (HBC.out.trans (ba.mono HBC.out.size))
            have hcu2 : wa.cell? _ = _ := (ba.cell (p := ⟨bu, ou + i, none⟩) (World.block_lt_of_cell? _ _ hcu)).trans hcu
            clear ba
            go_wp2_with fail
            refine (HREC.out _ (by have := HBGi.out; have := HFF.out; omega) HKi.out (HVW.out _ (B1.out.trans (BA.out.mono B1.out.size)))).mono ?_
            rintro r wb ⟨rfl, bb⟩
            have BB := Lib.hid (BA.out.trans (bb.mono BA.out.size))
            clear bb
            go_wp2_with fail
            go_roundw
            case rel => exact ⟨i + 1, by omega, by go_num, by rw [HN2.out] <;> rfl, BB⟩
            case measure => (simp [intOf]; omega)
        · have hie : i = m := by omega
          subst hie
          have hz : ¬ ((i : Int) < (i : Int)) := by omega
          obtain ⟨J, hJ⟩ : ∃ J, J = jki (jtx g n f) g n true p i := ⟨_, rfl⟩
          rw [← hJ] at HJi HE ⊢
          have hjz : J.size ≤ 100000000 := by have := HJi.out; omega
          have hl2 : ¬ 9223372036854775807 < 1 + J.size := by omega
          have hl3 : ¬ 9223372036854775807 < 1 + J.size + 1 := by omega
          clear hJ hjz HJi
          go_wp2_with fail
          go_ret
          exact ⟨by rw [HE.out] <;> rfl, HB1.out.trans (HBW.out.mono HB1.out.size)⟩
end Go.Proofs.YtpbbmnefcfllmaaDoor
/- Layer 4: Write of both, and the walk of JsonWrites. -/
namespace Go.Proofs.YtpbbmnefcfllmaaDoor
open Go.RowKit Go.Maps
theorem pln_parts {g : Nat → CR} {n : Nat} (h : plnB g n = true) : (∀ i, i < n → enB (g i) = false) ∧ 0 < n ∧ n ≤ 2048 ∧ wk g n 16 0 = some n := by
  have h1 : ∀ i, i < n → enB (g i) = false := fun i hi => by
    cases he : enB (g i) with
    | false => rfl
    | true => rw [pln_no hi he] at h; cases h
  have h2 := ckC_parts (by rw [← pln_yes h1]; exact h)
  exact ⟨h1, h2.1, h2.2.1, h2.2.2.2⟩
def jwT (g : Nat → CR) (n : Nat) : ByteArray := if plnB g n = true then jtx g n n 0 else ⟨#[]⟩
def jwE (g : Nat → CR) (n : Nat) : Int := if plnB g n = true then 0 else 8
/-- Cells small enough, be they plain or not. -/
structure SmK (g : Nat → CR) (n : Nat) : Prop where
  nm : ∀ i, i < n → (g i).nm.size ≤ 3000
  tx : ∀ i, i < n → (g i).tx.size ≤ 3000
  nn : ∀ i, i < n → i64ok (g i).n
  sm : Sm n g
set_option maxRecDepth 20000 in
theorem jWrite_any (w : World) (t : Tabs w) (a : Option Addr) (n cap : Nat) (g : Nat → CR) (hs : SmK g n) (hv : CV w a n g) : Calls Tryd.prog 6 #[.slice a n cap] w fun e w' => e = .returned (.tuple #[.string (jwT g n), .int .i64 (jwE g n)]) ∧ Below w.heap.size w w' := by
  have HP := Lib.hid (plain_any a n cap g w hv hs.sm)
  cases hp : plnB g n with
  | false =>
    have HT : Hid (jwT g n = ⟨#[]⟩ ∧ jwE g n = 8) := Lib.hid (by unfold jwT jwE; rw [hp]; exact ⟨rfl, rfl⟩)
    rw [hp] at HP
    go_enter Tryd.func6, Tryd.ntmps6
    go_wp2_with fail
    refine HP.out.mono ?_
    rintro e w1 ⟨rfl, b1⟩
    have B1 := Lib.hid b1
    clear b1
    go_wp2_with fail
    go_ret2
    exact ⟨by rw [HT.out.1, HT.out.2] <;> rfl, B1.out⟩
  | true =>
    obtain ⟨h1, h2, h3, h4⟩ := pln_parts hp
    have HT : Hid (jwT g n = jtx g n n 0 ∧ jwE g n = 0) := Lib.hid (by unfold jwT jwE; rw [hp]; exact ⟨rfl, rfl⟩)
    have HSJ := Lib.hid (SmJ.mk (g := g) (n := n) hs.nm hs.tx hs.nn h1)
    have HWR := Lib.hid (fun W (k : Below w.heap.size w W) => jwrite_any W (t.later k) a n cap g HSJ.out h3 (hv.below k) n 0 n W (.slice none 0 0) [] (Nat.sub_le _ _) h4 (BO.nil W) (by simp only [List.length_nil]; omega))
    rw [hp] at HP
    obtain ⟨T, hT⟩ : ∃ T, T = jtx g n n 0 := ⟨_, rfl⟩
    rw [← hT] at HT HWR
    clear hT hs hv t h1 h2 h3 h4 HSJ
    go_enter Tryd.func6, Tryd.ntmps6
    go_wp2_with fail
    refine HP.out.mono ?_
    rintro e w1 ⟨rfl, b1⟩
    have B1 := Lib.hid b1
    clear b1
    go_wp2_with fail
    refine (HWR.out _ B1.out).mono ?_
    rintro e w2 ⟨v2, rfl, b2⟩
    rw [List.nil_append] at b2
    have hcv := conv_own b2.1 (bI_range T)
    rw [mk_bI] at hcv
    have B2 := Lib.hid (B1.out.trans (b2.2.mono B1.out.size))
    clear b2
    go_wp2_with fail
    go_ret2
    exact ⟨by rw [HT.out.1, HT.out.2] <;> rfl, B2.out⟩
set_option maxRecDepth 20000 in
theorem rWrite_any (w : World) (a : Option Addr) (n cap : Nat) (g : Nat → CR) (hs : SmK g n) (hv : CV w a n g) : Calls Tryd.prog 7 #[.slice a n cap] w fun e w' => e = .returned (.tuple #[.string (jwT g n), .int .i64 (jwE g n)]) ∧ Below w.heap.size w w' := by
  have HP := Lib.hid (rplain_any a n cap g w hv hs.sm)
  cases hp : plnB g n with
  | false =>
    have HT : Hid (jwT g n = ⟨#[]⟩ ∧ jwE g n = 8) := Lib.hid (by unfold jwT jwE; rw [hp]; exact ⟨rfl, rfl⟩)
    rw [hp] at HP
    go_enter Tryd.func7, Tryd.ntmps7
    go_wp2_with fail
    refine HP.out.mono ?_
    rintro e w1 ⟨rfl, b1⟩
    have B1 := Lib.hid b1
    clear b1
    go_wp2_with fail
    go_ret2
    exact ⟨by rw [HT.out.1, HT.out.2] <;> rfl, B1.out⟩
  | true =>
    obtain ⟨h1, h2, h3, h4⟩ := pln_parts hp
    have HT : Hid (jwT g n = jtx g n n 0 ∧ jwE g n = 0) := Lib.hid (by unfold jwT jwE; rw [hp]; exact ⟨rfl, rfl⟩)
    have HSJ := Lib.hid (SmJ.mk (g := g) (n := n) hs.nm hs.tx hs.nn h1)
    have HWR := Lib.hid (fun W (k : Below w.heap.size w W) => rtext_any a n cap g HSJ.out hs.sm h3 n 0 n W (Nat.sub_le _ _) h4 (hv.below k))
    rw [hp] at HP
    obtain ⟨T, hT⟩ : ∃ T, T = jtx g n n 0 := ⟨_, rfl⟩
    rw [← hT] at HT HWR
    clear hT hs hv h1 h2 h3 h4 HSJ
    go_enter Tryd.func7, Tryd.ntmps7
    go_wp2_with fail
    refine HP.out.mono ?_
    rintro e w1 ⟨rfl, b1⟩
    have B1 := Lib.hid b1
    clear b1
    go_wp2_with fail
    refine (HWR.out _ B1.out).mono ?_
    rintro e w2 ⟨rfl, b2⟩
    have B2 := Lib.hid (B1.out.trans (b2.mono B1.out.size))
    clear b2
    go_wp2_with fail
    go_ret2
    exact ⟨by rw [HT.out.1, HT.out.2] <;> rfl, B2.out⟩
set_option maxRecDepth 20000 in
set_option maxHeartbeats 1000000 in
theorem jwrites_walk (a : Option Addr) (n cap : Nat) (g : Nat → CR) (w : World) (t : Tabs w) (hg : gl (cut g 0 n) = g) (hv : CV w a n g) (hn : n ≤ maxLen) (ha : a = none → n = 0 ∧ cap = 0) (hk : ∀ i, i < n → (g i).k < 256 ∧ -9223372036854775808 ≤ (g i).m ∧ (g i).m ≤ 9223372036854775807) (hnn : ∀ i, i < n → i64ok (g i).n) : Calls Tryd.prog 3 #[.slice a n cap] w fun e w' => e = .returned (.bool true) ∧ Below w.heap.size w w' := by
  have HG := Lib.hid (great_any a n cap 200 200 rfl g w hv hn (by decide))
  cases hgr : grP g n 200 with
  | true =>
    rw [hgr] at HG
    go_enter Tryd.func3, Tryd.ntmps3
    go_wp2_with fail
    refine HG.out.mono ?_
    rintro e w1 ⟨rfl, hw1⟩
    obtain rfl := hw1.symm
    go_wp2_with fail
    go_ret
    exact ⟨rfl, Below.refl _ _⟩
  | false =>
    obtain ⟨h1, h2⟩ := gr_small hgr
    rw [hgr] at HG
    have hs : SmK g n := ⟨fun i hi => Nat.le_trans (h2 i hi).1 (by decide), fun i hi => (h2 i hi).2, hnn, ⟨fun i hi => ⟨(hk i hi).1, Nat.le_trans (h2 i hi).1 (by decide), Nat.le_trans (h2 i hi).2 (by decide), (hk i hi).2⟩, fun i hi => Nat.le_trans (h2 i hi).1 (by decide), hn⟩⟩
    have HTW := Lib.hid (rtwin_any a n cap g w hv (by omega) ha)
    have HJ := Lib.hid (fun W ad cp (k : Below w.heap.size w W) (c : CV W ad n g) => jWrite_any W (t.later k) ad n cp g hs c)
    have HR := Lib.hid (fun W (k : Below w.heap.size w W) => rWrite_any W a n cap g hs (hv.below k))
    have HS := Lib.hid (fun W ad cp (k : Below w.heap.size w W) (c : CV W ad n g) => rsame_any ad a n n cp cap g g W c (hv.below k) hn)
    rw [sm_yes (fun _ _ => rfl)] at HS
    have HGG := Lib.hid hg
    have HLEN : Hid ((cut g 0 n).length = n) := Lib.hid (by rw [cut_len]; omega)
    obtain ⟨T, hT⟩ : ∃ T, T = jwT g n := ⟨_, rfl⟩
    obtain ⟨E, hE⟩ : ∃ T, T = jwE g n := ⟨_, rfl⟩
    rw [← hT, ← hE] at HJ HR
    clear hT hE hs h1 h2 hgr hv hn ha hk hnn t hg
    go_enter Tryd.func3, Tryd.ntmps3
    go_wp2_with fail
    refine HG.out.mono ?_
    rintro e w1 ⟨rfl, hw1⟩
    obtain rfl := hw1.symm
    go_wp2_with fail
    refine HTW.out.mono ?_
    rintro e w2 ⟨v2, rfl, o2, b2⟩
    obtain ⟨ad, cp, rfl, c2, _, _⟩ := own_cv HLEN.out o2
    rw [HGG.out] at c2
    have B2 := Lib.hid b2
    have C2 := Lib.hid c2
    clear o2 b2 c2
    go_wp2_with fail
    refine (HJ.out _ ad cp B2.out C2.out).mono ?_
    rintro e w3 ⟨rfl, b3⟩
    have B3 := Lib.hid (B2.out.trans (b3.mono B2.out.size))
    have C3 := Lib.hid (C2.out.below b3)
    clear b3
    go_wp2_with fail
    refine (HR.out _ B3.out).mono ?_
    rintro e w4 ⟨rfl, b4⟩
    have B4 := Lib.hid (B3.out.trans (b4.mono B3.out.size))
    have C4 := Lib.hid (C3.out.below b4)
    clear b4
    go_wp2_with fail
    refine (HS.out _ ad cp B4.out C4.out).mono ?_
    rintro e w5 ⟨rfl, b5⟩
    have B5 := Lib.hid (B4.out.trans (b5.mono B4.out.size))
    clear b5
    go_wp2_with fail
    go_ret
    exact ⟨by simp, B5.out⟩
end Go.Proofs.YtpbbmnefcfllmaaDoor
/- Layer 4, JsonWrites: what comes in; what the listed tables give the walk. -/
namespace Go.Proofs.YtpbbmnefcfllmaaDoor
open Go.ChangeShapes Go.WideShapes Go.ChangeAt Go.RowKit
theorem own : ownKnob Tryd.prog.godebug = none := by kernel_rfl
theorem laidOut : laidOutB Tryd.prog = true := by kernel_rfl
def vCell : Vw := vCons (vInt .u8) (vCons zStr (vCons zStr (vCons (vInt .i64) (vCons (vInt .i64) vNil))))
theorem oStr : OpensZ Tryd.prog zStr 9 := zopens_str Tryd.underlying9 (by kernel_rfl)
set_option maxRecDepth 100000 in
theorem oCell : OpensZ Tryd.prog vCell 33 := zopens_struct Tryd.underlying33 (by kernel_rfl) (zfopens_cons rfl (opens_int Tryd.underlying5 (by kernel_rfl)).z (zfopens_cons rfl oStr (zfopens_cons rfl oStr (zfopens_cons rfl (opens_int Tryd.underlying2 (by kernel_rfl)).z (zfopens_cons rfl (opens_int Tryd.underlying3 (by kernel_rfl)).z (zfopens_nil _ _))))))
theorem oCells : OpensZ Tryd.prog (zSlice vCell (Tryd.prog.bytesOf 33)) 22 := zopens_slice Tryd.underlying22 (by kernel_rfl) oCell (by decide)
abbrev CD := Int × ByteArray × ByteArray × Int × Int × Unit
def toCR (d : CD) : CR := ⟨d.1.toNat, d.2.1, d.2.2.1, d.2.2.2.1, d.2.2.2.2.1⟩
theorem cell_es {w : World} {d : CD} {es : List Value} (h : vCell.rd w d es) : es = [.int .u8 (toCR d).k, .string (toCR d).nm, .string (toCR d).tx, .int .i64 (toCR d).n, .int .i64 (toCR d).m] ∧ i64ok (toCR d).n ∧ (toCR d).k < 256 ∧ i64ok (toCR d).m := by
  obtain ⟨k, nm, tx, n, m, u⟩ := d
  obtain ⟨e1, r1, q1, _, _, ⟨h1, w1⟩, k1⟩ := h
  obtain ⟨e2, r2, q2, _, _, ⟨h2, _⟩, k2⟩ := k1
  obtain ⟨e3, r3, q3, _, _, ⟨h3, _⟩, k3⟩ := k2
  obtain ⟨e4, r4, q4, _, _, ⟨h4, w4⟩, k4⟩ := k3
  obtain ⟨e5, r5, q5, _, _, ⟨h5, w5⟩, k5⟩ := k4
  have k5' : r5 = [] := k5
  have b1 := bounds_u8 w1
  have b4 := bounds_i64 w4
  have b5 := bounds_i64 w5
  dsimp only at h1 h2 h3 h4 h5 b1 b4 b5
  refine ⟨?_, b4, ?_, b5⟩
  · rw [q1, q2, q3, q4, q5, k5', h1, h2, h3, h4, h5]
    show ([.int .u8 k, .string nm, .string tx, .int .i64 n, .int .i64 m] : List Value) = [.int .u8 ((k.toNat : Nat) : Int), .string nm, .string tx, .int .i64 n, .int .i64 m]
    rw [Int.toNat_of_nonneg b1.1]
  · show k.toNat < 256
    have := b1.1
    have := b1.2
    omega
theorem open_cells {H : Type} {enc : TypeId × Value → H} {W : World} {base : Nat} {sp : Nat → Bool} {held : Bool} {a : Option Addr} {n cap : Nat} {d : DataW H} {ps : List MemPlace} (h : DataW.Trod enc Tryd.prog W base sp held 22 (.slice a n cap) d ps) (hw : Lt Tryd.prog 22 d) : ∃ L : List CR, L.length = n ∧ CV W a n (gl L) ∧ (n ≤ cap ∧ cap ≤ maxLen ∧ (a = none → n = 0 ∧ cap = 0)) ∧ ∀ i, i < n → i64ok (gl L i).n ∧ (gl L i).k < 256 ∧ i64ok (gl L i).m := by
  obtain ⟨fuel, hf⟩ := h
  obtain ⟨ds0, hds⟩ := oCells.2 hf hw
  obtain ⟨ds, e0⟩ : ∃ ds : List CD, ds = ds0 := ⟨ds0, rfl⟩
  subst e0
  obtain ⟨a', c, he, h1, h2, h3, _, h5⟩ := hds
  simp only [Value.cells, List.cons.injEq, Value.slice.injEq, and_true] at he
  obtain ⟨rfl, rfl, rfl⟩ := he
  have hgl : ∀ i (hi : i < ds.length), gl (ds.map toCR) i = toCR (ds[i]'hi) := fun i hi => by
    unfold gl
    rw [List.getD_eq_getElem?_getD, List.getElem?_map, List.getElem?_eq_getElem hi]
    rfl
  refine ⟨ds.map toCR, List.length_map _, fun i hi => ?_, ⟨h1, h2, h3⟩, fun i hi => ?_⟩
  · obtain ⟨b, off, e, hb, es, _, hc, hr⟩ := h5 i hi
    obtain ⟨he, _⟩ := cell_es hr
    rw [hgl i hi]
    rw [he] at hc
    exact ⟨b, off, e, hb, hc 0 (by decide), hc 1 (by decide), hc 2 (by decide), hc 3 (by decide), hc 4 (by decide)⟩
  · obtain ⟨b, off, e, hb, es, _, hc, hr⟩ := h5 i hi
    rw [hgl i hi]
    exact (cell_es hr).2
theorem cut_self (L : List CR) (n : Nat) (h : L.length = n) : gl (cut (gl L) 0 n) = gl L := by
  have e : cut (gl L) 0 n = L := gl_ext (by rw [cut_len, h]; omega) (fun i hi => by
    rw [cut_len] at hi
    rw [cut_at _ _ _ _ hi, Nat.zero_add])
  rw [e]
/-! ### The listed tables -/
def laid3 : List (String × DataW Unit) := [("math/bits.deBruijn32tab", Rows.laid_math_bits_deBruijn32tab), ("math/bits.deBruijn64tab", Rows.laid_math_bits_deBruijn64tab), ("internal/strconv.uint64pow10", Rows.laid_internal_strconv_uint64pow10)]
theorem door_met3 (os : Os) (args : Array Value) : laidMetH Tryd.prog laid3 ((World.doorLaid Tryd.prog 400 os).forCall (fun _ _ => 0) ⟨#[], args, []⟩).memory :=
  laidMetH_of_parts3 (fuel := 8) (laidMet_of_run' 8 (by kernel_rfl) (by kernel_rfl)) (by kernel_rfl) (by kernel_rfl)
theorem facts3 {W : World} (h : laidMetH Tryd.prog laid3 W) : Tabs W := by
  rw [MakeChecks.laidMetH_plain _ _ _ (by kernel_rfl)] at h
  have h2 := laidMet.tail (laidMet.tail h)
  exact Lib.tabIs_of_head (k := .u64) (zs := Lib.pow10Tab) gPow (by kernel_rfl : (Tryd.prog.globals[0]?).map (·.type) = some 80) (by kernel_rfl : Tryd.prog.underlying 80 = some (.array 20 67)) Tryd.underlying67 (by kernel_rfl) (by kernel_rfl) h2
theorem jwrites_in (a : Option Addr) (n cap : Nat) (L : List CR) (W : World) (t : Tabs W) (hl : L.length = n) (hv : CV W a n (gl L)) (hc : n ≤ cap ∧ cap ≤ maxLen ∧ (a = none → n = 0 ∧ cap = 0)) (hk : ∀ i, i < n → i64ok (gl L i).n ∧ (gl L i).k < 256 ∧ i64ok (gl L i).m) : Calls Tryd.prog 3 #[.slice a n cap] W fun e w' => e = .returned (.bool true) ∧ Below W.heap.size W w' :=
  jwrites_walk a n cap (gl L) W t (cut_self L n hl) hv (Nat.le_trans hc.1 hc.2.1) hc.2.2 (fun i hi => (hk i hi).2) (fun i hi => (hk i hi).1)
end Go.Proofs.YtpbbmnefcfllmaaDoor
