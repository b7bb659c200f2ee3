import Derived.Test.YtmkkckhfdafjnaaGreatDoorK15
import Derived.Test.YtmkkckhfdafjnaaGreatDoorRows
import Derived.Test.YtmkkckhfdafjnaaGreatDoorTie
import Derived.Test.YtmkkckhfdafjnaaGreatDoorCards
import Derived.Test.YtmkkckhfdafjnaaGreatDoorK1
import Derived.HandedShaped
import Derived.Lay
import Derived.Shelf.Vars
import Derived.WalkKit
import Derived.ProofKit
import Derived.OpenShut
import Derived.LaidMore
import Derived.Stop.Joined
import Derived.SevenTiedAt
import Derived.Lib.LaidTab
import Derived.Stop.LaidErr
import Derived.ShutString
import Derived.ChangeOld
import Derived.Carry
/- Layer 18: LitFixed's walk. -/
namespace Go.Proofs.YtmkkckhfdafjnaaGreatDoor.Li
open Go.RowKit Go.Maps
set_option maxRecDepth 20000 in
set_option maxHeartbeats 4000000 in
theorem litfixed_walk (s : ByteArray) (b : Int) (w : World) (h0 : -9223372036854775808 ≤ b) (h9 : b ≤ 9223372036854775807) (hl : LimP w.heap.size w) (hT : Tabs w) (hc : LxC w) : Calls Tryz.prog 5 #[.string s, .int .i64 b] w fun e w' => e = .returned (.bool true) ∧ Below w.heap.size w w' := by
  have HL0 := Lib.hid hl
  have HC0 := Lib.hid hc
  have HT0 := Lib.hid hT
  have HAL := Lib.hid (alive18_any w hc hl)
  clear hl hc hT
  go_enter Tryz.func5, Tryz.ntmps5
  go_wp2_with fail
  refine HAL.out.mono ?_
  rintro e w0 ⟨rfl, b0⟩
  have B0 := Lib.hid b0
  have HL := Lib.hid (HL0.out.up b0)
  have HC := Lib.hid (HC0.out.up b0)
  have HTB := Lib.hid (HT0.out.later b0)
  clear b0 HL0 HC0 HT0 HAL
  by_cases hs : s.size ≤ 1000
  case neg =>
    have hs1 : (1000 : Int) < s.size := by omega
    go_wp2_with fail
    go_ret
    exact ⟨rfl, B0.out⟩
  have hsi : ¬ (1000 : Int) < s.size := by omega
  have HX := Lib.hid (lex_any s w0 HC.out (by omega))
  cases hl : lexM s with
  | bad p m =>
    rw [hl] at HX
    have HX1 : Hid (Calls Tryz.prog 6 #[.string s] w0 fun e w' => Below w0.heap.size w0 w' ∧ e = .returned (.tuple #[.slice none 0 0, .int .i64 p, .int .i64 m])) := HX
    have hm := lexM_bad hl
    have hm1 : (m != 0) = true := by simpa using hm
    clear HX hl
    go_wp2_with fail
    refine HX1.out.mono ?_
    rintro e w1 ⟨b1, rfl⟩
    have B1 := Lib.hid (B0.out.trans (b1.mono B0.out.size))
    clear b1
    go_wp2_with fail
    go_ret
    exact ⟨rfl, B1.out⟩
  | ok R =>
    rw [hl] at HX
    have HX1 : Hid (Calls Tryz.prog 6 #[.string s] w0 fun e w' => Below w0.heap.size w0 w' ∧ ∃ v, e = .returned (.tuple #[v, .int .i64 0, .int .i64 0]) ∧ OwT w0.heap.size w' v R) := HX
    obtain ⟨hck, M, rfl, hT, hM⟩ := lexM_shape hl
    clear HX hl
    go_wp2_with fail
    refine HX1.out.mono ?_
    rintro e w1 ⟨b1, v1, rfl, o1⟩
    have B1 := Lib.hid (B0.out.trans (b1.mono B0.out.size))
    obtain ⟨a1, c1, rfl, t1⟩ := own_tk o1
    have hcap := (own_cap o1).1
    have hlen : (M ++ [(⟨0, ⟨#[]⟩, s.size⟩ : TkR)]).length = M.length + 1 := by rw [List.length_append, List.length_singleton]
    have HK := Lib.hid (fun fx => tko_lex hs hT (a := a1) (c := c1) (fx := fx))
    rw [hlen] at t1 hcap ⊢
    obtain ⟨n, hn⟩ : ∃ n, n = M.length + 1 := ⟨_, rfl⟩
    obtain ⟨g, hg⟩ : ∃ g, g = gt (M ++ [(⟨0, ⟨#[]⟩, s.size⟩ : TkR)]) := ⟨_, rfl⟩
    rw [← hn, ← hg] at t1 HK
    rw [← hn] at hcap ⊢
    have hn2 : n ≤ 1025 := by omega
    have hni : (n : Int) ≤ 1025 := by omega
    have T1 := Lib.hid t1
    have HCP := Lib.hid hcap
    have HL1 := Lib.hid (HL.out.up b1)
    have HTB1 := Lib.hid (HTB.out.later b1)
    have hsz : ∀ i, i < n → (g i).s.size ≤ 1000000 := fun i hi => by have := (HK.out true).sm i hi; dsimp only at this; omega
    have HVA := Lib.hid (fun fx W (k : Below w1.heap.size w1 W) => valc_any ⟨a1, n, c1, g, fx⟩ b W (HL1.out.up k) (tkp_of (t1.below k) (by omega) hsz))
    clear b1 o1 t1 hlen hn hg hT hM hck hsz HC HL HX1 HTB hcap
    obtain ⟨X, hX⟩ : ∃ X, X = vaR ⟨a1, n, c1, g, true⟩ b := ⟨_, rfl⟩
    obtain ⟨Y, hY⟩ : ∃ Y, Y = vaR ⟨a1, n, c1, g, false⟩ b := ⟨_, rfl⟩
    have HV1 := Lib.hid (HVA.out true)
    have HV0 := Lib.hid (HVA.out false)
    rw [← hX] at HV1
    rw [← hY] at HV0
    have zX := vaR_nz ⟨a1, n, c1, g, true⟩ b
    have zY := vaR_nz ⟨a1, n, c1, g, false⟩ b
    rw [← hX] at zX
    rw [← hY] at zY
    have fXY : ∀ j N, X = .ok (j, N) → Y = .ok (j, N) ∧ NoV N := fun j N e => by
      have := lf_fix (hX.symm.trans e)
      rw [← hY] at this
      exact this
    have fY : ∀ j N, Y = .ok (j, N) → LfF ⟨a1, n, c1, g, false⟩ b j N := fun j N e => lf_facts (HK.out false) (hY.symm.trans e)
    clear hX hY HVA HK
    cases Y with
    | bad q m =>
      have hm : (m != 0) = true := by have := zY q m rfl; simpa using this
      have hme : (m == 0) = false := by have := zY q m rfl; simpa using this
      cases X with
      | ok x => exact absurd (fXY x.1 x.2 rfl).1 (by intro e; cases e)
      | bad q2 m2 =>
      have hm2 : (m2 != 0) = true := by have := zX q2 m2 rfl; simpa using this
      have hme2 : (m2 == 0) = false := by have := zX q2 m2 rfl; simpa using this
      clear zX zY fXY fY
      go_wp2_with fail
      refine (HV1.out w1 (Below.refl _ _)).mono ?_
      rintro e w2 ⟨rfl, b2⟩
      have B2 := Lib.hid b2
      clear b2
      go_wp2_with fail
      refine (HV0.out w2 B2.out).mono ?_
      rintro e w3 ⟨rfl, b3⟩
      have B13 := Lib.hid (B1.out.trans ((B2.out.trans (b3.mono B2.out.size)).mono B1.out.size))
      clear b3
      go_wp2_with fail
      go_ret
      exact ⟨rfl, B13.out⟩
    | ok y =>
      obtain ⟨j, N⟩ := y
      have F := Lib.hid (fY j N rfl)
      clear fY zY
      obtain ⟨p, rfl⟩ := Int.eq_ofNat_of_zero_le F.out.a0
      obtain ⟨k, hk⟩ : ∃ k, k = j - p := ⟨_, rfl⟩
      have hpj : p < j := by have := F.out.lt; simpa using this
      have hjn : j ≤ n := F.out.le
      have hkj : (j : Int) - p = k := by omega
      have hpji : (p : Int) ≤ j := by omega
      have hjni : (j : Int) ≤ n := by omega
      have hp0 : ¬ (p : Int) < 0 := by omega
      have hp00 : (0 : Int) ≤ p := by omega
      have hpj2 : ¬ (j : Int) < p := by omega
      have hjn2 : ¬ (n : Int) < j := by omega
      have hNi : (N.length : Int) ≤ 2048 := by have := F.out.top; omega
      have hjj : ((j : Int) != j) = false := by simp
      cases X with
      | bad q2 m2 =>
      have hm2 : (m2 != 0) = true := by have := zX q2 m2 rfl; simpa using this
      have hme2 : (m2 == 0) = false := by have := zX q2 m2 rfl; simpa using this
      clear zX fXY
      go_wp2_with fail
      refine (HV1.out w1 (Below.refl _ _)).mono ?_
      rintro e w2 ⟨rfl, b2⟩
      have B2 := Lib.hid b2
      clear b2
      go_wp2_with fail
      refine (HV0.out w2 B2.out).mono ?_
      rintro e w3 ⟨v3, rfl, o3, b3⟩
      obtain ⟨ae, cq, rfl, t3, _⟩ := own_cv rfl o3
      have B3 := Lib.hid b3
      have B13 := Lib.hid (B2.out.trans (b3.mono B2.out.size))
      have T3 := Lib.hid t3
      clear o3 b3 t3
      have hTK := tokens_any ae N.length cq (gl N) w3 (HTB1.out.later B13.out) T3.out F.out.cw F.out.pc F.out.nm (by rw [F.out.tl]; have h1 := F.out.le; dsimp only at h1; omega)
      rw [F.out.mb] at hTK
      have HTK : Hid (Calls Tryz.prog 19 #[.slice ae N.length cq] w3 fun e w' => ∃ v', e = .returned (.tuple #[v', .int .i64 0]) ∧ Below w3.heap.size w3 w' ∧ OwT w3.heap.size w' v' (tkW (gl N) 16 0).1) := Lib.hid hTK
      clear hTK
      go_wp2_with fail
      refine HTK.out.mono ?_
      rintro e w4 ⟨v4, rfl, b4, o4⟩
      obtain ⟨a4, c4, rfl, t4⟩ := own_tk o4
      have htl : (tkW (gl N) 16 0).1.length = k := by rw [F.out.tl, hk]; simp
      rw [htl] at t4 ⊢
      have HAL : Hid (∀ i, i < k → alT (gt (tkW (gl N) 16 0).1 i) (g (p + i))) := Lib.hid (fun i hi => by
        have h1 := F.out.al i (by simpa [hk] using hi)
        rw [tkA_in (by dsimp only; simp; omega)] at h1
        simpa using h1)
      obtain ⟨TT, hTT⟩ : ∃ TT, TT = gt (tkW (gl N) 16 0).1 := ⟨_, rfl⟩
      rw [← hTT] at t4 HAL
      have B14 := Lib.hid (B13.out.trans (b4.mono B13.out.size))
      have T4 := Lib.hid t4
      obtain ⟨bq, off, rfl⟩ := T1.out.addr (by omega)
      have T5 : Hid (TkV w4 (some ⟨bq, off + p * 3, none⟩) k (fun i => g (p + i))) := Lib.hid (fun i hi => by
        obtain ⟨h1, h2, h3, h4⟩ := (T1.out.below B14.out).at_ (i := p + i) (by omega)
        exact ⟨bq, off + p * 3, rfl, h1, by rw [show off + p * 3 + i * 3 = off + (p + i) * 3 by omega]; exact h2, by rw [show off + p * 3 + i * 3 = off + (p + i) * 3 by omega]; exact h3, by rw [show off + p * 3 + i * 3 = off + (p + i) * 3 by omega]; exact h4⟩)
      have hci : (n : Int) ≤ c1 := by have := HCP.out; omega
      have hjc : (j : Int) ≤ c1 := by omega
      have hki : (0 : Int) ≤ k := by omega
      have hkk : ((k : Int) == k) = true := by simp
      clear b4 o4 t4 htl hTT HTK F T1 HCP
      go_wp2_with fail
      subst hk
      refine (same18_any a4 (some ⟨bq, off + p * 3, none⟩) (j - p) c4 (c1 - p) TT (fun i => g (p + i)) w4 (by omega) HAL.out T4.out T5.out).mono ?_
      rintro e w5 ⟨rfl, b5⟩
      have B5 := Lib.hid (B1.out.trans ((B14.out.trans (b5.mono B14.out.size)).mono B1.out.size))
      clear b5
      go_wp2_with fail
      go_ret
      exact ⟨rfl, B5.out⟩
      | ok x =>
      obtain ⟨j2, N2⟩ := x
      obtain ⟨e, hnv⟩ := fXY j2 N2 rfl
      cases e
      have HNV : Hid (∀ i, i < N.length → ¬ ((gl N i).k : Int) = 5) := Lib.hid (fun i hi => by
        have := hnv _ (gl_mem2 hi)
        omega)
      clear zX fXY hnv
      go_wp2_with fail
      refine (HV1.out w1 (Below.refl _ _)).mono ?_
      rintro e w2 ⟨v2, rfl, o2, b2⟩
      obtain ⟨ad, cp, rfl, t2, _⟩ := own_cv rfl o2
      have B2 := Lib.hid b2
      have T2 := Lib.hid t2
      clear o2 b2 t2
      go_wp2_with fail
      refine (HV0.out w2 B2.out).mono ?_
      rintro e w3 ⟨v3, rfl, o3, b3⟩
      obtain ⟨ae, cq, rfl, t3, _⟩ := own_cv rfl o3
      have B3 := Lib.hid b3
      have B13 := Lib.hid (B2.out.trans (b3.mono B2.out.size))
      have T3 := Lib.hid t3
      clear o3 b3 t3
      have hNN : (N.length : Int) ≤ 9223372036854775807 := by omega
      have HSM := Lib.hid (fun W (k3 : Below w3.heap.size w3 W) => rsame_any ad ae N.length N.length cp cq (gl N) (gl N) W ((T2.out.below (B3.out)).below k3) (T3.out.below k3) (by have := F.out.top; unfold maxLen; omega))
      have hsm : smB (gl N) N.length (gl N) N.length = true := sm_lists rfl
      rw [hsm] at HSM
      clear hsm
      have HT23 := Lib.hid (T2.out.below B3.out)
      go_wp2_with fail
      go_loop [15] (fun v15 => ∃ i : Nat, i ≤ N.length ∧ v15 = .int .i64 i) (fun v15 => N.length - (intOf v15).toNat)
      case atStart => exact ⟨0, Nat.zero_le _, rfl⟩
      case round =>
        obtain ⟨i, hi, rfl⟩ := hrel
        by_cases h1 : i < N.length
        · have hg1 : (i : Int) < N.length := by omega
          have hg0 : (0 : Int) ≤ i := by omega
          obtain ⟨bb, oo, rfl⟩ := HT23.out.addr (by omega)
          obtain ⟨_, d0, _⟩ := HT23.out.at_ h1
          have hk5 := HNV.out i h1
          obtain ⟨kk, hkk5⟩ : ∃ kk, kk = (gl N i).k := ⟨_, rfl⟩
          rw [← hkk5] at d0 hk5
          clear hkk5
          go_wp2_with fail
          go_round
          case rel => exact ⟨i + 1, by omega, by go_num⟩
          case measure => simp [intOf]; omega
        · have e1 : i = N.length := by omega
          have hg1 : ¬ (i : Int) < N.length := by omega
          go_wp2_with fail
          refine (HSM.out w3 (Below.refl _ _)).mono ?_
          rintro e w3b ⟨rfl, bs⟩
          have B13b := Lib.hid (B13.out.trans (bs.mono B13.out.size))
          have T3b := Lib.hid (T3.out.below bs)
          clear bs hg1 hi h1
          have hTK := tokens_any ae N.length cq (gl N) w3b (HTB1.out.later B13b.out) T3b.out F.out.cw F.out.pc F.out.nm (by rw [F.out.tl]; have h1 := F.out.le; dsimp only at h1; omega)
          rw [F.out.mb] at hTK
          have HTK : Hid (Calls Tryz.prog 19 #[.slice ae N.length cq] w3b fun e w' => ∃ v', e = .returned (.tuple #[v', .int .i64 0]) ∧ Below w3b.heap.size w3b w' ∧ OwT w3b.heap.size w' v' (tkW (gl N) 16 0).1) := Lib.hid hTK
          clear hTK
          go_wp2_with fail
          refine HTK.out.mono ?_
          rintro e w4 ⟨v4, rfl, b4, o4⟩
          obtain ⟨a4, c4, rfl, t4⟩ := own_tk o4
          have htl : (tkW (gl N) 16 0).1.length = k := by rw [F.out.tl, hk]; simp
          rw [htl] at t4 ⊢
          have HAL : Hid (∀ i, i < k → alT (gt (tkW (gl N) 16 0).1 i) (g (p + i))) := Lib.hid (fun i hi => by
            have h1 := F.out.al i (by simpa [hk] using hi)
            rw [tkA_in (by dsimp only; simp; omega)] at h1
            simpa using h1)
          obtain ⟨TT, hTT⟩ : ∃ TT, TT = gt (tkW (gl N) 16 0).1 := ⟨_, rfl⟩
          rw [← hTT] at t4 HAL
          have B14 := Lib.hid (B13b.out.trans (b4.mono B13b.out.size))
          have T4 := Lib.hid t4
          obtain ⟨bq, off, rfl⟩ := T1.out.addr (by omega)
          have T5 : Hid (TkV w4 (some ⟨bq, off + p * 3, none⟩) k (fun i => g (p + i))) := Lib.hid (fun i hi => by
            obtain ⟨h1, h2, h3, h4⟩ := (T1.out.below B14.out).at_ (i := p + i) (by omega)
            exact ⟨bq, off + p * 3, rfl, h1, by rw [show off + p * 3 + i * 3 = off + (p + i) * 3 by omega]; exact h2, by rw [show off + p * 3 + i * 3 = off + (p + i) * 3 by omega]; exact h3, by rw [show off + p * 3 + i * 3 = off + (p + i) * 3 by omega]; exact h4⟩)
          have hci : (n : Int) ≤ c1 := by have := HCP.out; omega
          have hjc : (j : Int) ≤ c1 := by omega
          have hki : (0 : Int) ≤ k := by omega
          have hkk : ((k : Int) == k) = true := by simp
          clear b4 o4 t4 htl hTT HTK F T1 HCP
          go_wp2_with fail
          subst hk
          refine (same18_any a4 (some ⟨bq, off + p * 3, none⟩) (j - p) c4 (c1 - p) TT (fun i => g (p + i)) w4 (by omega) HAL.out T4.out T5.out).mono ?_
          rintro e w5 ⟨rfl, b5⟩
          have B5 := Lib.hid (B1.out.trans ((B14.out.trans (b5.mono B14.out.size)).mono B1.out.size))
          clear b5
          go_wp2_with fail
          go_ret
          exact ⟨rfl, B5.out⟩
end Go.Proofs.YtmkkckhfdafjnaaGreatDoor.Li
/- Layer 18: the frame of LitFixed. -/
namespace Go.Proofs.YtmkkckhfdafjnaaGreatDoor
open Go.ChangeShapes Go.WideShapes Go.ChangeAt Go.RowKit
theorem own : ownKnob Tryz.prog.godebug = none := by kernel_rfl
theorem laidOut : laidOutB Tryz.prog = true := by kernel_rfl
/-! ### The listed table -/
theorem gLimits : Tryz.prog.globalNamed "provost/whole.limits" = some 1 := by kernel_rfl
theorem limP_of18 {W : World} (h : Nm.Lim W) : LimP W.heap.size W := ⟨World.block_lt_of_cell? _ _ h.1, h⟩
def Li.JF18 (W : World) : Prop := LimP W.heap.size W ∧ Tabs W
def laid4 : List (String × DataW Unit) := [("math/bits.deBruijn32tab", Rows.laid_math_bits_deBruijn32tab), ("math/bits.deBruijn64tab", Rows.laid_math_bits_deBruijn64tab), ("internal/strconv.uint64pow10", Rows.laid_internal_strconv_uint64pow10), ("provost/whole.limits", Rows.laid_provost_whole_limits)]
theorem door_met4 (os : Os) (args : Array Value) : laidMetH Tryz.prog laid4 ((World.doorLaid Tryz.prog 400 os).forCall (fun _ _ => 0) ⟨#[], args, []⟩).memory :=
  laidMetH_of_parts3 (fuel := 8) (laidMet_of_run' 8 (by kernel_rfl) (by kernel_rfl)) (by kernel_rfl) (by kernel_rfl)
theorem facts4 {W : World} (h : laidMetH Tryz.prog laid4 W) : Li.JF18 W := by
  rw [MakeChecks.laidMetH_plain _ _ _ (by kernel_rfl)] at h
  have h2 := laidMet.tail (laidMet.tail h)
  have hT := Lib.tabIs_of_head (k := .u64) (zs := [9223372036854775808, 9223372036854775807]) gLimits (by kernel_rfl : (Tryz.prog.globals[(1 : Nat)]?).map (·.type) = some 174) (by kernel_rfl : Tryz.prog.underlying 174 = some (.array 2 156)) Tryz.underlying156 (by kernel_rfl) (by kernel_rfl) (laidMet.tail h2)
  exact ⟨limP_of18 ⟨hT.cell gLimits 0 (by decide), hT.cell gLimits 1 (by decide)⟩, Lib.tabIs_of_head (k := .u64) (zs := Lib.pow10Tab) gPow (by kernel_rfl : (Tryz.prog.globals[0]?).map (·.type) = some 169) (by kernel_rfl : Tryz.prog.underlying 169 = some (.array 20 156)) Tryz.underlying156 (by kernel_rfl) (by kernel_rfl) h2⟩
theorem limP_of17 {W : World} (h : Nm.Lim W) : LimP W.heap.size W := ⟨World.block_lt_of_cell? _ _ h.1, h⟩
theorem maxLen_of {W : World} (h : W.ShapedOpen Tryz.prog) : ∃ m, W.cell? ⟨4, 0, none⟩ = some (.int .i64 m) :=
  cell_of_shapedOpen_int h (of_decide_eq_true (by kernel_rfl)) (t := 3) (zero := #[.int .i64 0]) (by kernel_rfl) rfl (by kernel_rfl) (by kernel_rfl) Tryz.underlying3
theorem lxc_of {W : World} (l : Nm.Lim W) (hs : W.ShapedOpen Tryz.prog) : LxC W :=
  ⟨fun V b x hx => lint_any x V (lim_up l b) (by unfold maxLen; omega), fun V b x _ hx => Read_any x V (limP_of17 (lim_up l b)) (by unfold maxLen; omega), fun V b x hx => by
    obtain ⟨m, hm⟩ := maxLen_of hs
    have hcb : Lib.countB x ⟨#[9]⟩ ≤ x.size + 1 := Nat.le_succ_of_le (Lib.countB_le ⟨#[9]⟩ (by decide) x.size x (Nat.le_refl _))
    refine (Tryz.strings_ReplaceAll x ⟨#[9]⟩ ⟨#[92, 116]⟩ m V (by omega) ((b.cell (World.block_lt_of_cell? _ _ hm)).trans hm) (by decide) (by
      have : (⟨#[92, 116]⟩ : ByteArray).size = 2 := rfl
      rw [this]
      omega)).mono ?_
    rintro e w' ⟨rfl, bb⟩
    exact ⟨by rw [← rep_tab x], bb⟩⟩
theorem returns_sized_shaped {H : Type} {enc : TypeId × Value → H} {a : Assume} {C : Checked} {os : Os} {f : FuncId} {fn : Func} {s : ChangeSpec} {conds : List PathCond} {apart fresh handsOn again : Bool} {X : World → Array Value → Prop}
    (hX : ∀ (w w' : World) (args : Array Value), w.heap = w'.heap → X w args → X w' args)
    (own : ownKnob C.prog.godebug = none) (started : os.Started) (noInit : C.prog.inits.idxOf? f = none) (hfn : C.prog.funcs[f]? = some fn)
    (witness : ∃ (w : World) (tape : Tape) (i : Input), w.os = os ∧ (w.forCall tape i).Shaped C.prog ∧ i.vars = [] ∧ Input.okWide C.prog (w.forCall tape i) .any w.heap.size f i ∧
      ((s.pre enc C.prog fn conds apart (w.forCall tape i).memory i.args ∧ X (w.forCall tape i).memory i.args) ∧ sizedMet enc C.prog fn (OpenSpec.ofChange s) apart (w.forCall tape i).memory i.args) ∧ a.holds C.prog (lone (Frame.enter C.prog f i.args .normal) [] (w.forCall tape i)))
    (contract : ∀ (W : World) (base : Nat) (args : Array Value) (ds gs : List (DataW H)) (before : List MemPlace),
      (∀ (j : Nat) t v, fn.params[j]? = some t → args[j]? = some v → Value.okWide C.prog W .any base t v) →
      DataW.Whole enc C.prog fn.params.toList s.vars apart W args.toList ds gs before →
      (DataW.weightsEach C.prog (fn.params.toList ++ s.plain.varTypes C.prog) (ds ++ gs)).all (· ≤ reachBytes) = true → X W args → W.ShapedOpen C.prog →
      Calls C.prog f args W fun e W' => ∃ v, e = .returned v ∧ s.post enc C.prog fn apart fresh handsOn again W args v W') :
    ReturnsInHanded a C os f .any (fun w args => (s.pre enc C.prog fn conds apart w args ∧ X w args) ∧ sizedMet enc C.prog fn (OpenSpec.ofChange s) apart w args) (s.post enc C.prog fn apart fresh handsOn again) := by
  refine returnsInHanded_of_calls own started noInit witness ?_
  intro w tape i _ hsh _ hok hpre hholds
  obtain ⟨_, _, _, fn', hfn', _, _, _, _, hval⟩ := hok
  have e : fn' = fn := Option.some.inj (hfn'.symm.trans hfn)
  subst e
  obtain ⟨⟨⟨ds, gs, before, hw, hc⟩, hx⟩, hz⟩ := hpre
  have hw' := DataW.Whole.of_heap (w' := w.forCall tape i) (by rfl) hw
  refine (contract (w.forCall tape i) w.heap.size i.args ds gs before hval hw' (hz.weights hw) (hX _ _ _ (by rfl) hx) hsh).mono fun e W' ⟨v, he, hp⟩ => ?_
  subst he
  exact ChangeSpec.post_blind hp
theorem fixed_in (s : ByteArray) (b : Int) (W : World) (l : Li.JF18 W ∧ W.ShapedOpen Tryz.prog) (h0 : -9223372036854775808 ≤ b) (h9 : b ≤ 9223372036854775807) : Calls Tryz.prog 5 #[.string s, .int .i64 b] W fun e w' => e = .returned (.bool true) ∧ Below W.heap.size W w' :=
  Li.litfixed_walk s b W h0 h9 l.1.1 l.1.2 (lxc_of l.1.1.2 l.2)
end Go.Proofs.YtmkkckhfdafjnaaGreatDoor
