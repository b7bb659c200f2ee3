/- Layer 4: JsonCuts, the walk. -/
import Derived.Test.YtoicmcjpaodgpaaDoorBK
import Derived.Test.YtoicmcjpaodgpaaDoorBH
namespace Go.Proofs.YtoicmcjpaodgpaaDoor
open Go.RowKit Go.Maps
set_option maxRecDepth 20000 in
set_option maxHeartbeats 4000000 in
theorem cuts_walk (a : Option Addr) (n cap : Nat) (g : Nat → CR) (nn : Int) (w : World) (hj : JF w) (hg : gl (cut g 0 n) = g) (hv : CV w a n g) (hn : n ≤ maxLen) (hk : ∀ i, i < n → (g i).k < 256 ∧ -9223372036854775808 ≤ (g i).m ∧ (g i).m ≤ 9223372036854775807) (hnn : ∀ i, i < n → i64ok (g i).n) : Calls Tryd.prog 7 #[.slice a n cap, .int .i64 nn] w fun e w' => e = .returned (.bool true) ∧ Below w.heap.size w w' := by
  have HA := Lib.hid (alive_any w hj)
  have HG := Lib.hid (fun W (b : Below w.heap.size w W) => great_any a n cap 200 200 rfl g W (hv.below b) hn (by decide))
  cases hgr : grP g n 200 with
  | true =>
    rw [hgr] at HG
    clear hgr hj hg hv hn hk hnn
    go_enter Tryd.func7, Tryd.ntmps7
    go_wp2_with fail
    refine HA.out.mono ?_
    rintro e w1 ⟨rfl, b1⟩
    have B1 := Lib.hid b1
    clear b1
    go_wp2_with fail
    refine (HG.out _ B1.out).mono ?_
    rintro e w2 ⟨rfl, hw2⟩
    obtain rfl := hw2.symm
    go_wp2_with fail
    go_ret
    exact ⟨rfl, B1.out⟩
  | false =>
    have hs := smk_of hn hgr hk hnn
    rw [hgr] at HG
    have HJ := Lib.hid (fun W (b : Below w.heap.size w W) => jWrite_any W (hj.up b).tab a n cap g hs (hv.below b))
    have HRD := Lib.hid (fun (s : ByteArray) (h : s.size ≤ maxLen) W (b : Below w.heap.size w W) => Read_any s W (hj.up b).lim h)
    have HCV := Lib.hid (fun W (b : Below w.heap.size w W) => hv.below b)
    have HOK := Lib.hid (fun (hp : plnB g n = true) (h2 : (g 0).k ≠ 2) (m : Nat) (hm : m < (jtx g n n 0).size) => rt_cuts ⟨(pln_parts hp).1, hnn⟩ (pln_parts hp).2.2.1 (pln_parts hp).2.2.2 (ckC_em hp) h2 hm)
    have HPOS := Lib.hid (fun (hp : plnB g n = true) => (pln_parts hp).2.1)
    clear hgr hj hg hv hn hk hnn hs
    cases hp : plnB g n with
    | false =>
      have hT : jwT g n = ⟨#[]⟩ := by unfold jwT; rw [hp]; rfl
      have hE : jwE g n = 8 := by unfold jwE; rw [hp]; rfl
      rw [hT, hE] at HJ
      clear hT hE hp HRD HOK HPOS
      go_enter Tryd.func7, Tryd.ntmps7
      go_wp2_with fail
      refine HA.out.mono ?_
      rintro e w1 ⟨rfl, b1⟩
      have B1 := Lib.hid b1
      clear b1
      go_wp2_with fail
      refine (HG.out _ B1.out).mono ?_
      rintro e w2 ⟨rfl, hw2⟩
      obtain rfl := hw2.symm
      go_wp2_with fail
      refine (HJ.out _ B1.out).mono ?_
      rintro e w3 ⟨rfl, b3⟩
      have B3 := Lib.hid (B1.out.trans (b3.mono B1.out.size))
      clear b3
      go_wp2_with fail
      go_ret
      exact ⟨rfl, B3.out⟩
    | true =>
      have hT : jwT g n = jtx g n n 0 := by unfold jwT; rw [hp]; rfl
      have hE : jwE g n = 0 := by unfold jwE; rw [hp]; rfl
      rw [hT, hE] at HJ
      have HOK2 := Lib.hid (HOK.out hp)
      have hpos := HPOS.out hp
      obtain ⟨T, hTT⟩ : ∃ T, T = jtx g n n 0 := ⟨_, rfl⟩
      rw [← hTT] at HJ HOK2
      clear hT hE hp HOK HPOS hTT
      by_cases c1 : nn < 0
      · clear HRD HOK2
        go_enter Tryd.func7, Tryd.ntmps7
        go_wp2_with fail
        refine HA.out.mono ?_
        rintro e w1 ⟨rfl, b1⟩
        have B1 := Lib.hid b1
        clear b1
        go_wp2_with fail
        refine (HG.out _ B1.out).mono ?_
        rintro e w2 ⟨rfl, hw2⟩
        obtain rfl := hw2.symm
        go_wp2_with fail
        refine (HJ.out _ B1.out).mono ?_
        rintro e w3 ⟨rfl, b3⟩
        have B3 := Lib.hid (B1.out.trans (b3.mono B1.out.size))
        clear b3
        go_wp2_with fail
        go_ret
        exact ⟨rfl, B3.out⟩
      by_cases c2 : (T.size : Int) ≤ nn
      · clear HRD HOK2
        go_enter Tryd.func7, Tryd.ntmps7
        go_wp2_with fail
        refine HA.out.mono ?_
        rintro e w1 ⟨rfl, b1⟩
        have B1 := Lib.hid b1
        clear b1
        go_wp2_with fail
        refine (HG.out _ B1.out).mono ?_
        rintro e w2 ⟨rfl, hw2⟩
        obtain rfl := hw2.symm
        go_wp2_with fail
        refine (HJ.out _ B1.out).mono ?_
        rintro e w3 ⟨rfl, b3⟩
        have B3 := Lib.hid (B1.out.trans (b3.mono B1.out.size))
        clear b3
        go_wp2_with fail
        go_ret
        exact ⟨rfl, B3.out⟩
      by_cases c3 : (16000 : Int) < T.size
      · clear HRD HOK2
        go_enter Tryd.func7, Tryd.ntmps7
        go_wp2_with fail
        refine HA.out.mono ?_
        rintro e w1 ⟨rfl, b1⟩
        have B1 := Lib.hid b1
        clear b1
        go_wp2_with fail
        refine (HG.out _ B1.out).mono ?_
        rintro e w2 ⟨rfl, hw2⟩
        obtain rfl := hw2.symm
        go_wp2_with fail
        refine (HJ.out _ B1.out).mono ?_
        rintro e w3 ⟨rfl, b3⟩
        have B3 := Lib.hid (B1.out.trans (b3.mono B1.out.size))
        clear b3
        go_wp2_with fail
        go_ret
        exact ⟨rfl, B3.out⟩
      obtain ⟨m, rfl⟩ := Int.eq_ofNat_of_zero_le (show 0 ≤ nn by omega)
      have hmT : m < T.size := by omega
      have hm2 : (m : Int) ≤ T.size := by omega
      have hm0 : (0 : Int) ≤ m := by omega
      have hsz : (T.extract 0 m).size ≤ maxLen := by rw [size_cut T m (by omega)]; unfold maxLen; omega
      have HR1 := Lib.hid (HRD.out (T.extract 0 m) hsz)
      have HBN := Lib.hid (fun e => bad_ne (s := T.extract 0 m) (m := e))
      have HOK3 := Lib.hid (fun h2 => HOK2.out h2 m hmT)
      obtain ⟨S, hS⟩ : ∃ S, S = T.extract 0 m := ⟨_, rfl⟩
      have HS := Lib.hid hS
      rw [← hS] at HR1 HBN HOK3
      obtain ⟨X, hX⟩ : ∃ X, X = readM S := ⟨_, rfl⟩
      rw [← hX] at HR1 HBN HOK3
      clear hS hX hsz HRD HOK2
      cases X with
      | bad e0 =>
        have HR2 : Hid (∀ W, Below w.heap.size w W → Calls Tryd.prog 10 #[.string S] W fun e w' => e = .returned (.tuple #[.slice none 0 0, .int .i64 e0]) ∧ Below W.heap.size W w') := Lib.hid HR1.out
        have hne : (e0 != 0) = true := by simp only [bne, beq_eq_false_iff_ne.2 (HBN.out e0 rfl)]; rfl
        clear HR1 HBN HOK3
        go_enter Tryd.func7, Tryd.ntmps7
        go_wp2_with fail
        refine HA.out.mono ?_
        rintro e w1 ⟨rfl, b1⟩
        have B1 := Lib.hid b1
        clear b1
        go_wp2_with fail
        refine (HG.out _ B1.out).mono ?_
        rintro e w2 ⟨rfl, hw2⟩
        obtain rfl := hw2.symm
        go_wp2_with fail
        refine (HJ.out _ B1.out).mono ?_
        rintro e w3 ⟨rfl, b3⟩
        have B3 := Lib.hid (B1.out.trans (b3.mono B1.out.size))
        clear b3
        go_wp2_with fail
        rw [← HS.out]
        refine (HR2.out _ B3.out).mono ?_
        rintro e w4 ⟨rfl, b4⟩
        have B4 := Lib.hid (B3.out.trans (b4.mono B3.out.size))
        clear b4
        go_wp2_with fail
        go_ret
        exact ⟨rfl, B4.out⟩
      | ok M =>
        have h2 : (g 0).k = 2 := by
          by_cases h : (g 0).k = 2
          · exact h
          · obtain ⟨e, he⟩ := HOK3.out h
            cases he
        have HR2 : Hid (∀ W, Below w.heap.size w W → Calls Tryd.prog 10 #[.string S] W fun e w' => ∃ v, e = .returned (.tuple #[v, .int .i64 0]) ∧ w'.ownsRow W.heap.size 42 5 v M.length (rw5 M) ∧ Below W.heap.size W w') := Lib.hid HR1.out
        have HK2 := Lib.hid h2
        clear HR1 HBN HOK3 h2
        go_enter Tryd.func7, Tryd.ntmps7
        go_wp2_with fail
        refine HA.out.mono ?_
        rintro e w1 ⟨rfl, b1⟩
        have B1 := Lib.hid b1
        clear b1
        go_wp2_with fail
        refine (HG.out _ B1.out).mono ?_
        rintro e w2 ⟨rfl, hw2⟩
        obtain rfl := hw2.symm
        go_wp2_with fail
        refine (HJ.out _ B1.out).mono ?_
        rintro e w3 ⟨rfl, b3⟩
        have B3 := Lib.hid (B1.out.trans (b3.mono B1.out.size))
        clear b3
        go_wp2_with fail
        rw [← HS.out]
        refine (HR2.out _ B3.out).mono ?_
        rintro e w4 ⟨v, rfl, o4, b4⟩
        obtain ⟨ad, cp, rfl, _, _, _⟩ := own_cv rfl o4
        have B4 := Lib.hid (B3.out.trans (b4.mono B3.out.size))
        have hcv := HCV.out w4 B4.out
        obtain ⟨bk, off, rfl⟩ := hcv.addr hpos
        have d0 := (hcv.at_ hpos).2.1
        rw [HK2.out, Nat.zero_mul, Nat.add_zero] at d0
        have d0 : w4.cell? ⟨bk, off, none⟩ = some (.int .u8 2) := d0
        have hp2 : (0 : Int) < n := by omega
        clear b4 o4 hcv
        go_wp2_with fail
        go_ret
        exact ⟨rfl, B4.out⟩
end Go.Proofs.YtoicmcjpaodgpaaDoor
