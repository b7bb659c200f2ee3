/- Layer 4: JsonOne, the walk. -/
import Derived.Test.YtoicmcjpaodgpaaDoorBQ
import Derived.Test.YtoicmcjpaodgpaaDoorAY
import Derived.Test.YtoicmcjpaodgpaaDoorH0
namespace Go.Proofs.YtoicmcjpaodgpaaDoor
open Go.RowKit Go.Maps
set_option maxRecDepth 20000 in
set_option maxHeartbeats 4000000 in
theorem one_walk (s : ByteArray) (w : World) (hj : JF w) (hs : s.size ≤ maxLen) : Calls Tryd.prog 6 #[.string s] w fun e w' => e = .returned (.bool true) ∧ Below w.heap.size w w' := by
  have HA := Lib.hid (alive_any w hj)
  by_cases h3 : (3000 : Int) < s.size
  · clear hs hj
    go_enter Tryd.func6, Tryd.ntmps6
    go_wp2_with fail
    refine HA.out.mono ?_
    rintro e w1 ⟨rfl, b1⟩
    have B1 := Lib.hid b1
    clear b1
    go_wp2_with fail
    go_ret
    exact ⟨rfl, B1.out⟩
  · have HR := Lib.hid (fun W (b : Below w.heap.size w W) => Read_any s W (hj.up b).lim hs)
    have HF := Lib.hid (fun M (h : readM s = .ok M) => one_facts (by omega) h)
    have HBN := Lib.hid (fun e => bad_ne (s := s) (m := e))
    have HJ := Lib.hid (fun W (b : Below w.heap.size w W) => hj.up b)
    obtain ⟨X, hX⟩ : ∃ X, X = readM s := ⟨_, rfl⟩
    rw [← hX] at HR HF HBN
    clear hX hj hs
    cases X with
    | bad e0 =>
      have HR2 : Hid (∀ W, Below w.heap.size w W → Calls Tryd.prog 10 #[.string s] W fun e w' => e = .returned (.tuple #[.slice none 0 0, .int .i64 e0]) ∧ Below W.heap.size W w') := Lib.hid HR.out
      have hne : (e0 != 0) = true := by simp only [bne, beq_eq_false_iff_ne.2 (HBN.out e0 rfl)]; rfl
      clear HR HF HBN
      go_enter Tryd.func6, Tryd.ntmps6
      go_wp2_with fail
      refine HA.out.mono ?_
      rintro e w1 ⟨rfl, b1⟩
      have B1 := Lib.hid b1
      clear b1
      go_wp2_with fail
      refine (HR2.out _ B1.out).mono ?_
      rintro e w2 ⟨rfl, b2⟩
      have B2 := Lib.hid (B1.out.trans (b2.mono B1.out.size))
      clear b2
      go_wp2_with fail
      go_ret
      exact ⟨rfl, B2.out⟩
    | ok M =>
      have HR2 : Hid (∀ W, Below w.heap.size w W → Calls Tryd.prog 10 #[.string s] W fun e w' => ∃ v, e = .returned (.tuple #[v, .int .i64 0]) ∧ w'.ownsRow W.heap.size 42 5 v M.length (rw5 M) ∧ Below W.heap.size W w') := Lib.hid HR.out
      obtain ⟨f1, f2, f3, f4⟩ := HF.out M rfl
      have hT : jwT (gl M) M.length = jtx (gl M) M.length M.length 0 := by unfold jwT; rw [f1]; rfl
      have hE : jwE (gl M) M.length = 0 := by unfold jwE; rw [f1]; rfl
      have HW := Lib.hid (fun W (b : Below w.heap.size w W) ad cp (c : CV W ad M.length (gl M)) => jWrite_any W (HJ.out W b).tab ad M.length cp (gl M) f2 c)
      have HPL := Lib.hid (fun W ad cp (c : CV W ad M.length (gl M)) => plain_any ad M.length cp (gl M) W c f2.sm)
      have HSM := Lib.hid (fun W a1 a2 c1 c2 (x : CV W a1 M.length (gl M)) (y : CV W a2 M.length (gl M)) => rsame_any a1 a2 M.length M.length c1 c2 (gl M) (gl M) W x y f2.sm.le)
      have HR3 := Lib.hid (fun W (b : Below w.heap.size w W) => Read_any (jtx (gl M) M.length M.length 0) W (HJ.out W b).lim (by unfold maxLen; omega))
      rw [hT, hE] at HW
      rw [f1] at HPL
      rw [f3] at HR3
      rw [sm_yes (fun _ _ => rfl)] at HSM
      obtain ⟨T, hTT⟩ : ∃ T, T = jtx (gl M) M.length M.length 0 := ⟨_, rfl⟩
      rw [← hTT] at HW HR3
      have HR4 : Hid (∀ W, Below w.heap.size w W → Calls Tryd.prog 10 #[.string T] W fun e w' => ∃ v, e = .returned (.tuple #[v, .int .i64 0]) ∧ w'.ownsRow W.heap.size 42 5 v M.length (rw5 M) ∧ Below W.heap.size W w') := Lib.hid HR3.out
      clear HR HF HBN f1 f2 f3 f4 hT hE hTT HR3 HJ
      go_enter Tryd.func6, Tryd.ntmps6
      go_wp2_with fail
      refine HA.out.mono ?_
      rintro e w1 ⟨rfl, b1⟩
      have B1 := Lib.hid b1
      clear b1
      go_wp2_with fail
      refine (HR2.out _ B1.out).mono ?_
      rintro e w2 ⟨v, rfl, o2, b2⟩
      obtain ⟨ad, cp, rfl, c2, _, _⟩ := own_cv rfl o2
      have B2 := Lib.hid (B1.out.trans (b2.mono B1.out.size))
      have C2 := Lib.hid c2
      clear b2 o2 c2
      go_wp2_with fail
      refine (HW.out _ B2.out ad cp C2.out).mono ?_
      rintro e w3 ⟨rfl, b3⟩
      have B3 := Lib.hid (B2.out.trans (b3.mono B2.out.size))
      have C3 := Lib.hid (C2.out.below b3)
      clear b3
      go_wp2_with fail
      refine (HR4.out _ B3.out).mono ?_
      rintro e w4 ⟨v2, rfl, o4, b4⟩
      obtain ⟨ad2, cp2, rfl, c4, _, _⟩ := own_cv rfl o4
      have B4 := Lib.hid (B3.out.trans (b4.mono B3.out.size))
      have C4 := Lib.hid (And.intro (C3.out.below b4) c4)
      clear b4 o4 c4
      go_wp2_with fail
      refine (HW.out _ B4.out ad2 cp2 C4.out.2).mono ?_
      rintro e w5 ⟨rfl, b5⟩
      have B5 := Lib.hid (B4.out.trans (b5.mono B4.out.size))
      have C5 := Lib.hid (And.intro (C4.out.1.below b5) (C4.out.2.below b5))
      clear b5
      go_wp2_with fail
      refine (HPL.out _ ad cp C5.out.1).mono ?_
      rintro e w6 ⟨rfl, b6⟩
      have B6 := Lib.hid (B5.out.trans (b6.mono B5.out.size))
      have C6 := Lib.hid (And.intro (C5.out.1.below b6) (C5.out.2.below b6))
      clear b6
      go_wp2_with fail
      refine (HSM.out _ ad ad2 cp cp2 C6.out.1 C6.out.2).mono ?_
      rintro e w7 ⟨rfl, b7⟩
      have B7 := Lib.hid (B6.out.trans (b7.mono B6.out.size))
      clear b7
      go_wp2_with fail
      go_ret
      exact ⟨rfl, B7.out⟩
end Go.Proofs.YtoicmcjpaodgpaaDoor
