import Derived.Test.YtjcaadihkbhlhaaDoorM3
import Derived.Test.YtjcaadihkbhlhaaDoorK4
namespace Go.Proofs.YtjcaadihkbhlhaaDoor
open Go.RowKit
set_option maxRecDepth 20000 in
set_option maxHeartbeats 1000000 in
theorem rcanon_no (s : ByteArray) (w : World) (hs : s.size ≤ 1000000) (ho : okP s = false) :
    Calls Tryd.prog 13 #[.string s] w fun e w' => e = .returned (.tuple #[.string ⟨#[]⟩, .int .i64 150]) ∧ Below w.heap.size w w' := by
  have HP := Lib.hid (rparse_any s w hs)
  unfold adP at HP
  rw [ho] at HP
  rw [show numE false = 150 from rfl] at HP
  simp only [Bool.false_eq_true, if_false] at HP
  unfold adZ adV at HP
  clear hs ho
  go_enter Tryd.func13, Tryd.ntmps13
  go_wp2_with fail
  with_reducible refine HP.out.mono ?_
  rintro e w1 ⟨rfl, b1⟩
  have B1 := Lib.hid (b1.alloc (o := .cells #[.string ⟨#[]⟩, .string ⟨#[]⟩, .string ⟨#[]⟩, .string ⟨#[]⟩, .string ⟨#[]⟩, .string ⟨#[]⟩, .bool false, .bool false] 24) b1.size)
  clear b1
  go_wp2_with fail
  go_ret2
  exact ⟨rfl, B1.out⟩
set_option maxRecDepth 20000 in
set_option maxHeartbeats 2000000 in
theorem rcanon_yes (s : ByteArray) (w : World) (hs : s.size ≤ 1000000) (ho : okP s = true) :
    Calls Tryd.prog 13 #[.string s] w fun e w' => e = .returned (.tuple #[.string (canS s), .int .i64 0]) ∧ Below w.heap.size w w' := by
  have HP := Lib.hid (rparse_any s w hs)
  unfold adP at HP
  rw [ho] at HP
  rw [show numE true = 0 from rfl] at HP
  simp only [if_true] at HP
  unfold okP at ho
  simp only [Bool.and_eq_true, decide_eq_true_eq] at ho
  obtain ⟨⟨hl, hi⟩, hmay⟩ := ho
  have hroom := ixS_room s hi
  have hr1 : (r1S s).size ≤ 2048 := by unfold r1S; rw [ex_size _ _ _ (Nat.le_refl _)]; omega
  have hsc : (scS s).size ≤ 2048 := by unfold scS; rw [ex_size _ _ _ (by omega)]; omega
  have hus := us_size (r1S s)
  have hr2 := r2_size (r1S s)
  have hau := au_size (r2U (r1S s))
  have hpas : (paA (r2U (r1S s))).size ≤ 2048 := by unfold paA; rw [ex_size _ _ _ (Nat.le_refl _)]; omega
  have s1 := cut_size (paA (r2U (r1S s))).data.toList [63]
  have s2 := cut_size (auA (r2U (r1S s))).data.toList [58]
  rw [data_len] at s1 s2
  have k1 : (mk (cq (r2U (r1S s))).1).size ≤ 2048 := by rw [mk_size]; unfold cq; omega
  have k2 : (mk (cq (r2U (r1S s))).2.1).size ≤ 2048 := by rw [mk_size]; unfold cq; omega
  have k3 : (mk (ch (r2U (r1S s))).1).size ≤ 2048 := by rw [mk_size]; unfold ch; omega
  have k4 : (mk (ch (r2U (r1S s))).2.1).size ≤ 2048 := by rw [mk_size]; unfold ch; omega
  have hus2 : (usU (r1S s)).size ≤ 2048 := by omega
  clear s1 s2 hpas hau hr2 hus hr1 hroom hi hl hs
  unfold mayS at hmay
  unfold canS
  obtain ⟨sc, hsce⟩ : ∃ x, x = scS s := ⟨_, rfl⟩
  obtain ⟨us, e2⟩ : ∃ x, x = usU (r1S s) := ⟨_, rfl⟩
  obtain ⟨ho, e3⟩ : ∃ x, x = mk (ch (r2U (r1S s))).1 := ⟨_, rfl⟩
  obtain ⟨po, e4⟩ : ∃ x, x = mk (ch (r2U (r1S s))).2.1 := ⟨_, rfl⟩
  obtain ⟨pt, e5⟩ : ∃ x, x = mk (cq (r2U (r1S s))).1 := ⟨_, rfl⟩
  obtain ⟨qu, e6⟩ : ∃ x, x = mk (cq (r2U (r1S s))).2.1 := ⟨_, rfl⟩
  obtain ⟨hu, e7⟩ : ∃ x, x = huU (r1S s) := ⟨_, rfl⟩
  obtain ⟨hq, e8⟩ : ∃ x, x = (cq (r2U (r1S s))).2.2 := ⟨_, rfl⟩
  rw [← hsce] at HP hmay hsc ⊢
  rw [← e2] at HP hmay hus2 ⊢
  rw [← e3] at HP hmay k3 ⊢
  rw [← e4] at HP hmay k4 ⊢
  rw [← e5] at HP hmay k1 ⊢
  rw [← e6] at HP hmay k2 ⊢
  rw [← e7] at HP hmay ⊢
  rw [← e8] at HP hmay ⊢
  clear hsce e2 e3 e4 e5 e6 e7 e8
  rw [← scheme_plain sc (may_parts hmay).1]
  clear hmay
  have HPL := Lib.hid (fun W => plainA_any sc us ho po pt qu hu hq (by omega) (by omega) (by omega) (by omega) (by omega) W)
  have z1 := stS_size Lib.lowerB sc
  have z2 := stS_size id us
  have z3 := stS_size Lib.lowerB ho
  have z4 := stS_size id pt
  have z5 := stS_size id qu
  have HJ := Lib.hid (fun W => tell_any (stS Lib.lowerB sc) (stS id us) (stS Lib.lowerB ho) po (stS id pt) (stS id qu) hu hq (by omega) (by omega) (by omega) (by omega) (by omega) (by omega) W)
  clear z1 z2 z3 z4 z5 hsc hus2 k1 k2 k3 k4
  obtain ⟨J, hJ⟩ : ∃ x, x = joinT (stS Lib.lowerB sc) (stS id us) (stS Lib.lowerB ho) po (stS id pt) (stS id qu) hu hq := ⟨_, rfl⟩
  rw [← hJ] at HJ ⊢
  clear hJ
  obtain ⟨sc2, g1⟩ : ∃ x, x = stS Lib.lowerB sc := ⟨_, rfl⟩
  obtain ⟨us2, g2⟩ : ∃ x, x = stS id us := ⟨_, rfl⟩
  obtain ⟨ho2, g3⟩ : ∃ x, x = stS Lib.lowerB ho := ⟨_, rfl⟩
  obtain ⟨pt2, g4⟩ : ∃ x, x = stS id pt := ⟨_, rfl⟩
  obtain ⟨qu2, g5⟩ : ∃ x, x = stS id qu := ⟨_, rfl⟩
  rw [← g1] at HPL HJ
  rw [← g3] at HPL HJ
  rw [← g2] at HPL HJ
  rw [← g4] at HPL HJ
  rw [← g5] at HPL HJ
  clear g1 g2 g3 g4 g5
  unfold adV at HP HPL HJ
  go_enter Tryd.func13, Tryd.ntmps13
  go_wp2_with fail
  with_reducible refine HP.out.mono ?_
  rintro e w1 ⟨rfl, b1⟩
  have P2 := Lib.hid (show CB w1.heap.size w #[.string sc, .string us, .string ho, .string po, .string pt, .string qu, .bool hu, .bool hq] (w1.alloc (.cells #[.string sc, .string us, .string ho, .string po, .string pt, .string qu, .bool hu, .bool hq] 24)) from ⟨VB.new _ _ _, b1.alloc b1.size _, b1.size⟩)
  clear b1 HP
  go_wp2_with fail
  obtain ⟨w2, h2⟩ : ∃ x, x = w1.alloc (.cells #[.string sc, .string us, .string ho, .string po, .string pt, .string qu, .bool hu, .bool hq] 24) := ⟨_, rfl⟩
  rw [← h2] at P2 ⊢
  clear h2
  with_reducible refine (HPL.out _).mono ?_
  rintro e w3 ⟨rfl, b3⟩
  have P3 := Lib.hid (P2.out.up b3)
  clear b3 P2 HPL
  go_wp2_with fail
  with_reducible refine (HJ.out _).mono ?_
  rintro e w4 ⟨rfl, b4⟩
  have P4 := Lib.hid (P3.out.up b4)
  clear b4 P3 HJ
  go_wp2_with fail
  go_ret2
  exact ⟨rfl, P4.out.2.1⟩
theorem rcanon_any (s : ByteArray) (w : World) (hs : s.size ≤ 1000000) :
    Calls Tryd.prog 13 #[.string s] w fun e w' => e = .returned (.tuple #[.string (textE (okP s) (canS s)), .int .i64 (numE (okP s))]) ∧ Below w.heap.size w w' := by
  by_cases h : okP s = true
  · have C := rcanon_yes s w hs h
    rw [h, textE_true, numE_true]
    exact C
  · replace h : okP s = false := by simpa using h
    have C := rcanon_no s w hs h
    rw [h, textE_false, numE_false]
    exact C
set_option maxRecDepth 20000 in
theorem reads_long (s : ByteArray) (w : World) (h3 : (3000 : Int) < (s.size : Int)) :
    Calls Tryd.prog 4 #[.string s] w fun e w' => e = .returned (.bool true) ∧ Below w.heap.size w w' := by
  go_enter Tryd.func4, Tryd.ntmps4
  go_wp2_with fail
  go_ret
  exact ⟨rfl, Below.refl _ _⟩
set_option maxRecDepth 20000 in
set_option maxHeartbeats 4000000 in
theorem reads_core (s : ByteArray) (w : World) (h3 : ¬ (3000 : Int) < (s.size : Int)) (x1 x2 x3 x4 x5 x6 : ByteArray) (y1 y2 : Bool) (n : Int) (c : ByteArray)
    (HP : Hid (∀ W, Below w.heap.size w W → Calls Tryd.prog 10 #[.string s] W fun e w' => e = .returned (.tuple #[.agg #[.string x1, .string x2, .string x3, .string x4, .string x5, .string x6, .bool y1, .bool y2], .int .i64 n]) ∧ Below W.heap.size W w'))
    (HR : Hid (∀ W, Below w.heap.size w W → Calls Tryd.prog 11 #[.string s] W fun e w' => e = .returned (.tuple #[.agg #[.string x1, .string x2, .string x3, .string x4, .string x5, .string x6, .bool y1, .bool y2], .int .i64 n]) ∧ Below W.heap.size W w'))
    (HC : Hid (∀ W, Below w.heap.size w W → Calls Tryd.prog 12 #[.string s] W fun e w' => e = .returned (.tuple #[.string c, .int .i64 n]) ∧ Below W.heap.size W w'))
    (HK : Hid (∀ W, Below w.heap.size w W → Calls Tryd.prog 13 #[.string s] W fun e w' => e = .returned (.tuple #[.string c, .int .i64 n]) ∧ Below W.heap.size W w')) :
    Calls Tryd.prog 4 #[.string s] w fun e w' => e = .returned (.bool true) ∧ Below w.heap.size w w' := by
  have P0 := Lib.hid (Below.refl w.heap.size w)
  go_enter Tryd.func4, Tryd.ntmps4
  go_wp2_with fail
  have K := HP.out _ P0.out
  with_reducible refine K.mono ?_
  rintro e w2 ⟨rfl, b2⟩
  have P2 := Lib.hid (show CB w2.heap.size w #[.string x1, .string x2, .string x3, .string x4, .string x5, .string x6, .bool y1, .bool y2] (w2.alloc (.cells #[.string x1, .string x2, .string x3, .string x4, .string x5, .string x6, .bool y1, .bool y2] 24)) from ⟨VB.new _ _ _, (P0.out.trans (b2.mono P0.out.size)).alloc (P0.out.trans (b2.mono P0.out.size)).size _, (P0.out.trans (b2.mono P0.out.size)).size⟩)
  clear b2 K P0 HP
  go_wp2_with fail
  obtain ⟨w3, h4⟩ : ∃ x, x = w2.alloc (.cells #[.string x1, .string x2, .string x3, .string x4, .string x5, .string x6, .bool y1, .bool y2] 24) := ⟨_, rfl⟩
  rw [← h4] at P2 ⊢
  clear h4
  obtain ⟨k4, hk4⟩ : ∃ k, k = w2.heap.size := ⟨_, rfl⟩
  rw [← hk4] at P2 ⊢
  clear hk4
  have K := HR.out _ P2.out.2.1
  with_reducible refine K.mono ?_
  rintro e w5 ⟨rfl, b5⟩
  have P5 := Lib.hid (P2.out.up b5)
  clear b5 K P2 HR
  have P6 := Lib.hid (P5.out.up ((Below.refl _ w5).alloc (Nat.le_refl _) (.cells #[.string x1, .string x2, .string x3, .string x4, .string x5, .string x6, .bool y1, .bool y2] 24)))
  have V6 := Lib.hid (VB.new w5 #[.string x1, .string x2, .string x3, .string x4, .string x5, .string x6, .bool y1, .bool y2] 24)
  have hlt : k4 < w5.heap.size := P5.out.1.lt
  go_wp2_with fail
  obtain ⟨w6, h6⟩ : ∃ x, x = w5.alloc (.cells #[.string x1, .string x2, .string x3, .string x4, .string x5, .string x6, .bool y1, .bool y2] 24) := ⟨_, rfl⟩
  rw [← h6] at P6 V6 ⊢
  clear h6
  obtain ⟨k8, hk8⟩ : ∃ k, k = w5.heap.size := ⟨_, rfl⟩
  rw [← hk8] at V6 hlt ⊢
  clear hk8 P5
  have K := HC.out _ P6.out.2.1
  with_reducible refine K.mono ?_
  rintro e w7 ⟨rfl, b7⟩
  have P7 := Lib.hid (P6.out.up b7)
  have V7 := Lib.hid (show CB k8 w #[.string x1, .string x2, .string x3, .string x4, .string x5, .string x6, .bool y1, .bool y2] w7 from ⟨V6.out.up b7, P7.out.2.1, by have := P7.out.2.2; omega⟩)
  clear b7 K P6 V6 HC
  go_wp2_with fail
  have K := HK.out _ P7.out.2.1
  with_reducible refine K.mono ?_
  rintro e w8 ⟨rfl, b8⟩
  have P8 := Lib.hid (P7.out.up b8)
  have V8 := Lib.hid (V7.out.up b8)
  clear b8 K P7 V7 HK
  have c0 := P8.out.c0
  have c1 := P8.out.c1
  have c2 := P8.out.c2
  have c3 := P8.out.c3
  have c4 := P8.out.c4
  have c5 := P8.out.c5
  have c6 := P8.out.c6
  have c7 := P8.out.c7
  have d0 := V8.out.c0
  have d1 := V8.out.c1
  have d2 := V8.out.c2
  have d3 := V8.out.c3
  have d4 := V8.out.c4
  have d5 := V8.out.c5
  have d6 := V8.out.c6
  have d7 := V8.out.c7
  go_wp2_with fail
  go_ret
  exact ⟨rfl, P8.out.2.1⟩
theorem reads_law (s : ByteArray) (w : World) (hm : ML w) (_ : s.size ≤ maxLen) :
    Calls Tryd.prog 4 #[.string s] w fun e w' => e = .returned (.bool true) ∧ Below w.heap.size w w' := by
  by_cases h3 : (3000 : Int) < (s.size : Int)
  · exact reads_long s w h3
  · have hs : s.size ≤ 1000000 := by omega
    by_cases ho : okP s = true
    · obtain ⟨x1, x2, x3, x4, x5, x6, y1, y2, had, _⟩ := ad_names s ho
      refine reads_core s w h3 x1 x2 x3 x4 x5 x6 y1 y2 0 (canS s) (Lib.hid fun W hb => parse_yes s x1 x2 x3 x4 x5 x6 y1 y2 ho had W (hm.below hb)) (Lib.hid fun W hb => ?_) (Lib.hid fun W hb => canon_ok s _ ho rfl W (hm.below hb)) (Lib.hid fun W hb => ?_)
      · have K := rparse_any s W hs
        rw [ho, had, numE_true] at K
        exact K
      · have K := rcanon_any s W hs
        rw [ho, textE_true, numE_true] at K
        exact K
    · replace ho : okP s = false := by simpa using ho
      refine reads_core s w h3 ⟨#[]⟩ ⟨#[]⟩ ⟨#[]⟩ ⟨#[]⟩ ⟨#[]⟩ ⟨#[]⟩ false false 150 ⟨#[]⟩ (Lib.hid fun W hb => parse_not s ho W (hm.below hb)) (Lib.hid fun W hb => ?_) (Lib.hid fun W hb => canon_not s ho W (hm.below hb)) (Lib.hid fun W hb => ?_)
      · have K := rparse_any s W hs
        rw [show adP s = adZ by unfold adP; rw [ho]; rfl, ho, numE_false] at K
        exact K
      · have K := rcanon_any s W hs
        rw [ho, textE_false, numE_false] at K
        exact K
end Go.Proofs.YtjcaadihkbhlhaaDoor
