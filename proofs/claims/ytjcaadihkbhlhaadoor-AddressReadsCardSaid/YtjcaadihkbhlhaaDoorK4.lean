import Derived.Test.YtjcaadihkbhlhaaDoorK3
namespace Go.Proofs.YtjcaadihkbhlhaaDoor
open Go.RowKit
set_option maxRecDepth 20000 in
theorem one_long (s : ByteArray) (w : World) (hm : ML w) (h3 : (3000 : Int) < (s.size : Int)) :
    Calls Tryd.prog 6 #[.string s] w fun e w' => e = .returned (.bool true) ∧ Below w.heap.size w w' := by
  have HAL := Lib.hid (alive_true w hm)
  clear hm
  go_enter Tryd.func6, Tryd.ntmps6
  go_wp2_with fail
  with_reducible refine HAL.out.mono ?_
  rintro e w1 ⟨rfl, b1⟩
  have B1 := Lib.hid b1
  clear b1 HAL
  go_wp2_with fail
  go_ret
  exact ⟨rfl, B1.out⟩
set_option maxRecDepth 20000 in
set_option maxHeartbeats 1000000 in
theorem one_no (s : ByteArray) (w : World) (hm : ML w) (h3 : ¬ (3000 : Int) < (s.size : Int)) (ho : okP s = false) :
    Calls Tryd.prog 6 #[.string s] w fun e w' => e = .returned (.bool true) ∧ Below w.heap.size w w' := by
  have HP := Lib.hid (fun W (hb : Below w.heap.size w W) => parse_not s ho W (hm.below hb))
  have HC := Lib.hid (fun W (hb : Below w.heap.size w W) => canon_not s ho W (hm.below hb))
  unfold adZ adV at HP
  clear ho
  have HAL := Lib.hid (alive_true w hm)
  clear hm
  go_enter Tryd.func6, Tryd.ntmps6
  go_wp2_with fail
  with_reducible refine HAL.out.mono ?_
  rintro e w1 ⟨rfl, b1⟩
  have B1 := Lib.hid b1
  clear b1 HAL
  go_wp2_with fail
  have K := HP.out _ B1.out
  with_reducible refine K.mono ?_
  rintro e w2 ⟨rfl, b2⟩
  have B2 := Lib.hid ((B1.out.trans (b2.mono B1.out.size)).alloc (o := .cells #[.string ⟨#[]⟩, .string ⟨#[]⟩, .string ⟨#[]⟩, .string ⟨#[]⟩, .string ⟨#[]⟩, .string ⟨#[]⟩, .bool false, .bool false] 24) (B1.out.trans (b2.mono B1.out.size)).size)
  clear b2 K B1
  go_wp2_with fail
  have K := HC.out _ B2.out
  with_reducible refine K.mono ?_
  rintro e w3 ⟨rfl, b3⟩
  have B3 := Lib.hid (B2.out.trans (b3.mono B2.out.size))
  clear b3 K B2
  go_wp2_with fail
  go_ret
  exact ⟨rfl, B3.out⟩
set_option maxRecDepth 20000 in
set_option maxHeartbeats 4000000 in
theorem one_yes (s : ByteArray) (w : World) (hm : ML w) (h3 : ¬ (3000 : Int) < (s.size : Int)) (ho : okP s = true) :
    Calls Tryd.prog 6 #[.string s] w fun e w' => e = .returned (.bool true) ∧ Below w.heap.size w w' := by
  obtain ⟨x1, x2, x3, x4, x5, x6, y1, y2, c, z1, z2, z3, z5, z6, J, O⟩ := one_facts s ho
  have HP := Lib.hid (fun W (hb : Below w.heap.size w W) => parse_yes s x1 x2 x3 x4 x5 x6 y1 y2 ho O.ad W (hm.below hb))
  have HC := Lib.hid (fun W (hb : Below w.heap.size w W) => canon_ok s c ho O.can W (hm.below hb))
  have HP2 := Lib.hid (fun W (hb : Below w.heap.size w W) => parse_yes c z1 z2 z3 x4 z5 z6 y1 y2 O.okc O.adc W (hm.below hb))
  have HC2 := Lib.hid (fun W (hb : Below w.heap.size w W) => canon_ok c c O.okc O.canc W (hm.below hb))
  have HTN : Hid (∀ W, Calls Tryd.prog 15 #[.string x1] W fun e w' => e = .returned (.string (turnS x1)) ∧ Below W.heap.size W w') := Lib.hid (fun W => turned_any x1 O.pos (by have := O.x1z; omega) W)
  have HTX : Hid (∀ W, Calls Tryd.prog 14 #[adV (turnS x1) x2 x3 x4 x5 x6 y1 y2] W fun e w' => e = .returned (.tuple #[.string J, .int .i64 0]) ∧ Below W.heap.size W w') := Lib.hid (fun W => by
    have z := O.sz
    have K := text_any (turnS x1) x2 x3 x4 x5 x6 y1 y2 (by rw [turn_size]; have := O.x1z; omega) (by omega) (by omega) (by omega) (by omega) (by omega) W
    rw [O.may, textE_true, numE_true, O.jj] at K
    exact K)
  have HC3 := Lib.hid (fun W (hb : Below w.heap.size w W) => canon_ok J c O.okJ O.canJ W (hm.below hb))
  have hsz : ¬ (s.size : Int) < (c.size : Int) := by have := O.size; omega
  unfold adV at HP HP2 HTX
  obtain ⟨tx, htx⟩ : ∃ t, t = turnS x1 := ⟨_, rfl⟩
  rw [← htx] at HTN HTX
  clear O ho htx
  have HAL := Lib.hid (alive_true w hm)
  clear hm
  go_enter Tryd.func6, Tryd.ntmps6
  go_wp2_with fail
  with_reducible refine HAL.out.mono ?_
  rintro e w1 ⟨rfl, b1⟩
  have B1 := Lib.hid b1
  clear b1 HAL
  go_wp2_with fail
  have K := HP.out _ B1.out
  with_reducible refine K.mono ?_
  rintro e w2 ⟨rfl, b2⟩
  have P2 := Lib.hid (show CB w2.heap.size w #[.string x1, .string x2, .string x3, .string x4, .string x5, .string x6, .bool y1, .bool y2] (w2.alloc (.cells #[.string x1, .string x2, .string x3, .string x4, .string x5, .string x6, .bool y1, .bool y2] 24)) from ⟨VB.new _ _ _, (B1.out.trans (b2.mono B1.out.size)).alloc (B1.out.trans (b2.mono B1.out.size)).size _, (B1.out.trans (b2.mono B1.out.size)).size⟩)
  clear b2 K B1 HP
  go_wp2_with fail
  obtain ⟨w3, h3⟩ : ∃ x, x = w2.alloc (.cells #[.string x1, .string x2, .string x3, .string x4, .string x5, .string x6, .bool y1, .bool y2] 24) := ⟨_, rfl⟩
  rw [← h3] at P2 ⊢
  clear h3
  obtain ⟨k4, hk4⟩ : ∃ k, k = w2.heap.size := ⟨_, rfl⟩
  rw [← hk4] at P2 ⊢
  clear hk4
  have K := HC.out _ P2.out.2.1
  with_reducible refine K.mono ?_
  rintro e w4 ⟨rfl, b4⟩
  have P4 := Lib.hid (P2.out.up b4)
  clear b4 K P2 HC
  go_wp2_with fail
  have K := HP2.out _ P4.out.2.1
  with_reducible refine K.mono ?_
  rintro e w5 ⟨rfl, b5⟩
  have P5 := Lib.hid (P4.out.up b5)
  clear b5 K P4 HP2
  have P6 := Lib.hid (P5.out.up ((Below.refl _ w5).alloc (Nat.le_refl _) (.cells #[.string z1, .string z2, .string z3, .string x4, .string z5, .string z6, .bool y1, .bool y2] 24)))
  have V6 := Lib.hid (VB.new w5 #[.string z1, .string z2, .string z3, .string x4, .string z5, .string z6, .bool y1, .bool y2] 24)
  have hlt : k4 < w5.heap.size := P5.out.1.lt
  go_wp2_with fail
  obtain ⟨w6, h6⟩ : ∃ x, x = w5.alloc (.cells #[.string z1, .string z2, .string z3, .string x4, .string z5, .string z6, .bool y1, .bool y2] 24) := ⟨_, rfl⟩
  rw [← h6] at P6 V6 ⊢
  clear h6
  obtain ⟨k8, hk8⟩ : ∃ k, k = w5.heap.size := ⟨_, rfl⟩
  rw [← hk8] at V6 hlt ⊢
  clear hk8 P5
  have K := HC2.out _ P6.out.2.1
  with_reducible refine K.mono ?_
  rintro e w7 ⟨rfl, b7⟩
  have P7 := Lib.hid (P6.out.up b7)
  have V7 := Lib.hid (show CB k8 w #[.string z1, .string z2, .string z3, .string x4, .string z5, .string z6, .bool y1, .bool y2] w7 from ⟨V6.out.up b7, P7.out.2.1, by have := P7.out.2.2; omega⟩)
  clear b7 K P6 V6 HC2
  have c0 := P7.out.c0
  have c3 := P7.out.c3
  have c6 := P7.out.c6
  have c7 := P7.out.c7
  have d3 := V7.out.c3
  have d6 := V7.out.c6
  have d7 := V7.out.c7
  have f0 := P7.out.f0
  go_wp2_with fail
  with_reducible refine (HTN.out _).mono ?_
  rintro e w8 ⟨rfl, b8⟩
  have P8 := Lib.hid (P7.out.up b8)
  clear b8 P7 V7 c0 c3 c6 c7 d3 d6 d7 f0 HTN
  have c0 := P8.out.c0
  have f0 := P8.out.f0
  have P9 := P8.out.put 0 (.string tx)
  simp only [List.setIfInBounds_toArray, List.set_cons_zero, List.set_cons_succ] at P9
  replace P9 := Lib.hid P9
  have c1 := P8.out.c1
  have c2 := P8.out.c2
  have c3 := P8.out.c3
  have c4 := P8.out.c4
  have c5 := P8.out.c5
  have c6 := P8.out.c6
  have c7 := P8.out.c7
  go_wp2_with fail
  obtain ⟨w9, h9⟩ : ∃ x, x = w8.setCell ⟨k4, 0, none⟩ (.string tx) := ⟨_, rfl⟩
  rw [← h9] at P9 ⊢
  clear h9 P8 c0 c1 c2 c3 c4 c5 c6 c7 f0
  with_reducible refine (HTX.out _).mono ?_
  rintro e w10 ⟨rfl, b10⟩
  have P10 := Lib.hid (P9.out.up b10)
  clear b10 P9 HTX
  go_wp2_with fail
  have K := HC3.out _ P10.out.2.1
  with_reducible refine K.mono ?_
  rintro e w11 ⟨rfl, b11⟩
  have P11 := Lib.hid (P10.out.up b11)
  clear b11 K P10 HC3
  go_wp2_with fail
  go_ret
  exact ⟨rfl, P11.out.2.1⟩
theorem one_law (s : ByteArray) (w : World) (hm : ML w) (_ : s.size ≤ maxLen) :
    Calls Tryd.prog 6 #[.string s] w fun e w' => e = .returned (.bool true) ∧ Below w.heap.size w w' := by
  by_cases h3 : (3000 : Int) < (s.size : Int)
  · exact one_long s w hm h3
  · by_cases ho : okP s = true
    · exact one_yes s w hm h3 ho
    · exact one_no s w hm h3 (by simpa using ho)
end Go.Proofs.YtjcaadihkbhlhaaDoor
