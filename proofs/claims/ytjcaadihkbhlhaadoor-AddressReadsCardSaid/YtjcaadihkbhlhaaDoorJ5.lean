import Derived.Test.YtjcaadihkbhlhaaDoorJJ
import Derived.Test.YtjcaadihkbhlhaaDoorI3
import Derived.Test.YtjcaadihkbhlhaaDoorF1
namespace Go.Proofs.YtjcaadihkbhlhaaDoor
open Go.RowKit
theorem ok_sizes (s : ByteArray) (ho : okP s = true) : (scS s).size ≤ 2048 ∧ (usU (r1S s)).size ≤ 2048 ∧ (mk (ch (r2U (r1S s))).1).size ≤ 2048 ∧ (mk (ch (r2U (r1S s))).2.1).size ≤ 2048 ∧ (mk (cq (r2U (r1S s))).1).size ≤ 2048 ∧ (mk (cq (r2U (r1S s))).2.1).size ≤ 2048 := by
  unfold okP at ho
  simp only [Bool.and_eq_true, decide_eq_true_eq] at ho
  obtain ⟨⟨hl, hi⟩, hmay⟩ := ho
  have hroom := ixS_room s hi
  have hr1 : (r1S s).size ≤ 2048 := by unfold r1S; rw [ex_size _ _ _ (Nat.le_refl _)]; omega
  have hsc : (scS s).size ≤ 2048 := by unfold scS; rw [ex_size _ _ _ (by omega)]; omega
  have hus := us_size (r1S s)
  have hr2 := r2_size (r1S s)
  have hau := au_size (r2U (r1S s))
  have hpas : (paA (r2U (r1S s))).size ≤ 2048 := by unfold paA; rw [ex_size _ _ _ (Nat.le_refl _)]; omega
  have s1 := cut_size (paA (r2U (r1S s))).data.toList [63]
  have s2 := cut_size (auA (r2U (r1S s))).data.toList [58]
  rw [data_len] at s1 s2
  have k1 : (mk (cq (r2U (r1S s))).1).size ≤ 2048 := by rw [mk_size]; unfold cq; omega
  have k2 : (mk (cq (r2U (r1S s))).2.1).size ≤ 2048 := by rw [mk_size]; unfold cq; omega
  have k3 : (mk (ch (r2U (r1S s))).1).size ≤ 2048 := by rw [mk_size]; unfold ch; omega
  have k4 : (mk (ch (r2U (r1S s))).2.1).size ≤ 2048 := by rw [mk_size]; unfold ch; omega
  exact ⟨hsc, by omega, k3, k4, k1, k2⟩
theorem ok_ix (s : ByteArray) (ho : okP s = true) : 0 ≤ ixS s ∧ mayS s = true := by
  unfold okP at ho
  simp only [Bool.and_eq_true, decide_eq_true_eq] at ho
  exact ⟨ho.1.2, ho.2⟩
theorem CB.new (w : World) (C : Array Value) : CB w.heap.size w C (w.alloc (.cells C 24)) := ⟨VB.new w C 24, (Below.refl _ w).alloc (Nat.le_refl _) _, Nat.le_refl _⟩
/-- Text of what a text tells. -/
theorem text_of (s : ByteArray) (ho : okP s = true) (w : World) : Calls Tryd.prog 14 #[adP s] w fun e w' => e = .returned (.tuple #[.string (txtS s), .int .i64 0]) ∧ Below w.heap.size w w' := by
  obtain ⟨z1, z2, z3, z4, z5, z6⟩ := ok_sizes s ho
  have K := text_any (scS s) (usU (r1S s)) (mk (ch (r2U (r1S s))).1) (mk (ch (r2U (r1S s))).2.1) (mk (cq (r2U (r1S s))).1) (mk (cq (r2U (r1S s))).2.1) (huU (r1S s)) (cq (r2U (r1S s))).2.2 (by omega) (by omega) (by omega) (by omega) (by omega) (by omega) w
  have e : mayP (scS s) (usU (r1S s)) (mk (ch (r2U (r1S s))).1) (mk (ch (r2U (r1S s))).2.1) (mk (cq (r2U (r1S s))).1) (mk (cq (r2U (r1S s))).2.1) (huU (r1S s)) (cq (r2U (r1S s))).2.2 = true := (ok_ix s ho).2
  rw [e, textE_true, numE_true] at K
  have e2 : adP s = adV (scS s) (usU (r1S s)) (mk (ch (r2U (r1S s))).1) (mk (ch (r2U (r1S s))).2.1) (mk (cq (r2U (r1S s))).1) (mk (cq (r2U (r1S s))).2.1) (huU (r1S s)) (cq (r2U (r1S s))).2.2 := by unfold adP; rw [ho]; rfl
  rw [e2]
  exact K
theorem text_zero (w : World) : Calls Tryd.prog 14 #[adZ] w fun e w' => e = .returned (.tuple #[.string ⟨#[]⟩, .int .i64 150]) ∧ Below w.heap.size w w' := by
  have K := text_any ⟨#[]⟩ ⟨#[]⟩ ⟨#[]⟩ ⟨#[]⟩ ⟨#[]⟩ ⟨#[]⟩ false false (by decide) (by decide) (by decide) (by decide) (by decide) (by decide) w
  have e : mayP ⟨#[]⟩ ⟨#[]⟩ ⟨#[]⟩ ⟨#[]⟩ ⟨#[]⟩ ⟨#[]⟩ false false = false := by decide +kernel
  rw [e, textE_false, numE_false] at K
  exact K
/-- What a text tells, by names; and what its text is. -/
theorem ad_names (s : ByteArray) (ho : okP s = true) : ∃ (x1 x2 x3 x4 x5 x6 : ByteArray) (y1 y2 : Bool), adP s = adV x1 x2 x3 x4 x5 x6 y1 y2 ∧ x4 = prtS s ∧ okP (txtS s) = true ∧ adP (txtS s) = adV x1 x2 x3 x4 x5 x6 y1 y2 := by
  have e := (ok_ix s ho).2
  have b := back_parts _ _ _ _ _ _ _ _ e
  refine ⟨scS s, usU (r1S s), mk (ch (r2U (r1S s))).1, mk (ch (r2U (r1S s))).2.1, mk (cq (r2U (r1S s))).1, mk (cq (r2U (r1S s))).2.1, huU (r1S s), (cq (r2U (r1S s))).2.2, ?_, rfl, b.1, b.2⟩
  unfold adP; rw [ho]; rfl
set_option maxRecDepth 20000 in
set_option maxHeartbeats 1000000 in
theorem back_big0 (s u h p a q : ByteArray) (hu hq : Bool) (t : ByteArray) (w : World) (hm : ML w) (h0 : (1000 : Int) < (s.size : Int)) :
    Calls Tryd.prog 5 #[adV s u h p a q hu hq, .string t] w fun e w' => e = .returned (.bool true) ∧ Below w.heap.size w w' := by
  have HAL := Lib.hid (fun W (hb : Below w.heap.size w W) => alive_true W (hm.below hb))
  have P0 := Lib.hid (CB.new w #[.string s, .string u, .string h, .string p, .string a, .string q, .bool hu, .bool hq])
  unfold adV
  clear hm
  go_enter Tryd.func5, Tryd.ntmps5
  go_wp2_with fail
  have K := HAL.out _ P0.out.2.1
  with_reducible refine K.mono ?_
  rintro e w1 ⟨rfl, b1⟩
  have P1 := Lib.hid (P0.out.up b1)
  clear b1 K P0 HAL
  have c0 := P1.out.c0
  have c1 := P1.out.c1
  have c2 := P1.out.c2
  have c3 := P1.out.c3
  have c4 := P1.out.c4
  have c5 := P1.out.c5
  have c6 := P1.out.c6
  have c7 := P1.out.c7
  go_wp2_with fail
  go_ret
  exact ⟨rfl, P1.out.2.1⟩
set_option maxRecDepth 20000 in
set_option maxHeartbeats 1000000 in
theorem back_big1 (s u h p a q : ByteArray) (hu hq : Bool) (t : ByteArray) (w : World) (hm : ML w) (h0 : ¬ (1000 : Int) < (s.size : Int)) (h1 : (1000 : Int) < (u.size : Int)) :
    Calls Tryd.prog 5 #[adV s u h p a q hu hq, .string t] w fun e w' => e = .returned (.bool true) ∧ Below w.heap.size w w' := by
  have HAL := Lib.hid (fun W (hb : Below w.heap.size w W) => alive_true W (hm.below hb))
  have P0 := Lib.hid (CB.new w #[.string s, .string u, .string h, .string p, .string a, .string q, .bool hu, .bool hq])
  unfold adV
  clear hm
  go_enter Tryd.func5, Tryd.ntmps5
  go_wp2_with fail
  have K := HAL.out _ P0.out.2.1
  with_reducible refine K.mono ?_
  rintro e w1 ⟨rfl, b1⟩
  have P1 := Lib.hid (P0.out.up b1)
  clear b1 K P0 HAL
  have c0 := P1.out.c0
  have c1 := P1.out.c1
  have c2 := P1.out.c2
  have c3 := P1.out.c3
  have c4 := P1.out.c4
  have c5 := P1.out.c5
  have c6 := P1.out.c6
  have c7 := P1.out.c7
  go_wp2_with fail
  go_ret
  exact ⟨rfl, P1.out.2.1⟩
set_option maxRecDepth 20000 in
set_option maxHeartbeats 1000000 in
theorem back_big2 (s u h p a q : ByteArray) (hu hq : Bool) (t : ByteArray) (w : World) (hm : ML w) (h0 : ¬ (1000 : Int) < (s.size : Int)) (h1 : ¬ (1000 : Int) < (u.size : Int)) (h2 : (1000 : Int) < (h.size : Int)) :
    Calls Tryd.prog 5 #[adV s u h p a q hu hq, .string t] w fun e w' => e = .returned (.bool true) ∧ Below w.heap.size w w' := by
  have HAL := Lib.hid (fun W (hb : Below w.heap.size w W) => alive_true W (hm.below hb))
  have P0 := Lib.hid (CB.new w #[.string s, .string u, .string h, .string p, .string a, .string q, .bool hu, .bool hq])
  unfold adV
  clear hm
  go_enter Tryd.func5, Tryd.ntmps5
  go_wp2_with fail
  have K := HAL.out _ P0.out.2.1
  with_reducible refine K.mono ?_
  rintro e w1 ⟨rfl, b1⟩
  have P1 := Lib.hid (P0.out.up b1)
  clear b1 K P0 HAL
  have c0 := P1.out.c0
  have c1 := P1.out.c1
  have c2 := P1.out.c2
  have c3 := P1.out.c3
  have c4 := P1.out.c4
  have c5 := P1.out.c5
  have c6 := P1.out.c6
  have c7 := P1.out.c7
  go_wp2_with fail
  go_ret
  exact ⟨rfl, P1.out.2.1⟩
set_option maxRecDepth 20000 in
set_option maxHeartbeats 1000000 in
theorem back_big3 (s u h p a q : ByteArray) (hu hq : Bool) (t : ByteArray) (w : World) (hm : ML w) (h0 : ¬ (1000 : Int) < (s.size : Int)) (h1 : ¬ (1000 : Int) < (u.size : Int)) (h2 : ¬ (1000 : Int) < (h.size : Int)) (h3 : (1000 : Int) < (p.size : Int)) :
    Calls Tryd.prog 5 #[adV s u h p a q hu hq, .string t] w fun e w' => e = .returned (.bool true) ∧ Below w.heap.size w w' := by
  have HAL := Lib.hid (fun W (hb : Below w.heap.size w W) => alive_true W (hm.below hb))
  have P0 := Lib.hid (CB.new w #[.string s, .string u, .string h, .string p, .string a, .string q, .bool hu, .bool hq])
  unfold adV
  clear hm
  go_enter Tryd.func5, Tryd.ntmps5
  go_wp2_with fail
  have K := HAL.out _ P0.out.2.1
  with_reducible refine K.mono ?_
  rintro e w1 ⟨rfl, b1⟩
  have P1 := Lib.hid (P0.out.up b1)
  clear b1 K P0 HAL
  have c0 := P1.out.c0
  have c1 := P1.out.c1
  have c2 := P1.out.c2
  have c3 := P1.out.c3
  have c4 := P1.out.c4
  have c5 := P1.out.c5
  have c6 := P1.out.c6
  have c7 := P1.out.c7
  go_wp2_with fail
  go_ret
  exact ⟨rfl, P1.out.2.1⟩
set_option maxRecDepth 20000 in
set_option maxHeartbeats 1000000 in
theorem back_big4 (s u h p a q : ByteArray) (hu hq : Bool) (t : ByteArray) (w : World) (hm : ML w) (h0 : ¬ (1000 : Int) < (s.size : Int)) (h1 : ¬ (1000 : Int) < (u.size : Int)) (h2 : ¬ (1000 : Int) < (h.size : Int)) (h3 : ¬ (1000 : Int) < (p.size : Int)) (h4 : (1000 : Int) < (a.size : Int)) :
    Calls Tryd.prog 5 #[adV s u h p a q hu hq, .string t] w fun e w' => e = .returned (.bool true) ∧ Below w.heap.size w w' := by
  have HAL := Lib.hid (fun W (hb : Below w.heap.size w W) => alive_true W (hm.below hb))
  have P0 := Lib.hid (CB.new w #[.string s, .string u, .string h, .string p, .string a, .string q, .bool hu, .bool hq])
  unfold adV
  clear hm
  go_enter Tryd.func5, Tryd.ntmps5
  go_wp2_with fail
  have K := HAL.out _ P0.out.2.1
  with_reducible refine K.mono ?_
  rintro e w1 ⟨rfl, b1⟩
  have P1 := Lib.hid (P0.out.up b1)
  clear b1 K P0 HAL
  have c0 := P1.out.c0
  have c1 := P1.out.c1
  have c2 := P1.out.c2
  have c3 := P1.out.c3
  have c4 := P1.out.c4
  have c5 := P1.out.c5
  have c6 := P1.out.c6
  have c7 := P1.out.c7
  go_wp2_with fail
  go_ret
  exact ⟨rfl, P1.out.2.1⟩
set_option maxRecDepth 20000 in
set_option maxHeartbeats 1000000 in
theorem back_big5 (s u h p a q : ByteArray) (hu hq : Bool) (t : ByteArray) (w : World) (hm : ML w) (h0 : ¬ (1000 : Int) < (s.size : Int)) (h1 : ¬ (1000 : Int) < (u.size : Int)) (h2 : ¬ (1000 : Int) < (h.size : Int)) (h3 : ¬ (1000 : Int) < (p.size : Int)) (h4 : ¬ (1000 : Int) < (a.size : Int)) (h5 : (1000 : Int) < (q.size : Int)) :
    Calls Tryd.prog 5 #[adV s u h p a q hu hq, .string t] w fun e w' => e = .returned (.bool true) ∧ Below w.heap.size w w' := by
  have HAL := Lib.hid (fun W (hb : Below w.heap.size w W) => alive_true W (hm.below hb))
  have P0 := Lib.hid (CB.new w #[.string s, .string u, .string h, .string p, .string a, .string q, .bool hu, .bool hq])
  unfold adV
  clear hm
  go_enter Tryd.func5, Tryd.ntmps5
  go_wp2_with fail
  have K := HAL.out _ P0.out.2.1
  with_reducible refine K.mono ?_
  rintro e w1 ⟨rfl, b1⟩
  have P1 := Lib.hid (P0.out.up b1)
  clear b1 K P0 HAL
  have c0 := P1.out.c0
  have c1 := P1.out.c1
  have c2 := P1.out.c2
  have c3 := P1.out.c3
  have c4 := P1.out.c4
  have c5 := P1.out.c5
  have c6 := P1.out.c6
  have c7 := P1.out.c7
  go_wp2_with fail
  go_ret
  exact ⟨rfl, P1.out.2.1⟩
set_option maxRecDepth 20000 in
set_option maxHeartbeats 1000000 in
theorem back_big6 (s u h p a q : ByteArray) (hu hq : Bool) (t : ByteArray) (w : World) (hm : ML w) (h0 : ¬ (1000 : Int) < (s.size : Int)) (h1 : ¬ (1000 : Int) < (u.size : Int)) (h2 : ¬ (1000 : Int) < (h.size : Int)) (h3 : ¬ (1000 : Int) < (p.size : Int)) (h4 : ¬ (1000 : Int) < (a.size : Int)) (h5 : ¬ (1000 : Int) < (q.size : Int)) (h6 : (3000 : Int) < (t.size : Int)) :
    Calls Tryd.prog 5 #[adV s u h p a q hu hq, .string t] w fun e w' => e = .returned (.bool true) ∧ Below w.heap.size w w' := by
  have HAL := Lib.hid (fun W (hb : Below w.heap.size w W) => alive_true W (hm.below hb))
  have P0 := Lib.hid (CB.new w #[.string s, .string u, .string h, .string p, .string a, .string q, .bool hu, .bool hq])
  unfold adV
  clear hm
  go_enter Tryd.func5, Tryd.ntmps5
  go_wp2_with fail
  have K := HAL.out _ P0.out.2.1
  with_reducible refine K.mono ?_
  rintro e w1 ⟨rfl, b1⟩
  have P1 := Lib.hid (P0.out.up b1)
  clear b1 K P0 HAL
  have c0 := P1.out.c0
  have c1 := P1.out.c1
  have c2 := P1.out.c2
  have c3 := P1.out.c3
  have c4 := P1.out.c4
  have c5 := P1.out.c5
  have c6 := P1.out.c6
  have c7 := P1.out.c7
  go_wp2_with fail
  go_ret
  exact ⟨rfl, P1.out.2.1⟩
end Go.Proofs.YtjcaadihkbhlhaaDoor
