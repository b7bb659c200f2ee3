import Derived.Test.YtjcaadihkbhlhaaDoorJ5
import Derived.Deep.DeepCutAuto
namespace Go.Proofs.YtjcaadihkbhlhaaDoor
open Go.RowKit
set_option maxRecDepth 20000 in
set_option maxHeartbeats 4000000 in
theorem back_small (s u h p a q : ByteArray) (hu hq : Bool) (t : ByteArray) (w : World) (hm : ML w) (h0 : ¬ (1000 : Int) < (s.size : Int)) (h1 : ¬ (1000 : Int) < (u.size : Int)) (h2 : ¬ (1000 : Int) < (h.size : Int)) (h3 : ¬ (1000 : Int) < (p.size : Int)) (h4 : ¬ (1000 : Int) < (a.size : Int)) (h5 : ¬ (1000 : Int) < (q.size : Int)) (h6 : ¬ (3000 : Int) < (t.size : Int)) :
    Calls Tryd.prog 5 #[adV s u h p a q hu hq, .string t] w fun e w' => e = .returned (.bool true) ∧ Below w.heap.size w w' := by
  have HX := Lib.hid (fun W => text_any s u h p a q hu hq (by omega) (by omega) (by omega) (by omega) (by omega) (by omega) W)
  have HTL : Hid (mayP s u h p a q hu hq = true → ∀ W, Below w.heap.size w W → Calls Tryd.prog 7 #[.string (joinT s u h p a q hu hq), adV s u h p a q hu hq] W fun e w' => e = .returned (.bool true) ∧ Below W.heap.size W w') :=
    Lib.hid (fun ho W hb => tells_true _ s u h p a q hu hq (back_parts _ _ _ _ _ _ _ _ ho).1 (back_parts _ _ _ _ _ _ _ _ ho).2 W (hm.below hb))
  have HPN : Hid (okP t = false → ∀ W, Below w.heap.size w W → Calls Tryd.prog 10 #[.string t] W fun e w' => e = .returned (.tuple #[adZ, .int .i64 150]) ∧ Below W.heap.size W w') :=
    Lib.hid (fun hn W hb => parse_not t hn W (hm.below hb))
  have HPY : Hid (okP t = true → ∃ (x1 x2 x3 x4 x5 x6 X2 : ByteArray) (y1 y2 : Bool), Hid (X2 = t ∨ (x4 = ⟨#[]⟩ ∧ X2.size + 1 = t.size)) ∧
      Hid (∀ W, Below w.heap.size w W → Calls Tryd.prog 10 #[.string t] W fun e w' => e = .returned (.tuple #[adV x1 x2 x3 x4 x5 x6 y1 y2, .int .i64 0]) ∧ Below W.heap.size W w') ∧
      Hid (∀ W, Calls Tryd.prog 14 #[adV x1 x2 x3 x4 x5 x6 y1 y2] W fun e w' => e = .returned (.tuple #[.string X2, .int .i64 0]) ∧ Below W.heap.size W w') ∧
      Hid (∀ W, Below w.heap.size w W → Calls Tryd.prog 7 #[.string X2, adV x1 x2 x3 x4 x5 x6 y1 y2] W fun e w' => e = .returned (.bool true) ∧ Below W.heap.size W w')) := Lib.hid (fun hy => by
    obtain ⟨x1, x2, x3, x4, x5, x6, y1, y2, e1, e2, e3, e4⟩ := ad_names t hy
    refine ⟨x1, x2, x3, x4, x5, x6, txtS t, y1, y2, Lib.hid ?_, Lib.hid (fun W hb => parse_yes t x1 x2 x3 x4 x5 x6 y1 y2 hy e1 W (hm.below hb)), Lib.hid (fun W => ?_), Lib.hid (fun W hb => tells_true (txtS t) x1 x2 x3 x4 x5 x6 y1 y2 e3 e4 W (hm.below hb))⟩
    · rcases back_text t (ok_ix t hy).1 with g | ⟨g1, g2⟩
      · exact .inl g
      · exact .inr ⟨by rw [e2, g1]; rfl, g2⟩
    · have K := text_of t hy W
      rw [e1] at K
      exact K)
  obtain ⟨ok, hok⟩ : ∃ ok, ok = okP t := ⟨_, rfl⟩
  rw [← hok] at HPN HPY
  clear hok
  have HZ := Lib.hid (fun W => text_zero W)
  obtain ⟨J, hJ⟩ : ∃ J, J = joinT s u h p a q hu hq := ⟨_, rfl⟩
  obtain ⟨o, ho⟩ : ∃ o, o = mayP s u h p a q hu hq := ⟨_, rfl⟩
  rw [← hJ] at HX HTL
  rw [← ho] at HX HTL
  clear hJ ho
  obtain ⟨X, hX⟩ : ∃ X, X = textE o J := ⟨_, rfl⟩
  obtain ⟨E, hE⟩ : ∃ E, E = numE o := ⟨_, rfl⟩
  rw [← hX, ← hE] at HX
  replace hX := Lib.hid hX
  replace hE := Lib.hid hE
  unfold adV at HX HTL
  unfold adZ adV at HPN HZ
  have ht1 : (t.size : Int) ≤ 3000 := by omega
  have HAL := Lib.hid (fun W (hb : Below w.heap.size w W) => alive_true W (hm.below hb))
  have P0 := Lib.hid (CB.new w #[.string s, .string u, .string h, .string p, .string a, .string q, .bool hu, .bool hq])
  unfold adV
  clear hm
  go_enter Tryd.func5, Tryd.ntmps5
  go_wp2_with fail
  have K := HAL.out _ P0.out.2.1
  with_reducible refine K.mono ?_
  rintro e w1 ⟨rfl, b1⟩
  have P1 := Lib.hid (P0.out.up b1)
  clear b1 K P0 HAL
  have c0 := P1.out.c0
  have c1 := P1.out.c1
  have c2 := P1.out.c2
  have c3 := P1.out.c3
  have c4 := P1.out.c4
  have c5 := P1.out.c5
  have c6 := P1.out.c6
  have c7 := P1.out.c7
  go_wp2_with fail
  with_reducible refine (HX.out _).mono ?_
  rintro e w2 ⟨rfl, b2⟩
  have P2 := Lib.hid (P1.out.up b2)
  clear b2 P1 HX c0 c1 c2 c3 c4 c5 c6 c7 h0 h1 h2 h3 h4 h5 h6
  go_upto_region 5 with fail
  go_cut [77] (fun v wx => v = .bool false ∧ CB w.heap.size w #[.string s, .string u, .string h, .string p, .string a, .string q, .bool hu, .bool hq] wx)
  case first =>
    as_aux_lemma =>
      have c0 := P2.out.c0
      have c1 := P2.out.c1
      have c2 := P2.out.c2
      have c3 := P2.out.c3
      have c4 := P2.out.c4
      have c5 := P2.out.c5
      have c6 := P2.out.c6
      have c7 := P2.out.c7
      cases o with
      | true =>
        obtain rfl : E = 0 := hE.out
        obtain rfl : X = J := hX.out
        go_wp2_with fail
        have K := HTL.out (by trivial) _ P2.out.2.1
        with_reducible refine K.mono ?_
        rintro e w3 ⟨rfl, b3⟩
        have P3 := Lib.hid (P2.out.up b3)
        clear b3 P2 K
        go_wp2_with fail
        go_meet
        exact ⟨rfl, P3.out⟩
      | false =>
        obtain rfl : E = 150 := hE.out
        obtain rfl : X = ⟨#[]⟩ := hX.out
        go_wp2_with fail
        go_meet
        exact ⟨rfl, P2.out⟩
  case rest =>
    obtain ⟨rfl, hcb⟩ := hcut
    have P3 := Lib.hid hcb
    clear hcb P2 hX hE HTL
    go_wp2_with fail
    cases ok with
    | false =>
      have K := HPN.out rfl _ P3.out.2.1
      with_reducible refine K.mono ?_
      rintro e w4 ⟨rfl, b4⟩
      have P4 := Lib.hid (P3.out.up b4)
      have P5 := Lib.hid (P4.out.2.1.alloc (o := .cells #[.string ⟨#[]⟩, .string ⟨#[]⟩, .string ⟨#[]⟩, .string ⟨#[]⟩, .string ⟨#[]⟩, .string ⟨#[]⟩, .bool false, .bool false] 24) P4.out.2.1.size)
      clear b4 K P3 HPY
      go_wp2_with fail
      with_reducible refine (HZ.out _).mono ?_
      rintro e w5 ⟨rfl, b5⟩
      have P6 := Lib.hid (P5.out.trans (b5.mono P5.out.size))
      clear b5 P5 P4 HPN
      cases hte : t.toList.isEmpty with
      | true =>
        go_wp2_with fail
        go_ret
        exact ⟨rfl, P6.out⟩
      | false =>
        go_wp2_with fail
        go_ret
        exact ⟨rfl, P6.out⟩
    | true =>
      obtain ⟨x1, x2, x3, x4, x5, x6, X2, y1, y2, HB, HP, HTX, HTE⟩ := HPY.out rfl
      unfold adV at HP HTX HTE
      have K := HP.out _ P3.out.2.1
      with_reducible refine K.mono ?_
      rintro e w4 ⟨rfl, b4⟩
      have Q4 := Lib.hid (show CB w4.heap.size w #[.string x1, .string x2, .string x3, .string x4, .string x5, .string x6, .bool y1, .bool y2] (w4.alloc (.cells #[.string x1, .string x2, .string x3, .string x4, .string x5, .string x6, .bool y1, .bool y2] 24)) from ⟨VB.new _ _ _, (P3.out.up b4).2.1.alloc (P3.out.up b4).2.1.size _, (P3.out.up b4).2.1.size⟩)
      clear b4 K P3 HPY HPN
      go_wp2_with fail
      with_reducible refine (HTX.out _).mono ?_
      rintro e w5 ⟨rfl, b5⟩
      have Q5 := Lib.hid (Q4.out.up b5)
      obtain ⟨k8, hk8⟩ : ∃ k, k = w4.heap.size := ⟨_, rfl⟩
      rw [← hk8] at Q5 ⊢
      clear b5 Q4 HP HTX hk8 HZ
      have c0 := Q5.out.c0
      have c1 := Q5.out.c1
      have c2 := Q5.out.c2
      have c3 := Q5.out.c3
      have c4 := Q5.out.c4
      have c5 := Q5.out.c5
      have c6 := Q5.out.c6
      have c7 := Q5.out.c7
      rcases HB.out with rfl | ⟨rfl, hz⟩
      · clear HB
        go_wp2_with fail
        go_ret
        exact ⟨rfl, Q5.out.2.1⟩
      · have hne : (X2.toList == t.toList) = false := by
          rw [beq_eq_false_iff_ne]
          intro q
          rw [ByteArray.toList_eq, ByteArray.toList_eq] at q
          have h1 := data_len X2
          have h2 := data_len t
          rw [q] at h1
          omega
        have hz1 : (t.size : Int) - 1 = (X2.size : Int) := by omega
        have hz0 : (1 : Int) ≤ t.size := by omega
        clear HB hz
        go_wp2_with fail
        have K := HTE.out _ Q5.out.2.1
        with_reducible refine K.mono ?_
        rintro e w6 ⟨rfl, b6⟩
        have Q6 := Lib.hid (Q5.out.up b6)
        clear b6 K Q5 c0 c1 c2 c3 c4 c5 c6 c7
        go_wp2_with fail
        go_ret
        exact ⟨rfl, Q6.out.2.1⟩
theorem back_any (s u h p a q : ByteArray) (hu hq : Bool) (t : ByteArray) (w : World) (hm : ML w) :
    Calls Tryd.prog 5 #[adV s u h p a q hu hq, .string t] w fun e w' => e = .returned (.bool true) ∧ Below w.heap.size w w' := by
  by_cases h0 : (1000 : Int) < (s.size : Int)
  · exact back_big0 s u h p a q hu hq t w hm h0
  by_cases h1 : (1000 : Int) < (u.size : Int)
  · exact back_big1 s u h p a q hu hq t w hm h0 h1
  by_cases h2 : (1000 : Int) < (h.size : Int)
  · exact back_big2 s u h p a q hu hq t w hm h0 h1 h2
  by_cases h3 : (1000 : Int) < (p.size : Int)
  · exact back_big3 s u h p a q hu hq t w hm h0 h1 h2 h3
  by_cases h4 : (1000 : Int) < (a.size : Int)
  · exact back_big4 s u h p a q hu hq t w hm h0 h1 h2 h3 h4
  by_cases h5 : (1000 : Int) < (q.size : Int)
  · exact back_big5 s u h p a q hu hq t w hm h0 h1 h2 h3 h4 h5
  by_cases h6 : (3000 : Int) < (t.size : Int)
  · exact back_big6 s u h p a q hu hq t w hm h0 h1 h2 h3 h4 h5 h6
  exact back_small s u h p a q hu hq t w hm h0 h1 h2 h3 h4 h5 h6
end Go.Proofs.YtjcaadihkbhlhaaDoor
