import Derived.Test.YtjcaadihkbhlhaaDoorM1
namespace Go.Proofs.YtjcaadihkbhlhaaDoor
open Go.RowKit
theorem quo16 (V : Nat) (h : V < 256) : IntKind.i64.wrap ((V : Int) / 16) = ((V / 16 : Nat) : Int) := by
  have := (by decide +kernel : ∀ n : Fin 256, IntKind.i64.wrap (((n : Nat) : Int) / 16) = (((n : Nat) / 16 : Nat) : Int))
  exact this ⟨V, h⟩
theorem rem16 (V : Nat) (h : V < 256) : ((V : Int)).tmod 16 = ((V % 16 : Nat) : Int) := by
  have := (by decide +kernel : ∀ n : Fin 256, (((n : Nat) : Int)).tmod 16 = (((n : Nat) % 16 : Nat) : Int))
  exact this ⟨V, h⟩
set_option maxRecDepth 20000 in
set_option maxHeartbeats 2000000 in
theorem plain_asis (s : ByteArray) (hs : s.size ≤ 1000000) (w : World) : Calls Tryd.prog 51 #[.string s, .bool false] w fun e w' => e = .returned (.string (mk (stl id s.data.toList))) ∧ Below w.heap.size w w' := by
  obtain ⟨i0, hi, hz0, hz1, hz2⟩ := infoB
  obtain ⟨f, hf⟩ : ∃ f : UInt8 → UInt8, f = id := ⟨_, rfl⟩
  have HID := Lib.hid (fun b : UInt8 => (show f b = b from by rw [hf]; rfl))
  rw [← hf]
  clear hf
  have HS := Lib.hid hs
  go_enter Tryd.func51, Tryd.ntmps51
  go_wp2_with fail
  go_loopw [5, 6] (fun s5 s6 wr => ∃ (i : Nat) (acc : List UInt8), i ≤ s.size ∧ s6 = .int .i64 i ∧ wr.ownsRow w.heap.size 5 1 s5 acc.length (acc.map bv) ∧ acc.length ≤ i ∧ acc ++ stl f (s.data.toList.drop i) = stl f s.data.toList ∧ Below w.heap.size w wr) (fun _ s6 _ => s.size - (intOf s6).toNat)
  case atStart => exact ⟨0, [], Nat.zero_le _, rfl, World.ownsRow_nil _ _ _ _, Nat.le_refl _, by rw [List.drop_zero]; rfl, Below.refl _ _⟩
  case round =>
    obtain ⟨i, acc, hi1, rfl, hown, hal, hac, hb⟩ := hrel
    have HO := Lib.hid hown
    have HB := Lib.hid hb
    have HAC := Lib.hid hac
    have HAL := Lib.hid hal
    have hsz := hb.size
    have hsz3 : w.heap.size ≤ wr.heap.size + 1 := by omega
    clear hown hb hac hal
    by_cases hlt : i < s.size
    · have hlt' : (i : Int) < s.size := by omega
      have HAT := Lib.hid (stl_at f s i hlt)
      have CE := Lib.hid (escape_any s i hlt hs wr)
      cases he : esc (s.data.toList.drop i) with
      | false =>
        rw [he] at CE HAT
        clear he
        obtain ⟨c, hc⟩ : ∃ b, b = s[i] := ⟨_, rfl⟩
        rw [← hc] at HAT
        have k0 : ∀ q : i < s.size, (s[i].toNat : Int) = (c.toNat : Nat) := fun q => by rw [hc]
        clear hc
        have c0 : (0 : Int) ≤ (c.toNat : Int) := by omega
        have c1 : (c.toNat : Int) ≤ 255 := by have := UInt8.toNat_lt c; omega
        go_wp2_with fail
        refine (CE.out).mono ?_
        rintro e w1 ⟨rfl, hq1⟩
        have hq2 := hq1.symm
        clear hq1
        subst hq2
        go_wp2_with (at_builtin; refine wpList_append_own _ rfl _ _ 49 rfl w.heap.size 5 i0 (.int .u8 0) 1 1 Tryd.underlying49 hi hz0 hz1 hz2 rfl (by decide) _ _ _ rfl (HO.out.alloc _) ⟨wr.heap.size, 0, none⟩ 1 1 [.int .u8 ((c).toNat : Nat)] rfl rfl (news_at _ _ _ _ rfl) (by intro u hu; simp at hu; subst hu; rfl) (by have := HAL.out; have := HS.out; unfold maxLen; omega) (by have := HAL.out; have := HS.out; omega) (by simpa using hsz3) ?_; intro v1 w3 ho1 hg1 _)
        go_roundw
        case rel => exact ⟨i + 1, acc ++ [f c], by omega, by go_num, by rw [List.length_append, List.map_append]; rw [HID.out c]; exact ho1, by have := HAL.out; simp; omega, by rw [← HAC.out, HAT.out]; simp, (HB.out.alloc HB.out.size _).grown hg1 (by have := HB.out.size; show w.heap.size ≤ (wr.heap.push _).size; simp; omega) (fun q hq => (HO.out.lt q hq).1)⟩
        case measure => simp [intOf]; omega
      | true =>
        have h2 := (esc_first hlt he).2
        obtain ⟨E1, E2, E3⟩ := esc_two h2 he
        rw [he] at CE HAT
        clear he
        have HX1 := Lib.hid (fun W => value_any s[i + 1] W)
        have HX2 := Lib.hid (fun W => value_any s[i + 2] W)
        rw [E1] at HX1
        rw [E2] at HX2
        have p1 := hexN_lt s[i + 1].toNat
        have r1 := hexN_lt s[i + 2].toNat
        obtain ⟨x, hx⟩ : ∃ x : Int, x = ((hexN s[i + 1].toNat : Nat) : Int) := ⟨_, rfl⟩
        obtain ⟨y, hy⟩ : ∃ x : Int, x = ((hexN s[i + 2].toNat : Nat) : Int) := ⟨_, rfl⟩
        rw [← hx] at HX1
        rw [← hy] at HX2
        obtain ⟨V, hV⟩ : ∃ V, V = escV (s.data.toList.drop i) := ⟨_, rfl⟩
        rw [← hV] at HAT E3
        clear hV
        have hVi : (V : Int) = 16 * x + y := by omega
        have hVl : V < 256 := by omega
        have q0 : (0 : Int) ≤ 16 * x + y := by omega
        have q1 : 16 * x + y ≤ 255 := by omega
        have x0 : (0 : Int) ≤ x := by omega
        have x1 : x ≤ 15 := by omega
        have y0 : (0 : Int) ≤ y := by omega
        have y1 : y ≤ 15 := by omega
        clear hx hy p1 r1 E1 E2 E3
        obtain ⟨u, hu⟩ : ∃ u : Int, u = (s[i + 1].toNat : Nat) := ⟨_, rfl⟩
        obtain ⟨v, hv⟩ : ∃ v : Int, v = (s[i + 2].toNat : Nat) := ⟨_, rfl⟩
        rw [← hu] at HX1
        rw [← hv] at HX2
        have k1 : ∀ q : i + 1 < s.size, (s[i + 1].toNat : Int) = u := fun q => by rw [hu]
        have k2 : ∀ q : i + 2 < s.size, (s[i + 2].toNat : Int) = v := fun q => by rw [hv]
        clear hu hv
        have g1 : (i : Int) + 2 < s.size := by omega
        have g3 : (i : Int) + 1 < s.size := by omega
        have t1 : ((i : Int) + 1).toNat = i + 1 := by omega
        have t2 : ((i : Int) + 2).toNat = i + 2 := by omega
        have hbV : (UInt8.ofNat V).toNat = V := by simp; omega
        have HF := Lib.hid (fun W => free_any (UInt8.ofNat V) W)
        rw [hbV] at HF
        obtain ⟨c, hc⟩ : ∃ c, c = UInt8.ofNat V := ⟨_, rfl⟩
        rw [← hc] at HF HAT hbV
        clear hc
        replace hVi := Lib.hid hVi
        replace hbV := Lib.hid hbV
        have v0 : (0 : Int) ≤ (V : Int) := by omega
        have v1 : (V : Int) ≤ 255 := by omega
        cases hg : freeB c with
        | true =>
          rw [hg] at HF HAT
          clear hg
          go_wp2_with fail
          refine (CE.out).mono ?_
          rintro e w1 ⟨rfl, hq1⟩
          have hq2 := hq1.symm
          clear hq1
          subst hq2
          go_wp2_with (first | (go_quiet (first | (go_at_call 68; first | with_reducible exact Calls.quiet_of_same (HX1.out _) | with_reducible exact Calls.quiet_of_same (HX2.out _)))))
          rw [← hVi.out]
          clear q0 q1 hVi x0 x1 y0 y1 HX1 HX2 k1 k2
          obtain ⟨W1, hW1⟩ : ∃ W1, W1 = wr.drewN nq := ⟨_, rfl⟩
          have HO1 : Hid (W1.ownsRow w.heap.size 5 1 u5 acc.length (acc.map bv)) := Lib.hid (by rw [hW1]; exact HO.out)
          have HB1 : Hid (Below w.heap.size w W1) := Lib.hid (by rw [hW1]; exact below_dr HB.out nq)
          have hsz4 : w.heap.size ≤ W1.heap.size + 1 := by have := HB1.out.size; omega
          rw [← hW1]
          clear hW1 HO HB
          with_reducible refine (HF.out _).mono ?_
          rintro e w2 ⟨rfl, hq1⟩
          have hq2 := hq1.symm
          clear hq1
          subst hq2

          have HZ : Hid ([Value.int .u8 ((V : Nat) : Int)] = [c].map bv) := Lib.hid (by simp only [List.map_cons, List.map_nil, bv, hbV.out])
          go_wp2_with (at_builtin; refine wpList_append_own _ rfl _ _ 49 rfl w.heap.size 5 i0 (.int .u8 0) 1 1 Tryd.underlying49 hi hz0 hz1 hz2 rfl (by decide) _ _ _ rfl (HO1.out.alloc _) ⟨W1.heap.size, 0, none⟩ 1 1 [.int .u8 (V : Nat)] rfl rfl (news_at _ _ _ _ rfl) (by intro u hu; simp at hu; subst hu; rfl) (by have := HAL.out; have := HS.out; unfold maxLen; omega) (by have := HAL.out; have := HS.out; omega) (by simpa using hsz4) ?_; intro v1 w3 ho1 hg1 _)
          go_roundw
          case rel => exact ⟨i + 3, acc ++ [f c], by omega, by go_num, by rw [List.length_append, List.map_append]; rw [HID.out c, ← HZ.out]; exact ho1, by have := HAL.out; simp; omega, by rw [← HAC.out, HAT.out]; simp, (HB1.out.alloc HB1.out.size _).grown hg1 (by have := HB1.out.size; show w.heap.size ≤ (W1.heap.push _).size; simp; omega) (fun q hq => (HO1.out.lt q hq).1)⟩
          case measure => simp [intOf]; omega
        | false =>
          rw [hg] at HF HAT
          clear hg
          go_wp2_with fail
          refine (CE.out).mono ?_
          rintro e w1 ⟨rfl, hq1⟩
          have hq2 := hq1.symm
          clear hq1
          subst hq2
          go_wp2_with (first | (go_quiet (first | (go_at_call 68; first | with_reducible exact Calls.quiet_of_same (HX1.out _) | with_reducible exact Calls.quiet_of_same (HX2.out _)))))
          rw [← hVi.out]
          clear q0 q1 hVi x0 x1 y0 y1 HX1 HX2 k1 k2
          obtain ⟨W1, hW1⟩ : ∃ W1, W1 = wr.drewN nq := ⟨_, rfl⟩
          have HO1 : Hid (W1.ownsRow w.heap.size 5 1 u5 acc.length (acc.map bv)) := Lib.hid (by rw [hW1]; exact HO.out)
          have HB1 : Hid (Below w.heap.size w W1) := Lib.hid (by rw [hW1]; exact below_dr HB.out nq)
          have hsz4 : w.heap.size ≤ W1.heap.size + 1 := by have := HB1.out.size; omega
          rw [← hW1]
          clear hW1 HO HB
          with_reducible refine (HF.out _).mono ?_
          rintro e w2 ⟨rfl, hq1⟩
          have hq2 := hq1.symm
          clear hq1
          subst hq2
          have hd1 := fun w k => hexU_at (V / 16) (by omega) w k
          have hd2 := fun w k => hexU_at (V % 16) (by omega) w k
          rw [← quo16 V hVl] at hd1
          rw [← rem16 V hVl] at hd2
          unfold bv at hd1 hd2
          go_wp2_with fail
          go_region_law (refine step_append_own rfl (.tmp 39) (.tmp 46) 49 rfl 5 i0 (.int .u8 0) 1 1 Tryd.underlying49 hi hz0 hz1 hz2 rfl (by decide) w.heap.size _ _ _ (by simp [Act.eval]) (HO1.out.drew.alloc _) ⟨W1.heap.size, 0, none⟩ 3 3 [.int .u8 37, .int .u8 ((digU (V / 16)).toNat : Nat), .int .u8 ((digU (V % 16)).toNat : Nat)] (by simp [Act.eval]) rfl (news_at W1.drew _ _ _ rfl) (by intro u hu; simp at hu; rcases hu with rfl | rfl | rfl <;> rfl) (by have := HAL.out; have := HS.out; unfold maxLen; omega) (by have := HAL.out; have := HS.out; omega) (by have := HB1.out.size; show w.heap.size ≤ (W1.heap.push _).size; simp; omega) ?_; intro v' w' ho hg)
          all_goals (go_wp2_with fail)
          all_goals go_roundw
          all_goals first
            | exact ⟨i + 3, acc ++ [37, digU (V / 16), digU (V % 16)], by omega, by go_num, by rw [List.length_append, List.map_append]; exact ho, by have := HAL.out; simp; omega, by rw [← HAC.out, HAT.out]; simp, (HB1.out.drew.alloc HB1.out.size _).grown hg (by have := HB1.out.size; show w.heap.size ≤ (W1.heap.push _).size; simp; omega) (fun q hq => (HO1.out.lt q hq).1)⟩
            | (simp [intOf]; omega)
    · obtain rfl : i = s.size := by omega
      have hl : s.data.toList.drop s.size = [] := by rw [List.drop_eq_nil_of_le]; rw [data_len]; exact Nat.le_refl _
      have hcv := conv_own HO.out
      rw [hl, stl_nil, List.append_nil] at HAC
      rw [HAC.out] at hcv
      go_wp2_with fail
      go_ret
      exact ⟨rfl, HB.out⟩
set_option maxRecDepth 20000 in
set_option maxHeartbeats 2000000 in
theorem plain_low (s : ByteArray) (hs : s.size ≤ 1000000) (w : World) : Calls Tryd.prog 51 #[.string s, .bool true] w fun e w' => e = .returned (.string (mk (stl Lib.lowerB s.data.toList))) ∧ Below w.heap.size w w' := by
  obtain ⟨i0, hi, hz0, hz1, hz2⟩ := infoB
  have HSm := Lib.hid (fun b W => small_any b W)
  obtain ⟨f, hf⟩ : ∃ f : UInt8 → UInt8, f = Lib.lowerB := ⟨_, rfl⟩
  rw [← hf] at HSm ⊢
  clear hf
  have HS := Lib.hid hs
  go_enter Tryd.func51, Tryd.ntmps51
  go_wp2_with fail
  go_loopw [5, 6] (fun s5 s6 wr => ∃ (i : Nat) (acc : List UInt8), i ≤ s.size ∧ s6 = .int .i64 i ∧ wr.ownsRow w.heap.size 5 1 s5 acc.length (acc.map bv) ∧ acc.length ≤ i ∧ acc ++ stl f (s.data.toList.drop i) = stl f s.data.toList ∧ Below w.heap.size w wr) (fun _ s6 _ => s.size - (intOf s6).toNat)
  case atStart => exact ⟨0, [], Nat.zero_le _, rfl, World.ownsRow_nil _ _ _ _, Nat.le_refl _, by rw [List.drop_zero]; rfl, Below.refl _ _⟩
  case round =>
    obtain ⟨i, acc, hi1, rfl, hown, hal, hac, hb⟩ := hrel
    have HO := Lib.hid hown
    have HB := Lib.hid hb
    have HAC := Lib.hid hac
    have HAL := Lib.hid hal
    have hsz := hb.size
    have hsz3 : w.heap.size ≤ wr.heap.size + 1 := by omega
    clear hown hb hac hal
    by_cases hlt : i < s.size
    · have hlt' : (i : Int) < s.size := by omega
      have HAT := Lib.hid (stl_at f s i hlt)
      have CE := Lib.hid (escape_any s i hlt hs wr)
      cases he : esc (s.data.toList.drop i) with
      | false =>
        rw [he] at CE HAT
        clear he
        obtain ⟨c, hc⟩ : ∃ b, b = s[i] := ⟨_, rfl⟩
        rw [← hc] at HAT
        have k0 : ∀ q : i < s.size, (s[i].toNat : Int) = (c.toNat : Nat) := fun q => by rw [hc]
        clear hc
        have c0 : (0 : Int) ≤ (c.toNat : Int) := by omega
        have c1 : (c.toNat : Int) ≤ 255 := by have := UInt8.toNat_lt c; omega
        go_wp2_with fail
        refine (CE.out).mono ?_
        rintro e w1 ⟨rfl, hq1⟩
        have hq2 := hq1.symm
        clear hq1
        subst hq2
        go_wp2_with fail
        refine (HSm.out c _).mono ?_
        rintro e w2 ⟨rfl, hq1⟩
        have hq2 := hq1.symm
        clear hq1
        subst hq2
        go_wp2_with (at_builtin; refine wpList_append_own _ rfl _ _ 49 rfl w.heap.size 5 i0 (.int .u8 0) 1 1 Tryd.underlying49 hi hz0 hz1 hz2 rfl (by decide) _ _ _ rfl (HO.out.alloc _) ⟨wr.heap.size, 0, none⟩ 1 1 [.int .u8 ((f c).toNat : Nat)] rfl rfl (news_at _ _ _ _ rfl) (by intro u hu; simp at hu; subst hu; rfl) (by have := HAL.out; have := HS.out; unfold maxLen; omega) (by have := HAL.out; have := HS.out; omega) (by simpa using hsz3) ?_; intro v1 w3 ho1 hg1 _)
        go_roundw
        case rel => exact ⟨i + 1, acc ++ [f c], by omega, by go_num, by rw [List.length_append, List.map_append]; exact ho1, by have := HAL.out; simp; omega, by rw [← HAC.out, HAT.out]; simp, (HB.out.alloc HB.out.size _).grown hg1 (by have := HB.out.size; show w.heap.size ≤ (wr.heap.push _).size; simp; omega) (fun q hq => (HO.out.lt q hq).1)⟩
        case measure => simp [intOf]; omega
      | true =>
        have h2 := (esc_first hlt he).2
        obtain ⟨E1, E2, E3⟩ := esc_two h2 he
        rw [he] at CE HAT
        clear he
        have HX1 := Lib.hid (fun W => value_any s[i + 1] W)
        have HX2 := Lib.hid (fun W => value_any s[i + 2] W)
        rw [E1] at HX1
        rw [E2] at HX2
        have p1 := hexN_lt s[i + 1].toNat
        have r1 := hexN_lt s[i + 2].toNat
        obtain ⟨x, hx⟩ : ∃ x : Int, x = ((hexN s[i + 1].toNat : Nat) : Int) := ⟨_, rfl⟩
        obtain ⟨y, hy⟩ : ∃ x : Int, x = ((hexN s[i + 2].toNat : Nat) : Int) := ⟨_, rfl⟩
        rw [← hx] at HX1
        rw [← hy] at HX2
        obtain ⟨V, hV⟩ : ∃ V, V = escV (s.data.toList.drop i) := ⟨_, rfl⟩
        rw [← hV] at HAT E3
        clear hV
        have hVi : (V : Int) = 16 * x + y := by omega
        have hVl : V < 256 := by omega
        have q0 : (0 : Int) ≤ 16 * x + y := by omega
        have q1 : 16 * x + y ≤ 255 := by omega
        have x0 : (0 : Int) ≤ x := by omega
        have x1 : x ≤ 15 := by omega
        have y0 : (0 : Int) ≤ y := by omega
        have y1 : y ≤ 15 := by omega
        clear hx hy p1 r1 E1 E2 E3
        obtain ⟨u, hu⟩ : ∃ u : Int, u = (s[i + 1].toNat : Nat) := ⟨_, rfl⟩
        obtain ⟨v, hv⟩ : ∃ v : Int, v = (s[i + 2].toNat : Nat) := ⟨_, rfl⟩
        rw [← hu] at HX1
        rw [← hv] at HX2
        have k1 : ∀ q : i + 1 < s.size, (s[i + 1].toNat : Int) = u := fun q => by rw [hu]
        have k2 : ∀ q : i + 2 < s.size, (s[i + 2].toNat : Int) = v := fun q => by rw [hv]
        clear hu hv
        have g1 : (i : Int) + 2 < s.size := by omega
        have g3 : (i : Int) + 1 < s.size := by omega
        have t1 : ((i : Int) + 1).toNat = i + 1 := by omega
        have t2 : ((i : Int) + 2).toNat = i + 2 := by omega
        have hbV : (UInt8.ofNat V).toNat = V := by simp; omega
        have HF := Lib.hid (fun W => free_any (UInt8.ofNat V) W)
        rw [hbV] at HF
        obtain ⟨c, hc⟩ : ∃ c, c = UInt8.ofNat V := ⟨_, rfl⟩
        rw [← hc] at HF HAT hbV
        clear hc
        replace hVi := Lib.hid hVi
        replace hbV := Lib.hid hbV
        have v0 : (0 : Int) ≤ (V : Int) := by omega
        have v1 : (V : Int) ≤ 255 := by omega
        cases hg : freeB c with
        | true =>
          rw [hg] at HF HAT
          clear hg
          go_wp2_with fail
          refine (CE.out).mono ?_
          rintro e w1 ⟨rfl, hq1⟩
          have hq2 := hq1.symm
          clear hq1
          subst hq2
          go_wp2_with (first | (go_quiet (first | (go_at_call 68; first | with_reducible exact Calls.quiet_of_same (HX1.out _) | with_reducible exact Calls.quiet_of_same (HX2.out _)))))
          rw [← hVi.out]
          clear q0 q1 hVi x0 x1 y0 y1 HX1 HX2 k1 k2
          obtain ⟨W1, hW1⟩ : ∃ W1, W1 = wr.drewN nq := ⟨_, rfl⟩
          have HO1 : Hid (W1.ownsRow w.heap.size 5 1 u5 acc.length (acc.map bv)) := Lib.hid (by rw [hW1]; exact HO.out)
          have HB1 : Hid (Below w.heap.size w W1) := Lib.hid (by rw [hW1]; exact below_dr HB.out nq)
          have hsz4 : w.heap.size ≤ W1.heap.size + 1 := by have := HB1.out.size; omega
          rw [← hW1]
          clear hW1 HO HB
          with_reducible refine (HF.out _).mono ?_
          rintro e w2 ⟨rfl, hq1⟩
          have hq2 := hq1.symm
          clear hq1
          subst hq2

          have HSc := Lib.hid (fun W => HSm.out c W)
          rw [hbV.out] at HSc
          go_wp2_with fail
          with_reducible refine (HSc.out _).mono ?_
          rintro e w2 ⟨rfl, hq1⟩
          have hq2 := hq1.symm
          clear hq1
          subst hq2
          go_wp2_with (at_builtin; refine wpList_append_own _ rfl _ _ 49 rfl w.heap.size 5 i0 (.int .u8 0) 1 1 Tryd.underlying49 hi hz0 hz1 hz2 rfl (by decide) _ _ _ rfl (HO1.out.alloc _) ⟨W1.heap.size, 0, none⟩ 1 1 [.int .u8 ((f c).toNat : Nat)] rfl rfl (news_at _ _ _ _ rfl) (by intro u hu; simp at hu; subst hu; rfl) (by have := HAL.out; have := HS.out; unfold maxLen; omega) (by have := HAL.out; have := HS.out; omega) (by simpa using hsz4) ?_; intro v1 w3 ho1 hg1 _)
          go_roundw
          case rel => exact ⟨i + 3, acc ++ [f c], by omega, by go_num, by rw [List.length_append, List.map_append];  exact ho1, by have := HAL.out; simp; omega, by rw [← HAC.out, HAT.out]; simp, (HB1.out.alloc HB1.out.size _).grown hg1 (by have := HB1.out.size; show w.heap.size ≤ (W1.heap.push _).size; simp; omega) (fun q hq => (HO1.out.lt q hq).1)⟩
          case measure => simp [intOf]; omega
        | false =>
          rw [hg] at HF HAT
          clear hg
          go_wp2_with fail
          refine (CE.out).mono ?_
          rintro e w1 ⟨rfl, hq1⟩
          have hq2 := hq1.symm
          clear hq1
          subst hq2
          go_wp2_with (first | (go_quiet (first | (go_at_call 68; first | with_reducible exact Calls.quiet_of_same (HX1.out _) | with_reducible exact Calls.quiet_of_same (HX2.out _)))))
          rw [← hVi.out]
          clear q0 q1 hVi x0 x1 y0 y1 HX1 HX2 k1 k2
          obtain ⟨W1, hW1⟩ : ∃ W1, W1 = wr.drewN nq := ⟨_, rfl⟩
          have HO1 : Hid (W1.ownsRow w.heap.size 5 1 u5 acc.length (acc.map bv)) := Lib.hid (by rw [hW1]; exact HO.out)
          have HB1 : Hid (Below w.heap.size w W1) := Lib.hid (by rw [hW1]; exact below_dr HB.out nq)
          have hsz4 : w.heap.size ≤ W1.heap.size + 1 := by have := HB1.out.size; omega
          rw [← hW1]
          clear hW1 HO HB
          with_reducible refine (HF.out _).mono ?_
          rintro e w2 ⟨rfl, hq1⟩
          have hq2 := hq1.symm
          clear hq1
          subst hq2
          have hd1 := fun w k => hexU_at (V / 16) (by omega) w k
          have hd2 := fun w k => hexU_at (V % 16) (by omega) w k
          rw [← quo16 V hVl] at hd1
          rw [← rem16 V hVl] at hd2
          unfold bv at hd1 hd2
          go_wp2_with fail
          go_region_law (refine step_append_own rfl (.tmp 39) (.tmp 46) 49 rfl 5 i0 (.int .u8 0) 1 1 Tryd.underlying49 hi hz0 hz1 hz2 rfl (by decide) w.heap.size _ _ _ (by simp [Act.eval]) (HO1.out.drew.alloc _) ⟨W1.heap.size, 0, none⟩ 3 3 [.int .u8 37, .int .u8 ((digU (V / 16)).toNat : Nat), .int .u8 ((digU (V % 16)).toNat : Nat)] (by simp [Act.eval]) rfl (news_at W1.drew _ _ _ rfl) (by intro u hu; simp at hu; rcases hu with rfl | rfl | rfl <;> rfl) (by have := HAL.out; have := HS.out; unfold maxLen; omega) (by have := HAL.out; have := HS.out; omega) (by have := HB1.out.size; show w.heap.size ≤ (W1.heap.push _).size; simp; omega) ?_; intro v' w' ho hg)
          all_goals (go_wp2_with fail)
          all_goals go_roundw
          all_goals first
            | exact ⟨i + 3, acc ++ [37, digU (V / 16), digU (V % 16)], by omega, by go_num, by rw [List.length_append, List.map_append]; exact ho, by have := HAL.out; simp; omega, by rw [← HAC.out, HAT.out]; simp, (HB1.out.drew.alloc HB1.out.size _).grown hg (by have := HB1.out.size; show w.heap.size ≤ (W1.heap.push _).size; simp; omega) (fun q hq => (HO1.out.lt q hq).1)⟩
            | (simp [intOf]; omega)
    · obtain rfl : i = s.size := by omega
      have hl : s.data.toList.drop s.size = [] := by rw [List.drop_eq_nil_of_le]; rw [data_len]; exact Nat.le_refl _
      have hcv := conv_own HO.out
      rw [hl, stl_nil, List.append_nil] at HAC
      rw [HAC.out] at hcv
      go_wp2_with fail
      go_ret
      exact ⟨rfl, HB.out⟩
end Go.Proofs.YtjcaadihkbhlhaaDoor
