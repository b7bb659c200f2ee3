import Derived.Test.YtiikohbnfbpjeaaDoorM19
namespace Go.Proofs.YtiikohbnfbpjeaaDoor
open Go.RowKit
set_option maxRecDepth 20000 in
set_option maxHeartbeats 4000000 in
theorem sums_law (a p b q c r : Int) (w : World) (hT : TL w) (a1 : -9223372036854775808 ≤ a) (a2 : a ≤ 9223372036854775807) (_ : -9223372036854775808 ≤ p) (_ : p ≤ 9223372036854775807) (b1 : -9223372036854775808 ≤ b) (b2 : b ≤ 9223372036854775807) (_ : -9223372036854775808 ≤ q) (_ : q ≤ 9223372036854775807) (c1 : -9223372036854775808 ≤ c) (c2 : c ≤ 9223372036854775807) (_ : -9223372036854775808 ≤ r) (_ : r ≤ 9223372036854775807) :
    Calls Tryd.prog 8 #[.agg #[.int .i64 a, .int .i64 p], .agg #[.int .i64 b, .int .i64 q], .agg #[.int .i64 c, .int .i64 r]] w fun e w' => e = .returned (.bool true) ∧ Below w.heap.size w w' := by
  have HT := Lib.hid (fun W (hb : Below w.heap.size w W) => hT.on hb)
  have A1 := Lib.hid (fun W => add_any a p b q W a1 (by omega) b1 (by omega))
  have A2 := Lib.hid (fun W => add_any b q a p W b1 (by omega) a1 (by omega))
  obtain ⟨y1, y2, y3⟩ := ad_swap a p b q
  rw [y1, y2, y3] at A2
  have A3 := Lib.hid (fun W => add_any a p 0 0 W a1 (by omega) (by omega) (by omega))
  have A4 := Lib.hid (fun W => compare_any a p c r W a1 (by omega) c1 (by omega))
  have A5 := Lib.hid (fun W => add_any c r b q W c1 (by omega) b1 (by omega))
  have i1 := ad_in64 a p b q
  have i2 := ad_in64 c r b q
  have A6 := Lib.hid (fun W => compare_any _ (adS a p b q) _ (adS c r b q) W i1.1 i1.2 i2.1 i2.2)
  have C1 := Lib.hid (fun W => check_any (adM a p b q) (adS a p b q) W)
  have C2 := Lib.hid (fun W => check_any a p W)
  obtain ⟨n1, n2⟩ := ad_nought a p a1 (by omega)
  have hE := ad_err a p b q
  have hmay : adE a p b q = 0 → chM (adM a p b q) (adS a p b q) = 0 := fun h => chM_yes (ad_may h).1
  have hkeep : adE a p b q = 0 → cmE a p c r = 0 → adE c r b q = 0 → cmE (adM a p b q) (adS a p b q) (adM c r b q) (adS c r b q) = 0 ∧ cmV (adM a p b q) (adS a p b q) (adM c r b q) (adS c r b q) = cmV a p c r := ad_keeps
  have hturn : adE a p b q = 0 → adM a p b q ≠ -9223372036854775808 → adM (-a) p (-b) q = -adM a p b q ∧ adS (-a) p (-b) q = adS a p b q ∧ adE (-a) p (-b) q = 0 := ad_turn
  have A7 : Hid (a ≠ -9223372036854775808 → b ≠ -9223372036854775808 → ∀ W, Calls Tryd.prog 12 #[.agg #[.int .i64 (-a), .int .i64 p], .agg #[.int .i64 (-b), .int .i64 q]] W fun e w' => e = .returned (.tuple #[.agg #[.int .i64 (adM (-a) p (-b) q), .int .i64 (adS (-a) p (-b) q)], .int .i64 (adE (-a) p (-b) q)]) ∧ Below W.heap.size W w') :=
    Lib.hid (fun h g W => add_any (-a) p (-b) q W (by omega) (by omega) (by omega) (by omega))
  obtain ⟨s1, eqs1⟩ : ∃ x, x = adM a p b q := ⟨_, rfl⟩
  rw [← eqs1] at A1 A2 A6 C1 hmay hkeep hturn i1
  obtain ⟨s2, eqs2⟩ : ∃ x, x = adS a p b q := ⟨_, rfl⟩
  rw [← eqs2] at A1 A2 A6 C1 hmay hkeep hturn
  obtain ⟨E, eqE⟩ : ∃ x, x = adE a p b q := ⟨_, rfl⟩
  rw [← eqE] at A1 A2 hE hmay hkeep hturn
  obtain ⟨u1, equ1⟩ : ∃ x, x = adM c r b q := ⟨_, rfl⟩
  rw [← equ1] at A5 A6 hkeep
  obtain ⟨u2, equ2⟩ : ∃ x, x = adS c r b q := ⟨_, rfl⟩
  rw [← equ2] at A5 A6 hkeep
  obtain ⟨I, eqI⟩ : ∃ x, x = adE c r b q := ⟨_, rfl⟩
  rw [← eqI] at A5 hkeep
  obtain ⟨z1, eqz1⟩ : ∃ x, x = adM a p 0 0 := ⟨_, rfl⟩
  rw [← eqz1] at A3 n2
  obtain ⟨z2, eqz2⟩ : ∃ x, x = adS a p 0 0 := ⟨_, rfl⟩
  rw [← eqz2] at A3 n2
  obtain ⟨G, eqG⟩ : ∃ x, x = adE a p 0 0 := ⟨_, rfl⟩
  rw [← eqG] at A3 n1 n2
  obtain ⟨H, eqH⟩ : ∃ x, x = cmE a p c r := ⟨_, rfl⟩
  rw [← eqH] at A4 hkeep
  obtain ⟨n, eqn⟩ : ∃ x, x = cmV a p c r := ⟨_, rfl⟩
  rw [← eqn] at A4 hkeep
  obtain ⟨v1, eqv1⟩ : ∃ x, x = adM (-a) p (-b) q := ⟨_, rfl⟩
  rw [← eqv1] at A7 hturn
  obtain ⟨v2, eqv2⟩ : ∃ x, x = adS (-a) p (-b) q := ⟨_, rfl⟩
  rw [← eqv2] at A7 hturn
  obtain ⟨K, eqK⟩ : ∃ x, x = adE (-a) p (-b) q := ⟨_, rfl⟩
  rw [← eqK] at A7 hturn
  obtain ⟨m, hm⟩ : ∃ x, x = cmV s1 s2 u1 u2 := ⟨_, rfl⟩
  rw [← hm] at A6 hkeep
  obtain ⟨J, hJ⟩ : ∃ x, x = cmE s1 s2 u1 u2 := ⟨_, rfl⟩
  rw [← hJ] at A6 hkeep
  obtain ⟨k1, hk1⟩ : ∃ x, x = chM s1 s2 := ⟨_, rfl⟩
  rw [← hk1] at C1 hmay
  obtain ⟨k2, hk2⟩ : ∃ x, x = chM a p := ⟨_, rfl⟩
  rw [← hk2] at C2 n1
  subst n1
  have HG : Hid (G = 0 ∨ G = 140) := Lib.hid (by rw [hk2]; unfold chM; split <;> simp)
  have HE := Lib.hid hE
  have HMAY := Lib.hid hmay
  have HKEEP := Lib.hid hkeep
  have HTURN := Lib.hid hturn
  have HN2 := Lib.hid n2
  have HI1 := Lib.hid i1
  have P0 := Lib.hid (Tri.new w a p b q c r)
  have HAB := Lib.hid (And.intro (And.intro a1 a2) (And.intro b1 b2))
  clear hT a1 a2 b1 b2 c1 c2 y1 y2 y3 i1 i2 n2 hE hmay hkeep hturn eqs1 eqs2 eqE equ1 equ2 eqI eqz1 eqz2 eqG eqH eqn eqv1 eqv2 eqK hm hJ hk1 hk2
  go_enter Tryd.func8, Tryd.ntmps8
  go_wp2_with fail
  obtain ⟨w0, hw0⟩ : ∃ w0, w0 = ((w.alloc (.cells #[.int .i64 a, .int .i64 p] 26)).alloc (.cells #[.int .i64 b, .int .i64 q] 26)).alloc (.cells #[.int .i64 c, .int .i64 r] 26) := ⟨_, rfl⟩
  rw [← hw0] at P0 ⊢
  clear hw0
  refine (alive_any w0 (HT.out _ P0.out.2.2.2)).mono ?_
  rintro e w1 ⟨rfl, x⟩
  have P1 := Lib.hid (P0.out.up x)
  obtain ⟨⟨⟨c0, c1, -⟩, -, -⟩, ⟨⟨c2, c3, -⟩, -, -⟩, ⟨⟨c4, c5, -⟩, -, -⟩, -⟩ := P1.out
  clear x
  go_wp2_with fail
  clear c0 c1 c2 c3 c4 c5
  refine (A1.out _).mono ?_
  rintro e w2 ⟨rfl, x⟩
  have P2 := Lib.hid (Quad.new (P1.out.up x) s1 s2)
  clear x
  go_upto_region 3 with fail
  obtain ⟨w3, hw3⟩ : ∃ w3, w3 = w2.alloc (.cells #[.int .i64 s1, .int .i64 s2] 26) := ⟨_, rfl⟩
  obtain ⟨B, hB⟩ : ∃ B, B = w2.heap.size := ⟨_, rfl⟩
  rw [← hw3, ← hB] at P2 ⊢
  clear hw3 hB
  obtain ⟨⟨⟨⟨c0, c1, -⟩, -, -⟩, ⟨⟨c2, c3, -⟩, -, -⟩, ⟨⟨c4, c5, -⟩, -, -⟩, -⟩, ⟨⟨c6, c7, -⟩, -, -⟩, -⟩ := P2.out
  go_wp2_with fail
  clear c0 c1 c2 c3 c4 c5 c6 c7
  refine (A2.out _).mono ?_
  rintro e w4 ⟨rfl, x⟩
  have P4 := Lib.hid ((P2.out.up x).up ((Below.refl _ w4).alloc (Nat.le_refl _) (.cells #[.int .i64 s1, .int .i64 s2] 26)))
  have D4 := Lib.hid (FBox.new w4 s1 s2)
  clear x
  go_upto_region 4 with fail
  obtain ⟨w5, hw5⟩ : ∃ w5, w5 = w4.alloc (.cells #[.int .i64 s1, .int .i64 s2] 26) := ⟨_, rfl⟩
  rw [← hw5] at P4 D4 ⊢
  clear hw5
  obtain ⟨⟨⟨⟨c0, c1, -⟩, -, -⟩, ⟨⟨c2, c3, -⟩, -, -⟩, ⟨⟨c4, c5, -⟩, -, -⟩, -⟩, ⟨⟨c6, c7, -⟩, -, -⟩, -⟩ := P4.out
  obtain ⟨⟨c8, c9, -⟩, -, -⟩ := D4.out
  go_cut [51] (fun v wx => v = .bool false ∧ Quad w wx B a p b q c r s1 s2)
  case first =>
    rcases HE.out with h | h | h
    · have hk := HMAY.out h
      subst h hk
      go_wp2_with fail
      clear c0 c1 c2 c3 c4 c5 c6 c7 c8 c9
      refine (C1.out _).mono ?_
      rintro e w6 ⟨rfl, x⟩
      have P6 := Lib.hid (P4.out.up x)
      clear x
      go_wp2_with fail
      go_meet
      exact ⟨rfl, P6.out⟩
    · subst h
      go_wp2_with fail
      go_meet
      exact ⟨rfl, P4.out⟩
    · subst h
      go_wp2_with fail
      go_meet
      exact ⟨rfl, P4.out⟩
  case rest =>
    obtain ⟨rfl, hp⟩ := hcut
    have P6 := Lib.hid hp
    clear hp c0 c1 c2 c3 c4 c5 c6 c7 c8 c9
    obtain ⟨⟨⟨⟨c0, c1, -⟩, -, -⟩, ⟨⟨c2, c3, -⟩, -, -⟩, ⟨⟨c4, c5, -⟩, -, -⟩, -⟩, ⟨⟨c6, c7, -⟩, -, -⟩, -⟩ := P6.out
    go_wp2_with fail
    clear c0 c1 c2 c3 c4 c5 c6 c7
    refine (A3.out _).mono ?_
    rintro e w7 ⟨rfl, x⟩
    have P7 := Lib.hid ((P6.out.up x).up ((Below.refl _ w7).alloc (Nat.le_refl _) (.cells #[.int .i64 z1, .int .i64 z2] 26)))
    have D7 := Lib.hid (FBox.new w7 z1 z2)
    clear x
    go_upto_region 7 with fail
    obtain ⟨w8, hw8⟩ : ∃ w8, w8 = w7.alloc (.cells #[.int .i64 z1, .int .i64 z2] 26) := ⟨_, rfl⟩
    rw [← hw8] at P7 D7 ⊢
    clear hw8
    obtain ⟨⟨⟨⟨c0, c1, -⟩, -, -⟩, ⟨⟨c2, c3, -⟩, -, -⟩, ⟨⟨c4, c5, -⟩, -, -⟩, -⟩, ⟨⟨c6, c7, -⟩, -, -⟩, -⟩ := P7.out
    obtain ⟨⟨c8, c9, -⟩, -, -⟩ := D7.out
    go_cut [72] (fun v wx => v = .bool false ∧ Quad w wx B a p b q c r s1 s2)
    case first =>
      rcases HG.out with h | h
      · obtain ⟨rfl, rfl⟩ := HN2.out h
        subst h
        go_wp2_with fail
        clear c0 c1 c2 c3 c4 c5 c6 c7 c8 c9
        refine (C2.out _).mono ?_
        rintro e w9 ⟨rfl, x⟩
        have P9 := Lib.hid (P7.out.up x)
        clear x
        go_wp2_with fail
        go_meet
        exact ⟨rfl, P9.out⟩
      · subst h
        go_wp2_with fail
        clear c0 c1 c2 c3 c4 c5 c6 c7 c8 c9
        refine (C2.out _).mono ?_
        rintro e w9 ⟨rfl, x⟩
        have P9 := Lib.hid (P7.out.up x)
        clear x
        go_wp2_with fail
        go_meet
        exact ⟨rfl, P9.out⟩
    case rest =>
      obtain ⟨rfl, hp⟩ := hcut
      have P9 := Lib.hid hp
      clear hp c0 c1 c2 c3 c4 c5 c6 c7 c8 c9
      obtain ⟨⟨⟨⟨c0, c1, -⟩, -, -⟩, ⟨⟨c2, c3, -⟩, -, -⟩, ⟨⟨c4, c5, -⟩, -, -⟩, -⟩, ⟨⟨c6, c7, -⟩, -, -⟩, -⟩ := P9.out
      go_wp2_with fail
      clear c0 c1 c2 c3 c4 c5 c6 c7
      refine (A4.out _).mono ?_
      rintro e w10 ⟨rfl, x⟩
      have P10 := Lib.hid (P9.out.up x)
      clear x
      obtain ⟨⟨⟨⟨c0, c1, -⟩, -, -⟩, ⟨⟨c2, c3, -⟩, -, -⟩, ⟨⟨c4, c5, -⟩, -, -⟩, -⟩, ⟨⟨c6, c7, -⟩, -, -⟩, -⟩ := P10.out
      go_wp2_with fail
      clear c0 c1 c2 c3 c4 c5 c6 c7
      refine (A5.out _).mono ?_
      rintro e w11 ⟨rfl, x⟩
      have P11 := Lib.hid ((P10.out.up x).up ((Below.refl _ w11).alloc (Nat.le_refl _) (.cells #[.int .i64 u1, .int .i64 u2] 26)))
      have D11 := Lib.hid (FBox.new w11 u1 u2)
      clear x
      go_upto_region 11 with fail
      obtain ⟨w12, hw12⟩ : ∃ w12, w12 = w11.alloc (.cells #[.int .i64 u1, .int .i64 u2] 26) := ⟨_, rfl⟩
      rw [← hw12] at P11 D11 ⊢
      clear hw12
      obtain ⟨⟨⟨⟨c0, c1, -⟩, -, -⟩, ⟨⟨c2, c3, -⟩, -, -⟩, ⟨⟨c4, c5, -⟩, -, -⟩, -⟩, ⟨⟨c6, c7, -⟩, -, -⟩, -⟩ := P11.out
      obtain ⟨⟨c8, c9, -⟩, -, -⟩ := D11.out
      go_wp2_with fail
      clear c0 c1 c2 c3 c4 c5 c6 c7 c8 c9
      refine (A6.out _).mono ?_
      rintro e w13 ⟨rfl, x⟩
      have P13 := Lib.hid (P11.out.up x)
      clear x
      go_upto_region 12 with fail
      go_cut [109] (fun v wx => v = .bool false ∧ Quad w wx B a p b q c r s1 s2)
      case first =>
        by_cases h1 : E = 0
        · by_cases h2 : H = 0
          · by_cases h3 : I = 0
            · obtain ⟨hj, hm⟩ := HKEEP.out h1 h2 h3
              subst h1 h2 h3 hj hm
              go_wp2_with fail
              go_meet
              exact ⟨rfl, P13.out⟩
            · have g3 : (I == 0) = false := beq_eq_false_iff_ne.2 h3
              subst h1 h2
              clear h3
              go_wp2_with fail
              go_meet
              exact ⟨rfl, P13.out⟩
          · have g2 : (H == 0) = false := beq_eq_false_iff_ne.2 h2
            subst h1
            clear h2
            go_wp2_with fail
            go_meet
            exact ⟨rfl, P13.out⟩
        · have g1 : (E == 0) = false := beq_eq_false_iff_ne.2 h1
          clear h1
          go_wp2_with fail
          go_meet
          exact ⟨rfl, P13.out⟩
      case rest =>
        obtain ⟨rfl, hp⟩ := hcut
        have P14 := Lib.hid hp
        clear hp
        obtain ⟨⟨⟨⟨c0, c1, -⟩, f0, -⟩, ⟨⟨c2, c3, -⟩, f2, -⟩, ⟨⟨c4, c5, -⟩, -, -⟩, -⟩, ⟨⟨c6, c7, -⟩, -, -⟩, -⟩ := P14.out
        by_cases ha : a = -9223372036854775808
        · have ga : (a == -9223372036854775808) = true := by simp [ha]
          clear ha
          go_wp2_with fail
          go_ret
          exact ⟨rfl, P14.out.1.2.2.2⟩
        have ga : (a == -9223372036854775808) = false := beq_eq_false_iff_ne.2 ha
        by_cases hb : b = -9223372036854775808
        · have gb : (b == -9223372036854775808) = true := by simp [hb]
          clear ha hb
          go_wp2_with fail
          go_ret
          exact ⟨rfl, P14.out.1.2.2.2⟩
        have gb : (b == -9223372036854775808) = false := beq_eq_false_iff_ne.2 hb
        have A8 := Lib.hid (A7.out ha hb)
        by_cases hs : s1 = -9223372036854775808
        · have gs : (s1 == -9223372036854775808) = true := by simp [hs]
          clear ha hb hs
          go_wp2_with fail
          go_ret
          exact ⟨rfl, P14.out.1.2.2.2⟩
        have gs : (s1 == -9223372036854775808) = false := beq_eq_false_iff_ne.2 hs
        by_cases hE : E = 0
        case neg =>
          have gE : (E == 0) = false := beq_eq_false_iff_ne.2 hE
          clear ha hb hs hE
          go_wp2_with fail
          go_ret
          exact ⟨rfl, P14.out.1.2.2.2⟩
        obtain ⟨e1, e2, e3⟩ := HTURN.out hE hs
        replace e2 := e2.symm
        subst hE e1 e2 e3
        have na : IntKind.i64.wrap (-a) = -a := by rw [IntKind.wrap_i64]; have := HAB.out; omega
        have nb : IntKind.i64.wrap (-b) = -b := by rw [IntKind.wrap_i64]; have := HAB.out; omega
        have HNS : Hid (IntKind.i64.wrap (-s1) = -s1) := Lib.hid (by rw [IntKind.wrap_i64]; have := HI1.out; omega)
        clear ha hb hs
        have P15 := Lib.hid ((P14.out.drew).turn (-a) (-b))
        go_upto_region 16 with fail
        go_cut [] (fun wx => Quad w wx B (-a) p (-b) q c r s1 s2)
        case first =>
          go_region
          all_goals
            go_wp2_with fail
            go_meet
            exact P15.out
        case rest =>
          have P16 := Lib.hid hcut
          clear hcut c0 c1 c2 c3 c4 c5 c6 c7 f0 f2 P15 na nb
          obtain ⟨⟨⟨⟨c0, c1, -⟩, -, -⟩, ⟨⟨c2, c3, -⟩, -, -⟩, ⟨⟨c4, c5, -⟩, -, -⟩, -⟩, ⟨⟨c6, c7, -⟩, -, -⟩, -⟩ := P16.out
          obtain ⟨na, hna⟩ : ∃ x, x = -a := ⟨_, rfl⟩
          obtain ⟨nb, hnb⟩ : ∃ x, x = -b := ⟨_, rfl⟩
          rw [← hna] at A8 c0
          rw [← hnb] at A8 c2
          clear hna hnb
          go_wp2_with fail
          clear c0 c1 c2 c3 c4 c5 c6 c7
          refine (A8.out _).mono ?_
          rintro e w17 ⟨rfl, x⟩
          have P17 := Lib.hid ((P16.out.up x).up ((Below.refl _ w17).alloc (Nat.le_refl _) (.cells #[.int .i64 (-s1), .int .i64 s2] 26)))
          have D17 := Lib.hid (FBox.new w17 (-s1) s2)
          clear x
          go_upto_region 18 with fail
          obtain ⟨w18, hw18⟩ : ∃ w18, w18 = w17.alloc (.cells #[.int .i64 (-s1), .int .i64 s2] 26) := ⟨_, rfl⟩
          rw [← hw18] at P17 D17 ⊢
          clear hw18
          obtain ⟨⟨⟨⟨c0, c1, -⟩, -, -⟩, ⟨⟨c2, c3, -⟩, -, -⟩, ⟨⟨c4, c5, -⟩, -, -⟩, -⟩, ⟨⟨c6, c7, -⟩, -, -⟩, -⟩ := P17.out
          obtain ⟨⟨c8, c9, -⟩, -, -⟩ := D17.out
          have hns := HNS.out
          have hns' : wrap64 (-s1) = -s1 := by rw [← hns, IntKind.wrap_i64]; unfold wrap64; omega
          go_wp2_with fail
          go_ret
          exact ⟨rfl, P17.out.1.2.2.2⟩
end Go.Proofs.YtiikohbnfbpjeaaDoor
