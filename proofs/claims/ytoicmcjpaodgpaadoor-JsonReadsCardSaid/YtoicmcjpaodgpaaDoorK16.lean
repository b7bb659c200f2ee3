import Derived.Test.YtoicmcjpaodgpaaDoorK15
import Derived.Test.YtoicmcjpaodgpaaDoorK13
import Derived.Test.YtoicmcjpaodgpaaDoorK10
/- Layer 4, the document's Read: an object. -/
namespace Go.Proofs.YtoicmcjpaodgpaaDoor
open Go.RowKit Go.Maps
theorem txt_ne {x : ByteArray} (h : x ≠ ⟨#[]⟩) : x.toList.isEmpty = false := by
  cases hx : x.toList with
  | nil =>
    have h2 : x.toList.length = x.size := by rw [ByteArray.toList_eq, Array.length_toList]; rfl
    rw [hx] at h2
    refine absurd ?_ h
    cases x with
    | mk d =>
      have h3 : d.size = 0 := h2.symm
      rw [Array.eq_empty_of_size_eq_zero h3]
  | cons a l => rfl
set_option maxRecDepth 20000 in
set_option maxHeartbeats 1000000 in
theorem rtxt1_err {p i : Nat} {s : ByteArray} {v : Value} {L : List CR} {e0 : Int} (w : World) (h : RfB w p s i v L e0) (he : e0 ≠ 0) (hs : s.size ≤ 1000000) (hi : i ≤ s.size) : Calls Tryd.prog 38 #[.pointer (some ⟨p, 0, none⟩)] w fun e w' => e = .returned (.string ⟨#[]⟩) ∧ RfB w' p s i v L e0 ∧ Fr p v v w w' := by
  have HT := Lib.hid (fun W (r : RfB W p s i v L e0) => rtake_err (⟨#[34]⟩ : ByteArray) W r he hs hi (by decide) (by decide) (by decide))
  have H := Lib.hid h
  have hb : (e0 == 0) = false := beq_eq_false_iff_ne.2 he
  have hb2 : (e0 != 0) = true := by simp [he]
  clear h hs hi he
  go_enter Tryd.func38, Tryd.ntmps38
  go_wp2_with fail
  refine (HT.out _ H.out).mono ?_
  rintro e w1 ⟨rfl, r1, f1⟩
  have R1 := Lib.hid (And.intro r1 f1)
  have c3 := r1.c3
  clear r1 f1
  go_wp2_with fail
  refine wp_loop_rounds 1 ?_
  rw [rounds_succ]
  go_wp2_with fail
  refine (HT.out _ R1.out.1).mono ?_
  rintro e w2 ⟨rfl, r2, f2⟩
  have R2 := Lib.hid (And.intro r2 (R1.out.2.trans f2))
  have c3 := r2.c3
  clear r2 f2
  go_wp2_with fail
  go_ret
  exact ⟨rfl, R2.out.1, R2.out.2⟩
set_option maxRecDepth 20000 in
set_option maxHeartbeats 0 in
theorem rmanyO_any {s nm : ByteArray} {p op i f : Nat} {v : Value} {L0 : List CR} (w : World) (hV : VR s f) (hop : op + 1 + f = 17) (hop2 : op ≤ 15) (h : RfB w p s i v (L0 ++ [⟨7, nm, ⟨#[]⟩, 0, 0⟩]) 0) (hb : byt s i = 123) (hs : s.size ≤ 3000) (hw : Tw s i s.size) (hL : 2 * (L0.length + 1) ≤ i + 1 + (op + 1)) : Calls Tryd.prog 37 #[.pointer (some ⟨p, 0, none⟩), .int .i64 L0.length, .int .i64 op] w (RfM p s v L0 7 nm w (alM s (itO s (fun nm' j => valR s f nm' (op + 1) j)) 125 (bl s (i + 1)) (0, [], []))) := by
  obtain ⟨iS, hiS, hzS0, hzS1, hzS2⟩ := infoS
  have hi := byt_in (s := s) (i := i) (by omega)
  have HV := Lib.hid hV
  obtain ⟨V, hVV⟩ : ∃ V : ByteArray → Nat → Rs (Nat × List CR), V = fun nm' j => valR s f nm' (op + 1) j := ⟨_, rfl⟩
  rw [← hVV]
  have HVV : Hid (∀ nm' j, V nm' j = valR s f nm' (op + 1) j) := Lib.hid (fun nm' j => by rw [hVV])
  obtain ⟨Y, hY⟩ : ∃ Y, Y = alM s (itO s V) 125 (bl s (i + 1)) (0, [], []) := ⟨_, rfl⟩
  rw [← hY]
  have HY0 : Hid (Cont s (itO s V) 125 (bl s (i + 1)) (0, [], []) Y) := Lib.hid (.inl ⟨rfl, hY.symm⟩)
  have HLT : Hid (p < w.heap.size) := Lib.hid h.lt
  have HTW : Hid (Tw s (bl s (i + 1)) s.size) := Lib.hid (hw.asc ((Asc.one (by omega)).trans (bl_asc s (i + 1))) (bl_le (by omega)))
  have hbl := bl_ge s (i + 1)
  have hbl2 : bl s (i + 1) ≤ s.size := bl_le (by omega)
  have HLK := Lib.hid (rlook_any w h (by omega) (by omega))
  have e1 : lk s 0 i = 123 := hb
  rw [e1] at HLK
  have H := Lib.hid h
  have hopi : ((op : Int) == 16) = false := beq_eq_false_iff_ne.2 (by omega)
  have hop3 : (op : Int) ≤ 15 := by omega
  have hii : (i : Int) ≤ 3000 := by omega
  have hlen : L0.length ≤ 2000 := by omega
  obtain ⟨k, hk⟩ : ∃ k, k = L0.length := ⟨_, rfl⟩
  have HK := Lib.hid hk
  rw [← hk]
  have hk0 : (0 : Int) ≤ (k : Int) := by omega
  obtain ⟨B, hB⟩ : ∃ B, B = w.heap.size := ⟨_, rfl⟩
  rw [← hB] at HLT
  have HB := Lib.hid hB
  obtain ⟨i9, hi9⟩ : ∃ i9, i9 = bl s (i + 1) := ⟨_, rfl⟩
  rw [← hi9] at HY0 HTW hbl hbl2
  have HI9 := Lib.hid hi9
  clear h hb e1 hV hVV hY hk hB hi9 hw
  go_enter Tryd.func37, Tryd.ntmps37
  go_wp2_with fail
  refine HLK.out.mono ?_
  rintro e w1 ⟨rfl, d⟩
  have R1 := Lib.hid (H.out.dr d)
  clear d
  have c1 := R1.out.1.c1
  have z1 := R1.out.1.z 1
  have hat := R1.out.1.at_ (i + 1) ((i : Int) + 1) (by omega)
  have R2 := Lib.hid (And.intro hat.1 (R1.out.2.trans hat.2))
  clear hat
  go_wp2_with fail
  refine (rblanks_any _ R2.out.1 (by omega) (by omega)).mono ?_
  rintro e w3 ⟨rfl, r3, f3⟩
  rw [← HI9.out] at r3
  have hf3 := (R2.out.2.trans f3)
  have HS0 : Hid (MnS B p s v (L0 ++ [⟨7, nm, ⟨#[]⟩, 0, 0⟩]) w w3 i9 0 v (.slice none 0 0) []) := Lib.hid ⟨r3, hf3, OwN.nil (by rw [HB.out]; exact hf3.size), fun _ e => by cases e⟩
  clear r3 f3 hf3 c1 z1
  go_wp2_with fail
  go_loopg [8, 9, 10] (s.size + 2) (fun f8 v8 v9 _ wr => ∃ (n : Nat) (vn : Value), 1 ≤ f8 ∧ v9 = .int .i64 n ∧ vn = v8 ∧ ((∃ (i1 : Nat) (vr : Value) (N M : List CR) (names : List ByteArray), s.size - i1 + 2 ≤ f8 ∧ i1 ≤ s.size ∧ n ≤ i1 ∧ names.length ≤ i1 ∧ M.length ≤ 2000 ∧ Hid (M = L0 ++ [⟨7, nm, ⟨#[]⟩, 0, 0⟩] ++ N) ∧ Hid (MnS B p s v M w wr i1 0 vr vn names ∧ Tw s i1 s.size ∧ 2 * M.length ≤ i1 + (op + 1) + 1 ∧ (n = 0 → 2 * M.length ≤ i1 + (op + 1)) ∧ Cont s (itO s V) 125 i1 (n, names, N) Y ∧ (∀ y ∈ names, y ≠ ⟨#[]⟩))) ∨ (∃ m, Hid (MnE p s v w wr m ∧ m ≠ 0 ∧ Y = .bad m))))
  case atStart => exact ⟨0, _, by omega, rfl, rfl, .inl ⟨i9, v, [], _, [], by omega, hbl2, Nat.zero_le _, Nat.zero_le _, by simp; omega, Lib.hid (List.append_nil _).symm, Lib.hid ⟨HS0.out, HTW.out, by simp; omega, fun _ => by simp; omega, HY0.out, by simp⟩⟩⟩
  case round =>
    obtain ⟨n, vn, hf1, rfl, rfl, hmode⟩ := hrel
    rcases hmode with ⟨i1, vr, N, M, names, hf8, hi1, hn1, hnl, hM, HM, HS⟩ | ⟨m, HE⟩
    · have c3 := HS.out.1.rd.c3
      have HLK1 := Lib.hid (rlook_any wr HS.out.1.rd (by omega) (by omega))
      have e1 : lk s 0 i1 = byt s i1 := rfl
      rw [e1] at HLK1
      have hni : (n : Int) ≤ 3000 := by omega
      have hn0 : (0 : Int) ≤ n := by omega
      have hbr := byt_range s i1
      have HIN : Hid (byt s i1 ≠ 0 → i1 < s.size) := Lib.hid (fun e => byt_in e)
      have HBY : Hid (∀ b, b = byt s i1 → (b = 125 → Y = .ok (i1 + 1, (n, names, N)) ∧ wordM s [125] i1 = .ok (i1 + 1)) ∧ (b ≠ 125 → (n = 0 → Nxt s (itO s V) 125 i1 i1 (n, names, N) Y) ∧ (0 < n → b = 44 → Nxt s (itO s V) 125 i1 (bl s (i1 + 1)) (n, names, N) Y ∧ wordM s [44] i1 = .ok (i1 + 1) ∧ Tw s (bl s (i1 + 1)) s.size) ∧ (0 < n → b ≠ 44 → Y = .bad 40 ∧ wordM s [44] i1 = .bad 40))) := Lib.hid (fun b e => by
        subst e
        refine ⟨fun e => ⟨HS.out.2.2.2.2.1.fin e (by decide), by unfold wordM; rw [if_pos e]; rfl⟩, fun e => ⟨fun h0 => HS.out.2.2.2.2.1.next0 e h0, fun h0 h44 => ⟨HS.out.2.2.2.2.1.nextc h44 h0, by unfold wordM; rw [if_pos h44]; rfl, ?_⟩, fun h0 h44 => ⟨HS.out.2.2.2.2.1.bad e h44 h0, by unfold wordM; rw [if_neg h44]⟩⟩⟩
        have := byt_in (s := s) (i := i1) (by omega)
        exact HS.out.2.1.asc ((Asc.one (by omega)).trans (bl_asc s (i1 + 1))) (bl_le (by omega)))
      obtain ⟨b, hb⟩ : ∃ b, b = byt s i1 := ⟨_, rfl⟩
      rw [← hb] at HLK1 hbr HIN
      have HBB := Lib.hid (HBY.out b hb)
      clear hb HBY e1
      by_cases hsh : b = 125
      · have HY := Lib.hid (HBB.out.1 hsh)
        subst hsh
        clear HBB
        go_wp2_with fail
        refine HLK1.out.mono ?_
        rintro e w4 ⟨rfl, d⟩
        have S4 := Lib.hid (HS.out.1.step (HS.out.1.rd.dr d).1 (HS.out.1.rd.dr d).2 HLT.out)
        clear d
        have cv := conv_one 125 w4 (by decide) (by decide)
        have S5 := Lib.hid (S4.out.below (W' := w4.alloc (.cells #[.int .u8 125] 5)) ((Below.refl _ _).alloc (Nat.le_refl _) _) HLT.out)
        have HTK := Lib.hid (rtake_any (mkB [125]) _ S5.out.rd (by omega) hi1 (by rw [mkB_size]; decide) (by rw [(byt_one 125 (by decide) (by decide)).1]; decide))
        rw [(byt_one 125 (by decide) (by decide)).1, HY.out.2] at HTK
        go_wp2_with fail
        refine HTK.out.mono ?_
        rintro e w6 ⟨rfl, r6, f6⟩
        have S6 := Lib.hid (S5.out.step r6 f6 HLT.out)
        clear r6 f6 cv
        have hkM : k < M.length := by rw [HM.out, HK.out]; simp
        have hkMi : (k : Int) < M.length := by omega
        have c3 := S6.out.rd.c3
        obtain ⟨q, cap, rfl, hpq, hqw⟩ := S6.out.rd.addr (by omega)
        have c2 := S6.out.rd.c2
        have d4 := (S6.out.rd.cells hkM).2.2.2.2
        have z4 := S6.out.rd.cellz (k * 5 + 4)
        have hgm : gl M k = ⟨7, nm, ⟨#[]⟩, 0, 0⟩ := by rw [HM.out, HK.out]; exact gl_mid _ _ _
        rw [hgm] at d4
        dsimp only at d4
        have R7 := Lib.hid (S6.out.rd.setF hpq hkM 4 (by decide) (.int .i64 n) ⟨7, nm, ⟨#[]⟩, 0, n⟩ (by rw [hgm]; rfl))
        have hset : M.set k ⟨7, nm, ⟨#[]⟩, 0, n⟩ = L0 ++ [⟨7, nm, ⟨#[]⟩, 0, n⟩] ++ N := by rw [HM.out, HK.out]; exact set_mid _ _ _ _
        rw [hset] at R7
        clear hgm hset hpq hqw
        go_wp2_with fail
        go_end0
        rw [HY.out.1]
        exact ⟨rfl, _, R7.out.1, S6.out.fr.trans R7.out.2⟩
      · have HBC := Lib.hid (HBB.out.2 hsh)
        have hne : (b != 125) = true := by simp [hsh]
        clear HBB
        go_wp2_with fail
        refine HLK1.out.mono ?_
        rintro e w4 ⟨rfl, d⟩
        have S4 := Lib.hid (HS.out.1.step (HS.out.1.rd.dr d).1 (HS.out.1.rd.dr d).2 HLT.out)
        clear d
        go_upto_if 40 with fail
        go_cut [] (fun wx => Hid ((∃ (i2 : Nat) (vr2 : Value), i1 ≤ i2 ∧ i2 ≤ s.size ∧ MnS B p s v M w wx i2 0 vr2 vn names ∧ Tw s i2 s.size ∧ 2 * M.length ≤ i2 + (op + 1) ∧ Nxt s (itO s V) 125 i1 i2 (n, names, N) Y) ∨ (Y = .bad 40 ∧ ∃ (j5 : Nat) (vr5 : Value), j5 ≤ s.size ∧ MnS B p s v M w wx j5 40 vr5 vn names)))
        case first =>
          by_cases h0 : n = 0
          · have hq : ¬ (0 : Int) < (n : Int) := by omega
            have HX := Lib.hid (HBC.out.1 h0)
            have HLEN := Lib.hid (HS.out.2.2.2.1 h0)
            clear h0
            go_wp2_with fail
            go_meet
            exact Lib.hid (.inl ⟨i1, _, Nat.le_refl _, hi1, S4.out, HS.out.2.1, HLEN.out, HX.out⟩)
          · have hq : (0 : Int) < (n : Int) := by omega
            have h1n : 0 < n := by omega
            have e44 : bI ⟨#[44]⟩ = [44] := rfl
            have HTK := Lib.hid (rtake_any (⟨#[44]⟩ : ByteArray) _ S4.out.rd (by omega) hi1 (by decide) (by decide))
            rw [e44] at HTK
            clear e44 h0
            by_cases h44 : b = 44
            · have HX := Lib.hid (HBC.out.2.1 h1n h44)
              have hin := HIN.out (by omega)
              rw [HX.out.2.1] at HTK
              clear h44
              go_wp2_with fail
              refine HTK.out.mono ?_
              rintro e w5 ⟨rfl, r5, f5⟩
              have S5 := Lib.hid (S4.out.step r5 f5 HLT.out)
              clear r5 f5
              go_wp2_with fail
              refine (rblanks_any _ S5.out.rd (by omega) (by omega)).mono ?_
              rintro e w6 ⟨rfl, r6, f6⟩
              have S6 := Lib.hid (S5.out.step r6 f6 HLT.out)
              clear r6 f6
              go_wp2_with fail
              go_meet
              have hb9 := bl_ge s (i1 + 1)
              have hl9 := HS.out.2.2.1
              exact Lib.hid (.inl ⟨bl s (i1 + 1), _, by omega, bl_le (by omega), S6.out, HX.out.2.2, by omega, HX.out.1⟩)
            · have HX := Lib.hid (HBC.out.2.2 h1n h44)
              rw [HX.out.2] at HTK
              clear h44
              go_wp2_with fail
              refine HTK.out.mono ?_
              rintro e w5 ⟨rfl, j5, hj5, r5, f5⟩
              have S5 := Lib.hid (S4.out.step r5 f5 HLT.out)
              clear r5 f5
              go_wp2_with fail
              refine (rblanks_err _ S5.out.rd (by decide) (by omega) hj5).mono ?_
              rintro e w6 ⟨rfl, r6, f6⟩
              have S6 := Lib.hid (S5.out.step r6 f6 HLT.out)
              clear r6 f6
              go_wp2_with fail
              go_meet
              exact Lib.hid (.inr ⟨HX.out.1, j5, _, hj5, S6.out⟩)
        case rest =>
          have HC := hcut
          clear hcut
          rcases HC.out with ⟨i2, vr2, g1, g2, g3, g4, g5, g6⟩ | ⟨g1, g2⟩
          · have S5 := Lib.hid g3
            have HX := Lib.hid (Nxt.obj g6)
            have HTX := Lib.hid (rtxt1_any _ g3.rd (by omega) g2 g4)
            have HTW2 := Lib.hid g4
            have HNE := Lib.hid HS.out.2.2.2.2.2
            have HLE := Lib.hid g5
            clear g3 g4 g6 HC HBC
            go_upto_if 45 with fail
            go_cut [8, 10] (fun v8 v10 wx => ∃ name : ByteArray, v10 = .string name ∧ Hid ((∃ (k2 : Nat) (vr5 : Value) (names5 : List ByteArray), MnS B p s v M w wx k2 0 vr5 v8 names5 ∧ i1 < k2 ∧ k2 ≤ s.size ∧ Tw s k2 s.size ∧ name.size ≤ 3000 ∧ names5.length ≤ k2 ∧ (∀ y ∈ names5, y ≠ ⟨#[]⟩) ∧ (∀ m, V name k2 = .bad m → Y = .bad m) ∧ ∀ j N2, V name k2 = .ok (j, N2) → i1 < j → j ≤ s.size → Cont s (itO s V) 125 (bl s j) (n + 1, names5, N ++ N2) Y) ∨ (∃ m, m ≠ 0 ∧ Y = .bad m ∧ MnE p s v w wx m)))
            case first =>
              cases hst : strM s i2 with
              | bad m =>
                obtain rfl := strM_bad HTW2.out hst
                rw [hst] at HTX
                have HY9 := Lib.hid (HX.out.1 40 hst)
                clear hst HX
                go_wp2_with fail
                refine HTX.out.mono ?_
                rintro e w6 ⟨j6, rfl, hj6, r6, f6⟩
                have S6 := Lib.hid (S5.out.step r6 f6 HLT.out)
                have c3 := r6.c3
                clear r6 f6
                go_wp2_with fail
                refine (rfail_no 8 _ S6.out.rd (by decide)).mono ?_
                rintro e w7 ⟨rfl, hw7⟩
                obtain rfl := hw7.symm
                go_wp2_with (at_builtin; refine wpList_append_own_at _ rfl _ _ 90 rfl B 9 iS (.string ⟨#[]⟩) 1 16 Tryd.underlying90 hiS hzS0 hzS1 hzS2 rfl (by decide) _ names.length (names.map Value.string) rfl (S6.out.own.1.alloc _) ⟨w6.heap.size, 0, none⟩ 1 1 [.string ⟨#[]⟩] rfl rfl (news_at _ _ _ _ rfl) (by intro u hu; simp at hu; subst hu; rfl) (by unfold maxLen; omega) (by omega) (by have := S6.out.own.2; simp; omega) ?_; intro v' w' ho hg _ ha; have T6 := Lib.hid (S6.out.addn HB.out _ ho hg ha HLT.out); clear ho hg ha)
                refine (rblanks_err _ T6.out.rd (by decide) (by omega) hj6).mono ?_
                rintro e w7 ⟨rfl, r7, f7⟩
                have T7 := Lib.hid (T6.out.step r7 f7 HLT.out)
                clear r7 f7
                go_wp2_with fail
                refine (rtake_err (⟨#[58]⟩ : ByteArray) _ T7.out.rd (by decide) (by omega) hj6 (by decide) (by decide) (by decide)).mono ?_
                rintro e w8 ⟨rfl, r8, f8⟩
                have T8 := Lib.hid (T7.out.step r8 f8 HLT.out)
                clear r8 f8
                go_wp2_with fail
                go_meet
                exact ⟨⟨#[]⟩, rfl, Lib.hid (.inr ⟨40, by decide, HY9.out, _, _, _, hj6, T8.out.rd, T8.out.fr⟩)⟩
              | ok t =>
                obtain ⟨l, k1⟩ := t
                rw [hst] at HTX
                have so := strM_ok hst
                have hsz := str_size HTW2.out hst
                have HTW3 := Lib.hid (strM_pt HTW2.out hst).2
                have HX2 := Lib.hid (HX.out.2 (l, k1) hst)
                obtain ⟨so1, so2⟩ := so
                have hmk : (mkB l).size = l.length := mkB_size l
                have HEM : Hid (l ≠ [] ↔ mkB l ≠ ⟨#[]⟩) := Lib.hid ⟨fun h e => h (by
                  have := mkB_size l
                  rw [e] at this
                  exact List.length_eq_zero_iff.1 this.symm), fun h e => h (by rw [e]; rfl)⟩
                clear hst HX
                dsimp only at HTX HTW3 HX2
                obtain ⟨x, hx⟩ : ∃ x, x = mkB l := ⟨_, rfl⟩
                have HTX1 : Hid (Calls Tryd.prog 38 #[.pointer (some ⟨p, 0, none⟩)] wc fun e w' => e = .returned (.string x) ∧ RfB w' p s k1 vr2 M 0 ∧ Fr p vr2 vr2 wc w') := Lib.hid (by rw [hx]; exact HTX.out)
                rw [← hx] at HX2 hmk HEM
                clear hx HTX
                have HA := Lib.hid (fun W vn (o : OwN B W vn names) => amongR_any x W o (by omega))
                obtain ⟨tw, htw⟩ : ∃ tw, tw = names.any (fun y => decide (y = x)) := ⟨_, rfl⟩
                rw [← htw] at HA HX2
                have HTWI := Lib.hid htw
                clear htw
                by_cases hl : l = []
                · have HY9 := Lib.hid (HX2.out.1 hl)
                  have hx0 : x = ⟨#[]⟩ := by
                    by_cases e : x = ⟨#[]⟩
                    · exact e
                    · exact absurd hl (HEM.out.2 e)
                  subst hx0
                  have htw0 : tw = false := by
                    rw [HTWI.out, List.any_eq_false]
                    intro y hy
                    have := HNE.out y hy
                    simpa using this
                  subst htw0
                  clear hl HX2
                  go_wp2_with fail
                  refine HTX1.out.mono ?_
                  rintro e w6 ⟨rfl, r6, f6⟩
                  have S6 := Lib.hid (S5.out.step r6 f6 HLT.out)
                  have c3 := r6.c3
                  clear r6 f6
                  go_wp2_with fail
                  refine (HA.out _ _ S6.out.own).mono ?_
                  rintro e w7 ⟨rfl, hw7⟩
                  obtain rfl := hw7.symm
                  go_wp2_with fail
                  refine (rfail_ok 8 _ S6.out.rd).mono ?_
                  rintro e w7 ⟨rfl, r7, f7⟩
                  have S7 := Lib.hid (S6.out.step r7 f7 HLT.out)
                  clear r7 f7
                  go_wp2_with (at_builtin; refine wpList_append_own_at _ rfl _ _ 90 rfl B 9 iS (.string ⟨#[]⟩) 1 16 Tryd.underlying90 hiS hzS0 hzS1 hzS2 rfl (by decide) _ names.length (names.map Value.string) rfl (S7.out.own.1.alloc _) ⟨w7.heap.size, 0, none⟩ 1 1 [.string ⟨#[]⟩] rfl rfl (news_at _ _ _ _ rfl) (by intro u hu; simp at hu; subst hu; rfl) (by unfold maxLen; omega) (by omega) (by have := S7.out.own.2; simp; omega) ?_; intro v' w' ho hg _ ha; have T6 := Lib.hid (S7.out.addn HB.out _ ho hg ha HLT.out); clear ho hg ha)
                  refine (rblanks_err _ T6.out.rd (by decide) (by omega) so2).mono ?_
                  rintro e w7 ⟨rfl, r7, f7⟩
                  have T7 := Lib.hid (T6.out.step r7 f7 HLT.out)
                  clear r7 f7
                  go_wp2_with fail
                  refine (rtake_err (⟨#[58]⟩ : ByteArray) _ T7.out.rd (by decide) (by omega) so2 (by decide) (by decide) (by decide)).mono ?_
                  rintro e w8 ⟨rfl, r8, f8⟩
                  have T8 := Lib.hid (T7.out.step r8 f8 HLT.out)
                  clear r8 f8
                  go_wp2_with fail
                  go_meet
                  exact ⟨⟨#[]⟩, rfl, Lib.hid (.inr ⟨8, by decide, HY9.out, _, _, _, so2, T8.out.rd, T8.out.fr⟩)⟩
                · have hq := txt_ne (HEM.out.1 hl)
                  have HXN := HX2.out.2 hl
                  have HNX := Lib.hid (HEM.out.1 hl)
                  clear hl HX2
                  cases htt : tw with
                  | true =>
                    have HY9 := Lib.hid (HXN.1 htt)
                    rw [htt] at HA
                    clear HXN htt
                    go_wp2_with fail
                    refine HTX1.out.mono ?_
                    rintro e w6 ⟨rfl, r6, f6⟩
                    have S6 := Lib.hid (S5.out.step r6 f6 HLT.out)
                    have c3 := r6.c3
                    clear r6 f6
                    go_wp2_with fail
                    refine (HA.out _ _ S6.out.own).mono ?_
                    rintro e w7 ⟨rfl, hw7⟩
                    obtain rfl := hw7.symm
                    go_wp2_with fail
                    refine (rfail_ok 42 _ S6.out.rd).mono ?_
                    rintro e w7 ⟨rfl, r7, f7⟩
                    have S7 := Lib.hid (S6.out.step r7 f7 HLT.out)
                    clear r7 f7
                    go_wp2_with (at_builtin; refine wpList_append_own_at _ rfl _ _ 90 rfl B 9 iS (.string ⟨#[]⟩) 1 16 Tryd.underlying90 hiS hzS0 hzS1 hzS2 rfl (by decide) _ names.length (names.map Value.string) rfl (S7.out.own.1.alloc _) ⟨w7.heap.size, 0, none⟩ 1 1 [.string x] rfl rfl (news_at _ _ _ _ rfl) (by intro u hu; simp at hu; subst hu; rfl) (by unfold maxLen; omega) (by omega) (by have := S7.out.own.2; simp; omega) ?_; intro v' w' ho hg _ ha; have T6 := Lib.hid (S7.out.addn HB.out _ ho hg ha HLT.out); clear ho hg ha)
                    refine (rblanks_err _ T6.out.rd (by decide) (by omega) so2).mono ?_
                    rintro e w7 ⟨rfl, r7, f7⟩
                    have T7 := Lib.hid (T6.out.step r7 f7 HLT.out)
                    clear r7 f7
                    go_wp2_with fail
                    refine (rtake_err (⟨#[58]⟩ : ByteArray) _ T7.out.rd (by decide) (by omega) so2 (by decide) (by decide) (by decide)).mono ?_
                    rintro e w8 ⟨rfl, r8, f8⟩
                    have T8 := Lib.hid (T7.out.step r8 f8 HLT.out)
                    clear r8 f8
                    go_wp2_with fail
                    go_meet
                    exact ⟨x, rfl, Lib.hid (.inr ⟨42, by decide, HY9.out, _, _, _, so2, T8.out.rd, T8.out.fr⟩)⟩
                  | false =>
                    have HXF := Lib.hid (HXN.2 htt)
                    rw [htt] at HA
                    clear HXN htt
                    go_wp2_with fail
                    refine HTX1.out.mono ?_
                    rintro e w6 ⟨rfl, r6, f6⟩
                    have S6 := Lib.hid (S5.out.step r6 f6 HLT.out)
                    have c3 := r6.c3
                    clear r6 f6
                    go_wp2_with fail
                    refine (HA.out _ _ S6.out.own).mono ?_
                    rintro e w7 ⟨rfl, hw7⟩
                    obtain rfl := hw7.symm
                    go_wp2_with (at_builtin; refine wpList_append_own_at _ rfl _ _ 90 rfl B 9 iS (.string ⟨#[]⟩) 1 16 Tryd.underlying90 hiS hzS0 hzS1 hzS2 rfl (by decide) _ names.length (names.map Value.string) rfl (S6.out.own.1.alloc _) ⟨w6.heap.size, 0, none⟩ 1 1 [.string x] rfl rfl (news_at _ _ _ _ rfl) (by intro u hu; simp at hu; subst hu; rfl) (by unfold maxLen; omega) (by omega) (by have := S6.out.own.2; simp; omega) ?_; intro v' w' ho hg _ ha; have T6 := Lib.hid (S6.out.addn HB.out _ ho hg ha HLT.out); clear ho hg ha)
                    refine (rblanks_any _ T6.out.rd (by omega) so2).mono ?_
                    rintro e w7 ⟨rfl, r7, f7⟩
                    have T7 := Lib.hid (T6.out.step r7 f7 HLT.out)
                    clear r7 f7
                    have hb8 : bl s k1 ≤ s.size := bl_le so2
                    have hb9 := bl_ge s k1
                    have HTK := Lib.hid (rtake_any (⟨#[58]⟩ : ByteArray) _ T7.out.rd (by omega) hb8 (by decide) (by decide))
                    have e58 : bI ⟨#[58]⟩ = [58] := rfl
                    rw [e58] at HTK
                    clear e58
                    cases hw : wordM s [58] (bl s k1) with
                    | bad m =>
                      obtain rfl := wordM_bad _ _ _ hw
                      have HY9 := Lib.hid (HXF.out.1 40 hw)
                      rw [hw] at HTK
                      clear hw HXF
                      go_wp2_with fail
                      refine HTK.out.mono ?_
                      rintro e w8 ⟨rfl, j8, hj8, r8, f8⟩
                      have T8 := Lib.hid (T7.out.step r8 f8 HLT.out)
                      clear r8 f8
                      go_wp2_with fail
                      go_meet
                      exact ⟨x, rfl, Lib.hid (.inr ⟨40, by decide, HY9.out, _, _, _, hj8, T8.out.rd, T8.out.fr⟩)⟩
                    | ok k2 =>
                      have HXK := Lib.hid (HXF.out.2 k2 hw)
                      rw [hw] at HTK
                      obtain ⟨w58, rfl⟩ := word1 hw
                      have hin8 := byt_in (s := s) (i := bl s k1) (by omega)
                      have HTW4 := Lib.hid (HTW3.out.asc ((bl_asc s k1).trans (Asc.one (by omega))) (by omega))
                      clear hw HXF w58
                      go_wp2_with fail
                      refine HTK.out.mono ?_
                      rintro e w8 ⟨rfl, r8, f8⟩
                      have T8 := Lib.hid (T7.out.step r8 f8 HLT.out)
                      clear r8 f8
                      go_wp2_with fail
                      go_meet
                      refine ⟨x, rfl, Lib.hid (.inl ⟨bl s k1 + 1, _, _, T8.out, by omega, by omega, HTW4.out, by omega, by rw [List.length_append, List.length_singleton]; omega, fun y hy => ?_, HXK.out.1, HXK.out.2⟩)⟩
                      rcases List.mem_append.1 hy with h | h
                      · exact HNE.out y h
                      · obtain rfl := List.mem_singleton.1 h; exact HNX.out
            case rest =>
              obtain ⟨name, rfl, HC⟩ := hcut
              rcases HC.out with ⟨k2, vr5, names5, g3, g7, g8, g9, ga, gb, gc, gd, ge⟩ | ⟨m, gm, gy, vr5, L5, j5, hj5, r5, f5⟩
              · have S6 := Lib.hid g3
                have HX := Lib.hid (And.intro gd ge)
                have HNE5 := Lib.hid gc
                have hlm : 2 * M.length ≤ k2 + (op + 1) := by have := HLE.out; have := HS.out.2.2.1; omega
                have HVC := Lib.hid (HV.out p k2 (op + 1) ((op : Int) + 1) vr5 M name _ (by omega) hop (by omega) ga g3.rd g8 g9 hlm)
                rw [← HVV.out] at HVC
                have HTW5 := Lib.hid g9
                clear g3 g9 gc gd ge HC
                cases hv : V name k2 with
                | bad m =>
                  rw [hv] at HVC
                  have HY9 := Lib.hid (HX.out.1 m hv)
                  clear hv
                  go_wp2_with fail
                  refine HVC.out.mono ?_
                  rintro e w8 ⟨rfl, hm0, vr8, L8, j8, hj8, r8, f8⟩
                  have S8 := Lib.hid (And.intro r8 (S6.out.fr.trans f8))
                  have HM0 := Lib.hid hm0
                  clear r8 f8 hm0
                  go_wp2_with fail
                  refine (rblanks_err _ S8.out.1 (by exact HM0.out) (by omega) hj8).mono ?_
                  rintro e w9 ⟨rfl, r9, f9⟩
                  have S9 : Hid (MnE p s v w w9 m) := Lib.hid ⟨_, _, _, hj8, r9, S8.out.2.trans f9⟩
                  clear r9 f9
                  go_wp2_with fail
                  go_roundg (gk - 1)
                  case rel => exact ⟨n + 1, _, by omega, by go_num, rfl, .inr ⟨m, Lib.hid ⟨S9.out, HM0.out, HY9.out⟩⟩⟩
                  case measure => omega
                | ok y =>
                  obtain ⟨j, N2⟩ := y
                  rw [hv] at HVC
                  have HOK := Lib.hid (valR_ok hs hop ga g8 hlm HTW5.out (by rw [← HVV.out]; exact hv))
                  obtain ⟨o1, o2, o3, _⟩ := HOK.out
                  have HC2 := Lib.hid (HX.out.2 j N2 hv (by omega) o2)
                  clear hv
                  go_wp2_with fail
                  refine HVC.out.mono ?_
                  rintro e w8 ⟨rfl, vr8, r8, f8⟩
                  have S8 := Lib.hid (S6.out.step r8 f8 HLT.out)
                  clear r8 f8
                  go_wp2_with fail
                  refine (rblanks_any _ S8.out.rd (by omega) (by omega)).mono ?_
                  rintro e w9 ⟨rfl, r9, f9⟩
                  have S9 := Lib.hid (S8.out.step r9 f9 HLT.out)
                  clear r9 f9
                  go_wp2_with fail
                  go_roundg (gk - 1)
                  case rel =>
                    have hb9 := bl_ge s j
                    have hb8 : bl s j ≤ s.size := bl_le (by omega)
                    exact ⟨n + 1, _, by omega, by go_num, rfl, .inl ⟨bl s j, _, N ++ N2, M ++ N2, _, by omega, hb8, by omega, by omega, by omega, Lib.hid (by rw [HM.out, List.append_assoc]), Lib.hid ⟨S9.out, HOK.out.2.2.2.asc (bl_asc s j) hb8, by omega, fun e => by omega, HC2.out, HNE5.out⟩⟩⟩
                  case measure => omega
              · have S5 := Lib.hid (And.intro r5 f5)
                have HY9 := Lib.hid gy
                have HM0 := Lib.hid gm
                have HVE := Lib.hid (fun W nm' (r : RfB W p s j5 vr5 L5 m) => rvalue_err nm' ((op : Int) + 1) W r gm (by omega) hj5)
                clear r5 f5 gy gm HC
                go_wp2_with fail
                refine (HVE.out _ _ S5.out.1).mono ?_
                rintro e w8 ⟨rfl, r8, f8⟩
                have S8 := Lib.hid (And.intro r8 (S5.out.2.trans f8))
                clear r8 f8
                go_wp2_with fail
                refine (rblanks_err _ S8.out.1 (by exact HM0.out) (by omega) hj5).mono ?_
                rintro e w9 ⟨rfl, r9, f9⟩
                have S9 : Hid (MnE p s v w w9 m) := Lib.hid ⟨_, _, _, hj5, r9, S8.out.2.trans f9⟩
                clear r9 f9
                go_wp2_with fail
                go_roundg (gk - 1)
                case rel => exact ⟨n + 1, _, by omega, by go_num, rfl, .inr ⟨m, Lib.hid ⟨S9.out, HM0.out, HY9.out⟩⟩⟩
                case measure => omega
          · obtain ⟨j5, vr5, hj5, g2⟩ := g2
            have S5 := Lib.hid g2
            have HY9 := Lib.hid g1
            have HTX := Lib.hid (rtxt1_err _ g2.rd (by decide) (by omega) hj5)
            have HVE := Lib.hid (fun W nm' (r : RfB W p s j5 vr5 M 40) => rvalue_err nm' ((op : Int) + 1) W r (by decide) (by omega) hj5)
            clear g2 g1 HC HBC
            go_wp2_with fail
            refine HTX.out.mono ?_
            rintro e w6 ⟨rfl, r6, f6⟩
            have S6 := Lib.hid (S5.out.step r6 f6 HLT.out)
            have c3 := r6.c3
            clear r6 f6
            go_wp2_with fail
            refine (rfail_no 8 _ S6.out.rd (by decide)).mono ?_
            rintro e w7 ⟨rfl, hw7⟩
            obtain rfl := hw7.symm
            go_wp2_with (at_builtin; refine wpList_append_own_at _ rfl _ _ 90 rfl B 9 iS (.string ⟨#[]⟩) 1 16 Tryd.underlying90 hiS hzS0 hzS1 hzS2 rfl (by decide) _ names.length (names.map Value.string) rfl (S6.out.own.1.alloc _) ⟨w6.heap.size, 0, none⟩ 1 1 [.string ⟨#[]⟩] rfl rfl (news_at _ _ _ _ rfl) (by intro u hu; simp at hu; subst hu; rfl) (by unfold maxLen; omega) (by omega) (by have := S6.out.own.2; simp; omega) ?_; intro v' w' ho hg _ ha; have T6 := Lib.hid (S6.out.addn HB.out _ ho hg ha HLT.out); clear ho hg ha)
            refine (rblanks_err _ T6.out.rd (by decide) (by omega) hj5).mono ?_
            rintro e w7 ⟨rfl, r7, f7⟩
            have T7 := Lib.hid (T6.out.step r7 f7 HLT.out)
            clear r7 f7
            go_wp2_with fail
            refine (rtake_err (⟨#[58]⟩ : ByteArray) _ T7.out.rd (by decide) (by omega) hj5 (by decide) (by decide) (by decide)).mono ?_
            rintro e w8 ⟨rfl, r8, f8⟩
            have T8 := Lib.hid (T7.out.step r8 f8 HLT.out)
            clear r8 f8
            go_wp2_with fail
            refine (HVE.out _ _ T8.out.rd).mono ?_
            rintro e w9 ⟨rfl, r9, f9⟩
            have S8 := Lib.hid (And.intro r9 (T8.out.fr.trans f9))
            clear r9 f9
            go_wp2_with fail
            refine (rblanks_err _ S8.out.1 (by decide) (by omega) hj5).mono ?_
            rintro e w9 ⟨rfl, r9, f9⟩
            have S9 : Hid (MnE p s v w w9 40) := Lib.hid ⟨_, _, _, hj5, r9, S8.out.2.trans f9⟩
            clear r9 f9
            go_wp2_with fail
            go_roundg (gk - 1)
            case rel => exact ⟨n + 1, _, by omega, by go_num, rfl, .inr ⟨40, Lib.hid ⟨S9.out, by decide, HY9.out⟩⟩⟩
            case measure => omega
    · obtain ⟨⟨vr5, L5, j5, hj5, r5, f5⟩, hm0, hym⟩ := HE.out
      have S5 := Lib.hid (And.intro r5 f5)
      have c3 := r5.c3
      have HYM := Lib.hid hym
      have HM0 := Lib.hid hm0
      have hmb : (m == 0) = false := beq_eq_false_iff_ne.2 hm0
      have cv := conv_one 125 wr (by decide) (by decide)
      have S6 := Lib.hid (r5.below (w' := wr.alloc (.cells #[.int .u8 125] 5)) ((Below.refl _ _).alloc (Nat.le_refl _) _))
      have HTK := Lib.hid (rtake_err (mkB [125]) _ S6.out.1 hm0 (by omega) hj5 (by rw [mkB_size]; decide) (by rw [mkB_size]; decide) (by rw [(byt_one 125 (by decide) (by decide)).2]; decide))
      clear r5 f5 hm0 hym HE
      go_wp2_with fail
      refine HTK.out.mono ?_
      rintro e w7 ⟨rfl, r7, f7⟩
      have S7 := Lib.hid (And.intro r7 (S5.out.2.trans (S6.out.2.trans f7)))
      have c3 := r7.c3
      clear r7 f7 cv
      go_wp2_with fail
      go_end0
      rw [HYM.out]
      exact ⟨rfl, HM0.out, _, _, _, hj5, S7.out.1, S7.out.2⟩
end Go.Proofs.YtoicmcjpaodgpaaDoor
/- Layer 4, the document's Read: a bracket too deep; two fields of the last cell. -/
namespace Go.Proofs.YtoicmcjpaodgpaaDoor
open Go.RowKit Go.Maps
theorem gl_lastR (L : List CR) (c : CR) : gl (L ++ [c]) L.length = c := by unfold gl; simp [List.getD]
theorem set_lastR (L : List CR) (c c' : CR) : (L ++ [c]).set L.length c' = L ++ [c'] := by simp
/-- A field of the last cell is set. -/
theorem RfB.last {w : World} {p q cap i : Nat} {s : ByteArray} {L : List CR} {c : CR} {e : Int} (h : RfB w p s i (.slice (some ⟨q, 0, none⟩) (L.length + 1) cap) (L ++ [c]) e) (hpq : p < q) (f : Nat) (hf : f < 5) (x : Value) (c' : CR) (hx : (cellL c).set f x = cellL c') :
    RfB (w.setCell ⟨q, L.length * 5 + f, none⟩ x) p s i (.slice (some ⟨q, 0, none⟩) (L.length + 1) cap) (L ++ [c']) e ∧ Fr p (.slice (some ⟨q, 0, none⟩) (L.length + 1) cap) (.slice (some ⟨q, 0, none⟩) (L.length + 1) cap) w (w.setCell ⟨q, L.length * 5 + f, none⟩ x) := by
  have e1 : (L ++ [c]).length = L.length + 1 := by simp
  rw [← e1] at h ⊢
  have r := h.setF hpq (k := L.length) (by simp) f hf x c' (by rw [gl_lastR]; exact hx)
  rw [set_lastR] at r
  exact r
/-- The last cell's fields. -/
theorem RfB.lasts {w : World} {p q cap i : Nat} {s : ByteArray} {L : List CR} {c : CR} {e : Int} (h : RfB w p s i (.slice (some ⟨q, 0, none⟩) (L.length + 1) cap) (L ++ [c]) e) : (w.cell? ⟨q, L.length * 5, none⟩ = some (.int .u8 c.k) ∧ w.cell? ⟨q, L.length * 5 + 2, none⟩ = some (.string c.tx) ∧ w.cell? ⟨q, L.length * 5 + 3, none⟩ = some (.int .i64 c.n)) ∧ ∀ o, w.frozen? ⟨q, o, none⟩ = false := by
  have e1 : (L ++ [c]).length = L.length + 1 := by simp
  rw [← e1] at h
  have r := h.cells (k := L.length) (by simp)
  rw [gl_lastR] at r
  exact ⟨⟨r.1, r.2.2.1, r.2.2.2.1⟩, fun o => h.cellz o⟩
set_option maxRecDepth 20000 in
set_option maxHeartbeats 4000000 in
theorem rmany_nest {p i : Nat} {s : ByteArray} {v : Value} {L : List CR} (k : Int) (w : World) (h : RfB w p s i v L 0) (hb : byt s i = 123 ∨ byt s i = 91) (hs : s.size ≤ 3000) : Calls Tryd.prog 37 #[.pointer (some ⟨p, 0, none⟩), .int .i64 k, .int .i64 16] w fun e w' => e = .returned (.tuple #[]) ∧ MnE p s v w w' 30 := by
  have hi := byt_in (s := s) (i := i) (by omega)
  have HLK := Lib.hid (rlook_any w h (by omega) (by omega))
  have e1 : lk s 0 i = byt s i := rfl
  rw [e1] at HLK
  have H := Lib.hid h
  have hii : (i : Int) ≤ 3000 := by omega
  obtain ⟨b, hbb⟩ : ∃ b, b = byt s i := ⟨_, rfl⟩
  rw [← hbb] at HLK hb
  clear h e1 hbb
  rcases hb with rfl | rfl
  all_goals
    go_enter Tryd.func37, Tryd.ntmps37
    go_wp2_with fail
    refine HLK.out.mono ?_
    rintro e w1 ⟨rfl, d⟩
    have R1 := Lib.hid (H.out.dr d)
    clear d
    have c1 := R1.out.1.c1
    have z1 := R1.out.1.z 1
    have hat := R1.out.1.at_ (i + 1) ((i : Int) + 1) (by omega)
    have R2 := Lib.hid (And.intro hat.1 (R1.out.2.trans hat.2))
    clear hat
    go_wp2_with fail
    refine (rfail_ok 30 _ R2.out.1).mono ?_
    rintro e w3 ⟨rfl, r3, f3⟩
    have R3 := Lib.hid (And.intro r3 (R2.out.2.trans f3))
    clear r3 f3
    go_wp2_with fail
    refine (rblanks_err _ R3.out.1 (by decide) (by omega) hi).mono ?_
    rintro e w4 ⟨rfl, r4, f4⟩
    have R4 := Lib.hid (And.intro r4 (R3.out.2.trans f4))
    have c3 := r4.c3
    clear r4 f4
    go_wp2_with fail
    refine wp_loop_rounds 1 ?_
    rw [rounds_succ]
  · have cv := conv_one 125 w4 (by decide) (by decide)
    have S6 := Lib.hid (R4.out.1.below (w' := w4.alloc (.cells #[.int .u8 125] 5)) ((Below.refl _ _).alloc (Nat.le_refl _) _))
    have HTK := Lib.hid (rtake_err (mkB [125]) _ S6.out.1 (by decide) (by omega) hi (by rw [mkB_size]; decide) (by rw [mkB_size]; decide) (by rw [(byt_one 125 (by decide) (by decide)).2]; decide))
    go_wp2_with fail
    refine HTK.out.mono ?_
    rintro e w7 ⟨rfl, r7, f7⟩
    have S7 := Lib.hid (And.intro r7 (R4.out.2.trans (S6.out.2.trans f7)))
    have c3 := r7.c3
    clear r7 f7 cv
    go_wp2_with fail
    go_end0
    exact ⟨rfl, _, _, _, hi, S7.out.1, S7.out.2⟩
  · have cv := conv_one 93 w4 (by decide) (by decide)
    have S6 := Lib.hid (R4.out.1.below (w' := w4.alloc (.cells #[.int .u8 93] 5)) ((Below.refl _ _).alloc (Nat.le_refl _) _))
    have HTK := Lib.hid (rtake_err (mkB [93]) _ S6.out.1 (by decide) (by omega) hi (by rw [mkB_size]; decide) (by rw [mkB_size]; decide) (by rw [(byt_one 93 (by decide) (by decide)).2]; decide))
    go_wp2_with fail
    refine HTK.out.mono ?_
    rintro e w7 ⟨rfl, r7, f7⟩
    have S7 := Lib.hid (And.intro r7 (R4.out.2.trans (S6.out.2.trans f7)))
    have c3 := r7.c3
    clear r7 f7 cv
    go_wp2_with fail
    go_end0
    exact ⟨rfl, _, _, _, hi, S7.out.1, S7.out.2⟩
end Go.Proofs.YtoicmcjpaodgpaaDoor
/- Layer 4, the document's Read: a value. -/
namespace Go.Proofs.YtoicmcjpaodgpaaDoor
open Go.RowKit Go.Maps
set_option maxRecDepth 20000 in
set_option maxHeartbeats 0 in
theorem rvalue_step {s : ByteArray} {f : Nat} (hs : s.size ≤ 3000) (hV : VR s f) : VR s (f + 1) := by
  intro p i op ov v L nm w hov hop hop2 hnm h hi hw hL
  subst hov
  obtain ⟨i0, hin, hz0, hz1, hz2⟩ := infoC
  have hb1 := bl_ge s i
  have hb2 := bl_le hi
  have HBL := Lib.hid (rblanks_any w h (by omega) hi)
  have HTW := Lib.hid (hw.asc (bl_asc s i) hb2)
  obtain ⟨X, hX⟩ : ∃ X, X = valR s (f + 1) nm op i := ⟨_, rfl⟩
  rw [← hX]
  unfold valR at hX
  obtain ⟨k, hk⟩ : ∃ k, k = bl s i := ⟨_, rfl⟩
  rw [← hk] at HBL HTW hX hb1 hb2
  have HLK := Lib.hid (fun W (r : RfB W p s k v L 0) => rlook_any W r (by omega) (by omega))
  have e1 : lk s 0 k = byt s k := rfl
  rw [e1] at HLK
  have HBY := Lib.hid (byt_range s k)
  have HV := Lib.hid hV
  have hLn : L.length ≤ 1600 := by omega
  have hlen : ¬ (2048 : Int) ≤ (L.length : Int) := by omega
  have hL0 : (0 : Int) ≤ (L.length : Int) := by omega
  have hopi : (op : Int) ≤ 16 := by omega
  have HK := Lib.hid hk
  have HLT := Lib.hid h.lt
  obtain ⟨ad, cp, rfl⟩ := h.slice
  clear h hw hk e1 hV
  obtain ⟨b, hb⟩ : ∃ b, b = byt s k := ⟨_, rfl⟩
  rw [← hb] at HLK hX HBY
  have HB := Lib.hid hb
  clear hb
  by_cases h1 : isSt b = false
  · rw [if_pos h1] at hX
    have HX := Lib.hid hX
    simp only [isSt, isDg, Bool.or_eq_false_iff, decide_eq_false_iff_not, Bool.and_eq_false_iff] at h1
    obtain ⟨⟨⟨⟨⟨⟨⟨n1, n2⟩, n3⟩, n4⟩, n5⟩, n6⟩, n7⟩, n8⟩ := h1
    have q1 : (b == 123) = false := beq_eq_false_iff_ne.2 n1
    have q2 : (b == 91) = false := beq_eq_false_iff_ne.2 n2
    have q3 : (b == 34) = false := beq_eq_false_iff_ne.2 n3
    have q4 : (b == 116) = false := beq_eq_false_iff_ne.2 n4
    have q5 : (b == 102) = false := beq_eq_false_iff_ne.2 n5
    have q6 : (b == 110) = false := beq_eq_false_iff_ne.2 n6
    have q7 : (b == 45) = false := beq_eq_false_iff_ne.2 n7
    have HZ : Hid ((b = 0 ∧ (48 : Int) ≤ 57) ∨ ((b != 0) = true ∧ ¬ 48 ≤ b) ∨ ((b != 0) = true ∧ 48 ≤ b ∧ ¬ b ≤ 57)) := Lib.hid (by
      by_cases z : b = 0
      · exact .inl ⟨z, by decide⟩
      · rcases n8 with n8 | n8
        · exact .inr (.inl ⟨by simp [z], n8⟩)
        · by_cases y : 48 ≤ b
          · exact .inr (.inr ⟨by simp [z], y, n8⟩)
          · exact .inr (.inl ⟨by simp [z], y⟩))
    clear n1 n2 n3 n4 n5 n6 n7 n8 hX
    rcases HZ.out with ⟨rfl, zz⟩ | ⟨z1, z2⟩ | ⟨z1, z2, z3⟩
    all_goals
      clear HZ
      go_enter Tryd.func23, Tryd.ntmps23
      go_wp2_with fail
      refine HBL.out.mono ?_
      rintro e w1 ⟨rfl, r1, f1⟩
      have R1 := Lib.hid (And.intro r1 f1)
      clear r1 f1
      go_wp2_with fail
      refine (HLK.out _ R1.out.1).mono ?_
      rintro e w2 ⟨rfl, d⟩
      have R2 := Lib.hid (And.intro (R1.out.1.dr d).1 (R1.out.2.trans (R1.out.1.dr d).2))
      have c3 := R2.out.1.c3
      have c2 := R2.out.1.c2
      clear d
      have HO := Lib.hid (R2.out.1.row.alloc (.cells #[.int .u8 0, .string nm, .string ⟨#[]⟩, .int .i64 0, .int .i64 0] 42))
      have HSZ := Lib.hid R2.out.1.lt
      go_wp2_with (at_builtin; go_loud (refine wpList_append_own_at _ rfl _ _ 26 rfl (p + 1) 42 i0 (.agg #[.int .u8 0, .string ⟨#[]⟩, .string ⟨#[]⟩, .int .i64 0, .int .i64 0]) 5 56 Tryd.underlying26 hin hz0 hz1 hz2 rfl (by decide) (.slice ad L.length cp) L.length (rw5 L) rfl HO.out ⟨w2.heap.size, 0, none⟩ 1 1 [.int .u8 0, .string nm, .string ⟨#[]⟩, .int .i64 0, .int .i64 0] rfl rfl (news_at _ _ _ _ rfl) (by intro u hu; simp at hu; rcases hu with rfl | rfl | rfl | rfl | rfl <;> rfl) (by unfold maxLen; omega) (by omega) (by have := HSZ.out; simp; omega) ?_; intro v1 w3 ho1 hg1 _ ha1; have R3 := Lib.hid (R2.out.1.push ⟨0, nm, ⟨#[]⟩, 0, 0⟩ ho1 hg1.os hg1.tape hg1.output (Nat.le_trans (by simp) hg1.size) (fun k h1 h2 => by rw [hg1.block k (by simp; omega) (fun e => h2 e.symm)]; exact heap_alloc_old _ _ h1) (ha1.elim .inl (fun e => .inr ⟨_, e, by simp⟩))); clear ho1 hg1 ha1; obtain ⟨q, cap, hvq, hpq, hqw⟩ := R3.out.2.2.1.addr (by simp); rw [List.length_append, List.length_singleton] at hvq; subst hvq; have c2' := R3.out.1; have z2' := R3.out.2.1; have HPQ := Lib.hid hpq; have R4 := Lib.hid (And.intro R3.out.2.2.1 (R2.out.2.trans R3.out.2.2.2)); clear hpq hqw))
      refine (rfail_ok 40 _ R4.out.1).mono ?_
      rintro e w5 ⟨rfl, r5, f5⟩
      have R5 := Lib.hid (And.intro r5 (R4.out.2.trans f5))
      clear r5 f5
      go_wp2_with fail
      go_end0
      rw [HX.out]
      exact ⟨rfl, by decide, _, _, _, hb2, R5.out.1, R5.out.2⟩
  rw [if_neg h1] at hX
  have hks : k < s.size := byt_in (by rw [← HB.out]; intro e; rw [e] at h1; exact h1 (by decide))
  by_cases h123 : b = 123
  · by_cases h16 : op = 16
    · rw [if_pos ⟨.inl h123, h16⟩] at hX
      have HX := Lib.hid hX
      have hbk : byt s k = 123 := by rw [← HB.out]; exact h123
      subst h123
      subst h16
      clear h1 hX
      go_enter Tryd.func23, Tryd.ntmps23
      go_wp2_with fail
      refine HBL.out.mono ?_
      rintro e w1 ⟨rfl, r1, f1⟩
      have R1 := Lib.hid (And.intro r1 f1)
      clear r1 f1
      go_wp2_with fail
      refine (HLK.out _ R1.out.1).mono ?_
      rintro e w2 ⟨rfl, d⟩
      have R2 := Lib.hid (And.intro (R1.out.1.dr d).1 (R1.out.2.trans (R1.out.1.dr d).2))
      have c3 := R2.out.1.c3
      have c2 := R2.out.1.c2
      clear d
      have HO := Lib.hid (R2.out.1.row.alloc (.cells #[.int .u8 0, .string nm, .string ⟨#[]⟩, .int .i64 0, .int .i64 0] 42))
      have HSZ := Lib.hid R2.out.1.lt
      go_wp2_with (at_builtin; go_loud (refine wpList_append_own_at _ rfl _ _ 26 rfl (p + 1) 42 i0 (.agg #[.int .u8 0, .string ⟨#[]⟩, .string ⟨#[]⟩, .int .i64 0, .int .i64 0]) 5 56 Tryd.underlying26 hin hz0 hz1 hz2 rfl (by decide) (.slice ad L.length cp) L.length (rw5 L) rfl HO.out ⟨w2.heap.size, 0, none⟩ 1 1 [.int .u8 0, .string nm, .string ⟨#[]⟩, .int .i64 0, .int .i64 0] rfl rfl (news_at _ _ _ _ rfl) (by intro u hu; simp at hu; rcases hu with rfl | rfl | rfl | rfl | rfl <;> rfl) (by unfold maxLen; omega) (by omega) (by have := HSZ.out; simp; omega) ?_; intro v1 w3 ho1 hg1 _ ha1; have R3 := Lib.hid (R2.out.1.push ⟨0, nm, ⟨#[]⟩, 0, 0⟩ ho1 hg1.os hg1.tape hg1.output (Nat.le_trans (by simp) hg1.size) (fun k h1 h2 => by rw [hg1.block k (by simp; omega) (fun e => h2 e.symm)]; exact heap_alloc_old _ _ h1) (ha1.elim .inl (fun e => .inr ⟨_, e, by simp⟩))); clear ho1 hg1 ha1; obtain ⟨q, cap, hvq, hpq, hqw⟩ := R3.out.2.2.1.addr (by simp); rw [List.length_append, List.length_singleton] at hvq; subst hvq; have c2' := R3.out.1; have z2' := R3.out.2.1; have HPQ := Lib.hid hpq; have R4 := Lib.hid (And.intro R3.out.2.2.1 (R2.out.2.trans R3.out.2.2.2)); clear hpq hqw; have LS := R4.out.1.lasts; have d0 := LS.1.1; have d2 := LS.1.2.1; have d3 := LS.1.2.2; have zq0 := LS.2 (L.length * 5); have zq2 := LS.2 (L.length * 5 + 2); have zq3 := LS.2 (L.length * 5 + 3); dsimp only at d0 d2 d3; clear LS; have S5 := Lib.hid (R4.out.1.last HPQ.out 0 (by decide) (.int .u8 6) ⟨6, nm, ⟨#[]⟩, 0, 0⟩ rfl); have c2s := S5.out.1.c2; have LS := S5.out.1.lasts; have d0s := LS.1.1; have zqs := LS.2 (L.length * 5); dsimp only at d0s; clear LS; have S6 := Lib.hid (S5.out.1.last HPQ.out 0 (by decide) (.int .u8 7) ⟨7, nm, ⟨#[]⟩, 0, 0⟩ rfl)))
      refine (rmany_nest _ _ S6.out.1 (.inl hbk) hs).mono ?_
      rintro e w7 ⟨rfl, vr, L7, j7, hj7, r7, f7⟩
      have R7 := Lib.hid (And.intro r7 ((R4.out.2.trans (S5.out.2.trans S6.out.2)).trans f7))
      clear r7 f7
      go_wp2_with fail
      go_end0
      rw [HX.out]
      exact ⟨rfl, by decide, _, _, _, hj7, R7.out.1, R7.out.2⟩
    · rw [if_neg (fun e => h16 e.2), if_pos h123] at hX
      have hbk : byt s k = 123 := by rw [← HB.out]; exact h123
      have HMA := Lib.hid (fun W v' (r : RfB W p s k v' (L ++ [⟨7, nm, ⟨#[]⟩, 0, 0⟩]) 0) => rmanyO_any W HV.out (by omega : op + 1 + f = 17) (by omega) r hbk hs HTW.out (by omega))
      obtain ⟨Z, hZ⟩ : ∃ Z, Z = alM s (itO s (fun nm' j => valR s f nm' (op + 1) j)) 125 (bl s (k + 1)) (0, [], []) := ⟨_, rfl⟩
      rw [← hZ] at HMA hX
      have HX := Lib.hid hX
      subst h123
      clear h1 hX hZ h16
      go_enter Tryd.func23, Tryd.ntmps23
      go_wp2_with fail
      refine HBL.out.mono ?_
      rintro e w1 ⟨rfl, r1, f1⟩
      have R1 := Lib.hid (And.intro r1 f1)
      clear r1 f1
      go_wp2_with fail
      refine (HLK.out _ R1.out.1).mono ?_
      rintro e w2 ⟨rfl, d⟩
      have R2 := Lib.hid (And.intro (R1.out.1.dr d).1 (R1.out.2.trans (R1.out.1.dr d).2))
      have c3 := R2.out.1.c3
      have c2 := R2.out.1.c2
      clear d
      have HO := Lib.hid (R2.out.1.row.alloc (.cells #[.int .u8 0, .string nm, .string ⟨#[]⟩, .int .i64 0, .int .i64 0] 42))
      have HSZ := Lib.hid R2.out.1.lt
      go_wp2_with (at_builtin; go_loud (refine wpList_append_own_at _ rfl _ _ 26 rfl (p + 1) 42 i0 (.agg #[.int .u8 0, .string ⟨#[]⟩, .string ⟨#[]⟩, .int .i64 0, .int .i64 0]) 5 56 Tryd.underlying26 hin hz0 hz1 hz2 rfl (by decide) (.slice ad L.length cp) L.length (rw5 L) rfl HO.out ⟨w2.heap.size, 0, none⟩ 1 1 [.int .u8 0, .string nm, .string ⟨#[]⟩, .int .i64 0, .int .i64 0] rfl rfl (news_at _ _ _ _ rfl) (by intro u hu; simp at hu; rcases hu with rfl | rfl | rfl | rfl | rfl <;> rfl) (by unfold maxLen; omega) (by omega) (by have := HSZ.out; simp; omega) ?_; intro v1 w3 ho1 hg1 _ ha1; have R3 := Lib.hid (R2.out.1.push ⟨0, nm, ⟨#[]⟩, 0, 0⟩ ho1 hg1.os hg1.tape hg1.output (Nat.le_trans (by simp) hg1.size) (fun k h1 h2 => by rw [hg1.block k (by simp; omega) (fun e => h2 e.symm)]; exact heap_alloc_old _ _ h1) (ha1.elim .inl (fun e => .inr ⟨_, e, by simp⟩))); clear ho1 hg1 ha1; obtain ⟨q, cap, hvq, hpq, hqw⟩ := R3.out.2.2.1.addr (by simp); rw [List.length_append, List.length_singleton] at hvq; subst hvq; have c2' := R3.out.1; have z2' := R3.out.2.1; have HPQ := Lib.hid hpq; have R4 := Lib.hid (And.intro R3.out.2.2.1 (R2.out.2.trans R3.out.2.2.2)); clear hpq hqw; have LS := R4.out.1.lasts; have d0 := LS.1.1; have d2 := LS.1.2.1; have d3 := LS.1.2.2; have zq0 := LS.2 (L.length * 5); have zq2 := LS.2 (L.length * 5 + 2); have zq3 := LS.2 (L.length * 5 + 3); dsimp only at d0 d2 d3; clear LS; have S5 := Lib.hid (R4.out.1.last HPQ.out 0 (by decide) (.int .u8 6) ⟨6, nm, ⟨#[]⟩, 0, 0⟩ rfl); have c2s := S5.out.1.c2; have LS := S5.out.1.lasts; have d0s := LS.1.1; have zqs := LS.2 (L.length * 5); dsimp only at d0s; clear LS; have S6 := Lib.hid (S5.out.1.last HPQ.out 0 (by decide) (.int .u8 7) ⟨7, nm, ⟨#[]⟩, 0, 0⟩ rfl)))
      have HM1 := Lib.hid (HMA.out _ _ S6.out.1)
      have F6 := Lib.hid (R4.out.2.trans (S5.out.2.trans S6.out.2))
      cases Z with
      | bad m =>
        refine HM1.out.mono ?_
        rintro e w7 ⟨rfl, hm0, vr, L7, j7, hj7, r7, f7⟩
        have R7 := Lib.hid (And.intro r7 (F6.out.trans f7))
        have HM0 := Lib.hid hm0
        clear r7 f7 hm0
        go_wp2_with fail
        go_end0
        rw [HX.out]
        exact ⟨rfl, HM0.out, _, _, _, hj7, R7.out.1, R7.out.2⟩
      | ok y =>
        refine HM1.out.mono ?_
        rintro e w7 ⟨rfl, vr, r7, f7⟩
        have R7 := Lib.hid (And.intro r7 (F6.out.trans f7))
        clear r7 f7
        go_wp2_with fail
        go_end0
        rw [HX.out]
        refine ⟨rfl, vr, ?_, R7.out.2⟩
        have q := R7.out.1
        rw [List.append_assoc] at q
        exact q
  by_cases h91 : b = 91
  · by_cases h16 : op = 16
    · rw [if_pos ⟨.inr h91, h16⟩] at hX
      have HX := Lib.hid hX
      have hbk : byt s k = 91 := by rw [← HB.out]; exact h91
      subst h91
      subst h16
      clear h1 hX
      go_enter Tryd.func23, Tryd.ntmps23
      go_wp2_with fail
      refine HBL.out.mono ?_
      rintro e w1 ⟨rfl, r1, f1⟩
      have R1 := Lib.hid (And.intro r1 f1)
      clear r1 f1
      go_wp2_with fail
      refine (HLK.out _ R1.out.1).mono ?_
      rintro e w2 ⟨rfl, d⟩
      have R2 := Lib.hid (And.intro (R1.out.1.dr d).1 (R1.out.2.trans (R1.out.1.dr d).2))
      have c3 := R2.out.1.c3
      have c2 := R2.out.1.c2
      clear d
      have HO := Lib.hid (R2.out.1.row.alloc (.cells #[.int .u8 0, .string nm, .string ⟨#[]⟩, .int .i64 0, .int .i64 0] 42))
      have HSZ := Lib.hid R2.out.1.lt
      go_wp2_with (at_builtin; go_loud (refine wpList_append_own_at _ rfl _ _ 26 rfl (p + 1) 42 i0 (.agg #[.int .u8 0, .string ⟨#[]⟩, .string ⟨#[]⟩, .int .i64 0, .int .i64 0]) 5 56 Tryd.underlying26 hin hz0 hz1 hz2 rfl (by decide) (.slice ad L.length cp) L.length (rw5 L) rfl HO.out ⟨w2.heap.size, 0, none⟩ 1 1 [.int .u8 0, .string nm, .string ⟨#[]⟩, .int .i64 0, .int .i64 0] rfl rfl (news_at _ _ _ _ rfl) (by intro u hu; simp at hu; rcases hu with rfl | rfl | rfl | rfl | rfl <;> rfl) (by unfold maxLen; omega) (by omega) (by have := HSZ.out; simp; omega) ?_; intro v1 w3 ho1 hg1 _ ha1; have R3 := Lib.hid (R2.out.1.push ⟨0, nm, ⟨#[]⟩, 0, 0⟩ ho1 hg1.os hg1.tape hg1.output (Nat.le_trans (by simp) hg1.size) (fun k h1 h2 => by rw [hg1.block k (by simp; omega) (fun e => h2 e.symm)]; exact heap_alloc_old _ _ h1) (ha1.elim .inl (fun e => .inr ⟨_, e, by simp⟩))); clear ho1 hg1 ha1; obtain ⟨q, cap, hvq, hpq, hqw⟩ := R3.out.2.2.1.addr (by simp); rw [List.length_append, List.length_singleton] at hvq; subst hvq; have c2' := R3.out.1; have z2' := R3.out.2.1; have HPQ := Lib.hid hpq; have R4 := Lib.hid (And.intro R3.out.2.2.1 (R2.out.2.trans R3.out.2.2.2)); clear hpq hqw; have LS := R4.out.1.lasts; have d0 := LS.1.1; have d2 := LS.1.2.1; have d3 := LS.1.2.2; have zq0 := LS.2 (L.length * 5); have zq2 := LS.2 (L.length * 5 + 2); have zq3 := LS.2 (L.length * 5 + 3); dsimp only at d0 d2 d3; clear LS; have S5 := Lib.hid (R4.out.1.last HPQ.out 0 (by decide) (.int .u8 6) ⟨6, nm, ⟨#[]⟩, 0, 0⟩ rfl)))
      refine (rmany_nest _ _ S5.out.1 (.inr hbk) hs).mono ?_
      rintro e w7 ⟨rfl, vr, L7, j7, hj7, r7, f7⟩
      have R7 := Lib.hid (And.intro r7 ((R4.out.2.trans S5.out.2).trans f7))
      clear r7 f7
      go_wp2_with fail
      go_end0
      rw [HX.out]
      exact ⟨rfl, by decide, _, _, _, hj7, R7.out.1, R7.out.2⟩
    · rw [if_neg (fun e => h16 e.2), if_neg h123, if_pos h91] at hX
      have hbk : byt s k = 91 := by rw [← HB.out]; exact h91
      have HMA := Lib.hid (fun W v' (r : RfB W p s k v' (L ++ [⟨6, nm, ⟨#[]⟩, 0, 0⟩]) 0) => rmanyL_any W HV.out (by omega : op + 1 + f = 17) (by omega) r hbk hs HTW.out (by omega))
      obtain ⟨Z, hZ⟩ : ∃ Z, Z = alM s (itL (fun nm' j => valR s f nm' (op + 1) j)) 93 (bl s (k + 1)) (0, [], []) := ⟨_, rfl⟩
      rw [← hZ] at HMA hX
      have HX := Lib.hid hX
      subst h91
      clear h1 hX hZ h16
      go_enter Tryd.func23, Tryd.ntmps23
      go_wp2_with fail
      refine HBL.out.mono ?_
      rintro e w1 ⟨rfl, r1, f1⟩
      have R1 := Lib.hid (And.intro r1 f1)
      clear r1 f1
      go_wp2_with fail
      refine (HLK.out _ R1.out.1).mono ?_
      rintro e w2 ⟨rfl, d⟩
      have R2 := Lib.hid (And.intro (R1.out.1.dr d).1 (R1.out.2.trans (R1.out.1.dr d).2))
      have c3 := R2.out.1.c3
      have c2 := R2.out.1.c2
      clear d
      have HO := Lib.hid (R2.out.1.row.alloc (.cells #[.int .u8 0, .string nm, .string ⟨#[]⟩, .int .i64 0, .int .i64 0] 42))
      have HSZ := Lib.hid R2.out.1.lt
      go_wp2_with (at_builtin; go_loud (refine wpList_append_own_at _ rfl _ _ 26 rfl (p + 1) 42 i0 (.agg #[.int .u8 0, .string ⟨#[]⟩, .string ⟨#[]⟩, .int .i64 0, .int .i64 0]) 5 56 Tryd.underlying26 hin hz0 hz1 hz2 rfl (by decide) (.slice ad L.length cp) L.length (rw5 L) rfl HO.out ⟨w2.heap.size, 0, none⟩ 1 1 [.int .u8 0, .string nm, .string ⟨#[]⟩, .int .i64 0, .int .i64 0] rfl rfl (news_at _ _ _ _ rfl) (by intro u hu; simp at hu; rcases hu with rfl | rfl | rfl | rfl | rfl <;> rfl) (by unfold maxLen; omega) (by omega) (by have := HSZ.out; simp; omega) ?_; intro v1 w3 ho1 hg1 _ ha1; have R3 := Lib.hid (R2.out.1.push ⟨0, nm, ⟨#[]⟩, 0, 0⟩ ho1 hg1.os hg1.tape hg1.output (Nat.le_trans (by simp) hg1.size) (fun k h1 h2 => by rw [hg1.block k (by simp; omega) (fun e => h2 e.symm)]; exact heap_alloc_old _ _ h1) (ha1.elim .inl (fun e => .inr ⟨_, e, by simp⟩))); clear ho1 hg1 ha1; obtain ⟨q, cap, hvq, hpq, hqw⟩ := R3.out.2.2.1.addr (by simp); rw [List.length_append, List.length_singleton] at hvq; subst hvq; have c2' := R3.out.1; have z2' := R3.out.2.1; have HPQ := Lib.hid hpq; have R4 := Lib.hid (And.intro R3.out.2.2.1 (R2.out.2.trans R3.out.2.2.2)); clear hpq hqw; have LS := R4.out.1.lasts; have d0 := LS.1.1; have d2 := LS.1.2.1; have d3 := LS.1.2.2; have zq0 := LS.2 (L.length * 5); have zq2 := LS.2 (L.length * 5 + 2); have zq3 := LS.2 (L.length * 5 + 3); dsimp only at d0 d2 d3; clear LS; have S5 := Lib.hid (R4.out.1.last HPQ.out 0 (by decide) (.int .u8 6) ⟨6, nm, ⟨#[]⟩, 0, 0⟩ rfl)))
      have HM1 := Lib.hid (HMA.out _ _ S5.out.1)
      have F6 := Lib.hid (R4.out.2.trans S5.out.2)
      cases Z with
      | bad m =>
        refine HM1.out.mono ?_
        rintro e w7 ⟨rfl, hm0, vr, L7, j7, hj7, r7, f7⟩
        have R7 := Lib.hid (And.intro r7 (F6.out.trans f7))
        have HM0 := Lib.hid hm0
        clear r7 f7 hm0
        go_wp2_with fail
        go_end0
        rw [HX.out]
        exact ⟨rfl, HM0.out, _, _, _, hj7, R7.out.1, R7.out.2⟩
      | ok y =>
        refine HM1.out.mono ?_
        rintro e w7 ⟨rfl, vr, r7, f7⟩
        have R7 := Lib.hid (And.intro r7 (F6.out.trans f7))
        clear r7 f7
        go_wp2_with fail
        go_end0
        rw [HX.out]
        refine ⟨rfl, vr, ?_, R7.out.2⟩
        have q := R7.out.1
        rw [List.append_assoc] at q
        exact q
  rw [if_neg (fun e => e.1.elim h123 h91), if_neg h123, if_neg h91] at hX
  have q123 : (b == 123) = false := beq_eq_false_iff_ne.2 h123
  have q91 : (b == 91) = false := beq_eq_false_iff_ne.2 h91
  by_cases h34 : b = 34
  · rw [if_pos h34] at hX
    have HX := Lib.hid hX
    have HTX := Lib.hid (fun W v' L' (r : RfB W p s k v' L' 0) => rtxt1_any W r (by omega) hb2 HTW.out)
    have HSB := Lib.hid (fun m (e : strM s k = .bad m) => strM_bad HTW.out e)
    obtain ⟨Z, hZ⟩ : ∃ Z, Z = strM s k := ⟨_, rfl⟩
    rw [← hZ] at HTX HX HSB
    subst h34
    clear h1 hX hZ h123 h91
    go_enter Tryd.func23, Tryd.ntmps23
    go_wp2_with fail
    refine HBL.out.mono ?_
    rintro e w1 ⟨rfl, r1, f1⟩
    have R1 := Lib.hid (And.intro r1 f1)
    clear r1 f1
    go_wp2_with fail
    refine (HLK.out _ R1.out.1).mono ?_
    rintro e w2 ⟨rfl, d⟩
    have R2 := Lib.hid (And.intro (R1.out.1.dr d).1 (R1.out.2.trans (R1.out.1.dr d).2))
    have c3 := R2.out.1.c3
    have c2 := R2.out.1.c2
    clear d
    have HO := Lib.hid (R2.out.1.row.alloc (.cells #[.int .u8 0, .string nm, .string ⟨#[]⟩, .int .i64 0, .int .i64 0] 42))
    have HSZ := Lib.hid R2.out.1.lt
    go_wp2_with (at_builtin; go_loud (refine wpList_append_own_at _ rfl _ _ 26 rfl (p + 1) 42 i0 (.agg #[.int .u8 0, .string ⟨#[]⟩, .string ⟨#[]⟩, .int .i64 0, .int .i64 0]) 5 56 Tryd.underlying26 hin hz0 hz1 hz2 rfl (by decide) (.slice ad L.length cp) L.length (rw5 L) rfl HO.out ⟨w2.heap.size, 0, none⟩ 1 1 [.int .u8 0, .string nm, .string ⟨#[]⟩, .int .i64 0, .int .i64 0] rfl rfl (news_at _ _ _ _ rfl) (by intro u hu; simp at hu; rcases hu with rfl | rfl | rfl | rfl | rfl <;> rfl) (by unfold maxLen; omega) (by omega) (by have := HSZ.out; simp; omega) ?_; intro v1 w3 ho1 hg1 _ ha1; have R3 := Lib.hid (R2.out.1.push ⟨0, nm, ⟨#[]⟩, 0, 0⟩ ho1 hg1.os hg1.tape hg1.output (Nat.le_trans (by simp) hg1.size) (fun k h1 h2 => by rw [hg1.block k (by simp; omega) (fun e => h2 e.symm)]; exact heap_alloc_old _ _ h1) (ha1.elim .inl (fun e => .inr ⟨_, e, by simp⟩))); clear ho1 hg1 ha1; obtain ⟨q, cap, hvq, hpq, hqw⟩ := R3.out.2.2.1.addr (by simp); rw [List.length_append, List.length_singleton] at hvq; subst hvq; have c2' := R3.out.1; have z2' := R3.out.2.1; have HPQ := Lib.hid hpq; have R4 := Lib.hid (And.intro R3.out.2.2.1 (R2.out.2.trans R3.out.2.2.2)); clear hpq hqw))
    have HM1 := Lib.hid (HTX.out _ _ _ R4.out.1)
    cases Z with
    | bad m =>
      obtain rfl := HSB.out m rfl
      refine HM1.out.mono ?_
      rintro e w5 ⟨j5, rfl, hj5, r5, f5⟩
      have R5 := Lib.hid (And.intro r5 (R4.out.2.trans f5))
      have c2s := r5.c2
      have LS := R5.out.1.lasts
      have d0 := LS.1.1
      have d2 := LS.1.2.1
      have d3 := LS.1.2.2
      have zq0 := LS.2 (L.length * 5)
      have zq2 := LS.2 (L.length * 5 + 2)
      have zq3 := LS.2 (L.length * 5 + 3)
      dsimp only at d0 d2 d3
      clear LS
      have S6 := Lib.hid (R5.out.1.last HPQ.out 0 (by decide) (.int .u8 3) ⟨3, nm, ⟨#[]⟩, 0, 0⟩ rfl)
      have c2t := S6.out.1.c2
      have LS := S6.out.1.lasts
      have d2s := LS.1.2.1
      have zqs := LS.2 (L.length * 5 + 2)
      dsimp only at d2s
      have S7 := Lib.hid (S6.out.1.last HPQ.out 2 (by decide) (.string ⟨#[]⟩) ⟨3, nm, ⟨#[]⟩, 0, 0⟩ rfl)
      clear r5 f5 LS
      go_wp2_with fail
      go_end0
      rw [HX.out]
      exact ⟨rfl, by decide, _, _, _, hj5, S7.out.1, R5.out.2.trans (S6.out.2.trans S7.out.2)⟩
    | ok y =>
      obtain ⟨l, j5⟩ := y
      refine HM1.out.mono ?_
      rintro e w5 ⟨rfl, r5, f5⟩
      have R5 := Lib.hid (And.intro r5 (R4.out.2.trans f5))
      have c2s := r5.c2
      have LS := R5.out.1.lasts
      have d0 := LS.1.1
      have d2 := LS.1.2.1
      have d3 := LS.1.2.2
      have zq0 := LS.2 (L.length * 5)
      have zq2 := LS.2 (L.length * 5 + 2)
      have zq3 := LS.2 (L.length * 5 + 3)
      dsimp only at d0 d2 d3
      clear LS
      obtain ⟨t, ht⟩ : ∃ t, t = mkB l := ⟨_, rfl⟩
      rw [← ht]
      have HTT := Lib.hid ht
      have S6 := Lib.hid (R5.out.1.last HPQ.out 0 (by decide) (.int .u8 3) ⟨3, nm, ⟨#[]⟩, 0, 0⟩ rfl)
      have c2t := S6.out.1.c2
      have LS := S6.out.1.lasts
      have d2s := LS.1.2.1
      have zqs := LS.2 (L.length * 5 + 2)
      dsimp only at d2s
      have S7 := Lib.hid (S6.out.1.last HPQ.out 2 (by decide) (.string t) ⟨3, nm, t, 0, 0⟩ rfl)
      clear r5 f5 LS ht
      go_wp2_with fail
      go_end0
      rw [HX.out]
      refine ⟨rfl, _, ?_, R5.out.2.trans (S6.out.2.trans S7.out.2)⟩
      dsimp only
      rw [← HTT.out]
      exact S7.out.1
  rw [if_neg h34] at hX
  have q34 : (b == 34) = false := beq_eq_false_iff_ne.2 h34
  by_cases h116 : b = 116
  · rw [if_pos h116] at hX
    have HX := Lib.hid hX
    have HTX := Lib.hid (fun W v' L' (r : RfB W p s k v' L' 0) => rtake_any (⟨#[116, 114, 117, 101]⟩ : ByteArray) W r (by omega) hb2 (by decide) (by decide))
    have el : bI ⟨#[116, 114, 117, 101]⟩ = [116, 114, 117, 101] := rfl
    rw [el] at HTX
    clear el
    have HSB := Lib.hid (fun m (e : wordM s [116, 114, 117, 101] k = .bad m) => wordM_bad _ _ _ e)
    obtain ⟨Z, hZ⟩ : ∃ Z, Z = wordM s [116, 114, 117, 101] k := ⟨_, rfl⟩
    rw [← hZ] at HTX HX HSB
    subst h116
    clear h1 hX hZ h123 h91 h34
    go_enter Tryd.func23, Tryd.ntmps23
    go_wp2_with fail
    refine HBL.out.mono ?_
    rintro e w1 ⟨rfl, r1, f1⟩
    have R1 := Lib.hid (And.intro r1 f1)
    clear r1 f1
    go_wp2_with fail
    refine (HLK.out _ R1.out.1).mono ?_
    rintro e w2 ⟨rfl, d⟩
    have R2 := Lib.hid (And.intro (R1.out.1.dr d).1 (R1.out.2.trans (R1.out.1.dr d).2))
    have c3 := R2.out.1.c3
    have c2 := R2.out.1.c2
    clear d
    have HO := Lib.hid (R2.out.1.row.alloc (.cells #[.int .u8 0, .string nm, .string ⟨#[]⟩, .int .i64 0, .int .i64 0] 42))
    have HSZ := Lib.hid R2.out.1.lt
    go_wp2_with (at_builtin; go_loud (refine wpList_append_own_at _ rfl _ _ 26 rfl (p + 1) 42 i0 (.agg #[.int .u8 0, .string ⟨#[]⟩, .string ⟨#[]⟩, .int .i64 0, .int .i64 0]) 5 56 Tryd.underlying26 hin hz0 hz1 hz2 rfl (by decide) (.slice ad L.length cp) L.length (rw5 L) rfl HO.out ⟨w2.heap.size, 0, none⟩ 1 1 [.int .u8 0, .string nm, .string ⟨#[]⟩, .int .i64 0, .int .i64 0] rfl rfl (news_at _ _ _ _ rfl) (by intro u hu; simp at hu; rcases hu with rfl | rfl | rfl | rfl | rfl <;> rfl) (by unfold maxLen; omega) (by omega) (by have := HSZ.out; simp; omega) ?_; intro v1 w3 ho1 hg1 _ ha1; have R3 := Lib.hid (R2.out.1.push ⟨0, nm, ⟨#[]⟩, 0, 0⟩ ho1 hg1.os hg1.tape hg1.output (Nat.le_trans (by simp) hg1.size) (fun k h1 h2 => by rw [hg1.block k (by simp; omega) (fun e => h2 e.symm)]; exact heap_alloc_old _ _ h1) (ha1.elim .inl (fun e => .inr ⟨_, e, by simp⟩))); clear ho1 hg1 ha1; obtain ⟨q, cap, hvq, hpq, hqw⟩ := R3.out.2.2.1.addr (by simp); rw [List.length_append, List.length_singleton] at hvq; subst hvq; have c2' := R3.out.1; have z2' := R3.out.2.1; have HPQ := Lib.hid hpq; have R4 := Lib.hid (And.intro R3.out.2.2.1 (R2.out.2.trans R3.out.2.2.2)); clear hpq hqw))
    have HM1 := Lib.hid (HTX.out _ _ _ R4.out.1)
    cases Z with
    | bad m =>
      obtain rfl := HSB.out m rfl
      refine HM1.out.mono ?_
      rintro e w5 ⟨rfl, j5, hj5, r5, f5⟩
      have R5 := Lib.hid (And.intro r5 (R4.out.2.trans f5))
      clear r5 f5
      have LS := R5.out.1.lasts
      have d0 := LS.1.1
      have d2 := LS.1.2.1
      have d3 := LS.1.2.2
      have zq0 := LS.2 (L.length * 5)
      have zq2 := LS.2 (L.length * 5 + 2)
      have zq3 := LS.2 (L.length * 5 + 3)
      dsimp only at d0 d2 d3
      clear LS
      have c2s := R5.out.1.c2
      have S6 := Lib.hid (R5.out.1.last HPQ.out 0 (by decide) (.int .u8 1) ⟨1, nm, ⟨#[]⟩, 0, 0⟩ rfl)
      have c2t := S6.out.1.c2
      have LS := S6.out.1.lasts
      have d3s := LS.1.2.2
      have zqs := LS.2 (L.length * 5 + 3)
      dsimp only at d3s
      have S7 := Lib.hid (S6.out.1.last HPQ.out 3 (by decide) (.int .i64 1) ⟨1, nm, ⟨#[]⟩, 1, 0⟩ rfl)
      clear LS
      go_wp2_with fail
      go_end0
      rw [HX.out]
      exact ⟨rfl, by decide, _, _, _, hj5, S7.out.1, R5.out.2.trans (S6.out.2.trans S7.out.2)⟩
    | ok j5 =>
      refine HM1.out.mono ?_
      rintro e w5 ⟨rfl, r5, f5⟩
      have R5 := Lib.hid (And.intro r5 (R4.out.2.trans f5))
      clear r5 f5
      have LS := R5.out.1.lasts
      have d0 := LS.1.1
      have d2 := LS.1.2.1
      have d3 := LS.1.2.2
      have zq0 := LS.2 (L.length * 5)
      have zq2 := LS.2 (L.length * 5 + 2)
      have zq3 := LS.2 (L.length * 5 + 3)
      dsimp only at d0 d2 d3
      clear LS
      have c2s := R5.out.1.c2
      have S6 := Lib.hid (R5.out.1.last HPQ.out 0 (by decide) (.int .u8 1) ⟨1, nm, ⟨#[]⟩, 0, 0⟩ rfl)
      have c2t := S6.out.1.c2
      have LS := S6.out.1.lasts
      have d3s := LS.1.2.2
      have zqs := LS.2 (L.length * 5 + 3)
      dsimp only at d3s
      have S7 := Lib.hid (S6.out.1.last HPQ.out 3 (by decide) (.int .i64 1) ⟨1, nm, ⟨#[]⟩, 1, 0⟩ rfl)
      clear LS
      go_wp2_with fail
      go_end0
      rw [HX.out]
      exact ⟨rfl, _, S7.out.1, R5.out.2.trans (S6.out.2.trans S7.out.2)⟩
  rw [if_neg h116] at hX
  have q116 : (b == 116) = false := beq_eq_false_iff_ne.2 h116
  by_cases h102 : b = 102
  · rw [if_pos h102] at hX
    have HX := Lib.hid hX
    have HTX := Lib.hid (fun W v' L' (r : RfB W p s k v' L' 0) => rtake_any (⟨#[102, 97, 108, 115, 101]⟩ : ByteArray) W r (by omega) hb2 (by decide) (by decide))
    have el : bI ⟨#[102, 97, 108, 115, 101]⟩ = [102, 97, 108, 115, 101] := rfl
    rw [el] at HTX
    clear el
    have HSB := Lib.hid (fun m (e : wordM s [102, 97, 108, 115, 101] k = .bad m) => wordM_bad _ _ _ e)
    obtain ⟨Z, hZ⟩ : ∃ Z, Z = wordM s [102, 97, 108, 115, 101] k := ⟨_, rfl⟩
    rw [← hZ] at HTX HX HSB
    subst h102
    clear h1 hX hZ h123 h91 h34 h116
    go_enter Tryd.func23, Tryd.ntmps23
    go_wp2_with fail
    refine HBL.out.mono ?_
    rintro e w1 ⟨rfl, r1, f1⟩
    have R1 := Lib.hid (And.intro r1 f1)
    clear r1 f1
    go_wp2_with fail
    refine (HLK.out _ R1.out.1).mono ?_
    rintro e w2 ⟨rfl, d⟩
    have R2 := Lib.hid (And.intro (R1.out.1.dr d).1 (R1.out.2.trans (R1.out.1.dr d).2))
    have c3 := R2.out.1.c3
    have c2 := R2.out.1.c2
    clear d
    have HO := Lib.hid (R2.out.1.row.alloc (.cells #[.int .u8 0, .string nm, .string ⟨#[]⟩, .int .i64 0, .int .i64 0] 42))
    have HSZ := Lib.hid R2.out.1.lt
    go_wp2_with (at_builtin; go_loud (refine wpList_append_own_at _ rfl _ _ 26 rfl (p + 1) 42 i0 (.agg #[.int .u8 0, .string ⟨#[]⟩, .string ⟨#[]⟩, .int .i64 0, .int .i64 0]) 5 56 Tryd.underlying26 hin hz0 hz1 hz2 rfl (by decide) (.slice ad L.length cp) L.length (rw5 L) rfl HO.out ⟨w2.heap.size, 0, none⟩ 1 1 [.int .u8 0, .string nm, .string ⟨#[]⟩, .int .i64 0, .int .i64 0] rfl rfl (news_at _ _ _ _ rfl) (by intro u hu; simp at hu; rcases hu with rfl | rfl | rfl | rfl | rfl <;> rfl) (by unfold maxLen; omega) (by omega) (by have := HSZ.out; simp; omega) ?_; intro v1 w3 ho1 hg1 _ ha1; have R3 := Lib.hid (R2.out.1.push ⟨0, nm, ⟨#[]⟩, 0, 0⟩ ho1 hg1.os hg1.tape hg1.output (Nat.le_trans (by simp) hg1.size) (fun k h1 h2 => by rw [hg1.block k (by simp; omega) (fun e => h2 e.symm)]; exact heap_alloc_old _ _ h1) (ha1.elim .inl (fun e => .inr ⟨_, e, by simp⟩))); clear ho1 hg1 ha1; obtain ⟨q, cap, hvq, hpq, hqw⟩ := R3.out.2.2.1.addr (by simp); rw [List.length_append, List.length_singleton] at hvq; subst hvq; have c2' := R3.out.1; have z2' := R3.out.2.1; have HPQ := Lib.hid hpq; have R4 := Lib.hid (And.intro R3.out.2.2.1 (R2.out.2.trans R3.out.2.2.2)); clear hpq hqw))
    have HM1 := Lib.hid (HTX.out _ _ _ R4.out.1)
    cases Z with
    | bad m =>
      obtain rfl := HSB.out m rfl
      refine HM1.out.mono ?_
      rintro e w5 ⟨rfl, j5, hj5, r5, f5⟩
      have R5 := Lib.hid (And.intro r5 (R4.out.2.trans f5))
      clear r5 f5
      have LS := R5.out.1.lasts
      have d0 := LS.1.1
      have d2 := LS.1.2.1
      have d3 := LS.1.2.2
      have zq0 := LS.2 (L.length * 5)
      have zq2 := LS.2 (L.length * 5 + 2)
      have zq3 := LS.2 (L.length * 5 + 3)
      dsimp only at d0 d2 d3
      clear LS
      have c2s := R5.out.1.c2
      have S6 := Lib.hid (R5.out.1.last HPQ.out 0 (by decide) (.int .u8 1) ⟨1, nm, ⟨#[]⟩, 0, 0⟩ rfl)
      go_wp2_with fail
      go_end0
      rw [HX.out]
      exact ⟨rfl, by decide, _, _, _, hj5, S6.out.1, R5.out.2.trans S6.out.2⟩
    | ok j5 =>
      refine HM1.out.mono ?_
      rintro e w5 ⟨rfl, r5, f5⟩
      have R5 := Lib.hid (And.intro r5 (R4.out.2.trans f5))
      clear r5 f5
      have LS := R5.out.1.lasts
      have d0 := LS.1.1
      have d2 := LS.1.2.1
      have d3 := LS.1.2.2
      have zq0 := LS.2 (L.length * 5)
      have zq2 := LS.2 (L.length * 5 + 2)
      have zq3 := LS.2 (L.length * 5 + 3)
      dsimp only at d0 d2 d3
      clear LS
      have c2s := R5.out.1.c2
      have S6 := Lib.hid (R5.out.1.last HPQ.out 0 (by decide) (.int .u8 1) ⟨1, nm, ⟨#[]⟩, 0, 0⟩ rfl)
      go_wp2_with fail
      go_end0
      rw [HX.out]
      exact ⟨rfl, _, S6.out.1, R5.out.2.trans S6.out.2⟩
  rw [if_neg h102] at hX
  have q102 : (b == 102) = false := beq_eq_false_iff_ne.2 h102
  by_cases h110 : b = 110
  · rw [if_pos h110] at hX
    have HX := Lib.hid hX
    have HTX := Lib.hid (fun W v' L' (r : RfB W p s k v' L' 0) => rtake_any (⟨#[110, 117, 108, 108]⟩ : ByteArray) W r (by omega) hb2 (by decide) (by decide))
    have el : bI ⟨#[110, 117, 108, 108]⟩ = [110, 117, 108, 108] := rfl
    rw [el] at HTX
    clear el
    have HSB := Lib.hid (fun m (e : wordM s [110, 117, 108, 108] k = .bad m) => wordM_bad _ _ _ e)
    obtain ⟨Z, hZ⟩ : ∃ Z, Z = wordM s [110, 117, 108, 108] k := ⟨_, rfl⟩
    rw [← hZ] at HTX HX HSB
    subst h110
    clear h1 hX hZ h123 h91 h34 h116 h102
    go_enter Tryd.func23, Tryd.ntmps23
    go_wp2_with fail
    refine HBL.out.mono ?_
    rintro e w1 ⟨rfl, r1, f1⟩
    have R1 := Lib.hid (And.intro r1 f1)
    clear r1 f1
    go_wp2_with fail
    refine (HLK.out _ R1.out.1).mono ?_
    rintro e w2 ⟨rfl, d⟩
    have R2 := Lib.hid (And.intro (R1.out.1.dr d).1 (R1.out.2.trans (R1.out.1.dr d).2))
    have c3 := R2.out.1.c3
    have c2 := R2.out.1.c2
    clear d
    have HO := Lib.hid (R2.out.1.row.alloc (.cells #[.int .u8 0, .string nm, .string ⟨#[]⟩, .int .i64 0, .int .i64 0] 42))
    have HSZ := Lib.hid R2.out.1.lt
    go_wp2_with (at_builtin; go_loud (refine wpList_append_own_at _ rfl _ _ 26 rfl (p + 1) 42 i0 (.agg #[.int .u8 0, .string ⟨#[]⟩, .string ⟨#[]⟩, .int .i64 0, .int .i64 0]) 5 56 Tryd.underlying26 hin hz0 hz1 hz2 rfl (by decide) (.slice ad L.length cp) L.length (rw5 L) rfl HO.out ⟨w2.heap.size, 0, none⟩ 1 1 [.int .u8 0, .string nm, .string ⟨#[]⟩, .int .i64 0, .int .i64 0] rfl rfl (news_at _ _ _ _ rfl) (by intro u hu; simp at hu; rcases hu with rfl | rfl | rfl | rfl | rfl <;> rfl) (by unfold maxLen; omega) (by omega) (by have := HSZ.out; simp; omega) ?_; intro v1 w3 ho1 hg1 _ ha1; have R3 := Lib.hid (R2.out.1.push ⟨0, nm, ⟨#[]⟩, 0, 0⟩ ho1 hg1.os hg1.tape hg1.output (Nat.le_trans (by simp) hg1.size) (fun k h1 h2 => by rw [hg1.block k (by simp; omega) (fun e => h2 e.symm)]; exact heap_alloc_old _ _ h1) (ha1.elim .inl (fun e => .inr ⟨_, e, by simp⟩))); clear ho1 hg1 ha1; obtain ⟨q, cap, hvq, hpq, hqw⟩ := R3.out.2.2.1.addr (by simp); rw [List.length_append, List.length_singleton] at hvq; subst hvq; have c2' := R3.out.1; have z2' := R3.out.2.1; have HPQ := Lib.hid hpq; have R4 := Lib.hid (And.intro R3.out.2.2.1 (R2.out.2.trans R3.out.2.2.2)); clear hpq hqw))
    have HM1 := Lib.hid (HTX.out _ _ _ R4.out.1)
    cases Z with
    | bad m =>
      obtain rfl := HSB.out m rfl
      refine HM1.out.mono ?_
      rintro e w5 ⟨rfl, j5, hj5, r5, f5⟩
      have R5 := Lib.hid (And.intro r5 (R4.out.2.trans f5))
      clear r5 f5

      go_wp2_with fail
      go_end0
      rw [HX.out]
      exact ⟨rfl, by decide, _, _, _, hj5, R5.out.1, R5.out.2⟩
    | ok j5 =>
      refine HM1.out.mono ?_
      rintro e w5 ⟨rfl, r5, f5⟩
      have R5 := Lib.hid (And.intro r5 (R4.out.2.trans f5))
      clear r5 f5

      go_wp2_with fail
      go_end0
      rw [HX.out]
      exact ⟨rfl, _, R5.out.1, R5.out.2⟩
  rw [if_neg h110] at hX
  have q110 : (b == 110) = false := beq_eq_false_iff_ne.2 h110
  have HX := Lib.hid hX
  have HTX := Lib.hid (fun W v' L' (r : RfB W p s k v' L' 0) => rnumber_any W r (by omega) hb2)
  have HSB := Lib.hid (fun m (e : numM s k = .bad m) => numM_bad e)
  obtain ⟨Z, hZ⟩ : ∃ Z, Z = numM s k := ⟨_, rfl⟩
  rw [← hZ] at HTX HX HSB
  have HD : Hid (b = 45 ∨ ((b == 45) = false ∧ 48 ≤ b ∧ b ≤ 57)) := Lib.hid (by
    by_cases h45 : b = 45
    · exact .inl h45
    · refine .inr ⟨beq_eq_false_iff_ne.2 h45, ?_⟩
      cases hd : isDg b with
      | false => exact absurd (by unfold isSt; simp [h123, h91, h34, h116, h102, h110, h45, hd]) h1
      | true => unfold isDg at hd; simpa using hd)
  have hbz : (b != 0) = true := by
    rcases HD.out with h | h
    · simp [h]
    · have : b ≠ 0 := by omega
      simp [this]
  clear h1 hX hZ h123 h91 h34 h116 h102 h110
  rcases HD.out with rfl | ⟨q45, g1, g2⟩
  all_goals
    clear HD
    go_enter Tryd.func23, Tryd.ntmps23
    go_wp2_with fail
    refine HBL.out.mono ?_
    rintro e w1 ⟨rfl, r1, f1⟩
    have R1 := Lib.hid (And.intro r1 f1)
    clear r1 f1
    go_wp2_with fail
    refine (HLK.out _ R1.out.1).mono ?_
    rintro e w2 ⟨rfl, d⟩
    have R2 := Lib.hid (And.intro (R1.out.1.dr d).1 (R1.out.2.trans (R1.out.1.dr d).2))
    have c3 := R2.out.1.c3
    have c2 := R2.out.1.c2
    clear d
    have HO := Lib.hid (R2.out.1.row.alloc (.cells #[.int .u8 0, .string nm, .string ⟨#[]⟩, .int .i64 0, .int .i64 0] 42))
    have HSZ := Lib.hid R2.out.1.lt
    go_wp2_with (at_builtin; go_loud (refine wpList_append_own_at _ rfl _ _ 26 rfl (p + 1) 42 i0 (.agg #[.int .u8 0, .string ⟨#[]⟩, .string ⟨#[]⟩, .int .i64 0, .int .i64 0]) 5 56 Tryd.underlying26 hin hz0 hz1 hz2 rfl (by decide) (.slice ad L.length cp) L.length (rw5 L) rfl HO.out ⟨w2.heap.size, 0, none⟩ 1 1 [.int .u8 0, .string nm, .string ⟨#[]⟩, .int .i64 0, .int .i64 0] rfl rfl (news_at _ _ _ _ rfl) (by intro u hu; simp at hu; rcases hu with rfl | rfl | rfl | rfl | rfl <;> rfl) (by unfold maxLen; omega) (by omega) (by have := HSZ.out; simp; omega) ?_; intro v1 w3 ho1 hg1 _ ha1; have R3 := Lib.hid (R2.out.1.push ⟨0, nm, ⟨#[]⟩, 0, 0⟩ ho1 hg1.os hg1.tape hg1.output (Nat.le_trans (by simp) hg1.size) (fun k h1 h2 => by rw [hg1.block k (by simp; omega) (fun e => h2 e.symm)]; exact heap_alloc_old _ _ h1) (ha1.elim .inl (fun e => .inr ⟨_, e, by simp⟩))); clear ho1 hg1 ha1; obtain ⟨q, cap, hvq, hpq, hqw⟩ := R3.out.2.2.1.addr (by simp); rw [List.length_append, List.length_singleton] at hvq; subst hvq; have c2' := R3.out.1; have z2' := R3.out.2.1; have HPQ := Lib.hid hpq; have R4 := Lib.hid (And.intro R3.out.2.2.1 (R2.out.2.trans R3.out.2.2.2)); clear hpq hqw))
    have HM1 := Lib.hid (HTX.out _ _ _ R4.out.1)
    cases Z with
    | bad m =>
      have HM0 := Lib.hid (HSB.out m rfl)
      refine HM1.out.mono ?_
      rintro e w5 ⟨n5, j5, rfl, hj5, r5, f5⟩
      have R5 := Lib.hid (And.intro r5 (R4.out.2.trans f5))
      have c2s := r5.c2
      have LS := R5.out.1.lasts
      have d0 := LS.1.1
      have d2 := LS.1.2.1
      have d3 := LS.1.2.2
      have zq0 := LS.2 (L.length * 5)
      have zq2 := LS.2 (L.length * 5 + 2)
      have zq3 := LS.2 (L.length * 5 + 3)
      dsimp only at d0 d2 d3
      clear LS
      have S6 := Lib.hid (R5.out.1.last HPQ.out 0 (by decide) (.int .u8 2) ⟨2, nm, ⟨#[]⟩, 0, 0⟩ rfl)
      have c2t := S6.out.1.c2
      have LS := S6.out.1.lasts
      have d3s := LS.1.2.2
      have zqs := LS.2 (L.length * 5 + 3)
      dsimp only at d3s
      have S7 := Lib.hid (S6.out.1.last HPQ.out 3 (by decide) (.int .i64 n5) ⟨2, nm, ⟨#[]⟩, n5, 0⟩ rfl)
      clear r5 f5 LS
      go_wp2_with fail
      go_end0
      rw [HX.out]
      exact ⟨rfl, HM0.out, _, _, _, hj5, S7.out.1, R5.out.2.trans (S6.out.2.trans S7.out.2)⟩
    | ok y =>
      obtain ⟨n5, j5⟩ := y
      refine HM1.out.mono ?_
      rintro e w5 ⟨rfl, r5, f5⟩
      have R5 := Lib.hid (And.intro r5 (R4.out.2.trans f5))
      have c2s := r5.c2
      have LS := R5.out.1.lasts
      have d0 := LS.1.1
      have d2 := LS.1.2.1
      have d3 := LS.1.2.2
      have zq0 := LS.2 (L.length * 5)
      have zq2 := LS.2 (L.length * 5 + 2)
      have zq3 := LS.2 (L.length * 5 + 3)
      dsimp only at d0 d2 d3
      clear LS
      have S6 := Lib.hid (R5.out.1.last HPQ.out 0 (by decide) (.int .u8 2) ⟨2, nm, ⟨#[]⟩, 0, 0⟩ rfl)
      have c2t := S6.out.1.c2
      have LS := S6.out.1.lasts
      have d3s := LS.1.2.2
      have zqs := LS.2 (L.length * 5 + 3)
      dsimp only at d3s
      have S7 := Lib.hid (S6.out.1.last HPQ.out 3 (by decide) (.int .i64 n5) ⟨2, nm, ⟨#[]⟩, n5, 0⟩ rfl)
      clear r5 f5 LS
      go_wp2_with fail
      go_end0
      rw [HX.out]
      exact ⟨rfl, _, S7.out.1, R5.out.2.trans (S6.out.2.trans S7.out.2)⟩
theorem rvalue_any {s : ByteArray} (hs : s.size ≤ 3000) : ∀ f, VR s f
  | 0 => by intro p i op ov v L nm w _ h1 h2; omega
  | f + 1 => rvalue_step hs (rvalue_any hs f)
end Go.Proofs.YtoicmcjpaodgpaaDoor
/- Layer 4: the document's Read. -/
namespace Go.Proofs.YtoicmcjpaodgpaaDoor
open Go.RowKit Go.Maps
theorem rf_new {w : World} {s : ByteArray} : RfB (w.alloc (.cells #[.string s, .int .i64 0, .slice none 0 0, .int .i64 0] 49)) w.heap.size s 0 (.slice none 0 0) [] 0 :=
  ⟨by rw [heap_alloc_new]; rfl, World.ownsRow_nil _ _ _ _⟩
/-- What is left of a value, in the end. -/
theorem readM_R {s : ByteArray} (hs : s.size ≤ 3000) (hc : ckE s = 0) : readM s = (valR s 17 ⟨#[]⟩ 0 0).bind fun x => if bl s x.1 < s.size then .bad 40 else .ok x.2 := by
  have q := valM_R hs 17 0 0 ⟨#[]⟩ [] rfl (by simp)
  unfold readM
  rw [if_neg (by omega), q]
  cases valR s 17 ⟨#[]⟩ 0 0 with
  | bad m => rfl
  | ok y => simp
theorem tx_tw {s : ByteArray} (h : ckE s = 0) : Tw s 0 s.size := by
  have hs := ckE_size h
  have hc := ck_small hs
  rw [h] at hc
  cases hb : isTx s with
  | false => rw [hb] at hc; cases hc
  | true => exact isTx_tw hb
set_option maxRecDepth 20000 in
set_option maxHeartbeats 2000000 in
theorem rRead_any (s : ByteArray) (w : World) (hs : s.size ≤ 17000) (h3 : s.size ≤ 3000 ∨ 16384 < s.size) : Calls Tryd.prog 12 #[.string s] w (RdP w (readM s)) := by
  have HC := Lib.hid (rChk_any s w (by omega))
  by_cases h0 : ckE s = 0
  · have hs3 : s.size ≤ 3000 := by
      have := ckE_size h0
      omega
    have HTW := Lib.hid (tx_tw h0)
    rw [readM_R hs3 h0]
    have HV := Lib.hid (fun W p (r : RfB W p s 0 (.slice none 0 0) [] 0) => rvalue_any hs3 17 p 0 0 0 _ [] ⟨#[]⟩ W rfl rfl (by decide) (by decide) r (Nat.zero_le _) HTW.out (by simp))
    have HOK := Lib.hid (fun j N (e : valR s 17 ⟨#[]⟩ 0 0 = .ok (j, N)) => valR_ok (L := []) hs3 rfl (by decide) (Nat.zero_le _) (by simp) HTW.out e)
    rw [h0] at HC
    obtain ⟨X, hX⟩ : ∃ X, X = valR s 17 ⟨#[]⟩ 0 0 := ⟨_, rfl⟩
    rw [← hX] at HV HOK ⊢
    obtain ⟨Z, hZ⟩ : ∃ Z, Z = X.bind fun x => if bl s x.1 < s.size then .bad 40 else .ok x.2 := ⟨_, rfl⟩
    rw [← hZ]
    have HZ := Lib.hid hZ
    clear hZ
    have hsi : (s.size : Int) ≤ 3000 := by omega
    clear hX h0 h3 hs
    go_enter Tryd.func12, Tryd.ntmps12
    go_wp2_with fail
    refine HC.out.mono ?_
    rintro e w1 ⟨rfl, b1⟩
    have B1 := Lib.hid b1
    have R0 := Lib.hid (rf_new (w := w1) (s := s))
    obtain ⟨W1, hW1⟩ : ∃ W1, W1 = w1.alloc (.cells #[.string s, .int .i64 0, .slice none 0 0, .int .i64 0] 49) := ⟨_, rfl⟩
    rw [← hW1] at R0
    have B2 : Hid (Below w.heap.size w W1) := Lib.hid (by rw [hW1]; exact b1.alloc b1.size _)
    clear b1
    go_wp2_with fail
    rw [← hW1]
    obtain ⟨p, hp⟩ : ∃ p, p = w1.heap.size := ⟨_, rfl⟩
    rw [← hp] at R0 ⊢
    have HP : Hid (w.heap.size ≤ p) := Lib.hid (by rw [hp]; exact B1.out.size)
    clear hp hW1
    have HLW : Hid (∀ v' W', Fr p (.slice none 0 0) v' W1 W' → Below w.heap.size w W') := Lib.hid (fun v' W' f => B2.out.trans ((f.below (fun k e => by cases e) (Nat.le_of_lt R0.out.lt)).mono HP.out))
    cases X with
    | bad m =>
      refine (HV.out _ _ R0.out).mono ?_
      rintro e w2 ⟨rfl, hm0, vr, L2, j2, hj2, r2, f2⟩
      have R2 := Lib.hid (And.intro r2 f2)
      have HM0 := Lib.hid hm0
      have hne : (m != 0) = true := by simp [hm0]
      clear r2 f2 hm0
      go_wp2_with fail
      refine (rblanks_err _ R2.out.1 HM0.out (by omega) hj2).mono ?_
      rintro e w3 ⟨rfl, r3, f3⟩
      have R3 := Lib.hid (And.intro r3 (R2.out.2.trans f3))
      have c1 := r3.c1
      have c3 := r3.c3
      clear r3 f3
      by_cases hlt : (j2 : Int) < s.size
      · go_wp2_with fail
        refine (rfail_no 40 _ R3.out.1 HM0.out).mono ?_
        rintro e w4 ⟨rfl, hw4⟩
        obtain rfl := hw4.symm
        go_wp2_with fail
        go_quiet (fail)
        go_wp2_with fail
        go_ret2
        rw [HZ.out]
        exact ⟨rfl, below_drewN0 (HLW.out _ _ R3.out.2) _⟩
      · go_wp2_with fail
        go_quiet (fail)
        go_wp2_with fail
        go_ret2
        rw [HZ.out]
        exact ⟨rfl, below_drewN0 (HLW.out _ _ R3.out.2) _⟩
    | ok y =>
      obtain ⟨j, N⟩ := y
      obtain ⟨_, hj2, _, _⟩ := HOK.out j N rfl
      refine (HV.out _ _ R0.out).mono ?_
      rintro e w2 ⟨rfl, vr, r2, f2⟩
      have R2 := Lib.hid (And.intro r2 f2)
      clear r2 f2 HOK
      go_wp2_with fail
      refine (rblanks_any _ R2.out.1 (by omega) hj2).mono ?_
      rintro e w3 ⟨rfl, r3, f3⟩
      have R3 := Lib.hid (And.intro r3 (R2.out.2.trans f3))
      clear r3 f3
      obtain ⟨j3, hj3⟩ : ∃ j3, j3 = bl s j := ⟨_, rfl⟩
      have hb3 : bl s j ≤ s.size := bl_le hj2
      have HZ1 : Hid (Z = if j3 < s.size then .bad 40 else .ok N) := Lib.hid (by rw [HZ.out, hj3]; rfl)
      rw [← hj3] at R3 hb3
      have c1 := R3.out.1.c1
      have c2 := R3.out.1.c2
      have c3 := R3.out.1.c3
      clear hj3
      by_cases hlt : j3 < s.size
      · have HZ2 : Hid (Z = .bad 40) := Lib.hid (by rw [HZ1.out, if_pos hlt])
        have hlt2 : (j3 : Int) < s.size := by omega
        clear hlt
        go_wp2_with fail
        refine (rfail_ok 40 _ R3.out.1).mono ?_
        rintro e w4 ⟨rfl, r4, f4⟩
        have R4 := Lib.hid (And.intro r4 (R3.out.2.trans f4))
        have c3 := r4.c3
        clear r4 f4
        go_wp2_with fail
        go_quiet (fail)
        go_wp2_with fail
        go_ret2
        rw [HZ2.out]
        exact ⟨rfl, below_drewN0 (HLW.out _ _ R4.out.2) _⟩
      · have HZ2 : Hid (Z = .ok N) := Lib.hid (by rw [HZ1.out, if_neg hlt])
        have hlt2 : ¬ (j3 : Int) < s.size := by omega
        clear hlt
        go_wp2_with fail
        go_ret2
        rw [HZ2.out]
        exact ⟨_, rfl, own_base R3.out.1.row (by have := HP.out; omega), HLW.out _ _ R3.out.2⟩
  · have HE2 : Hid (readM s = .bad (ckE s)) := Lib.hid (by unfold readM; rw [if_pos h0])
    obtain ⟨c, hc⟩ : ∃ c, c = ckE s := ⟨_, rfl⟩
    rw [← hc] at HC HE2 h0
    have hb : (c != 0) = true := by simp [bne, beq_eq_false_iff_ne.2 h0]
    clear h0 hc
    go_enter Tryd.func12, Tryd.ntmps12
    go_wp2_with fail
    refine HC.out.mono ?_
    rintro e w1 ⟨rfl, b1⟩
    have HB1 := Lib.hid b1
    clear b1
    go_wp2_with fail
    go_ret2
    rw [HE2.out]
    exact ⟨rfl, HB1.out⟩
end Go.Proofs.YtoicmcjpaodgpaaDoor
/- Layer 4: JsonReads, the walk. -/
namespace Go.Proofs.YtoicmcjpaodgpaaDoor
open Go.RowKit Go.Maps
theorem sm_self (g : Nat → CR) (n : Nat) : smB g n g n = true := sm_yes fun _ _ => rfl
theorem cv_none (w : World) (g : Nat → CR) : CV w none 0 g := fun i hi => absurd hi (Nat.not_lt_zero i)
set_option maxRecDepth 20000 in
set_option maxHeartbeats 2000000 in
theorem jreads_walk (s : ByteArray) (w : World) (hl : LimP w.heap.size w) (hm : s.size ≤ maxLen) : Calls Tryd.prog 4 #[.string s] w fun e w' => e = .returned (.bool true) ∧ Below w.heap.size w w' := by
  by_cases c1 : s.size ≤ 3000 ∨ (16384 < s.size ∧ s.size ≤ 17000)
  · have h3 : s.size ≤ 3000 ∨ 16384 < s.size := by omega
    have HJ := Lib.hid (Read_any s w hl hm)
    have HR := Lib.hid (fun W => rRead_any s W (by omega) h3)
    have HQ := Lib.hid (fun W => jQuo_any s W (by omega))
    have HK := Lib.hid (fun W => rQuo_any s W (by omega))
    obtain ⟨X, hX⟩ : ∃ X, X = readM s := ⟨_, rfl⟩
    rw [← hX] at HJ HR
    obtain ⟨T, hT⟩ : ∃ T, T = if ckE s = 0 then quT s else ⟨#[]⟩ := ⟨_, rfl⟩
    rw [← hT] at HQ HK
    obtain ⟨c, hc⟩ : ∃ c, c = ckE s := ⟨_, rfl⟩
    rw [← hc] at HQ HK
    have q1 := strq_yes (x := T) rfl
    have q2 : (c == c) = true := by simp
    clear hX hT hc hl h3
    have HS : Hid (((s.size : Int) ≤ 3000 ∧ ¬ (17000 : Int) < s.size) ∨ ((3000 : Int) < s.size ∧ ¬ (s.size : Int) ≤ 16384 ∧ ¬ (17000 : Int) < s.size)) := Lib.hid (by
      rcases c1 with h | h
      · exact .inl ⟨by omega, by omega⟩
      · exact .inr ⟨by omega, by omega, by omega⟩)
    clear c1
    cases X with
    | bad m =>
      have HJ1 : Hid (Calls Tryd.prog 10 #[.string s] w fun e w' => e = .returned (.tuple #[.slice none 0 0, .int .i64 m]) ∧ Below w.heap.size w w') := Lib.hid HJ.out
      have HR1 : Hid (∀ W, Calls Tryd.prog 12 #[.string s] W fun e w' => e = .returned (.tuple #[.slice none 0 0, .int .i64 m]) ∧ Below W.heap.size W w') := Lib.hid HR.out
      have q3 : (m == m) = true := by simp
      have HSM := Lib.hid (fun W => rsame_any none none 0 0 0 0 (gl []) (gl []) W (cv_none _ _) (cv_none _ _) (by decide))
      rw [sm_self] at HSM
      clear HJ HR
      rcases HS.out with ⟨k1, k2⟩ | ⟨k1, k2, k3⟩
      all_goals
        clear HS
        go_enter Tryd.func4, Tryd.ntmps4
        go_wp2_with fail
        refine HJ1.out.mono ?_
        rintro e w1 ⟨rfl, b1⟩
        have B1 := Lib.hid b1
        clear b1
        go_wp2_with fail
        refine (HR1.out _).mono ?_
        rintro e w2 ⟨rfl, b2⟩
        have B2 := Lib.hid (B1.out.trans (b2.mono B1.out.size))
        clear b2
        go_wp2_with fail
        refine (HQ.out _).mono ?_
        rintro e w3 ⟨rfl, b3⟩
        have B3 := Lib.hid (B2.out.trans (b3.mono B2.out.size))
        clear b3
        go_wp2_with fail
        refine (HK.out _).mono ?_
        rintro e w4 ⟨rfl, b4⟩
        have B4 := Lib.hid (B3.out.trans (b4.mono B3.out.size))
        clear b4
        go_wp2_with fail
        refine (HSM.out _).mono ?_
        rintro e w5 ⟨rfl, b5⟩
        have B5 := Lib.hid (B4.out.trans (b5.mono B4.out.size))
        clear b5
        go_wp2_with fail
        go_ret
        exact ⟨rfl, B5.out⟩
    | ok M =>
      have HJ1 : Hid (Calls Tryd.prog 10 #[.string s] w fun e w' => ∃ v, e = .returned (.tuple #[v, .int .i64 0]) ∧ w'.ownsRow w.heap.size 42 5 v M.length (rw5 M) ∧ Below w.heap.size w w') := Lib.hid HJ.out
      have HR1 : Hid (∀ W, Calls Tryd.prog 12 #[.string s] W fun e w' => ∃ v, e = .returned (.tuple #[v, .int .i64 0]) ∧ w'.ownsRow W.heap.size 42 5 v M.length (rw5 M) ∧ Below W.heap.size W w') := Lib.hid HR.out
      have HSM := Lib.hid (fun W a1 a2 c1 c2 (h1 : CV W a1 M.length (gl M)) (h2 : CV W a2 M.length (gl M)) (hn : M.length ≤ maxLen) => rsame_any a1 a2 M.length M.length c1 c2 (gl M) (gl M) W h1 h2 hn)
      rw [sm_self] at HSM
      clear HJ HR
      rcases HS.out with ⟨k1, k2⟩ | ⟨k1, k2, k3⟩
      all_goals
        clear HS
        go_enter Tryd.func4, Tryd.ntmps4
        go_wp2_with fail
        refine HJ1.out.mono ?_
        rintro e w1 ⟨v1, rfl, o1, b1⟩
        have HLN := Lib.hid (own_len o1)
        obtain ⟨ad1, cp1, rfl, cv1, _, _⟩ := own_cv rfl o1
        have C1 := Lib.hid cv1
        have B1 := Lib.hid b1
        clear b1 o1 cv1
        go_wp2_with fail
        refine (HR1.out _).mono ?_
        rintro e w2 ⟨v2, rfl, o2, b2⟩
        obtain ⟨ad2, cp2, rfl, cv2, _, _⟩ := own_cv rfl o2
        have C2 := Lib.hid (And.intro (C1.out.below b2) cv2)
        have B2 := Lib.hid (B1.out.trans (b2.mono B1.out.size))
        clear b2 o2 cv2
        go_wp2_with fail
        refine (HQ.out _).mono ?_
        rintro e w3 ⟨rfl, b3⟩
        have C3 := Lib.hid (And.intro (C2.out.1.below b3) (C2.out.2.below b3))
        have B3 := Lib.hid (B2.out.trans (b3.mono B2.out.size))
        clear b3
        go_wp2_with fail
        refine (HK.out _).mono ?_
        rintro e w4 ⟨rfl, b4⟩
        have C4 := Lib.hid (And.intro (C3.out.1.below b4) (C3.out.2.below b4))
        have B4 := Lib.hid (B3.out.trans (b4.mono B3.out.size))
        clear b4
        go_wp2_with fail
        refine (HSM.out _ _ _ _ _ C4.out.1 C4.out.2 HLN.out).mono ?_
        rintro e w5 ⟨rfl, b5⟩
        have B5 := Lib.hid (B4.out.trans (b5.mono B4.out.size))
        clear b5
        go_wp2_with fail
        go_ret
        exact ⟨rfl, B5.out⟩
  · have HS : Hid (((3000 : Int) < s.size ∧ (s.size : Int) ≤ 16384) ∨ ((3000 : Int) < s.size ∧ ¬ (s.size : Int) ≤ 16384 ∧ (17000 : Int) < s.size)) := Lib.hid (by
      by_cases h : s.size ≤ 16384
      · exact .inl ⟨by omega, by omega⟩
      · exact .inr ⟨by omega, by omega, by omega⟩)
    clear c1
    rcases HS.out with ⟨k1, k2⟩ | ⟨k1, k2, k3⟩
    all_goals
      clear HS
      go_enter Tryd.func4, Tryd.ntmps4
      go_wp2_with fail
      go_ret
      exact ⟨rfl, Below.refl _ _⟩
end Go.Proofs.YtoicmcjpaodgpaaDoor
