import Derived.Test.YtpiaofpglagfmaaDoorK10
/- Layer 17: LexBlanks, the walk (under way). -/
namespace Go.Proofs.YtpiaofpglagfmaaDoor
open Go.RowKit Go.Maps
theorem blank_core {c : Nat} {g : Nat → TkR} {m : Nat} (hok : ∀ k, k < m → okT (g k) = true) (hk : ∀ k, k < m → (g k).k ≠ 0) (h0 : (g m).k = 0) (hx : (g m).s = ⟨#[]⟩) (hsz : (jbW c g (m + 1)).size ≤ 16384) (hm : m ≤ 1024) : ∃ LM, lexM (jbW c g (m + 1)) = .ok LM ∧ LM.length = m + 1 ∧ ∀ i, i < m + 1 → (g i).k = (gt LM i).k ∧ (g i).s = (gt LM i).s := by
  have ht : tellT (g m) = ⟨#[]⟩ := by
    unfold tellT
    rw [if_neg (by omega), hx]
  obtain ⟨L', e1, e2⟩ := blank_lex hok hk ht hsz hm
  have e : (L' ++ [(⟨0, ⟨#[]⟩, (jbW c g (m + 1)).size⟩ : TkR)]).map ksT = ((List.range m).map g ++ [(⟨0, ⟨#[]⟩, 0⟩ : TkR)]).map ksT := by
    rw [List.map_append, List.map_append, e2, List.map_map]
    rfl
  obtain ⟨h1, h2⟩ := ks_at e
  have hl : (L' ++ [(⟨0, ⟨#[]⟩, (jbW c g (m + 1)).size⟩ : TkR)]).length = m + 1 := by rw [h1]; simp
  refine ⟨_, e1, hl, fun i hi => ?_⟩
  have := h2 i (by omega)
  rw [gt_gZ g m i hi] at this
  by_cases him : i < m
  · unfold gZ at this
    rw [if_pos him] at this
    exact ⟨this.1.symm, this.2.symm⟩
  · obtain rfl : i = m := by omega
    unfold gZ at this
    rw [if_neg him] at this
    exact ⟨h0.trans this.1.symm, hx.trans this.2.symm⟩
theorem blk_at {b : Int} {i : Nat} (h0 : 0 ≤ b) : ((b + (i : Int)) % 5).toNat = (b.toNat + i) % 5 := by omega
theorem blT_size (j : Nat) : (blT j).size ≤ 5 := by
  match j with
  | 0 => decide
  | 1 => decide
  | 2 => decide
  | 3 => decide
  | _ + 4 => show (⟨#[239, 187, 191]⟩ : ByteArray).size ≤ 5; decide
theorem jb_small {c : Nat} {g : Nat → TkR} {n : Nat} (h : ∀ k, k < n → (g k).s.size ≤ 3000) : ∀ {i : Nat}, i ≤ n → (jbW c g i).size ≤ i * 18007
  | 0, _ => Nat.zero_le _
  | i + 1, hi => by
    have h1 := jb_small (c := c) h (i := i) (by omega)
    have h2 := tellT_size (g i)
    have h3 := blT_size ((c + i) % 5)
    have h4 := h i (by omega)
    rw [jb_size]
    omega
theorem ljoin_one {bb off n i c : Nat} {g : Nat → TkR} {w : World} (l : Nm.Lim w) (hs : (g i).s.size ≤ 3000) (hok : okT (g i) = true) (hv : TkV w (some ⟨bb, off, none⟩) n g) (hi : i < n) : Calls Tryd.prog 7 #[.slice (some ⟨bb, off + i * 3, none⟩) 1 c] w fun e w' => e = .returned (.tuple #[.string (tellT (g i)), .int .i64 0]) ∧ Below w.heap.size w w' := by
  obtain ⟨q, d0, d1, d2⟩ := hv.at_ hi
  have h := ljoin_any (some ⟨bb, off + i * 3, none⟩) 1 c (fun _ => g i) w l (fun _ _ => hs) (by decide) (fun j hj => by
    obtain rfl : j = 0 := by omega
    exact ⟨bb, off + i * 3, rfl, q, d0, d1, d2⟩)
  have hk : okAll (fun _ => g i) 1 = true := okAll_yes (fun j hj => by
    obtain rfl : j = 0 := by omega
    unfold goodT
    rw [hok]
    simp)
  have hr : jnR (fun _ => g i) 1 = tellT (g i) := by
    unfold jnR
    rw [hk, if_pos rfl]
    show (if 0 < 0 ∧ (g i).k ≠ 0 then _ else (⟨#[]⟩ : ByteArray)) ++ tellT (g i) = _
    rw [if_neg (by omega)]
    exact ByteArray.empty_append
  have he : jnE (fun _ => g i) 1 = 0 := by unfold jnE; rw [hk]; rfl
  rw [hr, he] at h
  exact h
set_option maxRecDepth 20000 in
set_option maxHeartbeats 4000000 in
theorem blanks_walk (s : ByteArray) (b : Int) (w : World) (h0 : 0 ≤ b) (h1 : b < 256) (l : Nm.Lim w) (hc : LxC w) : Calls Tryd.prog 4 #[.string s, .int .u8 b] w fun e w' => e = .returned (.bool true) ∧ Below w.heap.size w w' := by
  have HL0 := Lib.hid l
  have HC0 := Lib.hid hc
  have HAL := Lib.hid (alive17_any w hc)
  clear l hc
  go_enter Tryd.func4, Tryd.ntmps4
  go_wp2_with fail
  refine HAL.out.mono ?_
  rintro e w0 ⟨rfl, b0⟩
  have B0 := Lib.hid b0
  have HLM := Lib.hid (lim_up HL0.out b0)
  have HC := Lib.hid (HC0.out.up b0)
  clear b0
  by_cases hs : s.size ≤ 1000
  case neg =>
    have hs1 : ¬ ((s.size : Int) ≤ 1000) := by omega
    go_wp2_with fail
    go_ret
    exact ⟨rfl, B0.out⟩
  have hsi : (s.size : Int) ≤ 1000 := by omega
  have HX := Lib.hid (lex_any s w0 HC.out (by omega))
  cases hl : lexM s with
  | bad p m =>
    rw [hl] at HX
    have HX1 : Hid (Calls Tryd.prog 8 #[.string s] w0 fun e w' => Below w0.heap.size w0 w' ∧ e = .returned (.tuple #[.slice none 0 0, .int .i64 p, .int .i64 m])) := HX
    have hm := lexM_bad hl
    have hm1 : (m != 0) = true := by simpa using hm
    clear HX hl
    go_wp2_with fail
    refine HX1.out.mono ?_
    rintro e w1 ⟨b1, rfl⟩
    have B1 := Lib.hid (B0.out.trans (b1.mono B0.out.size))
    clear b1
    go_wp2_with fail
    go_ret
    exact ⟨rfl, B1.out⟩
  | ok R =>
    rw [hl] at HX
    have HX1 : Hid (Calls Tryd.prog 8 #[.string s] w0 fun e w' => Below w0.heap.size w0 w' ∧ ∃ v, e = .returned (.tuple #[v, .int .i64 0, .int .i64 0]) ∧ OwT w0.heap.size w' v R) := HX
    obtain ⟨hck, M, rfl, hT, hM⟩ := lexM_shape hl
    have HT := Lib.hid hT
    have HM := Lib.hid hM
    clear HX hl hT hM
    go_wp2_with fail
    refine HX1.out.mono ?_
    rintro e w1 ⟨b1, v1, rfl, o1⟩
    have B1 := Lib.hid (B0.out.trans (b1.mono B0.out.size))
    obtain ⟨a1, c1, rfl, t1⟩ := own_tk o1
    have hcap := (own_cap o1).1
    obtain ⟨g, hg⟩ : ∃ g, g = gt (M ++ [(⟨0, ⟨#[]⟩, s.size⟩ : TkR)]) := ⟨_, rfl⟩
    obtain ⟨m, hm⟩ : ∃ m, m = M.length := ⟨_, rfl⟩
    have HF := Lib.hid (blank_facts hs HT.out hg)
    rw [← hm] at HF
    rw [← hg] at t1
    have hlen : (M ++ [(⟨0, ⟨#[]⟩, s.size⟩ : TkR)]).length = m + 1 := by rw [List.length_append, List.length_singleton, hm]
    rw [hlen] at t1 hcap ⊢
    have HM2 : Hid (m ≤ 1024) := Lib.hid (by rw [hm]; exact HM.out)
    have hmi : (m : Int) ≤ 1024 := by have := HM2.out; omega
    have T1 := Lib.hid t1
    have HC1 := Lib.hid (HC.out.up b1)
    have HB0 := Lib.hid B1.out.size
    have HB1 := Lib.hid b1
    clear b1 o1 t1 hlen hg hm
    go_wp2_with fail
    obtain ⟨wb, hwb⟩ : ∃ wb, wb = w1.alloc (.cells #[.string ⟨#[32]⟩, .string ⟨#[9, 44]⟩, .string ⟨#[13, 10]⟩, .string ⟨#[35, 120, 32, 34, 10]⟩, .string ⟨#[239, 187, 191]⟩] 9) := ⟨_, rfl⟩
    rw [← hwb]
    have hb1 : Below w1.heap.size w1 wb := by rw [hwb]; exact below_box _ _
    have HBB := Lib.hid hb1
    have HBL : Hid (∀ wr, Below wb.heap.size wb wr → ∀ j, j < 5 → wr.cell? ⟨w1.heap.size, j, none⟩ = some (.string (blT j))) := Lib.hid (fun wr k j hj => by
      have hlt : w1.heap.size < wb.heap.size := by rw [hwb]; simp
      rw [k.cell (p := ⟨w1.heap.size, j, none⟩) hlt, hwb]
      rcases (show j = 0 ∨ j = 1 ∨ j = 2 ∨ j = 3 ∨ j = 4 by omega) with rfl | rfl | rfl | rfl | rfl <;> (unfold World.cell?; dsimp only; rw [heap_alloc_new]; rfl))
    clear hb1 hwb
    go_loopw [10, 11, 12] (fun v10 v11 v12 wr => ∃ i : Nat, i ≤ m + 1 ∧ v12 = .int .i64 i ∧ v10 = .string (jbW b.toNat g i) ∧ v11 = .int .i64 (if i = 0 then -1 else (g (i - 1)).a) ∧ Hid (Below wb.heap.size wb wr)) (fun _ _ v12 _ => m + 1 - (intOf v12).toNat)
    case atStart => exact ⟨0, Nat.zero_le _, rfl, rfl, rfl, Lib.hid (Below.refl _ _)⟩
    case round =>
      obtain ⟨i, hi, rfl, rfl, rfl, HW⟩ := hrel
      have HB := Lib.hid (HBB.out.trans (HW.out.mono HBB.out.size))
      by_cases hin : i < m + 1
      · have hii : (i : Int) < (m : Int) + 1 := by omega
        have hi00 : (0 : Int) ≤ i := by omega
        have HTv := Lib.hid (T1.out.below HB.out)
        obtain ⟨bb, off, hae⟩ := HTv.out.addr (by omega)
        subst hae
        obtain ⟨_, d0, d1, d2⟩ := HTv.out.at_ hin
        obtain ⟨f1, f2, f3, f4, f5, f6⟩ := HF.out i hin
        have HCK := Lib.hid (lcheck_any (g i) wr (lim_up (lim_up HLM.out HB1.out) HB.out) (by omega))
        rw [f1] at HCK
        have HCK2 : Hid (Calls Tryd.prog 10 #[.agg #[.int .u8 (g i).k, .string (g i).s, .int .i64 (g i).a]] wr fun e w' => e = .returned (.int .i64 0) ∧ Below wr.heap.size wr w') := HCK
        clear HCK
        have F1 := Lib.hid f1
        have F2 := Lib.hid f2
        have hai : (g i).a ≤ 1000 := by omega
        obtain ⟨la, hla⟩ : ∃ la : Int, la = (if i = 0 then -1 else (g (i - 1)).a) := ⟨_, rfl⟩
        rw [← hla] at f3 ⊢
        have F3 := Lib.hid f3
        have F4 := Lib.hid f4
        clear f3 f4 hla
        go_wp2_with fail
        refine HCK2.out.mono ?_
        rintro e w2 ⟨rfl, b2⟩
        have B2 := Lib.hid (HB.out.trans (b2.mono HB.out.size))
        have HW2 := Lib.hid (HW.out.trans (b2.mono HW.out.size))
        clear b2
        have HTv2 := Lib.hid (T1.out.below B2.out)
        obtain ⟨_, e0, e1, e2⟩ := HTv2.out.at_ hin
        have HJN := Lib.hid (ljoin_one (c := c1 - i) (lim_up (lim_up HLM.out HB1.out) B2.out) F2.out F1.out HTv2.out hin)
        have hF3 : ¬ ((g i).a ≤ la) := by have := F3.out; omega
        have hci : (i : Int) + 1 ≤ c1 := by omega
        have hci0 : ¬ ((i : Int) + 1 < 0) := by omega
        have hz1 := jb_small (c := b.toNat) (g := g) (n := m + 1) (fun k hk => (HF.out k hk).2.1) (Nat.le_of_lt hin)
        have hz2 := tellT_size (g i)
        have hz3 := blT_size ((b.toNat + i) % 5)
        have hz0 := F2.out
        have hm2 := HM2.out
        have hz5 : (blT ((b.toNat + i) % 5) ++ tellT (g i)).size = (blT ((b.toNat + i) % 5)).size + (tellT (g i)).size := ByteArray.size_append
        have hn1 : ¬ (9223372036854775807 < (blT ((b.toNat + i) % 5)).size + (tellT (g i)).size) := by omega
        have hn2 : ¬ (9223372036854775807 < (jbW b.toNat g i).size + (blT ((b.toNat + i) % 5) ++ tellT (g i)).size) := by rw [hz5]; omega
        have hn3 : ¬ (9223372036854775807 < (jbW b.toNat g i).size + ((blT ((b.toNat + i) % 5)).size + (tellT (g i)).size)) := by omega
        clear hz1 hz2 hz3 hz0 hm2 hz5
        by_cases hk0 : (g i).k = 0
        · obtain rfl := F4.out.1 hk0
          go_wp2_with fail
          refine HJN.out.mono ?_
          rintro e w3 ⟨rfl, b3⟩
          have HW3 := Lib.hid (HW2.out.trans (b3.mono HW2.out.size))
          clear b3
          have hbl : w3.cell? ⟨w1.heap.size, ((b + (i : Int)) % 5).toNat, none⟩ = some (.string (blT ((b.toNat + i) % 5))) := by
            rw [blk_at h0]
            exact HBL.out w3 HW3.out _ (Nat.mod_lt (b.toNat + i) (by decide))
          go_wp2_with fail
          go_roundw
          case rel => exact ⟨i + 1, by omega, by go_num, rfl, by rw [if_neg (Nat.succ_ne_zero i)]; rfl, HW3⟩
          case measure => (simp [intOf]; try omega)
        · go_wp2_with fail
          refine HJN.out.mono ?_
          rintro e w3 ⟨rfl, b3⟩
          have HW3 := Lib.hid (HW2.out.trans (b3.mono HW2.out.size))
          clear b3
          have hbl : w3.cell? ⟨w1.heap.size, ((b + (i : Int)) % 5).toNat, none⟩ = some (.string (blT ((b.toNat + i) % 5))) := by
            rw [blk_at h0]
            exact HBL.out w3 HW3.out _ (Nat.mod_lt (b.toNat + i) (by decide))
          go_wp2_with fail
          go_roundw
          case rel => exact ⟨i + 1, by omega, by go_num, rfl, by rw [if_neg (Nat.succ_ne_zero i)]; rfl, HW3⟩
          case measure => (simp [intOf]; try omega)
      · obtain rfl : i = m + 1 := by omega
        by_cases hJs : (jbW b.toNat g (m + 1)).size ≤ 16000
        case neg =>
          have hJn : ¬ (((jbW b.toNat g (m + 1)).size : Int) ≤ 16000) := by omega
          go_wp2_with fail
          go_ret
          exact ⟨rfl, B1.out.trans (HB.out.mono HB0.out)⟩
        have hJz : ((jbW b.toNat g (m + 1)).size : Int) ≤ 16000 := by omega
        obtain ⟨f1, f2, f3, f4, f5, f6⟩ := HF.out m (by omega)
        have k0 := f4.2 rfl
        obtain ⟨LM, e1, e2, e3⟩ := blank_core (c := b.toNat) (g := g) (m := m) (fun k hk => (HF.out k (by omega)).1) (fun k hk h => by have := (HF.out k (by omega)).2.2.2.1.1 h; omega) k0 (end_txt f1 k0) (by omega) HM2.out
        have HXL := Lib.hid (lex_any (jbW b.toNat g (m + 1)) wr (HC1.out.up HB.out) (by omega))
        rw [e1] at HXL
        have HLX : Hid (Calls Tryd.prog 8 #[.string (jbW b.toNat g (m + 1))] wr fun e w' => Below wr.heap.size wr w' ∧ ∃ v, e = .returned (.tuple #[v, .int .i64 0, .int .i64 0]) ∧ OwT wr.heap.size w' v LM) := HXL
        have E2 := Lib.hid e2
        have E3 := Lib.hid e3
        clear e1 e2 e3 HXL f1 f2 f3 f4 f5 f6 k0
        go_wp2_with fail
        refine HLX.out.mono ?_
        rintro e w2 ⟨b2, v2, rfl, o2⟩
        obtain ⟨a2, c2, rfl, t2⟩ := own_tk o2
        rw [E2.out] at t2 ⊢
        have T2 := Lib.hid t2
        have B2 := Lib.hid (HB.out.trans (b2.mono HB.out.size))
        clear b2 o2 t2
        go_wp2_with fail
        refine (rsameF_any a1 a2 (m + 1) c1 c2 g (gt LM) w2 (by have := HM2.out; unfold maxLen; omega) E3.out (T1.out.below B2.out) T2.out).mono ?_
        rintro e w3 ⟨rfl, b3⟩
        have B3 := Lib.hid ((B1.out.trans (B2.out.mono HB0.out)).trans (b3.mono (Nat.le_trans HB0.out B2.out.size)))
        clear b3
        go_wp2_with fail
        go_ret
        exact ⟨rfl, B3.out⟩
end Go.Proofs.YtpiaofpglagfmaaDoor
/- Layer 17: the frame of LexBlanks. -/
namespace Go.Proofs.YtpiaofpglagfmaaDoor
open Go.RowKit
theorem blanks_in (s : ByteArray) (b : Int) (W : World) (l : Nm.Lim W ∧ W.ShapedOpen Tryd.prog) (h0 : 0 ≤ b) (h1 : b ≤ 255) : Calls Tryd.prog 4 #[.string s, .int .u8 b] W fun e w' => e = .returned (.bool true) ∧ Below W.heap.size W w' :=
  blanks_walk s b W h0 (by omega) l.1 (lxc_of l.1 l.2)
end Go.Proofs.YtpiaofpglagfmaaDoor
