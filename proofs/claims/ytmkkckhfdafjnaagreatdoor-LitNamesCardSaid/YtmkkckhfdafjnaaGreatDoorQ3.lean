import Derived.Test.YtmkkckhfdafjnaaGreatDoorQ2
import Derived.Test.YtmkkckhfdafjnaaGreatDoorQ1
import Derived.Maps.AppendAt
import Derived.OwnWalk
import Derived.RegionTactic
import Derived.ChangeAlike
import Derived.Below
/- Layer 4, Read: where escapes end (plain). -/
namespace Go.Proofs.YtmkkckhfdafjnaaGreatDoor
open Go.RowKit
theorem fourF_in {s : ByteArray} : ∀ (k i : Nat) (n m : Int) (j : Nat), fourF s (k + 1) i n = .ok (m, j) → j ≤ s.size
  | 0, i, n, m, j, h => by
    unfold fourF at h
    split at h
    · cases h
    · rename_i hh
      have hi : i < s.size := byt_in (by intro e; rw [e] at hh; exact hh (by decide))
      cases h
      omega
  | k + 1, i, n, m, j, h => by
    unfold fourF at h
    split at h
    · cases h
    · exact fourF_in k (i + 1) _ m j h
theorem wordM_two {s : ByteArray} {j j2 : Nat} (h : wordM s [92, 117] j = .ok j2) : j2 = j + 2 := by
  unfold wordM at h
  split at h
  · unfold wordM at h
    split at h
    · cases h; rfl
    · cases h
  · cases h
theorem pointM_ok {s : ByteArray} {i : Nat} {q : Int} {j : Nat} (h : pointM s i = .ok (q, j)) : i < j ∧ j ≤ s.size ∧ isPt q = true := by
  unfold pointM at h
  cases hx : fourF s 4 i 0 with
  | bad m => rw [hx] at h; cases h
  | ok x =>
    obtain ⟨a, j1⟩ := x
    obtain ⟨e1, a0, a1⟩ := fourF_ok 4 i 0 a j1 (by decide) hx
    have e2 := fourF_in 3 i 0 a j1 hx
    have p4 : (16 : Int) ^ 4 = 65536 := by decide
    rw [hx] at h
    simp only [Rs.bind_ok] at h
    split at h
    · rename_i hsur
      cases hw : wordM s [92, 117] j1 with
      | bad m => rw [hw] at h; cases h
      | ok j2 =>
        have e3 := wordM_two hw
        rw [hw] at h
        simp only [Rs.bind_ok] at h
        cases hy : fourF s 4 j2 0 with
        | bad m => rw [hy] at h; cases h
        | ok y =>
          obtain ⟨c, j3⟩ := y
          obtain ⟨f1, c0, c1⟩ := fourF_ok 4 j2 0 c j3 (by decide) hy
          have f2 := fourF_in 3 j2 0 c j3 hy
          rw [hy] at h
          simp only [Rs.bind_ok] at h
          split at h
          · cases h
          · cases h
            refine ⟨by omega, f2, ?_⟩
            unfold isPt
            rw [decide_eq_true_eq]
            omega
    · split at h
      · rename_i hp
        cases h
        exact ⟨by omega, e2, hp⟩
      · cases h
theorem escM_ok {s : ByteArray} {i : Nat} {m : List Int} {j : Nat} (h : escM s i = .ok (m, j)) : i < j ∧ j ≤ s.size ∧ m.length ≤ 4 ∧ ∀ x ∈ m, 0 ≤ x ∧ x < 256 := by
  have hin : byt s i ≠ 0 → i < s.size := byt_in
  have hr := byt_range s i
  unfold escM at h
  dsimp only at h
  split at h
  · rename_i hc
    have := hin (by omega)
    cases h
    exact ⟨by omega, by omega, by simp, fun x hx => by simp at hx; subst hx; exact hr⟩
  split at h
  · have := hin (by omega)
    cases h
    exact ⟨by omega, by omega, by simp, fun x hx => by simp at hx; subst hx; omega⟩
  split at h
  · have := hin (by omega)
    cases h
    exact ⟨by omega, by omega, by simp, fun x hx => by simp at hx; subst hx; omega⟩
  split at h
  · have := hin (by omega)
    cases h
    exact ⟨by omega, by omega, by simp, fun x hx => by simp at hx; subst hx; omega⟩
  split at h
  · have := hin (by omega)
    cases h
    exact ⟨by omega, by omega, by simp, fun x hx => by simp at hx; subst hx; omega⟩
  split at h
  · have := hin (by omega)
    cases h
    exact ⟨by omega, by omega, by simp, fun x hx => by simp at hx; subst hx; omega⟩
  split at h
  · cases hp : pointM s (i + 1) with
    | bad e => rw [hp] at h; cases h
    | ok y =>
      obtain ⟨q, j1⟩ := y
      obtain ⟨h1, h2, h3⟩ := pointM_ok hp
      rw [hp] at h
      cases h
      exact ⟨by omega, h2, (enc_len q).2, fun x hx => enc_range (isPt_range h3).1 (isPt_range h3).2 x hx⟩
  · cases h
/-- A text is told, and a place, or an error thrown. -/
def StP (p : Nat) (s : ByteArray) (op : Nat) (v : Value) (L : List CR) (w : World) (x : Rs (List Int × Nat)) (e : Ending) (w' : World) : Prop := match x with
  | .ok (l, j) => e = .returned (.string (mkB l)) ∧ RdB w' p s j op v L ∧ Fr p v v w w'
  | .bad m => e = thr m ∧ Below p w w'
theorem strF_step (s : ByteArray) (f j : Nat) (l : List Int) (h : 1 ≤ f) : strF s f j l = (if byt s j = 34 then .ok (l, j + 1) else if byt s j = 92 then (escM s (j + 1)).bind fun x => strF s (f - 1) x.2 (l ++ x.1) else if byt s j < 32 then .bad 40 else strF s (f - 1) (j + 1) (l ++ [byt s j])) := by
  match f, h with
  | f + 1, _ => rfl
end Go.Proofs.YtmkkckhfdafjnaaGreatDoor
/- Layer 4, Read: a string, the walk. -/
namespace Go.Proofs.YtmkkckhfdafjnaaGreatDoor
open Go.RowKit Go.Maps
/-- Within a string: the reader, its row, the bytes so far. -/
structure InS (B p : Nat) (s : ByteArray) (j op : Nat) (v : Value) (L : List CR) (w W : World) (vo : Value) (l : List Int) : Prop where
  rd : RdB W p s j op v L
  fb : FB B p v w W
  row : OwB B W vo l
  ran : ∀ x ∈ l, 0 ≤ x ∧ x < 256
  len : l.length ≤ 4 * j
set_option maxRecDepth 20000 in
set_option maxHeartbeats 4000000 in
theorem str_any {p i op : Nat} {s : ByteArray} {v : Value} {L : List CR} (w : World) (h : RdB w p s i op v L) (hs : s.size ≤ 1000000000) (hi : i ≤ 1000000001) : Calls Tryz.prog 174 #[.pointer (some ⟨p, 0, none⟩)] w (StP p s op v L w (strM s i)) := by
  obtain ⟨X, hX⟩ : ∃ X, X = strM s i := ⟨_, rfl⟩
  rw [← hX]
  have HF := Lib.hid h.far
  have HLT := Lib.hid h.lt
  have HV : Hid (∀ k, v.ownBlock = some k → k < w.heap.size) := Lib.hid (fun k hk => (h.row.lt k hk).2)
  by_cases hc : byt s i = 34
  · have hin : i < s.size := byt_in (by omega)
    have HX : Hid (strF s (s.size - (i + 1) + 1) (i + 1) [] = X) := Lib.hid (by
      rw [hX]
      unfold strM wordM
      rw [if_pos hc]
      rfl)
    have HT := Lib.hid (take_ok 34 w h hs (by omega) hc)
    clear hX h hc
    go_enter Tryz.func174, Tryz.ntmps174
    go_wp2_with fail
    refine HT.out.mono ?_
    rintro e w1 ⟨rfl, r1, f1⟩
    have HI : Hid (InS w.heap.size p s (i + 1) op v L w w1 (.slice none 0 0) []) := Lib.hid ⟨r1, f1.fb (Nat.le_refl _), ⟨World.ownsRow_nil _ _ _ _, f1.size⟩, fun x hx => by simp at hx, Nat.zero_le _⟩
    clear r1 f1
    go_wp2_with fail
    go_loopg [3, 3] (s.size - (i + 1) + 1) (fun f v3 _ wr => ∃ (j : Nat) (l : List Int) (vo : Value), s.size + 1 - j ≤ f ∧ j ≤ s.size ∧ vo = v3 ∧ Hid (strF s f j l = X) ∧ Hid (InS w.heap.size p s j op v L w wr vo l))
    case atStart => exact ⟨i + 1, [], _, by omega, by omega, rfl, HX, HI⟩
    case round =>
      obtain ⟨j, l, vo, hf, hj, rfl, HE, HI⟩ := hrel
      have hlen := HI.out.len
      have HP := Lib.hid (fun W (d : Dr wr W) => (peek_any W (HI.out.rd.dr d).1 hs (by omega)).mono (fun e W' k => And.intro k.1 (d.trans k.2)))
      have HS := Lib.hid (strF_step s gk j l (by omega))
      have hbr := byt_range s j
      have hin := byt_in (s := s) (i := j)
      have HES := Lib.hid (fun W (r : RdB W p s (j + 1) op v L) (o : OwB w.heap.size W vo l) => escape_any W r o HLT.out HV.out hs (by omega) (by omega))
      obtain ⟨b, hb⟩ : ∃ b, b = byt s j := ⟨_, rfl⟩
      rw [← hb] at HP HS hbr hin
      clear hb
      have hji : (j : Int) ≤ 1000000000 := by omega
      by_cases h34 : b = 34
      · subst h34
        have hjs := hin (by decide)
        have HX1 : Hid (X = .ok (l, j + 1)) := Lib.hid (by rw [← HE.out, HS.out]; simp)
        clear HS HE HES hbr hin
        go_wp2_with (go_at_call 160; refine (HP.out _ (Dr.refl _)).mono ?_; rintro e w2 ⟨rfl, d⟩; have R1 := Lib.hid (HI.out.rd.dr d); have O1 := Lib.hid (HI.out.row.up (d.below _)); clear d; have c1 := R1.out.1.c1; have z1 := R1.out.1.z 1; have RN := Lib.hid (R1.out.1.at_ (j + 1) ((j : Int) + 1) (by omega)); have hcv := conv_own (O1.out.fr RN.out.2 HLT.out HV.out).1 HI.out.ran)
        go_ret
        rw [HX1.out]
        exact ⟨rfl, RN.out.1, (HI.out.fb.trans ((R1.out.2.trans RN.out.2).fb (Nat.le_trans HI.out.fb.size (Nat.le_refl _)))).fr⟩
      · by_cases h92 : b = 92
        · subst h92
          have hjs := hin (by decide)
          have HX1 : Hid (X = (escM s (j + 1)).bind fun x => strF s (gk - 1) x.2 (l ++ x.1)) := Lib.hid (by rw [← HE.out, HS.out]; simp)
          clear HS HE hbr hin h34
          cases hy : escM s (j + 1) with
          | bad m =>
            rw [hy] at HX1 HES
            have HES1 : Hid (∀ W, RdB W p s (j + 1) op v L → OwB w.heap.size W vo l → Calls Tryz.prog 183 #[.pointer (some ⟨p, 0, none⟩), vo] W fun e w' => e = thr m ∧ Below p W w') := Lib.hid HES.out
            clear HES hy
            go_wp2_with (first | (go_at_call 160; first | (refine (HP.out _ (Dr.refl _)).mono ?_; rintro e w2 ⟨rfl, d⟩; have D1 := Lib.hid d; clear d) | (refine (HP.out _ D1.out).mono ?_; rintro e w3 ⟨rfl, d⟩; have R1 := Lib.hid (HI.out.rd.dr d); have O1 := Lib.hid (HI.out.row.up (d.below _)); clear d; have c1 := R1.out.1.c1; have z1 := R1.out.1.z 1; have RN := Lib.hid (R1.out.1.at_ (j + 1) ((j : Int) + 1) (by omega)))))
            refine (HES1.out _ RN.out.1 (O1.out.fr RN.out.2 HLT.out HV.out)).mono ?_
            rintro e w4 ⟨he, b4⟩
            unfold thr at he
            subst he
            (try go_wp2_with fail)
            simp only [bodyPost]
            rw [HX1.out]
            exact ⟨trivial, rfl, ((HI.out.fb.trans ((R1.out.2.trans RN.out.2).fb HI.out.fb.size)).below HF.out (Nat.le_of_lt HLT.out)).trans b4⟩
          | ok y =>
            obtain ⟨m, j'⟩ := y
            obtain ⟨k1, k2, k3, k4⟩ := escM_ok hy
            rw [hy] at HX1 HES
            have HES1 : Hid (∀ W, RdB W p s (j + 1) op v L → OwB w.heap.size W vo l → Calls Tryz.prog 183 #[.pointer (some ⟨p, 0, none⟩), vo] W fun e w' => ∃ v', e = .returned v' ∧ OwB w.heap.size w' v' (l ++ m) ∧ RdB w' p s j' op v L ∧ FB w.heap.size p v W w') := Lib.hid HES.out
            have K4 := Lib.hid k4
            clear HES hy k4
            go_wp2_with (first | (go_at_call 160; first | (refine (HP.out _ (Dr.refl _)).mono ?_; rintro e w2 ⟨rfl, d⟩; have D1 := Lib.hid d; clear d) | (refine (HP.out _ D1.out).mono ?_; rintro e w3 ⟨rfl, d⟩; have R1 := Lib.hid (HI.out.rd.dr d); have O1 := Lib.hid (HI.out.row.up (d.below _)); clear d; have c1 := R1.out.1.c1; have z1 := R1.out.1.z 1; have RN := Lib.hid (R1.out.1.at_ (j + 1) ((j : Int) + 1) (by omega)))))
            refine (HES1.out _ RN.out.1 (O1.out.fr RN.out.2 HLT.out HV.out)).mono ?_
            rintro e w4 ⟨v', rfl, o4, r4, f4⟩
            have HN : Hid (InS w.heap.size p s j' op v L w w4 v' (l ++ m)) := Lib.hid ⟨r4, HI.out.fb.trans (((R1.out.2.trans RN.out.2).fb HI.out.fb.size).trans f4), o4, fun x hx => by
              rcases List.mem_append.1 hx with hx | hx
              · exact HI.out.ran x hx
              · exact K4.out x hx, by rw [List.length_append]; omega⟩
            clear o4 r4 f4
            go_wp2_with fail
            go_roundg (gk - 1)
            case rel => exact ⟨j', l ++ m, _, by omega, k2, rfl, Lib.hid HX1.out.symm, HN⟩
            case measure => omega
        · by_cases h32 : b < 32
          · have HX1 : Hid (X = .bad 40) := Lib.hid (by rw [← HE.out, HS.out, if_neg h34, if_neg h92, if_pos h32])
            clear HS HE HES hbr hin
            go_wp2_with (first | (go_at_call 160; first | (refine (HP.out _ (Dr.refl _)).mono ?_; rintro e w2 ⟨rfl, d⟩; have D1 := Lib.hid d; clear d) | (refine (HP.out _ D1.out).mono ?_; rintro e w3 ⟨rfl, d⟩; have R1 := Lib.hid (HI.out.rd.dr d); clear d)))
            simp only [bodyPost]
            rw [HX1.out]
            exact ⟨trivial, rfl, (HI.out.fb.trans (R1.out.2.fb HI.out.fb.size)).below HF.out (Nat.le_of_lt HLT.out)⟩
          · have hjs := hin (by omega)
            have HX1 : Hid (X = strF s (gk - 1) (j + 1) (l ++ [b])) := Lib.hid (by rw [← HE.out, HS.out, if_neg h34, if_neg h92, if_neg h32])
            have HBR := Lib.hid hbr
            clear HS HE HES hbr hin
            obtain ⟨i0, hi0, hz0, hz1, hz2⟩ := info_parts info5
            go_wp2_with (first | (go_at_call 160; first | (refine (HP.out _ (Dr.refl _)).mono ?_; rintro e w2 ⟨rfl, d⟩; have D1 := Lib.hid d; clear d) | (refine (HP.out _ D1.out).mono ?_; rintro e w3 ⟨rfl, d⟩; have R1 := Lib.hid (HI.out.rd.dr d); have O1 := Lib.hid (HI.out.row.up (d.below _)); clear d)) | (at_builtin; refine wpList_append_own _ rfl _ _ 26 rfl w.heap.size 5 i0 (.int .u8 0) 1 1 Tryz.underlying26 hi0 hz0 hz1 hz2 rfl (by decide) vo l.length (l.map (Value.int .u8)) rfl (O1.out.alloc _).1 ⟨w3.heap.size, 0, none⟩ 1 1 [.int .u8 b] rfl rfl (cell_news2 _ _ _ _ rfl (by simp)) (by intro u hu; simp at hu; subst hu; rfl) (by unfold maxLen; omega) (by omega) (O1.out.alloc _).2 ?_; intro v' w4 ho hg _; have E3 := Lib.hid (es_end (m := [b]) ho rfl O1.out hg R1.out.1 R1.out.2 HI.out.fb.size HLT.out HV.out); clear ho hg; have c1 := E3.out.2.1.c1; have z1 := E3.out.2.1.z 1; have RN := Lib.hid (E3.out.2.1.at_ (j + 1) ((j : Int) + 1) (by omega))))
            go_roundg (gk - 1)
            case rel => exact ⟨j + 1, l ++ [b], _, by omega, by omega, rfl, Lib.hid HX1.out.symm, Lib.hid ⟨RN.out.1, HI.out.fb.trans (E3.out.2.2.trans (RN.out.2.fb (by have := E3.out.1.2; exact this))), E3.out.1.fr RN.out.2 HLT.out HV.out, fun x hx => by
              rcases List.mem_append.1 hx with hx | hx
              · exact HI.out.ran x hx
              · simp at hx; subst hx; exact HBR.out, by rw [List.length_append]; simp; omega⟩⟩
            case measure => omega
  · have HX1 : Hid (X = .bad 40) := Lib.hid (by
      rw [hX]
      unfold strM wordM
      rw [if_neg hc]
      rfl)
    have HT := Lib.hid (take_bad 34 w h hs (by omega) hc)
    clear hX h hc
    go_enter Tryz.func174, Tryz.ntmps174
    go_wp2_with fail
    refine HT.out.mono ?_
    rintro e w1 ⟨he, d⟩
    unfold thr at he
    subst he
    (try go_wp2_with fail)
    simp only [bodyPost]
    rw [HX1.out]
    exact ⟨trivial, rfl, d.below _⟩
end Go.Proofs.YtmkkckhfdafjnaaGreatDoor
/- Layer 4, Read: fraction, exponent. -/
namespace Go.Proofs.YtmkkckhfdafjnaaGreatDoor
open Go.RowKit Go.Maps
theorem dg_le {s : ByteArray} {i : Nat} (hi : i ≤ s.size) : dg s i ≤ s.size := by
  have key : ∀ f j, j + f ≤ s.size → dgF s f j ≤ s.size := by
    intro f
    induction f with
    | zero => intro j h; exact h
    | succ f ih =>
      intro j h
      show (if isDg (byt s j) then dgF s f (j + 1) else j) ≤ _
      split
      · exact ih (j + 1) (by omega)
      · omega
  exact key _ _ (by omega)
set_option maxRecDepth 20000 in
set_option maxHeartbeats 1000000 in
theorem fraction_any {p i op : Nat} {s : ByteArray} {v : Value} {L : List CR} (w : World) (h : RdB w p s i op v L) (hs : s.size ≤ 1000000000) (hi : i ≤ 1000000000) : Calls Tryz.prog 179 #[.pointer (some ⟨p, 0, none⟩)] w fun e w' => e = .returned (.tuple #[]) ∧ RdB w' p s (fracM s i) op v L ∧ Fr p v v w w' := by
  obtain ⟨J, hJ⟩ : ∃ J, J = fracM s i := ⟨_, rfl⟩
  rw [← hJ]
  unfold fracM at hJ
  have HP := Lib.hid (peek_any w h hs (by omega))
  have H := Lib.hid h
  have c1 := h.c1
  have hi2 : (i : Int) ≤ 1000000000 := by omega
  by_cases hb : byt s i = 46
  · rw [if_pos hb] at hJ
    rw [hb] at HP
    have HD := Lib.hid (fun W (r : RdB W p s (i + 1) op v L) => rdigits_at W r hs (by omega))
    have HJ := Lib.hid hJ
    clear hJ h hb
    go_enter Tryz.func179, Tryz.ntmps179
    go_wp2_with (go_at_call 160; refine HP.out.mono ?_; rintro e w1 ⟨rfl, d⟩; have R1 := Lib.hid (H.out.dr d); clear d; have c1 := R1.out.1.c1; have z1 := R1.out.1.z 1; have RN := Lib.hid (R1.out.1.at_ (i + 1) ((i : Int) + 1) (by omega)))
    refine (HD.out _ RN.out.1).mono ?_
    rintro e w2 ⟨⟨n, rfl, hn⟩, r2, f2⟩
    have R2 := Lib.hid (And.intro r2 (R1.out.2.trans (RN.out.2.trans f2)))
    clear r2 f2
    have z2 := R2.out.1.z 1
    rcases Nat.eq_zero_or_pos n with h0 | h0
    · subst h0
      have HJ1 : Hid (J = i) := Lib.hid (by rw [HJ.out, if_pos (by omega)])
      have RM := Lib.hid (R2.out.1.at_ i (i : Int) rfl)
      have c2 := R2.out.1.c1
      clear hn
      go_wp2_with fail
      go_end0
      rw [HJ1.out]
      exact ⟨rfl, RM.out.1, R2.out.2.trans RM.out.2⟩
    · have HJ1 : Hid (J = dg s (i + 1)) := Lib.hid (by rw [HJ.out, if_neg (by omega)])
      have hz : ¬ (n : Int) = 0 := by omega
      clear hn
      go_wp2_with fail
      go_end0
      rw [HJ1.out]
      exact ⟨rfl, R2.out.1, R2.out.2⟩
  · rw [if_neg hb] at hJ
    obtain ⟨b, hbb⟩ : ∃ b, b = byt s i := ⟨_, rfl⟩
    rw [← hbb] at HP hb
    subst hJ
    clear hbb h
    go_enter Tryz.func179, Tryz.ntmps179
    go_wp2_with (go_at_call 160; refine HP.out.mono ?_; rintro e w1 ⟨rfl, d⟩; have R1 := Lib.hid (H.out.dr d); clear d)
    (try simp only [Exit.inBlock, Exit.then])
    refine bodyPost_ret (results_none rfl _ _ _) rfl ?_
    exact ⟨rfl, R1.out.1, R1.out.2⟩
set_option maxRecDepth 20000 in
set_option maxHeartbeats 2000000 in
theorem exponent_any {p i op : Nat} {s : ByteArray} {v : Value} {L : List CR} (w : World) (h : RdB w p s i op v L) (hs : s.size ≤ 1000000000) (hi : i ≤ 999999999) : Calls Tryz.prog 180 #[.pointer (some ⟨p, 0, none⟩)] w fun e w' => e = .returned (.tuple #[]) ∧ RdB w' p s (expoM s i) op v L ∧ Fr p v v w w' := by
  obtain ⟨J, hJ⟩ : ∃ J, J = expoM s i := ⟨_, rfl⟩
  rw [← hJ]
  unfold expoM at hJ
  have HP := Lib.hid (fun W (d : Dr w W) => (peek_any W (h.dr d).1 hs (by omega)).mono (fun e W' k => And.intro k.1 (d.trans k.2)))
  have HQ := Lib.hid (fun W (r : RdB W p s (i + 1) op v L) => peek_any W r hs (by omega))
  have H := Lib.hid h
  have c1 := h.c1
  have hi2 : (i : Int) ≤ 999999999 := by omega
  have HD1 := Lib.hid (fun W (r : RdB W p s (i + 1) op v L) => rdigits_at W r hs (by omega))
  have HD2 := Lib.hid (fun W (r : RdB W p s (i + 2) op v L) => rdigits_at W r hs (by omega))
  obtain ⟨b, hb⟩ : ∃ b, b = byt s i := ⟨_, rfl⟩
  obtain ⟨c, hc⟩ : ∃ c, c = byt s (i + 1) := ⟨_, rfl⟩
  rw [← hb] at HP hJ
  rw [← hc] at HQ hJ
  clear hb hc h
  by_cases k101 : b = 101
  · subst k101
    rw [if_pos (show (101 : Int) = 101 ∨ (101 : Int) = 69 by decide)] at hJ
    dsimp only at hJ
    by_cases g43 : c = 43
    · subst g43
      rw [if_pos (show (43 : Int) = 43 ∨ (43 : Int) = 45 by decide)] at hJ
      have HJ := Lib.hid hJ
      clear hJ
      go_enter Tryz.func180, Tryz.ntmps180
      go_wp2_with (first | (go_at_call 160; refine (HQ.out _ RN.out.1).mono ?_; rintro e w2 ⟨rfl, d⟩; have RQ := Lib.hid (And.intro (RN.out.1.dr d).1 (R1.out.2.trans (RN.out.2.trans (RN.out.1.dr d).2))); clear d; have c1 := RQ.out.1.c1; have z1 := RQ.out.1.z 1; have RS := Lib.hid (RQ.out.1.at_ (i + 2) ((i : Int) + 1 + 1) (by omega))) | (go_at_call 160; refine (HP.out _ (Dr.refl _)).mono ?_; rintro e w1 ⟨rfl, d⟩; have R1 := Lib.hid (H.out.dr d); clear d; have c1 := R1.out.1.c1; have z1 := R1.out.1.z 1; have RN := Lib.hid (R1.out.1.at_ (i + 1) ((i : Int) + 1) (by omega))))
      refine (HD2.out _ RS.out.1).mono ?_
      rintro e w3 ⟨⟨n, rfl, hn⟩, r2, f2⟩
      have R2 := Lib.hid (And.intro r2 ((RQ.out.2.trans RS.out.2).trans f2))
      clear r2 f2
      have z2 := R2.out.1.z 1
      have c2 := R2.out.1.c1
      rcases Nat.eq_zero_or_pos n with h0 | h0
      · subst h0
        have HJ1 : Hid (J = i) := Lib.hid (by rw [HJ.out, if_pos (show dg s (i + 2) = i + 2 by omega)])
        have RM := Lib.hid (R2.out.1.at_ i (i : Int) rfl)
        clear hn
        go_wp2_with fail
        go_end0
        rw [HJ1.out]
        exact ⟨rfl, RM.out.1, R2.out.2.trans RM.out.2⟩
      · have HJ1 : Hid (J = dg s (i + 2)) := Lib.hid (by rw [HJ.out, if_neg (show ¬ dg s (i + 2) = i + 2 by omega)])
        have hz : ¬ (n : Int) = 0 := by omega
        clear hn
        go_wp2_with fail
        go_end0
        rw [HJ1.out]
        exact ⟨rfl, R2.out.1, R2.out.2⟩
    by_cases g45 : c = 45
    · subst g45
      rw [if_pos (show (45 : Int) = 43 ∨ (45 : Int) = 45 by decide)] at hJ
      have HJ := Lib.hid hJ
      clear hJ
      go_enter Tryz.func180, Tryz.ntmps180
      go_wp2_with (first | (go_at_call 160; refine (HQ.out _ RQ0.out.1).mono ?_; rintro e w2b ⟨rfl, d⟩; have RQ := Lib.hid (And.intro (RQ0.out.1.dr d).1 (R1.out.2.trans (RN.out.2.trans (RQ0.out.2.trans (RQ0.out.1.dr d).2)))); clear d; have c1 := RQ.out.1.c1; have z1 := RQ.out.1.z 1; have RS := Lib.hid (RQ.out.1.at_ (i + 2) ((i : Int) + 1 + 1) (by omega))) | (go_at_call 160; refine (HQ.out _ RN.out.1).mono ?_; rintro e w2 ⟨rfl, d⟩; have RQ0 := Lib.hid (RN.out.1.dr d); clear d) | (go_at_call 160; refine (HP.out _ (Dr.refl _)).mono ?_; rintro e w1 ⟨rfl, d⟩; have R1 := Lib.hid (H.out.dr d); clear d; have c1 := R1.out.1.c1; have z1 := R1.out.1.z 1; have RN := Lib.hid (R1.out.1.at_ (i + 1) ((i : Int) + 1) (by omega))))
      refine (HD2.out _ RS.out.1).mono ?_
      rintro e w3 ⟨⟨n, rfl, hn⟩, r2, f2⟩
      have R2 := Lib.hid (And.intro r2 ((RQ.out.2.trans RS.out.2).trans f2))
      clear r2 f2
      have z2 := R2.out.1.z 1
      have c2 := R2.out.1.c1
      rcases Nat.eq_zero_or_pos n with h0 | h0
      · subst h0
        have HJ1 : Hid (J = i) := Lib.hid (by rw [HJ.out, if_pos (show dg s (i + 2) = i + 2 by omega)])
        have RM := Lib.hid (R2.out.1.at_ i (i : Int) rfl)
        clear hn
        go_wp2_with fail
        go_end0
        rw [HJ1.out]
        exact ⟨rfl, RM.out.1, R2.out.2.trans RM.out.2⟩
      · have HJ1 : Hid (J = dg s (i + 2)) := Lib.hid (by rw [HJ.out, if_neg (show ¬ dg s (i + 2) = i + 2 by omega)])
        have hz : ¬ (n : Int) = 0 := by omega
        clear hn
        go_wp2_with fail
        go_end0
        rw [HJ1.out]
        exact ⟨rfl, R2.out.1, R2.out.2⟩
    rw [if_neg (show ¬ (c = 43 ∨ c = 45) by omega)] at hJ
    have HJ := Lib.hid hJ
    clear hJ
    have q43 : (c == 43) = false := beq_eq_false_iff_ne.2 g43
    have q45 : (c == 45) = false := beq_eq_false_iff_ne.2 g45
    go_enter Tryz.func180, Tryz.ntmps180
    go_wp2_with (first | (go_at_call 160; refine (HQ.out _ RQ0.out.1).mono ?_; rintro e w2b ⟨rfl, d⟩; have RQ := Lib.hid (And.intro (RQ0.out.1.dr d).1 (R1.out.2.trans (RN.out.2.trans (RQ0.out.2.trans (RQ0.out.1.dr d).2)))); clear d) | (go_at_call 160; refine (HQ.out _ RN.out.1).mono ?_; rintro e w2 ⟨rfl, d⟩; have RQ0 := Lib.hid (RN.out.1.dr d); clear d) | (go_at_call 160; refine (HP.out _ (Dr.refl _)).mono ?_; rintro e w1 ⟨rfl, d⟩; have R1 := Lib.hid (H.out.dr d); clear d; have c1 := R1.out.1.c1; have z1 := R1.out.1.z 1; have RN := Lib.hid (R1.out.1.at_ (i + 1) ((i : Int) + 1) (by omega))))
    refine (HD1.out _ RQ.out.1).mono ?_
    rintro e w3 ⟨⟨n, rfl, hn⟩, r2, f2⟩
    have R2 := Lib.hid (And.intro r2 (RQ.out.2.trans f2))
    clear r2 f2
    have z2 := R2.out.1.z 1
    have c2 := R2.out.1.c1
    rcases Nat.eq_zero_or_pos n with h0 | h0
    · subst h0
      have HJ1 : Hid (J = i) := Lib.hid (by rw [HJ.out, if_pos (show dg s (i + 1) = i + 1 by omega)])
      have RM := Lib.hid (R2.out.1.at_ i (i : Int) rfl)
      clear hn
      go_wp2_with fail
      go_end0
      rw [HJ1.out]
      exact ⟨rfl, RM.out.1, R2.out.2.trans RM.out.2⟩
    · have HJ1 : Hid (J = dg s (i + 1)) := Lib.hid (by rw [HJ.out, if_neg (show ¬ dg s (i + 1) = i + 1 by omega)])
      have hz : ¬ (n : Int) = 0 := by omega
      clear hn
      go_wp2_with fail
      go_end0
      rw [HJ1.out]
      exact ⟨rfl, R2.out.1, R2.out.2⟩
  by_cases k69 : b = 69
  · subst k69
    rw [if_pos (show (69 : Int) = 101 ∨ (69 : Int) = 69 by decide)] at hJ
    dsimp only at hJ
    by_cases g43 : c = 43
    · subst g43
      rw [if_pos (show (43 : Int) = 43 ∨ (43 : Int) = 45 by decide)] at hJ
      have HJ := Lib.hid hJ
      clear hJ
      go_enter Tryz.func180, Tryz.ntmps180
      go_wp2_with (first | (go_at_call 160; refine (HQ.out _ RN.out.1).mono ?_; rintro e w2 ⟨rfl, d⟩; have RQ := Lib.hid (And.intro (RN.out.1.dr d).1 (R1.out.2.trans (RN.out.2.trans (RN.out.1.dr d).2))); clear d; have c1 := RQ.out.1.c1; have z1 := RQ.out.1.z 1; have RS := Lib.hid (RQ.out.1.at_ (i + 2) ((i : Int) + 1 + 1) (by omega))) | (go_at_call 160; refine (HP.out _ D1.out).mono ?_; rintro e w1b ⟨rfl, d⟩; have R1 := Lib.hid (H.out.dr d); clear d; have c1 := R1.out.1.c1; have z1 := R1.out.1.z 1; have RN := Lib.hid (R1.out.1.at_ (i + 1) ((i : Int) + 1) (by omega))) | (go_at_call 160; refine (HP.out _ (Dr.refl _)).mono ?_; rintro e w1 ⟨rfl, d⟩; have D1 := Lib.hid d; clear d))
      refine (HD2.out _ RS.out.1).mono ?_
      rintro e w3 ⟨⟨n, rfl, hn⟩, r2, f2⟩
      have R2 := Lib.hid (And.intro r2 ((RQ.out.2.trans RS.out.2).trans f2))
      clear r2 f2
      have z2 := R2.out.1.z 1
      have c2 := R2.out.1.c1
      rcases Nat.eq_zero_or_pos n with h0 | h0
      · subst h0
        have HJ1 : Hid (J = i) := Lib.hid (by rw [HJ.out, if_pos (show dg s (i + 2) = i + 2 by omega)])
        have RM := Lib.hid (R2.out.1.at_ i (i : Int) rfl)
        clear hn
        go_wp2_with fail
        go_end0
        rw [HJ1.out]
        exact ⟨rfl, RM.out.1, R2.out.2.trans RM.out.2⟩
      · have HJ1 : Hid (J = dg s (i + 2)) := Lib.hid (by rw [HJ.out, if_neg (show ¬ dg s (i + 2) = i + 2 by omega)])
        have hz : ¬ (n : Int) = 0 := by omega
        clear hn
        go_wp2_with fail
        go_end0
        rw [HJ1.out]
        exact ⟨rfl, R2.out.1, R2.out.2⟩
    by_cases g45 : c = 45
    · subst g45
      rw [if_pos (show (45 : Int) = 43 ∨ (45 : Int) = 45 by decide)] at hJ
      have HJ := Lib.hid hJ
      clear hJ
      go_enter Tryz.func180, Tryz.ntmps180
      go_wp2_with (first | (go_at_call 160; refine (HQ.out _ RQ0.out.1).mono ?_; rintro e w2b ⟨rfl, d⟩; have RQ := Lib.hid (And.intro (RQ0.out.1.dr d).1 (R1.out.2.trans (RN.out.2.trans (RQ0.out.2.trans (RQ0.out.1.dr d).2)))); clear d; have c1 := RQ.out.1.c1; have z1 := RQ.out.1.z 1; have RS := Lib.hid (RQ.out.1.at_ (i + 2) ((i : Int) + 1 + 1) (by omega))) | (go_at_call 160; refine (HQ.out _ RN.out.1).mono ?_; rintro e w2 ⟨rfl, d⟩; have RQ0 := Lib.hid (RN.out.1.dr d); clear d) | (go_at_call 160; refine (HP.out _ D1.out).mono ?_; rintro e w1b ⟨rfl, d⟩; have R1 := Lib.hid (H.out.dr d); clear d; have c1 := R1.out.1.c1; have z1 := R1.out.1.z 1; have RN := Lib.hid (R1.out.1.at_ (i + 1) ((i : Int) + 1) (by omega))) | (go_at_call 160; refine (HP.out _ (Dr.refl _)).mono ?_; rintro e w1 ⟨rfl, d⟩; have D1 := Lib.hid d; clear d))
      refine (HD2.out _ RS.out.1).mono ?_
      rintro e w3 ⟨⟨n, rfl, hn⟩, r2, f2⟩
      have R2 := Lib.hid (And.intro r2 ((RQ.out.2.trans RS.out.2).trans f2))
      clear r2 f2
      have z2 := R2.out.1.z 1
      have c2 := R2.out.1.c1
      rcases Nat.eq_zero_or_pos n with h0 | h0
      · subst h0
        have HJ1 : Hid (J = i) := Lib.hid (by rw [HJ.out, if_pos (show dg s (i + 2) = i + 2 by omega)])
        have RM := Lib.hid (R2.out.1.at_ i (i : Int) rfl)
        clear hn
        go_wp2_with fail
        go_end0
        rw [HJ1.out]
        exact ⟨rfl, RM.out.1, R2.out.2.trans RM.out.2⟩
      · have HJ1 : Hid (J = dg s (i + 2)) := Lib.hid (by rw [HJ.out, if_neg (show ¬ dg s (i + 2) = i + 2 by omega)])
        have hz : ¬ (n : Int) = 0 := by omega
        clear hn
        go_wp2_with fail
        go_end0
        rw [HJ1.out]
        exact ⟨rfl, R2.out.1, R2.out.2⟩
    rw [if_neg (show ¬ (c = 43 ∨ c = 45) by omega)] at hJ
    have HJ := Lib.hid hJ
    clear hJ
    have q43 : (c == 43) = false := beq_eq_false_iff_ne.2 g43
    have q45 : (c == 45) = false := beq_eq_false_iff_ne.2 g45
    go_enter Tryz.func180, Tryz.ntmps180
    go_wp2_with (first | (go_at_call 160; refine (HQ.out _ RQ0.out.1).mono ?_; rintro e w2b ⟨rfl, d⟩; have RQ := Lib.hid (And.intro (RQ0.out.1.dr d).1 (R1.out.2.trans (RN.out.2.trans (RQ0.out.2.trans (RQ0.out.1.dr d).2)))); clear d) | (go_at_call 160; refine (HQ.out _ RN.out.1).mono ?_; rintro e w2 ⟨rfl, d⟩; have RQ0 := Lib.hid (RN.out.1.dr d); clear d) | (go_at_call 160; refine (HP.out _ D1.out).mono ?_; rintro e w1b ⟨rfl, d⟩; have R1 := Lib.hid (H.out.dr d); clear d; have c1 := R1.out.1.c1; have z1 := R1.out.1.z 1; have RN := Lib.hid (R1.out.1.at_ (i + 1) ((i : Int) + 1) (by omega))) | (go_at_call 160; refine (HP.out _ (Dr.refl _)).mono ?_; rintro e w1 ⟨rfl, d⟩; have D1 := Lib.hid d; clear d))
    refine (HD1.out _ RQ.out.1).mono ?_
    rintro e w3 ⟨⟨n, rfl, hn⟩, r2, f2⟩
    have R2 := Lib.hid (And.intro r2 (RQ.out.2.trans f2))
    clear r2 f2
    have z2 := R2.out.1.z 1
    have c2 := R2.out.1.c1
    rcases Nat.eq_zero_or_pos n with h0 | h0
    · subst h0
      have HJ1 : Hid (J = i) := Lib.hid (by rw [HJ.out, if_pos (show dg s (i + 1) = i + 1 by omega)])
      have RM := Lib.hid (R2.out.1.at_ i (i : Int) rfl)
      clear hn
      go_wp2_with fail
      go_end0
      rw [HJ1.out]
      exact ⟨rfl, RM.out.1, R2.out.2.trans RM.out.2⟩
    · have HJ1 : Hid (J = dg s (i + 1)) := Lib.hid (by rw [HJ.out, if_neg (show ¬ dg s (i + 1) = i + 1 by omega)])
      have hz : ¬ (n : Int) = 0 := by omega
      clear hn
      go_wp2_with fail
      go_end0
      rw [HJ1.out]
      exact ⟨rfl, R2.out.1, R2.out.2⟩
  rw [if_neg (show ¬ (b = 101 ∨ b = 69) by omega)] at hJ
  subst hJ
  have q101 : (b == 101) = false := beq_eq_false_iff_ne.2 k101
  have q69 : (b == 69) = false := beq_eq_false_iff_ne.2 k69
  have q101' : (b != 101) = true := by simp [bne, q101]
  have q69' : (b != 69) = true := by simp [bne, q69]
  go_enter Tryz.func180, Tryz.ntmps180
  go_wp2_with (first | (go_at_call 160; refine (HP.out _ D1.out).mono ?_; rintro e w1b ⟨rfl, d⟩; have R1 := Lib.hid (H.out.dr d); clear d) | (go_at_call 160; refine (HP.out _ (Dr.refl _)).mono ?_; rintro e w1 ⟨rfl, d⟩; have D1 := Lib.hid d; clear d))
  (try simp only [Exit.inBlock, Exit.then])
  refine bodyPost_ret (results_none rfl _ _ _) rfl ?_
  exact ⟨rfl, R1.out.1, R1.out.2⟩
end Go.Proofs.YtmkkckhfdafjnaaGreatDoor
/- Layer 4, Read: a cell of the reader's row turned. -/
namespace Go.Proofs.YtmkkckhfdafjnaaGreatDoor
open Go.RowKit Go.Maps
/-- A cell's five values. -/
def cellL (c : CR) : List Value := [.int .u8 c.k, .string c.nm, .string c.tx, .int .i64 c.n, .int .i64 c.m]
theorem rw5_setF (f : Nat) (x : Value) : ∀ (L : List CR) (i : Nat) (c' : CR), i < L.length → f < 5 → (cellL (gl L i)).set f x = cellL c' → (rw5 L).set (i * 5 + f) x = rw5 (L.set i c')
  | [], i, c', h, _, _ => by simp at h
  | c :: L, 0, c', h, hf, hx => by
    have e : rw5 (c :: L) = cellL c ++ rw5 L := rfl
    have e' : rw5 ((c :: L).set 0 c') = cellL c' ++ rw5 L := rfl
    rw [e, e', Nat.zero_mul, Nat.zero_add, List.set_append_left _ _ (by show f < 5; exact hf)]
    have hg : gl (c :: L) 0 = c := rfl
    rw [hg] at hx
    rw [hx]
  | c :: L, i + 1, c', h, hf, hx => by
    have ih := rw5_setF f x L i c' (by simpa using h) hf hx
    have e : rw5 (c :: L) = cellL c ++ rw5 L := rfl
    have e' : rw5 ((c :: L).set (i + 1) c') = cellL c ++ rw5 (L.set i c') := rfl
    rw [e, e', ← ih, List.set_append_right _ _ (by show 5 ≤ _; omega)]
    congr 2
    show (i + 1) * 5 + f - 5 = _
    omega
/-- The reader's row: where it lies. -/
theorem RdB.addr {w : World} {p : Nat} {s : ByteArray} {i op : Nat} {v : Value} {L : List CR} (h : RdB w p s i op v L) (h0 : 0 < L.length) : ∃ q cap, v = .slice (some ⟨q, 0, none⟩) L.length cap ∧ p < q ∧ q < w.heap.size := by
  obtain ⟨q, cap, e, h1, h2⟩ := own_addr h.row h0
  exact ⟨q, cap, e, by omega, h2⟩
theorem RdB.cellz {w : World} {p q cap : Nat} {s : ByteArray} {i op : Nat} {L : List CR} (h : RdB w p s i op (.slice (some ⟨q, 0, none⟩) L.length cap) L) (o : Nat) : w.frozen? ⟨q, o, none⟩ = false := by
  rcases h.row.2 with ⟨h', _⟩ | ⟨g', cap', cur, h', hb, hg, h1, h2, h3, h4⟩
  · simp at h'
  · simp only [Value.slice.injEq, Option.some.injEq, Addr.mk.injEq, and_true, true_and] at h'
    obtain ⟨rfl, rfl⟩ := h'
    simp [World.frozen?, hg]
theorem RdB.cells {w : World} {p q cap : Nat} {s : ByteArray} {i op : Nat} {L : List CR} (h : RdB w p s i op (.slice (some ⟨q, 0, none⟩) L.length cap) L) {k : Nat} (hk : k < L.length) : w.cell? ⟨q, k * 5, none⟩ = some (.int .u8 (gl L k).k) ∧ w.cell? ⟨q, k * 5 + 1, none⟩ = some (.string (gl L k).nm) ∧ w.cell? ⟨q, k * 5 + 2, none⟩ = some (.string (gl L k).tx) ∧ w.cell? ⟨q, k * 5 + 3, none⟩ = some (.int .i64 (gl L k).n) ∧ w.cell? ⟨q, k * 5 + 4, none⟩ = some (.int .i64 (gl L k).m) := by
  obtain ⟨a0, a1, a2, a3, a4⟩ := rw5_at L k hk
  refine ⟨?_, ?_, ?_, ?_, ?_⟩
  · rw [h.row.cellAt _ (by omega)]; exact a0
  · rw [h.row.cellAt _ (by omega)]; exact a1
  · rw [h.row.cellAt _ (by omega)]; exact a2
  · rw [h.row.cellAt _ (by omega)]; exact a3
  · rw [h.row.cellAt _ (by omega)]; exact a4
/-- A field of a cell is set. -/
theorem RdB.setF {w : World} {p q cap : Nat} {s : ByteArray} {i op : Nat} {L : List CR} (h : RdB w p s i op (.slice (some ⟨q, 0, none⟩) L.length cap) L) (hpq : p < q) {k : Nat} (hk : k < L.length) (f : Nat) (hf : f < 5) (x : Value) (c' : CR) (hx : (cellL (gl L k)).set f x = cellL c') :
    RdB (w.setCell ⟨q, k * 5 + f, none⟩ x) p s i op (.slice (some ⟨q, 0, none⟩) (L.set k c').length cap) (L.set k c') ∧ Fr p (.slice (some ⟨q, 0, none⟩) L.length cap) (.slice (some ⟨q, 0, none⟩) (L.set k c').length cap) w (w.setCell ⟨q, k * 5 + f, none⟩ x) := by
  have hkk : ∀ j, j ≠ q → (w.setCell ⟨q, k * 5 + f, none⟩ x).heap[j]? = w.heap[j]? := fun j hj => Below.heap_setCell w ⟨q, k * 5 + f, none⟩ _ j hj
  refine ⟨⟨by rw [hkk p (by omega), List.length_set]; exact h.box, ?_⟩, ⟨rfl, rfl, rfl, by simp, fun j _ _ h3 => hkk j (fun e => h3 (by simp [Value.ownBlock, e])), fun j e => .inl (by simpa [Value.ownBlock] using e)⟩⟩
  rw [List.length_set]
  refine ⟨by rw [rw5_len, List.length_set], ?_⟩
  rcases h.row.2 with ⟨h', _⟩ | ⟨g', cap', cur, h', hb, hg, h1, h2, h3, h4⟩
  · simp at h'
  · simp only [Value.slice.injEq, Option.some.injEq, Addr.mk.injEq, and_true, true_and] at h'
    obtain ⟨rfl, rfl⟩ := h'
    refine .inr ⟨q, cap, cur.setIfInBounds (k * 5 + f) x, rfl, hb, ?_, h1, h2, by simpa using h3, ?_⟩
    · simp [World.setCell, Array.getElem?_modify, hg]
    · rw [Array.toList_setIfInBounds, List.take_set, h4]
      exact rw5_setF f x L k c' hk hf hx
end Go.Proofs.YtmkkckhfdafjnaaGreatDoor
/- Layer 4, Read: named. -/
namespace Go.Proofs.YtmkkckhfdafjnaaGreatDoor
open Go.RowKit Go.Maps
/-- Cells are told, and a place, or an error thrown. -/
def OutP (p : Nat) (s : ByteArray) (op : Nat) (v : Value) (w : World) (x : Rs Out) (e : Ending) (w' : World) : Prop := match x with
  | .ok (j, M) => e = .returned (.tuple #[]) ∧ ∃ v', RdB w' p s j op v' M ∧ Fr p v v' w w'
  | .bad m => e = thr m ∧ Below p w w'
theorem bytL_true : bytL ⟨#[116, 114, 117, 101]⟩ = [116, 114, 117, 101] := by decide +kernel
theorem bytL_false : bytL ⟨#[102, 97, 108, 115, 101]⟩ = [102, 97, 108, 115, 101] := by decide +kernel
theorem bytL_null : bytL ⟨#[110, 117, 108, 108]⟩ = [110, 117, 108, 108] := by decide +kernel
set_option maxRecDepth 20000 in
set_option maxHeartbeats 2000000 in
theorem named_null {p i op q cap k : Nat} {s : ByteArray} {L : List CR} (w : World) (h : RdB w p s i op (.slice (some ⟨q, 0, none⟩) L.length cap) L) (hk : k < L.length) (hs : s.size ≤ 1000000000) (hi : i ≤ 999999999) (h1 : byt s i ≠ 116) (h2 : byt s i ≠ 102) : Calls Tryz.prog 164 #[.pointer (some ⟨p, 0, none⟩), .int .i64 k] w (OutP p s op (.slice (some ⟨q, 0, none⟩) L.length cap) w ((wordM s [110, 117, 108, 108] i).bind fun j => .ok (j, L))) := by
  have HP := Lib.hid (peek_any w h hs (by omega))
  have H := Lib.hid h
  have c3 := h.c3
  have hki : (k : Int) < L.length := by omega
  have hk0 : (0 : Int) ≤ k := by omega
  have HW := Lib.hid (fun W (r : RdB W p s i op (.slice (some ⟨q, 0, none⟩) L.length cap) L) => word_any ⟨#[110, 117, 108, 108]⟩ W r hs (by omega) (by decide))
  rw [bytL_null] at HW
  obtain ⟨b, hb⟩ : ∃ b, b = byt s i := ⟨_, rfl⟩
  rw [← hb] at HP h1 h2
  have q1 : (b == 116) = false := beq_eq_false_iff_ne.2 h1
  have q2 : (b == 102) = false := beq_eq_false_iff_ne.2 h2
  have HF := Lib.hid h.far
  have HLT := Lib.hid h.lt
  clear hb h
  obtain ⟨X, hX⟩ : ∃ X, X = wordM s [110, 117, 108, 108] i := ⟨_, rfl⟩
  rw [← hX] at HW ⊢
  clear hX
  go_enter Tryz.func164, Tryz.ntmps164
  go_wp2_with (go_at_call 160; refine HP.out.mono ?_; rintro e w1 ⟨rfl, d⟩; have R1 := Lib.hid (H.out.dr d); clear d)
  cases X with
  | bad m =>
    have HW1 : Hid (∀ W, RdB W p s i op (.slice (some ⟨q, 0, none⟩) L.length cap) L → Calls Tryz.prog 177 #[.pointer (some ⟨p, 0, none⟩), .string ⟨#[110, 117, 108, 108]⟩] W fun e w' => e = thr m ∧ Below p W w') := Lib.hid HW.out
    refine (HW1.out _ R1.out.1).mono ?_
    rintro e w2 ⟨he, b2⟩
    unfold thr at he
    subst he
    (try go_wp2_with fail)
    simp only [bodyPost]
    exact ⟨trivial, rfl, (R1.out.2.below HF.out (Nat.le_of_lt HLT.out)).trans b2⟩
  | ok j =>
    have HW1 : Hid (∀ W, RdB W p s i op (.slice (some ⟨q, 0, none⟩) L.length cap) L → Calls Tryz.prog 177 #[.pointer (some ⟨p, 0, none⟩), .string ⟨#[110, 117, 108, 108]⟩] W fun e w' => e = .returned (.tuple #[]) ∧ RdB w' p s j op (.slice (some ⟨q, 0, none⟩) L.length cap) L ∧ Fr p (.slice (some ⟨q, 0, none⟩) L.length cap) (.slice (some ⟨q, 0, none⟩) L.length cap) W w') := Lib.hid HW.out
    refine (HW1.out _ R1.out.1).mono ?_
    rintro e w2 ⟨rfl, r2, f2⟩
    go_wp2_with fail
    go_end0
    exact ⟨rfl, _, r2, R1.out.2.trans f2⟩
end Go.Proofs.YtmkkckhfdafjnaaGreatDoor
/- Layer 4, Read: named, at true and false. -/
namespace Go.Proofs.YtmkkckhfdafjnaaGreatDoor
open Go.RowKit Go.Maps
set_option maxRecDepth 20000 in
set_option maxHeartbeats 2000000 in
theorem named_false {p i op q cap k : Nat} {s nm : ByteArray} {L : List CR} (w : World) (h : RdB w p s i op (.slice (some ⟨q, 0, none⟩) L.length cap) L) (hpq : p < q) (hk : k < L.length) (hg : gl L k = ⟨0, nm, ⟨#[]⟩, 0, 0⟩) (hs : s.size ≤ 1000000000) (hi : i ≤ 999999999) (h1 : byt s i = 102) : Calls Tryz.prog 164 #[.pointer (some ⟨p, 0, none⟩), .int .i64 k] w (OutP p s op (.slice (some ⟨q, 0, none⟩) L.length cap) w ((wordM s [102, 97, 108, 115, 101] i).bind fun j => .ok (j, L.set k ⟨1, nm, ⟨#[]⟩, 0, 0⟩))) := by
  have HP := Lib.hid (peek_any w h hs (by omega))
  rw [h1] at HP
  have H := Lib.hid h
  have c3 := h.c3
  have hki : (k : Int) < L.length := by omega
  have hk0 : (0 : Int) ≤ k := by omega
  have HG := Lib.hid hg
  have HPQ := Lib.hid hpq
  have HW := Lib.hid (fun W (r : RdB W p s i op (.slice (some ⟨q, 0, none⟩) L.length cap) L) => word_any ⟨#[102, 97, 108, 115, 101]⟩ W r hs (by omega) (by decide))
  rw [bytL_false] at HW
  have HF := Lib.hid h.far
  have HLT := Lib.hid h.lt
  clear h h1 hg hpq
  obtain ⟨X, hX⟩ : ∃ X, X = wordM s [102, 97, 108, 115, 101] i := ⟨_, rfl⟩
  rw [← hX] at HW ⊢
  clear hX
  go_enter Tryz.func164, Tryz.ntmps164
  go_wp2_with (go_at_call 160; refine HP.out.mono ?_; rintro e w1 ⟨rfl, d⟩; have R1 := Lib.hid (H.out.dr d); clear d)
  cases X with
  | bad m =>
    have HW1 : Hid (∀ W, RdB W p s i op (.slice (some ⟨q, 0, none⟩) L.length cap) L → Calls Tryz.prog 177 #[.pointer (some ⟨p, 0, none⟩), .string ⟨#[102, 97, 108, 115, 101]⟩] W fun e w' => e = thr m ∧ Below p W w') := Lib.hid HW.out
    refine (HW1.out _ R1.out.1).mono ?_
    rintro e w2 ⟨he, b2⟩
    unfold thr at he
    subst he
    (try go_wp2_with fail)
    simp only [bodyPost]
    exact ⟨trivial, rfl, (R1.out.2.below HF.out (Nat.le_of_lt HLT.out)).trans b2⟩
  | ok j =>
    have HW1 : Hid (∀ W, RdB W p s i op (.slice (some ⟨q, 0, none⟩) L.length cap) L → Calls Tryz.prog 177 #[.pointer (some ⟨p, 0, none⟩), .string ⟨#[102, 97, 108, 115, 101]⟩] W fun e w' => e = .returned (.tuple #[]) ∧ RdB w' p s j op (.slice (some ⟨q, 0, none⟩) L.length cap) L ∧ Fr p (.slice (some ⟨q, 0, none⟩) L.length cap) (.slice (some ⟨q, 0, none⟩) L.length cap) W w') := Lib.hid HW.out
    refine (HW1.out _ R1.out.1).mono ?_
    rintro e w2 ⟨rfl, r2, f2⟩
    have R2 := Lib.hid (And.intro r2 (R1.out.2.trans f2))
    clear r2 f2
    have cc2 := (R2.out.1.cells (k := k) hk).1
    rw [HG.out] at cc2
    dsimp only at cc2
    have zz2 := R2.out.1.cellz (k * 5)
    have R3 := Lib.hid (R2.out.1.setF HPQ.out (k := k) hk 0 (by decide) (.int .u8 1) ⟨1, nm, ⟨#[]⟩, 0, 0⟩ (by rw [HG.out]; rfl))
    go_wp2_with fail
    go_end0
    have e1 := R3.out.1
    have e2 := R2.out.2.trans R3.out.2
    exact ⟨rfl, _, e1, e2⟩
set_option maxRecDepth 20000 in
set_option maxHeartbeats 2000000 in
theorem named_true {p i op q cap k : Nat} {s nm : ByteArray} {L : List CR} (w : World) (h : RdB w p s i op (.slice (some ⟨q, 0, none⟩) L.length cap) L) (hpq : p < q) (hk : k < L.length) (hg : gl L k = ⟨0, nm, ⟨#[]⟩, 0, 0⟩) (hs : s.size ≤ 1000000000) (hi : i ≤ 999999999) (h1 : byt s i = 116) : Calls Tryz.prog 164 #[.pointer (some ⟨p, 0, none⟩), .int .i64 k] w (OutP p s op (.slice (some ⟨q, 0, none⟩) L.length cap) w ((wordM s [116, 114, 117, 101] i).bind fun j => .ok (j, L.set k ⟨1, nm, ⟨#[]⟩, 1, 0⟩))) := by
  have HP := Lib.hid (peek_any w h hs (by omega))
  rw [h1] at HP
  have H := Lib.hid h
  have c3 := h.c3
  have hki : (k : Int) < L.length := by omega
  have hk0 : (0 : Int) ≤ k := by omega
  have HG := Lib.hid hg
  have HPQ := Lib.hid hpq
  have HW := Lib.hid (fun W (r : RdB W p s i op (.slice (some ⟨q, 0, none⟩) (L.set k ⟨0, nm, ⟨#[]⟩, 1, 0⟩).length cap) (L.set k ⟨0, nm, ⟨#[]⟩, 1, 0⟩)) => word_any ⟨#[116, 114, 117, 101]⟩ W r hs (by omega) (by decide))
  rw [bytL_true] at HW
  have HF := Lib.hid h.far
  have HLT := Lib.hid h.lt
  clear h h1 hg hpq
  obtain ⟨X, hX⟩ : ∃ X, X = wordM s [116, 114, 117, 101] i := ⟨_, rfl⟩
  rw [← hX] at HW ⊢
  clear hX
  go_enter Tryz.func164, Tryz.ntmps164
  go_wp2_with (go_at_call 160; refine HP.out.mono ?_; rintro e w1 ⟨rfl, d⟩; have R0 := Lib.hid (H.out.dr d); clear d; have cc := (R0.out.1.cells hk).2.2.2.1; rw [HG.out] at cc; dsimp only at cc; have zz := R0.out.1.cellz (k * 5 + 3); have R1 := Lib.hid (And.intro (R0.out.1.setF HPQ.out hk 3 (by decide) (.int .i64 1) ⟨0, nm, ⟨#[]⟩, 1, 0⟩ (by rw [HG.out]; rfl)).1 (R0.out.2.trans (R0.out.1.setF HPQ.out hk 3 (by decide) (.int .i64 1) ⟨0, nm, ⟨#[]⟩, 1, 0⟩ (by rw [HG.out]; rfl)).2)))
  cases X with
  | bad m =>
    have HW1 : Hid (∀ W, RdB W p s i op (.slice (some ⟨q, 0, none⟩) (L.set k ⟨0, nm, ⟨#[]⟩, 1, 0⟩).length cap) (L.set k ⟨0, nm, ⟨#[]⟩, 1, 0⟩) → Calls Tryz.prog 177 #[.pointer (some ⟨p, 0, none⟩), .string ⟨#[116, 114, 117, 101]⟩] W fun e w' => e = thr m ∧ Below p W w') := Lib.hid HW.out
    refine (HW1.out _ R1.out.1).mono ?_
    rintro e w2 ⟨he, b2⟩
    unfold thr at he
    subst he
    (try go_wp2_with fail)
    simp only [bodyPost]
    exact ⟨trivial, rfl, (R1.out.2.below HF.out (Nat.le_of_lt HLT.out)).trans b2⟩
  | ok j =>
    have HG1 : Hid (gl (L.set k ⟨0, nm, ⟨#[]⟩, 1, 0⟩) k = ⟨0, nm, ⟨#[]⟩, 1, 0⟩) := Lib.hid (by unfold gl; simp [List.getD, hk])
    have HW1 : Hid (∀ W, RdB W p s i op (.slice (some ⟨q, 0, none⟩) (L.set k ⟨0, nm, ⟨#[]⟩, 1, 0⟩).length cap) (L.set k ⟨0, nm, ⟨#[]⟩, 1, 0⟩) → Calls Tryz.prog 177 #[.pointer (some ⟨p, 0, none⟩), .string ⟨#[116, 114, 117, 101]⟩] W fun e w' => e = .returned (.tuple #[]) ∧ RdB w' p s j op (.slice (some ⟨q, 0, none⟩) (L.set k ⟨0, nm, ⟨#[]⟩, 1, 0⟩).length cap) (L.set k ⟨0, nm, ⟨#[]⟩, 1, 0⟩) ∧ Fr p (.slice (some ⟨q, 0, none⟩) (L.set k ⟨0, nm, ⟨#[]⟩, 1, 0⟩).length cap) (.slice (some ⟨q, 0, none⟩) (L.set k ⟨0, nm, ⟨#[]⟩, 1, 0⟩).length cap) W w') := Lib.hid HW.out
    refine (HW1.out _ R1.out.1).mono ?_
    rintro e w2 ⟨rfl, r2, f2⟩
    have R2 := Lib.hid (And.intro r2 (R1.out.2.trans f2))
    clear r2 f2
    have cc2 := (R2.out.1.cells (k := k) (by rw [List.length_set]; exact hk)).1
    rw [HG1.out] at cc2
    dsimp only at cc2
    have zz2 := R2.out.1.cellz (k * 5)
    have R3 := Lib.hid (R2.out.1.setF HPQ.out (k := k) (by rw [List.length_set]; exact hk) 0 (by decide) (.int .u8 1) ⟨1, nm, ⟨#[]⟩, 1, 0⟩ (by rw [HG1.out]; rfl))
    go_wp2_with fail
    go_end0
    have e1 := R3.out.1
    have e2 := R2.out.2.trans R3.out.2
    rw [List.set_set] at e1 e2
    exact ⟨rfl, _, e1, e2⟩
end Go.Proofs.YtmkkckhfdafjnaaGreatDoor
/- Layer 4, Read: where numbers and strings end (plain). -/
namespace Go.Proofs.YtmkkckhfdafjnaaGreatDoor
open Go.RowKit
theorem dg_ge (s : ByteArray) (i : Nat) : i ≤ dg s i := by
  have key : ∀ f j, j ≤ dgF s f j := by
    intro f
    induction f with
    | zero => intro j; exact Nat.le_refl _
    | succ f ih =>
      intro j
      show j ≤ (if isDg (byt s j) then dgF s f (j + 1) else j)
      split
      · exact Nat.le_trans (Nat.le_succ j) (ih (j + 1))
      · exact Nat.le_refl _
  exact key _ _
theorem bl_ge (s : ByteArray) (i : Nat) : i ≤ bl s i := by
  have key : ∀ f j, j ≤ blF s f j := by
    intro f
    induction f with
    | zero => intro j; exact Nat.le_refl _
    | succ f ih =>
      intro j
      show j ≤ (if isBl (byt s j) then blF s f (j + 1) else j)
      split
      · exact Nat.le_trans (Nat.le_succ j) (ih (j + 1))
      · exact Nat.le_refl _
  exact key _ _
theorem bl_le {s : ByteArray} {i : Nat} (hi : i ≤ s.size) : bl s i ≤ s.size := by
  have key : ∀ f j, j + f ≤ s.size → blF s f j ≤ s.size := by
    intro f
    induction f with
    | zero => intro j h; exact h
    | succ f ih =>
      intro j h
      show (if isBl (byt s j) then blF s f (j + 1) else j) ≤ _
      split
      · exact ih (j + 1) (by omega)
      · omega
  exact key _ _ (by omega)
theorem intM_ok {s : ByteArray} {i b : Nat} (hi : i ≤ s.size) (h : intM s i = .ok b) : i < b ∧ b ≤ s.size := by
  unfold intM at h
  have hin := byt_in (s := s) (i := i)
  obtain ⟨a, ha⟩ : ∃ a, a = if byt s i = 45 then i + 1 else i := ⟨_, rfl⟩
  have ha1 : i ≤ a ∧ a ≤ s.size := by
    rw [ha]
    split
    · have := hin (by omega); omega
    · omega
  have hina := byt_in (s := s) (i := a)
  simp only [← ha] at h
  split at h
  · have := hina (by omega)
    cases h
    omega
  · split at h
    · cases h
    · rename_i hne
      have h1 := dg_ge s a
      have h2 := dg_le ha1.2
      cases h
      omega
theorem fracM_ok {s : ByteArray} {b : Nat} (hb : b ≤ s.size) : b ≤ fracM s b ∧ fracM s b ≤ s.size := by
  unfold fracM
  split
  · have hin : b < s.size := byt_in (by omega)
    have h1 := dg_ge s (b + 1)
    have h2 := dg_le (s := s) (i := b + 1) (by omega)
    split
    · omega
    · omega
  · omega
theorem strF_ok {s : ByteArray} : ∀ (f j : Nat) (l m : List Int) (k : Nat), strF s f j l = .ok (m, k) → j < k ∧ k ≤ s.size
  | 0, j, l, m, k, h => by cases h
  | f + 1, j, l, m, k, h => by
    have hin := byt_in (s := s) (i := j)
    rw [strF_step s (f + 1) j l (by omega)] at h
    split at h
    · have := hin (by omega)
      cases h
      omega
    split at h
    · cases he : escM s (j + 1) with
      | bad e => rw [he] at h; cases h
      | ok x =>
        obtain ⟨y, j1⟩ := x
        obtain ⟨h1, h2, _⟩ := escM_ok he
        rw [he] at h
        simp only [Rs.bind_ok] at h
        have := strF_ok f j1 _ m k h
        omega
    split at h
    · cases h
    · have := strF_ok f (j + 1) _ m k h
      omega
theorem expoM_ok {s : ByteArray} {b : Nat} (hb : b ≤ s.size) : b ≤ expoM s b ∧ expoM s b ≤ s.size := by
  unfold expoM
  split
  · have hin : b < s.size := byt_in (by omega)
    have hin1 := byt_in (s := s) (i := b + 1)
    obtain ⟨c, hc⟩ : ∃ c, c = if byt s (b + 1) = 43 ∨ byt s (b + 1) = 45 then b + 2 else b + 1 := ⟨_, rfl⟩
    have hc1 : b < c ∧ c ≤ s.size := by
      rw [hc]
      split
      · have := hin1 (by omega); omega
      · omega
    simp only [← hc]
    have h1 := dg_ge s c
    have h2 := dg_le hc1.2
    split
    · omega
    · omega
  · omega
theorem numM_ok {s : ByteArray} {i d : Nat} {n : Int} (hi : i ≤ s.size) (h : numM s i = .ok (n, d)) : i < d ∧ d ≤ s.size := by
  unfold numM at h
  cases hb : intM s i with
  | bad e => rw [hb] at h; cases h
  | ok b =>
    obtain ⟨b1, b2⟩ := intM_ok hi hb
    obtain ⟨f1, f2⟩ := fracM_ok b2
    obtain ⟨g1, g2⟩ := expoM_ok f2
    rw [hb] at h
    simp only [Rs.bind_ok] at h
    split at h
    · cases h; omega
    · cases h
theorem strM_ok {s : ByteArray} {i k : Nat} {m : List Int} (h : strM s i = .ok (m, k)) : i < k ∧ k ≤ s.size := by
  unfold strM at h
  cases hw : wordM s [34] i with
  | bad e => rw [hw] at h; cases h
  | ok j =>
    have hj : j = i + 1 := by
      unfold wordM at hw
      split at hw
      · cases hw; rfl
      · cases hw
    rw [hw] at h
    simp only [Rs.bind_ok] at h
    have := strF_ok _ _ _ _ _ h
    omega
end Go.Proofs.YtmkkckhfdafjnaaGreatDoor
/- Layer 4, Read: a cell is put behind the reader's row. -/
namespace Go.Proofs.YtmkkckhfdafjnaaGreatDoor
open Go.RowKit Go.Maps
theorem RdB.slice {w : World} {p i op : Nat} {s : ByteArray} {v : Value} {L : List CR} (h : RdB w p s i op v L) : ∃ ad cap, v = .slice ad L.length cap := by
  rcases h.row.2 with ⟨rfl, h0⟩ | ⟨g, cap, cur, rfl, _⟩
  · exact ⟨none, 0, by rw [h0]⟩
  · exact ⟨_, _, rfl⟩
theorem RdB.push {w w' : World} {p i op : Nat} {s : ByteArray} {v v' : Value} {L : List CR} (h : RdB w p s i op v L) (c : CR) (o : w'.ownsRow (p + 1) 46 5 v' (L.length + 1) (rw5 L ++ cellL c)) (os : w'.os = w.os) (tape : w'.tape = w.tape) (out : w'.output = w.output) (sz : w.heap.size ≤ w'.heap.size) (kp : ∀ k, k < w.heap.size → v.ownBlock ≠ some k → w'.heap[k]? = w.heap[k]?) (ha : v'.ownBlock = v.ownBlock ∨ ∃ k, v'.ownBlock = some k ∧ w.heap.size ≤ k) :
    w'.cell? ⟨p, 3, none⟩ = some v ∧ w'.frozen? ⟨p, 3, none⟩ = false ∧ RdB (w'.setCell ⟨p, 3, none⟩ v') p s i op v' (L ++ [c]) ∧ Fr p v v' w (w'.setCell ⟨p, 3, none⟩ v') := by
  have hb : w'.heap[p]? = some (.cells #[.string s, .int .i64 i, .int .i64 op, v] 204) := by
    rw [kp p h.lt (fun e => by have := h.far p e; omega)]
    exact h.box
  have hk : ∀ k, k ≠ p → (w'.setCell ⟨p, 3, none⟩ v').heap[k]? = w'.heap[k]? := fun k hk => Below.heap_setCell w' ⟨p, 3, none⟩ _ k hk
  refine ⟨by simp [World.cell?, hb], by simp [World.frozen?, hb], ⟨by simp [World.setCell, Array.getElem?_modify, hb], ?_⟩, ⟨os, tape, out, by simpa using sz, fun k h1 h2 h3 => by rw [hk k h2]; exact kp k h1 h3, fun k e => ?_⟩⟩
  · have o2 := own_move (w' := w'.setCell ⟨p, 3, none⟩ v') o (fun j hj => hk j (by have := (o.lt j hj).1; omega))
    rw [List.length_append, rw5_app]
    exact o2
  · rcases ha with ha | ⟨g, h1, h2⟩
    · exact .inl (ha ▸ e)
    · rw [h1] at e
      cases e
      exact .inr h2
/-- A value's cell is put there. -/
def begM (s nm : ByteArray) (op i : Nat) (L : List CR) : Rs Out :=
  if (byt s i = 123 ∨ byt s i = 91) ∧ op = 16 then .bad 30 else if L.length = 2048 then .bad 4 else .ok (i, L ++ [⟨0, nm, ⟨#[]⟩, 0, 0⟩])
set_option maxRecDepth 20000 in
set_option maxHeartbeats 2000000 in
theorem begin_any {p i op : Nat} {s : ByteArray} {v : Value} {L : List CR} (nm : ByteArray) (w : World) (h : RdB w p s i op v L) (hs : s.size ≤ 1000000000) (hi : i ≤ 1000000000) (hop : op ≤ 16) (hL : L.length ≤ 2048) : Calls Tryz.prog 166 #[.pointer (some ⟨p, 0, none⟩), .string nm] w (OutP p s op v w (begM s nm op i L)) := by
  obtain ⟨i0, hin, hz0, hz1, hz2⟩ := infoC
  have HP := Lib.hid (peek_any w h hs (by omega))
  have H := Lib.hid h
  have HF := Lib.hid h.far
  have HLT := Lib.hid h.lt
  obtain ⟨ad, cp, rfl⟩ := h.slice
  obtain ⟨X, hX⟩ : ∃ X, X = begM s nm op i L := ⟨_, rfl⟩
  rw [← hX]
  unfold begM at hX
  obtain ⟨b, hb⟩ : ∃ b, b = byt s i := ⟨_, rfl⟩
  rw [← hb] at HP hX
  clear hb
  by_cases h30 : (b = 123 ∨ b = 91) ∧ op = 16
  · rw [if_pos h30] at hX
    subst hX
    obtain ⟨hbb, rfl⟩ := h30
    have c2 := h.c2
    clear h
    rcases hbb with rfl | rfl
    all_goals
      go_enter Tryz.func166, Tryz.ntmps166
      go_wp2_with (go_at_call 160; refine HP.out.mono ?_; rintro e w1 ⟨rfl, d⟩; have R1 := Lib.hid (H.out.dr d); clear d; have c2 := R1.out.1.c2)
      simp only [bodyPost]
      exact ⟨trivial, rfl, R1.out.2.below HF.out (Nat.le_of_lt HLT.out)⟩
  · rw [if_neg h30] at hX
    have HB : Hid ((b = 123 ∧ ((op : Int) == 16) = false) ∨ (b = 91 ∧ ((op : Int) == 16) = false) ∨ ((b == 123) = false ∧ (b == 91) = false)) := Lib.hid (by
      by_cases e1 : b = 123
      · exact .inl ⟨e1, beq_eq_false_iff_ne.2 (fun e => h30 ⟨.inl e1, by omega⟩)⟩
      by_cases e2 : b = 91
      · exact .inr (.inl ⟨e2, beq_eq_false_iff_ne.2 (fun e => h30 ⟨.inr e2, by omega⟩)⟩)
      exact .inr (.inr ⟨beq_eq_false_iff_ne.2 e1, beq_eq_false_iff_ne.2 e2⟩))
    clear h30 h
    by_cases h4 : L.length = 2048
    · rw [if_pos h4] at hX
      subst hX
      rcases HB.out with ⟨rfl, q⟩ | ⟨rfl, q⟩ | ⟨q, q2⟩
      all_goals
        clear HB
        go_enter Tryz.func166, Tryz.ntmps166
        go_wp2_with (go_at_call 160; refine HP.out.mono ?_; rintro e w1 ⟨rfl, d⟩; have R1 := Lib.hid (H.out.dr d); clear d; have c2 := R1.out.1.c2; have c3 := R1.out.1.c3)
        simp only [bodyPost]
        exact ⟨trivial, rfl, R1.out.2.below HF.out (Nat.le_of_lt HLT.out)⟩
    · rw [if_neg h4] at hX
      subst hX
      have h4' : ((L.length : Int) == 2048) = false := beq_eq_false_iff_ne.2 (by omega)
      rcases HB.out with ⟨rfl, q⟩ | ⟨rfl, q⟩ | ⟨q, q2⟩
      all_goals
        clear HB
        go_enter Tryz.func166, Tryz.ntmps166
        go_wp2_with (first | (go_at_call 160; refine HP.out.mono ?_; rintro e w1 ⟨rfl, d⟩; have R1 := Lib.hid (H.out.dr d); clear d; have c2 := R1.out.1.c2; have c3 := R1.out.1.c3; have HO := Lib.hid (R1.out.1.row.alloc (.cells #[.int .u8 0, .string nm, .string ⟨#[]⟩, .int .i64 0, .int .i64 0] 46)); have HSZ := Lib.hid R1.out.1.lt) | (at_builtin; go_loud (refine wpList_append_own_at _ rfl _ _ 37 rfl (p + 1) 46 i0 (.agg #[.int .u8 0, .string ⟨#[]⟩, .string ⟨#[]⟩, .int .i64 0, .int .i64 0]) 5 56 Tryz.underlying37 hin hz0 hz1 hz2 rfl (by decide) (.slice ad L.length cp) L.length (rw5 L) rfl HO.out ⟨w1.heap.size, 0, none⟩ 1 1 [.int .u8 0, .string nm, .string ⟨#[]⟩, .int .i64 0, .int .i64 0] rfl rfl (news_at _ _ _ _ rfl) (by intro u hu; simp at hu; rcases hu with rfl | rfl | rfl | rfl | rfl <;> rfl) (by unfold maxLen; omega) (by omega) (by have := HSZ.out; simp; omega) ?_; intro v1 w2 ho1 hg1 _ ha1; have R2 := Lib.hid (R1.out.1.push ⟨0, nm, ⟨#[]⟩, 0, 0⟩ ho1 hg1.os hg1.tape hg1.output (Nat.le_trans (by simp) hg1.size) (fun k h1 h2 => by rw [hg1.block k (by simp; omega) (fun e => h2 e.symm)]; exact heap_alloc_old _ _ h1) (ha1.elim .inl (fun e => .inr ⟨_, e, by simp⟩))); clear ho1 hg1 ha1; obtain ⟨ad1, cp1, rfl⟩ := R2.out.2.2.1.slice; have c3' := R2.out.1; have z3' := R2.out.2.1)))
        go_end0
        have R3 := R2.out
        simp only [List.length_append, List.length_cons, List.length_nil, Nat.zero_add] at R3
        exact ⟨rfl, _, R3.2.2.1, R1.out.2.trans R3.2.2.2⟩
end Go.Proofs.YtmkkckhfdafjnaaGreatDoor
/- Layer 4, Read: a string is a cell's text. -/
namespace Go.Proofs.YtmkkckhfdafjnaaGreatDoor
open Go.RowKit Go.Maps
/-- Two fields of a cell are set. -/
theorem RdB.setF2 {w : World} {p q cap : Nat} {s : ByteArray} {i op : Nat} {L : List CR} (h : RdB w p s i op (.slice (some ⟨q, 0, none⟩) L.length cap) L) (hpq : p < q) {k : Nat} (hk : k < L.length) (f g : Nat) (hf : f < 5) (hg : g < 5) (x y : Value) (c1 c2 : CR) (hx : (cellL (gl L k)).set f x = cellL c1) (hy : (cellL c1).set g y = cellL c2) :
    RdB ((w.setCell ⟨q, k * 5 + f, none⟩ x).setCell ⟨q, k * 5 + g, none⟩ y) p s i op (.slice (some ⟨q, 0, none⟩) L.length cap) (L.set k c2) ∧ Fr p (.slice (some ⟨q, 0, none⟩) L.length cap) (.slice (some ⟨q, 0, none⟩) L.length cap) w ((w.setCell ⟨q, k * 5 + f, none⟩ x).setCell ⟨q, k * 5 + g, none⟩ y) := by
  have h1 := h.setF hpq hk f hf x c1 hx
  have hg1 : gl (L.set k c1) k = c1 := by unfold gl; simp [List.getD, hk]
  have h2 := h1.1.setF hpq (k := k) (by rw [List.length_set]; exact hk) g hg y c2 (by rw [hg1]; exact hy)
  have f1 := h1.2.trans h2.2
  have h3 := h2.1
  rw [List.set_set] at h3 f1
  rw [List.length_set] at h3 f1
  exact ⟨h3, f1⟩
set_option maxRecDepth 20000 in
set_option maxHeartbeats 2000000 in
theorem textValue_any {p i op q cap k : Nat} {s nm : ByteArray} {L : List CR} (w : World) (h : RdB w p s i op (.slice (some ⟨q, 0, none⟩) L.length cap) L) (hpq : p < q) (hk : k < L.length) (hL : L.length ≤ 2048) (hg : gl L k = ⟨0, nm, ⟨#[]⟩, 0, 0⟩) (hs : s.size ≤ 1000000000) (hi : i ≤ 1000000001) : Calls Tryz.prog 163 #[.pointer (some ⟨p, 0, none⟩), .int .i64 k] w (OutP p s op (.slice (some ⟨q, 0, none⟩) L.length cap) w ((strM s i).bind fun x => .ok (x.2, L.set k ⟨3, nm, mkB x.1, 0, 0⟩))) := by
  have HS := Lib.hid (str_any w h hs hi)
  have hki : (k : Int) < L.length := by omega
  have hk0 : (0 : Int) ≤ k := by omega
  have HG := Lib.hid hg
  have HPQ := Lib.hid hpq
  have HF := Lib.hid h.far
  have HLT := Lib.hid h.lt
  clear h hg hpq
  obtain ⟨X, hX⟩ : ∃ X, X = strM s i := ⟨_, rfl⟩
  rw [← hX] at HS ⊢
  clear hX
  cases X with
  | bad m =>
    have HS1 : Hid (Calls Tryz.prog 174 #[.pointer (some ⟨p, 0, none⟩)] w fun e w' => e = thr m ∧ Below p w w') := Lib.hid HS.out
    clear HS
    go_enter Tryz.func163, Tryz.ntmps163
    go_wp2_with fail
    refine HS1.out.mono ?_
    rintro e w2 ⟨he, b2⟩
    unfold thr at he
    subst he
    (try go_wp2_with fail)
    simp only [bodyPost]
    exact ⟨trivial, rfl, b2⟩
  | ok x =>
    obtain ⟨l, j⟩ := x
    have HS1 : Hid (Calls Tryz.prog 174 #[.pointer (some ⟨p, 0, none⟩)] w fun e w' => e = .returned (.string (mkB l)) ∧ RdB w' p s j op (.slice (some ⟨q, 0, none⟩) L.length cap) L ∧ Fr p (.slice (some ⟨q, 0, none⟩) L.length cap) (.slice (some ⟨q, 0, none⟩) L.length cap) w w') := Lib.hid HS.out
    clear HS
    obtain ⟨t, ht⟩ : ∃ t, t = mkB l := ⟨_, rfl⟩
    rw [← ht] at HS1
    simp only [Rs.bind_ok, ← ht]
    clear ht
    go_enter Tryz.func163, Tryz.ntmps163
    go_wp2_with fail
    refine HS1.out.mono ?_
    rintro e w1 ⟨rfl, r1, f1⟩
    have R1 := Lib.hid (And.intro r1 f1)
    clear r1 f1
    have c3 := R1.out.1.c3
    have d0 := (R1.out.1.cells hk).1
    have d2 := (R1.out.1.cells hk).2.2.1
    rw [HG.out] at d0 d2
    dsimp only at d0 d2
    have zz := R1.out.1.cellz (k * 5)
    have zz2 := R1.out.1.cellz (k * 5 + 2)
    have R2 := Lib.hid (R1.out.1.setF2 HPQ.out hk 0 2 (by decide) (by decide) (.int .u8 3) (.string t) ⟨3, nm, ⟨#[]⟩, 0, 0⟩ ⟨3, nm, t, 0, 0⟩ (by rw [HG.out]; rfl) rfl)
    go_wp2_with fail
    go_region
    all_goals
      go_wp2_with fail
      go_end0
      have R3 := R2.out.1.dr (w' := ((w1.setCell ⟨q, k * 5, none⟩ (.int .u8 3)).setCell ⟨q, k * 5 + 2, none⟩ (.string t)).drew) ⟨rfl, rfl, rfl, rfl⟩
      exact ⟨rfl, _, R3.1, R1.out.2.trans (R2.out.2.trans R3.2)⟩
end Go.Proofs.YtmkkckhfdafjnaaGreatDoor
namespace Go.Proofs.YtmkkckhfdafjnaaGreatDoor.Nm
open Go.RowKit
theorem digits_any (s : ByteArray) (w : World) (hs : s.size ≤ maxLen) :
    Calls Tryz.prog 102 #[.string s] w fun e w' => e = .returned (.bool (areD s)) ∧ w = w' := by
  unfold maxLen at hs
  by_cases h0 : s.size = 0
  · have he : s.toList.isEmpty = true := by rw [list_empty]; simp [h0]
    have hr : Hid (areD s = false) := Lib.hid (by unfold areD; simp [h0])
    clear h0
    go_enter Tryz.func102, Tryz.ntmps102
    go_wp2_with fail
    go_ret
    exact ⟨ret_bool hr.out.symm, rfl⟩
  · have he : s.toList.isEmpty = false := by rw [list_empty]; simp [h0]
    have hpos : 0 < s.size := by omega
    have hb0 := byt_eq s 0 hpos
    by_cases hz : byt s 0 = 48 ∧ s.size ≠ 1
    · have hr : Hid (areD s = false) := Lib.hid (by unfold areD; simp [hz.1, hz.2])
      have hl : (s.toList == [48]) = false := by rw [list_one s hpos hz.1]; simp [hz.2]
      have ht : ((s[0].toNat : Int) == 48) = true := by rw [hb0, hz.1]; rfl
      clear h0 hz hb0
      go_enter Tryz.func102, Tryz.ntmps102
      go_wp2_with fail
      go_ret
      exact ⟨ret_bool hr.out.symm, rfl⟩
    · have hr : areD s = allD s s.size := by
        unfold areD
        by_cases hb : byt s 0 = 48
        · have : s.size = 1 := by omega
          simp [hb, this]
        · simp [hb, hpos]
      have HR := Lib.hid hr
      clear hr
      have htest : ((s[0].toNat : Int) == 48) = false ∨ ((s[0].toNat : Int) == 48) = true ∧ (s.toList == [48]) = true := by
        rw [hb0]
        by_cases hb : byt s 0 = 48
        · right; rw [list_one s hpos hb, hb]; simp; omega
        · left; simp [hb]
      clear h0 hz hb0
      rcases htest with ht | ⟨ht, hl⟩
      all_goals
        go_enter Tryz.func102, Tryz.ntmps102
        go_wp2_with fail
        go_loopw [2, 3] (fun b i wr => ∃ k : Nat, k ≤ s.size ∧ i = .int .i64 k ∧ b = .bool false ∧ allD s k = true ∧ w = wr) (fun _ i _ => s.size - (intOf i).toNat)
        case atStart => exact ⟨0, by omega, rfl, rfl, rfl, rfl⟩
        case round =>
          obtain ⟨k, hk, rfl, rfl, ha, rfl⟩ := hrel
          by_cases hlt : k < s.size
          · have hbk := byt_eq s k hlt
            by_cases h1 : byt s k < 48
            · have hf : Hid (allD s s.size = false) := Lib.hid (by
                cases hh : allD s s.size
                · rfl
                · have := allD_byte s _ k hlt hh; omega)
              have ht1 : (s[k].toNat : Int) < 48 := by omega
              clear ha hbk h1
              go_wp2_with fail
              go_ret
              exact ⟨ret_bool (by rw [HR.out, hf.out]), rfl⟩
            · by_cases h2 : 57 < byt s k
              · have hf : Hid (allD s s.size = false) := Lib.hid (by
                  cases hh : allD s s.size
                  · rfl
                  · have := allD_byte s _ k hlt hh; omega)
                have ht1 : ¬ (s[k].toNat : Int) < 48 := by omega
                have ht2 : 57 < (s[k].toNat : Int) := by omega
                clear ha hbk h1 h2
                go_wp2_with fail
                go_ret
                exact ⟨ret_bool (by rw [HR.out, hf.out]), rfl⟩
              · have hf : Hid (allD s (k + 1) = true) := Lib.hid (by simp only [allD, ha, Bool.true_and, decide_eq_true_eq]; omega)
                have ht1 : ¬ (s[k].toNat : Int) < 48 := by omega
                have ht2 : ¬ 57 < (s[k].toNat : Int) := by omega
                clear ha hbk h1 h2
                go_wp2_with fail
                go_roundw
                case rel => exact ⟨k + 1, by omega, by go_num, rfl, hf.out, trivial⟩
                case measure => simp [intOf]; omega
          · obtain rfl : k = s.size := by omega
            have HA := Lib.hid ha
            clear ha
            go_wp2_with fail
            go_ret
            exact ⟨ret_bool (by rw [HR.out, HA.out]), rfl⟩
end Go.Proofs.YtmkkckhfdafjnaaGreatDoor.Nm
namespace Go.Proofs.YtmkkckhfdafjnaaGreatDoor.Nm
open Go.RowKit
theorem mul10 (n : Int) (w : World) (h0 : 0 ≤ n) (h1 : n < 18446744073709551616) :
    Calls Tryz.prog 103 #[.int .u64 n, .int .u64 10] w fun e w' => e = .returned (.tuple #[.int .u64 (n * 10 / 18446744073709551616), .int .u64 (n * 10 % 18446744073709551616)]) ∧ w = w' := by
  obtain ⟨m, rfl⟩ := Int.eq_ofNat_of_zero_le h0
  refine (Tryz.bits_Mul64 m 10 (by omega) (by omega) w).mono ?_
  rintro e w' ⟨rfl, rfl⟩
  exact ⟨ret2 (by omega) (by omega), rfl⟩

theorem size_tail (s : ByteArray) (_h : 0 < s.size) : (s.extract 1 s.size).size = s.size - 1 := by simp

set_option maxHeartbeats 1000000 in
/-- From the digits on: what stands behind a sign. -/
theorem read_rest (s : ByteArray) (w : World) (l : Lim w) (hs : s.size ≤ maxLen) :
    Calls Tryz.prog 88 #[.string s] w fun e w' => e = .returned (.tuple #[.int .i64 (rdV s), .int .i64 (rdE s)]) ∧ Below w.heap.size w w' := by
  have hm := hs
  unfold maxLen at hm
  cases hn : isNeg s
  · have ht : bare s = s := by unfold bare; rw [hn]; rfl
    have hsg : sgn s = 1 := by unfold sgn; rw [hn]; rfl
    have HT := Lib.hid ht
    have HS := Lib.hid hsg
    by_cases h0 : s.size = 0
    · have he : s.toList.isEmpty = true := by rw [list_empty]; simp [h0]
      have hD : Hid (areD s = false) := Lib.hid (by unfold areD; simp [h0])
      clear h0 hn ht hsg
      go_enter Tryz.func88, Tryz.ntmps88
      go_wp2_with fail
      refine (digits_any s _ hs).mono ?_
      rintro e w' ⟨rfl, rfl⟩
      rw [hD.out]
      go_wp2_with fail
      go_ret2
      exact ⟨ret2 (by unfold rdV; rw [HT.out, hD.out]; rfl) (by unfold rdE; rw [HT.out, hD.out]; rfl), Below.refl _ _⟩
    · have he : s.toList.isEmpty = false := by rw [list_empty]; simp [h0]
      have hpos : 0 < s.size := by omega
      have hb0 := byt_eq s 0 hpos
      have h45 : ((s[0].toNat : Int) == 45) = false := by
        rw [hb0]
        unfold isNeg at hn
        simp only [hpos, decide_true, Bool.true_and, decide_eq_false_iff_not] at hn
        simp [hn]
      clear h0 hn ht hsg hb0
      go_enter Tryz.func88, Tryz.ntmps88
      go_wp2_with fail
      refine (digits_any s _ hs).mono ?_
      rintro e w' ⟨rfl, rfl⟩
      cases hd : areD s
      · have hD := Lib.hid hd
        clear hd
        go_wp2_with fail
        go_ret2
        exact ⟨ret2 (by unfold rdV; rw [HT.out, hD.out]; rfl) (by unfold rdE; rw [HT.out, hD.out]; rfl), Below.refl _ _⟩
      · have hD := Lib.hid hd
        have hall := (areD_parts hd).2.2
        have hV : rdV s = val (sv 1 (valD s (s).size)) := by unfold rdV rdZ; rw [HT.out, HS.out, hd]; rfl
        have hE : rdE s = err (sv 1 (valD s (s).size)) := by unfold rdE rdZ; rw [HT.out, HS.out, hd]; rfl
        have HV := Lib.hid hV
        have HE := Lib.hid hE
        have HA := Lib.hid hall
        clear hd hall hV hE
        go_wp2_with fail
        go_loopw [6, 7] (fun z i wr => ∃ k : Nat, k ≤ (s).size ∧ i = .int .i64 k ∧ z = .int .u64 (valD s k) ∧ valD s k < 18446744073709551616 ∧ w = wr) (fun _ i _ => (s).size - (intOf i).toNat)
        case atStart => exact ⟨0, Nat.zero_le _, rfl, rfl, (by decide : (0 : Int) < 18446744073709551616), rfl⟩
        case round =>
          obtain ⟨k, hk, rfl, rfl, hb, rfl⟩ := hrel
          have hnn : 0 ≤ valD s k := valD_nonneg _ k (allD_mono _ _ k hk HA.out)
          by_cases hlt : k < (s).size
          · have hby := allD_byte _ _ k hlt HA.out
            have hbe := byt_eq _ k hlt
            have hmo := valD_mono _ _ (k + 1) hlt HA.out
            have hst : valD s (k + 1) = valD s k * 10 + (byt s k - 48) := rfl
            rw [hst] at hmo
            rw [← hbe] at hby hmo hst
            have hbig : 9223372036854775808 < valD s (s).size → val (sv 1 (valD s (s).size)) = 0 ∧ err (sv 1 (valD s (s).size)) = 20 := by
              intro h
              have : sv 1 (valD s (s).size) < -9223372036854775808 ∨ 9223372036854775807 < sv 1 (valD s (s).size) := by simp [sv]; omega
              exact ⟨val_no this, err_no this⟩
            have HB := Lib.hid hbig
            have HST := Lib.hid hst
            have hw : IntKind.u8.wrap (((s)[k].toNat : Int) - 48) = ((s)[k].toNat : Int) - 48 := by rw [IntKind.wrap_u8]; omega
            have b0 := hby.1
            have b1 := hby.2
            clear hst hbe hbig hby hw
            by_cases hc1 : valD s k * 10 < 18446744073709551616
            · have ha := add64_run (valD s k * 10) (((s)[k].toNat : Int) - 48) (by omega) (by omega) w
              by_cases hc2 : valD s k * 10 + (((s)[k].toNat : Int) - 48) < 18446744073709551616
              · rw [Int.emod_eq_of_lt (by omega) hc2, Int.ediv_eq_zero_of_lt (by omega) hc2] at ha
                go_wp2_with fail
                refine (mul10 _ _ hnn hb).mono ?_
                rintro e w' ⟨rfl, rfl⟩
                rw [Int.emod_eq_of_lt (by omega) hc1, Int.ediv_eq_zero_of_lt (by omega) hc1]
                go_wp2_with fail
                go_roundw
                case rel => exact ⟨k + 1, hlt, by go_num, by rw [HST.out], by rw [HST.out]; exact hc2, trivial⟩
                case measure => simp [intOf]; omega
              · have e1 : (valD s k * 10 + (((s)[k].toNat : Int) - 48)) / 18446744073709551616 = 1 := by omega
                rw [e1] at ha
                have hz := Lib.hid (HB.out (by omega))
                clear e1
                go_wp2_with fail
                refine (mul10 _ _ hnn hb).mono ?_
                rintro e w' ⟨rfl, rfl⟩
                rw [Int.emod_eq_of_lt (by omega) hc1, Int.ediv_eq_zero_of_lt (by omega) hc1]
                go_wp2_with fail
                go_ret2
                exact ⟨ret2 (by rw [HV.out, hz.out.1]) (by rw [HE.out, hz.out.2]), Below.refl _ _⟩
            · have hz := Lib.hid (HB.out (by omega))
              have hq : ((valD s k * 10 / 18446744073709551616) != 0) = true := by simp; omega
              have r0 : 0 ≤ valD s k * 10 % 18446744073709551616 := by omega
              have ha := add64_run (valD s k * 10 % 18446744073709551616) (((s)[k].toNat : Int) - 48) r0 (by omega) w
              go_wp2_with fail
              refine (mul10 _ _ hnn hb).mono ?_
              rintro e w' ⟨rfl, rfl⟩
              go_wp2_with fail
              go_ret2
              exact ⟨ret2 (by rw [HV.out, hz.out.1]) (by rw [HE.out, hz.out.2]), Below.refl _ _⟩
          · obtain rfl : k = (s).size := by omega
            go_wp2_with fail
            refine (join_any 1 _ _ l (by omega) hnn hb).mono ?_
            rintro e w' ⟨rfl, rfl⟩
            go_wp2_with fail
            go_ret2
            exact ⟨ret2 HV.out.symm HE.out.symm, Below.refl _ _⟩
  · have ht : bare s = s.extract 1 s.size := by unfold bare; rw [hn]; rfl
    have hsg : sgn s = 0 := by unfold sgn; rw [hn]; rfl
    have hpos : 0 < s.size := by
      unfold isNeg at hn
      simp only [Bool.and_eq_true, decide_eq_true_eq] at hn
      exact hn.1
    have hb0 := byt_eq s 0 hpos
    have h45 : ((s[0].toNat : Int) == 45) = true := by
      rw [hb0]
      unfold isNeg at hn
      simp only [Bool.and_eq_true, decide_eq_true_eq] at hn
      rw [hn.2]; rfl
    have he : s.toList.isEmpty = false := by rw [list_empty, decide_eq_false_iff_not]; omega
    have HT := Lib.hid ht
    have HS := Lib.hid hsg
    clear hn ht hsg hb0
    go_enter Tryz.func88, Tryz.ntmps88
    go_wp2_with fail
    go_quiet (fail)
    go_wp2_with fail
    have ld : Lim (w.drewN nq) := by obtain ⟨l0, l1⟩ := l; exact ⟨by simpa using l0, by simpa using l1⟩
    have hts : (s.extract 1 s.size).size ≤ maxLen := by rw [size_tail s hpos]; omega
    have htm : (s.extract 1 s.size).size ≤ 9223372036854775807 := by rw [size_tail s hpos]; omega
    generalize s.extract 1 s.size = t at *
    refine (digits_any t _ hts).mono ?_
    rintro e w' ⟨rfl, rfl⟩
    cases hd : areD t
    · have hD := Lib.hid hd
      clear hd
      go_wp2_with fail
      go_ret2
      exact ⟨ret2 (by unfold rdV; rw [HT.out, hD.out]; rfl) (by unfold rdE; rw [HT.out, hD.out]; rfl), below_drewN (Below.refl _ _) _⟩
    · have hD := Lib.hid hd
      have hall := (areD_parts hd).2.2
      have hV : rdV s = val (sv 0 (valD t (t).size)) := by unfold rdV rdZ; rw [HT.out, HS.out, hd]; rfl
      have hE : rdE s = err (sv 0 (valD t (t).size)) := by unfold rdE rdZ; rw [HT.out, HS.out, hd]; rfl
      have HV := Lib.hid hV
      have HE := Lib.hid hE
      have HA := Lib.hid hall
      clear hd hall hV hE
      go_wp2_with fail
      go_loopw [6, 7] (fun z i wr => ∃ k : Nat, k ≤ (t).size ∧ i = .int .i64 k ∧ z = .int .u64 (valD t k) ∧ valD t k < 18446744073709551616 ∧ (w.drewN nq) = wr) (fun _ i _ => (t).size - (intOf i).toNat)
      case atStart => exact ⟨0, Nat.zero_le _, rfl, rfl, (by decide : (0 : Int) < 18446744073709551616), rfl⟩
      case round =>
        obtain ⟨k, hk, rfl, rfl, hb, rfl⟩ := hrel
        have hnn : 0 ≤ valD t k := valD_nonneg _ k (allD_mono _ _ k hk HA.out)
        by_cases hlt : k < (t).size
        · have hby := allD_byte _ _ k hlt HA.out
          have hbe := byt_eq _ k hlt
          have hmo := valD_mono _ _ (k + 1) hlt HA.out
          have hst : valD t (k + 1) = valD t k * 10 + (byt t k - 48) := rfl
          rw [hst] at hmo
          rw [← hbe] at hby hmo hst
          have hbig : 9223372036854775808 < valD t (t).size → val (sv 0 (valD t (t).size)) = 0 ∧ err (sv 0 (valD t (t).size)) = 20 := by
            intro h
            have : sv 0 (valD t (t).size) < -9223372036854775808 ∨ 9223372036854775807 < sv 0 (valD t (t).size) := by simp [sv]; omega
            exact ⟨val_no this, err_no this⟩
          have HB := Lib.hid hbig
          have HST := Lib.hid hst
          have hw : IntKind.u8.wrap (((t)[k].toNat : Int) - 48) = ((t)[k].toNat : Int) - 48 := by rw [IntKind.wrap_u8]; omega
          have b0 := hby.1
          have b1 := hby.2
          clear hst hbe hbig hby hw
          by_cases hc1 : valD t k * 10 < 18446744073709551616
          · have ha := add64_run (valD t k * 10) (((t)[k].toNat : Int) - 48) (by omega) (by omega) (w.drewN nq)
            by_cases hc2 : valD t k * 10 + (((t)[k].toNat : Int) - 48) < 18446744073709551616
            · rw [Int.emod_eq_of_lt (by omega) hc2, Int.ediv_eq_zero_of_lt (by omega) hc2] at ha
              go_wp2_with fail
              refine (mul10 _ _ hnn hb).mono ?_
              rintro e w' ⟨rfl, rfl⟩
              rw [Int.emod_eq_of_lt (by omega) hc1, Int.ediv_eq_zero_of_lt (by omega) hc1]
              go_wp2_with fail
              go_roundw
              case rel => exact ⟨k + 1, hlt, by go_num, by rw [HST.out], by rw [HST.out]; exact hc2, trivial⟩
              case measure => simp [intOf]; omega
            · have e1 : (valD t k * 10 + (((t)[k].toNat : Int) - 48)) / 18446744073709551616 = 1 := by omega
              rw [e1] at ha
              have hz := Lib.hid (HB.out (by omega))
              clear e1
              go_wp2_with fail
              refine (mul10 _ _ hnn hb).mono ?_
              rintro e w' ⟨rfl, rfl⟩
              rw [Int.emod_eq_of_lt (by omega) hc1, Int.ediv_eq_zero_of_lt (by omega) hc1]
              go_wp2_with fail
              go_ret2
              exact ⟨ret2 (by rw [HV.out, hz.out.1]) (by rw [HE.out, hz.out.2]), below_drewN (Below.refl _ _) _⟩
          · have hz := Lib.hid (HB.out (by omega))
            have hq : ((valD t k * 10 / 18446744073709551616) != 0) = true := by simp; omega
            have r0 : 0 ≤ valD t k * 10 % 18446744073709551616 := by omega
            have ha := add64_run (valD t k * 10 % 18446744073709551616) (((t)[k].toNat : Int) - 48) r0 (by omega) (w.drewN nq)
            go_wp2_with fail
            refine (mul10 _ _ hnn hb).mono ?_
            rintro e w' ⟨rfl, rfl⟩
            go_wp2_with fail
            go_ret2
            exact ⟨ret2 (by rw [HV.out, hz.out.1]) (by rw [HE.out, hz.out.2]), below_drewN (Below.refl _ _) _⟩
        · obtain rfl : k = (t).size := by omega
          go_wp2_with fail
          refine (join_any 0 _ _ ld (by omega) hnn hb).mono ?_
          rintro e w' ⟨rfl, rfl⟩
          go_wp2_with fail
          go_ret2
          exact ⟨ret2 HV.out.symm HE.out.symm, below_drewN (Below.refl _ _) _⟩

end Go.Proofs.YtmkkckhfdafjnaaGreatDoor.Nm
