import Derived.Test.YtmkkckhfdafjnaaGreatDoorQ6
import Derived.Laws.LoneSync
import Derived.Maps.AppendAt
/- Layer 17, Lex: texts. -/
namespace Go.Proofs.YtmkkckhfdafjnaaGreatDoor
open Go.RowKit Go.Maps
theorem quF_ok {s : ByteArray} : ∀ (f j n : Nat), quF s f j = some n → j < n ∧ n ≤ s.size
  | 0, j, n, e => by cases e
  | f + 1, j, n, e => by
    unfold quF at e
    split at e
    · cases e
    split at e
    · cases e; omega
    split at e
    · have := quF_ok f _ _ e; omega
    split at e
    · cases e
    · have := quF_ok f _ _ e; omega
theorem quM_ok {s : ByteArray} {a n : Nat} (e : quM s a = some n) : a < n ∧ n ≤ s.size := by
  have := quF_ok _ _ _ e
  omega
theorem tab_first {s : ByteArray} {a n : Nat} (h : byt s a = 34) (ha : a < n) (hn : n ≤ s.size) : byt (tabT (s.extract a n)) 0 = 34 := by
  have hz : (s.extract a n).size = n - a := by simp; omega
  have h0 : byt (s.extract a n) 0 = 34 := by
    rw [show n = a + (n - a) by omega, byt_extract (by omega) 0 (by omega), Nat.add_zero]; exact h
  have hb := bI_at (s.extract a n) 0 (by omega)
  rw [h0] at hb
  obtain ⟨r, hr⟩ : ∃ r, bI (s.extract a n) = 34 :: r := by
    cases hl : bI (s.extract a n) with
    | nil => rw [hl] at hb; cases hb
    | cons c r => rw [hl] at hb; simp at hb; exact ⟨r, by rw [hb]⟩
  unfold tabT
  rw [hr, tabL, if_neg (by decide), mkB_byt _ 0 (by simp) (by simp)]
  rfl
theorem tabL_len : ∀ l : List Int, (tabL l).length ≤ 2 * l.length
  | [] => Nat.zero_le _
  | c :: r => by
    have := tabL_len r
    unfold tabL
    split <;> simp <;> omega
theorem tabT_size (s : ByteArray) : (tabT s).size ≤ 2 * s.size := by
  unfold tabT
  rw [mkB_size]
  have := tabL_len (bI s)
  rw [bI_len] at this
  exact this
theorem readM_pos {t : ByteArray} {M : List CR} (e : readM t = .ok M) : 0 < M.length := by
  unfold readM at e
  split at e
  · cases e
  · rename_i hc
    have hs := ckE_size (Decidable.not_not.1 hc)
    cases hv : valM t 17 ⟨#[]⟩ 0 (bl t 0) [] with
    | bad m => rw [hv] at e; cases e
    | ok y =>
      obtain ⟨j, L⟩ := y
      rw [hv] at e
      simp only [Rs.bind_ok] at e
      split at e
      · cases e
      · cases e
        have := valM_ok t 17 0 ⟨#[]⟩ (bl t 0) [] j M (bl_le (Nat.zero_le _)) (by simp) hv
        simpa using this.2.2.1
theorem size_zero {s : ByteArray} (h : s.size = 0) : s = ⟨#[]⟩ := by
  cases s with
  | mk d =>
    have h3 : d.size = 0 := h
    rw [Array.eq_empty_of_size_eq_zero h3]
theorem below_step {w w2 w3 : World} (h : Below w.heap.size w w2) (k : Below w2.heap.size w2 w3) : Below w.heap.size w w3 := h.trans (k.mono h.size)
set_option maxRecDepth 20000 in
set_option maxHeartbeats 4000000 in
theorem texts_any (s : ByteArray) (a : Nat) (w : World) (hc : LxC w) (ha : a < s.size) (hs : s.size ≤ 1000000) : Calls Tryz.prog 146 #[.agg #[], .string s, .int .i64 a] w (RdQ a w (txtR s a)) := by
  obtain ⟨X, hX⟩ : ∃ X, X = txtR s a := ⟨_, rfl⟩
  rw [← hX]
  have HX := Lib.hid hX
  have HB : Hid (∀ o1 o2, Below w.heap.size w ((w.alloc o1).alloc o2)) := Lib.hid (fun o1 o2 => ((Below.refl _ _).alloc (Nat.le_refl _) _).alloc (by simp) _)
  have HC := Lib.hid hc
  have hsi : (s.size : Int) ≤ 1000000 := by omega
  have ha0 : (0 : Int) ≤ a := by omega
  have hai : (a : Int) < s.size := by omega
  have hbe : (s[a].toNat : Int) = byt s a := byt_eq s a ha
  clear hX hc
  by_cases h34 : byt s a = 34
  · have q1 : ((s[a].toNat : Int) != 34) = false := by rw [hbe, h34]; rfl
    have HQ := Lib.hid (fun W => quoted_any s a W ha hs)
    have HTF := Lib.hid (fun n (h1 : a < n) (h2 : n ≤ s.size) => tab_first h34 h1 h2)
    have HX1 : Hid (X = txt1 s a (quM s a)) := Lib.hid (by rw [HX.out]; unfold txtR; rw [if_pos h34])
    clear h34 hbe HX
    cases hq : quM s a with
    | none =>
      rw [hq] at HQ HX1
      have HF : Hid (X = .bad) := HX1
      have HQ1 : Hid (∀ W, Calls Tryz.prog 147 #[.string s, .int .i64 a] W fun e w' => e = .returned (.int .i64 a) ∧ w' = W) := HQ
      clear hq HX1 HQ
      go_enter Tryz.func146, Tryz.ntmps146
      go_wp2_with fail
      refine (HQ1.out _).mono ?_
      rintro e w1 ⟨rfl, hw⟩
      obtain rfl := hw.symm
      go_wp2_with fail
      (try simp only [Exit.inBlock, Exit.then])
      refine rd_end Tryz.results146 rfl rfl rfl ?_
      refine ⟨HB.out _ _, ?_⟩
      rw [HF.out]
      exact ⟨⟨0, _, 0⟩, rfl⟩
    | some n =>
      obtain ⟨hn1, hn2⟩ := quM_ok hq
      rw [hq] at HQ HX1
      unfold txt1 at HX1
      dsimp only at HX1
      have HQ1 : Hid (∀ W, Calls Tryz.prog 147 #[.string s, .int .i64 a] W fun e w' => e = .returned (.int .i64 n) ∧ w' = W) := HQ
      have hna : ((n : Int) == a) = false := beq_eq_false_iff_ne.2 (by omega)
      have hni : (a : Int) ≤ n := by omega
      have hni2 : (n : Int) ≤ s.size := by omega
      have htf := HTF.out n hn1 hn2
      have hcs : (s.extract a n).size ≤ 1000000 := Nat.le_trans ba_cut hs
      have hts := tabT_size (s.extract a n)
      obtain ⟨T, hT⟩ : ∃ T, T = tabT (s.extract a n) := ⟨_, rfl⟩
      have HRP := Lib.hid (fun W b => HC.out.rpc W b (s.extract a n) hcs)
      rw [← hT] at HRP HX1 htf hts
      have HRD := Lib.hid (fun W b => HC.out.rdc W b T htf (by omega))
      have HNE := Lib.hid (fun m => bad_ne (s := T) (m := m))
      have HPO := Lib.hid (fun M => readM_pos (t := T) (M := M))
      clear hq HQ HTF hT htf hts hcs HC
      obtain ⟨Z, hZ⟩ : ∃ Z, Z = readM T := ⟨_, rfl⟩
      rw [← hZ] at HRD HX1 HNE HPO
      clear hZ
      go_enter Tryz.func146, Tryz.ntmps146
      go_wp2_with fail
      refine (HQ1.out _).mono ?_
      rintro e w1 ⟨rfl, hw⟩
      obtain rfl := hw.symm
      go_wp2_with fail
      refine (HRP.out _ (HB.out _ _)).mono ?_
      rintro e w2 ⟨rfl, b2⟩
      have B2 := Lib.hid b2
      have B2w := Lib.hid (below_step (HB.out _ _) b2)
      clear b2
      go_wp2_with fail
      cases Z with
      | bad m =>
        have hm : (m != 0) = true := by have := HNE.out m rfl; simp [this]
        have HF : Hid (X = .bad) := HX1
        have HRD1 : Hid (∀ W (_ : Below w.heap.size w W), Calls Tryz.prog 148 #[.string T] W fun e w' => e = .returned (.tuple #[.slice none 0 0, .int .i64 m]) ∧ Below W.heap.size W w') := HRD
        refine (HRD1.out _ B2w.out).mono ?_
        rintro e w3 ⟨rfl, b3⟩
        have b03 := below_step B2.out b3
        have hg := tok_kept b03
        obtain ⟨d0, d1, d2, dz⟩ := tok_cells hg
        have dz0 := dz 0
        have dz1 := dz 1
        have dz2 := dz 2
        have HG := Lib.hid (And.intro hg b03)
        clear hg b03 b3 dz
        go_wp2_with fail
        (try simp only [Exit.inBlock, Exit.then])
        refine rd_set Tryz.results146 HG.out.1 rfl rfl rfl ?_
        refine ⟨rd_below HG.out.2, ?_⟩
        rw [HF.out]
        exact ⟨⟨0, _, 0⟩, rfl⟩
      | ok M =>
        have hMp := HPO.out M rfl
        have HXM : Hid (X = if (gl M 0).tx = ⟨#[]⟩ ∧ byt s n = 34 then .bad else .ok ⟨3, (gl M 0).tx, a⟩ n) := HX1
        have HRD1 : Hid (∀ W (_ : Below w.heap.size w W), Calls Tryz.prog 148 #[.string T] W fun e w' => ∃ v, e = .returned (.tuple #[v, .int .i64 0]) ∧ w'.ownsRow W.heap.size 46 5 v M.length (rw5 M) ∧ Below W.heap.size W w') := HRD
        refine (HRD1.out _ B2w.out).mono ?_
        rintro e w3 ⟨v3, rfl, o3, b3⟩
        have b03 := below_step B2.out b3
        have hg := tok_kept b03
        obtain ⟨d0, d1, d2, dz⟩ := tok_cells hg
        have dz0 := dz 0
        have dz1 := dz 1
        have dz2 := dz 2
        have HG := Lib.hid (And.intro hg b03)
        obtain ⟨q, cap, rfl, _, _⟩ := own_addr o3 hMp
        have cx : w3.cell? ⟨q, 2, none⟩ = some (.string (gl M 0).tx) := by
          have e1 := (rw5_at M 0 hMp).2.2.1
          rw [Nat.zero_mul, Nat.zero_add] at e1
          rw [o3.cellAt 2 (by omega)]
          exact e1
        have hMi : (0 : Int) < M.length := by omega
        obtain ⟨x, hx⟩ : ∃ x, x = (gl M 0).tx := ⟨_, rfl⟩
        rw [← hx] at cx HXM
        clear hg b03 b3 dz o3 hx
        by_cases hxe : x = ⟨#[]⟩
        · subst hxe
          by_cases hns : n < s.size
          · have hnsi : (n : Int) < s.size := by omega
            have hn0 : (0 : Int) ≤ n := by omega
            have hbn : (s[n].toNat : Int) = byt s n := byt_eq s n hns
            by_cases hn34 : byt s n = 34
            · have q2 : ((s[n].toNat : Int) == 34) = true := by rw [hbn, hn34]; rfl
              have HF : Hid (X = .bad) := Lib.hid (by rw [HXM.out, if_pos ⟨rfl, hn34⟩])
              clear hbn hn34
              go_wp2_with fail
              (try simp only [Exit.inBlock, Exit.then])
              refine rd_set Tryz.results146 HG.out.1 rfl rfl rfl ?_
              refine ⟨rd_below HG.out.2, ?_⟩
              rw [HF.out]
              exact ⟨⟨0, _, 0⟩, rfl⟩
            · have q2 : ((s[n].toNat : Int) == 34) = false := by rw [hbn]; exact beq_eq_false_iff_ne.2 hn34
              have HF : Hid (X = .ok ⟨3, ⟨#[]⟩, a⟩ n) := Lib.hid (by rw [HXM.out, if_neg (fun e => hn34 e.2)])
              clear hbn hn34
              go_wp2_with fail
              refine rd_set Tryz.results146 HG.out.1 rfl rfl rfl ?_
              refine ⟨rd_below HG.out.2, ?_⟩
              rw [HF.out]
          · have hnsi : ¬ (n : Int) < s.size := by omega
            have HF : Hid (X = .ok ⟨3, ⟨#[]⟩, a⟩ n) := Lib.hid (by rw [HXM.out, if_neg (fun e => by have := e.2; rw [byt_end (by omega)] at this; cases this)])
            go_wp2_with fail
            refine rd_set Tryz.results146 HG.out.1 rfl rfl rfl ?_
            refine ⟨rd_below HG.out.2, ?_⟩
            rw [HF.out]
        · have q3 : x.toList.isEmpty = false := full_lst (fun e => hxe (size_zero e))
          have HF : Hid (X = .ok ⟨3, x, a⟩ n) := Lib.hid (by rw [HXM.out, if_neg (fun e => hxe e.1)])
          clear hxe
          go_wp2_with fail
          refine rd_set Tryz.results146 HG.out.1 rfl rfl rfl ?_
          refine ⟨rd_below HG.out.2, ?_⟩
          rw [HF.out]
  · have q1 : ((s[a].toNat : Int) != 34) = true := by rw [hbe]; simp [h34]
    have HF : Hid (X = .no) := Lib.hid (by rw [HX.out]; unfold txtR; rw [if_neg h34])
    clear h34 hbe
    go_enter Tryz.func146, Tryz.ntmps146
    go_wp2_with fail
    (try simp only [Exit.inBlock, Exit.then])
    refine rd_end Tryz.results146 rfl rfl rfl ?_
    refine ⟨HB.out _ _, ?_⟩
    rw [HF.out]
    exact ⟨⟨0, _, 0⟩, a, rfl⟩
end Go.Proofs.YtmkkckhfdafjnaaGreatDoor
/- Layer 17, Lex: marks. -/
namespace Go.Proofs.YtmkkckhfdafjnaaGreatDoor
open Go.RowKit Go.Maps
theorem one_size {s : ByteArray} {a : Nat} (h : a < s.size) : (s.extract a (a + 1)).size = 1 := by simp; omega
theorem pre1 (s : ByteArray) (a : Nat) (h : a < s.size) : Lib.hasPrefix (s.extract a s.size).data.toList (s.extract a (a + 1)).data.toList = true := by
  unfold Lib.hasPrefix
  rw [tail_at, drop_at s a h]
  have e : (s.extract a (a + 1)).data.toList = [s[a]] := by
    have q : (s.extract a (a + 1)).data.toList = (s.data.toList.drop a).take 1 := by
      simp [ByteArray.data_extract, List.take_drop]
    rw [q, drop_at s a h]
    rfl
  rw [e]
  simp [List.isPrefixOf]
theorem rd_end3 {fn : Func} (hr : fn.results = #[.cell 6 59, .tmp 7, .tmp 8]) {Q : Ending → World → Prop} {tmps : Array Value} {w : World} {o1 o3 : Obj} {a c n : Int} {b : ByteArray} {g : Bool} (h6 : tmps.getD 6 undef = .pointer (some ⟨w.heap.size + 1, 0, none⟩)) (h7 : tmps.getD 7 undef = .int .i64 n) (h8 : tmps.getD 8 undef = .bool g)
    (hQ : Q (.returned (.tuple #[.agg #[.int .u8 a, .string b, .int .i64 c], .int .i64 n, .bool g])) (((w.alloc o1).alloc (.cells #[.int .u8 a, .string b, .int .i64 c] 59)).alloc o3)) : bodyPost Tryz.prog fn Q .ret ⟨tmps, []⟩ (((w.alloc o1).alloc (.cells #[.int .u8 a, .string b, .int .i64 c] 59)).alloc o3) := by
  have hg : (((w.alloc o1).alloc (.cells #[.int .u8 a, .string b, .int .i64 c] 59)).alloc o3).heap[w.heap.size + 1]? = some (.cells #[.int .u8 a, .string b, .int .i64 c] 59) := by
    rw [heap_alloc_old _ _ (by simp)]
    have e := heap_alloc_new (w.alloc o1) (.cells #[.int .u8 a, .string b, .int .i64 c] 59)
    simpa using e
  obtain ⟨d0, d1, d2, _⟩ := tok_cells hg
  exact ret_rd hr h6 h7 h8 d0 d1 d2 hQ
set_option maxRecDepth 20000 in
set_option maxHeartbeats 4000000 in
theorem marks_any (s : ByteArray) (a : Nat) (w : World) (ha : a < s.size) (hs : s.size ≤ 1000000) : Calls Tryz.prog 189 #[.agg #[], .string s, .int .i64 a] w (RdQ a w (mrkR s a)) := by
  obtain ⟨X, hX⟩ : ∃ X, X = mrkR s a := ⟨_, rfl⟩
  rw [← hX]
  have HX := Lib.hid hX
  have hsi : (s.size : Int) ≤ 1000000 := by omega
  have ha0 : (0 : Int) ≤ a := by omega
  have hai : (a : Int) < s.size := by omega
  have hai2 : (a : Int) + 1 ≤ s.size := by omega
  have HPA := Lib.hid (fun W => Tryz.strings_HasPrefix (s.extract a s.size) ⟨#[46, 46, 46]⟩ W)
  have h3 : Lib.hasPrefix (s.extract a s.size).data.toList (⟨#[46, 46, 46]⟩ : ByteArray).data.toList = decide (byt s a = 46 ∧ byt s (a + 1) = 46 ∧ byt s (a + 2) = 46) := pre3 s a 46 46 46 (by decide)
  rw [h3] at HPA
  have HPB := Lib.hid (fun W => Tryz.strings_HasPrefix (s.extract a s.size) (s.extract a (a + 1)) W)
  rw [pre1 s a ha] at HPB
  have HMA := Lib.hid (fun W => lmark_any ⟨#[46, 46, 46]⟩ W)
  have hm3 : pmB ⟨#[46, 46, 46]⟩ = true := mk_dots (by rw [Lib.toList_data])
  rw [hm3] at HMA
  have HMB := Lib.hid (fun W => lmark_any (s.extract a (a + 1)) W)
  have h1z : ((s.extract a (a + 1)).size : Int) = 1 := by rw [one_size ha]; rfl
  have HB : Hid (∀ o1 o2 o3, Below w.heap.size w (((w.alloc o1).alloc o2).alloc o3)) := Lib.hid (fun o1 o2 o3 => (((Below.refl _ _).alloc (Nat.le_refl _) _).alloc (by simp) _).alloc (by simp; omega) _)
  have HX1 : Hid (X = if byt s a = 46 ∧ byt s (a + 1) = 46 ∧ byt s (a + 2) = 46 then .ok ⟨4, ⟨#[46, 46, 46]⟩, a⟩ (a + 3) else if pmB (s.extract a (a + 1)) = true then .ok ⟨4, s.extract a (a + 1), a⟩ (a + 1) else .no) := HX
  obtain ⟨t, ht⟩ : ∃ t, t = s.extract a (a + 1) := ⟨_, rfl⟩
  rw [← ht] at HPB HMB h1z HX1
  have HT := Lib.hid ht
  clear hX h3 hm3 HX ht
  by_cases hd : byt s a = 46 ∧ byt s (a + 1) = 46 ∧ byt s (a + 2) = 46
  · rw [decide_eq_true hd] at HPA
    have HF : Hid (X = .ok ⟨4, ⟨#[46, 46, 46]⟩, a⟩ (a + 3)) := Lib.hid (by rw [HX1.out, if_pos hd])
    clear hd HX1
    go_enter Tryz.func189, Tryz.ntmps189
    go_wp2_with fail
    refine wp_loop_rounds 1 ?_
    rw [rounds_succ]
    go_wp2_with fail
    refine (HPA.out _).mono ?_
    rintro e w1 ⟨rfl, hw⟩
    obtain rfl := hw.symm
    go_wp2_with fail
    refine (HMA.out _).mono ?_
    rintro e w1 ⟨rfl, hw⟩
    obtain rfl := hw.symm
    go_wp2_with fail
    (try simp only [Exit.inBlock, Exit.then])
    refine rd_end3 Tryz.results189 rfl rfl rfl ?_
    refine ⟨HB.out _ _ _, ?_⟩
    rw [HF.out]
    rfl
  · rw [decide_eq_false hd] at HPA
    rw [if_neg hd] at HX1
    clear hd
    cases hm : pmB t with
    | true =>
      rw [hm] at HMB
      have HF : Hid (X = .ok ⟨4, t, a⟩ (a + 1)) := Lib.hid (by rw [HX1.out, if_pos hm])
      clear hm HX1
      go_enter Tryz.func189, Tryz.ntmps189
      go_wp2_with fail
      rw [← HT.out]
      refine wp_loop_rounds 3 ?_
      rw [rounds_succ]
      go_wp2_with fail
      refine (HPA.out _).mono ?_
      rintro e w1 ⟨rfl, hw⟩
      obtain rfl := hw.symm
      go_wp2_with fail
      rw [rounds_succ]
      go_wp2_with fail
      refine (HPB.out _).mono ?_
      rintro e w1 ⟨rfl, hw⟩
      obtain rfl := hw.symm
      go_wp2_with fail
      refine (HMB.out _).mono ?_
      rintro e w1 ⟨rfl, hw⟩
      obtain rfl := hw.symm
      go_wp2_with fail
      (try simp only [Exit.inBlock, Exit.then])
      refine rd_end3 Tryz.results189 rfl rfl rfl ?_
      refine ⟨HB.out _ _ _, ?_⟩
      rw [HF.out]
      rfl
    | false =>
      rw [hm] at HMB
      have HF : Hid (X = .no) := Lib.hid (by rw [HX1.out, if_neg (by rw [hm]; decide)])
      clear hm HX1
      go_enter Tryz.func189, Tryz.ntmps189
      go_wp2_with fail
      rw [← HT.out]
      refine wp_loop_rounds 3 ?_
      rw [rounds_succ]
      go_wp2_with fail
      refine (HPA.out _).mono ?_
      rintro e w1 ⟨rfl, hw⟩
      obtain rfl := hw.symm
      go_wp2_with fail
      rw [rounds_succ]
      go_wp2_with fail
      refine (HPB.out _).mono ?_
      rintro e w1 ⟨rfl, hw⟩
      obtain rfl := hw.symm
      go_wp2_with fail
      refine (HMB.out _).mono ?_
      rintro e w1 ⟨rfl, hw⟩
      obtain rfl := hw.symm
      go_wp2_with fail
      rw [rounds_succ]
      go_wp2_with fail
      refine rd_end3 Tryz.results189 rfl rfl rfl ?_
      refine ⟨HB.out _ _ _, ?_⟩
      rw [HF.out]
      exact ⟨⟨0, _, 0⟩, a, rfl⟩
end Go.Proofs.YtmkkckhfdafjnaaGreatDoor
/- Layer 17, Lex: token. -/
namespace Go.Proofs.YtmkkckhfdafjnaaGreatDoor
open Go.RowKit Go.Maps
def tk3 (s : ByteArray) (a : Nat) : Option (TkR × Nat) := (mrkR s a).tok none
def tk2 (s : ByteArray) (a : Nat) : Option (TkR × Nat) := (txtR s a).tok (tk3 s a)
def tk1 (s : ByteArray) (a : Nat) : Option (TkR × Nat) := (intR s a).tok (tk2 s a)
theorem tok_0 (s : ByteArray) (a : Nat) : tokM s a = (namR s a).tok (tk1 s a) := rfl
theorem m88 (v : Value) (w : World) : (method 334 135 v "provost/lex.read").run Tryz.prog w = .ok (144, v) w := by kernel_rfl
theorem m89 (v : Value) (w : World) : (method 334 136 v "provost/lex.read").run Tryz.prog w = .ok (145, v) w := by kernel_rfl
theorem m90 (v : Value) (w : World) : (method 334 137 v "provost/lex.read").run Tryz.prog w = .ok (146, v) w := by kernel_rfl
theorem m91 (v : Value) (w : World) : (method 334 138 v "provost/lex.read").run Tryz.prog w = .ok (189, v) w := by kernel_rfl
def rdrs : Array Value := #[.iface 135 (.agg #[]), .iface 136 (.agg #[]), .iface 137 (.agg #[]), .iface 138 (.agg #[])]
set_option maxRecDepth 20000 in
theorem readers_any (w : World) : Calls Tryz.prog 50 #[] w fun e w' => e = .returned (.slice (some ⟨w.heap.size, 0, none⟩) 4 4) ∧ w' = w.alloc (.cells rdrs 111) := by
  go_enter Tryz.func50, Tryz.ntmps50
  go_wp2_with fail
  go_ret
  exact ⟨rfl, rfl⟩
/-- What token ends in. -/
def TkQ (a : Nat) (w : World) (x : Option (TkR × Nat)) (e : Ending) (w' : World) : Prop := Below w.heap.size w w' ∧ match x with
  | none => ∃ t : TkR, e = .returned (.tuple #[.agg #[.int .u8 t.k, .string t.s, .int .i64 t.a], .int .i64 a])
  | some y => e = .returned (.tuple #[.agg #[.int .u8 y.1.k, .string y.1.s, .int .i64 y.1.a], .int .i64 y.2])
/-- Within token: its result's block, and the readers'. -/
structure TkS (w W : World) : Prop where
  b : Below w.heap.size w W
  h0 : W.heap[w.heap.size]? = some (.cells #[.int .u8 0, .string ⟨#[]⟩, .int .i64 0] 59)
  h1 : W.heap[w.heap.size + 1]? = some (.cells rdrs 111)
theorem TkS.up {w W W' : World} (h : TkS w W) (b : Below W.heap.size W W') : TkS w W' :=
  ⟨h.b.trans (b.mono h.b.size), by rw [b.block _ (Array.getElem?_eq_some_iff.1 h.h0).1]; exact h.h0, by rw [b.block _ (Array.getElem?_eq_some_iff.1 h.h1).1]; exact h.h1⟩
theorem TkS.box {w W : World} (h : TkS w W) (o : Obj) : TkS w (W.alloc o) := h.up ((Below.refl _ _).alloc (Nat.le_refl _) _)
theorem ret_tk {fn : Func} (hr : fn.results = #[.cell 4 59, .tmp 5]) {Q : Ending → World → Prop} {tmps : Array Value} {W : World} {N : Nat} {a c n : Int} {b : ByteArray} {x y z : Value} (hg : W.heap[N]? = some (.cells #[x, y, z] 59)) (h4 : tmps.getD 4 undef = .pointer (some ⟨N, 0, none⟩)) (h5 : tmps.getD 5 undef = .int .i64 n)
    (hQ : Q (.returned (.tuple #[.agg #[.int .u8 a, .string b, .int .i64 c], .int .i64 n])) (((W.setCell ⟨N, 0, none⟩ (.int .u8 a)).setCell ⟨N, 1, none⟩ (.string b)).setCell ⟨N, 2, none⟩ (.int .i64 c))) : bodyPost Tryz.prog fn Q .ret ⟨tmps, []⟩ (((W.setCell ⟨N, 0, none⟩ (.int .u8 a)).setCell ⟨N, 1, none⟩ (.string b)).setCell ⟨N, 2, none⟩ (.int .i64 c)) := by
  obtain ⟨d0, d1, d2, _⟩ := tok_cells (set3_heap (p := .int .u8 a) (q := .string b) (r := .int .i64 c) hg)
  refine bodyPost_ret (v := .tuple #[.agg #[.int .u8 a, .string b, .int .i64 c], .int .i64 n]) ?_ rfl hQ
  rw [results_cell_tmp (p := 4) (u := 5) (ty := 59) hr, h4, h5]
  simp [asAddr, Result.andThen, load_tok d0 d1 d2]
theorem tk_below {w W : World} {p q r : Value} (h : Below w.heap.size w W) : Below w.heap.size w (((W.setCell ⟨w.heap.size, 0, none⟩ p).setCell ⟨w.heap.size, 1, none⟩ q).setCell ⟨w.heap.size, 2, none⟩ r) := h.trans (set3_below (Nat.le_refl _))
set_option maxRecDepth 20000 in
set_option maxHeartbeats 0 in
theorem token_any (s : ByteArray) (a : Nat) (w : World) (hc : LxC w) (ha : a < s.size) (hs : s.size ≤ 1000000) : Calls Tryz.prog 31 #[.string s, .int .i64 a] w (TkQ a w (tokM s a)) := by
  obtain ⟨X, hX⟩ : ∃ X, X = tokM s a := ⟨_, rfl⟩
  rw [← hX]
  have HX : Hid (tokM s a = X) := Lib.hid hX.symm
  have HRD := Lib.hid (fun W => readers_any W)
  have H0 := Lib.hid (fun W => names_any s a W ha hs)
  have H1 := Lib.hid (fun W (b : Below w.heap.size w W) => ints_any s a W (hc.up b) ha hs)
  have H2 := Lib.hid (fun W (b : Below w.heap.size w W) => texts_any s a W (hc.up b) ha hs)
  have H3 := Lib.hid (fun W => marks_any s a W ha hs)
  have HS0 : Hid (TkS w ((w.alloc (.cells #[.int .u8 0, .string ⟨#[]⟩, .int .i64 0] 59)).alloc (.cells rdrs 111))) := Lib.hid ⟨((Below.refl _ _).alloc (Nat.le_refl _) _).alloc (by simp) _, by rw [heap_alloc_old _ _ (by simp), heap_alloc_new], by
    have e := heap_alloc_new (w.alloc (.cells #[.int .u8 0, .string ⟨#[]⟩, .int .i64 0] 59)) (.cells rdrs 111)
    simpa using e⟩
  clear hX hc
  go_enter Tryz.func31, Tryz.ntmps31
  go_wp2_with fail
  refine (HRD.out _).mono ?_
  rintro e w1 ⟨rfl, rfl⟩
  have hsz : (w.alloc (.cells #[.int .u8 0, .string ⟨#[]⟩, .int .i64 0] 59)).heap.size = w.heap.size + 1 := by simp
  rw [hsz]
  clear hsz
  go_wp2_with fail
  go_loopg [7, 8, 9, 10, 13] 5 (fun f _ _ _ _ v13 wr => ∃ i : Nat, 5 - i ≤ f ∧ v13 = .int .i64 i ∧ Hid (TkS w wr) ∧ ((i = 0 ∧ Hid (tokM s a = X)) ∨ (i = 1 ∧ Hid (tk1 s a = X)) ∨ (i = 2 ∧ Hid (tk2 s a = X)) ∨ (i = 3 ∧ Hid (tk3 s a = X)) ∨ (i = 4 ∧ Hid (X = none))))
  case atStart => exact ⟨0, by omega, rfl, HS0, .inl ⟨rfl, HX⟩⟩
  case round =>
    obtain ⟨i, hf, rfl, HS, hcase⟩ := hrel
    rcases hcase with ⟨rfl, HE⟩ | ⟨rfl, HE⟩ | ⟨rfl, HE⟩ | ⟨rfl, HE⟩ | ⟨rfl, HE⟩
    · have HR := Lib.hid (H0.out wr)
      have HEE := HE.out
      rw [tok_0] at HEE
      cases hr : namR s a with
      | no =>
        rw [hr] at HR HEE
        have HN : Hid (tk1 s a = X) := Lib.hid HEE
        clear hr HEE
        have cr : wr.cell? ⟨w.heap.size + 1, 0, none⟩ = some (.iface 135 (.agg #[])) := by unfold World.cell?; dsimp only; rw [HS.out.h1]; rfl
        have mt := m88
        go_wp2_with fail
        refine HR.out.mono ?_
        rintro e w2 ⟨b2, ⟨t, n, rfl⟩⟩
        have S2 := Lib.hid ((HS.out.up b2).box (.cells #[.int .u8 t.k, .string t.s, .int .i64 t.a] 59))
        clear b2 cr mt
        go_wp2_with fail
        go_roundg (gk - 1)
        case rel => exact ⟨1, by omega, by go_num, S2, .inr (.inl ⟨rfl, HN⟩)⟩
        case measure => omega
      | bad =>
        rw [hr] at HR HEE
        have HN : Hid (X = none) := Lib.hid HEE.symm
        clear hr HEE
        have cr : wr.cell? ⟨w.heap.size + 1, 0, none⟩ = some (.iface 135 (.agg #[])) := by unfold World.cell?; dsimp only; rw [HS.out.h1]; rfl
        have mt := m88
        go_wp2_with fail
        refine HR.out.mono ?_
        rintro e w2 ⟨b2, ⟨t, rfl⟩⟩
        have S2 := Lib.hid ((HS.out.up b2).box (.cells #[.int .u8 t.k, .string t.s, .int .i64 t.a] 59))
        clear b2 cr mt
        obtain ⟨d0, d1, d2, dz⟩ := tok_cells S2.out.h0
        have dz0 := dz 0
        have dz1 := dz 1
        have dz2 := dz 2
        clear dz
        go_wp2_with fail
        (try simp only [Exit.inBlock, Exit.then])
        refine ret_tk Tryz.results31 S2.out.h0 rfl rfl ?_
        refine ⟨tk_below S2.out.b, ?_⟩
        rw [HN.out]
        exact ⟨t, rfl⟩
      | ok t n =>
        rw [hr] at HR HEE
        have HN : Hid (X = some (t, n)) := Lib.hid HEE.symm
        clear hr HEE
        have cr : wr.cell? ⟨w.heap.size + 1, 0, none⟩ = some (.iface 135 (.agg #[])) := by unfold World.cell?; dsimp only; rw [HS.out.h1]; rfl
        have mt := m88
        go_wp2_with fail
        refine HR.out.mono ?_
        rintro e w2 ⟨b2, rfl⟩
        have S2 := Lib.hid ((HS.out.up b2).box (.cells #[.int .u8 t.k, .string t.s, .int .i64 t.a] 59))
        clear b2 cr mt
        obtain ⟨d0, d1, d2, dz⟩ := tok_cells S2.out.h0
        have dz0 := dz 0
        have dz1 := dz 1
        have dz2 := dz 2
        clear dz
        go_wp2_with fail
        (try simp only [Exit.inBlock, Exit.then])
        refine ret_tk Tryz.results31 S2.out.h0 rfl rfl ?_
        refine ⟨tk_below S2.out.b, ?_⟩
        rw [HN.out]
    · have HR := Lib.hid (H1.out wr HS.out.b)
      have HEE := HE.out
      unfold tk1 at HEE
      cases hr : intR s a with
      | no =>
        rw [hr] at HR HEE
        have HN : Hid (tk2 s a = X) := Lib.hid HEE
        clear hr HEE
        have cr : wr.cell? ⟨w.heap.size + 1, 1, none⟩ = some (.iface 136 (.agg #[])) := by unfold World.cell?; dsimp only; rw [HS.out.h1]; rfl
        have mt := m89
        go_wp2_with fail
        refine HR.out.mono ?_
        rintro e w2 ⟨b2, ⟨t, n, rfl⟩⟩
        have S2 := Lib.hid ((HS.out.up b2).box (.cells #[.int .u8 t.k, .string t.s, .int .i64 t.a] 59))
        clear b2 cr mt
        go_wp2_with fail
        go_roundg (gk - 1)
        case rel => exact ⟨2, by omega, by go_num, S2, .inr (.inr (.inl ⟨rfl, HN⟩))⟩
        case measure => omega
      | bad =>
        rw [hr] at HR HEE
        have HN : Hid (X = none) := Lib.hid HEE.symm
        clear hr HEE
        have cr : wr.cell? ⟨w.heap.size + 1, 1, none⟩ = some (.iface 136 (.agg #[])) := by unfold World.cell?; dsimp only; rw [HS.out.h1]; rfl
        have mt := m89
        go_wp2_with fail
        refine HR.out.mono ?_
        rintro e w2 ⟨b2, ⟨t, rfl⟩⟩
        have S2 := Lib.hid ((HS.out.up b2).box (.cells #[.int .u8 t.k, .string t.s, .int .i64 t.a] 59))
        clear b2 cr mt
        obtain ⟨d0, d1, d2, dz⟩ := tok_cells S2.out.h0
        have dz0 := dz 0
        have dz1 := dz 1
        have dz2 := dz 2
        clear dz
        go_wp2_with fail
        (try simp only [Exit.inBlock, Exit.then])
        refine ret_tk Tryz.results31 S2.out.h0 rfl rfl ?_
        refine ⟨tk_below S2.out.b, ?_⟩
        rw [HN.out]
        exact ⟨t, rfl⟩
      | ok t n =>
        rw [hr] at HR HEE
        have HN : Hid (X = some (t, n)) := Lib.hid HEE.symm
        clear hr HEE
        have cr : wr.cell? ⟨w.heap.size + 1, 1, none⟩ = some (.iface 136 (.agg #[])) := by unfold World.cell?; dsimp only; rw [HS.out.h1]; rfl
        have mt := m89
        go_wp2_with fail
        refine HR.out.mono ?_
        rintro e w2 ⟨b2, rfl⟩
        have S2 := Lib.hid ((HS.out.up b2).box (.cells #[.int .u8 t.k, .string t.s, .int .i64 t.a] 59))
        clear b2 cr mt
        obtain ⟨d0, d1, d2, dz⟩ := tok_cells S2.out.h0
        have dz0 := dz 0
        have dz1 := dz 1
        have dz2 := dz 2
        clear dz
        go_wp2_with fail
        (try simp only [Exit.inBlock, Exit.then])
        refine ret_tk Tryz.results31 S2.out.h0 rfl rfl ?_
        refine ⟨tk_below S2.out.b, ?_⟩
        rw [HN.out]
    · have HR := Lib.hid (H2.out wr HS.out.b)
      have HEE := HE.out
      unfold tk2 at HEE
      cases hr : txtR s a with
      | no =>
        rw [hr] at HR HEE
        have HN : Hid (tk3 s a = X) := Lib.hid HEE
        clear hr HEE
        have cr : wr.cell? ⟨w.heap.size + 1, 2, none⟩ = some (.iface 137 (.agg #[])) := by unfold World.cell?; dsimp only; rw [HS.out.h1]; rfl
        have mt := m90
        go_wp2_with fail
        refine HR.out.mono ?_
        rintro e w2 ⟨b2, ⟨t, n, rfl⟩⟩
        have S2 := Lib.hid ((HS.out.up b2).box (.cells #[.int .u8 t.k, .string t.s, .int .i64 t.a] 59))
        clear b2 cr mt
        go_wp2_with fail
        go_roundg (gk - 1)
        case rel => exact ⟨3, by omega, by go_num, S2, .inr (.inr (.inr (.inl ⟨rfl, HN⟩)))⟩
        case measure => omega
      | bad =>
        rw [hr] at HR HEE
        have HN : Hid (X = none) := Lib.hid HEE.symm
        clear hr HEE
        have cr : wr.cell? ⟨w.heap.size + 1, 2, none⟩ = some (.iface 137 (.agg #[])) := by unfold World.cell?; dsimp only; rw [HS.out.h1]; rfl
        have mt := m90
        go_wp2_with fail
        refine HR.out.mono ?_
        rintro e w2 ⟨b2, ⟨t, rfl⟩⟩
        have S2 := Lib.hid ((HS.out.up b2).box (.cells #[.int .u8 t.k, .string t.s, .int .i64 t.a] 59))
        clear b2 cr mt
        obtain ⟨d0, d1, d2, dz⟩ := tok_cells S2.out.h0
        have dz0 := dz 0
        have dz1 := dz 1
        have dz2 := dz 2
        clear dz
        go_wp2_with fail
        (try simp only [Exit.inBlock, Exit.then])
        refine ret_tk Tryz.results31 S2.out.h0 rfl rfl ?_
        refine ⟨tk_below S2.out.b, ?_⟩
        rw [HN.out]
        exact ⟨t, rfl⟩
      | ok t n =>
        rw [hr] at HR HEE
        have HN : Hid (X = some (t, n)) := Lib.hid HEE.symm
        clear hr HEE
        have cr : wr.cell? ⟨w.heap.size + 1, 2, none⟩ = some (.iface 137 (.agg #[])) := by unfold World.cell?; dsimp only; rw [HS.out.h1]; rfl
        have mt := m90
        go_wp2_with fail
        refine HR.out.mono ?_
        rintro e w2 ⟨b2, rfl⟩
        have S2 := Lib.hid ((HS.out.up b2).box (.cells #[.int .u8 t.k, .string t.s, .int .i64 t.a] 59))
        clear b2 cr mt
        obtain ⟨d0, d1, d2, dz⟩ := tok_cells S2.out.h0
        have dz0 := dz 0
        have dz1 := dz 1
        have dz2 := dz 2
        clear dz
        go_wp2_with fail
        (try simp only [Exit.inBlock, Exit.then])
        refine ret_tk Tryz.results31 S2.out.h0 rfl rfl ?_
        refine ⟨tk_below S2.out.b, ?_⟩
        rw [HN.out]
    · have HR := Lib.hid (H3.out wr)
      have HEE := HE.out
      unfold tk3 at HEE
      cases hr : mrkR s a with
      | no =>
        rw [hr] at HR HEE
        have HN : Hid (none = X) := Lib.hid HEE
        clear hr HEE
        have cr : wr.cell? ⟨w.heap.size + 1, 3, none⟩ = some (.iface 138 (.agg #[])) := by unfold World.cell?; dsimp only; rw [HS.out.h1]; rfl
        have mt := m91
        go_wp2_with fail
        refine HR.out.mono ?_
        rintro e w2 ⟨b2, ⟨t, n, rfl⟩⟩
        have S2 := Lib.hid ((HS.out.up b2).box (.cells #[.int .u8 t.k, .string t.s, .int .i64 t.a] 59))
        clear b2 cr mt
        go_wp2_with fail
        go_roundg (gk - 1)
        case rel => exact ⟨4, by omega, by go_num, S2, .inr (.inr (.inr (.inr ⟨rfl, Lib.hid HN.out.symm⟩)))⟩
        case measure => omega
      | bad =>
        rw [hr] at HR HEE
        have HN : Hid (X = none) := Lib.hid HEE.symm
        clear hr HEE
        have cr : wr.cell? ⟨w.heap.size + 1, 3, none⟩ = some (.iface 138 (.agg #[])) := by unfold World.cell?; dsimp only; rw [HS.out.h1]; rfl
        have mt := m91
        go_wp2_with fail
        refine HR.out.mono ?_
        rintro e w2 ⟨b2, ⟨t, rfl⟩⟩
        have S2 := Lib.hid ((HS.out.up b2).box (.cells #[.int .u8 t.k, .string t.s, .int .i64 t.a] 59))
        clear b2 cr mt
        obtain ⟨d0, d1, d2, dz⟩ := tok_cells S2.out.h0
        have dz0 := dz 0
        have dz1 := dz 1
        have dz2 := dz 2
        clear dz
        go_wp2_with fail
        (try simp only [Exit.inBlock, Exit.then])
        refine ret_tk Tryz.results31 S2.out.h0 rfl rfl ?_
        refine ⟨tk_below S2.out.b, ?_⟩
        rw [HN.out]
        exact ⟨t, rfl⟩
      | ok t n =>
        rw [hr] at HR HEE
        have HN : Hid (X = some (t, n)) := Lib.hid HEE.symm
        clear hr HEE
        have cr : wr.cell? ⟨w.heap.size + 1, 3, none⟩ = some (.iface 138 (.agg #[])) := by unfold World.cell?; dsimp only; rw [HS.out.h1]; rfl
        have mt := m91
        go_wp2_with fail
        refine HR.out.mono ?_
        rintro e w2 ⟨b2, rfl⟩
        have S2 := Lib.hid ((HS.out.up b2).box (.cells #[.int .u8 t.k, .string t.s, .int .i64 t.a] 59))
        clear b2 cr mt
        obtain ⟨d0, d1, d2, dz⟩ := tok_cells S2.out.h0
        have dz0 := dz 0
        have dz1 := dz 1
        have dz2 := dz 2
        clear dz
        go_wp2_with fail
        (try simp only [Exit.inBlock, Exit.then])
        refine ret_tk Tryz.results31 S2.out.h0 rfl rfl ?_
        refine ⟨tk_below S2.out.b, ?_⟩
        rw [HN.out]
    · obtain ⟨d0, d1, d2, dz⟩ := tok_cells HS.out.h0
      have dz0 := dz 0
      have dz1 := dz 1
      have dz2 := dz 2
      clear dz
      go_wp2_with fail
      refine ret_tk Tryz.results31 HS.out.h0 rfl rfl ?_
      refine ⟨tk_below HS.out.b, ?_⟩
      rw [HE.out]
      exact ⟨⟨0, _, 0⟩, rfl⟩
end Go.Proofs.YtmkkckhfdafjnaaGreatDoor
/- Layer 17, Lex: what counts for nothing. -/
namespace Go.Proofs.YtmkkckhfdafjnaaGreatDoor
open Go.RowKit Go.Maps
theorem bkF_step {s : ByteArray} {f j : Nat} {ins : Bool} (h : 1 ≤ f) : bkF s f j ins = if s.size ≤ j then (j, false) else if byt s j = 10 ∨ byt s j = 13 then bkF s (f - 1) (j + 1) false else if ins = true ∧ byt s j < 32 ∧ byt s j ≠ 9 then (j, true) else if ins = true ∨ byt s j = 32 ∨ byt s j = 9 ∨ byt s j = 44 then bkF s (f - 1) (j + 1) ins else if byt s j = 35 then bkF s (f - 1) (j + 1) true else if byt s j = 239 ∧ byt s (j + 1) = 187 ∧ byt s (j + 2) = 191 then bkF s (f - 1) (j + 3) ins else (j, false) := by
  match f, h with
  | f + 1, _ => rfl
set_option maxRecDepth 20000 in
set_option maxHeartbeats 4000000 in
theorem blank_any (s : ByteArray) (a : Nat) (w : World) (ha : a ≤ s.size) (hs : s.size ≤ 1000000) : Calls Tryz.prog 29 #[.string s, .int .i64 a] w fun e w' => e = .returned (.tuple #[.int .i64 (bk s a).1, .bool (bk s a).2]) ∧ w' = w := by
  obtain ⟨X, hX⟩ : ∃ X, X = bk s a := ⟨_, rfl⟩
  rw [← hX]
  have HX : Hid (bkF s (s.size - a + 1) a false = X) := Lib.hid hX.symm
  have hsi : (s.size : Int) ≤ 1000000 := by omega
  have HPF := Lib.hid (fun j W => Tryz.strings_HasPrefix (s.extract j s.size) ⟨#[239, 187, 191]⟩ W)
  have HP3 : Hid (∀ j, Lib.hasPrefix (s.extract j s.size).data.toList (⟨#[239, 187, 191]⟩ : ByteArray).data.toList = decide (byt s j = 239 ∧ byt s (j + 1) = 187 ∧ byt s (j + 2) = 191)) := Lib.hid (fun j => pre3 s j 239 187 191 (by decide))
  clear hX
  go_enter Tryz.func29, Tryz.ntmps29
  go_wp2_with fail
  go_loopg [1, 6, 7] (s.size - a + 1) (fun f v1 v6 _ wr => ∃ (j : Nat) (ins : Bool), s.size - j + 1 ≤ f ∧ j ≤ s.size ∧ v1 = .int .i64 j ∧ v6 = .bool ins ∧ Hid (bkF s f j ins = X) ∧ Hid (wr = w))
  case atStart => exact ⟨a, false, by omega, ha, rfl, rfl, HX, Lib.hid rfl⟩
  case round =>
    obtain ⟨j, ins, hf, hj, rfl, rfl, HQ, HW⟩ := hrel
    obtain rfl := HW.out
    have hj0 : (0 : Int) ≤ j := by omega
    have hst := HQ.out
    rw [bkF_step (by omega)] at hst
    by_cases hlt : j < s.size
    · have hji : (j : Int) < s.size := by omega
      have hbe : (s[j].toNat : Int) = byt s j := byt_eq s j hlt
      rw [if_neg (by omega)] at hst
      by_cases h10 : byt s j = 10 ∨ byt s j = 13
      · rw [if_pos h10] at hst
        have HO := Lib.hid hst
        have HQQ : Hid (((s[j].toNat : Int) == 10) = true ∨ (((s[j].toNat : Int) == 10) = false ∧ ((s[j].toNat : Int) == 13) = true)) := Lib.hid (by
          rw [hbe]
          rcases h10 with e | e
          · rw [e]; exact .inl rfl
          · rw [e]; exact .inr ⟨rfl, rfl⟩)
        clear hst hbe h10
        rcases HQQ.out with q1 | ⟨q1, q2⟩
        all_goals
          clear HQQ
          go_wp2_with fail
          go_roundg (gk - 1)
          case rel => exact ⟨j + 1, false, by omega, by omega, by go_num, rfl, HO, Lib.hid rfl⟩
          case measure => omega
      rw [if_neg h10] at hst
      have q10 : ((s[j].toNat : Int) == 10) = false := by rw [hbe]; exact beq_eq_false_iff_ne.2 (fun e => h10 (.inl e))
      have q13 : ((s[j].toNat : Int) == 13) = false := by rw [hbe]; exact beq_eq_false_iff_ne.2 (fun e => h10 (.inr e))
      cases ins with
      | true =>
        by_cases hc : byt s j < 32 ∧ byt s j ≠ 9
        · rw [if_pos ⟨rfl, hc⟩] at hst
          have q4 : (s[j].toNat : Int) < 32 := by rw [hbe]; exact hc.1
          have q5 : ((s[j].toNat : Int) != 9) = true := by rw [hbe]; simp [hc.2]
          have HO := Lib.hid hst
          clear hst h10 hbe hc
          go_wp2_with fail
          go_ret2
          rw [← HO.out]
          exact ⟨rfl, rfl⟩
        · rw [if_neg (fun e => hc e.2), if_pos (.inl rfl)] at hst
          have HQQ : Hid ((¬ (s[j].toNat : Int) < 32) ∨ ((s[j].toNat : Int) < 32 ∧ ((s[j].toNat : Int) != 9) = false)) := Lib.hid (by
            rw [hbe]
            by_cases e : byt s j < 32
            · exact .inr ⟨e, by
                by_cases e9 : byt s j = 9
                · rw [e9]; rfl
                · exact absurd ⟨e, e9⟩ hc⟩
            · exact .inl e)
          have HO := Lib.hid hst
          clear hst h10 hbe hc
          rcases HQQ.out with q4 | ⟨q4, q5⟩
          all_goals
            clear HQQ
            go_wp2_with fail
            go_roundg (gk - 1)
            case rel => exact ⟨j + 1, true, by omega, by omega, by go_num, rfl, HO, Lib.hid rfl⟩
            case measure => omega
      | false =>
        rw [if_neg (fun e => by cases e.1)] at hst
        by_cases hbl : byt s j = 32 ∨ byt s j = 9 ∨ byt s j = 44
        · rw [if_pos (.inr hbl)] at hst
          have HO := Lib.hid hst
          have HQQ : Hid (((s[j].toNat : Int) == 32) = true ∨ (((s[j].toNat : Int) == 32) = false ∧ ((s[j].toNat : Int) == 9) = true) ∨ (((s[j].toNat : Int) == 32) = false ∧ ((s[j].toNat : Int) == 9) = false ∧ ((s[j].toNat : Int) == 44) = true)) := Lib.hid (by
            rw [hbe]
            rcases hbl with e | e | e
            · rw [e]; exact .inl rfl
            · rw [e]; exact .inr (.inl ⟨rfl, rfl⟩)
            · rw [e]; exact .inr (.inr ⟨rfl, rfl, rfl⟩))
          clear hst h10 hbe hbl
          rcases HQQ.out with q1 | ⟨q1, q2⟩ | ⟨q1, q2, q3⟩
          all_goals
            clear HQQ
            go_wp2_with fail
            go_roundg (gk - 1)
            case rel => exact ⟨j + 1, false, by omega, by omega, by go_num, rfl, HO, Lib.hid rfl⟩
            case measure => omega
        rw [if_neg (by rintro (e | e); cases e; exact hbl e)] at hst
        have q32 : ((s[j].toNat : Int) == 32) = false := by rw [hbe]; exact beq_eq_false_iff_ne.2 (fun e => hbl (.inl e))
        have q9 : ((s[j].toNat : Int) == 9) = false := by rw [hbe]; exact beq_eq_false_iff_ne.2 (fun e => hbl (.inr (.inl e)))
        have q44 : ((s[j].toNat : Int) == 44) = false := by rw [hbe]; exact beq_eq_false_iff_ne.2 (fun e => hbl (.inr (.inr e)))
        by_cases h35 : byt s j = 35
        · rw [if_pos h35] at hst
          have q35 : ((s[j].toNat : Int) == 35) = true := by rw [hbe, h35]; rfl
          have HO := Lib.hid hst
          clear hst h10 hbe hbl h35
          go_wp2_with fail
          go_roundg (gk - 1)
          case rel => exact ⟨j + 1, true, by omega, by omega, by go_num, rfl, HO, Lib.hid rfl⟩
          case measure => omega
        rw [if_neg h35] at hst
        have q35 : ((s[j].toNat : Int) == 35) = false := by rw [hbe]; exact beq_eq_false_iff_ne.2 h35
        have HPJ := Lib.hid (HPF.out j wr)
        rw [HP3.out j] at HPJ
        by_cases h3 : byt s j = 239 ∧ byt s (j + 1) = 187 ∧ byt s (j + 2) = 191
        · rw [if_pos h3] at hst
          rw [decide_eq_true h3] at HPJ
          have h2 : j + 2 < s.size := byt_in (by rw [h3.2.2]; decide)
          have HO := Lib.hid hst
          clear hst h10 hbe hbl h35 h3
          go_wp2_with fail
          refine HPJ.out.mono ?_
          rintro e w1 ⟨rfl, hw⟩
          obtain rfl := hw.symm
          go_wp2_with fail
          go_roundg (gk - 1)
          case rel => exact ⟨j + 3, false, by omega, by omega, by go_num, rfl, HO, Lib.hid rfl⟩
          case measure => omega
        · rw [if_neg h3] at hst
          rw [decide_eq_false h3] at HPJ
          have HO := Lib.hid hst
          clear hst h10 hbe hbl h35 h3
          go_wp2_with fail
          refine HPJ.out.mono ?_
          rintro e w1 ⟨rfl, hw⟩
          obtain rfl := hw.symm
          go_wp2_with fail
          go_ret2
          rw [← HO.out]
          exact ⟨rfl, rfl⟩
    · obtain rfl : j = s.size := by omega
      rw [if_pos (Nat.le_refl _)] at hst
      have HO := Lib.hid hst
      clear hst
      go_wp2_with fail
      go_ret2
      rw [← HO.out]
      exact ⟨rfl, rfl⟩
end Go.Proofs.YtmkkckhfdafjnaaGreatDoor
/- Layer 17: Lex. -/
namespace Go.Proofs.YtmkkckhfdafjnaaGreatDoor
open Go.RowKit Go.Maps
theorem bkF_le {s : ByteArray} : ∀ (f j : Nat) (ins : Bool), j ≤ s.size → j ≤ (bkF s f j ins).1 ∧ (bkF s f j ins).1 ≤ s.size
  | 0, j, ins, h => ⟨Nat.le_refl _, h⟩
  | f + 1, j, ins, h => by
    unfold bkF
    split
    · exact ⟨Nat.le_refl _, h⟩
    rename_i hlt
    split
    · have := bkF_le (s := s) f (j + 1) false (by omega); omega
    split
    · exact ⟨Nat.le_refl _, h⟩
    split
    · have := bkF_le (s := s) f (j + 1) ins (by omega); omega
    split
    · have := bkF_le (s := s) f (j + 1) true (by omega); omega
    split
    · rename_i h3
      have h2 : j + 2 < s.size := byt_in (by rw [h3.2.2]; decide)
      have := bkF_le (s := s) f (j + 3) ins (by omega); omega
    · exact ⟨Nat.le_refl _, h⟩
theorem bk_le {s : ByteArray} {j : Nat} (h : j ≤ s.size) : j ≤ (bk s j).1 ∧ (bk s j).1 ≤ s.size := bkF_le _ _ _ h
theorem wd_range {s : ByteArray} : ∀ (n j : Nat), s.size - j ≤ n → j ≤ s.size → j ≤ wd s j ∧ wd s j ≤ s.size := by
  intro n
  induction n with
  | zero =>
    intro j hn hj
    rw [wd_stop (by rw [byt_end (by omega)]; rfl)]
    exact ⟨Nat.le_refl _, hj⟩
  | succ n ih =>
    intro j hn hj
    cases hw : wcI (byt s j) with
    | false => rw [wd_stop hw]; exact ⟨Nat.le_refl _, hj⟩
    | true =>
      have hin : j < s.size := byt_in (by intro e; rw [e] at hw; exact absurd hw (by decide))
      rw [wd_step hw]
      have := ih (j + 1) (by omega) (by omega)
      omega
theorem tok_ok {s : ByteArray} {a k : Nat} {t : TkR} (ha : a < s.size) (h : tokM s a = some (t, k)) : a < k ∧ k ≤ s.size := by
  unfold tokM at h
  have h1 : ∀ t k, namR s a = .ok t k → a < k ∧ k ≤ s.size := by
    intro t k e
    unfold namR at e
    split at e
    · cases e
      have := wd_range (s := s) _ (a + 1) (Nat.le_refl _) (by omega)
      omega
    · cases e
  have h2 : ∀ t k, intR s a = .ok t k → a < k ∧ k ≤ s.size := by
    intro t k e
    unfold intR at e
    split at e
    · split at e
      · cases e
      · cases e
        have := dg_ge s (a + 1)
        have := dg_le (s := s) (i := a + 1) (by omega)
        omega
    · cases e
  have h3 : ∀ t k, txtR s a = .ok t k → a < k ∧ k ≤ s.size := by
    intro t k e
    unfold txtR at e
    split at e
    · unfold txt1 at e
      cases hq : quM s a with
      | none => rw [hq] at e; cases e
      | some n =>
        rw [hq] at e
        dsimp only at e
        have := quM_ok hq
        unfold txt2 at e
        split at e
        · cases e
        · split at e
          · cases e
          · cases e; exact this
    · cases e
  have h4 : ∀ t k, mrkR s a = .ok t k → a < k ∧ k ≤ s.size := by
    intro t k e
    unfold mrkR at e
    split at e
    · rename_i h
      have : a + 2 < s.size := byt_in (by rw [h.2.2]; decide)
      cases e; omega
    · split at e
      · cases e; omega
      · cases e
  cases e1 : namR s a with
  | bad => rw [e1] at h; cases h
  | ok t' k' => rw [e1] at h; cases h; exact h1 _ _ e1
  | no =>
    rw [e1] at h
    cases e2 : intR s a with
    | bad => rw [e2] at h; cases h
    | ok t' k' => rw [e2] at h; cases h; exact h2 _ _ e2
    | no =>
      rw [e2] at h
      cases e3 : txtR s a with
      | bad => rw [e3] at h; cases h
      | ok t' k' => rw [e3] at h; cases h; exact h3 _ _ e3
      | no =>
        rw [e3] at h
        cases e4 : mrkR s a with
        | bad => rw [e4] at h; cases h
        | ok t' k' => rw [e4] at h; cases h; exact h4 _ _ e4
        | no => rw [e4] at h; cases h
/-- Tokens as a row's. -/
def gt (L : List TkR) : Nat → TkR := fun i => L.getD i ⟨0, ⟨#[]⟩, 0⟩
theorem rw3_eq {g h : Nat → TkR} : ∀ n, (∀ i, i < n → g i = h i) → rw3 g n = rw3 h n
  | 0, _ => rfl
  | n + 1, e => by
    show rw3 g n ++ _ = rw3 h n ++ _
    rw [rw3_eq n (fun i hi => e i (by omega)), e n (by omega)]
theorem rw3_snoc (L : List TkR) (t : TkR) : rw3 (gt (L ++ [t])) (L.length + 1) = rw3 (gt L) L.length ++ [.int .u8 t.k, .string t.s, .int .i64 t.a] := by
  show rw3 (gt (L ++ [t])) L.length ++ _ = _
  rw [rw3_eq (h := gt L) L.length (fun i hi => by unfold gt; simp [List.getD_eq_getElem?_getD, List.getElem?_append, hi])]
  have e : gt (L ++ [t]) L.length = t := by unfold gt; simp [List.getD_eq_getElem?_getD]
  rw [e]
/-- What Lex ends in. -/
def LxP (w : World) (x : LxR) (e : Ending) (w' : World) : Prop := Below w.heap.size w w' ∧ match x with
  | .ok l => ∃ v, e = .returned (.tuple #[v, .int .i64 0, .int .i64 0]) ∧ w'.ownsRow w.heap.size 59 3 v l.length (rw3 (gt l) l.length)
  | .bad p m => e = .returned (.tuple #[.slice none 0 0, .int .i64 p, .int .i64 m])
theorem at_cell {w : World} {b : Nat} {x : Int} (hg : w.heap[b]? = some (.cells #[.int .i64 x] 72)) : w.cell? ⟨b, 0, none⟩ = some (.int .i64 x) ∧ w.frozen? ⟨b, 0, none⟩ = false := by
  refine ⟨?_, by simp [World.frozen?, hg]⟩
  unfold World.cell?; dsimp only; rw [hg]; rfl
set_option maxRecDepth 20000 in
theorem fuel_store (b : Nat) (x : Int) (w : World) (hg : w.heap[b]? = some (.cells #[.int .i64 x] 72)) : Calls Tryz.prog 28 #[.pointer (some ⟨b, 0, none⟩), .int .i64 1024] w fun e w' => e = .returned (.tuple #[]) ∧ w' = w.setCell ⟨b, 0, none⟩ (.int .i64 1024) := by
  obtain ⟨hc, hz⟩ := at_cell hg
  have hd := run_call_store (P := Tryz.prog) Tryz.func47 (by kernel_rfl) (by kernel_rfl) (by kernel_rfl) (by kernel_rfl) (a := ⟨b, 0, none⟩) (k := .i64) (y := 1024) hc hz
  clear hg
  go_enter Tryz.func28, Tryz.ntmps28
  go_wp2
  go_end0
  exact ⟨rfl, rfl⟩
set_option maxRecDepth 20000 in
theorem fuel_add (b : Nat) (x : Int) (w : World) (h0 : 0 ≤ x) (h1 : x ≤ 2000) (hg : w.heap[b]? = some (.cells #[.int .i64 x] 72)) : Calls Tryz.prog 30 #[.pointer (some ⟨b, 0, none⟩), .int .i64 (-1)] w fun e w' => e = .returned (.int .i64 (x - 1)) ∧ w' = w.setCell ⟨b, 0, none⟩ (.int .i64 (x - 1)) := by
  obtain ⟨hc, hz⟩ := at_cell hg
  have hs : (Op.intArith .add .i64 x (-1)).run Tryz.prog w = .ok (.int .i64 (x - 1)) w := by
    have e : IntKind.i64.wrap (x + -1) = x - 1 := by rw [IntKind.wrap_i64]; omega
    simp [go_sem, e]
  have hd := run_call_add (P := Tryz.prog) Tryz.func49 (by kernel_rfl) (by kernel_rfl) (by kernel_rfl) .i64 (by kernel_rfl) (a := ⟨b, 0, none⟩) (x := x) (y := -1) (s := x - 1) hc hz hs
  clear hg hs
  go_enter Tryz.func30, Tryz.ntmps30
  go_wp2
  go_ret
  exact ⟨rfl, rfl⟩
end Go.Proofs.YtmkkckhfdafjnaaGreatDoor
/- Layer 17: Lex, the walk. -/
namespace Go.Proofs.YtmkkckhfdafjnaaGreatDoor
open Go.RowKit Go.Maps
theorem lexF_step0 {s : ByteArray} {i : Nat} {L : List TkR} : lexF s 0 i L = if (bk s i).2 = true then .bad (bk s i).1 170 else if (bk s i).1 = s.size then .ok (L ++ [⟨0, ⟨#[]⟩, (bk s i).1⟩]) else .bad (bk s i).1 171 := rfl
theorem lexF_step {s : ByteArray} {n i : Nat} {L : List TkR} : lexF s (n + 1) i L = if (bk s i).2 = true then .bad (bk s i).1 170 else if (bk s i).1 = s.size then .ok (L ++ [⟨0, ⟨#[]⟩, (bk s i).1⟩]) else lexK (bk s i).1 (tokM s (bk s i).1) (fun t k => lexF s n k (L ++ [t])) := rfl
theorem news_at2 (w : World) (cs : Array Value) (t : TypeId) (L : List Value) {b : Nat} (h : cs.toList = L) (hb : b = w.heap.size) : ∀ j u, L[j]? = some u → (w.alloc (.cells cs t)).cell? ((⟨b, 0, none⟩ : Addr).add j) = some u := by
  subst hb
  exact news_at w cs t L h
/-- Within Lex: the fuel, and the tokens' row. -/
structure LxS (w W : World) (N n : Nat) (v : Value) (L : List TkR) : Prop where
  b : Below w.heap.size w W
  fu : W.heap[N]? = some (.cells #[.int .i64 n] 72)
  lo : w.heap.size ≤ N
  own : W.ownsRow (N + 1) 59 3 v L.length (rw3 (gt L) L.length)
theorem LxS.up {w W W' : World} {N n : Nat} {v : Value} {L : List TkR} (h : LxS w W N n v L) (b : Below W.heap.size W W') : LxS w W' N n v L :=
  ⟨h.b.trans (b.mono h.b.size), by rw [b.block _ (Array.getElem?_eq_some_iff.1 h.fu).1]; exact h.fu, h.lo, own_below h.own b⟩
theorem LxS.box {w W : World} {N n : Nat} {v : Value} {L : List TkR} (h : LxS w W N n v L) (o : Obj) : LxS w (W.alloc o) N n v L := h.up ((Below.refl _ _).alloc (Nat.le_refl _) _)
theorem LxS.burn {w W : World} {N n m : Nat} {v : Value} {L : List TkR} {y : Int} (h : LxS w W N n v L) (hy : y = (m : Nat)) : LxS w (W.setCell ⟨N, 0, none⟩ (.int .i64 y)) N m v L := by
  subst hy
  have hk : ∀ k, k ≠ N → (W.setCell ⟨N, 0, none⟩ (.int .i64 m)).heap[k]? = W.heap[k]? := fun k hk => Below.heap_setCell W ⟨N, 0, none⟩ _ k hk
  refine ⟨h.b.trans ⟨rfl, rfl, rfl, by simp, fun k hk' => hk k (by have := h.lo; omega)⟩, by simp [World.setCell, Array.getElem?_modify, h.fu], h.lo, ?_⟩
  refine ⟨h.own.1, ?_⟩
  rcases h.own.2 with h1 | ⟨g, cap, cur, e, hg, hc, rest⟩
  · exact .inl h1
  · exact .inr ⟨g, cap, cur, e, hg, by rw [hk g (by omega)]; exact hc, rest⟩
theorem LxS.add {w W W' : World} {N n : Nat} {v v' : Value} {L : List TkR} {t : TkR} {o : Obj} (h : LxS w W N n v L) (ho : W'.ownsRow (N + 1) 59 3 v' (L.length + 1) (rw3 (gt L) L.length ++ [.int .u8 t.k, .string t.s, .int .i64 t.a])) (hg : (W.alloc o).grownBy W' v.ownBlock) : LxS w W' N n v' (L ++ [t]) := by
  have hs : (W.alloc o).heap.size = W.heap.size + 1 := by simp
  have hN := (Array.getElem?_eq_some_iff.1 h.fu).1
  have kept : ∀ k, k < W.heap.size → v.ownBlock ≠ some k → W'.heap[k]? = W.heap[k]? := fun k h1 h2 => (hg.block k (by omega) (fun e => h2 e.symm)).trans (heap_alloc_old _ _ h1)
  refine ⟨⟨hg.os.trans h.b.os, hg.tape.trans h.b.tape, hg.output.trans h.b.output, Nat.le_trans h.b.size (Nat.le_trans (by omega) hg.size), fun k hk => ?_⟩, ?_, h.lo, ?_⟩
  · rw [kept k (Nat.lt_of_lt_of_le hk h.b.size) (fun e => by have := (h.own.lt k e).1; have := h.lo; omega)]
    exact h.b.block k hk
  · rw [kept N hN (fun e => by have := (h.own.lt N e).1; omega)]
    exact h.fu
  · rw [List.length_append, List.length_singleton, rw3_snoc]
    exact ho
set_option maxRecDepth 20000 in
set_option maxHeartbeats 0 in
theorem lex_any (s : ByteArray) (w : World) (hc : LxC w) (hs : s.size ≤ 1000000) : Calls Tryz.prog 6 #[.string s] w (LxP w (lexM s)) := by
  obtain ⟨i0, hin, hz0, hz1, hz2⟩ := infoT
  have HCK := Lib.hid (check_any s w (by unfold maxLen; omega))
  by_cases h0 : ckE s = 0
  · have HX0 : Hid (lexM s = lexF s 1024 0 []) := Lib.hid (by unfold lexM; rw [if_neg (by omega)])
    obtain ⟨X, hX⟩ : ∃ X, X = lexM s := ⟨_, rfl⟩
    rw [← hX] at HX0 ⊢
    rw [h0] at HCK
    have HBK := Lib.hid (fun i W (h : i ≤ s.size) => blank_any s i W h hs)
    have HTK := Lib.hid (fun i W (b : Below w.heap.size w W) (h : i < s.size) => token_any s i W (hc.up b) h hs)
    have hsi : (s.size : Int) ≤ 1000000 := by omega
    clear hX h0 hc
    go_enter Tryz.func6, Tryz.ntmps6
    go_wp2_with fail
    refine HCK.out.mono ?_
    rintro e w1 ⟨rfl, b1⟩
    have B1 := Lib.hid b1
    clear b1
    go_wp2_with fail
    obtain ⟨N, hN⟩ : ∃ N, N = w1.heap.size := ⟨_, rfl⟩
    have hg1 : (w1.alloc (.cells #[.int .i64 0] 72)).heap[N]? = some (.cells #[.int .i64 0] 72) := by rw [hN, heap_alloc_new]
    have HFS := Lib.hid (fuel_store N 0 _ hg1)
    have S0 : Hid (LxS w (w1.alloc (.cells #[.int .i64 0] 72)) N 0 (.slice none 0 0) []) := Lib.hid ⟨B1.out.alloc B1.out.size _, hg1, by rw [hN]; exact B1.out.size, World.ownsRow_nil _ _ _ _⟩
    rw [← hN]
    clear hN hg1
    refine HFS.out.mono ?_
    rintro e w2 ⟨rfl, hw2⟩
    have S1 : Hid (LxS w w2 N 1024 (.slice none 0 0) []) := Lib.hid (by rw [hw2]; exact S0.out.burn (m := 1024) rfl)
    clear hw2 S0 HFS
    go_wp2_with fail
    go_loopg [2, 3, 7, 8, 9] 1025 (fun f v2 v3 _ _ _ wr => ∃ (n i : Nat) (L : List TkR) (vl : Value), n + 1 ≤ f ∧ n ≤ 1024 ∧ i ≤ s.size ∧ L.length + n ≤ 1024 ∧ v3 = .int .i64 i ∧ vl = v2 ∧ Hid (LxS w wr N n vl L) ∧ Hid (lexF s n i L = X))
    case atStart => exact ⟨1024, 0, [], _, by omega, by omega, Nat.zero_le _, by simp, rfl, rfl, S1, Lib.hid HX0.out.symm⟩
    case round =>
      obtain ⟨n, i, L, vl, hf, hn, hi, hLn, rfl, rfl, HS, HE⟩ := hrel
      have HB := Lib.hid (HBK.out i wr hi)
      have hle := bk_le hi
      have hst := HE.out
      obtain ⟨j, hj⟩ : ∃ j, j = (bk s i).1 := ⟨_, rfl⟩
      obtain ⟨br, hbr⟩ : ∃ br, br = (bk s i).2 := ⟨_, rfl⟩
      rw [← hj, ← hbr] at HB
      rw [← hj] at hle
      have hji : (j : Int) ≤ 1000000 := by omega
      have hni : (n : Int) ≤ 1024 := by omega
      cases hbb : br with
      | true =>
        rw [hbb] at HB
        have HF : Hid (X = .bad j 170) := Lib.hid (by
          rw [← hst]
          cases n with
          | zero => rw [lexF_step0, ← hj, ← hbr, if_pos hbb]
          | succ m => rw [lexF_step, ← hj, ← hbr, if_pos hbb])
        clear hst hj hbr hbb HE
        go_wp2_with fail
        refine HB.out.mono ?_
        rintro e w3 ⟨rfl, hw⟩
        obtain rfl := hw.symm
        go_wp2_with fail
        go_ret3
        rw [HF.out]
        exact ⟨HS.out.b, rfl⟩
      | false =>
        rw [hbb] at HB
        by_cases hjs : j = s.size
        · have HF : Hid (X = .ok (L ++ [⟨0, ⟨#[]⟩, j⟩])) := Lib.hid (by
            rw [← hst]
            cases n with
            | zero => rw [lexF_step0, ← hj, ← hbr, if_neg (by rw [hbb]; decide), if_pos hjs]
            | succ m => rw [lexF_step, ← hj, ← hbr, if_neg (by rw [hbb]; decide), if_pos hjs])
          have hq : ((j : Int) == s.size) = true := by simp [hjs]
          clear hst hj hbr hbb HE hjs
          go_wp2_with fail
          refine HB.out.mono ?_
          rintro e w3 ⟨rfl, hw⟩
          obtain rfl := hw.symm
          go_wp2_with (at_builtin; go_loud (refine wpList_append_own _ rfl _ _ 22 rfl (N + 1) 59 i0 (.agg #[.int .u8 0, .string ⟨#[]⟩, .int .i64 0]) 3 32 Tryz.underlying22 hin hz0 hz1 hz2 rfl (by decide) _ L.length (rw3 (gt L) L.length) rfl (HS.out.own.alloc _) ⟨wr.heap.size, 0, none⟩ 1 1 [.int .u8 0, .string ⟨#[]⟩, .int .i64 j] rfl rfl (news_at2 _ _ _ _ rfl (by simp)) (by intro u hu; simp at hu; rcases hu with rfl | rfl | rfl <;> rfl) (by unfold maxLen; omega) (by omega) (by have := (Array.getElem?_eq_some_iff.1 HS.out.fu).1; (try simp only [Array.size_push] at this); (try simp at this); simp; omega) ?_; intro v' w' ho hg _; have T6 := Lib.hid (HS.out.add (t := ⟨0, ⟨#[]⟩, j⟩) ho hg); clear ho hg))
          go_ret3
          rw [HF.out]
          refine ⟨T6.out.b, _, rfl, ?_⟩
          have := T6.out.lo
          exact own_base T6.out.own (by omega)
        · have hq : ((j : Int) == s.size) = false := beq_eq_false_iff_ne.2 (by omega)
          have hjlt : j < s.size := by omega
          cases n with
          | zero =>
            have HF : Hid (X = .bad j 171) := Lib.hid (by rw [← hst, lexF_step0, ← hj, ← hbr, if_neg (by rw [hbb]; decide), if_neg hjs])
            have HFA := Lib.hid (fuel_add N ((0 : Nat) : Int) _ (by decide) (by decide) HS.out.fu)
            have S4 := Lib.hid (fun (y : Int) => HS.out.b.trans (⟨rfl, rfl, rfl, by simp, fun k hk => Below.heap_setCell wr ⟨N, 0, none⟩ (.int .i64 y) k (by have := HS.out.lo; dsimp only; omega)⟩ : Below w.heap.size wr (wr.setCell ⟨N, 0, none⟩ (.int .i64 y))))
            clear hst hj hbr hbb HE hjs
            go_wp2_with fail
            refine HB.out.mono ?_
            rintro e w3 ⟨rfl, hw⟩
            obtain rfl := hw.symm
            go_wp2_with fail
            refine HFA.out.mono ?_
            rintro e w4 ⟨rfl, rfl⟩
            go_wp2_with fail
            go_ret3
            rw [HF.out]
            exact ⟨S4.out _, rfl⟩
          | succ m =>
            have HLF : Hid (X = lexK j (tokM s j) (fun t k => lexF s m k (L ++ [t]))) := Lib.hid (by rw [← hst, lexF_step, ← hj, ← hbr, if_neg (by rw [hbb]; decide), if_neg hjs])
            have HFA := Lib.hid (fuel_add N ((m + 1 : Nat) : Int) _ (by omega) (by omega) HS.out.fu)
            have S4 := Lib.hid (HS.out.burn (m := m) (y := ((m + 1 : Nat) : Int) - 1) (by omega))
            obtain ⟨w4, hw4⟩ : ∃ w4, w4 = wr.setCell ⟨N, 0, none⟩ (.int .i64 (((m + 1 : Nat) : Int) - 1)) := ⟨_, rfl⟩
            rw [← hw4] at HFA S4
            have hm0 : ¬ ((m + 1 : Nat) : Int) - 1 < 0 := by omega
            have HT4 := Lib.hid (HTK.out j w4 S4.out.b hjlt)
            have HTO := Lib.hid (fun t k => tok_ok (s := s) (a := j) (k := k) (t := t) hjlt)
            clear hst hj hbr hbb HE hjs hw4
            cases ht : tokM s j with
            | none =>
              rw [ht] at HT4 HLF
              have HF : Hid (X = .bad j 170) := HLF
              clear ht HTO HLF
              go_wp2_with fail
              refine HB.out.mono ?_
              rintro e w3 ⟨rfl, hw⟩
              obtain rfl := hw.symm
              go_wp2_with fail
              refine HFA.out.mono ?_
              rintro e w5 ⟨rfl, hw⟩
              obtain rfl := hw.symm
              go_wp2_with fail
              refine HT4.out.mono ?_
              rintro e w5 ⟨b5, tt, rfl⟩
              have S5 := Lib.hid ((S4.out.up b5).box (.cells #[.int .u8 tt.k, .string tt.s, .int .i64 tt.a] 59))
              clear b5
              go_wp2_with fail
              go_ret3
              rw [HF.out]
              exact ⟨S5.out.b, rfl⟩
            | some y =>
              obtain ⟨tt, k⟩ := y
              obtain ⟨hk1, hk2⟩ := HTO.out tt k ht
              rw [ht] at HT4 HLF
              have HF : Hid (lexF s m k (L ++ [tt]) = X) := Lib.hid HLF.out.symm
              have hkj : ((k : Int) == j) = false := beq_eq_false_iff_ne.2 (by omega)
              clear ht HTO HLF
              go_wp2_with fail
              refine HB.out.mono ?_
              rintro e w3 ⟨rfl, hw⟩
              obtain rfl := hw.symm
              go_wp2_with fail
              refine HFA.out.mono ?_
              rintro e w5 ⟨rfl, hw⟩
              obtain rfl := hw.symm
              go_wp2_with fail
              refine HT4.out.mono ?_
              rintro e w5 ⟨b5, rfl⟩
              have S5 := Lib.hid ((S4.out.up b5).box (.cells #[.int .u8 tt.k, .string tt.s, .int .i64 tt.a] 59))
              clear b5
              go_wp2_with (at_builtin; go_loud (refine wpList_append_own _ rfl _ _ 22 rfl (N + 1) 59 i0 (.agg #[.int .u8 0, .string ⟨#[]⟩, .int .i64 0]) 3 32 Tryz.underlying22 hin hz0 hz1 hz2 rfl (by decide) _ L.length (rw3 (gt L) L.length) rfl (S5.out.own.alloc _) ⟨w5.heap.size + 1, 0, none⟩ 1 1 [.int .u8 tt.k, .string tt.s, .int .i64 tt.a] rfl rfl (news_at2 _ _ _ _ rfl (by simp)) (by intro u hu; simp at hu; rcases hu with rfl | rfl | rfl <;> rfl) (by unfold maxLen; omega) (by omega) (by have := (Array.getElem?_eq_some_iff.1 S5.out.fu).1; (try simp only [Array.size_push] at this); (try simp at this); simp; omega) ?_; intro v' w' ho hg _; have T6 := Lib.hid (S5.out.add (t := tt) ho hg); clear ho hg))
              go_roundg (gk - 1)
              case rel => exact ⟨m, k, L ++ [tt], _, by omega, by omega, hk2, by rw [List.length_append, List.length_singleton]; omega, rfl, rfl, T6, HF⟩
              case measure => omega
  · have HX0 : Hid (lexM s = .bad 0 (ckE s)) := Lib.hid (by unfold lexM; rw [if_pos h0])
    obtain ⟨c, hc⟩ : ∃ c, c = ckE s := ⟨_, rfl⟩
    rw [← hc] at HCK HX0 h0
    have hb : (c != 0) = true := by simp [h0]
    clear h0 hc
    go_enter Tryz.func6, Tryz.ntmps6
    go_wp2_with fail
    refine HCK.out.mono ?_
    rintro e w1 ⟨rfl, b1⟩
    have B1 := Lib.hid b1
    clear b1
    go_wp2_with fail
    go_ret3
    rw [HX0.out]
    exact ⟨B1.out, rfl⟩
end Go.Proofs.YtmkkckhfdafjnaaGreatDoor
/- Layer 17: a token's text is read as that token (plain). -/
namespace Go.Proofs.YtmkkckhfdafjnaaGreatDoor
open Go.RowKit
/-- What may stand behind a token. -/
structure Fol (c : Int) : Prop where
  w : wcI c = false
  p : c ≠ 46
  q : c ≠ 34
end Go.Proofs.YtmkkckhfdafjnaaGreatDoor
/- Layer 17: a text's JSON is read as that text (plain). -/
namespace Go.Proofs.YtmkkckhfdafjnaaGreatDoor
open Go.RowKit
end Go.Proofs.YtmkkckhfdafjnaaGreatDoor
/- Layer 17: tokens that lie one behind the other are read (plain). -/
namespace Go.Proofs.YtmkkckhfdafjnaaGreatDoor
open Go.RowKit
/-- Tokens that lie from a place on, so many bytes ahead of each that count for nothing. -/
def Lay (s : ByteArray) : Nat → List (Nat × TkR) → Prop
  | i, [] => bk s i = (s.size, false)
  | i, y :: r => bk s i = (i + y.1, false) ∧ i + y.1 < s.size ∧ okT y.2 = true ∧ y.2.k ≠ 0 ∧ (tellT y.2).size ≤ 16384 ∧ AtL s (i + y.1) (bI (tellT y.2)) ∧ Fol (byt s (i + y.1 + (tellT y.2).size)) ∧ Lay s (i + y.1 + (tellT y.2).size) r
/-! ### What Join puts together -/
end Go.Proofs.YtmkkckhfdafjnaaGreatDoor
/- Layer 17: Same of two lists; the chapter's first examples. -/
namespace Go.Proofs.YtmkkckhfdafjnaaGreatDoor
open Go.RowKit Go.Maps
/-- A row of tokens of one's own. -/
def OwT (B : Nat) (w : World) (v : Value) (L : List TkR) : Prop := w.ownsRow B 59 3 v L.length (rw3 (gt L) L.length)
theorem OwT.len {B : Nat} {w : World} {v : Value} {L : List TkR} (h : OwT B w v L) : L.length ≤ maxLen := by
  rcases h.2 with ⟨_, hn⟩ | ⟨g, cap, cur, rfl, hb, hg, h1, h2, h3, h4⟩
  · rw [hn]; exact Nat.zero_le _
  · exact Nat.le_trans h1 h2
end Go.Proofs.YtmkkckhfdafjnaaGreatDoor
/- Layer 17: the law's helpers: mark, name, alive. -/
namespace Go.Proofs.YtmkkckhfdafjnaaGreatDoor
open Go.RowKit Go.Maps
theorem ret_mk {R : Ending → World → Prop} {fn : Func} {tmps : Array Value} {w : World} {g : Nat} {cs : Array Value} (hr : fn.results = #[.cell 2 59]) (h2 : tmps.getD 2 undef = .pointer (some ⟨g, 0, none⟩)) (hg : w.heap[g]? = some (.cells cs 59)) (hs : cs.size = 3)
    (hR : R (.returned (.agg cs)) w) : bodyPost Tryz.prog fn R .ret ⟨tmps, []⟩ w := by
  obtain ⟨i0, hin, hz0, hz1, hz2⟩ := infoT
  refine bodyPost_ret (v := .agg cs) ?_ rfl hR
  exact results_cell_row hr tmps w g 59 cs (0, 0) _ h2 hg Tryz.underlying59 rfl (by rw [hin]; simp [hz1, hs])
end Go.Proofs.YtmkkckhfdafjnaaGreatDoor
/- Layer 17: LexBack. -/
namespace Go.Proofs.YtmkkckhfdafjnaaGreatDoor
open Go.RowKit Go.Maps
end Go.Proofs.YtmkkckhfdafjnaaGreatDoor
/- Layer 17, plain: what is read, in order. -/
namespace Go.Proofs.YtmkkckhfdafjnaaGreatDoor
open Go.RowKit Go.Maps
end Go.Proofs.YtmkkckhfdafjnaaGreatDoor
/- Layer 17, plain: what is read may be. -/
namespace Go.Proofs.YtmkkckhfdafjnaaGreatDoor
open Go.RowKit Go.Maps
theorem ck_tw {t : ByteArray} (h : ckE t = 0) : t.size ≤ 16384 ∧ Tw t 0 t.size := by
  refine ⟨ckE_size h, ?_⟩
  unfold ckE at h
  rw [if_neg (by have := ckE_size h; omega)] at h
  cases e : isTx t with
  | false => rw [e] at h; cases h
  | true => exact isTx_tw e
end Go.Proofs.YtmkkckhfdafjnaaGreatDoor
/- Layer 17, plain: what stands behind a line's end counts for nothing for what stands ahead. -/
namespace Go.Proofs.YtmkkckhfdafjnaaGreatDoor
open Go.RowKit Go.Maps
/-- A text begins another; there its line ends. -/
structure Beg (a S : ByteArray) : Prop where
  lt : a.size < S.size
  same : ∀ j, j < a.size → byt S j = byt a j
  nl : byt S a.size = 10
  cut : ∀ i j, j ≤ a.size → S.extract i j = a.extract i j
theorem Beg.wdE {a S : ByteArray} (h : Beg a S) : ∀ (n j : Nat), a.size - j ≤ n → j ≤ a.size → wd S j = wd a j := by
  intro n
  induction n with
  | zero =>
    intro j hn hj
    obtain rfl : j = a.size := by omega
    rw [wd_stop (s := a) (by rw [byt_end (Nat.le_refl _)]; rfl), wd_stop (s := S) (by rw [h.nl]; rfl)]
  | succ n ih =>
    intro j hn hj
    by_cases hjl : j < a.size
    · cases hw : wcI (byt a j) with
      | true => rw [wd_step (s := a) hw, wd_step (s := S) (by rw [h.same j hjl]; exact hw), ih (j + 1) (by omega) (by omega)]
      | false => rw [wd_stop (s := a) hw, wd_stop (s := S) (by rw [h.same j hjl]; exact hw)]
    · obtain rfl : j = a.size := by omega
      rw [wd_stop (s := a) (by rw [byt_end (Nat.le_refl _)]; rfl), wd_stop (s := S) (by rw [h.nl]; rfl)]
theorem Beg.dgE {a S : ByteArray} (h : Beg a S) : ∀ (n j : Nat), a.size - j ≤ n → j ≤ a.size → dg S j = dg a j := by
  intro n
  induction n with
  | zero =>
    intro j hn hj
    obtain rfl : j = a.size := by omega
    rw [dg_stop (s := a) (by rw [byt_end (Nat.le_refl _)]; rfl), dg_stop (s := S) (by rw [h.nl]; rfl)]
  | succ n ih =>
    intro j hn hj
    by_cases hjl : j < a.size
    · cases hw : isDg (byt a j) with
      | true => rw [dg_step (s := a) hw, dg_step (s := S) (by rw [h.same j hjl]; exact hw), ih (j + 1) (by omega) (by omega)]
      | false => rw [dg_stop (s := a) hw, dg_stop (s := S) (by rw [h.same j hjl]; exact hw)]
    · obtain rfl : j = a.size := by omega
      rw [dg_stop (s := a) (by rw [byt_end (Nat.le_refl _)]; rfl), dg_stop (s := S) (by rw [h.nl]; rfl)]
/-- A byte that is neither none nor a line's end stands in both alike. -/
theorem Beg.iff {a S : ByteArray} (h : Beg a S) {j : Nat} (hj : j ≤ a.size) (p : Int → Prop) (p0 : ¬ p 0) (p1 : ¬ p 10) : p (byt S j) ↔ p (byt a j) := by
  by_cases hjl : j < a.size
  · rw [h.same j hjl]
  · obtain rfl : j = a.size := by omega
    rw [h.nl, byt_end (Nat.le_refl _)]
    exact ⟨fun k => absurd k p1, fun k => absurd k p0⟩
theorem Beg.quFE {a S : ByteArray} (h : Beg a S) : ∀ (f f' j : Nat), j ≤ a.size → a.size - j + 1 ≤ f → S.size - j + 1 ≤ f' → quF S f' j = quF a f j := by
  intro f
  induction f with
  | zero => intro f' j hj hf; omega
  | succ f ih =>
    intro f' j hj hf hf'
    have hl := h.lt
    rw [quF_step (f := f + 1) (by omega), quF_step (f := f') (by omega)]
    by_cases hjl : j < a.size
    · rw [h.same j hjl, if_neg (show ¬ S.size ≤ j by omega), if_neg (show ¬ a.size ≤ j by omega)]
      by_cases c1 : byt a j = 34
      · rw [if_pos c1, if_pos c1]
      rw [if_neg c1, if_neg c1]
      by_cases c2 : byt a j = 92 ∧ 32 ≤ byt a (j + 1)
      · have hj1 : j + 1 < a.size := byt_in (by omega)
        rw [if_pos c2, if_pos ⟨c2.1, by rw [h.same _ hj1]; exact c2.2⟩]
        exact ih _ _ (by omega) (by omega) (by omega)
      rw [if_neg c2, if_neg (fun k => c2 ⟨k.1, (h.iff (j := j + 1) (by omega) (fun c => 32 ≤ c) (by decide) (by decide)).1 k.2⟩)]
      by_cases c3 : byt a j = 92 ∨ (byt a j < 32 ∧ byt a j ≠ 9)
      · rw [if_pos c3, if_pos c3]
      · rw [if_neg c3, if_neg c3]
        exact ih _ _ (by omega) (by omega) (by omega)
    · obtain rfl : j = a.size := by omega
      rw [h.nl, if_neg (by omega), if_neg (by decide), if_neg (fun k => absurd k.1 (by decide)), if_pos (.inr (by decide)), if_pos (Nat.le_refl _)]
theorem Beg.quME {a S : ByteArray} (h : Beg a S) {i : Nat} (hi : i < a.size) : quM S i = quM a i := by
  have hl := h.lt
  unfold Go.Proofs.YtmkkckhfdafjnaaGreatDoor.quM
  exact h.quFE _ _ _ (by omega) (by omega) (by omega)
theorem Beg.tok {a S : ByteArray} (h : Beg a S) {i : Nat} (hi : i < a.size) : tokM S i = tokM a i := by
  have e1 : namR S i = namR a i := by
    unfold namR
    have w := wd_range (s := a) _ (i + 1) (Nat.le_refl _) (by omega)
    rw [h.same i hi, h.wdE _ (i + 1) (Nat.le_refl _) (by omega), h.cut _ _ w.2]
  have e2 : intR S i = intR a i := by
    unfold intR
    have w := dg_le (s := a) (i := i + 1) (by omega)
    have q1 : (byt S (dg a (i + 1)) = 46 ∨ ltI (byt S (dg a (i + 1))) = true) ↔ (byt a (dg a (i + 1)) = 46 ∨ ltI (byt a (dg a (i + 1))) = true) := h.iff w (fun c => c = 46 ∨ ltI c = true) (by decide) (by decide)
    rw [h.same i hi, h.dgE _ (i + 1) (Nat.le_refl _) (by omega), h.cut _ _ w]
    by_cases c0 : byt a i = 45 ∨ isDg (byt a i) = true
    · rw [if_pos c0, if_pos c0]
      by_cases c1 : byt a (dg a (i + 1)) = 46 ∨ ltI (byt a (dg a (i + 1))) = true ∨ intB (a.extract i (dg a (i + 1))) = false
      · rw [if_pos c1, if_pos (by
          rcases c1 with k | k | k
          · exact (q1.2 (.inl k)).elim .inl (fun k => .inr (.inl k))
          · exact (q1.2 (.inr k)).elim .inl (fun k => .inr (.inl k))
          · exact .inr (.inr k))]
      · rw [if_neg c1, if_neg (by
          intro k
          apply c1
          rcases k with k | k | k
          · exact (q1.1 (.inl k)).elim .inl (fun k => .inr (.inl k))
          · exact (q1.1 (.inr k)).elim .inl (fun k => .inr (.inl k))
          · exact .inr (.inr k))]
    · rw [if_neg c0, if_neg c0]
  have e3 : txtR S i = txtR a i := by
    unfold txtR
    rw [h.same i hi, h.quME hi]
    by_cases c0 : byt a i = 34
    · rw [if_pos c0, if_pos c0]
      cases hq : quM a i with
      | none => rfl
      | some n =>
        have w := quM_ok hq
        have q := h.iff w.2 (fun c => c = 34) (by decide) (by decide)
        unfold txt1
        dsimp only
        rw [h.cut _ _ w.2]
        cases readM (tabT (a.extract i n)) with
        | bad m => rfl
        | ok M =>
          unfold txt2
          dsimp only
          by_cases c1 : (gl M 0).tx = ⟨#[]⟩ ∧ byt a n = 34
          · rw [if_pos c1, if_pos ⟨c1.1, q.2 c1.2⟩]
          · rw [if_neg c1, if_neg (fun k => c1 ⟨k.1, q.1 k.2⟩)]
    · rw [if_neg c0, if_neg c0]
  have e4 : mrkR S i = mrkR a i := by
    unfold mrkR
    rw [h.same i hi, h.cut _ _ (show i + 1 ≤ a.size by omega)]
    by_cases c0 : byt a i = 46 ∧ byt a (i + 1) = 46 ∧ byt a (i + 2) = 46
    · have h1 : i + 2 < a.size := byt_in (by omega)
      rw [if_pos c0, if_pos ⟨c0.1, by rw [h.same _ (by omega)]; exact c0.2.1, by rw [h.same _ h1]; exact c0.2.2⟩]
    · rw [if_neg c0, if_neg (fun k => c0 ?_)]
      have k1 := (h.iff (j := i + 1) (by omega) (fun c => c = 46) (by decide) (by decide)).1 k.2.1
      have h1 : i + 1 < a.size := byt_in (by omega)
      exact ⟨k.1, k1, (h.iff (j := i + 2) (by omega) (fun c => c = 46) (by decide) (by decide)).1 k.2.2⟩
  unfold tokM
  rw [e1, e2, e3, e4]
theorem Beg.bkFE {a S : ByteArray} (h : Beg a S) : ∀ (f f' j : Nat) (ins : Bool), j ≤ a.size → a.size - j + 1 ≤ f → S.size - j + 1 ≤ f' → (bkF a f j ins).1 < a.size → bkF S f' j ins = bkF a f j ins := by
  intro f
  induction f with
  | zero => intro f' j ins hj hf; omega
  | succ f ih =>
    intro f' j ins hj hf hf' hlt
    have hl := h.lt
    rw [bkF_step (f := f + 1) (by omega)] at hlt
    rw [bkF_step (f := f + 1) (by omega), bkF_step (f := f') (by omega)]
    by_cases hjl : j < a.size
    · rw [if_neg (by omega)] at hlt
      rw [h.same j hjl, if_neg (show ¬ S.size ≤ j by omega), if_neg (show ¬ a.size ≤ j by omega)]
      by_cases c1 : byt a j = 10 ∨ byt a j = 13
      · rw [if_pos c1] at hlt
        rw [if_pos c1, if_pos c1]
        exact ih _ _ _ (by omega) (by omega) (by omega) hlt
      rw [if_neg c1] at hlt
      rw [if_neg c1, if_neg c1]
      by_cases c2 : ins = true ∧ byt a j < 32 ∧ byt a j ≠ 9
      · rw [if_pos c2, if_pos c2]
      rw [if_neg c2] at hlt
      rw [if_neg c2, if_neg c2]
      by_cases c3 : ins = true ∨ byt a j = 32 ∨ byt a j = 9 ∨ byt a j = 44
      · rw [if_pos c3] at hlt
        rw [if_pos c3, if_pos c3]
        exact ih _ _ _ (by omega) (by omega) (by omega) hlt
      rw [if_neg c3] at hlt
      rw [if_neg c3, if_neg c3]
      by_cases c4 : byt a j = 35
      · rw [if_pos c4] at hlt
        rw [if_pos c4, if_pos c4]
        exact ih _ _ _ (by omega) (by omega) (by omega) hlt
      rw [if_neg c4] at hlt
      rw [if_neg c4, if_neg c4]
      by_cases c5 : byt a j = 239 ∧ byt a (j + 1) = 187 ∧ byt a (j + 2) = 191
      · have h2 : j + 2 < a.size := byt_in (by omega)
        rw [if_pos c5] at hlt
        rw [if_pos c5, if_pos ⟨c5.1, by rw [h.same _ (by omega)]; exact c5.2.1, by rw [h.same _ h2]; exact c5.2.2⟩]
        exact ih _ _ _ (by omega) (by omega) (by omega) hlt
      · rw [if_neg c5, if_neg (fun k => c5 ?_)]
        have k1 := (h.iff (j := j + 1) (by omega) (fun c => c = 187) (by decide) (by decide)).1 k.2.1
        have h1 : j + 1 < a.size := byt_in (by omega)
        exact ⟨k.1, k1, (h.iff (j := j + 2) (by omega) (fun c => c = 191) (by decide) (by decide)).1 k.2.2⟩
    · rw [if_pos (by omega)] at hlt
      exact absurd hlt (by dsimp only; omega)
theorem Beg.bkE {a S : ByteArray} (h : Beg a S) {j : Nat} (hj : j ≤ a.size) (hlt : (bk a j).1 < a.size) : bk S j = bk a j := h.bkFE _ _ _ _ hj (by omega) (by omega) hlt
theorem bkF_broken {s : ByteArray} : ∀ (f j : Nat) (ins : Bool), (bkF s f j ins).2 = true → (bkF s f j ins).1 < s.size
  | 0, j, ins, h => by cases h
  | f + 1, j, ins, h => by
    unfold bkF at h ⊢
    by_cases c0 : s.size ≤ j
    · rw [if_pos c0] at h; cases h
    rw [if_neg c0] at h ⊢
    by_cases c1 : byt s j = 10 ∨ byt s j = 13
    · rw [if_pos c1] at h ⊢; exact bkF_broken _ _ _ h
    rw [if_neg c1] at h ⊢
    by_cases c2 : ins = true ∧ byt s j < 32 ∧ byt s j ≠ 9
    · rw [if_pos c2]; dsimp only; omega
    rw [if_neg c2] at h ⊢
    by_cases c3 : ins = true ∨ byt s j = 32 ∨ byt s j = 9 ∨ byt s j = 44
    · rw [if_pos c3] at h ⊢; exact bkF_broken _ _ _ h
    rw [if_neg c3] at h ⊢
    by_cases c4 : byt s j = 35
    · rw [if_pos c4] at h ⊢; exact bkF_broken _ _ _ h
    rw [if_neg c4] at h ⊢
    by_cases c5 : byt s j = 239 ∧ byt s (j + 1) = 187 ∧ byt s (j + 2) = 191
    · rw [if_pos c5] at h ⊢; exact bkF_broken _ _ _ h
    · rw [if_neg c5] at h; cases h
theorem Beg.bad {a S : ByteArray} (h : Beg a S) : ∀ (n i : Nat) (L L' : List TkR) (p : Nat) (m : Int), i ≤ a.size → lexF a n i L = .bad p m → lexF S n i L' = .bad p m := by
  intro n
  induction n with
  | zero =>
    intro i L L' p m hi hb
    have hl := h.lt
    have hle := bk_le hi
    rw [lexF_step0] at hb
    rw [lexF_step0]
    by_cases c0 : (bk a i).2 = true
    · rw [if_pos c0] at hb
      rw [h.bkE hi (bkF_broken _ _ _ c0), if_pos c0]
      exact hb
    rw [if_neg c0] at hb
    by_cases c1 : (bk a i).1 = a.size
    · rw [if_pos c1] at hb; cases hb
    · rw [if_neg c1] at hb
      rw [h.bkE hi (by omega), if_neg c0, if_neg (by omega)]
      exact hb
  | succ n ih =>
    intro i L L' p m hi hb
    have hl := h.lt
    have hle := bk_le hi
    rw [lexF_step] at hb
    rw [lexF_step]
    by_cases c0 : (bk a i).2 = true
    · rw [if_pos c0] at hb
      rw [h.bkE hi (bkF_broken _ _ _ c0), if_pos c0]
      exact hb
    rw [if_neg c0] at hb
    by_cases c1 : (bk a i).1 = a.size
    · rw [if_pos c1] at hb; cases hb
    · rw [if_neg c1] at hb
      rw [h.bkE hi (by omega), if_neg c0, if_neg (by omega), h.tok (by omega)]
      cases ht : tokM a (bk a i).1 with
      | none => rw [ht] at hb; exact hb
      | some y =>
        rw [ht] at hb
        have hk := tok_ok (t := y.1) (k := y.2) (by omega) ht
        exact ih _ _ _ _ _ hk.2 hb
theorem lexF_more {s : ByteArray} : ∀ (n i : Nat) (L R : List TkR), lexF s n i L = .ok R → ∃ T, R = L ++ T ∧ T ≠ [] := by
  intro n
  induction n with
  | zero =>
    intro i L R h
    rw [lexF_step0] at h
    split at h
    · cases h
    split at h
    · cases h; exact ⟨_, rfl, by simp⟩
    · cases h
  | succ n ih =>
    intro i L R h
    rw [lexF_step] at h
    split at h
    · cases h
    split at h
    · cases h; exact ⟨_, rfl, by simp⟩
    · cases ht : tokM s (bk s i).1 with
      | none => rw [ht] at h; cases h
      | some y =>
        rw [ht] at h
        obtain ⟨T, e, _⟩ := ih _ _ _ h
        exact ⟨y.1 :: T, by rw [e]; simp, by simp⟩
theorem Beg.ok {a S : ByteArray} (h : Beg a S) : ∀ (n i : Nat) (L R R' : List TkR), i ≤ a.size → lexF a n i L = .ok R → lexF S n i L = .ok R' → ∃ M T e, R = M ++ [e] ∧ R' = M ++ T ∧ T ≠ [] := by
  intro n
  induction n with
  | zero =>
    intro i L R R' hi hb hb'
    rw [lexF_step0] at hb
    obtain ⟨T, e, hT⟩ := lexF_more _ _ _ _ hb'
    split at hb
    · cases hb
    split at hb
    · cases hb; exact ⟨L, T, _, rfl, e, hT⟩
    · cases hb
  | succ n ih =>
    intro i L R R' hi hb hb'
    have hl := h.lt
    have hle := bk_le hi
    rw [lexF_step] at hb
    by_cases c0 : (bk a i).2 = true
    · rw [if_pos c0] at hb; cases hb
    rw [if_neg c0] at hb
    by_cases c1 : (bk a i).1 = a.size
    · rw [if_pos c1] at hb
      cases hb
      obtain ⟨T, e, hT⟩ := lexF_more _ _ _ _ hb'
      exact ⟨L, T, _, rfl, e, hT⟩
    · rw [if_neg c1] at hb
      rw [lexF_step, h.bkE hi (by omega), if_neg c0, if_neg (by omega), h.tok (by omega)] at hb'
      cases ht : tokM a (bk a i).1 with
      | none => rw [ht] at hb; cases hb
      | some y =>
        rw [ht] at hb hb'
        have hk := tok_ok (t := y.1) (k := y.2) (by omega) ht
        exact ih _ _ _ _ hk.2 hb hb'
theorem conts_at {s : ByteArray} {a : Nat} : ∀ {k j : Nat}, conts s a k = true → j < k → 128 ≤ byt s (a + j)
  | 0, j, _, h => by omega
  | k + 1, j, hc, h => by
    simp only [conts, Bool.and_eq_true, decide_eq_true_eq] at hc
    by_cases e : j = k
    · rw [e]; exact hc.2.2.1
    · exact conts_at hc.1 (by omega)
theorem Beg.tw {a S : ByteArray} (h : Beg a S) {i n : Nat} (ht : Tw S i n) (hn : n = S.size) : i ≤ a.size → Tw a i a.size := by
  induction ht with
  | nil i =>
    intro hi
    have := h.lt
    omega
  | step h1 h2 _ ih =>
    rename_i i b _
    intro hi
    by_cases he : i = a.size
    · rw [he]; exact .nil _
    have hia : i < a.size := by omega
    obtain ⟨d1, d2⟩ := decIs_lead h2
    have hle : i + leadN (byt S i) ≤ a.size := by
      by_cases hc : i + leadN (byt S i) ≤ a.size
      · exact hc
      · exfalso
        have := conts_at (j := a.size - (i + 1)) d2 (by omega)
        rw [show i + 1 + (a.size - (i + 1)) = a.size by omega, h.nl] at this
        exact absurd this (by decide)
    have hcut : S.extract 0 a.size = a := by rw [h.cut 0 a.size (Nat.le_refl _)]; exact ByteArray.extract_zero_size
    have hd := dec_cut (s := S) (a := i) (e := a.size) (Nat.le_of_lt h.lt) hle d1
    rw [hcut, h2] at hd
    refine .step hia hd ?_
    rw [← h.same i hia]
    exact ih hn hle
theorem Beg.ck {a S : ByteArray} (h : Beg a S) (ha : a.size ≤ 16384) (hc : ckE S = 0) : ckE a = 0 := by
  have ht := h.tw (ck_tw hc).2 rfl (Nat.zero_le _)
  unfold ckE
  rw [if_neg (by omega), if_pos]
  exact ht.tx rfl _ (by omega)
end Go.Proofs.YtmkkckhfdafjnaaGreatDoor
/- Layer 17, plain: what counts for nothing between tokens. -/
namespace Go.Proofs.YtmkkckhfdafjnaaGreatDoor
open Go.RowKit Go.Maps
end Go.Proofs.YtmkkckhfdafjnaaGreatDoor
/- Layer 17, plain: tokens with blanks between them are read as the same. -/
namespace Go.Proofs.YtmkkckhfdafjnaaGreatDoor
open Go.RowKit Go.Maps
end Go.Proofs.YtmkkckhfdafjnaaGreatDoor
/- Layer 17, plain: a text that is read is no longer than it was written (the same as in wip/read BO, without the cells). -/
namespace Go.Proofs.YtmkkckhfdafjnaaGreatDoor
open Go.RowKit Go.Maps
theorem okT_end (a : Int) : okT ⟨0, ⟨#[]⟩, a⟩ = true := by
  unfold okT
  rw [if_pos rfl]
  have e : (⟨#[]⟩ : ByteArray).toList = [] := by rw [Lib.toList_data]
  show ((⟨#[]⟩ : ByteArray).toList).isEmpty = true
  rw [e]
  rfl
end Go.Proofs.YtmkkckhfdafjnaaGreatDoor
/- Layer 18: what tokens tell (plain). -/
namespace Go.Proofs.YtmkkckhfdafjnaaGreatDoor.Li
open Go.RowKit Go.Maps
/-- What is told, or an error and its token. -/
inductive LR (α : Type) where
  | ok (x : α) : LR α
  | bad (p : Nat) (e : Int) : LR α
def LR.bind {α β : Type} (x : LR α) (f : α → LR β) : LR β := match x with
  | .ok a => f a
  | .bad p e => .bad p e
@[simp] theorem LR.bind_ok {α β : Type} (a : α) (f : α → LR β) : (LR.ok a).bind f = f a := rfl
@[simp] theorem LR.bind_bad {α β : Type} (p : Nat) (e : Int) (f : α → LR β) : (LR.bad p e : LR α).bind f = .bad p e := rfl
/-- Tokens in memory, and whether what is read is fixed. -/
structure LTok where
  a : Option Addr
  n : Nat
  c : Nat
  g : Nat → TkR
  fx : Bool
/-- The token that stands there; behind all: the end. -/
def tkA (s : LTok) (i : Nat) : TkR := if i < s.n then s.g i else ⟨0, ⟨#[]⟩, 0⟩
theorem tkA_out {s : LTok} {i : Nat} (h : s.n ≤ i) : tkA s i = ⟨0, ⟨#[]⟩, 0⟩ := by unfold tkA; rw [if_neg (by omega)]
theorem tkA_in {s : LTok} {i : Nat} (h : i < s.n) : tkA s i = s.g i := by unfold tkA; rw [if_pos h]
theorem tkA_lt {s : LTok} {i : Nat} (h : (tkA s i).k ≠ 0) : i < s.n := by
  by_cases k : i < s.n
  · exact k
  · exact absurd (by rw [tkA_out (by omega)]) h
/-- Is a token that mark? -/
def isMk (t : TkR) (x : ByteArray) : Bool := decide (t.k = 4) && decide (t.s = x)
theorem isMk_in {s : LTok} {i : Nat} {x : ByteArray} (h : isMk (tkA s i) x = true) : i < s.n := by
  unfold isMk at h
  simp only [Bool.and_eq_true, decide_eq_true_eq] at h
  exact tkA_lt (by rw [h.1]; decide)
/-- Is a token a name? -/
def isNm (t : TkR) : Bool := decide (t.k = 1) && nmB t.s
theorem isNm_in {s : LTok} {i : Nat} (h : isNm (tkA s i) = true) : i < s.n := by
  unfold isNm at h
  simp only [Bool.and_eq_true, decide_eq_true_eq] at h
  exact tkA_lt (by rw [h.1]; decide)
abbrev Out := Nat × List CR
def mDollar : ByteArray := ⟨#[36]⟩
def mColon : ByteArray := ⟨#[58]⟩
def mLB : ByteArray := ⟨#[91]⟩
def mRB : ByteArray := ⟨#[93]⟩
def mLC : ByteArray := ⟨#[123]⟩
def mRC : ByteArray := ⟨#[125]⟩
def tNull : ByteArray := ⟨#[110, 117, 108, 108]⟩
def tFalse : ByteArray := ⟨#[102, 97, 108, 115, 101]⟩
def tTrue : ByteArray := ⟨#[116, 114, 117, 101]⟩
/-- The value that a name tells. -/
def namedL (x : ByteArray) : CR := if x = tNull then ⟨0, ⟨#[]⟩, ⟨#[]⟩, 0, 0⟩ else if x = tFalse then ⟨1, ⟨#[]⟩, ⟨#[]⟩, 0, 0⟩ else if x = tTrue then ⟨1, ⟨#[]⟩, ⟨#[]⟩, 1, 0⟩ else ⟨4, ⟨#[]⟩, x, 0, 0⟩
/-- The cell that a token begins. -/
def hdL (s : LTok) (i : Nat) : LR CR :=
  if okT (tkA s i) = false ∧ (tkA s i).k ≠ 2 then .bad i 180
  else if (tkA s i).k = 1 then .ok (namedL (tkA s i).s)
  else if (tkA s i).k = 2 then (if Nm.rdE (tkA s i).s = 0 then .ok ⟨2, ⟨#[]⟩, ⟨#[]⟩, Nm.rdV (tkA s i).s, 0⟩ else .bad i 41)
  else if (tkA s i).k = 3 then .ok ⟨3, ⟨#[]⟩, (tkA s i).s, 0, 0⟩
  else if isMk (tkA s i) mDollar = true ∧ s.fx = false then .ok ⟨5, ⟨#[]⟩, ⟨#[]⟩, 0, 0⟩
  else if isMk (tkA s i) mLB = true then .ok ⟨6, ⟨#[]⟩, ⟨#[]⟩, 0, 0⟩
  else if isMk (tkA s i) mLC = true then .ok ⟨7, ⟨#[]⟩, ⟨#[]⟩, 0, 0⟩
  else .bad i 180
theorem okT_end0 : okT ⟨0, ⟨#[]⟩, 0⟩ = true := okT_end 0
theorem hdL_in {s : LTok} {i : Nat} {c : CR} (h : hdL s i = .ok c) : i < s.n := by
  by_cases k : i < s.n
  · exact k
  · rw [hdL, tkA_out (by omega), okT_end0, if_neg (by intro e; cases e.1), if_neg (by decide), if_neg (by decide), if_neg (by decide), if_neg (by intro e; exact absurd e.1 (by decide +kernel)), if_neg (by decide +kernel), if_neg (by decide +kernel)] at h
    cases h
/-- A name that may not be among some. -/
def nwL (s : LTok) (ns : List ByteArray) (i : Nat) : LR ByteArray := if ns.any (fun y => decide (y = (tkA s i).s)) = true ∧ isNm (tkA s i) = true then .bad i 42 else if isNm (tkA s i) = true then .ok (tkA s i).s else .bad i 180
def lsF (s : LTok) (val : Nat → List CR → LR Out) (k : Nat) : Nat → Nat → List CR → LR Out
  | 0, j, _ => .bad j 180
  | f + 1, j, M => if isMk (tkA s j) mRB = true then .ok (j + 1, M) else (val j M).bind fun y => lsF s val k f y.1 (incC y.2 k)
def obF (s : LTok) (val : ByteArray → Nat → List CR → LR Out) (k : Nat) : Nat → Nat → List ByteArray → List CR → LR Out
  | 0, j, _, _ => .bad j 180
  | f + 1, j, ns, M => if isMk (tkA s j) mRC = true then .ok (j + 1, M) else (nwL s ns j).bind fun nm =>
    if isMk (tkA s (j + 1)) mColon = true then (val nm (j + 2) M).bind fun y => obF s val k f y.1 (nm :: ns) (incC y.2 k) else .bad (j + 1) 180
/-- What stands behind a value's head. -/
def bdL (s : LTok) (val : ByteArray → Nat → List CR → LR Out) (c : CR) (i : Nat) (L : List CR) : LR Out :=
  if c.k = 5 then (if isNm (tkA s (i + 1)) = true then .ok (i + 2, L ++ [{ c with tx := (tkA s (i + 1)).s }]) else .bad (i + 1) 180)
  else if c.k = 6 then lsF s (val ⟨#[]⟩) L.length (s.n + 1 - (i + 1)) (i + 1) (L ++ [c])
  else if c.k = 7 then obF s val L.length (s.n + 1 - (i + 1)) (i + 1) [] (L ++ [c])
  else .ok (i + 1, L ++ [c])
/-- A value, so many more brackets being allowed (one more than they). -/
def vaL (s : LTok) : Nat → ByteArray → Nat → Nat → List CR → LR Out
  | 0, _, _, i, _ => .bad i 30
  | f + 1, nm, op, i, L => (hdL s i).bind fun c =>
    if L.length = 2048 then .bad i 4
    else if (c.k = 6 ∨ c.k = 7) ∧ op = 16 then .bad i 30
    else bdL s (fun nm' j M => vaL s f nm' (op + 1) j M) { c with nm := nm } i L
/-- A literal. -/
def ltL (s : LTok) (i : Nat) : LR Out := vaL s 17 ⟨#[]⟩ 0 i []
theorem nwL_ok {s : LTok} {ns : List ByteArray} {i : Nat} {x : ByteArray} (h : nwL s ns i = .ok x) : isNm (tkA s i) = true ∧ x = (tkA s i).s ∧ ns.any (fun y => decide (y = x)) = false := by
  unfold nwL at h
  split at h
  · cases h
  · split at h
    · rename_i h1 h2
      cases h
      refine ⟨h2, rfl, ?_⟩
      cases e : ns.any (fun y => decide (y = (tkA s i).s)) with
      | false => rfl
      | true => exact absurd ⟨e, h2⟩ h1
    · cases h
end Go.Proofs.YtmkkckhfdafjnaaGreatDoor.Li
