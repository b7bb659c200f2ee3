import Derived.Test.YtmkkckhfdafjnaaGreatDoorQ8
import Derived.Test.YtmkkckhfdafjnaaGreatDoorQ6
import Derived.Maps.AppendAt
import Derived.OwnWalk
import Derived.Test.YtmkkckhfdafjnaaGreatDoorShelf
import Derived.Shelf.Vars
import Derived.Defers
import Derived.Recover
/- Layer 18: a value that is a leaf, or a list. -/
namespace Go.Proofs.YtmkkckhfdafjnaaGreatDoor.Li
open Go.RowKit Go.Maps
set_option maxRecDepth 20000 in
set_option maxHeartbeats 8000000 in
theorem value_leaf {s : LTok} {f p i op cp ck : Nat} {ad : Option Addr} {L : List CR} {nm : ByteArray} {w : World} {cn ct : ByteArray} {cv cm : Int} (h : RdB w p s i op (.slice ad L.length cp) L) (hi : i < s.n) (hL : L.length < 2048) (hop : op ≤ 16) (k5 : ck ≠ 5) (k6 : ck ≠ 6) (k7 : ck ≠ 7) (hh : Calls Tryz.prog 79 #[.pointer (some ⟨p, 0, none⟩)] w fun e w' => e = .returned (.agg #[.int .u8 (ck : Nat), .string cn, .string ct, .int .i64 cv, .int .i64 cm]) ∧ Below w.heap.size w w') : Calls Tryz.prog 64 #[.pointer (some ⟨p, 0, none⟩), .string nm] w (OutP p s op (.slice ad L.length cp) w (bdL s (fun nm' j M => vaL s f nm' (op + 1) j M) ⟨ck, nm, ct, cv, cm⟩ i L)) := by
  have hn : s.n ≤ 100000 := h.tok.2.1
  have HH2 := Lib.hid hh
  have HB := Lib.hid (fun W (k : Below w.heap.size w W) => h.below k)
  have HF := Lib.hid h.far
  have HLT := Lib.hid h.lt
  obtain ⟨Z, hZ⟩ : ∃ Z, Z = bdL s (fun nm' j M => vaL s f nm' (op + 1) j M) ⟨ck, nm, ct, cv, cm⟩ i L := ⟨_, rfl⟩
  rw [← hZ]
  have HZ0 := Lib.hid hZ
  clear h hh hZ
  have hLi : (L.length : Int) ≤ 2048 := by omega
  have h48i : ((L.length : Int) == 2048) = false := beq_eq_false_iff_ne.2 (by omega)
  have hi2 : (i : Int) ≤ 100000 := by omega
  have q5 : ((ck : Int) == 5) = false := beq_eq_false_iff_ne.2 (by omega)
  have q6 : ((ck : Int) == 6) = false := beq_eq_false_iff_ne.2 (by omega)
  have q7 : ((ck : Int) == 7) = false := beq_eq_false_iff_ne.2 (by omega)
  have HZ : Hid (Z = .ok (i + 1, L ++ [⟨ck, nm, ct, cv, cm⟩])) := Lib.hid (by rw [HZ0.out]; unfold bdL; rw [if_neg k5, if_neg k6, if_neg k7])
  clear HZ0 k5 k6 k7
  go_enter Tryz.func64, Tryz.ntmps64
  go_wp2_with fail
  refine HH2.out.mono ?_
  rintro e w1 ⟨rfl, b1⟩
  have BA := Lib.hid (b1.trans ((below_box w1 (.cells #[.int .u8 (ck : Nat), .string cn, .string ct, .int .i64 cv, .int .i64 cm] 46)).mono b1.size))
  have RA := Lib.hid (HB.out _ BA.out).1
  have c4 := RA.out.c4
  have c1 := RA.out.c1
  have c3 := RA.out.c3
  have z1 := RA.out.z 1
  have RN := Lib.hid (And.intro ((HB.out _ b1).1.at_ (i + 1) ((i : Int) + 1) (by omega)) (HB.out _ b1))
  have R2 := Lib.hid (RN.out.1.1.below (below_box _ (.cells #[.int .u8 (ck : Nat), .string nm, .string ct, .int .i64 cv, .int .i64 cm] 46)))
  have c4b := R2.out.1.c4
  have hlt1 : p < w1.heap.size := Nat.lt_of_lt_of_le HLT.out b1.size
  have hNp : ¬ (w1.heap.size = p) := by omega
  have hpN : ¬ (p = w1.heap.size) := by omega
  have HNV : Hid ((Value.slice ad L.length cp).ownBlock ≠ some w1.heap.size) := Lib.hid (fun e => by have h1 := (RN.out.2.1.row.lt _ e).2; omega)
  clear b1
  go_wp2_with fail
  obtain ⟨N, hN⟩ : ∃ N, N = w1.heap.size := ⟨_, rfl⟩
  have HNA : Hid (((w1.setCell ⟨p, 1, none⟩ (.int .i64 ((i : Int) + 1))).alloc (.cells #[.int .u8 (ck : Nat), .string nm, .string ct, .int .i64 cv, .int .i64 cm] 46)).heap[N]? = some (.cells #[.int .u8 (ck : Nat), .string nm, .string ct, .int .i64 cv, .int .i64 cm] 46)) := Lib.hid (by
    have e := heap_alloc_new (w1.setCell ⟨p, 1, none⟩ (.int .i64 ((i : Int) + 1))) (.cells #[.int .u8 (ck : Nat), .string nm, .string ct, .int .i64 cv, .int .i64 cm] 46)
    rw [hN]
    simpa using e)
  obtain ⟨A, hA⟩ : ∃ A, A = (w1.setCell ⟨p, 1, none⟩ (.int .i64 ((i : Int) + 1))).alloc (.cells #[.int .u8 (ck : Nat), .string nm, .string ct, .int .i64 cv, .int .i64 cm] 46) := ⟨_, rfl⟩
  rw [← hN] at HNV hNp hpN ⊢
  rw [← hA] at R2 HNA c4b ⊢
  have FA := Lib.hid (RN.out.2.2.trans (RN.out.1.2.trans R2.out.2))
  clear c4 c1 c3 z1 hA hN hlt1
  have HRW := Lib.hid R2.out.1.row
  have HSZ := Lib.hid R2.out.1.lt
  obtain ⟨a0, a1, a2, a3, a4, az⟩ := cl_cells HNA.out
  have c4a : ∀ o, (A.alloc o).cell? ⟨p, 4, none⟩ = some (.slice ad L.length cp) := fun o => (R2.out.1.below (below_box A o)).1.c4
  clear az
  go_region_law (first
    | (refine step_cell rfl (.tmp 61) (.tmp 63) rfl (p + 1) (.slice ad L.length cp) L [.int .u8 (ck : Nat), .string nm, .string ct, .int .i64 cv, .int .i64 cm] A.heap.size (by simp [Act.eval, Act.put]) (by simp [Act.eval, Act.put]) (HRW.out.drew.alloc _) (heap_alloc_new _ _) rfl (by intro u hu; simp at hu; rcases hu with rfl | rfl | rfl | rfl | rfl <;> rfl) (by omega) (by have := HSZ.out; simp; omega) ?_; intro v2 w2 o2 g2 x2; have R3 := Lib.hid (R2.out.1.push ⟨ck, nm, ct, cv, cm⟩ o2 g2.os g2.tape g2.output (Nat.le_trans (by simp) g2.size) (fun k h1 h2 => by rw [g2.block k (by simp; omega) (fun e => h2 e.symm)]; exact heap_alloc_old _ _ h1) (x2.elim .inl (fun e => .inr (by obtain ⟨g, e1, e2⟩ := e; exact ⟨g, e1, by simp at e2; omega⟩)))); clear o2 g2 x2; obtain ⟨ad1, cp1, rfl⟩ := R3.out.2.2.1.slice; have c4' := R3.out.1; have z4' := R3.out.2.1))

  all_goals
    obtain ⟨W3, hW3⟩ : ∃ W3, W3 = w2.setCell ⟨p, 4, none⟩ (.slice ad1 (L.length + 1) cp1) := ⟨_, rfl⟩
    obtain ⟨M, hM⟩ : ∃ M, M = L ++ [(⟨ck, nm, ct, cv, cm⟩ : CR)] := ⟨_, rfl⟩
    have hML : M.length = L.length + 1 := by rw [hM]; simp
    have R4 := R3.out.2.2
    rw [← hM] at R4
    rw [hML, ← hW3] at R4
    rw [← hW3]
    clear hW3 R3 c4' z4'
    obtain ⟨q, cap, he, hpq, hqs⟩ := R4.1.addr (by omega)
    simp only [Value.slice.injEq] at he
    obtain ⟨rfl, hmm, rfl⟩ := he
    clear hmm
    have R5 : Hid (RdB W3 p s (i + 1) op (.slice (some ⟨q, 0, none⟩) M.length cp1) M ∧ Fr p (.slice ad L.length cp) (.slice (some ⟨q, 0, none⟩) M.length cp1) w W3) := Lib.hid (by rw [hML]; exact ⟨R4.1, FA.out.trans R4.2⟩)
    have hN3 := keep_cell R4.2 HNA.out hNp HNV.out
    obtain ⟨b0, b1, b2, b3, b4, bz⟩ := cl_cells hN3
    have c4c : W3.cell? ⟨p, 4, none⟩ = some (.slice (some ⟨q, 0, none⟩) (L.length + 1) cp1) := R4.1.c4
    have hLM : L.length < M.length := by omega
    have HM := Lib.hid hM
    have HML := Lib.hid hML
    clear R4 hN3 b1 b2 b3 b4 bz hM hML a0 a1 a2 a3 a4 c4a c4b HNA HRW HSZ R2

    go_wp2_with fail
    go_end0
    rw [HZ.out, ← HM.out]
    exact ⟨rfl, _, R5.out⟩
set_option maxRecDepth 20000 in
set_option maxHeartbeats 8000000 in
theorem value_list {s : LTok} {f p i op cp : Nat} {ad : Option Addr} {L : List CR} {nm : ByteArray} {w : World} {cn ct : ByteArray} {cv cm : Int} (h : RdB w p s i op (.slice ad L.length cp) L) (hi : i < s.n) (hL : L.length < 2048) (hop : op ≤ 16) (h16 : op ≠ 16) (hV : VC s f) (hopf : op + (f + 1) = 17) (hl : LimP p w) (hcm : cm = 0) (hh : Calls Tryz.prog 79 #[.pointer (some ⟨p, 0, none⟩)] w fun e w' => e = .returned (.agg #[.int .u8 6, .string cn, .string ct, .int .i64 cv, .int .i64 cm]) ∧ Below w.heap.size w w') : Calls Tryz.prog 64 #[.pointer (some ⟨p, 0, none⟩), .string nm] w (OutP p s op (.slice ad L.length cp) w (bdL s (fun nm' j M => vaL s f nm' (op + 1) j M) ⟨6, nm, ct, cv, cm⟩ i L)) := by
  have hn : s.n ≤ 100000 := h.tok.2.1
  have HH2 := Lib.hid hh
  have HB := Lib.hid (fun W (k : Below w.heap.size w W) => h.below k)
  have HF := Lib.hid h.far
  have HLT := Lib.hid h.lt
  obtain ⟨Z, hZ⟩ : ∃ Z, Z = bdL s (fun nm' j M => vaL s f nm' (op + 1) j M) ⟨6, nm, ct, cv, cm⟩ i L := ⟨_, rfl⟩
  rw [← hZ]
  have HZ0 := Lib.hid hZ
  clear h hh hZ
  have hLi : (L.length : Int) ≤ 2048 := by omega
  have h48i : ((L.length : Int) == 2048) = false := beq_eq_false_iff_ne.2 (by omega)
  have hi2 : (i : Int) ≤ 100000 := by omega
  have HL := Lib.hid hl
  have HV := Lib.hid hV
  have q16 : ((op : Int) == 16) = false := beq_eq_false_iff_ne.2 (by omega)
  have HZ : Hid (Z = lsF s (vaL s f ⟨#[]⟩ (op + 1)) L.length (s.n + 1 - (i + 1)) (i + 1) (L ++ [⟨6, nm, ct, cv, cm⟩])) := Lib.hid (by rw [HZ0.out]; unfold bdL; rw [if_neg (by show ¬ (6 : Nat) = 5; decide), if_pos rfl])
  have HG := Lib.hid (vaL_goes s f ⟨#[]⟩ (op + 1))
  have HCM := Lib.hid hcm
  clear HZ0 hl hV hcm
  go_enter Tryz.func64, Tryz.ntmps64
  go_wp2_with fail
  refine HH2.out.mono ?_
  rintro e w1 ⟨rfl, b1⟩
  have BA := Lib.hid (b1.trans ((below_box w1 (.cells #[.int .u8 6, .string cn, .string ct, .int .i64 cv, .int .i64 cm] 46)).mono b1.size))
  have RA := Lib.hid (HB.out _ BA.out).1
  have c4 := RA.out.c4
  have c1 := RA.out.c1
  have c3 := RA.out.c3
  have z1 := RA.out.z 1
  have RN := Lib.hid (And.intro ((HB.out _ b1).1.at_ (i + 1) ((i : Int) + 1) (by omega)) (HB.out _ b1))
  have R2 := Lib.hid (RN.out.1.1.below (below_box _ (.cells #[.int .u8 6, .string nm, .string ct, .int .i64 cv, .int .i64 cm] 46)))
  have c4b := R2.out.1.c4
  have hlt1 : p < w1.heap.size := Nat.lt_of_lt_of_le HLT.out b1.size
  have hNp : ¬ (w1.heap.size = p) := by omega
  have hpN : ¬ (p = w1.heap.size) := by omega
  have HNV : Hid ((Value.slice ad L.length cp).ownBlock ≠ some w1.heap.size) := Lib.hid (fun e => by have h1 := (RN.out.2.1.row.lt _ e).2; omega)
  clear b1
  go_wp2_with fail
  obtain ⟨N, hN⟩ : ∃ N, N = w1.heap.size := ⟨_, rfl⟩
  have HNA : Hid (((w1.setCell ⟨p, 1, none⟩ (.int .i64 ((i : Int) + 1))).alloc (.cells #[.int .u8 6, .string nm, .string ct, .int .i64 cv, .int .i64 cm] 46)).heap[N]? = some (.cells #[.int .u8 6, .string nm, .string ct, .int .i64 cv, .int .i64 cm] 46)) := Lib.hid (by
    have e := heap_alloc_new (w1.setCell ⟨p, 1, none⟩ (.int .i64 ((i : Int) + 1))) (.cells #[.int .u8 6, .string nm, .string ct, .int .i64 cv, .int .i64 cm] 46)
    rw [hN]
    simpa using e)
  obtain ⟨A, hA⟩ : ∃ A, A = (w1.setCell ⟨p, 1, none⟩ (.int .i64 ((i : Int) + 1))).alloc (.cells #[.int .u8 6, .string nm, .string ct, .int .i64 cv, .int .i64 cm] 46) := ⟨_, rfl⟩
  rw [← hN] at HNV hNp hpN ⊢
  rw [← hA] at R2 HNA c4b ⊢
  have FA := Lib.hid (RN.out.2.2.trans (RN.out.1.2.trans R2.out.2))
  clear c4 c1 c3 z1 hA hN hlt1
  have HRW := Lib.hid R2.out.1.row
  have HSZ := Lib.hid R2.out.1.lt
  obtain ⟨a0, a1, a2, a3, a4, az⟩ := cl_cells HNA.out
  have c4a : ∀ o, (A.alloc o).cell? ⟨p, 4, none⟩ = some (.slice ad L.length cp) := fun o => (R2.out.1.below (below_box A o)).1.c4
  clear az
  go_region_law (first
    | (refine step_cell rfl (.tmp 61) (.tmp 63) rfl (p + 1) (.slice ad L.length cp) L [.int .u8 6, .string nm, .string ct, .int .i64 cv, .int .i64 cm] A.heap.size (by simp [Act.eval, Act.put]) (by simp [Act.eval, Act.put]) (HRW.out.drew.alloc _) (heap_alloc_new _ _) rfl (by intro u hu; simp at hu; rcases hu with rfl | rfl | rfl | rfl | rfl <;> rfl) (by omega) (by have := HSZ.out; simp; omega) ?_; intro v2 w2 o2 g2 x2; have R3 := Lib.hid (R2.out.1.push ⟨6, nm, ct, cv, cm⟩ o2 g2.os g2.tape g2.output (Nat.le_trans (by simp) g2.size) (fun k h1 h2 => by rw [g2.block k (by simp; omega) (fun e => h2 e.symm)]; exact heap_alloc_old _ _ h1) (x2.elim .inl (fun e => .inr (by obtain ⟨g, e1, e2⟩ := e; exact ⟨g, e1, by simp at e2; omega⟩)))); clear o2 g2 x2; obtain ⟨ad1, cp1, rfl⟩ := R3.out.2.2.1.slice; have c4' := R3.out.1; have z4' := R3.out.2.1))

  all_goals
    obtain ⟨W3, hW3⟩ : ∃ W3, W3 = w2.setCell ⟨p, 4, none⟩ (.slice ad1 (L.length + 1) cp1) := ⟨_, rfl⟩
    obtain ⟨M, hM⟩ : ∃ M, M = L ++ [(⟨6, nm, ct, cv, cm⟩ : CR)] := ⟨_, rfl⟩
    have hML : M.length = L.length + 1 := by rw [hM]; simp
    have R4 := R3.out.2.2
    rw [← hM] at R4
    rw [hML, ← hW3] at R4
    rw [← hW3]
    clear hW3 R3 c4' z4'
    obtain ⟨q, cap, he, hpq, hqs⟩ := R4.1.addr (by omega)
    simp only [Value.slice.injEq] at he
    obtain ⟨rfl, hmm, rfl⟩ := he
    clear hmm
    have R5 : Hid (RdB W3 p s (i + 1) op (.slice (some ⟨q, 0, none⟩) M.length cp1) M ∧ Fr p (.slice ad L.length cp) (.slice (some ⟨q, 0, none⟩) M.length cp1) w W3) := Lib.hid (by rw [hML]; exact ⟨R4.1, FA.out.trans R4.2⟩)
    have hN3 := keep_cell R4.2 HNA.out hNp HNV.out
    obtain ⟨b0, b1, b2, b3, b4, bz⟩ := cl_cells hN3
    have c4c : W3.cell? ⟨p, 4, none⟩ = some (.slice (some ⟨q, 0, none⟩) (L.length + 1) cp1) := R4.1.c4
    have hLM : L.length < M.length := by omega
    have HM := Lib.hid hM
    have HML := Lib.hid hML
    clear R4 hN3 b1 b2 b3 b4 bz hM hML a0 a1 a2 a3 a4 c4a c4b HNA HRW HSZ R2
    have HR5 := Lib.hid R5.out.1
    have c3c : W3.cell? ⟨p, 3, none⟩ = some (.int .i64 op) := HR5.out.c3
    have z3c := HR5.out.z 3
    have RO := Lib.hid (HR5.out.open_ (op + 1) ((op : Int) + 1) (by omega))
    have hopi : (op : Int) ≤ 16 := by omega
    have HLM := Lib.hid (HL.out.fr (R5.out.2.trans RO.out.2) (Nat.le_of_lt HLT.out) HF.out)
    have FO := Lib.hid (R5.out.2.trans RO.out.2)
    have hgm : gl M L.length = ⟨6, nm, ct, cv, cm⟩ := by rw [HM.out, gl_last]
    have hML := HML.out

    have HZ2 : Hid (Z = lsF s (vaL s f ⟨#[]⟩ (op + 1)) L.length (s.n + 1 - (i + 1)) (i + 1) M) := Lib.hid (by rw [HZ.out, HM.out])
    have HS : Hid (LM s p (op + 1) L.length (.slice ad L.length cp) w (W3.setCell ⟨p, 3, none⟩ (.int .i64 ((op : Int) + 1))) (i + 1) M) := Lib.hid ⟨⟨_, RO.out.1, FO.out⟩, HLM.out, by omega, by omega, by rw [hgm, HCM.out]; exact ⟨by show (0 : Int) ≤ 0; decide, by show (0 : Int) ≤ ((i + 1 : Nat) : Int); omega⟩⟩
    obtain ⟨F0, hF0⟩ : ∃ F0, F0 = s.n + 1 - (i + 1) := ⟨_, rfl⟩
    rw [← hF0] at HZ2
    have hfu : s.n + 1 - (i + 1) ≤ F0 := by omega
    clear HZ hF0 hgm hML HLM FO
    go_wp2_with fail
    obtain ⟨W4, hW4⟩ : ∃ W4, W4 = W3.setCell ⟨p, 3, none⟩ (.int .i64 ((op : Int) + 1)) := ⟨_, rfl⟩
    rw [← hW4] at HS ⊢
    clear hW4
    go_loopg [94, 95] F0 (fun fu _ _ wr => ∃ (j : Nat) (M' : List CR), s.n + 1 - j ≤ fu ∧ j ≤ s.n ∧ Hid (Z = lsF s (vaL s f ⟨#[]⟩ (op + 1)) L.length fu j M') ∧ Hid (LM s p (op + 1) L.length (.slice ad L.length cp) w wr j M'))
    case atStart => exact ⟨i + 1, M, hfu, by omega, HZ2, HS⟩
    case round =>
      obtain ⟨j, M', hf, hj, HZr, HMr⟩ := hrel
      clear hfu HZ2 HS
      obtain ⟨v7, r7, f7⟩ := HMr.out.rd
      have hMk := HMr.out.hk
      have hMM := HMr.out.hM
      have hcn := HMr.out.cnt
      have hZs : Z = if isMk (tkA s j) mRB = true then .ok (j + 1, M') else (vaL s f ⟨#[]⟩ (op + 1) j M').bind fun y => lsF s (vaL s f ⟨#[]⟩ (op + 1)) L.length (gk - 1) y.1 (incC y.2 L.length) := by
        obtain ⟨g2, hg2⟩ : ∃ g2, gk = g2 + 1 := ⟨gk - 1, by omega⟩
        rw [HZr.out, hg2]
        rfl
      have HR7 := Lib.hid r7
      have F7 := Lib.hid f7
      by_cases hsk : isMk (tkA s j) mRB = true
      · have HSK := Lib.hid (skip_yes (x := mRB) wr r7 (by omega) hsk)
        have HZ3 : Hid (Z = .ok (j + 1, M')) := Lib.hid (by rw [hZs, if_pos hsk])
        unfold mRB at HSK
        clear hZs hsk r7 f7 hcn HZr
        go_wp2_with fail
        refine HSK.out.mono ?_
        rintro e w8 ⟨rfl, r8, f8⟩
        have c3e := r8.c3
        have z3e := r8.z 3
        have RP := Lib.hid (r8.open_ op op rfl)
        have F8 := Lib.hid f8
        clear r8 f8
        go_wp2_with fail
        go_end0
        rw [HZ3.out]
        exact ⟨rfl, _, RP.out.1, F7.out.trans (F8.out.trans RP.out.2)⟩
      · have HSK := Lib.hid (skip_no (x := mRB) wr r7 (by omega) (by simpa using hsk))
        unfold mRB at HSK
        rw [if_neg hsk] at hZs
        have hjn : j < s.n + 1 := by omega
        clear hsk HZr
        go_wp2_with fail
        refine HSK.out.mono ?_
        rintro e w8 ⟨rfl, b8⟩
        have R8 := Lib.hid (r7.below b8)
        have L8 := Lib.hid (HMr.out.lim.fr R8.out.2 (Nat.le_of_lt r7.lt) r7.far)
        have HV8 := Lib.hid (HV.out p j (op + 1) v7 M' ⟨#[]⟩ w8 (by omega) R8.out.1 L8.out hj hMM)
        have HOK := Lib.hid (fun j1 N1 => HG.out j M' j1 N1 hMM)
        obtain ⟨Y, hY⟩ : ∃ Y, Y = vaL s f ⟨#[]⟩ (op + 1) j M' := ⟨_, rfl⟩
        rw [← hY] at HV8 HOK hZs
        have HZ3 := Lib.hid hZs
        clear hY hZs r7 f7 b8
        go_wp2_with fail
        cases Y with
        | bad a m =>
          have HV9 : Hid (Calls Tryz.prog 64 #[.pointer (some ⟨p, 0, none⟩), .string ⟨#[]⟩] w8 fun e w' => e = thr a m ∧ Below p w8 w') := Lib.hid HV8.out
          have HZ4 : Hid (Z = .bad a m) := Lib.hid HZ3.out
          refine HV9.out.mono ?_
          rintro e w9 ⟨he, b9⟩
          unfold thr at he
          subst he
          (try go_wp2_with fail)
          rw [HZ4.out]
          simp only [bodyPost]
          exact ⟨trivial, rfl, ((F7.out.trans R8.out.2).below HF.out (Nat.le_of_lt HLT.out)).trans b9⟩
        | ok y =>
          obtain ⟨j1, N1⟩ := y
          have HV9 : Hid (Calls Tryz.prog 64 #[.pointer (some ⟨p, 0, none⟩), .string ⟨#[]⟩] w8 fun e w' => e = .returned (.tuple #[]) ∧ ∃ v', RdB w' p s j1 (op + 1) v' N1 ∧ Fr p v7 v' w8 w') := Lib.hid HV8.out
          have HZ4 : Hid (Z = lsF s (vaL s f ⟨#[]⟩ (op + 1)) L.length (gk - 1) j1 (incC N1 L.length)) := Lib.hid HZ3.out
          obtain ⟨fw, hgr⟩ := HOK.out j1 N1 rfl
          have hlt := fw.lt
          have hle := fw.le
          have htop := fw.top
          have hkN : L.length < N1.length := by omega
          have hgk := gl_take fw.pre hMk
          rw [← hgk] at hcn
          have hc1 := hcn.1
          have hc3 : (gl N1 L.length).m < j1 := by omega
          clear HV8 HOK HZ3 hgk hcn fw
          refine HV9.out.mono ?_
          rintro e w9 ⟨rfl, v9, r9, f9⟩
          obtain ⟨q9, cap9, he9, hpq9, _⟩ := r9.addr (by omega)
          subst he9
          have HR9 := Lib.hid r9
          have F9 := Lib.hid f9
          have c4e := r9.c4
          have d4 := (r9.cells hkN).2.2.2.2
          have z4 := r9.cellz (L.length * 5 + 4)
          have R10 := Lib.hid (r9.setF hpq9 hkN 4 (by decide) (.int .i64 ((gl N1 L.length).m + 1)) { gl N1 L.length with m := (gl N1 L.length).m + 1 } rfl)
          obtain ⟨m, hm⟩ : ∃ m, m = (gl N1 L.length).m := ⟨_, rfl⟩
          rw [← hm] at d4 R10 hc1 hc3
          have hc4 : m ≤ 100000 := by omega
          have HME := Lib.hid hm
          clear r9 f9 hm
          go_wp2_with fail
          go_roundg (gk - 1)
          case rel =>
            have hinc : incC N1 L.length = N1.set L.length { gl N1 L.length with m := m + 1 } := by rw [HME.out]; rfl
            refine ⟨j1, incC N1 L.length, by omega, by omega, HZ4, Lib.hid ?_⟩
            refine HMr.out.step HR7.out (by rw [hinc]; exact R10.out.1) (R8.out.2.trans (F9.out.trans R10.out.2)) (by rw [incC_len]; exact hkN) (by rw [incC_len]; exact htop) ?_
            rw [gl_incC hkN]
            dsimp only
            rw [← HME.out]
            omega
          case measure => omega
end Go.Proofs.YtmkkckhfdafjnaaGreatDoor.Li
/- Layer 18: a value that is an object; all values. -/
namespace Go.Proofs.YtmkkckhfdafjnaaGreatDoor.Li
open Go.RowKit Go.Maps Go.WideMaps
set_option maxRecDepth 20000 in
set_option maxHeartbeats 8000000 in
theorem value_obj {s : LTok} {f p i op cp : Nat} {ad : Option Addr} {L : List CR} {nm : ByteArray} {w : World} {cn ct : ByteArray} {cv cm : Int} (h : RdB w p s i op (.slice ad L.length cp) L) (hi : i < s.n) (hL : L.length < 2048) (hop : op ≤ 16) (h16 : op ≠ 16) (hV : VC s f) (hopf : op + (f + 1) = 17) (hl : LimP p w) (hcm : cm = 0) (hh : Calls Tryz.prog 79 #[.pointer (some ⟨p, 0, none⟩)] w fun e w' => e = .returned (.agg #[.int .u8 7, .string cn, .string ct, .int .i64 cv, .int .i64 cm]) ∧ Below w.heap.size w w') : Calls Tryz.prog 64 #[.pointer (some ⟨p, 0, none⟩), .string nm] w (OutP p s op (.slice ad L.length cp) w (bdL s (fun nm' j M => vaL s f nm' (op + 1) j M) ⟨7, nm, ct, cv, cm⟩ i L)) := by
  have hn : s.n ≤ 100000 := h.tok.2.1
  have HH2 := Lib.hid hh
  have HB := Lib.hid (fun W (k : Below w.heap.size w W) => h.below k)
  have HF := Lib.hid h.far
  have HLT := Lib.hid h.lt
  obtain ⟨Z, hZ⟩ : ∃ Z, Z = bdL s (fun nm' j M => vaL s f nm' (op + 1) j M) ⟨7, nm, ct, cv, cm⟩ i L := ⟨_, rfl⟩
  rw [← hZ]
  have HZ0 := Lib.hid hZ
  clear h hh hZ
  have hLi : (L.length : Int) ≤ 2048 := by omega
  have h48i : ((L.length : Int) == 2048) = false := beq_eq_false_iff_ne.2 (by omega)
  have hi2 : (i : Int) ≤ 100000 := by omega
  have HL := Lib.hid hl
  have HV := Lib.hid hV
  have q16 : ((op : Int) == 16) = false := beq_eq_false_iff_ne.2 (by omega)
  have HZ : Hid (Z = obF s (fun nm' j M => vaL s f nm' (op + 1) j M) L.length (s.n + 1 - (i + 1)) (i + 1) [] (L ++ [⟨7, nm, ct, cv, cm⟩])) := Lib.hid (by rw [HZ0.out]; unfold bdL; rw [if_neg (by show ¬ (7 : Nat) = 5; decide), if_neg (by show ¬ (7 : Nat) = 6; decide), if_pos rfl])
  have HG := Lib.hid (fun x => vaL_goes s f x (op + 1))
  have HCM := Lib.hid hcm
  have hmk := @run_makeMap Tryz.prog
  clear HZ0 hl hV hcm
  go_enter Tryz.func64, Tryz.ntmps64
  go_wp2_with fail
  refine HH2.out.mono ?_
  rintro e w1 ⟨rfl, b1⟩
  have BA := Lib.hid (b1.trans ((below_box w1 (.cells #[.int .u8 7, .string cn, .string ct, .int .i64 cv, .int .i64 cm] 46)).mono b1.size))
  have RA := Lib.hid (HB.out _ BA.out).1
  have c4 := RA.out.c4
  have c1 := RA.out.c1
  have c3 := RA.out.c3
  have z1 := RA.out.z 1
  have RN := Lib.hid (And.intro ((HB.out _ b1).1.at_ (i + 1) ((i : Int) + 1) (by omega)) (HB.out _ b1))
  have R2 := Lib.hid (RN.out.1.1.below (below_box _ (.cells #[.int .u8 7, .string nm, .string ct, .int .i64 cv, .int .i64 cm] 46)))
  have c4b := R2.out.1.c4
  have hlt1 : p < w1.heap.size := Nat.lt_of_lt_of_le HLT.out b1.size
  have hNp : ¬ (w1.heap.size = p) := by omega
  have hpN : ¬ (p = w1.heap.size) := by omega
  have HNV : Hid ((Value.slice ad L.length cp).ownBlock ≠ some w1.heap.size) := Lib.hid (fun e => by have h1 := (RN.out.2.1.row.lt _ e).2; omega)
  clear b1
  go_wp2_with fail
  obtain ⟨N, hN⟩ : ∃ N, N = w1.heap.size := ⟨_, rfl⟩
  have HNA : Hid (((w1.setCell ⟨p, 1, none⟩ (.int .i64 ((i : Int) + 1))).alloc (.cells #[.int .u8 7, .string nm, .string ct, .int .i64 cv, .int .i64 cm] 46)).heap[N]? = some (.cells #[.int .u8 7, .string nm, .string ct, .int .i64 cv, .int .i64 cm] 46)) := Lib.hid (by
    have e := heap_alloc_new (w1.setCell ⟨p, 1, none⟩ (.int .i64 ((i : Int) + 1))) (.cells #[.int .u8 7, .string nm, .string ct, .int .i64 cv, .int .i64 cm] 46)
    rw [hN]
    simpa using e)
  obtain ⟨A, hA⟩ : ∃ A, A = (w1.setCell ⟨p, 1, none⟩ (.int .i64 ((i : Int) + 1))).alloc (.cells #[.int .u8 7, .string nm, .string ct, .int .i64 cv, .int .i64 cm] 46) := ⟨_, rfl⟩
  rw [← hN] at HNV hNp hpN ⊢
  rw [← hA] at R2 HNA c4b ⊢
  have FA := Lib.hid (RN.out.2.2.trans (RN.out.1.2.trans R2.out.2))
  clear c4 c1 c3 z1 hA hN hlt1
  have HRW := Lib.hid R2.out.1.row
  have HSZ := Lib.hid R2.out.1.lt
  obtain ⟨a0, a1, a2, a3, a4, az⟩ := cl_cells HNA.out
  have c4a : ∀ o, (A.alloc o).cell? ⟨p, 4, none⟩ = some (.slice ad L.length cp) := fun o => (R2.out.1.below (below_box A o)).1.c4
  clear az
  go_region_law (first
    | (refine step_cell rfl (.tmp 61) (.tmp 63) rfl (p + 1) (.slice ad L.length cp) L [.int .u8 7, .string nm, .string ct, .int .i64 cv, .int .i64 cm] A.heap.size (by simp [Act.eval, Act.put]) (by simp [Act.eval, Act.put]) (HRW.out.drew.alloc _) (heap_alloc_new _ _) rfl (by intro u hu; simp at hu; rcases hu with rfl | rfl | rfl | rfl | rfl <;> rfl) (by omega) (by have := HSZ.out; simp; omega) ?_; intro v2 w2 o2 g2 x2; have R3 := Lib.hid (R2.out.1.push ⟨7, nm, ct, cv, cm⟩ o2 g2.os g2.tape g2.output (Nat.le_trans (by simp) g2.size) (fun k h1 h2 => by rw [g2.block k (by simp; omega) (fun e => h2 e.symm)]; exact heap_alloc_old _ _ h1) (x2.elim .inl (fun e => .inr (by obtain ⟨g, e1, e2⟩ := e; exact ⟨g, e1, by simp at e2; omega⟩)))); clear o2 g2 x2; obtain ⟨ad1, cp1, rfl⟩ := R3.out.2.2.1.slice; have c4' := R3.out.1; have z4' := R3.out.2.1))

  all_goals
    obtain ⟨W3, hW3⟩ : ∃ W3, W3 = w2.setCell ⟨p, 4, none⟩ (.slice ad1 (L.length + 1) cp1) := ⟨_, rfl⟩
    obtain ⟨M, hM⟩ : ∃ M, M = L ++ [(⟨7, nm, ct, cv, cm⟩ : CR)] := ⟨_, rfl⟩
    have hML : M.length = L.length + 1 := by rw [hM]; simp
    have R4 := R3.out.2.2
    rw [← hM] at R4
    rw [hML, ← hW3] at R4
    rw [← hW3]
    clear hW3 R3 c4' z4'
    obtain ⟨q, cap, he, hpq, hqs⟩ := R4.1.addr (by omega)
    simp only [Value.slice.injEq] at he
    obtain ⟨rfl, hmm, rfl⟩ := he
    clear hmm
    have R5 : Hid (RdB W3 p s (i + 1) op (.slice (some ⟨q, 0, none⟩) M.length cp1) M ∧ Fr p (.slice ad L.length cp) (.slice (some ⟨q, 0, none⟩) M.length cp1) w W3) := Lib.hid (by rw [hML]; exact ⟨R4.1, FA.out.trans R4.2⟩)
    have hN3 := keep_cell R4.2 HNA.out hNp HNV.out
    obtain ⟨b0, b1, b2, b3, b4, bz⟩ := cl_cells hN3
    have c4c : W3.cell? ⟨p, 4, none⟩ = some (.slice (some ⟨q, 0, none⟩) (L.length + 1) cp1) := R4.1.c4
    have hLM : L.length < M.length := by omega
    have HM := Lib.hid hM
    have HML := Lib.hid hML
    clear R4 hN3 b1 b2 b3 b4 bz hM hML a0 a1 a2 a3 a4 c4a c4b HNA HRW HSZ R2
    have HR5 := Lib.hid R5.out.1
    have c3c : W3.cell? ⟨p, 3, none⟩ = some (.int .i64 op) := HR5.out.c3
    have z3c := HR5.out.z 3
    have RO := Lib.hid (HR5.out.open_ (op + 1) ((op : Int) + 1) (by omega))
    have hopi : (op : Int) ≤ 16 := by omega
    have HLM := Lib.hid (HL.out.fr (R5.out.2.trans RO.out.2) (Nat.le_of_lt HLT.out) HF.out)
    have FO := Lib.hid (R5.out.2.trans RO.out.2)
    have hgm : gl M L.length = ⟨7, nm, ct, cv, cm⟩ := by rw [HM.out, gl_last]
    have hML := HML.out

    have HZ2 : Hid (Z = obF s (fun nm' j M => vaL s f nm' (op + 1) j M) L.length (s.n + 1 - (i + 1)) (i + 1) [] M) := Lib.hid (by rw [HZ.out, HM.out])
    obtain ⟨WO, hWO⟩ : ∃ WO, WO = W3.setCell ⟨p, 3, none⟩ (.int .i64 ((op : Int) + 1)) := ⟨_, rfl⟩
    have hWs : WO.heap.size = W3.heap.size := by rw [hWO]; simp
    have hHS : OM s p (op + 1) L.length W3.heap.size (.slice ad L.length cp) w (WO.alloc (.map #[] 0)) (i + 1) [] M := by
      rw [← hWO] at RO FO HLM
      have RB := RO.out.1.below (below_box WO (.map #[] 0))
      refine ⟨⟨_, RB.1, FO.out.trans RB.2, ⟨by rw [← hWs]; exact RO.out.1.lt, fun e => ?_⟩⟩, ⟨0, Nat.zero_le _, ?_⟩, HLM.out.fr RB.2 (Nat.le_of_lt RO.out.1.lt) RO.out.1.far, by omega, by omega, by rw [hgm, HCM.out]; exact ⟨by show (0 : Int) ≤ 0; decide, by show (0 : Int) ≤ ((i + 1 : Nat) : Int); omega⟩, by rw [← hWs]; exact FO.out.size⟩
      · have e2 : q = W3.heap.size := Option.some.inj e
        omega
      · rw [← hWs]
        exact World.ownsMap_made WO _ _ _
    have HS := Lib.hid hHS
    obtain ⟨F0, hF0⟩ : ∃ F0, F0 = s.n + 1 - (i + 1) := ⟨_, rfl⟩
    rw [← hF0] at HZ2
    have hfu : s.n + 1 - (i + 1) ≤ F0 := by omega
    rw [hWO] at HS
    clear HZ hF0 hgm hML HLM FO hHS hWO hWs
    go_wp2_with fail
    obtain ⟨W4, hW4⟩ : ∃ W4, W4 = (W3.setCell ⟨p, 3, none⟩ (.int .i64 ((op : Int) + 1))).alloc (.map #[] 0) := ⟨_, rfl⟩
    rw [← hW4] at HS ⊢
    obtain ⟨bm, hbm⟩ : ∃ bm, bm = W3.heap.size := ⟨_, rfl⟩
    rw [← hbm] at HS ⊢
    clear hW4 hbm
    go_loopg [129, 130] F0 (fun fu _ _ wr => ∃ (j : Nat) (ns : List ByteArray) (M' : List CR), s.n + 1 - j ≤ fu ∧ j ≤ s.n ∧ Hid (Z = obF s (fun nm' j M => vaL s f nm' (op + 1) j M) L.length fu j ns M') ∧ Hid (OM s p (op + 1) L.length bm (.slice ad L.length cp) w wr j ns M'))
    case atStart => exact ⟨i + 1, [], M, hfu, by omega, HZ2, HS⟩
    case round =>
      obtain ⟨j, ns, M', hf, hj, HZr, HMr⟩ := hrel
      clear hfu HZ2 HS
      obtain ⟨v7, r7, f7, a7⟩ := HMr.out.rd
      obtain ⟨n7, hn7, m7⟩ := HMr.out.met
      have hMk := HMr.out.hk
      have hMM := HMr.out.hM
      have hcn := HMr.out.cnt
      have hZs : Z = if isMk (tkA s j) mRC = true then .ok (j + 1, M') else (nwL s ns j).bind fun nm => if isMk (tkA s (j + 1)) mColon = true then (vaL s f nm (op + 1) (j + 2) M').bind fun y => obF s (fun nm' j M => vaL s f nm' (op + 1) j M) L.length (gk - 1) y.1 (nm :: ns) (incC y.2 L.length) else .bad (j + 1) 180 := by
        obtain ⟨g2, hg2⟩ : ∃ g2, gk = g2 + 1 := ⟨gk - 1, by omega⟩
        rw [HZr.out, hg2]
        rfl
      have HR7 := Lib.hid r7
      have F7 := Lib.hid f7
      by_cases hsk : isMk (tkA s j) mRC = true
      · have HSK := Lib.hid (skip_yes (x := mRC) wr r7 (by omega) hsk)
        have HZ3 : Hid (Z = .ok (j + 1, M')) := Lib.hid (by rw [hZs, if_pos hsk])
        unfold mRC at HSK
        clear hZs hsk r7 f7 hcn HZr a7 m7
        go_wp2_with fail
        refine HSK.out.mono ?_
        rintro e w8 ⟨rfl, r8, f8⟩
        have c3e := r8.c3
        have z3e := r8.z 3
        have RP := Lib.hid (r8.open_ op op rfl)
        have F8 := Lib.hid f8
        clear r8 f8
        go_wp2_with fail
        go_end0
        rw [HZ3.out]
        exact ⟨rfl, _, RP.out.1, F7.out.trans (F8.out.trans RP.out.2)⟩
      · have HSK := Lib.hid (skip_no (x := mRC) wr r7 (by omega) (by simpa using hsk))
        unfold mRC at HSK
        rw [if_neg hsk] at hZs
        have HZw := Lib.hid hZs
        clear hsk HZr hZs
        go_wp2_with fail
        refine HSK.out.mono ?_
        rintro e w8 ⟨rfl, b8⟩
        have hZs := HZw.out
        have R8 := Lib.hid (r7.below b8)
        have O8 := Lib.hid (HMr.out.step r7 R8.out.1 R8.out.2 (Nat.le_refl _) hMk hMM hcn)
        have HNW := Lib.hid (newName_any w8 R8.out.1 (met_fr m7 a7 R8.out.2).1 a7 (by omega) (by omega))
        have HNQ := Lib.hid (fun x => nwL_ok (s := s) (ns := ns) (i := j) (x := x))
        obtain ⟨X, hX⟩ : ∃ X, X = nwL s ns j := ⟨_, rfl⟩
        rw [← hX] at HNW hZs HNQ
        have F8 := Lib.hid (F7.out.trans R8.out.2)
        have HZq := Lib.hid hZs
        clear hX r7 f7 b8 a7 m7 hZs HZw
        go_wp2_with fail
        cases X with
        | bad a m =>
          have HN9 : Hid (Calls Tryz.prog 62 #[.pointer (some ⟨p, 0, none⟩), .map (some bm)] w8 fun e w' => e = thr a m ∧ Below p w8 w') := Lib.hid HNW.out
          have HZ4 : Hid (Z = .bad a m) := Lib.hid HZq.out
          refine HN9.out.mono ?_
          rintro e w9 ⟨he, b9⟩
          unfold thr at he
          subst he
          (try go_wp2_with fail)
          rw [HZ4.out]
          simp only [bodyPost]
          exact ⟨trivial, rfl, (F8.out.below HF.out (Nat.le_of_lt HLT.out)).trans b9⟩
        | ok x =>
          have HN9 : Hid (Calls Tryz.prog 62 #[.pointer (some ⟨p, 0, none⟩), .map (some bm)] w8 fun e w' => e = .returned (.string x) ∧ RdB w' p s (j + 1) (op + 1) v7 M' ∧ Met w' bm (n7 + 1) (x :: ns) ∧ Below p w8 w' ∧ ∃ W, Fr p v7 v7 w8 W ∧ W.grownBy w' (some bm) ∧ bm < W.heap.size) := Lib.hid HNW.out
          have hj1 : j < s.n := isNm_in (HNQ.out x rfl).1
          have hZs := HZq.out
          simp only [LR.bind_ok] at hZs
          clear HNW HNQ HZq
          refine HN9.out.mono ?_
          rintro e w9 ⟨rfl, r9, m9, b9, hW⟩
          have O9 := Lib.hid (O8.out.named R8.out.1 r9 hn7 m9 b9 hW)
          clear m9 hW
          by_cases hc : isMk (tkA s (j + 1)) mColon = true
          · have hj2 : j + 1 < s.n := isMk_in hc
            have HTK := Lib.hid (take_ok (x := mColon) w9 r9 (by omega) hc)
            rw [if_pos hc] at hZs
            have HZq := Lib.hid hZs
            unfold mColon at HTK
            have HR9 := Lib.hid r9
            clear hc r9 b9 hZs
            go_wp2_with fail
            refine HTK.out.mono ?_
            rintro e w10 ⟨rfl, r10, f10⟩
            have O10 := Lib.hid (O9.out.step HR9.out r10 f10 (Nat.le_succ _) hMk hMM ⟨hcn.1, by omega⟩)
            have HR10 := Lib.hid r10
            have HV8 := Lib.hid (HV.out p (j + 2) (op + 1) v7 M' x w10 (by omega) r10 O10.out.lim (by omega) hMM)
            have HOK := Lib.hid (fun j1 N1 => HG.out x (j + 2) M' j1 N1 hMM)
            obtain ⟨Y, hY⟩ : ∃ Y, Y = vaL s f x (op + 1) (j + 2) M' := ⟨_, rfl⟩
            rw [← hY] at HV8 HOK HZq
            have HZ3 := HZq
            obtain ⟨u10, q10, g10, _⟩ := O10.out.rd
            obtain rfl := q10.veq r10
            have F10 := Lib.hid g10
            clear hY r10 f10 q10 g10 HZq
            go_wp2_with fail
            cases Y with
            | bad a m =>
              have HV9 : Hid (Calls Tryz.prog 64 #[.pointer (some ⟨p, 0, none⟩), .string x] w10 fun e w' => e = thr a m ∧ Below p w10 w') := Lib.hid HV8.out
              have HZ4 : Hid (Z = .bad a m) := Lib.hid HZ3.out
              refine HV9.out.mono ?_
              rintro e w9 ⟨he, b9⟩
              unfold thr at he
              subst he
              (try go_wp2_with fail)
              rw [HZ4.out]
              simp only [bodyPost]
              exact ⟨trivial, rfl, (F10.out.below HF.out (Nat.le_of_lt HLT.out)).trans b9⟩
            | ok y =>
              obtain ⟨j1, N1⟩ := y
              have HV9 : Hid (Calls Tryz.prog 64 #[.pointer (some ⟨p, 0, none⟩), .string x] w10 fun e w' => e = .returned (.tuple #[]) ∧ ∃ v', RdB w' p s j1 (op + 1) v' N1 ∧ Fr p u10 v' w10 w') := Lib.hid HV8.out
              have HZ4 : Hid (Z = obF s (fun nm' j M => vaL s f nm' (op + 1) j M) L.length (gk - 1) j1 (x :: ns) (incC N1 L.length)) := Lib.hid HZ3.out
              obtain ⟨fw, hgr⟩ := HOK.out j1 N1 rfl
              have hlt := fw.lt
              have hle := fw.le
              have htop := fw.top
              have hkN : L.length < N1.length := by omega
              have hgk := gl_take fw.pre hMk
              rw [← hgk] at hcn
              have hc1 := hcn.1
              have hc3 : (gl N1 L.length).m < j1 := by omega
              clear HV8 HOK HZ3 hgk hcn fw
              refine HV9.out.mono ?_
              rintro e w9 ⟨rfl, v9, r9, f9⟩
              obtain ⟨q9, cap9, he9, hpq9, _⟩ := r9.addr (by omega)
              subst he9
              have HR9 := Lib.hid r9
              have F9 := Lib.hid f9
              have c4e := r9.c4
              have d4 := (r9.cells hkN).2.2.2.2
              have z4 := r9.cellz (L.length * 5 + 4)
              have R10 := Lib.hid (r9.setF hpq9 hkN 4 (by decide) (.int .i64 ((gl N1 L.length).m + 1)) { gl N1 L.length with m := (gl N1 L.length).m + 1 } rfl)
              obtain ⟨m, hm⟩ : ∃ m, m = (gl N1 L.length).m := ⟨_, rfl⟩
              rw [← hm] at d4 R10 hc1 hc3
              have hc4 : m ≤ 100000 := by omega
              have HME := Lib.hid hm
              clear r9 f9 hm
              go_wp2_with fail
              go_roundg (gk - 1)
              case rel =>
                have hinc : incC N1 L.length = N1.set L.length { gl N1 L.length with m := m + 1 } := by rw [HME.out]; rfl
                refine ⟨j1, x :: ns, incC N1 L.length, by omega, by omega, HZ4, Lib.hid ?_⟩
                refine O10.out.step HR10.out (by rw [hinc]; exact R10.out.1) (F9.out.trans R10.out.2) (by omega) (by rw [incC_len]; exact hkN) (by rw [incC_len]; exact htop) ?_
                rw [gl_incC hkN]
                dsimp only
                rw [← HME.out]
                omega
              case measure => omega
          · have HTK := Lib.hid (take_bad (x := mColon) w9 r9 (by omega) (by simpa using hc))
            rw [if_neg hc] at hZs
            have HZ4 := Lib.hid hZs
            unfold mColon at HTK
            have hpw := r9.lt
            clear hc r9 hZs
            go_wp2_with fail
            refine HTK.out.mono ?_
            rintro e w10 ⟨he, b10⟩
            unfold thr at he
            subst he
            (try go_wp2_with fail)
            rw [HZ4.out]
            simp only [bodyPost]
            exact ⟨trivial, rfl, ((F8.out.below HF.out (Nat.le_of_lt HLT.out)).trans b9).trans (b10.mono (Nat.le_of_lt hpw))⟩
end Go.Proofs.YtmkkckhfdafjnaaGreatDoor.Li
/- Layer 18: what is read fixed is read alike otherwise, and has no variable (plain). -/
namespace Go.Proofs.YtmkkckhfdafjnaaGreatDoor.Li
open Go.RowKit Go.Maps
/-- No cell is a variable. -/
def NoV (L : List CR) : Prop := ∀ c ∈ L, c.k ≠ 5
theorem NoV.put {L : List CR} {c : CR} (h : NoV L) (hc : c.k ≠ 5) : NoV (L ++ [c]) := by
  intro x hx
  rcases List.mem_append.1 hx with hx | hx
  · exact h x hx
  · rw [List.mem_singleton.1 hx]; exact hc
end Go.Proofs.YtmkkckhfdafjnaaGreatDoor.Li
/- Layer 4: a text quoted behind a row; a comma. With what stays of other rows. -/
namespace Go.Proofs.YtmkkckhfdafjnaaGreatDoor
open Go.RowKit
/-- What a row's growth leaves: all but the row, and where the row lies now. -/
def Kp (w : World) (v : Value) (w' : World) (v' : Value) : Prop := w.grownBy w' v.ownBlock ∧ (v'.ownBlock = v.ownBlock ∨ ∃ g, v'.ownBlock = some g ∧ w.heap.size ≤ g)
theorem Kp.refl (w : World) (v : Value) : Kp w v w v := ⟨World.grownBy.refl _ _, .inl rfl⟩
theorem Kp.trans {a b c : World} {v u x : Value} (h : Kp a v b u) (k : Kp b u c x) : Kp a v c x := by
  refine ⟨⟨k.1.os.trans h.1.os, k.1.tape.trans h.1.tape, k.1.output.trans h.1.output, Nat.le_trans h.1.size k.1.size, fun i hi hn => ?_⟩, ?_⟩
  · rw [k.1.block i (Nat.lt_of_lt_of_le hi h.1.size) ?_, h.1.block i hi hn]
    intro e
    rcases h.2 with h2 | ⟨g, h2, h3⟩
    · exact hn (e.trans h2)
    · rw [h2] at e
      have := Option.some.inj e
      omega
  · rcases k.2 with k2 | ⟨g, k2, k3⟩
    · rcases h.2 with h2 | ⟨g, h2, h3⟩
      · exact .inl (k2.trans h2)
      · exact .inr ⟨g, k2.trans h2, h3⟩
    · exact .inr ⟨g, k2, Nat.le_trans h.1.size k3⟩
theorem Kp.alloc {a b : World} {v u : Value} (h : Kp a v b u) (o : Obj) : Kp a v (b.alloc o) u := h.trans ⟨World.grownBy_alloc _ _ _, .inl rfl⟩
theorem Kp.drew {a b : World} {v u : Value} (h : Kp a v b u) : Kp a v b.drew u := ⟨⟨h.1.os, h.1.tape, h.1.output, h.1.size, h.1.block⟩, h.2⟩
theorem Kp.up {a b c : World} {v u : Value} (h : Kp a v b u) (k : Below b.heap.size b c) : Kp a v c u := h.trans ⟨⟨k.os, k.tape, k.output, k.size, fun i hi _ => k.block i hi⟩, .inl rfl⟩
theorem Kp.keep {a b : World} {v u : Value} (h : Kp a v b u) {k : Nat} {o : Obj} (hk : a.heap[k]? = some o) (hn : ∀ j, v.ownBlock = some j → j ≠ k) : b.heap[k]? = some o := by
  rw [h.1.block k (Array.getElem?_eq_some_iff.1 hk).1 (fun e => hn k e.symm rfl)]
  exact hk
end Go.Proofs.YtmkkckhfdafjnaaGreatDoor
/- Layer 4: how large a value's JSON is; the tables. -/
namespace Go.Proofs.YtmkkckhfdafjnaaGreatDoor
open Go.RowKit
def i64ok (i : Int) : Prop := -9223372036854775808 ≤ i ∧ i ≤ 9223372036854775807
/-- What the tables hold: the powers of ten. -/
def Tabs (w : World) : Prop := Lib.TabIs Tryz.prog w "internal/strconv.uint64pow10" .u64 Lib.pow10Tab
theorem gPow : Tryz.prog.globalNamed "internal/strconv.uint64pow10" = some 0 := by kernel_rfl
theorem Tabs.later {w w' : World} (t : Tabs w) (h : Below w.heap.size w w') : Tabs w' :=
  var?_below h gPow (World.block_lt_of_cell? w ⟨0, 0, none⟩ (Lib.TabIs.cell t gPow 0 (by decide +kernel))) t
theorem below_new (w : World) (k : Nat) (os : Array Obj) : Below w.heap.size w (Sort.grow (w.drewN k) os) := by
  refine ⟨rfl, rfl, rfl, by simp [Sort.grow], fun i hi => ?_⟩
  show ((w.drewN k).heap ++ os)[i]? = _
  rw [Array.getElem?_append_left (by exact hi)]
  rfl
theorem swrite_any (n : Int) (w : World) (t : Tabs w) (h : i64ok n) :
    Calls Tryz.prog 67 #[.int .i64 n] w fun e w' => e = .returned (.string (itT n)) ∧ Below w.heap.size w w' := by
  go_enter Tryz.func67, Tryz.ntmps67
  go_wp2_with fail
  refine (Tryz.strconv_FormatInt_10 n h.1 h.2 _ t).mono ?_
  rintro e w1 ⟨rfl, k, os, hw⟩
  have b1 : Below w.heap.size w w1 := by rw [hw]; exact below_new _ _ _
  clear hw
  go_wp2_with fail
  go_ret
  exact ⟨rfl, b1⟩
end Go.Proofs.YtmkkckhfdafjnaaGreatDoor
/- Layer 18: plain facts on cells. -/
namespace Go.Proofs.YtmkkckhfdafjnaaGreatDoor.Li
open Go.RowKit Go.Maps
theorem wk_tr {g1 g2 : Nat → CR} {n1 n2 r a e : Nat} (h : wk g1 n1 r a = some e) (hg : ∀ t, a ≤ t → t < e → g1 t = g2 t) (he : e ≤ n2) : wk g2 n2 r a = some e := by
  have h2 := wk_shift (g1 := g1) (g2 := g2) (n1 := n1) (n2 := n2) (s1 := 0) (s2 := 0) r a e h (fun t h1 h2 => by rw [Nat.add_zero, hg t h1 h2]; exact ⟨rfl, rfl, rfl, rfl, fun _ => rfl⟩) he
  exact h2
theorem wk_sh {g1 g2 : Nat → CR} {n1 n2 r e s : Nat} (h : wk g1 n1 r 0 = some e) (hg : ∀ t, t < e → g1 t = g2 (t + s)) (he : e + s ≤ n2) : wk g2 n2 r s = some (e + s) := by
  have h2 := wk_shift (g1 := g1) (g2 := g2) (n1 := n1) (n2 := n2) (s1 := 0) (s2 := s) r 0 e h (fun t h1 h2 => by rw [Nat.add_zero, hg t h2]; exact ⟨rfl, rfl, rfl, rfl, fun _ => rfl⟩) he
  rwa [Nat.zero_add] at h2
/-- So many items stand behind the first cell. -/
inductive Kd (g : Nat → CR) (n r : Nat) (obj : Bool) : Nat → List ByteArray → Nat → Prop
  | nil : Kd g n r obj 0 [] 1
  | snoc {m b b' : Nat} {ns : List ByteArray} : Kd g n r obj m ns b → namedP obj ns (g b).nm = true → wk g n r b = some b' → Kd g n r obj (m + 1) (if obj then (g b).nm :: ns else ns) b'
theorem Kd.le {g : Nat → CR} {n r : Nat} {obj : Bool} {m b : Nat} {ns : List ByteArray} (h : Kd g n r obj m ns b) : m + 1 ≤ b := by
  induction h with
  | nil => exact Nat.le_refl _
  | snoc _ _ hw ih => have := wk_lt _ _ _ hw; omega
theorem Kd.tr {g1 g2 : Nat → CR} {n1 n2 r : Nat} {obj : Bool} {m b : Nat} {ns : List ByteArray} (h : Kd g1 n1 r obj m ns b) (hg : ∀ t, 1 ≤ t → t < b → g1 t = g2 t) (hb : b ≤ n2) : Kd g2 n2 r obj m ns b := by
  induction h with
  | nil => exact .nil
  | @snoc m b b' ns hk hn hw ih =>
    have hlt := wk_lt _ _ _ hw
    have hle := hk.le
    have i := ih (fun t h1 h2 => hg t h1 (by omega)) (by omega)
    have e := hg b (by omega) (by omega)
    have := Kd.snoc i (by rw [← e]; exact hn) (wk_tr hw (fun t h1 h2 => hg t (by omega) h2) hb)
    rw [← e] at this
    exact this
theorem gl_cons_app {H H' : CR} {C N : List CR} {t : Nat} (h1 : 1 ≤ t) (h2 : t < C.length + 1) : gl (H :: C) t = gl (H' :: (C ++ N)) t := by
  obtain ⟨u, rfl⟩ : ∃ u, t = u + 1 := ⟨t - 1, by omega⟩
  unfold gl
  simp only [List.getD_eq_getElem?_getD, List.getElem?_cons_succ]
  rw [List.getElem?_append_left (by omega)]
theorem gl_cons_new {H' : CR} {C N : List CR} {t : Nat} : gl N t = gl (H' :: (C ++ N)) (t + (C.length + 1)) := by
  unfold gl
  rw [show t + (C.length + 1) = (t + C.length) + 1 by omega]
  simp only [List.getD_eq_getElem?_getD, List.getElem?_cons_succ]
  rw [List.getElem?_append_right (by omega), Nat.add_sub_cancel]
theorem incC_last {L C : List CR} {c : CR} : incC (L ++ [c] ++ C) L.length = L ++ [{ c with m := c.m + 1 }] ++ C := by
  have h : gl (L ++ [c] ++ C) L.length = c := by unfold gl; simp [List.getD_eq_getElem?_getD]
  show (L ++ [c] ++ C).set L.length { gl (L ++ [c] ++ C) L.length with m := (gl (L ++ [c] ++ C) L.length).m + 1 } = _
  rw [h, List.append_assoc, List.set_append_right _ _ (Nat.le_refl _), Nat.sub_self, List.append_assoc]
  rfl
end Go.Proofs.YtmkkckhfdafjnaaGreatDoor.Li
/- Layer 18: the tokens of cells (plain). -/
namespace Go.Proofs.YtmkkckhfdafjnaaGreatDoor.Li
open Go.RowKit Go.Maps
def nmT (x : ByteArray) : TkR := ⟨1, x, 0⟩
def mkT (x : ByteArray) : TkR := ⟨4, x, 0⟩
/-- The tokens of a value that has none within. -/
def lfT (c : CR) : List TkR :=
  if c.k = 0 then [nmT tNull] else if c.k = 1 then [nmT (if c.n = 1 then tTrue else tFalse)] else if c.k = 2 then [⟨2, itT c.n, 0⟩]
  else if c.k = 3 then [⟨3, c.tx, 0⟩] else if c.k = 5 then [mkT mDollar, nmT c.tx] else [nmT c.tx]
def mbT (obj : Bool) (x : ByteArray) : List TkR := if obj then [nmT x, mkT mColon] else []
/-- The tokens of so many values, one behind the other, and the place behind them. -/
def kwF (w : Nat → List TkR × Nat) (g : Nat → CR) (obj : Bool) : Nat → Nat → List TkR × Nat
  | 0, a => ([], a)
  | m + 1, a => (mbT obj (g a).nm ++ (w a).1 ++ (kwF w g obj m (w a).2).1, (kwF w g obj m (w a).2).2)
def opT (k : Nat) : TkR := mkT (if k = 7 then mLC else mLB)
def clT (k : Nat) : TkR := mkT (if k = 7 then mRC else mRB)
/-- The tokens of the value at a place, and the place behind it. -/
def tkW (g : Nat → CR) : Nat → Nat → List TkR × Nat
  | 0, a => (lfT (g a), a + 1)
  | r + 1, a => if headP (g a) then
      (opT (g a).k :: ((kwF (tkW g r) g (decide ((g a).k = 7)) (g a).m.toNat (a + 1)).1 ++ [clT (g a).k]), (kwF (tkW g r) g (decide ((g a).k = 7)) (g a).m.toNat (a + 1)).2)
    else (lfT (g a), a + 1)
theorem kw_shift {g1 g2 : Nat → CR} {n1 s r : Nat} {obj : Bool} (hw : ∀ a e, wk g1 n1 r a = some e → (∀ t, a ≤ t → t < e → g2 (t + s) = g1 t) → tkW g2 r (a + s) = ((tkW g1 r a).1, e + s) ∧ (tkW g1 r a).2 = e) : ∀ (m : Nat) (ns : List ByteArray) (a e : Nat), kidsF (wk g1 n1 r) g1 n1 obj m ns a = some e → (∀ t, a ≤ t → t < e → g2 (t + s) = g1 t) → kwF (tkW g2 r) g2 obj m (a + s) = ((kwF (tkW g1 r) g1 obj m a).1, e + s) ∧ (kwF (tkW g1 r) g1 obj m a).2 = e
  | 0, ns, a, e, h, hg => by
    simp [kidsF] at h
    subst h
    exact ⟨rfl, rfl⟩
  | m + 1, ns, a, e, h, hg => by
    rw [kidsF] at h
    split at h
    · cases h
    rename_i han
    split at h
    · rename_i hn
      cases hx : wk g1 n1 r a with
      | none => rw [hx] at h; cases h
      | some a' =>
        rw [hx] at h
        dsimp only at h
        have hlt := wk_lt _ _ _ hx
        have hle := (kidsF_lt (fun a e q => wk_lt _ _ _ q) _ _ _ _ hlt.2 h).1
        obtain ⟨w1, w2⟩ := hw a a' hx (fun t h1 h2 => hg t h1 (by omega))
        obtain ⟨k1, k2⟩ := kw_shift hw m _ a' e h (fun t h1 h2 => hg t (by omega) h2)
        refine ⟨?_, ?_⟩
        · rw [kwF, kwF, hg a (Nat.le_refl _) (by omega), w1]
          dsimp only
          rw [k1, w2]
        · rw [kwF]
          dsimp only
          rw [w2]
          exact k2
    · cases h
theorem tkW_shift {g1 g2 : Nat → CR} {n1 s : Nat} : ∀ (r a e : Nat), wk g1 n1 r a = some e → (∀ t, a ≤ t → t < e → g2 (t + s) = g1 t) → tkW g2 r (a + s) = ((tkW g1 r a).1, e + s) ∧ (tkW g1 r a).2 = e
  | 0, a, e, h, hg => by
    have hlt := wk_lt _ _ _ h
    rw [wk_z] at h
    split at h
    · cases h
    split at h
    · cases h
      unfold tkW
      rw [hg a (Nat.le_refl _) (by omega), Nat.add_right_comm]
      exact ⟨rfl, rfl⟩
    · cases h
  | r + 1, a, e, h, hg => by
    have hlt := wk_lt _ _ _ h
    have e0 := hg a (Nat.le_refl _) hlt.1
    rw [wk_s] at h
    split at h
    · cases h
    split at h
    · split at h
      · rename_i hh
        obtain ⟨k1, k2⟩ := kw_shift (s := s) (g2 := g2) (fun a e => tkW_shift r a e) _ _ _ _ h (fun t h1 h2 => hg t (by omega) h2)
        rw [Nat.add_right_comm] at k1
        unfold tkW
        rw [e0, if_pos hh, if_pos hh, k1]
        exact ⟨rfl, k2⟩
      · rename_i hh
        cases h
        unfold tkW
        rw [e0, if_neg hh, if_neg hh, Nat.add_right_comm]
        exact ⟨rfl, rfl⟩
    · cases h
theorem tkW_end {g : Nat → CR} {n r a e : Nat} (h : wk g n r a = some e) : (tkW g r a).2 = e := (tkW_shift (s := 0) (g2 := g) r a e h (fun t _ _ => by rw [Nat.add_zero])).2
theorem tkW_eq {g1 g2 : Nat → CR} {n r a e : Nat} (h : wk g1 n r a = some e) (hg : ∀ t, a ≤ t → t < e → g1 t = g2 t) : tkW g2 r a = tkW g1 r a := by
  have h1 := tkW_shift (s := 0) (g2 := g2) r a e h (fun t h1 h2 => by rw [Nat.add_zero]; exact (hg t h1 h2).symm)
  rw [Nat.add_zero] at h1
  rw [h1.1, Nat.add_zero, ← h1.2]
/-! ### Tokens that are alike -/
def t0 : ByteArray := ⟨#[48]⟩
def tm0 : ByteArray := ⟨#[45, 48]⟩
/-- An Int of -0 is one of 0. -/
def alT (a b : TkR) : Prop := a.k = b.k ∧ (a.s = b.s ∨ (a.s = t0 ∧ b.s = tm0))
def AlT (s : LTok) : Nat → List TkR → Prop
  | _, [] => True
  | i, t :: r => alT t (tkA s i) ∧ AlT s (i + 1) r
theorem alT_app {s : LTok} : ∀ {A B : List TkR} {i : Nat}, AlT s i (A ++ B) ↔ AlT s i A ∧ AlT s (i + A.length) B
  | [], B, i => by simp [AlT]
  | t :: r, B, i => by
    have ih := alT_app (A := r) (B := B) (i := i + 1) (s := s)
    simp only [List.cons_append, AlT, List.length_cons, ih, and_assoc]
    rw [show i + 1 + r.length = i + (r.length + 1) by omega]
/-- Items stand behind the first cell, and these are their tokens. -/
inductive Kt (g : Nat → CR) (n r : Nat) (obj : Bool) : Nat → List ByteArray → Nat → List TkR → Prop
  | nil : Kt g n r obj 0 [] 1 []
  | snoc {m b b' : Nat} {ns : List ByteArray} {T : List TkR} : Kt g n r obj m ns b T → namedP obj ns (g b).nm = true → wk g n r b = some b' → Kt g n r obj (m + 1) (if obj then (g b).nm :: ns else ns) b' (T ++ (mbT obj (g b).nm ++ (tkW g r b).1))
theorem Kt.kd {g : Nat → CR} {n r : Nat} {obj : Bool} {m b : Nat} {ns : List ByteArray} {T : List TkR} (h : Kt g n r obj m ns b T) : Kd g n r obj m ns b := by
  induction h with
  | nil => exact .nil
  | snoc _ h2 h3 ih => exact .snoc ih h2 h3
theorem Kt.tok {g : Nat → CR} {n r : Nat} {obj : Bool} {m b : Nat} {ns : List ByteArray} {T : List TkR} (h : Kt g n r obj m ns b T) : ∀ d, kwF (tkW g r) g obj (m + d) 1 = (T ++ (kwF (tkW g r) g obj d b).1, (kwF (tkW g r) g obj d b).2) := by
  induction h with
  | nil => intro d; rw [Nat.zero_add]; rfl
  | @snoc m b b' ns T hk hn hw ih =>
    intro d
    rw [show m + 1 + d = m + (d + 1) by omega, ih (d + 1), kwF]
    dsimp only
    rw [tkW_end hw]
    simp only [List.append_assoc]
theorem Kt.tr {g1 g2 : Nat → CR} {n1 n2 r : Nat} {obj : Bool} {m b : Nat} {ns : List ByteArray} {T : List TkR} (h : Kt g1 n1 r obj m ns b T) (hg : ∀ t, 1 ≤ t → t < b → g1 t = g2 t) (hb : b ≤ n2) : Kt g2 n2 r obj m ns b T := by
  induction h with
  | nil => exact .nil
  | @snoc m b b' ns T hk hn hw ih =>
    have hlt := wk_lt _ _ _ hw
    have hle := hk.kd.le
    have i := ih (fun t h1 h2 => hg t h1 (by omega)) (by omega)
    have e := hg b (by omega) (by omega)
    have := Kt.snoc i (by rw [← e]; exact hn) (wk_tr hw (fun t h1 h2 => hg t (by omega) h2) hb)
    rw [← e, tkW_eq hw (fun t h1 h2 => hg t (by omega) h2)] at this
    exact this
end Go.Proofs.YtmkkckhfdafjnaaGreatDoor.Li
/- Layer 18: what is read may be, and its tokens are those it was read from (plain). -/
namespace Go.Proofs.YtmkkckhfdafjnaaGreatDoor.Li
open Go.RowKit Go.Maps
/-- Tokens that may be, none too long. -/
structure TkO (s : LTok) : Prop where
  ok : ∀ i, i < s.n → okT (s.g i) = true
  sm : ∀ i, i < s.n → (s.g i).s.size ≤ 3000
theorem TkO.at_ {s : LTok} (h : TkO s) (i : Nat) : okT (tkA s i) = true ∧ (tkA s i).s.size ≤ 3000 := by
  by_cases k : i < s.n
  · rw [tkA_in k]; exact ⟨h.ok i k, h.sm i k⟩
  · rw [tkA_out (by omega)]; exact ⟨okT_end0, by decide⟩
/-- A cell of a literal. -/
structure OkL (c : CR) : Prop where
  k : c.k < 256
  nm : c.nm = ⟨#[]⟩ ∨ nmB c.nm = true
  nms : c.nm.size ≤ 3000
  en : c.k = 4 → ¬ (c.tx = tNull ∨ c.tx = tFalse ∨ c.tx = tTrue)
  tx : c.tx.size ≤ 3000
  nn : i64ok c.n
  mm : 0 ≤ c.m ∧ c.m ≤ 2048
/-- Cells are one value, of a name; their tokens are those from a place to another one. -/
structure SVt (s : LTok) (r : Nat) (nm : ByteArray) (N : List CR) (i j : Nat) : Prop where
  wk : wk (gl N) N.length r 0 = some N.length
  hd : (gl N 0).nm = nm
  pos : 0 < N.length
  ok : ∀ c ∈ N, OkL c
  le : i ≤ j
  tl : (tkW (gl N) r 0).1.length = j - i
  tk : AlT s i (tkW (gl N) r 0).1
/-- Within brackets: what has been read. -/
structure LSt (s : LTok) (r : Nat) (obj : Bool) (kd : Nat) (L : List CR) (nm : ByteArray) (i0 i k : Nat) (ns : List ByteArray) (M : List CR) : Prop where
  ex : ∃ C T, M = L ++ [⟨kd, nm, ⟨#[]⟩, 0, k⟩] ++ C ∧ Kt (gl (⟨kd, nm, ⟨#[]⟩, 0, k⟩ :: C)) (C.length + 1) r obj k ns (C.length + 1) T ∧ (∀ c ∈ C, OkL c) ∧ AlT s i0 T ∧ T.length = i - i0
  len : M.length ≤ 2048
  le : i0 ≤ i
theorem LSt.add {s : LTok} {r kd i0 i k j q : Nat} {obj : Bool} {L M N : List CR} {nm nm' : ByteArray} {ns : List ByteArray} (h : LSt s r obj kd L nm i0 i k ns M) (hN : SVt s r nm' N q j) (hn : namedP obj ns nm' = true) (hb : AlT s i (mbT obj nm')) (hq : i + (mbT obj nm').length = q) (hl : (M ++ N).length ≤ 2048) : LSt s r obj kd L nm i0 j (k + 1) (if obj then nm' :: ns else ns) (incC (M ++ N) L.length) := by
  obtain ⟨C, T, rfl, hk, hc, ht, htl⟩ := h.ex
  have hle := h.le
  have hNle := hN.le
  have hNtl := hN.tl
  have e1 : incC (L ++ [⟨kd, nm, ⟨#[]⟩, 0, k⟩] ++ C ++ N) L.length = L ++ [⟨kd, nm, ⟨#[]⟩, 0, (k + 1 : Nat)⟩] ++ (C ++ N) := by
    rw [List.append_assoc (L ++ [_]), incC_last]
    have ee : ((k : Int) + 1) = ((k + 1 : Nat) : Int) := by omega
    dsimp only
    rw [ee]
  refine ⟨⟨C ++ N, T ++ (mbT obj nm' ++ (tkW (gl N) r 0).1), e1, ?_, fun c hx => (List.mem_append.1 hx).elim (hc c) (hN.ok c), ?_, ?_⟩, ?_, by omega⟩
  · have k1 := hk.tr (g2 := gl (⟨kd, nm, ⟨#[]⟩, 0, (k + 1 : Nat)⟩ :: (C ++ N))) (n2 := (C ++ N).length + 1) (fun t h1 h2 => gl_cons_app h1 h2) (by rw [List.length_append]; omega)
    have e2 : (gl (⟨kd, nm, ⟨#[]⟩, 0, (k + 1 : Nat)⟩ :: (C ++ N)) (C.length + 1)).nm = nm' := by
      have := gl_cons_new (H' := ⟨kd, nm, ⟨#[]⟩, 0, (k + 1 : Nat)⟩) (C := C) (N := N) (t := 0)
      rw [Nat.zero_add] at this
      rw [← this]
      exact hN.hd
    have k2 := wk_sh hN.wk (g2 := gl (⟨kd, nm, ⟨#[]⟩, 0, (k + 1 : Nat)⟩ :: (C ++ N))) (s := C.length + 1) (n2 := (C ++ N).length + 1) (fun t _ => gl_cons_new) (by rw [List.length_append]; omega)
    have k4 := (tkW_shift (g2 := gl (⟨kd, nm, ⟨#[]⟩, 0, (k + 1 : Nat)⟩ :: (C ++ N))) (s := C.length + 1) _ _ _ hN.wk (fun t _ _ => gl_cons_new.symm)).1
    rw [Nat.zero_add] at k4
    have k3 := Kt.snoc k1 (by rw [e2]; exact hn) k2
    rw [e2, k4] at k3
    rw [show N.length + (C.length + 1) = (C ++ N).length + 1 by rw [List.length_append]; omega] at k3
    exact k3
  · rw [alT_app, alT_app]
    have e : i0 + T.length = i := by omega
    rw [e, hq]
    exact ⟨ht, hb, hN.tk⟩
  · rw [List.length_append, List.length_append]
    omega
  · rw [e1]
    simp only [List.length_append, List.length_cons, List.length_nil] at hl ⊢
    omega
theorem hd_mark {s : LTok} {i : Nat} {c : CR} (h : hdL s i = .ok c) (hk : c.k = 5 ∨ c.k = 6 ∨ c.k = 7) : (c.k = 5 → c = ⟨5, ⟨#[]⟩, ⟨#[]⟩, 0, 0⟩ ∧ isMk (tkA s i) mDollar = true) ∧ (c.k = 6 → c = ⟨6, ⟨#[]⟩, ⟨#[]⟩, 0, 0⟩ ∧ isMk (tkA s i) mLB = true) ∧ (c.k = 7 → c = ⟨7, ⟨#[]⟩, ⟨#[]⟩, 0, 0⟩ ∧ isMk (tkA s i) mLC = true) := by
  unfold hdL at h
  split at h
  · cases h
  split at h
  · cases h
    exfalso
    unfold namedL at hk
    split at hk
    · simp at hk
    split at hk
    · simp at hk
    split at hk
    · simp at hk
    · simp at hk
  split at h
  · split at h
    · cases h; simp at hk
    · cases h
  split at h
  · cases h; simp at hk
  split at h
  · rename_i q
    cases h
    exact ⟨fun _ => ⟨rfl, q.1⟩, fun e => (by cases e), fun e => (by cases e)⟩
  split at h
  · rename_i q
    cases h
    exact ⟨fun e => (by cases e), fun _ => ⟨rfl, q⟩, fun e => (by cases e)⟩
  split at h
  · rename_i q
    cases h
    exact ⟨fun e => (by cases e), fun e => (by cases e), fun _ => ⟨rfl, q⟩⟩
  · cases h
end Go.Proofs.YtmkkckhfdafjnaaGreatDoor.Li
/- Layer 18: all values; a literal; what is deferred. -/
namespace Go.Proofs.YtmkkckhfdafjnaaGreatDoor.Li
open Go.RowKit Go.Maps
set_option maxRecDepth 20000 in
set_option maxHeartbeats 8000000 in
theorem value_deep {s : LTok} {p i op cp ck : Nat} {ad : Option Addr} {L : List CR} {nm : ByteArray} {w : World} {cn ct : ByteArray} {cv cm : Int} (h : RdB w p s i op (.slice ad L.length cp) L) (hL : L.length < 2048) (hop : op = 16) (hck : ck = 6 ∨ ck = 7) (hh : Calls Tryz.prog 79 #[.pointer (some ⟨p, 0, none⟩)] w fun e w' => e = .returned (.agg #[.int .u8 (ck : Nat), .string cn, .string ct, .int .i64 cv, .int .i64 cm]) ∧ Below w.heap.size w w') : Calls Tryz.prog 64 #[.pointer (some ⟨p, 0, none⟩), .string nm] w fun e w' => e = thr i 30 ∧ Below p w w' := by
  have HB := Lib.hid (fun W (k : Below w.heap.size w W) => h.below k)
  have HLT := Lib.hid h.lt
  have HH2 := Lib.hid hh
  clear h hh
  have hLi : (L.length : Int) ≤ 2048 := by omega
  have h48i : ((L.length : Int) == 2048) = false := beq_eq_false_iff_ne.2 (by omega)
  subst hop
  rcases hck with rfl | rfl
  all_goals
    go_enter Tryz.func64, Tryz.ntmps64
    go_wp2_with fail
    refine HH2.out.mono ?_
    rintro e w1 ⟨rfl, b1⟩
    have BA := Lib.hid (fun o => b1.trans ((below_box w1 o).mono b1.size))
    have c4 := fun o => (HB.out _ (BA.out o)).1.c4
    have c3 := fun o => (HB.out _ (BA.out o)).1.c3
    clear b1
    go_wp2_with fail
    refine (fail_any 30 _ (HB.out _ (BA.out _)).1).mono ?_
    rintro e w9 ⟨he, b9⟩
    unfold thr at he
    subst he
    (try go_wp2_with fail)
    simp only [bodyPost]
    exact ⟨trivial, rfl, ((BA.out _).trans (b9.mono (BA.out _).size)).mono (Nat.le_of_lt HLT.out)⟩
set_option maxRecDepth 20000 in
set_option maxHeartbeats 8000000 in
theorem value_step {s : LTok} {f : Nat} (hV : 1 ≤ f → VC s f) : VC s (f + 1) := by
  intro p i op v L nm w hop h hl hi hL
  have hn : s.n ≤ 100000 := h.tok.2.1
  have HH := head_any w h hl.2 (by omega)
  have HLT := h.lt
  obtain ⟨ad, cp, rfl⟩ := h.slice
  unfold vaL
  cases hx : hdL s i with
  | bad a m =>
    rw [hx] at HH
    have HH1 : Hid (Calls Tryz.prog 79 #[.pointer (some ⟨p, 0, none⟩)] w fun e w' => e = thr a m ∧ Below w.heap.size w w') := Lib.hid HH
    have HL2 := Lib.hid HLT
    clear HH hx h hl HLT
    show Calls Tryz.prog 64 #[.pointer (some ⟨p, 0, none⟩), .string nm] w fun e w' => e = thr a m ∧ Below p w w'
    go_enter Tryz.func64, Tryz.ntmps64
    go_wp2_with fail
    refine HH1.out.mono ?_
    rintro e w1 ⟨he, b1⟩
    unfold thr at he
    subst he
    (try go_wp2_with fail)
    simp only [bodyPost]
    exact ⟨trivial, rfl, b1.mono (Nat.le_of_lt HL2.out)⟩
  | ok c =>
    have hci := hdL_in hx
    have hmk := fun hk => hd_mark hx hk
    rw [hx] at HH
    simp only [LR.bind_ok]
    obtain ⟨ck, cn, ct, cv, cm⟩ := c
    have HH1 : Calls Tryz.prog 79 #[.pointer (some ⟨p, 0, none⟩)] w fun e w' => e = .returned (.agg #[.int .u8 (ck : Nat), .string cn, .string ct, .int .i64 cv, .int .i64 cm]) ∧ Below w.heap.size w w' := HH
    dsimp only at hmk ⊢
    by_cases h48 : L.length = 2048
    · rw [if_pos h48]
      show Calls Tryz.prog 64 #[.pointer (some ⟨p, 0, none⟩), .string nm] w fun e w' => e = thr i 4 ∧ Below p w w'
      have h48i : (L.length : Int) = 2048 := by omega
      have HH2 := Lib.hid HH1
      have HB := Lib.hid (fun W (k : Below w.heap.size w W) => h.below k)
      have HL2 := Lib.hid HLT
      clear HH HH1 h hl hmk hx HLT
      go_enter Tryz.func64, Tryz.ntmps64
      go_wp2_with fail
      refine HH2.out.mono ?_
      rintro e w1 ⟨rfl, b1⟩
      have BA := Lib.hid (fun o => b1.trans ((below_box w1 o).mono b1.size))
      have c4 := fun o => (HB.out _ (BA.out o)).1.c4
      clear b1
      go_wp2_with fail
      refine (fail_any 4 _ (HB.out _ (BA.out _)).1).mono ?_
      rintro e w9 ⟨he, b9⟩
      unfold thr at he
      subst he
      (try go_wp2_with fail)
      simp only [bodyPost]
      exact ⟨trivial, rfl, ((BA.out _).trans (b9.mono (BA.out _).size)).mono (Nat.le_of_lt HL2.out)⟩
    rw [if_neg h48]
    by_cases h16 : (ck = 6 ∨ ck = 7) ∧ op = 16
    · rw [if_pos h16]
      exact value_deep h (by omega) h16.2 h16.1 HH1
    rw [if_neg h16]
    by_cases h5 : ck = 5
    · subst h5
      exact value_var h hci (by omega) (by omega) HH1
    by_cases h6 : ck = 6
    · subst h6
      have e := ((hmk (.inr (.inl rfl))).2.1 rfl).1
      have hcm : cm = 0 := congrArg CR.m e
      exact value_list h hci (by omega) (by omega) (fun e => h16 ⟨.inl rfl, e⟩) (hV (by have := fun e => h16 ⟨.inl rfl, e⟩; omega)) hop hl hcm HH1
    by_cases h7 : ck = 7
    · subst h7
      have e := ((hmk (.inr (.inr rfl))).2.2 rfl).1
      have hcm : cm = 0 := congrArg CR.m e
      exact value_obj h hci (by omega) (by omega) (fun e => h16 ⟨.inr rfl, e⟩) (hV (by have := fun e => h16 ⟨.inr rfl, e⟩; omega)) hop hl hcm HH1
    exact value_leaf h hci (by omega) (by omega) h5 h6 h7 HH1
theorem value_all (s : LTok) : ∀ f, 1 ≤ f → VC s f
  | 0, h => by omega
  | 1, _ => value_step (f := 0) (fun h => by omega)
  | f + 2, _ => value_step (f := f + 1) (fun _ => value_all s (f + 1) (by omega))
/-- The reader's row is let go. -/
theorem RdB.reset {w : World} {p i op : Nat} {s : LTok} {v : Value} {L : List CR} (h : RdB w p s i op v L) : RdB ((w.setCell ⟨p, 4, none⟩ (.slice none 0 0)).setCell ⟨p, 3, none⟩ (.int .i64 0)) p s i 0 (.slice none 0 0) [] ∧ Fr p v (.slice none 0 0) w ((w.setCell ⟨p, 4, none⟩ (.slice none 0 0)).setCell ⟨p, 3, none⟩ (.int .i64 0)) := by
  have hk : ∀ k, k ≠ p → ((w.setCell ⟨p, 4, none⟩ (.slice none 0 0)).setCell ⟨p, 3, none⟩ (.int .i64 0)).heap[k]? = w.heap[k]? := fun k hk => by
    rw [Below.heap_setCell _ ⟨p, 3, none⟩ _ k hk, Below.heap_setCell _ ⟨p, 4, none⟩ _ k hk]
  refine ⟨⟨?_, h.tok.kept (fun k hlt => hk k (by omega)), World.ownsRow_nil _ _ _ _⟩, ⟨rfl, rfl, rfl, by simp, fun k _ h1 _ => hk k h1, fun _ e => by cases e⟩⟩
  simp [World.setCell, Array.getElem?_modify, h.box]
/-- A literal is told, or an error thrown. -/
def LtP (p : Nat) (s : LTok) (v : Value) (w : World) (x : LR Out) (e : Ending) (w' : World) : Prop := match x with
  | .ok (j, M) => ∃ v', e = .returned v' ∧ RdB w' p s j 0 v' M ∧ Fr p v v' w w'
  | .bad a m => e = thr a m ∧ Below p w w'
set_option maxRecDepth 20000 in
set_option maxHeartbeats 4000000 in
theorem literal_any {s : LTok} {p i op : Nat} {v : Value} {L : List CR} (w : World) (h : RdB w p s i op v L) (l : LimP p w) (hi : i ≤ s.n) : Calls Tryz.prog 39 #[.pointer (some ⟨p, 0, none⟩)] w (LtP p s v w (ltL s i)) := by
  have RS := Lib.hid h.reset
  have c4 := h.c4
  have c3 := h.c3
  have z4 := h.z 4
  have z3 := h.z 3
  have HF := Lib.hid h.far
  have HLT := Lib.hid h.lt
  have HV := Lib.hid (value_all s 17 (by decide) p i 0 (.slice none 0 0) [] ⟨#[]⟩ _ rfl RS.out.1 (l.fr RS.out.2 (Nat.le_of_lt h.lt) h.far) hi (by decide))
  obtain ⟨X, hX⟩ : ∃ X, X = ltL s i := ⟨_, rfl⟩
  rw [← hX]
  unfold ltL at hX
  rw [← hX] at HV
  obtain ⟨W, hW⟩ : ∃ W, W = (w.setCell ⟨p, 4, none⟩ (.slice none 0 0)).setCell ⟨p, 3, none⟩ (.int .i64 0) := ⟨_, rfl⟩
  rw [← hW] at RS HV
  have HW := Lib.hid hW
  clear hX h l hW
  go_enter Tryz.func39, Tryz.ntmps39
  go_wp2_with fail
  rw [← HW.out]
  clear c4 c3 z4 z3 HW
  cases X with
  | bad a m =>
    have HV1 : Hid (Calls Tryz.prog 64 #[.pointer (some ⟨p, 0, none⟩), .string ⟨#[]⟩] W fun e w' => e = thr a m ∧ Below p W w') := HV
    refine HV1.out.mono ?_
    rintro e w1 ⟨he, b1⟩
    unfold thr at he
    subst he
    (try go_wp2_with fail)
    simp only [bodyPost]
    exact ⟨trivial, rfl, (RS.out.2.below HF.out (Nat.le_of_lt HLT.out)).trans b1⟩
  | ok y =>
    obtain ⟨j, M⟩ := y
    have HV1 : Hid (Calls Tryz.prog 64 #[.pointer (some ⟨p, 0, none⟩), .string ⟨#[]⟩] W fun e w' => e = .returned (.tuple #[]) ∧ ∃ v', RdB w' p s j 0 v' M ∧ Fr p (.slice none 0 0) v' W w') := HV
    refine HV1.out.mono ?_
    rintro e w1 ⟨rfl, v1, r1, f1⟩
    have c4 := r1.c4
    have R1 := Lib.hid (And.intro r1 f1)
    clear r1 f1
    go_wp2_with fail
    go_ret
    exact ⟨_, rfl, R1.out.1, RS.out.2.trans R1.out.2⟩
end Go.Proofs.YtmkkckhfdafjnaaGreatDoor.Li
/- Layer 18: what read defers. -/
namespace Go.Proofs.YtmkkckhfdafjnaaGreatDoor.Li
open Go.RowKit Go.Maps
theorem rcatchI (a b c d : Addr) (w : World) : CallsD Tryz.prog 63 #[.pointer (some a), .pointer (some b), .pointer (some c), .pointer (some d)] .returning w fun e u' w' => e = .returned (.tuple #[]) ∧ u' = .returning ∧ w' = w := by
  have hnil : ∀ w : World, (binOp BinOp.eql 20 .nilIface .nilIface).run Tryz.prog w = .ok (.bool true) w := fun _ => by kernel_rfl
  refine callsD_of_wpS Tryz.func63 rfl fun c₀ cs hu => ?_
  apply wpS_seq
  apply wpS_region
  simp [wpOpsS, go_sem, recoverD, hu, Tryz.ntmps63, Exit.thenS]
  refine wpS_of_wp ?_
  simp only [Array.replicate, List.replicate, List.setIfInBounds_toArray, List.set, List.append_toArray, List.cons_append, List.nil_append]
  go_wp2_with fail
  cases c₀
  simp_all [bodyPostS, results, Tryz.results63]
set_option maxRecDepth 20000 in
set_option maxHeartbeats 4000000 in
theorem rcatchP (N : Nat) (e x : Int) (v0 v1 v2 : Value) (older : List PanicEntry) (w : World) (h3 : w.cell? ⟨N + 3, 0, none⟩ = some (.slice none 0 0)) (h0 : w.cell? ⟨N, 0, none⟩ = some v0) (z0 : w.frozen? ⟨N, 0, none⟩ = false) (h1 : w.cell? ⟨N + 1, 0, none⟩ = some v1) (z1 : w.frozen? ⟨N + 1, 0, none⟩ = false) (h2 : w.cell? ⟨N + 2, 0, none⟩ = some v2) (z2 : w.frozen? ⟨N + 2, 0, none⟩ = false) (hN : N + 3 < w.heap.size) : CallsD Tryz.prog 63 #[.pointer (some ⟨N + 3, 0, none⟩), .pointer (some ⟨N, 0, none⟩), .pointer (some ⟨N + 1, 0, none⟩), .pointer (some ⟨N + 2, 0, none⟩)] (.panicking ({ v := .iface 115 (.agg #[.int .i64 e, .int .i64 x]), recovered := false } :: older)) w fun r u' w' => r = .returned (.tuple #[]) ∧ u' = .panicking ({ v := .iface 115 (.agg #[.int .i64 e, .int .i64 x]), recovered := true } :: older) ∧ ∃ W, Below w.heap.size w W ∧ w' = ((W.setCell ⟨N, 0, none⟩ (.slice none 0 0)).setCell ⟨N + 1, 0, none⟩ (.int .i64 x)).setCell ⟨N + 2, 0, none⟩ (.int .i64 e) := by
  have hnil : ∀ w : World, (binOp BinOp.eql 20 (.iface 115 (.agg #[.int .i64 e, .int .i64 x])) .nilIface).run Tryz.prog w = .ok (.bool false) w := fun _ => by kernel_rfl
  have hta : ∀ w : World, (Instr.typeAssert (.iface 115 (.agg #[.int .i64 e, .int .i64 x])) 20 115 true).run Tryz.prog w = .ok (.tuple #[.agg #[.int .i64 e, .int .i64 x], .bool true]) w := fun _ => by kernel_rfl
  refine callsD_of_wpS Tryz.func63 rfl fun c₀ cs hu => ?_
  apply wpS_seq
  apply wpS_region
  simp [wpOpsS, go_sem, recoverD, hu, Tryz.ntmps63, Exit.thenS]
  refine wpS_of_wp ?_
  simp only [Array.replicate, List.replicate, List.setIfInBounds_toArray, List.set, List.append_toArray, List.cons_append, List.nil_append]
  clear hu
  have n0 : ¬ (w.heap.size = N) := by omega
  have n1 : ¬ (w.heap.size = N + 1) := by omega
  have n2 : ¬ (w.heap.size = N + 2) := by omega
  have m0 : ¬ (N = w.heap.size) := by omega
  have m1 : ¬ (N + 1 = w.heap.size) := by omega
  have m2 : ¬ (N + 2 = w.heap.size) := by omega
  have HBX := Lib.hid (below_box w (.cells #[.int .i64 e, .int .i64 x] 115))
  go_wp2_with fail
  obtain ⟨A, hA⟩ : ∃ A, A = w.alloc (.cells #[.int .i64 e, .int .i64 x] 115) := ⟨_, rfl⟩
  rw [← hA] at HBX ⊢
  have hk : ∀ k, k < w.heap.size → A.heap[k]? = w.heap[k]? := fun k h => HBX.out.block k h
  have g3 : A.cell? ⟨N + 3, 0, none⟩ = some (.slice none 0 0) := (World.cell?_of_block (hk _ hN)).trans h3
  have g0 : A.cell? ⟨N, 0, none⟩ = some v0 := (World.cell?_of_block (hk N (by omega))).trans h0
  have g1 : A.cell? ⟨N + 1, 0, none⟩ = some v1 := (World.cell?_of_block (hk (N + 1) (by omega))).trans h1
  have g2 : A.cell? ⟨N + 2, 0, none⟩ = some v2 := (World.cell?_of_block (hk (N + 2) (by omega))).trans h2
  have y0 : A.frozen? ⟨N, 0, none⟩ = false := by rw [← z0]; unfold World.frozen?; dsimp only; rw [hk N (by omega)]
  have y1 : A.frozen? ⟨N + 1, 0, none⟩ = false := by rw [← z1]; unfold World.frozen?; dsimp only; rw [hk (N + 1) (by omega)]
  have y2 : A.frozen? ⟨N + 2, 0, none⟩ = false := by rw [← z2]; unfold World.frozen?; dsimp only; rw [hk (N + 2) (by omega)]
  have hx : A.heap[w.heap.size]? = some (.cells #[.int .i64 e, .int .i64 x] 115) := by rw [hA]; exact heap_alloc_new _ _
  have a0 : A.cell? ⟨w.heap.size, 0, none⟩ = some (.int .i64 e) := by unfold World.cell?; dsimp only; rw [hx]; rfl
  have a1 : A.cell? ⟨w.heap.size, 1, none⟩ = some (.int .i64 x) := by unfold World.cell?; dsimp only; rw [hx]; rfl
  clear hk hx hA h0 h1 h2 h3 z0 z1 z2
  go_region
  all_goals
    go_wp2_with fail
    cases c₀
    simp [bodyPostS, results, Tryz.results63]
    exact ⟨A.drew, HBX.out.drew, rfl⟩
end Go.Proofs.YtmkkckhfdafjnaaGreatDoor.Li
/- Layer 18: read, of literals. -/
namespace Go.Proofs.YtmkkckhfdafjnaaGreatDoor.Li
open Go.RowKit Go.Maps
/-- What the tokens from a place tell. -/
def vaR (s : LTok) (a : Int) : LR Out := if 0 ≤ a ∧ a < s.n then ltL s a.toNat else .bad 0 2
/-- Cells are told, and a place; or an error, and its token. -/
def VaP (w : World) (x : LR Out) (e : Ending) (w' : World) : Prop := match x with
  | .ok (j, M) => ∃ v, e = .returned (.tuple #[v, .int .i64 j, .int .i64 0]) ∧ w'.ownsRow w.heap.size 46 5 v M.length (rw5 M) ∧ Below w.heap.size w w'
  | .bad a m => e = .returned (.tuple #[.slice none 0 0, .int .i64 a, .int .i64 m]) ∧ Below w.heap.size w w'
theorem set1_heap {w : World} {N i : Nat} {cs : Array Value} {t : TypeId} {fz : Nat × Nat} {p : Value} (hg : w.heap[N]? = some (.cells cs t fz)) : (w.setCell ⟨N, i, none⟩ p).heap[N]? = some (.cells (cs.setIfInBounds i p) t fz) := by
  simp [World.setCell, Array.getElem?_modify, hg]
theorem ltL_ok {s : LTok} {i j : Nat} {N : List CR} (h : ltL s i = .ok (j, N)) : i < j ∧ j ≤ s.n ∧ N.length ≤ 2048 ∧ 0 < N.length := by
  obtain ⟨f, g⟩ := vaL_goes s 17 ⟨#[]⟩ 0 _ _ _ _ (by decide) h
  exact ⟨f.lt, f.le, f.top, g⟩
set_option maxRecDepth 20000 in
set_option maxHeartbeats 4000000 in
theorem readc_any (s : LTok) (a : Int) (w : World) (hl : LimP w.heap.size w) (ht : TkP w w.heap.size s) : Calls Tryz.prog 38 #[.slice s.a s.n s.c, .int .i64 a, .bool s.fx, .func (.func 39) #[] #[]] w (VaP w (vaR s a)) := by
  have hmf : ∀ (fn : Fn) (first cap : Array Value) (w : World), (Instr.makeFunc fn first cap).run Tryz.prog w = .ok (.func fn first cap) w := fun _ _ _ _ => rfl
  obtain ⟨W0, hW0⟩ : ∃ W0, W0 = (((w.alloc (.cells #[.slice none 0 0] 37)).alloc (.cells #[.int .i64 0] 3)).alloc (.cells #[.int .i64 0] 23)).alloc (.cells #[.slice none 0 0] 37) := ⟨_, rfl⟩
  obtain ⟨N, hN⟩ : ∃ N, N = w.heap.size := ⟨_, rfl⟩
  have hB0 : W0.heap.size = N + 4 := by rw [hW0, hN]; simp
  have b0 : Below w.heap.size w W0 := by rw [hW0]; exact ((((Below.refl _ _).alloc (Nat.le_refl _) _).alloc (by simp) _).alloc (by simp; omega) _).alloc (by simp; omega) _
  have n3 : W0.heap[N + 3]? = some (.cells #[.slice none 0 0] 37) := by
    have e := heap_alloc_new (((w.alloc (.cells #[.slice none 0 0] 37)).alloc (.cells #[.int .i64 0] 3)).alloc (.cells #[.int .i64 0] 23)) (.cells #[.slice none 0 0] 37)
    rw [hW0, hN]; simpa using e
  have n2 : W0.heap[N + 2]? = some (.cells #[.int .i64 0] 23) := by
    have e := heap_alloc_new ((w.alloc (.cells #[.slice none 0 0] 37)).alloc (.cells #[.int .i64 0] 3)) (.cells #[.int .i64 0] 23)
    rw [hW0, hN, heap_alloc_old _ _ (by simp)]; simpa using e
  have n1 : W0.heap[N + 1]? = some (.cells #[.int .i64 0] 3) := by
    have e := heap_alloc_new (w.alloc (.cells #[.slice none 0 0] 37)) (.cells #[.int .i64 0] 3)
    rw [hW0, hN, heap_alloc_old _ _ (by simp), heap_alloc_old _ _ (by simp)]; simpa using e
  have n0 : W0.heap[N]? = some (.cells #[.slice none 0 0] 37) := by
    rw [hW0, hN, heap_alloc_old _ _ (by simp; omega), heap_alloc_old _ _ (by simp; omega), heap_alloc_old _ _ (by simp), heap_alloc_new]
  obtain ⟨Z, hZ⟩ : ∃ Z, Z = vaR s a := ⟨_, rfl⟩
  rw [← hZ]
  unfold vaR at hZ
  by_cases hin : 0 ≤ a ∧ a < s.n
  case neg =>
    have HZ : Hid (Z = .bad 0 2) := Lib.hid (by rw [hZ, if_neg hin])
    have hor : a < 0 ∨ (¬ a < 0 ∧ (s.n : Int) ≤ a) := by omega
    have HB0 := Lib.hid b0
    clear hZ hin n0 n1 n2 n3 hB0 b0
    rcases hor with q | ⟨q, q2⟩
    all_goals
      go_enter_defers Tryz.func38, Tryz.ntmps38
      go_wp2_with fail
      obtain ⟨WE, hWE⟩ : ∃ WE, WE = (((w.alloc (.cells #[.slice none 0 0] 37)).alloc (.cells #[.int .i64 0] 3)).alloc (.cells #[.int .i64 2] 23)).alloc (.cells #[.slice none 0 0] 37) := ⟨_, rfl⟩
      have bE : Below w.heap.size w WE := by rw [hWE]; exact ((((Below.refl _ _).alloc (Nat.le_refl _) _).alloc (by simp) _).alloc (by simp; omega) _).alloc (by simp; omega) _
      have e0 : WE.cell? ⟨w.heap.size, 0, none⟩ = some (.slice none 0 0) := by
        have e : WE.heap[w.heap.size]? = some (.cells #[.slice none 0 0] 37) := by
          rw [hWE, heap_alloc_old _ _ (by simp; omega), heap_alloc_old _ _ (by simp; omega), heap_alloc_old _ _ (by simp), heap_alloc_new]
        simp [World.cell?, e]
      have e1 : WE.cell? ⟨w.heap.size + 1, 0, none⟩ = some (.int .i64 0) := by
        have e : WE.heap[w.heap.size + 1]? = some (.cells #[.int .i64 0] 3) := by
          have e := heap_alloc_new (w.alloc (.cells #[.slice none 0 0] 37)) (.cells #[.int .i64 0] 3)
          rw [hWE, heap_alloc_old _ _ (by simp), heap_alloc_old _ _ (by simp)]; simpa using e
        simp [World.cell?, e]
      have e2 : WE.cell? ⟨w.heap.size + 1 + 1, 0, none⟩ = some (.int .i64 2) := by
        have e : WE.heap[w.heap.size + 1 + 1]? = some (.cells #[.int .i64 2] 23) := by
          have e := heap_alloc_new ((w.alloc (.cells #[.slice none 0 0] 37)).alloc (.cells #[.int .i64 0] 3)) (.cells #[.int .i64 2] 23)
          rw [hWE, heap_alloc_old _ _ (by simp)]; simpa using e
        simp [World.cell?, e]
      rw [← hWE]
      clear hWE
      rw [HZ.out]
      simp [bodyPostD, Leaves, settle, results, Tryz.results38, go_sem, e0, e1, e2]
      exact ⟨rfl, bE⟩
  case pos =>
    obtain ⟨i, rfl⟩ : ∃ i : Nat, a = i := ⟨a.toNat, by omega⟩
    have hi : i < s.n := by omega
    have q1 : ¬ ((i : Int) < 0) := by omega
    have q2 : ¬ ((s.n : Int) ≤ i) := by omega
    have HZ : Hid (Z = ltL s i) := Lib.hid (by rw [hZ, if_pos hin]; rfl)
    have HL0 : Hid (LimP (N + 4) W0) := Lib.hid (by
      have e := b0.block _ hl.1
      refine ⟨by have := hl.1; omega, ?_, ?_⟩
      · rw [← hl.2.1]; unfold World.cell?; dsimp only; rw [e]
      · rw [← hl.2.2]; unfold World.cell?; dsimp only; rw [e])
    obtain ⟨W1, hW1⟩ : ∃ W1, W1 = W0.alloc (.cells #[.slice s.a s.n s.c, .int .i64 i, .bool s.fx, .int .i64 0, .slice none 0 0] 119) := ⟨_, rfl⟩
    have b1 : Below w.heap.size w W1 := by rw [hW1]; exact b0.alloc (by omega) _
    have hk1 : ∀ k, k < N + 4 → W1.heap[k]? = W0.heap[k]? := fun k hk => by rw [hW1]; exact heap_alloc_old _ _ (by omega)
    have HR1 : Hid (RdB W1 (N + 4) s i 0 (.slice none 0 0) []) := Lib.hid (by
      refine ⟨by rw [hW1, ← hB0]; exact heap_alloc_new _ _, ⟨fun j hj => ?_, ht.2⟩, World.ownsRow_nil _ _ _ _⟩
      obtain ⟨b, off, e, h0, h1, h2, h3⟩ := ht.1 j hj
      have c : ∀ o, W1.cell? ⟨b, o, none⟩ = w.cell? ⟨b, o, none⟩ := fun o => World.cell?_of_block (b1.block b h0)
      exact ⟨b, off, e, by omega, by rw [c]; exact h1, by rw [c]; exact h2, by rw [c]; exact h3⟩)
    have HL1 : Hid (LimP (N + 4) W1) := Lib.hid (by
      have e := b1.block _ hl.1
      refine ⟨by have := hl.1; omega, ?_, ?_⟩
      · rw [← hl.2.1]; unfold World.cell?; dsimp only; rw [e]
      · rw [← hl.2.2]; unfold World.cell?; dsimp only; rw [e])
    have HNN : Hid (W1.heap[N]? = some (.cells #[.slice none 0 0] 37) ∧ W1.heap[N + 1]? = some (.cells #[.int .i64 0] 3) ∧ W1.heap[N + 2]? = some (.cells #[.int .i64 0] 23) ∧ W1.heap[N + 3]? = some (.cells #[.slice none 0 0] 37)) := Lib.hid ⟨(hk1 _ (by omega)).trans n0, (hk1 _ (by omega)).trans n1, (hk1 _ (by omega)).trans n2, (hk1 _ (by omega)).trans n3⟩
    have HLT := Lib.hid (literal_any W1 HR1.out HL1.out (by omega))
    obtain ⟨X, hX⟩ : ∃ X, X = ltL s i := ⟨_, rfl⟩
    have HOK := Lib.hid (fun j M => ltL_ok (s := s) (i := i) (j := j) (N := M))
    rw [← hX] at HLT HZ HOK
    have HB1 := Lib.hid b1
    have HN := Lib.hid hN
    rw [hN] at HLT
    clear hZ hin n0 n1 n2 n3 hB0 b0 b1 hk1 hX hN HL0 hl ht
    go_enter_defers Tryz.func38, Tryz.ntmps38
    go_wp2_with fail
    rw [← hW0, ← hW1]
    clear hW0 hW1
    cases X with
    | bad b m =>
      have HL1 : Hid (Calls Tryz.prog 39 #[.pointer (some ⟨w.heap.size + 4, 0, none⟩)] W1 fun e w' => e = thr b m ∧ Below (w.heap.size + 4) W1 w') := HLT
      refine HL1.out.mono ?_
      rintro e w3 ⟨he, b3⟩
      unfold thr at he
      subst he
      have HB3 := Lib.hid b3
      clear b3
      (try go_wp2_with fail)
      have hNn := HN.out
      have hsz : N + 4 < W1.heap.size := HR1.out.lt
      have k0 : w3.heap[w.heap.size]? = some (.cells #[.slice none 0 0] 37) := by rw [← hNn]; exact (HB3.out.block _ (by omega)).trans HNN.out.1
      have k1 : w3.heap[w.heap.size + 1]? = some (.cells #[.int .i64 0] 3) := by rw [← hNn]; exact (HB3.out.block _ (by omega)).trans HNN.out.2.1
      have k2 : w3.heap[w.heap.size + 2]? = some (.cells #[.int .i64 0] 23) := by rw [← hNn]; exact (HB3.out.block _ (by omega)).trans HNN.out.2.2.1
      have k3 : w3.heap[w.heap.size + 3]? = some (.cells #[.slice none 0 0] 37) := by rw [← hNn]; exact (HB3.out.block _ (by omega)).trans HNN.out.2.2.2
      have hs3 : w.heap.size + 4 < w3.heap.size := by have := HB3.out.size; omega
      refine leaves_cons (f := 63) (args := #[.pointer (some ⟨w.heap.size + 1 + 1 + 1, 0, none⟩), .pointer (some ⟨w.heap.size, 0, none⟩), .pointer (some ⟨w.heap.size + 1, 0, none⟩), .pointer (some ⟨w.heap.size + 1 + 1, 0, none⟩)]) (by simp) (by simp [go_sem]) ?_
      refine (rcatchP w.heap.size m b (.slice none 0 0) (.int .i64 0) (.int .i64 0) [] w3 (by simp [World.cell?, k3]) (by simp [World.cell?, k0]) (by simp [World.frozen?, k0]) (by simp [World.cell?, k1]) (by simp [World.frozen?, k1]) (by simp [World.cell?, k2]) (by simp [World.frozen?, k2]) (by omega)).mono ?_
      rintro e u' w'' ⟨rfl, rfl, W, bW, hw⟩
      rw [HZ.out]
      have j0 : W.heap[w.heap.size]? = some (.cells #[.slice none 0 0] 37) := (bW.block _ (by omega)).trans k0
      have j1 : W.heap[w.heap.size + 1]? = some (.cells #[.int .i64 0] 3) := (bW.block _ (by omega)).trans k1
      have j2 : W.heap[w.heap.size + 2]? = some (.cells #[.int .i64 0] 23) := (bW.block _ (by omega)).trans k2
      have m0 : w''.heap[w.heap.size]? = some (.cells #[.slice none 0 0] 37) := by
        rw [hw, Below.heap_setCell _ ⟨w.heap.size + 2, 0, none⟩ _ _ (show w.heap.size ≠ w.heap.size + 2 by omega), Below.heap_setCell _ ⟨w.heap.size + 1, 0, none⟩ _ _ (show w.heap.size ≠ w.heap.size + 1 by omega)]
        simp [World.setCell, Array.getElem?_modify, j0]
      have m1 : w''.heap[w.heap.size + 1]? = some (.cells #[.int .i64 b] 3) := by
        rw [hw, Below.heap_setCell _ ⟨w.heap.size + 2, 0, none⟩ _ _ (show w.heap.size + 1 ≠ w.heap.size + 2 by omega)]
        simp [World.setCell, Array.getElem?_modify, j1]
      have m2 : w''.heap[w.heap.size + 1 + 1]? = some (.cells #[.int .i64 m] 23) := by
        have j3 : ((W.setCell ⟨w.heap.size, 0, none⟩ (.slice none 0 0)).setCell ⟨w.heap.size + 1, 0, none⟩ (.int .i64 b)).heap[w.heap.size + 2]? = some (.cells #[.int .i64 0] 23) := by
          rw [Below.heap_setCell _ ⟨w.heap.size + 1, 0, none⟩ _ _ (show w.heap.size + 2 ≠ w.heap.size + 1 by omega), Below.heap_setCell _ ⟨w.heap.size, 0, none⟩ _ _ (show w.heap.size + 2 ≠ w.heap.size by omega)]
          exact j2
        rw [hw]
        exact set1_heap j3
      have d0 : w''.cell? ⟨w.heap.size, 0, none⟩ = some (.slice none 0 0) := by simp [World.cell?, m0]
      have d1 : w''.cell? ⟨w.heap.size + 1, 0, none⟩ = some (.int .i64 b) := by simp [World.cell?, m1]
      have d2 : w''.cell? ⟨w.heap.size + 1 + 1, 0, none⟩ = some (.int .i64 m) := by simp [World.cell?, m2]
      have bw : Below w.heap.size w w'' := by
        rw [hw]
        exact ((((HB1.out.trans (HB3.out.mono (by omega))).trans (bW.mono (by omega))).setCell (by simp) _).setCell (by simp) _).setCell (by simp) _
      clear hw
      simp [Leaves, settle, results, Tryz.results38, go_sem, d0, d1, d2]
      exact ⟨rfl, bw⟩
    | ok y =>
      obtain ⟨j, M⟩ := y
      have HL1 : Hid (Calls Tryz.prog 39 #[.pointer (some ⟨w.heap.size + 4, 0, none⟩)] W1 fun e w' => ∃ v', e = .returned v' ∧ RdB w' (w.heap.size + 4) s j 0 v' M ∧ Fr (w.heap.size + 4) (.slice none 0 0) v' W1 w') := HLT
      obtain ⟨g1, g2, g3, g4⟩ := HOK.out j M rfl
      refine HL1.out.mono ?_
      rintro e w3 ⟨v3, rfl, r3, f3⟩
      have HR3 := Lib.hid r3
      have HB3 := Lib.hid (f3.below (fun k e => by cases e) (Nat.le_of_lt (HN.out ▸ HR1.out.lt)))
      obtain ⟨q, cap, rfl, hpq, hqs⟩ := r3.addr g4
      have hNn := HN.out
      have hsz : N + 4 < W1.heap.size := HR1.out.lt
      have k0 : w3.heap[w.heap.size]? = some (.cells #[.slice none 0 0] 37) := by rw [← hNn]; exact (HB3.out.block _ (by omega)).trans HNN.out.1
      have k1 : w3.heap[w.heap.size + 1]? = some (.cells #[.int .i64 0] 3) := by rw [← hNn]; exact (HB3.out.block _ (by omega)).trans HNN.out.2.1
      have k2 : w3.heap[w.heap.size + 2]? = some (.cells #[.int .i64 0] 23) := by rw [← hNn]; exact (HB3.out.block _ (by omega)).trans HNN.out.2.2.1
      have x0 : w3.cell? ⟨w.heap.size, 0, none⟩ = some (.slice none 0 0) := by simp [World.cell?, k0]
      have y0 : w3.frozen? ⟨w.heap.size, 0, none⟩ = false := by simp [World.frozen?, k0]
      have x1 : w3.cell? ⟨w.heap.size + 1, 0, none⟩ = some (.int .i64 0) := by simp [World.cell?, k1]
      have y1 : w3.frozen? ⟨w.heap.size + 1, 0, none⟩ = false := by simp [World.frozen?, k1]
      have x2 : w3.cell? ⟨w.heap.size + 1 + 1, 0, none⟩ = some (.int .i64 0) := by simp [World.cell?, k2]
      have y2 : w3.frozen? ⟨w.heap.size + 1 + 1, 0, none⟩ = false := by simp [World.frozen?, k2]
      have x4 : w3.cell? ⟨w.heap.size + 1 + 1 + 1 + 1, 1, none⟩ = some (.int .i64 j) := r3.c1
      have HK := Lib.hid (And.intro k0 (And.intro k1 k2))
      clear r3 f3 hNn k0 k1 k2
      go_wp2_with fail
      go_region
      all_goals
        go_wp2_with fail
        obtain ⟨V, hV⟩ : ∃ V, V = Value.slice (some ⟨q, 0, none⟩) M.length cap := ⟨_, rfl⟩
        rw [← hV]
        obtain ⟨Wf, hWf⟩ : ∃ Wf, Wf = ((((w3.setCell ⟨w.heap.size, 0, none⟩ V).setCell ⟨w.heap.size, 0, none⟩ V).setCell ⟨w.heap.size + 1, 0, none⟩ (.int .i64 j)).setCell ⟨w.heap.size + 1 + 1, 0, none⟩ (.int .i64 0)).drew := ⟨_, rfl⟩
        have hkeep : ∀ k, k ≠ w.heap.size → k ≠ w.heap.size + 1 → k ≠ w.heap.size + 1 + 1 → Wf.heap[k]? = w3.heap[k]? := fun k h1 h2 h3 => by
          rw [hWf]
          show ((((w3.setCell ⟨w.heap.size, 0, none⟩ V).setCell ⟨w.heap.size, 0, none⟩ V).setCell ⟨w.heap.size + 1, 0, none⟩ (.int .i64 j)).setCell ⟨w.heap.size + 1 + 1, 0, none⟩ (.int .i64 0)).heap[k]? = _
          rw [Below.heap_setCell _ ⟨w.heap.size + 1 + 1, 0, none⟩ _ _ h3, Below.heap_setCell _ ⟨w.heap.size + 1, 0, none⟩ _ _ h2, Below.heap_setCell _ ⟨w.heap.size, 0, none⟩ _ _ h1, Below.heap_setCell _ ⟨w.heap.size, 0, none⟩ _ _ h1]
        have m0 : Wf.heap[w.heap.size]? = some (.cells #[V] 37) := by
          rw [hWf]
          show ((((w3.setCell ⟨w.heap.size, 0, none⟩ V).setCell ⟨w.heap.size, 0, none⟩ V).setCell ⟨w.heap.size + 1, 0, none⟩ (.int .i64 j)).setCell ⟨w.heap.size + 1 + 1, 0, none⟩ (.int .i64 0)).heap[w.heap.size]? = _
          rw [Below.heap_setCell _ ⟨w.heap.size + 1 + 1, 0, none⟩ _ _ (show w.heap.size ≠ w.heap.size + 1 + 1 by omega), Below.heap_setCell _ ⟨w.heap.size + 1, 0, none⟩ _ _ (show w.heap.size ≠ w.heap.size + 1 by omega)]
          exact set1_heap (set1_heap HK.out.1)
        have m1 : Wf.heap[w.heap.size + 1]? = some (.cells #[.int .i64 j] 3) := by
          rw [hWf]
          show ((((w3.setCell ⟨w.heap.size, 0, none⟩ V).setCell ⟨w.heap.size, 0, none⟩ V).setCell ⟨w.heap.size + 1, 0, none⟩ (.int .i64 j)).setCell ⟨w.heap.size + 1 + 1, 0, none⟩ (.int .i64 0)).heap[w.heap.size + 1]? = _
          rw [Below.heap_setCell _ ⟨w.heap.size + 1 + 1, 0, none⟩ _ _ (show w.heap.size + 1 ≠ w.heap.size + 1 + 1 by omega)]
          refine set1_heap (cs := #[.int .i64 0]) ?_
          rw [Below.heap_setCell _ ⟨w.heap.size, 0, none⟩ _ _ (show w.heap.size + 1 ≠ w.heap.size by omega), Below.heap_setCell _ ⟨w.heap.size, 0, none⟩ _ _ (show w.heap.size + 1 ≠ w.heap.size by omega)]
          exact HK.out.2.1
        have m2 : Wf.heap[w.heap.size + 1 + 1]? = some (.cells #[.int .i64 0] 23) := by
          rw [hWf]
          show ((((w3.setCell ⟨w.heap.size, 0, none⟩ V).setCell ⟨w.heap.size, 0, none⟩ V).setCell ⟨w.heap.size + 1, 0, none⟩ (.int .i64 j)).setCell ⟨w.heap.size + 1 + 1, 0, none⟩ (.int .i64 0)).heap[w.heap.size + 1 + 1]? = _
          refine set1_heap (cs := #[.int .i64 0]) ?_
          rw [Below.heap_setCell _ ⟨w.heap.size + 1, 0, none⟩ _ _ (show w.heap.size + 1 + 1 ≠ w.heap.size + 1 by omega), Below.heap_setCell _ ⟨w.heap.size, 0, none⟩ _ _ (show w.heap.size + 1 + 1 ≠ w.heap.size by omega), Below.heap_setCell _ ⟨w.heap.size, 0, none⟩ _ _ (show w.heap.size + 1 + 1 ≠ w.heap.size by omega)]
          exact HK.out.2.2
        have bw : Below w.heap.size w Wf := by
          rw [hWf]
          exact (((((HB1.out.trans (HB3.out.mono (by omega))).setCell (by simp) _).setCell (by simp) _).setCell (by simp) _).setCell (by simp; omega) _).drew
        have hrow : Wf.ownsRow w.heap.size 46 5 V M.length (rw5 M) := by
          rw [hV]
          exact own_base (own_move HR3.out.row (fun k hk => by
            cases hk
            exact hkeep q (by omega) (by omega) (by omega))) (by omega)
        have d0 : Wf.cell? ⟨w.heap.size, 0, none⟩ = some V := by simp [World.cell?, m0]
        have d1 : Wf.cell? ⟨w.heap.size + 1, 0, none⟩ = some (.int .i64 j) := by simp [World.cell?, m1]
        have d2 : Wf.cell? ⟨w.heap.size + 1 + 1, 0, none⟩ = some (.int .i64 0) := by simp [World.cell?, m2]
        rw [← hWf]
        clear hWf hkeep m0 m1 m2
        refine leaves_cons (f := 63) (args := #[.pointer (some ⟨w.heap.size + 1 + 1 + 1, 0, none⟩), .pointer (some ⟨w.heap.size, 0, none⟩), .pointer (some ⟨w.heap.size + 1, 0, none⟩), .pointer (some ⟨w.heap.size + 1 + 1, 0, none⟩)]) (by simp) (by simp [go_sem]) ?_
        refine (rcatchI _ _ _ _ Wf).mono ?_
        rintro e u' w'' ⟨rfl, rfl, rfl⟩
        rw [HZ.out]
        simp [Leaves, settle, results, Tryz.results38, go_sem, d0, d1, d2]
        exact ⟨_, rfl, hrow, bw⟩
end Go.Proofs.YtmkkckhfdafjnaaGreatDoor.Li
/- Layer 18: Value; the tokens of marks and names. -/
namespace Go.Proofs.YtmkkckhfdafjnaaGreatDoor.Li
open Go.RowKit Go.Maps
theorem valc_any (s : LTok) (a : Int) (w : World) (hl : LimP w.heap.size w) (ht : TkP w w.heap.size s) : Calls Tryz.prog 10 #[.slice s.a s.n s.c, .int .i64 a, .bool s.fx] w (VaP w (vaR s a)) := by
  have H := readc_any s a w hl ht
  obtain ⟨X, hX⟩ : ∃ X, X = vaR s a := ⟨_, rfl⟩
  rw [← hX] at H
  rw [← hX]
  clear hX
  go_enter Tryz.func10, Tryz.ntmps10
  go_wp2_with fail
  cases X with
  | bad b m =>
    refine H.mono ?_
    rintro e w' ⟨rfl, bw⟩
    go_wp2_with fail
    go_ret3
    exact ⟨rfl, bw⟩
  | ok y =>
    obtain ⟨j, M⟩ := y
    refine H.mono ?_
    rintro e w' ⟨v, rfl, ho, bw⟩
    go_wp2_with fail
    go_ret3
    exact ⟨v, rfl, ho, bw⟩
theorem ret_t3 {R : Ending → World → Prop} {fn : Func} {tmps : Array Value} {w : World} {g k : Nat} {cs : Array Value} (hr : fn.results = #[.cell k 59]) (h2 : tmps.getD k undef = .pointer (some ⟨g, 0, none⟩)) (hg : w.heap[g]? = some (.cells cs 59)) (hs : cs.size = 3)
    (hR : R (.returned (.agg cs)) w) : bodyPost Tryz.prog fn R .ret ⟨tmps, []⟩ w := by
  obtain ⟨i0, hin, hz0, hz1, hz2⟩ := infoT
  refine bodyPost_ret (v := .agg cs) ?_ rfl hR
  exact results_cell_row hr tmps w g 59 cs (0, 0) _ h2 hg Tryz.underlying59 rfl (by rw [hin]; simp [hz1, hs])
theorem markT_any (x : ByteArray) (w : World) : Calls Tryz.prog 44 #[.string x] w fun e w' => e = .returned (.agg #[.int .u8 4, .string x, .int .i64 0]) ∧ Below w.heap.size w w' := by
  go_enter Tryz.func44, Tryz.ntmps44
  go_wp2_with fail
  exact ret_t3 Tryz.results44 rfl (heap_alloc_new _ _) rfl ⟨rfl, (Below.refl _ _).alloc (Nat.le_refl _) _⟩
theorem nameT_any (x : ByteArray) (w : World) : Calls Tryz.prog 45 #[.string x] w fun e w' => e = .returned (.agg #[.int .u8 1, .string x, .int .i64 0]) ∧ Below w.heap.size w w' := by
  go_enter Tryz.func45, Tryz.ntmps45
  go_wp2_with fail
  exact ret_t3 Tryz.results45 rfl (heap_alloc_new _ _) rfl ⟨rfl, (Below.refl _ _).alloc (Nat.le_refl _) _⟩
end Go.Proofs.YtmkkckhfdafjnaaGreatDoor.Li
/- Layer 18: mayBe. -/
namespace Go.Proofs.YtmkkckhfdafjnaaGreatDoor.Li
open Go.RowKit Go.Maps
end Go.Proofs.YtmkkckhfdafjnaaGreatDoor.Li
