import Derived.Test.YtmkkckhfdafjnaaGreatDoorQ11
import Derived.Test.YtmkkckhfdafjnaaGreatDoorQ9
/- Layer 18: a type, the walk. -/
namespace Go.Proofs.YtmkkckhfdafjnaaGreatDoor.Li
open Go.RowKit Go.Maps Rt
theorem ref_cells {w : World} {g : Nat} {x y : Value} {t : TypeId} (h : w.heap[g]? = some (.cells #[x, y] t)) : w.cell? ⟨g, 0, none⟩ = some x ∧ w.cell? ⟨g, 1, none⟩ = some y ∧ ∀ o, w.frozen? ⟨g, o, none⟩ = false := ⟨by simp [World.cell?, h], by simp [World.cell?, h], fun o => by simp [World.frozen?, h]⟩
theorem own_slice3 {w : World} {B n sz : Nat} {e : TypeId} {v : Value} {x : List Value} (h : w.ownsRow B e sz v n x) : ∃ ad m cp, v = .slice ad m cp := by
  obtain ⟨ad, cp, e⟩ := own_slice h
  exact ⟨ad, _, cp, e⟩
theorem insert_at (B : Nat) (w : World) (v : Value) (ws : List Nat) (x : Nat) (y : Int) (vb : Nat) (hy : y = (x : Nat)) (hO : BwP B w v ws) (hl : ws.length ≤ 100) (hvb : w.heap[vb]? = some (.cells #[.int .u8 y] 5)) (hne : v.ownBlock ≠ some vb) (hB : B ≤ w.heap.size) : Calls Tryz.prog 57 #[v, .int .i64 0, .slice (some ⟨vb, 0, none⟩) 1 1] w fun e w' => ∃ v', e = .returned v' ∧ BwP B w' v' (x :: ws) ∧ w.grownBy w' v.ownBlock ∧ (v'.ownBlock = v.ownBlock ∨ ∃ g, v'.ownBlock = some g ∧ w.heap.size ≤ g) := by
  subst hy
  exact insert_any B w v ws x vb hO hl hvb hne hB
/-- A type is told, or an error thrown. -/
def TyP (p b1 b3 b4 b5 : Nat) (s : LTok) (op : Nat) (v : Value) (w : World) (x : LR TyO) (e : Ending) (w' : World) : Prop := match x with
  | .ok y => ∃ vw, e = .returned (.agg #[.string y.nm, vw]) ∧ BwP w.heap.size w' vw y.ws ∧ RfB w' p b1 b3 b4 b5 s y.i op v y.rd ∧ Kr p b3 w w'
  | .bad a m => e = thr a m ∧ Below p w w'
/-- A type is read, so many more wraps being allowed (one more than they). -/
def WiC (s : LTok) (f : Nat) : Prop := ∀ (p b1 b3 b4 b5 i op : Nat) (v : Value) (rd : Nat) (w : World), rd + f = 9 → i ≤ s.n → RfB w p b1 b3 b4 b5 s i op v rd → Calls Tryz.prog 54 #[.pointer (some ⟨b1, 0, none⟩), .pointer (some ⟨b4, 0, none⟩), .pointer (some ⟨b5, 0, none⟩)] w (TyP p b1 b3 b4 b5 s op v w (tyF s f i rd))
set_option maxRecDepth 20000 in
set_option maxHeartbeats 8000000 in
theorem within_name {s : LTok} {f p b1 b3 b4 b5 i op : Nat} {v : Value} {rd : Nat} {w : World} (hf : rd + (f + 1) = 9) (hi : i ≤ s.n) (h : RfB w p b1 b3 b4 b5 s i op v rd) (hlb : isMk (tkA s i) mLB = false) : Calls Tryz.prog 54 #[.pointer (some ⟨b1, 0, none⟩), .pointer (some ⟨b4, 0, none⟩), .pointer (some ⟨b5, 0, none⟩)] w (TyP p b1 b3 b4 b5 s op v w (tyF s (f + 1) i rd)) := by
  have hn : s.n ≤ 100000 := h.r.tok.2.1
  have ho1 := h.o1
  have ho3 := h.o3
  have ho4 := h.o4
  have ho5 := h.o5
  have hlt := h.lt
  obtain ⟨Z, hZ⟩ : ∃ Z, Z = tyF s (f + 1) i rd := ⟨_, rfl⟩
  rw [← hZ]
  have MS := Lib.hid (Mid.start h)
  have HIM := Lib.hid (Rt.isMark_any mLB _ MS.out.rf.r (by omega))
  rw [hlb] at HIM
  unfold mLB at HIM
  have c1s := (cell0_of MS.out.rf.h1).1
  have c1w := (cell0_of h.h1).1
  have hZ2 : Z = if isNm (tkA s i) = true then tyT s (i + 1) rd (tkA s i).s [] else .bad i 180 := by
    rw [hZ]
    unfold tyF
    rw [if_neg (by rw [hlb]; decide)]
  clear hZ h hlb
  by_cases hnm : isNm (tkA s i) = true
  case neg =>
    have HZ3 : Hid (Z = .bad i 180) := Lib.hid (by rw [hZ2, if_neg hnm])
    have hnf : isNm (tkA s i) = false := by simpa using hnm
    clear hZ2
    go_enter Tryz.func54, Tryz.ntmps54
    go_wp2_with fail
    refine HIM.out.mono ?_
    rintro e w2 ⟨rfl, bb⟩
    have M2 := Lib.hid (MS.out.below bb)
    have c12 := (cell0_of M2.out.rf.h1).1
    have HNN := Lib.hid (Rt.name_no w2 M2.out.rf.r (by omega) hnf)
    clear bb c1s c1w HIM
    go_wp2_with fail
    refine HNN.out.mono ?_
    rintro e w9 ⟨he, b9⟩
    unfold thr at he
    subst he
    (try go_wp2_with fail)
    rw [HZ3.out]
    simp only [bodyPost]
    exact ⟨trivial, rfl, (M2.out.kr.below (by omega) (by omega)).trans (b9.mono (by have := M2.out.kr.size; omega))⟩
  case pos =>
    have hj1 : i < s.n := isNm_in hnm
    obtain ⟨x, hx⟩ : ∃ x, x = (tkA s i).s := ⟨_, rfl⟩
    have HZ : Hid (Z = tyT s (i + 1) rd x []) := Lib.hid (by rw [hZ2, if_pos hnm, hx])
    clear hZ2
    go_enter Tryz.func54, Tryz.ntmps54
    go_wp2_with fail
    refine HIM.out.mono ?_
    rintro e w2 ⟨rfl, bb⟩
    have M2 := Lib.hid (MS.out.below bb)
    have c12 := (cell0_of M2.out.rf.h1).1
    have HNY := Lib.hid (Rt.name_yes w2 M2.out.rf.r (by omega) hnm)
    rw [← hx] at HNY
    clear bb c1s c1w HIM hx hnm
    go_wp2_with fail
    refine HNY.out.mono ?_
    rintro e w3 ⟨rfl, r3, k3⟩
    have M3 := Lib.hid (M2.out.kp r3 k3)
    obtain ⟨s0, s1, sz⟩ := ref_cells M3.out.n1
    have sz0 := sz 0
    have HM := Lib.hid (M3.out.setn x)
    have hRD : rd ≤ 8 := by omega
    clear r3 k3 HNY c12
    have c1t := (cell0_of HM.out.rf.h1).1
    have HIM := Lib.hid (Rt.isMark_any mBang _ HM.out.rf.r (by omega))
    by_cases hb : isMk (tkA s (i + 1)) mBang = true
    case neg =>
      have hbf : isMk (tkA s (i + 1)) mBang = false := by simpa using hb
      rw [hbf] at HIM
      have HZ3 : Hid (Z = .ok ⟨i + 1, rd, x, []⟩) := Lib.hid (by rw [HZ.out]; unfold tyT; rw [if_neg hb])
      unfold mBang at HIM
      clear hb hbf HZ
      go_wp2_with fail
      refine HIM.out.mono ?_
      rintro e wt ⟨rfl, bt⟩
      have MT := Lib.hid (HM.out.below bt)
      obtain ⟨a0, a1, az⟩ := ref_cells MT.out.n1
      obtain ⟨e0, e1, ez⟩ := ref_cells MT.out.n0
      have ez0 := ez 0
      have ez1 := ez 1
      clear bt HIM c1t
      go_wp2_with fail
      rw [HZ3.out]
      exact ret_ref Tryz.results54 rfl MT.out.fin.1 rfl ⟨_, rfl, MT.out.fin.2.1, MT.out.fin.2.2.1, MT.out.fin.2.2.2⟩
    case pos =>
      have hIn : i + 1 < s.n := isMk_in hb
      rw [hb] at HIM
      unfold mBang at HIM
      by_cases h8 : rd = 8
      case pos =>
        have HZ3 : Hid (Z = .bad (i + 1) 30) := Lib.hid (by rw [HZ.out]; unfold tyT; rw [if_pos hb, if_pos h8])
        clear hb HZ
        go_wp2_with fail
        refine HIM.out.mono ?_
        rintro e wt ⟨rfl, bt⟩
        have MT := Lib.hid (HM.out.below bt)
        have c4t := (cell0_of MT.out.rf.h4).1
        clear bt HIM c1t
        go_wp2_with fail
        refine (wrap_bad MT.out.rf h8).mono ?_
        rintro e w9 ⟨he, b9⟩
        unfold thr at he
        subst he
        (try go_wp2_with fail)
        rw [HZ3.out]
        simp only [bodyPost]
        exact ⟨trivial, rfl, (MT.out.kr.below (by omega) (by omega)).trans (b9.mono (by have := MT.out.kr.size; omega))⟩
      case neg =>
        have HZ3 : Hid (Z = .ok ⟨i + 1 + 1, rd + 1, x, 1 :: []⟩) := Lib.hid (by rw [HZ.out]; unfold tyT; rw [if_pos hb, if_neg h8])
        clear hb HZ
        go_wp2_with fail
        refine HIM.out.mono ?_
        rintro e wt ⟨rfl, bt⟩
        have MT := Lib.hid (HM.out.below bt)
        have c4t := (cell0_of MT.out.rf.h4).1
        clear bt HIM c1t
        go_wp2_with fail
        refine (wrap_ok MT.out.rf (by omega) (by omega)).mono ?_
        rintro e wu ⟨rfl, ru, ku⟩
        have MU := Lib.hid (MT.out.step ru ku)
        obtain ⟨a0, a1, az⟩ := ref_cells MU.out.n1
        have HINS := Lib.hid (insert_at w.heap.size (wu.alloc (.cells #[.int .u8 1] 5)) (.slice none 0 0) ([]) 1 1 wu.heap.size rfl (MU.out.bw.move (fun j e => heap_alloc_old _ _ (MU.out.bw.1.lt j e).2)) (by (try simp only [List.length_nil]); omega) (heap_alloc_new _ _) (fun e => by have := (MU.out.bw.1.lt _ e).2; omega) (by have := MU.out.kr.size; simp; omega))
        clear ru ku c4t
        go_wp2_with fail
        refine HINS.out.mono ?_
        rintro e wv ⟨v8, rfl, b7, g7, _⟩
        obtain ⟨ad8, m8, cp8, rfl⟩ := own_slice3 b7.1
        obtain ⟨q1, q2, q3⟩ := MU.out.ins _ g7 b7
        have MV := Lib.hid q3
        obtain ⟨d0, d1, dz⟩ := ref_cells MV.out.n1
        obtain ⟨e0, e1, ez⟩ := ref_cells MV.out.n0
        have ez0 := ez 0
        have ez1 := ez 1
        clear q3 b7 g7 HINS a0 a1 az
        go_wp2_with fail
        rw [HZ3.out]
        exact ret_ref Tryz.results54 rfl MV.out.fin.1 rfl ⟨_, rfl, MV.out.fin.2.1, MV.out.fin.2.2.1, MV.out.fin.2.2.2⟩
set_option maxRecDepth 20000 in
set_option maxHeartbeats 8000000 in
theorem within_list {s : LTok} {f p b1 b3 b4 b5 i op : Nat} {v : Value} {rd : Nat} {w : World} (hV : 1 ≤ f → WiC s f) (hf : rd + (f + 1) = 9) (hi : i ≤ s.n) (h : RfB w p b1 b3 b4 b5 s i op v rd) (hlb : isMk (tkA s i) mLB = true) : Calls Tryz.prog 54 #[.pointer (some ⟨b1, 0, none⟩), .pointer (some ⟨b4, 0, none⟩), .pointer (some ⟨b5, 0, none⟩)] w (TyP p b1 b3 b4 b5 s op v w (tyF s (f + 1) i rd)) := by
  have hn : s.n ≤ 100000 := h.r.tok.2.1
  have hi1 : i < s.n := isMk_in hlb
  have ho1 := h.o1
  have ho3 := h.o3
  have ho4 := h.o4
  have ho5 := h.o5
  have hlt := h.lt
  obtain ⟨Z, hZ⟩ : ∃ Z, Z = tyF s (f + 1) i rd := ⟨_, rfl⟩
  rw [← hZ]
  have MS := Lib.hid (Mid.start h)
  have HIM := Lib.hid (Rt.isMark_any mLB _ MS.out.rf.r (by omega))
  rw [hlb] at HIM
  unfold mLB at HIM
  have c1s := (cell0_of MS.out.rf.h1).1
  have c1w := (cell0_of h.h1).1
  have hZ2 : Z = if rd = 8 then .bad i 30 else (tyF s f (i + 1) (rd + 1)).bind fun y => if isMk (tkA s y.i) mRB = true then tyT s (y.i + 1) y.rd y.nm (2 :: y.ws) else .bad y.i 180 := by
    rw [hZ]
    show tyF s (f + 1) i rd = _
    rw [tyF, if_pos hlb]
  clear hZ h hlb
  by_cases h8 : rd = 8
  case pos =>
    have HZ3 : Hid (Z = .bad i 30) := Lib.hid (by rw [hZ2, if_pos h8])
    clear hZ2 hV
    go_enter Tryz.func54, Tryz.ntmps54
    go_wp2_with fail
    refine HIM.out.mono ?_
    rintro e w2 ⟨rfl, bb⟩
    have M2 := Lib.hid (MS.out.below bb)
    have c42 := (cell0_of M2.out.rf.h4).1
    clear bb c1s c1w HIM
    go_wp2_with fail
    refine (wrap_bad M2.out.rf h8).mono ?_
    rintro e w9 ⟨he, b9⟩
    unfold thr at he
    subst he
    (try go_wp2_with fail)
    rw [HZ3.out]
    simp only [bodyPost]
    exact ⟨trivial, rfl, (M2.out.kr.below (by omega) (by omega)).trans (b9.mono (by have := M2.out.kr.size; omega))⟩
  case neg =>
    rw [if_neg h8] at hZ2
    have HOK := Lib.hid (fun y => tyF_goes (s := s) (f := f) (i := i + 1) (rd := rd + 1) (y := y))
    have HV := Lib.hid (hV (by omega))
    obtain ⟨X, hX⟩ : ∃ X, X = tyF s f (i + 1) (rd + 1) := ⟨_, rfl⟩
    have HX := Lib.hid hX
    rw [← hX] at hZ2 HOK
    have HZ2 := Lib.hid hZ2
    clear hZ2 hV hX
    go_enter Tryz.func54, Tryz.ntmps54
    go_wp2_with fail
    refine HIM.out.mono ?_
    rintro e w2 ⟨rfl, bb⟩
    have M2 := Lib.hid (MS.out.below bb)
    have c42 := (cell0_of M2.out.rf.h4).1
    clear bb c1s c1w HIM
    go_wp2_with fail
    refine (wrap_ok M2.out.rf (by omega) (by omega)).mono ?_
    rintro e w3 ⟨rfl, r3, k3⟩
    have M3 := Lib.hid (M2.out.step r3 k3)
    have c53 := (cell0_of M3.out.rf.h5).1
    have HR0 := HV.out p b1 b3 b4 b5 (i + 1) op v (rd + 1) w3 (by omega) (by omega) M3.out.rf
    rw [← HX.out] at HR0
    have HREC := Lib.hid HR0
    clear r3 k3 c42 HR0 HV HX
    go_wp2_with fail
    cases X with
    | bad a m =>
      have HL9 : Hid (Calls Tryz.prog 54 #[.pointer (some ⟨b1, 0, none⟩), .pointer (some ⟨b4, 0, none⟩), .pointer (some ⟨b5, 0, none⟩)] w3 fun e w' => e = thr a m ∧ Below p w3 w') := Lib.hid HREC.out
      have HZ3 : Hid (Z = .bad a m) := Lib.hid HZ2.out
      clear HREC HOK HZ2
      refine HL9.out.mono ?_
      rintro e w9 ⟨he, b9⟩
      unfold thr at he
      subst he
      (try go_wp2_with fail)
      rw [HZ3.out]
      simp only [bodyPost]
      exact ⟨trivial, rfl, (M3.out.kr.below (by omega) (by omega)).trans b9⟩
    | ok y =>
      obtain ⟨yi, yr, yn, yw⟩ := y
      obtain ⟨g1, g2, g3, g4⟩ := HOK.out _ rfl
      dsimp only at g1 g2 g3 g4
      have g5 := g4 (by omega)
      have HL9 : Hid (Calls Tryz.prog 54 #[.pointer (some ⟨b1, 0, none⟩), .pointer (some ⟨b4, 0, none⟩), .pointer (some ⟨b5, 0, none⟩)] w3 fun e w' => ∃ vw, e = .returned (.agg #[.string yn, vw]) ∧ BwP w3.heap.size w' vw yw ∧ RfB w' p b1 b3 b4 b5 s yi op v yr ∧ Kr p b3 w3 w') := Lib.hid HREC.out
      have HZ3 : Hid (Z = if isMk (tkA s yi) mRB = true then tyT s (yi + 1) yr yn (2 :: yw) else .bad yi 180) := Lib.hid HZ2.out
      clear HREC HOK HZ2 g4
      refine HL9.out.mono ?_
      rintro e w4 ⟨vw, rfl, bw4, rf4, kr4⟩
      obtain ⟨ad4, m4, cp4, rfl⟩ := own_slice3 bw4.1
      have M4 := Lib.hid (M3.out.step rf4 kr4)
      obtain ⟨s0, s1, sz⟩ := ref_cells M4.out.n1
      have sz0 := sz 0
      have sz1 := sz 1
      have M5 := Lib.hid (M4.out.set (nm' := yn) (⟨own_base bw4.1 M3.out.kr.size, bw4.2⟩ : BwP w.heap.size w4 (.slice ad4 m4 cp4) yw))
      have c15 := (cell0_of M5.out.rf.h1).1
      have c14 := (cell0_of M4.out.rf.h1).1
      have hnb1 : ¬ (w.heap.size + 1 = b1) := by omega
      have hnb2 : ¬ (b1 = w.heap.size + 1) := by omega
      clear bw4 rf4 kr4 c53
      by_cases hc : isMk (tkA s yi) mRB = true
      case neg =>
        have HTK := Lib.hid (Rt.take_bad (x := mRB) _ M5.out.rf.r (by omega) (by simpa using hc))
        have HZ4 : Hid (Z = .bad yi 180) := Lib.hid (by rw [HZ3.out, if_neg hc])
        unfold mRB at HTK
        clear hc HZ3
        go_wp2_with fail
        refine HTK.out.mono ?_
        rintro e w9 ⟨he, b9⟩
        unfold thr at he
        subst he
        (try go_wp2_with fail)
        rw [HZ4.out]
        simp only [bodyPost]
        exact ⟨trivial, rfl, (M5.out.kr.below (by omega) (by omega)).trans (b9.mono (by have := M5.out.kr.size; omega))⟩
      case pos =>
        have hyn : yi < s.n := isMk_in hc
        have HTK := Lib.hid (Rt.take_ok (x := mRB) _ M5.out.rf.r (by omega) hc)
        have HZ : Hid (Z = tyT s (yi + 1) yr yn (2 :: yw)) := Lib.hid (by rw [HZ3.out, if_pos hc])
        unfold mRB at HTK
        clear hc HZ3
        go_wp2_with fail
        refine HTK.out.mono ?_
        rintro e w6 ⟨rfl, r6, k6⟩
        have M6 := Lib.hid (M5.out.kp r6 k6)
        clear r6 k6 HTK s0 s1 sz sz0 sz1
        obtain ⟨a0, a1, az⟩ := ref_cells M6.out.n1
        have HINS := Lib.hid (insert_at w.heap.size (w6.alloc (.cells #[.int .u8 2] 5)) (.slice ad4 m4 cp4) yw 2 2 w6.heap.size rfl (M6.out.bw.move (fun j e => heap_alloc_old _ _ (M6.out.bw.1.lt j e).2)) (by omega) (heap_alloc_new _ _) (fun e => by have := (M6.out.bw.1.lt _ e).2; omega) (by have := M6.out.kr.size; simp; omega))
        go_wp2_with fail
        refine HINS.out.mono ?_
        rintro e w7 ⟨v7, rfl, b7, g7, _⟩
        obtain ⟨ad7, m7, cp7, rfl⟩ := own_slice3 b7.1
        obtain ⟨q1, q2, q3⟩ := M6.out.ins _ g7 b7
        have HM := Lib.hid q3
        have c17 : w7.cell? ⟨b1, 0, none⟩ = some (.pointer (some ⟨p, 0, none⟩)) := by
          have e := (cell0_of HM.out.rf.h1).1
          rw [← e]
          exact (World.cell?_of_block (Below.heap_setCell w7 ⟨w.heap.size + 1, 1, none⟩ _ b1 hnb2)).symm
        have hRD : yr ≤ 8 := g5
        have hWS : (2 :: yw).length ≤ 8 := by simp; omega
        clear q3 b7 g7 HINS a0 a1 az
        have c1t := (cell0_of HM.out.rf.h1).1
        have HIM := Lib.hid (Rt.isMark_any mBang _ HM.out.rf.r (by omega))
        by_cases hb : isMk (tkA s (yi + 1)) mBang = true
        case neg =>
          have hbf : isMk (tkA s (yi + 1)) mBang = false := by simpa using hb
          rw [hbf] at HIM
          have HZ3 : Hid (Z = .ok ⟨yi + 1, yr, yn, (2 :: yw)⟩) := Lib.hid (by rw [HZ.out]; unfold tyT; rw [if_neg hb])
          unfold mBang at HIM
          clear hb hbf HZ
          go_wp2_with fail
          refine HIM.out.mono ?_
          rintro e wt ⟨rfl, bt⟩
          have MT := Lib.hid (HM.out.below bt)
          obtain ⟨a0, a1, az⟩ := ref_cells MT.out.n1
          obtain ⟨e0, e1, ez⟩ := ref_cells MT.out.n0
          have ez0 := ez 0
          have ez1 := ez 1
          clear bt HIM c1t
          go_wp2_with fail
          rw [HZ3.out]
          exact ret_ref Tryz.results54 rfl MT.out.fin.1 rfl ⟨_, rfl, MT.out.fin.2.1, MT.out.fin.2.2.1, MT.out.fin.2.2.2⟩
        case pos =>
          have hIn : yi + 1 < s.n := isMk_in hb
          rw [hb] at HIM
          unfold mBang at HIM
          by_cases h8 : yr = 8
          case pos =>
            have HZ3 : Hid (Z = .bad (yi + 1) 30) := Lib.hid (by rw [HZ.out]; unfold tyT; rw [if_pos hb, if_pos h8])
            clear hb HZ
            go_wp2_with fail
            refine HIM.out.mono ?_
            rintro e wt ⟨rfl, bt⟩
            have MT := Lib.hid (HM.out.below bt)
            have c4t := (cell0_of MT.out.rf.h4).1
            clear bt HIM c1t
            go_wp2_with fail
            refine (wrap_bad MT.out.rf h8).mono ?_
            rintro e w9 ⟨he, b9⟩
            unfold thr at he
            subst he
            (try go_wp2_with fail)
            rw [HZ3.out]
            simp only [bodyPost]
            exact ⟨trivial, rfl, (MT.out.kr.below (by omega) (by omega)).trans (b9.mono (by have := MT.out.kr.size; omega))⟩
          case neg =>
            have HZ3 : Hid (Z = .ok ⟨yi + 1 + 1, yr + 1, yn, 1 :: (2 :: yw)⟩) := Lib.hid (by rw [HZ.out]; unfold tyT; rw [if_pos hb, if_neg h8])
            clear hb HZ
            go_wp2_with fail
            refine HIM.out.mono ?_
            rintro e wt ⟨rfl, bt⟩
            have MT := Lib.hid (HM.out.below bt)
            have c4t := (cell0_of MT.out.rf.h4).1
            clear bt HIM c1t
            go_wp2_with fail
            refine (wrap_ok MT.out.rf (by omega) (by omega)).mono ?_
            rintro e wu ⟨rfl, ru, ku⟩
            have MU := Lib.hid (MT.out.step ru ku)
            obtain ⟨a0, a1, az⟩ := ref_cells MU.out.n1
            have HINS := Lib.hid (insert_at w.heap.size (wu.alloc (.cells #[.int .u8 1] 5)) (.slice ad7 m7 cp7) ((2 :: yw)) 1 1 wu.heap.size rfl (MU.out.bw.move (fun j e => heap_alloc_old _ _ (MU.out.bw.1.lt j e).2)) (by (try simp only [List.length_nil]); omega) (heap_alloc_new _ _) (fun e => by have := (MU.out.bw.1.lt _ e).2; omega) (by have := MU.out.kr.size; simp; omega))
            clear ru ku c4t
            go_wp2_with fail
            refine HINS.out.mono ?_
            rintro e wv ⟨v8, rfl, b7, g7, _⟩
            obtain ⟨ad8, m8, cp8, rfl⟩ := own_slice3 b7.1
            obtain ⟨q1, q2, q3⟩ := MU.out.ins _ g7 b7
            have MV := Lib.hid q3
            obtain ⟨d0, d1, dz⟩ := ref_cells MV.out.n1
            obtain ⟨e0, e1, ez⟩ := ref_cells MV.out.n0
            have ez0 := ez 0
            have ez1 := ez 1
            clear q3 b7 g7 HINS a0 a1 az
            go_wp2_with fail
            rw [HZ3.out]
            exact ret_ref Tryz.results54 rfl MV.out.fin.1 rfl ⟨_, rfl, MV.out.fin.2.1, MV.out.fin.2.2.1, MV.out.fin.2.2.2⟩
theorem within_all (s : LTok) : ∀ f, 1 ≤ f → WiC s f
  | 0, h => by omega
  | 1, _ => fun p b1 b3 b4 b5 i op v rd w hf hi h => by
    cases hl : isMk (tkA s i) mLB with
    | false => exact within_name hf hi h hl
    | true => exact within_list (fun h => by omega) hf hi h hl
  | f + 2, _ => fun p b1 b3 b4 b5 i op v rd w hf hi h => by
    cases hl : isMk (tkA s i) mLB with
    | false => exact within_name hf hi h hl
    | true => exact within_list (fun _ => within_all s (f + 1) (by omega)) hf hi h hl
end Go.Proofs.YtmkkckhfdafjnaaGreatDoor.Li
/- Layer 18: a type: its reader. -/
namespace Go.Proofs.YtmkkckhfdafjnaaGreatDoor.Li
open Go.RowKit Go.Maps Rt
/-- A type is told, or an error thrown. -/
def RfN (p : Nat) (s : LTok) (op : Nat) (v : Value) (w : World) (x : LR TyO) (e : Ending) (w' : World) : Prop := match x with
  | .ok y => ∃ vw, e = .returned (.agg #[.string y.nm, vw]) ∧ BwP w.heap.size w' vw y.ws ∧ Rt.RdB w' p s y.i op v ∧ KpB p w w'
  | .bad a m => e = thr a m ∧ Below p w w'
set_option maxRecDepth 20000 in
set_option maxHeartbeats 8000000 in
theorem ref_any {s : LTok} {p i op : Nat} {v : Value} (w : World) (h : Rt.RdB w p s i op v) (hi : i ≤ s.n) : Calls Tryz.prog 33 #[.pointer (some ⟨p, 0, none⟩)] w (RfN p s op v w (tyL s i)) := by
  have hmf : ∀ (fn : Fn) (first cap : Array Value) (w : World), (Instr.makeFunc fn first cap).run Tryz.prog w = .ok (.func fn first cap) w := fun _ _ _ _ => rfl
  have hlt := h.lt
  obtain ⟨W5, hW5⟩ : ∃ W5, W5 = ((((w.alloc (.cells #[.pointer (some ⟨p, 0, none⟩)] 82)).alloc (.cells #[.string ⟨#[]⟩, .slice none 0 0] 28)).alloc (.cells #[.int .i64 0] 3)).alloc (.cells #[.func (.func 52) #[] #[.pointer (some ⟨w.heap.size + 1 + 1, 0, none⟩), .pointer (some ⟨w.heap.size, 0, none⟩)]] 1)).alloc (.cells #[.func (.func 54) #[] #[.pointer (some ⟨w.heap.size, 0, none⟩), .pointer (some ⟨w.heap.size + 1 + 1 + 1, 0, none⟩), .pointer (some ⟨w.heap.size + 1 + 1 + 1 + 1, 0, none⟩)]] 81) := ⟨_, rfl⟩
  have b5 : Below w.heap.size w W5 := by rw [hW5]; exact (((((Below.refl _ _).alloc (Nat.le_refl _) _).alloc (by simp) _).alloc (by simp; omega) _).alloc (by simp; omega) _).alloc (by simp; omega) _
  have hs5 : W5.heap.size = w.heap.size + 5 := by rw [hW5]; simp
  have k0 : W5.heap[w.heap.size]? = some (.cells #[.pointer (some ⟨p, 0, none⟩)] 82) := by
    rw [hW5, heap_alloc_old _ _ (by simp <;> omega), heap_alloc_old _ _ (by simp <;> omega), heap_alloc_old _ _ (by simp <;> omega), heap_alloc_old _ _ (by simp), heap_alloc_new]
  have k1 : W5.heap[w.heap.size + 1]? = some (.cells #[.string ⟨#[]⟩, .slice none 0 0] 28) := by
    have e := heap_alloc_new (w.alloc (.cells #[.pointer (some ⟨p, 0, none⟩)] 82)) (.cells #[.string ⟨#[]⟩, .slice none 0 0] 28)
    rw [hW5, heap_alloc_old _ _ (by simp <;> omega), heap_alloc_old _ _ (by simp <;> omega), heap_alloc_old _ _ (by simp)]
    simpa using e
  have k2 : W5.heap[w.heap.size + 1 + 1]? = some (.cells #[.int .i64 0] 3) := by
    have e := heap_alloc_new ((w.alloc (.cells #[.pointer (some ⟨p, 0, none⟩)] 82)).alloc (.cells #[.string ⟨#[]⟩, .slice none 0 0] 28)) (.cells #[.int .i64 0] 3)
    rw [hW5, heap_alloc_old _ _ (by simp <;> omega), heap_alloc_old _ _ (by simp)]
    simpa using e
  have k3 : W5.heap[w.heap.size + 1 + 1 + 1]? = some (.cells #[.func (.func 52) #[] #[.pointer (some ⟨w.heap.size + 1 + 1, 0, none⟩), .pointer (some ⟨w.heap.size, 0, none⟩)]] 1) := by
    have e := heap_alloc_new (((w.alloc (.cells #[.pointer (some ⟨p, 0, none⟩)] 82)).alloc (.cells #[.string ⟨#[]⟩, .slice none 0 0] 28)).alloc (.cells #[.int .i64 0] 3)) (.cells #[.func (.func 52) #[] #[.pointer (some ⟨w.heap.size + 1 + 1, 0, none⟩), .pointer (some ⟨w.heap.size, 0, none⟩)]] 1)
    rw [hW5, heap_alloc_old _ _ (by simp)]
    simpa using e
  have k4 : W5.heap[w.heap.size + 1 + 1 + 1 + 1]? = some (.cells #[.func (.func 54) #[] #[.pointer (some ⟨w.heap.size, 0, none⟩), .pointer (some ⟨w.heap.size + 1 + 1 + 1, 0, none⟩), .pointer (some ⟨w.heap.size + 1 + 1 + 1 + 1, 0, none⟩)]] 81) := by
    rw [hW5]
    have e := heap_alloc_new ((((w.alloc (.cells #[.pointer (some ⟨p, 0, none⟩)] 82)).alloc (.cells #[.string ⟨#[]⟩, .slice none 0 0] 28)).alloc (.cells #[.int .i64 0] 3)).alloc (.cells #[.func (.func 52) #[] #[.pointer (some ⟨w.heap.size + 1 + 1, 0, none⟩), .pointer (some ⟨w.heap.size, 0, none⟩)]] 1)) (.cells #[.func (.func 54) #[] #[.pointer (some ⟨w.heap.size, 0, none⟩), .pointer (some ⟨w.heap.size + 1 + 1 + 1, 0, none⟩), .pointer (some ⟨w.heap.size + 1 + 1 + 1 + 1, 0, none⟩)]] 81)
    simpa using e
  have HRF : Hid (RfB W5 p w.heap.size (w.heap.size + 1 + 1) (w.heap.size + 1 + 1 + 1) (w.heap.size + 1 + 1 + 1 + 1) s i op v 0) := Lib.hid ⟨(h.below b5).1, k0, k2, k3, k4, hlt, by omega, by omega, by omega⟩
  have HC := Lib.hid (within_all s 9 (by decide) p w.heap.size (w.heap.size + 1 + 1) (w.heap.size + 1 + 1 + 1) (w.heap.size + 1 + 1 + 1 + 1) i op v 0 W5 rfl hi HRF.out)
  have c5 := (cell0_of k4).1
  have HK1 := Lib.hid k1
  have HB5 := Lib.hid b5
  have HW := Lib.hid hW5
  obtain ⟨X, hX⟩ : ∃ X, X = tyL s i := ⟨_, rfl⟩
  rw [← hX]
  unfold tyL at hX
  rw [← hX] at HC
  clear h k0 k1 k2 k3 k4 hX b5 hW5
  go_enter Tryz.func33, Tryz.ntmps33
  go_wp2_with fail
  rw [← HW.out]
  cases X with
  | bad a m =>
    have HL9 : Hid (Calls Tryz.prog 54 #[.pointer (some ⟨w.heap.size, 0, none⟩), .pointer (some ⟨w.heap.size + 1 + 1 + 1, 0, none⟩), .pointer (some ⟨w.heap.size + 1 + 1 + 1 + 1, 0, none⟩)] W5 fun e w' => e = thr a m ∧ Below p W5 w') := Lib.hid HC.out
    refine HL9.out.mono ?_
    rintro e w9 ⟨he, b9⟩
    unfold thr at he
    subst he
    (try go_wp2_with fail)
    simp only [bodyPost]
    exact ⟨trivial, rfl, (HB5.out.mono (Nat.le_of_lt hlt)).trans b9⟩
  | ok y =>
    obtain ⟨yi, yr, yn, yw⟩ := y
    have HL9 : Hid (Calls Tryz.prog 54 #[.pointer (some ⟨w.heap.size, 0, none⟩), .pointer (some ⟨w.heap.size + 1 + 1 + 1, 0, none⟩), .pointer (some ⟨w.heap.size + 1 + 1 + 1 + 1, 0, none⟩)] W5 fun e w' => ∃ vw, e = .returned (.agg #[.string yn, vw]) ∧ BwP W5.heap.size w' vw yw ∧ RfB w' p w.heap.size (w.heap.size + 1 + 1) (w.heap.size + 1 + 1 + 1) (w.heap.size + 1 + 1 + 1 + 1) s yi op v yr ∧ Kr p (w.heap.size + 1 + 1) W5 w') := Lib.hid HC.out
    refine HL9.out.mono ?_
    rintro e w6 ⟨vw, rfl, bw, rf, kr⟩
    obtain ⟨ad, m, cp, rfl⟩ := own_slice3 bw.1
    have n1 : w6.heap[w.heap.size + 1]? = some (.cells #[.string ⟨#[]⟩, .slice none 0 0] 28) := (kr.kept _ (by omega) (by omega) (by omega)).trans HK1.out
    obtain ⟨s0, s1, sz⟩ := ref_cells n1
    have sz0 := sz 0
    have sz1 := sz 1
    have kS : ∀ j, j ≠ w.heap.size + 1 → ((w6.setCell ⟨w.heap.size + 1, 0, none⟩ (.string yn)).setCell ⟨w.heap.size + 1, 1, none⟩ (.slice ad m cp)).heap[j]? = w6.heap[j]? := fun j hj => by
      rw [Below.heap_setCell _ ⟨w.heap.size + 1, 1, none⟩ _ j hj, Below.heap_setCell _ ⟨w.heap.size + 1, 0, none⟩ _ j hj]
    have hfin : ((w6.setCell ⟨w.heap.size + 1, 0, none⟩ (.string yn)).setCell ⟨w.heap.size + 1, 1, none⟩ (.slice ad m cp)).heap[w.heap.size + 1]? = some (.cells #[.string yn, .slice ad m cp] 28) := by
      have := set1_heap (i := 1) (p := .slice ad m cp) (set1_heap (i := 0) (p := .string yn) n1)
      simpa using this
    have hk : KpB p w ((w6.setCell ⟨w.heap.size + 1, 0, none⟩ (.string yn)).setCell ⟨w.heap.size + 1, 1, none⟩ (.slice ad m cp)) := ⟨kr.os.trans HB5.out.os, kr.tape.trans HB5.out.tape, kr.output.trans HB5.out.output, by have := kr.size; simp; omega, fun j h1 h2 => (kS j (by omega)).trans ((kr.kept j (by omega) h2 (by omega)).trans (HB5.out.block j h1))⟩
    have hr := rf.r.same (kS p (by omega)) (fun j hj => kS j (by omega))
    have hb : BwP w.heap.size ((w6.setCell ⟨w.heap.size + 1, 0, none⟩ (.string yn)).setCell ⟨w.heap.size + 1, 1, none⟩ (.slice ad m cp)) (.slice ad m cp) yw := BwP.move (⟨own_base bw.1 (by omega), bw.2⟩ : BwP w.heap.size w6 (.slice ad m cp) yw) (fun j e => kS j (fun q => bw.off n1 (by decide) (by rw [e, q])))
    have HF := Lib.hid (And.intro hfin (And.intro hk (And.intro hr hb)))
    clear n1 sz kS hfin hk hr hb bw rf kr
    go_wp2_with fail
    exact ret_ref Tryz.results33 rfl HF.out.1 rfl ⟨_, rfl, HF.out.2.2.2, HF.out.2.2.1, HF.out.2.1⟩
end Go.Proofs.YtmkkckhfdafjnaaGreatDoor.Li
/- Layer 18: read, of arguments. -/
namespace Go.Proofs.YtmkkckhfdafjnaaGreatDoor.Li
open Go.RowKit Go.Maps Rt
theorem rcatchgI (a b c d : Addr) (w : World) : CallsD Tryz.prog 61 #[.pointer (some a), .pointer (some b), .pointer (some c), .pointer (some d)] .returning w fun e u' w' => e = .returned (.tuple #[]) ∧ u' = .returning ∧ w' = w := by
  have hnil : ∀ w : World, (binOp BinOp.eql 20 .nilIface .nilIface).run Tryz.prog w = .ok (.bool true) w := fun _ => by kernel_rfl
  refine callsD_of_wpS Tryz.func61 rfl fun c₀ cs hu => ?_
  apply wpS_seq
  apply wpS_region
  simp [wpOpsS, go_sem, recoverD, hu, Tryz.ntmps61, Exit.thenS]
  refine wpS_of_wp ?_
  simp only [Array.replicate, List.replicate, List.setIfInBounds_toArray, List.set, List.append_toArray, List.cons_append, List.nil_append]
  go_wp2_with fail
  cases c₀
  simp_all [bodyPostS, results, Tryz.results61]
set_option maxRecDepth 20000 in
set_option maxHeartbeats 4000000 in
theorem rcatchgP (N : Nat) (e x : Int) (v0 v1 v2 : Value) (older : List PanicEntry) (w : World) (h3 : w.cell? ⟨N + 3, 0, none⟩ = some (.slice none 0 0)) (h0 : w.cell? ⟨N, 0, none⟩ = some v0) (z0 : w.frozen? ⟨N, 0, none⟩ = false) (h1 : w.cell? ⟨N + 1, 0, none⟩ = some v1) (z1 : w.frozen? ⟨N + 1, 0, none⟩ = false) (h2 : w.cell? ⟨N + 2, 0, none⟩ = some v2) (z2 : w.frozen? ⟨N + 2, 0, none⟩ = false) (hN : N + 3 < w.heap.size) : CallsD Tryz.prog 61 #[.pointer (some ⟨N + 3, 0, none⟩), .pointer (some ⟨N, 0, none⟩), .pointer (some ⟨N + 1, 0, none⟩), .pointer (some ⟨N + 2, 0, none⟩)] (.panicking ({ v := .iface 115 (.agg #[.int .i64 e, .int .i64 x]), recovered := false } :: older)) w fun r u' w' => r = .returned (.tuple #[]) ∧ u' = .panicking ({ v := .iface 115 (.agg #[.int .i64 e, .int .i64 x]), recovered := true } :: older) ∧ ∃ W, Below w.heap.size w W ∧ w' = ((W.setCell ⟨N, 0, none⟩ (.slice none 0 0)).setCell ⟨N + 1, 0, none⟩ (.int .i64 x)).setCell ⟨N + 2, 0, none⟩ (.int .i64 e) := by
  have hnil : ∀ w : World, (binOp BinOp.eql 20 (.iface 115 (.agg #[.int .i64 e, .int .i64 x])) .nilIface).run Tryz.prog w = .ok (.bool false) w := fun _ => by kernel_rfl
  have hta : ∀ w : World, (Instr.typeAssert (.iface 115 (.agg #[.int .i64 e, .int .i64 x])) 20 115 true).run Tryz.prog w = .ok (.tuple #[.agg #[.int .i64 e, .int .i64 x], .bool true]) w := fun _ => by kernel_rfl
  refine callsD_of_wpS Tryz.func61 rfl fun c₀ cs hu => ?_
  apply wpS_seq
  apply wpS_region
  simp [wpOpsS, go_sem, recoverD, hu, Tryz.ntmps61, Exit.thenS]
  refine wpS_of_wp ?_
  simp only [Array.replicate, List.replicate, List.setIfInBounds_toArray, List.set, List.append_toArray, List.cons_append, List.nil_append]
  clear hu
  have n0 : ¬ (w.heap.size = N) := by omega
  have n1 : ¬ (w.heap.size = N + 1) := by omega
  have n2 : ¬ (w.heap.size = N + 2) := by omega
  have m0 : ¬ (N = w.heap.size) := by omega
  have m1 : ¬ (N + 1 = w.heap.size) := by omega
  have m2 : ¬ (N + 2 = w.heap.size) := by omega
  have HBX := Lib.hid (below_box w (.cells #[.int .i64 e, .int .i64 x] 115))
  go_wp2_with fail
  obtain ⟨A, hA⟩ : ∃ A, A = w.alloc (.cells #[.int .i64 e, .int .i64 x] 115) := ⟨_, rfl⟩
  rw [← hA] at HBX ⊢
  have hk : ∀ k, k < w.heap.size → A.heap[k]? = w.heap[k]? := fun k h => HBX.out.block k h
  have g3 : A.cell? ⟨N + 3, 0, none⟩ = some (.slice none 0 0) := (World.cell?_of_block (hk _ hN)).trans h3
  have g0 : A.cell? ⟨N, 0, none⟩ = some v0 := (World.cell?_of_block (hk N (by omega))).trans h0
  have g1 : A.cell? ⟨N + 1, 0, none⟩ = some v1 := (World.cell?_of_block (hk (N + 1) (by omega))).trans h1
  have g2 : A.cell? ⟨N + 2, 0, none⟩ = some v2 := (World.cell?_of_block (hk (N + 2) (by omega))).trans h2
  have y0 : A.frozen? ⟨N, 0, none⟩ = false := by rw [← z0]; unfold World.frozen?; dsimp only; rw [hk N (by omega)]
  have y1 : A.frozen? ⟨N + 1, 0, none⟩ = false := by rw [← z1]; unfold World.frozen?; dsimp only; rw [hk (N + 1) (by omega)]
  have y2 : A.frozen? ⟨N + 2, 0, none⟩ = false := by rw [← z2]; unfold World.frozen?; dsimp only; rw [hk (N + 2) (by omega)]
  have hx : A.heap[w.heap.size]? = some (.cells #[.int .i64 e, .int .i64 x] 115) := by rw [hA]; exact heap_alloc_new _ _
  have a0 : A.cell? ⟨w.heap.size, 0, none⟩ = some (.int .i64 e) := by unfold World.cell?; dsimp only; rw [hx]; rfl
  have a1 : A.cell? ⟨w.heap.size, 1, none⟩ = some (.int .i64 x) := by unfold World.cell?; dsimp only; rw [hx]; rfl
  clear hk hx hA h0 h1 h2 h3 z0 z1 z2
  go_region
  all_goals
    go_wp2_with fail
    cases c₀
    simp [bodyPostS, results, Tryz.results61]
    exact ⟨A.drew, HBX.out.drew, rfl⟩
/-- What the tokens from a place tell. -/
def agR (s : LTok) (a : Int) : LR (Nat × List AgR) := if 0 ≤ a ∧ a < s.n then agL s a.toNat else .bad 0 2
/-- They are told, and a place; or an error, and its token. -/
def AgV (w : World) (x : LR (Nat × List AgR)) (e : Ending) (w' : World) : Prop := match x with
  | .ok (j, A) => ∃ v, e = .returned (.tuple #[v, .int .i64 j, .int .i64 0]) ∧ AgP w.heap.size w' v A ∧ Below w.heap.size w w'
  | .bad a m => e = .returned (.tuple #[.slice none 0 0, .int .i64 a, .int .i64 m]) ∧ Below w.heap.size w w'
set_option maxRecDepth 20000 in
set_option maxHeartbeats 4000000 in
theorem readg_any (s : LTok) (a : Int) (w : World) (hl : LimP w.heap.size w) (ht : TkP w w.heap.size s) : Calls Tryz.prog 36 #[.slice s.a s.n s.c, .int .i64 a, .bool s.fx, .func (.func 37) #[] #[]] w (AgV w (agR s a)) := by
  have hmf : ∀ (fn : Fn) (first cap : Array Value) (w : World), (Instr.makeFunc fn first cap).run Tryz.prog w = .ok (.func fn first cap) w := fun _ _ _ _ => rfl
  obtain ⟨W0, hW0⟩ : ∃ W0, W0 = (((w.alloc (.cells #[.slice none 0 0] 34)).alloc (.cells #[.int .i64 0] 3)).alloc (.cells #[.int .i64 0] 23)).alloc (.cells #[.slice none 0 0] 34) := ⟨_, rfl⟩
  obtain ⟨N, hN⟩ : ∃ N, N = w.heap.size := ⟨_, rfl⟩
  have hB0 : W0.heap.size = N + 4 := by rw [hW0, hN]; simp
  have b0 : Below w.heap.size w W0 := by rw [hW0]; exact ((((Below.refl _ _).alloc (Nat.le_refl _) _).alloc (by simp) _).alloc (by simp; omega) _).alloc (by simp; omega) _
  have n3 : W0.heap[N + 3]? = some (.cells #[.slice none 0 0] 34) := by
    have e := heap_alloc_new (((w.alloc (.cells #[.slice none 0 0] 34)).alloc (.cells #[.int .i64 0] 3)).alloc (.cells #[.int .i64 0] 23)) (.cells #[.slice none 0 0] 34)
    rw [hW0, hN]; simpa using e
  have n2 : W0.heap[N + 2]? = some (.cells #[.int .i64 0] 23) := by
    have e := heap_alloc_new ((w.alloc (.cells #[.slice none 0 0] 34)).alloc (.cells #[.int .i64 0] 3)) (.cells #[.int .i64 0] 23)
    rw [hW0, hN, heap_alloc_old _ _ (by simp)]; simpa using e
  have n1 : W0.heap[N + 1]? = some (.cells #[.int .i64 0] 3) := by
    have e := heap_alloc_new (w.alloc (.cells #[.slice none 0 0] 34)) (.cells #[.int .i64 0] 3)
    rw [hW0, hN, heap_alloc_old _ _ (by simp), heap_alloc_old _ _ (by simp)]; simpa using e
  have n0 : W0.heap[N]? = some (.cells #[.slice none 0 0] 34) := by
    rw [hW0, hN, heap_alloc_old _ _ (by simp; omega), heap_alloc_old _ _ (by simp; omega), heap_alloc_old _ _ (by simp), heap_alloc_new]
  obtain ⟨Z, hZ⟩ : ∃ Z, Z = agR s a := ⟨_, rfl⟩
  rw [← hZ]
  unfold agR at hZ
  by_cases hin : 0 ≤ a ∧ a < s.n
  case neg =>
    have HZ : Hid (Z = .bad 0 2) := Lib.hid (by rw [hZ, if_neg hin])
    have hor : a < 0 ∨ (¬ a < 0 ∧ (s.n : Int) ≤ a) := by omega
    have HB0 := Lib.hid b0
    clear hZ hin n0 n1 n2 n3 hB0 b0
    rcases hor with q | ⟨q, q2⟩
    all_goals
      go_enter_defers Tryz.func36, Tryz.ntmps36
      go_wp2_with fail
      obtain ⟨WE, hWE⟩ : ∃ WE, WE = (((w.alloc (.cells #[.slice none 0 0] 34)).alloc (.cells #[.int .i64 0] 3)).alloc (.cells #[.int .i64 2] 23)).alloc (.cells #[.slice none 0 0] 34) := ⟨_, rfl⟩
      have bE : Below w.heap.size w WE := by rw [hWE]; exact ((((Below.refl _ _).alloc (Nat.le_refl _) _).alloc (by simp) _).alloc (by simp; omega) _).alloc (by simp; omega) _
      have e0 : WE.cell? ⟨w.heap.size, 0, none⟩ = some (.slice none 0 0) := by
        have e : WE.heap[w.heap.size]? = some (.cells #[.slice none 0 0] 34) := by
          rw [hWE, heap_alloc_old _ _ (by simp; omega), heap_alloc_old _ _ (by simp; omega), heap_alloc_old _ _ (by simp), heap_alloc_new]
        simp [World.cell?, e]
      have e1 : WE.cell? ⟨w.heap.size + 1, 0, none⟩ = some (.int .i64 0) := by
        have e : WE.heap[w.heap.size + 1]? = some (.cells #[.int .i64 0] 3) := by
          have e := heap_alloc_new (w.alloc (.cells #[.slice none 0 0] 34)) (.cells #[.int .i64 0] 3)
          rw [hWE, heap_alloc_old _ _ (by simp), heap_alloc_old _ _ (by simp)]; simpa using e
        simp [World.cell?, e]
      have e2 : WE.cell? ⟨w.heap.size + 1 + 1, 0, none⟩ = some (.int .i64 2) := by
        have e : WE.heap[w.heap.size + 1 + 1]? = some (.cells #[.int .i64 2] 23) := by
          have e := heap_alloc_new ((w.alloc (.cells #[.slice none 0 0] 34)).alloc (.cells #[.int .i64 0] 3)) (.cells #[.int .i64 2] 23)
          rw [hWE, heap_alloc_old _ _ (by simp)]; simpa using e
        simp [World.cell?, e]
      rw [← hWE]
      clear hWE
      rw [HZ.out]
      simp [bodyPostD, Leaves, settle, results, Tryz.results36, go_sem, e0, e1, e2]
      exact ⟨rfl, bE⟩
  case pos =>
    obtain ⟨i, rfl⟩ : ∃ i : Nat, a = i := ⟨a.toNat, by omega⟩
    have hi : i < s.n := by omega
    have q1 : ¬ ((i : Int) < 0) := by omega
    have q2 : ¬ ((s.n : Int) ≤ i) := by omega
    have HZ : Hid (Z = agL s i) := Lib.hid (by rw [hZ, if_pos hin]; rfl)
    have HL0 : Hid (LimP (N + 4) W0) := Lib.hid (by
      have e := b0.block _ hl.1
      refine ⟨by have := hl.1; omega, ?_, ?_⟩
      · rw [← hl.2.1]; unfold World.cell?; dsimp only; rw [e]
      · rw [← hl.2.2]; unfold World.cell?; dsimp only; rw [e])
    obtain ⟨W1, hW1⟩ : ∃ W1, W1 = W0.alloc (.cells #[.slice s.a s.n s.c, .int .i64 i, .bool s.fx, .int .i64 0, .slice none 0 0] 119) := ⟨_, rfl⟩
    have b1 : Below w.heap.size w W1 := by rw [hW1]; exact b0.alloc (by omega) _
    have hk1 : ∀ k, k < N + 4 → W1.heap[k]? = W0.heap[k]? := fun k hk => by rw [hW1]; exact heap_alloc_old _ _ (by omega)
    have HR1 : Hid (Rt.RdB W1 (N + 4) s i 0 (.slice none 0 0)) := Lib.hid (by
      refine ⟨by rw [hW1, ← hB0]; exact heap_alloc_new _ _, ⟨fun j hj => ?_, ht.2⟩⟩
      obtain ⟨b, off, e, h0, h1, h2, h3⟩ := ht.1 j hj
      have c : ∀ o, W1.cell? ⟨b, o, none⟩ = w.cell? ⟨b, o, none⟩ := fun o => World.cell?_of_block (b1.block b h0)
      exact ⟨b, off, e, by omega, by rw [c]; exact h1, by rw [c]; exact h2, by rw [c]; exact h3⟩)
    have HL1 : Hid (LimP (N + 4) W1) := Lib.hid (by
      have e := b1.block _ hl.1
      refine ⟨by have := hl.1; omega, ?_, ?_⟩
      · rw [← hl.2.1]; unfold World.cell?; dsimp only; rw [e]
      · rw [← hl.2.2]; unfold World.cell?; dsimp only; rw [e])
    have HNN : Hid (W1.heap[N]? = some (.cells #[.slice none 0 0] 34) ∧ W1.heap[N + 1]? = some (.cells #[.int .i64 0] 3) ∧ W1.heap[N + 2]? = some (.cells #[.int .i64 0] 23) ∧ W1.heap[N + 3]? = some (.cells #[.slice none 0 0] 34)) := Lib.hid ⟨(hk1 _ (by omega)).trans n0, (hk1 _ (by omega)).trans n1, (hk1 _ (by omega)).trans n2, (hk1 _ (by omega)).trans n3⟩
    have HLT := Lib.hid (arguments_any W1 HR1.out HL1.out (by omega))
    obtain ⟨X, hX⟩ : ∃ X, X = agL s i := ⟨_, rfl⟩
    rw [← hX] at HLT HZ
    have HB1 := Lib.hid b1
    have HN := Lib.hid hN
    rw [hN] at HLT
    clear hZ hin n0 n1 n2 n3 hB0 b0 b1 hk1 hX hN HL0 hl ht
    go_enter_defers Tryz.func36, Tryz.ntmps36
    go_wp2_with fail
    rw [← hW0, ← hW1]
    clear hW0 hW1
    cases X with
    | bad b m =>
      have HL1 : Hid (Calls Tryz.prog 37 #[.pointer (some ⟨w.heap.size + 4, 0, none⟩)] W1 fun e w' => e = thr b m ∧ Below (w.heap.size + 4) W1 w') := HLT
      refine HL1.out.mono ?_
      rintro e w3 ⟨he, b3⟩
      unfold thr at he
      subst he
      have HB3 := Lib.hid b3
      clear b3
      (try go_wp2_with fail)
      have hNn := HN.out
      have hsz : N + 4 < W1.heap.size := HR1.out.lt
      have k0 : w3.heap[w.heap.size]? = some (.cells #[.slice none 0 0] 34) := by rw [← hNn]; exact (HB3.out.block _ (by omega)).trans HNN.out.1
      have k1 : w3.heap[w.heap.size + 1]? = some (.cells #[.int .i64 0] 3) := by rw [← hNn]; exact (HB3.out.block _ (by omega)).trans HNN.out.2.1
      have k2 : w3.heap[w.heap.size + 2]? = some (.cells #[.int .i64 0] 23) := by rw [← hNn]; exact (HB3.out.block _ (by omega)).trans HNN.out.2.2.1
      have k3 : w3.heap[w.heap.size + 3]? = some (.cells #[.slice none 0 0] 34) := by rw [← hNn]; exact (HB3.out.block _ (by omega)).trans HNN.out.2.2.2
      have hs3 : w.heap.size + 4 < w3.heap.size := by have := HB3.out.size; omega
      refine leaves_cons (f := 61) (args := #[.pointer (some ⟨w.heap.size + 1 + 1 + 1, 0, none⟩), .pointer (some ⟨w.heap.size, 0, none⟩), .pointer (some ⟨w.heap.size + 1, 0, none⟩), .pointer (some ⟨w.heap.size + 1 + 1, 0, none⟩)]) (by simp) (by simp [go_sem]) ?_
      refine (rcatchgP w.heap.size m b (.slice none 0 0) (.int .i64 0) (.int .i64 0) [] w3 (by simp [World.cell?, k3]) (by simp [World.cell?, k0]) (by simp [World.frozen?, k0]) (by simp [World.cell?, k1]) (by simp [World.frozen?, k1]) (by simp [World.cell?, k2]) (by simp [World.frozen?, k2]) (by omega)).mono ?_
      rintro e u' w'' ⟨rfl, rfl, W, bW, hw⟩
      rw [HZ.out]
      have j0 : W.heap[w.heap.size]? = some (.cells #[.slice none 0 0] 34) := (bW.block _ (by omega)).trans k0
      have j1 : W.heap[w.heap.size + 1]? = some (.cells #[.int .i64 0] 3) := (bW.block _ (by omega)).trans k1
      have j2 : W.heap[w.heap.size + 2]? = some (.cells #[.int .i64 0] 23) := (bW.block _ (by omega)).trans k2
      have m0 : w''.heap[w.heap.size]? = some (.cells #[.slice none 0 0] 34) := by
        rw [hw, Below.heap_setCell _ ⟨w.heap.size + 2, 0, none⟩ _ _ (show w.heap.size ≠ w.heap.size + 2 by omega), Below.heap_setCell _ ⟨w.heap.size + 1, 0, none⟩ _ _ (show w.heap.size ≠ w.heap.size + 1 by omega)]
        simp [World.setCell, Array.getElem?_modify, j0]
      have m1 : w''.heap[w.heap.size + 1]? = some (.cells #[.int .i64 b] 3) := by
        rw [hw, Below.heap_setCell _ ⟨w.heap.size + 2, 0, none⟩ _ _ (show w.heap.size + 1 ≠ w.heap.size + 2 by omega)]
        simp [World.setCell, Array.getElem?_modify, j1]
      have m2 : w''.heap[w.heap.size + 1 + 1]? = some (.cells #[.int .i64 m] 23) := by
        have j3 : ((W.setCell ⟨w.heap.size, 0, none⟩ (.slice none 0 0)).setCell ⟨w.heap.size + 1, 0, none⟩ (.int .i64 b)).heap[w.heap.size + 2]? = some (.cells #[.int .i64 0] 23) := by
          rw [Below.heap_setCell _ ⟨w.heap.size + 1, 0, none⟩ _ _ (show w.heap.size + 2 ≠ w.heap.size + 1 by omega), Below.heap_setCell _ ⟨w.heap.size, 0, none⟩ _ _ (show w.heap.size + 2 ≠ w.heap.size by omega)]
          exact j2
        rw [hw]
        exact set1_heap j3
      have d0 : w''.cell? ⟨w.heap.size, 0, none⟩ = some (.slice none 0 0) := by simp [World.cell?, m0]
      have d1 : w''.cell? ⟨w.heap.size + 1, 0, none⟩ = some (.int .i64 b) := by simp [World.cell?, m1]
      have d2 : w''.cell? ⟨w.heap.size + 1 + 1, 0, none⟩ = some (.int .i64 m) := by simp [World.cell?, m2]
      have bw : Below w.heap.size w w'' := by
        rw [hw]
        exact ((((HB1.out.trans (HB3.out.mono (by omega))).trans (bW.mono (by omega))).setCell (by simp) _).setCell (by simp) _).setCell (by simp) _
      clear hw
      simp [Leaves, settle, results, Tryz.results36, go_sem, d0, d1, d2]
      exact ⟨rfl, bw⟩
    | ok y =>
      obtain ⟨j, M⟩ := y
      have HL1 : Hid (Calls Tryz.prog 37 #[.pointer (some ⟨w.heap.size + 4, 0, none⟩)] W1 fun e w' => ∃ va op' v', e = .returned va ∧ AgP W1.heap.size w' va M ∧ Rt.RdB w' (w.heap.size + 4) s j op' v' ∧ KpB (w.heap.size + 4) W1 w') := HLT
      refine HL1.out.mono ?_
      rintro e w3 ⟨va, op3, u3, rfl, a3, r3, f3⟩
      have HR3 := Lib.hid a3
      have HB3 := Lib.hid (f3.below (Nat.le_of_lt (HN.out ▸ HR1.out.lt)))
      obtain ⟨ad, m, cap, rfl⟩ : ∃ ad m cap, va = .slice ad m cap := by
        obtain ⟨_, q3, _⟩ := a3
        exact own_slice3 q3
      have hNn := HN.out
      have hsz : N + 4 < W1.heap.size := HR1.out.lt
      have k0 : w3.heap[w.heap.size]? = some (.cells #[.slice none 0 0] 34) := by rw [← hNn]; exact (HB3.out.block _ (by omega)).trans HNN.out.1
      have k1 : w3.heap[w.heap.size + 1]? = some (.cells #[.int .i64 0] 3) := by rw [← hNn]; exact (HB3.out.block _ (by omega)).trans HNN.out.2.1
      have k2 : w3.heap[w.heap.size + 2]? = some (.cells #[.int .i64 0] 23) := by rw [← hNn]; exact (HB3.out.block _ (by omega)).trans HNN.out.2.2.1
      have x0 : w3.cell? ⟨w.heap.size, 0, none⟩ = some (.slice none 0 0) := by simp [World.cell?, k0]
      have y0 : w3.frozen? ⟨w.heap.size, 0, none⟩ = false := by simp [World.frozen?, k0]
      have x1 : w3.cell? ⟨w.heap.size + 1, 0, none⟩ = some (.int .i64 0) := by simp [World.cell?, k1]
      have y1 : w3.frozen? ⟨w.heap.size + 1, 0, none⟩ = false := by simp [World.frozen?, k1]
      have x2 : w3.cell? ⟨w.heap.size + 1 + 1, 0, none⟩ = some (.int .i64 0) := by simp [World.cell?, k2]
      have y2 : w3.frozen? ⟨w.heap.size + 1 + 1, 0, none⟩ = false := by simp [World.frozen?, k2]
      have x4 : w3.cell? ⟨w.heap.size + 1 + 1 + 1 + 1, 1, none⟩ = some (.int .i64 j) := r3.c1
      have HK := Lib.hid (And.intro k0 (And.intro k1 k2))
      clear r3 f3 a3 hNn k0 k1 k2
      go_wp2_with fail
      go_region
      all_goals
        go_wp2_with fail
        obtain ⟨V, hV⟩ : ∃ V, V = Value.slice ad m cap := ⟨_, rfl⟩
        rw [← hV]
        obtain ⟨Wf, hWf⟩ : ∃ Wf, Wf = ((((w3.setCell ⟨w.heap.size, 0, none⟩ V).setCell ⟨w.heap.size, 0, none⟩ V).setCell ⟨w.heap.size + 1, 0, none⟩ (.int .i64 j)).setCell ⟨w.heap.size + 1 + 1, 0, none⟩ (.int .i64 0)).drew := ⟨_, rfl⟩
        have hkeep : ∀ k, k ≠ w.heap.size → k ≠ w.heap.size + 1 → k ≠ w.heap.size + 1 + 1 → Wf.heap[k]? = w3.heap[k]? := fun k h1 h2 h3 => by
          rw [hWf]
          show ((((w3.setCell ⟨w.heap.size, 0, none⟩ V).setCell ⟨w.heap.size, 0, none⟩ V).setCell ⟨w.heap.size + 1, 0, none⟩ (.int .i64 j)).setCell ⟨w.heap.size + 1 + 1, 0, none⟩ (.int .i64 0)).heap[k]? = _
          rw [Below.heap_setCell _ ⟨w.heap.size + 1 + 1, 0, none⟩ _ _ h3, Below.heap_setCell _ ⟨w.heap.size + 1, 0, none⟩ _ _ h2, Below.heap_setCell _ ⟨w.heap.size, 0, none⟩ _ _ h1, Below.heap_setCell _ ⟨w.heap.size, 0, none⟩ _ _ h1]
        have m0 : Wf.heap[w.heap.size]? = some (.cells #[V] 34) := by
          rw [hWf]
          show ((((w3.setCell ⟨w.heap.size, 0, none⟩ V).setCell ⟨w.heap.size, 0, none⟩ V).setCell ⟨w.heap.size + 1, 0, none⟩ (.int .i64 j)).setCell ⟨w.heap.size + 1 + 1, 0, none⟩ (.int .i64 0)).heap[w.heap.size]? = _
          rw [Below.heap_setCell _ ⟨w.heap.size + 1 + 1, 0, none⟩ _ _ (show w.heap.size ≠ w.heap.size + 1 + 1 by omega), Below.heap_setCell _ ⟨w.heap.size + 1, 0, none⟩ _ _ (show w.heap.size ≠ w.heap.size + 1 by omega)]
          exact set1_heap (set1_heap HK.out.1)
        have m1 : Wf.heap[w.heap.size + 1]? = some (.cells #[.int .i64 j] 3) := by
          rw [hWf]
          show ((((w3.setCell ⟨w.heap.size, 0, none⟩ V).setCell ⟨w.heap.size, 0, none⟩ V).setCell ⟨w.heap.size + 1, 0, none⟩ (.int .i64 j)).setCell ⟨w.heap.size + 1 + 1, 0, none⟩ (.int .i64 0)).heap[w.heap.size + 1]? = _
          rw [Below.heap_setCell _ ⟨w.heap.size + 1 + 1, 0, none⟩ _ _ (show w.heap.size + 1 ≠ w.heap.size + 1 + 1 by omega)]
          refine set1_heap (cs := #[.int .i64 0]) ?_
          rw [Below.heap_setCell _ ⟨w.heap.size, 0, none⟩ _ _ (show w.heap.size + 1 ≠ w.heap.size by omega), Below.heap_setCell _ ⟨w.heap.size, 0, none⟩ _ _ (show w.heap.size + 1 ≠ w.heap.size by omega)]
          exact HK.out.2.1
        have m2 : Wf.heap[w.heap.size + 1 + 1]? = some (.cells #[.int .i64 0] 23) := by
          rw [hWf]
          show ((((w3.setCell ⟨w.heap.size, 0, none⟩ V).setCell ⟨w.heap.size, 0, none⟩ V).setCell ⟨w.heap.size + 1, 0, none⟩ (.int .i64 j)).setCell ⟨w.heap.size + 1 + 1, 0, none⟩ (.int .i64 0)).heap[w.heap.size + 1 + 1]? = _
          refine set1_heap (cs := #[.int .i64 0]) ?_
          rw [Below.heap_setCell _ ⟨w.heap.size + 1, 0, none⟩ _ _ (show w.heap.size + 1 + 1 ≠ w.heap.size + 1 by omega), Below.heap_setCell _ ⟨w.heap.size, 0, none⟩ _ _ (show w.heap.size + 1 + 1 ≠ w.heap.size by omega), Below.heap_setCell _ ⟨w.heap.size, 0, none⟩ _ _ (show w.heap.size + 1 + 1 ≠ w.heap.size by omega)]
          exact HK.out.2.2
        have bw : Below w.heap.size w Wf := by
          rw [hWf]
          exact (((((HB1.out.trans (HB3.out.mono (by omega))).setCell (by simp) _).setCell (by simp) _).setCell (by simp) _).setCell (by simp; omega) _).drew
        have hrow : AgP w.heap.size Wf V M := by
          rw [hV]
          have hNn2 := HN.out
          exact (AgP.mv (by decide) (by decide) HR3.out (Mv.of_all (T := 28) fun k h1 _ => hkeep k (by omega) (by omega) (by omega))).raise (by omega)
        have d0 : Wf.cell? ⟨w.heap.size, 0, none⟩ = some V := by simp [World.cell?, m0]
        have d1 : Wf.cell? ⟨w.heap.size + 1, 0, none⟩ = some (.int .i64 j) := by simp [World.cell?, m1]
        have d2 : Wf.cell? ⟨w.heap.size + 1 + 1, 0, none⟩ = some (.int .i64 0) := by simp [World.cell?, m2]
        rw [← hWf]
        clear hWf hkeep m0 m1 m2
        refine leaves_cons (f := 61) (args := #[.pointer (some ⟨w.heap.size + 1 + 1 + 1, 0, none⟩), .pointer (some ⟨w.heap.size, 0, none⟩), .pointer (some ⟨w.heap.size + 1, 0, none⟩), .pointer (some ⟨w.heap.size + 1 + 1, 0, none⟩)]) (by simp) (by simp [go_sem]) ?_
        refine (rcatchgI _ _ _ _ Wf).mono ?_
        rintro e u' w'' ⟨rfl, rfl, rfl⟩
        rw [HZ.out]
        simp [Leaves, settle, results, Tryz.results36, go_sem, d0, d1, d2]
        exact ⟨_, rfl, hrow, bw⟩
theorem litArguments_any (s : LTok) (a : Int) (w : World) (hl : LimP w.heap.size w) (ht : TkP w w.heap.size s) : Calls Tryz.prog 9 #[.slice s.a s.n s.c, .int .i64 a, .bool s.fx] w (AgV w (agR s a)) := by
  have H := readg_any s a w hl ht
  obtain ⟨X, hX⟩ : ∃ X, X = agR s a := ⟨_, rfl⟩
  rw [← hX] at H
  rw [← hX]
  clear hX
  go_enter Tryz.func9, Tryz.ntmps9
  go_wp2_with fail
  cases X with
  | bad b m =>
    refine H.mono ?_
    rintro e w' ⟨rfl, bw⟩
    go_wp2_with fail
    go_ret3
    exact ⟨rfl, bw⟩
  | ok y =>
    obtain ⟨j, M⟩ := y
    refine H.mono ?_
    rintro e w' ⟨v, rfl, ho, bw⟩
    go_wp2_with fail
    go_ret3
    exact ⟨v, rfl, ho, bw⟩
end Go.Proofs.YtmkkckhfdafjnaaGreatDoor.Li
/- Layer 18: read, of directives. -/
namespace Go.Proofs.YtmkkckhfdafjnaaGreatDoor.Li
open Go.RowKit Go.Maps Rt
theorem rcatchdI (a b c d : Addr) (w : World) : CallsD Tryz.prog 59 #[.pointer (some a), .pointer (some b), .pointer (some c), .pointer (some d)] .returning w fun e u' w' => e = .returned (.tuple #[]) ∧ u' = .returning ∧ w' = w := by
  have hnil : ∀ w : World, (binOp BinOp.eql 20 .nilIface .nilIface).run Tryz.prog w = .ok (.bool true) w := fun _ => by kernel_rfl
  refine callsD_of_wpS Tryz.func59 rfl fun c₀ cs hu => ?_
  apply wpS_seq
  apply wpS_region
  simp [wpOpsS, go_sem, recoverD, hu, Tryz.ntmps59, Exit.thenS]
  refine wpS_of_wp ?_
  simp only [Array.replicate, List.replicate, List.setIfInBounds_toArray, List.set, List.append_toArray, List.cons_append, List.nil_append]
  go_wp2_with fail
  cases c₀
  simp_all [bodyPostS, results, Tryz.results59]
set_option maxRecDepth 20000 in
set_option maxHeartbeats 4000000 in
theorem rcatchdP (N : Nat) (e x : Int) (v0 v1 v2 : Value) (older : List PanicEntry) (w : World) (h3 : w.cell? ⟨N + 3, 0, none⟩ = some (.slice none 0 0)) (h0 : w.cell? ⟨N, 0, none⟩ = some v0) (z0 : w.frozen? ⟨N, 0, none⟩ = false) (h1 : w.cell? ⟨N + 1, 0, none⟩ = some v1) (z1 : w.frozen? ⟨N + 1, 0, none⟩ = false) (h2 : w.cell? ⟨N + 2, 0, none⟩ = some v2) (z2 : w.frozen? ⟨N + 2, 0, none⟩ = false) (hN : N + 3 < w.heap.size) : CallsD Tryz.prog 59 #[.pointer (some ⟨N + 3, 0, none⟩), .pointer (some ⟨N, 0, none⟩), .pointer (some ⟨N + 1, 0, none⟩), .pointer (some ⟨N + 2, 0, none⟩)] (.panicking ({ v := .iface 115 (.agg #[.int .i64 e, .int .i64 x]), recovered := false } :: older)) w fun r u' w' => r = .returned (.tuple #[]) ∧ u' = .panicking ({ v := .iface 115 (.agg #[.int .i64 e, .int .i64 x]), recovered := true } :: older) ∧ ∃ W, Below w.heap.size w W ∧ w' = ((W.setCell ⟨N, 0, none⟩ (.slice none 0 0)).setCell ⟨N + 1, 0, none⟩ (.int .i64 x)).setCell ⟨N + 2, 0, none⟩ (.int .i64 e) := by
  have hnil : ∀ w : World, (binOp BinOp.eql 20 (.iface 115 (.agg #[.int .i64 e, .int .i64 x])) .nilIface).run Tryz.prog w = .ok (.bool false) w := fun _ => by kernel_rfl
  have hta : ∀ w : World, (Instr.typeAssert (.iface 115 (.agg #[.int .i64 e, .int .i64 x])) 20 115 true).run Tryz.prog w = .ok (.tuple #[.agg #[.int .i64 e, .int .i64 x], .bool true]) w := fun _ => by kernel_rfl
  refine callsD_of_wpS Tryz.func59 rfl fun c₀ cs hu => ?_
  apply wpS_seq
  apply wpS_region
  simp [wpOpsS, go_sem, recoverD, hu, Tryz.ntmps59, Exit.thenS]
  refine wpS_of_wp ?_
  simp only [Array.replicate, List.replicate, List.setIfInBounds_toArray, List.set, List.append_toArray, List.cons_append, List.nil_append]
  clear hu
  have n0 : ¬ (w.heap.size = N) := by omega
  have n1 : ¬ (w.heap.size = N + 1) := by omega
  have n2 : ¬ (w.heap.size = N + 2) := by omega
  have m0 : ¬ (N = w.heap.size) := by omega
  have m1 : ¬ (N + 1 = w.heap.size) := by omega
  have m2 : ¬ (N + 2 = w.heap.size) := by omega
  have HBX := Lib.hid (below_box w (.cells #[.int .i64 e, .int .i64 x] 115))
  go_wp2_with fail
  obtain ⟨A, hA⟩ : ∃ A, A = w.alloc (.cells #[.int .i64 e, .int .i64 x] 115) := ⟨_, rfl⟩
  rw [← hA] at HBX ⊢
  have hk : ∀ k, k < w.heap.size → A.heap[k]? = w.heap[k]? := fun k h => HBX.out.block k h
  have g3 : A.cell? ⟨N + 3, 0, none⟩ = some (.slice none 0 0) := (World.cell?_of_block (hk _ hN)).trans h3
  have g0 : A.cell? ⟨N, 0, none⟩ = some v0 := (World.cell?_of_block (hk N (by omega))).trans h0
  have g1 : A.cell? ⟨N + 1, 0, none⟩ = some v1 := (World.cell?_of_block (hk (N + 1) (by omega))).trans h1
  have g2 : A.cell? ⟨N + 2, 0, none⟩ = some v2 := (World.cell?_of_block (hk (N + 2) (by omega))).trans h2
  have y0 : A.frozen? ⟨N, 0, none⟩ = false := by rw [← z0]; unfold World.frozen?; dsimp only; rw [hk N (by omega)]
  have y1 : A.frozen? ⟨N + 1, 0, none⟩ = false := by rw [← z1]; unfold World.frozen?; dsimp only; rw [hk (N + 1) (by omega)]
  have y2 : A.frozen? ⟨N + 2, 0, none⟩ = false := by rw [← z2]; unfold World.frozen?; dsimp only; rw [hk (N + 2) (by omega)]
  have hx : A.heap[w.heap.size]? = some (.cells #[.int .i64 e, .int .i64 x] 115) := by rw [hA]; exact heap_alloc_new _ _
  have a0 : A.cell? ⟨w.heap.size, 0, none⟩ = some (.int .i64 e) := by unfold World.cell?; dsimp only; rw [hx]; rfl
  have a1 : A.cell? ⟨w.heap.size, 1, none⟩ = some (.int .i64 x) := by unfold World.cell?; dsimp only; rw [hx]; rfl
  clear hk hx hA h0 h1 h2 h3 z0 z1 z2
  go_region
  all_goals
    go_wp2_with fail
    cases c₀
    simp [bodyPostS, results, Tryz.results59]
    exact ⟨A.drew, HBX.out.drew, rfl⟩
theorem DrP.raise {B B' : Nat} {w : World} {v : Value} {D : List DrR} (h : DrP B w v D) (hB : B' ≤ B) : DrP B' w v D := by
  obtain ⟨X, h1, h2, h3⟩ := h
  exact ⟨X, own_base h1 hB, h2, fun k n a e => (h3 k n a e).imp fun u ⟨q1, q2⟩ => ⟨q1, q2.raise hB⟩⟩
/-- What the tokens from a place tell. -/
def drR (s : LTok) (a : Int) : LR (Nat × List DrR) := if 0 ≤ a ∧ a < s.n then drL s a.toNat else .bad 0 2
/-- They are told, and a place; or an error, and its token. -/
def DrV (w : World) (x : LR (Nat × List DrR)) (e : Ending) (w' : World) : Prop := match x with
  | .ok (j, A) => ∃ v, e = .returned (.tuple #[v, .int .i64 j, .int .i64 0]) ∧ DrP w.heap.size w' v A ∧ Below w.heap.size w w'
  | .bad a m => e = .returned (.tuple #[.slice none 0 0, .int .i64 a, .int .i64 m]) ∧ Below w.heap.size w w'
set_option maxRecDepth 20000 in
set_option maxHeartbeats 4000000 in
theorem readd_any (s : LTok) (a : Int) (w : World) (hl : LimP w.heap.size w) (ht : TkP w w.heap.size s) : Calls Tryz.prog 34 #[.slice s.a s.n s.c, .int .i64 a, .bool s.fx, .func (.func 35) #[] #[]] w (DrV w (drR s a)) := by
  have hmf : ∀ (fn : Fn) (first cap : Array Value) (w : World), (Instr.makeFunc fn first cap).run Tryz.prog w = .ok (.func fn first cap) w := fun _ _ _ _ => rfl
  obtain ⟨W0, hW0⟩ : ∃ W0, W0 = (((w.alloc (.cells #[.slice none 0 0] 31)).alloc (.cells #[.int .i64 0] 3)).alloc (.cells #[.int .i64 0] 23)).alloc (.cells #[.slice none 0 0] 31) := ⟨_, rfl⟩
  obtain ⟨N, hN⟩ : ∃ N, N = w.heap.size := ⟨_, rfl⟩
  have hB0 : W0.heap.size = N + 4 := by rw [hW0, hN]; simp
  have b0 : Below w.heap.size w W0 := by rw [hW0]; exact ((((Below.refl _ _).alloc (Nat.le_refl _) _).alloc (by simp) _).alloc (by simp; omega) _).alloc (by simp; omega) _
  have n3 : W0.heap[N + 3]? = some (.cells #[.slice none 0 0] 31) := by
    have e := heap_alloc_new (((w.alloc (.cells #[.slice none 0 0] 31)).alloc (.cells #[.int .i64 0] 3)).alloc (.cells #[.int .i64 0] 23)) (.cells #[.slice none 0 0] 31)
    rw [hW0, hN]; simpa using e
  have n2 : W0.heap[N + 2]? = some (.cells #[.int .i64 0] 23) := by
    have e := heap_alloc_new ((w.alloc (.cells #[.slice none 0 0] 31)).alloc (.cells #[.int .i64 0] 3)) (.cells #[.int .i64 0] 23)
    rw [hW0, hN, heap_alloc_old _ _ (by simp)]; simpa using e
  have n1 : W0.heap[N + 1]? = some (.cells #[.int .i64 0] 3) := by
    have e := heap_alloc_new (w.alloc (.cells #[.slice none 0 0] 31)) (.cells #[.int .i64 0] 3)
    rw [hW0, hN, heap_alloc_old _ _ (by simp), heap_alloc_old _ _ (by simp)]; simpa using e
  have n0 : W0.heap[N]? = some (.cells #[.slice none 0 0] 31) := by
    rw [hW0, hN, heap_alloc_old _ _ (by simp; omega), heap_alloc_old _ _ (by simp; omega), heap_alloc_old _ _ (by simp), heap_alloc_new]
  obtain ⟨Z, hZ⟩ : ∃ Z, Z = drR s a := ⟨_, rfl⟩
  rw [← hZ]
  unfold drR at hZ
  by_cases hin : 0 ≤ a ∧ a < s.n
  case neg =>
    have HZ : Hid (Z = .bad 0 2) := Lib.hid (by rw [hZ, if_neg hin])
    have hor : a < 0 ∨ (¬ a < 0 ∧ (s.n : Int) ≤ a) := by omega
    have HB0 := Lib.hid b0
    clear hZ hin n0 n1 n2 n3 hB0 b0
    rcases hor with q | ⟨q, q2⟩
    all_goals
      go_enter_defers Tryz.func34, Tryz.ntmps34
      go_wp2_with fail
      obtain ⟨WE, hWE⟩ : ∃ WE, WE = (((w.alloc (.cells #[.slice none 0 0] 31)).alloc (.cells #[.int .i64 0] 3)).alloc (.cells #[.int .i64 2] 23)).alloc (.cells #[.slice none 0 0] 31) := ⟨_, rfl⟩
      have bE : Below w.heap.size w WE := by rw [hWE]; exact ((((Below.refl _ _).alloc (Nat.le_refl _) _).alloc (by simp) _).alloc (by simp; omega) _).alloc (by simp; omega) _
      have e0 : WE.cell? ⟨w.heap.size, 0, none⟩ = some (.slice none 0 0) := by
        have e : WE.heap[w.heap.size]? = some (.cells #[.slice none 0 0] 31) := by
          rw [hWE, heap_alloc_old _ _ (by simp; omega), heap_alloc_old _ _ (by simp; omega), heap_alloc_old _ _ (by simp), heap_alloc_new]
        simp [World.cell?, e]
      have e1 : WE.cell? ⟨w.heap.size + 1, 0, none⟩ = some (.int .i64 0) := by
        have e : WE.heap[w.heap.size + 1]? = some (.cells #[.int .i64 0] 3) := by
          have e := heap_alloc_new (w.alloc (.cells #[.slice none 0 0] 31)) (.cells #[.int .i64 0] 3)
          rw [hWE, heap_alloc_old _ _ (by simp), heap_alloc_old _ _ (by simp)]; simpa using e
        simp [World.cell?, e]
      have e2 : WE.cell? ⟨w.heap.size + 1 + 1, 0, none⟩ = some (.int .i64 2) := by
        have e : WE.heap[w.heap.size + 1 + 1]? = some (.cells #[.int .i64 2] 23) := by
          have e := heap_alloc_new ((w.alloc (.cells #[.slice none 0 0] 31)).alloc (.cells #[.int .i64 0] 3)) (.cells #[.int .i64 2] 23)
          rw [hWE, heap_alloc_old _ _ (by simp)]; simpa using e
        simp [World.cell?, e]
      rw [← hWE]
      clear hWE
      rw [HZ.out]
      simp [bodyPostD, Leaves, settle, results, Tryz.results34, go_sem, e0, e1, e2]
      exact ⟨rfl, bE⟩
  case pos =>
    obtain ⟨i, rfl⟩ : ∃ i : Nat, a = i := ⟨a.toNat, by omega⟩
    have hi : i < s.n := by omega
    have q1 : ¬ ((i : Int) < 0) := by omega
    have q2 : ¬ ((s.n : Int) ≤ i) := by omega
    have HZ : Hid (Z = drL s i) := Lib.hid (by rw [hZ, if_pos hin]; rfl)
    have HL0 : Hid (LimP (N + 4) W0) := Lib.hid (by
      have e := b0.block _ hl.1
      refine ⟨by have := hl.1; omega, ?_, ?_⟩
      · rw [← hl.2.1]; unfold World.cell?; dsimp only; rw [e]
      · rw [← hl.2.2]; unfold World.cell?; dsimp only; rw [e])
    obtain ⟨W1, hW1⟩ : ∃ W1, W1 = W0.alloc (.cells #[.slice s.a s.n s.c, .int .i64 i, .bool s.fx, .int .i64 0, .slice none 0 0] 119) := ⟨_, rfl⟩
    have b1 : Below w.heap.size w W1 := by rw [hW1]; exact b0.alloc (by omega) _
    have hk1 : ∀ k, k < N + 4 → W1.heap[k]? = W0.heap[k]? := fun k hk => by rw [hW1]; exact heap_alloc_old _ _ (by omega)
    have HR1 : Hid (Rt.RdB W1 (N + 4) s i 0 (.slice none 0 0)) := Lib.hid (by
      refine ⟨by rw [hW1, ← hB0]; exact heap_alloc_new _ _, ⟨fun j hj => ?_, ht.2⟩⟩
      obtain ⟨b, off, e, h0, h1, h2, h3⟩ := ht.1 j hj
      have c : ∀ o, W1.cell? ⟨b, o, none⟩ = w.cell? ⟨b, o, none⟩ := fun o => World.cell?_of_block (b1.block b h0)
      exact ⟨b, off, e, by omega, by rw [c]; exact h1, by rw [c]; exact h2, by rw [c]; exact h3⟩)
    have HL1 : Hid (LimP (N + 4) W1) := Lib.hid (by
      have e := b1.block _ hl.1
      refine ⟨by have := hl.1; omega, ?_, ?_⟩
      · rw [← hl.2.1]; unfold World.cell?; dsimp only; rw [e]
      · rw [← hl.2.2]; unfold World.cell?; dsimp only; rw [e])
    have HNN : Hid (W1.heap[N]? = some (.cells #[.slice none 0 0] 31) ∧ W1.heap[N + 1]? = some (.cells #[.int .i64 0] 3) ∧ W1.heap[N + 2]? = some (.cells #[.int .i64 0] 23) ∧ W1.heap[N + 3]? = some (.cells #[.slice none 0 0] 31)) := Lib.hid ⟨(hk1 _ (by omega)).trans n0, (hk1 _ (by omega)).trans n1, (hk1 _ (by omega)).trans n2, (hk1 _ (by omega)).trans n3⟩
    have HLT := Lib.hid (directives_any W1 HR1.out HL1.out (by omega))
    obtain ⟨X, hX⟩ : ∃ X, X = drL s i := ⟨_, rfl⟩
    rw [← hX] at HLT HZ
    have HB1 := Lib.hid b1
    have HN := Lib.hid hN
    rw [hN] at HLT
    clear hZ hin n0 n1 n2 n3 hB0 b0 b1 hk1 hX hN HL0 hl ht
    go_enter_defers Tryz.func34, Tryz.ntmps34
    go_wp2_with fail
    rw [← hW0, ← hW1]
    clear hW0 hW1
    cases X with
    | bad b m =>
      have HL1 : Hid (Calls Tryz.prog 35 #[.pointer (some ⟨w.heap.size + 4, 0, none⟩)] W1 fun e w' => e = thr b m ∧ Below (w.heap.size + 4) W1 w') := HLT
      refine HL1.out.mono ?_
      rintro e w3 ⟨he, b3⟩
      unfold thr at he
      subst he
      have HB3 := Lib.hid b3
      clear b3
      (try go_wp2_with fail)
      have hNn := HN.out
      have hsz : N + 4 < W1.heap.size := HR1.out.lt
      have k0 : w3.heap[w.heap.size]? = some (.cells #[.slice none 0 0] 31) := by rw [← hNn]; exact (HB3.out.block _ (by omega)).trans HNN.out.1
      have k1 : w3.heap[w.heap.size + 1]? = some (.cells #[.int .i64 0] 3) := by rw [← hNn]; exact (HB3.out.block _ (by omega)).trans HNN.out.2.1
      have k2 : w3.heap[w.heap.size + 2]? = some (.cells #[.int .i64 0] 23) := by rw [← hNn]; exact (HB3.out.block _ (by omega)).trans HNN.out.2.2.1
      have k3 : w3.heap[w.heap.size + 3]? = some (.cells #[.slice none 0 0] 31) := by rw [← hNn]; exact (HB3.out.block _ (by omega)).trans HNN.out.2.2.2
      have hs3 : w.heap.size + 4 < w3.heap.size := by have := HB3.out.size; omega
      refine leaves_cons (f := 59) (args := #[.pointer (some ⟨w.heap.size + 1 + 1 + 1, 0, none⟩), .pointer (some ⟨w.heap.size, 0, none⟩), .pointer (some ⟨w.heap.size + 1, 0, none⟩), .pointer (some ⟨w.heap.size + 1 + 1, 0, none⟩)]) (by simp) (by simp [go_sem]) ?_
      refine (rcatchdP w.heap.size m b (.slice none 0 0) (.int .i64 0) (.int .i64 0) [] w3 (by simp [World.cell?, k3]) (by simp [World.cell?, k0]) (by simp [World.frozen?, k0]) (by simp [World.cell?, k1]) (by simp [World.frozen?, k1]) (by simp [World.cell?, k2]) (by simp [World.frozen?, k2]) (by omega)).mono ?_
      rintro e u' w'' ⟨rfl, rfl, W, bW, hw⟩
      rw [HZ.out]
      have j0 : W.heap[w.heap.size]? = some (.cells #[.slice none 0 0] 31) := (bW.block _ (by omega)).trans k0
      have j1 : W.heap[w.heap.size + 1]? = some (.cells #[.int .i64 0] 3) := (bW.block _ (by omega)).trans k1
      have j2 : W.heap[w.heap.size + 2]? = some (.cells #[.int .i64 0] 23) := (bW.block _ (by omega)).trans k2
      have m0 : w''.heap[w.heap.size]? = some (.cells #[.slice none 0 0] 31) := by
        rw [hw, Below.heap_setCell _ ⟨w.heap.size + 2, 0, none⟩ _ _ (show w.heap.size ≠ w.heap.size + 2 by omega), Below.heap_setCell _ ⟨w.heap.size + 1, 0, none⟩ _ _ (show w.heap.size ≠ w.heap.size + 1 by omega)]
        simp [World.setCell, Array.getElem?_modify, j0]
      have m1 : w''.heap[w.heap.size + 1]? = some (.cells #[.int .i64 b] 3) := by
        rw [hw, Below.heap_setCell _ ⟨w.heap.size + 2, 0, none⟩ _ _ (show w.heap.size + 1 ≠ w.heap.size + 2 by omega)]
        simp [World.setCell, Array.getElem?_modify, j1]
      have m2 : w''.heap[w.heap.size + 1 + 1]? = some (.cells #[.int .i64 m] 23) := by
        have j3 : ((W.setCell ⟨w.heap.size, 0, none⟩ (.slice none 0 0)).setCell ⟨w.heap.size + 1, 0, none⟩ (.int .i64 b)).heap[w.heap.size + 2]? = some (.cells #[.int .i64 0] 23) := by
          rw [Below.heap_setCell _ ⟨w.heap.size + 1, 0, none⟩ _ _ (show w.heap.size + 2 ≠ w.heap.size + 1 by omega), Below.heap_setCell _ ⟨w.heap.size, 0, none⟩ _ _ (show w.heap.size + 2 ≠ w.heap.size by omega)]
          exact j2
        rw [hw]
        exact set1_heap j3
      have d0 : w''.cell? ⟨w.heap.size, 0, none⟩ = some (.slice none 0 0) := by simp [World.cell?, m0]
      have d1 : w''.cell? ⟨w.heap.size + 1, 0, none⟩ = some (.int .i64 b) := by simp [World.cell?, m1]
      have d2 : w''.cell? ⟨w.heap.size + 1 + 1, 0, none⟩ = some (.int .i64 m) := by simp [World.cell?, m2]
      have bw : Below w.heap.size w w'' := by
        rw [hw]
        exact ((((HB1.out.trans (HB3.out.mono (by omega))).trans (bW.mono (by omega))).setCell (by simp) _).setCell (by simp) _).setCell (by simp) _
      clear hw
      simp [Leaves, settle, results, Tryz.results34, go_sem, d0, d1, d2]
      exact ⟨rfl, bw⟩
    | ok y =>
      obtain ⟨j, M⟩ := y
      have HL1 : Hid (Calls Tryz.prog 35 #[.pointer (some ⟨w.heap.size + 4, 0, none⟩)] W1 fun e w' => ∃ va op' v', e = .returned va ∧ DrP W1.heap.size w' va M ∧ Rt.RdB w' (w.heap.size + 4) s j op' v' ∧ KpB (w.heap.size + 4) W1 w') := HLT
      refine HL1.out.mono ?_
      rintro e w3 ⟨va, op3, u3, rfl, a3, r3, f3⟩
      have HR3 := Lib.hid a3
      have HB3 := Lib.hid (f3.below (Nat.le_of_lt (HN.out ▸ HR1.out.lt)))
      obtain ⟨ad, m, cap, rfl⟩ : ∃ ad m cap, va = .slice ad m cap := by
        obtain ⟨_, q3, _⟩ := a3
        exact own_slice3 q3
      have hNn := HN.out
      have hsz : N + 4 < W1.heap.size := HR1.out.lt
      have k0 : w3.heap[w.heap.size]? = some (.cells #[.slice none 0 0] 31) := by rw [← hNn]; exact (HB3.out.block _ (by omega)).trans HNN.out.1
      have k1 : w3.heap[w.heap.size + 1]? = some (.cells #[.int .i64 0] 3) := by rw [← hNn]; exact (HB3.out.block _ (by omega)).trans HNN.out.2.1
      have k2 : w3.heap[w.heap.size + 2]? = some (.cells #[.int .i64 0] 23) := by rw [← hNn]; exact (HB3.out.block _ (by omega)).trans HNN.out.2.2.1
      have x0 : w3.cell? ⟨w.heap.size, 0, none⟩ = some (.slice none 0 0) := by simp [World.cell?, k0]
      have y0 : w3.frozen? ⟨w.heap.size, 0, none⟩ = false := by simp [World.frozen?, k0]
      have x1 : w3.cell? ⟨w.heap.size + 1, 0, none⟩ = some (.int .i64 0) := by simp [World.cell?, k1]
      have y1 : w3.frozen? ⟨w.heap.size + 1, 0, none⟩ = false := by simp [World.frozen?, k1]
      have x2 : w3.cell? ⟨w.heap.size + 1 + 1, 0, none⟩ = some (.int .i64 0) := by simp [World.cell?, k2]
      have y2 : w3.frozen? ⟨w.heap.size + 1 + 1, 0, none⟩ = false := by simp [World.frozen?, k2]
      have x4 : w3.cell? ⟨w.heap.size + 1 + 1 + 1 + 1, 1, none⟩ = some (.int .i64 j) := r3.c1
      have HK := Lib.hid (And.intro k0 (And.intro k1 k2))
      clear r3 f3 a3 hNn k0 k1 k2
      go_wp2_with fail
      go_region
      all_goals
        go_wp2_with fail
        obtain ⟨V, hV⟩ : ∃ V, V = Value.slice ad m cap := ⟨_, rfl⟩
        rw [← hV]
        obtain ⟨Wf, hWf⟩ : ∃ Wf, Wf = ((((w3.setCell ⟨w.heap.size, 0, none⟩ V).setCell ⟨w.heap.size, 0, none⟩ V).setCell ⟨w.heap.size + 1, 0, none⟩ (.int .i64 j)).setCell ⟨w.heap.size + 1 + 1, 0, none⟩ (.int .i64 0)).drew := ⟨_, rfl⟩
        have hkeep : ∀ k, k ≠ w.heap.size → k ≠ w.heap.size + 1 → k ≠ w.heap.size + 1 + 1 → Wf.heap[k]? = w3.heap[k]? := fun k h1 h2 h3 => by
          rw [hWf]
          show ((((w3.setCell ⟨w.heap.size, 0, none⟩ V).setCell ⟨w.heap.size, 0, none⟩ V).setCell ⟨w.heap.size + 1, 0, none⟩ (.int .i64 j)).setCell ⟨w.heap.size + 1 + 1, 0, none⟩ (.int .i64 0)).heap[k]? = _
          rw [Below.heap_setCell _ ⟨w.heap.size + 1 + 1, 0, none⟩ _ _ h3, Below.heap_setCell _ ⟨w.heap.size + 1, 0, none⟩ _ _ h2, Below.heap_setCell _ ⟨w.heap.size, 0, none⟩ _ _ h1, Below.heap_setCell _ ⟨w.heap.size, 0, none⟩ _ _ h1]
        have m0 : Wf.heap[w.heap.size]? = some (.cells #[V] 31) := by
          rw [hWf]
          show ((((w3.setCell ⟨w.heap.size, 0, none⟩ V).setCell ⟨w.heap.size, 0, none⟩ V).setCell ⟨w.heap.size + 1, 0, none⟩ (.int .i64 j)).setCell ⟨w.heap.size + 1 + 1, 0, none⟩ (.int .i64 0)).heap[w.heap.size]? = _
          rw [Below.heap_setCell _ ⟨w.heap.size + 1 + 1, 0, none⟩ _ _ (show w.heap.size ≠ w.heap.size + 1 + 1 by omega), Below.heap_setCell _ ⟨w.heap.size + 1, 0, none⟩ _ _ (show w.heap.size ≠ w.heap.size + 1 by omega)]
          exact set1_heap (set1_heap HK.out.1)
        have m1 : Wf.heap[w.heap.size + 1]? = some (.cells #[.int .i64 j] 3) := by
          rw [hWf]
          show ((((w3.setCell ⟨w.heap.size, 0, none⟩ V).setCell ⟨w.heap.size, 0, none⟩ V).setCell ⟨w.heap.size + 1, 0, none⟩ (.int .i64 j)).setCell ⟨w.heap.size + 1 + 1, 0, none⟩ (.int .i64 0)).heap[w.heap.size + 1]? = _
          rw [Below.heap_setCell _ ⟨w.heap.size + 1 + 1, 0, none⟩ _ _ (show w.heap.size + 1 ≠ w.heap.size + 1 + 1 by omega)]
          refine set1_heap (cs := #[.int .i64 0]) ?_
          rw [Below.heap_setCell _ ⟨w.heap.size, 0, none⟩ _ _ (show w.heap.size + 1 ≠ w.heap.size by omega), Below.heap_setCell _ ⟨w.heap.size, 0, none⟩ _ _ (show w.heap.size + 1 ≠ w.heap.size by omega)]
          exact HK.out.2.1
        have m2 : Wf.heap[w.heap.size + 1 + 1]? = some (.cells #[.int .i64 0] 23) := by
          rw [hWf]
          show ((((w3.setCell ⟨w.heap.size, 0, none⟩ V).setCell ⟨w.heap.size, 0, none⟩ V).setCell ⟨w.heap.size + 1, 0, none⟩ (.int .i64 j)).setCell ⟨w.heap.size + 1 + 1, 0, none⟩ (.int .i64 0)).heap[w.heap.size + 1 + 1]? = _
          refine set1_heap (cs := #[.int .i64 0]) ?_
          rw [Below.heap_setCell _ ⟨w.heap.size + 1, 0, none⟩ _ _ (show w.heap.size + 1 + 1 ≠ w.heap.size + 1 by omega), Below.heap_setCell _ ⟨w.heap.size, 0, none⟩ _ _ (show w.heap.size + 1 + 1 ≠ w.heap.size by omega), Below.heap_setCell _ ⟨w.heap.size, 0, none⟩ _ _ (show w.heap.size + 1 + 1 ≠ w.heap.size by omega)]
          exact HK.out.2.2
        have bw : Below w.heap.size w Wf := by
          rw [hWf]
          exact (((((HB1.out.trans (HB3.out.mono (by omega))).setCell (by simp) _).setCell (by simp) _).setCell (by simp) _).setCell (by simp; omega) _).drew
        have hrow : DrP w.heap.size Wf V M := by
          rw [hV]
          have hNn2 := HN.out
          exact (DrP.mv (by decide) (by decide) (by decide) HR3.out (Mv.of_all (T := 28) fun k h1 _ => hkeep k (by omega) (by omega) (by omega))).raise (by omega)
        have d0 : Wf.cell? ⟨w.heap.size, 0, none⟩ = some V := by simp [World.cell?, m0]
        have d1 : Wf.cell? ⟨w.heap.size + 1, 0, none⟩ = some (.int .i64 j) := by simp [World.cell?, m1]
        have d2 : Wf.cell? ⟨w.heap.size + 1 + 1, 0, none⟩ = some (.int .i64 0) := by simp [World.cell?, m2]
        rw [← hWf]
        clear hWf hkeep m0 m1 m2
        refine leaves_cons (f := 59) (args := #[.pointer (some ⟨w.heap.size + 1 + 1 + 1, 0, none⟩), .pointer (some ⟨w.heap.size, 0, none⟩), .pointer (some ⟨w.heap.size + 1, 0, none⟩), .pointer (some ⟨w.heap.size + 1 + 1, 0, none⟩)]) (by simp) (by simp [go_sem]) ?_
        refine (rcatchdI _ _ _ _ Wf).mono ?_
        rintro e u' w'' ⟨rfl, rfl, rfl⟩
        rw [HZ.out]
        simp [Leaves, settle, results, Tryz.results34, go_sem, d0, d1, d2]
        exact ⟨_, rfl, hrow, bw⟩
theorem litDirectives_any (s : LTok) (a : Int) (w : World) (hl : LimP w.heap.size w) (ht : TkP w w.heap.size s) : Calls Tryz.prog 8 #[.slice s.a s.n s.c, .int .i64 a, .bool s.fx] w (DrV w (drR s a)) := by
  have H := readd_any s a w hl ht
  obtain ⟨X, hX⟩ : ∃ X, X = drR s a := ⟨_, rfl⟩
  rw [← hX] at H
  rw [← hX]
  clear hX
  go_enter Tryz.func8, Tryz.ntmps8
  go_wp2_with fail
  cases X with
  | bad b m =>
    refine H.mono ?_
    rintro e w' ⟨rfl, bw⟩
    go_wp2_with fail
    go_ret3
    exact ⟨rfl, bw⟩
  | ok y =>
    obtain ⟨j, M⟩ := y
    refine H.mono ?_
    rintro e w' ⟨v, rfl, ho, bw⟩
    go_wp2_with fail
    go_ret3
    exact ⟨v, rfl, ho, bw⟩
end Go.Proofs.YtmkkckhfdafjnaaGreatDoor.Li
