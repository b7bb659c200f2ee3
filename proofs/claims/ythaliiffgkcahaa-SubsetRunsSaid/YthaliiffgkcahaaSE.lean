/- Layer 10: the document's Twin. -/
import Derived.Test.YthaliiffgkcahaaSD
namespace Go.Proofs.Ythaliiffgkcahaa
open Go.RowKit Go.Maps
theorem infoD : Option.map (fun x => x.size) (Try.prog.info? 26) = some 3 := by
  have h := Try.typeInfo26 default
  unfold typeInfo at h
  cases hq : Try.prog.info? 26 with
  | none => simp [hq] at h
  | some i =>
    simp [hq] at h
    rw [h]; rfl
theorem ret_row {R : Ending → World → Prop} {fn : Func} {tmps : Array Value} {w : World} {g : Nat} {cs : Array Value} (hr : fn.results = #[.cell 2 26]) (h2 : tmps.getD 2 undef = .pointer (some ⟨g, 0, none⟩)) (hg : w.heap[g]? = some (.cells cs 26)) (hs : cs.size = 3)
    (hR : R (.returned (.agg cs)) w) : bodyPost Try.prog fn R .ret ⟨tmps, []⟩ w := by
  refine bodyPost_ret (v := .agg cs) ?_ rfl hR
  exact results_cell_row hr tmps w g 26 cs (0, 0) _ h2 hg Try.underlying26 rfl (by rw [infoD, hs])
theorem iv_own {w : World} {B n cp : Nat} {ad : Option Addr} {L : List Int} (h : OwnI w B (.slice ad n cp) L) : IV w ad L ∧ L.length ≤ cp ∧ cp ≤ maxLen ∧ (ad = none → L.length = 0 ∧ cp = 0) := by
  obtain ⟨ad', cap', e, h1, h2, h3, h4⟩ := ownI_shape h
  simp only [Value.slice.injEq] at e
  obtain ⟨rfl, _, rfl⟩ := e
  exact ⟨h3, h1, h2, h4⟩
theorem bv_own {w : World} {B n cp : Nat} {ad : Option Addr} {L : List Bool} (h : OwnB w B (.slice ad n cp) L) : BV w ad L ∧ L.length ≤ cp ∧ cp ≤ maxLen ∧ (ad = none → L.length = 0 ∧ cp = 0) := by
  obtain ⟨ad', cap', e, h1, h2, h3, h4⟩ := ownB_shape h
  simp only [Value.slice.injEq] at e
  obtain ⟨rfl, _, rfl⟩ := e
  exact ⟨h3, h1, h2, h4⟩
theorem sv_own {w : World} {B n cp : Nat} {ad : Option Addr} {S : List (List Int)} {vs : List Value} (h : Twins w B S vs) (hl : vs.length = S.length) (ho : OwnS w B (.slice ad n cp) vs) : SV w ad S ∧ S.length ≤ cp ∧ cp ≤ maxLen ∧ (ad = none → S.length = 0 ∧ cp = 0) := by
  obtain ⟨ad', cap', e, h1, h2, h3, h4⟩ := twins_shape h hl ho
  simp only [Value.slice.injEq] at e
  obtain ⟨rfl, _, rfl⟩ := e
  exact ⟨h3, h1, h2, h4⟩
theorem dv_own {w : World} {B n0 n1 n2 : Nat} {a : DA} {d : DF} {vs : List Value} (hI : OwnI w B (.slice a.a0 n0 a.c0) d.C) (hB : OwnB w B (.slice a.a2 n2 a.c2) d.B) (hT : Twins w B d.S vs) (hl : vs.length = d.S.length) (hS : OwnS w B (.slice a.a1 n1 a.c1) vs) : DV w a d := by
  obtain ⟨i1, i2, i3, i4⟩ := iv_own hI
  obtain ⟨b1, b2, b3, b4⟩ := bv_own hB
  obtain ⟨s1, s2, s3, s4⟩ := sv_own hT hl hS
  exact ⟨i1, s1, b1, i2, s2, b2, i3, s3, b3, i4, s4, b4⟩
def TwinPost (w : World) (d : DF) (e : Ending) (w' : World) : Prop := ∃ a, e = .returned (dv a d) ∧ DV w' a d ∧ Below w.heap.size w w'
set_option maxRecDepth 20000 in
set_option maxHeartbeats 2000000 in
theorem twin_any (a : DA) (d : DF) (w : World) (hv : DV w a d) (hC : d.C.length ≤ 300) (hS : d.S.length ≤ 70) (hB : d.B.length ≤ 70) (hR : ∀ i, i < d.S.length → (gS d.S i).length ≤ 300) : Calls Try.prog 5 #[dv a d] w (TwinPost w d) := by
  obtain ⟨i0, hq0, hz00, hz01, hz02⟩ := infoI
  obtain ⟨i1, hq1, hz10, hz11, hz12⟩ := infoB
  obtain ⟨i2, hq2, hz20, hz21, hz22⟩ := infoS
  obtain ⟨a0, a1, a2, c0, c1, c2⟩ := a
  obtain ⟨C, S, B⟩ := d
  dsimp only at hC hS hB hR
  have HV1 : Hid (SV w a1 S) := Lib.hid hv.sv
  have HN1 : Hid (a1 = none → S.length = 0 ∧ c1 = 0) := Lib.hid hv.n1
  have HSC : Hid (Src w a0 C.length c0 (rI C)) := Lib.hid (src_ints hv.iv hv.n0)
  have HSB : Hid (Src w a2 B.length c2 (rB B)) := Lib.hid (src_bools hv.bv hv.n2)
  have HRR := Lib.hid hR
  clear hv hR
  unfold dv
  dsimp only
  obtain ⟨nC, gC⟩ : ∃ n, n = C.length := ⟨_, rfl⟩
  obtain ⟨nS, gSS⟩ : ∃ n, n = S.length := ⟨_, rfl⟩
  obtain ⟨nB, gB⟩ : ∃ n, n = B.length := ⟨_, rfl⟩
  rw [← gC] at hC HSC
  rw [← gSS] at hS HN1
  rw [← gB] at hB HSB
  rw [← gC, ← gSS, ← gB]
  have GC := Lib.hid gC
  have GS := Lib.hid gSS
  have GB := Lib.hid gB
  clear gC gSS gB
  have HS1 : Hid (Src (((w.alloc (.cells #[.slice a0 nC c0, .slice a1 nS c1, .slice a2 nB c2] 26)).alloc (.cells #[.slice none 0 0, .slice none 0 0, .slice none 0 0] 26)).alloc (.cells #[.slice none 0 0, .slice none 0 0, .slice none 0 0] 26)) a0 nC c0 (rI C)) := Lib.hid (HSC.out.up ((((Below.refl w.heap.size w).alloc (Nat.le_refl _) _).alloc (by simp) _).alloc (by simp; omega) _))
  have HT0 : Hid (Tw w (((w.alloc (.cells #[.slice a0 nC c0, .slice a1 nS c1, .slice a2 nB c2] 26)).alloc (.cells #[.slice none 0 0, .slice none 0 0, .slice none 0 0] 26)).alloc (.cells #[.slice none 0 0, .slice none 0 0, .slice none 0 0] 26)) (.slice a0 nC c0) (.slice a1 nS c1) (.slice a2 nB c2) (.slice none 0 0) (.slice none 0 0) (.slice none 0 0) (.slice none 0 0) (.slice none 0 0) (.slice none 0 0)) := Lib.hid (tw_new _ _ _ _ _ _ _ _ _ _)
  have T1 : True := trivial
  go_enter Try.func5, Try.ntmps5
  go_wp2_with (first
    | (have _t := T1; at_builtin; refine wpList_app rfl _ _ 22 rfl w.heap.size 3 i0 (.int .i64 0) 8 Try.underlying22 hq0 hz00 hz01 hz02 rfl (.slice none 0 0) 0 [] rfl (World.ownsRow_nil _ _ _ _) a0 nC c0 (rI C) rfl HS1.out (by unfold maxLen; omega) (by omega) HT0.out.bl.size ?_; clear _t; clear T1; intro v1 w1 ho1 hg1; have HT1 := Lib.hid (HT0.out.up (below_nil hg1)); have HO1 : Hid (OwnI w1 w.heap.size v1 C) := Lib.hid (by unfold OwnI; rw [← GC.out]; simpa using ho1); obtain ⟨ad1, cp1, hv1, _⟩ := ownI_shape HO1.out; rw [← GC.out] at hv1; subst hv1; have HT2 := Lib.hid (HT1.out.set0 (.slice ad1 nC cp1)); have HO2 : Hid (OwnI (w1.setCell ⟨w.heap.size + 1 + 1, 0, none⟩ (.slice ad1 nC cp1)) w.heap.size (.slice ad1 nC cp1) C) := Lib.hid (own_set HO1.out (by decide) HT1.out.b2); have t2 := HT1.out.b0.c2; have u0 := HT1.out.b2.c0; have u2 := HT1.out.b2.c2; have f0 := HT1.out.b2.fz 0; have t2' := HT2.out.b0.c2; have u2' := HT2.out.b2.c2; clear ho1 hg1 HS1; have T2 : True := trivial)
    | (have _t := T2; at_builtin; refine wpList_app rfl _ _ 24 rfl w.heap.size 4 i1 (.bool false) 1 Try.underlying24 hq1 hz10 hz11 hz12 rfl (.slice none 0 0) 0 [] rfl (World.ownsRow_nil _ _ _ _) a2 nB c2 (rB B) rfl (HSB.out.up HT2.out.bl) (by unfold maxLen; omega) (by omega) HT2.out.bl.size ?_; clear _t; clear T2; clear t2 u0 u2 f0 t2' u2'; intro v2 w2 ho2 hg2; have HT3 := Lib.hid (HT2.out.up (below_nil hg2)); have HO3 : Hid (OwnI w2 w.heap.size (.slice ad1 nC cp1) C) := Lib.hid (own_below HO2.out (below_nil hg2)); have HB3 : Hid (OwnB w2 w.heap.size v2 B) := Lib.hid (by unfold OwnB; rw [← GB.out]; simpa using ho2); obtain ⟨ad2, cp2, hv2, _⟩ := ownB_shape HB3.out; rw [← GB.out] at hv2; subst hv2; have HT4 := Lib.hid (HT3.out.set2 (.slice ad2 nB cp2)); have HO4 : Hid (OwnI (w2.setCell ⟨w.heap.size + 1 + 1, 2, none⟩ (.slice ad2 nB cp2)) w.heap.size (.slice ad1 nC cp1) C) := Lib.hid (own_set HO3.out (by decide) HT3.out.b2); have HB4 : Hid (OwnB (w2.setCell ⟨w.heap.size + 1 + 1, 2, none⟩ (.slice ad2 nB cp2)) w.heap.size (.slice ad2 nB cp2) B) := Lib.hid (own_set HB3.out (by decide) HT3.out.b2); have u2 := HT3.out.b2.c2; have f2 := HT3.out.b2.fz 2; clear ho2 hg2))
  clear u2 f2
  go_loopw [4] (fun v4 wr => ∃ (i : Nat) (vs : List Value) (u : Value), v4 = .int .i64 i ∧ i ≤ nS ∧ vs.length = i ∧ Hid (OwnI wr w.heap.size (.slice ad1 nC cp1) C) ∧ Hid (OwnB wr w.heap.size (.slice ad2 nB cp2) B) ∧ Hid (OwnS wr w.heap.size u vs) ∧ Hid (Twins wr w.heap.size S vs) ∧ Hid (Tw w wr (.slice a0 nC c0) (.slice a1 nS c1) (.slice a2 nB c2) (.slice none 0 0) (.slice none 0 0) (.slice none 0 0) (.slice ad1 nC cp1) u (.slice ad2 nB cp2))) (fun v4 _ => nS - (intOf v4).toNat)
  case atStart => exact ⟨0, [], _, rfl, by omega, rfl, HO4, HB4, Lib.hid (World.ownsRow_nil _ _ _ _), Lib.hid ⟨Nat.zero_le _, fun j hj => absurd hj (Nat.not_lt_zero j)⟩, HT4⟩
  case round =>
    clear HT0 HT1 HT2 HT3 HT4 HO1 HO2 HO3 HO4 HB3 HB4
    obtain ⟨i, vs, u, rfl, hi, hvl, HO, HB, HU, HW, HT⟩ := hrel
    have HVL := Lib.hid hvl
    clear hvl
    by_cases h1 : i < nS
    · obtain ⟨b1, off1, rfl⟩ := HV1.out.addr (by rw [← GS.out]; omega)
      obtain ⟨_, adr, cr, d0, hr1, hr2, hr3, hr4⟩ := (HV1.out.below HT.out.bl).at_ (i := i) (by rw [← GS.out]; exact h1)
      obtain ⟨P, hP⟩ : ∃ P, P = gS S i := ⟨_, rfl⟩
      have hl3 := HRR.out i (by rw [← GS.out]; exact h1)
      rw [← hP] at d0 hr1 hr3 hr4 hl3
      have HP := Lib.hid hP
      have HSP0 : Hid (Src wr adr P.length cr (rI P)) := Lib.hid (src_ints hr3 hr4)
      obtain ⟨l, hl⟩ : ∃ l, l = P.length := ⟨_, rfl⟩
      rw [← hl] at d0 hl3 HSP0
      have HLL := Lib.hid hl
      have HSP : Hid (Src wr.drew adr l cr (rI P)) := Lib.hid (HSP0.out.up (Below.refl wr.heap.size wr).drew)
      have HTD := Lib.hid (HT.out.up (Below.refl wr.heap.size wr).drew)
      have HUD : Hid (OwnS wr.drew w.heap.size u vs) := Lib.hid (own_below HU.out (Below.refl wr.heap.size wr).drew)
      have HOD : Hid (OwnI wr.drew w.heap.size (.slice ad1 nC cp1) C) := Lib.hid (own_below HO.out (Below.refl wr.heap.size wr).drew)
      have HBD : Hid (OwnB wr.drew w.heap.size (.slice ad2 nB cp2) B) := Lib.hid (own_below HB.out (Below.refl wr.heap.size wr).drew)
      have HWD : Hid (Twins wr.drew w.heap.size S vs) := Lib.hid (HW.out.below (Below.refl wr.heap.size wr).drew)
      obtain ⟨au, cu, rfl, _⟩ := own_shape HU.out
      rw [HVL.out] at HTD HUD HT HU
      have hi1 : (i : Int) < nS := by omega
      have hi0 : (0 : Int) ≤ i := by omega
      have s1 := HT.out.b0.c1
      have s1' := HTD.out.b0.c1
      have x1 := HT.out.b2.c1
      have x1' := HTD.out.b2.c1
      clear hr1 hr2 hr3 hr4 hP hl HSP0 HO HB HW
      go_wp2_with fail
      go_region_law (first
        | (refine step_app rfl (.const (.slice none 0 0)) (.tmp 30) 22 rfl w.heap.size 3 i0 (.int .i64 0) 8 Try.underlying22 hq0 hz00 hz01 hz02 rfl (.slice none 0 0) 0 [] (by simp [Act.eval, Act.put]) (World.ownsRow_nil _ _ _ _) adr l cr (rI P) (by simp [Act.eval, Act.put]) HSP.out (by unfold maxLen; omega) (by omega) HTD.out.bl.size ?_; intro v3 w3 ho3 hg3; have HTA := Lib.hid (HTD.out.up (below_nil hg3)); have HOA : Hid (OwnI w3 w.heap.size v3 P) := Lib.hid (by unfold OwnI; rw [← HLL.out]; simpa using ho3); obtain ⟨ad3, cp3, hv3, _⟩ := ownI_shape HOA.out; rw [← HLL.out] at hv3; subst hv3; have HTB := Lib.hid (HTA.out.up ((Below.refl w3.heap.size w3).alloc (Nat.le_refl _) (.cells #[.slice ad3 l cp3] 22))); have k31 := HTA.out.b2.c1; have k32 := HTB.out.b2.c1; have HUB : Hid ((w3.alloc (.cells #[.slice ad3 l cp3] 22)).ownsRow w.heap.size 22 1 (.slice au i cu) i vs) := Lib.hid (by have h := (own_below HUD.out (below_nil hg3)).alloc (.cells #[.slice ad3 l cp3] 22); rwa [HVL.out] at h); have HG3 := Lib.hid hg3; have HSR : Hid (Src (w3.alloc (.cells #[.slice ad3 l cp3] 22)) (some ⟨w3.heap.size, 0, none⟩) 1 1 [.slice ad3 l cp3]) := Lib.hid ⟨rfl, (fun e => by cases e), (fun ad e j u hj => by cases e; exact cell_one_new _ _ _ j u hj), (by intro u hu; rw [List.mem_singleton] at hu; subst hu; rfl)⟩; clear ho3 hg3)
        | (refine step_app rfl (.tmp 25) (.tmp 32) 23 rfl w.heap.size 22 i2 (.slice none 0 0) 24 Try.underlying23 hq2 hz20 hz21 hz22 rfl (.slice au i cu) i vs (by simp [Act.eval, Act.put]) HUB.out (some ⟨w3.heap.size, 0, none⟩) 1 1 [.slice ad3 l cp3] (by simp [Act.eval, Act.put]) HSR.out (by unfold maxLen; omega) (by omega) HTB.out.bl.size ?_; intro v4 w4 ho4 hg4; obtain ⟨ad4, cp4, hv4, _⟩ := own_shape ho4; subst hv4; have HTC := Lib.hid (HTB.out.grown HUB.out (by decide) hg4); have k41 := HTC.out.b2.c1; have g41 := HTC.out.b2.fz 1; have HUC := Lib.hid ho4; have HG4 := Lib.hid hg4; clear ho4 hg4))
      all_goals (go_wp2_with fail)
      all_goals have BA : Below w3.heap.size w3 (w3.alloc (.cells #[.slice ad3 l cp3] 22)) := (Below.refl w3.heap.size w3).alloc (Nat.le_refl _) _
      all_goals have BN : Below wr.drew.heap.size wr.drew w3 := below_nil HG3.out
      all_goals have oI := own_set (k := 1) (u := .slice ad4 (i + 1) cp4) (own_kept (own_below (own_below HOD.out BN) BA) HUB.out (by decide) HG4.out) (by decide) HTC.out.b2
      all_goals have oB := own_set (k := 1) (u := .slice ad4 (i + 1) cp4) (own_kept (own_below (own_below HBD.out BN) BA) HUB.out (by decide) HG4.out) (by decide) HTC.out.b2
      all_goals have oS := own_set (k := 1) (u := .slice ad4 (i + 1) cp4) HUC.out (by decide) HTC.out.b2
      all_goals have oN : OwnI w4 w.heap.size (.slice ad3 l cp3) P := own_kept (own_below HOA.out BA) HUB.out (by decide) HG4.out
      all_goals have tW : Twins w4 w.heap.size S vs := Twins.grown (ws := vs) ((HWD.out.below BN).below BA) (by unfold OwnS; rw [HVL.out]; exact HUB.out) HG4.out
      all_goals exact ⟨⟨i + 1, vs ++ [.slice ad3 l cp3], .slice ad4 (i + 1) cp4, by go_num, by omega, by rw [List.length_append, HVL.out]; rfl, Lib.hid oI, Lib.hid oB, Lib.hid (by unfold OwnS; rw [List.length_append, HVL.out]; exact oS), Lib.hid (Twins.set (tW.snoc (by rw [HVL.out, ← GS.out]; omega) (by rw [HVL.out, ← HP.out]; exact oN)) HTC.out.b2), Lib.hid (HTC.out.set1 _)⟩, by simp [intOf]; omega⟩
    · have e1 : i = nS := by omega
      have hi1 : ¬ (i : Int) < nS := by omega
      obtain ⟨au, cu, rfl, _⟩ := twins_shape HW.out (by rw [HVL.out, e1, GS.out]) HU.out
      rw [← GS.out] at HT HU
      have s1 := HT.out.b0.c1
      have t0 := HT.out.b2.c0
      have t1 := HT.out.b2.c1
      have t2 := HT.out.b2.c2
      have z0 := HT.out.b1.c0
      have z1 := HT.out.b1.c1
      have z2 := HT.out.b1.c2
      have f0 := HT.out.b1.fz 0
      have f1 := HT.out.b1.fz 1
      have f2 := HT.out.b1.fz 2
      have hX := ((HT.out.b1.set0 (.slice ad1 nC cp1)).set1 (.slice au nS cu)).set2 (.slice ad2 nB cp2)
      have HX := Lib.hid hX
      have HOF := Lib.hid (own_set (k := 2) (u := .slice ad2 nB cp2) (own_set (k := 1) (u := .slice au nS cu) (own_set (k := 0) (u := .slice ad1 nC cp1) HO.out (by decide) HT.out.b1) (by decide) (HT.out.b1.set0 _)) (by decide) ((HT.out.b1.set0 _).set1 _))
      have HBF := Lib.hid (own_set (k := 2) (u := .slice ad2 nB cp2) (own_set (k := 1) (u := .slice au nS cu) (own_set (k := 0) (u := .slice ad1 nC cp1) HB.out (by decide) HT.out.b1) (by decide) (HT.out.b1.set0 _)) (by decide) ((HT.out.b1.set0 _).set1 _))
      have HUF := Lib.hid (own_set (k := 2) (u := .slice ad2 nB cp2) (own_set (k := 1) (u := .slice au nS cu) (own_set (k := 0) (u := .slice ad1 nC cp1) HU.out (by decide) HT.out.b1) (by decide) (HT.out.b1.set0 _)) (by decide) ((HT.out.b1.set0 _).set1 _))
      have HWF := Lib.hid (Twins.set (k := 2) (u := .slice ad2 nB cp2) (Twins.set (k := 1) (u := .slice au nS cu) (Twins.set (k := 0) (u := .slice ad1 nC cp1) HW.out HT.out.b1) (HT.out.b1.set0 _)) ((HT.out.b1.set0 _).set1 _))
      have HBL : Hid (Below w.heap.size w (((wr.setCell ⟨w.heap.size + 1, 0, none⟩ (.slice ad1 nC cp1)).setCell ⟨w.heap.size + 1, 1, none⟩ (.slice au nS cu)).setCell ⟨w.heap.size + 1, 2, none⟩ (.slice ad2 nB cp2))) := Lib.hid (((HT.out.bl.setCell (Nat.le_succ _) _).setCell (Nat.le_succ _) _).setCell (Nat.le_succ _) _)
      have HLN : Hid (vs.length = S.length) := Lib.hid (by rw [HVL.out, e1, GS.out])
      clear hX
      go_wp2_with fail
      refine ret_row Try.results5 rfl HX.out rfl ⟨⟨ad1, au, ad2, cp1, cu, cp2⟩, ?_, dv_own (d := ⟨C, S, B⟩) HOF.out HBF.out HWF.out HLN.out HUF.out, HBL.out⟩
      unfold dv
      rw [GC.out, GS.out, GB.out]
end Go.Proofs.Ythaliiffgkcahaa
