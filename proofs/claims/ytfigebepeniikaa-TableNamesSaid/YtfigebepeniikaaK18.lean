/- Layer 27: TableNames: its tables, and its walk. -/
import Derived.Test.YtfigebepeniikaaK17
import Derived.Deep.RegionLaw
/- Layer 27: the law's own record, of a number below nought. -/
namespace Go.Proofs.Ytfigebepeniikaa
open Go.RowKit Go.Maps
def zK : CR := ⟨0, ⟨#[]⟩, ⟨#[]⟩, 0, 0⟩
def gZ (id : ByteArray) (i _j : Nat) : CR := if i = 0 then tC id else zK
def dZ (id : ByteArray) : List CR := preL 7 2 sN (fun _ => 1) (gZ id) 2
set_option maxRecDepth 20000 in
set_option maxHeartbeats 1000000 in
theorem record_neg (id : ByteArray) (n : Int) (h0 : n < 0) (hid : id.size ≤ 1000000) (hE : mE 2 2 sN (fun _ => 1) (gZ id) = 0) (w : World) : Calls Try.prog 9 #[.string id, .int .i64 n] w fun e w' => ∃ v, e = .returned (.agg #[.string id, v]) ∧ w'.ownsRow w.heap.size 53 5 v (dZ id).length (rw5 (dZ id)) ∧ Below w.heap.size w w' := by
  have hcw : ∀ i, i < 2 → CW 1 (gZ id i) := fun i hi j hj => by
    unfold gZ tC zK
    split
    · exact ⟨by show (3 : Nat) < 256; decide, Nat.zero_le _, hid, by show (-9223372036854775808 : Int) ≤ 0; decide, by show (0 : Int) ≤ 9223372036854775807; decide⟩
    · exact ⟨by show (0 : Nat) < 256; decide, Nat.zero_le _, Nat.zero_le _, by show (-9223372036854775808 : Int) ≤ 0; decide, by show (0 : Int) ≤ 9223372036854775807; decide⟩
  have HM := Lib.hid (fun (W : World) (la na : Option Addr) (lc nc : Nat) ad cp (h : LIn W la 2 ad (fun _ => 1) cp (gZ id)) (hn : NV W na 2 sN) => members_any na la 2 nc 2 lc sN ad (fun _ => 1) cp (gZ id) W h hcw hn (fun i hi => by unfold sN; split <;> decide))
  rw [hE, show preL 7 2 sN (fun _ => 1) (gZ id) 2 = dZ id from rfl] at HM
  obtain ⟨W, hW⟩ : ∃ W, W = (((((w.alloc (.cells #[.string ⟨#[]⟩, .slice none 0 0] 32)).alloc (.cells #[.int .u8 2, .string ⟨#[]⟩, .string ⟨#[]⟩, .int .i64 n, .int .i64 0] 53)).alloc (.cells #[.int .u8 0, .string ⟨#[]⟩, .string ⟨#[]⟩, .int .i64 0, .int .i64 0] 53)).alloc (.cells #[.string ⟨#[105, 100]⟩, .string ⟨#[110]⟩] 9)).alloc (.cells #[.int .u8 3, .string ⟨#[]⟩, .string id, .int .i64 0, .int .i64 0] 53)).alloc (.cells #[.slice (some ⟨w.heap.size + 4, 0, none⟩) 1 1, .slice (some ⟨w.heap.size + 2, 0, none⟩) 1 1] 30) := ⟨_, rfl⟩
  have HB : Hid (Below w.heap.size w W) := Lib.hid (by rw [hW]; exact ((((((Below.refl _ _).alloc (Nat.le_refl _) _).alloc (by simp) _).alloc (by simp; omega) _).alloc (by simp; omega) _).alloc (by simp; omega) _).alloc (by simp; omega) _)
  have HX : Hid (Bx2 W w.heap.size (.string ⟨#[]⟩) (.slice none 0 0)) := Lib.hid (by
    rw [hW]
    refine Bx2.up (bx2_new w _ _) ?_
    exact (((((Below.refl _ _).alloc (Nat.le_refl _) _).alloc (by simp) _).alloc (by simp) _).alloc (by simp) _).alloc (by simp) _)
  have c1 : W.heap[w.heap.size + 2]? = some (.cells #[.int .u8 0, .string ⟨#[]⟩, .string ⟨#[]⟩, .int .i64 0, .int .i64 0] 53) := by rw [hW]; exact al_old _ _ (al_old _ _ (al_old _ _ (al_at _ _ (by simp))))
  have c2 : W.heap[w.heap.size + 3]? = some (.cells #[.string ⟨#[105, 100]⟩, .string ⟨#[110]⟩] 9) := by rw [hW]; exact al_old _ _ (al_old _ _ (al_at _ _ (by simp)))
  have c3 : W.heap[w.heap.size + 4]? = some (.cells #[.int .u8 3, .string ⟨#[]⟩, .string id, .int .i64 0, .int .i64 0] 53) := by rw [hW]; exact al_old _ _ (al_at _ _ (by simp))
  have c4 : W.heap[w.heap.size + 5]? = some (.cells #[.slice (some ⟨w.heap.size + 4, 0, none⟩) 1 1, .slice (some ⟨w.heap.size + 2, 0, none⟩) 1 1] 30) := by rw [hW]; exact al_at _ _ (by simp)
  have HL : Hid (LIn W (some ⟨w.heap.size + 5, 0, none⟩) 2 (fun i => if i = 0 then some ⟨w.heap.size + 4, 0, none⟩ else some ⟨w.heap.size + 2, 0, none⟩) (fun _ => 1) (fun _ => 1) (gZ id)) := Lib.hid (by
    refine ⟨fun i hi => ⟨w.heap.size + 5, 0, rfl, (Array.getElem?_eq_some_iff.1 c4).1, ?_⟩, fun i hi => ?_⟩
    · rcases (show i = 0 ∨ i = 1 by omega) with rfl | rfl <;> simp [World.cell?, c4]
    · rcases (show i = 0 ∨ i = 1 by omega) with rfl | rfl
      · intro j hj
        obtain rfl : j = 0 := by omega
        exact cv_block (L := [tC id]) c3 rfl 0 Nat.one_pos
      · intro j hj
        obtain rfl : j = 0 := by omega
        exact cv_block (L := [zK]) c1 rfl 0 Nat.one_pos)
  have HN : Hid (NV W (some ⟨w.heap.size + 3, 0, none⟩) 2 sN) := Lib.hid (fun i hi => ⟨w.heap.size + 3, 0, rfl, (Array.getElem?_eq_some_iff.1 c2).1, by
    rcases (show i = 0 ∨ i = 1 by omega) with rfl | rfl <;> simp [World.cell?, c2, sN, idS, nS]⟩)
  have hn0 : n < 0 := h0
  have HLT : Hid (w.heap.size < W.heap.size) := Lib.hid (Nat.lt_of_le_of_lt (Nat.le_add_right _ _) (Array.getElem?_eq_some_iff.1 c1).1)
  clear c1 c2 c3 c4 hE hcw hid h0
  generalize dZ id = D at HM ⊢
  go_enter Try.func9, Try.ntmps9
  go_wp2_with fail
  rw [← hW]
  clear hW
  refine (HM.out W _ _ _ _ _ _ HL.out HN.out).mono ?_
  rintro e w1 ⟨v, rfl, _, hown, b1⟩
  have HX1 := Lib.hid (HX.out.up b1)
  have HB1 := Lib.hid (HB.out.trans (b1.mono HB.out.size))
  obtain ⟨ad, cap, rfl⟩ := own_slice (hown rfl)
  have HO : Hid (∀ u0 u1, ((w1.setCell ⟨w.heap.size, 0, none⟩ u0).setCell ⟨w.heap.size, 1, none⟩ u1).ownsRow w.heap.size 53 5 (.slice ad D.length cap) D.length (rw5 D)) := Lib.hid (fun u0 u1 => ownsRow_mono (own_setL (own_setL (hown rfl) HLT.out) HLT.out) HB.out.size)
  have f0 := HX1.out.fz 0
  have f1 := HX1.out.fz 1
  have x0 := HX1.out.c0
  have x1 := HX1.out.c1
  clear hown b1 HL HN HM HX
  go_wp2_with fail
  refine ret_rc Try.results9 rfl (HX1.out.set _ _) ⟨_, rfl, ?_, set2_below HB1.out _ (Nat.le_refl _) _ _⟩
  exact HO.out _ _
end Go.Proofs.Ytfigebepeniikaa
/- Layer 27: TableNames: its tables, and what the calls tell of them. -/
namespace Go.Proofs.Ytfigebepeniikaa
open Go.RowKit Go.Maps
def yS : ByteArray := ⟨#[121]⟩
def zS : ByteArray := ⟨#[122]⟩
def ra5 : RC := ⟨aS, dR aS 5⟩
def rb1 : RC := ⟨bS, dR bS 1⟩
def rbn : RC := ⟨bS, dZ bS⟩
def rcn : RC := ⟨cS, dZ cS⟩
def ra3 : RC := ⟨aS, dR aS 3⟩
def rb3 : RC := ⟨bS, dR bS 3⟩
def rzy : RC := ⟨zS, dR yS 1⟩
def m3 : TM := ⟨⟨#[84]⟩, 3, [nS], [ra]⟩
def m4 : TM := ⟨⟨#[84]⟩, 3, [nS], [ra, rbn]⟩
def m5 : TM := ⟨⟨#[84]⟩, 3, [nS], [ra, rbn, rcn]⟩
def m6 : TM := ⟨⟨#[84]⟩, 2, [nS], [ra3]⟩
theorem ra5_ok : mE 2 2 sN (fun _ => 1) (gN aS 5) = 0 := by decide +kernel
theorem rb1_ok : mE 2 2 sN (fun _ => 1) (gN bS 1) = 0 := by decide +kernel
theorem ra3_ok : mE 2 2 sN (fun _ => 1) (gN aS 3) = 0 := by decide +kernel
theorem rb3_ok : mE 2 2 sN (fun _ => 1) (gN bS 3) = 0 := by decide +kernel
theorem ry1_ok : mE 2 2 sN (fun _ => 1) (gN yS 1) = 0 := by decide +kernel
theorem rbn_ok : mE 2 2 sN (fun _ => 1) (gZ bS) = 0 := by decide +kernel
theorem rcn_ok : mE 2 2 sN (fun _ => 1) (gZ cS) = 0 := by decide +kernel
theorem n_1 : putT t0 ra5 = (zT, 271) := by decide +kernel
theorem n_2 : putT t0 rb1 = (zT, 271) := by decide +kernel
theorem n_3 : putT m3 rbn = (m4, 0) := by decide +kernel
theorem n_4 : putT m4 rcn = (m5, 0) := by decide +kernel
theorem n_5 : setT t0 ra3 = (m6, 0) := by decide +kernel
theorem n_6 : setT t0 rb3 = (zT, 270) := by decide +kernel
theorem n_7 : dropT t0 bS = (zT, 270) := by decide +kernel
theorem n_8 : putT t0 rzy = (zT, 8) := by decide +kernel
theorem dZ_eq (id : ByteArray) : dZ id = [⟨7, ⟨#[]⟩, ⟨#[]⟩, 0, 2⟩, ⟨3, idS, id, 0, 0⟩, ⟨0, nS, ⟨#[]⟩, 0, 0⟩] := rfl
theorem cw_lit (k : Nat) (s id : ByteArray) (n : Int) (hk : k < 256) (hi : id.size ≤ 1000) : CW 3 (gl [⟨7, ⟨#[]⟩, ⟨#[]⟩, 0, 2⟩, ⟨3, idS, id, 0, 0⟩, ⟨k, nS, ⟨#[]⟩, n, 0⟩]) := by
  intro i hi3
  rcases (show i = 0 ∨ i = 1 ∨ i = 2 by omega) with rfl | rfl | rfl
  · exact ⟨by show (7 : Nat) < 256; decide, Nat.zero_le _, Nat.zero_le _, by show (-9223372036854775808 : Int) ≤ 2; decide, by show (2 : Int) ≤ 9223372036854775807; decide⟩
  · exact ⟨by show (3 : Nat) < 256; decide, by show (2 : Nat) ≤ maxLen; unfold maxLen; omega, by show id.size ≤ 1000000; omega, by show (-9223372036854775808 : Int) ≤ 0; decide, by show (0 : Int) ≤ 9223372036854775807; decide⟩
  · exact ⟨hk, by show (1 : Nat) ≤ maxLen; unfold maxLen; omega, Nat.zero_le _, by show (-9223372036854775808 : Int) ≤ 0; decide, by show (0 : Int) ≤ 9223372036854775807; decide⟩
theorem sm_ra5 : SmR ra5 := smR_lit ra5 5 rfl (by decide)
theorem sm_rb1 : SmR rb1 := smR_lit rb1 1 rfl (by decide)
theorem sm_ra3 : SmR ra3 := smR_lit ra3 3 rfl (by decide)
theorem sm_rb3 : SmR rb3 := smR_lit rb3 3 rfl (by decide)
theorem sm_rbn : SmR rbn := ⟨cw_lit 0 bS bS 0 (by decide) (by decide), by decide, by decide⟩
theorem sm_rcn : SmR rcn := ⟨cw_lit 0 cS cS 0 (by decide) (by decide), by decide, by decide⟩
theorem sm_rzy : SmR rzy := ⟨cw_lit 2 yS yS 1 (by decide) (by decide), by decide, by decide⟩
theorem sm_m3 : SmN 1 m3 := ⟨by decide, by decide, sm_t0.each, sm_t0.us⟩
theorem sm_m4 : SmN 2 m4 := putN n_3 sm_m3 sm_rbn
theorem sm_m5 : SmN 3 m5 := putN n_4 sm_m4 sm_rcn
theorem sm_m6 : SmN 1 m6 := setMN n_5 sm_t0 sm_ra3
/-- A record of a number below nought, called for. -/
theorem recN_any (r : RC) (n : Int) (h0 : n < 0) (hid : r.id.size ≤ 1000000) (hd : r.d = dZ r.id) (hE : mE 2 2 sN (fun _ => 1) (gZ r.id) = 0) (w : World) : Calls Try.prog 9 #[.string r.id, .int .i64 n] w fun e w' => ∃ ad cp, e = .returned (rv r ad cp) ∧ DV w.heap.size w' ad cp r.d ∧ Below w.heap.size w w' := by
  refine (record_neg r.id n h0 hid hE w).mono ?_
  rintro e w' ⟨v, rfl, ho, hb⟩
  rw [← hd] at ho
  obtain ⟨ad, cp, rfl, hv⟩ := own_dv rfl ho
  exact ⟨ad, cp, rfl, hv, hb⟩
end Go.Proofs.Ytfigebepeniikaa
/- Layer 27: the data of a record's value. -/
namespace Go.Proofs.Ytfigebepeniikaa
open Go.RowKit Go.Maps
theorem fld1 (v0 : ByteArray) (a : Option Addr) (n c : Nat) (W : World) : (Instr.field 32 (.agg #[.string v0, .slice a n c]) 1).run Try.prog W = .ok (.slice a n c) W := by
  have u := Try.underlying32
  have u2 := Try.underlying30
  have z := Try.sizeOf30
  unfold Instr.field
  go_simp
  first | rfl | simp [run_underlying u, u, u2, z, Value.cells]
end Go.Proofs.Ytfigebepeniikaa
/- Layer 27: TableNames, walked. -/
namespace Go.Proofs.Ytfigebepeniikaa
open Go.RowKit Go.Maps
theorem m3_of {B : Nat} {W : World} {a1 a2 : Option Addr} {c1 c2 : Nat} (h : TVs B W t0 a1 c1 a2 c2) : TVs B W m3 a1 c1 a2 c2 := ⟨h.u, h.u1, h.u2, h.un, h.ub, h.r, h.r1, h.r2, h.rn⟩
def RT (w : World) (r : RC) (e : Ending) (w' : World) : Prop := ∃ ad cp, e = .returned (.agg #[.string r.id, .slice ad r.d.length cp]) ∧ DV 0 w' ad cp r.d ∧ Below w.heap.size w w'
theorem rec_rt {r : RC} {n : Int} (h0 : 0 ≤ n) (hid : r.id.size ≤ 1000000) (hd : r.d = dR r.id n) (hE : mE 2 2 sN (fun _ => 1) (gN r.id n) = 0) (w : World) : Calls Try.prog 9 #[.string r.id, .int .i64 n] w (RT w r) := by
  refine (recV_any r n h0 hid hd hE w).mono ?_
  rintro e w' ⟨ad, cp, rfl, h, hb⟩
  exact ⟨ad, cp, rfl, h.mono (Nat.zero_le _), hb⟩
theorem neg_rt {r : RC} {n : Int} (h0 : n < 0) (hid : r.id.size ≤ 1000000) (hd : r.d = dZ r.id) (hE : mE 2 2 sN (fun _ => 1) (gZ r.id) = 0) (w : World) : Calls Try.prog 9 #[.string r.id, .int .i64 n] w (RT w r) := by
  refine (recN_any r n h0 hid hd hE w).mono ?_
  rintro e w' ⟨ad, cp, rfl, h, hb⟩
  exact ⟨ad, cp, rfl, h.mono (Nat.zero_le _), hb⟩
theorem small_pt (w : World) : Calls Try.prog 8 #[] w fun e w' => ∃ a1 c1 a2 c2, e = .returned (.agg #[.string t0.name, .int .i64 t0.most, .slice a1 t0.uq.length c1, .slice a2 t0.rows.length c2]) ∧ TVs 0 w' t0 a1 c1 a2 c2 ∧ Below w.heap.size w w' := by
  refine (small_any w).mono ?_
  rintro e w' ⟨a1, c1, a2, c2, rfl, h, hb⟩
  exact ⟨a1, c1, a2, c2, rfl, h.mono (Nat.zero_le _), hb⟩
set_option maxRecDepth 20000 in
set_option maxHeartbeats 40000000 in
theorem names_walk (w : World) : Calls Try.prog 3 #[] w fun e w' => e = .returned (.bool true) ∧ Below w.heap.size w w' := by
  have HA := Lib.hid (fun W => alive_any W)
  have HSM := Lib.hid (fun W => small_pt W)
  have HRA5 : Hid (∀ W, Calls Try.prog 9 #[.string ⟨#[97]⟩, .int .i64 5] W (RT W ra5)) := Lib.hid (fun W => rec_rt (r := ra5) (n := 5) (by decide) (by decide) rfl ra5_ok W)
  have HRB1 : Hid (∀ W, Calls Try.prog 9 #[.string ⟨#[98]⟩, .int .i64 1] W (RT W rb1)) := Lib.hid (fun W => rec_rt (r := rb1) (n := 1) (by decide) (by decide) rfl rb1_ok W)
  have HRA3 : Hid (∀ W, Calls Try.prog 9 #[.string ⟨#[97]⟩, .int .i64 3] W (RT W ra3)) := Lib.hid (fun W => rec_rt (r := ra3) (n := 3) (by decide) (by decide) rfl ra3_ok W)
  have HRB3 : Hid (∀ W, Calls Try.prog 9 #[.string ⟨#[98]⟩, .int .i64 3] W (RT W rb3)) := Lib.hid (fun W => rec_rt (r := rb3) (n := 3) (by decide) (by decide) rfl rb3_ok W)
  have HRBN : Hid (∀ W, Calls Try.prog 9 #[.string ⟨#[98]⟩, .int .i64 (-1)] W (RT W rbn)) := Lib.hid (fun W => neg_rt (r := rbn) (n := -1) (by decide) (by decide) rfl rbn_ok W)
  have HRCN : Hid (∀ W, Calls Try.prog 9 #[.string ⟨#[99]⟩, .int .i64 (-1)] W (RT W rcn)) := Lib.hid (fun W => neg_rt (r := rcn) (n := -1) (by decide) (by decide) rfl rcn_ok W)
  have HRY : Hid (∀ W, Calls Try.prog 9 #[.string ⟨#[121]⟩, .int .i64 1] W (RT W ⟨yS, dR yS 1⟩)) := Lib.hid (fun W => rec_rt (r := ⟨yS, dR yS 1⟩) (n := 1) (by decide) (by decide) rfl ry1_ok W)
  have HP1 := Lib.hid (put_pt (B := 0) (B' := 0) (k := 1) n_1 (by decide) sm_t0 sm_ra5)
  have HP2 := Lib.hid (put_pt (B := 0) (B' := 0) (k := 1) n_2 (by decide) sm_t0 sm_rb1)
  have HP3 := Lib.hid (put_pt (B := 0) (B' := 0) (k := 1) n_3 (by decide) sm_m3 sm_rbn)
  have HP4 := Lib.hid (put_pt (B := 0) (B' := 0) (k := 2) n_4 (by decide) sm_m4 sm_rcn)
  have HP5 := Lib.hid (set_pt (B := 0) (B' := 0) (k := 1) n_5 (by decide) sm_t0 sm_ra3)
  have HP6 := Lib.hid (set_pt (B := 0) (B' := 0) (k := 1) n_6 (by decide) sm_t0 sm_rb3)
  have HP8 := Lib.hid (put_pt (B := 0) (B' := 0) (k := 1) n_8 (by decide) sm_t0 sm_rzy)
  have HP7 := Lib.hid (drop_pt (B := 0) (k := 1) n_7 (by decide) sm_t0)
  go_enter Try.func3, Try.ntmps3
  go_wp2_with fail
  refine (HSM.out _).mono ?_
  rintro e' wa1 ⟨a11, c11, a21, c21, rfl, va1, ba1⟩
  have VA1 := Lib.hid va1
  have BA1 := Lib.hid ba1
  clear va1 ba1
  go_wp2_with fail
  refine (HRA5.out _).mono ?_
  rintro e' wb1 ⟨ad1, cp1, rfl, db1, bb1⟩
  have VB1 := Lib.hid (VA1.out.below bb1)
  have DB1 := Lib.hid db1
  have BB1 := Lib.hid (BA1.out.trans (bb1.mono BA1.out.size))
  clear db1 bb1 VA1 BA1
  go_wp2_with fail
  refine (HP1.out _ _ _ _ _ _ _ VB1.out DB1.out).mono ?_
  rintro e' wc1 ⟨e11, f11, e21, f21, rfl, vc1, bc1⟩
  have BC1 := Lib.hid ((BB1.out.trans (bc1.mono BB1.out.size)).alloc (BB1.out.trans (bc1.mono BB1.out.size)).size (.cells #[.string zT.name, .int .i64 zT.most, .slice e11 zT.uq.length f11, .slice e21 zT.rows.length f21] 25))
  clear vc1 bc1 VB1 DB1 BB1 HP1 HRA5
  go_wp2_with fail
  refine (HSM.out _).mono ?_
  rintro e' wa2 ⟨a12, c12, a22, c22, rfl, va2, ba2⟩
  have VA2 := Lib.hid va2
  have BA2 := Lib.hid ba2
  clear va2 ba2
  go_wp2_with fail
  refine (HRB1.out _).mono ?_
  rintro e' wb2 ⟨ad2, cp2, rfl, db2, bb2⟩
  have VB2 := Lib.hid (VA2.out.below bb2)
  have DB2 := Lib.hid db2
  have BB2 := Lib.hid (BA2.out.trans (bb2.mono BA2.out.size))
  clear db2 bb2 VA2 BA2
  go_wp2_with fail
  refine (HP2.out _ _ _ _ _ _ _ VB2.out DB2.out).mono ?_
  rintro e' wc2 ⟨e12, f12, e22, f22, rfl, vc2, bc2⟩
  have BC2 := Lib.hid ((BB2.out.trans (bc2.mono BB2.out.size)).alloc (BB2.out.trans (bc2.mono BB2.out.size)).size (.cells #[.string zT.name, .int .i64 zT.most, .slice e12 zT.uq.length f12, .slice e22 zT.rows.length f22] 25))
  clear vc2 bc2 VB2 DB2 BB2 HP2 HRB1
  go_wp2_with fail
  refine (HSM.out _).mono ?_
  rintro e' wa3 ⟨a13, c13, a23, c23, rfl, va3, ba3⟩
  have VA3 := Lib.hid va3
  have BA3 := Lib.hid ba3
  clear va3 ba3
  go_wp2_with fail
  obtain ⟨p, hp⟩ : ∃ p, p = wa3.heap.size := ⟨_, rfl⟩
  obtain ⟨X, hX⟩ : ∃ X, X = wa3.alloc (.cells #[.string t0.name, .int .i64 3, .slice a13 t0.uq.length c13, .slice a23 t0.rows.length c23] 25) := ⟨_, rfl⟩
  have QX : Hid (Bx4 X p 25 (.string m3.name) (.int .i64 m3.most) (.slice a13 m3.uq.length c13) (.slice a23 m3.rows.length c23)) := Lib.hid (by rw [hX, hp]; exact bx4_new wa3 _ _ _ _ _)
  have BX : Hid (Below wa3.heap.size wa3 X) := Lib.hid (by rw [hX]; exact (Below.refl _ _).alloc (Nat.le_refl _) _)
  have VX : Hid (TVs 0 X m3 a13 c13 a23 c23) := Lib.hid (m3_of (VA3.out.below BX.out))
  have HPL : Hid (wa3.heap.size ≤ p) := Lib.hid (Nat.le_of_eq hp.symm)
  rw [← hX, ← hp]
  clear hX hp VA3
  have QD := Lib.hid (QX.out.up (Below.refl X.heap.size X).drew)
  have VD := Lib.hid (VX.out.below (Below.refl X.heap.size X).drew)
  have y0 := QD.out.c0
  have y1 := QD.out.c1
  have y2 := QD.out.c2
  have y3 := QD.out.c3
  clear QX VX
  go_region_law (first
    | (go_simp; refine (HRBN.out _).mono ?_; rintro e' wr ⟨adn, cpn, rfl, dn, bn⟩; have QR := Lib.hid (QD.out.up bn); have VR := Lib.hid (VD.out.below bn); have DR := Lib.hid dn; have BR := Lib.hid bn; have x0 := QR.out.c0; have x1 := QR.out.c1; have x2 := QR.out.c2; have x3 := QR.out.c3; clear dn bn)
    | (go_simp; refine (HP3.out _ _ _ _ _ _ _ VR.out DR.out).mono ?_; rintro e' wp ⟨e14, f14, e24, f24, rfl, vp, bp⟩; have QP := Lib.hid (QR.out.up bp); have VP := Lib.hid vp; have LP := Lib.hid QR.out.lt; have BP := Lib.hid (BR.out.trans (bp.mono BR.out.size)); have z0 := QP.out.c0; have z1 := QP.out.c1; have z2 := QP.out.c2; have z3 := QP.out.c3; have g0 := QP.out.fz 0; have g1 := QP.out.fz 1; have g2 := QP.out.fz 2; have g3 := QP.out.fz 3; clear vp bp))
  all_goals have Q4 := Lib.hid (QP.out.set4 (.string m4.name) (.int .i64 m4.most) (.slice e14 m4.uq.length f14) (.slice e24 m4.rows.length f24))
  all_goals have B4 : Hid (Below wa3.heap.size wa3 (W4 wp p (.string m4.name) (.int .i64 m4.most) (.slice e14 m4.uq.length f14) (.slice e24 m4.rows.length f24))) := Lib.hid (w4_below ((BX.out.drew).trans (BP.out.mono (BX.out.drew).size)) HPL.out _ _ _ _)
  all_goals have V4 : Hid (TVs 0 (W4 wp p (.string m4.name) (.int .i64 m4.most) (.slice e14 m4.uq.length f14) (.slice e24 m4.rows.length f24)) m4 e14 f14 e24 f24) := Lib.hid ((VP.out.set4 LP.out _ _ _ _).mono (Nat.zero_le _))
  all_goals change _ at Q4
  all_goals clear QP VP BP LP QR VR DR BR z0 z1 z2 z3 g0 g1 g2 g3 x0 x1 x2 x3 y0 y1 y2 y3 QD VD
  all_goals (obtain ⟨Y, hY⟩ : ∃ W, W = W4 wp p (.string m4.name) (.int .i64 m4.most) (.slice e14 m4.uq.length f14) (.slice e24 m4.rows.length f24) := ⟨_, rfl⟩)
  all_goals rw [← hY] at Q4 B4 V4
  all_goals (unfold W4 at hY)
  all_goals rw [← hY]
  all_goals clear hY
  all_goals have QD := Lib.hid (Q4.out.up (Below.refl Y.heap.size Y).drew)
  all_goals have VD := Lib.hid (V4.out.below (Below.refl Y.heap.size Y).drew)
  all_goals have y0 := QD.out.c0
  all_goals have y1 := QD.out.c1
  all_goals have y2 := QD.out.c2
  all_goals have y3 := QD.out.c3
  all_goals clear Q4 V4
  all_goals (go_wp2_with fail)
  all_goals go_region_law (first
    | (go_simp; refine (HRCN.out _).mono ?_; rintro e' wr ⟨adn, cpn, rfl, dn, bn⟩; have QR := Lib.hid (QD.out.up bn); have VR := Lib.hid (VD.out.below bn); have DR := Lib.hid dn; have BR := Lib.hid bn; have x0 := QR.out.c0; have x1 := QR.out.c1; have x2 := QR.out.c2; have x3 := QR.out.c3; clear dn bn)
    | (go_simp; refine (HP4.out _ _ _ _ _ _ _ VR.out DR.out).mono ?_; rintro e' wp ⟨e15, f15, e25, f25, rfl, vp, bp⟩; have QP := Lib.hid (QR.out.up bp); have VP := Lib.hid vp; have LP := Lib.hid QR.out.lt; have BP := Lib.hid (BR.out.trans (bp.mono BR.out.size)); have z0 := QP.out.c0; have z1 := QP.out.c1; have z2 := QP.out.c2; have z3 := QP.out.c3; have g0 := QP.out.fz 0; have g1 := QP.out.fz 1; have g2 := QP.out.fz 2; have g3 := QP.out.fz 3; clear vp bp))
  all_goals have Q5 := Lib.hid (QP.out.set4 (.string m5.name) (.int .i64 m5.most) (.slice e15 m5.uq.length f15) (.slice e25 m5.rows.length f25))
  all_goals have B5 : Hid (Below wa3.heap.size wa3 (W4 wp p (.string m5.name) (.int .i64 m5.most) (.slice e15 m5.uq.length f15) (.slice e25 m5.rows.length f25))) := Lib.hid (w4_below ((B4.out.drew).trans (BP.out.mono (B4.out.drew).size)) HPL.out _ _ _ _)
  all_goals have V5 : Hid (TVs 0 (W4 wp p (.string m5.name) (.int .i64 m5.most) (.slice e15 m5.uq.length f15) (.slice e25 m5.rows.length f25)) m5 e15 f15 e25 f25) := Lib.hid ((VP.out.set4 LP.out _ _ _ _).mono (Nat.zero_le _))
  all_goals change _ at Q5
  all_goals clear QP VP BP LP QR VR DR BR z0 z1 z2 z3 g0 g1 g2 g3 x0 x1 x2 x3 y0 y1 y2 y3 QD VD
  all_goals (obtain ⟨Z, hZ⟩ : ∃ W, W = W4 wp p (.string m5.name) (.int .i64 m5.most) (.slice e15 m5.uq.length f15) (.slice e25 m5.rows.length f25) := ⟨_, rfl⟩)
  all_goals rw [← hZ] at Q5 B5 V5
  all_goals (unfold W4 at hZ)
  all_goals rw [← hZ]
  all_goals clear hZ
  all_goals
    go_wp2_with fail
    refine (HSM.out _).mono ?_
    rintro e' wa7 ⟨a17, c17, a27, c27, rfl, va7, ba7⟩
    have VA7 := Lib.hid va7
    have BA7 := Lib.hid ba7
    clear va7 ba7
    go_wp2_with fail
    refine (HRA3.out _).mono ?_
    rintro e' wb7 ⟨ad7, cp7, rfl, db7, bb7⟩
    have VB7 := Lib.hid (VA7.out.below bb7)
    have DB7 := Lib.hid db7
    have BB7 := Lib.hid (BA7.out.trans (bb7.mono BA7.out.size))
    clear db7 bb7 VA7 BA7
    go_wp2_with fail
    refine (HP5.out _ _ _ _ _ _ _ VB7.out DB7.out).mono ?_
    rintro e' wc7 ⟨e17, f17, e27, f27, rfl, vc7, bc7⟩
    have BC7 := Lib.hid ((BB7.out.trans (bc7.mono BB7.out.size)).alloc (BB7.out.trans (bc7.mono BB7.out.size)).size (.cells #[.string m6.name, .int .i64 m6.most, .slice e17 m6.uq.length f17, .slice e27 m6.rows.length f27] 25))
    have K7 := Lib.hid (bx4_new wc7 25 (.string m6.name) (.int .i64 m6.most) (.slice e17 m6.uq.length f17) (.slice e27 m6.rows.length f27))
    have V7 := Lib.hid ((vc7.mono (B' := 0) (Nat.zero_le _)).below ((Below.refl _ _).alloc (Nat.le_refl _) (.cells #[.string m6.name, .int .i64 m6.most, .slice e17 m6.uq.length f17, .slice e27 m6.rows.length f27] 25)))
    clear vc7 bc7 VB7 DB7 BB7 HP5
    go_wp2_with fail
    refine (HSM.out _).mono ?_
    rintro e' wa8 ⟨a18, c18, a28, c28, rfl, va8, ba8⟩
    have VA8 := Lib.hid va8
    have BA8 := Lib.hid ba8
    clear va8 ba8
    go_wp2_with fail
    refine (HRB3.out _).mono ?_
    rintro e' wb8 ⟨ad8, cp8, rfl, db8, bb8⟩
    have VB8 := Lib.hid (VA8.out.below bb8)
    have DB8 := Lib.hid db8
    have BB8 := Lib.hid (BA8.out.trans (bb8.mono BA8.out.size))
    clear db8 bb8 VA8 BA8
    go_wp2_with fail
    refine (HP6.out _ _ _ _ _ _ _ VB8.out DB8.out).mono ?_
    rintro e' wc8 ⟨e18, f18, e28, f28, rfl, vc8, bc8⟩
    have BC8 := Lib.hid ((BB8.out.trans (bc8.mono BB8.out.size)).alloc (BB8.out.trans (bc8.mono BB8.out.size)).size (.cells #[.string zT.name, .int .i64 zT.most, .slice e18 zT.uq.length f18, .slice e28 zT.rows.length f28] 25))
    clear vc8 bc8 VB8 DB8 BB8 HP6 HRB3
    go_wp2_with fail
    refine (HSM.out _).mono ?_
    rintro e' wb9 ⟨a19, c19, a29, c29, rfl, vb9, bb9⟩
    have VB9 := Lib.hid vb9
    have BB9 := Lib.hid bb9
    clear vb9 bb9
    go_wp2_with fail
    refine (HP7.out _ _ _ _ _ VB9.out).mono ?_
    rintro e' wc9 ⟨e19, f19, e29, f29, rfl, vc9, bc9⟩
    have BC9 := Lib.hid ((BB9.out.trans (bc9.mono BB9.out.size)).alloc (BB9.out.trans (bc9.mono BB9.out.size)).size (.cells #[.string zT.name, .int .i64 zT.most, .slice e19 zT.uq.length f19, .slice e29 zT.rows.length f29] 25))
    clear vc9 bc9 VB9 BB9 HP7
    go_wp2_with fail
    refine (HSM.out _).mono ?_
    rintro e' wa10 ⟨a110, c110, a210, c210, rfl, va10, ba10⟩
    have VA10 := Lib.hid va10
    have BA10 := Lib.hid ba10
    clear va10 ba10
    go_wp2_with fail
    refine (HRY.out _).mono ?_
    rintro e' wb10 ⟨ad10, cp10, rfl, db10, bb10⟩
    have VB10 := Lib.hid (VA10.out.below bb10)
    have DB10 := Lib.hid db10
    have BB10 := Lib.hid (BA10.out.trans (bb10.mono BA10.out.size))
    clear db10 bb10 VA10 BA10
    have hfl := fld1
    go_wp2_with fail
    clear hfl
    refine (HP8.out _ _ _ _ _ _ _ VB10.out DB10.out).mono ?_
    rintro e' wc10 ⟨e110, f110, e210, f210, rfl, vc10, bc10⟩
    have BC10 := Lib.hid ((BB10.out.trans (bc10.mono BB10.out.size)).alloc (BB10.out.trans (bc10.mono BB10.out.size)).size (.cells #[.string zT.name, .int .i64 zT.most, .slice e110 zT.uq.length f110, .slice e210 zT.rows.length f210] 25))
    clear vc10 bc10 VB10 DB10 BB10 HP8 HRY HSM
    obtain ⟨y8, hy8⟩ : ∃ y, y = wc7.heap.size := ⟨_, rfl⟩
    rw [← hy8] at K7
    have G8 := Lib.hid (BC8.out.trans (BC9.out.mono BC8.out.size))
    have G9 := Lib.hid (G8.out.trans (BC10.out.mono G8.out.size))
    have G7 := Lib.hid (BC7.out.trans (G9.out.mono BC7.out.size))
    have QF := Lib.hid (Q5.out.up G7.out)
    have KF := Lib.hid (K7.out.up G9.out)
    have VF := Lib.hid (V7.out.below G9.out)
    have BF : Hid (Below w.heap.size w (wc10.alloc (.cells #[.string zT.name, .int .i64 zT.most, .slice e110 zT.uq.length f110, .slice e210 zT.rows.length f210] 25))) := Lib.hid (by
      have g1 := BC1.out.trans (BC2.out.mono BC1.out.size)
      have g2 := g1.trans (BA3.out.mono g1.size)
      have g3 := g2.trans (B5.out.mono g2.size)
      exact g3.trans (G7.out.mono g3.size))
    obtain ⟨F, hF⟩ : ∃ F, F = wc10.alloc (.cells #[.string zT.name, .int .i64 zT.most, .slice e110 zT.uq.length f110, .slice e210 zT.rows.length f210] 25) := ⟨_, rfl⟩
    rw [← hF] at QF KF VF BF
    obtain ⟨rb0, ro0, rfl⟩ := VF.out.r.addr (by decide : 0 < m6.rows.length)
    obtain ⟨adr, cpr, _, _, h5, h6, h7⟩ := VF.out.r.at_ (i := 0) (by decide)
    have HRW : Hid (∀ w', Below F.heap.size F w' → w'.cell? ⟨rb0, ro0, none⟩ = some (.string ra3.id) ∧ w'.cell? ⟨rb0, ro0 + 1, none⟩ = some (.slice adr ra3.d.length cpr)) := Lib.hid (fun w' k => ⟨(k.cell (p := ⟨rb0, ro0, none⟩) (World.block_lt_of_cell? _ _ h5)).trans h5, (k.cell (p := ⟨rb0, ro0 + 1, none⟩) (World.block_lt_of_cell? _ _ h6)).trans h6⟩)
    have DR3 : Hid (DV 0 F adr cpr ra3.d) := Lib.hid h7
    have HSR := Lib.hid (fun W ad cp ae ce (u : DV 0 W ad cp ra3.d) (v : DV 0 W ae ce ra3.d) => sameR_any 0 0 ra3 ra3 ad ae cp ce W u v (by decide))
    unfold rv at HSR
    rw [decide_eq_true rfl] at HSR
    clear h5 h6 h7
    have HS : Hid (∀ w', Below F.heap.size F w' → (fun w' => Below F.heap.size F w' ∧ w'.cell? ⟨p, 3, none⟩ = some (.slice e25 m5.rows.length f25) ∧ w'.cell? ⟨y8, 3, none⟩ = some (.slice (some ⟨rb0, ro0, none⟩) m6.rows.length f27) ∧ w'.cell? ⟨rb0, ro0, none⟩ = some (.string ra3.id) ∧ w'.cell? ⟨rb0, ro0 + 1, none⟩ = some (.slice adr ra3.d.length cpr)) w') := Lib.hid (fun w' k => ⟨k, (QF.out.up k).c3, (KF.out.up k).c3, (HRW.out w' k).1, (HRW.out w' k).2⟩)
    have hl5 : ((m5.rows.length : Int) == 3) = true := by decide
    have hb6 : (0 : Int) < (m6.rows.length : Int) := by decide
    have hb6n : 0 < m6.rows.length := by decide
    go_wp2_with fail
    rw [← hF, ← hy8]
    clear hF hy8 QF KF VF HRW G7 G8 G9 BC7 BC8 BC9 BC10 BC1 BC2 BA3 B5 B4 Q5 K7 V7 V5
    refine wp_region_held_drew (S := (fun w' => Below F.heap.size F w' ∧ w'.cell? ⟨p, 3, none⟩ = some (.slice e25 m5.rows.length f25) ∧ w'.cell? ⟨y8, 3, none⟩ = some (.slice (some ⟨rb0, ro0, none⟩) m6.rows.length f27) ∧ w'.cell? ⟨rb0, ro0, none⟩ = some (.string ra3.id) ∧ w'.cell? ⟨rb0, ro0 + 1, none⟩ = some (.slice adr ra3.d.length cpr))) (by kernel_rfl) (HS.out _ ((Below.refl _ _).drew)) (fun hHeld => ?_)
    refine wpAnyH_take (i := 0) (oi := { dst := some 67, op := Op.move (Operand.const (Value.bool true)), type := 4, pos := "outright.go:48", after := #[], guard := none }) (v := ?_) rfl (by kernel_rfl) (by kernel_rfl) (by kernel_rfl) (fun _ _ _ h => h) (Or.inl ⟨by rfl, ?_⟩) hHeld ?_
    rotate_left
    · (intro w hSw; (try dsimp only at hSw); go_simp <;> with_reducible rfl)
    try simp only [Act.put, List.setIfInBounds_toArray, List.set_cons_zero, List.set_cons_succ]
    refine wpAnyH_ready (rs := [1]) (by kernel_rfl) (by simp) (AllReadyH.cons (o := { dst := some 68, op := Op.call { callee := Callee.value (Operand.func 12), args := #[], argTypes := #[] }, type := 4, pos := "outright.go:48", after := #[{ on := 0, ground := Ground.chain }, { on := 0, ground := Ground.guard }], guard := some (0, true) }) rfl (fun K1 hK1 => ?_) AllReadyH.nil)
    go_simp
    refine (HA.out _).mono ?_
    rintro e' wq ⟨rfl, bq⟩
    refine hK1.out _ _ (HS.out _ (hHeld.1.trans (bq.mono hHeld.1.size))) (fun hH_1 => ?_)
    clear bq
    clear hK1 K1
    try simp only [Act.put, List.setIfInBounds_toArray, List.set_cons_zero, List.set_cons_succ]
    refine wpAnyH_take (i := 2) (oi := { dst := some 69, op := Op.pick (Operand.tmp 67) (Operand.tmp 68) (Operand.const (Value.bool false)), type := 4, pos := "outright.go:48", after := #[{ on := 0, ground := Ground.data }, { on := 1, ground := Ground.data }], guard := none }) (v := ?_) rfl (by kernel_rfl) (by kernel_rfl) (by kernel_rfl) (fun _ _ _ h => h) (Or.inl ⟨by rfl, ?_⟩) hH_1 ?_
    rotate_left
    · (intro w hSw; (try dsimp only at hSw); go_simp <;> with_reducible rfl)
    try simp only [Act.put, List.setIfInBounds_toArray, List.set_cons_zero, List.set_cons_succ]
    refine wpAnyH_take (i := 3) (oi := { dst := some 70, op := Op.move (Operand.tmp 69), type := 4, pos := "outright.go:48", after := #[{ on := 2, ground := Ground.data }, { on := 1, ground := Ground.chain }], guard := none }) (v := ?_) rfl (by kernel_rfl) (by kernel_rfl) (by kernel_rfl) (fun _ _ _ h => h) (Or.inl ⟨by rfl, ?_⟩) hH_1 ?_
    rotate_left
    · (intro w hSw; (try dsimp only at hSw); go_simp <;> with_reducible rfl)
    try simp only [Act.put, List.setIfInBounds_toArray, List.set_cons_zero, List.set_cons_succ]
    refine wpAnyH_take (i := 4) (oi := { dst := some 71, op := Op.move (Operand.tmp 2), type := 26, pos := "outright.go:48", after := #[{ on := 3, ground := Ground.guard }], guard := some (3, true) }) (v := ?_) rfl (by kernel_rfl) (by kernel_rfl) (by kernel_rfl) (fun _ _ _ h => h) (Or.inl ⟨by rfl, ?_⟩) hH_1 ?_
    rotate_left
    · (intro w hSw; (try dsimp only at hSw); go_simp <;> with_reducible rfl)
    try simp only [Act.put, List.setIfInBounds_toArray, List.set_cons_zero, List.set_cons_succ]
    refine wpAnyH_take (i := 5) (oi := { dst := some 72, op := Op.binOp BinOp.eql 26 (Operand.tmp 71) (Operand.const (Value.int IntKind.i64 271)) 26, type := 4, pos := "outright.go:48", after := #[{ on := 4, ground := Ground.data }, { on := 3, ground := Ground.guard }], guard := some (3, true) }) (v := ?_) rfl (by kernel_rfl) (by kernel_rfl) (by kernel_rfl) (fun _ _ _ h => h) (Or.inl ⟨by rfl, ?_⟩) hH_1 ?_
    rotate_left
    · (intro w hSw; (try dsimp only at hSw); go_simp <;> with_reducible rfl)
    try simp only [Act.put, List.setIfInBounds_toArray, List.set_cons_zero, List.set_cons_succ]
    refine wpAnyH_take (i := 6) (oi := { dst := some 73, op := Op.pick (Operand.tmp 70) (Operand.tmp 72) (Operand.const (Value.bool false)), type := 4, pos := "outright.go:48", after := #[{ on := 3, ground := Ground.data }, { on := 5, ground := Ground.data }], guard := none }) (v := ?_) rfl (by kernel_rfl) (by kernel_rfl) (by kernel_rfl) (fun _ _ _ h => h) (Or.inl ⟨by rfl, ?_⟩) hH_1 ?_
    rotate_left
    · (intro w hSw; (try dsimp only at hSw); go_simp <;> with_reducible rfl)
    try simp only [Act.put, List.setIfInBounds_toArray, List.set_cons_zero, List.set_cons_succ]
    refine wpAnyH_take (i := 7) (oi := { dst := some 74, op := Op.move (Operand.tmp 73), type := 4, pos := "outright.go:48", after := #[{ on := 6, ground := Ground.data }, { on := 3, ground := Ground.chain }], guard := none }) (v := ?_) rfl (by kernel_rfl) (by kernel_rfl) (by kernel_rfl) (fun _ _ _ h => h) (Or.inl ⟨by rfl, ?_⟩) hH_1 ?_
    rotate_left
    · (intro w hSw; (try dsimp only at hSw); go_simp <;> with_reducible rfl)
    try simp only [Act.put, List.setIfInBounds_toArray, List.set_cons_zero, List.set_cons_succ]
    refine wpAnyH_take (i := 8) (oi := { dst := some 75, op := Op.move (Operand.tmp 4), type := 26, pos := "outright.go:48", after := #[{ on := 7, ground := Ground.guard }], guard := some (7, true) }) (v := ?_) rfl (by kernel_rfl) (by kernel_rfl) (by kernel_rfl) (fun _ _ _ h => h) (Or.inl ⟨by rfl, ?_⟩) hH_1 ?_
    rotate_left
    · (intro w hSw; (try dsimp only at hSw); go_simp <;> with_reducible rfl)
    try simp only [Act.put, List.setIfInBounds_toArray, List.set_cons_zero, List.set_cons_succ]
    refine wpAnyH_take (i := 9) (oi := { dst := some 76, op := Op.binOp BinOp.eql 26 (Operand.tmp 75) (Operand.const (Value.int IntKind.i64 271)) 26, type := 4, pos := "outright.go:48", after := #[{ on := 8, ground := Ground.data }, { on := 7, ground := Ground.guard }], guard := some (7, true) }) (v := ?_) rfl (by kernel_rfl) (by kernel_rfl) (by kernel_rfl) (fun _ _ _ h => h) (Or.inl ⟨by rfl, ?_⟩) hH_1 ?_
    rotate_left
    · (intro w hSw; (try dsimp only at hSw); go_simp <;> with_reducible rfl)
    try simp only [Act.put, List.setIfInBounds_toArray, List.set_cons_zero, List.set_cons_succ]
    refine wpAnyH_take (i := 10) (oi := { dst := some 77, op := Op.pick (Operand.tmp 74) (Operand.tmp 76) (Operand.const (Value.bool false)), type := 4, pos := "outright.go:48", after := #[{ on := 7, ground := Ground.data }, { on := 9, ground := Ground.data }], guard := none }) (v := ?_) rfl (by kernel_rfl) (by kernel_rfl) (by kernel_rfl) (fun _ _ _ h => h) (Or.inl ⟨by rfl, ?_⟩) hH_1 ?_
    rotate_left
    · (intro w hSw; (try dsimp only at hSw); go_simp <;> with_reducible rfl)
    try simp only [Act.put, List.setIfInBounds_toArray, List.set_cons_zero, List.set_cons_succ]
    refine wpAnyH_take (i := 11) (oi := { dst := some 78, op := Op.move (Operand.tmp 77), type := 4, pos := "outright.go:48", after := #[{ on := 10, ground := Ground.data }, { on := 7, ground := Ground.chain }], guard := none }) (v := ?_) rfl (by kernel_rfl) (by kernel_rfl) (by kernel_rfl) (fun _ _ _ h => h) (Or.inl ⟨by rfl, ?_⟩) hH_1 ?_
    rotate_left
    · (intro w hSw; (try dsimp only at hSw); go_simp <;> with_reducible rfl)
    try simp only [Act.put, List.setIfInBounds_toArray, List.set_cons_zero, List.set_cons_succ]
    refine wpAnyH_take (i := 12) (oi := { dst := some 79, op := Op.move (Operand.tmp 6), type := 26, pos := "outright.go:48", after := #[{ on := 11, ground := Ground.guard }], guard := some (11, true) }) (v := ?_) rfl (by kernel_rfl) (by kernel_rfl) (by kernel_rfl) (fun _ _ _ h => h) (Or.inl ⟨by rfl, ?_⟩) hH_1 ?_
    rotate_left
    · (intro w hSw; (try dsimp only at hSw); go_simp <;> with_reducible rfl)
    try simp only [Act.put, List.setIfInBounds_toArray, List.set_cons_zero, List.set_cons_succ]
    refine wpAnyH_take (i := 13) (oi := { dst := some 80, op := Op.binOp BinOp.eql 26 (Operand.tmp 79) (Operand.const (Value.int IntKind.i64 0)) 26, type := 4, pos := "outright.go:48", after := #[{ on := 12, ground := Ground.data }, { on := 11, ground := Ground.guard }], guard := some (11, true) }) (v := ?_) rfl (by kernel_rfl) (by kernel_rfl) (by kernel_rfl) (fun _ _ _ h => h) (Or.inl ⟨by rfl, ?_⟩) hH_1 ?_
    rotate_left
    · (intro w hSw; (try dsimp only at hSw); go_simp <;> with_reducible rfl)
    try simp only [Act.put, List.setIfInBounds_toArray, List.set_cons_zero, List.set_cons_succ]
    refine wpAnyH_take (i := 14) (oi := { dst := some 81, op := Op.pick (Operand.tmp 78) (Operand.tmp 80) (Operand.const (Value.bool false)), type := 4, pos := "outright.go:48", after := #[{ on := 11, ground := Ground.data }, { on := 13, ground := Ground.data }], guard := none }) (v := ?_) rfl (by kernel_rfl) (by kernel_rfl) (by kernel_rfl) (fun _ _ _ h => h) (Or.inl ⟨by rfl, ?_⟩) hH_1 ?_
    rotate_left
    · (intro w hSw; (try dsimp only at hSw); go_simp <;> with_reducible rfl)
    try simp only [Act.put, List.setIfInBounds_toArray, List.set_cons_zero, List.set_cons_succ]
    refine wpAnyH_take (i := 15) (oi := { dst := some 82, op := Op.move (Operand.tmp 81), type := 4, pos := "outright.go:48", after := #[{ on := 14, ground := Ground.data }, { on := 11, ground := Ground.chain }], guard := none }) (v := ?_) rfl (by kernel_rfl) (by kernel_rfl) (by kernel_rfl) (fun _ _ _ h => h) (Or.inl ⟨by rfl, ?_⟩) hH_1 ?_
    rotate_left
    · (intro w hSw; (try dsimp only at hSw); go_simp <;> with_reducible rfl)
    try simp only [Act.put, List.setIfInBounds_toArray, List.set_cons_zero, List.set_cons_succ]
    refine wpAnyH_take (i := 16) (oi := { dst := some 83, op := Op.move (Operand.tmp 7), type := 26, pos := "outright.go:48", after := #[{ on := 15, ground := Ground.guard }], guard := some (15, true) }) (v := ?_) rfl (by kernel_rfl) (by kernel_rfl) (by kernel_rfl) (fun _ _ _ h => h) (Or.inl ⟨by rfl, ?_⟩) hH_1 ?_
    rotate_left
    · (intro w hSw; (try dsimp only at hSw); go_simp <;> with_reducible rfl)
    try simp only [Act.put, List.setIfInBounds_toArray, List.set_cons_zero, List.set_cons_succ]
    refine wpAnyH_take (i := 17) (oi := { dst := some 84, op := Op.binOp BinOp.eql 26 (Operand.tmp 83) (Operand.const (Value.int IntKind.i64 0)) 26, type := 4, pos := "outright.go:48", after := #[{ on := 16, ground := Ground.data }, { on := 15, ground := Ground.guard }], guard := some (15, true) }) (v := ?_) rfl (by kernel_rfl) (by kernel_rfl) (by kernel_rfl) (fun _ _ _ h => h) (Or.inl ⟨by rfl, ?_⟩) hH_1 ?_
    rotate_left
    · (intro w hSw; (try dsimp only at hSw); go_simp <;> with_reducible rfl)
    try simp only [Act.put, List.setIfInBounds_toArray, List.set_cons_zero, List.set_cons_succ]
    refine wpAnyH_take (i := 18) (oi := { dst := some 85, op := Op.pick (Operand.tmp 82) (Operand.tmp 84) (Operand.const (Value.bool false)), type := 4, pos := "outright.go:48", after := #[{ on := 15, ground := Ground.data }, { on := 17, ground := Ground.data }], guard := none }) (v := ?_) rfl (by kernel_rfl) (by kernel_rfl) (by kernel_rfl) (fun _ _ _ h => h) (Or.inl ⟨by rfl, ?_⟩) hH_1 ?_
    rotate_left
    · (intro w hSw; (try dsimp only at hSw); go_simp <;> with_reducible rfl)
    try simp only [Act.put, List.setIfInBounds_toArray, List.set_cons_zero, List.set_cons_succ]
    refine wpAnyH_take (i := 19) (oi := { dst := some 86, op := Op.move (Operand.tmp 85), type := 4, pos := "outright.go:48", after := #[{ on := 18, ground := Ground.data }, { on := 15, ground := Ground.chain }], guard := none }) (v := ?_) rfl (by kernel_rfl) (by kernel_rfl) (by kernel_rfl) (fun _ _ _ h => h) (Or.inl ⟨by rfl, ?_⟩) hH_1 ?_
    rotate_left
    · (intro w hSw; (try dsimp only at hSw); go_simp <;> with_reducible rfl)
    try simp only [Act.put, List.setIfInBounds_toArray, List.set_cons_zero, List.set_cons_succ]
    refine wpAnyH_take (i := 20) (oi := { dst := some 87, op := Op.fieldAddr 25 (Operand.tmp 5) 3, type := 0, pos := "outright.go:48", after := #[{ on := 19, ground := Ground.guard }], guard := some (19, true) }) (v := ?_) rfl (by kernel_rfl) (by kernel_rfl) (by kernel_rfl) (fun _ _ _ h => h) (Or.inl ⟨by rfl, ?_⟩) hH_1 ?_
    rotate_left
    · (intro w hSw; (try dsimp only at hSw); go_simp <;> with_reducible rfl)
    try simp only [Act.put, List.setIfInBounds_toArray, List.set_cons_zero, List.set_cons_succ]
    refine wpAnyH_take (i := 21) (oi := { dst := some 88, op := Op.load 23 (Operand.tmp 87), type := 23, pos := "outright.go:48", after := #[{ on := 20, ground := Ground.data }, { on := 19, ground := Ground.guard }], guard := some (19, true) }) (v := ?_) rfl (by kernel_rfl) (by kernel_rfl) (by kernel_rfl) (fun _ _ _ h => h) (Or.inl ⟨by rfl, ?_⟩) hH_1 ?_
    rotate_left
    · (intro w hSw; (try dsimp only at hSw); go_simp <;> with_reducible rfl)
    try simp only [Act.put, List.setIfInBounds_toArray, List.set_cons_zero, List.set_cons_succ]
    refine wpAnyH_take (i := 22) (oi := { dst := some 89, op := Op.call { callee := Callee.builtin Builtin.len, args := #[Operand.tmp 88], argTypes := #[23] }, type := 3, pos := "outright.go:48", after := #[{ on := 21, ground := Ground.data }, { on := 19, ground := Ground.guard }], guard := some (19, true) }) (v := ?_) rfl (by kernel_rfl) (by kernel_rfl) (by kernel_rfl) (fun _ _ _ h => h) (Or.inl ⟨by rfl, ?_⟩) hH_1 ?_
    rotate_left
    · (intro w hSw; (try dsimp only at hSw); go_simp <;> with_reducible rfl)
    try simp only [Act.put, List.setIfInBounds_toArray, List.set_cons_zero, List.set_cons_succ]
    refine wpAnyH_take (i := 23) (oi := { dst := some 90, op := Op.binOp BinOp.eql 3 (Operand.tmp 89) (Operand.const (Value.int IntKind.i64 3)) 3, type := 4, pos := "outright.go:48", after := #[{ on := 22, ground := Ground.data }, { on := 19, ground := Ground.guard }], guard := some (19, true) }) (v := ?_) rfl (by kernel_rfl) (by kernel_rfl) (by kernel_rfl) (fun _ _ _ h => h) (Or.inl ⟨by rfl, ?_⟩) hH_1 ?_
    rotate_left
    · (intro w hSw; (try dsimp only at hSw); go_simp <;> with_reducible rfl)
    try simp only [Act.put, List.setIfInBounds_toArray, List.set_cons_zero, List.set_cons_succ]
    refine wpAnyH_take (i := 24) (oi := { dst := some 91, op := Op.pick (Operand.tmp 86) (Operand.tmp 90) (Operand.const (Value.bool false)), type := 4, pos := "outright.go:48", after := #[{ on := 19, ground := Ground.data }, { on := 23, ground := Ground.data }], guard := none }) (v := ?_) rfl (by kernel_rfl) (by kernel_rfl) (by kernel_rfl) (fun _ _ _ h => h) (Or.inl ⟨by rfl, ?_⟩) hH_1 ?_
    rotate_left
    · (intro w hSw; (try dsimp only at hSw); go_simp <;> with_reducible rfl)
    try simp only [Act.put, List.setIfInBounds_toArray, List.set_cons_zero, List.set_cons_succ]
    refine wpAnyH_take (i := 25) (oi := { dst := some 92, op := Op.move (Operand.tmp 91), type := 4, pos := "outright.go:48", after := #[{ on := 24, ground := Ground.data }, { on := 19, ground := Ground.chain }], guard := none }) (v := ?_) rfl (by kernel_rfl) (by kernel_rfl) (by kernel_rfl) (fun _ _ _ h => h) (Or.inl ⟨by rfl, ?_⟩) hH_1 ?_
    rotate_left
    · (intro w hSw; (try dsimp only at hSw); go_simp <;> with_reducible rfl)
    try simp only [Act.put, List.setIfInBounds_toArray, List.set_cons_zero, List.set_cons_succ]
    refine wpAnyH_take (i := 26) (oi := { dst := some 93, op := Op.move (Operand.tmp 9), type := 26, pos := "outright.go:48", after := #[{ on := 25, ground := Ground.guard }], guard := some (25, true) }) (v := ?_) rfl (by kernel_rfl) (by kernel_rfl) (by kernel_rfl) (fun _ _ _ h => h) (Or.inl ⟨by rfl, ?_⟩) hH_1 ?_
    rotate_left
    · (intro w hSw; (try dsimp only at hSw); go_simp <;> with_reducible rfl)
    try simp only [Act.put, List.setIfInBounds_toArray, List.set_cons_zero, List.set_cons_succ]
    refine wpAnyH_take (i := 27) (oi := { dst := some 94, op := Op.binOp BinOp.eql 26 (Operand.tmp 93) (Operand.const (Value.int IntKind.i64 0)) 26, type := 4, pos := "outright.go:48", after := #[{ on := 26, ground := Ground.data }, { on := 25, ground := Ground.guard }], guard := some (25, true) }) (v := ?_) rfl (by kernel_rfl) (by kernel_rfl) (by kernel_rfl) (fun _ _ _ h => h) (Or.inl ⟨by rfl, ?_⟩) hH_1 ?_
    rotate_left
    · (intro w hSw; (try dsimp only at hSw); go_simp <;> with_reducible rfl)
    try simp only [Act.put, List.setIfInBounds_toArray, List.set_cons_zero, List.set_cons_succ]
    refine wpAnyH_take (i := 28) (oi := { dst := some 95, op := Op.pick (Operand.tmp 92) (Operand.tmp 94) (Operand.const (Value.bool false)), type := 4, pos := "outright.go:48", after := #[{ on := 25, ground := Ground.data }, { on := 27, ground := Ground.data }], guard := none }) (v := ?_) rfl (by kernel_rfl) (by kernel_rfl) (by kernel_rfl) (fun _ _ _ h => h) (Or.inl ⟨by rfl, ?_⟩) hH_1 ?_
    rotate_left
    · (intro w hSw; (try dsimp only at hSw); go_simp <;> with_reducible rfl)
    try simp only [Act.put, List.setIfInBounds_toArray, List.set_cons_zero, List.set_cons_succ]
    refine wpAnyH_take (i := 29) (oi := { dst := some 96, op := Op.move (Operand.tmp 95), type := 4, pos := "outright.go:48", after := #[{ on := 28, ground := Ground.data }, { on := 25, ground := Ground.chain }], guard := none }) (v := ?_) rfl (by kernel_rfl) (by kernel_rfl) (by kernel_rfl) (fun _ _ _ h => h) (Or.inl ⟨by rfl, ?_⟩) hH_1 ?_
    rotate_left
    · (intro w hSw; (try dsimp only at hSw); go_simp <;> with_reducible rfl)
    try simp only [Act.put, List.setIfInBounds_toArray, List.set_cons_zero, List.set_cons_succ]
    refine wpAnyH_take (i := 30) (oi := { dst := some 97, op := Op.fieldAddr 25 (Operand.tmp 8) 3, type := 0, pos := "outright.go:48", after := #[{ on := 29, ground := Ground.guard }], guard := some (29, true) }) (v := ?_) rfl (by kernel_rfl) (by kernel_rfl) (by kernel_rfl) (fun _ _ _ h => h) (Or.inl ⟨by rfl, ?_⟩) hH_1 ?_
    rotate_left
    · (intro w hSw; (try dsimp only at hSw); go_simp <;> with_reducible rfl)
    try simp only [Act.put, List.setIfInBounds_toArray, List.set_cons_zero, List.set_cons_succ]
    refine wpAnyH_take (i := 31) (oi := { dst := some 98, op := Op.load 23 (Operand.tmp 97), type := 23, pos := "outright.go:48", after := #[{ on := 30, ground := Ground.data }, { on := 29, ground := Ground.guard }], guard := some (29, true) }) (v := ?_) rfl (by kernel_rfl) (by kernel_rfl) (by kernel_rfl) (fun _ _ _ h => h) (Or.inl ⟨by rfl, ?_⟩) hH_1 ?_
    rotate_left
    · (intro w hSw; (try dsimp only at hSw); go_simp <;> with_reducible rfl)
    try simp only [Act.put, List.setIfInBounds_toArray, List.set_cons_zero, List.set_cons_succ]
    refine wpAnyH_take (i := 32) (oi := { dst := some 99, op := Op.indexAddr 23 (Operand.tmp 98) (Operand.const (Value.int IntKind.i64 0)), type := 0, pos := "outright.go:48", after := #[{ on := 31, ground := Ground.data }, { on := 29, ground := Ground.guard }], guard := some (29, true) }) (v := ?_) rfl (by kernel_rfl) (by kernel_rfl) (by kernel_rfl) (fun _ _ _ h => h) (Or.inl ⟨by rfl, ?_⟩) hH_1 ?_
    rotate_left
    · (intro w hSw; (try dsimp only at hSw); go_simp <;> with_reducible rfl)
    try simp only [Act.put, List.setIfInBounds_toArray, List.set_cons_zero, List.set_cons_succ]
    refine wpAnyH_take (i := 33) (oi := { dst := some 100, op := Op.load 32 (Operand.tmp 99), type := 32, pos := "outright.go:48", after := #[{ on := 32, ground := Ground.data }, { on := 29, ground := Ground.guard }], guard := some (29, true) }) (v := ?_) rfl (by kernel_rfl) (by kernel_rfl) (by kernel_rfl) (fun _ _ _ h => h) (Or.inl ⟨by rfl, ?_⟩) hH_1 ?_
    rotate_left
    · (intro w hSw; (try dsimp only at hSw); go_simp <;> with_reducible rfl)
    try simp only [Act.put, List.setIfInBounds_toArray, List.set_cons_zero, List.set_cons_succ]
    refine wpAnyH_ready (rs := [34]) (by kernel_rfl) (by simp) (AllReadyH.cons (o := { dst := some 101, op := Op.call { callee := Callee.value (Operand.func 9), args := #[Operand.const (Value.string { data := #[97] }), Operand.const (Value.int IntKind.i64 3)], argTypes := #[9, 2] }, type := 32, pos := "outright.go:48", after := #[{ on := 29, ground := Ground.chain }, { on := 29, ground := Ground.guard }], guard := some (29, true) }) rfl (fun K34 hK34 => ?_) AllReadyH.nil)
    go_simp
    refine (HRA3.out _).mono ?_
    rintro e' wr ⟨adq, cpq, rfl, dq, bq⟩
    have DQ := Lib.hid dq
    refine hK34.out _ _ (HS.out _ (hH_1.1.trans (bq.mono hH_1.1.size))) (fun hH_34 => ?_)
    clear dq bq
    clear hK34 K34
    try simp only [Act.put, List.setIfInBounds_toArray, List.set_cons_zero, List.set_cons_succ]
    refine wpAnyH_ready (rs := [35]) (by kernel_rfl) (by simp) (AllReadyH.cons (o := { dst := some 102, op := Op.call { callee := Callee.value (Operand.func 13), args := #[Operand.tmp 100, Operand.tmp 101], argTypes := #[32, 32] }, type := 4, pos := "outright.go:48", after := #[{ on := 33, ground := Ground.data }, { on := 34, ground := Ground.data }, { on := 34, ground := Ground.chain }, { on := 29, ground := Ground.guard }], guard := some (29, true) }) rfl (fun K35 hK35 => ?_) AllReadyH.nil)
    go_simp
    refine (HSR.out _ _ _ _ _ (DR3.out.below hH_34.1) DQ.out).mono ?_
    rintro e' wq ⟨rfl, bq⟩
    refine hK35.out _ _ (HS.out _ (hH_34.1.trans (bq.mono hH_34.1.size))) (fun hH_35 => ?_)
    clear bq
    clear hK35 K35
    try simp only [Act.put, List.setIfInBounds_toArray, List.set_cons_zero, List.set_cons_succ]
    refine wpAnyH_take (i := 36) (oi := { dst := some 103, op := Op.pick (Operand.tmp 96) (Operand.tmp 102) (Operand.const (Value.bool false)), type := 4, pos := "outright.go:48", after := #[{ on := 29, ground := Ground.data }, { on := 35, ground := Ground.data }], guard := none }) (v := ?_) rfl (by kernel_rfl) (by kernel_rfl) (by kernel_rfl) (fun _ _ _ h => h) (Or.inl ⟨by rfl, ?_⟩) hH_35 ?_
    rotate_left
    · (intro w hSw; (try dsimp only at hSw); go_simp <;> with_reducible rfl)
    try simp only [Act.put, List.setIfInBounds_toArray, List.set_cons_zero, List.set_cons_succ]
    refine wpAnyH_take (i := 37) (oi := { dst := some 104, op := Op.move (Operand.tmp 103), type := 4, pos := "outright.go:48", after := #[{ on := 36, ground := Ground.data }, { on := 35, ground := Ground.chain }], guard := none }) (v := ?_) rfl (by kernel_rfl) (by kernel_rfl) (by kernel_rfl) (fun _ _ _ h => h) (Or.inl ⟨by rfl, ?_⟩) hH_35 ?_
    rotate_left
    · (intro w hSw; (try dsimp only at hSw); go_simp <;> with_reducible rfl)
    try simp only [Act.put, List.setIfInBounds_toArray, List.set_cons_zero, List.set_cons_succ]
    refine wpAnyH_take (i := 38) (oi := { dst := some 105, op := Op.move (Operand.tmp 11), type := 26, pos := "outright.go:48", after := #[{ on := 37, ground := Ground.guard }], guard := some (37, true) }) (v := ?_) rfl (by kernel_rfl) (by kernel_rfl) (by kernel_rfl) (fun _ _ _ h => h) (Or.inl ⟨by rfl, ?_⟩) hH_35 ?_
    rotate_left
    · (intro w hSw; (try dsimp only at hSw); go_simp <;> with_reducible rfl)
    try simp only [Act.put, List.setIfInBounds_toArray, List.set_cons_zero, List.set_cons_succ]
    refine wpAnyH_take (i := 39) (oi := { dst := some 106, op := Op.binOp BinOp.eql 26 (Operand.tmp 105) (Operand.const (Value.int IntKind.i64 270)) 26, type := 4, pos := "outright.go:48", after := #[{ on := 38, ground := Ground.data }, { on := 37, ground := Ground.guard }], guard := some (37, true) }) (v := ?_) rfl (by kernel_rfl) (by kernel_rfl) (by kernel_rfl) (fun _ _ _ h => h) (Or.inl ⟨by rfl, ?_⟩) hH_35 ?_
    rotate_left
    · (intro w hSw; (try dsimp only at hSw); go_simp <;> with_reducible rfl)
    try simp only [Act.put, List.setIfInBounds_toArray, List.set_cons_zero, List.set_cons_succ]
    refine wpAnyH_take (i := 40) (oi := { dst := some 107, op := Op.pick (Operand.tmp 104) (Operand.tmp 106) (Operand.const (Value.bool false)), type := 4, pos := "outright.go:48", after := #[{ on := 37, ground := Ground.data }, { on := 39, ground := Ground.data }], guard := none }) (v := ?_) rfl (by kernel_rfl) (by kernel_rfl) (by kernel_rfl) (fun _ _ _ h => h) (Or.inl ⟨by rfl, ?_⟩) hH_35 ?_
    rotate_left
    · (intro w hSw; (try dsimp only at hSw); go_simp <;> with_reducible rfl)
    try simp only [Act.put, List.setIfInBounds_toArray, List.set_cons_zero, List.set_cons_succ]
    refine wpAnyH_take (i := 41) (oi := { dst := some 108, op := Op.move (Operand.tmp 107), type := 4, pos := "outright.go:48", after := #[{ on := 40, ground := Ground.data }, { on := 37, ground := Ground.chain }], guard := none }) (v := ?_) rfl (by kernel_rfl) (by kernel_rfl) (by kernel_rfl) (fun _ _ _ h => h) (Or.inl ⟨by rfl, ?_⟩) hH_35 ?_
    rotate_left
    · (intro w hSw; (try dsimp only at hSw); go_simp <;> with_reducible rfl)
    try simp only [Act.put, List.setIfInBounds_toArray, List.set_cons_zero, List.set_cons_succ]
    refine wpAnyH_take (i := 42) (oi := { dst := some 109, op := Op.move (Operand.tmp 13), type := 26, pos := "outright.go:48", after := #[{ on := 41, ground := Ground.guard }], guard := some (41, true) }) (v := ?_) rfl (by kernel_rfl) (by kernel_rfl) (by kernel_rfl) (fun _ _ _ h => h) (Or.inl ⟨by rfl, ?_⟩) hH_35 ?_
    rotate_left
    · (intro w hSw; (try dsimp only at hSw); go_simp <;> with_reducible rfl)
    try simp only [Act.put, List.setIfInBounds_toArray, List.set_cons_zero, List.set_cons_succ]
    refine wpAnyH_take (i := 43) (oi := { dst := some 110, op := Op.binOp BinOp.eql 26 (Operand.tmp 109) (Operand.const (Value.int IntKind.i64 270)) 26, type := 4, pos := "outright.go:48", after := #[{ on := 42, ground := Ground.data }, { on := 41, ground := Ground.guard }], guard := some (41, true) }) (v := ?_) rfl (by kernel_rfl) (by kernel_rfl) (by kernel_rfl) (fun _ _ _ h => h) (Or.inl ⟨by rfl, ?_⟩) hH_35 ?_
    rotate_left
    · (intro w hSw; (try dsimp only at hSw); go_simp <;> with_reducible rfl)
    try simp only [Act.put, List.setIfInBounds_toArray, List.set_cons_zero, List.set_cons_succ]
    refine wpAnyH_take (i := 44) (oi := { dst := some 111, op := Op.pick (Operand.tmp 108) (Operand.tmp 110) (Operand.const (Value.bool false)), type := 4, pos := "outright.go:48", after := #[{ on := 41, ground := Ground.data }, { on := 43, ground := Ground.data }], guard := none }) (v := ?_) rfl (by kernel_rfl) (by kernel_rfl) (by kernel_rfl) (fun _ _ _ h => h) (Or.inl ⟨by rfl, ?_⟩) hH_35 ?_
    rotate_left
    · (intro w hSw; (try dsimp only at hSw); go_simp <;> with_reducible rfl)
    try simp only [Act.put, List.setIfInBounds_toArray, List.set_cons_zero, List.set_cons_succ]
    refine wpAnyH_take (i := 45) (oi := { dst := some 112, op := Op.move (Operand.tmp 111), type := 4, pos := "outright.go:48", after := #[{ on := 44, ground := Ground.data }, { on := 41, ground := Ground.chain }], guard := none }) (v := ?_) rfl (by kernel_rfl) (by kernel_rfl) (by kernel_rfl) (fun _ _ _ h => h) (Or.inl ⟨by rfl, ?_⟩) hH_35 ?_
    rotate_left
    · (intro w hSw; (try dsimp only at hSw); go_simp <;> with_reducible rfl)
    try simp only [Act.put, List.setIfInBounds_toArray, List.set_cons_zero, List.set_cons_succ]
    refine wpAnyH_take (i := 46) (oi := { dst := some 113, op := Op.move (Operand.tmp 15), type := 26, pos := "outright.go:48", after := #[{ on := 45, ground := Ground.guard }], guard := some (45, true) }) (v := ?_) rfl (by kernel_rfl) (by kernel_rfl) (by kernel_rfl) (fun _ _ _ h => h) (Or.inl ⟨by rfl, ?_⟩) hH_35 ?_
    rotate_left
    · (intro w hSw; (try dsimp only at hSw); go_simp <;> with_reducible rfl)
    try simp only [Act.put, List.setIfInBounds_toArray, List.set_cons_zero, List.set_cons_succ]
    refine wpAnyH_take (i := 47) (oi := { dst := some 114, op := Op.binOp BinOp.eql 26 (Operand.tmp 113) (Operand.const (Value.int IntKind.i64 8)) 26, type := 4, pos := "outright.go:48", after := #[{ on := 46, ground := Ground.data }, { on := 45, ground := Ground.guard }], guard := some (45, true) }) (v := ?_) rfl (by kernel_rfl) (by kernel_rfl) (by kernel_rfl) (fun _ _ _ h => h) (Or.inl ⟨by rfl, ?_⟩) hH_35 ?_
    rotate_left
    · (intro w hSw; (try dsimp only at hSw); go_simp <;> with_reducible rfl)
    try simp only [Act.put, List.setIfInBounds_toArray, List.set_cons_zero, List.set_cons_succ]
    refine wpAnyH_take (i := 48) (oi := { dst := some 115, op := Op.pick (Operand.tmp 112) (Operand.tmp 114) (Operand.const (Value.bool false)), type := 4, pos := "outright.go:48", after := #[{ on := 45, ground := Ground.data }, { on := 47, ground := Ground.data }], guard := none }) (v := ?_) rfl (by kernel_rfl) (by kernel_rfl) (by kernel_rfl) (fun _ _ _ h => h) (Or.inl ⟨by rfl, ?_⟩) hH_35 ?_
    rotate_left
    · (intro w hSw; (try dsimp only at hSw); go_simp <;> with_reducible rfl)
    try simp only [Act.put, List.setIfInBounds_toArray, List.set_cons_zero, List.set_cons_succ]
    refine wpAnyH_take (i := 49) (oi := { dst := some 0, op := Op.assign (Operand.tmp 115), type := 4, pos := "outright.go:48", after := #[{ on := 48, ground := Ground.data }, { on := 45, ground := Ground.chain }, { on := 0, ground := Ground.phase }, { on := 1, ground := Ground.phase }, { on := 2, ground := Ground.phase }, { on := 3, ground := Ground.phase }, { on := 4, ground := Ground.phase }, { on := 5, ground := Ground.phase }, { on := 6, ground := Ground.phase }, { on := 7, ground := Ground.phase }, { on := 8, ground := Ground.phase }, { on := 9, ground := Ground.phase }, { on := 10, ground := Ground.phase }, { on := 11, ground := Ground.phase }, { on := 12, ground := Ground.phase }, { on := 13, ground := Ground.phase }, { on := 14, ground := Ground.phase }, { on := 15, ground := Ground.phase }, { on := 16, ground := Ground.phase }, { on := 17, ground := Ground.phase }, { on := 18, ground := Ground.phase }, { on := 19, ground := Ground.phase }, { on := 20, ground := Ground.phase }, { on := 21, ground := Ground.phase }, { on := 22, ground := Ground.phase }, { on := 23, ground := Ground.phase }, { on := 24, ground := Ground.phase }, { on := 25, ground := Ground.phase }, { on := 26, ground := Ground.phase }, { on := 27, ground := Ground.phase }, { on := 28, ground := Ground.phase }, { on := 29, ground := Ground.phase }, { on := 30, ground := Ground.phase }, { on := 31, ground := Ground.phase }, { on := 32, ground := Ground.phase }, { on := 33, ground := Ground.phase }, { on := 34, ground := Ground.phase }, { on := 35, ground := Ground.phase }, { on := 36, ground := Ground.phase }, { on := 37, ground := Ground.phase }, { on := 38, ground := Ground.phase }, { on := 39, ground := Ground.phase }, { on := 40, ground := Ground.phase }, { on := 41, ground := Ground.phase }, { on := 42, ground := Ground.phase }, { on := 43, ground := Ground.phase }, { on := 44, ground := Ground.phase }, { on := 45, ground := Ground.phase }, { on := 46, ground := Ground.phase }, { on := 47, ground := Ground.phase }, { on := 48, ground := Ground.phase }], guard := none }) (v := ?_) rfl (by kernel_rfl) (by kernel_rfl) (by kernel_rfl) (fun _ _ _ h => h) (Or.inl ⟨by rfl, ?_⟩) hH_35 ?_
    rotate_left
    · (intro w hSw; (try dsimp only at hSw); go_simp <;> with_reducible rfl)
    try simp only [Act.put, List.setIfInBounds_toArray, List.set_cons_zero, List.set_cons_succ]
    refine wpAnyH_done (by kernel_rfl) ?_ _
    have HF := Lib.hid (BF.out.trans (hH_35.1.mono BF.out.size))
    clear hHeld
    go_wp2_with fail
    go_ret
    exact ⟨rfl, HF.out⟩
end Go.Proofs.Ytfigebepeniikaa
