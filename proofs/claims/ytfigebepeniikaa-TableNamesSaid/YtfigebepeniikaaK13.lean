import Derived.Test.YtfigebepeniikaaK12
/- Layer 27: the law's own table. -/
namespace Go.Proofs.Ytfigebepeniikaa
open Go.RowKit Go.Maps
theorem setL_heap (w : World) (p k b : Nat) (u : Value) (h : b ≠ p) : (w.setCell ⟨p, k, none⟩ u).heap[b]? = w.heap[b]? := RowKit.Below.heap_setCell _ _ _ _ h
theorem setL_size (w : World) (p k : Nat) (u : Value) : (w.setCell ⟨p, k, none⟩ u).heap.size = w.heap.size := by simp [World.setCell]
theorem setL_cell (w : World) (p k b o : Nat) (u : Value) (h : b ≠ p) : (w.setCell ⟨p, k, none⟩ u).cell? ⟨b, o, none⟩ = w.cell? ⟨b, o, none⟩ := World.cell?_of_block (setL_heap w p k b u h)
theorem DV.setL {B p k : Nat} {w : World} {ad : Option Addr} {cp : Nat} {d : List CR} (h : DV B w ad cp d) (hp : p < B) (u : Value) : DV B (w.setCell ⟨p, k, none⟩ u) ad cp d :=
  ⟨h.1.same (by rw [setL_size]; exact Nat.le_refl _) (fun b off e _ => setL_heap w p k b u (by have := h.2.2.2.2 b off e; omega)), h.2⟩
theorem RAt.setL {B p k : Nat} {w : World} {a : Option Addr} {i : Nat} {r : RC} (h : RAt B w a i r) (hp : p < B) (u : Value) : RAt B (w.setCell ⟨p, k, none⟩ u) a i r := by
  obtain ⟨b, off, ad, cp, e, h1, h2, h3, h4, h5⟩ := h
  exact ⟨b, off, ad, cp, e, h1, by rw [setL_size]; exact h2, (setL_cell _ _ _ _ _ _ (by omega)).trans h3, (setL_cell _ _ _ _ _ _ (by omega)).trans h4, h5.setL hp u⟩
theorem TVs.setL {B p k : Nat} {w : World} {T : TM} {a1 a2 : Option Addr} {c1 c2 : Nat} (h : TVs B w T a1 c1 a2 c2) (hp : p < B) (u : Value) : TVs B (w.setCell ⟨p, k, none⟩ u) T a1 c1 a2 c2 := by
  refine ⟨⟨h.u.1, fun j hj => ?_⟩, h.u1, h.u2, h.un, h.ub, fun i hi => (h.r i hi).setL hp u, h.r1, h.r2, h.rn⟩
  obtain ⟨b, off, e, h1, h2⟩ := h.u.2 j hj
  have hb := h.ub b off e
  exact ⟨b, off, e, by rw [setL_size]; exact h1, (setL_cell _ _ _ _ _ _ (by omega)).trans h2⟩
theorem TVs.set4 {B p : Nat} {w : World} {T : TM} {a1 a2 : Option Addr} {c1 c2 : Nat} (h : TVs B w T a1 c1 a2 c2) (hp : p < B) (v0 v1 v2 v3 : Value) : TVs B (W4 w p v0 v1 v2 v3) T a1 c1 a2 c2 := (((h.setL hp v0).setL hp v1).setL hp v2).setL hp v3
theorem ret_t1 {R : Ending → World → Prop} {fn : Func} {tmps : Array Value} {w : World} {p g : Nat} {x0 x1 x2 x3 : Value} (hr : fn.results = #[.cell p 25]) (h2 : tmps.getD p undef = .pointer (some ⟨g, 0, none⟩)) (hg : Bx4 w g 25 x0 x1 x2 x3)
    (hR : R (.returned (.agg #[x0, x1, x2, x3])) w) : bodyPost Try.prog fn R .ret ⟨tmps, []⟩ w := by
  refine bodyPost_ret (v := .agg #[x0, x1, x2, x3]) ?_ rfl hR
  exact results_cell_row hr tmps w g 25 #[x0, x1, x2, x3] (0, 0) _ h2 hg Try.underlying25 rfl (by rw [infoTk]; rfl)
def aS : ByteArray := ⟨#[97]⟩
def bS : ByteArray := ⟨#[98]⟩
def cS : ByteArray := ⟨#[99]⟩
def ra : RC := ⟨aS, dR aS 1⟩
def rb : RC := ⟨bS, dR bS 2⟩
def rcc : RC := ⟨cS, dR cS 3⟩
def t0 : TM := ⟨⟨#[84]⟩, 2, [nS], [ra]⟩
theorem ra_ok : mE 2 2 sN (fun _ => 1) (gN aS 1) = 0 := by decide +kernel
theorem rb_ok : mE 2 2 sN (fun _ => 1) (gN bS 2) = 0 := by decide +kernel
theorem rc_ok : mE 2 2 sN (fun _ => 1) (gN cS 3) = 0 := by decide +kernel
/-- A record, called for. -/
theorem recV_any (r : RC) (n : Int) (h0 : 0 ≤ n) (hid : r.id.size ≤ 1000000) (hd : r.d = dR r.id n) (hE : mE 2 2 sN (fun _ => 1) (gN r.id n) = 0) (w : World) : Calls Try.prog 9 #[.string r.id, .int .i64 n] w fun e w' => ∃ ad cp, e = .returned (rv r ad cp) ∧ DV w.heap.size w' ad cp r.d ∧ Below w.heap.size w w' := by
  refine (record_any r.id n h0 hid hE w).mono ?_
  rintro e w' ⟨v, rfl, ho, hb⟩
  rw [← hd] at ho
  obtain ⟨ad, cp, rfl, hv⟩ := own_dv rfl ho
  exact ⟨ad, cp, rfl, hv, hb⟩
set_option maxRecDepth 20000 in
set_option maxHeartbeats 1000000 in
theorem small_any (w : World) : Calls Try.prog 8 #[] w fun e w' => ∃ a1 c1 a2 c2, e = .returned (tv t0 a1 c1 a2 c2) ∧ TVs w.heap.size w' t0 a1 c1 a2 c2 ∧ Below w.heap.size w w' := by
  have HR := Lib.hid (fun W => recV_any ra 1 (by decide) (by decide) rfl ra_ok W)
  unfold rv at HR
  obtain ⟨W, hW⟩ : ∃ W, W = (w.alloc (.cells #[.string ⟨#[]⟩, .int .i64 0, .slice none 0 0, .slice none 0 0] 25)).alloc (.cells #[.string nS] 9) := ⟨_, rfl⟩
  have HB : Hid (Below w.heap.size w W) := Lib.hid (by rw [hW]; exact ((Below.refl _ _).alloc (Nat.le_refl _) _).alloc (by simp) _)
  have HX : Hid (Bx4 W w.heap.size 25 (.string ⟨#[]⟩) (.int .i64 0) (.slice none 0 0) (.slice none 0 0)) := Lib.hid (by rw [hW]; exact al_old _ _ (al_at _ _ rfl))
  have HS : Hid (W.heap[w.heap.size + 1]? = some (.cells #[.string nS] 9)) := Lib.hid (by rw [hW]; exact al_at _ _ (by simp))
  have HEND : Hid (∀ (W' W2 : World) ad cp, Below W.heap.size W W' → DV W.heap.size W' ad cp ra.d → W2 = W'.alloc (.cells #[.string ra.id, .slice ad ra.d.length cp] 32) → TVs (w.heap.size + 1) W2 t0 (some ⟨w.heap.size + 1, 0, none⟩) 1 (some ⟨W'.heap.size, 0, none⟩) 1 ∧ Bx4 W2 w.heap.size 25 (.string ⟨#[]⟩) (.int .i64 0) (.slice none 0 0) (.slice none 0 0) ∧ Below w.heap.size w W2) := Lib.hid (fun W' W2 ad cp k dv e => by
    subst e
    have k2 := (Below.refl W'.heap.size W').alloc (Nat.le_refl _) (.cells #[.string ra.id, .slice ad ra.d.length cp] 32)
    have hlt : w.heap.size + 1 < W.heap.size := (Array.getElem?_eq_some_iff.1 HS.out).1
    have hle := k.size
    have hs2 : (W'.alloc (.cells #[.string ra.id, .slice ad ra.d.length cp] 32)).heap[w.heap.size + 1]? = some (.cells #[.string nS] 9) := al_old _ _ (by rw [k.block _ hlt]; exact HS.out)
    have hr2 : (W'.alloc (.cells #[.string ra.id, .slice ad ra.d.length cp] 32)).heap[W'.heap.size]? = some (.cells #[.string ra.id, .slice ad ra.d.length cp] 32) := al_at _ _ rfl
    refine ⟨⟨⟨rfl, fun j hj => ?_⟩, Nat.le_refl _, by decide, (fun e => by cases e), fun b off e => (by cases e; exact Nat.le_refl _), fun i hi => ?_, Nat.le_refl _, by decide, fun e => by cases e⟩, al_old _ _ (by rw [k.block _ (by omega)]; exact HX.out), (HB.out.trans (k.mono HB.out.size)).trans (k2.mono (Nat.le_trans HB.out.size k.size))⟩
    · have hj0 : j < 1 := hj
      obtain rfl : j = 0 := by omega
      exact ⟨w.heap.size + 1, 0, rfl, (Array.getElem?_eq_some_iff.1 hs2).1, by simp [World.cell?, hs2]; rfl⟩
    · have hi0 : i < 1 := hi
      obtain rfl : i = 0 := by omega
      refine ⟨W'.heap.size, 0, ad, cp, rfl, by omega, (Array.getElem?_eq_some_iff.1 hr2).1, Bx2.c0 hr2, Bx2.c1 hr2, (dv.below k2).mono (by omega)⟩)
  clear HX HS
  go_enter Try.func8, Try.ntmps8
  go_wp2_with fail
  rw [show (⟨#[110]⟩ : ByteArray) = nS from rfl, ← hW]
  clear hW
  refine (HR.out W).mono ?_
  rintro e w1 ⟨ad, cp, rfl, dv, b1⟩
  have HE := Lib.hid (HEND.out w1 _ ad cp b1 dv rfl)
  clear HEND HR dv b1 HB
  have z0 := HE.out.2.1.c0
  have z1 := HE.out.2.1.c1
  have z2 := HE.out.2.1.c2
  have z3 := HE.out.2.1.c3
  have f0 := HE.out.2.1.fz 0
  have f1 := HE.out.2.1.fz 1
  have f2 := HE.out.2.1.fz 2
  have f3 := HE.out.2.1.fz 3
  go_wp2_with fail
  exact ret_t1 Try.results8 rfl (HE.out.2.1.set4 _ _ _ _) ⟨_, _, _, _, rfl, (HE.out.1.set4 (Nat.lt_succ_self _) _ _ _ _).mono (Nat.le_succ _), w4_below HE.out.2.2 (Nat.le_refl _) _ _ _ _⟩
end Go.Proofs.Ytfigebepeniikaa
/- Layer 27: Put, and what it tells, small with what came in. -/
namespace Go.Proofs.Ytfigebepeniikaa
open Go.RowKit Go.Maps
structure SmN (k : Nat) (T : TM) : Prop where
  rows : T.rows.length ≤ k
  uq : T.uq.length ≤ 1000
  each : ∀ r ∈ T.rows, SmR r
  us : ∀ s ∈ T.uq, s.size ≤ 1000000
theorem SmN.smT {k : Nat} {T : TM} (h : SmN k T) (hk : k ≤ 1000) : SmT T := ⟨Nat.le_trans h.rows hk, h.uq, h.each, h.us⟩
theorem smN_z (k : Nat) : SmN k zT := ⟨Nat.zero_le _, Nat.zero_le _, fun r h => (by cases h), fun s h => (by cases h)⟩
theorem put_two (T : TM) (r : RC) : (putT T r).1 = zT ∨ (putT T r).1 = { T with rows := insR T.rows r } := by
  unfold putT
  split
  · exact .inl rfl
  · split
    · exact .inl rfl
    · split
      · exact .inl rfl
      · exact .inr rfl
theorem SmN.put {k : Nat} {T : TM} {r : RC} (h : SmN k T) (hr : SmR r) : SmN (k + 1) (putT T r).1 := by
  rcases put_two T r with e | e
  · rw [e]; exact smN_z _
  · rw [e]
    refine ⟨?_, h.uq, fun w hw => ?_, h.us⟩
    · show (insR T.rows r).length ≤ k + 1
      rw [insR_len]; have := h.rows; omega
    · rcases insR_mem.1 hw with rfl | hw
      · exact hr
      · exact h.each w hw
theorem SmN.len {k : Nat} {T : TM} (h : SmN k T) : ∀ r ∈ T.rows, r.d.length ≤ maxLen := fun r hr => by
  have := (h.each r hr).2.1
  unfold maxLen; omega
theorem putV_any (k B B' : Nat) (T : TM) (a1 a2 : Option Addr) (c1 c2 : Nat) (r : RC) (ad : Option Addr) (cp : Nat) (w : World) (hk : k ≤ 1000) (hs : SmN k T) (hr : SmR r) (hv : TVs B w T a1 c1 a2 c2) (hd : DV B' w ad cp r.d) : Calls Try.prog 7 #[tv T a1 c1 a2 c2, rv r ad cp] w fun e w' => ∃ e1 f1 e2 f2, e = .returned (.tuple #[tv (putT T r).1 e1 f1 e2 f2, .int .i64 (putT T r).2]) ∧ TVs w.heap.size w' (putT T r).1 e1 f1 e2 f2 ∧ Below w.heap.size w w' := by
  refine (tPut_any B B' T a1 a2 c1 c2 r ad cp w hv (hs.smT hk) hd hr).mono ?_
  rintro e w' ⟨val, rfl, ho, hb⟩
  obtain ⟨e1, f1, e2, f2, rfl, h⟩ := ho.tv (hs.put hr).len
  exact ⟨e1, f1, e2, f2, rfl, h, hb⟩
/-- A table laid into a box of its own. -/
theorem box4 (w : World) (t : TypeId) (z0 z1 z2 z3 v0 v1 v2 v3 : Value) : Bx4 (W4 (w.alloc (.cells #[z0, z1, z2, z3] t)) w.heap.size v0 v1 v2 v3) w.heap.size t v0 v1 v2 v3 ∧ Below w.heap.size w (W4 (w.alloc (.cells #[z0, z1, z2, z3] t)) w.heap.size v0 v1 v2 v3) :=
  ⟨(bx4_new w t z0 z1 z2 z3).set4 v0 v1 v2 v3, w4_below ((Below.refl _ _).alloc (Nat.le_refl _) _) (Nat.le_refl _) _ _ _ _⟩
theorem box2 (w : World) (z0 z1 v0 v1 : Value) : Bx2 (((w.alloc (.cells #[z0, z1] 32)).setCell ⟨w.heap.size, 0, none⟩ v0).setCell ⟨w.heap.size, 1, none⟩ v1) w.heap.size v0 v1 ∧ Below w.heap.size w (((w.alloc (.cells #[z0, z1] 32)).setCell ⟨w.heap.size, 0, none⟩ v0).setCell ⟨w.heap.size, 1, none⟩ v1) :=
  ⟨(bx2_new w z0 z1).set v0 v1, set2_below ((Below.refl _ _).alloc (Nat.le_refl _) _) _ (Nat.le_refl _) _ _⟩
def u1 : TM := ⟨⟨#[84]⟩, 2, [nS], [ra, rb]⟩
theorem put_1 : putT t0 rb = (u1, 0) := by decide +kernel
theorem put_2 : putT u1 rcc = (zT, 272) := by decide +kernel
theorem get_1 : getT u1 bS = some rb := by decide +kernel
theorem smR_lit (r : RC) (n : Int) (h : r = ⟨r.id, dR r.id n⟩) (hn : r.id.size ≤ 1000) : SmR r := by
  rw [h]
  refine ⟨?_, by show 3 ≤ 100000; decide, by show r.id.size ≤ 1000000; omega⟩
  show CW 3 (gl (dR r.id n))
  rw [dR_eq]
  intro i hi
  rcases (show i = 0 ∨ i = 1 ∨ i = 2 by omega) with rfl | rfl | rfl
  · exact ⟨by show (7 : Nat) < 256; decide, Nat.zero_le _, Nat.zero_le _, by show (-9223372036854775808 : Int) ≤ 2; decide, by show (2 : Int) ≤ 9223372036854775807; decide⟩
  · exact ⟨by show (3 : Nat) < 256; decide, by show (2 : Nat) ≤ maxLen; unfold maxLen; omega, by show r.id.size ≤ 1000000; omega, by show (-9223372036854775808 : Int) ≤ 0; decide, by show (0 : Int) ≤ 9223372036854775807; decide⟩
  · exact ⟨by show (2 : Nat) < 256; decide, by show (1 : Nat) ≤ maxLen; unfold maxLen; omega, Nat.zero_le _, by show (-9223372036854775808 : Int) ≤ 0; decide, by show (0 : Int) ≤ 9223372036854775807; decide⟩
theorem sm_ra : SmR ra := smR_lit ra 1 rfl (by decide)
theorem sm_rb : SmR rb := smR_lit rb 2 rfl (by decide)
theorem sm_rc : SmR rcc := smR_lit rcc 3 rfl (by decide)
theorem sm_t0 : SmN 1 t0 := ⟨by decide, by decide, fun r hr => (by simp [t0] at hr; subst hr; exact sm_ra), fun s hs => (by simp [t0] at hs; subst hs; decide)⟩
theorem sm_u1 : SmN 2 u1 := by have h := sm_t0.put sm_rb; rw [put_1] at h; exact h
end Go.Proofs.Ytfigebepeniikaa
