/- Layer 27: TableDoes: what it asks of its calls, and its walk. -/
import Derived.Test.YtfigebepeniikaaGreatK20
import Derived.Deep.RegionLaw
/- Layer 27: what TableDoes asks of its calls. -/
namespace Go.Proofs.YtfigebepeniikaaGreat
open Go.RowKit Go.Maps Go.Shelf
theorem own_blk {w : World} {B e s n c : Nat} {a : Option Addr} {xs : List Value} (h : w.ownsRow B e s (.slice a n c) n xs) : Blk w B w.heap.size a e (n * s) := by
  rcases h.2 with ⟨_, hn⟩ | ⟨g, cap, cur, e1, hb, hg, h1, h2, h3, h4⟩
  · exact .inl (by rw [hn, Nat.zero_mul])
  · simp only [Value.slice.injEq] at e1
    obtain ⟨rfl, _, rfl⟩ := e1
    refine .inr ⟨g, cur, rfl, hb, (Array.getElem?_eq_some_iff.1 hg).1, hg, ?_⟩
    rw [h3]; exact Nat.mul_le_mul_right _ h1
theorem rbk_ownR {B : Nat} {w : World} {a : Option Addr} {c : Nat} {R : List RC} {qs : List Nat} (h : OwnR B w (.slice a R.length c) R qs) (hl : qs.length = R.length) (hm : ∀ r ∈ R, r.d.length ≤ 1000000) : RBk w B w.heap.size a R.length := by
  have hr := h.row
  rw [hl] at hr
  rcases hr.2 with ⟨_, hn⟩ | ⟨g, cap, cur, e1, hb, hg, h1, h2, h3, h4⟩
  · exact .inl hn
  · simp only [Value.slice.injEq] at e1
    obtain ⟨rfl, _, rfl⟩ := e1
    refine .inr ⟨g, cur, rfl, hb, (Array.getElem?_eq_some_iff.1 hg).1, hg, by rw [h3]; exact Nat.mul_le_mul_right _ h1, fun i hi => ?_⟩
    obtain ⟨_, c1⟩ := rwR_at R qs i (by omega)
    have k1 := hr.cellAt (i * 2 + 1) (by omega)
    rw [c1] at k1
    simp only [World.cell?, hg] at k1
    obtain ⟨e1, e2⟩ := h.each i (by omega)
    refine ⟨_, _, _, by simpa using k1, hm _ (rl_mem hi), .inr ⟨_, _, rfl, e1, e2.lt, e2, ?_⟩⟩
    rw [List.size_toArray, rw5_len]; omega
def PT2 (w : World) (X : TM) (err : Int) (e : Ending) (w' : World) : Prop := ∃ e1 f1 e2 f2, e = .returned (.tuple #[.agg #[.string X.name, .int .i64 X.most, .slice e1 X.uq.length f1, .slice e2 X.rows.length f2], .int .i64 err]) ∧ TVs w.heap.size w' X e1 f1 e2 f2 ∧ (Blk w' w.heap.size w'.heap.size e1 9 X.uq.length ∧ RBk w' w.heap.size w'.heap.size e2 X.rows.length) ∧ Below w.heap.size w w'
theorem pt2_of {w w' : World} {X : TM} {err : Int} {e : Ending} (h : TabPost w X err e w') (hm : ∀ r ∈ X.rows, r.d.length ≤ 1000000) : PT2 w X err e w' := by
  obtain ⟨val, rfl, ho, hb⟩ := h
  have hm2 : ∀ r ∈ X.rows, r.d.length ≤ maxLen := fun r hr => by have := hm r hr; unfold maxLen; omega
  obtain ⟨e1, f1, e2, f2, e, hv⟩ := ho.tv hm2
  obtain ⟨b1, k1, v, qs, e3, hu, hr, hl⟩ := ho
  subst e
  unfold tv at e3
  simp only [Value.agg.injEq, Array.mk.injEq, List.cons.injEq, Value.slice.injEq, true_and, and_true] at e3
  obtain ⟨⟨rfl, rfl⟩, rfl⟩ := e3
  have hb1 := own_blk hu
  rw [Nat.mul_one] at hb1
  exact ⟨_, _, _, _, rfl, hv, ⟨hb1, rbk_ownR hr hl hm⟩, hb⟩
def PZ (w : World) (X : TM) (e : Ending) (w' : World) : Prop := ∃ e1 f1 e2 f2, e = .returned (.agg #[.string X.name, .int .i64 X.most, .slice e1 X.uq.length f1, .slice e2 X.rows.length f2]) ∧ TVs w.heap.size w' X e1 f1 e2 f2 ∧ (Blk w' w.heap.size w'.heap.size e1 9 X.uq.length ∧ RBk w' w.heap.size w'.heap.size e2 X.rows.length) ∧ Below w.heap.size w w'
theorem pz_of {w w' : World} {X : TM} {e : Ending} (h : TwPost w X e w') (hm : ∀ r ∈ X.rows, r.d.length ≤ 1000000) : PZ w X e w' := by
  obtain ⟨b1, k1, g, qs, rfl, ho, hb⟩ := h
  have hb1 := own_blk ho.u
  rw [Nat.mul_one] at hb1
  exact ⟨_, _, _, _, rfl, ho.tvs (fun r hr => by have := hm r hr; unfold maxLen; omega), ⟨hb1, rbk_ownR ho.r ho.l hm⟩, hb⟩
def AG (w : World) (o : Option RC) (e : Ending) (w' : World) : Prop := ∃ ad cp, e = .returned (.tuple #[.agg #[.string (o.getD zC).id, .slice ad (o.getD zC).d.length cp], .bool o.isSome]) ∧ DV 0 w' ad cp (o.getD zC).d ∧ Blk w' w.heap.size w'.heap.size ad 47 ((o.getD zC).d.length * 5) ∧ Below w.heap.size w w'
theorem ag_of {w w' : World} {T : TM} {s : ByteArray} {e : Ending} (h : GetPost w T s e w') (hm : ((getT T s).getD zC).d.length ≤ maxLen) : AG w (getT T s) e w' := by
  obtain ⟨h, hb⟩ := h
  cases ho : getT T s with
  | none =>
    rw [ho] at h
    exact ⟨none, 0, h, ⟨fun i hi => absurd hi (Nat.not_lt_zero i), Nat.le_refl _, Nat.zero_le _, fun _ => ⟨rfl, rfl⟩, fun _ _ e => (by cases e)⟩, .inl rfl, hb⟩
  | some r =>
    rw [ho] at h hm
    obtain ⟨q, rfl, hq, hd⟩ := h
    refine ⟨some ⟨q, 0, none⟩, r.d.length, rfl, (hd.dv hq hm).mono (Nat.zero_le _), .inr ⟨q, _, rfl, hq, hd.lt, hd, ?_⟩, hb⟩
    rw [List.size_toArray, rw5_len]; exact Nat.le_refl _
theorem pt_of {w w' : World} {X : TM} {err : Int} {e : Ending} (h : AP w X err e w') : PT w X err e w' := by
  obtain ⟨⟨v, rfl, hg⟩, hb⟩ := h
  obtain ⟨e1, f1, e2, f2, rfl, hv⟩ := hg.tvs
  exact ⟨e1, f1, e2, f2, rfl, hv, hb⟩
theorem pk {P Q : World → Prop} {w0 w1 : World} (h : ∀ V, Below w0.heap.size w0 V → P V) (b : Below w0.heap.size w0 w1) (q : ∀ V, Below w1.heap.size w1 V → Q V) : ∀ V, Below w1.heap.size w1 V → P V ∧ Q V := fun V k => ⟨h V (b.trans (k.mono b.size)), q V k⟩
theorem sh {P : World → Prop} {w0 w1 : World} (h : ∀ V, Below w0.heap.size w0 V → P V) (b : Below w0.heap.size w0 w1) : ∀ V, Below w1.heap.size w1 V → P V := fun V k => h V (b.trans (k.mono b.size))
theorem Blk.up {w w' : World} {lo hi n : Nat} {a : Option Addr} {t : TypeId} (h : Blk w lo hi a t n) (hh : hi ≤ w.heap.size) (k : Below w.heap.size w w') : Blk w' lo hi a t n := h.kept (fun b _ hb => k.block b (by omega))
theorem RBk.up {w w' : World} {lo hi n : Nat} {a : Option Addr} (h : RBk w lo hi a n) (hh : hi ≤ w.heap.size) (k : Below w.heap.size w w') : RBk w' lo hi a n := h.kept (fun b _ hb => k.block b (by omega))
theorem Blk.sp {w w' : World} {lo hi l u n : Nat} {a : Option Addr} {t : TypeId} (h : Blk w l u a t n) (k : SpP lo hi w w') (hu : u ≤ w.heap.size) (hd : u ≤ lo ∨ hi ≤ l) : Blk w' l u a t n := h.kept (fun b _ hb => k.block b (by omega) (by omega))
theorem RBk.sp {w w' : World} {lo hi l u n : Nat} {a : Option Addr} (h : RBk w l u a n) (k : SpP lo hi w w') (hu : u ≤ w.heap.size) (hd : u ≤ lo ∨ hi ≤ l) : RBk w' l u a n := h.kept (fun b _ hb => k.block b (by omega) (by omega))
theorem Bx4.sp {w w' : World} {lo hi q t : Nat} {x0 x1 x2 x3 : Value} (h : Bx4 w q t x0 x1 x2 x3) (k : SpP lo hi w w') (hd : q < lo ∨ hi ≤ q) : Bx4 w' q t x0 x1 x2 x3 := by
  have hq := h.lt
  unfold Bx4 at h ⊢
  rw [k.block q hq hd]; exact h
theorem Bx2.sp {w w' : World} {lo hi q : Nat} {x0 x1 : Value} (h : Bx2 w q x0 x1) (k : SpP lo hi w w') (hd : q < lo ∨ hi ≤ q) : Bx2 w' q x0 x1 := by
  have hq := h.lt
  unfold Bx2 at h ⊢
  rw [k.block q hq hd]; exact h
theorem sp_below {B lo hi : Nat} {w V V' : World} (h : Below B w V) (k : SpP lo hi V V') (hB : B ≤ lo) (hs : B ≤ w.heap.size) : Below B w V' :=
  ⟨k.os.trans h.os, k.tape.trans h.tape, k.output.trans h.output, Nat.le_trans h.size k.size, fun b hb => (k.block b (by have := h.size; omega) (.inl (by omega))).trans (h.block b hb)⟩
theorem inb_below {B lo hi : Nat} {w V V' : World} (h : Below B w V) (k : InB lo hi V V') (hB : B ≤ lo) : Below B w V' :=
  ⟨k.os.trans h.os, k.tape.trans h.tape, k.output.trans h.output, by rw [k.size]; exact h.size, fun b hb => (k.block b (.inl (by omega))).trans (h.block b hb)⟩
theorem good_gr {T : TM} (h : ∀ r ∈ T.rows, KR r ∧ r.d.length ≤ maxLen) (k : grT T = false) : Good T ∧ (∀ r ∈ T.rows, r.d.length ≤ 1000000) := by
  have hs := smN_gr (fun r hr => (h r hr).1) k
  have hg := (grT_no k).2.2.2.1
  refine ⟨⟨hs.smT (by decide), Nat.le_trans hs.rows (by decide), fun r hr i hi => ?_⟩, fun r hr => ?_⟩
  · have := hg r hr
    unfold grR at this
    rw [Bool.or_eq_false_iff] at this
    have := ((gr_small this.2).2 i hi).1
    omega
  · have := (hs.each r hr).2.1; omega
theorem nz_gr {r : RC} (k : grR r = false) : NZ r := fun i hi => by
  unfold grR at k
  rw [Bool.or_eq_false_iff] at k
  have := ((gr_small k.2).2 i hi).1
  omega
theorem put_len {T : TM} {r : RC} (h : ∀ x ∈ T.rows, x.d.length ≤ 1000000) (hr : r.d.length ≤ 1000000) : ∀ x ∈ (putT T r).1.rows, x.d.length ≤ 1000000 := by
  rcases put_two T r with e | e
  · rw [e]; intro x hx; cases hx
  · rw [e]; intro x hx
    rcases insR_mem.1 hx with rfl | hx
    · exact hr
    · exact h x hx
theorem set_len {T : TM} {r : RC} (h : ∀ x ∈ T.rows, x.d.length ≤ 1000000) (hr : r.d.length ≤ 1000000) : ∀ x ∈ (setT T r).1.rows, x.d.length ≤ 1000000 := by
  rcases set_two T r with e | e
  · rw [e]; intro x hx; cases hx
  · rw [e]; intro x hx
    obtain ⟨y, hy, rfl⟩ := List.mem_map.1 hx
    unfold repR
    split
    · exact hr
    · exact h y hy
theorem drop_len {T : TM} {s : ByteArray} (h : ∀ x ∈ T.rows, x.d.length ≤ 1000000) : ∀ x ∈ (dropT T s).1.rows, x.d.length ≤ 1000000 := fun x hx => h x (drop_sub x hx)
theorem rows_put {T : TM} {r : RC} (h : T.rows.length ≤ 900) (hu : T.uq.length ≤ 1000) : (putT T r).1.rows.length ≤ 1000 ∧ (putT T r).1.uq.length ≤ 1000 := by
  rcases put_two T r with e | e
  · rw [e]; exact ⟨Nat.zero_le _, Nat.zero_le _⟩
  · rw [e]; exact ⟨by show (insR T.rows r).length ≤ 1000; rw [insR_len]; omega, hu⟩
theorem rows_set {T : TM} {r : RC} (h : T.rows.length ≤ 900) (hu : T.uq.length ≤ 1000) : (setT T r).1.rows.length ≤ 1000 ∧ (setT T r).1.uq.length ≤ 1000 := by
  rcases set_two T r with e | e
  · rw [e]; exact ⟨Nat.zero_le _, Nat.zero_le _⟩
  · rw [e]; exact ⟨by show (T.rows.map (repR r)).length ≤ 1000; rw [List.length_map]; omega, hu⟩
theorem rows_drop {T : TM} {s : ByteArray} (h : T.rows.length ≤ 900) (hu : T.uq.length ≤ 1000) : (dropT T s).1.rows.length ≤ 1000 ∧ (dropT T s).1.uq.length ≤ 1000 := by
  unfold dropT
  split
  · exact ⟨Nat.zero_le _, Nat.zero_le _⟩
  · split
    · exact ⟨Nat.zero_le _, Nat.zero_le _⟩
    · exact ⟨Nat.le_trans (List.length_filter_le _ _) (by omega), hu⟩
end Go.Proofs.YtfigebepeniikaaGreat
/- Layer 27: TableDoes, walked. -/
namespace Go.Proofs.YtfigebepeniikaaGreat
open Go.RowKit Go.Maps Go.Shelf
set_option maxRecDepth 20000 in
set_option maxHeartbeats 40000000 in
theorem does_walk (T : TM) (a1 : Option Addr) (c1 : Nat) (a2 : Option Addr) (c2 : Nat) (O : TM) (b1 : Option Addr) (k1 : Nat) (b2 : Option Addr) (k2 : Nat) (r : RC) (ad : Option Addr) (cp : Nat) (s : ByteArray) (w : World) (hv : TVs 0 w T a1 c1 a2 c2) (hkT : ∀ r ∈ T.rows, KR r ∧ r.d.length ≤ maxLen) (hvO : TVs 0 w O b1 k1 b2 k2) (hkO : ∀ r ∈ O.rows, KR r ∧ r.d.length ≤ maxLen) (hdr : DV 0 w ad cp r.d) (hkr : KR r ∧ r.d.length ≤ maxLen) (_ : s.size ≤ maxLen) : Calls Tryz.prog 3 #[tv T a1 c1 a2 c2, tv O b1 k1 b2 k2, rv r ad cp, .string s] w fun e w' => e = .returned (.bool true) ∧ Below w.heap.size w w' := by
  have HG := Lib.hid (fun W (k : Below w.heap.size w W) => greatT_any 0 T a1 a2 c1 c2 W (hv.below k) (fun r hr => (hkT r hr).2))
  have HGO := Lib.hid (fun W (k : Below w.heap.size w W) => greatT_any 0 O b1 b2 k1 k2 W (hvO.below k) (fun r hr => (hkO r hr).2))
  have HGR := Lib.hid (fun W (k : Below w.heap.size w W) => greatR_any 0 r ad cp W (hdr.below k) hkr.2)
  obtain ⟨W0, hW0⟩ : ∃ W, W = ((w.alloc (.cells #[.string T.name, .int .i64 T.most, .slice a1 T.uq.length c1, .slice a2 T.rows.length c2] 25)).alloc (.cells #[.string O.name, .int .i64 O.most, .slice b1 O.uq.length k1, .slice b2 O.rows.length k2] 25)).alloc (.cells #[.string r.id, .slice ad r.d.length cp] 28) := ⟨_, rfl⟩
  have B0 : Hid (Below w.heap.size w W0) := Lib.hid (by rw [hW0]; exact (((Below.refl _ _).alloc (Nat.le_refl _) _).alloc (by simp) _).alloc (by simp; omega) _)
  have HQ4 : Hid (Bx4 W0 w.heap.size 25 (.string T.name) (.int .i64 T.most) (.slice a1 T.uq.length c1) (.slice a2 T.rows.length c2)) := Lib.hid (by rw [hW0]; exact al_old _ _ (al_old _ _ (al_at _ _ rfl)))
  have HQ5 : Hid (Bx4 W0 (w.heap.size + 1) 25 (.string O.name) (.int .i64 O.most) (.slice b1 O.uq.length k1) (.slice b2 O.rows.length k2)) := Lib.hid (by rw [hW0]; exact al_old _ _ (al_at _ _ (by simp)))
  have HQ6 : Hid (Bx2 W0 (w.heap.size + 1 + 1) (.string r.id) (.slice ad r.d.length cp)) := Lib.hid (by rw [hW0]; exact al_at _ _ (by simp))
  have hn0 : w.heap.size + 3 = W0.heap.size := by rw [hW0]; simp
  have HM0 := Lib.hid (fun V (k : Below W0.heap.size W0 V) => And.intro (HQ4.out.up k) (And.intro (HQ5.out.up k) (And.intro (HQ6.out.up k) (And.intro ((hv.below B0.out).below k) (And.intro ((hvO.below B0.out).below k) ((hdr.below B0.out).below k))))))
  have HGD := Lib.hid (good_gr hkT)
  have HSR := Lib.hid (fun (h : grR r = false) => smR_gr hkr.1 h)
  have HNR := Lib.hid (fun (h : grR r = false) => nz_gr h)
  unfold tv at HG HGO ⊢
  unfold rv at HGR ⊢
  clear hv hkT hvO hkO hdr hkr
  obtain ⟨gt, hgt⟩ : ∃ g, g = grT T := ⟨_, rfl⟩
  obtain ⟨go, hgo⟩ : ∃ g, g = grT O := ⟨_, rfl⟩
  obtain ⟨gr, hgr⟩ : ∃ g, g = grR r := ⟨_, rfl⟩
  rw [← hgt] at HG HGD
  rw [← hgo] at HGO
  rw [← hgr] at HGR HSR HNR
  clear hgt hgo hgr
  go_enter Tryz.func3, Tryz.ntmps3
  go_wp2_with fail
  rw [← hW0]
  clear hW0
  refine (HG.out _ B0.out).mono ?_
  rintro en wa ⟨rfl, ka⟩
  have BA := Lib.hid (B0.out.trans (ka.mono B0.out.size))
  have HMa := Lib.hid (sh HM0.out ka)
  clear ka HG HQ4 HQ5 HQ6
  by_cases hgt : gt = true
  · subst hgt
    go_wp2_with fail
    go_ret
    exact ⟨rfl, BA.out⟩
  obtain rfl : gt = false := by simpa using hgt
  clear hgt
  have x0 := (HMa.out _ (Below.refl _ _)).2.1.c0
  have x1 := (HMa.out _ (Below.refl _ _)).2.1.c1
  have x2 := (HMa.out _ (Below.refl _ _)).2.1.c2
  have x3 := (HMa.out _ (Below.refl _ _)).2.1.c3
  go_wp2_with fail
  clear x0 x1 x2 x3
  refine (HGO.out _ BA.out).mono ?_
  rintro en wb ⟨rfl, kb⟩
  have BB := Lib.hid (BA.out.trans (kb.mono BA.out.size))
  have HMb := Lib.hid (sh HMa.out kb)
  clear kb HGO HMa BA HM0
  by_cases hgo : go = true
  · subst hgo
    go_wp2_with fail
    go_ret
    exact ⟨rfl, BB.out⟩
  obtain rfl : go = false := by simpa using hgo
  clear hgo
  have x0 := (HMb.out _ (Below.refl _ _)).2.2.1.c0
  have x1 := (HMb.out _ (Below.refl _ _)).2.2.1.c1
  go_wp2_with fail
  clear x0 x1
  refine (HGR.out _ BB.out).mono ?_
  rintro en wc ⟨rfl, kc⟩
  have BC := Lib.hid (BB.out.trans (kc.mono BB.out.size))
  have HMc := Lib.hid (sh HMb.out kc)
  clear kc HGR HMb BB
  by_cases hgr : gr = true
  · subst hgr
    go_wp2_with fail
    go_ret
    exact ⟨rfl, BC.out⟩
  obtain rfl : gr = false := by simpa using hgr
  clear hgr
  by_cases hid : (300 : Int) < (s.size : Int)
  · go_wp2_with fail
    go_ret
    exact ⟨rfl, BC.out⟩
  have HGT := Lib.hid (HGD.out (by first | rfl | trivial)).1
  have HTL := Lib.hid (HGD.out (by first | rfl | trivial)).2
  have HSR' := Lib.hid (HSR.out (by first | rfl | trivial))
  have HNR' := Lib.hid (HNR.out (by first | rfl | trivial))
  clear HGD HSR HNR
  obtain ⟨ra, hra⟩ : ∃ x, x = (getT T s).getD zC := ⟨_, rfl⟩
  obtain ⟨ib, hib⟩ : ∃ x, x = (getT T s).isSome := ⟨_, rfl⟩
  obtain ⟨X, e, hX⟩ : ∃ X e, putT T r = (X, e) := ⟨_, _, rfl⟩
  obtain ⟨Y, f, hY⟩ : ∃ Y f, setT T r = (Y, f) := ⟨_, _, rfl⟩
  obtain ⟨Z, g, hZ⟩ : ∃ Z g, dropT T s = (Z, g) := ⟨_, _, rfl⟩
  have HRL : Hid (r.d.length ≤ 1000000) := Lib.hid (by have := HSR'.out.2.1; omega)
  have HXL : Hid ((∀ x ∈ X.rows, x.d.length ≤ 1000000) ∧ X.rows.length ≤ 1000 ∧ X.uq.length ≤ 1000) := Lib.hid (by
    have h1 := put_len (T := T) (r := r) HTL.out HRL.out
    have h2 := rows_put (T := T) (r := r) HGT.out.n HGT.out.sm.uq
    rw [hX] at h1 h2; exact ⟨h1, h2⟩)
  have HYL : Hid ((∀ x ∈ Y.rows, x.d.length ≤ 1000000) ∧ Y.rows.length ≤ 1000 ∧ Y.uq.length ≤ 1000) := Lib.hid (by
    have h1 := set_len (T := T) (r := r) HTL.out HRL.out
    have h2 := rows_set (T := T) (r := r) HGT.out.n HGT.out.sm.uq
    rw [hY] at h1 h2; exact ⟨h1, h2⟩)
  have HZL : Hid ((∀ x ∈ Z.rows, x.d.length ≤ 1000000) ∧ Z.rows.length ≤ 1000 ∧ Z.uq.length ≤ 1000) := Lib.hid (by
    have h1 := drop_len (T := T) (s := s) HTL.out
    have h2 := rows_drop (T := T) (s := s) HGT.out.n HGT.out.sm.uq
    rw [hZ] at h1 h2; exact ⟨h1, h2⟩)
  have HTL2 : Hid (∀ x ∈ T.rows, x.d.length ≤ maxLen) := Lib.hid (fun x hx => by have := HTL.out x hx; unfold maxLen; omega)
  have HOL : Hid (ra.d.length ≤ 1000000) := Lib.hid (by
    cases h : getT T s with
    | none => rw [hra, h]; exact Nat.zero_le _
    | some x => rw [hra, h]; exact HTL.out x (getT_mem h))
  have CTW : Hid (∀ V, TVs 0 V T a1 c1 a2 c2 → Calls Tryz.prog 6 #[.agg #[.string T.name, .int .i64 T.most, .slice a1 T.uq.length c1, .slice a2 T.rows.length c2]] V fun e w' => ∃ y1 d1 y2 d2, e = .returned (.agg #[.string T.name, .int .i64 T.most, .slice y1 T.uq.length d1, .slice y2 T.rows.length d2]) ∧ TVs 0 w' T y1 d1 y2 d2 ∧ Below V.heap.size V w') := Lib.hid (fun V u => (rTwinT_any 0 T a1 a2 c1 c2 V u HGT.out.sm).mono (fun e w' h => by
    obtain ⟨⟨v, rfl, hg⟩, hb⟩ := h
    obtain ⟨y1, d1, y2, d2, rfl, hT⟩ := hg.tvs
    exact ⟨y1, d1, y2, d2, rfl, hT.mono (Nat.zero_le _), hb⟩))
  have CGA : Hid (∀ V y1 y2 d1 d2, TVs 0 V T y1 d1 y2 d2 → Calls Tryz.prog 7 #[.agg #[.string T.name, .int .i64 T.most, .slice y1 T.uq.length d1, .slice y2 T.rows.length d2], .string s] V fun e w' => ∃ ad cp, e = .returned (.tuple #[.agg #[.string ra.id, .slice ad ra.d.length cp], .bool ib]) ∧ DV 0 w' ad cp ra.d ∧ Blk w' V.heap.size w'.heap.size ad 47 (ra.d.length * 5) ∧ Below V.heap.size V w') := Lib.hid (fun V y1 y2 d1 d2 u => (tGet_any 0 T y1 y2 d1 d2 s V u HGT.out.sm).mono (fun en w' h => by
    rw [hra, hib]
    exact ag_of h (by have := HOL.out; rw [hra] at this; unfold maxLen; omega)))
  have CGB : Hid (∀ V, TVs 0 V T a1 c1 a2 c2 → Calls Tryz.prog 8 #[.agg #[.string T.name, .int .i64 T.most, .slice a1 T.uq.length c1, .slice a2 T.rows.length c2], .string s] V fun e w' => ∃ ad cp, e = .returned (.tuple #[.agg #[.string ra.id, .slice ad ra.d.length cp], .bool ib]) ∧ DV 0 w' ad cp ra.d ∧ Below V.heap.size V w') := Lib.hid (fun V u => by rw [hra, hib]; exact rGet_any 0 T a1 a2 c1 c2 s V u HGT.out)
  have CPA : Hid (∀ V y1 y2 d1 d2, TVs 0 V T y1 d1 y2 d2 → DV 0 V ad cp r.d → Calls Tryz.prog 9 #[.agg #[.string T.name, .int .i64 T.most, .slice y1 T.uq.length d1, .slice y2 T.rows.length d2], .agg #[.string r.id, .slice ad r.d.length cp]] V (PT2 V X e)) := Lib.hid (fun V y1 y2 d1 d2 u v => by
    have h := tPut_any 0 0 T y1 y2 d1 d2 r ad cp V u HGT.out.sm v HSR'.out
    rw [hX] at h
    exact h.mono (fun en w' h => pt2_of h HXL.out.1))
  have CPB : Hid (∀ V, TVs 0 V T a1 c1 a2 c2 → DV 0 V ad cp r.d → Calls Tryz.prog 10 #[.agg #[.string T.name, .int .i64 T.most, .slice a1 T.uq.length c1, .slice a2 T.rows.length c2], .agg #[.string r.id, .slice ad r.d.length cp]] V (PT V X e)) := Lib.hid (fun V u v => by
    have h := rPut_any 0 0 T a1 a2 c1 c2 r ad cp V u HGT.out v HSR'.out HNR'.out
    rw [hX] at h
    exact h.mono (fun en w' h => pt_of h))
  have CSA : Hid (∀ V y1 y2 d1 d2, TVs 0 V T y1 d1 y2 d2 → DV 0 V ad cp r.d → Calls Tryz.prog 11 #[.agg #[.string T.name, .int .i64 T.most, .slice y1 T.uq.length d1, .slice y2 T.rows.length d2], .agg #[.string r.id, .slice ad r.d.length cp]] V (PT2 V Y f)) := Lib.hid (fun V y1 y2 d1 d2 u v => by
    have h := tSet_any 0 0 T y1 y2 d1 d2 r ad cp V u HGT.out.sm v HSR'.out
    rw [hY] at h
    exact h.mono (fun en w' h => pt2_of h HYL.out.1))
  have CSB : Hid (∀ V, TVs 0 V T a1 c1 a2 c2 → DV 0 V ad cp r.d → Calls Tryz.prog 12 #[.agg #[.string T.name, .int .i64 T.most, .slice a1 T.uq.length c1, .slice a2 T.rows.length c2], .agg #[.string r.id, .slice ad r.d.length cp]] V (PT V Y f)) := Lib.hid (fun V u v => by
    have h := rSet_any 0 0 T a1 a2 c1 c2 r ad cp V u HGT.out v HSR'.out HNR'.out
    rw [hY] at h
    exact h.mono (fun en w' h => pt_of h))
  have CDA : Hid (∀ V y1 y2 d1 d2, TVs 0 V T y1 d1 y2 d2 → Calls Tryz.prog 13 #[.agg #[.string T.name, .int .i64 T.most, .slice y1 T.uq.length d1, .slice y2 T.rows.length d2], .string s] V (PT2 V Z g)) := Lib.hid (fun V y1 y2 d1 d2 u => by
    have h := tDrop_any 0 T y1 y2 d1 d2 s V u HGT.out.sm
    rw [hZ] at h
    exact h.mono (fun en w' h => pt2_of h HZL.out.1))
  have CDB : Hid (∀ V, TVs 0 V T a1 c1 a2 c2 → Calls Tryz.prog 14 #[.agg #[.string T.name, .int .i64 T.most, .slice a1 T.uq.length c1, .slice a2 T.rows.length c2], .string s] V (PT V Z g)) := Lib.hid (fun V u => by
    have h := rDrop_any 0 T a1 a2 c1 c2 s V u HGT.out
    rw [hZ] at h
    exact h.mono (fun en w' h => pt_of h))
  have CSR : Hid (∀ V ae ce af cf, DV 0 V ae ce ra.d → DV 0 V af cf ra.d → Calls Tryz.prog 15 #[.agg #[.string ra.id, .slice ae ra.d.length ce], .agg #[.string ra.id, .slice af ra.d.length cf]] V fun e w' => e = .returned (.bool true) ∧ Below V.heap.size V w') := Lib.hid (fun V ae ce af cf u v => by
    have h := sameR_any 0 0 ra ra ae af ce cf V u v (by have := HOL.out; unfold maxLen; omega)
    rw [decide_eq_true rfl] at h
    exact h)
  have CSM : Hid (∀ (U : TM), (∀ x ∈ U.rows, x.d.length ≤ 1000000) → ∀ V y1 y2 d1 d2 z1 z2 l1 l2, TVs 0 V U y1 d1 y2 d2 → TVs 0 V U z1 l1 z2 l2 → Calls Tryz.prog 16 #[.agg #[.string U.name, .int .i64 U.most, .slice y1 U.uq.length d1, .slice y2 U.rows.length d2], .agg #[.string U.name, .int .i64 U.most, .slice z1 U.uq.length l1, .slice z2 U.rows.length l2]] V fun e w' => e = .returned (.bool true) ∧ Below V.heap.size V w') := Lib.hid (fun U hU V y1 y2 d1 d2 z1 z2 l1 l2 u v => by
    have h := sameT_any 0 0 U U y1 y2 z1 z2 d1 d2 l1 l2 V u v (fun x hx => by have := hU x hx; unfold maxLen; omega)
    rw [decide_eq_true rfl] at h
    exact h)
  have CC1 := Lib.hid (fun V y1 y2 d1 d2 (u : TVs 0 V T y1 d1 y2 d2) => tCheck_any 0 T y1 y2 d1 d2 V u HGT.out.sm)
  have CC2 := Lib.hid (fun V (u : TVs 0 V T a1 c1 a2 c2) => rCheckT_any 0 T a1 a2 c1 c2 V u HGT.out)
  have CT1 := Lib.hid (fun V y1 y2 d1 d2 (u : TVs 0 V T y1 d1 y2 d2) (v : TVs 0 V O b1 k1 b2 k2) => tSame_any 0 0 T O y1 y2 b1 b2 d1 d2 k1 k2 V u v HTL2.out (by have := HGT.out.sm.uq; unfold maxLen; omega) (by have := HGT.out.n; unfold maxLen; omega))
  have CT2 := Lib.hid (fun V (u : TVs 0 V T a1 c1 a2 c2) (v : TVs 0 V O b1 k1 b2 k2) => sameT_any 0 0 T O a1 a2 b1 b2 c1 c2 k1 k2 V u v HTL2.out)
  have CT3 : Hid (∀ V y1 y2 d1 d2, TVs 0 V T y1 d1 y2 d2 → TVs 0 V T a1 c1 a2 c2 → Calls Tryz.prog 19 #[.agg #[.string T.name, .int .i64 T.most, .slice y1 T.uq.length d1, .slice y2 T.rows.length d2], .agg #[.string T.name, .int .i64 T.most, .slice a1 T.uq.length c1, .slice a2 T.rows.length c2]] V fun e w' => e = .returned (.bool true) ∧ Below V.heap.size V w') := Lib.hid (fun V y1 y2 d1 d2 u v => by
    have h := tSame_any 0 0 T T y1 y2 a1 a2 d1 d2 c1 c2 V u v HTL2.out (by have := HGT.out.sm.uq; unfold maxLen; omega) (by have := HGT.out.n; unfold maxLen; omega)
    rw [decide_eq_true rfl] at h
    exact h)
  have CTZ : Hid (∀ V y1 y2 d1 d2, TVs 0 V T y1 d1 y2 d2 → Calls Tryz.prog 20 #[.agg #[.string T.name, .int .i64 T.most, .slice y1 T.uq.length d1, .slice y2 T.rows.length d2]] V (PZ V T)) := Lib.hid (fun V y1 y2 d1 d2 u => (tTwin_any 0 T y1 y2 d1 d2 V u HGT.out.sm).mono (fun en w' h => pz_of h HTL.out))
  have HTU : Hid (T.rows.length ≤ 1000 ∧ T.uq.length ≤ 1000) := Lib.hid ⟨HGT.out.sm.rows, HGT.out.sm.uq⟩
  unfold tv at CC1 CC2 CT1 CT2
  obtain ⟨tk, htk⟩ : ∃ t, t = eC (tabOk T) := ⟨_, rfl⟩
  rw [← htk] at CC1 CC2
  obtain ⟨tq, hto⟩ : ∃ t, t = decide (T = O) := ⟨_, rfl⟩
  rw [← hto] at CT1 CT2
  clear hra hib hX hY hZ htk hto HGT HSR' HNR' HRL
  have x_0 := (HMc.out _ (Below.refl (wc).heap.size (wc))).1.c0
  have x_1 := (HMc.out _ (Below.refl (wc).heap.size (wc))).1.c1
  have x_2 := (HMc.out _ (Below.refl (wc).heap.size (wc))).1.c2
  have x_3 := (HMc.out _ (Below.refl (wc).heap.size (wc))).1.c3
  go_wp2_with fail
  clear x_0 x_1 x_2 x_3
  refine (CTW.out _ (HMc.out _ (Below.refl (wc).heap.size (wc))).2.2.2.1).mono ?_
  rintro en w3 ⟨e13, f13, e23, f23, rfl, h3, k3⟩
  have HM3 := Lib.hid (pk HMc.out (k3.alloc k3.size (.cells #[.string T.name, .int .i64 T.most, .slice e13 T.uq.length f13, .slice e23 T.rows.length f23] 25)) (fun V (k : Below (w3.alloc (.cells #[.string T.name, .int .i64 T.most, .slice e13 T.uq.length f13, .slice e23 T.rows.length f23] 25)).heap.size (w3.alloc (.cells #[.string T.name, .int .i64 T.most, .slice e13 T.uq.length f13, .slice e23 T.rows.length f23] 25)) V) => And.intro ((bx4_new w3 25 (.string T.name) (.int .i64 T.most) (.slice e13 T.uq.length f13) (.slice e23 T.rows.length f23)).up k) (And.intro (((h3.mono (Nat.zero_le _)).below ((Below.refl w3.heap.size w3).alloc (Nat.le_refl _) (.cells #[.string T.name, .int .i64 T.most, .slice e13 T.uq.length f13, .slice e23 T.rows.length f23] 25))).below k) (k))))
  have hq3 : Hid ((wc).heap.size ≤ w3.heap.size) := Lib.hid k3.size
  have hs3 : Hid ((w3.alloc (.cells #[.string T.name, .int .i64 T.most, .slice e13 T.uq.length f13, .slice e23 T.rows.length f23] 25)).heap.size = w3.heap.size + 1) := Lib.hid (by simp)
  have BW3 := Lib.hid (BC.out.trans ((k3.alloc k3.size (.cells #[.string T.name, .int .i64 T.most, .slice e13 T.uq.length f13, .slice e23 T.rows.length f23] 25)).mono BC.out.size))
  have HMX := HM3
  clear k3 h3
  have x_0 := (HM3.out _ (Below.refl (w3.alloc (.cells #[.string T.name, .int .i64 T.most, .slice e13 T.uq.length f13, .slice e23 T.rows.length f23] 25)).heap.size (w3.alloc (.cells #[.string T.name, .int .i64 T.most, .slice e13 T.uq.length f13, .slice e23 T.rows.length f23] 25)))).2.1.c0
  have x_1 := (HM3.out _ (Below.refl (w3.alloc (.cells #[.string T.name, .int .i64 T.most, .slice e13 T.uq.length f13, .slice e23 T.rows.length f23] 25)).heap.size (w3.alloc (.cells #[.string T.name, .int .i64 T.most, .slice e13 T.uq.length f13, .slice e23 T.rows.length f23] 25)))).2.1.c1
  have x_2 := (HM3.out _ (Below.refl (w3.alloc (.cells #[.string T.name, .int .i64 T.most, .slice e13 T.uq.length f13, .slice e23 T.rows.length f23] 25)).heap.size (w3.alloc (.cells #[.string T.name, .int .i64 T.most, .slice e13 T.uq.length f13, .slice e23 T.rows.length f23] 25)))).2.1.c2
  have x_3 := (HM3.out _ (Below.refl (w3.alloc (.cells #[.string T.name, .int .i64 T.most, .slice e13 T.uq.length f13, .slice e23 T.rows.length f23] 25)).heap.size (w3.alloc (.cells #[.string T.name, .int .i64 T.most, .slice e13 T.uq.length f13, .slice e23 T.rows.length f23] 25)))).2.1.c3
  go_wp2_with fail
  clear x_0 x_1 x_2 x_3
  refine (CGA.out _ _ _ _ _ (HM3.out _ (Below.refl (w3.alloc (.cells #[.string T.name, .int .i64 T.most, .slice e13 T.uq.length f13, .slice e23 T.rows.length f23] 25)).heap.size (w3.alloc (.cells #[.string T.name, .int .i64 T.most, .slice e13 T.uq.length f13, .slice e23 T.rows.length f23] 25)))).2.2.1).mono ?_
  rintro en w4 ⟨ad4, cp4, rfl, h4, g4, k4⟩
  have HM4 := Lib.hid (pk HM3.out (k4.alloc k4.size (.cells #[.string ra.id, .slice ad4 ra.d.length cp4] 28)) (fun V (k : Below (w4.alloc (.cells #[.string ra.id, .slice ad4 ra.d.length cp4] 28)).heap.size (w4.alloc (.cells #[.string ra.id, .slice ad4 ra.d.length cp4] 28)) V) => And.intro ((bx2_new w4 (.string ra.id) (.slice ad4 ra.d.length cp4)).up k) (And.intro ((h4.below ((Below.refl w4.heap.size w4).alloc (Nat.le_refl _) (.cells #[.string ra.id, .slice ad4 ra.d.length cp4] 28))).below k) ((g4.up (Nat.le_refl _) ((Below.refl w4.heap.size w4).alloc (Nat.le_refl _) (.cells #[.string ra.id, .slice ad4 ra.d.length cp4] 28))).up (by simp) k))))
  have hq4 : Hid ((w3.alloc (.cells #[.string T.name, .int .i64 T.most, .slice e13 T.uq.length f13, .slice e23 T.rows.length f23] 25)).heap.size ≤ w4.heap.size) := Lib.hid k4.size
  have hs4 : Hid ((w4.alloc (.cells #[.string ra.id, .slice ad4 ra.d.length cp4] 28)).heap.size = w4.heap.size + 1) := Lib.hid (by simp)
  clear k4 h4 g4
  have x_0 := (HM4.out _ (Below.refl (w4.alloc (.cells #[.string ra.id, .slice ad4 ra.d.length cp4] 28)).heap.size (w4.alloc (.cells #[.string ra.id, .slice ad4 ra.d.length cp4] 28)))).1.1.1.c0
  have x_1 := (HM4.out _ (Below.refl (w4.alloc (.cells #[.string ra.id, .slice ad4 ra.d.length cp4] 28)).heap.size (w4.alloc (.cells #[.string ra.id, .slice ad4 ra.d.length cp4] 28)))).1.1.1.c1
  have x_2 := (HM4.out _ (Below.refl (w4.alloc (.cells #[.string ra.id, .slice ad4 ra.d.length cp4] 28)).heap.size (w4.alloc (.cells #[.string ra.id, .slice ad4 ra.d.length cp4] 28)))).1.1.1.c2
  have x_3 := (HM4.out _ (Below.refl (w4.alloc (.cells #[.string ra.id, .slice ad4 ra.d.length cp4] 28)).heap.size (w4.alloc (.cells #[.string ra.id, .slice ad4 ra.d.length cp4] 28)))).1.1.1.c3
  go_wp2_with fail
  clear x_0 x_1 x_2 x_3
  refine (CGB.out _ (HM4.out _ (Below.refl (w4.alloc (.cells #[.string ra.id, .slice ad4 ra.d.length cp4] 28)).heap.size (w4.alloc (.cells #[.string ra.id, .slice ad4 ra.d.length cp4] 28)))).1.1.2.2.2.1).mono ?_
  rintro en w5 ⟨ad5, cp5, rfl, h5, k5⟩
  have HM5 := Lib.hid (pk HM4.out (k5.alloc k5.size (.cells #[.string ra.id, .slice ad5 ra.d.length cp5] 28)) (fun V (k : Below (w5.alloc (.cells #[.string ra.id, .slice ad5 ra.d.length cp5] 28)).heap.size (w5.alloc (.cells #[.string ra.id, .slice ad5 ra.d.length cp5] 28)) V) => And.intro ((bx2_new w5 (.string ra.id) (.slice ad5 ra.d.length cp5)).up k) ((h5.below ((Below.refl w5.heap.size w5).alloc (Nat.le_refl _) (.cells #[.string ra.id, .slice ad5 ra.d.length cp5] 28))).below k)))
  have hq5 : Hid ((w4.alloc (.cells #[.string ra.id, .slice ad4 ra.d.length cp4] 28)).heap.size ≤ w5.heap.size) := Lib.hid k5.size
  have hs5 : Hid ((w5.alloc (.cells #[.string ra.id, .slice ad5 ra.d.length cp5] 28)).heap.size = w5.heap.size + 1) := Lib.hid (by simp)
  clear k5 h5 CGA CGB CTW
  have x_0 := (HM5.out _ (Below.refl (w5.alloc (.cells #[.string ra.id, .slice ad5 ra.d.length cp5] 28)).heap.size (w5.alloc (.cells #[.string ra.id, .slice ad5 ra.d.length cp5] 28)))).1.1.2.1.c0
  have x_1 := (HM5.out _ (Below.refl (w5.alloc (.cells #[.string ra.id, .slice ad5 ra.d.length cp5] 28)).heap.size (w5.alloc (.cells #[.string ra.id, .slice ad5 ra.d.length cp5] 28)))).1.1.2.1.c1
  have x_2 := (HM5.out _ (Below.refl (w5.alloc (.cells #[.string ra.id, .slice ad5 ra.d.length cp5] 28)).heap.size (w5.alloc (.cells #[.string ra.id, .slice ad5 ra.d.length cp5] 28)))).1.1.2.1.c2
  have x_3 := (HM5.out _ (Below.refl (w5.alloc (.cells #[.string ra.id, .slice ad5 ra.d.length cp5] 28)).heap.size (w5.alloc (.cells #[.string ra.id, .slice ad5 ra.d.length cp5] 28)))).1.1.2.1.c3
  have y_0 := (HM5.out _ (Below.refl (w5.alloc (.cells #[.string ra.id, .slice ad5 ra.d.length cp5] 28)).heap.size (w5.alloc (.cells #[.string ra.id, .slice ad5 ra.d.length cp5] 28)))).1.1.1.2.2.1.c0
  have y_1 := (HM5.out _ (Below.refl (w5.alloc (.cells #[.string ra.id, .slice ad5 ra.d.length cp5] 28)).heap.size (w5.alloc (.cells #[.string ra.id, .slice ad5 ra.d.length cp5] 28)))).1.1.1.2.2.1.c1
  go_wp2_with fail
  clear x_0 x_1 x_2 x_3 y_0 y_1
  refine (CPA.out _ _ _ _ _ (HM5.out _ (Below.refl (w5.alloc (.cells #[.string ra.id, .slice ad5 ra.d.length cp5] 28)).heap.size (w5.alloc (.cells #[.string ra.id, .slice ad5 ra.d.length cp5] 28)))).1.1.2.2.1 (HM5.out _ (Below.refl (w5.alloc (.cells #[.string ra.id, .slice ad5 ra.d.length cp5] 28)).heap.size (w5.alloc (.cells #[.string ra.id, .slice ad5 ra.d.length cp5] 28)))).1.1.1.2.2.2.2.2).mono ?_
  rintro en w6 ⟨e16, f16, e26, f26, rfl, h6, ⟨g6, r6⟩, k6⟩
  have HM6 := Lib.hid (pk HM5.out (k6.alloc k6.size (.cells #[.string X.name, .int .i64 X.most, .slice e16 X.uq.length f16, .slice e26 X.rows.length f26] 25)) (fun V (k : Below (w6.alloc (.cells #[.string X.name, .int .i64 X.most, .slice e16 X.uq.length f16, .slice e26 X.rows.length f26] 25)).heap.size (w6.alloc (.cells #[.string X.name, .int .i64 X.most, .slice e16 X.uq.length f16, .slice e26 X.rows.length f26] 25)) V) => And.intro ((bx4_new w6 25 (.string X.name) (.int .i64 X.most) (.slice e16 X.uq.length f16) (.slice e26 X.rows.length f26)).up k) (And.intro (((h6.mono (Nat.zero_le _)).below ((Below.refl w6.heap.size w6).alloc (Nat.le_refl _) (.cells #[.string X.name, .int .i64 X.most, .slice e16 X.uq.length f16, .slice e26 X.rows.length f26] 25))).below k) (And.intro ((g6.up (Nat.le_refl _) ((Below.refl w6.heap.size w6).alloc (Nat.le_refl _) (.cells #[.string X.name, .int .i64 X.most, .slice e16 X.uq.length f16, .slice e26 X.rows.length f26] 25))).up (by simp) k) ((r6.up (Nat.le_refl _) ((Below.refl w6.heap.size w6).alloc (Nat.le_refl _) (.cells #[.string X.name, .int .i64 X.most, .slice e16 X.uq.length f16, .slice e26 X.rows.length f26] 25))).up (by simp) k)))))
  have hq6 : Hid ((w5.alloc (.cells #[.string ra.id, .slice ad5 ra.d.length cp5] 28)).heap.size ≤ w6.heap.size) := Lib.hid k6.size
  have hs6 : Hid ((w6.alloc (.cells #[.string X.name, .int .i64 X.most, .slice e16 X.uq.length f16, .slice e26 X.rows.length f26] 25)).heap.size = w6.heap.size + 1) := Lib.hid (by simp)
  clear k6 h6 g6 r6
  have x_0 := (HM6.out _ (Below.refl (w6.alloc (.cells #[.string X.name, .int .i64 X.most, .slice e16 X.uq.length f16, .slice e26 X.rows.length f26] 25)).heap.size (w6.alloc (.cells #[.string X.name, .int .i64 X.most, .slice e16 X.uq.length f16, .slice e26 X.rows.length f26] 25)))).1.1.1.1.1.c0
  have x_1 := (HM6.out _ (Below.refl (w6.alloc (.cells #[.string X.name, .int .i64 X.most, .slice e16 X.uq.length f16, .slice e26 X.rows.length f26] 25)).heap.size (w6.alloc (.cells #[.string X.name, .int .i64 X.most, .slice e16 X.uq.length f16, .slice e26 X.rows.length f26] 25)))).1.1.1.1.1.c1
  have x_2 := (HM6.out _ (Below.refl (w6.alloc (.cells #[.string X.name, .int .i64 X.most, .slice e16 X.uq.length f16, .slice e26 X.rows.length f26] 25)).heap.size (w6.alloc (.cells #[.string X.name, .int .i64 X.most, .slice e16 X.uq.length f16, .slice e26 X.rows.length f26] 25)))).1.1.1.1.1.c2
  have x_3 := (HM6.out _ (Below.refl (w6.alloc (.cells #[.string X.name, .int .i64 X.most, .slice e16 X.uq.length f16, .slice e26 X.rows.length f26] 25)).heap.size (w6.alloc (.cells #[.string X.name, .int .i64 X.most, .slice e16 X.uq.length f16, .slice e26 X.rows.length f26] 25)))).1.1.1.1.1.c3
  have y_0 := (HM6.out _ (Below.refl (w6.alloc (.cells #[.string X.name, .int .i64 X.most, .slice e16 X.uq.length f16, .slice e26 X.rows.length f26] 25)).heap.size (w6.alloc (.cells #[.string X.name, .int .i64 X.most, .slice e16 X.uq.length f16, .slice e26 X.rows.length f26] 25)))).1.1.1.1.2.2.1.c0
  have y_1 := (HM6.out _ (Below.refl (w6.alloc (.cells #[.string X.name, .int .i64 X.most, .slice e16 X.uq.length f16, .slice e26 X.rows.length f26] 25)).heap.size (w6.alloc (.cells #[.string X.name, .int .i64 X.most, .slice e16 X.uq.length f16, .slice e26 X.rows.length f26] 25)))).1.1.1.1.2.2.1.c1
  go_wp2_with fail
  clear x_0 x_1 x_2 x_3 y_0 y_1
  refine (CPB.out _ (HM6.out _ (Below.refl (w6.alloc (.cells #[.string X.name, .int .i64 X.most, .slice e16 X.uq.length f16, .slice e26 X.rows.length f26] 25)).heap.size (w6.alloc (.cells #[.string X.name, .int .i64 X.most, .slice e16 X.uq.length f16, .slice e26 X.rows.length f26] 25)))).1.1.1.1.2.2.2.1 (HM6.out _ (Below.refl (w6.alloc (.cells #[.string X.name, .int .i64 X.most, .slice e16 X.uq.length f16, .slice e26 X.rows.length f26] 25)).heap.size (w6.alloc (.cells #[.string X.name, .int .i64 X.most, .slice e16 X.uq.length f16, .slice e26 X.rows.length f26] 25)))).1.1.1.1.2.2.2.2.2).mono ?_
  rintro en w7 ⟨e17, f17, e27, f27, rfl, h7, k7⟩
  have HM7 := Lib.hid (pk HM6.out (k7.alloc k7.size (.cells #[.string X.name, .int .i64 X.most, .slice e17 X.uq.length f17, .slice e27 X.rows.length f27] 25)) (fun V (k : Below (w7.alloc (.cells #[.string X.name, .int .i64 X.most, .slice e17 X.uq.length f17, .slice e27 X.rows.length f27] 25)).heap.size (w7.alloc (.cells #[.string X.name, .int .i64 X.most, .slice e17 X.uq.length f17, .slice e27 X.rows.length f27] 25)) V) => And.intro ((bx4_new w7 25 (.string X.name) (.int .i64 X.most) (.slice e17 X.uq.length f17) (.slice e27 X.rows.length f27)).up k) (((h7.mono (Nat.zero_le _)).below ((Below.refl w7.heap.size w7).alloc (Nat.le_refl _) (.cells #[.string X.name, .int .i64 X.most, .slice e17 X.uq.length f17, .slice e27 X.rows.length f27] 25))).below k)))
  have hq7 : Hid ((w6.alloc (.cells #[.string X.name, .int .i64 X.most, .slice e16 X.uq.length f16, .slice e26 X.rows.length f26] 25)).heap.size ≤ w7.heap.size) := Lib.hid k7.size
  have hs7 : Hid ((w7.alloc (.cells #[.string X.name, .int .i64 X.most, .slice e17 X.uq.length f17, .slice e27 X.rows.length f27] 25)).heap.size = w7.heap.size + 1) := Lib.hid (by simp)
  clear k7 h7
  clear CPA CPB
  have x_0 := (HM7.out _ (Below.refl (w7.alloc (.cells #[.string X.name, .int .i64 X.most, .slice e17 X.uq.length f17, .slice e27 X.rows.length f27] 25)).heap.size (w7.alloc (.cells #[.string X.name, .int .i64 X.most, .slice e17 X.uq.length f17, .slice e27 X.rows.length f27] 25)))).1.1.1.1.2.1.c0
  have x_1 := (HM7.out _ (Below.refl (w7.alloc (.cells #[.string X.name, .int .i64 X.most, .slice e17 X.uq.length f17, .slice e27 X.rows.length f27] 25)).heap.size (w7.alloc (.cells #[.string X.name, .int .i64 X.most, .slice e17 X.uq.length f17, .slice e27 X.rows.length f27] 25)))).1.1.1.1.2.1.c1
  have x_2 := (HM7.out _ (Below.refl (w7.alloc (.cells #[.string X.name, .int .i64 X.most, .slice e17 X.uq.length f17, .slice e27 X.rows.length f27] 25)).heap.size (w7.alloc (.cells #[.string X.name, .int .i64 X.most, .slice e17 X.uq.length f17, .slice e27 X.rows.length f27] 25)))).1.1.1.1.2.1.c2
  have x_3 := (HM7.out _ (Below.refl (w7.alloc (.cells #[.string X.name, .int .i64 X.most, .slice e17 X.uq.length f17, .slice e27 X.rows.length f27] 25)).heap.size (w7.alloc (.cells #[.string X.name, .int .i64 X.most, .slice e17 X.uq.length f17, .slice e27 X.rows.length f27] 25)))).1.1.1.1.2.1.c3
  have y_0 := (HM7.out _ (Below.refl (w7.alloc (.cells #[.string X.name, .int .i64 X.most, .slice e17 X.uq.length f17, .slice e27 X.rows.length f27] 25)).heap.size (w7.alloc (.cells #[.string X.name, .int .i64 X.most, .slice e17 X.uq.length f17, .slice e27 X.rows.length f27] 25)))).1.1.1.1.1.2.2.1.c0
  have y_1 := (HM7.out _ (Below.refl (w7.alloc (.cells #[.string X.name, .int .i64 X.most, .slice e17 X.uq.length f17, .slice e27 X.rows.length f27] 25)).heap.size (w7.alloc (.cells #[.string X.name, .int .i64 X.most, .slice e17 X.uq.length f17, .slice e27 X.rows.length f27] 25)))).1.1.1.1.1.2.2.1.c1
  go_wp2_with fail
  clear x_0 x_1 x_2 x_3 y_0 y_1
  refine (CSA.out _ _ _ _ _ (HM7.out _ (Below.refl (w7.alloc (.cells #[.string X.name, .int .i64 X.most, .slice e17 X.uq.length f17, .slice e27 X.rows.length f27] 25)).heap.size (w7.alloc (.cells #[.string X.name, .int .i64 X.most, .slice e17 X.uq.length f17, .slice e27 X.rows.length f27] 25)))).1.1.1.1.2.2.1 (HM7.out _ (Below.refl (w7.alloc (.cells #[.string X.name, .int .i64 X.most, .slice e17 X.uq.length f17, .slice e27 X.rows.length f27] 25)).heap.size (w7.alloc (.cells #[.string X.name, .int .i64 X.most, .slice e17 X.uq.length f17, .slice e27 X.rows.length f27] 25)))).1.1.1.1.1.2.2.2.2.2).mono ?_
  rintro en w8 ⟨e18, f18, e28, f28, rfl, h8, ⟨g8, r8⟩, k8⟩
  have HM8 := Lib.hid (pk HM7.out (k8.alloc k8.size (.cells #[.string Y.name, .int .i64 Y.most, .slice e18 Y.uq.length f18, .slice e28 Y.rows.length f28] 25)) (fun V (k : Below (w8.alloc (.cells #[.string Y.name, .int .i64 Y.most, .slice e18 Y.uq.length f18, .slice e28 Y.rows.length f28] 25)).heap.size (w8.alloc (.cells #[.string Y.name, .int .i64 Y.most, .slice e18 Y.uq.length f18, .slice e28 Y.rows.length f28] 25)) V) => And.intro ((bx4_new w8 25 (.string Y.name) (.int .i64 Y.most) (.slice e18 Y.uq.length f18) (.slice e28 Y.rows.length f28)).up k) (And.intro (((h8.mono (Nat.zero_le _)).below ((Below.refl w8.heap.size w8).alloc (Nat.le_refl _) (.cells #[.string Y.name, .int .i64 Y.most, .slice e18 Y.uq.length f18, .slice e28 Y.rows.length f28] 25))).below k) (And.intro ((g8.up (Nat.le_refl _) ((Below.refl w8.heap.size w8).alloc (Nat.le_refl _) (.cells #[.string Y.name, .int .i64 Y.most, .slice e18 Y.uq.length f18, .slice e28 Y.rows.length f28] 25))).up (by simp) k) ((r8.up (Nat.le_refl _) ((Below.refl w8.heap.size w8).alloc (Nat.le_refl _) (.cells #[.string Y.name, .int .i64 Y.most, .slice e18 Y.uq.length f18, .slice e28 Y.rows.length f28] 25))).up (by simp) k)))))
  have hq8 : Hid ((w7.alloc (.cells #[.string X.name, .int .i64 X.most, .slice e17 X.uq.length f17, .slice e27 X.rows.length f27] 25)).heap.size ≤ w8.heap.size) := Lib.hid k8.size
  have hs8 : Hid ((w8.alloc (.cells #[.string Y.name, .int .i64 Y.most, .slice e18 Y.uq.length f18, .slice e28 Y.rows.length f28] 25)).heap.size = w8.heap.size + 1) := Lib.hid (by simp)
  clear k8 h8 g8 r8
  have x_0 := (HM8.out _ (Below.refl (w8.alloc (.cells #[.string Y.name, .int .i64 Y.most, .slice e18 Y.uq.length f18, .slice e28 Y.rows.length f28] 25)).heap.size (w8.alloc (.cells #[.string Y.name, .int .i64 Y.most, .slice e18 Y.uq.length f18, .slice e28 Y.rows.length f28] 25)))).1.1.1.1.1.1.1.c0
  have x_1 := (HM8.out _ (Below.refl (w8.alloc (.cells #[.string Y.name, .int .i64 Y.most, .slice e18 Y.uq.length f18, .slice e28 Y.rows.length f28] 25)).heap.size (w8.alloc (.cells #[.string Y.name, .int .i64 Y.most, .slice e18 Y.uq.length f18, .slice e28 Y.rows.length f28] 25)))).1.1.1.1.1.1.1.c1
  have x_2 := (HM8.out _ (Below.refl (w8.alloc (.cells #[.string Y.name, .int .i64 Y.most, .slice e18 Y.uq.length f18, .slice e28 Y.rows.length f28] 25)).heap.size (w8.alloc (.cells #[.string Y.name, .int .i64 Y.most, .slice e18 Y.uq.length f18, .slice e28 Y.rows.length f28] 25)))).1.1.1.1.1.1.1.c2
  have x_3 := (HM8.out _ (Below.refl (w8.alloc (.cells #[.string Y.name, .int .i64 Y.most, .slice e18 Y.uq.length f18, .slice e28 Y.rows.length f28] 25)).heap.size (w8.alloc (.cells #[.string Y.name, .int .i64 Y.most, .slice e18 Y.uq.length f18, .slice e28 Y.rows.length f28] 25)))).1.1.1.1.1.1.1.c3
  have y_0 := (HM8.out _ (Below.refl (w8.alloc (.cells #[.string Y.name, .int .i64 Y.most, .slice e18 Y.uq.length f18, .slice e28 Y.rows.length f28] 25)).heap.size (w8.alloc (.cells #[.string Y.name, .int .i64 Y.most, .slice e18 Y.uq.length f18, .slice e28 Y.rows.length f28] 25)))).1.1.1.1.1.1.2.2.1.c0
  have y_1 := (HM8.out _ (Below.refl (w8.alloc (.cells #[.string Y.name, .int .i64 Y.most, .slice e18 Y.uq.length f18, .slice e28 Y.rows.length f28] 25)).heap.size (w8.alloc (.cells #[.string Y.name, .int .i64 Y.most, .slice e18 Y.uq.length f18, .slice e28 Y.rows.length f28] 25)))).1.1.1.1.1.1.2.2.1.c1
  go_wp2_with fail
  clear x_0 x_1 x_2 x_3 y_0 y_1
  refine (CSB.out _ (HM8.out _ (Below.refl (w8.alloc (.cells #[.string Y.name, .int .i64 Y.most, .slice e18 Y.uq.length f18, .slice e28 Y.rows.length f28] 25)).heap.size (w8.alloc (.cells #[.string Y.name, .int .i64 Y.most, .slice e18 Y.uq.length f18, .slice e28 Y.rows.length f28] 25)))).1.1.1.1.1.1.2.2.2.1 (HM8.out _ (Below.refl (w8.alloc (.cells #[.string Y.name, .int .i64 Y.most, .slice e18 Y.uq.length f18, .slice e28 Y.rows.length f28] 25)).heap.size (w8.alloc (.cells #[.string Y.name, .int .i64 Y.most, .slice e18 Y.uq.length f18, .slice e28 Y.rows.length f28] 25)))).1.1.1.1.1.1.2.2.2.2.2).mono ?_
  rintro en w9 ⟨e19, f19, e29, f29, rfl, h9, k9⟩
  have HM9 := Lib.hid (pk HM8.out (k9.alloc k9.size (.cells #[.string Y.name, .int .i64 Y.most, .slice e19 Y.uq.length f19, .slice e29 Y.rows.length f29] 25)) (fun V (k : Below (w9.alloc (.cells #[.string Y.name, .int .i64 Y.most, .slice e19 Y.uq.length f19, .slice e29 Y.rows.length f29] 25)).heap.size (w9.alloc (.cells #[.string Y.name, .int .i64 Y.most, .slice e19 Y.uq.length f19, .slice e29 Y.rows.length f29] 25)) V) => And.intro ((bx4_new w9 25 (.string Y.name) (.int .i64 Y.most) (.slice e19 Y.uq.length f19) (.slice e29 Y.rows.length f29)).up k) (((h9.mono (Nat.zero_le _)).below ((Below.refl w9.heap.size w9).alloc (Nat.le_refl _) (.cells #[.string Y.name, .int .i64 Y.most, .slice e19 Y.uq.length f19, .slice e29 Y.rows.length f29] 25))).below k)))
  have hq9 : Hid ((w8.alloc (.cells #[.string Y.name, .int .i64 Y.most, .slice e18 Y.uq.length f18, .slice e28 Y.rows.length f28] 25)).heap.size ≤ w9.heap.size) := Lib.hid k9.size
  have hs9 : Hid ((w9.alloc (.cells #[.string Y.name, .int .i64 Y.most, .slice e19 Y.uq.length f19, .slice e29 Y.rows.length f29] 25)).heap.size = w9.heap.size + 1) := Lib.hid (by simp)
  clear k9 h9
  clear CSA CSB
  have x_0 := (HM9.out _ (Below.refl (w9.alloc (.cells #[.string Y.name, .int .i64 Y.most, .slice e19 Y.uq.length f19, .slice e29 Y.rows.length f29] 25)).heap.size (w9.alloc (.cells #[.string Y.name, .int .i64 Y.most, .slice e19 Y.uq.length f19, .slice e29 Y.rows.length f29] 25)))).1.1.1.1.1.1.2.1.c0
  have x_1 := (HM9.out _ (Below.refl (w9.alloc (.cells #[.string Y.name, .int .i64 Y.most, .slice e19 Y.uq.length f19, .slice e29 Y.rows.length f29] 25)).heap.size (w9.alloc (.cells #[.string Y.name, .int .i64 Y.most, .slice e19 Y.uq.length f19, .slice e29 Y.rows.length f29] 25)))).1.1.1.1.1.1.2.1.c1
  have x_2 := (HM9.out _ (Below.refl (w9.alloc (.cells #[.string Y.name, .int .i64 Y.most, .slice e19 Y.uq.length f19, .slice e29 Y.rows.length f29] 25)).heap.size (w9.alloc (.cells #[.string Y.name, .int .i64 Y.most, .slice e19 Y.uq.length f19, .slice e29 Y.rows.length f29] 25)))).1.1.1.1.1.1.2.1.c2
  have x_3 := (HM9.out _ (Below.refl (w9.alloc (.cells #[.string Y.name, .int .i64 Y.most, .slice e19 Y.uq.length f19, .slice e29 Y.rows.length f29] 25)).heap.size (w9.alloc (.cells #[.string Y.name, .int .i64 Y.most, .slice e19 Y.uq.length f19, .slice e29 Y.rows.length f29] 25)))).1.1.1.1.1.1.2.1.c3
  go_wp2_with fail
  clear x_0 x_1 x_2 x_3
  refine (CDA.out _ _ _ _ _ (HM9.out _ (Below.refl (w9.alloc (.cells #[.string Y.name, .int .i64 Y.most, .slice e19 Y.uq.length f19, .slice e29 Y.rows.length f29] 25)).heap.size (w9.alloc (.cells #[.string Y.name, .int .i64 Y.most, .slice e19 Y.uq.length f19, .slice e29 Y.rows.length f29] 25)))).1.1.1.1.1.1.2.2.1).mono ?_
  rintro en w10 ⟨e110, f110, e210, f210, rfl, h10, ⟨g10, r10⟩, k10⟩
  have HM10 := Lib.hid (pk HM9.out (k10.alloc k10.size (.cells #[.string Z.name, .int .i64 Z.most, .slice e110 Z.uq.length f110, .slice e210 Z.rows.length f210] 25)) (fun V (k : Below (w10.alloc (.cells #[.string Z.name, .int .i64 Z.most, .slice e110 Z.uq.length f110, .slice e210 Z.rows.length f210] 25)).heap.size (w10.alloc (.cells #[.string Z.name, .int .i64 Z.most, .slice e110 Z.uq.length f110, .slice e210 Z.rows.length f210] 25)) V) => And.intro ((bx4_new w10 25 (.string Z.name) (.int .i64 Z.most) (.slice e110 Z.uq.length f110) (.slice e210 Z.rows.length f210)).up k) (And.intro (((h10.mono (Nat.zero_le _)).below ((Below.refl w10.heap.size w10).alloc (Nat.le_refl _) (.cells #[.string Z.name, .int .i64 Z.most, .slice e110 Z.uq.length f110, .slice e210 Z.rows.length f210] 25))).below k) (And.intro ((g10.up (Nat.le_refl _) ((Below.refl w10.heap.size w10).alloc (Nat.le_refl _) (.cells #[.string Z.name, .int .i64 Z.most, .slice e110 Z.uq.length f110, .slice e210 Z.rows.length f210] 25))).up (by simp) k) ((r10.up (Nat.le_refl _) ((Below.refl w10.heap.size w10).alloc (Nat.le_refl _) (.cells #[.string Z.name, .int .i64 Z.most, .slice e110 Z.uq.length f110, .slice e210 Z.rows.length f210] 25))).up (by simp) k)))))
  have hq10 : Hid ((w9.alloc (.cells #[.string Y.name, .int .i64 Y.most, .slice e19 Y.uq.length f19, .slice e29 Y.rows.length f29] 25)).heap.size ≤ w10.heap.size) := Lib.hid k10.size
  have hs10 : Hid ((w10.alloc (.cells #[.string Z.name, .int .i64 Z.most, .slice e110 Z.uq.length f110, .slice e210 Z.rows.length f210] 25)).heap.size = w10.heap.size + 1) := Lib.hid (by simp)
  clear k10 h10 g10 r10
  have x_0 := (HM10.out _ (Below.refl (w10.alloc (.cells #[.string Z.name, .int .i64 Z.most, .slice e110 Z.uq.length f110, .slice e210 Z.rows.length f210] 25)).heap.size (w10.alloc (.cells #[.string Z.name, .int .i64 Z.most, .slice e110 Z.uq.length f110, .slice e210 Z.rows.length f210] 25)))).1.1.1.1.1.1.1.1.1.c0
  have x_1 := (HM10.out _ (Below.refl (w10.alloc (.cells #[.string Z.name, .int .i64 Z.most, .slice e110 Z.uq.length f110, .slice e210 Z.rows.length f210] 25)).heap.size (w10.alloc (.cells #[.string Z.name, .int .i64 Z.most, .slice e110 Z.uq.length f110, .slice e210 Z.rows.length f210] 25)))).1.1.1.1.1.1.1.1.1.c1
  have x_2 := (HM10.out _ (Below.refl (w10.alloc (.cells #[.string Z.name, .int .i64 Z.most, .slice e110 Z.uq.length f110, .slice e210 Z.rows.length f210] 25)).heap.size (w10.alloc (.cells #[.string Z.name, .int .i64 Z.most, .slice e110 Z.uq.length f110, .slice e210 Z.rows.length f210] 25)))).1.1.1.1.1.1.1.1.1.c2
  have x_3 := (HM10.out _ (Below.refl (w10.alloc (.cells #[.string Z.name, .int .i64 Z.most, .slice e110 Z.uq.length f110, .slice e210 Z.rows.length f210] 25)).heap.size (w10.alloc (.cells #[.string Z.name, .int .i64 Z.most, .slice e110 Z.uq.length f110, .slice e210 Z.rows.length f210] 25)))).1.1.1.1.1.1.1.1.1.c3
  go_wp2_with fail
  clear x_0 x_1 x_2 x_3
  refine (CDB.out _ (HM10.out _ (Below.refl (w10.alloc (.cells #[.string Z.name, .int .i64 Z.most, .slice e110 Z.uq.length f110, .slice e210 Z.rows.length f210] 25)).heap.size (w10.alloc (.cells #[.string Z.name, .int .i64 Z.most, .slice e110 Z.uq.length f110, .slice e210 Z.rows.length f210] 25)))).1.1.1.1.1.1.1.1.2.2.2.1).mono ?_
  rintro en w11 ⟨e111, f111, e211, f211, rfl, h11, k11⟩
  have HM11 := Lib.hid (pk HM10.out (k11.alloc k11.size (.cells #[.string Z.name, .int .i64 Z.most, .slice e111 Z.uq.length f111, .slice e211 Z.rows.length f211] 25)) (fun V (k : Below (w11.alloc (.cells #[.string Z.name, .int .i64 Z.most, .slice e111 Z.uq.length f111, .slice e211 Z.rows.length f211] 25)).heap.size (w11.alloc (.cells #[.string Z.name, .int .i64 Z.most, .slice e111 Z.uq.length f111, .slice e211 Z.rows.length f211] 25)) V) => And.intro ((bx4_new w11 25 (.string Z.name) (.int .i64 Z.most) (.slice e111 Z.uq.length f111) (.slice e211 Z.rows.length f211)).up k) (((h11.mono (Nat.zero_le _)).below ((Below.refl w11.heap.size w11).alloc (Nat.le_refl _) (.cells #[.string Z.name, .int .i64 Z.most, .slice e111 Z.uq.length f111, .slice e211 Z.rows.length f211] 25))).below k)))
  have hq11 : Hid ((w10.alloc (.cells #[.string Z.name, .int .i64 Z.most, .slice e110 Z.uq.length f110, .slice e210 Z.rows.length f210] 25)).heap.size ≤ w11.heap.size) := Lib.hid k11.size
  have hs11 : Hid ((w11.alloc (.cells #[.string Z.name, .int .i64 Z.most, .slice e111 Z.uq.length f111, .slice e211 Z.rows.length f211] 25)).heap.size = w11.heap.size + 1) := Lib.hid (by simp)
  clear k11 h11
  clear CDA CDB
  have x_0 := (HM11.out _ (Below.refl (w11.alloc (.cells #[.string Z.name, .int .i64 Z.most, .slice e111 Z.uq.length f111, .slice e211 Z.rows.length f211] 25)).heap.size (w11.alloc (.cells #[.string Z.name, .int .i64 Z.most, .slice e111 Z.uq.length f111, .slice e211 Z.rows.length f211] 25)))).1.1.1.1.1.1.1.2.1.c0
  have x_1 := (HM11.out _ (Below.refl (w11.alloc (.cells #[.string Z.name, .int .i64 Z.most, .slice e111 Z.uq.length f111, .slice e211 Z.rows.length f211] 25)).heap.size (w11.alloc (.cells #[.string Z.name, .int .i64 Z.most, .slice e111 Z.uq.length f111, .slice e211 Z.rows.length f211] 25)))).1.1.1.1.1.1.1.2.1.c1
  have y_0 := (HM11.out _ (Below.refl (w11.alloc (.cells #[.string Z.name, .int .i64 Z.most, .slice e111 Z.uq.length f111, .slice e211 Z.rows.length f211] 25)).heap.size (w11.alloc (.cells #[.string Z.name, .int .i64 Z.most, .slice e111 Z.uq.length f111, .slice e211 Z.rows.length f211] 25)))).1.1.1.1.1.1.2.1.c0
  have y_1 := (HM11.out _ (Below.refl (w11.alloc (.cells #[.string Z.name, .int .i64 Z.most, .slice e111 Z.uq.length f111, .slice e211 Z.rows.length f211] 25)).heap.size (w11.alloc (.cells #[.string Z.name, .int .i64 Z.most, .slice e111 Z.uq.length f111, .slice e211 Z.rows.length f211] 25)))).1.1.1.1.1.1.2.1.c1
  go_wp2_with fail
  clear x_0 x_1 y_0 y_1
  refine (CSR.out _ _ _ _ _ (HM11.out _ (Below.refl (w11.alloc (.cells #[.string Z.name, .int .i64 Z.most, .slice e111 Z.uq.length f111, .slice e211 Z.rows.length f211] 25)).heap.size (w11.alloc (.cells #[.string Z.name, .int .i64 Z.most, .slice e111 Z.uq.length f111, .slice e211 Z.rows.length f211] 25)))).1.1.1.1.1.1.1.2.2.1 (HM11.out _ (Below.refl (w11.alloc (.cells #[.string Z.name, .int .i64 Z.most, .slice e111 Z.uq.length f111, .slice e211 Z.rows.length f211] 25)).heap.size (w11.alloc (.cells #[.string Z.name, .int .i64 Z.most, .slice e111 Z.uq.length f111, .slice e211 Z.rows.length f211] 25)))).1.1.1.1.1.1.2.2).mono ?_
  rintro en wa1 ⟨rfl, ka1⟩
  have HMa1 := Lib.hid (sh HM11.out ka1)
  have hqa1 : Hid ((w11.alloc (.cells #[.string Z.name, .int .i64 Z.most, .slice e111 Z.uq.length f111, .slice e211 Z.rows.length f211] 25)).heap.size ≤ wa1.heap.size) := Lib.hid ka1.size
  clear ka1
  have x_0 := (HMa1.out _ (Below.refl (wa1).heap.size (wa1))).1.1.1.1.1.2.1.c0
  have x_1 := (HMa1.out _ (Below.refl (wa1).heap.size (wa1))).1.1.1.1.1.2.1.c1
  have x_2 := (HMa1.out _ (Below.refl (wa1).heap.size (wa1))).1.1.1.1.1.2.1.c2
  have x_3 := (HMa1.out _ (Below.refl (wa1).heap.size (wa1))).1.1.1.1.1.2.1.c3
  have y_0 := (HMa1.out _ (Below.refl (wa1).heap.size (wa1))).1.1.1.1.2.1.c0
  have y_1 := (HMa1.out _ (Below.refl (wa1).heap.size (wa1))).1.1.1.1.2.1.c1
  have y_2 := (HMa1.out _ (Below.refl (wa1).heap.size (wa1))).1.1.1.1.2.1.c2
  have y_3 := (HMa1.out _ (Below.refl (wa1).heap.size (wa1))).1.1.1.1.2.1.c3
  go_wp2_with fail
  clear x_0 x_1 x_2 x_3 y_0 y_1 y_2 y_3
  refine (CSM.out X HXL.out.1 _ _ _ _ _ _ _ _ _ (HMa1.out _ (Below.refl (wa1).heap.size (wa1))).1.1.1.1.1.2.2.1 (HMa1.out _ (Below.refl (wa1).heap.size (wa1))).1.1.1.1.2.2).mono ?_
  rintro en wa2 ⟨rfl, ka2⟩
  have HMa2 := Lib.hid (sh HMa1.out ka2)
  have hqa2 : Hid ((wa1).heap.size ≤ wa2.heap.size) := Lib.hid ka2.size
  clear ka2
  have x_0 := (HMa2.out _ (Below.refl (wa2).heap.size (wa2))).1.1.1.2.1.c0
  have x_1 := (HMa2.out _ (Below.refl (wa2).heap.size (wa2))).1.1.1.2.1.c1
  have x_2 := (HMa2.out _ (Below.refl (wa2).heap.size (wa2))).1.1.1.2.1.c2
  have x_3 := (HMa2.out _ (Below.refl (wa2).heap.size (wa2))).1.1.1.2.1.c3
  have y_0 := (HMa2.out _ (Below.refl (wa2).heap.size (wa2))).1.1.2.1.c0
  have y_1 := (HMa2.out _ (Below.refl (wa2).heap.size (wa2))).1.1.2.1.c1
  have y_2 := (HMa2.out _ (Below.refl (wa2).heap.size (wa2))).1.1.2.1.c2
  have y_3 := (HMa2.out _ (Below.refl (wa2).heap.size (wa2))).1.1.2.1.c3
  go_wp2_with fail
  clear x_0 x_1 x_2 x_3 y_0 y_1 y_2 y_3
  refine (CSM.out Y HYL.out.1 _ _ _ _ _ _ _ _ _ (HMa2.out _ (Below.refl (wa2).heap.size (wa2))).1.1.1.2.2.1 (HMa2.out _ (Below.refl (wa2).heap.size (wa2))).1.1.2.2).mono ?_
  rintro en wa3 ⟨rfl, ka3⟩
  have HMa3 := Lib.hid (sh HMa2.out ka3)
  have hqa3 : Hid ((wa2).heap.size ≤ wa3.heap.size) := Lib.hid ka3.size
  clear ka3
  have x_0 := (HMa3.out _ (Below.refl (wa3).heap.size (wa3))).1.2.1.c0
  have x_1 := (HMa3.out _ (Below.refl (wa3).heap.size (wa3))).1.2.1.c1
  have x_2 := (HMa3.out _ (Below.refl (wa3).heap.size (wa3))).1.2.1.c2
  have x_3 := (HMa3.out _ (Below.refl (wa3).heap.size (wa3))).1.2.1.c3
  have y_0 := (HMa3.out _ (Below.refl (wa3).heap.size (wa3))).2.1.c0
  have y_1 := (HMa3.out _ (Below.refl (wa3).heap.size (wa3))).2.1.c1
  have y_2 := (HMa3.out _ (Below.refl (wa3).heap.size (wa3))).2.1.c2
  have y_3 := (HMa3.out _ (Below.refl (wa3).heap.size (wa3))).2.1.c3
  go_wp2_with fail
  clear x_0 x_1 x_2 x_3 y_0 y_1 y_2 y_3
  refine (CSM.out Z HZL.out.1 _ _ _ _ _ _ _ _ _ (HMa3.out _ (Below.refl (wa3).heap.size (wa3))).1.2.2.1 (HMa3.out _ (Below.refl (wa3).heap.size (wa3))).2.2).mono ?_
  rintro en wa4 ⟨rfl, ka4⟩
  have HMa4 := Lib.hid (sh HMa3.out ka4)
  have hqa4 : Hid ((wa3).heap.size ≤ wa4.heap.size) := Lib.hid ka4.size
  clear ka4
  have HS : Hid (∀ w', Below wa4.heap.size wa4 w' → (fun w' => Below wa4.heap.size wa4 w' ∧ w'.cell? ⟨w3.heap.size, 0, none⟩ = some (.string T.name) ∧ w'.cell? ⟨w3.heap.size, 1, none⟩ = some (.int .i64 T.most) ∧ w'.cell? ⟨w3.heap.size, 2, none⟩ = some (.slice e13 T.uq.length f13) ∧ w'.cell? ⟨w3.heap.size, 3, none⟩ = some (.slice e23 T.rows.length f23) ∧ w'.cell? ⟨w.heap.size, 0, none⟩ = some (.string T.name) ∧ w'.cell? ⟨w.heap.size, 1, none⟩ = some (.int .i64 T.most) ∧ w'.cell? ⟨w.heap.size, 2, none⟩ = some (.slice a1 T.uq.length c1) ∧ w'.cell? ⟨w.heap.size, 3, none⟩ = some (.slice a2 T.rows.length c2) ∧ w'.cell? ⟨(w.heap.size + 1), 0, none⟩ = some (.string O.name) ∧ w'.cell? ⟨(w.heap.size + 1), 1, none⟩ = some (.int .i64 O.most) ∧ w'.cell? ⟨(w.heap.size + 1), 2, none⟩ = some (.slice b1 O.uq.length k1) ∧ w'.cell? ⟨(w.heap.size + 1), 3, none⟩ = some (.slice b2 O.rows.length k2)) w') := Lib.hid (fun w' k => ⟨k, (HMa4.out _ k).1.1.1.1.1.1.1.1.2.1.c0, (HMa4.out _ k).1.1.1.1.1.1.1.1.2.1.c1, (HMa4.out _ k).1.1.1.1.1.1.1.1.2.1.c2, (HMa4.out _ k).1.1.1.1.1.1.1.1.2.1.c3, (HMa4.out _ k).1.1.1.1.1.1.1.1.1.1.c0, (HMa4.out _ k).1.1.1.1.1.1.1.1.1.1.c1, (HMa4.out _ k).1.1.1.1.1.1.1.1.1.1.c2, (HMa4.out _ k).1.1.1.1.1.1.1.1.1.1.c3, (HMa4.out _ k).1.1.1.1.1.1.1.1.1.2.1.c0, (HMa4.out _ k).1.1.1.1.1.1.1.1.1.2.1.c1, (HMa4.out _ k).1.1.1.1.1.1.1.1.1.2.1.c2, (HMa4.out _ k).1.1.1.1.1.1.1.1.1.2.1.c3⟩)
  go_wp2_with fail
  refine wp_region_held_drew (S := (fun w' => Below wa4.heap.size wa4 w' ∧ w'.cell? ⟨w3.heap.size, 0, none⟩ = some (.string T.name) ∧ w'.cell? ⟨w3.heap.size, 1, none⟩ = some (.int .i64 T.most) ∧ w'.cell? ⟨w3.heap.size, 2, none⟩ = some (.slice e13 T.uq.length f13) ∧ w'.cell? ⟨w3.heap.size, 3, none⟩ = some (.slice e23 T.rows.length f23) ∧ w'.cell? ⟨w.heap.size, 0, none⟩ = some (.string T.name) ∧ w'.cell? ⟨w.heap.size, 1, none⟩ = some (.int .i64 T.most) ∧ w'.cell? ⟨w.heap.size, 2, none⟩ = some (.slice a1 T.uq.length c1) ∧ w'.cell? ⟨w.heap.size, 3, none⟩ = some (.slice a2 T.rows.length c2) ∧ w'.cell? ⟨(w.heap.size + 1), 0, none⟩ = some (.string O.name) ∧ w'.cell? ⟨(w.heap.size + 1), 1, none⟩ = some (.int .i64 O.most) ∧ w'.cell? ⟨(w.heap.size + 1), 2, none⟩ = some (.slice b1 O.uq.length k1) ∧ w'.cell? ⟨(w.heap.size + 1), 3, none⟩ = some (.slice b2 O.rows.length k2))) (by kernel_rfl) (HS.out _ ((Below.refl _ _).drew)) (fun hHeld => ?_)
  refine wpAnyH_take (i := 0) (oi := { dst := some 133, op := Op.load 25 (Operand.tmp 9), type := 25, pos := "law.go:25", after := #[], guard := none }) (v := ?_) rfl (by kernel_rfl) (by kernel_rfl) (by kernel_rfl) (fun _ _ _ h => h) (Or.inl ⟨by rfl, ?_⟩) hHeld ?_
  rotate_left
  · (intro w hSw; (try dsimp only at hSw); go_simp <;> with_reducible rfl)
  try simp only [Act.put, List.setIfInBounds_toArray, List.set_cons_zero, List.set_cons_succ]
  refine wpAnyH_take (i := 2) (oi := { dst := some 135, op := Op.load 25 (Operand.tmp 4), type := 25, pos := "law.go:25", after := #[], guard := none }) (v := ?_) rfl (by kernel_rfl) (by kernel_rfl) (by kernel_rfl) (fun _ _ _ h => h) (Or.inl ⟨by rfl, ?_⟩) hHeld ?_
  rotate_left
  · (intro w hSw; (try dsimp only at hSw); go_simp <;> with_reducible rfl)
  try simp only [Act.put, List.setIfInBounds_toArray, List.set_cons_zero, List.set_cons_succ]
  refine wpAnyH_ready (rs := [1]) (by kernel_rfl) (by simp) (AllReadyH.cons (o := { dst := some 134, op := Op.call { callee := Callee.value (Operand.func 17), args := #[Operand.tmp 133], argTypes := #[25] }, type := 34, pos := "law.go:25", after := #[{ on := 0, ground := Ground.data }], guard := none }) rfl (fun K1 hK1 => ?_) AllReadyH.nil)
  go_simp
  refine (CC1.out _ _ _ _ _ (HMa4.out _ hHeld.1).1.1.1.1.1.1.1.1.2.2.1).mono ?_
  rintro e' wq ⟨rfl, bq⟩
  refine hK1.out _ _ (HS.out _ (hHeld.1.trans (bq.mono hHeld.1.size))) (fun hH_1 => ?_)
  clear bq
  clear hK1 K1
  try simp only [Act.put, List.setIfInBounds_toArray, List.set_cons_zero, List.set_cons_succ]
  refine wpAnyH_ready (rs := [3]) (by kernel_rfl) (by simp) (AllReadyH.cons (o := { dst := some 136, op := Op.call { callee := Callee.value (Operand.func 18), args := #[Operand.tmp 135], argTypes := #[25] }, type := 3, pos := "law.go:25", after := #[{ on := 2, ground := Ground.data }, { on := 1, ground := Ground.chain }], guard := none }) rfl (fun K3 hK3 => ?_) AllReadyH.nil)
  go_simp
  refine (CC2.out _ (HMa4.out _ hH_1.1).1.1.1.1.1.1.1.1.1.2.2.2.1).mono ?_
  rintro e' wq ⟨rfl, bq⟩
  refine hK3.out _ _ (HS.out _ (hH_1.1.trans (bq.mono hH_1.1.size))) (fun hH_3 => ?_)
  clear bq
  clear hK3 K3
  try simp only [Act.put, List.setIfInBounds_toArray, List.set_cons_zero, List.set_cons_succ]
  refine wpAnyH_take (i := 4) (oi := { dst := some 137, op := Op.binOp BinOp.eql 3 (Operand.tmp 134) (Operand.tmp 136) 3, type := 4, pos := "law.go:25", after := #[{ on := 1, ground := Ground.data }, { on := 3, ground := Ground.data }], guard := none }) (v := ?_) rfl (by kernel_rfl) (by kernel_rfl) (by kernel_rfl) (fun _ _ _ h => h) (Or.inl ⟨by rfl, ?_⟩) hH_3 ?_
  rotate_left
  · (intro w hSw; (try dsimp only at hSw); go_simp <;> with_reducible rfl)
  try simp only [Act.put, List.setIfInBounds_toArray, List.set_cons_zero, List.set_cons_succ]
  refine wpAnyH_take (i := 5) (oi := { dst := some 138, op := Op.move (Operand.tmp 137), type := 4, pos := "law.go:25", after := #[{ on := 4, ground := Ground.data }, { on := 3, ground := Ground.chain }], guard := none }) (v := ?_) rfl (by kernel_rfl) (by kernel_rfl) (by kernel_rfl) (fun _ _ _ h => h) (Or.inl ⟨by rfl, ?_⟩) hH_3 ?_
  rotate_left
  · (intro w hSw; (try dsimp only at hSw); go_simp <;> with_reducible rfl)
  try simp only [Act.put, List.setIfInBounds_toArray, List.set_cons_zero, List.set_cons_succ]
  refine wpAnyH_take (i := 6) (oi := { dst := some 139, op := Op.load 25 (Operand.tmp 9), type := 25, pos := "law.go:25", after := #[{ on := 5, ground := Ground.guard }], guard := some (5, true) }) (v := ?_) rfl (by kernel_rfl) (by kernel_rfl) (by kernel_rfl) (fun _ _ _ h => h) (Or.inl ⟨by rfl, ?_⟩) hH_3 ?_
  rotate_left
  · (intro w hSw; (try dsimp only at hSw); go_simp <;> with_reducible rfl)
  try simp only [Act.put, List.setIfInBounds_toArray, List.set_cons_zero, List.set_cons_succ]
  refine wpAnyH_take (i := 7) (oi := { dst := some 140, op := Op.load 25 (Operand.tmp 5), type := 25, pos := "law.go:25", after := #[{ on := 5, ground := Ground.guard }], guard := some (5, true) }) (v := ?_) rfl (by kernel_rfl) (by kernel_rfl) (by kernel_rfl) (fun _ _ _ h => h) (Or.inl ⟨by rfl, ?_⟩) hH_3 ?_
  rotate_left
  · (intro w hSw; (try dsimp only at hSw); go_simp <;> with_reducible rfl)
  try simp only [Act.put, List.setIfInBounds_toArray, List.set_cons_zero, List.set_cons_succ]
  refine wpAnyH_take (i := 9) (oi := { dst := some 142, op := Op.load 25 (Operand.tmp 4), type := 25, pos := "law.go:25", after := #[{ on := 5, ground := Ground.guard }], guard := some (5, true) }) (v := ?_) rfl (by kernel_rfl) (by kernel_rfl) (by kernel_rfl) (fun _ _ _ h => h) (Or.inl ⟨by rfl, ?_⟩) hH_3 ?_
  rotate_left
  · (intro w hSw; (try dsimp only at hSw); go_simp <;> with_reducible rfl)
  try simp only [Act.put, List.setIfInBounds_toArray, List.set_cons_zero, List.set_cons_succ]
  refine wpAnyH_take (i := 10) (oi := { dst := some 143, op := Op.load 25 (Operand.tmp 5), type := 25, pos := "law.go:25", after := #[{ on := 5, ground := Ground.guard }], guard := some (5, true) }) (v := ?_) rfl (by kernel_rfl) (by kernel_rfl) (by kernel_rfl) (fun _ _ _ h => h) (Or.inl ⟨by rfl, ?_⟩) hH_3 ?_
  rotate_left
  · (intro w hSw; (try dsimp only at hSw); go_simp <;> with_reducible rfl)
  try simp only [Act.put, List.setIfInBounds_toArray, List.set_cons_zero, List.set_cons_succ]
  refine wpAnyH_ready (rs := [8]) (by kernel_rfl) (by simp) (AllReadyH.cons (o := { dst := some 141, op := Op.call { callee := Callee.value (Operand.func 19), args := #[Operand.tmp 139, Operand.tmp 140], argTypes := #[25, 25] }, type := 4, pos := "law.go:25", after := #[{ on := 6, ground := Ground.data }, { on := 7, ground := Ground.data }, { on := 5, ground := Ground.chain }, { on := 5, ground := Ground.guard }], guard := some (5, true) }) rfl (fun K8 hK8 => ?_) AllReadyH.nil)
  go_simp
  refine (CT1.out _ _ _ _ _ (HMa4.out _ hH_3.1).1.1.1.1.1.1.1.1.2.2.1 (HMa4.out _ hH_3.1).1.1.1.1.1.1.1.1.1.2.2.2.2.1).mono ?_
  rintro e' wq ⟨rfl, bq⟩
  refine hK8.out _ _ (HS.out _ (hH_3.1.trans (bq.mono hH_3.1.size))) (fun hH_8 => ?_)
  clear bq
  clear hK8 K8
  try simp only [Act.put, List.setIfInBounds_toArray, List.set_cons_zero, List.set_cons_succ]
  refine wpAnyH_ready (rs := [11]) (by kernel_rfl) (by simp) (AllReadyH.cons (o := { dst := some 144, op := Op.call { callee := Callee.value (Operand.func 16), args := #[Operand.tmp 142, Operand.tmp 143], argTypes := #[25, 25] }, type := 4, pos := "law.go:25", after := #[{ on := 9, ground := Ground.data }, { on := 10, ground := Ground.data }, { on := 8, ground := Ground.chain }, { on := 5, ground := Ground.guard }], guard := some (5, true) }) rfl (fun K11 hK11 => ?_) AllReadyH.nil)
  go_simp
  refine (CT2.out _ (HMa4.out _ hH_8.1).1.1.1.1.1.1.1.1.1.2.2.2.1 (HMa4.out _ hH_8.1).1.1.1.1.1.1.1.1.1.2.2.2.2.1).mono ?_
  rintro e' wq ⟨rfl, bq⟩
  refine hK11.out _ _ (HS.out _ (hH_8.1.trans (bq.mono hH_8.1.size))) (fun hH_11 => ?_)
  clear bq
  clear hK11 K11
  try simp only [Act.put, List.setIfInBounds_toArray, List.set_cons_zero, List.set_cons_succ]
  refine wpAnyH_take (i := 12) (oi := { dst := some 145, op := Op.binOp BinOp.eql 4 (Operand.tmp 141) (Operand.tmp 144) 4, type := 4, pos := "law.go:25", after := #[{ on := 8, ground := Ground.data }, { on := 11, ground := Ground.data }, { on := 5, ground := Ground.guard }], guard := some (5, true) }) (v := ?_) rfl (by kernel_rfl) (by kernel_rfl) (by kernel_rfl) (fun _ _ _ h => h) (Or.inl ⟨by rfl, ?_⟩) hH_11 ?_
  rotate_left
  · (intro w hSw; (try dsimp only at hSw); go_simp <;> with_reducible rfl)
  try simp only [Act.put, List.setIfInBounds_toArray, List.set_cons_zero, List.set_cons_succ]
  refine wpAnyH_take (i := 13) (oi := { dst := some 146, op := Op.pick (Operand.tmp 138) (Operand.tmp 145) (Operand.const (Value.bool false)), type := 4, pos := "law.go:25", after := #[{ on := 5, ground := Ground.data }, { on := 12, ground := Ground.data }], guard := none }) (v := ?_) rfl (by kernel_rfl) (by kernel_rfl) (by kernel_rfl) (fun _ _ _ h => h) (Or.inl ⟨by rfl, ?_⟩) hH_11 ?_
  rotate_left
  · (intro w hSw; (try dsimp only at hSw); go_simp <;> with_reducible rfl)
  try simp only [Act.put, List.setIfInBounds_toArray, List.set_cons_zero, List.set_cons_succ]
  refine wpAnyH_take (i := 14) (oi := { dst := some 147, op := Op.move (Operand.tmp 146), type := 4, pos := "law.go:25", after := #[{ on := 13, ground := Ground.data }, { on := 11, ground := Ground.chain }], guard := none }) (v := ?_) rfl (by kernel_rfl) (by kernel_rfl) (by kernel_rfl) (fun _ _ _ h => h) (Or.inl ⟨by rfl, ?_⟩) hH_11 ?_
  rotate_left
  · (intro w hSw; (try dsimp only at hSw); go_simp <;> with_reducible rfl)
  try simp only [Act.put, List.setIfInBounds_toArray, List.set_cons_zero, List.set_cons_succ]
  refine wpAnyH_take (i := 15) (oi := { dst := some 148, op := Op.load 25 (Operand.tmp 9), type := 25, pos := "law.go:25", after := #[{ on := 14, ground := Ground.guard }], guard := some (14, true) }) (v := ?_) rfl (by kernel_rfl) (by kernel_rfl) (by kernel_rfl) (fun _ _ _ h => h) (Or.inl ⟨by rfl, ?_⟩) hH_11 ?_
  rotate_left
  · (intro w hSw; (try dsimp only at hSw); go_simp <;> with_reducible rfl)
  try simp only [Act.put, List.setIfInBounds_toArray, List.set_cons_zero, List.set_cons_succ]
  refine wpAnyH_take (i := 16) (oi := { dst := some 149, op := Op.load 25 (Operand.tmp 4), type := 25, pos := "law.go:25", after := #[{ on := 14, ground := Ground.guard }], guard := some (14, true) }) (v := ?_) rfl (by kernel_rfl) (by kernel_rfl) (by kernel_rfl) (fun _ _ _ h => h) (Or.inl ⟨by rfl, ?_⟩) hH_11 ?_
  rotate_left
  · (intro w hSw; (try dsimp only at hSw); go_simp <;> with_reducible rfl)
  try simp only [Act.put, List.setIfInBounds_toArray, List.set_cons_zero, List.set_cons_succ]
  refine wpAnyH_ready (rs := [17]) (by kernel_rfl) (by simp) (AllReadyH.cons (o := { dst := some 150, op := Op.call { callee := Callee.value (Operand.func 19), args := #[Operand.tmp 148, Operand.tmp 149], argTypes := #[25, 25] }, type := 4, pos := "law.go:25", after := #[{ on := 15, ground := Ground.data }, { on := 16, ground := Ground.data }, { on := 14, ground := Ground.chain }, { on := 14, ground := Ground.guard }], guard := some (14, true) }) rfl (fun K17 hK17 => ?_) AllReadyH.nil)
  go_simp
  refine (CT3.out _ _ _ _ _ (HMa4.out _ hH_11.1).1.1.1.1.1.1.1.1.2.2.1 (HMa4.out _ hH_11.1).1.1.1.1.1.1.1.1.1.2.2.2.1).mono ?_
  rintro e' wq ⟨rfl, bq⟩
  refine hK17.out _ _ (HS.out _ (hH_11.1.trans (bq.mono hH_11.1.size))) (fun hH_17 => ?_)
  clear bq
  clear hK17 K17
  try simp only [Act.put, List.setIfInBounds_toArray, List.set_cons_zero, List.set_cons_succ]
  refine wpAnyH_take (i := 18) (oi := { dst := some 151, op := Op.pick (Operand.tmp 147) (Operand.tmp 150) (Operand.const (Value.bool false)), type := 4, pos := "law.go:25", after := #[{ on := 14, ground := Ground.data }, { on := 17, ground := Ground.data }], guard := none }) (v := ?_) rfl (by kernel_rfl) (by kernel_rfl) (by kernel_rfl) (fun _ _ _ h => h) (Or.inl ⟨by rfl, ?_⟩) hH_17 ?_
  rotate_left
  · (intro w hSw; (try dsimp only at hSw); go_simp <;> with_reducible rfl)
  try simp only [Act.put, List.setIfInBounds_toArray, List.set_cons_zero, List.set_cons_succ]
  refine wpAnyH_take (i := 19) (oi := { dst := some 27, op := Op.assign (Operand.tmp 151), type := 4, pos := "law.go:25", after := #[{ on := 18, ground := Ground.data }, { on := 17, ground := Ground.chain }, { on := 0, ground := Ground.phase }, { on := 1, ground := Ground.phase }, { on := 2, ground := Ground.phase }, { on := 3, ground := Ground.phase }, { on := 4, ground := Ground.phase }, { on := 5, ground := Ground.phase }, { on := 6, ground := Ground.phase }, { on := 7, ground := Ground.phase }, { on := 8, ground := Ground.phase }, { on := 9, ground := Ground.phase }, { on := 10, ground := Ground.phase }, { on := 11, ground := Ground.phase }, { on := 12, ground := Ground.phase }, { on := 13, ground := Ground.phase }, { on := 14, ground := Ground.phase }, { on := 15, ground := Ground.phase }, { on := 16, ground := Ground.phase }, { on := 17, ground := Ground.phase }, { on := 18, ground := Ground.phase }], guard := none }) (v := ?_) rfl (by kernel_rfl) (by kernel_rfl) (by kernel_rfl) (fun _ _ _ h => h) (Or.inl ⟨by rfl, ?_⟩) hH_17 ?_
  rotate_left
  · (intro w hSw; (try dsimp only at hSw); go_simp <;> with_reducible rfl)
  try simp only [Act.put, List.setIfInBounds_toArray, List.set_cons_zero, List.set_cons_succ]
  refine wpAnyH_done (by kernel_rfl) ?_ _
  have HMb := Lib.hid (sh HMa4.out hH_17.1)
  have hqb : Hid (wa4.heap.size ≤ wq.heap.size) := Lib.hid hH_17.1.size
  clear hHeld HS
  have x_0 := (HMb.out _ (Below.refl (wq).heap.size (wq))).1.1.1.1.1.1.1.1.2.1.c0
  have x_1 := (HMb.out _ (Below.refl (wq).heap.size (wq))).1.1.1.1.1.1.1.1.2.1.c1
  have x_2 := (HMb.out _ (Below.refl (wq).heap.size (wq))).1.1.1.1.1.1.1.1.2.1.c2
  have x_3 := (HMb.out _ (Below.refl (wq).heap.size (wq))).1.1.1.1.1.1.1.1.2.1.c3
  go_wp2_with fail
  clear x_0 x_1 x_2 x_3
  refine (CTZ.out _ _ _ _ _ (HMb.out _ (Below.refl (wq).heap.size (wq))).1.1.1.1.1.1.1.1.2.2.1).mono ?_
  rintro en w14 ⟨e114, f114, e214, f214, rfl, h14, ⟨g14, r14⟩, k14⟩
  have HM14 := Lib.hid (pk HMb.out (k14.alloc k14.size (.cells #[.string T.name, .int .i64 T.most, .slice e114 T.uq.length f114, .slice e214 T.rows.length f214] 25)) (fun V (k : Below (w14.alloc (.cells #[.string T.name, .int .i64 T.most, .slice e114 T.uq.length f114, .slice e214 T.rows.length f214] 25)).heap.size (w14.alloc (.cells #[.string T.name, .int .i64 T.most, .slice e114 T.uq.length f114, .slice e214 T.rows.length f214] 25)) V) => And.intro ((bx4_new w14 25 (.string T.name) (.int .i64 T.most) (.slice e114 T.uq.length f114) (.slice e214 T.rows.length f214)).up k) (And.intro (((h14.mono (Nat.zero_le _)).below ((Below.refl w14.heap.size w14).alloc (Nat.le_refl _) (.cells #[.string T.name, .int .i64 T.most, .slice e114 T.uq.length f114, .slice e214 T.rows.length f214] 25))).below k) (And.intro ((g14.up (Nat.le_refl _) ((Below.refl w14.heap.size w14).alloc (Nat.le_refl _) (.cells #[.string T.name, .int .i64 T.most, .slice e114 T.uq.length f114, .slice e214 T.rows.length f214] 25))).up (by simp) k) ((r14.up (Nat.le_refl _) ((Below.refl w14.heap.size w14).alloc (Nat.le_refl _) (.cells #[.string T.name, .int .i64 T.most, .slice e114 T.uq.length f114, .slice e214 T.rows.length f214] 25))).up (by simp) k)))))
  have hq14 : Hid ((wq).heap.size ≤ w14.heap.size) := Lib.hid k14.size
  have hs14 : Hid ((w14.alloc (.cells #[.string T.name, .int .i64 T.most, .slice e114 T.uq.length f114, .slice e214 T.rows.length f214] 25)).heap.size = w14.heap.size + 1) := Lib.hid (by simp)
  clear k14 h14 g14 r14 CTZ CT1 CT2 CT3 CC1 CC2
  have x_0 := (HM14.out _ (Below.refl (w14.alloc (.cells #[.string T.name, .int .i64 T.most, .slice e114 T.uq.length f114, .slice e214 T.rows.length f214] 25)).heap.size (w14.alloc (.cells #[.string T.name, .int .i64 T.most, .slice e114 T.uq.length f114, .slice e214 T.rows.length f214] 25)))).2.1.c0
  have x_1 := (HM14.out _ (Below.refl (w14.alloc (.cells #[.string T.name, .int .i64 T.most, .slice e114 T.uq.length f114, .slice e214 T.rows.length f214] 25)).heap.size (w14.alloc (.cells #[.string T.name, .int .i64 T.most, .slice e114 T.uq.length f114, .slice e214 T.rows.length f214] 25)))).2.1.c1
  have x_2 := (HM14.out _ (Below.refl (w14.alloc (.cells #[.string T.name, .int .i64 T.most, .slice e114 T.uq.length f114, .slice e214 T.rows.length f214] 25)).heap.size (w14.alloc (.cells #[.string T.name, .int .i64 T.most, .slice e114 T.uq.length f114, .slice e214 T.rows.length f214] 25)))).2.1.c2
  have x_3 := (HM14.out _ (Below.refl (w14.alloc (.cells #[.string T.name, .int .i64 T.most, .slice e114 T.uq.length f114, .slice e214 T.rows.length f214] 25)).heap.size (w14.alloc (.cells #[.string T.name, .int .i64 T.most, .slice e114 T.uq.length f114, .slice e214 T.rows.length f214] 25)))).2.1.c3
  have y_0 := (HM14.out _ (Below.refl (w14.alloc (.cells #[.string T.name, .int .i64 T.most, .slice e114 T.uq.length f114, .slice e214 T.rows.length f214] 25)).heap.size (w14.alloc (.cells #[.string T.name, .int .i64 T.most, .slice e114 T.uq.length f114, .slice e214 T.rows.length f214] 25)))).1.1.1.1.1.1.1.1.1.1.1.c0
  have y_1 := (HM14.out _ (Below.refl (w14.alloc (.cells #[.string T.name, .int .i64 T.most, .slice e114 T.uq.length f114, .slice e214 T.rows.length f214] 25)).heap.size (w14.alloc (.cells #[.string T.name, .int .i64 T.most, .slice e114 T.uq.length f114, .slice e214 T.rows.length f214] 25)))).1.1.1.1.1.1.1.1.1.1.1.c1
  have y_2 := (HM14.out _ (Below.refl (w14.alloc (.cells #[.string T.name, .int .i64 T.most, .slice e114 T.uq.length f114, .slice e214 T.rows.length f214] 25)).heap.size (w14.alloc (.cells #[.string T.name, .int .i64 T.most, .slice e114 T.uq.length f114, .slice e214 T.rows.length f214] 25)))).1.1.1.1.1.1.1.1.1.1.1.c2
  have y_3 := (HM14.out _ (Below.refl (w14.alloc (.cells #[.string T.name, .int .i64 T.most, .slice e114 T.uq.length f114, .slice e214 T.rows.length f214] 25)).heap.size (w14.alloc (.cells #[.string T.name, .int .i64 T.most, .slice e114 T.uq.length f114, .slice e214 T.rows.length f214] 25)))).1.1.1.1.1.1.1.1.1.1.1.c3
  go_wp2_with fail
  clear x_0 x_1 x_2 x_3 y_0 y_1 y_2 y_3
  refine (CSM.out T HTL.out _ _ _ _ _ _ _ _ _ (HM14.out _ (Below.refl (w14.alloc (.cells #[.string T.name, .int .i64 T.most, .slice e114 T.uq.length f114, .slice e214 T.rows.length f214] 25)).heap.size (w14.alloc (.cells #[.string T.name, .int .i64 T.most, .slice e114 T.uq.length f114, .slice e214 T.rows.length f214] 25)))).2.2.1 (HM14.out _ (Below.refl (w14.alloc (.cells #[.string T.name, .int .i64 T.most, .slice e114 T.uq.length f114, .slice e214 T.rows.length f214] 25)).heap.size (w14.alloc (.cells #[.string T.name, .int .i64 T.most, .slice e114 T.uq.length f114, .slice e214 T.rows.length f214] 25)))).1.1.1.1.1.1.1.1.1.1.2.2.2.1).mono ?_
  rintro en we ⟨rfl, ke⟩
  have HMe := Lib.hid (sh HM14.out ke)
  have hqe : Hid ((w14.alloc (.cells #[.string T.name, .int .i64 T.most, .slice e114 T.uq.length f114, .slice e214 T.rows.length f214] 25)).heap.size ≤ we.heap.size) := Lib.hid ke.size
  clear ke
  have P := HMe.out _ (Below.refl _ _)
  have F4 := Lib.hid P.1.1.1.1.1.1.1.1.2.1
  have G4 := Lib.hid P.1.1.1.1.1.1.1.1.2.2.2
  have ql4 : Hid (w4.heap.size < we.heap.size) := Lib.hid F4.out.lt
  have F6 := Lib.hid P.1.1.1.1.1.1.2.1
  have G6 := Lib.hid P.1.1.1.1.1.1.2.2.2.1
  have R6 := Lib.hid P.1.1.1.1.1.1.2.2.2.2
  have ql6 : Hid (w6.heap.size < we.heap.size) := Lib.hid F6.out.lt
  have F8 := Lib.hid P.1.1.1.1.2.1
  have G8 := Lib.hid P.1.1.1.1.2.2.2.1
  have R8 := Lib.hid P.1.1.1.1.2.2.2.2
  have ql8 : Hid (w8.heap.size < we.heap.size) := Lib.hid F8.out.lt
  have F10 := Lib.hid P.1.1.2.1
  have G10 := Lib.hid P.1.1.2.2.2.1
  have R10 := Lib.hid P.1.1.2.2.2.2
  have ql10 : Hid (w10.heap.size < we.heap.size) := Lib.hid F10.out.lt
  have F14 := Lib.hid P.2.1
  have G14 := Lib.hid P.2.2.2.1
  have R14 := Lib.hid P.2.2.2.2
  have ql14 : Hid (w14.heap.size < we.heap.size) := Lib.hid F14.out.lt
  have BK := Lib.hid P.1.1.1.1.1.1.1.1.1.2.2.2
  have hwk := Lib.hid BK.out.size
  clear P HMe
  have x_0 := F14.out.c0
  have x_1 := F14.out.c1
  have x_2 := F14.out.c2
  have x_3 := F14.out.c3
  go_wp2_with fail
  clear x_0 x_1 x_2 x_3
  refine (spoilT_any (wq.heap.size) (w14.heap.size) _ _ _ _ _ _ _ _ we G14.out R14.out (by have := hq3.out; have := hs3.out; have := hq4.out; have := hs4.out; have := hq5.out; have := hs5.out; have := hq6.out; have := hs6.out; have := hq7.out; have := hs7.out; have := hq8.out; have := hs8.out; have := hq9.out; have := hs9.out; have := hq10.out; have := hs10.out; have := hq11.out; have := hs11.out; have := hqa1.out; have := hqa2.out; have := hqa3.out; have := hqa4.out; have := hqb.out; have := hq14.out; have := hs14.out; have := hqe.out; have := ql4.out; have := ql6.out; have := ql8.out; have := ql10.out; have := ql14.out; have := hwk.out; omega) (by have := hq3.out; have := hs3.out; have := hq4.out; have := hs4.out; have := hq5.out; have := hs5.out; have := hq6.out; have := hs6.out; have := hq7.out; have := hs7.out; have := hq8.out; have := hs8.out; have := hq9.out; have := hs9.out; have := hq10.out; have := hs10.out; have := hq11.out; have := hs11.out; have := hqa1.out; have := hqa2.out; have := hqa3.out; have := hqa4.out; have := hqb.out; have := hq14.out; have := hs14.out; have := hqe.out; have := ql4.out; have := ql6.out; have := ql8.out; have := ql10.out; have := ql14.out; have := hwk.out; omega) HTU.out.1 HTU.out.2).mono ?_
  rintro en vs14 ⟨rfl, sp14⟩
  have F6' := Lib.hid (F6.out.sp sp14 (by have := hq3.out; have := hs3.out; have := hq4.out; have := hs4.out; have := hq5.out; have := hs5.out; have := hq6.out; have := hs6.out; have := hq7.out; have := hs7.out; have := hq8.out; have := hs8.out; have := hq9.out; have := hs9.out; have := hq10.out; have := hs10.out; have := hq11.out; have := hs11.out; have := hqa1.out; have := hqa2.out; have := hqa3.out; have := hqa4.out; have := hqb.out; have := hq14.out; have := hs14.out; have := hqe.out; have := ql4.out; have := ql6.out; have := ql8.out; have := ql10.out; have := ql14.out; have := hwk.out; omega))
  have G6' := Lib.hid (G6.out.sp sp14 (by have := hq3.out; have := hs3.out; have := hq4.out; have := hs4.out; have := hq5.out; have := hs5.out; have := hq6.out; have := hs6.out; have := hq7.out; have := hs7.out; have := hq8.out; have := hs8.out; have := hq9.out; have := hs9.out; have := hq10.out; have := hs10.out; have := hq11.out; have := hs11.out; have := hqa1.out; have := hqa2.out; have := hqa3.out; have := hqa4.out; have := hqb.out; have := hq14.out; have := hs14.out; have := hqe.out; have := ql4.out; have := ql6.out; have := ql8.out; have := ql10.out; have := ql14.out; have := hwk.out; omega) (by have := hq3.out; have := hs3.out; have := hq4.out; have := hs4.out; have := hq5.out; have := hs5.out; have := hq6.out; have := hs6.out; have := hq7.out; have := hs7.out; have := hq8.out; have := hs8.out; have := hq9.out; have := hs9.out; have := hq10.out; have := hs10.out; have := hq11.out; have := hs11.out; have := hqa1.out; have := hqa2.out; have := hqa3.out; have := hqa4.out; have := hqb.out; have := hq14.out; have := hs14.out; have := hqe.out; have := ql4.out; have := ql6.out; have := ql8.out; have := ql10.out; have := ql14.out; have := hwk.out; omega))
  have R6' := Lib.hid (R6.out.sp sp14 (by have := hq3.out; have := hs3.out; have := hq4.out; have := hs4.out; have := hq5.out; have := hs5.out; have := hq6.out; have := hs6.out; have := hq7.out; have := hs7.out; have := hq8.out; have := hs8.out; have := hq9.out; have := hs9.out; have := hq10.out; have := hs10.out; have := hq11.out; have := hs11.out; have := hqa1.out; have := hqa2.out; have := hqa3.out; have := hqa4.out; have := hqb.out; have := hq14.out; have := hs14.out; have := hqe.out; have := ql4.out; have := ql6.out; have := ql8.out; have := ql10.out; have := ql14.out; have := hwk.out; omega) (by have := hq3.out; have := hs3.out; have := hq4.out; have := hs4.out; have := hq5.out; have := hs5.out; have := hq6.out; have := hs6.out; have := hq7.out; have := hs7.out; have := hq8.out; have := hs8.out; have := hq9.out; have := hs9.out; have := hq10.out; have := hs10.out; have := hq11.out; have := hs11.out; have := hqa1.out; have := hqa2.out; have := hqa3.out; have := hqa4.out; have := hqb.out; have := hq14.out; have := hs14.out; have := hqe.out; have := ql4.out; have := ql6.out; have := ql8.out; have := ql10.out; have := ql14.out; have := hwk.out; omega))
  clear F6 G6 R6
  have F6 := F6'
  have G6 := G6'
  have R6 := R6'
  clear R6'
  clear F6' G6'
  have F8' := Lib.hid (F8.out.sp sp14 (by have := hq3.out; have := hs3.out; have := hq4.out; have := hs4.out; have := hq5.out; have := hs5.out; have := hq6.out; have := hs6.out; have := hq7.out; have := hs7.out; have := hq8.out; have := hs8.out; have := hq9.out; have := hs9.out; have := hq10.out; have := hs10.out; have := hq11.out; have := hs11.out; have := hqa1.out; have := hqa2.out; have := hqa3.out; have := hqa4.out; have := hqb.out; have := hq14.out; have := hs14.out; have := hqe.out; have := ql4.out; have := ql6.out; have := ql8.out; have := ql10.out; have := ql14.out; have := hwk.out; omega))
  have G8' := Lib.hid (G8.out.sp sp14 (by have := hq3.out; have := hs3.out; have := hq4.out; have := hs4.out; have := hq5.out; have := hs5.out; have := hq6.out; have := hs6.out; have := hq7.out; have := hs7.out; have := hq8.out; have := hs8.out; have := hq9.out; have := hs9.out; have := hq10.out; have := hs10.out; have := hq11.out; have := hs11.out; have := hqa1.out; have := hqa2.out; have := hqa3.out; have := hqa4.out; have := hqb.out; have := hq14.out; have := hs14.out; have := hqe.out; have := ql4.out; have := ql6.out; have := ql8.out; have := ql10.out; have := ql14.out; have := hwk.out; omega) (by have := hq3.out; have := hs3.out; have := hq4.out; have := hs4.out; have := hq5.out; have := hs5.out; have := hq6.out; have := hs6.out; have := hq7.out; have := hs7.out; have := hq8.out; have := hs8.out; have := hq9.out; have := hs9.out; have := hq10.out; have := hs10.out; have := hq11.out; have := hs11.out; have := hqa1.out; have := hqa2.out; have := hqa3.out; have := hqa4.out; have := hqb.out; have := hq14.out; have := hs14.out; have := hqe.out; have := ql4.out; have := ql6.out; have := ql8.out; have := ql10.out; have := ql14.out; have := hwk.out; omega))
  have R8' := Lib.hid (R8.out.sp sp14 (by have := hq3.out; have := hs3.out; have := hq4.out; have := hs4.out; have := hq5.out; have := hs5.out; have := hq6.out; have := hs6.out; have := hq7.out; have := hs7.out; have := hq8.out; have := hs8.out; have := hq9.out; have := hs9.out; have := hq10.out; have := hs10.out; have := hq11.out; have := hs11.out; have := hqa1.out; have := hqa2.out; have := hqa3.out; have := hqa4.out; have := hqb.out; have := hq14.out; have := hs14.out; have := hqe.out; have := ql4.out; have := ql6.out; have := ql8.out; have := ql10.out; have := ql14.out; have := hwk.out; omega) (by have := hq3.out; have := hs3.out; have := hq4.out; have := hs4.out; have := hq5.out; have := hs5.out; have := hq6.out; have := hs6.out; have := hq7.out; have := hs7.out; have := hq8.out; have := hs8.out; have := hq9.out; have := hs9.out; have := hq10.out; have := hs10.out; have := hq11.out; have := hs11.out; have := hqa1.out; have := hqa2.out; have := hqa3.out; have := hqa4.out; have := hqb.out; have := hq14.out; have := hs14.out; have := hqe.out; have := ql4.out; have := ql6.out; have := ql8.out; have := ql10.out; have := ql14.out; have := hwk.out; omega))
  clear F8 G8 R8
  have F8 := F8'
  have G8 := G8'
  have R8 := R8'
  clear R8'
  clear F8' G8'
  have F10' := Lib.hid (F10.out.sp sp14 (by have := hq3.out; have := hs3.out; have := hq4.out; have := hs4.out; have := hq5.out; have := hs5.out; have := hq6.out; have := hs6.out; have := hq7.out; have := hs7.out; have := hq8.out; have := hs8.out; have := hq9.out; have := hs9.out; have := hq10.out; have := hs10.out; have := hq11.out; have := hs11.out; have := hqa1.out; have := hqa2.out; have := hqa3.out; have := hqa4.out; have := hqb.out; have := hq14.out; have := hs14.out; have := hqe.out; have := ql4.out; have := ql6.out; have := ql8.out; have := ql10.out; have := ql14.out; have := hwk.out; omega))
  have G10' := Lib.hid (G10.out.sp sp14 (by have := hq3.out; have := hs3.out; have := hq4.out; have := hs4.out; have := hq5.out; have := hs5.out; have := hq6.out; have := hs6.out; have := hq7.out; have := hs7.out; have := hq8.out; have := hs8.out; have := hq9.out; have := hs9.out; have := hq10.out; have := hs10.out; have := hq11.out; have := hs11.out; have := hqa1.out; have := hqa2.out; have := hqa3.out; have := hqa4.out; have := hqb.out; have := hq14.out; have := hs14.out; have := hqe.out; have := ql4.out; have := ql6.out; have := ql8.out; have := ql10.out; have := ql14.out; have := hwk.out; omega) (by have := hq3.out; have := hs3.out; have := hq4.out; have := hs4.out; have := hq5.out; have := hs5.out; have := hq6.out; have := hs6.out; have := hq7.out; have := hs7.out; have := hq8.out; have := hs8.out; have := hq9.out; have := hs9.out; have := hq10.out; have := hs10.out; have := hq11.out; have := hs11.out; have := hqa1.out; have := hqa2.out; have := hqa3.out; have := hqa4.out; have := hqb.out; have := hq14.out; have := hs14.out; have := hqe.out; have := ql4.out; have := ql6.out; have := ql8.out; have := ql10.out; have := ql14.out; have := hwk.out; omega))
  have R10' := Lib.hid (R10.out.sp sp14 (by have := hq3.out; have := hs3.out; have := hq4.out; have := hs4.out; have := hq5.out; have := hs5.out; have := hq6.out; have := hs6.out; have := hq7.out; have := hs7.out; have := hq8.out; have := hs8.out; have := hq9.out; have := hs9.out; have := hq10.out; have := hs10.out; have := hq11.out; have := hs11.out; have := hqa1.out; have := hqa2.out; have := hqa3.out; have := hqa4.out; have := hqb.out; have := hq14.out; have := hs14.out; have := hqe.out; have := ql4.out; have := ql6.out; have := ql8.out; have := ql10.out; have := ql14.out; have := hwk.out; omega) (by have := hq3.out; have := hs3.out; have := hq4.out; have := hs4.out; have := hq5.out; have := hs5.out; have := hq6.out; have := hs6.out; have := hq7.out; have := hs7.out; have := hq8.out; have := hs8.out; have := hq9.out; have := hs9.out; have := hq10.out; have := hs10.out; have := hq11.out; have := hs11.out; have := hqa1.out; have := hqa2.out; have := hqa3.out; have := hqa4.out; have := hqb.out; have := hq14.out; have := hs14.out; have := hqe.out; have := ql4.out; have := ql6.out; have := ql8.out; have := ql10.out; have := ql14.out; have := hwk.out; omega))
  clear F10 G10 R10
  have F10 := F10'
  have G10 := G10'
  have R10 := R10'
  clear R10'
  clear F10' G10'
  have F4' := Lib.hid (F4.out.sp sp14 (by have := hq3.out; have := hs3.out; have := hq4.out; have := hs4.out; have := hq5.out; have := hs5.out; have := hq6.out; have := hs6.out; have := hq7.out; have := hs7.out; have := hq8.out; have := hs8.out; have := hq9.out; have := hs9.out; have := hq10.out; have := hs10.out; have := hq11.out; have := hs11.out; have := hqa1.out; have := hqa2.out; have := hqa3.out; have := hqa4.out; have := hqb.out; have := hq14.out; have := hs14.out; have := hqe.out; have := ql4.out; have := ql6.out; have := ql8.out; have := ql10.out; have := ql14.out; have := hwk.out; omega))
  have G4' := Lib.hid (G4.out.sp sp14 (by have := hq3.out; have := hs3.out; have := hq4.out; have := hs4.out; have := hq5.out; have := hs5.out; have := hq6.out; have := hs6.out; have := hq7.out; have := hs7.out; have := hq8.out; have := hs8.out; have := hq9.out; have := hs9.out; have := hq10.out; have := hs10.out; have := hq11.out; have := hs11.out; have := hqa1.out; have := hqa2.out; have := hqa3.out; have := hqa4.out; have := hqb.out; have := hq14.out; have := hs14.out; have := hqe.out; have := ql4.out; have := ql6.out; have := ql8.out; have := ql10.out; have := ql14.out; have := hwk.out; omega) (by have := hq3.out; have := hs3.out; have := hq4.out; have := hs4.out; have := hq5.out; have := hs5.out; have := hq6.out; have := hs6.out; have := hq7.out; have := hs7.out; have := hq8.out; have := hs8.out; have := hq9.out; have := hs9.out; have := hq10.out; have := hs10.out; have := hq11.out; have := hs11.out; have := hqa1.out; have := hqa2.out; have := hqa3.out; have := hqa4.out; have := hqb.out; have := hq14.out; have := hs14.out; have := hqe.out; have := ql4.out; have := ql6.out; have := ql8.out; have := ql10.out; have := ql14.out; have := hwk.out; omega))
  clear F4 G4
  have F4 := F4'
  have G4 := G4'
  clear F4' G4'
  have BK14 := Lib.hid (sp_below BK.out sp14 (by have := hq3.out; have := hs3.out; have := hq4.out; have := hs4.out; have := hq5.out; have := hs5.out; have := hq6.out; have := hs6.out; have := hq7.out; have := hs7.out; have := hq8.out; have := hs8.out; have := hq9.out; have := hs9.out; have := hq10.out; have := hs10.out; have := hq11.out; have := hs11.out; have := hqa1.out; have := hqa2.out; have := hqa3.out; have := hqa4.out; have := hqb.out; have := hq14.out; have := hs14.out; have := hqe.out; have := ql4.out; have := ql6.out; have := ql8.out; have := ql10.out; have := ql14.out; have := hwk.out; omega) (Nat.le_refl _))
  have hz14 : Hid (we.heap.size ≤ vs14.heap.size) := Lib.hid sp14.size
  clear sp14 BK F14 G14 R14
  have x_0 := F6.out.c0
  have x_1 := F6.out.c1
  have x_2 := F6.out.c2
  have x_3 := F6.out.c3
  go_wp2_with fail
  clear x_0 x_1 x_2 x_3
  refine (spoilT_any ((w5.alloc (.cells #[.string ra.id, .slice ad5 ra.d.length cp5] 28)).heap.size) (w6.heap.size) _ _ _ _ _ _ _ _ vs14 G6.out R6.out (by have := hq3.out; have := hs3.out; have := hq4.out; have := hs4.out; have := hq5.out; have := hs5.out; have := hq6.out; have := hs6.out; have := hq7.out; have := hs7.out; have := hq8.out; have := hs8.out; have := hq9.out; have := hs9.out; have := hq10.out; have := hs10.out; have := hq11.out; have := hs11.out; have := hqa1.out; have := hqa2.out; have := hqa3.out; have := hqa4.out; have := hqb.out; have := hq14.out; have := hs14.out; have := hqe.out; have := ql4.out; have := ql6.out; have := ql8.out; have := ql10.out; have := ql14.out; have := hwk.out; have := hz14.out; omega) (by have := hq3.out; have := hs3.out; have := hq4.out; have := hs4.out; have := hq5.out; have := hs5.out; have := hq6.out; have := hs6.out; have := hq7.out; have := hs7.out; have := hq8.out; have := hs8.out; have := hq9.out; have := hs9.out; have := hq10.out; have := hs10.out; have := hq11.out; have := hs11.out; have := hqa1.out; have := hqa2.out; have := hqa3.out; have := hqa4.out; have := hqb.out; have := hq14.out; have := hs14.out; have := hqe.out; have := ql4.out; have := ql6.out; have := ql8.out; have := ql10.out; have := ql14.out; have := hwk.out; have := hz14.out; omega) HXL.out.2.1 HXL.out.2.2).mono ?_
  rintro en vs6 ⟨rfl, sp6⟩
  have F8' := Lib.hid (F8.out.sp sp6 (by have := hq3.out; have := hs3.out; have := hq4.out; have := hs4.out; have := hq5.out; have := hs5.out; have := hq6.out; have := hs6.out; have := hq7.out; have := hs7.out; have := hq8.out; have := hs8.out; have := hq9.out; have := hs9.out; have := hq10.out; have := hs10.out; have := hq11.out; have := hs11.out; have := hqa1.out; have := hqa2.out; have := hqa3.out; have := hqa4.out; have := hqb.out; have := hq14.out; have := hs14.out; have := hqe.out; have := ql4.out; have := ql6.out; have := ql8.out; have := ql10.out; have := ql14.out; have := hwk.out; have := hz14.out; omega))
  have G8' := Lib.hid (G8.out.sp sp6 (by have := hq3.out; have := hs3.out; have := hq4.out; have := hs4.out; have := hq5.out; have := hs5.out; have := hq6.out; have := hs6.out; have := hq7.out; have := hs7.out; have := hq8.out; have := hs8.out; have := hq9.out; have := hs9.out; have := hq10.out; have := hs10.out; have := hq11.out; have := hs11.out; have := hqa1.out; have := hqa2.out; have := hqa3.out; have := hqa4.out; have := hqb.out; have := hq14.out; have := hs14.out; have := hqe.out; have := ql4.out; have := ql6.out; have := ql8.out; have := ql10.out; have := ql14.out; have := hwk.out; have := hz14.out; omega) (by have := hq3.out; have := hs3.out; have := hq4.out; have := hs4.out; have := hq5.out; have := hs5.out; have := hq6.out; have := hs6.out; have := hq7.out; have := hs7.out; have := hq8.out; have := hs8.out; have := hq9.out; have := hs9.out; have := hq10.out; have := hs10.out; have := hq11.out; have := hs11.out; have := hqa1.out; have := hqa2.out; have := hqa3.out; have := hqa4.out; have := hqb.out; have := hq14.out; have := hs14.out; have := hqe.out; have := ql4.out; have := ql6.out; have := ql8.out; have := ql10.out; have := ql14.out; have := hwk.out; have := hz14.out; omega))
  have R8' := Lib.hid (R8.out.sp sp6 (by have := hq3.out; have := hs3.out; have := hq4.out; have := hs4.out; have := hq5.out; have := hs5.out; have := hq6.out; have := hs6.out; have := hq7.out; have := hs7.out; have := hq8.out; have := hs8.out; have := hq9.out; have := hs9.out; have := hq10.out; have := hs10.out; have := hq11.out; have := hs11.out; have := hqa1.out; have := hqa2.out; have := hqa3.out; have := hqa4.out; have := hqb.out; have := hq14.out; have := hs14.out; have := hqe.out; have := ql4.out; have := ql6.out; have := ql8.out; have := ql10.out; have := ql14.out; have := hwk.out; have := hz14.out; omega) (by have := hq3.out; have := hs3.out; have := hq4.out; have := hs4.out; have := hq5.out; have := hs5.out; have := hq6.out; have := hs6.out; have := hq7.out; have := hs7.out; have := hq8.out; have := hs8.out; have := hq9.out; have := hs9.out; have := hq10.out; have := hs10.out; have := hq11.out; have := hs11.out; have := hqa1.out; have := hqa2.out; have := hqa3.out; have := hqa4.out; have := hqb.out; have := hq14.out; have := hs14.out; have := hqe.out; have := ql4.out; have := ql6.out; have := ql8.out; have := ql10.out; have := ql14.out; have := hwk.out; have := hz14.out; omega))
  clear F8 G8 R8
  have F8 := F8'
  have G8 := G8'
  have R8 := R8'
  clear R8'
  clear F8' G8'
  have F10' := Lib.hid (F10.out.sp sp6 (by have := hq3.out; have := hs3.out; have := hq4.out; have := hs4.out; have := hq5.out; have := hs5.out; have := hq6.out; have := hs6.out; have := hq7.out; have := hs7.out; have := hq8.out; have := hs8.out; have := hq9.out; have := hs9.out; have := hq10.out; have := hs10.out; have := hq11.out; have := hs11.out; have := hqa1.out; have := hqa2.out; have := hqa3.out; have := hqa4.out; have := hqb.out; have := hq14.out; have := hs14.out; have := hqe.out; have := ql4.out; have := ql6.out; have := ql8.out; have := ql10.out; have := ql14.out; have := hwk.out; have := hz14.out; omega))
  have G10' := Lib.hid (G10.out.sp sp6 (by have := hq3.out; have := hs3.out; have := hq4.out; have := hs4.out; have := hq5.out; have := hs5.out; have := hq6.out; have := hs6.out; have := hq7.out; have := hs7.out; have := hq8.out; have := hs8.out; have := hq9.out; have := hs9.out; have := hq10.out; have := hs10.out; have := hq11.out; have := hs11.out; have := hqa1.out; have := hqa2.out; have := hqa3.out; have := hqa4.out; have := hqb.out; have := hq14.out; have := hs14.out; have := hqe.out; have := ql4.out; have := ql6.out; have := ql8.out; have := ql10.out; have := ql14.out; have := hwk.out; have := hz14.out; omega) (by have := hq3.out; have := hs3.out; have := hq4.out; have := hs4.out; have := hq5.out; have := hs5.out; have := hq6.out; have := hs6.out; have := hq7.out; have := hs7.out; have := hq8.out; have := hs8.out; have := hq9.out; have := hs9.out; have := hq10.out; have := hs10.out; have := hq11.out; have := hs11.out; have := hqa1.out; have := hqa2.out; have := hqa3.out; have := hqa4.out; have := hqb.out; have := hq14.out; have := hs14.out; have := hqe.out; have := ql4.out; have := ql6.out; have := ql8.out; have := ql10.out; have := ql14.out; have := hwk.out; have := hz14.out; omega))
  have R10' := Lib.hid (R10.out.sp sp6 (by have := hq3.out; have := hs3.out; have := hq4.out; have := hs4.out; have := hq5.out; have := hs5.out; have := hq6.out; have := hs6.out; have := hq7.out; have := hs7.out; have := hq8.out; have := hs8.out; have := hq9.out; have := hs9.out; have := hq10.out; have := hs10.out; have := hq11.out; have := hs11.out; have := hqa1.out; have := hqa2.out; have := hqa3.out; have := hqa4.out; have := hqb.out; have := hq14.out; have := hs14.out; have := hqe.out; have := ql4.out; have := ql6.out; have := ql8.out; have := ql10.out; have := ql14.out; have := hwk.out; have := hz14.out; omega) (by have := hq3.out; have := hs3.out; have := hq4.out; have := hs4.out; have := hq5.out; have := hs5.out; have := hq6.out; have := hs6.out; have := hq7.out; have := hs7.out; have := hq8.out; have := hs8.out; have := hq9.out; have := hs9.out; have := hq10.out; have := hs10.out; have := hq11.out; have := hs11.out; have := hqa1.out; have := hqa2.out; have := hqa3.out; have := hqa4.out; have := hqb.out; have := hq14.out; have := hs14.out; have := hqe.out; have := ql4.out; have := ql6.out; have := ql8.out; have := ql10.out; have := ql14.out; have := hwk.out; have := hz14.out; omega))
  clear F10 G10 R10
  have F10 := F10'
  have G10 := G10'
  have R10 := R10'
  clear R10'
  clear F10' G10'
  have F4' := Lib.hid (F4.out.sp sp6 (by have := hq3.out; have := hs3.out; have := hq4.out; have := hs4.out; have := hq5.out; have := hs5.out; have := hq6.out; have := hs6.out; have := hq7.out; have := hs7.out; have := hq8.out; have := hs8.out; have := hq9.out; have := hs9.out; have := hq10.out; have := hs10.out; have := hq11.out; have := hs11.out; have := hqa1.out; have := hqa2.out; have := hqa3.out; have := hqa4.out; have := hqb.out; have := hq14.out; have := hs14.out; have := hqe.out; have := ql4.out; have := ql6.out; have := ql8.out; have := ql10.out; have := ql14.out; have := hwk.out; have := hz14.out; omega))
  have G4' := Lib.hid (G4.out.sp sp6 (by have := hq3.out; have := hs3.out; have := hq4.out; have := hs4.out; have := hq5.out; have := hs5.out; have := hq6.out; have := hs6.out; have := hq7.out; have := hs7.out; have := hq8.out; have := hs8.out; have := hq9.out; have := hs9.out; have := hq10.out; have := hs10.out; have := hq11.out; have := hs11.out; have := hqa1.out; have := hqa2.out; have := hqa3.out; have := hqa4.out; have := hqb.out; have := hq14.out; have := hs14.out; have := hqe.out; have := ql4.out; have := ql6.out; have := ql8.out; have := ql10.out; have := ql14.out; have := hwk.out; have := hz14.out; omega) (by have := hq3.out; have := hs3.out; have := hq4.out; have := hs4.out; have := hq5.out; have := hs5.out; have := hq6.out; have := hs6.out; have := hq7.out; have := hs7.out; have := hq8.out; have := hs8.out; have := hq9.out; have := hs9.out; have := hq10.out; have := hs10.out; have := hq11.out; have := hs11.out; have := hqa1.out; have := hqa2.out; have := hqa3.out; have := hqa4.out; have := hqb.out; have := hq14.out; have := hs14.out; have := hqe.out; have := ql4.out; have := ql6.out; have := ql8.out; have := ql10.out; have := ql14.out; have := hwk.out; have := hz14.out; omega))
  clear F4 G4
  have F4 := F4'
  have G4 := G4'
  clear F4' G4'
  have BK6 := Lib.hid (sp_below BK14.out sp6 (by have := hq3.out; have := hs3.out; have := hq4.out; have := hs4.out; have := hq5.out; have := hs5.out; have := hq6.out; have := hs6.out; have := hq7.out; have := hs7.out; have := hq8.out; have := hs8.out; have := hq9.out; have := hs9.out; have := hq10.out; have := hs10.out; have := hq11.out; have := hs11.out; have := hqa1.out; have := hqa2.out; have := hqa3.out; have := hqa4.out; have := hqb.out; have := hq14.out; have := hs14.out; have := hqe.out; have := ql4.out; have := ql6.out; have := ql8.out; have := ql10.out; have := ql14.out; have := hwk.out; have := hz14.out; omega) (Nat.le_refl _))
  have hz6 : Hid (vs14.heap.size ≤ vs6.heap.size) := Lib.hid sp6.size
  clear sp6 BK14 F6 G6 R6
  have x_0 := F8.out.c0
  have x_1 := F8.out.c1
  have x_2 := F8.out.c2
  have x_3 := F8.out.c3
  go_wp2_with fail
  clear x_0 x_1 x_2 x_3
  refine (spoilT_any ((w7.alloc (.cells #[.string X.name, .int .i64 X.most, .slice e17 X.uq.length f17, .slice e27 X.rows.length f27] 25)).heap.size) (w8.heap.size) _ _ _ _ _ _ _ _ vs6 G8.out R8.out (by have := hq3.out; have := hs3.out; have := hq4.out; have := hs4.out; have := hq5.out; have := hs5.out; have := hq6.out; have := hs6.out; have := hq7.out; have := hs7.out; have := hq8.out; have := hs8.out; have := hq9.out; have := hs9.out; have := hq10.out; have := hs10.out; have := hq11.out; have := hs11.out; have := hqa1.out; have := hqa2.out; have := hqa3.out; have := hqa4.out; have := hqb.out; have := hq14.out; have := hs14.out; have := hqe.out; have := ql4.out; have := ql6.out; have := ql8.out; have := ql10.out; have := ql14.out; have := hwk.out; have := hz14.out; have := hz6.out; omega) (by have := hq3.out; have := hs3.out; have := hq4.out; have := hs4.out; have := hq5.out; have := hs5.out; have := hq6.out; have := hs6.out; have := hq7.out; have := hs7.out; have := hq8.out; have := hs8.out; have := hq9.out; have := hs9.out; have := hq10.out; have := hs10.out; have := hq11.out; have := hs11.out; have := hqa1.out; have := hqa2.out; have := hqa3.out; have := hqa4.out; have := hqb.out; have := hq14.out; have := hs14.out; have := hqe.out; have := ql4.out; have := ql6.out; have := ql8.out; have := ql10.out; have := ql14.out; have := hwk.out; have := hz14.out; have := hz6.out; omega) HYL.out.2.1 HYL.out.2.2).mono ?_
  rintro en vs8 ⟨rfl, sp8⟩
  have F10' := Lib.hid (F10.out.sp sp8 (by have := hq3.out; have := hs3.out; have := hq4.out; have := hs4.out; have := hq5.out; have := hs5.out; have := hq6.out; have := hs6.out; have := hq7.out; have := hs7.out; have := hq8.out; have := hs8.out; have := hq9.out; have := hs9.out; have := hq10.out; have := hs10.out; have := hq11.out; have := hs11.out; have := hqa1.out; have := hqa2.out; have := hqa3.out; have := hqa4.out; have := hqb.out; have := hq14.out; have := hs14.out; have := hqe.out; have := ql4.out; have := ql6.out; have := ql8.out; have := ql10.out; have := ql14.out; have := hwk.out; have := hz14.out; have := hz6.out; omega))
  have G10' := Lib.hid (G10.out.sp sp8 (by have := hq3.out; have := hs3.out; have := hq4.out; have := hs4.out; have := hq5.out; have := hs5.out; have := hq6.out; have := hs6.out; have := hq7.out; have := hs7.out; have := hq8.out; have := hs8.out; have := hq9.out; have := hs9.out; have := hq10.out; have := hs10.out; have := hq11.out; have := hs11.out; have := hqa1.out; have := hqa2.out; have := hqa3.out; have := hqa4.out; have := hqb.out; have := hq14.out; have := hs14.out; have := hqe.out; have := ql4.out; have := ql6.out; have := ql8.out; have := ql10.out; have := ql14.out; have := hwk.out; have := hz14.out; have := hz6.out; omega) (by have := hq3.out; have := hs3.out; have := hq4.out; have := hs4.out; have := hq5.out; have := hs5.out; have := hq6.out; have := hs6.out; have := hq7.out; have := hs7.out; have := hq8.out; have := hs8.out; have := hq9.out; have := hs9.out; have := hq10.out; have := hs10.out; have := hq11.out; have := hs11.out; have := hqa1.out; have := hqa2.out; have := hqa3.out; have := hqa4.out; have := hqb.out; have := hq14.out; have := hs14.out; have := hqe.out; have := ql4.out; have := ql6.out; have := ql8.out; have := ql10.out; have := ql14.out; have := hwk.out; have := hz14.out; have := hz6.out; omega))
  have R10' := Lib.hid (R10.out.sp sp8 (by have := hq3.out; have := hs3.out; have := hq4.out; have := hs4.out; have := hq5.out; have := hs5.out; have := hq6.out; have := hs6.out; have := hq7.out; have := hs7.out; have := hq8.out; have := hs8.out; have := hq9.out; have := hs9.out; have := hq10.out; have := hs10.out; have := hq11.out; have := hs11.out; have := hqa1.out; have := hqa2.out; have := hqa3.out; have := hqa4.out; have := hqb.out; have := hq14.out; have := hs14.out; have := hqe.out; have := ql4.out; have := ql6.out; have := ql8.out; have := ql10.out; have := ql14.out; have := hwk.out; have := hz14.out; have := hz6.out; omega) (by have := hq3.out; have := hs3.out; have := hq4.out; have := hs4.out; have := hq5.out; have := hs5.out; have := hq6.out; have := hs6.out; have := hq7.out; have := hs7.out; have := hq8.out; have := hs8.out; have := hq9.out; have := hs9.out; have := hq10.out; have := hs10.out; have := hq11.out; have := hs11.out; have := hqa1.out; have := hqa2.out; have := hqa3.out; have := hqa4.out; have := hqb.out; have := hq14.out; have := hs14.out; have := hqe.out; have := ql4.out; have := ql6.out; have := ql8.out; have := ql10.out; have := ql14.out; have := hwk.out; have := hz14.out; have := hz6.out; omega))
  clear F10 G10 R10
  have F10 := F10'
  have G10 := G10'
  have R10 := R10'
  clear R10'
  clear F10' G10'
  have F4' := Lib.hid (F4.out.sp sp8 (by have := hq3.out; have := hs3.out; have := hq4.out; have := hs4.out; have := hq5.out; have := hs5.out; have := hq6.out; have := hs6.out; have := hq7.out; have := hs7.out; have := hq8.out; have := hs8.out; have := hq9.out; have := hs9.out; have := hq10.out; have := hs10.out; have := hq11.out; have := hs11.out; have := hqa1.out; have := hqa2.out; have := hqa3.out; have := hqa4.out; have := hqb.out; have := hq14.out; have := hs14.out; have := hqe.out; have := ql4.out; have := ql6.out; have := ql8.out; have := ql10.out; have := ql14.out; have := hwk.out; have := hz14.out; have := hz6.out; omega))
  have G4' := Lib.hid (G4.out.sp sp8 (by have := hq3.out; have := hs3.out; have := hq4.out; have := hs4.out; have := hq5.out; have := hs5.out; have := hq6.out; have := hs6.out; have := hq7.out; have := hs7.out; have := hq8.out; have := hs8.out; have := hq9.out; have := hs9.out; have := hq10.out; have := hs10.out; have := hq11.out; have := hs11.out; have := hqa1.out; have := hqa2.out; have := hqa3.out; have := hqa4.out; have := hqb.out; have := hq14.out; have := hs14.out; have := hqe.out; have := ql4.out; have := ql6.out; have := ql8.out; have := ql10.out; have := ql14.out; have := hwk.out; have := hz14.out; have := hz6.out; omega) (by have := hq3.out; have := hs3.out; have := hq4.out; have := hs4.out; have := hq5.out; have := hs5.out; have := hq6.out; have := hs6.out; have := hq7.out; have := hs7.out; have := hq8.out; have := hs8.out; have := hq9.out; have := hs9.out; have := hq10.out; have := hs10.out; have := hq11.out; have := hs11.out; have := hqa1.out; have := hqa2.out; have := hqa3.out; have := hqa4.out; have := hqb.out; have := hq14.out; have := hs14.out; have := hqe.out; have := ql4.out; have := ql6.out; have := ql8.out; have := ql10.out; have := ql14.out; have := hwk.out; have := hz14.out; have := hz6.out; omega))
  clear F4 G4
  have F4 := F4'
  have G4 := G4'
  clear F4' G4'
  have BK8 := Lib.hid (sp_below BK6.out sp8 (by have := hq3.out; have := hs3.out; have := hq4.out; have := hs4.out; have := hq5.out; have := hs5.out; have := hq6.out; have := hs6.out; have := hq7.out; have := hs7.out; have := hq8.out; have := hs8.out; have := hq9.out; have := hs9.out; have := hq10.out; have := hs10.out; have := hq11.out; have := hs11.out; have := hqa1.out; have := hqa2.out; have := hqa3.out; have := hqa4.out; have := hqb.out; have := hq14.out; have := hs14.out; have := hqe.out; have := ql4.out; have := ql6.out; have := ql8.out; have := ql10.out; have := ql14.out; have := hwk.out; have := hz14.out; have := hz6.out; omega) (Nat.le_refl _))
  have hz8 : Hid (vs6.heap.size ≤ vs8.heap.size) := Lib.hid sp8.size
  clear sp8 BK6 F8 G8 R8
  have x_0 := F10.out.c0
  have x_1 := F10.out.c1
  have x_2 := F10.out.c2
  have x_3 := F10.out.c3
  go_wp2_with fail
  clear x_0 x_1 x_2 x_3
  refine (spoilT_any ((w9.alloc (.cells #[.string Y.name, .int .i64 Y.most, .slice e19 Y.uq.length f19, .slice e29 Y.rows.length f29] 25)).heap.size) (w10.heap.size) _ _ _ _ _ _ _ _ vs8 G10.out R10.out (by have := hq3.out; have := hs3.out; have := hq4.out; have := hs4.out; have := hq5.out; have := hs5.out; have := hq6.out; have := hs6.out; have := hq7.out; have := hs7.out; have := hq8.out; have := hs8.out; have := hq9.out; have := hs9.out; have := hq10.out; have := hs10.out; have := hq11.out; have := hs11.out; have := hqa1.out; have := hqa2.out; have := hqa3.out; have := hqa4.out; have := hqb.out; have := hq14.out; have := hs14.out; have := hqe.out; have := ql4.out; have := ql6.out; have := ql8.out; have := ql10.out; have := ql14.out; have := hwk.out; have := hz14.out; have := hz6.out; have := hz8.out; omega) (by have := hq3.out; have := hs3.out; have := hq4.out; have := hs4.out; have := hq5.out; have := hs5.out; have := hq6.out; have := hs6.out; have := hq7.out; have := hs7.out; have := hq8.out; have := hs8.out; have := hq9.out; have := hs9.out; have := hq10.out; have := hs10.out; have := hq11.out; have := hs11.out; have := hqa1.out; have := hqa2.out; have := hqa3.out; have := hqa4.out; have := hqb.out; have := hq14.out; have := hs14.out; have := hqe.out; have := ql4.out; have := ql6.out; have := ql8.out; have := ql10.out; have := ql14.out; have := hwk.out; have := hz14.out; have := hz6.out; have := hz8.out; omega) HZL.out.2.1 HZL.out.2.2).mono ?_
  rintro en vs10 ⟨rfl, sp10⟩
  have F4' := Lib.hid (F4.out.sp sp10 (by have := hq3.out; have := hs3.out; have := hq4.out; have := hs4.out; have := hq5.out; have := hs5.out; have := hq6.out; have := hs6.out; have := hq7.out; have := hs7.out; have := hq8.out; have := hs8.out; have := hq9.out; have := hs9.out; have := hq10.out; have := hs10.out; have := hq11.out; have := hs11.out; have := hqa1.out; have := hqa2.out; have := hqa3.out; have := hqa4.out; have := hqb.out; have := hq14.out; have := hs14.out; have := hqe.out; have := ql4.out; have := ql6.out; have := ql8.out; have := ql10.out; have := ql14.out; have := hwk.out; have := hz14.out; have := hz6.out; have := hz8.out; omega))
  have G4' := Lib.hid (G4.out.sp sp10 (by have := hq3.out; have := hs3.out; have := hq4.out; have := hs4.out; have := hq5.out; have := hs5.out; have := hq6.out; have := hs6.out; have := hq7.out; have := hs7.out; have := hq8.out; have := hs8.out; have := hq9.out; have := hs9.out; have := hq10.out; have := hs10.out; have := hq11.out; have := hs11.out; have := hqa1.out; have := hqa2.out; have := hqa3.out; have := hqa4.out; have := hqb.out; have := hq14.out; have := hs14.out; have := hqe.out; have := ql4.out; have := ql6.out; have := ql8.out; have := ql10.out; have := ql14.out; have := hwk.out; have := hz14.out; have := hz6.out; have := hz8.out; omega) (by have := hq3.out; have := hs3.out; have := hq4.out; have := hs4.out; have := hq5.out; have := hs5.out; have := hq6.out; have := hs6.out; have := hq7.out; have := hs7.out; have := hq8.out; have := hs8.out; have := hq9.out; have := hs9.out; have := hq10.out; have := hs10.out; have := hq11.out; have := hs11.out; have := hqa1.out; have := hqa2.out; have := hqa3.out; have := hqa4.out; have := hqb.out; have := hq14.out; have := hs14.out; have := hqe.out; have := ql4.out; have := ql6.out; have := ql8.out; have := ql10.out; have := ql14.out; have := hwk.out; have := hz14.out; have := hz6.out; have := hz8.out; omega))
  clear F4 G4
  have F4 := F4'
  have G4 := G4'
  clear F4' G4'
  have BK10 := Lib.hid (sp_below BK8.out sp10 (by have := hq3.out; have := hs3.out; have := hq4.out; have := hs4.out; have := hq5.out; have := hs5.out; have := hq6.out; have := hs6.out; have := hq7.out; have := hs7.out; have := hq8.out; have := hs8.out; have := hq9.out; have := hs9.out; have := hq10.out; have := hs10.out; have := hq11.out; have := hs11.out; have := hqa1.out; have := hqa2.out; have := hqa3.out; have := hqa4.out; have := hqb.out; have := hq14.out; have := hs14.out; have := hqe.out; have := ql4.out; have := ql6.out; have := ql8.out; have := ql10.out; have := ql14.out; have := hwk.out; have := hz14.out; have := hz6.out; have := hz8.out; omega) (Nat.le_refl _))
  have hz10 : Hid (vs8.heap.size ≤ vs10.heap.size) := Lib.hid sp10.size
  clear sp10 BK8 F10 G10 R10
  have hra1 : (ra.d.length : Int) ≤ 1000000 := by have := HOL.out; omega
  go_wp2_with fail
  go_loopw [29] (fun v29 wr => ∃ i : Nat, i ≤ ra.d.length ∧ v29 = .int .i64 i ∧ Hid (InB ((w3.alloc (.cells #[.string T.name, .int .i64 T.most, .slice e13 T.uq.length f13, .slice e23 T.rows.length f23] 25)).heap.size) w4.heap.size vs10 wr) ∧ Hid (Blk wr ((w3.alloc (.cells #[.string T.name, .int .i64 T.most, .slice e13 T.uq.length f13, .slice e23 T.rows.length f23] 25)).heap.size) w4.heap.size ad4 47 (ra.d.length * 5))) (fun v29 _ => ra.d.length - (intOf v29).toNat)
  case atStart => exact ⟨0, Nat.zero_le _, rfl, Lib.hid (InB.refl _ _ _), G4⟩
  case round =>
    obtain ⟨i, hi, rfl, HI, HD⟩ := hrel
    have Q1 : Hid (Bx2 wr w4.heap.size (.string ra.id) (.slice ad4 ra.d.length cp4)) := Lib.hid (by
      have h := F4.out
      unfold Bx2 at h ⊢
      rw [HI.out.block _ (.inr (Nat.le_refl _))]; exact h)
    have x1 := Q1.out.c1
    by_cases hlt : i < ra.d.length
    · have hlt' : (i : Int) < ra.d.length := by omega
      have hge : (0 : Int) ≤ i := by omega
      obtain ⟨db, rfl⟩ := HD.out.addr (by omega)
      obtain ⟨_, g1, g2, ⟨ux, g3⟩, g4, uarr, g5⟩ := HD.out.at_ (k := i * 5 + 4) (by omega)
      have HI3 := Lib.hid (HI.out.set (k := i * 5 + 4) g1 g2 (.int .i64 (-7)))
      have HD3 := Lib.hid (blk_set (k := i * 5 + 4) HD.out g5 (.int .i64 (-7)))
      clear g5
      go_wp2_with fail
      go_roundw
      case rel => exact ⟨i + 1, by omega, by go_num, HI3, HD3⟩
      case measure => simp [intOf]; omega
    · have him : i = ra.d.length := by omega
      subst him
      have hz : ¬ ((ra.d.length : Int) < (ra.d.length : Int)) := by omega
      have BW := Lib.hid (inb_below BK10.out HI.out (Nat.le_refl _))
      have P := HMX.out _ BW.out
      have FB := Lib.hid (BW3.out.trans (BW.out.mono BW3.out.size))
      have y0 := P.2.1.c0
      have y1 := P.2.1.c1
      have y2 := P.2.1.c2
      have y3 := P.2.1.c3
      have z0 := P.1.1.c0
      have z1 := P.1.1.c1
      have z2 := P.1.1.c2
      have z3 := P.1.1.c3
      have CF := Lib.hid (CSM.out T HTL.out _ _ _ _ _ _ _ _ _ P.2.2.1 P.1.2.2.2.1)
      clear P Q1
      go_wp2_with fail
      refine CF.out.mono ?_
      rintro en wz ⟨rfl, kz⟩
      have FZ := Lib.hid (FB.out.trans (kz.mono FB.out.size))
      clear kz
      go_wp2_with fail
      go_ret
      exact ⟨rfl, FZ.out⟩
end Go.Proofs.YtfigebepeniikaaGreat
