/- Layer 6: RangesDo. -/
import Derived.Test.YtlngdohkoeognaaBY
import Derived.Test.YtlngdohkoeognaaBP
namespace Go.Proofs.Ytlngdohkoeognaa
open Go.RowKit Go.Maps
/-- What was there is there; these values are these ranges; these rows are the call's own, each apart. -/
def apart (v u : Value) : Prop := v.ownBlock = none ∨ v.ownBlock ≠ u.ownBlock
structure Sx (w W : World) (vs : List (Value × List Rg)) (rows : List (Value × List Rg)) : Prop where
  below : Below w.heap.size w W
  vals : ∀ p ∈ vs, SlR W p.1 p.2
  own : ∀ p ∈ rows, Own W w.heap.size p.1 p.2
  far : rows.Pairwise (fun p q => apart q.1 p.1)
theorem Sx.step {w W W' : World} {vs rows : List (Value × List Rg)} (h : Sx w W vs rows) (k : Below W.heap.size W W') : Sx w W' vs rows where
  below := h.below.trans (k.mono h.below.size)
  vals := fun p hp => (h.vals p hp).below k
  own := fun p hp => (h.own p hp).below k
  far := h.far
theorem Sx.get {w W : World} {vs rows : List (Value × List Rg)} (h : Sx w W vs rows) {v : Value} {L : List Rg} (k : (v, L) ∈ vs) : SlR W v L := h.vals _ k
/-- One row more, made behind the others. -/
theorem Sx.put {w W W' : World} {vs rows : List (Value × List Rg)} (h : Sx w W vs rows) (k : Below W.heap.size W W') {v : Value} {M : List Rg} (o : Own W' W.heap.size v M) : Sx w W' ((v, M) :: vs) ((v, M) :: rows) where
  below := h.below.trans (k.mono h.below.size)
  vals := fun p hp => by
    rcases List.mem_cons.1 hp with rfl | hp
    · exact o.slr
    · exact (h.vals p hp).below k
  own := fun p hp => by
    rcases List.mem_cons.1 hp with rfl | hp
    · exact Own.base o h.below.size
    · exact (h.own p hp).below k
  far := List.pairwise_cons.2 ⟨fun q hq => own_far (h.own q hq) o (Nat.le_refl _), h.far⟩
/-- A value more, that no one spoils. -/
theorem Sx.val {w W W' : World} {vs rows : List (Value × List Rg)} (h : Sx w W vs rows) (k : Below W.heap.size W W') {v : Value} {M : List Rg} (o : SlR W' v M) : Sx w W' ((v, M) :: vs) rows where
  below := h.below.trans (k.mono h.below.size)
  vals := fun p hp => by
    rcases List.mem_cons.1 hp with rfl | hp
    · exact o
    · exact (h.vals p hp).below k
  own := fun p hp => (h.own p hp).below k
  far := h.far
/-- The eldest row is written over: the others are as they were. -/
theorem Sx.spoiled {w W W' : World} {vs rows : List (Value × List Rg)} {v : Value} {M : List Rg} (h : Sx w W vs (rows ++ [(v, M)])) (k : W.grownBy W' v.ownBlock) : Sx w W' [] rows where
  below := h.below.grown k h.below.size (fun q hq => ((h.own (v, M) (by simp)).lt q hq).1)
  vals := fun p hp => by cases hp
  own := fun p hp => by
    have far := (List.pairwise_append.1 h.far).2.2 p hp (v, M) (by simp)
    exact World.ownsRow.kept (h.own p (by simp [hp])) k (apart_symm far)
  far := (List.pairwise_append.1 h.far).1
def MakePost (w : World) (vs rows : List (Value × List Rg)) (M : List Rg) (k : Int) (e : Ending) (W' : World) : Prop := ∃ u, e = .returned (.tuple #[u, .int .i64 k]) ∧ Sx w W' ((u, M) :: vs) ((u, M) :: rows)
def ValPost (w : World) (vs rows : List (Value × List Rg)) (M : List Rg) (k : Int) (e : Ending) (W' : World) : Prop := ∃ u, e = .returned (.tuple #[u, .int .i64 k]) ∧ Sx w W' ((u, M) :: vs) rows
theorem make_sx {w W : World} {vs rows : List (Value × List Rg)} (h : Sx w W vs rows) {R : List Rg × Int} {M : List Rg} {k : Int} (hR : R = (M, k)) {e : Ending} {W' : World} (p : TwoPost W R e W') : MakePost w vs rows M k e W' := by
  subst hR
  obtain ⟨v, rfl, o, b⟩ := p
  exact ⟨v, rfl, h.put b o⟩
theorem val_sx {w W : World} {vs rows : List (Value × List Rg)} (h : Sx w W vs rows) {R : List Rg × Int} {M : List Rg} {k : Int} (hR : R = (M, k)) {e : Ending} {W' : World} (p : TwoPost W R e W') : ValPost w vs rows M k e W' := by
  subst hR
  obtain ⟨v, rfl, o, b⟩ := p
  exact ⟨v, rfl, h.val b o.slr⟩
theorem norm_sx {w W : World} {vs rows : List (Value × List Rg)} (h : Sx w W vs rows) {v : Value} {L M : List Rg} {k : Int} (hm : (v, L) ∈ vs) (hR : normP L = (M, k)) : Calls Try.prog 12 #[v] W (MakePost w vs rows M k) :=
  (norm_any v L W (h.get hm)).mono fun _ _ p => make_sx h hR p
theorem not_sx {w W : World} {vs rows : List (Value × List Rg)} (h : Sx w W vs rows) {v : Value} {L M : List Rg} {k : Int} (hm : (v, L) ∈ vs) (hR : notP L = (M, k)) : Calls Try.prog 9 #[v] W (MakePost w vs rows M k) :=
  (not_any v L W (h.get hm)).mono fun _ _ p => make_sx h hR p
theorem or_sx {w W : World} {vs rows : List (Value × List Rg)} (h : Sx w W vs rows) {v u : Value} {L P M : List Rg} {k : Int} (hm : (v, L) ∈ vs) (hn : (u, P) ∈ vs) (hR : orP L P = (M, k)) : Calls Try.prog 19 #[v, u] W (MakePost w vs rows M k) :=
  (or_any v u L P W (h.get hm) (h.get hn)).mono fun _ _ p => make_sx h hR p
theorem and_sx {w W : World} {vs rows : List (Value × List Rg)} (h : Sx w W vs rows) {v u : Value} {L P M : List Rg} {k : Int} (hm : (v, L) ∈ vs) (hn : (u, P) ∈ vs) (hR : andP L P = (M, k)) : Calls Try.prog 21 #[v, u] W (MakePost w vs rows M k) :=
  (and_any v u L P W (h.get hm) (h.get hn)).mono fun _ _ p => make_sx h hR p
theorem rnorm_sx {w W : World} {vs rows : List (Value × List Rg)} (h : Sx w W vs rows) {v : Value} {L M : List Rg} {k : Int} (hm : (v, L) ∈ vs) (hR : normP L = (M, k)) : Calls Try.prog 17 #[v] W (ValPost w vs rows M k) :=
  (rnorm_any v L W (h.get hm)).mono fun _ _ p => val_sx h hR p
theorem rnot_sx {w W : World} {vs rows : List (Value × List Rg)} (h : Sx w W vs rows) {v : Value} {L M : List Rg} {k : Int} (hm : (v, L) ∈ vs) (hR : notP L = (M, k)) : Calls Try.prog 18 #[v] W (ValPost w vs rows M k) :=
  (rnot_any v L W (h.get hm)).mono fun _ _ p => val_sx h hR p
theorem ror_sx {w W : World} {vs rows : List (Value × List Rg)} (h : Sx w W vs rows) {v u : Value} {L P M : List Rg} {k : Int} (hm : (v, L) ∈ vs) (hn : (u, P) ∈ vs) (hR : orP L P = (M, k)) : Calls Try.prog 20 #[v, u] W (ValPost w vs rows M k) :=
  (ror_any v u L P W (h.get hm) (h.get hn)).mono fun _ _ p => val_sx h hR p
theorem rand_sx {w W : World} {vs rows : List (Value × List Rg)} (h : Sx w W vs rows) {v u : Value} {L P M : List Rg} {k : Int} (hm : (v, L) ∈ vs) (hn : (u, P) ∈ vs) (hR : andP L P = (M, k)) : Calls Try.prog 22 #[v, u] W (ValPost w vs rows M k) :=
  (rand_any v u L P W (h.get hm) (h.get hn)).mono fun _ _ p => val_sx h hR p
def BoolX (w : World) (vs rows : List (Value × List Rg)) (b : Bool) (e : Ending) (W' : World) : Prop := e = .returned (.bool b) ∧ Sx w W' vs rows
theorem rsame_sx {w W : World} {vs rows : List (Value × List Rg)} (h : Sx w W vs rows) {v u : Value} {L P : List Rg} {b : Bool} (hm : (v, L) ∈ vs) (hn : (u, P) ∈ vs) (hR : decide (L = P) = b) : Calls Try.prog 23 #[v, u] W (BoolX w vs rows b) :=
  (rsame_slr v u L P W (h.get hm) (h.get hn)).mono fun _ _ p => ⟨by rw [p.1, hR], h.step p.2⟩
theorem same_sx {w W : World} {vs rows : List (Value × List Rg)} (h : Sx w W vs rows) {v u : Value} {L P : List Rg} {b : Bool} (hm : (v, L) ∈ vs) (hn : (u, P) ∈ vs) (hR : decide (L = P) = b) : Calls Try.prog 27 #[v, u] W (BoolX w vs rows b) :=
  (same_any v u L P W (h.get hm) (h.get hn)).mono fun _ _ p => ⟨by rw [p.1, hR], h.step p.2⟩
theorem has_sx {w W : World} {vs rows : List (Value × List Rg)} (h : Sx w W vs rows) {v : Value} {L : List Rg} {n : Int} {b : Bool} (hm : (v, L) ∈ vs) (hR : hs L n = b) : Calls Try.prog 25 #[v, .int .i64 n] W (BoolX w vs rows b) :=
  (has_slr v L n W (h.get hm)).mono fun _ _ p => ⟨by rw [p.1, hR], h.step p.2⟩
theorem rhas_sx {w W : World} {vs rows : List (Value × List Rg)} (h : Sx w W vs rows) {v : Value} {L : List Rg} {n : Int} {b : Bool} (hm : (v, L) ∈ vs) (hR : hs L n = b) : Calls Try.prog 26 #[v, .int .i64 n] W (BoolX w vs rows b) := by
  obtain ⟨a1, c1, rfl, r1, l1, m1, _⟩ := h.get hm
  refine (rhas_any a1 c1 L n W r1 (Nat.le_trans l1 m1)).mono ?_
  rintro e W' ⟨rfl, rfl⟩
  exact ⟨by rw [hR], h⟩
theorem check_sx {w W : World} {vs rows : List (Value × List Rg)} (h : Sx w W vs rows) {v : Value} {L : List Rg} {k : Int} (hm : (v, L) ∈ vs) (hR : eR (ckL L) = k) : Calls Try.prog 15 #[v] W fun e W' => e = .returned (.int .i64 k) ∧ Sx w W' vs rows :=
  (check_slr v L W (h.get hm)).mono fun _ _ p => ⟨by rw [p.1, hR], h.step p.2⟩
theorem rcheck_sx {w W : World} {vs rows : List (Value × List Rg)} (h : Sx w W vs rows) {v : Value} {L : List Rg} {k : Int} (hm : (v, L) ∈ vs) (hR : eR (ckL L) = k) : Calls Try.prog 24 #[v] W fun e W' => e = .returned (.int .i64 k) ∧ Sx w W' vs rows := by
  obtain ⟨a1, c1, rfl, r1, l1, m1, _⟩ := h.get hm
  exact (rcheck_any a1 c1 L W r1 (Nat.le_trans l1 m1)).mono fun _ _ p => ⟨by rw [p.1, hR], h.step p.2⟩
/-- The ranges of a row of the call's own are written over. -/
theorem spoil_any (v : Value) (M : List Rg) (B : Nat) (w : World) (ho : Own w B v M) (hl : M.length ≤ 1000000) : Calls Try.prog 28 #[v] w fun e w' => e = .returned (.tuple #[]) ∧ w.grownBy w' v.ownBlock := by
  by_cases h0 : M.length = 0
  · obtain ⟨ad, cap, rfl, _⟩ := ho.view
    rw [h0]
    have HG : Hid (w.grownBy w (Value.slice ad 0 cap).ownBlock) := Lib.hid (grown_refl _ _)
    clear ho hl h0
    go_enter Try.func28, Try.ntmps28
    go_wp2_with fail
    refine wp_loop_rounds 1 ?_
    rw [rounds_succ]
    go_wp2_with fail
    go_end0
    exact ⟨rfl, HG.out⟩
  · rcases ho.2 with ⟨rfl, hz⟩ | ⟨q, cap, cur, rfl, _⟩
    · exact absurd hz h0
    obtain ⟨n, hn⟩ : ∃ n, n = M.length := ⟨_, rfl⟩
    have ho' : w.ownsRow B 48 2 (.slice (some ⟨q, 0, none⟩) n cap) n (rw2 M) := by rw [hn]; exact ho
    have HO := Lib.hid ho'
    rw [← hn] at hl ⊢
    have hni : (n : Int) ≤ 1000000 := by omega
    clear ho ho' h0 hn hl
    go_enter Try.func28, Try.ntmps28
    go_wp2_with fail
    go_loopg [2] n (fun f v wr => ∃ (i : Nat) (xs : List Value), v = .int .i64 (i : Nat) ∧ i ≤ n ∧ n - i ≤ f ∧ wr.ownsRow B 48 2 (.slice (some ⟨q, 0, none⟩) n cap) n xs ∧ w.grownBy wr (some q))
    case atStart => exact ⟨0, _, rfl, by omega, by omega, HO.out, grown_refl _ _⟩
    case round =>
      obtain ⟨i, xs, rfl, hin, hf, ho, hg⟩ := hrel
      have HF := Lib.hid hf
      by_cases hlt : i < n
      · have HLT := Lib.hid hlt
        have hxl := ho.1
        obtain ⟨u, hu⟩ : ∃ u, wr.cell? ⟨q, i * 2, none⟩ = some u := ⟨xs[i * 2]'(by omega), by rw [ho.cellAt _ (by omega), List.getElem?_eq_getElem]⟩
        have hfr : wr.frozen? ⟨q, i * 2, none⟩ = false := ho.frozenAt _
        obtain ⟨k1, k2⟩ := ho.stored (i * 2) (.int .i64 (-7))
        have K1 := Lib.hid k1
        have K2 : Hid (w.grownBy (wr.setCell ⟨q, i * 2, none⟩ (.int .i64 (-7))) (some q)) := Lib.hid ⟨k2.os.trans hg.os, k2.tape.trans hg.tape, k2.output.trans hg.output, Nat.le_trans hg.size k2.size, fun j hj hne => (k2.block j (Nat.lt_of_lt_of_le hj hg.size) hne).trans (hg.block j hj hne)⟩
        have hlt' : (i : Int) < (n : Int) := by omega
        have hi0 : (0 : Int) ≤ (i : Int) := by omega
        have hbig : (i : Int) + 1 ≤ 9223372036854775807 := by omega
        clear hin hf ho hg hlt hxl k1 k2
        go_wp2_with fail
        go_roundg (gk - 1)
        case measure => have := HF.out; have := HLT.out; omega
        case rel => exact ⟨i + 1, _, by rw [show ((i + 1 : Nat) : Int) = (i : Int) + 1 by omega], by have := HLT.out; omega, by have := HF.out; omega, K1.out, K2.out⟩
      · have e9 : i = n := by omega
        subst e9
        have HG := Lib.hid hg
        clear hin hf ho hg hlt
        go_wp2_with fail
        go_end0
        exact ⟨rfl, HG.out⟩
theorem twin_slr (v : Value) (L : List Rg) (w : World) (h : SlR w v L) (hn : L.length ≤ 1000000) : Calls Try.prog 16 #[v] w fun e w' => ∃ u, e = .returned u ∧ SlR w' u L ∧ Below w.heap.size w w' := by
  obtain ⟨a, c, rfl, h1, _, _, h2⟩ := h
  refine (rtwin_any a c L w h1 hn h2).mono ?_
  rintro e w' ⟨u, rfl, o, b⟩
  exact ⟨u, rfl, o.slr, b⟩
theorem spoil_sx {w W : World} {vs rows : List (Value × List Rg)} {v : Value} {M : List Rg} (h : Sx w W vs (rows ++ [(v, M)])) (hl : M.length ≤ 1000000) : Calls Try.prog 28 #[v] W fun e W' => e = .returned (.tuple #[]) ∧ Sx w W' [] rows :=
  (spoil_any v M _ W (h.own (v, M) (by simp)) hl).mono fun _ _ p => ⟨p.1, h.spoiled p.2⟩
theorem capP_len {M N : List Rg} {k : Int} (h : capP M = (N, k)) : N.length ≤ 1000000 := by
  unfold capP at h
  split at h
  · simp only [Prod.mk.injEq] at h; rw [← h.1]; simp
  · simp only [Prod.mk.injEq] at h; rw [← h.1]; omega
theorem notP_len {L N : List Rg} {k : Int} (h : notP L = (N, k)) : N.length ≤ 1000000 := by
  unfold notP at h
  split at h
  · exact capP_len h
  · simp only [Prod.mk.injEq] at h; rw [← h.1]; simp
theorem orP_len {A B N : List Rg} {k : Int} (h : orP A B = (N, k)) : N.length ≤ 1000000 := by
  unfold orP at h
  split at h
  · exact capP_len h
  · simp only [Prod.mk.injEq] at h; rw [← h.1]; simp
theorem andP_len {A B N : List Rg} {k : Int} (h : andP A B = (N, k)) : N.length ≤ 1000000 := by
  unfold andP at h
  split at h
  · exact capP_len h
  · simp only [Prod.mk.injEq] at h; rw [← h.1]; simp
theorem normP_len {L N : List Rg} {k : Int} (h : normP L = (N, k)) : N.length ≤ 1000000 := by
  unfold normP at h
  split at h
  · simp only [Prod.mk.injEq] at h; rw [← h.1]; simp
  · split at h
    · rename_i h1 h2
      simp only [Prod.mk.injEq] at h
      rw [← h.1]
      have := uniC_len (List.all_eq_true.1 h2)
      omega
    · simp only [Prod.mk.injEq] at h; rw [← h.1]; simp
set_option maxRecDepth 20000 in
theorem do_mid (a1 a2 : Option Addr) (c1 c2 la lb : Nat) (A B : List Rg) (n : Int) (w : World) (h1 : (60 : Int) < (la : Int)) (h2 : (la : Int) ≤ 256) :
    Calls Try.prog 4 #[.slice a1 la c1, .slice a2 lb c2, .int .i64 n] w fun e w' => e = .returned (.bool true) ∧ Below w.heap.size w w' := by
  go_enter Try.func4, Try.ntmps4
  go_wp2_with fail
  go_ret
  exact ⟨rfl, Below.refl _ _⟩
set_option maxRecDepth 20000 in
theorem do_big (a1 a2 : Option Addr) (c1 c2 la lb : Nat) (A B : List Rg) (n : Int) (w : World) (h1 : (60 : Int) < (la : Int)) (h2 : ¬ (la : Int) ≤ 256) (h3 : (300 : Int) < (la : Int)) :
    Calls Try.prog 4 #[.slice a1 la c1, .slice a2 lb c2, .int .i64 n] w fun e w' => e = .returned (.bool true) ∧ Below w.heap.size w w' := by
  go_enter Try.func4, Try.ntmps4
  go_wp2_with fail
  go_ret
  exact ⟨rfl, Below.refl _ _⟩
set_option maxRecDepth 20000 in
theorem do_b1 (a1 a2 : Option Addr) (c1 c2 la lb : Nat) (A B : List Rg) (n : Int) (w : World) (h1 : ¬ (60 : Int) < (la : Int)) (h3 : ¬ (300 : Int) < (la : Int)) (h4 : (60 : Int) < (lb : Int)) :
    Calls Try.prog 4 #[.slice a1 la c1, .slice a2 lb c2, .int .i64 n] w fun e w' => e = .returned (.bool true) ∧ Below w.heap.size w w' := by
  go_enter Try.func4, Try.ntmps4
  go_wp2_with fail
  go_ret
  exact ⟨rfl, Below.refl _ _⟩
set_option maxRecDepth 20000 in
theorem do_b2 (a1 a2 : Option Addr) (c1 c2 la lb : Nat) (A B : List Rg) (n : Int) (w : World) (h1 : (60 : Int) < (la : Int)) (h2 : ¬ (la : Int) ≤ 256) (h3 : ¬ (300 : Int) < (la : Int)) (h4 : (60 : Int) < (lb : Int)) :
    Calls Try.prog 4 #[.slice a1 la c1, .slice a2 lb c2, .int .i64 n] w fun e w' => e = .returned (.bool true) ∧ Below w.heap.size w w' := by
  go_enter Try.func4, Try.ntmps4
  go_wp2_with fail
  go_ret
  exact ⟨rfl, Below.refl _ _⟩
set_option maxHeartbeats 1000000 in
set_option maxRecDepth 20000 in
theorem do_small (a1 a2 : Option Addr) (c1 c2 la lb : Nat) (A B : List Rg) (n : Int) (w : World) (h1 : ¬ (60 : Int) < (la : Int)) (h3 : ¬ (300 : Int) < (la : Int)) (h4 : ¬ (60 : Int) < (lb : Int)) (hs1 : Hid (SlR w (.slice a1 la c1) A)) (hs2 : Hid (SlR w (.slice a2 lb c2) B)) (hla : Hid (A.length ≤ 300)) (hlb : Hid (B.length ≤ 60)) (M1 M2 M3 M4 : List Rg) (k1 k2 k3 k4 ck : Int) (hx sm : Bool) (e1 : Hid (normP A = (M1, k1))) (e2 : Hid (notP A = (M2, k2))) (e3 : Hid (orP A B = (M3, k3))) (e4 : Hid (andP A B = (M4, k4))) (e5 : Hid (eR (ckL A) = ck)) (e6 : Hid (hs A n = hx)) (e7 : Hid (decide (A = B) = sm)) :
    Calls Try.prog 4 #[.slice a1 la c1, .slice a2 lb c2, .int .i64 n] w fun e w' => e = .returned (.bool true) ∧ Below w.heap.size w w' := by
  go_enter Try.func4, Try.ntmps4
  go_wp2_with fail
  refine (twin_slr _ A _ hs1.out (by have := hla.out; omega)).mono ?_
  rintro e w1 ⟨u1, rfl, t1, b1⟩
  have T1 := Lib.hid t1
  have B1 := Lib.hid b1
  clear t1 b1
  go_wp2_with fail
  refine (twin_slr _ B _ (hs2.out.below B1.out) (by have := hlb.out; omega)).mono ?_
  rintro e w2 ⟨u2, rfl, t2, b2⟩
  have B2 := Lib.hid (B1.out.trans (b2.mono B1.out.size))
  have R1 := Lib.hid (hs1.out.below B2.out)
  have R2 := Lib.hid (hs2.out.below B2.out)
  have R3 := Lib.hid (T1.out.below b2)
  have R4 := Lib.hid t2
  have S2 : Hid (Sx w2 w2 [(u1, A), (u2, B), (.slice a1 la c1, A), (.slice a2 lb c2, B)] []) := Lib.hid ⟨Below.refl _ _, fun p hp => by
    simp at hp
    rcases hp with rfl | rfl | rfl | rfl
    · exact R3.out
    · exact R4.out
    · exact R1.out
    · exact R2.out, (fun p hp => by cases hp), List.Pairwise.nil⟩
  clear t2 b2
  go_wp2_with fail
  refine (norm_sx S2.out (v := u1) (L := A) (by simp) e1.out).mono ?_
  rintro e w3 ⟨x3, rfl, s3⟩
  have S3 := Lib.hid s3
  clear s3
  go_wp2_with fail
  refine (rnorm_sx S3.out (v := .slice a1 la c1) (L := A) (by simp) e1.out).mono ?_
  rintro e w4 ⟨x4, rfl, s4⟩
  have S4 := Lib.hid s4
  clear s4
  go_wp2_with fail
  refine (not_sx S4.out (v := u1) (L := A) (by simp) e2.out).mono ?_
  rintro e w5 ⟨x5, rfl, s5⟩
  have S5 := Lib.hid s5
  clear s5
  go_wp2_with fail
  refine (rnot_sx S5.out (v := .slice a1 la c1) (L := A) (by simp) e2.out).mono ?_
  rintro e w6 ⟨x6, rfl, s6⟩
  have S6 := Lib.hid s6
  clear s6
  go_wp2_with fail
  refine (or_sx S6.out (v := u1) (u := u2) (L := A) (P := B) (by simp) (by simp) e3.out).mono ?_
  rintro e w7 ⟨x7, rfl, s7⟩
  have S7 := Lib.hid s7
  clear s7
  go_wp2_with fail
  refine (ror_sx S7.out (v := .slice a1 la c1) (u := .slice a2 lb c2) (L := A) (P := B) (by simp) (by simp) e3.out).mono ?_
  rintro e w8 ⟨x8, rfl, s8⟩
  have S8 := Lib.hid s8
  clear s8
  go_wp2_with fail
  refine (and_sx S8.out (v := u1) (u := u2) (L := A) (P := B) (by simp) (by simp) e4.out).mono ?_
  rintro e w9 ⟨x9, rfl, s9⟩
  have S9 := Lib.hid s9
  clear s9
  go_wp2_with fail
  refine (rand_sx S9.out (v := .slice a1 la c1) (u := .slice a2 lb c2) (L := A) (P := B) (by simp) (by simp) e4.out).mono ?_
  rintro e w10 ⟨x10, rfl, s10⟩
  have S10 := Lib.hid s10
  clear s10
  go_wp2_with fail
  refine (rsame_sx S10.out (v := x3) (u := x4) (L := M1) (P := M1) (by simp) (by simp) (decide_eq_true rfl)).mono ?_
  rintro e w11 ⟨rfl, s11⟩
  have S11 := Lib.hid s11
  clear s11
  go_wp2_with fail
  refine (rsame_sx S11.out (v := x5) (u := x6) (L := M2) (P := M2) (by simp) (by simp) (decide_eq_true rfl)).mono ?_
  rintro e w12 ⟨rfl, s12⟩
  have S12 := Lib.hid s12
  clear s12
  go_wp2_with fail
  refine (rsame_sx S12.out (v := x7) (u := x8) (L := M3) (P := M3) (by simp) (by simp) (decide_eq_true rfl)).mono ?_
  rintro e w13 ⟨rfl, s13⟩
  have S13 := Lib.hid s13
  clear s13
  go_wp2_with fail
  refine (rsame_sx S13.out (v := x9) (u := x10) (L := M4) (P := M4) (by simp) (by simp) (decide_eq_true rfl)).mono ?_
  rintro e w14 ⟨rfl, s14⟩
  have S14 := Lib.hid s14
  clear s14
  go_wp2_with fail
  refine (check_sx S14.out (v := u1) (L := A) (by simp) e5.out).mono ?_
  rintro e w15 ⟨rfl, s15⟩
  have S15 := Lib.hid s15
  clear s15
  go_wp2_with fail
  refine (rcheck_sx S15.out (v := .slice a1 la c1) (L := A) (by simp) e5.out).mono ?_
  rintro e w16 ⟨rfl, s16⟩
  have S16 := Lib.hid s16
  clear s16
  go_wp2_with fail
  refine (has_sx S16.out (v := u1) (L := A) (by simp) e6.out).mono ?_
  rintro e w17 ⟨rfl, s17⟩
  have S17 := Lib.hid s17
  clear s17
  go_wp2_with fail
  refine (rhas_sx S17.out (v := .slice a1 la c1) (L := A) (by simp) e6.out).mono ?_
  rintro e w18 ⟨rfl, s18⟩
  have S18 := Lib.hid s18
  clear s18
  go_wp2_with fail
  refine (same_sx S18.out (v := u1) (u := u2) (L := A) (P := B) (by simp) (by simp) e7.out).mono ?_
  rintro e w19 ⟨rfl, s19⟩
  have S19 := Lib.hid s19
  clear s19
  go_wp2_with fail
  refine (rsame_sx S19.out (v := .slice a1 la c1) (u := .slice a2 lb c2) (L := A) (P := B) (by simp) (by simp) e7.out).mono ?_
  rintro e w20 ⟨rfl, s20⟩
  have S20 := Lib.hid s20
  clear s20
  go_wp2_with fail
  refine (spoil_sx (rows := [(x9, M4), (x7, M3), (x5, M2)]) (M := M1) S20.out (normP_len e1.out)).mono ?_
  rintro e w21 ⟨rfl, s21⟩
  have S21 := Lib.hid s21
  clear s21
  go_wp2_with fail
  refine (spoil_sx (rows := [(x9, M4), (x7, M3)]) (M := M2) S21.out (notP_len e2.out)).mono ?_
  rintro e w22 ⟨rfl, s22⟩
  have S22 := Lib.hid s22
  clear s22
  go_wp2_with fail
  refine (spoil_sx (rows := [(x9, M4)]) (M := M3) S22.out (orP_len e3.out)).mono ?_
  rintro e w23 ⟨rfl, s23⟩
  have S23 := Lib.hid s23
  clear s23
  go_wp2_with fail
  refine (spoil_sx (rows := []) (M := M4) S23.out (andP_len e4.out)).mono ?_
  rintro e w24 ⟨rfl, s24⟩
  have S24 := Lib.hid s24
  clear s24
  go_wp2_with fail
  have BW := Lib.hid S24.out.below
  refine (rsame_slr u1 (.slice a1 la c1) A A _ (R3.out.below BW.out) (R1.out.below BW.out)).mono ?_
  rintro e w25 ⟨rfl, b25⟩
  have BV := Lib.hid (BW.out.trans (b25.mono BW.out.size))
  rw [decide_eq_true (rfl : A = A)]
  clear b25
  go_wp2_with fail
  refine (rsame_slr u2 (.slice a2 lb c2) B B _ (R4.out.below BV.out) (R2.out.below BV.out)).mono ?_
  rintro e w26 ⟨rfl, b26⟩
  have BU := Lib.hid (BV.out.trans (b26.mono BV.out.size))
  rw [decide_eq_true (rfl : B = B)]
  clear b26
  go_wp2_with fail
  go_ret
  exact ⟨rfl, B2.out.trans (BU.out.mono B2.out.size)⟩
set_option maxHeartbeats 1000000 in
set_option maxRecDepth 20000 in
theorem do_large (a1 a2 : Option Addr) (c1 c2 la lb : Nat) (A B : List Rg) (n : Int) (w : World) (h1 : (60 : Int) < (la : Int)) (h2 : ¬ (la : Int) ≤ 256) (h3 : ¬ (300 : Int) < (la : Int)) (h4 : ¬ (60 : Int) < (lb : Int)) (hs1 : Hid (SlR w (.slice a1 la c1) A)) (hs2 : Hid (SlR w (.slice a2 lb c2) B)) (hla : Hid (A.length ≤ 300)) (hlb : Hid (B.length ≤ 60)) (M1 M2 M3 M4 : List Rg) (k1 k2 k3 k4 ck : Int) (hx sm : Bool) (e1 : Hid (normP A = (M1, k1))) (e2 : Hid (notP A = (M2, k2))) (e3 : Hid (orP A B = (M3, k3))) (e4 : Hid (andP A B = (M4, k4))) (e5 : Hid (eR (ckL A) = ck)) (e6 : Hid (hs A n = hx)) (e7 : Hid (decide (A = B) = sm)) :
    Calls Try.prog 4 #[.slice a1 la c1, .slice a2 lb c2, .int .i64 n] w fun e w' => e = .returned (.bool true) ∧ Below w.heap.size w w' := by
  go_enter Try.func4, Try.ntmps4
  go_wp2_with fail
  refine (twin_slr _ A _ hs1.out (by have := hla.out; omega)).mono ?_
  rintro e w1 ⟨u1, rfl, t1, b1⟩
  have T1 := Lib.hid t1
  have B1 := Lib.hid b1
  clear t1 b1
  go_wp2_with fail
  refine (twin_slr _ B _ (hs2.out.below B1.out) (by have := hlb.out; omega)).mono ?_
  rintro e w2 ⟨u2, rfl, t2, b2⟩
  have B2 := Lib.hid (B1.out.trans (b2.mono B1.out.size))
  have R1 := Lib.hid (hs1.out.below B2.out)
  have R2 := Lib.hid (hs2.out.below B2.out)
  have R3 := Lib.hid (T1.out.below b2)
  have R4 := Lib.hid t2
  have S2 : Hid (Sx w2 w2 [(u1, A), (u2, B), (.slice a1 la c1, A), (.slice a2 lb c2, B)] []) := Lib.hid ⟨Below.refl _ _, fun p hp => by
    simp at hp
    rcases hp with rfl | rfl | rfl | rfl
    · exact R3.out
    · exact R4.out
    · exact R1.out
    · exact R2.out, (fun p hp => by cases hp), List.Pairwise.nil⟩
  clear t2 b2
  go_wp2_with fail
  refine (norm_sx S2.out (v := u1) (L := A) (by simp) e1.out).mono ?_
  rintro e w3 ⟨x3, rfl, s3⟩
  have S3 := Lib.hid s3
  clear s3
  go_wp2_with fail
  refine (rnorm_sx S3.out (v := .slice a1 la c1) (L := A) (by simp) e1.out).mono ?_
  rintro e w4 ⟨x4, rfl, s4⟩
  have S4 := Lib.hid s4
  clear s4
  go_wp2_with fail
  refine (not_sx S4.out (v := u1) (L := A) (by simp) e2.out).mono ?_
  rintro e w5 ⟨x5, rfl, s5⟩
  have S5 := Lib.hid s5
  clear s5
  go_wp2_with fail
  refine (rnot_sx S5.out (v := .slice a1 la c1) (L := A) (by simp) e2.out).mono ?_
  rintro e w6 ⟨x6, rfl, s6⟩
  have S6 := Lib.hid s6
  clear s6
  go_wp2_with fail
  refine (or_sx S6.out (v := u1) (u := u2) (L := A) (P := B) (by simp) (by simp) e3.out).mono ?_
  rintro e w7 ⟨x7, rfl, s7⟩
  have S7 := Lib.hid s7
  clear s7
  go_wp2_with fail
  refine (ror_sx S7.out (v := .slice a1 la c1) (u := .slice a2 lb c2) (L := A) (P := B) (by simp) (by simp) e3.out).mono ?_
  rintro e w8 ⟨x8, rfl, s8⟩
  have S8 := Lib.hid s8
  clear s8
  go_wp2_with fail
  refine (and_sx S8.out (v := u1) (u := u2) (L := A) (P := B) (by simp) (by simp) e4.out).mono ?_
  rintro e w9 ⟨x9, rfl, s9⟩
  have S9 := Lib.hid s9
  clear s9
  go_wp2_with fail
  refine (rand_sx S9.out (v := .slice a1 la c1) (u := .slice a2 lb c2) (L := A) (P := B) (by simp) (by simp) e4.out).mono ?_
  rintro e w10 ⟨x10, rfl, s10⟩
  have S10 := Lib.hid s10
  clear s10
  go_wp2_with fail
  refine (rsame_sx S10.out (v := x3) (u := x4) (L := M1) (P := M1) (by simp) (by simp) (decide_eq_true rfl)).mono ?_
  rintro e w11 ⟨rfl, s11⟩
  have S11 := Lib.hid s11
  clear s11
  go_wp2_with fail
  refine (rsame_sx S11.out (v := x5) (u := x6) (L := M2) (P := M2) (by simp) (by simp) (decide_eq_true rfl)).mono ?_
  rintro e w12 ⟨rfl, s12⟩
  have S12 := Lib.hid s12
  clear s12
  go_wp2_with fail
  refine (rsame_sx S12.out (v := x7) (u := x8) (L := M3) (P := M3) (by simp) (by simp) (decide_eq_true rfl)).mono ?_
  rintro e w13 ⟨rfl, s13⟩
  have S13 := Lib.hid s13
  clear s13
  go_wp2_with fail
  refine (rsame_sx S13.out (v := x9) (u := x10) (L := M4) (P := M4) (by simp) (by simp) (decide_eq_true rfl)).mono ?_
  rintro e w14 ⟨rfl, s14⟩
  have S14 := Lib.hid s14
  clear s14
  go_wp2_with fail
  refine (check_sx S14.out (v := u1) (L := A) (by simp) e5.out).mono ?_
  rintro e w15 ⟨rfl, s15⟩
  have S15 := Lib.hid s15
  clear s15
  go_wp2_with fail
  refine (rcheck_sx S15.out (v := .slice a1 la c1) (L := A) (by simp) e5.out).mono ?_
  rintro e w16 ⟨rfl, s16⟩
  have S16 := Lib.hid s16
  clear s16
  go_wp2_with fail
  refine (has_sx S16.out (v := u1) (L := A) (by simp) e6.out).mono ?_
  rintro e w17 ⟨rfl, s17⟩
  have S17 := Lib.hid s17
  clear s17
  go_wp2_with fail
  refine (rhas_sx S17.out (v := .slice a1 la c1) (L := A) (by simp) e6.out).mono ?_
  rintro e w18 ⟨rfl, s18⟩
  have S18 := Lib.hid s18
  clear s18
  go_wp2_with fail
  refine (same_sx S18.out (v := u1) (u := u2) (L := A) (P := B) (by simp) (by simp) e7.out).mono ?_
  rintro e w19 ⟨rfl, s19⟩
  have S19 := Lib.hid s19
  clear s19
  go_wp2_with fail
  refine (rsame_sx S19.out (v := .slice a1 la c1) (u := .slice a2 lb c2) (L := A) (P := B) (by simp) (by simp) e7.out).mono ?_
  rintro e w20 ⟨rfl, s20⟩
  have S20 := Lib.hid s20
  clear s20
  go_wp2_with fail
  refine (spoil_sx (rows := [(x9, M4), (x7, M3), (x5, M2)]) (M := M1) S20.out (normP_len e1.out)).mono ?_
  rintro e w21 ⟨rfl, s21⟩
  have S21 := Lib.hid s21
  clear s21
  go_wp2_with fail
  refine (spoil_sx (rows := [(x9, M4), (x7, M3)]) (M := M2) S21.out (notP_len e2.out)).mono ?_
  rintro e w22 ⟨rfl, s22⟩
  have S22 := Lib.hid s22
  clear s22
  go_wp2_with fail
  refine (spoil_sx (rows := [(x9, M4)]) (M := M3) S22.out (orP_len e3.out)).mono ?_
  rintro e w23 ⟨rfl, s23⟩
  have S23 := Lib.hid s23
  clear s23
  go_wp2_with fail
  refine (spoil_sx (rows := []) (M := M4) S23.out (andP_len e4.out)).mono ?_
  rintro e w24 ⟨rfl, s24⟩
  have S24 := Lib.hid s24
  clear s24
  go_wp2_with fail
  have BW := Lib.hid S24.out.below
  refine (rsame_slr u1 (.slice a1 la c1) A A _ (R3.out.below BW.out) (R1.out.below BW.out)).mono ?_
  rintro e w25 ⟨rfl, b25⟩
  have BV := Lib.hid (BW.out.trans (b25.mono BW.out.size))
  rw [decide_eq_true (rfl : A = A)]
  clear b25
  go_wp2_with fail
  refine (rsame_slr u2 (.slice a2 lb c2) B B _ (R4.out.below BV.out) (R2.out.below BV.out)).mono ?_
  rintro e w26 ⟨rfl, b26⟩
  have BU := Lib.hid (BV.out.trans (b26.mono BV.out.size))
  rw [decide_eq_true (rfl : B = B)]
  clear b26
  go_wp2_with fail
  go_ret
  exact ⟨rfl, B2.out.trans (BU.out.mono B2.out.size)⟩
theorem do_any (v1 v2 : Value) (A B : List Rg) (n : Int) (w : World) (h1 : SlR w v1 A) (h2 : SlR w v2 B) :
    Calls Try.prog 4 #[v1, v2, .int .i64 n] w fun e w' => e = .returned (.bool true) ∧ Below w.heap.size w w' := by
  have H1 := h1
  have H2 := h2
  obtain ⟨a1, c1, rfl, _⟩ := h1
  obtain ⟨a2, c2, rfl, _⟩ := h2
  by_cases k1 : 60 < A.length
  · by_cases k2 : A.length ≤ 256
    · exact do_mid a1 a2 c1 c2 _ _ A B n w (by omega) (by omega)
    by_cases k3 : 300 < A.length
    · exact do_big a1 a2 c1 c2 _ _ A B n w (by omega) (by omega) (by omega)
    by_cases k4 : 60 < B.length
    · exact do_b2 a1 a2 c1 c2 _ _ A B n w (by omega) (by omega) (by omega) (by omega)
    exact do_large a1 a2 c1 c2 _ _ A B n w (by omega) (by omega) (by omega) (by omega) (Lib.hid H1) (Lib.hid H2) (Lib.hid (by omega)) (Lib.hid (by omega)) _ _ _ _ _ _ _ _ _ _ _ (Lib.hid rfl) (Lib.hid rfl) (Lib.hid rfl) (Lib.hid rfl) (Lib.hid rfl) (Lib.hid rfl) (Lib.hid rfl)
  · by_cases k4 : 60 < B.length
    · exact do_b1 a1 a2 c1 c2 _ _ A B n w (by omega) (by omega) (by omega)
    exact do_small a1 a2 c1 c2 _ _ A B n w (by omega) (by omega) (by omega) (Lib.hid H1) (Lib.hid H2) (Lib.hid (by omega)) (Lib.hid (by omega)) _ _ _ _ _ _ _ _ _ _ _ (Lib.hid rfl) (Lib.hid rfl) (Lib.hid rfl) (Lib.hid rfl) (Lib.hid rfl) (Lib.hid rfl) (Lib.hid rfl)
end Go.Proofs.Ytlngdohkoeognaa
