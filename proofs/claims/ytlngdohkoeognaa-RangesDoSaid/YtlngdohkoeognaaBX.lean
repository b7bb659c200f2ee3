/- Layer 6: the document's Norm, Not, Or, And. -/
import Derived.Test.YtlngdohkoeognaaBO
import Derived.Test.YtlngdohkoeognaaBW
import Derived.Laws.MakeOwn
import Derived.Laws.OwnMore
namespace Go.Proofs.Ytlngdohkoeognaa
open Go.RowKit Go.Maps
/-- What a table tells of a number. -/
def tbl (A B : List Rg) (b0 b1 b2 b3 : Bool) (n : Int) : Bool := if hs A n then (if hs B n then b3 else b1) else (if hs B n then b2 else b0)
theorem infoB : ∃ i, Try.prog.info? 4 = some i ∧ i.zero = some (.bool false) ∧ i.size = 1 ∧ i.bytes = 1 := by
  have h := Try.typeInfo4 default
  unfold typeInfo at h
  cases hq : Try.prog.info? 4 with
  | none => simp [hq] at h
  | some i =>
    simp [hq] at h
    exact ⟨i, rfl, by rw [h]; rfl, by rw [h]; rfl, by rw [h]; rfl⟩
/-- Bools ahead of i are told by f. -/
def BRow (W : World) (G N : Nat) (l : List Int) (f : Int → Bool) (i : Nat) : Prop := ∃ xs, W.ownsRow G 4 1 (.slice (some ⟨G, 0, none⟩) N N) N xs ∧ ∀ j, j < i → xs[j]? = some (.bool (f (gI l j)))
theorem BRow.below {W W' : World} {G N : Nat} {l : List Int} {f : Int → Bool} {i : Nat} (h : BRow W G N l f i) (k : Below W.heap.size W W') : BRow W' G N l f i := by
  obtain ⟨xs, h1, h2⟩ := h
  exact ⟨xs, own_below h1 k, h2⟩
theorem BRow.cell {W : World} {G N : Nat} {l : List Int} {f : Int → Bool} {i : Nat} (h : BRow W G N l f i) (hi : i < N) : (∃ u, W.cell? ⟨G, i, none⟩ = some u) ∧ W.frozen? ⟨G, i, none⟩ = false := by
  obtain ⟨xs, h1, _⟩ := h
  have hl := h1.1
  refine ⟨⟨xs[i]'(by omega), ?_⟩, h1.frozenAt i⟩
  rw [h1.cellAt i (by omega), List.getElem?_eq_getElem]
theorem BRow.put {W : World} {G N : Nat} {l : List Int} {f : Int → Bool} {i : Nat} (h : BRow W G N l f i) (hi : i < N) {b : Bool} (hb : b = f (gI l i)) : BRow (W.setCell ⟨G, i, none⟩ (.bool b)) G N l f (i + 1) ∧ Below G W (W.setCell ⟨G, i, none⟩ (.bool b)) := by
  obtain ⟨xs, h1, h2⟩ := h
  obtain ⟨k1, k2⟩ := h1.stored i (.bool b)
  have hl := h1.1
  refine ⟨⟨_, k1, fun j hj => ?_⟩, (Below.refl G W).grown k2 (by have := (h1.lt G rfl).2; omega) (fun k e => by cases e; exact Nat.le_refl _)⟩
  by_cases e : j = i
  · subst e
    rw [List.getElem?_set_self (by omega), hb]
  · rw [List.getElem?_set_ne (fun h => e h.symm)]
    exact h2 j (by omega)
set_option maxRecDepth 20000 in
set_option maxHeartbeats 2000000 in
theorem made_any (v1 v2 : Value) (A B : List Rg) (b0 b1 b2 b3 : Bool) (w : World) (h1 : SlR w v1 A) (h2 : SlR w v2 B) (hA : ∀ r ∈ A, okR r = true) (hB : ∀ r ∈ B, okR r = true) (lA : A.length ≤ 256) (lB : B.length ≤ 256) :
    Calls Try.prog 58 #[v1, v2, .agg #[.bool b0, .bool b1, .bool b2, .bool b3]] w (ConcatPost w (madeL (A ++ B) (tbl A B b0 b1 b2 b3))) := by
  obtain ⟨ib, hib, hbz0, hbz1, hbz2⟩ := infoB
  obtain ⟨w0, hw0⟩ : ∃ w0, w0 = w.alloc (.cells #[.bool b0, .bool b1, .bool b2, .bool b3] 73) := ⟨_, rfl⟩
  have BW0 : Hid (Below w.heap.size w w0) := Lib.hid (by rw [hw0]; exact (Below.refl _ _).alloc (Nat.le_refl _) _)
  have HS0 : Hid (w0.heap.size = w.heap.size + 1) := Lib.hid (by rw [hw0]; simp)
  have ct : ∀ j u, ([.bool b0, .bool b1, .bool b2, .bool b3] : List Value)[j]? = some u → w0.cell? ⟨w.heap.size, j, none⟩ = some u := fun j u hj => by
    have := news_at w #[.bool b0, .bool b1, .bool b2, .bool b3] 73 [.bool b0, .bool b1, .bool b2, .bool b3] rfl j u hj
    rw [Addr.add_lit, Nat.zero_add] at this
    rw [hw0]; exact this
  have CT := Lib.hid ct
  have k1 := h1.below BW0.out
  have k2 := h2.below BW0.out
  have hok : ∀ L ∈ [A, B], ∀ r ∈ L, 0 ≤ r.2 ∧ r.2 ≤ 1114111 := fun L hL r hr => by
    have : okR r = true := by
      simp at hL
      rcases hL with rfl | rfl
      · exact hA r hr
      · exact hB r hr
    have := okR_iff.1 this
    omega
  have hpl := places_any (some ⟨w0.heap.size, 0, none⟩) 2 [A, B] _ (two_view w0 v1 v2 A B k1 k2) (by simp) (fun L hL => by simp at hL; rcases hL with rfl | rfl <;> assumption) hok
  rw [show [A, B].flatten = A ++ B by simp, show [A, B].length = 2 from rfl] at hpl
  have HPL := Lib.hid hpl
  have hoAB := app_ok hA hB
  obtain ⟨p1, p2, p3⟩ := plc_ok (A ++ B) hoAB
  obtain ⟨l, hl⟩ : ∃ l, l = plcL (A ++ B) := ⟨_, rfl⟩
  have HL := Lib.hid hl
  have hlp := plc_pos (A ++ B)
  rw [← hl] at HPL p1 p2 p3 hlp
  have hr : ∀ x ∈ l, 0 ≤ x ∧ x ≤ 1114111 := fun x hx => by
    rcases (p2 x).1 hx with rfl | ⟨r, hr, h⟩
    · omega
    · have := okR_iff.1 (hoAB r hr)
      omega
  have hll : l.length ≤ 1025 := by rw [List.length_append] at p3; omega
  have HS1 := Lib.hid h1
  have HS2 := Lib.hid h2
  have HP1 := Lib.hid p1
  have HR := Lib.hid hr
  have HLL := Lib.hid hll
  have HLP := Lib.hid hlp
  have HW0 := Lib.hid hw0
  obtain ⟨a1, c1, rfl, _⟩ := h1
  obtain ⟨a2, c2, rfl, _⟩ := h2
  have HA0 : Hid (∀ W, Below w.heap.size w W → ∀ z, Calls Try.prog 26 #[.slice a1 A.length c1, .int .i64 z] W fun e w' => e = .returned (.bool (hs A z)) ∧ W = w') := Lib.hid (fun W hW z => by
    obtain ⟨_, _, e, rv, l1, l2, _⟩ := HS1.out.below hW
    simp only [Value.slice.injEq] at e
    obtain ⟨rfl, _, rfl⟩ := e
    exact rhas_any a1 c1 A z W rv (Nat.le_trans l1 l2))
  have HB0 : Hid (∀ W, Below w.heap.size w W → ∀ z, Calls Try.prog 26 #[.slice a2 B.length c2, .int .i64 z] W fun e w' => e = .returned (.bool (hs B z)) ∧ W = w') := Lib.hid (fun W hW z => by
    obtain ⟨_, _, e, rv, l1, l2, _⟩ := HS2.out.below hW
    simp only [Value.slice.injEq] at e
    obtain ⟨rfl, _, rfl⟩ := e
    exact rhas_any a2 c2 B z W rv (Nat.le_trans l1 l2))
  obtain ⟨la, hla⟩ : ∃ n, n = A.length := ⟨_, rfl⟩
  obtain ⟨lb, hlb⟩ : ∃ n, n = B.length := ⟨_, rfl⟩
  rw [← hla] at HPL HA0 ⊢
  rw [← hlb] at HPL HB0 ⊢
  obtain ⟨f, hf⟩ : ∃ f, f = tbl A B b0 b1 b2 b3 := ⟨_, rfl⟩
  rw [← hf]
  have HFF := Lib.hid hf
  clear k1 k2 hA hB lA lB ct hok hpl p1 p2 p3 hl hlp hr hll hoAB hla hlb hf
  go_enter Try.func58, Try.ntmps58
  go_upto_region 1 with fail
  rw [← hw0]
  clear hw0
  go_wp2_with fail
  refine HPL.out.mono ?_
  rintro e w1 ⟨vl, rfl, ol, bb1⟩
  obtain ⟨q, cap, rfl⟩ := own_slice ol HLP.out
  obtain ⟨adl, capl, e1, hlc, hiv, _⟩ := ol.view
  simp only [Value.slice.injEq, true_and] at e1
  obtain ⟨rfl, rfl⟩ := e1
  have HIV := Lib.hid hiv
  have B1' : Hid (Below w0.heap.size w0 w1) := Lib.hid (((Below.refl _ w0).alloc (Nat.le_refl _) _).trans (bb1.mono (by simp)))
  have B1 : Hid (Below w.heap.size w w1) := Lib.hid (BW0.out.trans (B1'.out.mono BW0.out.size))
  have hw1s : w.heap.size < w1.heap.size := by have := B1'.out.size; have := HS0.out; omega
  have T0 : Hid (∀ j u, ([.bool b0, .bool b1, .bool b2, .bool b3] : List Value)[j]? = some u → w1.cell? ⟨w.heap.size, j, none⟩ = some u) := Lib.hid (fun j u hj => (B1'.out.cell (p := ⟨w.heap.size, _, none⟩) (show w.heap.size < w0.heap.size by have := HS0.out; omega)).trans (CT.out j u hj))
  obtain ⟨N, hN⟩ : ∃ N, N = l.length := ⟨_, rfl⟩
  have HN := Lib.hid hN
  rw [← hN]
  have hNi : (N : Int) ≤ 1025 := by have := HLL.out; omega
  have hNn : N ≤ 1025 := by have := HLL.out; omega
  obtain ⟨C, hC⟩ : ∃ C, C = madeCells (Value.bool false).cells (N * ib.size) := ⟨_, rfl⟩
  have hmk : ∀ W : World, (Instr.makeSlice 90 (.int .i64 (N : Int)) (.int .i64 (N : Int))).run Try.prog W = .ok (.slice (some ⟨W.heap.size, 0, none⟩) N N) (W.alloc (.cells C 4)) := fun W => by
    have h := run_makeSlice (P := Try.prog) W 90 4 ib (.bool false) Try.underlying90 hib hbz0 .i64 .i64 (N : Int) (N : Int) (by omega) (Int.le_refl _) (by rw [hbz1]; simp; omega) (by rw [hbz2]; omega) (by omega)
    simpa [hC] using h
  have hCs : C.size = N * 1 := by rw [hC, hbz1]; exact size_madeCells _ _
  have HBR0 : Hid (BRow (w1.alloc (.cells C 4)) w1.heap.size N l f 0) := Lib.hid ⟨_, World.ownsRow_lit (base := w1.heap.size) (e := 4) (size := 1) w1 C N (Nat.le_refl _) (by unfold maxLen; omega) hCs, fun j hj => absurd hj (Nat.not_lt_zero j)⟩
  have B0 := Lib.hid ((Below.refl w1.heap.size w1).alloc (Nat.le_refl _) (.cells C 4))
  clear ol bb1 hlc hiv hN HPL hC hCs hNn
  go_wp2_with fail
  go_loopg [9] N (fun k v wr => ∃ i : Nat, v = .int .i64 (i : Nat) ∧ i ≤ N ∧ N - i ≤ k ∧ BRow wr w1.heap.size N l f i ∧ Below w1.heap.size w1 wr)
  case atStart => exact ⟨0, rfl, by omega, by omega, HBR0.out, B0.out⟩
  case round =>
    obtain ⟨i, rfl, hiN, hkf, hbr, hb⟩ := hrel
    have HBR := Lib.hid hbr
    have HB := Lib.hid hb
    have HF := Lib.hid hkf
    by_cases hlt : i < N
    · have HLT := Lib.hid hlt
      obtain ⟨hbq, cx⟩ := (HIV.out.below hb).at_ (i := i) (by rw [← HN.out]; exact hlt)
      obtain ⟨x, hx⟩ : ∃ x, x = gI l i := ⟨_, rfl⟩
      rw [← hx, Nat.zero_add] at cx
      have HX := Lib.hid hx
      obtain ⟨⟨u0, cu⟩, fu⟩ := hbr.cell hlt
      have hlt' : (i : Int) < (N : Int) := by omega
      have hi0 : (0 : Int) ≤ (i : Int) := by omega
      have hbig : (i : Int) + 1 ≤ 9223372036854775807 := by omega
      have hbw : Below w.heap.size w wr := B1.out.trans (hb.mono B1.out.size)
      obtain ⟨pa, hpa⟩ : ∃ p, hs A x = p := ⟨_, rfl⟩
      obtain ⟨pb, hpb⟩ : ∃ p, hs B x = p := ⟨_, rfl⟩
      have HCA : Hid (Calls Try.prog 26 #[.slice a1 la c1, .int .i64 x] wr fun e w' => e = .returned (.bool pa) ∧ wr = w') := Lib.hid (by have h := HA0.out wr hbw x; rw [hpa] at h; exact h)
      have HCB : Hid (Calls Try.prog 26 #[.slice a2 lb c2, .int .i64 x] wr fun e w' => e = .returned (.bool pb) ∧ wr = w') := Lib.hid (by have h := HB0.out wr hbw x; rw [hpb] at h; exact h)
      have HT : Hid (∀ j u, ([.bool b0, .bool b1, .bool b2, .bool b3] : List Value)[j]? = some u → wr.cell? ⟨w.heap.size, j, none⟩ = some u) := Lib.hid (fun j u hj => (hb.cell (p := ⟨w.heap.size, _, none⟩) hw1s).trans (T0.out j u hj))
      have HVAL : Hid (f (gI l i) = tbl A B b0 b1 b2 b3 x) := Lib.hid (by rw [hx, HFF.out])
      have HPA := Lib.hid hpa
      have HPB := Lib.hid hpb
      clear hiN hkf hbr hb hbq hx hlt hbw hpa hpb
      cases pa <;> cases pb
      · have ctk : wr.cell? ⟨w.heap.size, 0, none⟩ = some (.bool b0) := HT.out 0 _ rfl
        have HPUT := Lib.hid (HBR.out.put HLT.out (b := b0) (by rw [HVAL.out]; unfold tbl; rw [HPA.out, HPB.out]; rfl))
        go_wp2_with fail
        refine HCA.out.mono ?_
        rintro e w7 ⟨rfl, rfl⟩
        go_wp2_with fail
        refine HCB.out.mono ?_
        rintro e w8 ⟨rfl, rfl⟩
        go_wp2_with fail
        go_roundg (gk - 1)
        case measure => have := HF.out; have := HLT.out; omega
        case rel => exact ⟨i + 1, by rw [show ((i + 1 : Nat) : Int) = (i : Int) + 1 by omega], by have := HLT.out; omega, by have := HF.out; omega, HPUT.out.1, HB.out.trans HPUT.out.2⟩
      · have ctk : wr.cell? ⟨w.heap.size, 2, none⟩ = some (.bool b2) := HT.out 2 _ rfl
        have HPUT := Lib.hid (HBR.out.put HLT.out (b := b2) (by rw [HVAL.out]; unfold tbl; rw [HPA.out, HPB.out]; rfl))
        go_wp2_with fail
        refine HCA.out.mono ?_
        rintro e w7 ⟨rfl, rfl⟩
        go_wp2_with fail
        refine HCB.out.mono ?_
        rintro e w8 ⟨rfl, rfl⟩
        go_wp2_with fail
        go_roundg (gk - 1)
        case measure => have := HF.out; have := HLT.out; omega
        case rel => exact ⟨i + 1, by rw [show ((i + 1 : Nat) : Int) = (i : Int) + 1 by omega], by have := HLT.out; omega, by have := HF.out; omega, HPUT.out.1, HB.out.trans HPUT.out.2⟩
      · have ctk : wr.cell? ⟨w.heap.size, 1, none⟩ = some (.bool b1) := HT.out 1 _ rfl
        have HPUT := Lib.hid (HBR.out.put HLT.out (b := b1) (by rw [HVAL.out]; unfold tbl; rw [HPA.out, HPB.out]; rfl))
        go_wp2_with fail
        refine HCA.out.mono ?_
        rintro e w7 ⟨rfl, rfl⟩
        go_wp2_with fail
        refine HCB.out.mono ?_
        rintro e w8 ⟨rfl, rfl⟩
        go_wp2_with fail
        go_roundg (gk - 1)
        case measure => have := HF.out; have := HLT.out; omega
        case rel => exact ⟨i + 1, by rw [show ((i + 1 : Nat) : Int) = (i : Int) + 1 by omega], by have := HLT.out; omega, by have := HF.out; omega, HPUT.out.1, HB.out.trans HPUT.out.2⟩
      · have ctk : wr.cell? ⟨w.heap.size, 3, none⟩ = some (.bool b3) := HT.out 3 _ rfl
        have HPUT := Lib.hid (HBR.out.put HLT.out (b := b3) (by rw [HVAL.out]; unfold tbl; rw [HPA.out, HPB.out]; rfl))
        go_wp2_with fail
        refine HCA.out.mono ?_
        rintro e w7 ⟨rfl, rfl⟩
        go_wp2_with fail
        refine HCB.out.mono ?_
        rintro e w8 ⟨rfl, rfl⟩
        go_wp2_with fail
        go_roundg (gk - 1)
        case measure => have := HF.out; have := HLT.out; omega
        case rel => exact ⟨i + 1, by rw [show ((i + 1 : Nat) : Int) = (i : Int) + 1 by omega], by have := HLT.out; omega, by have := HF.out; omega, HPUT.out.1, HB.out.trans HPUT.out.2⟩
    · have e9 : i = N := by omega
      subst e9
      have hbv : ∀ j, j < l.length → wr.cell? ⟨w1.heap.size, 0 + j, none⟩ = some (.bool (f (gI l j))) := fun j hj => by
        obtain ⟨xs, g1, g2⟩ := HBR.out
        rw [Nat.zero_add, g1.cellAt j (by rw [HN.out]; omega)]
        exact g2 j (by rw [HN.out]; exact hj)
      have hG : w1.heap.size < wr.heap.size := by
        obtain ⟨xs, g1, _⟩ := HBR.out
        exact (g1.lt _ rfl).2
      have HSET := Lib.hid (rset_any (some ⟨q, 0, none⟩) cap w1.heap.size 0 i l f wr (HIV.out.below hb) hbv hG HP1.out HR.out (by have := HLL.out; omega))
      rw [← HN.out] at HSET
      have HOUT : Hid ((setF f [] l).reverse = madeL (A ++ B) f) := Lib.hid (by unfold madeL; rw [← HL.out])
      have HBF := Lib.hid (B1.out.trans (hb.mono B1.out.size))
      clear hiN hkf hbr hb hlt hbv hG
      go_wp2_with fail
      refine HSET.out.mono ?_
      rintro e w3 ⟨v3, rfl, o3, b3⟩
      have O3 : Hid (Own w3 w.heap.size v3 (madeL (A ++ B) f)) := Lib.hid (by rw [← HOUT.out]; exact Own.base o3 HBF.out.size)
      have B3 := Lib.hid (HBF.out.trans (b3.mono HBF.out.size))
      clear o3 b3
      go_wp2_with fail
      go_ret
      exact ⟨_, rfl, O3.out, B3.out⟩
end Go.Proofs.Ytlngdohkoeognaa
