import Derived.Test.YtfphejndbnmfeabK13
namespace Go.Proofs.Ytfphejndbnmfeab
open Go.RowKit

theorem own_up {w w' : World} {B e s n : Nat} {v : Value} {xs : List Value} (h : w.ownsRow B e s v n xs) (hb : Below w.heap.size w w') : w'.ownsRow B e s v n xs := by
  refine ⟨h.1, ?_⟩
  rcases h.2 with hn | ⟨g, cap, cur, rfl, h0, hgg, rest⟩
  · exact .inl hn
  · exact .inr ⟨g, cap, cur, rfl, h0, by rw [hb.block g (Array.getElem?_eq_some_iff.1 hgg).1]; exact hgg, rest⟩
theorem box_grown79 {w w' : World} {B n s : Nat} {v : Value} {xs : List Value} (hown : w.ownsRow B 79 s v n xs) (hg : w.grownBy w' v.ownBlock) {g : Nat} {nm : ByteArray} {a : Option Addr} {l c : Nat} (hb : Box w g nm a l c) : Box w' g nm a l c := by
  unfold Box at hb ⊢
  rw [hg.block g (Array.getElem?_eq_some_iff.1 hb).1 ?_]; exact hb
  rcases hown.2 with ⟨rfl, _⟩ | ⟨g', cap, cur, rfl, _, hgg, _⟩
  · simp [Value.ownBlock]
  · intro e
    simp only [Value.ownBlock, Option.some.injEq] at e
    subst e
    rw [hgg] at hb
    simp at hb
/-- What the tokens of a type tell here: no error, and all its wrappers are such. -/
def IsTok (L : List Int) (e : Ending) : Prop := ∃ (v : Value) (x : Int), e = .returned (.tuple #[v, .int .i64 x]) ∧ (x = 0 → ∀ y ∈ L, y = 1 ∨ y = 2)
theorem tok_news (w : World) (cs : Array Value) (t : TypeId) (L : List Value) (h : cs.toList = L) : ∀ j u, L[j]? = some u → (w.alloc (.cells cs t)).cell? ((⟨w.heap.size, 0, none⟩ : Addr).add j) = some u := by
  subst h
  intro j u hj
  simp only [Addr.add_lit, Nat.zero_add, World.cell?, heap_alloc_new]
  simpa using hj
theorem all_of {L : List Int} {n : Nat} (hl : L.length = n) (h : ∀ j, j < n → L.getD j 0 = 1 ∨ L.getD j 0 = 2) : ∀ y ∈ L, y = 1 ∨ y = 2 := by
  intro y hy
  obtain ⟨j, hj, rfl⟩ := List.getElem_of_mem hy
  have := h j (by omega)
  simpa [List.getD, List.getElem?_eq_getElem hj] using this
set_option maxRecDepth 10000 in
set_option maxHeartbeats 4000000 in
theorem tokens_any (nm : ByteArray) (a : Option Addr) (len cap : Nat) (L : List Int) (w : World) (hv : View w a len L) (hs : nm.size ≤ maxLen) (hm : len ≤ 20) :
    Calls Try.prog 22 #[refV nm a len cap] w fun e w' => IsTok L e ∧ Below w.heap.size w w' := by
  have hx : Box (w.alloc (.cells #[.string nm, .slice a len cap] 25)) w.heap.size nm a len cap := heap_alloc_new w _
  have hbl : Below w.heap.size w (w.alloc (.cells #[.string nm, .slice a len cap] 25)) := (Below.refl _ w).alloc (Nat.le_refl _) _
  have HX := Lib.hid hx
  have HBL := Lib.hid hbl
  have HV := Lib.hid hv
  have HS := Lib.hid hs
  clear hx hbl hv hs
  unfold refV
  go_enter Try.func22, Try.ntmps22
  go_wp2_with fail
  refine (lexName_any nm _ HS.out).mono ?_
  rintro e w1 ⟨b, rfl, rfl⟩
  cases b
  · go_wp2_with fail
    go_ret2
    exact ⟨⟨_, _, rfl, fun h => by cases h⟩, HBL.out⟩
  by_cases h8 : 8 < len
  · go_wp2_with fail
    go_ret2
    exact ⟨⟨_, _, rfl, fun h => by cases h⟩, HBL.out⟩
  obtain ⟨i0, hi, hz0, hz1, hz2⟩ := info79
  have hl8 : len ≤ 8 := by omega
  clear h8
  go_wp2_with fail
  go_loopg [4, 21] len (fun f out i wr => ∃ (k m : Nat) (xs : List Value), f + k = len ∧ i = .int .i64 k ∧ m ≤ k ∧ wr.ownsRow w.heap.size 79 3 out m xs ∧ (∀ j, j < k → L.getD j 0 = 1 ∨ L.getD j 0 = 2) ∧ Box wr w.heap.size nm a len cap ∧ Below w.heap.size w wr)
  case atStart => exact ⟨0, 0, [], rfl, rfl, Nat.le_refl _, World.ownsRow_nil _ _ _ _, fun j hj => absurd hj (Nat.not_lt_zero j), HX.out, HBL.out⟩
  case round =>
    obtain ⟨k, m, xs, hf, rfl, hmk, ho, hall, hxw, hbw⟩ := hrel
    have HF := Lib.hid hf
    have HO := Lib.hid ho
    have HALL := Lib.hid hall
    have HXW := Lib.hid hxw
    have HBW := Lib.hid hbw
    have c0 := hxw.c0
    have c1 := hxw.c1
    clear ho hall hxw hbw
    cases gk with
    | zero =>
      obtain rfl : k = len := by omega
      have HDONE := Lib.hid (all_of HV.out.1 HALL.out)
      clear hf
      go_wp2_with fail
      refine (litName_any _ _).mono ?_
      rintro e w2 ⟨rfl, b2⟩
      have HO2 := Lib.hid (own_up HO.out b2)
      have HB2 : Hid (Below w.heap.size w w2) := Lib.hid (HBW.out.trans (b2.mono HBW.out.size))
      have HX2 := Lib.hid (HXW.out.up b2)
      clear b2
      go_wp2_with (at_builtin; refine wpList_append_own _ rfl _ _ 41 rfl w.heap.size 79 i0 (.agg #[.int .u8 0, .string ⟨#[]⟩, .int .i64 0]) 3 32 Try.underlying41 hi hz0 hz1 hz2 rfl (by decide) _ _ _ rfl (HO2.out.alloc _) ⟨w2.heap.size, 0, none⟩ 1 1 [.int .u8 1, .string nm, .int .i64 0] rfl rfl (tok_news _ _ _ _ rfl) (by intro u hu; simp at hu; rcases hu with rfl | rfl | rfl <;> rfl) (by unfold maxLen; omega) (by omega) (by have := HB2.out.size; simp; omega) ?_; intro v3 w3 ho3 hg3 _; have HB3 : Hid (Below w.heap.size w w3) := Lib.hid ((HB2.out.alloc HB2.out.size _).grown hg3 (by have := HB2.out.size; simp; omega) (fun q hq => (HO2.out.lt q hq).1)); have HX3 := Lib.hid (box_grown79 (HO2.out.alloc _) hg3 (HX2.out.up ((Below.refl _ _).alloc (Nat.le_refl _) _))); have HO3 := Lib.hid ho3; clear ho3 hg3; have d0 := HX3.out.c0; have d1 := HX3.out.c1)
      clear d0 d1
      go_loopg [4, 7] k (fun f out i wr => ∃ (j m : Nat) (xs : List Value), f = j ∧ i = .int .i64 ((j : Int) - 1) ∧ j ≤ k ∧ m + j ≤ 20 ∧ wr.ownsRow w.heap.size 79 3 out m xs ∧ Box wr w.heap.size nm a k cap ∧ Below w.heap.size w wr)
      case atStart => exact ⟨k, _, _, rfl, rfl, Nat.le_refl _, by omega, HO3.out, HX3.out, HB3.out⟩
      case round =>
        obtain ⟨j, m, xs, hf, rfl, hjk, hmj, ho, hxw, hbw⟩ := hrel
        have HO := Lib.hid ho
        have HXW := Lib.hid hxw
        have HBW := Lib.hid hbw
        have c0 := hxw.c0
        have c1 := hxw.c1
        clear ho hxw hbw
        cases gk with
        | zero =>
          obtain rfl : j = 0 := by omega
          go_wp2_with fail
          go_ret2
          exact ⟨⟨_, _, rfl, fun _ => HDONE.out⟩, HBW.out⟩
        | succ g =>
          obtain rfl : j = g + 1 := by omega
          have hgk : g < k := by omega
          have hgk' : (g : Int) < (k : Int) := by omega
          have e1 : ((g + 1 : Nat) : Int) - 1 = (g : Int) := by omega
          rw [e1]
          obtain ⟨b, off, rfl, hb, hc⟩ := (HV.out.below HBW.out).2 g hgk
          have hr := HDONE.out (L.getD g 0) (by rw [List.getD, List.getElem?_eq_getElem (by rw [HV.out.1]; exact hgk)]; exact List.getElem_mem _)
          obtain ⟨x, hx⟩ : ∃ x, x = L.getD g 0 := ⟨_, rfl⟩
          rw [← hx] at hc hr
          clear hx hb e1 hf
          rcases hr with rfl | rfl
          · go_wp2_with fail
            refine (litMark_any _ _).mono ?_
            rintro e w2 ⟨rfl, b2⟩
            have HO2 := Lib.hid (own_up HO.out b2)
            have HB2 : Hid (Below w.heap.size w w2) := Lib.hid (HBW.out.trans (b2.mono HBW.out.size))
            have HX2 := Lib.hid (HXW.out.up b2)
            clear b2
            go_wp2_with (at_builtin; refine wpList_append_own _ rfl _ _ 41 rfl w.heap.size 79 i0 (.agg #[.int .u8 0, .string ⟨#[]⟩, .int .i64 0]) 3 32 Try.underlying41 hi hz0 hz1 hz2 rfl (by decide) _ _ _ rfl (HO2.out.alloc _) ⟨w2.heap.size, 0, none⟩ 1 1 [.int .u8 4, .string ⟨#[33]⟩, .int .i64 0] rfl rfl (tok_news _ _ _ _ rfl) (by intro u hu; simp at hu; rcases hu with rfl | rfl | rfl <;> rfl) (by unfold maxLen; omega) (by omega) (by have := HB2.out.size; simp; omega) ?_; intro v3 w3 ho3 hg3 _; have HB3 : Hid (Below w.heap.size w w3) := Lib.hid ((HB2.out.alloc HB2.out.size _).grown hg3 (by have := HB2.out.size; simp; omega) (fun q hq => (HO2.out.lt q hq).1)); have HX3 := Lib.hid (box_grown79 (HO2.out.alloc _) hg3 (HX2.out.up ((Below.refl _ _).alloc (Nat.le_refl _) _))); have HO3 := Lib.hid ho3; clear ho3 hg3; have d0 := HX3.out.c0; have d1 := HX3.out.c1)
            clear d0 d1
            go_roundg g
            case rel => exact ⟨g, _, _, rfl, rfl, by omega, by omega, HO3.out, HX3.out, HB3.out⟩
            case measure => omega
          · go_wp2_with fail
            refine (litMark_any _ _).mono ?_
            rintro e w2 ⟨rfl, b2⟩
            have HO2 := Lib.hid (own_up HO.out b2)
            have HB2 : Hid (Below w.heap.size w w2) := Lib.hid (HBW.out.trans (b2.mono HBW.out.size))
            have HX2 := Lib.hid (HXW.out.up b2)
            clear b2
            go_wp2_with (at_builtin; refine wpList_append_own _ rfl _ _ 41 rfl w.heap.size 79 i0 (.agg #[.int .u8 0, .string ⟨#[]⟩, .int .i64 0]) 3 32 Try.underlying41 hi hz0 hz1 hz2 rfl (by decide) _ _ _ rfl (HO2.out.alloc _) ⟨w2.heap.size, 0, none⟩ 1 1 [.int .u8 4, .string ⟨#[93]⟩, .int .i64 0] rfl rfl (tok_news _ _ _ _ rfl) (by intro u hu; simp at hu; rcases hu with rfl | rfl | rfl <;> rfl) (by unfold maxLen; omega) (by omega) (by have := HB2.out.size; simp; omega) ?_; intro v3 w3 ho3 hg3 _; have HB3 : Hid (Below w.heap.size w w3) := Lib.hid ((HB2.out.alloc HB2.out.size _).grown hg3 (by have := HB2.out.size; simp; omega) (fun q hq => (HO2.out.lt q hq).1)); have HX3 := Lib.hid (box_grown79 (HO2.out.alloc _) hg3 (HX2.out.up ((Below.refl _ _).alloc (Nat.le_refl _) _))); have HO3 := Lib.hid ho3; clear ho3 hg3; have d0 := HX3.out.c0; have d1 := HX3.out.c1)
            clear d0 d1
            go_roundg g
            case rel => exact ⟨g, _, _, rfl, rfl, by omega, by omega, HO3.out, HX3.out, HB3.out⟩
            case measure => omega
    | succ g =>
      have hk : k < len := by omega
      have hk' : (k : Int) < (len : Int) := by omega
      obtain ⟨b, off, rfl, hb, hc⟩ := (HV.out.below HBW.out).2 k hk
      have HALL2 : Hid (L.getD k 0 = 1 ∨ L.getD k 0 = 2 → ∀ j, j < k + 1 → L.getD j 0 = 1 ∨ L.getD j 0 = 2) := Lib.hid (fun h j hj => by
        by_cases e : j = k
        · rw [e]; exact h
        · exact HALL.out j (by omega))
      obtain ⟨x, hx⟩ : ∃ x, x = L.getD k 0 := ⟨_, rfl⟩
      rw [← hx] at hc HALL2
      clear hx hb hf
      by_cases x2 : x = 2
      · subst x2
        by_cases k0 : 0 < k
        · have g0 : (0 : Int) < (k : Int) := by omega
          go_wp2_with fail
          refine (litMark_any _ _).mono ?_
          rintro e w2 ⟨rfl, b2⟩
          have HO2 := Lib.hid (own_up HO.out b2)
          have HB2 : Hid (Below w.heap.size w w2) := Lib.hid (HBW.out.trans (b2.mono HBW.out.size))
          have HX2 := Lib.hid (HXW.out.up b2)
          clear b2
          go_wp2_with (at_builtin; refine wpList_append_own _ rfl _ _ 41 rfl w.heap.size 79 i0 (.agg #[.int .u8 0, .string ⟨#[]⟩, .int .i64 0]) 3 32 Try.underlying41 hi hz0 hz1 hz2 rfl (by decide) _ _ _ rfl (HO2.out.alloc _) ⟨w2.heap.size, 0, none⟩ 1 1 [.int .u8 4, .string ⟨#[91]⟩, .int .i64 0] rfl rfl (tok_news _ _ _ _ rfl) (by intro u hu; simp at hu; rcases hu with rfl | rfl | rfl <;> rfl) (by unfold maxLen; omega) (by omega) (by have := HB2.out.size; simp; omega) ?_; intro v3 w3 ho3 hg3 _; have HB3 : Hid (Below w.heap.size w w3) := Lib.hid ((HB2.out.alloc HB2.out.size _).grown hg3 (by have := HB2.out.size; simp; omega) (fun q hq => (HO2.out.lt q hq).1)); have HX3 := Lib.hid (box_grown79 (HO2.out.alloc _) hg3 (HX2.out.up ((Below.refl _ _).alloc (Nat.le_refl _) _))); have HO3 := Lib.hid ho3; clear ho3 hg3; have d0 := HX3.out.c0; have d1 := HX3.out.c1)
          clear d0 d1
          go_roundg g
          case rel => exact ⟨k + 1, _, _, by have := HF.out; omega, by go_num, by omega, HO3.out, HALL2.out (by simp), HX3.out, HB3.out⟩
          case measure => omega
        · obtain rfl : k = 0 := by omega
          rw [Nat.add_zero] at hc
          have g0 : (0 : Int) < (len : Int) := by omega
          go_wp2_with fail
          refine (litMark_any _ _).mono ?_
          rintro e w2 ⟨rfl, b2⟩
          have HO2 := Lib.hid (own_up HO.out b2)
          have HB2 : Hid (Below w.heap.size w w2) := Lib.hid (HBW.out.trans (b2.mono HBW.out.size))
          have HX2 := Lib.hid (HXW.out.up b2)
          clear b2
          go_wp2_with (at_builtin; refine wpList_append_own _ rfl _ _ 41 rfl w.heap.size 79 i0 (.agg #[.int .u8 0, .string ⟨#[]⟩, .int .i64 0]) 3 32 Try.underlying41 hi hz0 hz1 hz2 rfl (by decide) _ _ _ rfl (HO2.out.alloc _) ⟨w2.heap.size, 0, none⟩ 1 1 [.int .u8 4, .string ⟨#[91]⟩, .int .i64 0] rfl rfl (tok_news _ _ _ _ rfl) (by intro u hu; simp at hu; rcases hu with rfl | rfl | rfl <;> rfl) (by unfold maxLen; omega) (by omega) (by have := HB2.out.size; simp; omega) ?_; intro v3 w3 ho3 hg3 _; have HB3 : Hid (Below w.heap.size w w3) := Lib.hid ((HB2.out.alloc HB2.out.size _).grown hg3 (by have := HB2.out.size; simp; omega) (fun q hq => (HO2.out.lt q hq).1)); have HX3 := Lib.hid (box_grown79 (HO2.out.alloc _) hg3 (HX2.out.up ((Below.refl _ _).alloc (Nat.le_refl _) _))); have HO3 := Lib.hid ho3; clear ho3 hg3; have d0 := HX3.out.c0; have d1 := HX3.out.c1)
          clear d0 d1
          go_roundg g
          case rel => exact ⟨0 + 1, _, _, by have := HF.out; omega, by go_num, by omega, HO3.out, HALL2.out (by simp), HX3.out, HB3.out⟩
          case measure => omega
      · by_cases x1 : x = 1
        · subst x1
          by_cases k0 : k = 0
          · subst k0
            rw [Nat.add_zero] at hc
            have g0 : (0 : Int) < (len : Int) := by omega
            go_wp2_with fail
            go_roundg g
            case rel => exact ⟨0 + 1, m, xs, by have := HF.out; omega, by go_num, by omega, HO.out, HALL2.out (by simp), HXW.out, HBW.out⟩
            case measure => omega
          · obtain ⟨q, rfl⟩ : ∃ q, k = q + 1 := ⟨k - 1, by omega⟩
            have e1 : ((q + 1 : Nat) : Int) - 1 = (q : Int) := by omega
            obtain ⟨b', off', e', hb', hc'⟩ := (HV.out.below HBW.out).2 q (by omega)
            simp only [Option.some.injEq, Addr.mk.injEq, and_true] at e'
            obtain ⟨rfl, rfl⟩ := e'
            obtain ⟨y, hy⟩ : ∃ y, y = L.getD q 0 := ⟨_, rfl⟩
            rw [← hy] at hc'
            have hq : (q : Int) < (len : Int) := by omega
            clear hb' hy k0
            by_cases y1 : y = 1
            · subst y1
              go_wp2_with fail
              go_ret2
              exact ⟨⟨_, _, rfl, fun h => by cases h⟩, HBW.out⟩
            · have gy : (y == 1) = false := by simp [y1]
              go_wp2_with fail
              go_roundg g
              case rel => exact ⟨q + 1 + 1, m, xs, by have := HF.out; omega, by go_num, by omega, HO.out, HALL2.out (by simp), HXW.out, HBW.out⟩
              case measure => omega
        · have g1 : (x != 1) = true := by simp [x1]
          have g2 : (x != 2) = true := by simp [x2]
          clear x1 x2
          go_wp2_with fail
          go_ret2
          exact ⟨⟨_, _, rfl, fun h => by cases h⟩, HBW.out⟩
end Go.Proofs.Ytfphejndbnmfeab
