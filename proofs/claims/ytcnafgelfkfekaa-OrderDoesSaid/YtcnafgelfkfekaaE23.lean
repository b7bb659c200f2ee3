import Derived.Test.YtcnafgelfkfekaaE22
namespace Go.Proofs.Ytcnafgelfkfekaa
open Go.RowKit

set_option maxRecDepth 10000 in
set_option maxHeartbeats 1000000 in
theorem sorted_any (a : Option Addr) (len cap : Nat) (L : List ByteArray) (w : World) (hv : SView w a len L) (hs : Short L) (hss : ∀ j, (nth L j).size ≤ maxLen) (hm : len ≤ 4000) :
    Calls Try.prog 35 #[.slice a len cap] w fun e w' => ∃ v, e = .returned v ∧ Own w.heap.size w' v (sortL L) ∧ Below w.heap.size w w' := by
  have HV := Lib.hid hv
  have HL : Hid (L.length = len) := Lib.hid hv.1
  have HS := Lib.hid hs
  have HSS := Lib.hid hss
  clear hv hs hss
  go_enter Try.func35, Try.ntmps35
  go_wp2_with fail
  go_loopg [3, 4] len (fun f out i wr => ∃ (k : Nat) (M : List ByteArray), f + k = len ∧ i = .int .i64 k ∧ Own w.heap.size wr out M ∧ chE M = 0 ∧ M.length ≤ k ∧ (∀ o, inL M o ↔ ∃ j, j < k ∧ nth L j = o) ∧ Below w.heap.size w wr)
  case atStart =>
    refine ⟨0, [], rfl, rfl, own_nil _ _, rfl, Nat.le_refl _, fun o => ⟨?_, ?_⟩, Below.refl _ _⟩
    · rintro ⟨j, hj, _⟩; exact absurd hj (Nat.not_lt_zero j)
    · rintro ⟨j, hj, _⟩; exact absurd hj (Nat.not_lt_zero j)
  case round =>
    obtain ⟨k, M, hf, rfl, ho, hc, hml, hin, hbw⟩ := hrel
    have HF := Lib.hid hf
    have HC := Lib.hid hc
    have HIN := Lib.hid hin
    have HBW := Lib.hid hbw
    have HO := Lib.hid ho
    have HML := Lib.hid hml
    clear hc hin hbw ho hml
    cases gk with
    | zero =>
      obtain rfl : k = len := by omega
      have HMS : Hid (M = sortL L) := Lib.hid (sort_uniq (by rw [HL.out]; omega) HC.out (fun o => by
        rw [HIN.out o]
        unfold inL
        rw [HL.out]))
      clear hf
      go_wp2_with fail
      go_ret
      exact ⟨_, rfl, by rw [← HMS.out]; exact HO.out, HBW.out⟩
    | succ f =>
      have hk : k < len := by omega
      have hk' : (k : Int) < (len : Int) := by omega
      obtain ⟨b, off, rfl, hbb, hcc⟩ := (HV.out.below HBW.out).2 k hk
      obtain ⟨x, hx⟩ : ∃ x, x = nth L k := ⟨_, rfl⟩
      rw [← hx] at hcc
      have HX := Lib.hid hx
      have HXS : Hid (x.size ≤ maxLen) := Lib.hid (by rw [hx]; exact HSS.out k)
      clear hx hbb hf
      obtain ⟨a2, c2, rfl, hv2, hl2, _, hn2⟩ := HO.out.holds
      obtain ⟨q, is, hat⟩ := at_some HC.out x
      have HWA := Lib.hid (with_all a2 M.length c2 q is M x wr hv2 hl2 (fun e => (hn2 e).2) (short_of HS.out (fun o h => by obtain ⟨j, _, e⟩ := (HIN.out o).1 h; exact ⟨j, e⟩)) HXS.out (by have := HML.out; omega) hat)
      have HP := Lib.hid (puts_with HC.out (by have := HML.out; omega) hat)
      obtain ⟨m, hm⟩ : ∃ m, m = M.length := ⟨_, rfl⟩
      rw [← hm] at HWA ⊢
      clear hv2 hl2 hn2 hat hm
      obtain ⟨M4, hM4⟩ : ∃ M4, M4 = withL M x q is := ⟨_, rfl⟩
      rw [← hM4] at HWA HP
      clear hM4
      go_wp2_with fail
      refine HWA.out.mono ?_
      rintro e w4 ⟨v4, rfl, ho4, b4⟩
      have B4 : Hid (Below w.heap.size w w4) := Lib.hid (HBW.out.trans (b4.mono HBW.out.size))
      have HO4 : Hid (Own w.heap.size w4 v4 M4) := Lib.hid (ho4.mono HBW.out.size)
      clear b4 ho4
      have HIN2 : Hid (∀ o, inL M4 o ↔ ∃ j, j < k + 1 ∧ nth L j = o) := Lib.hid (fun o => by
        rw [HP.out.2.2 o, HIN.out o]
        constructor
        · rintro (e | ⟨j, hj, e⟩)
          · exact ⟨k, Nat.lt_succ_self k, by rw [e, HX.out]⟩
          · exact ⟨j, by omega, e⟩
        · rintro ⟨j, hj, e⟩
          by_cases ejk : j = k
          · left; rw [← e, ejk, HX.out]
          · right; exact ⟨j, by omega, e⟩)
      have HML4 : Hid (M4.length ≤ k + 1) := Lib.hid (by have := HP.out.2.1; have := HML.out; omega)
      go_wp2_with fail
      go_roundg f
      case rel => exact ⟨k + 1, M4, by have := HF.out; omega, by go_num, HO4.out, HP.out.1, HML4.out, HIN2.out, B4.out⟩
      case measure => omega
theorem rsort_ok (a : Option Addr) (len cap : Nat) (L : List ByteArray) (w : World) (hv : SView w a len L) (hs : Short L) (hss : ∀ j, (nth L j).size ≤ maxLen) (hm : len ≤ 4000) :
    Calls Try.prog 22 #[.slice a len cap] w fun e w' => ∃ v, e = .returned (.tuple #[v, .int .i64 0]) ∧ Own w.heap.size w' v (sortL L) ∧ Below w.heap.size w w' := by
  have H := Lib.hid (sorted_any a len cap L w hv hs hss hm)
  clear hv hs hss
  go_enter Try.func22, Try.ntmps22
  go_wp2_with fail
  refine H.out.mono ?_
  rintro e w1 ⟨v, rfl, ho, b1⟩
  have HO := Lib.hid ho
  have B1 := Lib.hid b1
  clear ho b1
  go_wp2_with fail
  go_ret2
  exact ⟨_, rfl, HO.out, B1.out⟩
theorem rsort_big (a : Option Addr) (len cap : Nat) (w : World) (h : 4096 < len) (hm : len ≤ 4200) :
    Calls Try.prog 22 #[.slice a len cap] w fun e w' => ∃ v, e = .returned (.tuple #[v, .int .i64 4]) ∧ Own w.heap.size w' v [] ∧ Below w.heap.size w w' := by
  go_enter Try.func22, Try.ntmps22
  go_wp2_with fail
  go_ret2
  exact ⟨_, rfl, own_nil _ _, Below.refl _ _⟩
theorem find_bad (a : Option Addr) (len cap : Nat) (L : List ByteArray) (s : ByteArray) (w : World) (hv : SView w a len L) (hc : chE L ≠ 0) :
    Calls Try.prog 17 #[.slice a len cap, .string s] w fun e w' => e = .returned (.tuple #[.int .i64 0, .bool false]) ∧ Below w.heap.size w w' := by
  have HV := Lib.hid hv
  have hE : chE L = 8 := by rcases chE_two L with h | h; exact absurd h hc; exact h
  have HE := Lib.hid hE
  clear hv hc hE
  go_enter Try.func17, Try.ntmps17
  go_wp2_with fail
  refine (check_any _ len cap L _ HV.out).mono ?_
  rintro e w1 ⟨rfl, b1⟩
  rw [HE.out]
  have B1 := Lib.hid b1
  clear b1
  go_wp2_with fail
  go_ret2
  exact ⟨rfl, B1.out⟩
theorem drop_bad (a : Option Addr) (len cap : Nat) (L : List ByteArray) (s : ByteArray) (w : World) (hv : SView w a len L) (hc : chE L ≠ 0) :
    Calls Try.prog 10 #[.slice a len cap, .string s] w fun e w' => ∃ v, e = .returned (.tuple #[v, .int .i64 8]) ∧ Own w.heap.size w' v [] ∧ Below w.heap.size w w' := by
  have HV := Lib.hid hv
  have hE : chE L = 8 := by rcases chE_two L with h | h; exact absurd h hc; exact h
  have HE := Lib.hid hE
  clear hv hc hE
  go_enter Try.func10, Try.ntmps10
  go_wp2_with fail
  refine (check_any _ len cap L _ HV.out).mono ?_
  rintro e w1 ⟨rfl, b1⟩
  rw [HE.out]
  have B1 := Lib.hid b1
  clear b1
  go_wp2_with fail
  go_ret2
  exact ⟨_, rfl, own_nil _ _, B1.out⟩
/-- Some strings written over: nothing else has turned. -/
def Spoilt (B : Nat) (v : Value) (w w' : World) : Prop := Below B w w' ∧ w'.heap.size = w.heap.size ∧ ∀ j, v.ownBlock ≠ some j → w'.heap[j]? = w.heap[j]?
theorem Spoilt.refl (B : Nat) (v : Value) (w : World) : Spoilt B v w w := ⟨Below.refl _ _, rfl, fun _ _ => rfl⟩
theorem Spoilt.own {B C : Nat} {v u : Value} {w w' : World} {L : List ByteArray} (h : Spoilt B v w w') (ho : Own C w u L) (hd : ∀ j, v.ownBlock = some j → j < C) : Own C w' u L := by
  refine ⟨ho.1, ?_⟩
  rcases ho.2 with hn | ⟨g, cap, cur, rfl, hg, hgg, rest⟩
  · exact .inl hn
  · exact .inr ⟨g, cap, cur, rfl, hg, by rw [h.2.2 g (fun e => by have := hd g e; omega)]; exact hgg, rest⟩
theorem Spoilt.step {B g n cap k : Nat} {w wr : World} {xs : List Value} (h : Spoilt B (.slice (some ⟨g, 0, none⟩) n cap) w wr) (ho : wr.ownsRow B 9 1 (.slice (some ⟨g, 0, none⟩) n cap) n xs) (u : Value) : Spoilt B (.slice (some ⟨g, 0, none⟩) n cap) w (wr.setCell ⟨g, k, none⟩ u) := by
  have hl := World.ownsRow.lt ho g rfl
  refine ⟨h.1.grown (ho.stored k u).2 (by omega) (fun j hj => by simp only [Option.some.injEq] at hj; omega), ?_, fun j hj => ?_⟩
  · rw [← h.2.1]; simp
  · rw [← h.2.2 j hj]
    exact heap_setCell_other wr ⟨g, k, none⟩ j u (fun e => hj (by rw [e]; rfl))
set_option maxRecDepth 10000 in
theorem spoil_any (v : Value) (B : Nat) (L : List ByteArray) (w : World) (ho : Own B w v L) :
    Calls Try.prog 24 #[v] w fun e w' => e = .returned (.tuple #[]) ∧ Spoilt B v w w' := by
  obtain ⟨n, hn⟩ : ∃ n, L.length = n := ⟨_, rfl⟩
  rcases ho.2 with ⟨rfl, h0⟩ | ⟨g, cap, cur, rfl, hg, hgg, hnc, hcm, _⟩
  · clear ho
    go_enter Try.func24, Try.ntmps24
    go_wp2_with fail
    refine wp_loop_rounds 1 ?_
    rw [rounds_succ]
    go_wp2_with fail
    go_end0
    exact ⟨rfl, Spoilt.refl _ _ _⟩
  · unfold Own at ho
    rw [hn] at ho hnc ⊢
    have HO := Lib.hid ho
    have HG := Lib.hid hg
    have hnm : n ≤ 9223372036854775807 := by unfold maxLen at hcm; omega
    clear ho hgg hcm hg hn
    go_enter Try.func24, Try.ntmps24
    go_wp2_with fail
    go_loopg [2] n (fun f i wr => ∃ (k : Nat) (xs : List Value), f + k = n ∧ i = .int .i64 k ∧ wr.ownsRow B 9 1 (.slice (some ⟨g, 0, none⟩) n cap) n xs ∧ Spoilt B (.slice (some ⟨g, 0, none⟩) n cap) w wr)
    case atStart => exact ⟨0, _, rfl, rfl, HO.out, Spoilt.refl _ _ _⟩
    case round =>
      obtain ⟨k, xs, hf, rfl, ho, hsp⟩ := hrel
      have HF := Lib.hid hf
      cases gk with
      | zero =>
        obtain rfl : k = n := by omega
        have HSP := Lib.hid hsp
        clear ho hsp hf
        go_wp2_with fail
        go_end0
        exact ⟨rfl, HSP.out⟩
      | succ f =>
        have hk : k < n := by omega
        have hk' : (k : Int) < (n : Int) := by omega
        have hcell := ho.cellAt k (by omega)
        have hfz := ho.frozenAt k
        have hxl : k < xs.length := by have := ho.1; omega
        rw [List.getElem?_eq_getElem hxl] at hcell
        obtain ⟨u, hu⟩ : ∃ u, u = xs[k] := ⟨_, rfl⟩
        rw [← hu] at hcell
        have HST := Lib.hid (fun z => ho.stored k z)
        have HSP := Lib.hid (fun z => hsp.step (k := k) ho z)
        clear ho hsp hf hu hxl
        go_wp2_with fail
        go_roundg f
        case rel =>
          refine ⟨k + 1, _, by have := HF.out; omega, by go_num, (HST.out _).1, HSP.out _⟩
        case measure => omega
end Go.Proofs.Ytcnafgelfkfekaa
