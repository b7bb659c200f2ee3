import Derived.Test.YtcnafgelfkfekaaE14
import Derived.Deep.LoopGhost
namespace Go.Proofs.Ytcnafgelfkfekaa
open Go.RowKit

theorem info45 : (Try.prog.info? 45).map (fun i => (i.zero, i.size, i.bytes)) = some (some (.string ⟨#[]⟩), 1, 16) := by kernel_rfl
theorem take_nth (L : List ByteArray) (k : Nat) (h : k < L.length) : (L.take (k + 1)).map Value.string = (L.take k).map Value.string ++ [.string (nth L k)] := by
  rw [List.take_succ_eq_append_getElem h, List.map_append]
  unfold nth
  simp [List.getD, List.getElem?_eq_getElem h]
theorem str_news (w : World) (s : ByteArray) (t : TypeId) : ∀ j u, ([Value.string s] : List Value)[j]? = some u → (w.alloc (.cells #[.string s] t)).cell? ((⟨w.heap.size, 0, none⟩ : Addr).add j) = some u := by
  intro j u hj
  simp only [Addr.add_lit, Nat.zero_add, World.cell?, heap_alloc_new]
  simpa using hj
set_option maxRecDepth 10000 in
set_option maxHeartbeats 4000000 in
theorem sort_ok9 (a : Option Addr) (len cap : Nat) (L : List ByteArray) (w : World) (hv : SView w a len L) (hlen : len ≤ 4096) :
    Calls Try.prog 9 #[.slice a len cap] w fun e w' => ∃ v, e = .returned (.tuple #[v, .int .i64 0]) ∧ Holds w' v (sortL L) ∧ Below w.heap.size w w' := by
  obtain ⟨i0, hi, hz0, hz1, hz2⟩ := info_parts info45
  obtain ⟨j0, hj, hy0, hy1, hy2⟩ := info_parts info9
  have HV := Lib.hid hv
  have HL : Hid (L.length = len) := Lib.hid hv.1
  have hb16 : i0.bytes * len ≤ 281474976710656 := by rw [hz2]; omega
  clear hv
  go_enter Try.func9, Try.ntmps9
  go_wp2_with (at_make; refine wpList_make_own _ rfl _ _ 44 rfl w.heap.size 45 i0 (.string ⟨#[]⟩) 1 Try.underlying44 hi hz0 hz1 .i64 .i64 len len rfl rfl rfl hb16 (by unfold maxLen; omega) (Nat.le_refl _) ?_; intro w1 ho1 hg1)
  have HB1 : Hid (Below w.heap.size w w1) := Lib.hid ((Below.refl _ w).grown hg1 (Nat.le_refl _) (fun k hk => by cases hk))
  have HO1 := Lib.hid ho1
  clear ho1 hg1 hb16
  go_loopg [4, 18] len (fun f s i wr => ∃ k : Nat, f + k = len ∧ i = .int .i64 k ∧ wr.ownsRow w.heap.size 45 1 s k ((L.take k).map Value.string) ∧ s ≠ .slice none 0 0 ∧ Below w.heap.size w wr)
  case atStart => exact ⟨0, rfl, rfl, HO1.out, by simp, HB1.out⟩
  case round =>
    obtain ⟨k, hf, rfl, ho, hnn, hbw⟩ := hrel
    have HF := Lib.hid hf
    have HO := Lib.hid ho
    have HNN := Lib.hid hnn
    have HBW := Lib.hid hbw
    clear ho hnn hbw
    cases gk with
    | zero =>
      obtain rfl : k = len := by omega
      clear hf
      rcases HO.out.2 with ⟨rfl, _⟩ | ⟨g, cap2, cur, rfl, hg0, hgg, _⟩
      · exact absurd rfl HNN.out
      have HS := Lib.hid (fun h5 => sort26 g cap2 k L w.heap.size wr (by have := HO.out; rw [List.take_of_length_le (by rw [HL.out]; exact Nat.le_refl _)] at this; exact this) h5 (Array.getElem?_eq_some_iff.1 hgg).1)
      have HG0 := Lib.hid hg0
      clear hg0 hgg
      go_wp2_with fail
      refine (HS.out (by omega)).mono ?_
      rintro e w2 ⟨rfl, hsv, b2⟩
      have HB2 : Hid (Below w.heap.size w w2) := Lib.hid (HBW.out.trans (b2.mono HG0.out))
      obtain ⟨S, hS⟩ : ∃ S, S = srt L := ⟨_, rfl⟩
      rw [← hS] at hsv
      have HSV := Lib.hid hsv
      have HSS := Lib.hid hS
      have HSL : Hid (S.length = k) := Lib.hid hsv.1
      clear b2 hsv hS
      go_wp2_with fail
      go_loopg [7, 31] k (fun f out i wr => ∃ j : Nat, f + j = k ∧ i = .int .i64 j ∧ wr.ownsRow w2.heap.size 9 1 out (ddk S j).length ((ddk S j).map Value.string) ∧ Below w2.heap.size w2 wr)
      case atStart => exact ⟨0, rfl, rfl, World.ownsRow_nil _ _ _ _, Below.refl _ _⟩
      case round =>
        obtain ⟨j, hf, rfl, ho, hbw⟩ := hrel
        have HF := Lib.hid hf
        have HQ := Lib.hid ho
        have HBQ := Lib.hid hbw
        clear ho hbw
        cases gk with
        | zero =>
          obtain rfl : j = k := by omega
          have HFIN : Hid (ddk S j = sortL L) := Lib.hid (by unfold sortL; rw [← HSS.out, HSL.out])
          clear hf
          go_wp2_with fail
          go_ret2
          exact ⟨_, rfl, holds_of_own (by rw [← HFIN.out]; exact HQ.out), HB2.out.trans (HBQ.out.mono HB2.out.size)⟩
        | succ f =>
          have hk : j < k := by omega
          have hk' : (j : Int) < (k : Int) := by omega
          obtain ⟨b, off, e0, hb, hc⟩ := (HSV.out.below HBQ.out).2 j hk
          simp only [Option.some.injEq, Addr.mk.injEq, and_true] at e0
          obtain ⟨rfl, rfl⟩ := e0
          rw [Nat.zero_add] at hc
          have HM : Hid ((ddk S j).length ≤ 4096) := Lib.hid (by have := ddk_len S j; omega)
          have HD : Hid (ddk S (j + 1) = if j = 0 ∨ nth S j ≠ nth S (j - 1) then ddk S j ++ [nth S j] else ddk S j) := Lib.hid rfl
          by_cases j0' : j = 0
          · subst j0'
            obtain ⟨x, hx⟩ : ∃ x, x = nth S 0 := ⟨_, rfl⟩
            rw [← hx] at hc HD
            have HD2 : Hid (ddk S (0 + 1) = ddk S 0 ++ [x]) := Lib.hid (by rw [HD.out, if_pos (.inl rfl)])
            clear hx hb hf HD
            go_wp2_with (at_builtin; refine wpList_append_own _ rfl _ _ 22 rfl w2.heap.size 9 j0 (.string ⟨#[]⟩) 1 16 Try.underlying22 hj hy0 hy1 hy2 rfl (by decide) _ _ _ rfl (HQ.out.alloc _) ⟨wr.heap.size, 0, none⟩ 1 1 [.string x] rfl rfl (str_news _ _ _) (by intro u hu; simp at hu; subst hu; rfl) (by have := HM.out; unfold maxLen; omega) (by have := HM.out; omega) (by have := HBQ.out.size; simp; omega) ?_; intro v3 w3 ho3 hg3 _; have HB3 : Hid (Below w2.heap.size w2 w3) := Lib.hid ((HBQ.out.alloc HBQ.out.size _).grown hg3 (by have := HBQ.out.size; simp; omega) (fun q hq => (HQ.out.lt q hq).1)); have HO3 := Lib.hid ho3; clear ho3 hg3)
            go_roundg f
            case rel => exact ⟨0 + 1, by have := HF.out; omega, by go_num, by rw [HD2.out, List.length_append, List.map_append]; exact HO3.out, HB3.out⟩
            case measure => omega
          · obtain ⟨q, rfl⟩ : ∃ q, j = q + 1 := ⟨j - 1, by omega⟩
            obtain ⟨b', off', e0', hb', hc'⟩ := (HSV.out.below HBQ.out).2 q (by omega)
            simp only [Option.some.injEq, Addr.mk.injEq, and_true] at e0'
            obtain ⟨rfl, rfl⟩ := e0'
            rw [Nat.zero_add] at hc'
            obtain ⟨x, hx⟩ : ∃ x, x = nth S (q + 1) := ⟨_, rfl⟩
            obtain ⟨y, hy⟩ : ∃ y, y = nth S q := ⟨_, rfl⟩
            rw [Nat.add_sub_cancel] at HD
            rw [← hx] at hc HD
            rw [← hy] at hc' HD
            have hq : (q : Int) < (k : Int) := by omega
            have hse := str_eq x y
            clear hx hy hb hb' hf j0'
            by_cases hxy : x = y
            · have HD2 : Hid (ddk S (q + 1 + 1) = ddk S (q + 1)) := Lib.hid (by rw [HD.out, if_neg (by intro h; rcases h with h | h; exact Nat.succ_ne_zero q h; exact h hxy)])
              have g1 : (x.toList == y.toList) = true := by rw [hse]; simpa using hxy
              have g2 : (x.toList != y.toList) = false := by simp [bne, g1]
              clear hse HD
              subst hxy
              go_wp2_with fail
              go_roundg f
              case rel => exact ⟨q + 1 + 1, by have := HF.out; omega, by go_num, by rw [HD2.out]; exact HQ.out, HBQ.out⟩
              case measure => omega
            · have HD2 : Hid (ddk S (q + 1 + 1) = ddk S (q + 1) ++ [x]) := Lib.hid (by rw [HD.out, if_pos (.inr hxy)])
              have g1 : (x.toList == y.toList) = false := by rw [hse]; simpa using hxy
              have g2 : (x.toList != y.toList) = true := by simp [bne, g1]
              clear hse HD hxy
              go_wp2_with (at_builtin; refine wpList_append_own _ rfl _ _ 22 rfl w2.heap.size 9 j0 (.string ⟨#[]⟩) 1 16 Try.underlying22 hj hy0 hy1 hy2 rfl (by decide) _ _ _ rfl (HQ.out.alloc _) ⟨wr.heap.size, 0, none⟩ 1 1 [.string x] rfl rfl (str_news _ _ _) (by intro u hu; simp at hu; subst hu; rfl) (by have := HM.out; unfold maxLen; omega) (by have := HM.out; omega) (by have := HBQ.out.size; simp; omega) ?_; intro v3 w3 ho3 hg3 _; have HB3 : Hid (Below w2.heap.size w2 w3) := Lib.hid ((HBQ.out.alloc HBQ.out.size _).grown hg3 (by have := HBQ.out.size; simp; omega) (fun q hq => (HQ.out.lt q hq).1)); have HO3 := Lib.hid ho3; clear ho3 hg3)
              go_roundg f
              case rel => exact ⟨q + 1 + 1, by have := HF.out; omega, by go_num, by rw [HD2.out, List.length_append, List.map_append]; exact HO3.out, HB3.out⟩
              case measure => omega
    | succ f =>
      have hk : k < len := by omega
      have hk' : (k : Int) < (len : Int) := by omega
      obtain ⟨b, off, rfl, hb, hc⟩ := (HV.out.below (by exact (show Below w.heap.size w wr from HBW.out))).2 k hk
      have HT := Lib.hid (take_nth L k (by rw [HL.out]; exact hk))
      obtain ⟨x, hx⟩ : ∃ x, x = nth L k := ⟨_, rfl⟩
      rw [← hx] at hc HT
      clear hx hb hf
      go_wp2_with (at_builtin; refine wpList_append_own _ rfl _ _ 44 rfl w.heap.size 45 i0 (.string ⟨#[]⟩) 1 16 Try.underlying44 hi hz0 hz1 hz2 rfl (by decide) _ _ _ rfl (HO.out.alloc _) ⟨wr.heap.size, 0, none⟩ 1 1 [.string x] rfl rfl (str_news _ _ _) (by intro u hu; simp at hu; subst hu; rfl) (by unfold maxLen; omega) (by omega) (by have := HBW.out.size; simp; omega) ?_; intro v3 w3 ho3 hg3 hn3; have HB3 : Hid (Below w.heap.size w w3) := Lib.hid ((HBW.out.alloc HBW.out.size _).grown hg3 (by have := HBW.out.size; simp; omega) (fun q hq => (HO.out.lt q hq).1)); have HO3 := Lib.hid ho3; have HN3 : Hid (v3 ≠ .slice none 0 0) := Lib.hid (fun e => by have := (hn3.1 e).2; omega); clear ho3 hg3 hn3)
      go_roundg f
      case rel => exact ⟨k + 1, by have := HF.out; omega, by go_num, by rw [HT.out]; exact HO3.out, HN3.out, HB3.out⟩
      case measure => omega
end Go.Proofs.Ytcnafgelfkfekaa
