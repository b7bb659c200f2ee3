import Derived.Test.YtjcaadihkbhlhaaDoorG2
namespace Go.Proofs.YtjcaadihkbhlhaaDoor
open Go.RowKit
theorem valid_of (r : Nat) (h : r < 55296 ∨ (57344 ≤ r ∧ r ≤ 1114111)) : Lib.validRune (r : Int) = true := by
  unfold Lib.validRune
  simp
  omega
theorem irune_two (r : Nat) (h1 : 128 ≤ r) (h2 : r < 55296 ∨ (57344 ≤ r ∧ r ≤ 1114111)) (w : World) : Calls Tryd.prog 30 #[.string twoM, .int .i32 (r : Int)] w fun e w' => e = .returned (.int .i64 (-1)) ∧ Below w.heap.size w w' := by
  by_cases h : r = 65533
  · subst h; exact irune_err w
  · exact irune_wide r (by omega) (by omega) (valid_of r h2) (by omega) w
set_option maxRecDepth 20000 in
set_option maxHeartbeats 2000000 in
theorem iany_short (s : ByteArray) (w : World) (h8 : s.size ≤ 8) :
    Calls Tryd.prog 18 #[.string s, .string twoM] w fun e w' => e = .returned (.int .i64 (Lib.indexAny s.data.toList [47, 63])) ∧ Below w.heap.size w w' := by
  have h8z : decide ((8 : Int) < (s.size : Int)) = false := decide_eq_false (by omega)
  have CA := Lib.hid (fun (r : Int) (h0 : 0 ≤ r) (h1 : r < 128) W => Tryd.strings_IndexRune_ascii twoM r W h0 h1)
  have CW := Lib.hid (fun (r : Nat) (h1 : 128 ≤ r) (h2 : r < 55296 ∨ (57344 ≤ r ∧ r ≤ 1114111)) W => irune_two r h1 h2 W)
  have SU := Lib.hid (fun n W => Tryd.strings_shouldUseASCIISet n W)
  have e2 : twoM.toList.isEmpty = false := by rw [ByteArray.toList_eq]; rfl
  have e3 : ((twoM.size : Int) == 1) = false := by decide
  have HTD : Hid (twoM.data.toList = [47, 63]) := Lib.hid rfl
  obtain ⟨T, hT⟩ : ∃ T, T = twoM := ⟨_, rfl⟩
  rw [← hT] at CA CW e2 e3 HTD ⊢
  clear hT
  go_enter Tryd.func18, Tryd.ntmps18
  go_wp2_with (go_at_call 31; refine (SU.out _ _).mono ?_; rintro e w' ⟨rfl, hw⟩; rw [hw, h8z])
  go_loopg [9, 10] s.size (fun g _ _ wx => ∃ i : Nat, i + g ≥ s.size ∧ i ≤ s.size ∧ wx.heap[w.heap.size]? = some (.stringIter s i) ∧ Below w.heap.size w wx ∧ Hid (Lib.NoAny s.data.toList [47, 63] i))
  case atStart => exact ⟨0, by omega, by omega, World.iter_heap w s 0, (Below.refl _ w).alloc (Nat.le_refl _) _, Lib.hid (Lib.NoAny.zero _ _)⟩
  case round =>
    obtain ⟨i, hig, his, hit, hbw, HN⟩ := hrel
    have hsz : w.heap.size < wr.heap.size := (Array.getElem?_eq_some_iff.1 hit).1
    by_cases hi : i < s.size
    · obtain ⟨g, rfl⟩ : ∃ g, gk = g + 1 := ⟨gk - 1, by omega⟩
      have hlx := list_of s i hi
      obtain ⟨x, hx⟩ : ∃ x, x = s.get! i := ⟨_, rfl⟩
      rw [← hx] at hlx
      have hxi : s[i] = x := by rw [hx, get_of s i hi]
      by_cases hlt : x.toNat < 128
      · have hnx : ∀ ty, (Instr.next (.pointer (some ⟨w.heap.size, 0, none⟩)) true ty).run Tryd.prog wr = .ok (.tuple #[.bool true, .int .i64 i, .int .i32 (x.toNat : Int)]) (wr.iterAt w.heap.size s (i + 1)) := fun ty => by
          have := Lib.run_next_ascii_at (P := Tryd.prog) wr w.heap.size s i ty hit hi (by rw [hxi]; exact hlt)
          rw [hxi] at this; exact this
        have hit2 := Lib.iterAt_heap wr w.heap.size s i (i + 1) hit
        have hbw2 := Lib.below_iterAt hbw (k := w.heap.size) (Nat.le_refl _) s (i + 1)
        obtain ⟨w2, hw2⟩ : ∃ w2, w2 = wr.iterAt w.heap.size s (i + 1) := ⟨_, rfl⟩
        rw [← hw2] at hit2 hbw2 hnx
        clear hw2
        have Hx := Lib.hid hlx
        have HIT := Lib.hid hit2
        have HBW := Lib.hid hbw2
        have HX0 : (0 : Int) ≤ (x.toNat : Int) := by omega
        have HX1 : (x.toNat : Int) < 128 := by omega
        have hcon := Lib.contains_iff_indexByte [47, 63] x
        have hback : ((x.toNat : Int)).toNat.toUInt8 = x := by simp
        have HC : Hid (∀ W, Calls Tryd.prog 30 #[.string T, .int .i32 (x.toNat : Int)] W fun e w' => e = .returned (.int .i64 (Lib.indexByte [47, 63] x)) ∧ w' = W) := Lib.hid (fun W => by
          have := CA.out (x.toNat : Int) HX0 HX1 W
          rw [HTD.out, hback] at this; exact this)
        clear hit2 hbw2 hlx hit hbw hxi hx hback HX0 HX1
        cases hin : ([47, 63] : List UInt8).contains x
        · rw [hin] at hcon
          have hlt2 : ¬ ((0 : Int) ≤ Lib.indexByte [47, 63] x) := of_decide_eq_false hcon.symm
          have HIN := Lib.hid hin
          obtain ⟨n, hn⟩ : ∃ n, n = Lib.indexByte [47, 63] x := ⟨_, rfl⟩
          rw [← hn] at HC hlt2
          clear hcon hin hn
          go_wp2_with (go_at_call 30; refine (HC.out _).mono ?_; rintro e w' ⟨rfl, rfl⟩)
          go_roundg g
          case measure => omega
          case rel => exact ⟨i + 1, by omega, by omega, HIT.out, HBW.out, Lib.hid (HN.out.succ Hx.out HIN.out)⟩
        · rw [hin] at hcon
          have hge : (0 : Int) ≤ Lib.indexByte [47, 63] x := of_decide_eq_true hcon.symm
          have HIN := Lib.hid hin
          obtain ⟨n, hn⟩ : ∃ n, n = Lib.indexByte [47, 63] x := ⟨_, rfl⟩
          rw [← hn] at HC hge
          clear hcon hin hn
          go_wp2_with (go_at_call 30; refine (HC.out _).mono ?_; rintro e w' ⟨rfl, rfl⟩)
          go_ret
          exact ⟨by rw [Lib.indexAny_hit HN.out Hx.out HIN.out]; rfl, HBW.out⟩
      · have h128 : 128 ≤ (s.get! i).toNat := by rw [← hx]; omega
        have hr := dec_range s i h128
        have hw := dec_width s i hi
        have HN2 := Lib.hid (noany_dec s i hi h128 HN.out)
        have hnx : ∀ ty, (Instr.next (.pointer (some ⟨w.heap.size, 0, none⟩)) true ty).run Tryd.prog wr = .ok (.tuple #[.bool true, .int .i64 i, .int .i32 (Utf8.decode s i).1]) (wr.iterAt w.heap.size s (i + (Utf8.decode s i).2)) := fun ty => Lib.run_next_any_at (P := Tryd.prog) wr w.heap.size s i ty hit hi
        have hit2 := Lib.iterAt_heap wr w.heap.size s i (i + (Utf8.decode s i).2) hit
        have hbw2 := Lib.below_iterAt hbw (k := w.heap.size) (Nat.le_refl _) s (i + (Utf8.decode s i).2)
        obtain ⟨w2, hw2⟩ : ∃ w2, w2 = wr.iterAt w.heap.size s (i + (Utf8.decode s i).2) := ⟨_, rfl⟩
        rw [← hw2] at hit2 hbw2 hnx
        clear hw2
        obtain ⟨r, hrr⟩ : ∃ r, r = (Utf8.decode s i).1 := ⟨_, rfl⟩
        obtain ⟨q, hq⟩ : ∃ q, q = (Utf8.decode s i).2 := ⟨_, rfl⟩
        rw [← hrr] at hr hnx
        rw [← hq] at hw HN2 hit2
        have hw1 := hw.1
        have hw2 := hw.2.1
        have HC : Hid (∀ W, Calls Tryd.prog 30 #[.string T, .int .i32 (r : Int)] W fun e w' => e = .returned (.int .i64 (-1)) ∧ Below W.heap.size W w') := Lib.hid (fun W => CW.out r hr.1 hr.2 W)
        have hsz2 : w.heap.size < w2.heap.size := (Array.getElem?_eq_some_iff.1 hit2).1
        have HIT := Lib.hid hit2
        have HBW := Lib.hid hbw2
        clear hit2 hbw2 hlx hit hbw hxi hx h128 hr hw hrr hq
        go_wp2_with (go_at_call 30; refine (HC.out _).mono ?_; rintro e w' ⟨rfl, bb⟩; have HBB := Lib.hid bb; clear bb)
        go_roundg g
        case measure => omega
        case rel => exact ⟨i + q, by omega, by omega, (HBB.out.block _ hsz2).trans HIT.out, HBW.out.trans (HBB.out.mono (Nat.le_of_lt hsz2)), HN2⟩
    · obtain rfl : i = s.size := by omega
      have hnx : ∀ ty, (Instr.next (.pointer (some ⟨w.heap.size, 0, none⟩)) true ty).run Tryd.prog wr = .ok (.tuple #[.bool false]) wr := fun ty => Lib.run_next_end_at (P := Tryd.prog) wr w.heap.size s s.size ty hit hi
      have HBW := Lib.hid hbw
      clear hit hbw
      go_wp2_with fail
      go_ret
      exact ⟨by rw [Lib.indexAny_none (by rw [← Lib.size_eq]; exact HN.out)]; rfl, HBW.out⟩
set_option maxRecDepth 100000 in
theorem iany_two (s : ByteArray) (w : World) (hs : s.size < 4294967281) :
    Calls Tryd.prog 18 #[.string s, .string twoM] w fun e w' => e = .returned (.int .i64 (Lib.indexAny s.data.toList [47, 63])) ∧ Below w.heap.size w w' := by
  by_cases h8 : s.size ≤ 8
  · exact iany_short s w h8
  · refine (Tryd.strings_IndexAny_long (fun w => Tryd.zeroValue53 w) s twoM w (by decide) (by omega) hs (by decide) (fun j b hj => by
        have : twoM.data.toList = [47, 63] := rfl
        rw [this] at hj
        have hm := List.mem_of_getElem? hj
        simp at hm
        rcases hm with rfl | rfl <;> decide)).mono ?_
    rintro e w' ⟨rfl, rfl⟩
    exact ⟨rfl, ((Below.refl _ w).alloc (Nat.le_refl _) _).alloc (by simp) _⟩
end Go.Proofs.YtjcaadihkbhlhaaDoor
