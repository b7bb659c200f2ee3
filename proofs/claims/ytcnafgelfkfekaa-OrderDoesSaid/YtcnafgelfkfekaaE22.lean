import Derived.Test.YtcnafgelfkfekaaE21
namespace Go.Proofs.Ytcnafgelfkfekaa
open Go.RowKit

theorem short_nil : Short [] := fun j => by rw [show nth [] j = ⟨#[]⟩ by simp [nth], show (⟨#[]⟩ : ByteArray).size = 0 from rfl]; omega
theorem short_of {L M : List ByteArray} (hs : Short L) (h : ∀ o, inL M o → ∃ j, nth L j = o) : Short M := by
  intro j
  by_cases hj : j < M.length
  · obtain ⟨i, hi⟩ := h _ ⟨j, hj, rfl⟩
    rw [← hi]; exact hs i
  · rw [show nth M j = ⟨#[]⟩ by unfold nth; rw [List.getD, List.getElem?_eq_none (by omega)]; rfl, show (⟨#[]⟩ : ByteArray).size = 0 from rfl]; omega
set_option maxRecDepth 10000 in
set_option maxHeartbeats 1000000 in
theorem with_zero (a : Option Addr) (cap : Nat) (s : ByteArray) (w : World) (hss : s.size ≤ maxLen) (hnil : a = none → cap = 0) :
    Calls Try.prog 34 #[.slice a 0 cap, .string s] w fun e w' => ∃ v, e = .returned v ∧ Own w.heap.size w' v [s] ∧ Below w.heap.size w w' := by
  have hat : At [] s 0 false := ⟨Nat.le_refl _, fun j hj => by omega, fun h => by simp at h, fun _ j _ hj => by simp at hj⟩
  have hv : ∀ w' : World, SView w' a 0 [] := fun w' => ⟨rfl, fun k hk => by omega⟩
  have HV := Lib.hid hv
  have HB := Lib.hid (fun W => before_any a 0 cap 0 false [] s W (hv W) short_nil hss (by unfold maxLen; omega) hat)
  have HH := Lib.hid (fun W => has_any a 0 cap 0 false [] s W (hv W) short_nil hss (by unfold maxLen; omega) hat)
  clear hat hv hss
  cases a with
  | none =>
    obtain rfl := hnil rfl
    go_enter Try.func34, Try.ntmps34
    go_wp2_with fail
    refine (HB.out _).mono ?_
    rintro e w1 ⟨rfl, b1⟩
    have B1 := Lib.hid b1
    clear b1
    go_upto_region 5 with (first
      | (at_builtin; refine wpList_append_sv (B := w.heap.size) (K := []) (M := []) rfl (.tmp 10) (.tmp 13) rfl rfl (World.ownsRow_nil _ _ _ _) rfl (HV.out _) (fun _ => ⟨rfl, rfl⟩) (by omega) (by simp) B1.out.size ?_; intro v2 w2 ho2 hg2; have HO2 := Lib.hid (show w2.ownsRow w.heap.size 9 1 v2 ([] : List ByteArray).length (([] : List ByteArray).map Value.string) from ho2); have B2 : Hid (Below w.heap.size w w2) := Lib.hid (B1.out.grown hg2 B1.out.size (fun k hk => ((World.ownsRow_nil w1 w.heap.size 9 1).lt k hk).1)); clear ho2 hg2)
      | (at_builtin; refine wpList_append_sv (B := w.heap.size) (K := []) (M := [s]) rfl (.tmp 15) (.tmp 17) rfl rfl (HO2.out.alloc _) rfl (one_view (by simp) (by simp)) (fun e => by cases e) (by omega) (by simp) (by have := B2.out.size; simp; omega) ?_; intro v3 w3 ho3 hg3; have HO3 := Lib.hid (show Own w.heap.size w3 v3 [s] from ho3); have B3 : Hid (Below w.heap.size w w3) := Lib.hid ((B2.out.alloc B2.out.size _).grown hg3 (by have := B2.out.size; simp; omega) (fun k hk => (HO2.out.lt k hk).1)); clear ho3 hg3))
    go_wp2_with fail
    refine (HH.out _).mono ?_
    rintro e w4 ⟨rfl, b4⟩
    have B4 : Hid (Below w.heap.size w w4) := Lib.hid (B3.out.trans (b4.mono B3.out.size))
    have HO4 := Lib.hid (HO3.out.below b4)
    clear b4
    go_wp2_with (at_builtin; refine wpList_append_sv (B := w.heap.size) (K := [s]) (M := []) rfl (.tmp 24) (.tmp 27) rfl rfl HO4.out rfl (HV.out _) (fun _ => ⟨rfl, rfl⟩) (by omega) (by simp) B4.out.size ?_; intro v5 w5 ho5 hg5; have HO5 := Lib.hid (show Own w.heap.size w5 v5 [s] from ho5); have B5 : Hid (Below w.heap.size w w5) := Lib.hid (B4.out.grown hg5 B4.out.size (fun k hk => (World.ownsRow.lt HO4.out k hk).1)); clear ho5 hg5)
    go_ret
    exact ⟨_, rfl, HO5.out, B5.out⟩
  | some ad =>
    go_enter Try.func34, Try.ntmps34
    go_wp2_with fail
    refine (HB.out _).mono ?_
    rintro e w1 ⟨rfl, b1⟩
    have B1 := Lib.hid b1
    clear b1
    go_upto_region 5 with (first
      | (at_builtin; refine wpList_append_sv (B := w.heap.size) (K := []) (M := []) rfl (.tmp 10) (.tmp 13) rfl rfl (World.ownsRow_nil _ _ _ _) rfl (HV.out _) (fun e => by cases e) (by omega) (by simp) B1.out.size ?_; intro v2 w2 ho2 hg2; have HO2 := Lib.hid (show w2.ownsRow w.heap.size 9 1 v2 ([] : List ByteArray).length (([] : List ByteArray).map Value.string) from ho2); have B2 : Hid (Below w.heap.size w w2) := Lib.hid (B1.out.grown hg2 B1.out.size (fun k hk => ((World.ownsRow_nil w1 w.heap.size 9 1).lt k hk).1)); clear ho2 hg2)
      | (at_builtin; refine wpList_append_sv (B := w.heap.size) (K := []) (M := [s]) rfl (.tmp 15) (.tmp 17) rfl rfl (HO2.out.alloc _) rfl (one_view (by simp) (by simp)) (fun e => by cases e) (by omega) (by simp) (by have := B2.out.size; simp; omega) ?_; intro v3 w3 ho3 hg3; have HO3 := Lib.hid (show Own w.heap.size w3 v3 [s] from ho3); have B3 : Hid (Below w.heap.size w w3) := Lib.hid ((B2.out.alloc B2.out.size _).grown hg3 (by have := B2.out.size; simp; omega) (fun k hk => (HO2.out.lt k hk).1)); clear ho3 hg3))
    go_wp2_with fail
    refine (HH.out _).mono ?_
    rintro e w4 ⟨rfl, b4⟩
    have B4 : Hid (Below w.heap.size w w4) := Lib.hid (B3.out.trans (b4.mono B3.out.size))
    have HO4 := Lib.hid (HO3.out.below b4)
    clear b4
    go_wp2_with (at_builtin; refine wpList_append_sv (B := w.heap.size) (K := [s]) (M := []) rfl (.tmp 24) (.tmp 27) rfl rfl HO4.out rfl (HV.out _) (fun e => by cases e) (by omega) (by simp) B4.out.size ?_; intro v5 w5 ho5 hg5; have HO5 := Lib.hid (show Own w.heap.size w5 v5 [s] from ho5); have B5 : Hid (Below w.heap.size w w5) := Lib.hid (B4.out.grown hg5 B4.out.size (fun k hk => (World.ownsRow.lt HO4.out k hk).1)); clear ho5 hg5)
    go_ret
    exact ⟨_, rfl, HO5.out, B5.out⟩
theorem with_all (a : Option Addr) (len cap k : Nat) (is : Bool) (L : List ByteArray) (s : ByteArray) (w : World) (hv : SView w a len L) (hlc : len ≤ cap) (hn : a = none → cap = 0) (hs : Short L) (hss : s.size ≤ maxLen) (hm : len ≤ 90000) (hat : At L s k is) :
    Calls Try.prog 34 #[.slice a len cap, .string s] w fun e w' => ∃ v, e = .returned v ∧ Own w.heap.size w' v (withL L s k is) ∧ Below w.heap.size w w' := by
  by_cases h0 : len = 0
  · subst h0
    obtain rfl : L = [] := List.length_eq_zero_iff.1 hv.1
    have hk : k = 0 := by have := hat.1; simpa using this
    have hi : is = false := by
      cases is
      · rfl
      · have := (hat.2.2.1 rfl).1; simp at this
    subst hk; subst hi
    exact with_zero a cap s w hss hn
  · obtain ⟨b, off, rfl, _, _⟩ := hv.2 0 (by omega)
    exact with_some b off len cap k is L s w hv hlc hs hss hm hat
theorem withL_len (L : List ByteArray) (s : ByteArray) (k : Nat) (is : Bool) : (withL L s k is).length ≤ L.length + 1 := by
  unfold withL; simp only [List.length_append, List.length_take, List.length_drop, List.length_singleton]
  split <;> omega
theorem puts_with {L : List ByteArray} {s : ByteArray} {k : Nat} {is : Bool} (hc : chE L = 0) (hl : L.length < 4096) (h : At L s k is) : Puts L s (withL L s k is) := by
  cases is
  · rw [withL_ins]; exact puts_new hc hl h
  · rw [withL_had h]; exact puts_had hc h
set_option maxRecDepth 10000 in
theorem rput_ok (a : Option Addr) (len cap k : Nat) (is : Bool) (L : List ByteArray) (s : ByteArray) (w : World) (hv : SView w a len L) (hlc : len ≤ cap) (hn : a = none → cap = 0) (hs : Short L) (hss : s.size ≤ maxLen) (hm : len ≤ 4000) (hc : chE L = 0) (hat : At L s k is) :
    Calls Try.prog 20 #[.slice a len cap, .string s] w fun e w' => ∃ v, e = .returned (.tuple #[v, .int .i64 0]) ∧ Own w.heap.size w' v (withL L s k is) ∧ Below w.heap.size w w' := by
  have HM : Hid (∀ W, Calls Try.prog 30 #[.slice a len cap] (W : World) fun e w' => SView W a len L → (e = .returned (.bool (chE L == 0)) ∧ Below W.heap.size W w')) ∨ True := .inr trivial
  clear HM
  have HMA := Lib.hid (may_any a len cap L w hv hs (by unfold maxLen; omega))
  have HWA := Lib.hid (fun W (h : SView W a len L) => with_all a len cap k is L s W h hlc hn hs hss (by omega) hat)
  have HV := Lib.hid hv
  have HC : Hid ((chE L == 0) = true) := Lib.hid (by rw [hc]; rfl)
  have hw := withL_len L s k is
  rw [hv.1] at hw
  obtain ⟨M, hM⟩ : ∃ M, M = withL L s k is := ⟨_, rfl⟩
  rw [← hM] at HWA hw ⊢
  clear hv hs hss hc hat hM hn
  go_enter Try.func20, Try.ntmps20
  go_wp2_with fail
  refine HMA.out.mono ?_
  rintro e w1 ⟨rfl, b1⟩
  rw [HC.out]
  have B1 := Lib.hid b1
  clear b1
  go_wp2_with fail
  refine (HWA.out _ (HV.out.below B1.out)).mono ?_
  rintro e w2 ⟨v, rfl, ho, b2⟩
  have B2 : Hid (Below w.heap.size w w2) := Lib.hid (B1.out.trans (b2.mono B1.out.size))
  have HO := Lib.hid (ho.mono B1.out.size)
  obtain ⟨a2, c2, rfl, _⟩ := ho.holds
  obtain ⟨n, hn⟩ : ∃ n, M.length = n := ⟨_, rfl⟩
  rw [hn] at HO hw ⊢
  have hn2 : n ≤ 4096 := by omega
  clear ho b2 hn
  go_wp2_with fail
  go_ret2
  exact ⟨_, rfl, HO.out, B2.out⟩
theorem rput_bad (a : Option Addr) (len cap : Nat) (L : List ByteArray) (s : ByteArray) (w : World) (hv : SView w a len L) (hs : Short L) (hm : len ≤ maxLen) (hc : chE L ≠ 0) :
    Calls Try.prog 20 #[.slice a len cap, .string s] w fun e w' => ∃ v, e = .returned (.tuple #[v, .int .i64 8]) ∧ Own w.heap.size w' v [] ∧ Below w.heap.size w w' := by
  have HMA := Lib.hid (may_any a len cap L w hv hs hm)
  have HC : Hid ((chE L == 0) = false) := Lib.hid (by simpa using hc)
  clear hv hs hm hc
  go_enter Try.func20, Try.ntmps20
  go_wp2_with fail
  refine HMA.out.mono ?_
  rintro e w1 ⟨rfl, b1⟩
  rw [HC.out]
  have B1 := Lib.hid b1
  clear b1
  go_wp2_with fail
  go_ret2
  exact ⟨_, rfl, own_nil _ _, B1.out⟩
theorem rdrop_bad (a : Option Addr) (len cap : Nat) (L : List ByteArray) (s : ByteArray) (w : World) (hv : SView w a len L) (hs : Short L) (hm : len ≤ maxLen) (hc : chE L ≠ 0) :
    Calls Try.prog 21 #[.slice a len cap, .string s] w fun e w' => ∃ v, e = .returned (.tuple #[v, .int .i64 8]) ∧ Own w.heap.size w' v [] ∧ Below w.heap.size w w' := by
  have HMA := Lib.hid (may_any a len cap L w hv hs hm)
  have HC : Hid ((chE L == 0) = false) := Lib.hid (by simpa using hc)
  clear hv hs hm hc
  go_enter Try.func21, Try.ntmps21
  go_wp2_with fail
  refine HMA.out.mono ?_
  rintro e w1 ⟨rfl, b1⟩
  rw [HC.out]
  have B1 := Lib.hid b1
  clear b1
  go_wp2_with fail
  go_ret2
  exact ⟨_, rfl, own_nil _ _, B1.out⟩
theorem rdrop_none (a : Option Addr) (len cap k : Nat) (L : List ByteArray) (s : ByteArray) (w : World) (hv : SView w a len L) (hs : Short L) (hss : s.size ≤ maxLen) (hm : len ≤ maxLen) (hc : chE L = 0) (hat : At L s k false) :
    Calls Try.prog 21 #[.slice a len cap, .string s] w fun e w' => ∃ v, e = .returned (.tuple #[v, .int .i64 6]) ∧ Own w.heap.size w' v [] ∧ Below w.heap.size w w' := by
  have HMA := Lib.hid (may_any a len cap L w hv hs hm)
  have HHA := Lib.hid (fun W (h : SView W a len L) => has_any a len cap k false L s W h hs hss hm hat)
  have HV := Lib.hid hv
  have HC : Hid ((chE L == 0) = true) := Lib.hid (by rw [hc]; rfl)
  clear hv hs hss hm hc hat
  go_enter Try.func21, Try.ntmps21
  go_wp2_with fail
  refine HMA.out.mono ?_
  rintro e w1 ⟨rfl, b1⟩
  rw [HC.out]
  have B1 := Lib.hid b1
  clear b1
  go_wp2_with fail
  refine (HHA.out _ (HV.out.below B1.out)).mono ?_
  rintro e w2 ⟨rfl, b2⟩
  have B2 : Hid (Below w.heap.size w w2) := Lib.hid (B1.out.trans (b2.mono B1.out.size))
  clear b2
  go_wp2_with fail
  go_ret2
  exact ⟨_, rfl, own_nil _ _, B2.out⟩
set_option maxRecDepth 10000 in
set_option maxHeartbeats 1000000 in
theorem rdrop_ok (b off len cap k : Nat) (L : List ByteArray) (s : ByteArray) (w : World) (hv : SView w (some ⟨b, off, none⟩) len L) (hlc : len ≤ cap) (hs : Short L) (hss : s.size ≤ maxLen) (hm : len ≤ 4000) (hc : chE L = 0) (hat : At L s k true) :
    Calls Try.prog 21 #[.slice (some ⟨b, off, none⟩) len cap, .string s] w fun e w' => ∃ v, e = .returned (.tuple #[v, .int .i64 0]) ∧ Own w.heap.size w' v (del L k) ∧ Below w.heap.size w w' := by
  have hmm : len ≤ maxLen := by unfold maxLen; omega
  have hk : k < len := by rw [← hv.1]; exact (hat.2.2.1 rfl).1
  have HMA := Lib.hid (may_any _ len cap L w hv hs hmm)
  have HHA := Lib.hid (fun W (h : SView W (some ⟨b, off, none⟩) len L) => has_any _ len cap k true L s W h hs hss hmm hat)
  have HBF := Lib.hid (fun W (h : SView W (some ⟨b, off, none⟩) len L) => before_any _ len cap k true L s W h hs hss hmm hat)
  have HV := Lib.hid hv
  have HTK := Lib.hid (hv.take (Nat.le_of_lt hk))
  have HTL : Hid ((L.take k).length ≤ 90000) := Lib.hid (by simp; omega)
  have HC : Hid ((chE L == 0) = true) := Lib.hid (by rw [hc]; rfl)
  have hkc : k ≤ cap := by omega
  have hk1 : k + 1 ≤ len := by omega
  have hkc1 : k + 1 ≤ cap := by omega
  clear hv hs hss hmm hc hat
  obtain ⟨A, hA, hAk⟩ : ∃ A : Addr, (if cap = k + 1 then some (⟨b, off, none⟩ : Addr) else some ⟨b, off + (k + 1), none⟩) = some A ∧ Hid (k + 1 < len → A = ⟨b, off + (k + 1), none⟩) := by
    by_cases h : cap = k + 1
    · exact ⟨⟨b, off, none⟩, by rw [if_pos h], fun h' => by omega⟩
    · exact ⟨⟨b, off + (k + 1), none⟩, by rw [if_neg h], fun _ => rfl⟩
  go_enter Try.func21, Try.ntmps21
  go_wp2_with fail
  refine HMA.out.mono ?_
  rintro e w1 ⟨rfl, b1⟩
  rw [HC.out]
  have B1 := Lib.hid b1
  clear b1
  go_wp2_with fail
  refine (HHA.out _ (HV.out.below B1.out)).mono ?_
  rintro e w2 ⟨rfl, b2⟩
  have B2 : Hid (Below w.heap.size w w2) := Lib.hid (B1.out.trans (b2.mono B1.out.size))
  clear b2
  go_wp2_with fail
  refine (HBF.out _ (HV.out.below B2.out)).mono ?_
  rintro e w3 ⟨rfl, b3⟩
  have B3 : Hid (Below w.heap.size w w3) := Lib.hid (B2.out.trans (b3.mono B2.out.size))
  have HT3 := Lib.hid (HTK.out.below B3.out)
  clear b3
  have HK : Hid (k ≤ 100000) := Lib.hid (by omega)
  go_upto_region 8 with (at_builtin; refine wpList_append_sv (B := w.heap.size) (K := []) (M := L.take k) rfl (.tmp 18) (.tmp 21) rfl rfl (World.ownsRow_nil _ _ _ _) rfl HT3.out (fun e => by cases e) HK.out (by simp) B3.out.size ?_; intro v4 w4 ho4 hg4; have HO4 := Lib.hid (show w4.ownsRow w.heap.size 9 1 v4 (L.take k).length ((L.take k).map Value.string) from ho4); have B4 : Hid (Below w.heap.size w w4) := Lib.hid (B3.out.grown hg4 B3.out.size (fun k hk => ((World.ownsRow_nil w3 w.heap.size 9 1).lt k hk).1)); clear ho4 hg4)
  have HD := Lib.hid ((HV.out.below B4.out).drop hAk.out)
  go_wp2_with (at_builtin; refine wpList_append_sv (B := w.heap.size) (K := L.take k) (M := L.drop (k + 1)) rfl (.tmp 23) (.tmp 27) rfl rfl HO4.out rfl HD.out (fun e => by cases e) (by omega) (by have := HTL.out; omega) B4.out.size ?_; intro v5 w5 ho5 hg5; have HO5 := Lib.hid (show Own w.heap.size w5 v5 (del L k) from ho5); have B5 : Hid (Below w.heap.size w w5) := Lib.hid (B4.out.grown hg5 B4.out.size (fun k hk => (HO4.out.lt k hk).1)); clear ho5 hg5)
  go_ret2
  exact ⟨_, rfl, HO5.out, B5.out⟩
end Go.Proofs.Ytcnafgelfkfekaa
