import Derived.Test.YtcnafgelfkfekaaE24
namespace Go.Proofs.Ytcnafgelfkfekaa
open Go.RowKit

theorem does_far (a : Option Addr) (len cap : Nat) (L : List ByteArray) (s : ByteArray) (w : World) (hv : SView w a len L) (hm : len ≤ maxLen) (hs : Short L) (h1 : 100 < len) (h2 : len ≤ 4096 ∨ 4200 < len) :
    Calls Try.prog 4 #[.slice a len cap, .string s] w fun e w' => e = .returned (.bool true) ∧ Below w.heap.size w w' := by
  have H := Lib.hid (great_far a len cap L w hv hm hs h1 h2)
  clear hv hm hs h1 h2
  go_enter Try.func4, Try.ntmps4
  go_wp2_with fail
  refine H.out.mono ?_
  rintro e w1 ⟨rfl, b1⟩
  have B1 := Lib.hid b1
  clear b1
  go_wp2_with fail
  go_ret
  exact ⟨rfl, B1.out⟩
theorem none_of {a : Option Addr} {len cap : Nat} (hl : len ≤ cap) (hn : a = none → cap = 0) : a = none → len = 0 ∧ cap = 0 := fun e => by have := hn e; omega
theorem does_walk (a : Option Addr) (len cap : Nat) (ss : List ByteArray) (s : ByteArray) (w : World) (h : InStrs w a len cap ss) (hss : s.size ≤ maxLen) :
    Calls Try.prog 4 #[.slice a len cap, .string s] w fun e w' => e = .returned (.bool true) ∧ Below w.heap.size w w' := by
  obtain ⟨hv, hlc, hcm, hn, hs⟩ := in_strs h
  clear h
  generalize ss.take len = L at hv hs
  have hlm : len ≤ maxLen := by omega
  by_cases hf : 100 < len ∧ (len ≤ 4096 ∨ 4200 < len)
  · exact does_far a len cap L s w hv hlm hs hf.1 hf.2
  have hG : Good w a len cap L := ⟨hv, hlc, hcm, none_of hlc hn⟩
  have hg := great_any a len cap L w hv hlm hs
  have h14 : ∀ W a c, Good W a len c L → Checks 14 #[.slice a len c] (chE L) W := fun W a c g => check_any a len c L W g.1
  have h23 : ∀ W, Good W a len cap L → Checks 23 #[.slice a len cap] (chE L) W := fun W g => rcheck_any a len cap L W g.1 hs hlm
  have hL := hv.1
  by_cases hbig : 4096 < len
  · have hc : chE L ≠ 0 := fun e => by have := (chOk e).1; omega
    have hc8 : chE L = 8 := (chE_two L).resolve_left hc
    exact does_core a len cap L s w hG (by omega) hss hg 0 false 8 8 4 (chE L) [] [] []
      (fun W a c g => find_bad a len c L s W g.1 hc)
      (fun W g => rfind_bad a len cap L s W g.1 hs hlm hc)
      (fun W a c g => (put_bad a len c L s W g.1 hc).mono fun _ _ ⟨e, b⟩ => ⟨_, by rw [e, hc8], own_nil _ _, b⟩)
      (fun W g => rput_bad a len cap L s W g.1 hs hlm hc)
      (fun W a c g => drop_bad a len c L s W g.1 hc)
      (fun W g => rdrop_bad a len cap L s W g.1 hs hlm hc)
      (fun W a c g => (sort_big9 a len c W hbig).mono fun _ _ ⟨e, b⟩ => ⟨_, e, own_nil _ _, by subst b; exact Below.refl _ _⟩)
      (fun W g => rsort_big a len cap W hbig (by omega))
      h14 h23
  have h9 : ∀ W a c, Good W a len c L → Gives 9 #[.slice a len c] 0 (sortL L) W := fun W a c g => sort_okO a len c L W g.1 (by omega)
  have h22 : ∀ W, Good W a len cap L → Gives 22 #[.slice a len cap] 0 (sortL L) W := fun W g => rsort_ok a len cap L W g.1 hs (short_max hs) (by omega)
  by_cases hc : chE L = 0
  · obtain ⟨k, is, hat⟩ := at_some hc s
    have h17 : ∀ W a c, Good W a len c L → Finds 17 #[.slice a len c, .string s] k is W := fun W a c g => findOfD a len c k is L s W g.1 hc hat
    have h18 : ∀ W, Good W a len cap L → Finds 18 #[.slice a len cap, .string s] k is W := fun W g => rfind_ok a len cap k is L s W g.1 hs hss hlm hc hat
    have h19 : ∀ W a c, Good W a len c L → Gives 19 #[.slice a len c, .string s] 0 (withL L s k is) W := fun W a c g => put_allO a len c k is L s W g.1 g.2.1 g.2.2.1 (fun e => (g.2.2.2 e).2) (by omega) hc hat
    have h20 : ∀ W, Good W a len cap L → Gives 20 #[.slice a len cap, .string s] 0 (withL L s k is) W := fun W g => rput_ok a len cap k is L s W g.1 hlc hn hs hss (by omega) hc hat
    cases is
    · exact does_core a len cap L s w hG (by omega) hss hg k false 0 6 0 (chE L) (withL L s k false) [] (sortL L) h17 h18 h19 h20
        (fun W a c g => (drop_none a len c k L s W g.1 hc hat).mono fun _ _ ⟨e, b⟩ => ⟨_, e, own_nil _ _, b⟩)
        (fun W g => rdrop_none a len cap k L s W g.1 hs hss hlm hc hat)
        h9 h22 h14 h23
    · have hk : k < len := by rw [← hL]; exact (hat.2.2.1 rfl).1
      exact does_core a len cap L s w hG (by omega) hss hg k true 0 0 0 (chE L) (withL L s k true) (del L k) (sortL L) h17 h18 h19 h20
        (fun W a c g => by
          obtain ⟨b, off, rfl, _, _⟩ := g.1.2 0 (by omega)
          exact drop_anyO b off len c k L s W g.1 g.2.1 (by omega) hc hat)
        (fun W g => by
          obtain ⟨b, off, rfl, _, _⟩ := g.1.2 0 (by omega)
          exact rdrop_ok b off len cap k L s W g.1 hlc hs hss (by omega) hc hat)
        h9 h22 h14 h23
  · have hc8 : chE L = 8 := (chE_two L).resolve_left hc
    exact does_core a len cap L s w hG (by omega) hss hg 0 false 8 8 0 (chE L) [] [] (sortL L)
      (fun W a c g => find_bad a len c L s W g.1 hc)
      (fun W g => rfind_bad a len cap L s W g.1 hs hlm hc)
      (fun W a c g => (put_bad a len c L s W g.1 hc).mono fun _ _ ⟨e, b⟩ => ⟨_, by rw [e, hc8], own_nil _ _, b⟩)
      (fun W g => rput_bad a len cap L s W g.1 hs hlm hc)
      (fun W a c g => drop_bad a len c L s W g.1 hc)
      (fun W g => rdrop_bad a len cap L s W g.1 hs hlm hc)
      h9 h22 h14 h23
end Go.Proofs.Ytcnafgelfkfekaa
