/- Layer 3: the document's Behind. -/
import Derived.Test.YtfmgkndljppffaaR3
namespace Go.Proofs.Ytfmgkndljppffaa
open Go.RowKit Go.Maps
theorem str_ne {x y : ByteArray} (h : x ≠ y) : (x.toList == y.toList) = false := by rw [str_eq]; simpa using h
theorem str_yes {x y : ByteArray} (h : x = y) : (x.toList == y.toList) = true := by rw [str_eq]; simpa using h
set_option maxRecDepth 20000 in
theorem ramong_any (a : Option Addr) (n cap : Nat) (s : Nat → ByteArray) (x : ByteArray) (w : World) (hv : NV w a n s) (hn : n ≤ 1000000) : Calls Try.prog 61 #[.slice a n cap, .string x] w fun e w' => e = .returned (.bool ((List.range n).any fun i => decide (s i = x))) ∧ w' = w := by
  obtain ⟨r, hr⟩ : ∃ r, r = ((List.range n).any fun i => decide (s i = x)) := ⟨_, rfl⟩
  rw [← hr]
  have HR := Lib.hid hr
  have HV := Lib.hid hv
  have hn0 : (n : Int) ≤ 1000000 := by omega
  clear hr hv
  go_enter Try.func61, Try.ntmps61
  go_wp2_with fail
  go_loop [5] (fun v => ∃ i : Nat, i ≤ n ∧ v = .int .i64 i ∧ Hid (∀ j, j < i → s j ≠ x)) (fun v => n - (intOf v).toNat)
  case atStart => exact ⟨0, Nat.zero_le _, rfl, Lib.hid (fun j hj => absurd hj (Nat.not_lt_zero j))⟩
  case round =>
    obtain ⟨i, hi, rfl, HP⟩ := hrel
    by_cases hlt : i < n
    · obtain ⟨b, off, rfl, _, c⟩ := HV.out i hlt
      have hi0 : (0 : Int) ≤ (i : Int) := by omega
      have hi1 : (i : Int) < n := by omega
      by_cases he : s i = x
      · have g := str_yes he
        have HO := Lib.hid (HR.out.trans (List.any_eq_true.2 ⟨i, List.mem_range.2 hlt, by simpa using he⟩))
        clear he HP HR
        obtain ⟨y, hy⟩ : ∃ y, y = s i := ⟨_, rfl⟩
        rw [← hy] at c g
        clear hy
        go_wp2_with fail
        go_ret
        exact ⟨ret_bool HO.out.symm, rfl⟩
      · have g := str_ne he
        have HN : Hid (∀ j, j < i + 1 → s j ≠ x) := Lib.hid (fun j hj => by
          by_cases e : j = i
          · subst e; exact he
          · exact HP.out j (by omega))
        clear he HP HR
        obtain ⟨y, hy⟩ : ∃ y, y = s i := ⟨_, rfl⟩
        rw [← hy] at c g
        clear hy
        go_wp2_with fail
        go_round
        case rel => exact ⟨i + 1, by omega, by go_num, HN⟩
        case measure => simp [intOf]; omega
    · have hge : ¬ ((i : Int) < n) := by omega
      have HO : Hid (r = false) := Lib.hid (HR.out.trans (by
        rw [List.any_eq_false]
        intro j hj
        have := HP.out j (by have := List.mem_range.1 hj; omega)
        simpa using this))
      clear HP HR
      go_wp2_with fail
      go_ret
      exact ⟨ret_bool HO.out.symm, rfl⟩
def wkI (o : Option Nat) : Int := match o with
  | none => -1
  | some e => e
def BPost (W : World) (o : Option Nat) (e : Ending) (w' : World) : Prop := e = .returned (.int .i64 (wkI o)) ∧ Below W.heap.size W w'
theorem BPost.no {W w' : World} {o : Option Nat} (h : o = none) (b : Below W.heap.size W w') : BPost W o (.returned (.int .i64 (-1))) w' := by subst h; exact ⟨rfl, b⟩
theorem BPost.yes {W w' : World} {o : Option Nat} {e : Nat} {v : Int} (h : o = some e) (hv : v = e) (b : Below W.heap.size W w') : BPost W o (.returned (.int .i64 v)) w' := by subst h hv; exact ⟨rfl, b⟩
/-- The names met, in a row of the call's own. -/
def NL (w : World) (B : Nat) (v : Value) (L : List ByteArray) : Prop := w.ownsRow B 9 1 v L.length (L.map Value.string)
theorem NL.nv {w : World} {B : Nat} {v : Value} {L : List ByteArray} (h : NL w B v L) : ∃ na nc, v = .slice na L.length nc ∧ NV w na L.length (fun i => L.getD i ⟨#[]⟩) := by
  rcases h.2 with ⟨rfl, hn⟩ | ⟨q, cap, cur, rfl, hg, hgg, h1, h2, h3, h4⟩
  · rw [hn]
    exact ⟨none, 0, rfl, fun i hi => by omega⟩
  · refine ⟨some ⟨q, 0, none⟩, cap, rfl, fun k hk => ⟨q, 0, rfl, (Array.getElem?_eq_some_iff.1 hgg).1, ?_⟩⟩
    rw [Nat.zero_add, h.cellAt k (by omega), List.getElem?_map, List.getElem?_eq_getElem hk]
    show some (Value.string L[k]) = some (Value.string (L.getD k ⟨#[]⟩))
    rw [List.getD_eq_getElem?_getD, List.getElem?_eq_getElem hk]; rfl
theorem any_range (L : List ByteArray) (x : ByteArray) : ((List.range L.length).any fun i => decide (L.getD i ⟨#[]⟩ = x)) = L.any (fun y => decide (y = x)) := by
  rw [Bool.eq_iff_iff, List.any_eq_true, List.any_eq_true]
  constructor
  · rintro ⟨i, hi, h⟩
    have hi' := List.mem_range.1 hi
    refine ⟨L[i], List.getElem_mem hi', ?_⟩
    rw [List.getD_eq_getElem?_getD, List.getElem?_eq_getElem hi'] at h
    exact h
  · rintro ⟨y, hy, h⟩
    obtain ⟨i, hi, rfl⟩ := List.getElem_of_mem hy
    refine ⟨i, List.mem_range.2 hi, ?_⟩
    rw [List.getD_eq_getElem?_getD, List.getElem?_eq_getElem hi]
    exact h
theorem among_nl (names RL : List ByteArray) (hrl : RL = names.reverse) (hl : names.length ≤ 1000000) (x : ByteArray) (b : Bool) (hb : names.any (fun y => decide (y = x)) = b) (B : Nat) (na : Option Addr) (nc : Nat) (w : World) (h : NL w B (.slice na RL.length nc) RL) :
    Calls Try.prog 61 #[.slice na RL.length nc, .string x] w fun e wx => e = .returned (.bool b) ∧ wx = w := by
  obtain ⟨na', nc', e1, hnv⟩ := h.nv
  simp only [Value.slice.injEq, true_and] at e1
  obtain ⟨rfl, rfl⟩ := e1
  have hh := ramong_any na RL.length nc (fun i => RL.getD i ⟨#[]⟩) x w hnv (by have := congrArg List.length hrl; rw [List.length_reverse] at this; omega)
  have e : ((List.range RL.length).any fun i => decide (RL.getD i ⟨#[]⟩ = x)) = b := by rw [any_range, hrl, List.any_reverse, hb]
  rw [e] at hh
  exact hh
/-- What the loop's test reads. -/
def BS (w1 : World) (B BX b o : Nat) (c : CR) (nm : ByteArray) (v : Value) (L : List ByteArray) (w' : World) : Prop :=
  w'.cell? ⟨BX, 0, none⟩ = some (.int .u8 c.k) ∧ w'.cell? ⟨b, o, none⟩ = some (.string nm) ∧ Below w1.heap.size w1 w' ∧ NL w' B v L
theorem BS.up {w1 : World} {B BX b o : Nat} {c : CR} {nm : ByteArray} {v : Value} {L : List ByteArray} {w' w2 : World} (h : BS w1 B BX b o c nm v L w') (k : Below w'.heap.size w' w2) : BS w1 B BX b o c nm v L w2 :=
  ⟨(k.cell (World.block_lt_of_cell? _ _ h.1)).trans h.1, (k.cell (World.block_lt_of_cell? _ _ h.2.1)).trans h.2.1, h.2.2.1.trans (k.mono h.2.2.1.size), own_below h.2.2.2 k⟩
end Go.Proofs.Ytfmgkndljppffaa
