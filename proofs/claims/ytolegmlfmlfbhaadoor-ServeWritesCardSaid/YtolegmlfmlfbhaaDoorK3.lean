import Derived.Test.YtolegmlfmlfbhaaDoorK2
import Derived.Test.YtolegmlfmlfbhaaDoorK1
import Derived.BigQuiet
import Derived.Deep.RegionHeld3
import Derived.Deep.DeepCutAuto
import Derived.Deep.QuietTactic
import Derived.LoopTactic
import Derived.Maps.OwnSet
import Derived.Maps.AppendAt
import Derived.Laws.ResultCell
import Derived.Laws.EntriesVeiled
import Derived.StringKeys
import Derived.IntWalk
import Derived.Deep.LoopGhost
import Derived.OwnWalk
import Derived.ArgAppend
import Derived.Laws.AppendOwn
/- Plain facts of layer 3: lists of cells; values put together under a head; a value cut out. No program in sight. -/
namespace Go.Proofs.YtolegmlfmlfbhaaDoor
open Go.RowKit
def gl (L : List CR) (i : Nat) : CR := L.getD i default
def ckL (L : List CR) : Bool := ckC (gl L) L.length
/-- The cells, the first one's name aside. -/
def ren (s : ByteArray) : List CR → List CR
  | [] => []
  | c :: r => { c with nm := s } :: r
theorem ren_len (s : ByteArray) (l : List CR) : (ren s l).length = l.length := by cases l <;> rfl
theorem ren_at (s : ByteArray) (l : List CR) (t : Nat) (h : t < l.length) : (gl (ren s l) t).k = (gl l t).k ∧ (gl (ren s l) t).tx = (gl l t).tx ∧ (gl (ren s l) t).n = (gl l t).n ∧ (gl (ren s l) t).m = (gl l t).m ∧ (0 < t → (gl (ren s l) t).nm = (gl l t).nm) := by
  cases l with
  | nil => simp at h
  | cons c r =>
    cases t with
    | zero => exact ⟨rfl, rfl, rfl, rfl, fun h => by omega⟩
    | succ t => exact ⟨rfl, rfl, rfl, rfl, fun _ => rfl⟩
theorem ren_nm (s : ByteArray) (l : List CR) (h : 0 < l.length) : (gl (ren s l) 0).nm = s := by
  cases l with
  | nil => simp at h
  | cons c r => rfl
/-- Where the i-th of some lists begins, put one behind the other from a place on. -/
def st (a : Nat) (ls : List (List CR)) (i : Nat) : Nat := a + ((ls.take i).map List.length).sum
theorem st_zero (a : Nat) (ls : List (List CR)) : st a ls 0 = a := by simp [st]
theorem st_succ (a : Nat) (ls : List (List CR)) (i : Nat) (h : i < ls.length) : st a ls (i + 1) = st a ls i + ls[i].length := by
  unfold st
  rw [List.take_succ_eq_append_getElem h, List.map_append, List.sum_append]
  show a + (_ + (ls[i].length + 0)) = _
  omega
theorem st_all (a : Nat) (ls : List (List CR)) : st a ls ls.length = a + ls.flatten.length := by
  unfold st
  rw [List.take_length, List.length_flatten]
theorem flat_at : ∀ (ls : List (List CR)) (i t : Nat) (h : i < ls.length), t < ls[i].length → gl ls.flatten (st 0 ls i + t) = gl ls[i] t
  | [], i, t, h, _ => by simp at h
  | l :: ls, 0, t, h, ht => by
    have ht' : t < l.length := ht
    unfold gl st
    simp only [List.take_zero, List.map_nil, List.sum_nil, Nat.zero_add, List.flatten_cons, List.getElem_cons_zero]
    rw [List.getD_eq_getElem?_getD, List.getD_eq_getElem?_getD, List.getElem?_append_left ht']
  | l :: ls, i + 1, t, h, ht => by
    have h' : i < ls.length := by simpa using h
    have ht' : t < ls[i].length := by simpa using ht
    have ih := flat_at ls i t h' ht'
    have e : st 0 (l :: ls) (i + 1) = l.length + st 0 ls i := by simp [st]
    rw [e]
    unfold gl at ih ⊢
    simp only [List.flatten_cons, List.getElem_cons_succ]
    rw [← ih, List.getD_eq_getElem?_getD, List.getD_eq_getElem?_getD, List.getElem?_append_right (by omega)]
    congr 2
    omega
/-- Values (renamed) under a head. -/
def under (h : CR) (ls : List (List CR)) : List CR := h :: ls.flatten
theorem under_at (h : CR) (ls : List (List CR)) (i t : Nat) (hi : i < ls.length) (ht : t < ls[i].length) : gl (under h ls) (st 1 ls i + t) = gl ls[i] t := by
  rw [← flat_at ls i t hi ht]
  unfold under gl
  rw [show st 1 ls i + t = (st 0 ls i + t) + 1 by unfold st; omega]
  rfl
theorem under_len (h : CR) (ls : List (List CR)) : (under h ls).length = st 1 ls ls.length := by
  rw [st_all]; simp [under]; omega
theorem st_le (a : Nat) (ls : List (List CR)) : ∀ (d i : Nat), i + d ≤ ls.length → st a ls i ≤ st a ls (i + d)
  | 0, _, _ => Nat.le_refl _
  | d + 1, i, h => by
    have := st_le a ls d i (by omega)
    have := st_succ a ls (i + d) (by omega)
    rw [show i + (d + 1) = i + d + 1 by omega]
    omega
/-- Each of the values that were put together begins one where it stands. -/
theorem under_wk (h : CR) (vs ls : List (List CR)) (hl : ls.length = vs.length) (hr : ∀ i (h1 : i < ls.length) (h2 : i < vs.length), ∃ s, ls[i] = ren s vs[i]) (hv : ∀ i (h2 : i < vs.length), ckL vs[i] = true) :
    ∀ i, i < ls.length → wk (gl (under h ls)) (under h ls).length 16 (st 1 ls i) = some (st 1 ls (i + 1)) := by
  intro i hi
  have h2 : i < vs.length := by omega
  obtain ⟨s, es⟩ := hr i hi h2
  obtain ⟨k1, _, _, k4⟩ := ckC_parts (hv i h2)
  have el : ls[i].length = vs[i].length := by rw [es, ren_len]
  have e1 := st_succ 1 ls i hi
  have e2 := st_le 1 ls (ls.length - (i + 1)) (i + 1) (by omega)
  rw [show i + 1 + (ls.length - (i + 1)) = ls.length by omega] at e2
  have k := wk_shift (g1 := gl vs[i]) (n1 := vs[i].length) (s1 := 0) (g2 := gl (under h ls)) (n2 := (under h ls).length) (s2 := st 1 ls i) 16 0 vs[i].length (by simpa using k4) ?_ (by rw [under_len]; omega)
  · rw [Nat.zero_add] at k
    rw [k, e1, el, Nat.add_comm]
  · intro t _ ht
    have q := ren_at s vs[i] t ht
    rw [← es] at q
    have u := under_at h ls i t hi (by omega)
    rw [Nat.add_comm t (st 1 ls i), u, Nat.add_zero]
    exact ⟨q.1.symm, q.2.1.symm, q.2.2.1.symm, q.2.2.2.1.symm, fun hh => (q.2.2.2.2 (by rcases hh with e | e; cases e; exact e)).symm⟩
theorem under_bd (h : CR) (vs ls : List (List CR)) (hl : ls.length = vs.length) (hr : ∀ i (h1 : i < ls.length) (h2 : i < vs.length), ∃ s, ls[i] = ren s vs[i]) (hv : ∀ i (h2 : i < vs.length), ckL vs[i] = true) :
    ∀ i, i ≤ ls.length → bd (gl (under h ls)) (under h ls).length 1 i = st 1 ls i :=
  chain_bd 1 (st 1 ls) ls.length (under_wk h vs ls hl hr hv) (st_zero 1 ls)
/-- Cells from a place to another one. -/
def cut (g : Nat → CR) (a e : Nat) : List CR := (List.range (e - a)).map fun i => g (a + i)
theorem cut_len (g : Nat → CR) (a e : Nat) : (cut g a e).length = e - a := by simp [cut]
theorem cut_at (g : Nat → CR) (a e t : Nat) (h : t < e - a) : gl (cut g a e) t = g (a + t) := by
  unfold gl cut
  rw [List.getD_eq_getElem?_getD, List.getElem?_map, List.getElem?_range h]
  rfl
theorem em_eq {s : ByteArray} (h : em s = true) : s = ⟨#[]⟩ := by
  unfold em at h
  simp only [decide_eq_true_eq] at h
  exact ByteArray.ext (Array.eq_empty_of_size_eq_zero h)
/-- What is cut out of a value, without its name, is a value. -/
theorem sub_ck {g : Nat → CR} {n a e : Nat} (h : wk g n 16 a = some e) (hn : n ≤ 2048) : ckL (ren ⟨#[]⟩ (cut g a e)) = true := by
  have hl := wk_lt _ _ _ h
  have e1 : (ren ⟨#[]⟩ (cut g a e)).length = e - a := by rw [ren_len, cut_len]
  refine ckC_mk (by omega) (by omega) (by rw [ren_nm _ _ (by rw [cut_len]; omega)]; rfl) ?_
  rw [e1]
  have k := wk_shift (g1 := g) (n1 := n) (s1 := a) (g2 := gl (ren ⟨#[]⟩ (cut g a e))) (n2 := e - a) (s2 := 0) 16 0 (e - a) (by rw [Nat.zero_add, Nat.sub_add_cancel (by omega)]; exact h) ?_ (by omega)
  · simpa using k
  · intro t _ ht
    have q := ren_at ⟨#[]⟩ (cut g a e) t (by rw [cut_len]; exact ht)
    rw [cut_at g a e t ht, Nat.add_comm] at q
    rw [Nat.add_zero]
    exact ⟨q.1.symm, q.2.1.symm, q.2.2.1.symm, q.2.2.2.1.symm, fun hh => (q.2.2.2.2 (by rcases hh with w | w; cases w; exact w)).symm⟩
theorem ren_self {l : List CR} {s : ByteArray} (h : (gl l 0).nm = s) : ren s l = l := by
  cases l with
  | nil => rfl
  | cons c r =>
    have : c.nm = s := h
    unfold ren; rw [← this]
theorem ren_ren (s t : ByteArray) (l : List CR) : ren s (ren t l) = ren s l := by cases l <;> rfl
theorem gl_ext {L M : List CR} (h : L.length = M.length) (k : ∀ i, i < L.length → gl L i = gl M i) : L = M := by
  apply List.ext_getElem h
  intro i h1 h2
  have := k i h1
  unfold gl at this
  rw [List.getD_eq_getElem?_getD, List.getD_eq_getElem?_getD, List.getElem?_eq_getElem h1, List.getElem?_eq_getElem h2] at this
  exact this
/-- Sub of a value that was put in, where it stands, is that value. -/
theorem under_sub (h : CR) (vs ls : List (List CR)) (hl : ls.length = vs.length) (hr : ∀ i (h1 : i < ls.length) (h2 : i < vs.length), ∃ s, ls[i] = ren s vs[i]) (hv : ∀ i (h2 : i < vs.length), ckL vs[i] = true) (i : Nat) (hi : i < ls.length) (h2 : i < vs.length) :
    ren ⟨#[]⟩ (cut (gl (under h ls)) (st 1 ls i) (st 1 ls (i + 1))) = vs[i] := by
  obtain ⟨s, es⟩ := hr i hi h2
  obtain ⟨k1, _, k3, _⟩ := ckC_parts (hv i h2)
  have el : ls[i].length = vs[i].length := by rw [es, ren_len]
  have e1 := st_succ 1 ls i hi
  have ec : cut (gl (under h ls)) (st 1 ls i) (st 1 ls (i + 1)) = ls[i] := by
    refine gl_ext (by rw [cut_len]; omega) fun t ht => ?_
    rw [cut_len] at ht
    rw [cut_at _ _ _ _ ht, under_at h ls i t hi (by omega)]
  rw [ec, es, ren_ren]
  exact ren_self (em_eq k3)
/-- What is put together of a value's subs (renamed) is that value. -/
theorem parts_under {g : Nat → CR} {n a e : Nat} (h : wk g n 16 a = some e) (ls : List (List CR)) (hl : ls.length = (g a).m.toNat) (hs : ∀ i (h1 : i < ls.length), ls[i] = cut g (bd g n (a + 1) i) (bd g n (a + 1) (i + 1))) :
    under (g a) ls = cut g a e := by
  have hc := (wk_open (Nat.le_refl _) h).2.2.2
  obtain ⟨b1, b2⟩ := bd_chain _ _ _ hc
  have hl2 := wk_lt _ _ _ h
  have hst : ∀ i, i ≤ ls.length → st (a + 1) ls i = bd g n (a + 1) i := by
    intro i
    induction i with
    | zero => intro _; rw [st_zero]; rfl
    | succ i ih =>
      intro hi
      have q := ih (by omega)
      have w := wk_lt _ _ _ (b1 i (by omega))
      rw [st_succ _ _ _ (by omega), q, hs i (by omega), cut_len]
      omega
  have e0 : ls.flatten.length = e - (a + 1) := by
    have := hst ls.length (Nat.le_refl _)
    rw [st_all, hl, b2] at this
    omega
  have e3 : (under (g a) ls).length = ls.flatten.length + 1 := rfl
  refine gl_ext (by rw [cut_len, e3]; omega) fun t ht => ?_
  have ht' : t < e - a := by rw [e3] at ht; omega
  rw [cut_at _ _ _ _ ht']
  cases t with
  | zero => rfl
  | succ t =>
    -- which of them
    have key : ∀ (i : Nat), i ≤ ls.length → ∀ t, a + 1 + t < bd g n (a + 1) i → gl ls.flatten t = g (a + 1 + t) := by
      intro i
      induction i with
      | zero => intro _ t hq; exact absurd hq (by show ¬ (a + 1 + t < a + 1); omega)
      | succ i ih =>
        intro hi t hq
        by_cases hlt : a + 1 + t < bd g n (a + 1) i
        · exact ih (by omega) t hlt
        · have q := hst i (by omega)
          have q0 : st 0 ls i + (a + 1) = bd g n (a + 1) i := by rw [← q]; unfold st; omega
          have lt : t - st 0 ls i < ls[i].length := by rw [hs i (by omega), cut_len]; omega
          have f := flat_at ls i (t - st 0 ls i) (by omega) lt
          rw [show st 0 ls i + (t - st 0 ls i) = t by omega] at f
          rw [f, hs i (by omega), cut_at _ _ _ _ (by omega)]
          congr 1
          omega
    have := key ls.length (Nat.le_refl _) t (by rw [hl, b2]; omega)
    show gl ls.flatten t = _
    rw [this]
    congr 1
    omega
end Go.Proofs.YtolegmlfmlfbhaaDoor
/- Layer 3: what a cell's checks tell. -/
namespace Go.Proofs.YtolegmlfmlfbhaaDoor
open Go.RowKit
def cv (c : CR) : Value := .agg #[.int .u8 c.k, .string c.nm, .string c.tx, .int .i64 c.n, .int .i64 c.m]
def ccells (c : CR) : Array Value := #[.int .u8 c.k, .string c.nm, .string c.tx, .int .i64 c.n, .int .i64 c.m]
theorem size_nil {s : ByteArray} (h : s.toList = []) : s.size = 0 := by
  rw [ByteArray.toList_eq] at h
  have : s.data = #[] := by simpa using h
  show s.data.size = 0
  rw [this]; rfl
theorem em_yes {s : ByteArray} (h : em s = true) : s = ⟨#[]⟩ := em_eq h
theorem em_no {s : ByteArray} (h : em s = false) : s.toList.isEmpty = false := by
  unfold em at h
  simp only [decide_eq_false_iff_not] at h
  cases hs : s.toList with
  | nil =>
    exfalso
    apply h
    exact size_nil hs
  | cons _ _ => rfl
end Go.Proofs.YtolegmlfmlfbhaaDoor
/- Layer 3: names, and the checks of the kinds by their numbers. -/
namespace Go.Proofs.YtolegmlfmlfbhaaDoor
open Go.RowKit
/-- What a name may have at a place. -/
def okAt (b : UInt8) (j : Nat) : Bool := letB b || (decide (j ≠ 0) && dgB b)
theorem all_from : ∀ (l : List UInt8) (j : Nat), (∀ i (h : i < l.length), okAt l[i] (j + 1 + i) = true) ↔ l.all (fun c => letB c || dgB c) = true
  | [], _ => by simp
  | b :: r, j => by
    have ih := all_from r (j + 1)
    rw [List.all_cons, Bool.and_eq_true, ← ih]
    constructor
    · intro h
      refine ⟨?_, fun i hi => ?_⟩
      · have := h 0 (by simp)
        simpa [okAt] using this
      · have := h (i + 1) (by simpa using hi)
        rw [show j + 1 + (i + 1) = j + 1 + 1 + i by omega] at this
        exact this
    · rintro ⟨h1, h2⟩ i hi
      cases i with
      | zero => simpa [okAt] using h1
      | succ i =>
        have := h2 i (by simpa using hi)
        rw [show j + 1 + (i + 1) = j + 1 + 1 + i by omega]
        exact this
theorem nm_iff (s : ByteArray) : nmB s = true ↔ s.size ≠ 0 ∧ ∀ i (h : i < s.size), okAt s[i] i = true := by
  have e : s.size = s.data.toList.length := by rw [Array.length_toList]; rfl
  have hget : ∀ i (h : i < s.size), s[i] = s.data.toList[i]'(by rw [← e]; exact h) := fun i h => rfl
  have key : (∀ i (h : i < s.size), okAt s[i] i = true) ↔ ∀ i (h : i < s.data.toList.length), okAt s.data.toList[i] i = true :=
    ⟨fun k i h => by have := k i (by rw [e]; exact h); rw [hget] at this; exact this, fun k i h => by rw [hget]; exact k i _⟩
  rw [key, e]
  unfold nmB
  generalize s.data.toList = l
  cases l with
  | nil => simp [nmL]
  | cons b r =>
    have := all_from r 0
    unfold nmL
    rw [Bool.and_eq_true, ← this]
    constructor
    · rintro ⟨h1, h2⟩
      refine ⟨by simp, fun i hi => ?_⟩
      cases i with
      | zero => simpa [okAt] using h1
      | succ i =>
        have := h2 i (by simpa using hi)
        rw [show 0 + 1 + i = i + 1 by omega] at this
        exact this
    · rintro ⟨_, h⟩
      refine ⟨?_, fun i hi => ?_⟩
      · have := h 0 (by simp)
        simpa [okAt] using this
      · have := h (i + 1) (by simpa using hi)
        rw [show 0 + 1 + i = i + 1 by omega]
        exact this
theorem nm_bad {s : ByteArray} {i : Nat} (h : i < s.size) (hb : okAt s[i] i = false) : nmB s = false := by
  cases hn : nmB s with
  | false => rfl
  | true => rw [((nm_iff s).1 hn).2 i h] at hb; cases hb
theorem by256c {P : UInt8 → Bool} (h : (List.range 256).all (fun n => P (UInt8.ofNat n)) = true) (b : UInt8) : P b = true := by
  have := List.all_eq_true.1 h b.toNat (List.mem_range.2 (UInt8.toNat_lt b))
  simpa using this
theorem let_val (b : UInt8) : letB b = (decide (b.toNat = 95) || (decide (97 ≤ b.toNat) && decide (b.toNat ≤ 122)) || (decide (65 ≤ b.toNat) && decide (b.toNat ≤ 90))) := by
  have := by256c (P := fun b => letB b == (decide (b.toNat = 95) || (decide (97 ≤ b.toNat) && decide (b.toNat ≤ 122)) || (decide (65 ≤ b.toNat) && decide (b.toNat ≤ 90)))) (by decide +kernel) b
  simpa using this
theorem dg_val (b : UInt8) : dgB b = (decide (48 ≤ b.toNat) && decide (b.toNat ≤ 57)) := by
  have := by256c (P := fun b => dgB b == (decide (48 ≤ b.toNat) && decide (b.toNat ≤ 57))) (by decide +kernel) b
  simpa using this
end Go.Proofs.YtolegmlfmlfbhaaDoor
/- Layer 3: the checks of the kinds, by the kind's number; the array of them. -/
namespace Go.Proofs.YtolegmlfmlfbhaaDoor
open Go.RowKit
theorem ck_yes {s : ByteArray} (h : ckB s = true) : ckE s = 0 := by unfold ckB at h; simpa using h
theorem ck_no {s : ByteArray} (h : ckB s = false) : ckE s ≠ 0 := by unfold ckB at h; simpa using h
end Go.Proofs.YtolegmlfmlfbhaaDoor
/- Layer 3: the array of the checks; the names that an object's members have had. -/
namespace Go.Proofs.YtolegmlfmlfbhaaDoor
open Go.RowKit Go.Maps Go.WideMaps
theorem law9 : Keyed Tryd.prog 9 := string_keyed Tryd.underlying9
def keyL (s : ByteArray) : Lit := .string s.data.toList
def setN (names : List ByteArray) : DataW Unit := setOf (.agg []) (names.reverse.map keyL)
theorem setN_cons (s : ByteArray) (names : List ByteArray) : setN (s :: names) = (setN names).put (keyL s) (.agg []) := by
  unfold setN
  rw [List.reverse_cons, List.map_append]
  exact setOf_snoc _ _ _
theorem has_setN (names : List ByteArray) (s : ByteArray) : Maps.has (setN names) (keyL s) = names.any (fun x => decide (x = s)) := by
  unfold setN
  rw [has_setOf _ _ _ (fun x hx => by obtain ⟨y, _, rfl⟩ := List.mem_map.1 hx; trivial)]
  rw [List.any_map, Bool.eq_iff_iff, List.any_eq_true, List.any_eq_true]
  have e : ∀ x : ByteArray, ((fun x => x.sameKey (keyL s)) ∘ keyL) x = decide (x = s) := fun x => by
    rw [Bool.eq_iff_iff, decide_eq_true_eq]
    show (x.data.toList == s.data.toList) = true ↔ _
    rw [beq_iff_eq, Array.toList_inj]
    exact ⟨fun h => ByteArray.ext h, fun h => by rw [h]⟩
  constructor
  · rintro ⟨x, hx, h⟩
    rw [e] at h
    exact ⟨x, List.mem_reverse.1 hx, h⟩
  · rintro ⟨x, hx, h⟩
    exact ⟨x, List.mem_reverse.2 hx, by rw [e]; exact h⟩
/-- A map that holds the names met. -/
def Met (w : World) (b n : Nat) (names : List ByteArray) : Prop := w.ownsMap Tryd.prog 9 (unitElem (H := Unit)) b n (setN names)
end Go.Proofs.YtolegmlfmlfbhaaDoor
/- Layer 3: cells in memory; what the closure of Check finds. -/
namespace Go.Proofs.YtolegmlfmlfbhaaDoor
open Go.RowKit Go.Maps
/-- A row of cells reads so. -/
def CV (w : World) (a : Option Addr) (n : Nat) (g : Nat → CR) : Prop :=
  ∀ i, i < n → ∃ b off, a = some ⟨b, off, none⟩ ∧ b < w.heap.size ∧ w.cell? ⟨b, off + i * 5, none⟩ = some (.int .u8 (g i).k) ∧ w.cell? ⟨b, off + i * 5 + 1, none⟩ = some (.string (g i).nm) ∧ w.cell? ⟨b, off + i * 5 + 2, none⟩ = some (.string (g i).tx) ∧ w.cell? ⟨b, off + i * 5 + 3, none⟩ = some (.int .i64 (g i).n) ∧ w.cell? ⟨b, off + i * 5 + 4, none⟩ = some (.int .i64 (g i).m)
/-- How large they are. -/
def CW (n : Nat) (g : Nat → CR) : Prop := ∀ i, i < n → (g i).k < 256 ∧ (g i).nm.size ≤ maxLen ∧ (g i).tx.size ≤ 1000000 ∧ -9223372036854775808 ≤ (g i).m ∧ (g i).m ≤ 9223372036854775807
theorem CV.same {w w' : World} {a : Option Addr} {n : Nat} {g : Nat → CR} (h : CV w a n g) (hs : w.heap.size ≤ w'.heap.size) (hb : ∀ b off, a = some ⟨b, off, none⟩ → b < w.heap.size → w'.heap[b]? = w.heap[b]?) : CV w' a n g := fun i hi => by
  obtain ⟨b, off, e, h0, h1, h2, h3, h4, h5⟩ := h i hi
  have hh := hb b off e h0
  have c : ∀ o, w'.cell? ⟨b, o, none⟩ = w.cell? ⟨b, o, none⟩ := fun o => World.cell?_of_block hh
  exact ⟨b, off, e, by omega, by rw [c]; exact h1, by rw [c]; exact h2, by rw [c]; exact h3, by rw [c]; exact h4, by rw [c]; exact h5⟩
theorem CV.below {w w' : World} {a : Option Addr} {n : Nat} {g : Nat → CR} (h : CV w a n g) (hb : Below w.heap.size w w') : CV w' a n g :=
  h.same hb.size fun b _ _ hl => hb.block b hl
theorem World.grownBy.far {w w1 w2 : World} {p : Option Nat} {b : Nat} (h : w.grownBy w1 p) (k : w1.grownBy w2 (some b)) (hb : w.heap.size ≤ b) : w.grownBy w2 p :=
  ⟨k.os.trans h.os, k.tape.trans h.tape, k.output.trans h.output, Nat.le_trans h.size k.size, fun i hi hne => (k.block i (Nat.lt_of_lt_of_le hi h.size) (fun e => by cases e; omega)).trans (h.block i hi hne)⟩
theorem Below.grown' {w w1 w2 : World} {p : Option Nat} (h : w.grownBy w1 p) (k : Below w1.heap.size w1 w2) : w.grownBy w2 p :=
  ⟨k.os.trans h.os, k.tape.trans h.tape, k.output.trans h.output, Nat.le_trans h.size k.size, fun i hi hne => (k.block i (Nat.lt_of_lt_of_le hi h.size)).trans (h.block i hi hne)⟩
/-- Where it is. -/
def At (W : World) (pa p : Nat) : Prop := W.heap[pa]? = some (.cells #[.int .i64 (p : Nat)] 3)
theorem At.c {W : World} {pa p : Nat} (h : At W pa p) : W.cell? ⟨pa, 0, none⟩ = some (.int .i64 (p : Nat)) := by simp [World.cell?, show W.heap[pa]? = _ from h]
theorem At.f {W : World} {pa p : Nat} (h : At W pa p) : W.frozen? ⟨pa, 0, none⟩ = false := by simp [World.frozen?, show W.heap[pa]? = _ from h]
theorem At.lt {W : World} {pa p : Nat} (h : At W pa p) : pa < W.heap.size := (Array.getElem?_eq_some_iff.1 h).1
theorem At.set {W : World} {pa p : Nat} (h : At W pa p) (q : Nat) : At (W.setCell ⟨pa, 0, none⟩ (.int .i64 (q : Nat))) pa q := by
  unfold At at h ⊢
  simp [World.setCell, Array.getElem?_modify, h]
theorem At.keep {W W' : World} {pa p : Nat} {row : Option Nat} (h : At W pa p) (k : W.grownBy W' row) (hne : some pa ≠ row) : At W' pa p := (k.block pa h.lt hne).trans h
theorem grown_set (W : World) (pa : Nat) (v : Value) : W.grownBy (W.setCell ⟨pa, 0, none⟩ v) (some pa) :=
  ⟨rfl, rfl, rfl, by simp [World.setCell], fun i _ hne => RowKit.Below.heap_setCell _ _ _ _ (fun e => hne (by rw [show i = pa from e]))⟩
theorem grown_drew {W W' : World} {row : Option Nat} (h : W.grownBy W' row) (d : Nat) : W.grownBy (W'.drewN d) row := ⟨h.os, h.tape, h.output, h.size, h.block⟩
theorem grown_drew1 {W W' : World} {row : Option Nat} (h : W.grownBy W' row) : W.grownBy W'.drew row := ⟨h.os, h.tape, h.output, h.size, h.block⟩
theorem grown_refl (W : World) (row : Option Nat) : W.grownBy W row := ⟨rfl, rfl, rfl, Nat.le_refl _, fun _ _ _ => rfl⟩
end Go.Proofs.YtolegmlfmlfbhaaDoor
/- Layer 3: the closure of Check: what ends it at once. -/
namespace Go.Proofs.YtolegmlfmlfbhaaDoor
open Go.RowKit Go.Maps
def WkPost (W : World) (pa : Nat) (res : Option Nat) (e : Ending) (W' : World) : Prop :=
  e = .returned (.bool res.isSome) ∧ W.grownBy W' (some pa) ∧ ∃ q, At W' pa q ∧ ∀ e', res = some e' → q = e'
/-- What holds while a cell's copy is looked at. -/
def FS (W : World) (pa p B pr fk : Nat) (c : CR) (w' : World) : Prop :=
  w'.cell? ⟨B, 0, none⟩ = some (.int .u8 c.k) ∧ w'.cell? ⟨B, 1, none⟩ = some (.string c.nm) ∧ w'.cell? ⟨B, 2, none⟩ = some (.string c.tx) ∧ w'.cell? ⟨B, 3, none⟩ = some (.int .i64 c.n) ∧ w'.cell? ⟨B, 4, none⟩ = some (.int .i64 c.m) ∧ w'.cell? ⟨pr, c.k, none⟩ = some (.func (.func fk) #[] #[]) ∧ W.grownBy w' (some pa) ∧ At w' pa p
theorem FS.up {W : World} {pa p B pr fk : Nat} {c : CR} {w w' : World} (h : FS W pa p B pr fk c w) (b : Below w.heap.size w w') : FS W pa p B pr fk c w' := by
  obtain ⟨h0, h1, h2, h3, h4, h5, h6, h7⟩ := h
  have f : ∀ {q o : Nat} {x : Value}, w.cell? ⟨q, o, none⟩ = some x → w'.cell? ⟨q, o, none⟩ = some x := fun hx => (b.cell (World.block_lt_of_cell? _ _ hx)).trans hx
  exact ⟨f h0, f h1, f h2, f h3, f h4, f h5, Below.grown' h6 b, (b.block pa h7.lt).trans h7⟩
theorem WkPost.no {W W' : World} {pa q : Nat} {res : Option Nat} {b : Bool} (hr : res = none) (hb : b = false) (hg : W.grownBy W' (some pa)) (ha : At W' pa q) : WkPost W pa res (.returned (.bool b)) W' := by
  subst hr hb; exact ⟨rfl, hg, q, ha, fun e' h => by cases h⟩
theorem WkPost.yes {W W' : World} {pa q : Nat} {res : Option Nat} {b : Bool} (hr : res = some q) (hb : b = true) (hg : W.grownBy W' (some pa)) (ha : At W' pa q) : WkPost W pa res (.returned (.bool b)) W' := by
  subst hr hb; exact ⟨rfl, hg, q, ha, fun e' h => by cases h; rfl⟩
end Go.Proofs.YtolegmlfmlfbhaaDoor
/- Layer 3: the closure of Check: items and members. -/
namespace Go.Proofs.YtolegmlfmlfbhaaDoor
open Go.RowKit Go.Maps
/-- What holds at a round's head. -/
def LSt (W : World) (pa B M : Nat) (c : CR) (n : Nat) (wr : World) (i q : Nat) (names : List ByteArray) : Prop :=
  At wr pa q ∧ W.grownBy wr (some pa) ∧ wr.cell? ⟨B, 0, none⟩ = some (.int .u8 c.k) ∧ (c.k = 7 → Met wr M i names) ∧ i ≤ q ∧ q ≤ n ∧ M < wr.heap.size
/-- What the region's loads read. -/
def SS (pv pw B b off q : Nat) (sl fw : Value) (nm : ByteArray) (c : CR) (w' : World) : Prop :=
  w'.cell? ⟨pv, 0, none⟩ = some sl ∧ w'.cell? ⟨B, 0, none⟩ = some (.int .u8 c.k) ∧ w'.cell? ⟨pw, 0, none⟩ = some fw ∧ w'.cell? ⟨b, off + q * 5 + 1, none⟩ = some (.string nm)
end Go.Proofs.YtolegmlfmlfbhaaDoor
/- Layer 3: Check. -/
namespace Go.Proofs.YtolegmlfmlfbhaaDoor
open Go.RowKit Go.Maps
/-- What Check tells. -/
def eC (b : Bool) : Int := if b then 0 else 8
end Go.Proofs.YtolegmlfmlfbhaaDoor
/- Layer 3: Check, whole. -/
namespace Go.Proofs.YtolegmlfmlfbhaaDoor
open Go.RowKit Go.Maps
end Go.Proofs.YtolegmlfmlfbhaaDoor
/- Layer 3: skip, place, End. -/
namespace Go.Proofs.YtolegmlfmlfbhaaDoor
open Go.RowKit Go.Maps
theorem CV.at_ {w : World} {b off n : Nat} {g : Nat → CR} (h : CV w (some ⟨b, off, none⟩) n g) {i : Nat} (hi : i < n) : b < w.heap.size ∧ w.cell? ⟨b, off + i * 5, none⟩ = some (.int .u8 (g i).k) ∧ w.cell? ⟨b, off + i * 5 + 1, none⟩ = some (.string (g i).nm) ∧ w.cell? ⟨b, off + i * 5 + 2, none⟩ = some (.string (g i).tx) ∧ w.cell? ⟨b, off + i * 5 + 3, none⟩ = some (.int .i64 (g i).n) ∧ w.cell? ⟨b, off + i * 5 + 4, none⟩ = some (.int .i64 (g i).m) := by
  obtain ⟨b', off', e, k⟩ := h i hi
  cases e
  exact k
theorem CV.addr {w : World} {a : Option Addr} {n : Nat} {g : Nat → CR} (h : CV w a n g) (h0 : 0 < n) : ∃ b off, a = some ⟨b, off, none⟩ := by
  obtain ⟨b, off, e, _⟩ := h 0 h0
  exact ⟨b, off, e⟩
theorem ck_at {g : Nat → CR} {n p : Nat} (h : ckC g n = true) (hp : p < n) : wk g n 16 p = some (nx g n p) ∧ nx g n p ≤ n := by
  obtain ⟨_, _, _, h4⟩ := ckC_parts h
  obtain ⟨e', k1, k2⟩ := wk_at _ _ _ h4 p (Nat.zero_le _) hp
  rw [nx_some k1]
  exact ⟨k1, k2⟩
/-- The error of a place. -/
def plE (g : Nat → CR) (n : Nat) (p : Int) : Int := if ckC g n = true then (if 0 ≤ p ∧ p < n then 0 else 2) else 8
theorem pl_ok {g : Nat → CR} {n p : Nat} (hc : ckC g n = true) (hp : p < n) : plE g n (p : Nat) = 0 := by unfold plE; rw [if_pos hc, if_pos (by omega)]
end Go.Proofs.YtolegmlfmlfbhaaDoor
/- Layer 3: kids, Kids, Member. -/
namespace Go.Proofs.YtolegmlfmlfbhaaDoor
open Go.RowKit Go.Maps
theorem infoI : ∃ i, Tryd.prog.info? 3 = some i ∧ i.zero = some (.int .i64 0) ∧ i.size = 1 ∧ i.bytes = 8 := by
  have h := Tryd.typeInfo3 default
  unfold typeInfo at h
  cases hq : Tryd.prog.info? 3 with
  | none => simp [hq] at h
  | some i =>
    simp [hq] at h
    exact ⟨i, rfl, by rw [h]; rfl, by rw [h]; rfl, by rw [h]; rfl⟩
theorem news_at (w : World) (cs : Array Value) (t : TypeId) (L : List Value) (h : cs.toList = L) : ∀ j u, L[j]? = some u → (w.alloc (.cells cs t)).cell? ((⟨w.heap.size, 0, none⟩ : Addr).add j) = some u := by
  subst h
  intro j u hj
  simp only [Addr.add_lit, Nat.zero_add, World.cell?, heap_alloc_new]
  simpa using hj
def bdL (g : Nat → CR) (n a m : Nat) : List Value := (List.range m).map fun i => .int .i64 (bd g n a i : Nat)
theorem bdL_succ (g : Nat → CR) (n a m : Nat) : bdL g n a (m + 1) = bdL g n a m ++ [.int .i64 (bd g n a m : Nat)] := by unfold bdL; rw [List.range_succ, List.map_append]; rfl
theorem bdL_len (g : Nat → CR) (n a m : Nat) : (bdL g n a m).length = m := by simp [bdL]
/-- A row of places. -/
def IV (w : World) (a : Option Addr) (m : Nat) (f : Nat → Nat) : Prop := ∀ i, i < m → ∃ b off, a = some ⟨b, off, none⟩ ∧ b < w.heap.size ∧ w.cell? ⟨b, off + i, none⟩ = some (.int .i64 (f i : Nat))
theorem IV.below {w w' : World} {a : Option Addr} {m : Nat} {f : Nat → Nat} (h : IV w a m f) (hb : Below w.heap.size w w') : IV w' a m f := fun i hi => by
  obtain ⟨b, off, e, h1, h2⟩ := h i hi
  exact ⟨b, off, e, Nat.lt_of_lt_of_le h1 hb.size, (hb.cell (p := ⟨b, _, none⟩) h1).trans h2⟩
theorem own_iv {w : World} {B m : Nat} {v : Value} {g : Nat → CR} {n a : Nat} (h : w.ownsRow B 3 1 v m (bdL g n a m)) : ∃ ad cap, v = .slice ad m cap ∧ IV w ad m (bd g n a) ∧ (∀ b off, ad = some ⟨b, off, none⟩ → B ≤ b) := by
  rcases h.2 with ⟨rfl, hn⟩ | ⟨q, cap, cur, rfl, hg, hgg, h1, h2, h3, h4⟩
  · subst hn
    exact ⟨none, 0, rfl, fun i hi => by omega, fun b off e => by cases e⟩
  · refine ⟨some ⟨q, 0, none⟩, cap, rfl, fun k hk => ⟨q, 0, rfl, (Array.getElem?_eq_some_iff.1 hgg).1, ?_⟩, fun b off e => by cases e; exact hg⟩
    rw [Nat.zero_add, h.cellAt k (by omega)]
    unfold bdL
    rw [List.getElem?_map, List.getElem?_range hk]
    rfl
/-- The first of some places whose cell has that name. -/
def mbF (g : Nat → CR) (s : ByteArray) (f : Nat → Nat) (m : Nat) : Option Nat := ((List.range m).map f).find? fun q => decide ((g q).nm = s)
theorem mbF_none {g : Nat → CR} {s : ByteArray} {f : Nat → Nat} {m : Nat} (h : ∀ j, j < m → (g (f j)).nm ≠ s) : mbF g s f m = none := by
  unfold mbF
  rw [List.find?_eq_none]
  intro q hq
  obtain ⟨j, hj, rfl⟩ := List.mem_map.1 hq
  simpa using h j (List.mem_range.1 hj)
theorem mbF_some {g : Nat → CR} {s : ByteArray} {f : Nat → Nat} {m i : Nat} (hi : i < m) (h : ∀ j, j < i → (g (f j)).nm ≠ s) (hs : (g (f i)).nm = s) : mbF g s f m = some (f i) := by
  unfold mbF
  have e : List.range m = List.range i ++ (i :: (List.range (m - (i + 1))).map (fun x => i + 1 + x)) := by
    apply List.ext_getElem (by simp; omega)
    intro k h1 h2
    rw [List.getElem_range]
    by_cases hk : k < i
    · rw [List.getElem_append_left (by simpa using hk)]; simp
    · rw [List.getElem_append_right (by simpa using hk)]
      by_cases e : k = i
      · subst e; simp
      · simp only [List.length_range]
        rw [List.getElem_cons]
        rw [dif_neg (by omega)]
        simp; omega
  rw [e, List.map_append, List.find?_append]
  rw [show ((List.range i).map f).find? (fun q => decide ((g q).nm = s)) = none from mbF_none h]
  simp [hs]
theorem str_is {x y : ByteArray} : (x.toList == y.toList) = decide (x = y) := by
  rw [Bool.eq_iff_iff, beq_iff_eq, decide_eq_true_eq, ByteArray.toList_eq, ByteArray.toList_eq, Array.toList_inj]
  exact ⟨fun h => ByteArray.ext h, fun h => by rw [h]⟩
/-- What Member finds. -/
def memP (g : Nat → CR) (n : Nat) (p : Int) (s : ByteArray) : Option Nat := if plE g n p = 0 ∧ (g p.toNat).k = 7 then mbF g s (bd g n (p.toNat + 1)) (g p.toNat).m.toNat else none
theorem ret_mb {x y : Nat} {b c : Bool} (h : x = y) (k : b = c) : Ending.returned (.tuple #[.int .i64 (x : Nat), .bool b]) = .returned (.tuple #[.int .i64 (y : Nat), .bool c]) := by rw [h, k]
end Go.Proofs.YtolegmlfmlfbhaaDoor
/- Layer 3: rows of cells that a call made; the chapter's object; alive. -/
namespace Go.Proofs.YtolegmlfmlfbhaaDoor
open Go.RowKit Go.Maps
def rw5 (L : List CR) : List Value := L.flatMap fun c => [.int .u8 c.k, .string c.nm, .string c.tx, .int .i64 c.n, .int .i64 c.m]
theorem rw5_nil : rw5 [] = [] := rfl
theorem rw5_cons (c : CR) (L : List CR) : rw5 (c :: L) = .int .u8 c.k :: .string c.nm :: .string c.tx :: .int .i64 c.n :: .int .i64 c.m :: rw5 L := rfl
theorem rw5_app (L M : List CR) : rw5 (L ++ M) = rw5 L ++ rw5 M := by unfold rw5; rw [List.flatMap_append]
theorem rw5_len : ∀ L : List CR, (rw5 L).length = L.length * 5
  | [] => rfl
  | c :: L => by rw [rw5_cons]; simp [rw5_len L]; omega
theorem rw5_at : ∀ (L : List CR) (i : Nat), i < L.length → (rw5 L)[i * 5]? = some (.int .u8 (gl L i).k) ∧ (rw5 L)[i * 5 + 1]? = some (.string (gl L i).nm) ∧ (rw5 L)[i * 5 + 2]? = some (.string (gl L i).tx) ∧ (rw5 L)[i * 5 + 3]? = some (.int .i64 (gl L i).n) ∧ (rw5 L)[i * 5 + 4]? = some (.int .i64 (gl L i).m)
  | [], i, h => by simp at h
  | c :: L, 0, h => by
    rw [rw5_cons]
    exact ⟨rfl, rfl, rfl, rfl, rfl⟩
  | c :: L, i + 1, h => by
    have ih := rw5_at L i (by simpa using h)
    rw [rw5_cons, show (i + 1) * 5 = i * 5 + 5 by omega]
    exact ih
theorem cv_of {w : World} {q n : Nat} {L : List CR} (hl : L.length = n) (hq : q < w.heap.size) (h : ∀ j, j < n * 5 → w.cell? ⟨q, j, none⟩ = (rw5 L)[j]?) : CV w (some ⟨q, 0, none⟩) n (gl L) := fun i hi => by
  obtain ⟨a0, a1, a2, a3, a4⟩ := rw5_at L i (by omega)
  exact ⟨q, 0, rfl, hq, by rw [Nat.zero_add, h _ (by omega)]; exact a0, by rw [Nat.zero_add, h _ (by omega)]; exact a1, by rw [Nat.zero_add, h _ (by omega)]; exact a2, by rw [Nat.zero_add, h _ (by omega)]; exact a3, by rw [Nat.zero_add, h _ (by omega)]; exact a4⟩
theorem cv_block {w : World} {q : Nat} {cs : Array Value} {t : TypeId} {L : List CR} (hb : w.heap[q]? = some (.cells cs t)) (hc : cs.toList = rw5 L) : CV w (some ⟨q, 0, none⟩) L.length (gl L) :=
  cv_of rfl (Array.getElem?_eq_some_iff.1 hb).1 fun j hj => by
    unfold World.cell?
    rw [hb, ← hc, Array.getElem?_toList]
    rfl
theorem own_cv {w : World} {B n : Nat} {v : Value} {L : List CR} (hl : L.length = n) (h : w.ownsRow B 34 5 v n (rw5 L)) : ∃ ad cap, v = .slice ad n cap ∧ CV w ad n (gl L) ∧ (∀ b off, ad = some ⟨b, off, none⟩ → B ≤ b) ∧ (n = 0 → ad = none ∨ True) := by
  rcases h.2 with ⟨rfl, hn⟩ | ⟨q, cap, cur, rfl, hg, hgg, h1, h2, h3, h4⟩
  · subst hn
    exact ⟨none, 0, rfl, fun i hi => by omega, fun b off e => by (cases e), fun _ => .inl rfl⟩
  · exact ⟨some ⟨q, 0, none⟩, cap, rfl, cv_of hl (Array.getElem?_eq_some_iff.1 hgg).1 (fun j hj => h.cellAt j hj), fun b off e => by (cases e; exact hg), fun _ => .inr trivial⟩
def fiveL : List CR := [⟨7, ⟨#[]⟩, ⟨#[]⟩, 0, 2⟩, ⟨2, ⟨#[97]⟩, ⟨#[]⟩, 1, 0⟩, ⟨6, ⟨#[98]⟩, ⟨#[]⟩, 0, 2⟩, ⟨0, ⟨#[]⟩, ⟨#[]⟩, 0, 0⟩, ⟨3, ⟨#[]⟩, ⟨#[120]⟩, 0, 0⟩]
theorem five_ck : ckC (gl fiveL) 5 = true := by decide +kernel
theorem five_cw : CW 5 (gl fiveL) := by
  intro i hi
  rcases (by omega : i = 0 ∨ i = 1 ∨ i = 2 ∨ i = 3 ∨ i = 4) with rfl | rfl | rfl | rfl | rfl <;> exact ⟨by decide, by decide, by decide, by decide, by decide⟩
end Go.Proofs.YtolegmlfmlfbhaaDoor
/- Layer 3: alive. -/
namespace Go.Proofs.YtolegmlfmlfbhaaDoor
open Go.RowKit Go.Maps
end Go.Proofs.YtolegmlfmlfbhaaDoor
/- Layer 3: append onto a row that is kept; CellNames. -/
namespace Go.Proofs.YtolegmlfmlfbhaaDoor
open Go.RowKit Go.Maps
section
variable {P : Program}
theorem own_part {w : World} {base : Nat} {e : TypeId} {size g n m cap : Nat} {xs news : List Value} (hx : xs.length = n * size) (h : w.ownsRow base e size (.slice (some ⟨g, 0, none⟩) (n + m) cap) (n + m) (xs ++ news)) : w.ownsRow base e size (.slice (some ⟨g, 0, none⟩) n cap) n xs := by
  refine ⟨hx, ?_⟩
  rcases h.2 with ⟨h', _⟩ | ⟨g', cap', cur, h', hb, hg, h1, h2, h3, h4⟩
  · simp at h'
  · simp only [Value.slice.injEq, Option.some.injEq, Addr.mk.injEq, and_true, true_and] at h'
    obtain ⟨rfl, rfl⟩ := h'
    refine .inr ⟨g, cap, cur, rfl, hb, hg, by omega, h2, h3, ?_⟩
    have : cur.toList.take (n * size) = (cur.toList.take ((n + m) * size)).take (n * size) := by
      rw [List.take_take, Nat.min_eq_left (Nat.mul_le_mul_right _ (by omega))]
    rw [this, h4, ← hx, List.take_left]
theorem run_append_keep (w : World) (base : Nat) (t ty e : TypeId) (i : TypeInfo) (z : Value) (size bytes : Nat) (ht : P.underlying t = some (.slice e)) (hi : P.info? e = some i) (hz : i.zero = some z)
    (hsize : i.size = size) (hby : i.bytes = bytes) (hzs : z.cells.size = size) (hsz : 0 < size)
    (v : Value) (n : Nat) (xs : List Value) (hown : w.ownsRow base e size v n xs) (hn0 : 0 < n)
    (a : Addr) (m c : Nat) (news : List Value) (hl : news.length = m * size) (hnews : ∀ j u, news[j]? = some u → w.cell? (a.add j) = some u) (h1 : ∀ u ∈ news, u.oneCell' = true)
    (h63 : n + m ≤ maxLen) (hbytes : (n + m) * bytes ≤ 140737488355328) (hbase : base ≤ w.heap.size) :
    ∃ v' w', (Builtin.append_ #[t, t] ty #[v, .slice (some a) m c]).run P w = .ok v' w' ∧ w'.ownsRow base e size v' (n + m) (xs ++ news) ∧ w'.ownsRow base e size v n xs ∧ w.grownBy w' v.ownBlock := by
  rcases hown.2 with ⟨_, h0⟩ | ⟨g, cap, cur, rfl, hbg, hg, hnc, hcm, hcs, htake⟩
  · omega
  · by_cases hr : n + m ≤ cap
    · obtain ⟨w', r1, r2, r3⟩ := run_append_fits (P := P) w base t ty e i size ht hi hsize g n cap xs hown a m c news hl hnews h1 hr
      exact ⟨_, w', r1, r2, own_part hown.1 r2, by simpa [Value.ownBlock] using r3⟩
    · obtain ⟨v', w', r1, r2, r3⟩ := run_append_arg_grows (P := P) w t ty e i z size bytes ht hi hz hsize hby hzs hsz ⟨g, 0, none⟩ n cap xs hown.1 (fun j u hj => by
        rw [Addr.add_lit, Nat.zero_add, hown.cellAt j (by rw [← hown.1]; exact (List.getElem?_eq_some_iff.1 hj).1)]; exact hj) a m c news hl hnews (by omega) h63 hbytes
      refine ⟨v', w', r1, ?_, hown.kept r3 (.inr (by simp [Value.ownBlock])), ⟨r3.os, r3.tape, r3.output, r3.size, fun k hk _ => r3.block k hk (by simp)⟩⟩
      refine ⟨r2.1, ?_⟩
      rcases r2.2 with h | ⟨g', cap', cur', e', hb', rest⟩
      · exact .inl h
      · exact .inr ⟨g', cap', cur', e', Nat.le_trans hbase hb', rest⟩
theorem wpList_append_keep {w : World} {ops : Array Oper} {rest : List Oper} {o : Oper} {a : Act} {Q : Exit → Act → World → Prop} (hgd : Region.wanted o (yielded ops a.tmps) = true)
    (s x : Operand) (t : TypeId) (hop : o.op = Op.call { callee := Callee.builtin Builtin.append, args := #[s, x], argTypes := #[t, t] })
    (base : Nat) (e : TypeId) (i : TypeInfo) (z : Value) (size bytes : Nat) (ht : P.underlying t = some (.slice e)) (hi : P.info? e = some i) (hz : i.zero = some z)
    (hsize : i.size = size) (hby : i.bytes = bytes) (hzs : z.cells.size = size) (hsz : 0 < size)
    (v : Value) (n : Nat) (xs : List Value) (hs : a.eval s = v) (hown : w.ownsRow base e size v n xs) (hn0 : 0 < n)
    (ad : Addr) (m c : Nat) (news : List Value) (hx : a.eval x = .slice (some ad) m c) (hl : news.length = m * size) (hnews : ∀ j u, news[j]? = some u → w.cell? (ad.add j) = some u) (h1 : ∀ u ∈ news, u.oneCell' = true)
    (h63 : n + m ≤ maxLen) (hbytes : (n + m) * bytes ≤ 140737488355328) (hbase : base ≤ w.heap.size)
    (hK : ∀ v' w', w'.ownsRow base e size v' (n + m) (xs ++ news) → w'.ownsRow base e size v n xs → w.grownBy w' v.ownBlock → wpList P ops Q rest (a.put o.dst v') w') :
    wpList P ops Q (o :: rest) a w := by
  refine wpList_step fun K hK' => ?_
  rw [if_pos hgd]
  obtain ⟨v', w', hrun, r1, r2, r3⟩ := run_append_keep (P := P) w base t o.type e i z size bytes ht hi hz hsize hby hzs hsz v n xs hown hn0 ad m c news hl hnews h1 h63 hbytes hbase
  unfold Oper.wp
  simp [execOp, hop, resolve, invoke, builtin, hs, hx, hrun, Result.andThen]
  exact hK' _ _ (hK v' w' r1 r2 r3)
end
theorem infoC : ∃ i, Tryd.prog.info? 34 = some i ∧ i.zero = some (.agg #[.int .u8 0, .string ⟨#[]⟩, .string ⟨#[]⟩, .int .i64 0, .int .i64 0]) ∧ i.size = 5 ∧ i.bytes = 56 := by
  have h := Tryd.typeInfo34 default
  unfold typeInfo at h
  cases hq : Tryd.prog.info? 34 with
  | none => simp [hq] at h
  | some i =>
    simp [hq] at h
    exact ⟨i, rfl, by rw [h]; rfl, by rw [h]; rfl, by rw [h]; rfl⟩
def c6 : CR := ⟨6, ⟨#[]⟩, ⟨#[]⟩, 0, 1⟩
def c0 : CR := ⟨0, ⟨#[]⟩, ⟨#[]⟩, 0, 0⟩
def c60 : CR := ⟨6, ⟨#[]⟩, ⟨#[]⟩, 0, 0⟩
def deepL (i : Nat) : List CR := List.replicate i c6
theorem deep_succ (i : Nat) : rw5 (deepL (i + 1)) = rw5 (deepL i) ++ [.int .u8 6, .string ⟨#[]⟩, .string ⟨#[]⟩, .int .i64 0, .int .i64 1] := by
  unfold deepL
  rw [List.replicate_succ', rw5_app]; rfl
theorem cw_small {L : List CR} {n : Nat} (hn : n = L.length) (h : ∀ c ∈ L, c.k < 256 ∧ c.nm.size ≤ maxLen ∧ c.tx.size ≤ 1000000 ∧ -9223372036854775808 ≤ c.m ∧ c.m ≤ 9223372036854775807) : CW n (gl L) := fun i hi => by
  have : gl L i ∈ L := by
    unfold gl
    rw [List.getD_eq_getElem?_getD, List.getElem?_eq_getElem (by omega)]
    exact List.getElem_mem _
  exact h _ this
theorem c6_ok : c6.k < 256 ∧ c6.nm.size ≤ maxLen ∧ c6.tx.size ≤ 1000000 ∧ -9223372036854775808 ≤ c6.m ∧ c6.m ≤ 9223372036854775807 := by refine ⟨?_, ?_, ?_, ?_, ?_⟩ <;> decide
theorem c0_ok : c0.k < 256 ∧ c0.nm.size ≤ maxLen ∧ c0.tx.size ≤ 1000000 ∧ -9223372036854775808 ≤ c0.m ∧ c0.m ≤ 9223372036854775807 := by refine ⟨?_, ?_, ?_, ?_, ?_⟩ <;> decide
theorem c60_ok : c60.k < 256 ∧ c60.nm.size ≤ maxLen ∧ c60.tx.size ≤ 1000000 ∧ -9223372036854775808 ≤ c60.m ∧ c60.m ≤ 9223372036854775807 := by refine ⟨?_, ?_, ?_, ?_, ?_⟩ <;> decide
end Go.Proofs.YtolegmlfmlfbhaaDoor
/- Layer 3: how large cells are; whether two rows are the same. -/
namespace Go.Proofs.YtolegmlfmlfbhaaDoor
open Go.RowKit Go.Maps
def bigC (c : CR) : Bool := decide (300 < c.nm.size) || decide (3000 < c.tx.size)
def grP (g : Nat → CR) (n most : Nat) : Bool := decide (most < n) || (List.range n).any fun i => bigC (g i)
theorem gr_big {g : Nat → CR} {n most i : Nat} (hi : i < n) (h : bigC (g i) = true) : grP g n most = true := by
  unfold grP
  rw [Bool.or_eq_true]
  exact .inr (List.any_eq_true.2 ⟨i, List.mem_range.2 hi, h⟩)
theorem gr_no {g : Nat → CR} {n most : Nat} (hn : n ≤ most) (h : ∀ j, j < n → bigC (g j) = false) : grP g n most = false := by
  unfold grP
  rw [Bool.or_eq_false_iff]
  refine ⟨by simpa using hn, ?_⟩
  rw [List.any_eq_false]
  intro i hi
  rw [h i (List.mem_range.1 hi)]
  simp
theorem gr_small {g : Nat → CR} {n most : Nat} (h : grP g n most = false) : n ≤ most ∧ ∀ i, i < n → (g i).nm.size ≤ 300 ∧ (g i).tx.size ≤ 3000 := by
  unfold grP at h
  rw [Bool.or_eq_false_iff] at h
  refine ⟨by simpa using h.1, fun i hi => ?_⟩
  have := (List.any_eq_false.1 h.2) i (List.mem_range.2 hi)
  unfold bigC at this
  simp only [Bool.or_eq_true, decide_eq_true_eq, not_or, Nat.not_lt] at this
  exact this
set_option maxRecDepth 20000 in
set_option maxHeartbeats 1000000 in
theorem great_any (a : Option Addr) (n cap most : Nat) (mv : Int) (hmv : mv = (most : Nat)) (g : Nat → CR) (w : World) (hv : CV w a n g) (hn : n ≤ maxLen) (hm : most ≤ 1000000) : Calls Tryd.prog 4 #[.slice a n cap, .int .i64 mv] w fun r w' => r = .returned (.bool (grP g n most)) ∧ w' = w := by
  subst hmv
  unfold maxLen at hn
  obtain ⟨x, hx⟩ : ∃ x, x = grP g n most := ⟨_, rfl⟩
  rw [← hx]
  replace hx := Lib.hid hx
  have HV := Lib.hid hv
  clear hv
  have hn' : (n : Int) ≤ 9223372036854775807 := by omega
  have hm' : (most : Int) ≤ 1000000 := by omega
  go_enter Tryd.func4, Tryd.ntmps4
  go_wp2_with fail
  go_loop [5] (fun v5 => ∃ i : Nat, i ≤ n ∧ i ≤ most ∧ v5 = .int .i64 i ∧ Hid (∀ j, j < i → bigC (g j) = false)) (fun v5 => n - (intOf v5).toNat)
  case atStart => exact ⟨0, Nat.zero_le _, Nat.zero_le _, rfl, Lib.hid (fun j hj => by omega)⟩
  case round =>
    obtain ⟨i, hi, him, rfl, HN⟩ := hrel
    by_cases h1 : i < n
    · by_cases h2 : i < most
      · obtain ⟨b, off, rfl⟩ := HV.out.addr (by omega)
        obtain ⟨_, _, c1, c2, _, _⟩ := HV.out.at_ h1
        have hg1 : (i : Int) < n := by omega
        have hg0 : (0 : Int) ≤ i := by omega
        have hg2 : (i : Int) < most := by omega
        obtain ⟨nm, hnm⟩ : ∃ s, s = (g i).nm := ⟨_, rfl⟩
        obtain ⟨tx, htx⟩ : ∃ s, s = (g i).tx := ⟨_, rfl⟩
        rw [← hnm] at c1
        rw [← htx] at c2
        have hbc : Hid (bigC (g i) = (decide (300 < nm.size) || decide (3000 < tx.size))) := Lib.hid (by rw [hnm, htx]; rfl)
        clear hnm htx
        by_cases k1 : (300 : Int) < nm.size
        · have HX : Hid (x = true) := Lib.hid (by rw [hx.out]; exact gr_big h1 (by rw [hbc.out, decide_eq_true (show 300 < nm.size by omega)]; rfl))
          clear HN hbc
          go_wp2_with fail
          go_ret
          exact ⟨ret_bool HX.out.symm, rfl⟩
        · by_cases k2 : (3000 : Int) < tx.size
          · have HX : Hid (x = true) := Lib.hid (by rw [hx.out]; exact gr_big h1 (by rw [hbc.out, decide_eq_true (show 3000 < tx.size by omega)]; simp))
            clear HN hbc
            go_wp2_with fail
            go_ret
            exact ⟨ret_bool HX.out.symm, rfl⟩
          · have HN2 : Hid (∀ j, j < i + 1 → bigC (g j) = false) := Lib.hid (fun j hj => by
              by_cases e : j = i
              · subst e; rw [hbc.out, decide_eq_false (show ¬ 300 < nm.size by omega), decide_eq_false (show ¬ 3000 < tx.size by omega)]; rfl
              · exact HN.out j (by omega))
            clear HN hbc
            go_wp2_with fail
            go_round
            case rel => exact ⟨i + 1, by omega, by omega, by go_num, HN2⟩
            case measure => simp [intOf]; omega
      · have e2 : i = most := by omega
        subst e2
        have HX : Hid (x = true) := Lib.hid (by rw [hx.out]; unfold grP; rw [decide_eq_true h1]; rfl)
        have hg1 : (i : Int) < n := by omega
        have hg2 : ¬ (i : Int) < i := by omega
        clear HN
        go_wp2_with fail
        go_ret
        exact ⟨ret_bool HX.out.symm, rfl⟩
    · have e1 : i = n := by omega
      subst e1
      have HX : Hid (x = false) := Lib.hid (by rw [hx.out]; exact gr_no him HN.out)
      have hg1 : ¬ (i : Int) < i := by omega
      have hg2 : ¬ (most : Int) < i := by omega
      clear HN
      go_wp2_with fail
      go_ret
      exact ⟨ret_bool HX.out.symm, rfl⟩
end Go.Proofs.YtolegmlfmlfbhaaDoor
/- Layer 31, ServeWrites: what the document's code points of a text want besides. -/
namespace Go.Proofs.YtolegmlfmlfbhaaDoor
open Go.RowKit Go.Maps
theorem own_below {w w' : World} {B s n : Nat} {e : TypeId} {v : Value} {x : List Value} (h : w.ownsRow B e s v n x) (b : Below w.heap.size w w') : w'.ownsRow B e s v n x :=
  h.kept (row := none) ⟨b.os, b.tape, b.output, b.size, fun k hk _ => b.block k hk⟩ (Classical.em _)
theorem own_base {w : World} {B B' s n : Nat} {e : TypeId} {v : Value} {x : List Value} (h : w.ownsRow B e s v n x) (hb : B' ≤ B) : w.ownsRow B' e s v n x := by
  refine ⟨h.1, ?_⟩
  rcases h.2 with h | ⟨g', cap', cur, h', hb', rest⟩
  · exact .inl h
  · exact .inr ⟨g', cap', cur, h', Nat.le_trans hb hb', rest⟩
end Go.Proofs.YtolegmlfmlfbhaaDoor
/- The document's code points of a text: Next, Points (as in layer 1). -/
namespace Go.Proofs.YtolegmlfmlfbhaaDoor
open Go.RowKit
set_option maxRecDepth 20000 in
theorem ret3 {a b c d e f : Int} (h : a = b) (g : c = d) (k : e = f) : Ending.returned (.tuple #[.int .i64 a, .int .i64 c, .int .i64 e]) = .returned (.tuple #[.int .i64 b, .int .i64 d, .int .i64 f]) := by rw [h, g, k]
set_option maxRecDepth 20000 in
theorem rnext_any (s : ByteArray) (i : Int) (w : World) (hs : s.size ≤ 2000000) :
    Calls Tryd.prog 40 #[.string s, .int .i64 i] w fun e w' => e = .returned (.tuple #[.int .i64 (nxP s i), .int .i64 (nxN s i), .int .i64 (nxE s i)]) ∧ Below w.heap.size w w' := by
  have hm : s.size ≤ maxLen := by unfold maxLen; omega
  have HM := Lib.hid hm
  clear hm
  by_cases hin : 0 ≤ i ∧ i < s.size
  · obtain ⟨a, rfl⟩ := Int.eq_ofNat_of_zero_le hin.1
    have ha : a < s.size := by omega
    have HF := Lib.hid (fun z (h1 : 1 ≤ z) (h : tpI s (a : Int) z = true) => nx_found ha h1 h)
    have HX := Lib.hid (fun h => nx_lost ha h)
    have hge : ¬ (s.size : Int) ≤ (a : Int) := by omega
    clear hin
    go_enter Tryd.func40, Tryd.ntmps40
    go_wp2_with fail
    go_loopw [7] (fun zv wr => ∃ z : Nat, 1 ≤ z ∧ z ≤ 5 ∧ zv = .int .i64 z ∧ (∀ y, 1 ≤ y → y < z → tpI s (a : Int) y = false) ∧ Below w.heap.size w wr) (fun zv _ => 5 - (intOf zv).toNat)
    case atStart => exact ⟨1, by omega, by omega, rfl, fun y h1 h2 => by omega, Below.refl _ _⟩
    case round =>
      obtain ⟨z, hz1, hz5, rfl, hno, hb⟩ := hrel
      have HB := Lib.hid hb
      have HNO := Lib.hid hno
      clear hb hno
      by_cases hlt : z ≤ 4
      · have hlt' : (z : Int) ≤ 4 := by omega
        cases ho : tpI s (a : Int) z
        · have HO := Lib.hid ho
          have HN2 : Hid (∀ y, 1 ≤ y → y < z + 1 → tpI s (a : Int) y = false) := Lib.hid (fun y h1 h2 => by
            by_cases e : y = z
            · rw [e]; exact HO.out
            · exact HNO.out y h1 (by omega))
          clear ho
          go_wp2_with fail
          refine (one_any s a z _ _ rfl hz1 hlt HM.out (by omega) (by omega)).mono ?_
          rintro e w1 ⟨rfl, b1⟩
          rw [HO.out]
          have HB1 := Lib.hid (HB.out.trans (b1.mono HB.out.size))
          clear b1
          go_wp2_with fail
          go_roundw
          case rel => exact ⟨z + 1, by omega, by omega, by go_num, HN2.out, HB1.out⟩
          case measure => simp [intOf]; omega
        · have HO := Lib.hid ho
          have HR := Lib.hid (HF.out z hz1 ho)
          clear ho
          go_wp2_with fail
          refine (one_any s a z _ _ rfl hz1 hlt HM.out (by omega) (by omega)).mono ?_
          rintro e w1 ⟨rfl, b1⟩
          rw [HO.out]
          have HB1 := Lib.hid (HB.out.trans (b1.mono HB.out.size))
          clear b1
          go_wp2_with fail
          go_ret3
          exact ⟨ret3 HR.out.1.symm HR.out.2.1.symm HR.out.2.2.symm, HB1.out⟩
      · have HR := Lib.hid (HX.out (fun y h1 h2 => HNO.out y h1 (by omega)))
        have hlt' : ¬ (z : Int) ≤ 4 := by omega
        go_wp2_with fail
        go_ret3
        exact ⟨ret3 HR.out.1.symm HR.out.2.1.symm HR.out.2.2.symm, HB.out⟩
  · have HR : Hid (nxP s i = 0 ∧ nxN s i = 0 ∧ nxE s i = 2) := Lib.hid (by unfold nxP nxN nxE; rw [if_neg hin, if_neg hin, if_neg hin]; exact ⟨rfl, rfl, rfl⟩)
    by_cases h0 : i < 0
    · clear hin
      go_enter Tryd.func40, Tryd.ntmps40
      go_wp2_with fail
      go_ret3
      exact ⟨ret3 HR.out.1.symm HR.out.2.1.symm HR.out.2.2.symm, Below.refl _ _⟩
    · have h1 : (s.size : Int) ≤ i := by omega
      clear hin
      go_enter Tryd.func40, Tryd.ntmps40
      go_wp2_with fail
      go_ret3
      exact ⟨ret3 HR.out.1.symm HR.out.2.1.symm HR.out.2.2.symm, Below.refl _ _⟩
set_option maxRecDepth 20000 in
theorem nx_at {s : ByteArray} {a : Nat} (h : a < s.size) : nxP s a = decP s a ∧ nxN s a = decN s a ∧ nxE s a = if decIs s a then 0 else 10 := by
  unfold nxP nxN nxE
  rw [if_pos (by omega), if_pos (by omega), if_pos (by omega), Int.toNat_natCast]
  exact ⟨rfl, rfl, rfl⟩
set_option maxRecDepth 20000 in
theorem pts_end {v v' : Value} {g g' : Bool} (h : v = v') (k : g = g') : Ending.returned (.tuple #[v, .bool g]) = .returned (.tuple #[v', .bool g']) := by rw [h, k]
set_option maxRecDepth 20000 in
theorem rpoints_any (s : ByteArray) (w : World) (hs : s.size ≤ 2000000) :
    Calls Tryd.prog 33 #[.string s] w fun e w' => ∃ v, e = .returned (.tuple #[v, .bool (isTx s)]) ∧ Below w.heap.size w w' := by
  obtain ⟨i0, hi, hz0, hz1, hz2⟩ := infoI
  go_enter Tryd.func33, Tryd.ntmps33
  go_wp2_with fail
  go_loopg [4, 5] s.size (fun f v i wr => ∃ (a n : Nat), s.size - a ≤ f ∧ a ≤ s.size ∧ n ≤ a ∧ i = .int .i64 a ∧ txF s f a = isTx s ∧ (∃ xs, wr.ownsRow w.heap.size 3 1 v n xs) ∧ Below w.heap.size w wr)
  case atStart => exact ⟨0, 0, by omega, by omega, by omega, rfl, rfl, ⟨_, World.ownsRow_nil _ _ _ _⟩, Below.refl _ _⟩
  case round =>
    obtain ⟨a, n, hf, ha, hna, rfl, htx, ⟨xs, hown⟩, hb⟩ := hrel
    by_cases hlt : a < s.size
    · have hlt' : (a : Int) < (s.size : Int) := by omega
      rw [txF_step hlt hf] at htx
      have hnx := nx_at hlt
      have hsz := hb.size
      have HO := Lib.hid hown
      have HB := Lib.hid hb
      cases hd : decIs s a
      · rw [hd] at htx hnx
        simp at htx hnx
        have HT := Lib.hid htx
        have HE := Lib.hid hnx.2.2
        clear hown hb htx hnx hd
        go_wp2_with fail
        refine (rnext_any s a _ hs).mono ?_
        rintro e w1 ⟨rfl, b1⟩
        rw [HE.out]
        have HB1 := Lib.hid (HB.out.trans (b1.mono HB.out.size))
        clear b1
        go_wp2_with fail
        go_ret2
        exact ⟨_, pts_end rfl HT.out.symm, HB1.out⟩
      · have h0 := (decIs_lead hd).1
        have hin := dec_in hlt hd
        rw [hd] at htx hnx
        have hdn := decN_eq s a
        rw [hd] at hdn
        simp at hdn
        simp only [Bool.true_and] at htx
        have h4 := leadN_le (byt s a)
        have hn2 : nxN s a = leadN (byt s a) := by rw [hnx.2.1, hdn.1]
        have HE : Hid (nxE s a = 0) := Lib.hid (by rw [hnx.2.2]; rfl)
        obtain ⟨z, hz⟩ : ∃ z, z = leadN (byt s a) := ⟨_, rfl⟩
        rw [← hz] at h0 hin htx hn2 h4
        obtain ⟨p, hp⟩ : ∃ p, p = nxP s a := ⟨_, rfl⟩
        have HP := Lib.hid hp
        have HN := Lib.hid hn2
        have HT := Lib.hid htx
        have hxs : Hid (n + 1 ≤ 2000000) := Lib.hid (by omega)
        clear hown hb htx hnx hd hdn hn2 hz hp
        go_wp2_with fail
        refine (rnext_any s a _ hs).mono ?_
        rintro e w1 ⟨rfl, b1⟩
        rw [HE.out, HN.out, ← HP.out]
        have HB1 := Lib.hid (HB.out.trans (b1.mono HB.out.size))
        have HO1 := Lib.hid (own_below HO.out b1)
        have hsz1 : Hid (w.heap.size ≤ w1.heap.size + 1) := Lib.hid (by have := HB1.out.size; omega)
        clear b1
        go_wp2_with (at_builtin; refine wpList_append_own _ rfl _ _ 65 rfl w.heap.size 3 i0 (.int .i64 0) 1 8 Tryd.underlying65 hi hz0 hz1 hz2 rfl (by decide) _ n xs rfl (HO1.out.alloc _) ⟨w1.heap.size, 0, none⟩ 1 1 [.int .i64 p] rfl rfl (news_at _ _ _ _ rfl) (by intro u hu; simp at hu; subst hu; rfl) (by have := hxs.out; unfold maxLen; omega) (by have := hxs.out; omega) (by have := hsz1.out; simpa using this) ?_; intro v' w2 ho hg _)
        go_roundg (gk - 1)
        case rel =>
          refine ⟨a + z, n + 1, by omega, hin, by omega, by go_num, HT.out, ⟨_, ho⟩, (HB1.out.alloc HB1.out.size _).grown hg ?_ ?_⟩
          · have := hsz1.out; simpa using this
          · intro q hq; exact (HO1.out.lt q hq).1
        case measure => omega
    · obtain rfl : a = s.size := by omega
      rw [txF_end (Nat.le_refl _)] at htx
      have HT := Lib.hid htx
      have HB := Lib.hid hb
      clear htx hb hown
      go_wp2_with fail
      go_ret2
      exact ⟨_, pts_end rfl HT.out, HB.out⟩
end Go.Proofs.YtolegmlfmlfbhaaDoor
