/- Plain facts of layer 3: lists of cells; values put together under a head; a value cut out. No program in sight. -/
import Derived.Test.YtfmgkndljppffaaP2
namespace Go.Proofs.Ytfmgkndljppffaa
open Go.RowKit
def gl (L : List CR) (i : Nat) : CR := L.getD i default
def ckL (L : List CR) : Bool := ckC (gl L) L.length
/-- The cells, the first one's name aside. -/
def ren (s : ByteArray) : List CR → List CR
  | [] => []
  | c :: r => { c with nm := s } :: r
theorem ren_len (s : ByteArray) (l : List CR) : (ren s l).length = l.length := by cases l <;> rfl
theorem ren_at (s : ByteArray) (l : List CR) (t : Nat) (h : t < l.length) : (gl (ren s l) t).k = (gl l t).k ∧ (gl (ren s l) t).tx = (gl l t).tx ∧ (gl (ren s l) t).n = (gl l t).n ∧ (gl (ren s l) t).m = (gl l t).m ∧ (0 < t → (gl (ren s l) t).nm = (gl l t).nm) := by
  cases l with
  | nil => simp at h
  | cons c r =>
    cases t with
    | zero => exact ⟨rfl, rfl, rfl, rfl, fun h => by omega⟩
    | succ t => exact ⟨rfl, rfl, rfl, rfl, fun _ => rfl⟩
theorem ren_nm (s : ByteArray) (l : List CR) (h : 0 < l.length) : (gl (ren s l) 0).nm = s := by
  cases l with
  | nil => simp at h
  | cons c r => rfl
/-- Where the i-th of some lists begins, put one behind the other from a place on. -/
def st (a : Nat) (ls : List (List CR)) (i : Nat) : Nat := a + ((ls.take i).map List.length).sum
theorem st_zero (a : Nat) (ls : List (List CR)) : st a ls 0 = a := by simp [st]
theorem st_succ (a : Nat) (ls : List (List CR)) (i : Nat) (h : i < ls.length) : st a ls (i + 1) = st a ls i + ls[i].length := by
  unfold st
  rw [List.take_succ_eq_append_getElem h, List.map_append, List.sum_append]
  show a + (_ + (ls[i].length + 0)) = _
  omega
theorem st_all (a : Nat) (ls : List (List CR)) : st a ls ls.length = a + ls.flatten.length := by
  unfold st
  rw [List.take_length, List.length_flatten]
theorem flat_at : ∀ (ls : List (List CR)) (i t : Nat) (h : i < ls.length), t < ls[i].length → gl ls.flatten (st 0 ls i + t) = gl ls[i] t
  | [], i, t, h, _ => by simp at h
  | l :: ls, 0, t, h, ht => by
    have ht' : t < l.length := ht
    unfold gl st
    simp only [List.take_zero, List.map_nil, List.sum_nil, Nat.zero_add, List.flatten_cons, List.getElem_cons_zero]
    rw [List.getD_eq_getElem?_getD, List.getD_eq_getElem?_getD, List.getElem?_append_left ht']
  | l :: ls, i + 1, t, h, ht => by
    have h' : i < ls.length := by simpa using h
    have ht' : t < ls[i].length := by simpa using ht
    have ih := flat_at ls i t h' ht'
    have e : st 0 (l :: ls) (i + 1) = l.length + st 0 ls i := by simp [st]
    rw [e]
    unfold gl at ih ⊢
    simp only [List.flatten_cons, List.getElem_cons_succ]
    rw [← ih, List.getD_eq_getElem?_getD, List.getD_eq_getElem?_getD, List.getElem?_append_right (by omega)]
    congr 2
    omega
/-- Values (renamed) under a head. -/
def under (h : CR) (ls : List (List CR)) : List CR := h :: ls.flatten
theorem under_at (h : CR) (ls : List (List CR)) (i t : Nat) (hi : i < ls.length) (ht : t < ls[i].length) : gl (under h ls) (st 1 ls i + t) = gl ls[i] t := by
  rw [← flat_at ls i t hi ht]
  unfold under gl
  rw [show st 1 ls i + t = (st 0 ls i + t) + 1 by unfold st; omega]
  rfl
theorem under_len (h : CR) (ls : List (List CR)) : (under h ls).length = st 1 ls ls.length := by
  rw [st_all]; simp [under]; omega
theorem st_le (a : Nat) (ls : List (List CR)) : ∀ (d i : Nat), i + d ≤ ls.length → st a ls i ≤ st a ls (i + d)
  | 0, _, _ => Nat.le_refl _
  | d + 1, i, h => by
    have := st_le a ls d i (by omega)
    have := st_succ a ls (i + d) (by omega)
    rw [show i + (d + 1) = i + d + 1 by omega]
    omega
/-- Each of the values that were put together begins one where it stands. -/
theorem under_wk (h : CR) (vs ls : List (List CR)) (hl : ls.length = vs.length) (hr : ∀ i (h1 : i < ls.length) (h2 : i < vs.length), ∃ s, ls[i] = ren s vs[i]) (hv : ∀ i (h2 : i < vs.length), ckL vs[i] = true) :
    ∀ i, i < ls.length → wk (gl (under h ls)) (under h ls).length 16 (st 1 ls i) = some (st 1 ls (i + 1)) := by
  intro i hi
  have h2 : i < vs.length := by omega
  obtain ⟨s, es⟩ := hr i hi h2
  obtain ⟨k1, _, _, k4⟩ := ckC_parts (hv i h2)
  have el : ls[i].length = vs[i].length := by rw [es, ren_len]
  have e1 := st_succ 1 ls i hi
  have e2 := st_le 1 ls (ls.length - (i + 1)) (i + 1) (by omega)
  rw [show i + 1 + (ls.length - (i + 1)) = ls.length by omega] at e2
  have k := wk_shift (g1 := gl vs[i]) (n1 := vs[i].length) (s1 := 0) (g2 := gl (under h ls)) (n2 := (under h ls).length) (s2 := st 1 ls i) 16 0 vs[i].length (by simpa using k4) ?_ (by rw [under_len]; omega)
  · rw [Nat.zero_add] at k
    rw [k, e1, el, Nat.add_comm]
  · intro t _ ht
    have q := ren_at s vs[i] t ht
    rw [← es] at q
    have u := under_at h ls i t hi (by omega)
    rw [Nat.add_comm t (st 1 ls i), u, Nat.add_zero]
    exact ⟨q.1.symm, q.2.1.symm, q.2.2.1.symm, q.2.2.2.1.symm, fun hh => (q.2.2.2.2 (by rcases hh with e | e; cases e; exact e)).symm⟩
theorem under_bd (h : CR) (vs ls : List (List CR)) (hl : ls.length = vs.length) (hr : ∀ i (h1 : i < ls.length) (h2 : i < vs.length), ∃ s, ls[i] = ren s vs[i]) (hv : ∀ i (h2 : i < vs.length), ckL vs[i] = true) :
    ∀ i, i ≤ ls.length → bd (gl (under h ls)) (under h ls).length 1 i = st 1 ls i :=
  chain_bd 1 (st 1 ls) ls.length (under_wk h vs ls hl hr hv) (st_zero 1 ls)
/-- Cells from a place to another one. -/
def cut (g : Nat → CR) (a e : Nat) : List CR := (List.range (e - a)).map fun i => g (a + i)
theorem cut_len (g : Nat → CR) (a e : Nat) : (cut g a e).length = e - a := by simp [cut]
theorem cut_at (g : Nat → CR) (a e t : Nat) (h : t < e - a) : gl (cut g a e) t = g (a + t) := by
  unfold gl cut
  rw [List.getD_eq_getElem?_getD, List.getElem?_map, List.getElem?_range h]
  rfl
theorem em_eq {s : ByteArray} (h : em s = true) : s = ⟨#[]⟩ := by
  unfold em at h
  simp only [decide_eq_true_eq] at h
  exact ByteArray.ext (Array.eq_empty_of_size_eq_zero h)
/-- What is cut out of a value, without its name, is a value. -/
theorem sub_ck {g : Nat → CR} {n a e : Nat} (h : wk g n 16 a = some e) (hn : n ≤ 2048) : ckL (ren ⟨#[]⟩ (cut g a e)) = true := by
  have hl := wk_lt _ _ _ h
  have e1 : (ren ⟨#[]⟩ (cut g a e)).length = e - a := by rw [ren_len, cut_len]
  refine ckC_mk (by omega) (by omega) (by rw [ren_nm _ _ (by rw [cut_len]; omega)]; rfl) ?_
  rw [e1]
  have k := wk_shift (g1 := g) (n1 := n) (s1 := a) (g2 := gl (ren ⟨#[]⟩ (cut g a e))) (n2 := e - a) (s2 := 0) 16 0 (e - a) (by rw [Nat.zero_add, Nat.sub_add_cancel (by omega)]; exact h) ?_ (by omega)
  · simpa using k
  · intro t _ ht
    have q := ren_at ⟨#[]⟩ (cut g a e) t (by rw [cut_len]; exact ht)
    rw [cut_at g a e t ht, Nat.add_comm] at q
    rw [Nat.add_zero]
    exact ⟨q.1.symm, q.2.1.symm, q.2.2.1.symm, q.2.2.2.1.symm, fun hh => (q.2.2.2.2 (by rcases hh with w | w; cases w; exact w)).symm⟩
theorem ren_self {l : List CR} {s : ByteArray} (h : (gl l 0).nm = s) : ren s l = l := by
  cases l with
  | nil => rfl
  | cons c r =>
    have : c.nm = s := h
    unfold ren; rw [← this]
theorem ren_ren (s t : ByteArray) (l : List CR) : ren s (ren t l) = ren s l := by cases l <;> rfl
theorem gl_ext {L M : List CR} (h : L.length = M.length) (k : ∀ i, i < L.length → gl L i = gl M i) : L = M := by
  apply List.ext_getElem h
  intro i h1 h2
  have := k i h1
  unfold gl at this
  rw [List.getD_eq_getElem?_getD, List.getD_eq_getElem?_getD, List.getElem?_eq_getElem h1, List.getElem?_eq_getElem h2] at this
  exact this
/-- Sub of a value that was put in, where it stands, is that value. -/
theorem under_sub (h : CR) (vs ls : List (List CR)) (hl : ls.length = vs.length) (hr : ∀ i (h1 : i < ls.length) (h2 : i < vs.length), ∃ s, ls[i] = ren s vs[i]) (hv : ∀ i (h2 : i < vs.length), ckL vs[i] = true) (i : Nat) (hi : i < ls.length) (h2 : i < vs.length) :
    ren ⟨#[]⟩ (cut (gl (under h ls)) (st 1 ls i) (st 1 ls (i + 1))) = vs[i] := by
  obtain ⟨s, es⟩ := hr i hi h2
  obtain ⟨k1, _, k3, _⟩ := ckC_parts (hv i h2)
  have el : ls[i].length = vs[i].length := by rw [es, ren_len]
  have e1 := st_succ 1 ls i hi
  have ec : cut (gl (under h ls)) (st 1 ls i) (st 1 ls (i + 1)) = ls[i] := by
    refine gl_ext (by rw [cut_len]; omega) fun t ht => ?_
    rw [cut_len] at ht
    rw [cut_at _ _ _ _ ht, under_at h ls i t hi (by omega)]
  rw [ec, es, ren_ren]
  exact ren_self (em_eq k3)
/-- What is put together of a value's subs (renamed) is that value. -/
theorem parts_under {g : Nat → CR} {n a e : Nat} (h : wk g n 16 a = some e) (ls : List (List CR)) (hl : ls.length = (g a).m.toNat) (hs : ∀ i (h1 : i < ls.length), ls[i] = cut g (bd g n (a + 1) i) (bd g n (a + 1) (i + 1))) :
    under (g a) ls = cut g a e := by
  have hc := (wk_open (Nat.le_refl _) h).2.2.2
  obtain ⟨b1, b2⟩ := bd_chain _ _ _ hc
  have hl2 := wk_lt _ _ _ h
  have hst : ∀ i, i ≤ ls.length → st (a + 1) ls i = bd g n (a + 1) i := by
    intro i
    induction i with
    | zero => intro _; rw [st_zero]; rfl
    | succ i ih =>
      intro hi
      have q := ih (by omega)
      have w := wk_lt _ _ _ (b1 i (by omega))
      rw [st_succ _ _ _ (by omega), q, hs i (by omega), cut_len]
      omega
  have e0 : ls.flatten.length = e - (a + 1) := by
    have := hst ls.length (Nat.le_refl _)
    rw [st_all, hl, b2] at this
    omega
  have e3 : (under (g a) ls).length = ls.flatten.length + 1 := rfl
  refine gl_ext (by rw [cut_len, e3]; omega) fun t ht => ?_
  have ht' : t < e - a := by rw [e3] at ht; omega
  rw [cut_at _ _ _ _ ht']
  cases t with
  | zero => rfl
  | succ t =>
    -- which of them
    have key : ∀ (i : Nat), i ≤ ls.length → ∀ t, a + 1 + t < bd g n (a + 1) i → gl ls.flatten t = g (a + 1 + t) := by
      intro i
      induction i with
      | zero => intro _ t hq; exact absurd hq (by show ¬ (a + 1 + t < a + 1); omega)
      | succ i ih =>
        intro hi t hq
        by_cases hlt : a + 1 + t < bd g n (a + 1) i
        · exact ih (by omega) t hlt
        · have q := hst i (by omega)
          have q0 : st 0 ls i + (a + 1) = bd g n (a + 1) i := by rw [← q]; unfold st; omega
          have lt : t - st 0 ls i < ls[i].length := by rw [hs i (by omega), cut_len]; omega
          have f := flat_at ls i (t - st 0 ls i) (by omega) lt
          rw [show st 0 ls i + (t - st 0 ls i) = t by omega] at f
          rw [f, hs i (by omega), cut_at _ _ _ _ (by omega)]
          congr 1
          omega
    have := key ls.length (Nat.le_refl _) t (by rw [hl, b2]; omega)
    show gl ls.flatten t = _
    rw [this]
    congr 1
    omega
end Go.Proofs.Ytfmgkndljppffaa
